/- The model: the parts of the links after some have been fired. Made by mkpba.py out of PbA.src. -/
import Derived.Test.YtfdpkhiiboghiaaGreatDoorJPaM
import Derived.Test.YtfdpkhiiboghiaaGreatDoorJQPaF
import Derived.Deep.RegionHeldLaw
import Derived.Deep.DeepCutAuto
import Derived.BigQuiet
namespace Go.Proofs.YtfdpkhiiboghiaaGreatDoor
set_option linter.unusedSimpArgs false
set_option linter.unusedVariables false
set_option linter.unusedSimpArgs false
set_option linter.unusedVariables false
open Go.ChangeAt Go.ChangeShapes Go.RowKit Go.WideShapes

theorem from_lxP {N : Nt} (hv : valN N = true) (x : Int) : firstN (srcB x) N.l = lxN outL N x := first_ext fun l hl => srcB_is (fitsN_kind ((List.all_eq_true.1 (valN_fits hv)) l hl))
/-- The parts of the links as a row. -/
def lkL (N : Nt) (fs : List Int) : List Int := (List.range N.l.length).map fun k => qN N fs k
theorem lkL_len (N : Nt) (fs : List Int) : (lkL N fs).length = N.l.length := by simp [lkL]
theorem lkL_at {N : Nt} {fs : List Int} {k : Nat} (h : k < N.l.length) : (lkL N fs).getD k 0 = qN N fs k := by simp [lkL, List.getD, h]
theorem lkL_nil (N : Nt) : lkL N [] = List.replicate N.l.length (-1) := by
  unfold lkL
  rw [show (fun k => qN N [] k) = fun _ => (-1 : Int) from rfl]
  apply List.ext_getElem?
  intro i
  by_cases hi : i < N.l.length
  · rw [List.getElem?_map, List.getElem?_range hi, List.getElem?_replicate, if_pos hi]; rfl
  · rw [List.getElem?_eq_none (by simp; omega), List.getElem?_eq_none (by simp; omega)]
/-- Two parts renamed. -/
def rn2 (P : List Int) (x a b : Int) : List Int := P.map fun p => if p = a ∨ p = b then x else p
theorem rn2_len (P : List Int) (x a b : Int) : (rn2 P x a b).length = P.length := by simp [rn2]
theorem rn2_at {P : List Int} {x a b : Int} {i : Nat} (h : i < P.length) : (rn2 P x a b).getD i 0 = if P.getD i 0 = a ∨ P.getD i 0 = b then x else P.getD i 0 := by simp [rn2, List.getD, h]
theorem lkL_ax {N : Nt} {fs : List Int} {f : Nat} (hf : f < N.l.length) (h1 : (N.l.getD f Lk.nil).k = 1) : (lkL N fs).set f (f : Int) = lkL N (fs ++ [(f : Int)]) := by
  apply List.ext_getElem?
  intro i
  by_cases hi : i < N.l.length
  · have e : ((lkL N fs).set f (f : Int)).getD i 0 = (lkL N (fs ++ [(f : Int)])).getD i 0 := by
      rw [setI_at (by rw [lkL_len]; exact hf), lkL_at hi, lkL_at hi, qN_snoc, Int.toNat_natCast]
      unfold fireQ
      rw [if_pos h1]
    have l1 : i < ((lkL N fs).set f (f : Int)).length := by rw [List.length_set, lkL_len]; exact hi
    have l2 : i < (lkL N (fs ++ [(f : Int)])).length := by rw [lkL_len]; exact hi
    simp only [List.getD, List.getElem?_eq_getElem l1, List.getElem?_eq_getElem l2, Option.getD_some] at e
    rw [List.getElem?_eq_getElem l1, List.getElem?_eq_getElem l2, e]
  · rw [List.getElem?_eq_none (by rw [List.length_set, lkL_len]; omega), List.getElem?_eq_none (by rw [lkL_len]; omega)]
theorem lkL_two {N : Nt} {fs : List Int} {f : Nat} {a b x : Int} (hf : f < N.l.length) (h1 : ¬ (N.l.getD f Lk.nil).k = 1) (ha : qN N fs (frN N (N.l.getD f Lk.nil).a) = a) (hb : qN N fs (frN N (N.l.getD f Lk.nil).b) = b) (hx : min (f : Int) (min a b) = x) : (rn2 (lkL N fs) x a b).set f x = lkL N (fs ++ [(f : Int)]) := by
  apply List.ext_getElem?
  intro i
  by_cases hi : i < N.l.length
  · have e : ((rn2 (lkL N fs) x a b).set f x).getD i 0 = (lkL N (fs ++ [(f : Int)])).getD i 0 := by
      rw [setI_at (by rw [rn2_len, lkL_len]; exact hf), rn2_at (by rw [lkL_len]; exact hi), lkL_at hi, lkL_at hi, qN_snoc, Int.toNat_natCast]
      unfold fireQ
      rw [if_neg h1, ha, hb, hx]
      by_cases e1 : i = f
      · rw [if_pos e1, if_pos (.inl e1)]
      · rw [if_neg e1]
        simp only [e1, false_or]
    have l1 : i < ((rn2 (lkL N fs) x a b).set f x).length := by rw [List.length_set, rn2_len, lkL_len]; exact hi
    have l2 : i < (lkL N (fs ++ [(f : Int)])).length := by rw [lkL_len]; exact hi
    simp only [List.getD, List.getElem?_eq_getElem l1, List.getElem?_eq_getElem l2, Option.getD_some] at e
    rw [List.getElem?_eq_getElem l1, List.getElem?_eq_getElem l2, e]
  · rw [List.getElem?_eq_none (by rw [List.length_set, rn2_len, lkL_len]; omega), List.getElem?_eq_none (by rw [lkL_len]; omega)]
/-- A row of which the first j elements have been renamed. -/
def Ren2 (P : List Int) (x a b : Int) (j : Nat) (Q : List Int) : Prop := Q.length = P.length ∧ (∀ i, i < j → i < P.length → Q.getD i 0 = (rn2 P x a b).getD i 0) ∧ ∀ i, j ≤ i → i < P.length → Q.getD i 0 = P.getD i 0
theorem Ren2.zero (P : List Int) (x a b : Int) : Ren2 P x a b 0 P := ⟨rfl, fun i hi => absurd hi (by omega), fun _ _ _ => rfl⟩
theorem Ren2.hit {P Q : List Int} {x a b : Int} {j : Nat} (h : Ren2 P x a b j Q) (hj : j < P.length) (e : Q.getD j 0 = a ∨ Q.getD j 0 = b) : Ren2 P x a b (j + 1) (Q.set j x) := by
  obtain ⟨h1, h2, h3⟩ := h
  have e2 := h3 j (Nat.le_refl _) hj
  refine ⟨by rw [List.length_set, h1], fun i hi hl => ?_, fun i hi hl => ?_⟩
  · rw [setI_at (by omega)]
    by_cases q : i = j
    · subst q; rw [if_pos rfl, rn2_at hj, if_pos (by rw [← e2]; exact e)]
    · rw [if_neg q]; exact h2 i (by omega) hl
  · rw [setI_at (by omega), if_neg (by omega)]; exact h3 i (by omega) hl
theorem Ren2.miss {P Q : List Int} {x a b : Int} {j : Nat} (h : Ren2 P x a b j Q) (hj : j < P.length) (e : ¬ (Q.getD j 0 = a ∨ Q.getD j 0 = b)) : Ren2 P x a b (j + 1) Q := by
  obtain ⟨h1, h2, h3⟩ := h
  have e2 := h3 j (Nat.le_refl _) hj
  refine ⟨h1, fun i hi hl => ?_, fun i hi hl => h3 i (by omega) hl⟩
  by_cases q : i = j
  · subst q; rw [rn2_at hj, e2, if_neg (by rw [← e2]; exact e)]
  · exact h2 i (by omega) hl
theorem Ren2.done {P Q : List Int} {x a b : Int} (h : Ren2 P x a b P.length Q) : Q = rn2 P x a b := by
  obtain ⟨h1, h2, _⟩ := h
  have hr := rn2_len P x a b
  refine List.ext_getElem? fun i => ?_
  by_cases hi : i < P.length
  · have e := h2 i hi hi
    have q1 : i < Q.length := by omega
    have q2 : i < (rn2 P x a b).length := by omega
    simp only [List.getD, List.getElem?_eq_getElem q1, List.getElem?_eq_getElem q2, Option.getD_some] at e
    rw [List.getElem?_eq_getElem q1, List.getElem?_eq_getElem q2, e]
  · rw [List.getElem?_eq_none (by omega), List.getElem?_eq_none (by omega)]
theorem own_intP {w : World} {base g n c : Nat} {xs : List Int} (h : w.ownsRow base 2 1 (.slice (some ⟨g, 0, none⟩) n c) n (xs.map (Value.int .i64))) {i : Nat} (hi : i < n) : w.cell? ⟨g, i, none⟩ = some (.int .i64 (xs.getD i 0)) := by
  have hl := h.1
  rw [List.length_map, Nat.mul_one] at hl
  rw [h.cellAt (g := g) i (by omega), List.getElem?_map]
  have : i < xs.length := by omega
  simp [List.getD, this]
theorem own_shapeL {w : World} {base n : Nat} {e : TypeId} {v : Value} {xs : List Value} (h : w.ownsRow base e 1 v n xs) : ∃ A c, v = .slice A n c := by
  rcases h.2 with ⟨rfl, rfl⟩ | ⟨g, cap, cur, rfl, _, _, hn, _⟩
  · exact ⟨_, _, rfl⟩
  · exact ⟨_, _, rfl⟩
set_option maxRecDepth 100000 in
set_option maxHeartbeats 2000000 in
theorem sLinks_any (h : NH) (N : Nt) (fs : List Int) (FA : Option Addr) (fc : Nat) (w : World) (hv : valN N = true) (hF : isF N fs = true) (r : RdN w w.heap.size h N) (rF : RdI w w.heap.size FA fs.length fs) :
    Calls Tryz.prog 162 #[.agg #[.slice h.A N.w.length h.c, .slice h.L N.l.length h.d, .slice h.C N.c.length h.e], .slice FA fs.length fc] w (Gives w (lkL N fs)) := by
  obtain ⟨h48, h48l⟩ := valN_size hv
  have hfl := (isF_ok hF).len
  obtain ⟨i0, hi0, hz0, hz1, hz2⟩ := info_parts info_i64
  have HI := Lib.hid hi0; have HZ0 := Lib.hid hz0; have HZ1 := Lib.hid hz1; have HZ2 := Lib.hid hz2
  obtain ⟨w0, hw0⟩ : ∃ w0, w0 = w.alloc (.cells #[.slice h.A N.w.length h.c, .slice h.L N.l.length h.d, .slice h.C N.c.length h.e] 30) := ⟨_, rfl⟩
  obtain ⟨hb, hh, hsz⟩ := box3_any w (.slice h.A N.w.length h.c) (.slice h.L N.l.length h.d) (.slice h.C N.c.length h.e) 30
  rw [← hw0] at hb hh hsz
  have hs0 : w.heap.size + 1 ≤ w0.heap.size := by omega
  have HK : Hid (∀ w', Below w0.heap.size w0 w' → w'.cell? ⟨w.heap.size, 0, none⟩ = some (.slice h.A N.w.length h.c) ∧ w'.cell? ⟨w.heap.size, 1, none⟩ = some (.slice h.L N.l.length h.d) ∧ w'.cell? ⟨w.heap.size, 2, none⟩ = some (.slice h.C N.c.length h.e)) := Lib.hid fun w' hw => three_cells ((hw.block _ (by omega)).trans hh)
  have HFR := Lib.hid (fun (x : Int) (w' : World) (hw : Below w0.heap.size w0 w') => smFrom_any h.A h.L h.C N.w.length h.c h.d N.c.length h.e N.l x w' (((r.below (hb.trans (hw.mono hb.size))).more (Nat.le_trans hb.size hw.size))).2.1 (by omega))
  have HRF := Lib.hid (fun (w' : World) (hw : Below w0.heap.size w0 w') => show RdI w' w0.heap.size FA fs.length fs from ((rF.below hb).more hb.size).below hw)
  have HRL := Lib.hid (fun (w' : World) (hw : Below w0.heap.size w0 w') => show RdL w' w0.heap.size h.L N.l.length N.l from ((r.2.1.below hb).more hb.size).below hw)
  have HB0 := Lib.hid hb
  have HOK := Lib.hid (fun (k : Nat) (hk : k < fs.length) => isF_at hF hk)
  have HQK := Lib.hid (fun (k : Nat) (hk : k ≤ fs.length) => isF_take hk fun j hj => isF_at hF (show j < fs.length by omega))
  have HVV := Lib.hid hv
  have hg0 : w0.heap.size = w.heap.size + 1 := by omega
  have h0 : (w0.alloc (.cells #[] 2)).ownsRow w0.heap.size 2 1 (.slice (some ⟨w.heap.size + 1, 0, none⟩) 0 0) 0 ((List.replicate 0 (-1 : Int)).map (Value.int .i64)) := by rw [← hg0]; exact World.ownsRow_made w0 #[] 0 (Nat.le_refl _) (by simp [maxLen]) rfl
  have hb1 : Below w0.heap.size w0 (w0.alloc (.cells #[] 2)) := (Below.refl _ _).alloc (Nat.le_refl _) _
  have H0 := Lib.hid h0; have HB1 := Lib.hid hb1
  clear hb hh hsz r rF hi0 hz0 hz1 hz2 h0 hb1 hg0 hF hv
  go_enter Tryz.func162, Tryz.ntmps162
  go_wp2
  rw [← hw0]
  clear hw0
  go_loopw [5, 6] (fun v i wx => ∃ k : Nat, k ≤ N.l.length ∧ i = .int .i64 k ∧ wx.ownsRow w0.heap.size 2 1 v k ((List.replicate k (-1 : Int)).map (Value.int .i64)) ∧ Below w0.heap.size w0 wx) (fun _ i _ => N.l.length - (intOf i).toNat)
  case atStart => exact ⟨0, Nat.zero_le _, rfl, H0.out, HB1.out⟩
  case round =>
    obtain ⟨k, hk, rfl, hO, hB⟩ := hrel
    clear H0 HB1
    obtain ⟨y0, y1, y2⟩ := HK.out _ hB
    have HO := Lib.hid hO; have HB := Lib.hid hB
    clear hO hB
    by_cases hlt : k < N.l.length
    · have hsz1 := HB.out.size
      have HS : Hid (List.replicate (k + 1) (-1 : Int) = List.replicate k (-1) ++ [-1]) := Lib.hid (by rw [List.replicate_succ'])
      go_wp2_with (at_builtin; refine wpList_append_own _ rfl _ _ 24 rfl w0.heap.size 2 i0 (.int .i64 0) 1 8 Tryz.underlying24 HI.out HZ0.out HZ1.out HZ2.out rfl (by decide) _ _ _ rfl (HO.out.alloc _) ⟨wr.heap.size, 0, none⟩ 1 1 [.int .i64 (-1)] rfl rfl ?c1 ?c2 ?c3 ?c4 ?c5 ?_)
      case c1 => exact cell_one_new _ _ _
      case c2 => intro u hu; simp at hu; subst hu; rfl
      case c3 => unfold maxLen; omega
      case c4 => omega
      case c5 => simp; omega
      intro v' w2 hown' hgrow _
      have hb2 := Lib.hid ((HB.out.alloc hsz1 (.cells #[.int .i64 (-1)] 2)).grown hgrow (by simp; omega) (fun q hq => (HO.out.lt q hq).1))
      have hown2 : w2.ownsRow w0.heap.size 2 1 v' (k + 1) ((List.replicate (k + 1) (-1 : Int)).map (Value.int .i64)) := by
        rw [HS.out, List.map_append, List.map_replicate]; exact hown'
      have hown1 := Lib.hid hown2
      clear hown' hgrow hown2 hsz1
      go_wp2
      go_roundw
      case rel => exact ⟨k + 1, by omega, by go_num, hown1.out, hb2.out⟩
      case measure => simp [intOf]; omega
    · have hkn : k = N.l.length := by omega
      have ho1 := HO.out
      rw [hkn, ← lkL_nil] at ho1
      obtain ⟨A, c, rfl⟩ := own_shapeL ho1
      subst hkn
      have O1 := Lib.hid ho1; have B1 := HB
      clear HO ho1 HI HZ0 HZ1 HZ2
      go_wp2
      go_loopw [7] (fun i wx => ∃ k : Nat, k ≤ fs.length ∧ i = .int .i64 k ∧ wx.ownsRow w0.heap.size 2 1 (.slice A N.l.length c) N.l.length ((lkL N (fs.take k)).map (Value.int .i64)) ∧ Below w0.heap.size w0 wx) (fun i _ => fs.length - (intOf i).toNat)
      case atStart => exact ⟨0, Nat.zero_le _, rfl, O1.out, B1.out⟩
      case round =>
        obtain ⟨k, hk, rfl, hO, hB⟩ := hrel
        clear O1 B1 y0 y1 y2 HB
        by_cases hlt : k < fs.length
        · have hok := HOK.out k hlt
          have hin := (okF_yes hok).1
          have hrd := (okF_yes hok).2.2
          have hqo := isF_ok (HQK.out k hk)
          have hfl2 := (inW_yes hin).2.1
          have ef := (inW_yes hin).2.2
          have HT := Lib.hid (takeL_succ (d := (0 : Int)) hlt)
          obtain ⟨bf, of, hFe, hbf, _⟩ := (HRF.out _ hB).2 (by omega)
          obtain ⟨bl, ol, hLe, hbl, _⟩ := (HRL.out _ hB).at (show 0 < N.l.length by omega)
          obtain ⟨g, cap, hvv, hbg, hgl⟩ := hO.form (by omega)
          have hA : A = some ⟨g, 0, none⟩ ∧ c = cap := by injection hvv with a b c'; exact ⟨a, c'⟩
          obtain ⟨rfl, rfl⟩ := hA
          obtain ⟨f, hf⟩ : ∃ f, (fs.getD k 0).toNat = f := ⟨_, rfl⟩
          rw [hf] at hfl2 ef hrd
          have hfit := fitsN_yes (link_fits HVV.out hfl2)
          have HAX := Lib.hid (fun e => lkL_ax (N := N) (fs := fs.take k) hfl2 e)
          have HTW := Lib.hid (fun (a b x : Int) e ha hb hx => lkL_two (N := N) (fs := fs.take k) (a := a) (b := b) (x := x) hfl2 e ha hb hx)
          have HLE := Lib.hid hLe
          have HEF := Lib.hid ef
          rw [ef] at HT
          have HSX : Hid (∀ wx : World, Below wr.heap.size wr wx → wx.cell? ⟨w.heap.size, 0, none⟩ = some (.slice h.A N.w.length h.c) ∧ wx.cell? ⟨w.heap.size, 1, none⟩ = some (.slice (some ⟨bl, ol, none⟩) N.l.length h.d) ∧ wx.cell? ⟨w.heap.size, 2, none⟩ = some (.slice h.C N.c.length h.e) ∧ wx.cell? ⟨bf, of + k, none⟩ = some (.int .i64 f) ∧ wx.cell? ⟨bl, ol + f * 4, none⟩ = some (.int .i64 (N.l.getD f Lk.nil).k) ∧ wx.cell? ⟨bl, ol + f * 4 + 1, none⟩ = some (.int .i64 (N.l.getD f Lk.nil).a) ∧ wx.cell? ⟨bl, ol + f * 4 + 2, none⟩ = some (.int .i64 (N.l.getD f Lk.nil).b) ∧ wx.cell? ⟨bl, ol + f * 4 + 3, none⟩ = some (.int .i64 (N.l.getD f Lk.nil).c)) := Lib.hid fun wx hx => by
            have hb2 : Below w0.heap.size w0 wx := hB.trans (hx.mono hB.size)
            obtain ⟨n0, n1, n2⟩ := HK.out wx hb2
            rw [HLE.out] at n1
            obtain ⟨bf', of', hF', _, hc⟩ := (HRF.out _ hb2).2 (by omega)
            rw [hFe] at hF'; injection hF' with hF'; injection hF' with e1 e2 _; subst e1; subst e2
            obtain ⟨bl', ol', hL', _, hcl⟩ := (HRL.out _ hb2).at (show 0 < N.l.length by omega)
            rw [HLE.out] at hL'; injection hL' with hL'; injection hL' with e1 e2 _; subst e1; subst e2
            have hc1 := hc k hlt
            rw [HEF.out] at hc1
            exact ⟨n0, n1, n2, hc1, hcl f hfl2⟩
          have HFAx := Lib.hid (fun (x : Int) (wx : World) (hx : Below wr.heap.size wr wx) => HFR.out x wx (hB.trans (hx.mono hB.size)))
          have HO := Lib.hid hO; have HB := Lib.hid hB
          have HQO := Lib.hid hqo
          have hfi : (f : Int) < (N.l.length : Int) := by omega
          have HFIT := Lib.hid (And.intro hfit.1 hfit.2.1)
          have HFL := Lib.hid hfl2
          rw [hLe] at HFAx
          obtain ⟨⟨lk, la, lb, lc⟩, hl⟩ : ∃ l, N.l.getD f Lk.nil = l := ⟨_, rfl⟩
          rw [hl] at hrd HSX HAX HTW HFIT
          dsimp only at HSX HAX HTW HFIT
          have HRD := Lib.hid hrd
          subst hFe
          clear hok hin hrd hqo hvv hLe hfit hO hB ef hf hl
          have hbg2 := hbg
          go_upto_region 9 with (fail)
          go_cut [8] (fun p wx => ∃ g9, p = .pointer (some ⟨g9, 0, none⟩) ∧ wr.heap.size ≤ g9 ∧ wx.heap[g9]? = some (.cells #[.int .i64 lk, .int .i64 la, .int .i64 lb, .int .i64 lc] 103 (0, 0)) ∧ Below wr.heap.size wr wx)
          case first =>
            have FB_0 := Lib.hid (Below.refl wr.heap.size wr)
            refine wp_region_held_drew (S := fun wx => wx.cell? ⟨w.heap.size, 0, none⟩ = some (.slice h.A N.w.length h.c) ∧ wx.cell? ⟨w.heap.size, 1, none⟩ = some (.slice (some ⟨bl, ol, none⟩) N.l.length h.d) ∧ wx.cell? ⟨w.heap.size, 2, none⟩ = some (.slice h.C N.c.length h.e) ∧ wx.cell? ⟨bf, of + k, none⟩ = some (.int .i64 f) ∧ wx.cell? ⟨bl, ol + f * 4, none⟩ = some (.int .i64 lk) ∧ wx.cell? ⟨bl, ol + f * 4 + 1, none⟩ = some (.int .i64 la) ∧ wx.cell? ⟨bl, ol + f * 4 + 2, none⟩ = some (.int .i64 lb) ∧ wx.cell? ⟨bl, ol + f * 4 + 3, none⟩ = some (.int .i64 lc)) (by kernel_rfl) (HSX.out _ (Below.refl _ _).drew) (fun hHeld => ?_)
            obtain ⟨wr1, hwr1⟩ : ∃ w', w' = wr.drew := ⟨_, rfl⟩
            rw [← hwr1] at hHeld ⊢
            have br1 : Below wr.heap.size wr wr1 := by rw [hwr1]; exact (Below.refl _ _).drew
            clear hwr1
            have FB_r2 := Lib.hid ((FB_0.out).trans ((br1).mono (FB_0.out).size))
            clear FB_0
            refine wpAnyH_take (i := 0) (v := ?vr3) rfl (by kernel_rfl) (by kernel_rfl) (by kernel_rfl) (fun _ _ _ h => h) (Or.inl ⟨by rfl, ?yr3⟩) (by assumption) ?_
            case yr3 => (intro w hSw; (try dsimp only at hSw); go_simp; all_goals (with_reducible rfl))
            (try simp only [Act.put, List.setIfInBounds_toArray, List.set_cons_zero, List.set_cons_succ, List.getElem_toArray, List.getElem_cons_succ, List.getElem_cons_zero])
            refine wpAnyH_take (i := 2) (v := ?vr4) rfl (by kernel_rfl) (by kernel_rfl) (by kernel_rfl) (fun _ _ _ h => h) (Or.inl ⟨by rfl, ?yr4⟩) (by assumption) ?_
            case yr4 => (intro w hSw; (try dsimp only at hSw); go_simp; all_goals (with_reducible rfl))
            (try simp only [Act.put, List.setIfInBounds_toArray, List.set_cons_zero, List.set_cons_succ, List.getElem_toArray, List.getElem_cons_succ, List.getElem_cons_zero])
            refine wpAnyH_take (i := 3) (v := ?vr5) rfl (by kernel_rfl) (by kernel_rfl) (by kernel_rfl) (fun _ _ _ h => h) (Or.inl ⟨by rfl, ?yr5⟩) (by assumption) ?_
            case yr5 => (intro w hSw; (try dsimp only at hSw); go_simp; all_goals (with_reducible rfl))
            (try simp only [Act.put, List.setIfInBounds_toArray, List.set_cons_zero, List.set_cons_succ, List.getElem_toArray, List.getElem_cons_succ, List.getElem_cons_zero])
            refine wpAnyH_take (i := 1) (v := ?vr6) rfl (by kernel_rfl) (by kernel_rfl) (by kernel_rfl) (fun _ _ _ h => h) (Or.inl ⟨by rfl, ?yr6⟩) (by assumption) ?_
            case yr6 => (intro w hSw; (try dsimp only at hSw); go_simp; all_goals (with_reducible rfl))
            (try simp only [Act.put, List.setIfInBounds_toArray, List.set_cons_zero, List.set_cons_succ, List.getElem_toArray, List.getElem_cons_succ, List.getElem_cons_zero])
            refine wpAnyH_take (i := 4) (v := ?vr7) rfl (by kernel_rfl) (by kernel_rfl) (by kernel_rfl) (fun _ _ _ h => h) (Or.inl ⟨by rfl, ?yr7⟩) (by assumption) ?_
            case yr7 => (intro w hSw; (try dsimp only at hSw); go_simp; all_goals (with_reducible rfl))
            (try simp only [Act.put, List.setIfInBounds_toArray, List.set_cons_zero, List.set_cons_succ, List.getElem_toArray, List.getElem_cons_succ, List.getElem_cons_zero])
            refine wpAnyH_take (i := 5) (v := ?vr8) rfl (by kernel_rfl) (by kernel_rfl) (by kernel_rfl) (fun _ _ _ h => h) (Or.inl ⟨by rfl, ?yr8⟩) (by assumption) ?_
            case yr8 => (intro w hSw; (try dsimp only at hSw); go_simp; all_goals (with_reducible rfl))
            (try simp only [Act.put, List.setIfInBounds_toArray, List.set_cons_zero, List.set_cons_succ, List.getElem_toArray, List.getElem_cons_succ, List.getElem_cons_zero])
            refine wpAnyH_take (i := 6) (v := ?vr9) rfl (by kernel_rfl) (by kernel_rfl) (by kernel_rfl) (fun _ _ _ h => h) (Or.inl ⟨by rfl, ?yr9⟩) (by assumption) ?_
            case yr9 => (intro w hSw; (try dsimp only at hSw); go_simp; all_goals (with_reducible rfl))
            (try simp only [Act.put, List.setIfInBounds_toArray, List.set_cons_zero, List.set_cons_succ, List.getElem_toArray, List.getElem_cons_succ, List.getElem_cons_zero])
            refine wpAnyH_take (i := 7) (v := ?vr10) rfl (by kernel_rfl) (by kernel_rfl) (by kernel_rfl) (fun _ _ _ h => h) (Or.inl ⟨by rfl, ?yr10⟩) (by assumption) ?_
            case yr10 => (intro w hSw; (try dsimp only at hSw); go_simp; all_goals (with_reducible rfl))
            (try simp only [Act.put, List.setIfInBounds_toArray, List.set_cons_zero, List.set_cons_succ, List.getElem_toArray, List.getElem_cons_succ, List.getElem_cons_zero])
            refine wpAnyH_ready (rs := [8]) (by kernel_rfl) (by simp) ?_
            refine AllReadyH.cons rfl (fun K hK => ?_) ?_
            · have GE := FB_r2.out.size
              go_simp
              obtain ⟨wr11, hwr11⟩ : ∃ w', w' = wr1.alloc (.cells #[.int .i64 0, .int .i64 0, .int .i64 0, .int .i64 0] 103) := ⟨_, rfl⟩
              rw [← hwr11]
              have br11 : Below wr1.heap.size wr1 wr11 := by rw [hwr11]; exact (Below.refl _ _).alloc (Nat.le_refl _) _
              have gr11 : wr11.heap[wr1.heap.size]? = some (.cells #[.int .i64 0, .int .i64 0, .int .i64 0, .int .i64 0] 103 (0, 0)) := by rw [hwr11]; exact heap_alloc_new _ _
              clear hwr11
              have FB_r12 := Lib.hid ((FB_r2.out).trans ((br11).mono (FB_r2.out).size))
              clear FB_r2
              obtain ⟨gar13, hgr13⟩ : ∃ b, wr1.heap.size = b := ⟨_, rfl⟩
              have GE_gar13 := Lib.hid (show wr.heap.size ≤ gar13 by omega)
              have GB_r13 := Lib.hid gr11
              rw [hgr13] at GB_r13 ⊢
              clear hgr13 gr11 br11
              clear GE
              refine hK.out _ _ (HSX.out _ FB_r12.out) (fun hHeld => ?_)
              clear hK K
              (try simp only [Act.put, List.setIfInBounds_toArray, List.set_cons_zero, List.set_cons_succ, List.getElem_toArray, List.getElem_cons_succ, List.getElem_cons_zero])
              refine wpAnyH_ready (rs := [9]) (by kernel_rfl) (by simp) ?_
              refine AllReadyH.cons rfl (fun K hK => ?_) ?_
              · have e0 := cell_of_row _ _ 0 _ _ (0, 0) GB_r13.out; have e1 := cell_of_row _ _ 1 _ _ (0, 0) GB_r13.out; have e2 := cell_of_row _ _ 2 _ _ (0, 0) GB_r13.out; have e3 := cell_of_row _ _ 3 _ _ (0, 0) GB_r13.out
                have f0 := frozen_of_row _ _ 0 _ _ GB_r13.out; have f1 := frozen_of_row _ _ 1 _ _ GB_r13.out; have f2 := frozen_of_row _ _ 2 _ _ GB_r13.out; have f3 := frozen_of_row _ _ 3 _ _ GB_r13.out
                have h9 := set4_at GB_r13.out (.int .i64 lk) (.int .i64 la) (.int .i64 lb) (.int .i64 lc)
                have b9 := set4_below FB_r12.out GE_gar13.out (.int .i64 lk) (.int .i64 la) (.int .i64 lb) (.int .i64 lc)
                have H9 := Lib.hid h9; have B9 := Lib.hid b9; have GE9 := GE_gar13
                clear h9 b9
                go_simp
                clear e0 e1 e2 e3 f0 f1 f2 f3
                refine hK.out _ _ (HSX.out _ B9.out) (fun hHeld => ?_)
                clear hK K
                (try simp only [Act.put, List.setIfInBounds_toArray, List.set_cons_zero, List.set_cons_succ, List.getElem_toArray, List.getElem_cons_succ, List.getElem_cons_zero])
                refine wpAnyH_done (by kernel_rfl) ?_ _
                go_wp2_with (fail)
                go_meet
                exact ⟨_, rfl, GE9.out, H9.out, B9.out⟩
              exact AllReadyH.nil
            exact AllReadyH.nil
          case rest =>
            obtain ⟨g9, rfl, hg9, h9, b9⟩ := hcut
            obtain ⟨w9, hw9⟩ : ∃ w9, w9 = wc := ⟨_, rfl⟩
            subst hw9
            obtain ⟨n0, n1, n2, x0, _, _, _, _⟩ := HSX.out _ b9
            have HC := Lib.hid (HB.out.trans (b9.mono HB.out.size))
            have HOC := Lib.hid (own_below HO.out b9 (Nat.le_refl _))
            have z0 := cell_of_row _ _ 0 _ _ (0, 0) h9
            have H9 := Lib.hid h9; have B9 := Lib.hid b9; have HG9 := Lib.hid hg9
            have hgc : g < w9.heap.size := Nat.lt_of_lt_of_le hgl b9.size
            have hcs := HC.out.size
            clear h9 b9 hg9
            simp only [List.getElem?_toArray, List.getElem?_cons_zero, List.getElem?_cons_succ] at z0
            by_cases h1 : lk = 1
            · subst h1
              have HST : Hid ((lkL N (fs.take k)).set f (f : Int) = lkL N (fs.take (k + 1))) := Lib.hid (by rw [HT.out]; exact HAX.out rfl)
              obtain ⟨d0, e0⟩ : ∃ x, w9.cell? ⟨g, f, none⟩ = some x := ⟨_, own_intP HOC.out HFL.out⟩
              have f0 := HOC.out.frozenAt (g := g) f
              have hs := (HOC.out.stored f (.int .i64 (f : Int))).1
              rw [← List.map_set, HST.out] at hs
              have HS := Lib.hid hs
              have HBS := Lib.hid (HC.out.setCell (p := ⟨g, f, none⟩) hbg (.int .i64 (f : Int)))
              clear hs
              go_wp2
              go_roundw
              case rel => exact ⟨k + 1, by omega, by go_num, HS.out, HBS.out⟩
              case measure => simp [intOf]; omega
            · have d1 : (lk != 1) = true := by simpa using h1
              obtain ⟨ga, gb, _⟩ := rdyQ_yes HQO.out HRD.out h1
              obtain ⟨hfa1, hfa2⟩ := fr_lt HVV.out HFIT.out.1
              obtain ⟨hfb1, hfb2⟩ := fr_lt HVV.out HFIT.out.2
              have HFA := Lib.hid (fun (wx : World) (hx : Below w9.heap.size w9 wx) => HFAx.out la wx (B9.out.trans (hx.mono B9.out.size)))
              have HFB := Lib.hid (fun (wx : World) (hx : Below w9.heap.size w9 wx) => HFAx.out lb wx (B9.out.trans (hx.mono B9.out.size)))
              rw [from_lxP HVV.out, hfa1] at HFA
              rw [from_lxP HVV.out, hfb1] at HFB
              have HTW2 := Lib.hid (fun (a b x : Int) ha hb hx => HTW.out a b x h1 ha hb hx)
              have HPL := Lib.hid (fun wx (hx : Below w9.heap.size w9 wx) => own_below HOC.out hx (Nat.le_refl _))
              have hpa := lkL_at (fs := fs.take k) hfa2
              have hpb := lkL_at (fs := fs.take k) hfb2
              generalize frN N la = ia at *
              generalize frN N lb = ib at *
              obtain ⟨a, ha⟩ : ∃ a, qN N (fs.take k) ia = a := ⟨_, rfl⟩
              obtain ⟨b, hb⟩ : ∃ b, qN N (fs.take k) ib = b := ⟨_, rfl⟩
              rw [ha] at hpa; rw [hb] at hpb
              have HHA := Lib.hid ha; have HHB := Lib.hid hb
              have HSY : Hid (∀ wx : World, Below w9.heap.size w9 wx → wx.cell? ⟨w.heap.size, 0, none⟩ = some (.slice h.A N.w.length h.c) ∧ wx.cell? ⟨w.heap.size, 1, none⟩ = some (.slice (some ⟨bl, ol, none⟩) N.l.length h.d) ∧ wx.cell? ⟨w.heap.size, 2, none⟩ = some (.slice h.C N.c.length h.e) ∧ wx.cell? ⟨g9, 1, none⟩ = some (.int .i64 la) ∧ wx.cell? ⟨g9, 2, none⟩ = some (.int .i64 lb) ∧ wx.cell? ⟨g, ia, none⟩ = some (.int .i64 a) ∧ wx.cell? ⟨g, ib, none⟩ = some (.int .i64 b)) := Lib.hid fun wx hx => by
                obtain ⟨n0, n1, n2, _⟩ := HSX.out wx (B9.out.trans (hx.mono B9.out.size))
                have hl9 : g9 < w9.heap.size := (Array.getElem?_eq_some_iff.1 H9.out).1
                have h9 := (hx.block g9 hl9).trans H9.out
                have o := HPL.out wx hx
                exact ⟨n0, n1, n2, cell_of_row _ _ 1 _ _ (0, 0) h9, cell_of_row _ _ 2 _ _ (0, 0) h9, by rw [← hpa]; exact own_intP o hfa2, by rw [← hpb]; exact own_intP o hfb2⟩
              have HSTP : Hid (∀ x, min (f : Int) (min a b) = x → (rn2 (lkL N (fs.take k)) x a b).set f x = lkL N (fs.take (k + 1))) := Lib.hid fun x hx => by rw [HT.out]; exact HTW2.out a b x HHA.out HHB.out hx
              have hiai : (ia : Int) < (N.l.length : Int) := by omega
              have hibi : (ib : Int) < (N.l.length : Int) := by omega
              have HPLN := Lib.hid (lkL_len N (fs.take k))
              clear h1 ga gb hfa1 hfa2 hfb1 hfb2 hpa hpb ha hb HTW HTW2 HAX HSX
              have HSX := HSY
              clear HSY
              go_upto_region 12 with (fail)
              clear n0 n1 n2 z0 x0
              go_cut [10, 11] (fun va vb wx => va = .int .i64 a ∧ vb = .int .i64 b ∧ Below w9.heap.size w9 wx)
              case first =>
                have FB_0 := Lib.hid (Below.refl w9.heap.size w9)
                refine wp_region_held_drew (S := fun wx => wx.cell? ⟨w.heap.size, 0, none⟩ = some (.slice h.A N.w.length h.c) ∧ wx.cell? ⟨w.heap.size, 1, none⟩ = some (.slice (some ⟨bl, ol, none⟩) N.l.length h.d) ∧ wx.cell? ⟨w.heap.size, 2, none⟩ = some (.slice h.C N.c.length h.e) ∧ wx.cell? ⟨g9, 1, none⟩ = some (.int .i64 la) ∧ wx.cell? ⟨g9, 2, none⟩ = some (.int .i64 lb) ∧ wx.cell? ⟨g, ia, none⟩ = some (.int .i64 a) ∧ wx.cell? ⟨g, ib, none⟩ = some (.int .i64 b)) (by kernel_rfl) (HSX.out _ (Below.refl _ _).drew) (fun hHeld => ?_)
                obtain ⟨ws1, hws1⟩ : ∃ w', w' = w9.drew := ⟨_, rfl⟩
                rw [← hws1] at hHeld ⊢
                have bs1 : Below w9.heap.size w9 ws1 := by rw [hws1]; exact (Below.refl _ _).drew
                clear hws1
                have FB_s2 := Lib.hid ((FB_0.out).trans ((bs1).mono (FB_0.out).size))
                clear FB_0
                refine wpAnyH_take (i := 0) (v := ?vs3) rfl (by kernel_rfl) (by kernel_rfl) (by kernel_rfl) (fun _ _ _ h => h) (Or.inl ⟨by rfl, ?ys3⟩) (by assumption) ?_
                case ys3 => (intro w hSw; (try dsimp only at hSw); go_simp; all_goals (with_reducible rfl))
                (try simp only [Act.put, List.setIfInBounds_toArray, List.set_cons_zero, List.set_cons_succ, List.getElem_toArray, List.getElem_cons_succ, List.getElem_cons_zero])
                refine wpAnyH_take (i := 1) (v := ?vs4) rfl (by kernel_rfl) (by kernel_rfl) (by kernel_rfl) (fun _ _ _ h => h) (Or.inl ⟨by rfl, ?ys4⟩) (by assumption) ?_
                case ys4 => (intro w hSw; (try dsimp only at hSw); go_simp; all_goals (with_reducible rfl))
                (try simp only [Act.put, List.setIfInBounds_toArray, List.set_cons_zero, List.set_cons_succ, List.getElem_toArray, List.getElem_cons_succ, List.getElem_cons_zero])
                refine wpAnyH_take (i := 2) (v := ?vs5) rfl (by kernel_rfl) (by kernel_rfl) (by kernel_rfl) (fun _ _ _ h => h) (Or.inl ⟨by rfl, ?ys5⟩) (by assumption) ?_
                case ys5 => (intro w hSw; (try dsimp only at hSw); go_simp; all_goals (with_reducible rfl))
                (try simp only [Act.put, List.setIfInBounds_toArray, List.set_cons_zero, List.set_cons_succ, List.getElem_toArray, List.getElem_cons_succ, List.getElem_cons_zero])
                refine wpAnyH_take (i := 7) (v := ?vs6) rfl (by kernel_rfl) (by kernel_rfl) (by kernel_rfl) (fun _ _ _ h => h) (Or.inl ⟨by rfl, ?ys6⟩) (by assumption) ?_
                case ys6 => (intro w hSw; (try dsimp only at hSw); go_simp; all_goals (with_reducible rfl))
                (try simp only [Act.put, List.setIfInBounds_toArray, List.set_cons_zero, List.set_cons_succ, List.getElem_toArray, List.getElem_cons_succ, List.getElem_cons_zero])
                refine wpAnyH_take (i := 8) (v := ?vs7) rfl (by kernel_rfl) (by kernel_rfl) (by kernel_rfl) (fun _ _ _ h => h) (Or.inl ⟨by rfl, ?ys7⟩) (by assumption) ?_
                case ys7 => (intro w hSw; (try dsimp only at hSw); go_simp; all_goals (with_reducible rfl))
                (try simp only [Act.put, List.setIfInBounds_toArray, List.set_cons_zero, List.set_cons_succ, List.getElem_toArray, List.getElem_cons_succ, List.getElem_cons_zero])
                refine wpAnyH_take (i := 9) (v := ?vs8) rfl (by kernel_rfl) (by kernel_rfl) (by kernel_rfl) (fun _ _ _ h => h) (Or.inl ⟨by rfl, ?ys8⟩) (by assumption) ?_
                case ys8 => (intro w hSw; (try dsimp only at hSw); go_simp; all_goals (with_reducible rfl))
                (try simp only [Act.put, List.setIfInBounds_toArray, List.set_cons_zero, List.set_cons_succ, List.getElem_toArray, List.getElem_cons_succ, List.getElem_cons_zero])
                refine wpAnyH_take (i := 3) (v := ?vs9) rfl (by kernel_rfl) (by kernel_rfl) (by kernel_rfl) (fun _ _ _ h => h) (Or.inl ⟨by rfl, ?ys9⟩) (by assumption) ?_
                case ys9 => (intro w hSw; (try dsimp only at hSw); go_simp; all_goals (with_reducible rfl))
                (try simp only [Act.put, List.setIfInBounds_toArray, List.set_cons_zero, List.set_cons_succ, List.getElem_toArray, List.getElem_cons_succ, List.getElem_cons_zero])
                refine wpAnyH_take (i := 10) (v := ?vs10) rfl (by kernel_rfl) (by kernel_rfl) (by kernel_rfl) (fun _ _ _ h => h) (Or.inl ⟨by rfl, ?ys10⟩) (by assumption) ?_
                case ys10 => (intro w hSw; (try dsimp only at hSw); go_simp; all_goals (with_reducible rfl))
                (try simp only [Act.put, List.setIfInBounds_toArray, List.set_cons_zero, List.set_cons_succ, List.getElem_toArray, List.getElem_cons_succ, List.getElem_cons_zero])
                refine wpAnyH_ready (rs := [4]) (by kernel_rfl) (by simp) ?_
                refine AllReadyH.cons rfl (fun K hK => ?_) ?_
                · go_simp
                  refine (HFA.out ws1 FB_s2.out).mono ?_
                  rintro e ws11 ⟨rfl, bels11⟩
                  dsimp only
                  have FB_s12 := Lib.hid ((FB_s2.out).trans ((bels11).mono (FB_s2.out).size))
                  clear FB_s2
                  clear bels11
                  refine hK.out _ _ (HSX.out _ FB_s12.out) (fun hHeld => ?_)
                  clear hK K
                  (try simp only [Act.put, List.setIfInBounds_toArray, List.set_cons_zero, List.set_cons_succ, List.getElem_toArray, List.getElem_cons_succ, List.getElem_cons_zero])
                  refine wpAnyH_take (i := 5) (v := ?vs13) rfl (by kernel_rfl) (by kernel_rfl) (by kernel_rfl) (fun _ _ _ h => h) (Or.inl ⟨by rfl, ?ys13⟩) (by assumption) ?_
                  case ys13 => (intro w hSw; (try dsimp only at hSw); go_simp; all_goals (with_reducible rfl))
                  (try simp only [Act.put, List.setIfInBounds_toArray, List.set_cons_zero, List.set_cons_succ, List.getElem_toArray, List.getElem_cons_succ, List.getElem_cons_zero])
                  refine wpAnyH_take (i := 6) (v := ?vs14) rfl (by kernel_rfl) (by kernel_rfl) (by kernel_rfl) (fun _ _ _ h => h) (Or.inl ⟨by rfl, ?ys14⟩) (by assumption) ?_
                  case ys14 => (intro w hSw; (try dsimp only at hSw); go_simp; all_goals (with_reducible rfl))
                  (try simp only [Act.put, List.setIfInBounds_toArray, List.set_cons_zero, List.set_cons_succ, List.getElem_toArray, List.getElem_cons_succ, List.getElem_cons_zero])
                  refine wpAnyH_ready (rs := [11]) (by kernel_rfl) (by simp) ?_
                  refine AllReadyH.cons rfl (fun K hK => ?_) ?_
                  · go_simp
                    refine (HFB.out ws11 FB_s12.out).mono ?_
                    rintro e ws15 ⟨rfl, bels15⟩
                    dsimp only
                    have FB_s16 := Lib.hid ((FB_s12.out).trans ((bels15).mono (FB_s12.out).size))
                    clear FB_s12
                    clear bels15
                    refine hK.out _ _ (HSX.out _ FB_s16.out) (fun hHeld => ?_)
                    clear hK K
                    (try simp only [Act.put, List.setIfInBounds_toArray, List.set_cons_zero, List.set_cons_succ, List.getElem_toArray, List.getElem_cons_succ, List.getElem_cons_zero])
                    refine wpAnyH_take (i := 12) (v := ?vs17) rfl (by kernel_rfl) (by kernel_rfl) (by kernel_rfl) (fun _ _ _ h => h) (Or.inl ⟨by rfl, ?ys17⟩) (by assumption) ?_
                    case ys17 => (intro w hSw; (try dsimp only at hSw); go_simp; all_goals (with_reducible rfl))
                    (try simp only [Act.put, List.setIfInBounds_toArray, List.set_cons_zero, List.set_cons_succ, List.getElem_toArray, List.getElem_cons_succ, List.getElem_cons_zero])
                    refine wpAnyH_take (i := 13) (v := ?vs18) rfl (by kernel_rfl) (by kernel_rfl) (by kernel_rfl) (fun _ _ _ h => h) (Or.inl ⟨by rfl, ?ys18⟩) (by assumption) ?_
                    case ys18 => (intro w hSw; (try dsimp only at hSw); go_simp; all_goals (with_reducible rfl))
                    (try simp only [Act.put, List.setIfInBounds_toArray, List.set_cons_zero, List.set_cons_succ, List.getElem_toArray, List.getElem_cons_succ, List.getElem_cons_zero])
                    refine wpAnyH_ready (rs := [14]) (by kernel_rfl) (by simp) ?_
                    refine AllReadyH.cons rfl (fun K hK => ?_) ?_
                    · go_simp
                      refine hK.out _ _ hHeld (fun hHeld => ?_)
                      clear hK K
                      (try simp only [Act.put, List.setIfInBounds_toArray, List.set_cons_zero, List.set_cons_succ, List.getElem_toArray, List.getElem_cons_succ, List.getElem_cons_zero])
                      refine wpAnyH_ready (rs := [15]) (by kernel_rfl) (by simp) ?_
                      refine AllReadyH.cons rfl (fun K hK => ?_) ?_
                      · go_simp
                        refine hK.out _ _ hHeld (fun hHeld => ?_)
                        clear hK K
                        (try simp only [Act.put, List.setIfInBounds_toArray, List.set_cons_zero, List.set_cons_succ, List.getElem_toArray, List.getElem_cons_succ, List.getElem_cons_zero])
                        refine wpAnyH_done (by kernel_rfl) ?_ _
                        go_wp2_with (fail)
                        go_meet
                        exact ⟨rfl, rfl, FB_s16.out⟩
                      exact AllReadyH.nil
                    exact AllReadyH.nil
                  exact AllReadyH.nil
                exact AllReadyH.nil
              case rest =>
                obtain ⟨rfl, rfl, b12⟩ := hcut
                obtain ⟨w12, hw12⟩ : ∃ w12, w12 = wc := ⟨_, rfl⟩
                subst hw12
                obtain ⟨w8, hw8⟩ : ∃ w8, w8 = wr := ⟨_, rfl⟩
                subst hw8
                have HC12 := Lib.hid (HC.out.trans (b12.mono HC.out.size))
                have HO12 := Lib.hid (HPL.out _ b12)
                obtain ⟨y, hm1⟩ : ∃ y, min a b = y := ⟨_, rfl⟩
                rw [hm1] at HSTP
                obtain ⟨x, hm2⟩ : ∃ x, min (f : Int) y = x := ⟨_, rfl⟩
                have HST := Lib.hid (HSTP.out x hm2)
                clear b12 HSX HSTP HFA HFB HFAx HOC B9 H9 HG9 HB HO HPL
                obtain ⟨P, hP⟩ : ∃ P, lkL N (fs.take k) = P := ⟨_, rfl⟩
                rw [hP] at HST HO12 HPLN
                have HPP := Lib.hid hP
                clear hP hgc hcs
                go_wp2
                go_loopw [12] (fun i wx => ∃ (j : Nat) (R : List Int), j ≤ N.l.length ∧ i = .int .i64 j ∧ Ren2 P x a b j R ∧ wx.ownsRow w0.heap.size 2 1 (.slice (some ⟨g, 0, none⟩) N.l.length c) N.l.length (R.map (Value.int .i64)) ∧ Below w0.heap.size w0 wx) (fun i _ => N.l.length - (intOf i).toNat)
                case atStart => exact ⟨0, P, Nat.zero_le _, rfl, Ren2.zero P _ _ _, HO12.out, HC12.out⟩
                case round =>
                  obtain ⟨j, R, hj, rfl, hQ, hOq, hBq⟩ := hrel
                  clear HO12 HC12 hm1 hm2
                  by_cases hjn : j < N.l.length
                  · have c0 := own_intP hOq hjn
                    have f0 := hOq.frozenAt (g := g) j
                    have HH := Lib.hid (fun e => hQ.hit (by rw [HPLN.out]; exact hjn) e)
                    have HM := Lib.hid (fun e => hQ.miss (by rw [HPLN.out]; exact hjn) e)
                    have HOS := Lib.hid (by have q := (hOq.stored j (.int .i64 x)).1; rw [← List.map_set] at q; exact q)
                    have HBS := Lib.hid (hBq.setCell (p := ⟨g, j, none⟩) hbg (.int .i64 x))
                    have HOQ := Lib.hid hOq; have HBQ := Lib.hid hBq
                    have hji : (j : Int) < (N.l.length : Int) := by omega
                    generalize R.getD j 0 = z at *
                    clear hQ hOq hBq
                    by_cases hza : z = a
                    · have hd2 : (z == a) = true := by simp [hza]
                      have HQ2 := Lib.hid (HH.out (.inl hza))
                      clear hza
                      go_wp2
                      go_roundw
                      case rel => exact ⟨j + 1, _, by omega, by go_num, HQ2.out, HOS.out, HBS.out⟩
                      case measure => simp [intOf]; omega
                    · have hd2 : (z == a) = false := by simp [hza]
                      by_cases hzb : z = b
                      · have hd3 : (z == b) = true := by simp [hzb]
                        have HQ2 := Lib.hid (HH.out (.inr hzb))
                        clear hza hzb
                        go_wp2
                        go_roundw
                        case rel => exact ⟨j + 1, _, by omega, by go_num, HQ2.out, HOS.out, HBS.out⟩
                        case measure => simp [intOf]; omega
                      · have hd3 : (z == b) = false := by simp [hzb]
                        have HQ2 := Lib.hid (HM.out (fun e => e.elim hza hzb))
                        clear hza hzb
                        go_wp2
                        go_roundw
                        case rel => exact ⟨j + 1, _, by omega, by go_num, HQ2.out, HOQ.out, HBQ.out⟩
                        case measure => simp [intOf]; omega
                  · have hjl : j = P.length := by rw [HPLN.out]; omega
                    have hQ2 : Ren2 P x a b P.length R := by rw [← hjl]; exact hQ
                    have hQd := Ren2.done hQ2
                    subst hQd
                    obtain ⟨bf', of', hF', _, hc⟩ := (HRF.out _ hBq).2 (by omega)
                    injection hF' with hF'; injection hF' with e1 e2 _; subst e1; subst e2
                    have x0 := hc k hlt
                    obtain ⟨d0, e0⟩ : ∃ x, wr.cell? ⟨g, f, none⟩ = some x := ⟨_, own_intP hOq HFL.out⟩
                    have f0 := hOq.frozenAt (g := g) f
                    have hs := (hOq.stored f (.int .i64 x)).1
                    rw [← List.map_set, HST.out] at hs
                    have HS := Lib.hid hs
                    have HBS := Lib.hid (hBq.setCell (p := ⟨g, f, none⟩) hbg (.int .i64 x))
                    have hjx : j = N.l.length := by rw [hjl]; exact HPLN.out
                    clear hs hQ hQ2 hOq hBq hc hjl
                    subst hjx
                    rw [HEF.out] at x0
                    go_wp2
                    go_roundw
                    case rel => exact ⟨k + 1, by omega, by go_num, HS.out, HBS.out⟩
                    case measure => simp [intOf]; omega
        · have hkl : k = fs.length := by omega
          rw [hkl, List.take_length] at hO
          have HG : Hid (Gives w (lkL N fs) (.returned (.slice A N.l.length c)) wr) := Lib.hid ⟨A, c, by rw [lkL_len], by rw [lkL_len]; exact hO.mono HB0.out.size, HB0.out.trans (hB.mono HB0.out.size)⟩
          clear hO hB
          subst hkl
          go_wp2
          go_ret
          exact HG.out
end Go.Proofs.YtfdpkhiiboghiaaGreatDoor
