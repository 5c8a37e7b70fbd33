/- The program's SourceOf, TargetOf, LinksOfKind. LeavesOf: of the program and of the model. -/
import Derived.Test.YtnomackljlnehaaDoorQPgG
import Derived.Test.YtnomackljlnehaaDoorQNetK
import Derived.Test.YtnomackljlnehaaDoorQDual
namespace Go.Proofs.YtnomackljlnehaaDoor
set_option linter.unusedSimpArgs false
set_option linter.unusedVariables false
section
set_option linter.unusedSimpArgs false
set_option linter.unusedVariables false
open Go.ChangeAt Go.ChangeShapes Go.RowKit Go.WideShapes

theorem srcB_is {l : Lk} {x : Int} (h : l.k = 1 ∨ l.k = 2 ∨ l.k = 3 ∨ l.k = 4) : srcB x l = decide (x ∈ outL l) := by
  obtain ⟨k, a, b, c⟩ := l
  dsimp only at h
  rw [Bool.eq_iff_iff, decide_eq_true_iff]
  rcases h with rfl | rfl | rfl | rfl <;> simp [srcB, outL] <;> omega
theorem tgtB_is (l : Lk) (x : Int) : tgtB x l = decide (x ∈ inL l) := by
  obtain ⟨k, a, b, c⟩ := l
  rw [Bool.eq_iff_iff, decide_eq_true_iff]
  by_cases h : k = 1
  · subst h
    simp [tgtB, inL]
  · simp [tgtB, inL, h]
    omega
theorem first_ext {p q : Lk → Bool} {ls : List Lk} (h : ∀ l ∈ ls, p l = q l) : firstN p ls = firstN q ls := by
  unfold firstN
  have : ls.findIdx? p = ls.findIdx? q := by
    induction ls with
    | nil => rfl
    | cons l t ih =>
      rw [List.findIdx?_cons, List.findIdx?_cons, h l (List.mem_cons_self ..), ih fun k hk => h k (List.mem_cons_of_mem _ hk)]
  rw [this]
theorem srcN_val {N : Nt} {x : Int} (hv : valN N = true) : srcN N x = firstN (srcB x) N.l := by
  unfold srcN
  rw [hv, Bool.true_and]
  cases hx : inW N.w.length x with
  | true => rfl
  | false =>
    symm
    refine firstN_none fun j hj => ?_
    have hk := all_at (d := Lk.nil) (valN_fits hv) hj
    obtain ⟨h1, h2, h3, _⟩ := fitsN_yes hk
    rw [srcB_is (fitsN_kind hk), decide_eq_false]
    intro hm
    have := (List.all_eq_true.1 (outL_in (Nat.le_refl _) h1 h2 h3)) x hm
    rw [hx] at this; cases this
theorem tgtN_val {N : Nt} {x : Int} (hv : valN N = true) : tgtN N x = firstN (tgtB x) N.l := by
  unfold tgtN
  rw [hv, Bool.true_and]
  cases hx : inW N.w.length x with
  | true => rfl
  | false =>
    symm
    refine firstN_none fun j hj => ?_
    have hk := all_at (d := Lk.nil) (valN_fits hv) hj
    obtain ⟨h1, h2, h3, _⟩ := fitsN_yes hk
    rw [tgtB_is, decide_eq_false]
    intro hm
    have := (List.all_eq_true.1 (inL_in (Nat.le_refl _) h1 h2)) x hm
    rw [hx] at this; cases this
set_option maxHeartbeats 4000000 in
theorem linksOfKind_impl (h : NH) (N : Nt) (x : Int) (w : World) (r : RdN w w.heap.size h N) (sm : SmallN N) (ht : Arit w) (hu : Dual w) :
    Calls Tryd.prog 69 #[.agg #[.slice h.A N.w.length h.c, .slice h.L N.l.length h.d, .slice h.C N.c.length h.e], .int .i64 x] w (Gives w (kinN N x)) := by
  obtain ⟨i0, hi0, hz0, hz1, hz2⟩ := info_parts info_i64
  have HI := Lib.hid hi0; have HZ0 := Lib.hid hz0; have HZ1 := Lib.hid hz1; have HZ2 := Lib.hid hz2
  have s1 := sm.w; have s2 := sm.l; have s3 := sm.c
  obtain ⟨w0, hw0⟩ : ∃ w0, w0 = w.alloc (.cells #[.slice h.A N.w.length h.c, .slice h.L N.l.length h.d, .slice h.C N.c.length h.e] 31) := ⟨_, rfl⟩
  obtain ⟨hb, hh, hsz⟩ := box3_any w (.slice h.A N.w.length h.c) (.slice h.L N.l.length h.d) (.slice h.C N.c.length h.e) 31
  rw [← hw0] at hb hh hsz
  have HK : Hid (∀ w', Below w0.heap.size w0 w' → w'.cell? ⟨w.heap.size, 0, none⟩ = some (.slice h.A N.w.length h.c) ∧ w'.cell? ⟨w.heap.size, 1, none⟩ = some (.slice h.L N.l.length h.d) ∧ w'.cell? ⟨w.heap.size, 2, none⟩ = some (.slice h.C N.c.length h.e)) := Lib.hid fun w' hw => three_cells ((hw.block _ (by omega)).trans hh)
  have HR := Lib.hid (fun (w' : World) (hw : Below w0.heap.size w0 w') => ((r.below (hb.trans (hw.mono hb.size))).more (Nat.le_trans hb.size hw.size)))
  have hV := validNet_impl h N w0 (HR.out _ (Below.refl _ _)) sm (ht.below hb ht.lt) (hu.below hb hu.lt)
  have HB0 := Lib.hid hb
  obtain ⟨y0, y1, y2⟩ := three_cells hh
  clear hb hh hsz r hi0 hz0 hz1 hz2 ht hu sm
  cases hv : valN N with
  | false =>
    rw [hv] at hV
    have HV := Lib.hid hV
    rw [show kinN N x = [] by unfold kinN; rw [hv]; rfl]
    clear hV hv
    go_enter Tryd.func69, Tryd.ntmps69
    go_wp2_with (fail)
    rw [← hw0]
    clear hw0
    refine HV.out.mono ?_
    rintro e w1 ⟨rfl, bel⟩
    have HG := Lib.hid (gives_nil (HB0.out.trans (bel.mono HB0.out.size)))
    clear bel y0 y1 y2
    go_wp2
    go_ret
    exact HG.out
  | true =>
    rw [hv] at hV
    have HV := Lib.hid hV
    rw [show kinN N x = kinU x N.l N.l.length by unfold kinN; rw [hv]; rfl]
    clear hV hv
    go_enter Tryd.func69, Tryd.ntmps69
    go_wp2_with (fail)
    rw [← hw0]
    clear hw0
    refine HV.out.mono ?_
    rintro e w1 ⟨rfl, bel⟩
    have HB1 := Lib.hid bel
    clear bel y0 y1 y2
    obtain ⟨y0, y1, y2⟩ := HK.out _ HB1.out
    go_wp2
    go_loopw [5, 14] (fun v i wx => ∃ k : Nat, k ≤ N.l.length ∧ i = .int .i64 k ∧ wx.ownsRow w0.heap.size 2 1 v (kinU x N.l k).length ((kinU x N.l k).map (Value.int .i64)) ∧ Below w0.heap.size w0 wx) (fun _ i _ => N.l.length - (intOf i).toNat)
    case atStart => exact ⟨0, Nat.zero_le _, rfl, World.ownsRow_nil _ _ _ _, HB1.out⟩
    case round =>
      obtain ⟨k, hk, rfl, hO, hB⟩ := hrel
      clear y0 y1 y2 HB1
      by_cases hlt : k < N.l.length
      · obtain ⟨b, off, hA, hbb, hcells⟩ := (HR.out _ hB).2.1.at (show 0 < N.l.length by omega)
        obtain ⟨x0, x1, x2, x3⟩ := hcells k hlt
        have hln := kinU_len x N.l k
        have hyes := fun e => kinU_yes (x := x) (ls := N.l) (k := k) e
        have hno := fun e => kinU_no (x := x) (ls := N.l) (k := k) e
        obtain ⟨⟨lk, la, lb, lc⟩, hl⟩ : ∃ l, N.l.getD k Lk.nil = l := ⟨_, rfl⟩
        rw [hl] at x0 x1 x2 x3 hyes hno
        dsimp only at x0 x1 x2 x3 hyes hno
        obtain ⟨bl, z0, z1, z2, z3, zs⟩ := lnk_any wr ⟨lk, la, lb, lc⟩ 69
        dsimp only at bl z0 z1 z2 z3
        obtain ⟨u1, hu1⟩ : ∃ u1, u1 = wr.alloc (.cells #[.int .i64 lk, .int .i64 la, .int .i64 lb, .int .i64 lc] 69) := ⟨_, rfl⟩
        have HU1 := Lib.hid hu1
        rw [← hu1] at bl
        have BL := Lib.hid (hB.trans (bl.mono hB.size))
        have HO1 := Lib.hid (own_below hO bl (Nat.le_refl _))
        have HA := Lib.hid hA
        clear hcells hB hO bl zs hl hu1
        obtain ⟨hAd, hcd, hhs, hL, hd, hC, he⟩ := h
        dsimp only at hA
        subst hA
        by_cases hkd : lk = x
        · have hd : (lk == x) = true := by simpa using hkd
          have HS := Lib.hid (hyes hkd)
          have HLN : Hid ((kinU x N.l (k + 1)).length = (kinU x N.l k).length + 1) := Lib.hid (by rw [HS.out]; simp)
          clear hkd hyes hno
          go_upto_region 8 with (fail)
          rw [← HU1.out]
          clear z0 z1 z2 z3 x0 x1 x2 x3 HU1
          have hsz1 := BL.out.size
          go_wp2_with (at_builtin; refine wpList_append_own _ rfl _ _ 24 rfl w0.heap.size 2 i0 (.int .i64 0) 1 8 Tryd.underlying24 HI.out HZ0.out HZ1.out HZ2.out rfl (by decide) _ _ _ rfl (HO1.out.alloc _) ⟨u1.heap.size, 0, none⟩ 1 1 [.int .i64 k] rfl rfl ?c1 ?c2 ?c3 ?c4 ?c5 ?_)
          (try (case c1 => exact cell_one_new _ _ _))
          case c2 => first | rfl | (intro u hu; simp at hu; subst hu; rfl)
          case c3 => unfold maxLen; omega
          case c4 => omega
          case c5 => first | omega | (simp; omega)
          intro v' w2 hown' hgrow _
          have hb2 := Lib.hid ((BL.out.alloc hsz1 (.cells #[.int .i64 k] 2)).grown hgrow (by simp; omega) (fun q hq => (HO1.out.lt q hq).1))
          have hown2 : w2.ownsRow w0.heap.size 2 1 v' (kinU x N.l (k + 1)).length ((kinU x N.l (k + 1)).map (Value.int .i64)) := by
            rw [HLN.out, HS.out, List.map_append]; exact hown'
          have hown1 := Lib.hid hown2
          clear hown' hgrow hown2 hsz1
          go_wp2
          go_roundw
          case rel => exact ⟨k + 1, by omega, by go_num, hown1.out, hb2.out⟩
          case measure => simp [intOf]; omega
        · have hd : (lk == x) = false := by simpa using hkd
          have HO2 := HO1.out
          rw [← hno hkd] at HO2
          have HO3 := Lib.hid HO2
          have BL2 := BL.out
          rw [HU1.out] at BL2 HO2
          have HO4 := Lib.hid HO2; have BL3 := Lib.hid BL2
          clear hkd hyes hno HO2 BL2
          go_wp2
          go_roundw
          case rel => exact ⟨k + 1, by omega, by go_num, HO4.out, BL3.out⟩
          case measure => simp [intOf]; omega
      · have hkl : k = N.l.length := by omega
        subst hkl
        have HG := Lib.hid (gives_own hO HB0.out.size (HB0.out.trans (hB.mono HB0.out.size)))
        clear hO hB
        go_wp2
        go_ret
        exact HG.out
end
section
open Go.RowKit

/-- The leaves among the first k symbols. -/
def flt (f : List Int) (k : Nat) : List Int := (f.take k).filter leafB
theorem flt_zero (f : List Int) : flt f 0 = [] := by simp [flt]
theorem flt_yes {f : List Int} {k : Nat} (hk : k < f.length) (h : leafB (f.getD k 0) = true) : flt f (k + 1) = flt f k ++ [f.getD k 0] := by
  unfold flt
  have e : f.getD k 0 = f[k] := by simp [List.getD, hk]
  have e2 : List.filter leafB [f.getD k 0] = [f.getD k 0] := by rw [List.filter_cons, if_pos h]; rfl
  rw [List.take_succ_eq_append_getElem hk, List.filter_append, ← e, e2]
theorem flt_no {f : List Int} {k : Nat} (hk : k < f.length) (h : leafB (f.getD k 0) = false) : flt f (k + 1) = flt f k := by
  unfold flt
  have e : f.getD k 0 = f[k] := by simp [List.getD, hk]
  have e2 : List.filter leafB [f.getD k 0] = [] := by rw [List.filter_cons, if_neg (by rw [h]; decide)]; rfl
  rw [List.take_succ_eq_append_getElem hk, List.filter_append, ← e, e2, List.append_nil]
theorem flt_len (f : List Int) (k : Nat) : (flt f k).length ≤ k := by
  unfold flt; exact Nat.le_trans (List.length_filter_le _ _) (List.length_take_le _ _)
theorem flt_all (f : List Int) : flt f f.length = f.filter leafB := by simp [flt]
/-- LeavesOf. -/
def leavesL (f : List Int) : List Int := if validB f then f.filter leafB else []
theorem leavesL_yes {f : List Int} (h : validB f = true) : leavesL f = flt f f.length := by simp [leavesL, h, flt_all]
theorem leavesL_no {f : List Int} (h : validB f = false) : leavesL f = [] := by simp [leavesL, h]
theorem leavesL_len (f : List Int) : (leavesL f).length ≤ 24 := by
  cases h : validB f with
  | true => rw [leavesL_yes h]; exact Nat.le_trans (flt_len _ _) (valid_len h).2.1
  | false => rw [leavesL_no h]; simp

theorem own_form {w : World} {base n : Nat} {e : TypeId} {v : Value} {xs : List Value} (h : w.ownsRow base e 1 v n xs) : ∃ A c, v = .slice A n c := by
  rcases h.2 with ⟨rfl, rfl⟩ | ⟨g, cap, cur, rfl, _⟩
  · exact ⟨_, _, rfl⟩
  · exact ⟨_, _, rfl⟩

theorem flt_push {w : World} {base : Nat} {v : Value} {f : List Int} {k : Nat} {x : Int} (hk : k < f.length) (hx : f.getD k 0 = x) (h : leafB x = true) (hown : w.ownsRow base 2 1 v ((flt f k).length + 1) ((flt f k).map (Value.int .i64) ++ [.int .i64 x])) :
    w.ownsRow base 2 1 v (flt f (k + 1)).length ((flt f (k + 1)).map (Value.int .i64)) := by
  subst hx
  rw [flt_yes hk h, List.length_append, List.map_append]
  exact hown

set_option maxHeartbeats 1000000 in
theorem leavesOf_in (A : Option Addr) (c : Nat) (f : List Int) (w : World) (h : RdI w w.heap.size A f.length f) (ht : Arit w) (hnc : f.length ≤ c) (hv : validB f = true) :
    Calls Tryd.prog 63 #[.slice A f.length c] w (Gives w (flt f f.length)) := by
  obtain ⟨i0, hi0, hz0, hz1, hz2⟩ := info_parts info_i64
  have hlen := valid_len hv
  go_enter Tryd.func63, Tryd.ntmps63
  go_wp2_with (go_at_call 98; refine (validForm_impl _ _ _ f _ h ht hnc).mono ?_; rintro e w' ⟨rfl, rfl⟩)
  have H0 : Hid (w.ownsRow w.heap.size 2 1 (.slice none 0 0) (flt f 0).length ((flt f 0).map (Value.int .i64))) := Lib.hid (by rw [flt_zero]; exact World.ownsRow_nil _ _ _ _)
  clear hv ht
  go_loopw [3, 11] (fun v i wr => ∃ k : Nat, k ≤ f.length ∧ i = .int .i64 k ∧ wr.ownsRow w.heap.size 2 1 v (flt f k).length ((flt f k).map (Value.int .i64)) ∧ Below w.heap.size w wr)
    (fun _ i _ => f.length - (intOf i).toNat)
  case atStart => exact ⟨0, Nat.zero_le _, rfl, H0.out, Below.refl _ _⟩
  case round =>
    obtain ⟨k, hk, rfl, hown, hb⟩ := hrel
    by_cases hlt : k < f.length
    · obtain ⟨b, off, rfl, hbb, hcells⟩ := h.2 (by omega)
      have hc := (hb.cell (p := ⟨b, off + k, none⟩) hbb).trans (hcells k hlt)
      obtain ⟨x, hx⟩ : ∃ x, f.getD k 0 = x := ⟨_, rfl⟩
      rw [hx] at hc
      have HX := Lib.hid hx
      have hsz := hb.size
      have hfl := flt_len f k
      clear hcells hx
      cases hleaf : leafB x with
      | true =>
        go_wp2_with (first | (go_at_call 55; refine (isLeaf_any x _).mono ?_; rintro e w' ⟨rfl, rfl⟩) | (at_builtin; refine wpList_append_own _ rfl _ _ 24 rfl w.heap.size 2 i0 (.int .i64 0) 1 8 Tryd.underlying24 hi0 hz0 hz1 hz2 rfl (by decide) _ _ _ rfl (hown.alloc _) ⟨wr.heap.size, 0, none⟩ 1 1 [.int .i64 x] rfl rfl ?c1 ?c2 ?c3 ?c4 ?c5 ?_))
        case c1 => exact cell_one_new _ _ _
        case c2 => intro u hu; simp at hu; subst hu; rfl
        case c3 => unfold maxLen; omega
        case c4 => omega
        case c5 => simp; omega
        intro v' w1 hown' hgrow _
        have hb1 := Lib.hid ((hb.alloc hsz (.cells #[.int .i64 x] 2)).grown hgrow (by simp; omega) (fun q hq => (hown.lt q hq).1))
        have hown1 := Lib.hid (flt_push hlt HX.out hleaf hown')
        clear hown' hgrow hown hb
        go_wp2
        go_roundw
        case rel => exact ⟨k + 1, by omega, by go_num, hown1.out, hb1.out⟩
        case measure => simp [intOf]; omega
      | false =>
        have hown1 := hown
        rw [← flt_no hlt (by rw [HX.out]; exact hleaf)] at hown1
        have H1 := Lib.hid hown1; have HB := Lib.hid hb
        clear hown1 hown hb
        go_wp2_with (go_at_call 55; refine (isLeaf_any x _).mono ?_; rintro e w' ⟨rfl, rfl⟩)
        go_roundw
        case rel => exact ⟨k + 1, by omega, by go_num, H1.out, HB.out⟩
        case measure => simp [intOf]; omega
    · have hkl : k = f.length := by omega
      subst hkl
      obtain ⟨A1, c1, rfl⟩ := own_form hown
      have HS := Lib.hid hown; have HB := Lib.hid hb
      clear hown hb
      go_wp2
      go_ret
      exact ⟨_, _, rfl, HS.out, HB.out⟩

set_option maxHeartbeats 400000 in
theorem leavesOf_impl (A : Option Addr) (n c : Nat) (f : List Int) (w : World) (h : RdI w w.heap.size A n f) (ht : Arit w) (hnc : n ≤ c) :
    Calls Tryd.prog 63 #[.slice A n c] w (Gives w (leavesL f)) := by
  have hl := h.len
  subst hl
  cases hv : validB f with
  | true => rw [leavesL_yes hv]; exact leavesOf_in A c f w h ht hnc hv
  | false =>
    rw [leavesL_no hv]
    go_enter Tryd.func63, Tryd.ntmps63
    go_wp2_with (go_at_call 98; refine (validForm_impl _ _ _ f _ h ht hnc).mono ?_; rintro e w' ⟨rfl, rfl⟩)
    go_ret
    exact ⟨_, _, rfl, World.ownsRow_nil _ _ _ _, Below.refl _ _⟩

set_option maxHeartbeats 1000000 in
theorem sLeavesOf_in (A : Option Addr) (c : Nat) (f : List Int) (w : World) (h : RdI w w.heap.size A f.length f) (hv : validB f = true) :
    Calls Tryd.prog 97 #[.slice A f.length c] w (Gives w (flt f f.length)) := by
  obtain ⟨i0, hi0, hz0, hz1, hz2⟩ := info_parts info_i64
  have hlen := valid_len hv
  go_enter Tryd.func97, Tryd.ntmps97
  go_wp2
  have H0 : Hid ((w.alloc (.cells #[] 2)).ownsRow w.heap.size 2 1 (.slice (some ⟨w.heap.size, 0, none⟩) 0 0) (flt f 0).length ((flt f 0).map (Value.int .i64))) := Lib.hid (by rw [flt_zero]; exact World.ownsRow_made w #[] 0 (Nat.le_refl _) (by simp [maxLen]) rfl)
  have HB0 : Hid (Below w.heap.size w (w.alloc (.cells #[] 2))) := Lib.hid ((Below.refl _ _).alloc (Nat.le_refl _) _)
  go_loopw [3, 4] (fun v i wr => ∃ k : Nat, k ≤ f.length ∧ i = .int .i64 k ∧ wr.ownsRow w.heap.size 2 1 v (flt f k).length ((flt f k).map (Value.int .i64)) ∧ Below w.heap.size w wr)
    (fun _ i _ => f.length - (intOf i).toNat)
  case atStart => exact ⟨0, Nat.zero_le _, rfl, H0.out, HB0.out⟩
  case round =>
    obtain ⟨k, hk, rfl, hown, hb⟩ := hrel
    clear H0 HB0
    have hrd := (h.below hb).more hb.size
    by_cases hlt : k < f.length
    · have hdk : decide ((k : Int) < (f.length : Int)) = true := decide_eq_true (by omega)
      obtain ⟨b, off, rfl, hbb, hcells⟩ := h.2 (by omega)
      have hc := (hb.cell (p := ⟨b, off + k, none⟩) hbb).trans (hcells k hlt)
      obtain ⟨x, hx⟩ : ∃ x, f.getD k 0 = x := ⟨_, rfl⟩
      rw [hx] at hc
      have HX := Lib.hid hx
      have hsz := hb.size
      have hfl := flt_len f k
      clear hcells hx
      cases hleaf : leafB x with
      | true =>
        go_wp2_with (first | (go_at_call 95; refine (sValidForm_any _ _ _ f _ hrd).mono ?_; rintro e w' ⟨rfl, rfl⟩) | (go_at_call 123; refine (isAtom_any x _).mono ?_; rintro e w' ⟨rfl, rfl⟩) | (at_builtin; refine wpList_append_own _ rfl _ _ 24 rfl w.heap.size 2 i0 (.int .i64 0) 1 8 Tryd.underlying24 hi0 hz0 hz1 hz2 rfl (by decide) _ _ _ rfl (hown.alloc _) ⟨wr.heap.size, 0, none⟩ 1 1 [.int .i64 x] rfl rfl ?c1 ?c2 ?c3 ?c4 ?c5 ?_))
        case c1 => exact cell_one_new _ _ _
        case c2 => intro u hu; simp at hu; subst hu; rfl
        case c3 => unfold maxLen; omega
        case c4 => omega
        case c5 => simp; omega
        intro v' w1 hown' hgrow _
        have hb1 := Lib.hid ((hb.alloc hsz (.cells #[.int .i64 x] 2)).grown hgrow (by simp; omega) (fun q hq => (hown.lt q hq).1))
        have hown1 := Lib.hid (flt_push hlt HX.out hleaf hown')
        clear hown' hgrow hown hb hrd
        go_wp2
        go_roundw
        case rel => exact ⟨k + 1, by omega, by go_num, hown1.out, hb1.out⟩
        case measure => simp [intOf]; omega
      | false =>
        have hown1 := hown
        rw [← flt_no hlt (by rw [HX.out]; exact hleaf)] at hown1
        have H1 := Lib.hid hown1; have HB := Lib.hid hb
        clear hown1 hown hb
        go_wp2_with (first | (go_at_call 95; refine (sValidForm_any _ _ _ f _ hrd).mono ?_; rintro e w' ⟨rfl, rfl⟩) | (go_at_call 123; refine (isAtom_any x _).mono ?_; rintro e w' ⟨rfl, rfl⟩))
        go_roundw
        case rel => exact ⟨k + 1, by omega, by go_num, H1.out, HB.out⟩
        case measure => simp [intOf]; omega
    · have hkl : k = f.length := by omega
      subst hkl
      have hdk : decide ((f.length : Int) < (f.length : Int)) = false := decide_eq_false (by omega)
      obtain ⟨A1, c1, rfl⟩ := own_form hown
      have HS := Lib.hid hown; have HB := Lib.hid hb
      clear hown hb hrd
      go_wp2
      go_ret
      exact ⟨_, _, rfl, HS.out, HB.out⟩

set_option maxHeartbeats 400000 in
theorem sLeavesOf_any (A : Option Addr) (n c : Nat) (f : List Int) (w : World) (h : RdI w w.heap.size A n f) :
    Calls Tryd.prog 97 #[.slice A n c] w (Gives w (leavesL f)) := by
  have hl := h.len
  subst hl
  cases hv : validB f with
  | true => rw [leavesL_yes hv]; exact sLeavesOf_in A c f w h hv
  | false =>
    rw [leavesL_no hv]
    have hb0 : Below w.heap.size w (w.alloc (.cells #[] 2)) := (Below.refl _ _).alloc (Nat.le_refl _) _
    have hrd := (h.below hb0).more hb0.size
    have HB := Lib.hid hb0
    have H0 : Hid ((w.alloc (.cells #[] 2)).ownsRow w.heap.size 2 1 (.slice (some ⟨w.heap.size, 0, none⟩) 0 0) 0 []) := Lib.hid (World.ownsRow_made w #[] 0 (Nat.le_refl _) (by simp [maxLen]) rfl)
    clear hb0
    by_cases h0 : 0 < f.length
    · have hdk : decide (0 < (f.length : Int)) = true := decide_eq_true (by omega)
      go_enter Tryd.func97, Tryd.ntmps97
      go_wp2
      refine wp_loop_rounds 1 ?_
      rw [rounds_succ]
      go_wp2_with (go_at_call 95; refine (sValidForm_any _ _ _ f _ hrd).mono ?_; rintro e w' ⟨rfl, rfl⟩)
      go_ret
      exact ⟨_, _, rfl, H0.out, HB.out⟩
    · have hdk : decide (0 < (f.length : Int)) = false := decide_eq_false (by omega)
      go_enter Tryd.func97, Tryd.ntmps97
      go_wp2
      refine wp_loop_rounds 1 ?_
      rw [rounds_succ]
      go_wp2
      go_ret
      exact ⟨_, _, rfl, H0.out, HB.out⟩
end
end Go.Proofs.YtnomackljlnehaaDoor
