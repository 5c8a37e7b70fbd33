/- A switching by its number, of the model and of the program. The model: the parts of a graph (l11Roots). The program: connectedBy. -/
import Derived.Test.YtfdpkhiiboghiaaGreatDoorJQEmR
import Derived.Test.YtfdpkhiiboghiaaGreatDoorJQSqM
import Derived.Deep.RegionHeldLaw
import Derived.Deep.DeepCutAuto
import Derived.BigQuiet
import Derived.Test.YtfdpkhiiboghiaaGreatDoorJQSwM
import Derived.Test.YtfdpkhiiboghiaaGreatDoorJQEmA
namespace Go.Proofs.YtfdpkhiiboghiaaGreatDoor
set_option linter.unusedSimpArgs false
set_option linter.unusedVariables false
section
set_option linter.unusedSimpArgs false
set_option linter.unusedVariables false
open Go.ChangeAt Go.ChangeShapes Go.RowKit Go.WideShapes

theorem div_cast (y i : Nat) : ((y / 2 ^ i : Nat) : Int) = (y : Int) / 2 ^ i := by
  rw [Int.natCast_ediv, Int.natCast_pow]; rfl
theorem bit_at (y i : Nat) (h : y < 1048576) : bits .and .i64 ((y : Int) / 2 ^ i) 1 = (y : Int) / 2 ^ i % 2 := by
  rw [← div_cast]
  exact bit_i64 _ (Nat.lt_of_le_of_lt (Nat.div_le_self _ _) (by omega))
theorem bit_atu (y i : Nat) (h : y < 1048576) : bits .and .u64 ((y : Int) / 2 ^ i) 1 = (y : Int) / 2 ^ i % 2 := by
  rw [← div_cast]
  exact bit_u64 _ (Nat.lt_of_le_of_lt (Nat.div_le_self _ _) (by omega))
set_option maxRecDepth 100000 in
set_option maxHeartbeats 2000000 in
theorem sBits_any (n y : Nat) (w : World) (hn : n ≤ 48) (hy : y < 1048576) :
    Calls Tryz.prog 75 #[.int .i64 n, .int .i64 y] w (Gives w (swU y n)) := by
  obtain ⟨i0, hi0, hz0, hz1, hz2⟩ := info_parts info_i64
  have HI := Lib.hid hi0; have HZ0 := Lib.hid hz0; have HZ1 := Lib.hid hz1; have HZ2 := Lib.hid hz2
  have h0 : (w.alloc (.cells #[] 2)).ownsRow w.heap.size 2 1 (.slice (some ⟨w.heap.size, 0, none⟩) 0 0) (swU y 0).length ((swU y 0).map (Value.int .i64)) := World.ownsRow_made w #[] 0 (Nat.le_refl _) (by simp [maxLen]) rfl
  have hb1 : Below w.heap.size w (w.alloc (.cells #[] 2)) := (Below.refl _ _).alloc (Nat.le_refl _) _
  have H0 := Lib.hid h0; have HB1 := Lib.hid hb1
  clear hi0 hz0 hz1 hz2 h0 hb1
  go_enter Tryz.func75, Tryz.ntmps75
  go_wp2
  go_loopw [5, 6] (fun v i wx => ∃ k : Nat, k ≤ n ∧ i = .int .i64 k ∧ wx.ownsRow w.heap.size 2 1 v (swU y k).length ((swU y k).map (Value.int .i64)) ∧ Below w.heap.size w wx) (fun _ i _ => n - (intOf i).toNat)
  case atStart => exact ⟨0, Nat.zero_le _, rfl, H0.out, HB1.out⟩
  case round =>
    obtain ⟨k, hk, rfl, hO, hB⟩ := hrel
    clear H0 HB1
    by_cases hlt : k < n
    · have hcn : IntKind.u64.wrap (k : Int) = (k : Int) := by rw [IntKind.wrap_u64]; omega
      have hbit := bit_at y k hy
      have HS := Lib.hid (swU_succ (y : Int) k)
      have HLN : Hid ((swU (y : Int) (k + 1)).length = (swU (y : Int) k).length + 1) := Lib.hid (by rw [HS.out]; simp)
      have hln := swU_len (y : Int) k
      have HL := Lib.hid hln
      have hlb : (swU (y : Int) k).length ≤ 48 := by omega
      have HO := Lib.hid hO; have HB := Lib.hid hB
      have hsz1 := hB.size
      clear hO hB hln
      obtain ⟨z, hz⟩ : ∃ z, (y : Int) / 2 ^ k % 2 = z := ⟨_, rfl⟩
      rw [hz] at HS hbit
      clear hz
      go_wp2_with (at_builtin; refine wpList_append_own _ rfl _ _ 24 rfl w.heap.size 2 i0 (.int .i64 0) 1 8 Tryz.underlying24 HI.out HZ0.out HZ1.out HZ2.out rfl (by decide) _ _ _ rfl (HO.out.alloc _) ⟨wr.heap.size, 0, none⟩ 1 1 [.int .i64 z] rfl rfl ?c1 ?c2 ?c3 ?c4 ?c5 ?_)
      case c1 => exact cell_one_new _ _ _
      case c2 => intro u hu; simp at hu; subst hu; rfl
      case c3 => unfold maxLen; omega
      case c4 => omega
      case c5 => simp; omega
      intro v' w2 hown' hgrow _
      have hb2 := Lib.hid ((HB.out.alloc hsz1 (.cells #[.int .i64 z] 2)).grown hgrow (by simp; omega) (fun q hq => (HO.out.lt q hq).1))
      have hown2 : w2.ownsRow w.heap.size 2 1 v' (swU (y : Int) (k + 1)).length ((swU (y : Int) (k + 1)).map (Value.int .i64)) := by
        rw [HLN.out, HS.out, List.map_append]; exact hown'
      have hown1 := Lib.hid hown2
      clear hown' hgrow hown2 hsz1 hbit hcn
      go_wp2
      go_roundw
      case rel => exact ⟨k + 1, by omega, by go_num, hown1.out, hb2.out⟩
      case measure => simp [intOf]; omega
    · have hkl : k = n := by omega
      subst hkl
      have HG := Lib.hid (gives_of hO rfl rfl (Nat.le_refl _) hB)
      clear hO hB
      go_wp2
      go_ret
      exact HG.out
theorem made_intsx (w : World) (n : Nat) (hn : n ≤ 1048576) : (w.alloc (.cells (repC 0 0 n).toArray 2)).ownsRow w.heap.size 2 1 (.slice (some ⟨w.heap.size, 0, none⟩) n n) n ((List.replicate n 0).map (Value.int .i64)) := by
  have := own_lit (w := w) (base := w.heap.size) (n := n) (size := 1) (e := 2) (repC 0 0 n).toArray (Nat.le_refl _) (by unfold maxLen; omega) (by rw [List.size_toArray, repC_len (by omega)]; omega)
  rw [repC_zero] at this ⊢
  rw [List.map_replicate]
  exact this
theorem set_mid {xs : List Int} {n k : Nat} {v : Int} (hl : xs.length = k) (h : k < n) : (xs ++ List.replicate (n - k) 0).set k v = (xs ++ [v]) ++ List.replicate (n - (k + 1)) 0 := by
  subst hl
  rw [List.set_append_right _ _ (Nat.le_refl _), Nat.sub_self, show n - xs.length = (n - (xs.length + 1)) + 1 by omega, List.replicate_succ, List.set_cons_zero, List.append_assoc]
  rfl
set_option maxRecDepth 100000 in
set_option maxHeartbeats 2000000 in
theorem bits_any (n y : Nat) (w : World) (hn : n ≤ 48) (hy : y < 1048576) :
    Calls Tryz.prog 129 #[.int .u64 y, .int .i64 n] w (Gives w (swU y n)) := by
  obtain ⟨i0, hi0, hz0, hz1, hz2⟩ := info_parts info_i64
  have mk2 : ∀ wx : World, (Instr.makeSlice 24 (.int .i64 (n : Nat)) (.int .i64 (n : Nat))).run Tryz.prog wx = .ok (.slice (some ⟨wx.heap.size, 0, none⟩) n n) (wx.alloc (.cells (repC 0 0 n).toArray 2)) := fun wx => by
    have hr := run_make (P := Tryz.prog) wx 24 2 i0 (.int .i64 0) Tryz.underlying24 hi0 hz0 .i64 .i64 n n (by omega) (Int.le_refl _) (by rw [hz2]; omega) (by omega)
    simp only [Int.toNat_natCast, hz1] at hr
    rw [repC_zero, ← made1x]
    exact hr
  clear hi0 hz0 hz1 hz2
  have hown := made_intsx w n (by omega)
  have hb1 : Below w.heap.size w (w.alloc (.cells (repC 0 0 n).toArray 2)) := (Below.refl _ _).alloc (Nat.le_refl _) _
  obtain ⟨w1, hw1⟩ : ∃ u, u = w.alloc (.cells (repC 0 0 n).toArray 2) := ⟨_, rfl⟩
  obtain ⟨g, hg⟩ : ∃ g, w.heap.size = g := ⟨_, rfl⟩
  rw [← hw1] at hown hb1
  rw [hg] at hown
  have HG := Lib.hid hg
  have HW1 := Lib.hid hw1; have OW := Lib.hid hown; have HB1 := Lib.hid hb1
  clear hown hb1 hw1
  go_enter Tryz.func129, Tryz.ntmps129
  go_upto_region 2 with (fail)
  rw [← HW1.out]
  clear mk2 hg
  go_wp2
  go_loopw [11] (fun i wr => ∃ k : Nat, k ≤ n ∧ i = .int .i64 k ∧ wr.ownsRow g 2 1 (.slice (some ⟨g, 0, none⟩) n n) n ((swU (y : Int) k ++ List.replicate (n - k) 0).map (Value.int .i64)) ∧ Below w.heap.size w wr) (fun i _ => n - (intOf i).toNat)
  case atStart => exact ⟨0, Nat.zero_le _, rfl, OW.out, HB1.out⟩
  case round =>
    obtain ⟨k, hk, rfl, hO, hB⟩ := hrel
    clear OW HB1
    by_cases hlt : k < n
    · have hbit := bit_atu y k hy
      have HS := Lib.hid (swU_succ (y : Int) k)
      have HSM := Lib.hid (set_mid (v := (y : Int) / 2 ^ k % 2) (swU_len (y : Int) k) hlt)
      have hcl : (swU (y : Int) k ++ List.replicate (n - k) 0).length = n := by rw [List.length_append, swU_len, List.length_replicate]; omega
      have ca := hO.cellAt (g := g) k (by omega)
      have fa := hO.frozenAt (g := g) k
      obtain ⟨d0, e0⟩ : ∃ x, wr.cell? ⟨g, k, none⟩ = some x := ⟨_, ca.trans (List.getElem?_eq_getElem (by rw [List.length_map, hcl]; omega))⟩
      have hz01 : 0 ≤ (y : Int) / 2 ^ k % 2 ∧ (y : Int) / 2 ^ k % 2 ≤ 1 := by omega
      have hs1' := hO.stored k (.int .i64 ((y : Int) / 2 ^ k % 2))
      rw [← List.map_set, HSM.out, ← HS.out] at hs1'
      have OW5 := Lib.hid hs1'.1
      have BB5 := Lib.hid (hB.grown hs1'.2 (by have := hB.size; omega) (fun q hq => by injection hq with hq; have := HG.out; omega))
      have hwc : IntKind.i64.wrap ((y : Int) / 2 ^ k % 2) = (y : Int) / 2 ^ k % 2 := IntWalk.i64_in _ (by omega)
      clear hs1' hO hB ca hcl HS HSM
      obtain ⟨z, hz⟩ : ∃ z, (y : Int) / 2 ^ k % 2 = z := ⟨_, rfl⟩
      rw [hz] at OW5 BB5 hbit hwc hz01
      clear hz
      go_wp2
      go_roundw
      case rel => exact ⟨k + 1, by omega, by go_num, OW5.out, BB5.out⟩
      case measure => simp [intOf]; omega
    · have hkl : k = n := by omega
      subst hkl
      rw [Nat.sub_self, List.replicate_zero, List.append_nil] at hO
      have HGG : Hid (Gives w (swU (y : Int) k) (.returned (.slice (some ⟨g, 0, none⟩) k k)) wr) := Lib.hid ⟨some ⟨g, 0, none⟩, k, by rw [swU_len], by rw [swU_len]; exact hO.mono (by rw [HG.out]; exact Nat.le_refl _), hB⟩
      clear hO hB
      go_wp2
      go_ret
      exact HGG.out
end
section
set_option linter.unusedSimpArgs false
set_option linter.unusedVariables false
open Go.ChangeAt Go.ChangeShapes Go.RowKit Go.WideShapes

theorem setP_at {Q : List Int} {j i : Nat} {x : Int} (h : j < Q.length) : (Q.set j x).getD i 0 = if i = j then x else Q.getD i 0 := by
  by_cases e : i = j
  · subst e; simp [List.getD, h]
  · rw [if_neg e]; simp [List.getD, List.getElem?_set, Ne.symm e]
/-- The parts while one is being renamed. -/
def RenQ (P : List Int) (x y : Int) (j : Nat) (Q : List Int) : Prop := Q.length = P.length ∧ (∀ i, i < j → i < P.length → Q.getD i 0 = (renP P x y).getD i 0) ∧ ∀ i, j ≤ i → i < P.length → Q.getD i 0 = P.getD i 0
theorem RenQ.zero (P : List Int) (x y : Int) : RenQ P x y 0 P := ⟨rfl, fun i hi => absurd hi (by omega), fun _ _ _ => rfl⟩
theorem RenQ.hit {P Q : List Int} {x y : Int} {j : Nat} (h : RenQ P x y j Q) (hj : j < P.length) (e : Q.getD j 0 = y) : RenQ P x y (j + 1) (Q.set j x) := by
  obtain ⟨h1, h2, h3⟩ := h
  have e2 := h3 j (Nat.le_refl _) hj
  refine ⟨by rw [List.length_set, h1], fun i hi hl => ?_, fun i hi hl => ?_⟩
  · rw [setP_at (by omega)]
    by_cases q : i = j
    · subst q; rw [if_pos rfl, renP_at hj, if_pos (by rw [← e2]; exact e)]
    · rw [if_neg q]; exact h2 i (by omega) hl
  · rw [setP_at (by omega), if_neg (by omega)]; exact h3 i (by omega) hl
theorem RenQ.miss {P Q : List Int} {x y : Int} {j : Nat} (h : RenQ P x y j Q) (hj : j < P.length) (e : ¬ Q.getD j 0 = y) : RenQ P x y (j + 1) Q := by
  obtain ⟨h1, h2, h3⟩ := h
  have e2 := h3 j (Nat.le_refl _) hj
  refine ⟨h1, fun i hi hl => ?_, fun i hi hl => h3 i (by omega) hl⟩
  by_cases q : i = j
  · subst q; rw [renP_at hj, e2, if_neg (by rw [← e2]; exact e)]
  · exact h2 i (by omega) hl
theorem RenQ.done {P Q : List Int} {x y : Int} (h : RenQ P x y P.length Q) : Q = renP P x y := by
  obtain ⟨h1, h2, _⟩ := h
  have hr := renP_len P x y
  refine List.ext_getElem? fun i => ?_
  by_cases hi : i < P.length
  · have e := h2 i hi hi
    have q1 : i < Q.length := by omega
    have q2 : i < (renP P x y).length := by omega
    simp only [List.getD, List.getElem?_eq_getElem q1, List.getElem?_eq_getElem q2, Option.getD_some] at e
    rw [List.getElem?_eq_getElem q1, List.getElem?_eq_getElem q2, e]
  · rw [List.getElem?_eq_none (by omega), List.getElem?_eq_none (by omega)]
theorem own_int_at {w : World} {base n g cap : Nat} {P : List Int} (h : w.ownsRow base 2 1 (.slice (some ⟨g, 0, none⟩) n cap) n (P.map (Value.int .i64))) {i : Nat} (hi : i < n) : w.cell? ⟨g, i, none⟩ = some (.int .i64 (P.getD i 0)) := by
  have hl : P.length = n := by have := h.1; simpa using this
  have := h.cellAt (g := g) i (by omega)
  rw [this, List.getElem?_map]
  have hj2 : i < P.length := by omega
  simp [List.getD, hj2]
theorem own_shape1r {w : World} {base n : Nat} {e : TypeId} {v : Value} {xs : List Value} (h : w.ownsRow base e 1 v n xs) : ∃ A c, v = .slice A n c := by
  rcases h.2 with ⟨rfl, rfl⟩ | ⟨g, cap, cur, rfl, _, _, hn, _⟩
  · exact ⟨_, _, rfl⟩
  · exact ⟨_, _, rfl⟩
theorem parts0_succ (k : Nat) : parts0 (k + 1) = parts0 k ++ [(k : Int)] := by simp [parts0, List.range_succ]
set_option maxRecDepth 100000 in
set_option maxHeartbeats 1000000 in
theorem sRoots_any (n : Nat) (ar : List Ac) (B : Option Addr) (d : Nat) (w : World) (hn : n ≤ 1048576) (hl : ar.length ≤ 1048576) (hin : ArcsIn n ar) (r : RdA w w.heap.size B ar.length ar) :
    Calls Tryz.prog 76 #[.int .i64 n, .slice B ar.length d] w (GivesB w (runR n ar ar.length).1 (runR n ar ar.length).2) := by
  obtain ⟨i0, hi0, hz0, hz1, hz2⟩ := info_parts info_i64
  have HI := Lib.hid hi0; have HZ0 := Lib.hid hz0; have HZ1 := Lib.hid hz1; have HZ2 := Lib.hid hz2
  have HR := Lib.hid (fun (wx : World) (hx : Below w.heap.size w wx) => show RdA wx wx.heap.size B ar.length ar from (r.below hx).more hx.size)
  have HIN := Lib.hid (fun k (hk : k < ar.length) => hin _ (getL_mem (d := Ac.nil) hk))
  have HSU := Lib.hid (fun k (h : k < ar.length) => runR_succ (n := n) (ar := ar) (k := k) h)
  have HLR := Lib.hid (fun k (h : k ≤ ar.length) => runR_len n ar k h)
  have h0 : (w.alloc (.cells #[] 2)).ownsRow w.heap.size 2 1 (.slice (some ⟨w.heap.size, 0, none⟩) 0 0) 0 ((parts0 0).map (Value.int .i64)) := World.ownsRow_made w #[] 0 (Nat.le_refl _) (by simp [maxLen]) rfl
  have hb1 : Below w.heap.size w (w.alloc (.cells #[] 2)) := (Below.refl _ _).alloc (Nat.le_refl _) _
  have H0 := Lib.hid h0; have HB1 := Lib.hid hb1
  clear r hin hi0 hz0 hz1 hz2 h0 hb1
  go_enter Tryz.func76, Tryz.ntmps76
  go_wp2
  go_loopw [6, 7] (fun v i wx => ∃ k : Nat, k ≤ n ∧ i = .int .i64 k ∧ wx.ownsRow w.heap.size 2 1 v k ((parts0 k).map (Value.int .i64)) ∧ Below w.heap.size w wx) (fun _ i _ => n - (intOf i).toNat)
  case atStart => exact ⟨0, Nat.zero_le _, rfl, H0.out, HB1.out⟩
  case round =>
    obtain ⟨k, hk, rfl, hO, hB⟩ := hrel
    clear H0 HB1
    by_cases hlt : k < n
    · have HO := Lib.hid hO; have HB := Lib.hid hB
      have hsz1 := hB.size
      have HS := Lib.hid (parts0_succ k)
      clear hO hB
      go_wp2_with (at_builtin; refine wpList_append_own _ rfl _ _ 24 rfl w.heap.size 2 i0 (.int .i64 0) 1 8 Tryz.underlying24 HI.out HZ0.out HZ1.out HZ2.out rfl (by decide) _ _ _ rfl (HO.out.alloc _) ⟨wr.heap.size, 0, none⟩ 1 1 [.int .i64 k] rfl rfl ?c1 ?c2 ?c3 ?c4 ?c5 ?_)
      case c1 => exact cell_one_new _ _ _
      case c2 => intro u hu; simp at hu; subst hu; rfl
      case c3 => unfold maxLen; omega
      case c4 => omega
      case c5 => simp; omega
      intro v' w2 hown' hgrow _
      have hb2 := Lib.hid ((HB.out.alloc hsz1 (.cells #[.int .i64 k] 2)).grown hgrow (by simp; omega) (fun q hq => (HO.out.lt q hq).1))
      have hown2 : w2.ownsRow w.heap.size 2 1 v' (k + 1) ((parts0 (k + 1)).map (Value.int .i64)) := by
        rw [HS.out, List.map_append]; exact hown'
      have hown1 := Lib.hid hown2
      clear hown' hgrow hown2 hsz1
      go_wp2
      go_roundw
      case rel => exact ⟨k + 1, by omega, by go_num, hown1.out, hb2.out⟩
      case measure => simp [intOf]; omega
    · have hkn : k = n := by omega
      subst hkn
      obtain ⟨A, c, rfl⟩ := own_shape1r hO
      have O1 := Lib.hid hO; have B1 := Lib.hid hB
      clear hO hB HI HZ0 HZ1 HZ2
      go_wp2
      go_loopw [8, 9] (fun b i wx => ∃ q : Nat, q ≤ ar.length ∧ i = .int .i64 q ∧ b = .bool (runR k ar q).2 ∧ wx.ownsRow w.heap.size 2 1 (.slice A k c) k ((runR k ar q).1.map (Value.int .i64)) ∧ Below w.heap.size w wx) (fun _ i _ => ar.length - (intOf i).toNat)
      case atStart => exact ⟨0, Nat.zero_le _, rfl, rfl, O1.out, B1.out⟩
      case round =>
        obtain ⟨q, hq, rfl, rfl, hO, hB⟩ := hrel
        clear O1 B1
        by_cases hlt : q < ar.length
        · obtain ⟨b, off, hBe, hbb, hcells⟩ := (HR.out _ hB).at (by omega)
          subst hBe
          obtain ⟨x0, x1, x2⟩ := hcells q hlt
          obtain ⟨hf, ht⟩ := HIN.out q hlt
          have HSK := Lib.hid (HSU.out q hlt)
          obtain ⟨⟨aw, af, a3⟩, hl'⟩ : ∃ a, ar.getD q Ac.nil = a := ⟨_, rfl⟩
          rw [hl'] at x0 x1 x2 hf ht HSK
          dsimp only at x0 x1 x2 hf ht
          obtain ⟨_, hf2, ef⟩ := inW_yes hf
          obtain ⟨_, ht2, et⟩ := inW_yes ht
          obtain ⟨g, cap, hv, hbg, hgl⟩ := hO.form (by omega)
          have hA : A = some ⟨g, 0, none⟩ ∧ c = cap := by injection hv with a b c'; exact ⟨a, c'⟩
          obtain ⟨rfl, rfl⟩ := hA
          have hPl := HLR.out q hq
          have HST : Hid (runR k ar (q + 1) = (renP (runR k ar q).1 (min ((runR k ar q).1.getD af.toNat 0) ((runR k ar q).1.getD a3.toNat 0)) (max ((runR k ar q).1.getD af.toNat 0) ((runR k ar q).1.getD a3.toNat 0)), (runR k ar q).2 || decide ((runR k ar q).1.getD af.toNat 0 = (runR k ar q).1.getD a3.toNat 0))) := Lib.hid (by rw [HSK.out]; rfl)
          obtain ⟨⟨P, cy⟩, hrun⟩ : ∃ p, runR k ar q = p := ⟨_, rfl⟩
          rw [hrun] at hPl hO HST
          rw [hrun]
          dsimp only at hPl hO HST ⊢
          generalize hfn : af.toNat = fn at *
          generalize htn : a3.toNat = tn at *
          subst ef; subst et
          have p1 := own_int_at hO hf2
          have p2 := own_int_at hO ht2
          have HO2 := Lib.hid hO; have HB2 := Lib.hid hB
          have hfi : (fn : Int) < (k : Int) := by omega
          have hti : (tn : Int) < (k : Int) := by omega
          have hqa : (q : Int) < (ar.length : Int) := by omega
          have HSX := Lib.hid HST.out
          clear hcells hf ht hO hB hv HSK hl' hrun hfn htn HST
          generalize hx : P.getD fn 0 = x at *
          generalize hy : P.getD tn 0 = y at *
          have HDB : Hid (decide (x = y) = (x == y)) := Lib.hid rfl
          rw [HDB.out] at HSX
          clear hx hy
          go_upto_region 10 with (fail)
          go_quiet (fail)
          have hbq := below_drewN (Below.refl wr.heap.size wr) nq
          have HO3 : Hid ((wr.drewN nq).ownsRow w.heap.size 2 1 (.slice (some ⟨g, 0, none⟩) k c) k (P.map (Value.int .i64))) := Lib.hid (own_same HO2.out fun q e => hbq.block q (HO2.out.lt q e).2)
          have HB3 := Lib.hid (below_drewN HB2.out nq)
          clear hbq p1 p2 x0 x1 x2 HO2 HB2
          cases cy with
          | true =>
            go_wp2
            generalize wr.drewN nq = w2 at *
            go_loopw [12] (fun i wx => ∃ (j : Nat) (Q : List Int), j ≤ k ∧ i = .int .i64 j ∧ RenQ P (min x y) (max x y) j Q ∧ wx.ownsRow w.heap.size 2 1 (.slice (some ⟨g, 0, none⟩) k c) k (Q.map (Value.int .i64)) ∧ Below w.heap.size w wx) (fun i _ => k - (intOf i).toNat)
            case atStart => exact ⟨0, P, Nat.zero_le _, rfl, RenQ.zero P _ _, HO3.out, HB3.out⟩
            case round =>
              obtain ⟨j, Q, hj, rfl, hQ, hOq, hBq⟩ := hrel
              clear HO3 HB3
              by_cases hjn : j < k
              · have c0 := own_int_at hOq hjn
                have f0 := hOq.frozenAt (g := g) j
                have HH := Lib.hid (fun e => hQ.hit (by omega) e)
                have HM := Lib.hid (fun e => hQ.miss (by omega) e)
                have HOS := Lib.hid (by have q := (hOq.stored j (.int .i64 (min x y))).1; rw [← List.map_set] at q; exact q)
                have HBS := Lib.hid (hBq.setCell (p := ⟨g, j, none⟩) hbg (.int .i64 (min x y)))
                have HOQ := Lib.hid hOq; have HBQ := Lib.hid hBq
                generalize Q.getD j 0 = z at *
                clear hQ hOq hBq
                by_cases hz : z = max x y
                · have hd2 : (z == max x y) = true := by simp [hz]
                  have HQ2 := Lib.hid (HH.out hz)
                  clear hz
                  go_wp2
                  go_roundw
                  case rel => exact ⟨j + 1, _, by omega, by go_num, HQ2.out, HOS.out, HBS.out⟩
                  case measure => simp [intOf]; omega
                · have hd2 : (z == max x y) = false := by simp [hz]
                  have HQ2 := Lib.hid (HM.out hz)
                  clear hz
                  go_wp2
                  go_roundw
                  case rel => exact ⟨j + 1, _, by omega, by go_num, HQ2.out, HOQ.out, HBQ.out⟩
                  case measure => simp [intOf]; omega
              · have hjl : j = P.length := by omega
                have hQ2 : RenQ P (min x y) (max x y) P.length Q := by rw [← hjl]; exact hQ
                have hQd := RenQ.done hQ2
                subst hQd
                have HOQ : Hid (wr.ownsRow w.heap.size 2 1 (.slice (some ⟨g, 0, none⟩) k c) k ((runR k ar (q + 1)).1.map (Value.int .i64))) := Lib.hid (by rw [HSX.out]; exact hOq)
                have HBQ := Lib.hid hBq
                have HCB : Hid (true = (runR k ar (q + 1)).2) := Lib.hid (by rw [HSX.out]; first | rfl | simp)
                clear hQ hQ2 hOq hBq hjl
                go_wp2
                go_roundw
                case rel => exact ⟨q + 1, by omega, by go_num, by rw [← HCB.out], HOQ.out, HBQ.out⟩
                case measure => simp [intOf]; omega
          | false =>
            go_wp2
            generalize wr.drewN nq = w2 at *
            go_loopw [12] (fun i wx => ∃ (j : Nat) (Q : List Int), j ≤ k ∧ i = .int .i64 j ∧ RenQ P (min x y) (max x y) j Q ∧ wx.ownsRow w.heap.size 2 1 (.slice (some ⟨g, 0, none⟩) k c) k (Q.map (Value.int .i64)) ∧ Below w.heap.size w wx) (fun i _ => k - (intOf i).toNat)
            case atStart => exact ⟨0, P, Nat.zero_le _, rfl, RenQ.zero P _ _, HO3.out, HB3.out⟩
            case round =>
              obtain ⟨j, Q, hj, rfl, hQ, hOq, hBq⟩ := hrel
              clear HO3 HB3
              by_cases hjn : j < k
              · have c0 := own_int_at hOq hjn
                have f0 := hOq.frozenAt (g := g) j
                have HH := Lib.hid (fun e => hQ.hit (by omega) e)
                have HM := Lib.hid (fun e => hQ.miss (by omega) e)
                have HOS := Lib.hid (by have q := (hOq.stored j (.int .i64 (min x y))).1; rw [← List.map_set] at q; exact q)
                have HBS := Lib.hid (hBq.setCell (p := ⟨g, j, none⟩) hbg (.int .i64 (min x y)))
                have HOQ := Lib.hid hOq; have HBQ := Lib.hid hBq
                generalize Q.getD j 0 = z at *
                clear hQ hOq hBq
                by_cases hz : z = max x y
                · have hd2 : (z == max x y) = true := by simp [hz]
                  have HQ2 := Lib.hid (HH.out hz)
                  clear hz
                  go_wp2
                  go_roundw
                  case rel => exact ⟨j + 1, _, by omega, by go_num, HQ2.out, HOS.out, HBS.out⟩
                  case measure => simp [intOf]; omega
                · have hd2 : (z == max x y) = false := by simp [hz]
                  have HQ2 := Lib.hid (HM.out hz)
                  clear hz
                  go_wp2
                  go_roundw
                  case rel => exact ⟨j + 1, _, by omega, by go_num, HQ2.out, HOQ.out, HBQ.out⟩
                  case measure => simp [intOf]; omega
              · have hjl : j = P.length := by omega
                have hQ2 : RenQ P (min x y) (max x y) P.length Q := by rw [← hjl]; exact hQ
                have hQd := RenQ.done hQ2
                subst hQd
                have HOQ : Hid (wr.ownsRow w.heap.size 2 1 (.slice (some ⟨g, 0, none⟩) k c) k ((runR k ar (q + 1)).1.map (Value.int .i64))) := Lib.hid (by rw [HSX.out]; exact hOq)
                have HBQ := Lib.hid hBq
                have HCB : Hid ((x == y) = (runR k ar (q + 1)).2) := Lib.hid (by rw [HSX.out]; first | rfl | simp)
                clear hQ hQ2 hOq hBq hjl
                go_wp2
                go_roundw
                case rel => exact ⟨q + 1, by omega, by go_num, by rw [← HCB.out], HOQ.out, HBQ.out⟩
                case measure => simp [intOf]; omega
        · have hqe : q = ar.length := by omega
          subst hqe
          have hPl := HLR.out ar.length (Nat.le_refl _)
          have HG : Hid (GivesB w (runR k ar ar.length).1 (runR k ar ar.length).2 (.returned (.tuple #[.slice A k c, .bool (runR k ar ar.length).2])) wr) := Lib.hid (by
            refine ⟨A, c, by rw [hPl], ?_, hB⟩
            rw [hPl]; exact hO)
          clear hO hB hPl
          go_wp2
          go_ret2
          exact HG.out
end
section
set_option linter.unusedSimpArgs false
set_option linter.unusedVariables false
open Go.ChangeAt Go.ChangeShapes Go.RowKit Go.WideShapes

theorem rdI_pair (w : World) (x y : Int) : RdI (w.alloc (.cells #[.int .i64 x, .int .i64 y] 2)) (w.alloc (.cells #[.int .i64 x, .int .i64 y] 2)).heap.size (some ⟨w.heap.size, 0, none⟩) 2 [x, y] := by
  have hg := heap_alloc_new w (.cells #[.int .i64 x, .int .i64 y] 2 (0, 0))
  have x0 := cell_of_row _ _ 0 _ _ (0, 0) hg
  have x1 := cell_of_row _ _ 1 _ _ (0, 0) hg
  simp only [List.getElem?_toArray, List.getElem?_cons_zero, List.getElem?_cons_succ] at x0 x1
  refine ⟨rfl, fun _ => ⟨w.heap.size, 0, rfl, by simp, fun j hj => ?_⟩⟩
  match j, hj with
  | 0, _ => exact x0
  | 1, _ => exact x1
theorem stepA_ne {s : Nat} {a : Ac} (h : decide (s &&& orS [a.f, a.t] = 0) = false) : stepA s a = s ||| orS [a.f, a.t] := by
  unfold stepA; rw [if_pos (of_decide_eq_false h)]
theorem stepA_eq {s : Nat} {a : Ac} (h : decide (s &&& orS [a.f, a.t] = 0) = true) : stepA s a = s := by
  unfold stepA; rw [if_neg (fun q => q (of_decide_eq_true h))]
set_option maxRecDepth 100000 in
set_option maxHeartbeats 1000000 in
theorem connectedBy_any (A : Option Addr) (c : Nat) (ar : List Ac) (s : Nat) (w : World) (hs : s < 18446744073709551616) (hl : ar.length ≤ 1048576) (hin : ∀ a ∈ ar, -1 ≤ a.f ∧ a.f ≤ 1048576 ∧ -1 ≤ a.t ∧ a.t ≤ 1048576) (r : RdA w w.heap.size A ar.length ar) :
    Calls Tryz.prog 82 #[.slice A ar.length c, .int .u64 s] w fun e w' => e = .returned (.int .u64 ((conS ar s : Nat) : Int)) ∧ Below w.heap.size w w' := by
  have HR := Lib.hid (fun (wx : World) (hx : Below w.heap.size w wx) => show RdA wx wx.heap.size A ar.length ar from (r.below hx).more hx.size)
  have HLT := Lib.hid (fun i j (hj : j ≤ ar.length) => passU_lt (conU_lt (ar := ar) hs i) j hj)
  have HLU := Lib.hid (fun i => conU_lt (ar := ar) hs i)
  have HIN := Lib.hid hin
  have HE : Hid (conU ar s ar.length = conS ar s) := Lib.hid rfl
  have HS0 : Hid ((s : Int) = ((conU ar s 0 : Nat) : Int)) := Lib.hid rfl
  have HP0 : Hid (∀ i, ((conU ar s i : Nat) : Int) = ((passU ar (conU ar s i) 0 : Nat) : Int)) := Lib.hid fun i => rfl
  have HPN : Hid (∀ i, ((passU ar (conU ar s i) ar.length : Nat) : Int) = ((conU ar s (i + 1) : Nat) : Int)) := Lib.hid fun i => rfl
  clear r hin hs
  go_enter Tryz.func82, Tryz.ntmps82
  go_wp2
  go_loopw [1, 10] (fun v i wx => ∃ k : Nat, k ≤ ar.length ∧ i = .int .i64 k ∧ v = .int .u64 ((conU ar s k : Nat) : Int) ∧ Below w.heap.size w wx) (fun _ i _ => ar.length - (intOf i).toNat)
  case atStart => exact ⟨0, Nat.zero_le _, rfl, by rw [HS0.out], Below.refl _ _⟩
  case round =>
    obtain ⟨k, hk, rfl, rfl, hB⟩ := hrel
    have HB := Lib.hid hB
    clear hB
    by_cases hlt : k < ar.length
    · have HP0k := Lib.hid (HP0.out k); have HPNk := Lib.hid (HPN.out k)
      have HLk := Lib.hid (fun j hj => HLT.out k j hj)
      generalize conU ar s k = s0 at *
      have hki : (k : Int) < (ar.length : Int) := by omega
      go_wp2
      go_loopw [1, 14] (fun v i wx => ∃ j : Nat, j ≤ ar.length ∧ i = .int .i64 j ∧ v = .int .u64 ((passU ar s0 j : Nat) : Int) ∧ Below w.heap.size w wx) (fun _ i _ => ar.length - (intOf i).toNat)
      case atStart => exact ⟨0, Nat.zero_le _, rfl, by rw [HP0k.out], HB.out⟩
      case round =>
        rename World => wy
        obtain ⟨j, hj, rfl, rfl, hB⟩ := hrel
        by_cases hjt : j < ar.length
        · obtain ⟨b, off, hAe, hbb, hcells⟩ := (HR.out _ hB).at (by omega)
          obtain ⟨x0, x1, x2⟩ := hcells j hjt
          have hji : (j : Int) < (ar.length : Int) := by omega
          have hst := passU_succ (ar := ar) (s := s0) hjt
          have hm := HIN.out _ (getL_mem (d := Ac.nil) hjt)
          have HLj := Lib.hid (HLk.out j hj)
          generalize passU ar s0 j = t at *
          obtain ⟨⟨aw, af, at'⟩, ha⟩ : ∃ a, ar.getD j Ac.nil = a := ⟨_, rfl⟩
          rw [ha] at x0 x1 x2 hst hm
          dsimp only at x0 x1 x2 hm
          have HBy := Lib.hid hB
          obtain ⟨u1, hu1⟩ : ∃ u, u = wy.alloc (.cells #[.int .i64 aw, .int .i64 af, .int .i64 at'] 85) := ⟨_, rfl⟩
          have bl : Below wy.heap.size wy u1 := by rw [hu1]; exact (Below.refl _ _).alloc (Nat.le_refl _) _
          have gl : u1.heap[wy.heap.size]? = some (.cells #[.int .i64 aw, .int .i64 af, .int .i64 at'] 85 (0, 0)) := by rw [hu1]; exact heap_alloc_new _ _
          have z0 := cell_of_row _ _ 0 _ _ (0, 0) gl
          have z1 := cell_of_row _ _ 1 _ _ (0, 0) gl
          have z2 := cell_of_row _ _ 2 _ _ (0, 0) gl
          simp only [List.getElem?_toArray, List.getElem?_cons_zero, List.getElem?_cons_succ] at z0 z1 z2
          have B1 := Lib.hid (HBy.out.trans (bl.mono HBy.out.size))
          obtain ⟨E, hE⟩ : ∃ E, orS [af, at'] = E := ⟨_, rfl⟩
          have hEl : E < 18446744073709551616 := by rw [← hE]; exact orS_lt _
          have HSO := Lib.hid (fun (wx : World) => show Calls Tryz.prog 70 #[.slice (some ⟨wx.heap.size, 0, none⟩) 2 2] (wx.alloc (.cells #[.int .i64 af, .int .i64 at'] 2)) fun e w' => e = .returned (.int .u64 ((E : Nat) : Int)) ∧ wx.alloc (.cells #[.int .i64 af, .int .i64 at'] 2) = w' from by
            rw [← hE]
            exact setOf_any _ 2 [af, at'] _ (rdI_pair wx af at') (by simp) (fun x hx => by
              rcases List.mem_cons.1 hx with rfl | hx
              · exact ⟨hm.1, hm.2.1⟩
              · rw [List.mem_singleton.1 hx]; exact ⟨hm.2.2.1, hm.2.2.2⟩))
          have HU1 := Lib.hid hu1
          have HMT := Lib.hid (fun (wx : World) => meetsS_any t E wx HLj.out hEl)
          have HUN := Lib.hid (fun (wx : World) => union_any t E wx HLj.out hEl)
          have HSY : Hid (decide (t &&& E = 0) = false → passU ar s0 (j + 1) = t ||| E) := Lib.hid fun e => by rw [hst, stepA_ne (by rw [hE]; exact e), hE]
          have HSN : Hid (decide (t &&& E = 0) = true → passU ar s0 (j + 1) = t) := Lib.hid fun e => by rw [hst, stepA_eq (by rw [hE]; exact e)]
          generalize decide (t &&& E = 0) = apart at *
          clear hcells hst hm ha hu1 bl gl hE hB
          subst hAe
          go_upto_region 6 with (fail)
          rw [← HU1.out]
          clear x0 x1 x2
          have B2 := Lib.hid (B1.out.alloc B1.out.size (.cells #[.int .i64 af, .int .i64 at'] 2))
          go_wp2_with (fail)
          refine (HSO.out u1).mono ?_
          rintro e w2 ⟨rfl, hw2⟩
          rw [hw2] at B2
          clear z0 z1 z2 hw2
          go_wp2_with (fail)
          refine (HMT.out w2).mono ?_
          rintro e w3 ⟨rfl, hw3⟩
          subst hw3
          cases apart with
          | true =>
            have S2 := Lib.hid (HSN.out rfl)
            go_wp2
            go_roundw
            case rel => exact ⟨j + 1, by omega, by go_num, by rw [S2.out], B2.out⟩
            case measure => simp [intOf]; omega
          | false =>
            have S2 := Lib.hid (HSY.out rfl)
            go_wp2_with (fail)
            refine (HUN.out w2).mono ?_
            rintro e w4 ⟨rfl, hw4⟩
            subst hw4
            go_wp2
            go_roundw
            case rel => exact ⟨j + 1, by omega, by go_num, by rw [S2.out], B2.out⟩
            case measure => simp [intOf]; omega
        · have hjl : j = ar.length := by omega
          subst hjl
          go_wp2
          go_roundw
          case rel => exact ⟨k + 1, by omega, by go_num, by rw [HPNk.out], hB⟩
          case measure => simp [intOf]; omega
    · have hkl : k = ar.length := by omega
      subst hkl
      go_wp2
      go_ret
      exact ⟨ret_u64 HE.out, HB.out⟩
end
end Go.Proofs.YtfdpkhiiboghiaaGreatDoor
