/- The parts of links in a box of their own: isFired, partOf, add, unite. -/
import Derived.Test.YtgpocnapkflihaaDoorPaD
import Derived.Maps.AppendAt
import Derived.Deep.RegionHeldLaw
import Derived.Deep.DeepCutAuto
import Derived.BigQuiet
namespace Go.Proofs.YtgpocnapkflihaaDoor
set_option linter.unusedSimpArgs false
set_option linter.unusedVariables false
open Go.ChangeAt Go.ChangeShapes Go.RowKit Go.WideShapes

theorem npA_cnt {T : List Int} {c : Int} (hT : T.length = 48) : (npA T c)[48]? = some (.int .i64 c) := by simp [npA, List.getElem?_append, hT]
theorem npA_setT {T : List Int} {c : Int} {k : Nat} (hT : T.length = 48) (hk : k < 48) (v : Int) : (npA T c).setIfInBounds k (.int .i64 v) = npA (T.set k v) c := by
  unfold npA
  rw [List.setIfInBounds_toArray, List.set_append_left _ _ (by rw [List.length_map, hT]; omega), ← List.map_set]
theorem npA_setC {T : List Int} {c : Int} (hT : T.length = 48) (v : Int) : (npA T c).setIfInBounds 48 (.int .i64 v) = npA T v := by
  unfold npA
  rw [List.setIfInBounds_toArray, List.set_append_right _ _ (by rw [List.length_map, hT]; omega), List.length_map, hT]
  rfl
/-- The parts in block g. -/
def LpB (w : World) (g : Nat) (T : List Int) (c : Int) : Prop := w.heap[g]? = some (.cells (npA T c) 74 (0, 0))
section
variable {w w' : World} {g : Nat} {T : List Int} {c : Int}
theorem LpB.lt (h : LpB w g T c) : g < w.heap.size := (Array.getElem?_eq_some_iff.1 h).1
theorem LpB.keep (h : LpB w g T c) (hb : w'.heap[g]? = w.heap[g]?) : LpB w' g T c := hb.trans h
theorem LpB.below (h : LpB w g T c) (hb : Below w.heap.size w w') : LpB w' g T c := (hb.block g h.lt).trans h
theorem LpB.tab (h : LpB w g T c) (hT : T.length = 48) {k : Nat} (hk : k < 48) : w.cell? ⟨g, k, none⟩ = some (.int .i64 (T.getD k 0)) := (cell_of_row _ _ _ _ _ (0, 0) h).trans (npA_at hT hk)
theorem LpB.cnt (h : LpB w g T c) (hT : T.length = 48) : w.cell? ⟨g, 48, none⟩ = some (.int .i64 c) := (cell_of_row _ _ _ _ _ (0, 0) h).trans (npA_cnt hT)
theorem LpB.frozen (h : LpB w g T c) (i : Nat) : w.frozen? ⟨g, i, none⟩ = false := frozen_of_row _ _ i _ _ h
theorem LpB.setT (h : LpB w g T c) (hT : T.length = 48) {k : Nat} (hk : k < 48) (v : Int) : LpB (w.setCell ⟨g, k, none⟩ (.int .i64 v)) g (T.set k v) c := by
  have := heap_setCell_same w g k _ _ (.int .i64 v) h
  rw [npA_setT hT hk] at this; exact this
theorem LpB.setC (h : LpB w g T c) (hT : T.length = 48) (v : Int) : LpB (w.setCell ⟨g, 48, none⟩ (.int .i64 v)) g T v := by
  have := heap_setCell_same w g 48 _ _ (.int .i64 v) h
  rw [npA_setC hT] at this; exact this
theorem LpB.drew (h : LpB w g T c) (n : Nat) : LpB (w.drewN n) g T c := h
end
/-- isFired, at a table that lies at some place. -/
theorem isFiredQ_any (g : Nat) (v : Int) (k : Nat) (w : World) (x0 : w.cell? ⟨g, k, none⟩ = some (.int .i64 v)) (hk : k < 48) :
    Calls Tryd.prog 100 #[.pointer (some ⟨g, 0, none⟩), .int .i64 k] w fun e w' => e = .returned (.bool (v != -1)) ∧ w = w' := by
  have hi : (k : Int) < 48 := by omega
  clear hk
  go_enter Tryd.func100, Tryd.ntmps100
  go_wp2
  go_ret
  exact ⟨rfl, rfl⟩
set_option maxRecDepth 100000 in
set_option maxHeartbeats 1000000 in
/-- partOf: the part of a link. -/
theorem partOfQ_any (g : Nat) (T : List Int) (c : Int) (Q : Nat → Int) (k : Nat) (w : World) (hP : LpB w g T c) (U : Uf T Q) (hk : k < 48) :
    Calls Tryd.prog 73 #[.pointer (some ⟨g, 0, none⟩), .int .i64 k] w fun e w' => e = .returned (.int .i64 (Q k)) ∧ w = w' := by
  have HT := Lib.hid (fun (j : Nat) (hj : j < 48) => hP.tab U.len hj)
  have HU := Lib.hid U
  clear hP U
  go_enter Tryd.func73, Tryd.ntmps73
  go_wp2
  go_loopw [1] (fun i wr => ∃ j : Nat, j < 48 ∧ i = .int .i64 j ∧ Q j = Q k ∧ w = wr) (fun i _ => (intOf i).toNat)
  case atStart => exact ⟨k, hk, rfl, rfl, rfl⟩
  case round =>
    obtain ⟨j, hj, rfl, hq, rfl⟩ := hrel
    have x0 := HT.out j hj
    have hi : (j : Int) < 48 := by omega
    by_cases hm : Q j = -1
    · rw [HU.out.out j hj hm] at x0
      have HE : Hid ((-1 : Int) = Q k) := Lib.hid (hm.symm.trans hq)
      clear hm hq
      go_wp2_with (fail)
      refine (isFiredQ_any _ (-1) j _ x0 hj).mono ?_
      rintro e w1 ⟨rfl, rfl⟩
      have d1 : ((-1 : Int) != -1) = false := rfl
      rw [d1]
      go_wp2
      go_ret
      exact ⟨ret_i64 HE.out, rfl⟩
    · obtain ⟨i, i1, i2, i3, i4⟩ := HU.out.inn j hj hm
      rw [i1] at x0
      have d1 : ((i : Int) != -1) = true := by simp
      have HF := Lib.hid (isFiredQ_any g (i : Int) j w x0 hj)
      by_cases hij : i = j
      · subst hij
        have d2 : ((i : Int) != (i : Int)) = false := by simp
        have HE : Hid ((i : Int) = Q k) := Lib.hid ((i4 rfl).symm.trans hq)
        clear hm hq i1 i2 i3 i4
        go_wp2_with (fail)
        refine HF.out.mono ?_
        rintro e w1 ⟨rfl, rfl⟩
        rw [d1]
        go_wp2
        go_ret
        exact ⟨ret_i64 HE.out, rfl⟩
      · have d2 : ((i : Int) != (j : Int)) = true := by simp; omega
        have HQ : Hid (Q i = Q k) := Lib.hid (i3.trans hq)
        clear hm hq i1 i3 i4
        go_wp2_with (fail)
        refine HF.out.mono ?_
        rintro e w1 ⟨rfl, rfl⟩
        rw [d1]
        go_wp2
        go_roundw
        case rel => exact ⟨i, by omega, rfl, HQ.out, by first | rfl | trivial⟩
        case measure => simp [intOf]; omega
set_option maxHeartbeats 1000000 in
/-- add: a link becomes a part of its own. -/
theorem addQ_any (g : Nat) (T : List Int) (c : Int) (f : Nat) (w : World) (hP : LpB w g T c) (hT : T.length = 48) (hf : f < 48) (hc : 0 ≤ c ∧ c ≤ 48) :
    Calls Tryd.prog 94 #[.pointer (some ⟨g, 0, none⟩), .int .i64 f] w fun e w' => e = .returned (.tuple #[]) ∧ LpB w' g (T.set f (f : Int)) (c + 1) ∧ KeptS (fun k => k = g) w w' := by
  have x0 := hP.tab hT hf
  have f0 := hP.frozen f
  have hi : (f : Int) < 48 := by omega
  have h1 := hP.setT hT hf (f : Int)
  have hT1 : (T.set f (f : Int)).length = 48 := by rw [List.length_set]; exact hT
  have x1 := h1.cnt hT1
  have f1 := h1.frozen 48
  have hw : IntKind.i64.wrap (c + 1) = c + 1 := IntWalk.i64_in _ (by omega)
  have H2 := Lib.hid (h1.setC hT1 (c + 1))
  have HK := Lib.hid ((kept_set w g f (.int .i64 (f : Int))).trans (kept_set (w.setCell ⟨g, f, none⟩ (.int .i64 (f : Int))) g 48 (.int .i64 (c + 1))))
  clear hP hT h1 hT1 hc
  generalize T.getD f 0 = v at x0
  go_enter Tryd.func94, Tryd.ntmps94
  go_wp2
  refine bodyPost_end (results_none rfl _ _ _) rfl ?_
  exact ⟨rfl, H2.out, HK.out⟩
set_option maxRecDepth 100000 in
set_option maxHeartbeats 1000000 in
/-- unite: the parts of two links become one. -/
theorem uniteQ_any (g : Nat) (T : List Int) (Q : Nat → Int) (a b : Nat) (w : World) (hP : LpB w g T (cntQ Q)) (U : Uf T Q) (ha : a < 48) (hb : b < 48) (hqa : Q a ≠ -1) (hqb : Q b ≠ -1) :
    Calls Tryd.prog 95 #[.pointer (some ⟨g, 0, none⟩), .int .i64 a, .int .i64 b] w fun e w' => e = .returned (.tuple #[]) ∧ ∃ T', LpB w' g T' (cntQ (uniQ Q a b)) ∧ Uf T' (uniQ Q a b) ∧ KeptS (fun k => k = g) w w' := by
  have HA := Lib.hid (fun n => quiet_sm (partOfQ_any g T (cntQ Q) Q a (w.drewN n) (hP.drew n) U ha))
  have HB := Lib.hid (fun n => quiet_sm (partOfQ_any g T (cntQ Q) Q b (w.drewN n) (hP.drew n) U hb))
  have HKN := Lib.hid (fun n => KeptS.of_below (S := fun k => k = g) (below_drewN (Below.refl w.heap.size w) n))
  have HP := Lib.hid hP
  have hpn : ∀ k, Q k ≠ -1 → ∃ r : Nat, Q k = (r : Int) ∧ (k < 48 → r < 48) := fun k hk => by
    rcases U.rep k with e | ⟨r, r1, r2, _⟩
    · exact absurd e hk
    · exact ⟨r, r1, fun h => by omega⟩
  by_cases he : Q a = Q b
  · have d1 : (Q a == Q b) = true := by simpa using he
    have HE : Hid (∀ w', LpB w' g T (cntQ Q) → KeptS (fun k => k = g) w w' → ∃ T', LpB w' g T' (cntQ (uniQ Q a b)) ∧ Uf T' (uniQ Q a b) ∧ KeptS (fun k => k = g) w w') := Lib.hid fun w' h1 h2 => ⟨T, by rw [uniQ_same he]; exact h1, by rw [uniQ_same he]; exact U, h2⟩
    clear hP U hqa hqb he hpn
    generalize Q a = A at d1 HA
    generalize Q b = B at d1 HB
    go_enter Tryd.func95, Tryd.ntmps95
    go_upto_region 0 with (fail)
    go_quiet (first | (go_at_call 73; first | with_reducible exact HA.out _ | with_reducible exact HB.out _))
    have HEE := Lib.hid (HE.out _ (HP.out.drew nq) (HKN.out nq))
    go_wp2
    first | refine bodyPost_ret (results_none rfl _ _ _) rfl ?_ | refine bodyPost_end (results_none rfl _ _ _) rfl ?_
    exact ⟨rfl, HEE.out⟩
  · have d1 : (Q a == Q b) = false := by simpa using he
    obtain ⟨p, hp, hp8⟩ := hpn a hqa
    obtain ⟨q, hq, hq8⟩ := hpn b hqb
    have hU := U.unite hqa hqb ha hb he
    obtain ⟨m, n, hmx, hmn, hm8⟩ : ∃ m n : Nat, max (Q a) (Q b) = (m : Int) ∧ min (Q a) (Q b) = (n : Int) ∧ m < 48 := ⟨max p q, min p q, by omega, by omega, by have := hp8 ha; have := hq8 hb; omega⟩
    rw [hmx, hmn, Int.toNat_natCast] at hU
    have hT := U.len
    have hT1 : (T.set m (n : Int)).length = 48 := by rw [List.length_set]; exact hT
    have hcb := cntQ_le Q
    have hwr : IntKind.i64.wrap (cntQ Q - 1) = cntQ Q - 1 := IntWalk.i64_in _ (by omega)
    have HX0 := Lib.hid (fun k => (hP.drew k).tab hT hm8)
    have HF0 := Lib.hid (fun k => (hP.drew k).frozen m)
    have HX1 := Lib.hid (fun k => ((hP.drew k).setT hT hm8 (n : Int)).cnt hT1)
    have HF1 := Lib.hid (fun k => ((hP.drew k).setT hT hm8 (n : Int)).frozen 48)
    have HE : Hid (∀ k, ∃ T', LpB (((w.drewN k).setCell ⟨g, m, none⟩ (.int .i64 n)).setCell ⟨g, 48, none⟩ (.int .i64 (cntQ Q - 1))) g T' (cntQ (uniQ Q a b)) ∧ Uf T' (uniQ Q a b) ∧ KeptS (fun k => k = g) w (((w.drewN k).setCell ⟨g, m, none⟩ (.int .i64 n)).setCell ⟨g, 48, none⟩ (.int .i64 (cntQ Q - 1)))) := Lib.hid fun k =>
      ⟨T.set m (n : Int), by rw [hU.2]; exact ((hP.drew k).setT hT hm8 (n : Int)).setC hT1 (cntQ Q - 1), hU.1, ((HKN.out k).trans (kept_set _ _ _ _)).trans (kept_set _ _ _ _)⟩
    have hmi : (m : Int) < 48 := by omega
    clear hP U hqa hqb he hpn hp hp8 hq hq8 hU hT hT1 hcb HP HKN
    generalize T.getD m 0 = tm at HX0
    generalize uniQ Q a b = Q2 at *
    generalize cntQ Q = c at *
    generalize Q a = A at *
    generalize Q b = B at *
    go_enter Tryd.func95, Tryd.ntmps95
    go_upto_region 0 with (fail)
    go_quiet (first | (go_at_call 73; first | with_reducible exact HA.out _ | with_reducible exact HB.out _))
    have x0 := HX0.out nq
    have f0 := HF0.out nq
    have x1 := HX1.out nq
    have f1 := HF1.out nq
    have HEE := Lib.hid (HE.out nq)
    clear HX0 HF0 HX1 HF1 HE
    generalize w.drewN nq = w1 at *
    go_wp2
    refine bodyPost_end (results_none rfl _ _ _) rfl ?_
    exact ⟨rfl, HEE.out⟩
end Go.Proofs.YtgpocnapkflihaaDoor
