/- The parsing of a net in memory: its box; isFired, partOf, add, unite. -/
import Derived.Test.YtgpocnapkflihaaDoorPaM
import Derived.Test.YtgpocnapkflihaaDoorLxP
import Derived.Maps.AppendAt
import Derived.Deep.RegionHeldLaw
import Derived.Deep.DeepCutAuto
import Derived.BigQuiet
namespace Go.Proofs.YtgpocnapkflihaaDoor
set_option linter.unusedSimpArgs false
set_option linter.unusedVariables false
open Go.ChangeAt Go.ChangeShapes Go.RowKit Go.WideShapes

/-- The cells of a parsing. -/
def pzA (X Y Z : Value) (T : List Int) (c : Int) (F : Value) : Array Value := (X :: Y :: Z :: (T.map (Value.int .i64) ++ [.int .i64 c, F])).toArray
section
variable {X Y Z F : Value} {T : List Int} {c : Int}
theorem pzA_tab {k : Nat} (hT : T.length = 48) (hk : k < 48) : (pzA X Y Z T c F)[3 + k]? = some (.int .i64 (T.getD k 0)) := by
  have e : 3 + k = k + 1 + 1 + 1 := by omega
  have hk2 : k < T.length := by omega
  simp [pzA, e, List.getElem?_append, hT, hk, hk2, List.getD]
theorem pzA_cnt (hT : T.length = 48) : (pzA X Y Z T c F)[51]? = some (.int .i64 c) := by simp [pzA, List.getElem?_append, hT]
theorem pzA_row (hT : T.length = 48) : (pzA X Y Z T c F)[52]? = some F := by simp [pzA, List.getElem?_append, hT]
theorem pzA_setT {k : Nat} (hT : T.length = 48) (hk : k < 48) (v : Int) : (pzA X Y Z T c F).setIfInBounds (3 + k) (.int .i64 v) = pzA X Y Z (T.set k v) c F := by
  have e : 3 + k = k + 1 + 1 + 1 := by omega
  unfold pzA
  rw [List.setIfInBounds_toArray, e]
  simp only [List.set_cons_succ]
  rw [List.set_append_left _ _ (by rw [List.length_map]; omega), List.map_set]
theorem pzA_setC (hT : T.length = 48) (v : Int) : (pzA X Y Z T c F).setIfInBounds 51 (.int .i64 v) = pzA X Y Z T v F := by
  unfold pzA
  rw [List.setIfInBounds_toArray, show 51 = 48 + 1 + 1 + 1 by omega]
  simp only [List.set_cons_succ]
  rw [List.set_append_right _ _ (by rw [List.length_map]; omega), List.length_map, hT]
  simp
theorem pzA_setF (hT : T.length = 48) (v : Value) : (pzA X Y Z T c F).setIfInBounds 52 v = pzA X Y Z T c v := by
  unfold pzA
  rw [List.setIfInBounds_toArray, show 52 = 49 + 1 + 1 + 1 by omega]
  simp only [List.set_cons_succ]
  rw [List.set_append_right _ _ (by rw [List.length_map]; omega), List.length_map, hT]
  simp
end
/-- The parsing in block g. -/
def PzB (w : World) (g : Nat) (X Y Z : Value) (T : List Int) (c : Int) (F : Value) : Prop := w.heap[g]? = some (.cells (pzA X Y Z T c F) 76 (0, 0))
section
variable {w w' : World} {g : Nat} {X Y Z F : Value} {T : List Int} {c : Int}
theorem PzB.lt (h : PzB w g X Y Z T c F) : g < w.heap.size := (Array.getElem?_eq_some_iff.1 h).1
theorem PzB.keep (h : PzB w g X Y Z T c F) (hb : w'.heap[g]? = w.heap[g]?) : PzB w' g X Y Z T c F := hb.trans h
theorem PzB.three (h : PzB w g X Y Z T c F) : w.cell? ⟨g, 0, none⟩ = some X ∧ w.cell? ⟨g, 1, none⟩ = some Y ∧ w.cell? ⟨g, 2, none⟩ = some Z :=
  ⟨cell_of_row _ _ 0 _ _ (0, 0) h, cell_of_row _ _ 1 _ _ (0, 0) h, cell_of_row _ _ 2 _ _ (0, 0) h⟩
theorem PzB.tab (h : PzB w g X Y Z T c F) (hT : T.length = 48) {k : Nat} (hk : k < 48) : w.cell? ⟨g, 3 + k, none⟩ = some (.int .i64 (T.getD k 0)) := (cell_of_row _ _ _ _ _ (0, 0) h).trans (pzA_tab hT hk)
theorem PzB.cnt (h : PzB w g X Y Z T c F) (hT : T.length = 48) : w.cell? ⟨g, 51, none⟩ = some (.int .i64 c) := (cell_of_row _ _ _ _ _ (0, 0) h).trans (pzA_cnt hT)
theorem PzB.row (h : PzB w g X Y Z T c F) (hT : T.length = 48) : w.cell? ⟨g, 52, none⟩ = some F := (cell_of_row _ _ _ _ _ (0, 0) h).trans (pzA_row hT)
theorem PzB.frozen (h : PzB w g X Y Z T c F) (i : Nat) : w.frozen? ⟨g, i, none⟩ = false := frozen_of_row _ _ i _ _ h
theorem PzB.setT (h : PzB w g X Y Z T c F) (hT : T.length = 48) {k : Nat} (hk : k < 48) (v : Int) : PzB (w.setCell ⟨g, 3 + k, none⟩ (.int .i64 v)) g X Y Z (T.set k v) c F := by
  have := heap_setCell_same w g (3 + k) _ _ (.int .i64 v) h
  rw [pzA_setT hT hk] at this; exact this
theorem PzB.setC (h : PzB w g X Y Z T c F) (hT : T.length = 48) (v : Int) : PzB (w.setCell ⟨g, 51, none⟩ (.int .i64 v)) g X Y Z T v F := by
  have := heap_setCell_same w g 51 _ _ (.int .i64 v) h
  rw [pzA_setC hT] at this; exact this
theorem PzB.setF (h : PzB w g X Y Z T c F) (hT : T.length = 48) (v : Value) : PzB (w.setCell ⟨g, 52, none⟩ v) g X Y Z T c v := by
  have := heap_setCell_same w g 52 _ _ v h
  rw [pzA_setF hT] at this; exact this
end
theorem kept_set (w : World) (g i : Nat) (v : Value) : KeptS (fun k => k = g) w (w.setCell ⟨g, i, none⟩ v) :=
  KeptS.mk rfl rfl rfl ((Below.refl g w).setCell (p := ⟨g, i, none⟩) (Nat.le_refl _) _).size fun p _ hp => Below.heap_setCell _ _ _ _ hp
/-- isFired, at a table that lies at some place. -/
theorem isFired_any (g o : Nat) (v : Int) (k : Nat) (w : World) (x0 : w.cell? ⟨g, o + k, none⟩ = some (.int .i64 v)) (hk : k < 48) :
    Calls Tryd.prog 100 #[.pointer (some ⟨g, o, none⟩), .int .i64 k] w fun e w' => e = .returned (.bool (v != -1)) ∧ w = w' := by
  have hi : (k : Int) < 48 := by omega
  clear hk
  go_enter Tryd.func100, Tryd.ntmps100
  go_wp2
  go_ret
  exact ⟨rfl, rfl⟩
set_option maxRecDepth 100000 in
set_option maxHeartbeats 1000000 in
/-- partOf: the part of a link. -/
theorem partOf_any (g : Nat) (X Y Z F : Value) (T : List Int) (c : Int) (Q : Nat → Int) (k : Nat) (w : World) (hP : PzB w g X Y Z T c F) (U : Uf T Q) (hk : k < 48) :
    Calls Tryd.prog 73 #[.pointer (some ⟨g, 3, none⟩), .int .i64 k] w fun e w' => e = .returned (.int .i64 (Q k)) ∧ w = w' := by
  have HT := Lib.hid (fun (j : Nat) (hj : j < 48) => hP.tab U.len hj)
  have HU := Lib.hid U
  clear hP U
  go_enter Tryd.func73, Tryd.ntmps73
  go_wp2
  go_loopw [1] (fun i wr => ∃ j : Nat, j < 48 ∧ i = .int .i64 j ∧ Q j = Q k ∧ w = wr) (fun i _ => (intOf i).toNat)
  case atStart => exact ⟨k, hk, rfl, rfl, rfl⟩
  case round =>
    obtain ⟨j, hj, rfl, hq, rfl⟩ := hrel
    have x0 := HT.out j hj
    have hi : (j : Int) < 48 := by omega
    by_cases hm : Q j = -1
    · rw [HU.out.out j hj hm] at x0
      have HE : Hid ((-1 : Int) = Q k) := Lib.hid (hm.symm.trans hq)
      clear hm hq
      go_wp2_with (fail)
      refine (isFired_any _ 3 (-1) j _ x0 hj).mono ?_
      rintro e w1 ⟨rfl, rfl⟩
      have d1 : ((-1 : Int) != -1) = false := rfl
      rw [d1]
      go_wp2
      go_ret
      exact ⟨ret_i64 HE.out, rfl⟩
    · obtain ⟨i, i1, i2, i3, i4⟩ := HU.out.inn j hj hm
      rw [i1] at x0
      have d1 : ((i : Int) != -1) = true := by simp
      have HF := Lib.hid (isFired_any g 3 (i : Int) j w x0 hj)
      by_cases hij : i = j
      · subst hij
        have d2 : ((i : Int) != (i : Int)) = false := by simp
        have HE : Hid ((i : Int) = Q k) := Lib.hid ((i4 rfl).symm.trans hq)
        clear hm hq i1 i2 i3 i4
        go_wp2_with (fail)
        refine HF.out.mono ?_
        rintro e w1 ⟨rfl, rfl⟩
        rw [d1]
        go_wp2
        go_ret
        exact ⟨ret_i64 HE.out, rfl⟩
      · have d2 : ((i : Int) != (j : Int)) = true := by simp; omega
        have HQ : Hid (Q i = Q k) := Lib.hid (i3.trans hq)
        clear hm hq i1 i3 i4
        go_wp2_with (fail)
        refine HF.out.mono ?_
        rintro e w1 ⟨rfl, rfl⟩
        rw [d1]
        go_wp2
        go_roundw
        case rel => exact ⟨i, by omega, rfl, HQ.out, by first | rfl | trivial⟩
        case measure => simp [intOf]; omega
set_option maxHeartbeats 1000000 in
/-- add: a link becomes a part of its own. -/
theorem addL_any (g : Nat) (X Y Z F : Value) (T : List Int) (c : Int) (f : Nat) (w : World) (hP : PzB w g X Y Z T c F) (hT : T.length = 48) (hf : f < 48) (hc : 0 ≤ c ∧ c ≤ 48) :
    Calls Tryd.prog 94 #[.pointer (some ⟨g, 3, none⟩), .int .i64 f] w fun e w' => e = .returned (.tuple #[]) ∧ PzB w' g X Y Z (T.set f (f : Int)) (c + 1) F ∧ KeptS (fun k => k = g) w w' := by
  have x0 := hP.tab hT hf
  have f0 := hP.frozen (3 + f)
  have hi : (f : Int) < 48 := by omega
  have h1 := hP.setT hT hf (f : Int)
  have hT1 : (T.set f (f : Int)).length = 48 := by rw [List.length_set]; exact hT
  have x1 := h1.cnt hT1
  have f1 := h1.frozen 51
  have hw : IntKind.i64.wrap (c + 1) = c + 1 := IntWalk.i64_in _ (by omega)
  have H2 := Lib.hid (h1.setC hT1 (c + 1))
  have HK := Lib.hid ((kept_set w g (3 + f) (.int .i64 (f : Int))).trans (kept_set (w.setCell ⟨g, 3 + f, none⟩ (.int .i64 (f : Int))) g 51 (.int .i64 (c + 1))))
  clear hP hT h1 hT1 hc
  generalize T.getD f 0 = v at x0
  go_enter Tryd.func94, Tryd.ntmps94
  go_wp2
  refine bodyPost_end (results_none rfl _ _ _) rfl ?_
  exact ⟨rfl, H2.out, HK.out⟩
theorem uniQ_same {Q : Nat → Int} {a b : Nat} (h : Q a = Q b) : uniQ Q a b = Q := by
  funext k
  unfold uniQ
  rw [h, Int.max_self, Int.min_self]
  split
  · omega
  · rfl
theorem quiet_sm {P : Program} {f : FuncId} {args : Array Value} {w : World} {n : Nat} {v : Value} (h : Calls P f args (w.drewN n) fun e w' => e = .returned v ∧ w.drewN n = w') :
    Calls P f args (w.drewN n) fun e w'' => e = .returned v ∧ ∃ m, w'' = w.drewN m := h.mono fun _ _ ⟨he, hm⟩ => ⟨he, n, hm.symm⟩
theorem PzB.drew {w : World} {g : Nat} {X Y Z F : Value} {T : List Int} {c : Int} (h : PzB w g X Y Z T c F) (n : Nat) : PzB (w.drewN n) g X Y Z T c F := h
set_option maxRecDepth 100000 in
set_option maxHeartbeats 1000000 in
/-- unite: the parts of two links become one. -/
theorem unite_any (g : Nat) (X Y Z F : Value) (T : List Int) (Q : Nat → Int) (a b : Nat) (w : World) (hP : PzB w g X Y Z T (cntQ Q) F) (U : Uf T Q) (ha : a < 48) (hb : b < 48) (hqa : Q a ≠ -1) (hqb : Q b ≠ -1) :
    Calls Tryd.prog 95 #[.pointer (some ⟨g, 3, none⟩), .int .i64 a, .int .i64 b] w fun e w' => e = .returned (.tuple #[]) ∧ ∃ T', PzB w' g X Y Z T' (cntQ (uniQ Q a b)) F ∧ Uf T' (uniQ Q a b) ∧ KeptS (fun k => k = g) w w' := by
  have HA := Lib.hid (fun n => quiet_sm (partOf_any g X Y Z F T (cntQ Q) Q a (w.drewN n) (hP.drew n) U ha))
  have HB := Lib.hid (fun n => quiet_sm (partOf_any g X Y Z F T (cntQ Q) Q b (w.drewN n) (hP.drew n) U hb))
  have HKN := Lib.hid (fun n => KeptS.of_below (S := fun k => k = g) (below_drewN (Below.refl w.heap.size w) n))
  have HP := Lib.hid hP
  have hpn : ∀ k, Q k ≠ -1 → ∃ r : Nat, Q k = (r : Int) ∧ (k < 48 → r < 48) := fun k hk => by
    rcases U.rep k with e | ⟨r, r1, r2, _⟩
    · exact absurd e hk
    · exact ⟨r, r1, fun h => by omega⟩
  by_cases he : Q a = Q b
  · have d1 : (Q a == Q b) = true := by simpa using he
    have HE : Hid (∀ w', PzB w' g X Y Z T (cntQ Q) F → KeptS (fun k => k = g) w w' → ∃ T', PzB w' g X Y Z T' (cntQ (uniQ Q a b)) F ∧ Uf T' (uniQ Q a b) ∧ KeptS (fun k => k = g) w w') := Lib.hid fun w' h1 h2 => ⟨T, by rw [uniQ_same he]; exact h1, by rw [uniQ_same he]; exact U, h2⟩
    clear hP U hqa hqb he hpn
    generalize Q a = A at d1 HA
    generalize Q b = B at d1 HB
    go_enter Tryd.func95, Tryd.ntmps95
    go_upto_region 0 with (fail)
    go_quiet (first | (go_at_call 73; first | with_reducible exact HA.out _ | with_reducible exact HB.out _))
    have HEE := Lib.hid (HE.out _ (HP.out.drew nq) (HKN.out nq))
    go_wp2
    first | refine bodyPost_ret (results_none rfl _ _ _) rfl ?_ | refine bodyPost_end (results_none rfl _ _ _) rfl ?_
    exact ⟨rfl, HEE.out⟩
  · have d1 : (Q a == Q b) = false := by simpa using he
    obtain ⟨p, hp, hp8⟩ := hpn a hqa
    obtain ⟨q, hq, hq8⟩ := hpn b hqb
    have hU := U.unite hqa hqb ha hb he
    obtain ⟨m, n, hmx, hmn, hm8⟩ : ∃ m n : Nat, max (Q a) (Q b) = (m : Int) ∧ min (Q a) (Q b) = (n : Int) ∧ m < 48 := ⟨max p q, min p q, by omega, by omega, by have := hp8 ha; have := hq8 hb; omega⟩
    rw [hmx, hmn, Int.toNat_natCast] at hU
    have hT := U.len
    have hT1 : (T.set m (n : Int)).length = 48 := by rw [List.length_set]; exact hT
    have hcb := cntQ_le Q
    have hwr : IntKind.i64.wrap (cntQ Q - 1) = cntQ Q - 1 := IntWalk.i64_in _ (by omega)
    have HX0 := Lib.hid (fun k => (hP.drew k).tab hT hm8)
    have HF0 := Lib.hid (fun k => (hP.drew k).frozen (3 + m))
    have HX1 := Lib.hid (fun k => ((hP.drew k).setT hT hm8 (n : Int)).cnt hT1)
    have HF1 := Lib.hid (fun k => ((hP.drew k).setT hT hm8 (n : Int)).frozen 51)
    have HE : Hid (∀ k, ∃ T', PzB (((w.drewN k).setCell ⟨g, 3 + m, none⟩ (.int .i64 n)).setCell ⟨g, 51, none⟩ (.int .i64 (cntQ Q - 1))) g X Y Z T' (cntQ (uniQ Q a b)) F ∧ Uf T' (uniQ Q a b) ∧ KeptS (fun k => k = g) w (((w.drewN k).setCell ⟨g, 3 + m, none⟩ (.int .i64 n)).setCell ⟨g, 51, none⟩ (.int .i64 (cntQ Q - 1)))) := Lib.hid fun k =>
      ⟨T.set m (n : Int), by rw [hU.2]; exact ((hP.drew k).setT hT hm8 (n : Int)).setC hT1 (cntQ Q - 1), hU.1, ((HKN.out k).trans (kept_set _ _ _ _)).trans (kept_set _ _ _ _)⟩
    have hmi : (m : Int) < 48 := by omega
    clear hP U hqa hqb he hpn hp hp8 hq hq8 hU hT hT1 hcb HP HKN
    generalize T.getD m 0 = tm at HX0
    generalize uniQ Q a b = Q2 at *
    generalize cntQ Q = c at *
    generalize Q a = A at *
    generalize Q b = B at *
    go_enter Tryd.func95, Tryd.ntmps95
    go_upto_region 0 with (fail)
    go_quiet (first | (go_at_call 73; first | with_reducible exact HA.out _ | with_reducible exact HB.out _))
    have x0 := HX0.out nq
    have f0 := HF0.out nq
    have x1 := HX1.out nq
    have f1 := HF1.out nq
    have HEE := Lib.hid (HE.out nq)
    clear HX0 HF0 HX1 HF1 HE
    generalize w.drewN nq = w1 at *
    go_wp2
    refine bodyPost_end (results_none rfl _ _ _) rfl ?_
    exact ⟨rfl, HEE.out⟩
end Go.Proofs.YtgpocnapkflihaaDoor
