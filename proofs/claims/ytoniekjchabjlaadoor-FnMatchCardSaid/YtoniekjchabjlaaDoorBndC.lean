/- The program's IsBinding, atomOf, forSymbol. -/
import Derived.Test.YtoniekjchabjlaaDoorBndB
import Derived.Test.YtoniekjchabjlaaDoorDual
import Derived.Deep.QuietTactic
namespace Go.Proofs.YtoniekjchabjlaaDoor
open Go.ChangeAt Go.ChangeShapes Go.RowKit Go.WideShapes

/-- A variable of a binding's own: laid, then filled. -/
theorem bnd_var {w0 w1 : World} {cs : Array Value} {qs : List (List Int)} (hb : Below w0.heap.size w0 w1) (h : BndV w1 cs qs) :
    (w1.alloc (.cells #[Value.slice none 0 0, Value.slice none 0 0, Value.slice none 0 0, Value.slice none 0 0, Value.slice none 0 0, Value.slice none 0 0, Value.slice none 0 0, Value.slice none 0 0] 62)).heap[w1.heap.size]? = some (.cells #[Value.slice none 0 0, Value.slice none 0 0, Value.slice none 0 0, Value.slice none 0 0, Value.slice none 0 0, Value.slice none 0 0, Value.slice none 0 0, Value.slice none 0 0] 62 (0, 0)) ∧
    ∃ w2, w2 = (w1.alloc (.cells #[Value.slice none 0 0, Value.slice none 0 0, Value.slice none 0 0, Value.slice none 0 0, Value.slice none 0 0, Value.slice none 0 0, Value.slice none 0 0, Value.slice none 0 0] 62)).setRow w1.heap.size cs ∧ w2.heap[w1.heap.size]? = some (.cells cs 62 (0, 0)) ∧ BndV w2 cs qs ∧ Below w0.heap.size w0 w2 ∧ w2.heap.size = w1.heap.size + 1 := by
  have e := heap_alloc_new w1 (.cells #[Value.slice none 0 0, Value.slice none 0 0, Value.slice none 0 0, Value.slice none 0 0, Value.slice none 0 0, Value.slice none 0 0, Value.slice none 0 0, Value.slice none 0 0] 62)
  have b1 : Below w1.heap.size w1 ((w1.alloc (.cells #[Value.slice none 0 0, Value.slice none 0 0, Value.slice none 0 0, Value.slice none 0 0, Value.slice none 0 0, Value.slice none 0 0, Value.slice none 0 0, Value.slice none 0 0] 62)).setRow w1.heap.size cs) := below_setRow ((Below.refl _ _).alloc (Nat.le_refl _) _) (Nat.le_refl _) _
  exact ⟨e, _, rfl, setRow_heap _ _ _ cs _ _ e, h.below b1, hb.trans (b1.mono hb.size), by simp [World.setRow]⟩

set_option maxRecDepth 100000 in
set_option maxHeartbeats 4000000 in
theorem isBinding_impl (A : Option Addr) (n c : Nat) (qs : List (List Int)) (w : World) (h : RdQ w w.heap.size A n qs) (hn : n ≤ 1048576) (ht : Arit w) :
    Calls Tryd.prog 17 #[.slice A n c] w fun e w' => e = .returned (.bool (bndB qs)) ∧ Below w.heap.size w w' := by
  have HC := Lib.hid (bindingOf_any A n c qs w h hn ht)
  clear h
  go_enter Tryd.func17, Tryd.ntmps17
  go_wp2_with (fail)
  refine HC.out.mono ?_
  rintro e w1 ⟨cs, rfl, o1, b1⟩
  obtain ⟨hg, w2, hw2, hg2, o2, b2, hs2⟩ := bnd_var b1 o1
  have HG := Lib.hid hg; have HO1 := Lib.hid o1; have HB2 := Lib.hid b2; have HW2 := Lib.hid hw2
  clear hg hw2 hg2 o2 b2 hs2 o1 b1
  go_wp2_with (refine wpList_store_row rfl _ _ _ rfl w1.heap.size _ rfl rfl _ _ HG.out (by rw [HO1.out.size]; exact size_bnd) HO1.out.size.symm HO1.out.one ?_; rw [← HW2.out])
  go_ret
  exact ⟨rfl, HB2.out⟩

set_option maxRecDepth 100000 in
set_option maxHeartbeats 4000000 in
theorem atomOf_any (x : Int) (w : World) (hx : leafB x = true) : Calls Tryd.prog 72 #[.int .i64 x] w fun e w' => e = .returned (.int .i64 (x.natAbs : Nat)) ∧ w = w' := by
  have hr := leaf_range hx
  have hneg : IntKind.i64.wrap (-x) = -x := IntWalk.i64_in _ (by omega)
  have hmx : max x (-x) = ((x.natAbs : Nat) : Int) := by omega
  go_enter Tryd.func72, Tryd.ntmps72
  go_wp2_with (fail)
  go_ret
  exact ⟨rfl, rfl⟩

theorem rd_one (w : World) (x : Int) : RdI (w.alloc (.cells #[Value.int .i64 x] 2)) (w.alloc (.cells #[Value.int .i64 x] 2)).heap.size (some ⟨w.heap.size, 0, none⟩) 1 [x] :=
  ⟨rfl, fun _ => ⟨w.heap.size, 0, rfl, by simp, fun j hj => by
    have e : j = 0 := by simp at hj; omega
    subst e
    simp⟩⟩
/-- What forSymbol leaves: a slice that reads as X, of whomever. -/
def GivesR (w : World) (X : List Int) (e : Ending) (w' : World) : Prop :=
  ∃ A c, e = .returned (.slice A X.length c) ∧ RdI w' w'.heap.size A X.length X ∧ X.length ≤ c ∧ Below w.heap.size w w'

set_option maxRecDepth 100000 in
set_option maxHeartbeats 4000000 in
theorem forSymbol_any (cs : Array Value) (qs : List (List Int)) (x : Int) (w : World) (h : BndV w cs qs) (hok : ∀ k, elB (qs.getD k []) = true) (ht : Arit w) (hu : Dual w) :
    Calls Tryd.prog 59 #[.agg cs, .int .i64 x] w (GivesR w (sub1 qs x)) := by
  obtain ⟨w2, hw2⟩ : ∃ w2, w2 = w.alloc (.cells cs 62) := ⟨_, rfl⟩
  have hb2 : Below w.heap.size w w2 := by rw [hw2]; exact (Below.refl _ _).alloc (Nat.le_refl _) _
  have hg2 : w2.heap[w.heap.size]? = some (.cells cs 62 (0, 0)) := by rw [hw2]; exact heap_alloc_new _ _
  have hs2 : w2.heap.size = w.heap.size + 1 := by rw [hw2]; simp
  have HW2 := Lib.hid hw2; have HB2 := Lib.hid hb2; have HG2 := Lib.hid hg2; have HS2 := Lib.hid hs2; have HV := Lib.hid h; have HOK := Lib.hid hok
  clear hw2 hb2 hg2 hs2 h hok
  have HNEW := Lib.hid (rd_one w2 x)
  have HBN := Lib.hid (HB2.out.alloc HB2.out.size (.cells #[Value.int .i64 x] 2))
  cases hl : leafB x with
  | false =>
    have e1 : sub1 qs x = [x] := by unfold sub1; rw [if_neg (by rw [hl]; simp)]
    rw [e1]
    clear e1
    go_enter Tryd.func59, Tryd.ntmps59
    go_wp2_with (fail)
    rw [← HW2.out]
    go_wp2_with (go_at_call 56; refine (isLeaf_any x _).mono ?_; rintro e w' ⟨rfl, rfl⟩; rw [hl])
    go_ret
    exact ⟨_, _, rfl, HNEW.out, Nat.le_refl _, HBN.out⟩
  | true =>
    obtain ⟨j, hj⟩ : ∃ j : Nat, j = x.natAbs - 1 := ⟨_, rfl⟩
    have hr := leaf_range hl
    have hidx : IntKind.i64.wrap (((x.natAbs : Nat) : Int) - 1) = (j : Int) := by
      rw [IntWalk.i64_in _ (by omega)]; omega
    have hj8 : j < 8 := by omega
    obtain ⟨A', c', hcell, hcc, hrd⟩ := HV.out.part j hj8
    have hc2 : w2.cell? ⟨w.heap.size, j, none⟩ = some (.slice A' (qs.getD j []).length c') := (cell_of_row _ _ j _ _ _ HG2.out).trans hcell
    have HRD := Lib.hid ((hrd.below HB2.out).more HB2.out.size)
    have hel : elt qs x = qs.getD j [] := by unfold elt; rw [hj]
    have hE := HOK.out j
    have HS : Hid (sub1 qs x = if 0 < (qs.getD j []).length then (if 0 < x then qs.getD j [] else dualL (qs.getD j [])) else [x]) := Lib.hid (by
      unfold sub1
      rw [hel]
      by_cases h0 : 0 < (qs.getD j []).length
      · rw [if_pos ⟨hl, h0⟩, if_pos h0]
      · rw [if_neg (fun h => h0 h.2), if_neg h0])
    have HD := Lib.hid (dualOf_impl A' _ c' _ w2 HRD.out (ht.below HB2.out ht.lt) (hu.below HB2.out hu.lt) hcc)
    have hj8' : (j : Int) < 8 := by omega
    have hl24 := elB_len hE
    have hne : x ≠ 0 := by omega
    have HL := Lib.hid hl
    have hlw : Hid (leafB x = true) := Lib.hid hl
    clear hcell hrd hel hj hE hr
    generalize qs.getD j [] = E at *
    go_enter Tryd.func59, Tryd.ntmps59
    go_wp2_with (fail)
    rw [← HW2.out]
    by_cases h0 : 0 < E.length
    · have hz : ((E.length : Int) == 0) = false := beq_eq_false_iff_ne.2 (by omega)
      by_cases hx0 : 0 < x
      · have hd : decide (x < 0) = false := decide_eq_false (by omega)
        have HX : Hid (sub1 qs x = E) := Lib.hid (by rw [HS.out, if_pos h0, if_pos hx0])
        clear HS HD
        go_wp2_with (first | (go_at_call 56; refine (isLeaf_any x _).mono ?_; rintro e w' ⟨rfl, rfl⟩; rw [HL.out]) | (go_at_call 72; refine (atomOf_any x _ HL.out).mono ?_; rintro e w' ⟨rfl, rfl⟩))
        go_ret
        exact ⟨A', c', by rw [HX.out]; rfl, by rw [HX.out]; exact HRD.out, by rw [HX.out]; exact hcc, HB2.out⟩
      · have hd : decide (x < 0) = true := decide_eq_true (by omega)
        have HX : Hid (sub1 qs x = dualL E) := Lib.hid (by rw [HS.out, if_pos h0, if_neg hx0])
        clear HS
        obtain ⟨D, hD⟩ : ∃ D, dualL E = D := ⟨_, rfl⟩
        rw [hD] at HX HD
        clear hD
        go_wp2_with (first | (go_at_call 56; refine (isLeaf_any x _).mono ?_; rintro e w' ⟨rfl, rfl⟩; rw [HL.out]) | (go_at_call 72; refine (atomOf_any x _ HL.out).mono ?_; rintro e w' ⟨rfl, rfl⟩) | (go_at_call 14; refine HD.out.mono ?_; rintro e w3 ⟨A3, c3, rfl, o3, bel3⟩))
        have HO3 := Lib.hid (RdI.of_own o3); have HC3 := Lib.hid (own_cap o3).1; have HB3 := Lib.hid (HB2.out.trans (bel3.mono HB2.out.size))
        clear o3 bel3
        go_wp2
        go_ret
        exact ⟨A3, c3, by rw [HX.out]; rfl, by rw [HX.out]; exact HO3.out, by rw [HX.out]; exact HC3.out, HB3.out⟩
    · have hz : ((E.length : Int) == 0) = true := beq_iff_eq.2 (by omega)
      have HX : Hid (sub1 qs x = [x]) := Lib.hid (by rw [HS.out, if_neg h0])
      clear HS HD
      go_wp2_with (first | (go_at_call 56; refine (isLeaf_any x _).mono ?_; rintro e w' ⟨rfl, rfl⟩; rw [HL.out]) | (go_at_call 72; refine (atomOf_any x _ HL.out).mono ?_; rintro e w' ⟨rfl, rfl⟩))
      go_ret
      exact ⟨_, _, by rw [HX.out]; rfl, by rw [HX.out]; exact HNEW.out, by rw [HX.out]; exact Nat.le_refl _, HBN.out⟩
end Go.Proofs.YtoniekjchabjlaaDoor
