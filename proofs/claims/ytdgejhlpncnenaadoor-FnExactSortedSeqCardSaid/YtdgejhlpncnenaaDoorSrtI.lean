/- sort.Sort at a row of at most ten formulas in the order of FormBefore: Len, Less and Swap of byFormBefore, sort.insertionSort, sort.pdqsort, sort.Sort. -/
import Derived.Test.YtdgejhlpncnenaaDoorOrd
import Derived.Test.YtdgejhlpncnenaaDoorCmp
import Derived.Test.YtdgejhlpncnenaaDoorSrc
namespace Go.Proofs.YtdgejhlpncnenaaDoor
open Go.ChangeShapes Go.WideShapes Go.ChangeAt Go.RowKit

theorem hv_is (hs : Nat → Option Addr × Nat) (qs : List (List Int)) (i : Nat) : hv hs qs i = .slice (hs i).1 (qs.getD i []).length (hs i).2 := rfl

set_option maxHeartbeats 1000000 in
theorem len_any (A : Option Addr) (n c : Nat) (w : World) : Calls Tryd.prog 189 #[.slice A n c] w fun e w' => e = .returned (.int .i64 n) ∧ w' = w := by
  go_enter Tryd.func189, Tryd.ntmps189
  go_wp2
  go_ret
  exact ⟨rfl, rfl⟩

set_option maxHeartbeats 1000000 in
theorem less_any (lo hi g n c i j : Nat) (hs : Nat → Option Addr × Nat) (cur : List (List Int)) (w : World) (ho : OwnQ w lo hi (.slice (some ⟨g, 0, none⟩) n c) hs cur) (hn : cur.length = n) (hi' : i < n) (hj' : j < n) (hv' : ∀ q ∈ cur, validB q = true) (ht : Arit w) :
    Calls Tryd.prog 190 #[.slice (some ⟨g, 0, none⟩) n c, .int .i64 i, .int .i64 j] w fun e w' => e = .returned (.bool (decide (cmpL (cur.getD i []) (cur.getD j []) < 0))) ∧ Below w.heap.size w w' := by
  subst hn
  have ci := (ho.at rfl hi').2
  have cj := (ho.at rfl hj').2
  have HF := Lib.hid (formBefore_impl (hs i).1 (hs j).1 _ _ (hs i).2 (hs j).2 _ _ w.drew (RdI.of_own (ho.inner i hi')) (RdI.of_own (ho.inner j hj')) ht (own_cap (ho.inner i hi')).1 (own_cap (ho.inner j hj')).1)
  rw [show befB (cur.getD i []) (cur.getD j []) = decide (cmpL (cur.getD i []) (cur.getD j []) < 0) from by unfold befB; rw [hv' _ (getD_mem hi'), hv' _ (getD_mem hj')]; rfl] at HF
  rw [hv_is] at ci cj
  have di : (i : Int) < (cur.length : Int) := by omega
  have dj : (j : Int) < (cur.length : Int) := by omega
  clear ho ht hv'
  generalize (cur.getD i []).length = li at *
  generalize (cur.getD j []).length = lj at *
  generalize decide (cmpL (cur.getD i []) (cur.getD j []) < 0) = R at *
  generalize cur.length = n at *
  generalize (hs i).1 = A1 at *; generalize (hs i).2 = c1 at *; generalize (hs j).1 = A2 at *; generalize (hs j).2 = c2 at *
  go_enter Tryd.func190, Tryd.ntmps190
  go_wp2_with (fail)
  go_region_with (go_at_call 13; refine HF.out.mono ?_; rintro e w' ⟨rfl, bel'⟩; have bel := undrew bel'; clear bel')
  all_goals go_wp2
  all_goals go_ret
  all_goals exact ⟨rfl, bel⟩

set_option maxHeartbeats 1000000 in
theorem swap_any (lo hi g n c i j : Nat) (hs : Nat → Option Addr × Nat) (cur : List (List Int)) (w : World) (ho : OwnQ w lo hi (.slice (some ⟨g, 0, none⟩) n c) hs cur) (hn : cur.length = n) (hi' : i < n) (hj' : j < n) :
    Calls Tryd.prog 191 #[.slice (some ⟨g, 0, none⟩) n c, .int .i64 i, .int .i64 j] w fun e w' => e = .returned (.tuple #[]) ∧ OwnQ w' lo hi (.slice (some ⟨g, 0, none⟩) n c) (swh hs i j) (swp cur i j) ∧ w.grownBy w' (some g) := by
  obtain ⟨fI, cI⟩ := ho.at hn hi'
  obtain ⟨fJ, cJ⟩ := ho.at hn hj'
  subst hn
  have hy : ∃ y, (w.setCell ⟨g, i, none⟩ (hv hs cur j)).cell? ⟨g, j, none⟩ = some y := by
    have := (ho.outer.stored i (hv hs cur j)).1.cellAt j (by omega)
    rw [this]
    exact ⟨_, List.getElem?_eq_getElem (by simp [rowV_len]; exact hj')⟩
  obtain ⟨y, hy⟩ := hy
  have hsw := Lib.hid (ho.swap rfl hi' hj')
  have hbl : Hid (w.grownBy ((w.setCell ⟨g, i, none⟩ (hv hs cur j)).setCell ⟨g, j, none⟩ (hv hs cur i)) (some g)) := Lib.hid ⟨rfl, rfl, rfl, by simp, fun k _ hne => (Below.heap_setCell _ _ _ _ (fun e => hne (by rw [e]))).trans (Below.heap_setCell _ _ _ _ (fun e => hne (by rw [e])))⟩
  have di : (i : Int) < (cur.length : Int) := by omega
  have dj : (j : Int) < (cur.length : Int) := by omega
  have EI : ∃ x y z, hv hs cur i = .slice x y z := ⟨_, _, _, rfl⟩
  have EJ : ∃ x y z, hv hs cur j = .slice x y z := ⟨_, _, _, rfl⟩
  clear ho
  generalize hv hs cur i = vI at *
  generalize hv hs cur j = vJ at *
  obtain ⟨xI, yI, zI, rfl⟩ := EI
  obtain ⟨xJ, yJ, zJ, rfl⟩ := EJ
  go_enter Tryd.func191, Tryd.ntmps191
  go_region
  all_goals go_wp2
  all_goals go_end0
  all_goals exact ⟨rfl, hsw.out.same (fun _ _ _ _ => rfl), grownBy_drewN hbl.out 1⟩
end Go.Proofs.YtdgejhlpncnenaaDoor
