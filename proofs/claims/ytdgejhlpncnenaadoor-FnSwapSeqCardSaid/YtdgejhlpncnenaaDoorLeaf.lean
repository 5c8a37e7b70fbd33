/- The small functions on symbols: what each returns, the world left as it was. -/
import Derived.Test.YtdgejhlpncnenaaDoorRows
import Derived.Test.YtdgejhlpncnenaaDoorMath
import Derived.WalkKit
import Derived.WalkSpells
import Derived.WalkLawsBesides
import Derived.BigQuiet
import Derived.Deep.QuietTactic
import Derived.Lib.LaidTab
namespace Go.Proofs.YtdgejhlpncnenaaDoor
open Go.RowKit

/-- The world holds the table of the operators' numbers of operands. -/
def Arit (w : World) : Prop := ∀ i, i < 19 → w.cell? ⟨0, i, none⟩ = some (.int .i64 (arTab.getD i 0))
theorem Arit.same {w w' : World} (h : Arit w) (hc : ∀ i, w'.cell? ⟨0, i, none⟩ = w.cell? ⟨0, i, none⟩) : Arit w' := fun i hi => (hc i).trans (h i hi)
theorem Arit.lt {w : World} (h : Arit w) : 0 < w.heap.size := World.block_lt_of_cell? w _ (h 0 (by omega))
theorem Arit.below {w w' : World} {B : Nat} (h : Arit w) (hb : Below B w w') (hB : 0 < B) : Arit w' := h.same fun _ => hb.cell hB

/-- The world holds the table of the operators' duals. -/
def Dual (w : World) : Prop := ∀ i, i < 19 → w.cell? ⟨1, i, none⟩ = some (.int .i64 (duTab.getD i 0))
theorem Dual.lt {w : World} (h : Dual w) : 1 < w.heap.size := World.block_lt_of_cell? w _ (h 0 (by omega))
theorem Dual.below {w w' : World} {B : Nat} (h : Dual w) (hb : Below B w w') (hB : 1 < B) : Dual w' := fun i hi => (hb.cell hB).trans (h i hi)

set_option maxHeartbeats 400000 in
theorem isLeaf_any (n : Int) (w : World) : Calls Tryd.prog 101 #[.int .i64 n] w fun e w' => e = .returned (.bool (leafB n)) ∧ w = w' := by
  rcases sym_cases n with ⟨h, _, h'⟩ | ⟨h, _, h'⟩ | ⟨h, _, _, h1, h2, _⟩
  · rw [h]; clear h
    have a1 : (n != 0) = true := by simp; omega
    have a2 : -8 ≤ n := by omega
    have a3 : n ≤ 8 := by omega
    clear h'
    go_enter Tryd.func101, Tryd.ntmps101
    go_wp2
    go_ret
    exact ⟨rfl, rfl⟩
  · rw [h]; clear h
    have a1 : (n != 0) = true := by simp; omega
    have a2 : -8 ≤ n := by omega
    have a3 : ¬ n ≤ 8 := by omega
    clear h'
    go_enter Tryd.func101, Tryd.ntmps101
    go_wp2
    go_ret
    exact ⟨rfl, rfl⟩
  · rw [h]; clear h
    by_cases h0 : n = 0
    · subst h0
      go_enter Tryd.func101, Tryd.ntmps101
      go_wp2
      go_ret
      exact ⟨rfl, rfl⟩
    · have a1 : (n != 0) = true := by simp; omega
      by_cases a2 : -8 ≤ n
      · have a3 : ¬ n ≤ 8 := by omega
        clear h0 h1 h2
        go_enter Tryd.func101, Tryd.ntmps101
        go_wp2
        go_ret
        exact ⟨rfl, rfl⟩
      · clear h0 h1 h2
        go_enter Tryd.func101, Tryd.ntmps101
        go_wp2
        go_ret
        exact ⟨rfl, rfl⟩

set_option maxHeartbeats 400000 in
theorem isOperator_any (n : Int) (w : World) : Calls Tryd.prog 102 #[.int .i64 n] w fun e w' => e = .returned (.bool (operB n)) ∧ w = w' := by
  by_cases h1 : 11 ≤ n
  · by_cases h2 : n ≤ 18
    · rw [oper_iff.2 ⟨h1, h2⟩]
      go_enter Tryd.func102, Tryd.ntmps102
      go_wp2
      go_ret
      exact ⟨rfl, rfl⟩
    · rw [oper_not.2 (by omega)]
      go_enter Tryd.func102, Tryd.ntmps102
      go_wp2
      go_ret
      exact ⟨rfl, rfl⟩
  · rw [oper_not.2 (by omega)]
    go_enter Tryd.func102, Tryd.ntmps102
    go_wp2
    go_ret
    exact ⟨rfl, rfl⟩

set_option maxHeartbeats 400000 in
theorem arityOf_any (n : Int) (w : World) (ht : Arit w) : Calls Tryd.prog 76 #[.int .i64 n] w fun e w' => e = .returned (.int .i64 (arZ n)) ∧ w = w' := by
  cases hl : leafB n with
  | true =>
    rw [arZ_leaf hl]
    clear ht
    go_enter Tryd.func76, Tryd.ntmps76
    go_wp2_with (go_at_call 101; refine (isLeaf_any n _).mono ?_; rintro e w' ⟨rfl, rfl⟩)
    go_ret
    exact ⟨rfl, rfl⟩
  | false =>
    cases ho : operB n with
    | false =>
      rw [arZ_none hl ho]
      clear ht
      go_enter Tryd.func76, Tryd.ntmps76
      go_wp2_with (first | (go_at_call 101; refine (isLeaf_any n _).mono ?_; rintro e w' ⟨rfl, rfl⟩) | (go_at_call 102; refine (isOperator_any n _).mono ?_; rintro e w' ⟨rfl, rfl⟩))
      go_ret
      exact ⟨rfl, rfl⟩
    | true =>
      rw [arZ_oper hl ho]
      have hb := oper_iff.1 ho
      obtain ⟨k, rfl⟩ : ∃ k : Nat, n = k := ⟨n.toNat, by omega⟩
      have hc : w.cell? ⟨0, k, none⟩ = some (.int .i64 (arTab.getD k 0)) := ht k (by omega)
      have e : ((k : Int)).toNat = k := by omega
      rw [e]
      clear e ht
      obtain ⟨z, hz⟩ : ∃ z, arTab.getD k 0 = z := ⟨_, rfl⟩
      rw [hz] at hc ⊢
      clear hz
      go_enter Tryd.func76, Tryd.ntmps76
      go_wp2_with (first | (go_at_call 101; refine (isLeaf_any k _).mono ?_; rintro e w' ⟨rfl, rfl⟩) | (go_at_call 102; refine (isOperator_any k _).mono ?_; rintro e w' ⟨rfl, rfl⟩))
      go_ret
      exact ⟨rfl, rfl⟩
end Go.Proofs.YtdgejhlpncnenaaDoor
