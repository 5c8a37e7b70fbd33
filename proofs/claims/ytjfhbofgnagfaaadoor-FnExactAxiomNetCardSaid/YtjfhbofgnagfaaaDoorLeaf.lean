/- The small functions on symbols: what each returns, the world left as it was. The small functions of the model on symbols: what each returns, the world left as it was. -/
import Derived.Test.YtjfhbofgnagfaaaDoorRows
import Derived.Test.YtjfhbofgnagfaaaDoorMath
import Derived.WalkKit
import Derived.WalkSpells
import Derived.WalkLawsBesides
import Derived.BigQuiet
import Derived.Deep.QuietTactic
import Derived.Lib.LaidTab
import Derived.Lib.Hide
namespace Go.Proofs.YtjfhbofgnagfaaaDoor
open Go.RowKit

/-- The world holds the table of the operators' numbers of operands. -/
def Arit (w : World) : Prop := ∀ i, i < 19 → w.cell? ⟨1, i, none⟩ = some (.int .i64 (arTab.getD i 0))
theorem Arit.same {w w' : World} (h : Arit w) (hc : ∀ i, w'.cell? ⟨1, i, none⟩ = w.cell? ⟨1, i, none⟩) : Arit w' := fun i hi => (hc i).trans (h i hi)
theorem Arit.lt {w : World} (h : Arit w) : 1 < w.heap.size := World.block_lt_of_cell? w _ (h 0 (by omega))
theorem Arit.below {w w' : World} {B : Nat} (h : Arit w) (hb : Below B w w') (hB : 1 < B) : Arit w' := h.same fun _ => hb.cell hB

/-- The world holds the table of the operators' duals. -/
def Dual (w : World) : Prop := ∀ i, i < 19 → w.cell? ⟨0, i, none⟩ = some (.int .i64 (duTab.getD i 0))
theorem Dual.lt {w : World} (h : Dual w) : 0 < w.heap.size := World.block_lt_of_cell? w _ (h 0 (by omega))
theorem Dual.below {w w' : World} {B : Nat} (h : Dual w) (hb : Below B w w') (hB : 0 < B) : Dual w' := fun i hi => (hb.cell hB).trans (h i hi)

set_option maxHeartbeats 400000 in
theorem isLeaf_any (n : Int) (w : World) : Calls Tryd.prog 132 #[.int .i64 n] w fun e w' => e = .returned (.bool (leafB n)) ∧ w = w' := by
  rcases sym_cases n with ⟨h, _, h'⟩ | ⟨h, _, h'⟩ | ⟨h, _, _, h1, h2, _⟩
  · rw [h]; clear h
    have a1 : (n != 0) = true := by simp; omega
    have a2 : -8 ≤ n := by omega
    have a3 : n ≤ 8 := by omega
    clear h'
    go_enter Tryd.func132, Tryd.ntmps132
    go_wp2
    go_ret
    exact ⟨rfl, rfl⟩
  · rw [h]; clear h
    have a1 : (n != 0) = true := by simp; omega
    have a2 : -8 ≤ n := by omega
    have a3 : ¬ n ≤ 8 := by omega
    clear h'
    go_enter Tryd.func132, Tryd.ntmps132
    go_wp2
    go_ret
    exact ⟨rfl, rfl⟩
  · rw [h]; clear h
    by_cases h0 : n = 0
    · subst h0
      go_enter Tryd.func132, Tryd.ntmps132
      go_wp2
      go_ret
      exact ⟨rfl, rfl⟩
    · have a1 : (n != 0) = true := by simp; omega
      by_cases a2 : -8 ≤ n
      · have a3 : ¬ n ≤ 8 := by omega
        clear h0 h1 h2
        go_enter Tryd.func132, Tryd.ntmps132
        go_wp2
        go_ret
        exact ⟨rfl, rfl⟩
      · clear h0 h1 h2
        go_enter Tryd.func132, Tryd.ntmps132
        go_wp2
        go_ret
        exact ⟨rfl, rfl⟩

set_option maxHeartbeats 400000 in
theorem isOperator_any (n : Int) (w : World) : Calls Tryd.prog 155 #[.int .i64 n] w fun e w' => e = .returned (.bool (operB n)) ∧ w = w' := by
  by_cases h1 : 11 ≤ n
  · by_cases h2 : n ≤ 18
    · rw [oper_iff.2 ⟨h1, h2⟩]
      go_enter Tryd.func155, Tryd.ntmps155
      go_wp2
      go_ret
      exact ⟨rfl, rfl⟩
    · rw [oper_not.2 (by omega)]
      go_enter Tryd.func155, Tryd.ntmps155
      go_wp2
      go_ret
      exact ⟨rfl, rfl⟩
  · rw [oper_not.2 (by omega)]
    go_enter Tryd.func155, Tryd.ntmps155
    go_wp2
    go_ret
    exact ⟨rfl, rfl⟩

set_option maxHeartbeats 400000 in
theorem arityOf_any (n : Int) (w : World) (ht : Arit w) : Calls Tryd.prog 147 #[.int .i64 n] w fun e w' => e = .returned (.int .i64 (arZ n)) ∧ w = w' := by
  cases hl : leafB n with
  | true =>
    rw [arZ_leaf hl]
    clear ht
    go_enter Tryd.func147, Tryd.ntmps147
    go_wp2_with (go_at_call 132; refine (isLeaf_any n _).mono ?_; rintro e w' ⟨rfl, rfl⟩)
    go_ret
    exact ⟨rfl, rfl⟩
  | false =>
    cases ho : operB n with
    | false =>
      rw [arZ_none hl ho]
      clear ht
      go_enter Tryd.func147, Tryd.ntmps147
      go_wp2_with (first | (go_at_call 132; refine (isLeaf_any n _).mono ?_; rintro e w' ⟨rfl, rfl⟩) | (go_at_call 155; refine (isOperator_any n _).mono ?_; rintro e w' ⟨rfl, rfl⟩))
      go_ret
      exact ⟨rfl, rfl⟩
    | true =>
      rw [arZ_oper hl ho]
      have hb := oper_iff.1 ho
      obtain ⟨k, rfl⟩ : ∃ k : Nat, n = k := ⟨n.toNat, by omega⟩
      have hc : w.cell? ⟨1, k, none⟩ = some (.int .i64 (arTab.getD k 0)) := ht k (by omega)
      have e : ((k : Int)).toNat = k := by omega
      rw [e]
      clear e ht
      obtain ⟨z, hz⟩ : ∃ z, arTab.getD k 0 = z := ⟨_, rfl⟩
      rw [hz] at hc ⊢
      clear hz
      go_enter Tryd.func147, Tryd.ntmps147
      go_wp2_with (first | (go_at_call 132; refine (isLeaf_any k _).mono ?_; rintro e w' ⟨rfl, rfl⟩) | (go_at_call 155; refine (isOperator_any k _).mono ?_; rintro e w' ⟨rfl, rfl⟩))
      go_ret
      exact ⟨rfl, rfl⟩

set_option maxHeartbeats 400000 in
theorem inRange_any (n lo hi : Int) (w : World) : Calls Tryd.prog 98 #[.int .i64 n, .int .i64 lo, .int .i64 hi] w fun e w' => e = .returned (.bool (decide (lo ≤ n ∧ n ≤ hi))) ∧ w = w' := by
  by_cases h1 : lo ≤ n
  · by_cases h2 : n ≤ hi
    · rw [decide_eq_true ⟨h1, h2⟩]
      go_enter Tryd.func98, Tryd.ntmps98
      go_wp2
      go_ret
      exact ⟨rfl, rfl⟩
    · rw [decide_eq_false (fun h => h2 h.2)]
      go_enter Tryd.func98, Tryd.ntmps98
      go_wp2
      go_ret
      exact ⟨rfl, rfl⟩
  · rw [decide_eq_false (fun h => h1 h.1)]
    go_enter Tryd.func98, Tryd.ntmps98
    go_wp2
    go_ret
    exact ⟨rfl, rfl⟩
/-- The same in two, by what the test says. -/
theorem inRange_yes (n lo hi : Int) (w : World) (h : lo ≤ n ∧ n ≤ hi) : Calls Tryd.prog 98 #[.int .i64 n, .int .i64 lo, .int .i64 hi] w fun e w' => e = .returned (.bool true) ∧ w = w' :=
  (inRange_any n lo hi w).mono fun _ _ ⟨he, hw⟩ => ⟨by rw [he, decide_eq_true h], hw⟩
theorem inRange_no (n lo hi : Int) (w : World) (h : ¬ (lo ≤ n ∧ n ≤ hi)) : Calls Tryd.prog 98 #[.int .i64 n, .int .i64 lo, .int .i64 hi] w fun e w' => e = .returned (.bool false) ∧ w = w' :=
  (inRange_any n lo hi w).mono fun _ _ ⟨he, hw⟩ => ⟨by rw [he, decide_eq_false h], hw⟩

set_option maxHeartbeats 400000 in
theorem isAtom_any (n : Int) (w : World) : Calls Tryd.prog 157 #[.int .i64 n] w fun e w' => e = .returned (.bool (leafB n)) ∧ w = w' := by
  by_cases h1 : 1 ≤ n ∧ n ≤ 8
  · rw [leaf_iff.2 (.inl h1)]
    have H := Lib.hid h1; clear h1
    go_enter Tryd.func157, Tryd.ntmps157
    go_wp2_with (go_at_call 98; refine (inRange_yes _ _ _ _ H.out).mono ?_; rintro e w' ⟨rfl, rfl⟩)
    go_ret
    exact ⟨rfl, rfl⟩
  · by_cases h2 : -8 ≤ n ∧ n ≤ -1
    · rw [leaf_iff.2 (.inr h2)]
      have H := Lib.hid h1; clear h1
      have H2 := Lib.hid h2; clear h2
      go_enter Tryd.func157, Tryd.ntmps157
      go_wp2_with (go_at_call 98; first | ((with_reducible refine (inRange_no n 1 8 _ H.out).mono ?_); rintro e w' ⟨rfl, rfl⟩) | ((with_reducible refine (inRange_yes n (-8) (-1) _ H2.out).mono ?_); rintro e w' ⟨rfl, rfl⟩))
      go_ret
      exact ⟨rfl, rfl⟩
    · rw [leaf_not.2 (by omega)]
      have H := Lib.hid h1; clear h1
      have H2 := Lib.hid h2; clear h2
      go_enter Tryd.func157, Tryd.ntmps157
      go_wp2_with (go_at_call 98; first | ((with_reducible refine (inRange_no n 1 8 _ H.out).mono ?_); rintro e w' ⟨rfl, rfl⟩) | ((with_reducible refine (inRange_no n (-8) (-1) _ H2.out).mono ?_); rintro e w' ⟨rfl, rfl⟩))
      go_ret
      exact ⟨rfl, rfl⟩

set_option maxHeartbeats 1000000 in
theorem arity_any (n : Int) (w : World) : Calls Tryd.prog 154 #[.int .i64 n] w fun e w' => e = .returned (.int .i64 (arZ n)) ∧ w = w' := by
  rcases sym_cases n with ⟨hl, ha, hb⟩ | ⟨_, _, h⟩ | ⟨hl, ho, ha, _, _, hb⟩
  · rw [ha]; clear ha
    have e1 : (n == 11) = false := by simp; omega
    have e2 : (n == 12) = false := by simp; omega
    have e3 : (n == 13) = false := by simp; omega
    have e4 : (n == 14) = false := by simp; omega
    have e5 : (n == 15) = false := by simp; omega
    have e6 : (n == 16) = false := by simp; omega
    have e7 : (n == 17) = false := by simp; omega
    have e8 : (n == 18) = false := by simp; omega
    clear hb
    go_enter Tryd.func154, Tryd.ntmps154
    go_wp2_with (go_at_call 157; refine (isAtom_any n _).mono ?_; rintro e w' ⟨rfl, rfl⟩)
    go_ret
    exact ⟨rfl, rfl⟩
  · rcases h with ⟨rfl, h⟩ | ⟨rfl, h⟩ | ⟨rfl, h⟩ | ⟨rfl, h⟩ | ⟨rfl, h⟩ | ⟨rfl, h⟩ | ⟨rfl, h⟩ | ⟨rfl, h⟩
    all_goals
      rw [h]; clear h
      go_enter Tryd.func154, Tryd.ntmps154
      go_wp2
      go_ret
      exact ⟨rfl, rfl⟩
  · rw [ha]; clear ha
    have e1 : (n == 11) = false := by simp; omega
    have e2 : (n == 12) = false := by simp; omega
    have e3 : (n == 13) = false := by simp; omega
    have e4 : (n == 14) = false := by simp; omega
    have e5 : (n == 15) = false := by simp; omega
    have e6 : (n == 16) = false := by simp; omega
    have e7 : (n == 17) = false := by simp; omega
    have e8 : (n == 18) = false := by simp; omega
    clear hb ho
    go_enter Tryd.func154, Tryd.ntmps154
    go_wp2_with (go_at_call 157; refine (isAtom_any n _).mono ?_; rintro e w' ⟨rfl, rfl⟩)
    go_ret
    exact ⟨rfl, rfl⟩
end Go.Proofs.YtjfhbofgnagfaaaDoor
