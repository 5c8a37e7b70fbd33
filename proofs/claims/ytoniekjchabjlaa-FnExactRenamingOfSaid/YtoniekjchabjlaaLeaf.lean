/- The small functions on symbols: what each returns, the world left as it was. The small functions of the model on symbols: what each returns, the world left as it was. -/
import Derived.Test.YtoniekjchabjlaaRows
import Derived.Test.YtoniekjchabjlaaMath
import Derived.WalkKit
import Derived.WalkSpells
import Derived.WalkLawsBesides
import Derived.BigQuiet
import Derived.Deep.QuietTactic
import Derived.Lib.LaidTab
import Derived.Lib.Hide
namespace Go.Proofs.Ytoniekjchabjlaa
open Go.RowKit

set_option maxHeartbeats 400000 in
theorem isLeaf_any (n : Int) (w : World) : Calls Try.prog 13 #[.int .i64 n] w fun e w' => e = .returned (.bool (leafB n)) ∧ w = w' := by
  rcases sym_cases n with ⟨h, _, h'⟩ | ⟨h, _, h'⟩ | ⟨h, _, _, h1, h2, _⟩
  · rw [h]; clear h
    have a1 : (n != 0) = true := by simp; omega
    have a2 : -8 ≤ n := by omega
    have a3 : n ≤ 8 := by omega
    clear h'
    go_enter Try.func13, Try.ntmps13
    go_wp2
    go_ret
    exact ⟨rfl, rfl⟩
  · rw [h]; clear h
    have a1 : (n != 0) = true := by simp; omega
    have a2 : -8 ≤ n := by omega
    have a3 : ¬ n ≤ 8 := by omega
    clear h'
    go_enter Try.func13, Try.ntmps13
    go_wp2
    go_ret
    exact ⟨rfl, rfl⟩
  · rw [h]; clear h
    by_cases h0 : n = 0
    · subst h0
      go_enter Try.func13, Try.ntmps13
      go_wp2
      go_ret
      exact ⟨rfl, rfl⟩
    · have a1 : (n != 0) = true := by simp; omega
      by_cases a2 : -8 ≤ n
      · have a3 : ¬ n ≤ 8 := by omega
        clear h0 h1 h2
        go_enter Try.func13, Try.ntmps13
        go_wp2
        go_ret
        exact ⟨rfl, rfl⟩
      · clear h0 h1 h2
        go_enter Try.func13, Try.ntmps13
        go_wp2
        go_ret
        exact ⟨rfl, rfl⟩

set_option maxHeartbeats 400000 in
theorem inRange_any (n lo hi : Int) (w : World) : Calls Try.prog 15 #[.int .i64 n, .int .i64 lo, .int .i64 hi] w fun e w' => e = .returned (.bool (decide (lo ≤ n ∧ n ≤ hi))) ∧ w = w' := by
  by_cases h1 : lo ≤ n
  · by_cases h2 : n ≤ hi
    · rw [decide_eq_true ⟨h1, h2⟩]
      go_enter Try.func15, Try.ntmps15
      go_wp2
      go_ret
      exact ⟨rfl, rfl⟩
    · rw [decide_eq_false (fun h => h2 h.2)]
      go_enter Try.func15, Try.ntmps15
      go_wp2
      go_ret
      exact ⟨rfl, rfl⟩
  · rw [decide_eq_false (fun h => h1 h.1)]
    go_enter Try.func15, Try.ntmps15
    go_wp2
    go_ret
    exact ⟨rfl, rfl⟩
/-- The same in two, by what the test says. -/
theorem inRange_yes (n lo hi : Int) (w : World) (h : lo ≤ n ∧ n ≤ hi) : Calls Try.prog 15 #[.int .i64 n, .int .i64 lo, .int .i64 hi] w fun e w' => e = .returned (.bool true) ∧ w = w' :=
  (inRange_any n lo hi w).mono fun _ _ ⟨he, hw⟩ => ⟨by rw [he, decide_eq_true h], hw⟩
theorem inRange_no (n lo hi : Int) (w : World) (h : ¬ (lo ≤ n ∧ n ≤ hi)) : Calls Try.prog 15 #[.int .i64 n, .int .i64 lo, .int .i64 hi] w fun e w' => e = .returned (.bool false) ∧ w = w' :=
  (inRange_any n lo hi w).mono fun _ _ ⟨he, hw⟩ => ⟨by rw [he, decide_eq_false h], hw⟩

set_option maxHeartbeats 400000 in
theorem isAtom_any (n : Int) (w : World) : Calls Try.prog 12 #[.int .i64 n] w fun e w' => e = .returned (.bool (leafB n)) ∧ w = w' := by
  by_cases h1 : 1 ≤ n ∧ n ≤ 8
  · rw [leaf_iff.2 (.inl h1)]
    have H := Lib.hid h1; clear h1
    go_enter Try.func12, Try.ntmps12
    go_wp2_with (go_at_call 15; refine (inRange_yes _ _ _ _ H.out).mono ?_; rintro e w' ⟨rfl, rfl⟩)
    go_ret
    exact ⟨rfl, rfl⟩
  · by_cases h2 : -8 ≤ n ∧ n ≤ -1
    · rw [leaf_iff.2 (.inr h2)]
      have H := Lib.hid h1; clear h1
      have H2 := Lib.hid h2; clear h2
      go_enter Try.func12, Try.ntmps12
      go_wp2_with (go_at_call 15; first | ((with_reducible refine (inRange_no n 1 8 _ H.out).mono ?_); rintro e w' ⟨rfl, rfl⟩) | ((with_reducible refine (inRange_yes n (-8) (-1) _ H2.out).mono ?_); rintro e w' ⟨rfl, rfl⟩))
      go_ret
      exact ⟨rfl, rfl⟩
    · rw [leaf_not.2 (by omega)]
      have H := Lib.hid h1; clear h1
      have H2 := Lib.hid h2; clear h2
      go_enter Try.func12, Try.ntmps12
      go_wp2_with (go_at_call 15; first | ((with_reducible refine (inRange_no n 1 8 _ H.out).mono ?_); rintro e w' ⟨rfl, rfl⟩) | ((with_reducible refine (inRange_no n (-8) (-1) _ H2.out).mono ?_); rintro e w' ⟨rfl, rfl⟩))
      go_ret
      exact ⟨rfl, rfl⟩

end Go.Proofs.Ytoniekjchabjlaa
