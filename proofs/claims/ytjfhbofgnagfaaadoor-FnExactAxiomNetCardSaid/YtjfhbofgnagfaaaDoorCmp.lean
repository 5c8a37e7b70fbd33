/- The order of formulas: of the program and of the model. -/
import Derived.Test.YtjfhbofgnagfaaaDoorValid
namespace Go.Proofs.YtjfhbofgnagfaaaDoor
open Go.RowKit

/-- cmp.Compare. -/
def cmZ (x y : Int) : Int := if x < y then -1 else if y < x then 1 else 0
/-- slices.Compare. -/
def lexZ : List Int → List Int → Int
  | [], [] => 0
  | [], _ :: _ => -1
  | _ :: _, [] => 1
  | x :: xs, y :: ys => if cmZ x y = 0 then lexZ xs ys else cmZ x y
/-- The order: by the number of symbols, then by the first different one. -/
def cmpL (a b : List Int) : Int := if cmZ a.length b.length = 0 then lexZ a b else cmZ a.length b.length
/-- FormBefore. -/
def befB (a b : List Int) : Bool := validB a && validB b && decide (cmpL a b < 0)

theorem cmZ_cases (x y : Int) : (x < y ∧ cmZ x y = -1) ∨ (y < x ∧ cmZ x y = 1) ∨ (x = y ∧ cmZ x y = 0) := by
  unfold cmZ
  by_cases h : x < y
  · rw [if_pos h]; exact .inl ⟨h, rfl⟩
  · by_cases h' : y < x
    · rw [if_neg h, if_pos h']; exact .inr (.inl ⟨h', rfl⟩)
    · rw [if_neg h, if_neg h']; exact .inr (.inr ⟨by omega, rfl⟩)
theorem lexZ_bd : ∀ a b : List Int, -1 ≤ lexZ a b ∧ lexZ a b ≤ 1
  | [], [] => by simp [lexZ]
  | [], _ :: _ => by simp [lexZ]
  | _ :: _, [] => by simp [lexZ]
  | x :: xs, y :: ys => by
    unfold lexZ
    split
    · exact lexZ_bd xs ys
    · rcases cmZ_cases x y with h | h | h <;> omega
theorem lexZ_same {x y : Int} (xs ys : List Int) (h : cmZ x y = 0) : lexZ (x :: xs) (y :: ys) = lexZ xs ys := by simp [lexZ, h]
theorem lexZ_diff {x y : Int} (xs ys : List Int) (h : ¬ cmZ x y = 0) : lexZ (x :: xs) (y :: ys) = cmZ x y := by simp [lexZ, h]

theorem cmZ_lt {x y : Int} (h : ¬ cmZ x y = 0) : decide (x < y) = decide (cmZ x y < 0) := by
  rcases cmZ_cases x y with ⟨e, e'⟩ | ⟨e, e'⟩ | ⟨e, e'⟩
  · rw [e', decide_eq_true e]; rfl
  · rw [e', decide_eq_false (by omega)]; rfl
  · exact absurd e' h
theorem cmZ_ne {x y : Int} (h : ¬ cmZ x y = 0) : (x != y) = true := by
  have hne : x ≠ y := by
    rcases cmZ_cases x y with ⟨e, e'⟩ | ⟨e, e'⟩ | ⟨e, e'⟩
    · omega
    · omega
    · exact absurd e' h
  simpa using hne

theorem befB_no1 {a b : List Int} (h : validB a = false) : befB a b = false := by simp [befB, h]
theorem befB_no2 {a b : List Int} (h : validB b = false) : befB a b = false := by simp [befB, h]
theorem befB_yes {a b : List Int} (h : validB a = true) (h' : validB b = true) : befB a b = decide (cmpL a b < 0) := by simp [befB, h, h']
theorem ret_bool' {a b : Bool} (h : a = b) : Ending.returned (.bool a) = .returned (.bool b) := by rw [h]

end Go.Proofs.YtjfhbofgnagfaaaDoor
