/- Two lists compared: slices.Equal, and the model's sameInts. Two slices of integers compared, with the very world behind the call: the laws' helper, the model's, slices.Equal. The order of formulas: of the program and of the model. -/
import Derived.Test.YtlcapifgpcimpaaQValid
namespace Go.Proofs.Ytlcapifgpcimpaa
set_option linter.unusedSimpArgs false
set_option linter.unusedVariables false
section
open Go.ChangeAt Go.ChangeShapes Go.RowKit Go.WideShapes

/-- What a comparison leaves that reads and draws alone. -/
def SameD {α : Type} [DecidableEq α] (zs ys : α) (w : World) (e : Ending) (w' : World) : Prop := e = .returned (.bool (decide (zs = ys))) ∧ ∃ m, w' = w.drewN m
theorem drewN_cell {w wr : World} {p : Addr} {v : Value} (h : ∃ m, wr = w.drewN m) (hc : w.cell? p = some v) : wr.cell? p = some v := by
  obtain ⟨m, rfl⟩ := h
  exact hc
theorem drewN_more {w wr : World} (h : ∃ m, wr = w.drewN m) (k : Nat) : ∃ m, wr.drewN k = w.drewN m := by
  obtain ⟨m, rfl⟩ := h
  exact ⟨m + k, by simp [World.drewN, Nat.add_assoc]⟩
theorem drewN_trans {a b c : World} (h : ∃ m, b = a.drewN m) (h' : ∃ m, c = b.drewN m) : ∃ m, c = a.drewN m := by
  obtain ⟨m, rfl⟩ := h'
  exact drewN_more h m
theorem drewN_below {w wr : World} (h : ∃ m, wr = w.drewN m) (B : Nat) : Below B w wr := by
  obtain ⟨m, rfl⟩ := h
  exact below_drewN (Below.refl _ _) m

end
section
open Go.RowKit

theorem ret_bool' {a b : Bool} (h : a = b) : Ending.returned (.bool a) = .returned (.bool b) := by rw [h]
end
end Go.Proofs.Ytlcapifgpcimpaa
