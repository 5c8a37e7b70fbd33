/- Chapter 14's answers at rows of any length. -/
import Derived.Test.YtgpocnapkflihaaDoorSqF
namespace Go.Proofs.YtgpocnapkflihaaDoor
set_option linter.unusedSimpArgs false
set_option linter.unusedVariables false
open Go.ChangeAt Go.ChangeShapes Go.RowKit Go.WideShapes

theorem tmV_len' (N : Nt) : (tmV N).length ≤ 1048576 := by
  unfold tmV
  cases hv : valN N with
  | false => simp
  | true =>
    rw [if_pos rfl]
    exact Nat.le_trans (selU_len _ _) (Nat.le_trans (valN_size hv).2 (by decide))
theorem spV_len' (N : Nt) : (spV N).length ≤ 1048576 := by
  unfold spV
  cases hv : valN N with
  | false => simp
  | true =>
    rw [if_pos rfl]
    exact Nat.le_trans (selU_len _ _) (Nat.le_trans (valN_size hv).2 (by decide))
end Go.Proofs.YtgpocnapkflihaaDoor
