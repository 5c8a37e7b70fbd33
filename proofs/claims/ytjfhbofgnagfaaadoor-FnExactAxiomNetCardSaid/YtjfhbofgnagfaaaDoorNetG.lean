/- Answers of chapter 8 are small. -/
import Derived.Test.YtjfhbofgnagfaaaDoorNetE
import Derived.Test.YtjfhbofgnagfaaaDoorNetP
namespace Go.Proofs.YtjfhbofgnagfaaaDoor
open Go.ChangeAt Go.ChangeShapes Go.RowKit Go.WideShapes
theorem nil_small : SmallN Nt.nil := ⟨by simp [Nt.nil], by simp [Nt.nil, total], by simp [Nt.nil], by simp [Nt.nil]⟩
theorem valN_small {N : Nt} (h : valN N = true) : SmallN N := by
  have h1 := valN_size h
  have h2 := valN_conc_le h
  have h3 : total N.w ≤ 24 * N.w.length := total_valid (List.all_eq_true.2 fun q hq => formN_valid (List.all_eq_true.1 (valN_forms h) q hq))
  exact ⟨by omega, by omega, by omega, by omega⟩
theorem axV_small (f : List Int) : SmallN (axV f) := by
  unfold axV
  cases hv : formN f with
  | false => exact nil_small
  | true =>
    have h := (valid_len (formN_valid hv)).2.1
    rw [if_pos rfl]
    exact ⟨by simp [axN], by simp [axN, total]; omega, by simp [axN], by simp [axN]⟩
end Go.Proofs.YtjfhbofgnagfaaaDoor
