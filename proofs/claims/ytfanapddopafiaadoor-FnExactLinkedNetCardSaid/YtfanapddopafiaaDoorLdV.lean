/- LinkedNet's answer is small. -/
import Derived.Test.YtfanapddopafiaaDoorLdS
import Derived.Test.YtfanapddopafiaaDoorQSubA
namespace Go.Proofs.YtfanapddopafiaaDoor
open Go.ChangeAt Go.ChangeShapes Go.RowKit Go.WideShapes

theorem ldV_small (qs : List (List Int)) (M : List Int) : SmallN (ldV qs M) := by
  unfold ldV
  cases h : ldB qs M with
  | false => exact ⟨by simp [Nt.nil], by simp [Nt.nil, total], by simp [Nt.nil], by simp [Nt.nil]⟩
  | true =>
    have hv : imB qs M = true := by
      unfold ldB at h
      simp only [Bool.and_eq_true] at h
      exact h.1
    exact ld_small (ld_ok hv)
end Go.Proofs.YtfanapddopafiaaDoor
