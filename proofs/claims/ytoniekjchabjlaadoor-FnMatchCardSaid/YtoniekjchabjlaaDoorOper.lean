/- OperatorOf: of the program and of the model. -/
import Derived.Test.YtoniekjchabjlaaDoorValid
namespace Go.Proofs.YtoniekjchabjlaaDoor
open Go.RowKit

/-- OperatorOf. -/
def opOf (f : List Int) : Int := if validB f then (if leafB (f.getD 0 0) then 0 else f.getD 0 0) else -1
theorem opOf_no {f : List Int} (h : validB f = false) : opOf f = -1 := by simp [opOf, h]
theorem opOf_leaf {f : List Int} (h : validB f = true) (hl : leafB (f.getD 0 0) = true) : opOf f = 0 := by simp only [opOf, h, hl, if_true]
theorem opOf_op {f : List Int} (h : validB f = true) (hl : leafB (f.getD 0 0) = false) : opOf f = f.getD 0 0 := by simp only [opOf, h, hl, if_true]; rfl

end Go.Proofs.YtoniekjchabjlaaDoor
