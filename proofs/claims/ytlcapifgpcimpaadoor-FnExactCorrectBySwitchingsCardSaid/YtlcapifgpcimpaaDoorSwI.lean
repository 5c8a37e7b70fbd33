/- The program: is the row a switching? -/
import Derived.Test.YtlcapifgpcimpaaDoorSwS
import Derived.Deep.RegionHeldLaw
import Derived.Deep.DeepCutAuto
import Derived.BigQuiet
namespace Go.Proofs.YtlcapifgpcimpaaDoor
set_option linter.unusedSimpArgs false
set_option linter.unusedVariables false
open Go.ChangeAt Go.ChangeShapes Go.RowKit Go.WideShapes

/-- An element that is no input. -/
def noIn (c : Int) : Bool := !decide (c = 0 ∨ c = 1)
theorem sw_any {s : List Int} : (s.all fun c => decide (c = 0 ∨ c = 1)) = !(s.any noIn) := by
  rw [List.any_eq_not_all_not, Bool.not_not]
  congr 1
  funext c
  simp [noIn]
end Go.Proofs.YtlcapifgpcimpaaDoor
