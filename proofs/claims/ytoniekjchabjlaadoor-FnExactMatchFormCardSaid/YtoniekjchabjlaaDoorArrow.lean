/- ArrowOf: of the program and of the model. -/
import Derived.Test.YtoniekjchabjlaaDoorJoinS
import Derived.Test.YtoniekjchabjlaaDoorDual
namespace Go.Proofs.YtoniekjchabjlaaDoor
open Go.RowKit

/-- ArrowOf. -/
def arrowL (a b : List Int) : List Int := joinL 12 (dualL a) b
def arrowB (a b : List Int) : Bool := joinB 12 (dualL a) b
theorem arrowL_len (a b : List Int) : (arrowL a b).length ≤ 24 := joinL_len _ _ _

end Go.Proofs.YtoniekjchabjlaaDoor
