/- OperandOf: of the program and of the model: the walks. -/
import Derived.Test.YtoniekjchabjlaaDoorDepth
namespace Go.Proofs.YtoniekjchabjlaaDoor
open Go.RowKit

end Go.Proofs.YtoniekjchabjlaaDoor
