/- What the laws over a code share: its bytes opened, its length asked, two lists compared. -/
import Derived.Test.YtoniekjchabjlaaAny
import Derived.Test.YtoniekjchabjlaaFrame
namespace Go.Proofs.Ytoniekjchabjlaa
open Go.ChangeShapes Go.WideShapes Go.ChangeAt Go.RowKit

end Go.Proofs.Ytoniekjchabjlaa
