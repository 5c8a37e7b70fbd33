/- The program's OpenWires, FiringOrder, LastFiringOrder, StuckLinks, CorrectByParsing. -/
import Derived.Test.YtgpocnapkflihaaDoorPaH
import Derived.Deep.RegionHeldLaw
import Derived.Deep.DeepCutAuto
import Derived.BigQuiet
namespace Go.Proofs.YtgpocnapkflihaaDoor
set_option linter.unusedSimpArgs false
set_option linter.unusedVariables false
open Go.ChangeAt Go.ChangeShapes Go.RowKit Go.WideShapes

theorem mark_cast (n : Nat) : markL 0 n = (List.range n).map fun x : Nat => (x : Int) := by
  unfold markL
  exact List.map_congr_left fun x _ => by omega
end Go.Proofs.YtgpocnapkflihaaDoor
