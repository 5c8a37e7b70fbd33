/- The parsing of a net: isOpen, partOfWire, isReady, readyLinks. -/
import Derived.Test.YtgpocnapkflihaaGreatDoorPaB
import Derived.Deep.RegionHeldLaw
import Derived.Deep.DeepCutAuto
import Derived.BigQuiet
namespace Go.Proofs.YtgpocnapkflihaaGreatDoor
set_option linter.unusedSimpArgs false
set_option linter.unusedVariables false
open Go.ChangeAt Go.ChangeShapes Go.RowKit Go.WideShapes

theorem okF_is {N : Nt} {fs : List Int} {k : Nat} (hk : k < N.l.length) : okF N fs (k : Int) = (!fs.contains (k : Int) && rdyQ N (qN N fs) (N.l.getD k Lk.nil)) := by
  have : inW N.l.length (k : Int) = true := decide_eq_true (by omega)
  unfold okF
  rw [this, Bool.true_and, Int.toNat_natCast]
end Go.Proofs.YtgpocnapkflihaaGreatDoor
