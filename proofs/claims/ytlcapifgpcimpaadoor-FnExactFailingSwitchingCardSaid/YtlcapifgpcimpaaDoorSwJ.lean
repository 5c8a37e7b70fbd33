/- The program: SwitchGraph. -/
import Derived.Test.YtlcapifgpcimpaaDoorSmW
import Derived.Test.YtlcapifgpcimpaaDoorSwP
import Derived.Test.YtlcapifgpcimpaaDoorSgG
import Derived.Deep.RegionHeldLaw
import Derived.Deep.DeepCutAuto
import Derived.BigQuiet
namespace Go.Proofs.YtlcapifgpcimpaaDoor
set_option linter.unusedSimpArgs false
set_option linter.unusedVariables false
open Go.ChangeAt Go.ChangeShapes Go.RowKit Go.WideShapes

theorem givesAB_nil (w w' : World) (h : Below w.heap.size w w') : GivesAB w [] false (.returned (.tuple #[.slice none 0 0, .bool false])) w' := ⟨none, 0, rfl, World.ownsRow_nil _ _ _ _, h⟩
theorem isSw_inv {N : Nt} {s : List Int} (h : valN N = false) : isSw N s = false := by unfold isSw; rw [h]; rfl
theorem isSw_is {N : Nt} {s : List Int} (h : valN N = true) : (decide (s.length = (prkN N).length) && s.all fun c => decide (c = 0 ∨ c = 1)) = isSw N s := by unfold isSw; rw [h]; rfl
end Go.Proofs.YtlcapifgpcimpaaDoor
