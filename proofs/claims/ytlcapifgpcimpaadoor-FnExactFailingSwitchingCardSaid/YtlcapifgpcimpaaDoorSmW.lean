/- The model: is the row a switching? and SwitchGraph. -/
import Derived.Test.YtlcapifgpcimpaaDoorSmA
import Derived.Test.YtlcapifgpcimpaaDoorSwI
import Derived.Deep.RegionHeldLaw
import Derived.Deep.DeepCutAuto
import Derived.BigQuiet
namespace Go.Proofs.YtlcapifgpcimpaaDoor
set_option linter.unusedSimpArgs false
set_option linter.unusedVariables false
open Go.ChangeAt Go.ChangeShapes Go.RowKit Go.WideShapes

/-- SwitchGraph's answer. -/
def sgL (N : Nt) (s : List Int) : List Ac := if isSw N s then mgU N s N.w.length else []
theorem sgL_yes {N : Nt} {s : List Int} (h : isSw N s = true) : sgL N s = mgU N s N.w.length := by unfold sgL; rw [if_pos h]
theorem sgL_no {N : Nt} {s : List Int} (h : isSw N s = false) : sgL N s = [] := by unfold sgL; rw [h]; rfl
/-- What a function leaves that hands back a row of arcs and a bool. -/
def GivesAB (w : World) (ar : List Ac) (b : Bool) (e : Ending) (w' : World) : Prop :=
  ∃ A c, e = .returned (.tuple #[.slice A ar.length c, .bool b]) ∧ w'.ownsRow w.heap.size 59 3 (.slice A ar.length c) ar.length ((flA ar).map (Value.int .i64)) ∧ Below w.heap.size w w'
end Go.Proofs.YtlcapifgpcimpaaDoor
