/- SwitchGraph at rows of any length. -/
import Derived.Test.YtlcapifgpcimpaaDoorSwJ
import Derived.Test.YtlcapifgpcimpaaDoorSwA
import Derived.Deep.RegionHeldLaw
import Derived.Deep.DeepCutAuto
import Derived.BigQuiet
namespace Go.Proofs.YtlcapifgpcimpaaDoor
set_option linter.unusedSimpArgs false
set_option linter.unusedVariables false
open Go.ChangeAt Go.ChangeShapes Go.RowKit Go.WideShapes

theorem sgL_len (N : Nt) (s : List Int) : (sgL N s).length ≤ 1048576 := by
  unfold sgL
  cases h : isSw N s with
  | false => simp
  | true =>
    have h1 := (valN_size (isSw_yes h).1).1
    have h2 := mgU_len N s N.w.length
    rw [if_pos rfl]
    omega
end Go.Proofs.YtlcapifgpcimpaaDoor
