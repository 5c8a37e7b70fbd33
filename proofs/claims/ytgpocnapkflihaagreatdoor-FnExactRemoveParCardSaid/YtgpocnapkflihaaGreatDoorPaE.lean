/- The parsing of a net: readyLinks, parsedBy, IsFiringSequence, ReadyLinks, PartsAfter. -/
import Derived.Test.YtgpocnapkflihaaGreatDoorPaC
import Derived.Test.YtgpocnapkflihaaGreatDoorPaD
import Derived.Deep.RegionHeldLaw
import Derived.Deep.DeepCutAuto
import Derived.BigQuiet
namespace Go.Proofs.YtgpocnapkflihaaGreatDoor
set_option linter.unusedSimpArgs false
set_option linter.unusedVariables false
open Go.ChangeAt Go.ChangeShapes Go.RowKit Go.WideShapes

/-- The ready links among the first k. -/
def alU (N : Nt) (fs : List Int) (k : Nat) : List Int := ((List.range k).map fun k : Nat => (k : Int)).filter fun k => okF N fs k
theorem alU_all (N : Nt) (fs : List Int) : alU N fs N.l.length = allQ N fs := rfl
theorem alU_len (N : Nt) (fs : List Int) (k : Nat) : (alU N fs k).length ≤ k := by
  unfold alU
  exact Nat.le_trans (List.length_filter_le _ _) (by simp)
theorem alU_yes {N : Nt} {fs : List Int} {k : Nat} (h : okF N fs (k : Int) = true) : alU N fs (k + 1) = alU N fs k ++ [(k : Int)] := by
  unfold alU
  rw [List.range_succ, List.map_append, List.filter_append]
  simp [h]
theorem alU_no {N : Nt} {fs : List Int} {k : Nat} (h : okF N fs (k : Int) = false) : alU N fs (k + 1) = alU N fs k := by
  unfold alU
  rw [List.range_succ, List.map_append, List.filter_append]
  simp [h]
end Go.Proofs.YtgpocnapkflihaaGreatDoor
