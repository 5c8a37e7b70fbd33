/- What the base of a plain seat has lost. -/
import Derived.Test.YtlcapifgpcimpaaEgM
import Derived.Deep.RegionHeldLaw
import Derived.Deep.DeepCutAuto
import Derived.BigQuiet
namespace Go.Proofs.Ytlcapifgpcimpaa
open Go.ChangeAt Go.ChangeShapes Go.RowKit Go.WideShapes
theorem Kept.to_below {lo hi B : Nat} {a w w' : World} (h : Kept lo hi w w') (hb : Below B a w) (hB : B ≤ lo) (hs : B ≤ w.heap.size) : Below B a w' :=
  hb.trans ⟨h.os, h.tape, h.output, h.size, fun k hk => h.block k (by omega) (.inl (by omega))⟩
end Go.Proofs.Ytlcapifgpcimpaa
