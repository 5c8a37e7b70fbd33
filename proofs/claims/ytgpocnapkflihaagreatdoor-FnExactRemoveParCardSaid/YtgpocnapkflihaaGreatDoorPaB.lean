/- The parsing of a net: fire. -/
import Derived.Test.YtgpocnapkflihaaGreatDoorPaA
import Derived.Deep.RegionHeldLaw
import Derived.Deep.DeepCutAuto
import Derived.BigQuiet
namespace Go.Proofs.YtgpocnapkflihaaGreatDoor
set_option linter.unusedSimpArgs false
set_option linter.unusedVariables false
open Go.ChangeAt Go.ChangeShapes Go.RowKit Go.WideShapes

/-- Where the rows of a parsing lie. -/
structure PzH where
  T : List Int
  P : Option Addr
  p : Nat
  C : Option Addr
  q : Nat
  A : Option Addr
  a : Nat
section
variable {w w' : World} {g : Nat} {h : NH} {N : Nt} {fs : List Int} {r : PzH}
end
theorem own_shapeP {w : World} {base n : Nat} {e : TypeId} {v : Value} {xs : List Value} (h : w.ownsRow base e 1 v n xs) : ∃ A c, v = .slice A n c := by
  rcases h.2 with ⟨rfl, rfl⟩ | ⟨g, cap, cur, rfl, _, _, hn, _⟩
  · exact ⟨_, _, rfl⟩
  · exact ⟨_, _, rfl⟩
theorem kept_below {g : Nat} {w w' : World} (h : KeptS (fun k => k = g) w w') (hg : g < w.heap.size) : Below g w w' :=
  ⟨h.os, h.tape, h.output, h.size, fun k hk => h.block k (by omega) (by show ¬ k = g; omega)⟩
end Go.Proofs.YtgpocnapkflihaaGreatDoor
