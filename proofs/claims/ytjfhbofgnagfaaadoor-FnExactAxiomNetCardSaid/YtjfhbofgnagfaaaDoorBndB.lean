/- The program's bindingOf and IsBinding. -/
import Derived.Test.YtjfhbofgnagfaaaDoorBndA
import Derived.Deep.Cut
namespace Go.Proofs.YtjfhbofgnagfaaaDoor
open Go.ChangeAt Go.ChangeShapes Go.RowKit Go.WideShapes

theorem size_sl : (Tryd.prog.info? 26).map (·.size) = some 1 := by kernel_rfl
theorem add_block (b off j : Nat) : ((⟨b, off, none⟩ : Addr).add j).block = b := by unfold Addr.add; split <;> simp_all
/-- What bindingOf leaves. -/
def GivesB8 (w : World) (qs : List (List Int)) (e : Ending) (w' : World) : Prop :=
  ∃ cs, e = .returned (.tuple #[.agg cs, .bool (bndB qs)]) ∧ BndV w' cs (bndQ qs) ∧ Below w.heap.size w w'
theorem bnd_out {w0 w w' : World} {g : Nat} {cs : Array Value} {qs : List (List Int)} (hb : Below w0.heap.size w0 w) (hg : w0.heap.size ≤ g) (h : BndV w0 cs qs) (hw : w' = w.setRow g cs) : BndV w' cs qs ∧ Below w0.heap.size w0 w' := by
  subst hw
  have := below_setRow hb hg cs
  exact ⟨h.below this, this⟩

end Go.Proofs.YtjfhbofgnagfaaaDoor
