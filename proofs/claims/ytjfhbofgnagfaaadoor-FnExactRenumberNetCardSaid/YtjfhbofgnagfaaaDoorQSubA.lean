/- Substitution: the mathematics; the model's IsBinding, subst, SubstForm. The program's bindings, arrays of eight slices: bindingOf, IsBinding. The program's bindingOf and IsBinding. The program's IsBinding, atomOf, forSymbol. The model's subst and SubstForm. The program's inForm: substitution in a list of symbols. Rows of headers: a row of one's own whose parts lie wherever. slices.Contains; the program's without. -/
import Derived.Test.YtjfhbofgnagfaaaDoorQSeqV
import Derived.Test.YtjfhbofgnagfaaaDoorQDual
import Derived.Test.YtjfhbofgnagfaaaDoorQValid
import Derived.Test.YtjfhbofgnagfaaaDoorQNetO
import Derived.Laws.Tables
import Derived.Laws.CopyOwn
import Derived.Deep.Cut
import Derived.Deep.QuietTactic
import Derived.BigQuiet
import Derived.Deep.RegionLaw
import Derived.Deep.AppendLies
import Derived.Laws.AppendOwnNone
namespace Go.Proofs.YtjfhbofgnagfaaaDoor
set_option linter.unusedSimpArgs false
set_option linter.unusedVariables false
section
open Go.ChangeAt Go.ChangeShapes Go.RowKit Go.WideShapes
end
section
open Go.ChangeAt Go.ChangeShapes Go.RowKit Go.WideShapes

/-- An array of eight slices that read as a binding. -/
structure BndV (w : World) (cs : Array Value) (qs : List (List Int)) : Prop where
  size : cs.size = 8
  len : qs.length = 8
  one : cs.all (·.oneCell') = true
  part : ∀ k, k < 8 → ∃ A c, cs[k]? = some (.slice A (qs.getD k []).length c) ∧ (qs.getD k []).length ≤ c ∧ RdI w w.heap.size A (qs.getD k []).length (qs.getD k [])
theorem BndV.below {w w' : World} {cs : Array Value} {qs : List (List Int)} (h : BndV w cs qs) (hb : Below w.heap.size w w') : BndV w' cs qs :=
  ⟨h.size, h.len, h.one, fun k hk => by
    obtain ⟨A, c, h1, h2, h3⟩ := h.part k hk
    exact ⟨A, c, h1, h2, (h3.below hb).more hb.size⟩⟩
end
section
open Go.ChangeAt Go.ChangeShapes Go.RowKit Go.WideShapes
end
section
open Go.ChangeAt Go.ChangeShapes Go.RowKit Go.WideShapes
end
section
open Go.ChangeAt Go.ChangeShapes Go.RowKit Go.WideShapes
end
section
open Go.ChangeAt Go.ChangeShapes Go.RowKit Go.WideShapes
end
section
open Go.ChangeAt Go.ChangeShapes Go.RowKit Go.WideShapes

/-- Headers that read as a list of lists. -/
structure RdV (w : World) (vs : List Value) (R : List (List Int)) : Prop where
  len : vs.length = R.length
  part : ∀ i, i < R.length → ∃ A c, vs[i]? = some (.slice A (R.getD i []).length c) ∧ (R.getD i []).length ≤ c ∧ RdI w w.heap.size A (R.getD i []).length (R.getD i [])
theorem RdV.below {w w' : World} {vs : List Value} {R : List (List Int)} (h : RdV w vs R) (hb : Below w.heap.size w w') : RdV w' vs R :=
  ⟨h.len, fun i hi => by
    obtain ⟨A, c, h1, h2, h3⟩ := h.part i hi
    exact ⟨A, c, h1, h2, (h3.below hb).more hb.size⟩⟩
theorem RdV.one {w : World} {vs : List Value} {R : List (List Int)} (h : RdV w vs R) : ∀ v ∈ vs, v.oneCell' = true := by
  intro v hv
  obtain ⟨i, hi, e⟩ := List.mem_iff_getElem.1 hv
  obtain ⟨A, c, h1, _⟩ := h.part i (by have := h.len; omega)
  rw [List.getElem?_eq_getElem hi, e] at h1
  injection h1 with h1
  rw [h1]; rfl
theorem RdV.nil (w : World) : RdV w [] [] := ⟨rfl, fun i hi => by simp at hi⟩
theorem RdV.rd {w : World} {base c : Nat} {A : Option Addr} {vs : List Value} {R : List (List Int)} (h : RdV w vs R) (own : w.ownsRow base 26 1 (.slice A R.length c) R.length vs) : RdQ w w.heap.size A R.length R := by
  refine ⟨rfl, fun hn => ?_⟩
  obtain ⟨g, cap, hv', _, hlt⟩ := own.form hn
  injection hv' with e1 e2 e3
  subst e1; subst e3
  refine ⟨g, 0, rfl, hlt, fun j hj => ?_⟩
  obtain ⟨A, c, h1, h2, h3⟩ := h.part j hj
  refine ⟨A, c, ?_, h2, h3⟩
  rw [Nat.zero_add, own.cellAt j (by omega), h1]
end
end Go.Proofs.YtjfhbofgnagfaaaDoor
