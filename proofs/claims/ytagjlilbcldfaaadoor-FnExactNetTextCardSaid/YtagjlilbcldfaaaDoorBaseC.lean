/- What more is wanted behind the base. -/
import Derived.Test.YtagjlilbcldfaaaDoorNetX
import Derived.Test.YtagjlilbcldfaaaDoorNetY
import Derived.Test.YtagjlilbcldfaaaDoorPgD
import Derived.Test.YtagjlilbcldfaaaDoorPgE
import Derived.Test.YtagjlilbcldfaaaDoorPgF
import Derived.Test.YtagjlilbcldfaaaDoorQDual
import Derived.Test.YtagjlilbcldfaaaDoorQFrag
import Derived.Test.YtagjlilbcldfaaaDoorQLineB
import Derived.Test.YtagjlilbcldfaaaDoorQMath
import Derived.Test.YtagjlilbcldfaaaDoorQNetC
import Derived.Test.YtagjlilbcldfaaaDoorQPgC
import Derived.Test.YtagjlilbcldfaaaDoorQPgG
import Derived.Test.YtagjlilbcldfaaaDoorQPgM
import Derived.Test.YtagjlilbcldfaaaDoorQReadA
import Derived.Test.YtagjlilbcldfaaaDoorQSeqV
import Derived.Test.YtagjlilbcldfaaaDoorQStepH
import Derived.Test.YtagjlilbcldfaaaDoorQSubA
import Derived.Test.YtagjlilbcldfaaaDoorQText
import Derived.Test.YtagjlilbcldfaaaDoorQValid
import Derived.Test.YtagjlilbcldfaaaDoorReadP
import Derived.Test.YtagjlilbcldfaaaDoorRowH
import Derived.Test.YtagjlilbcldfaaaDoorSeqI
import Derived.WalkKit
import Derived.Lib.Hide
import Derived.WalkSpells
import Derived.WalkLawsBesides
import Derived.BigQuiet
import Derived.Deep.QuietTactic
import Derived.Deep.AppendLies
import Derived.Deep.Draws
import Derived.Laws.OwnMore
import Derived.Lib.LaidTab
import Derived.WalkSmall
import Derived.Deep.LoopGhost
import Derived.WalkMore
import Derived.Deep.Onto
import Derived.Lib.AppendZerosOnto
import Derived.Lib.SliceRun
import Derived.Lib.Walk
import Derived.Deep.Matrix
import Derived.Laws.Runes
import Derived.Laws.IdiomStrings
import Derived.Deep.DeepCutAuto
import Derived.StillTailTactics
import Derived.ProofKit
import Derived.OpenShut
import Derived.ChangeOld
import Derived.ChangeVars
import Derived.Deep.DeepHandedRow
import Derived.Stop.LaidErr
import Derived.Deep.RegionLaw
import Derived.Deep.RegionWith
import Derived.Deep.RegionHeld3
import Derived.Maps.AppendAt
import Derived.BigRegion
import Derived.Laws.ResultCell
import Derived.Deep.RegionHeldLaw
import Derived.Laws.Tables
import Derived.Laws.CopyOwn
import Derived.Deep.Cut
import Derived.Laws.AppendOwnNone
import Derived.Laws.StructEq
import Derived.Shelf.Strings.Builder1
import Derived.ChangeKeysEq
import Derived.Deep.Slices
namespace Go.Proofs.YtagjlilbcldfaaaDoor
set_option linter.unusedSimpArgs false
set_option linter.unusedVariables false
section
open Go.ChangeAt Go.ChangeShapes Go.RowKit Go.WideShapes

section
variable {N : Nt}
theorem valN_concl (h : valN N = true) : N.c.all (inW N.w.length) = true := by simp only [valN, Bool.and_eq_true] at h; exact h.2.2.2.1
theorem valN_even (h : valN N = true) : evenN N = true := by simp only [valN, Bool.and_eq_true] at h; exact h.2.2.2.2
theorem valN_at (h : valN N = true) {x : Nat} (hx : x < N.w.length) : madeN N.l x = 1 ∧ usedN N.l x + concN N.c x = 1 := by
  have := (List.all_eq_true.1 (valN_even h)) x (List.mem_range.2 hx)
  exact of_decide_eq_true this
/-- The conclusions are no more than the wires. -/
theorem sum_le {n : Nat} {f : Nat → Int} (h : ∀ x, x < n → f x ≤ 1) : ((List.range n).map f).sum ≤ n := by
  induction n with
  | zero => simp
  | succ n ih =>
    have h1 := ih fun x hx => h x (by omega)
    have h2 := h n (by omega)
    rw [List.range_succ, List.map_append, List.sum_append]
    simp
    omega
theorem sum_zero (n : Nat) : ((List.range n).map fun _ => (0 : Int)).sum = 0 := by
  induction n with
  | zero => rfl
  | succ n ih => rw [List.range_succ, List.map_append, List.sum_append, ih]; rfl
theorem sum_one {n a : Nat} (h : a < n) : ((List.range n).map fun x => one (a = x)).sum = 1 := by
  induction n with
  | zero => omega
  | succ n ih =>
    rw [List.range_succ, List.map_append, List.sum_append]
    by_cases e : a = n
    · subst e
      have : ((List.range a).map fun x => one (a = x)) = (List.range a).map fun _ => (0 : Int) := by
        apply List.map_congr_left
        intro x hx
        have := List.mem_range.1 hx
        unfold one; rw [if_neg (by omega)]
      rw [this, sum_zero]
      simp [one]
    · rw [ih (by omega)]
      simp [one, e]
theorem sum_conc {n : Nat} : ∀ {cs : List Int}, cs.all (inW n) = true → ((List.range n).map fun x => concN cs x).sum = cs.length
  | [], _ => by
    have : ((List.range n).map fun x => concN [] x) = (List.range n).map fun _ => (0 : Int) := by simp [concN]
    rw [this, sum_zero]; rfl
  | c :: cs, h => by
    simp only [List.all_cons, Bool.and_eq_true] at h
    obtain ⟨_, h1, _⟩ := inW_yes h.1
    have ih := sum_conc h.2
    have e : ∀ m, ((List.range m).map fun x => concN (c :: cs) x).sum = ((List.range m).map fun x => one (c.toNat = x)).sum + ((List.range m).map fun x => concN cs x).sum := by
      intro m
      induction m with
      | zero => simp
      | succ m ihm =>
        rw [List.range_succ]
        simp only [List.map_append, List.sum_append, ihm, List.map_cons, List.map_nil, List.sum_cons, List.sum_nil]
        simp only [concN, List.map_cons, List.sum_cons]
        omega
    rw [e, ih, sum_one h1]
    simp; omega
theorem valN_conc_le (h : valN N = true) : N.c.length ≤ N.w.length := by
  have h1 := sum_conc (valN_concl h)
  have h2 := sum_le (n := N.w.length) (f := fun x => concN N.c x) fun x hx => by
    have h3 := valN_at h hx
    have h4 := usedN_le N.l x
    show concN N.c x ≤ 1
    omega
  omega
end
end
end Go.Proofs.YtagjlilbcldfaaaDoor
