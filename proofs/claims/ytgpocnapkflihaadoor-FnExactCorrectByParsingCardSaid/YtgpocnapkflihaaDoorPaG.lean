/- The program's IsFiringSequence, ReadyLinks, PartsAfter, OpenWires. -/
import Derived.Test.YtgpocnapkflihaaDoorPaF
import Derived.Deep.RegionHeldLaw
import Derived.Deep.DeepCutAuto
import Derived.BigQuiet
namespace Go.Proofs.YtgpocnapkflihaaDoor
set_option linter.unusedSimpArgs false
set_option linter.unusedVariables false
open Go.ChangeAt Go.ChangeShapes Go.RowKit Go.WideShapes

/-- The answers. -/
def ifB (N : Nt) (fs : List Int) : Bool := valN N && isF N fs
def rlV (N : Nt) (fs : List Int) : List Int := if ifB N fs = true then allQ N fs else []
def paU (N : Nt) (fs : List Int) (k : Nat) : List Int := (List.range k).map fun x : Nat => qN N fs (frN N (x : Int))
def paV (N : Nt) (fs : List Int) : List Int := if ifB N fs = true then paU N fs N.w.length else []
def opU (N : Nt) (fs : List Int) (k : Nat) : List Int := ((List.range k).map fun x : Nat => (x : Int)).filter fun x => opnQ N (qN N fs) x
def owV (N : Nt) (fs : List Int) : List Int := if ifB N fs = true then opU N fs N.w.length else []
theorem boxN_any (w : World) (h : NH) (N : Nt) : Below w.heap.size w (w.alloc (.cells #[.slice h.A N.w.length h.c, .slice h.L N.l.length h.d, .slice h.C N.c.length h.e] 31)) := (Below.refl _ _).alloc (Nat.le_refl _) _
/-- The row of parts while it is being filled. -/
def paR (N : Nt) (fs : List Int) (k : Nat) : List Int := paU N fs k ++ List.replicate (N.w.length - k) 0
theorem paU_len (N : Nt) (fs : List Int) (k : Nat) : (paU N fs k).length = k := by simp [paU]
theorem paR_len {N : Nt} {fs : List Int} {k : Nat} (h : k ≤ N.w.length) : (paR N fs k).length = N.w.length := by
  unfold paR; rw [List.length_append, paU_len, List.length_replicate]; omega
theorem paR_all (N : Nt) (fs : List Int) : paR N fs N.w.length = paU N fs N.w.length := by unfold paR; simp
theorem paR_step {N : Nt} {fs : List Int} {k : Nat} (h : k < N.w.length) : (paR N fs k).set k (qN N fs (frN N (k : Int))) = paR N fs (k + 1) := by
  have e1 : paU N fs (k + 1) = paU N fs k ++ [qN N fs (frN N (k : Int))] := by unfold paU; rw [List.range_succ, List.map_append]; rfl
  unfold paR
  rw [List.set_append_right _ _ (by rw [paU_len]; omega), paU_len, Nat.sub_self, e1, List.append_assoc]
  obtain ⟨m, hm⟩ : ∃ m, N.w.length - k = m + 1 := ⟨N.w.length - k - 1, by omega⟩
  rw [hm, show N.w.length - (k + 1) = m by omega]
  rfl
end Go.Proofs.YtgpocnapkflihaaDoor
