/- The program's inForm: substitution in a list of symbols. -/
import Derived.Test.YtjfhbofgnagfaaaDoorBndC
import Derived.Test.YtjfhbofgnagfaaaDoorSubB
import Derived.Deep.RegionLaw
import Derived.Deep.AppendLies
namespace Go.Proofs.YtjfhbofgnagfaaaDoor
open Go.ChangeAt Go.ChangeShapes Go.RowKit Go.WideShapes

theorem sub1_pos' {qs : List (List Int)} (hok : ∀ k, elB (qs.getD k []) = true) (x : Int) : 0 < (sub1 qs x).length ∧ (sub1 qs x).length ≤ 24 := by
  unfold sub1
  split
  · rename_i h
    have he : elB (elt qs x) = true := hok _
    have hv := elB_valid he h.2
    have hl := elB_len he
    split
    · exact ⟨h.2, hl⟩
    · rw [dualL_yes hv, List.length_map]; exact ⟨h.2, hl⟩
  · simp
theorem own_base {w : World} {b b' n size : Nat} {e : TypeId} {v : Value} {xs : List Value} (h : w.ownsRow b e size v n xs) (hb : b' ≤ b) : w.ownsRow b' e size v n xs :=
  ⟨h.1, h.2.imp id fun ⟨g, cap, cur, h1, h2, h3⟩ => ⟨g, cap, cur, h1, Nat.le_trans hb h2, h3⟩⟩
theorem sbL_len' {qs : List (List Int)} (hok : ∀ k, elB (qs.getD k []) = true) (f : List Int) : (sbL qs f).length ≤ 24 * f.length := by
  induction f with
  | nil => simp [sbL]
  | cons x f ih =>
    have e : sbL qs (x :: f) = sub1 qs x ++ sbL qs f := by simp [sbL]
    have := (sub1_pos' hok x).2
    rw [e, List.length_append, List.length_cons, Nat.mul_add]
    omega
end Go.Proofs.YtjfhbofgnagfaaaDoor
