/- What is matched is small. -/
import Derived.Test.YtoniekjchabjlaaDoorSubI
namespace Go.Proofs.YtoniekjchabjlaaDoor
open Go.ChangeAt Go.ChangeShapes Go.RowKit Go.WideShapes

theorem mtP_len {f : List Int} (hf : f.length ≤ 24) (x : Int) (a : Nat) : (mtP f x a).length ≤ 24 := by
  unfold mtP
  split
  · exact dualL_len _
  · unfold cutM
    rw [List.length_take, List.length_drop]
    omega
theorem mtS_inv {f : List Int} (hf : f.length ≤ 24) {x : Int} {s t : Nat × List (List Int)} (h : mtS f x s = some t) (h8 : s.2.length = 8) (hs : ∀ q ∈ s.2, q.length ≤ 24) : t.2.length = 8 ∧ ∀ q ∈ t.2, q.length ≤ 24 := by
  unfold mtS at h
  split at h
  · split at h
    · cases h
    · split at h
      · cases h
      · cases h
        exact ⟨by rw [List.length_set]; exact h8, set_small hs (mtP_len hf _ _)⟩
  · split at h
    · cases h
      exact ⟨h8, hs⟩
    · cases h
theorem mtR_inv {f : List Int} (hf : f.length ≤ 24) : ∀ (p : List Int) (s t : Nat × List (List Int)), mtR f p s = some t → s.2.length = 8 → (∀ q ∈ s.2, q.length ≤ 24) → t.2.length = 8 ∧ ∀ q ∈ t.2, q.length ≤ 24
  | [], s, t, h, h8, hs => by cases h; exact ⟨h8, hs⟩
  | x :: p, s, t, h, h8, hs => by
    change (mtS f x s).bind (mtR f p) = some t at h
    cases e : mtS f x s with
    | none => rw [e] at h; cases h
    | some u =>
      rw [e] at h
      obtain ⟨h1, h2⟩ := mtS_inv hf e h8 hs
      exact mtR_inv hf p u t h h1 h2
theorem mtL_small (p f : List Int) : (mtL p f).length ≤ 1048576 ∧ total (mtL p f) ≤ 1048576 := by
  cases h : mtB p f with
  | false => rw [mtL_no h]; exact ⟨Nat.zero_le _, by simp [total]⟩
  | true =>
    have h' := h
    unfold mtB at h'
    simp only [Bool.and_eq_true] at h'
    cases hs : mtR f p mt0 with
    | none => rw [hs] at h'; exact Bool.noConfusion h'.2.2
    | some s =>
      rw [mtL_yes h hs]
      obtain ⟨h1, h2⟩ := mtR_inv (valid_len h'.2.1).2.1 p mt0 s hs rfl fun q hq => by rw [(List.mem_replicate.1 hq).2]; exact Nat.zero_le _
      have := total_small h2
      omega
end Go.Proofs.YtoniekjchabjlaaDoor
