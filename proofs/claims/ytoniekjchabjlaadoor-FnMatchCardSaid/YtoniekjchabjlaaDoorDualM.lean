/- What the dual keeps: validity, depth, fragment, the leaves but for their sign. Plain mathematics. -/
import Derived.Test.YtoniekjchabjlaaDoorDepth
import Derived.Test.YtoniekjchabjlaaDoorFrag
import Derived.Test.YtoniekjchabjlaaDoorLeaves
namespace Go.Proofs.YtoniekjchabjlaaDoor
open Go.RowKit

theorem du_sym {x : Int} (h : 0 ≤ arZ x) : arZ (duZ x) = arZ x ∧ duZ (duZ x) = x ∧ leafB (duZ x) = leafB x ∧ bitZ (duZ x) = bitZ x ∧ (leafB x = true → duZ x = -x) := by
  rcases sym_cases x with ⟨hl, ha, hb⟩ | ⟨hl, ho, h8⟩ | ⟨_, _, hn, _⟩
  · have e : duZ x = -x := duZ_leaf hl
    have hl2 : leafB (-x) = true := leaf_iff.2 (by omega)
    refine ⟨by rw [e, ha, arZ_leaf hl2], by rw [e, duZ_leaf hl2]; omega, by rw [e, hl, hl2], by rw [e, bitZ_other (by omega), bitZ_other (by omega)], fun _ => e⟩
  · refine ⟨?_, ?_, ?_, ?_, fun h => by rw [hl] at h; cases h⟩ <;> rcases h8 with ⟨rfl, _⟩ | ⟨rfl, _⟩ | ⟨rfl, _⟩ | ⟨rfl, _⟩ | ⟨rfl, _⟩ | ⟨rfl, _⟩ | ⟨rfl, _⟩ | ⟨rfl, _⟩ <;> decide
  · omega
theorem scan_dual : ∀ (xs : List Int) (m a : Int), (∀ x ∈ xs, 0 ≤ arZ x) → scan (xs.map duZ) m a = scan xs m a
  | [], _, _, _ => rfl
  | x :: xs, m, a, h => by
    have hx := h x (by simp)
    have e := (du_sym hx).1
    simp only [List.map_cons, scan, e, scan_dual xs _ _ (fun y hy => h y (by simp [hy]))]
theorem fe_dual {f : List Int} (h : ∀ x ∈ f, 0 ≤ arZ x) (a : Nat) : fe (f.map duZ) a = fe f a := by
  rw [fe_any, fe_any, ← List.map_drop, scan_dual _ _ _ (fun x hx => h x (List.mem_of_mem_drop hx))]
theorem valid_dual {f : List Int} (h : validB f = true) : validB (f.map duZ) = true := by
  obtain ⟨h1, h2, h3⟩ := valid_len h
  have e := fe_dual (valid_all h) 0
  rw [show ((0 : Nat) : Int) = 0 from rfl, h3] at e
  simp only [validB, decide_eq_true_eq]
  rw [feI_small (by simpa using h2), e]
  simp
theorem dual_dual {f : List Int} (h : validB f = true) : dualL (f.map duZ) = f := by
  rw [dualL_yes (valid_dual h), List.map_map]
  have e : ∀ x ∈ f, (duZ ∘ duZ) x = x := fun x hx => (du_sym (valid_all h x hx)).2.1
  rw [List.map_congr_left e]
  simp
theorem at_dual {f : List Int} (h : validB f = true) {k : Nat} (hk : k < f.length) : arZ ((f.map duZ).getD k 0) = arZ (f.getD k 0) := by
  rw [map_at f duZ k hk]
  exact (du_sym (valid_all h _ (by simp [List.getD, hk]))).1
theorem dp_dual {f : List Int} (h : validB f = true) {a e : Nat} {d : Int} (hd : Dp f a e d) : Dp (f.map duZ) a e d := by
  have hl : (f.map duZ).length = f.length := by simp
  induction hd with
  | leaf ha h0 => exact .leaf (by omega) (by rw [at_dual h ha]; exact h0)
  | one ha h0 hf _ ih => exact .one (by omega) (by rw [at_dual h ha]; exact h0) (by rw [fe_dual (valid_all h)]; exact hf) ih
  | two ha h0 hf1 hf2 _ _ ih1 ih2 => exact .two (by omega) (by rw [at_dual h ha]; exact h0) (by rw [fe_dual (valid_all h)]; exact hf1) (by rw [fe_dual (valid_all h)]; exact hf2) ih1 ih2
theorem dp_one {f : List Int} {a e : Nat} {d : Int} (h : Dp f a e d) : ∀ {e' : Nat} {d' : Int}, Dp f a e' d' → e = e' ∧ d = d' := by
  induction h with
  | leaf ha h0 =>
    intro e' d' h'
    cases h' with
    | leaf _ _ => exact ⟨rfl, rfl⟩
    | one _ h1 _ _ => omega
    | two _ h1 _ _ _ _ => omega
  | one ha h0 hf _ ih =>
    intro e' d' h'
    cases h' with
    | leaf _ h1 => omega
    | one _ _ _ h2 => obtain ⟨r1, r2⟩ := ih h2; exact ⟨r1, by rw [r2]⟩
    | two _ h1 _ _ _ _ => omega
  | two ha h0 hf1 hf2 _ _ ih1 ih2 =>
    intro e' d' h'
    cases h' with
    | leaf _ h1 => omega
    | one _ h1 _ _ => omega
    | two _ _ _ _ h2 h3 =>
      obtain ⟨r1, r2⟩ := ih1 h2
      subst r1
      obtain ⟨r3, r4⟩ := ih2 h3
      exact ⟨r3, by rw [r2, r4]⟩
theorem depth_dual {f : List Int} (h : validB f = true) : depV (f.map duZ) = depV f := by
  have h1 := dp_dual h (depV_yes h)
  have h2 := depV_yes (valid_dual h)
  rw [show (f.map duZ).length = f.length by simp] at h2
  exact (dp_one h2 h1).2
theorem frag_dual {f : List Int} (h : validB f = true) : fragV (f.map duZ) = fragV f := by
  rw [fragV_yes h, fragV_yes (valid_dual h)]
  have e : ∀ v, occ (f.map duZ) v (f.map duZ).length = occ f v f.length := by
    intro v
    unfold occ
    rw [List.take_of_length_le (Nat.le_refl _), List.take_of_length_le (Nat.le_refl _), List.any_map]
    have e2 : ∀ x ∈ f, ((fun n => bitZ n == v) ∘ duZ) x = (fun n => bitZ n == v) x := fun x hx => by
      show (bitZ (duZ x) == v) = (bitZ x == v)
      rw [(du_sym (valid_all h x hx)).2.2.2.1]
    rw [Bool.eq_iff_iff, List.any_eq_true, List.any_eq_true]
    constructor
    · rintro ⟨x, hx, h'⟩; exact ⟨x, hx, (e2 x hx).symm.trans h'⟩
    · rintro ⟨x, hx, h'⟩; exact ⟨x, hx, (e2 x hx).trans h'⟩
  unfold fragK
  rw [e, e, e, e]
theorem leaves_dual {f : List Int} (h : validB f = true) : leavesL (f.map duZ) = (leavesL f).map (fun x => -x) := by
  have e1 : leavesL f = f.filter leafB := by simp [leavesL, h]
  have e2 : leavesL (f.map duZ) = (f.map duZ).filter leafB := by simp [leavesL, valid_dual h]
  rw [e1, e2]
  have hall := valid_all h
  clear e1 e2 h
  induction f with
  | nil => rfl
  | cons x xs ih =>
    have hx := du_sym (hall x (by simp))
    have ih' := ih (fun y hy => hall y (by simp [hy]))
    cases hl : leafB x with
    | true =>
      have e3 : leafB (duZ x) = true := by rw [hx.2.2.1, hl]
      rw [List.map_cons, List.filter_cons, if_pos e3, List.filter_cons, if_pos hl, List.map_cons, ih', hx.2.2.2.2 hl]
    | false =>
      have e3 : ¬ leafB (duZ x) = true := by rw [hx.2.2.1, hl]; decide
      rw [List.map_cons, List.filter_cons, if_neg e3, List.filter_cons, if_neg (by rw [hl]; decide), ih']
end Go.Proofs.YtoniekjchabjlaaDoor
