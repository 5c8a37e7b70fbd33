/- Substitution, plain mathematics: what is substituted is a formula; the dual; composition; matching is sound. -/
import Derived.Test.YtoniekjchabjlaaDoorSubJ
import Derived.Test.YtoniekjchabjlaaDoorArrowM
namespace Go.Proofs.YtoniekjchabjlaaDoor
open Go.RowKit

theorem leaf_neg {x : Int} (h : leafB x = true) : leafB (-x) = true := by
  unfold leafB at h ⊢
  have := of_decide_eq_true h
  exact decide_eq_true (by omega)
theorem sub1_keep {qs : List (List Int)} {x : Int} (h : ¬ (leafB x = true ∧ 0 < (elt qs x).length)) : sub1 qs x = [x] := by unfold sub1; rw [if_neg h]
theorem sub1_pos {qs : List (List Int)} {x : Int} (h : leafB x = true) (h0 : 0 < (elt qs x).length) (hx : 0 < x) : sub1 qs x = elt qs x := by unfold sub1; rw [if_pos ⟨h, h0⟩, if_pos hx]
theorem sub1_neg {qs : List (List Int)} {x : Int} (h : leafB x = true) (h0 : 0 < (elt qs x).length) (hx : ¬ 0 < x) : sub1 qs x = dualL (elt qs x) := by unfold sub1; rw [if_pos ⟨h, h0⟩, if_neg hx]
theorem elt_neg (qs : List (List Int)) (x : Int) : elt qs (-x) = elt qs x := by unfold elt; rw [Int.natAbs_neg]
theorem sub1_cases {qs : List (List Int)} (hb : bndB qs = true) (x : Int) : sub1 qs x = [x] ∨ (leafB x = true ∧ validB (sub1 qs x) = true) := by
  by_cases h : leafB x = true ∧ 0 < (elt qs x).length
  · right
    refine ⟨h.1, ?_⟩
    have hv := elB_valid (elt_ok hb x) h.2
    by_cases hx : 0 < x
    · rw [sub1_pos h.1 h.2 hx]; exact hv
    · rw [sub1_neg h.1 h.2 hx, dualL_yes hv]; exact valid_dual hv
  · exact .inl (sub1_keep h)
theorem sbL_cons (qs : List (List Int)) (x : Int) (f : List Int) : sbL qs (x :: f) = sub1 qs x ++ sbL qs f := by simp [sbL]
theorem sbL_nil (qs : List (List Int)) : sbL qs [] = [] := rfl
theorem sbL_app (qs : List (List Int)) (f g : List Int) : sbL qs (f ++ g) = sbL qs f ++ sbL qs g := by simp [sbL]
theorem sb_scan {qs : List (List Int)} (hq : bndB qs = true) : ∀ (xs : List Int) (m a : Int), 1 ≤ m → 0 ≤ a → scan xs m a = a + xs.length → ∀ b : Int, scan (sbL qs xs) m b = b + (sbL qs xs).length
  | [], m, a, _, _, h => by simp [scan] at h; omega
  | x :: xs, m, a, hm, ha, h => by
    intro b
    have hx := scan_sym ha h
    have hlo := arZ_lo x
    rw [sbL_cons]
    by_cases h1 : m + arZ x = 1
    · rw [scan_end _ _ _ hx h1, List.length_cons] at h
      have hn : xs = [] := List.eq_nil_of_length_eq_zero (by omega)
      subst hn
      rw [sbL_nil, List.append_nil]
      rcases sub1_cases hq x with e | ⟨hl, hv⟩
      · rw [e, scan_end _ _ _ hx h1]; simp
      · have hax := arZ_leaf hl
        have hm1 : m = 1 := by omega
        have := scan_app (sub1 qs x) 1 0 (by omega) (by omega) (scan_valid hv) [] 0 b (by omega)
        rw [if_pos rfl, List.append_nil] at this
        rw [hm1]
        simpa using this
    · rw [scan_on _ _ _ hx h1, List.length_cons] at h
      have ih := sb_scan hq xs (m + arZ x - 1) (a + 1) (by omega) (by omega) (by omega)
      rcases sub1_cases hq x with e | ⟨hl, hv⟩
      · rw [e, List.cons_append, List.nil_append, scan_on _ _ _ hx h1, ih]
        rw [List.length_cons]; omega
      · have hax := arZ_leaf hl
        have h2 := scan_app (sub1 qs x) 1 0 (by omega) (by omega) (scan_valid hv) (sbL qs xs) (m - 1) b (by omega)
        rw [if_neg (by omega)] at h2
        have e1 : 1 + (m - 1) = m := by omega
        have e2 : m + arZ x - 1 = m - 1 := by omega
        rw [e2] at ih
        rw [e1] at h2
        rw [h2, ih, List.length_append]
        omega
theorem sub1_ne (qs : List (List Int)) (x : Int) : bndB qs = true → 0 < (sub1 qs x).length := fun hb => by
  rcases sub1_cases hb x with e | ⟨_, hv⟩
  · rw [e]; simp
  · have := valid_len hv; omega
/-- A formula with a binding substituted is a formula, unless it is too long. -/
theorem sb_valid {qs : List (List Int)} {f : List Int} (hb : bndB qs = true) (hv : validB f = true) (hl : (sbL qs f).length ≤ 24) : validB (sbL qs f) = true := by
  have h1 := sb_scan hb f 1 0 (by omega) (by omega) (by rw [scan_valid hv]) 0
  have h0 : 1 ≤ (sbL qs f).length := by
    have := valid_len hv
    cases f with
    | nil => simp at this
    | cons x f =>
      have := sub1_ne qs x hb
      rw [sbL_cons, List.length_append]; omega
  unfold validB
  rw [feI_small hl]
  refine decide_eq_true ?_
  have := fe_nat (f := sbL qs f) (a := 0) (by omega)
  rw [List.drop_zero] at this
  rw [show (0 : Int) = ((0 : Nat) : Int) from rfl, this]
  simpa using h1
theorem sub1_dual {qs : List (List Int)} (hb : bndB qs = true) {x : Int} (hx : 0 ≤ arZ x) : sub1 qs (duZ x) = (sub1 qs x).map duZ := by
  have hd := du_sym hx
  by_cases h : leafB x = true ∧ 0 < (elt qs x).length
  · have hv := elB_valid (elt_ok hb x) h.2
    have e : duZ x = -x := hd.2.2.2.2 h.1
    have hr := leaf_range h.1
    rw [e]
    have h' : 0 < (elt qs (-x)).length := by rw [elt_neg]; exact h.2
    by_cases h0 : 0 < x
    · rw [sub1_neg (leaf_neg h.1) h' (by omega), sub1_pos h.1 h.2 h0, elt_neg, dualL_yes hv]
    · rw [sub1_pos (leaf_neg h.1) h' (by omega), sub1_neg h.1 h.2 h0, elt_neg, dualL_yes hv, List.map_map]
      have e2 : ∀ y ∈ elt qs x, (duZ ∘ duZ) y = y := fun y hy => (du_sym (valid_all hv y hy)).2.1
      rw [List.map_congr_left e2]
      simp
  · have h' : ¬ (leafB (duZ x) = true ∧ 0 < (elt qs (duZ x)).length) := by
      rw [hd.2.2.1]
      intro hh
      apply h
      refine ⟨hh.1, ?_⟩
      have := hh.2
      rw [hd.2.2.2.2 hh.1, elt_neg] at this
      exact this
    rw [sub1_keep h, sub1_keep h']
    rfl
/-- Substitution in the dual. -/
theorem sb_dual {qs : List (List Int)} (hb : bndB qs = true) : ∀ {f : List Int}, (∀ x ∈ f, 0 ≤ arZ x) → sbL qs (f.map duZ) = (sbL qs f).map duZ
  | [], _ => rfl
  | x :: f, h => by
    rw [List.map_cons, sbL_cons, sbL_cons, List.map_append, sub1_dual hb (h x (by simp)), sb_dual hb fun y hy => h y (by simp [hy])]
end Go.Proofs.YtoniekjchabjlaaDoor
