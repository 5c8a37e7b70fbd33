/- slices.CompactFunc at a row of formulas in memory of its own. -/
import Derived.Test.YtdgejhlpncnenaaDoorSel
import Derived.Test.YtdgejhlpncnenaaDoorEqD
import Derived.Test.YtdgejhlpncnenaaDoorAny
import Derived.Lib.SliceRun
namespace Go.Proofs.YtdgejhlpncnenaaDoor
open Go.ChangeShapes Go.WideShapes Go.ChangeAt Go.RowKit

/-- The places below i that are kept: each that differs from the one before it. -/
def kp (qs : List (List Int)) : Nat → List Nat
  | 0 => []
  | i + 1 => if i = 0 ∨ qs.getD i [] ≠ qs.getD (i - 1) [] then kp qs i ++ [i] else kp qs i
theorem kp_keep {qs : List (List Int)} {i : Nat} (h : i = 0 ∨ qs.getD i [] ≠ qs.getD (i - 1) []) : kp qs (i + 1) = kp qs i ++ [i] := by rw [kp, if_pos h]
theorem kp_drop {qs : List (List Int)} {i : Nat} (h0 : i ≠ 0) (h : qs.getD i [] = qs.getD (i - 1) []) : kp qs (i + 1) = kp qs i := by
  rw [kp, if_neg (by rintro (e | e); exact h0 e; exact e h)]
theorem kp_lt (qs : List (List Int)) : ∀ i, ∀ j ∈ kp qs i, j < i
  | 0 => by simp [kp]
  | i + 1 => by
    intro j hj
    by_cases h : i = 0 ∨ qs.getD i [] ≠ qs.getD (i - 1) []
    · rw [kp_keep h] at hj
      rcases List.mem_append.1 hj with hj | hj
      · have := kp_lt qs i j hj; omega
      · have : j = i := by simpa using hj
        omega
    · rw [kp, if_neg h] at hj
      have := kp_lt qs i j hj; omega
theorem kp_nd (qs : List (List Int)) : ∀ i, (kp qs i).Nodup
  | 0 => by simp [kp]
  | i + 1 => by
    by_cases h : i = 0 ∨ qs.getD i [] ≠ qs.getD (i - 1) []
    · rw [kp_keep h, List.nodup_append]
      refine ⟨kp_nd qs i, by simp, fun a ha b hb => ?_⟩
      have h1 := kp_lt qs i a ha
      have : b = i := by simpa using hb
      omega
    · rw [kp, if_neg h]; exact kp_nd qs i
theorem kp_len (qs : List (List Int)) : ∀ i, (kp qs i).length ≤ i
  | 0 => by simp [kp]
  | i + 1 => by
    have ih := kp_len qs i
    by_cases h : i = 0 ∨ qs.getD i [] ≠ qs.getD (i - 1) []
    · rw [kp_keep h, List.length_append]; simp; omega
    · rw [kp, if_neg h]; omega
theorem cmpct_snoc : ∀ (xs : List (List Int)) (y z : List Int), xs.getLast? = some z → cmpctL (xs ++ [y]) = if z = y then cmpctL xs else cmpctL xs ++ [y]
  | [], _, _, h => by simp at h
  | [x], y, z, h => by
    obtain rfl : x = z := by simpa using h
    simp only [List.cons_append, List.nil_append, cmpctL]
    by_cases e : x = y
    · rw [if_pos e, if_pos e, e]
    · rw [if_neg e, if_neg e]
  | x :: x' :: r, y, z, h => by
    have ih := cmpct_snoc (x' :: r) y z (by simpa [List.getLast?_cons_cons] using h)
    simp only [List.cons_append] at ih ⊢
    by_cases e : x = x'
    · rw [cmpctL, if_pos e, cmpctL, if_pos e]; exact ih
    · rw [cmpctL, if_neg e, ih, cmpctL, if_neg e]
      by_cases e2 : z = y
      · rw [if_pos e2, if_pos e2]
      · rw [if_neg e2, if_neg e2]; rfl
theorem cmpct_kp (qs : List (List Int)) : ∀ i, i ≤ qs.length → cmpctL (qs.take i) = selQ qs (kp qs i)
  | 0, _ => by simp [cmpctL, kp, selQ]
  | i + 1, h => by
    have ih := cmpct_kp qs i (by omega)
    have hi : i < qs.length := by omega
    have e3 : qs.getD i [] = qs[i] := by simp [List.getD, hi]
    rw [List.take_succ_eq_append_getElem hi, ← e3]
    by_cases h0 : i = 0
    · subst h0
      rw [kp_keep (.inl rfl)]
      simp [cmpctL, kp, selQ]
    · have hl : (qs.take i).getLast? = some (qs.getD (i - 1) []) := by
        rw [List.getLast?_eq_getElem?, List.length_take, Nat.min_eq_left (by omega), List.getElem?_take_of_lt (by omega), List.getElem?_eq_getElem (by omega)]
        simp [List.getD, show i - 1 < qs.length by omega]
      rw [cmpct_snoc _ _ _ hl]
      by_cases e : qs.getD i [] = qs.getD (i - 1) []
      · rw [if_pos e.symm, kp_drop h0 e]; exact ih
      · rw [if_neg (fun x => e x.symm), kp_keep (.inr e), ih]
        simp [selQ]
theorem range_kp {qs : List (List Int)} {i : Nat} (h : kp qs i = List.range i) (hd : i = 0 ∨ qs.getD i [] ≠ qs.getD (i - 1) []) : kp qs (i + 1) = List.range (i + 1) := by
  rw [kp_keep hd, h, List.range_succ]
theorem own_setCells {g lo n cap : Nat} {e : TypeId} : ∀ (vs : List Value) (o : Nat) (w : World) (xs : List Value), w.ownsRow lo e 1 (.slice (some ⟨g, 0, none⟩) n cap) n xs →
    ∃ xs', (w.setCells g o vs).ownsRow lo e 1 (.slice (some ⟨g, 0, none⟩) n cap) n xs' ∧ xs'.take o = xs.take o ∧ w.grownBy (w.setCells g o vs) (some g)
  | [], o, w, xs, h => ⟨xs, h, rfl, World.grownBy.refl w _⟩
  | v :: vs, o, w, xs, h => by
    obtain ⟨h1, h2⟩ := h.stored o v
    obtain ⟨xs', h3, h4, h5⟩ := own_setCells vs (o + 1) (w.setCell ⟨g, o, none⟩ v) (xs.set o v) h1
    refine ⟨xs', h3, ?_, grownBy_trans h2 h5⟩
    have e1 := congrArg (List.take o) h4
    rw [List.take_take, List.take_take, Nat.min_eq_left (by omega)] at e1
    rw [e1, List.take_set_of_le (Nat.le_refl o)]
end Go.Proofs.YtdgejhlpncnenaaDoor
