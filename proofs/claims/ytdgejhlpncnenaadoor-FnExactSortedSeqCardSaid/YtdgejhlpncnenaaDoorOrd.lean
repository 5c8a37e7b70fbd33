/- Mathematics of sorting by insertion: a list of formulas and its sorted permutation. -/
import Derived.Test.YtdgejhlpncnenaaDoorInsF
import Derived.Test.YtdgejhlpncnenaaDoorSwap
namespace Go.Proofs.YtdgejhlpncnenaaDoor
open Go.ChangeShapes Go.WideShapes Go.ChangeAt Go.RowKit

theorem cmpL_le_trans {a b c : List Int} (h : cmpL a b ≤ 0) (h' : cmpL b c ≤ 0) : cmpL a c ≤ 0 := by
  by_cases e : cmpL a b = 0
  · rw [cmpL_zero.1 e]; exact h'
  · by_cases e' : cmpL b c = 0
    · rw [← cmpL_zero.1 e']; exact h
    · have := cmpL_trans (a := a) (b := b) (c := c) (by omega) (by omega)
      omega
theorem cmpL_swap {a b : List Int} (h : ¬ cmpL a b < 0) : cmpL b a ≤ 0 := by
  have := cmpL_neg a b
  omega
theorem sol_same : ∀ {xs ys : List (List Int)}, xs.Perm ys → SoL xs → SoL ys → xs = ys
  | [], ys, h, _, _ => h.nil_eq
  | x :: xs, [], h, _, _ => absurd h.length_eq (by simp)
  | x :: xs, y :: ys, h, hx, hy => by
    obtain ⟨hx1, hx2⟩ := List.pairwise_cons.1 hx
    obtain ⟨hy1, hy2⟩ := List.pairwise_cons.1 hy
    have e : x = y := by
      have h1 : x ∈ y :: ys := h.mem_iff.1 (List.mem_cons_self ..)
      have h2 : y ∈ x :: xs := h.mem_iff.2 (List.mem_cons_self ..)
      rcases List.mem_cons.1 h1 with h1 | h1
      · exact h1
      · rcases List.mem_cons.1 h2 with h2 | h2
        · exact h2.symm
        · have a1 := hx1 y h2
          have a2 := hy1 x h1
          have a3 := cmpL_neg x y
          exact cmpL_zero.1 (by omega)
    subst e
    rw [sol_same (List.perm_cons x |>.1 h) hx2 hy2]
def insS (q : List Int) : List (List Int) → List (List Int)
  | [] => [q]
  | x :: xs => if cmpL q x ≤ 0 then q :: x :: xs else x :: insS q xs
/-- The formulas in the order of FormBefore. -/
def srtL : List (List Int) → List (List Int)
  | [] => []
  | q :: qs => insS q (srtL qs)
theorem insS_perm (q : List Int) : ∀ xs : List (List Int), (insS q xs).Perm (q :: xs)
  | [] => List.Perm.refl _
  | x :: xs => by
    unfold insS
    by_cases h : cmpL q x ≤ 0
    · rw [if_pos h]
    · rw [if_neg h]
      exact ((insS_perm q xs).cons x).trans (List.Perm.swap q x xs)
theorem insS_sol (q : List Int) : ∀ xs : List (List Int), SoL xs → SoL (insS q xs)
  | [], _ => by simp [insS, SoL]
  | x :: xs, hs => by
    obtain ⟨h1, h2⟩ := List.pairwise_cons.1 hs
    unfold insS
    by_cases h : cmpL q x ≤ 0
    · rw [if_pos h]
      refine List.pairwise_cons.2 ⟨fun z hz => ?_, hs⟩
      rcases List.mem_cons.1 hz with rfl | hz
      · exact h
      · exact cmpL_le_trans h (h1 z hz)
    · rw [if_neg h]
      refine List.pairwise_cons.2 ⟨fun z hz => ?_, insS_sol q xs h2⟩
      rcases List.mem_cons.1 ((insS_perm q xs).mem_iff.1 hz) with rfl | hz
      · exact cmpL_swap (by omega)
      · exact h1 z hz
theorem srtL_perm : ∀ qs : List (List Int), (srtL qs).Perm qs
  | [] => List.Perm.refl _
  | q :: qs => (insS_perm q _).trans ((srtL_perm qs).cons q)
theorem srtL_sol : ∀ qs : List (List Int), SoL (srtL qs)
  | [] => by simp [srtL, SoL]
  | q :: qs => insS_sol q _ (srtL_sol qs)
theorem srt_same {xs qs : List (List Int)} (hp : xs.Perm qs) (hs : SoL xs) : xs = srtL qs := sol_same (hp.trans (srtL_perm qs).symm) hs (srtL_sol qs)
theorem srtL_len (qs : List (List Int)) : (srtL qs).length = qs.length := (srtL_perm qs).length_eq

theorem swp_perm {qs : List (List Int)} {i j : Nat} (hi : i < qs.length) (hj : j < qs.length) : (swp qs i j).Perm qs := by
  rw [List.perm_iff_count]
  intro z
  have hI : qs.getD i [] = qs[i] := by simp [List.getD, hi]
  have hJ : qs.getD j [] = qs[j] := by simp [List.getD, hj]
  unfold swp
  rw [hI, hJ, List.count_set (by simpa using hj), List.count_set hi]
  simp only [List.getElem_set]
  have hc : (if qs[i] == z then 1 else 0) ≤ List.count z qs := by
    by_cases e : qs[i] == z
    · rw [if_pos e]
      have e' : qs[i] = z := eq_of_beq e
      exact List.count_pos_iff.2 (e' ▸ List.getElem_mem hi)
    · rw [if_neg e]; exact Nat.zero_le _
  by_cases e : i = j
  · subst e
    simp only [if_true]
    omega
  · rw [if_neg e]
    omega

/-- The first k are in order. -/
def UpTo (cur : List (List Int)) (k : Nat) : Prop := ∀ a b, a < b → b < k → cmpL (cur.getD a []) (cur.getD b []) ≤ 0
theorem UpTo.sol {cur : List (List Int)} (h : UpTo cur cur.length) : SoL cur := by
  unfold SoL
  rw [List.pairwise_iff_getElem]
  intro i j hi hj hij
  have := h i j hij hj
  simpa [List.getD, hi, hj] using this
theorem UpTo.of_sol {cur : List (List Int)} (h : SoL cur) : UpTo cur cur.length := by
  intro a b h1 h2
  have := List.pairwise_iff_getElem.1 h a b (by omega) h2 h1
  simpa [List.getD, h2, (show a < cur.length by omega)] using this
/-- The first i + 1 are in order but for the one at place j, which is no greater than what stands behind it. -/
def Ins1 (cur : List (List Int)) (i j : Nat) : Prop := (∀ a b, a < b → b ≤ i → a ≠ j → b ≠ j → cmpL (cur.getD a []) (cur.getD b []) ≤ 0) ∧ ∀ b, j < b → b ≤ i → cmpL (cur.getD j []) (cur.getD b []) ≤ 0
theorem Ins1.start {cur : List (List Int)} {i : Nat} (h : UpTo cur i) : Ins1 cur i i := ⟨fun a b h1 h2 _ h4 => h a b h1 (by omega), fun b h1 h2 => absurd h1 (by omega)⟩
theorem Ins1.stop {cur : List (List Int)} {i j : Nat} (h : Ins1 cur i j) (hx : j = 0 ∨ ¬ cmpL (cur.getD j []) (cur.getD (j - 1) []) < 0) : UpTo cur (i + 1) := by
  intro a b h1 h2
  by_cases ea : a = j
  · subst ea; exact h.2 b h1 (by omega)
  · by_cases eb : b = j
    · subst eb
      rcases hx with hx | hx
      · omega
      · have h3 := cmpL_swap hx
        by_cases e : a = b - 1
        · subst e; exact h3
        · exact cmpL_le_trans (h.1 a (b - 1) (by omega) (by omega) ea (by omega)) h3
    · exact h.1 a b h1 (by omega) ea eb
theorem Ins1.step {cur : List (List Int)} {i j : Nat} (h : Ins1 cur i j) (hj : 0 < j) (hji : j ≤ i) (hi : i < cur.length) (hx : cmpL (cur.getD j []) (cur.getD (j - 1) []) < 0) : Ins1 (swp cur j (j - 1)) i (j - 1) := by
  have g : ∀ k, (swp cur j (j - 1)).getD k [] = cur.getD (if k = j - 1 then j else if k = j then j - 1 else k) [] := fun k => swp_get (by omega) (by omega)
  refine ⟨fun a b h1 h2 h3 h4 => ?_, fun b h1 h2 => ?_⟩
  · rw [g, g, if_neg h3, if_neg h4]
    by_cases ea : a = j
    · rw [if_pos ea]
      rw [if_neg (by omega)]
      exact h.1 _ _ (by omega) h2 (by omega) (by omega)
    · rw [if_neg ea]
      by_cases eb : b = j
      · rw [if_pos eb]; exact h.1 _ _ (by omega) (by omega) ea (by omega)
      · rw [if_neg eb]; exact h.1 _ _ h1 h2 ea eb
  · rw [g, g, if_pos rfl, if_neg (by omega)]
    by_cases eb : b = j
    · rw [if_pos eb]; omega
    · rw [if_neg eb]; exact h.2 b (by omega) h2

/-- The place at which a formula is put in, found from the right. -/
theorem insAt_perm {qs : List (List Int)} {p : Nat} (q : List Int) (_hp : p ≤ qs.length) : (insAt qs p q).Perm (q :: qs) := by
  unfold insAt
  have h : (qs.take p ++ q :: qs.drop p).Perm (q :: (qs.take p ++ qs.drop p)) := List.perm_middle
  rwa [List.take_append_drop] at h
theorem insAt_sol {qs : List (List Int)} {p : Nat} {q : List Int} (hs : SoL qs) (hp : p ≤ qs.length) (h1 : ∀ b, p ≤ b → b < qs.length → cmpL q (qs.getD b []) < 0) (h2 : p = 0 ∨ ¬ cmpL q (qs.getD (p - 1) []) < 0) : SoL (insAt qs p q) := by
  apply UpTo.sol
  have hu := UpTo.of_sol hs
  rw [insAt_len hp]
  intro a b hab hb
  rw [insAt_get hp, insAt_get hp]
  by_cases ea : a < p
  · rw [if_pos ea]
    by_cases eb : b < p
    · rw [if_pos eb]; exact hu a b hab (by omega)
    · rw [if_neg eb]
      have h3 : cmpL (qs.getD (p - 1) []) q ≤ 0 := by rcases h2 with h2 | h2; omega; exact cmpL_swap h2
      have h4 : cmpL (qs.getD a []) q ≤ 0 := by
        by_cases e : a = p - 1
        · subst e; exact h3
        · exact cmpL_le_trans (hu a (p - 1) (by omega) (by omega)) h3
      by_cases eb' : b = p
      · rw [if_pos eb']; exact h4
      · rw [if_neg eb']; exact hu a (b - 1) (by omega) (by omega)
  · rw [if_neg ea, if_neg (by omega : ¬ b < p), if_neg (by omega : ¬ b = p)]
    by_cases ea' : a = p
    · rw [if_pos ea']
      have := h1 (b - 1) (by omega) (by omega)
      omega
    · rw [if_neg ea']; exact hu (a - 1) (b - 1) (by omega) (by omega)
end Go.Proofs.YtdgejhlpncnenaaDoor
