/- SubformsOf of the model. -/
import Derived.Test.YtdgejhlpncnenaaDoorInsW
import Derived.Test.YtdgejhlpncnenaaDoorOpnd
namespace Go.Proofs.YtdgejhlpncnenaaDoor
open Go.ChangeShapes Go.WideShapes Go.ChangeAt Go.RowKit

theorem scan_less : ∀ (xs : List Int) (m n a : Int), 1 ≤ m → m ≤ n → 0 ≤ a → scan xs n a ≠ -1 → scan xs m a ≠ -1
  | [], _, _, _, _, _, _, h => absurd rfl h
  | x :: xs, m, n, a, h1, h2, h3, h => by
    rcases arZ_cases x with hx | hx
    · rw [scan_bad _ _ _ hx] at h; exact absurd rfl h
    · have hx0 : 0 ≤ arZ x := by omega
      by_cases hm : m + arZ x = 1
      · rw [scan_end _ _ _ hx0 hm]; omega
      · rw [scan_on _ _ _ hx0 hm]
        rw [scan_on _ _ _ hx0 (by omega)] at h
        exact scan_less xs _ _ _ (by omega) (by omega) (by omega) h
theorem scan_tail {f : List Int} (h : scan f 1 0 = f.length) : ∀ k : Nat, k < f.length → ∃ n : Int, 1 ≤ n ∧ scan (f.drop k) n k = f.length
  | 0, _ => ⟨1, by omega, by simpa using h⟩
  | k + 1, hk => by
    obtain ⟨n, hn, hs⟩ := scan_tail h k (by omega)
    rw [drop_cons (by omega)] at hs
    generalize f.getD k 0 = x at hs
    rcases arZ_cases x with hx | hx
    · rw [scan_bad _ _ _ hx] at hs; omega
    · have hx0 : 0 ≤ arZ x := by omega
      by_cases hm : n + arZ x = 1
      · rw [scan_end _ _ _ hx0 hm] at hs; omega
      · rw [scan_on _ _ _ hx0 hm] at hs
        exact ⟨n + arZ x - 1, by omega, by push_cast; exact hs⟩
/-- A formula begins at every symbol of a formula. -/
theorem fe_some {f : List Int} (hv : validB f = true) {k : Nat} (hk : k < f.length) : (k : Int) + 1 ≤ fe f k ∧ fe f k ≤ f.length := by
  have h0 := (valid_len hv).2.2
  have h0' : scan f 1 0 = f.length := by
    have := fe_nat (f := f) (a := 0) (by omega)
    rw [List.drop_zero] at this
    have e : ((0 : Nat) : Int) = 0 := rfl
    rw [e] at this
    rw [← this]; exact h0
  obtain ⟨n, hn, hs⟩ := scan_tail h0' k hk
  have h1 := scan_less (f.drop k) 1 n k (by omega) hn (by omega) (by omega)
  rw [← fe_nat hk] at h1
  rcases fe_bd f k with h | h
  · exact absurd h h1
  · exact ⟨h.2.1, h.2.2⟩
/-- The formula that begins at symbol k. -/
def partAt (f : List Int) (k : Nat) : List Int := (f.drop k).take ((fe f k).toNat - k)
theorem partAt_len {f : List Int} (hv : validB f = true) {k : Nat} (hk : k < f.length) : 0 < (partAt f k).length ∧ (partAt f k).length ≤ 24 := by
  have h1 := fe_some hv hk
  have h2 := valid_len hv
  unfold partAt
  rw [List.length_take, List.length_drop]
  omega
/-- All of them, in the order of their places. -/
def parts (f : List Int) : List (List Int) := (List.range f.length).map (partAt f)
/-- The first k of them, put in one by one. -/
def insK (f : List Int) (k : Nat) : List (List Int) := ((List.range k).map (partAt f)).foldl (fun l q => insL q l) []
theorem insK_step (f : List Int) (k : Nat) : insK f (k + 1) = insL (partAt f k) (insK f k) := by
  unfold insK
  rw [List.range_succ, List.map_append, List.foldl_append]
  rfl
theorem insK_sos (f : List Int) : ∀ k, SoS (insK f k)
  | 0 => by simp [insK, SoS]
  | k + 1 => by rw [insK_step]; exact insL_sos _ _ (insK_sos f k)
theorem insL_len (q : List Int) : ∀ xs : List (List Int), (insL q xs).length ≤ xs.length + 1
  | [] => by simp [insL]
  | x :: xs => by
    have ih := insL_len q xs
    unfold insL
    by_cases e : q = x
    · rw [if_pos e]; simp
    · rw [if_neg e]
      by_cases h : cmpL q x < 0
      · rw [if_pos h]; simp
      · rw [if_neg h]; simp; exact ih
theorem insK_len (f : List Int) : ∀ k, (insK f k).length ≤ k
  | 0 => by simp [insK]
  | k + 1 => by rw [insK_step]; have := insL_len (partAt f k) (insK f k); have := insK_len f k; omega
theorem insK_mem {f : List Int} (hv : validB f = true) : ∀ k, k ≤ f.length → ∀ x ∈ insK f k, 0 < x.length ∧ x.length ≤ 24
  | 0, _ => by simp [insK]
  | k + 1, hk => by
    rw [insK_step]
    intro x hx
    rcases (insL_mem _ _ _).1 hx with rfl | hx
    · exact partAt_len hv (by omega)
    · exact insK_mem hv k (by omega) x hx
/-- The subformulas. -/
def subL (f : List Int) : List (List Int) := if validB f = true then insK f f.length else []
theorem subL_no {f : List Int} (h : validB f = false) : subL f = [] := by unfold subL; rw [h]; rfl
theorem subL_yes {f : List Int} (h : validB f = true) : subL f = insK f f.length := by unfold subL; rw [if_pos h]
theorem subL_small (f : List Int) : (subL f).length ≤ 1048576 ∧ total (subL f) ≤ 1048576 := by
  cases hv : validB f with
  | false => rw [subL_no hv]; simp [total]
  | true =>
    rw [subL_yes hv]
    have h1 := insK_len f f.length
    have h2 := (valid_len hv).2.1
    have h3 := total_small (qs := insK f f.length) fun x hx => (insK_mem hv f.length (Nat.le_refl _) x hx).2
    omega

end Go.Proofs.YtdgejhlpncnenaaDoor
