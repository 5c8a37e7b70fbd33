/- Patterns and formulas are read side by side: where the pattern goes on, so does the formula. A row of parts is kept by a store into an array. -/
import Derived.Test.YtoniekjchabjlaaDoorBndJ
import Derived.Test.YtoniekjchabjlaaDoorSubL
namespace Go.Proofs.YtoniekjchabjlaaDoor
open Go.ChangeAt Go.ChangeShapes Go.RowKit Go.WideShapes

theorem scan_lessM : ∀ (xs : List Int) (m n a : Int), 1 ≤ m → m ≤ n → 0 ≤ a → scan xs n a ≠ -1 → scan xs m a ≠ -1
  | [], _, _, _, _, _, _, h => absurd rfl h
  | x :: xs, m, n, a, h1, h2, h3, h => by
    rcases arZ_cases x with hx | hx
    · rw [scan_bad _ _ _ hx] at h; exact absurd rfl h
    · have hx0 : 0 ≤ arZ x := by omega
      by_cases hm : m + arZ x = 1
      · rw [scan_end _ _ _ hx0 hm]; omega
      · rw [scan_on _ _ _ hx0 hm]
        rw [scan_on _ _ _ hx0 (by omega)] at h
        exact scan_lessM xs _ _ _ (by omega) (by omega) (by omega) h
theorem scan_tailM {f : List Int} (h : scan f 1 0 = f.length) : ∀ k : Nat, k < f.length → ∃ n : Int, 1 ≤ n ∧ scan (f.drop k) n k = f.length
  | 0, _ => ⟨1, by omega, by simpa using h⟩
  | k + 1, hk => by
    obtain ⟨n, hn, hs⟩ := scan_tailM h k (by omega)
    rw [drop_cons (by omega)] at hs
    generalize f.getD k 0 = x at hs
    rcases arZ_cases x with hx | hx
    · rw [scan_bad _ _ _ hx] at hs; omega
    · have hx0 : 0 ≤ arZ x := by omega
      by_cases hm : n + arZ x = 1
      · rw [scan_end _ _ _ hx0 hm] at hs; omega
      · rw [scan_on _ _ _ hx0 hm] at hs
        exact ⟨n + arZ x - 1, by omega, by push_cast; exact hs⟩
/-- A formula begins at every symbol of a formula. -/
theorem fe_someM {f : List Int} (hv : validB f = true) {k : Nat} (hk : k < f.length) : (k : Int) + 1 ≤ fe f k ∧ fe f k ≤ f.length := by
  have h0 := (valid_len hv).2.2
  have h0' : scan f 1 0 = f.length := by
    have := fe_nat (f := f) (a := 0) (by omega)
    rw [List.drop_zero] at this
    have e : ((0 : Nat) : Int) = 0 := rfl
    rw [e] at this
    rw [← this]; exact h0
  obtain ⟨n, hn, hs⟩ := scan_tailM h0' k hk
  have h1 := scan_lessM (f.drop k) 1 n k (by omega) hn (by omega) (by omega)
  rw [← fe_nat hk] at h1
  rcases fe_bd f k with h | h
  · exact absurd h h1
  · exact ⟨h.2.1, h.2.2⟩
/-- As many formulas are left of the one as of the other. -/
def SameNeed (p f : List Int) (k a : Nat) : Prop := k < p.length → ∃ m : Int, 1 ≤ m ∧ scan (p.drop k) m k = p.length ∧ scan (f.drop a) m a = f.length
theorem need_zero {p f : List Int} (hp : validB p = true) (hf : validB f = true) : SameNeed p f 0 0 := fun _ =>
  ⟨1, by omega, by have := scan_valid hp; simpa using this, by have := scan_valid hf; simpa using this⟩
theorem need_lt {p f : List Int} {k a : Nat} (h : SameNeed p f k a) (hk : k < p.length) : a < f.length := by
  obtain ⟨m, _, _, h3⟩ := h hk
  by_cases ha : a < f.length
  · exact ha
  · rw [List.drop_eq_nil_of_le (by omega), scan_nil] at h3
    omega
theorem scan_ar {x : Int} {xs : List Int} {m a : Int} {n : Nat} (h : scan (x :: xs) m a = (n : Int)) : 0 ≤ arZ x := by
  have := arZ_lo x
  by_cases e : arZ x = -1
  · rw [scan_bad xs m a e] at h; omega
  · omega
theorem need_op {p f : List Int} {k a : Nat} (h : SameNeed p f k a) (hk : k < p.length) (he : f.getD a 0 = p.getD k 0) : SameNeed p f (k + 1) (a + 1) := fun hk1 => by
  have ha := need_lt h hk
  obtain ⟨m, h1, h2, h3⟩ := h hk
  rw [drop_cons hk] at h2
  rw [drop_cons ha, he] at h3
  have h0 := scan_ar h2
  by_cases e : m + arZ (p.getD k 0) = 1
  · rw [scan_end _ _ _ h0 e] at h2
    omega
  · rw [scan_on _ _ _ h0 e] at h2 h3
    exact ⟨m + arZ (p.getD k 0) - 1, by omega, by rw [← h2]; norm_cast, by rw [← h3]; norm_cast⟩
theorem need_leaf {p f : List Int} {k a E : Nat} (h : SameNeed p f k a) (hk : k < p.length) (hl : leafB (p.getD k 0) = true) (hE : fe f a = E) : SameNeed p f (k + 1) E := fun hk1 => by
  have ha := need_lt h hk
  obtain ⟨m, h1, h2, h3⟩ := h hk
  rw [drop_cons hk] at h2
  have hz := arZ_leaf hl
  have hb := fe_bd f a
  rw [hE] at hb
  have haE : a < E := by omega
  have hEl : E ≤ f.length := by omega
  rw [fe_nat ha] at hE
  by_cases e : m = 1
  · rw [scan_end _ _ _ (by omega) (by omega)] at h2
    omega
  · rw [scan_on _ _ _ (by omega) (by omega), hz] at h2
    have h5 := (scan_move (f.drop a) 1 a a (E - a) (by omega) (by omega) (by omega) (by rw [hE]; omega)).2
    have hlt : ((f.drop a).take (E - a)).length = E - a := by rw [List.length_take, List.length_drop]; omega
    have h6 := scan_app ((f.drop a).take (E - a)) 1 a (by omega) (by omega) (by rw [h5, hlt]) ((f.drop a).drop (E - a)) (m - 1) a (by omega)
    rw [List.take_append_drop, if_neg (by omega), hlt, List.drop_drop, show a + (E - a) = E by omega, show (1 : Int) + (m - 1) = m by omega, h3] at h6
    exact ⟨m - 1, by omega, by rw [← h2]; congr 1 <;> omega, by rw [h6]; congr 1; omega⟩
end Go.Proofs.YtoniekjchabjlaaDoor
