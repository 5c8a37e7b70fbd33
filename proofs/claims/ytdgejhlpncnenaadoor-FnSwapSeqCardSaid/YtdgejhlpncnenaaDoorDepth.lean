/- DepthOf: of the program and of the model. -/
import Derived.Test.YtdgejhlpncnenaaDoorOpnd
namespace Go.Proofs.YtdgejhlpncnenaaDoor
open Go.RowKit

theorem ret_two {a b : Int} {x y : Value} (h : a = b) (h' : x = y) : Ending.returned (.tuple #[.int .i64 a, x]) = .returned (.tuple #[.int .i64 b, y]) := by rw [h, h']

/-- In the list f a formula begins at a, ends before e, and has the depth d. -/
inductive Dp (f : List Int) : Nat → Nat → Int → Prop
  | leaf {a : Nat} : a < f.length → arZ (f.getD a 0) = 0 → Dp f a (a + 1) 0
  | one {a e : Nat} {d : Int} : a < f.length → arZ (f.getD a 0) = 1 → fe f ((a + 1 : Nat) : Int) = e → Dp f (a + 1) e d → Dp f a e (1 + d)
  | two {a e1 e : Nat} {d1 d2 : Int} : a < f.length → arZ (f.getD a 0) = 2 → fe f ((a + 1 : Nat) : Int) = e1 → fe f (e1 : Int) = e → Dp f (a + 1) e1 d1 → Dp f e1 e d2 → Dp f a e (max (1 + d1) (1 + d2))

theorem Dp.bd {f : List Int} {a e : Nat} {d : Int} (h : Dp f a e d) : a < e ∧ e ≤ f.length ∧ 0 ≤ d ∧ d ≤ (e : Int) - a := by
  induction h with
  | leaf h _ => omega
  | one h _ _ _ ih => omega
  | two h _ _ _ _ _ ih1 ih2 => omega

theorem dp_ex (f : List Int) : ∀ (n a e : Nat), f.length - a ≤ n → fe f a = e → ∃ d, Dp f a e d := by
  intro n
  induction n with
  | zero =>
    intro a e hn he
    have := fe_bd f a
    omega
  | succ n ih =>
    intro a e hn he
    have hb := fe_bd f a
    have ha : a < f.length := by omega
    have e0 := fe_any f a
    rw [drop_cons ha] at e0
    rcases arZ_cases (f.getD a 0) with h | h | h | h
    · rw [scan_bad _ _ _ h] at e0; omega
    · rw [scan_end _ _ _ (by omega) (by omega)] at e0
      have : e = a + 1 := by omega
      subst this
      exact ⟨0, .leaf ha h⟩
    · rw [scan_on _ _ _ (by omega) (by omega), h] at e0
      have e1 : fe f ((a + 1 : Nat) : Int) = e := by rw [fe_any f (a + 1), ← he, e0]; rfl
      obtain ⟨d, hd⟩ := ih (a + 1) e (by omega) e1
      exact ⟨_, .one ha h e1 hd⟩
    · rw [scan_on _ _ _ (by omega) (by omega), h] at e0
      have hne : scan (f.drop (a + 1)) (1 + 1) ((a : Int) + 1) ≠ -1 := by
        have e1 : scan (f.drop (a + 1)) (1 + 1) ((a : Int) + 1) = e := by rw [← he, e0]; rfl
        rw [e1]; omega
      obtain ⟨q, q1, q2, q3, q4⟩ := scan_split (f.drop (a + 1)) 1 ((a : Int) + 1) (by omega) hne
      have e1 : fe f ((a + 1 : Nat) : Int) = ((a + 1 + q : Nat) : Int) := by
        rw [fe_any f (a + 1), show ((a + 1 : Nat) : Int) = (a : Int) + 1 by omega, q3]; omega
      have e2 : fe f ((a + 1 + q : Nat) : Int) = e := by
        rw [fe_any f (a + 1 + q), ← List.drop_drop, show ((a + 1 + q : Nat) : Int) = (a : Int) + 1 + q by omega, ← q4, ← he, e0]
        rfl
      obtain ⟨d1, h1⟩ := ih (a + 1) (a + 1 + q) (by omega) e1
      obtain ⟨d2, h2⟩ := ih (a + 1 + q) e (by omega) e2
      exact ⟨_, .two ha h e1 e2 h1 h2⟩

theorem dep_ex {f : List Int} (h : validB f = true) : ∃ d, Dp f 0 f.length d := dp_ex f f.length 0 f.length (by omega) (valid_len h).2.2
open Classical in
/-- DepthOf. -/
noncomputable def depV (f : List Int) : Int := if h : validB f = true then (dep_ex h).choose else -1
theorem depV_no {f : List Int} (h : validB f = false) : depV f = -1 := by unfold depV; rw [dif_neg (by rw [h]; decide)]
theorem depV_yes {f : List Int} (h : validB f = true) : Dp f 0 f.length (depV f) := by unfold depV; rw [dif_pos h]; exact (dep_ex h).choose_spec

end Go.Proofs.YtdgejhlpncnenaaDoor
