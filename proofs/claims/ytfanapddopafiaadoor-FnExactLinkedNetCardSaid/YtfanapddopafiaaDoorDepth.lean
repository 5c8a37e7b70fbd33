/- OperandOf: of the program and of the model. DepthOf: of the program and of the model. -/
import Derived.Test.YtfanapddopafiaaDoorQDual
import Derived.Test.YtfanapddopafiaaDoorQValid
namespace Go.Proofs.YtfanapddopafiaaDoor
open Go.RowKit

/-- m + 1 formulas, one behind the other: the first m end where the last begins. -/
theorem scan_split : ∀ (xs : List Int) (m a : Int), 1 ≤ m → scan xs (m + 1) a ≠ -1 → ∃ q : Nat, q ≤ xs.length ∧ 1 ≤ q ∧ scan xs m a = a + q ∧ scan xs (m + 1) a = scan (xs.drop q) 1 (a + q)
  | [], _, _, _, h => absurd rfl h
  | x :: xs, m, a, hm, h => by
    by_cases hb : arZ x = -1
    · exact absurd (scan_bad _ _ _ hb) h
    · have hx : 0 ≤ arZ x := by have := arZ_lo x; omega
      rw [scan_on _ _ _ hx (by omega)] at h
      by_cases hr : m + arZ x = 1
      · refine ⟨1, by simp, Nat.le_refl _, by rw [scan_end _ _ _ hx hr]; rfl, ?_⟩
        rw [scan_on _ _ _ hx (by omega), show m + 1 + arZ x - 1 = 1 by omega]
        rfl
      · rw [show m + 1 + arZ x - 1 = (m + arZ x - 1) + 1 by omega] at h
        obtain ⟨q, h1, h2, h3, h4⟩ := scan_split xs (m + arZ x - 1) (a + 1) (by omega) h
        refine ⟨q + 1, by simp; omega, by omega, ?_, ?_⟩
        · rw [scan_on _ _ _ hx hr, h3]; omega
        · rw [scan_on _ _ _ hx (by omega), show m + 1 + arZ x - 1 = (m + arZ x - 1) + 1 by omega, h4, show a + 1 + (q : Int) = a + ((q + 1 : Nat) : Int) by omega]
          rfl

/-- The operands of a valid formula. -/
theorem operands {f : List Int} (h : validB f = true) (ha : 1 ≤ arZ (f.getD 0 0)) : ∃ q : Nat, fe f 1 = q ∧ 1 < q ∧ q ≤ f.length ∧ (arZ (f.getD 0 0) = 1 → q = f.length) ∧ (arZ (f.getD 0 0) = 2 → q < f.length ∧ fe f q = f.length) := by
  obtain ⟨h1, h2, h3⟩ := valid_len h
  have e0 := fe_any f 0
  rw [show ((0 : Nat) : Int) = 0 from rfl, h3, show f.drop 0 = f.getD 0 0 :: f.drop 1 from drop_cons (by omega)] at e0
  rw [scan_on _ _ _ (by omega) (by omega)] at e0
  have e1 : fe f 1 = scan (f.drop 1) 1 1 := fe_any f 1
  by_cases h' : arZ (f.getD 0 0) = 1
  · rw [h'] at e0
    have e2 : fe f 1 = f.length := by rw [e1]; exact e0.symm
    refine ⟨f.length, e2, ?_, Nat.le_refl _, fun _ => rfl, fun h => by omega⟩
    have := fe_bd f 1
    omega
  · have h'' : arZ (f.getD 0 0) = 2 := by have := arZ_cases (f.getD 0 0); omega
    rw [h''] at e0
    have hne : scan (f.drop 1) (1 + 1) 1 ≠ -1 := by
      have e : scan (f.drop 1) (1 + 1) 1 = f.length := e0.symm
      rw [e]; omega
    obtain ⟨q, q1, q2, q3, q4⟩ := scan_split (f.drop 1) 1 1 (by omega) hne
    rw [List.length_drop] at q1
    have e3 : fe f ((1 + q : Nat) : Int) = f.length := by
      rw [fe_any f (1 + q), ← List.drop_drop]
      have e : scan (f.drop 1) (1 + 1) 1 = f.length := e0.symm
      rw [← e, q4]
      rfl
    refine ⟨1 + q, by rw [e1, q3]; rfl, by omega, by omega, fun h => by omega, fun _ => ⟨?_, e3⟩⟩
    have := fe_bd f ((1 + q : Nat) : Int)
    omega

/-- Has the formula an operand with this index? -/
def opndB (f : List Int) (k : Int) : Bool := decide (validB f = true ∧ 0 ≤ k ∧ k < arZ (f.getD 0 0))
/-- Where the operand with an index begins, and where it ends. -/
def opS (f : List Int) (k : Int) : Nat := if k = 0 then 1 else (fe f 1).toNat
def opE (f : List Int) (k : Int) : Nat := (fe f (opS f k)).toNat
/-- OperandOf. -/
def opndL (f : List Int) (k : Int) : List Int := if opndB f k then (f.drop (opS f k)).take (opE f k - opS f k) else []
theorem opndB_no {f : List Int} {k : Int} (h : ¬ (validB f = true ∧ 0 ≤ k ∧ k < arZ (f.getD 0 0))) : opndB f k = false := decide_eq_false h
theorem opndB_yes {f : List Int} {k : Int} (h : validB f = true ∧ 0 ≤ k ∧ k < arZ (f.getD 0 0)) : opndB f k = true := decide_eq_true h
theorem opndL_yes {f : List Int} {k : Int} (h : opndB f k = true) : opndL f k = (f.drop (opS f k)).take (opE f k - opS f k) := by simp [opndL, h]
theorem opndL_no {f : List Int} {k : Int} (h : opndB f k = false) : opndL f k = [] := by simp [opndL, h]
theorem opndL_len (f : List Int) (k : Int) : (opndL f k).length ≤ 24 := by
  cases h : opndB f k with
  | false => rw [opndL_no h]; simp
  | true =>
    rw [opndL_yes h]
    have := (valid_len (of_decide_eq_true h).1).2.1
    simp; omega
/-- What both need of an operand: it lies within the list. -/
theorem opnd_in {f : List Int} {k : Int} (h : opndB f k = true) : fe f (opS f k) = opE f k ∧ opS f k < opE f k ∧ opE f k ≤ f.length ∧ 1 ≤ opS f k ∧ (k = 0 ∧ opS f k = 1 ∨ k = 1 ∧ fe f 1 = opS f k) := by
  obtain ⟨hv, h0, hk⟩ := of_decide_eq_true h
  obtain ⟨q, q1, q2, q3, q4, q5⟩ := operands hv (by omega)
  have ha := arZ_hi (f.getD 0 0)
  by_cases hk0 : k = 0
  · subst hk0
    have e1 : opS f 0 = 1 := rfl
    have e2 : opE f 0 = q := by unfold opE; rw [e1]; show (fe f 1).toNat = q; rw [q1]; rfl
    rw [e1, e2]
    exact ⟨q1, q2, q3, Nat.le_refl _, .inl ⟨rfl, rfl⟩⟩
  · have hk1 : k = 1 := by omega
    subst hk1
    have e1 : opS f 1 = q := by unfold opS; rw [if_neg (by decide), q1]; rfl
    obtain ⟨q6, q7⟩ := q5 (by omega)
    have e2 : opE f 1 = f.length := by unfold opE; rw [e1, q7]; rfl
    rw [e1, e2]
    exact ⟨q7, q6, Nat.le_refl _, by omega, .inr ⟨rfl, q1⟩⟩

/-- A cut of a list that lies in memory is a part. -/
theorem part_cut {w : World} {B b off lo hi c : Nat} {f : List Int} (hB : b < B) (hc : ∀ j, j < f.length → w.cell? ⟨b, off + j, none⟩ = some (.int .i64 (f.getD j 0))) (h1 : lo < hi) (h2 : hi ≤ f.length) : Part w B (.slice (some ⟨b, off + lo, none⟩) (hi - lo) c) ((f.drop lo).take (hi - lo)) := by
  have hl : ((f.drop lo).take (hi - lo)).length = hi - lo := by simp; omega
  refine ⟨b, off + lo, c, by rw [hl], hB, by omega, fun j hj => ?_⟩
  rw [hl] at hj
  rw [Nat.add_assoc, hc (lo + j) (by omega)]
  simp [List.getD, hj]

theorem ret_two {a b : Int} {x y : Value} (h : a = b) (h' : x = y) : Ending.returned (.tuple #[.int .i64 a, x]) = .returned (.tuple #[.int .i64 b, y]) := by rw [h, h']

/-- In the list f a formula begins at a, ends before e, and has the depth d. -/
inductive Dp (f : List Int) : Nat → Nat → Int → Prop
  | leaf {a : Nat} : a < f.length → arZ (f.getD a 0) = 0 → Dp f a (a + 1) 0
  | one {a e : Nat} {d : Int} : a < f.length → arZ (f.getD a 0) = 1 → fe f ((a + 1 : Nat) : Int) = e → Dp f (a + 1) e d → Dp f a e (1 + d)
  | two {a e1 e : Nat} {d1 d2 : Int} : a < f.length → arZ (f.getD a 0) = 2 → fe f ((a + 1 : Nat) : Int) = e1 → fe f (e1 : Int) = e → Dp f (a + 1) e1 d1 → Dp f e1 e d2 → Dp f a e (max (1 + d1) (1 + d2))

theorem Dp.bd {f : List Int} {a e : Nat} {d : Int} (h : Dp f a e d) : a < e ∧ e ≤ f.length ∧ 0 ≤ d ∧ d ≤ (e : Int) - a := by
  induction h with
  | leaf h _ => omega
  | one h _ _ _ ih => omega
  | two h _ _ _ _ _ ih1 ih2 => omega

theorem dp_ex (f : List Int) : ∀ (n a e : Nat), f.length - a ≤ n → fe f a = e → ∃ d, Dp f a e d := by
  intro n
  induction n with
  | zero =>
    intro a e hn he
    have := fe_bd f a
    omega
  | succ n ih =>
    intro a e hn he
    have hb := fe_bd f a
    have ha : a < f.length := by omega
    have e0 := fe_any f a
    rw [drop_cons ha] at e0
    rcases arZ_cases (f.getD a 0) with h | h | h | h
    · rw [scan_bad _ _ _ h] at e0; omega
    · rw [scan_end _ _ _ (by omega) (by omega)] at e0
      have : e = a + 1 := by omega
      subst this
      exact ⟨0, .leaf ha h⟩
    · rw [scan_on _ _ _ (by omega) (by omega), h] at e0
      have e1 : fe f ((a + 1 : Nat) : Int) = e := by rw [fe_any f (a + 1), ← he, e0]; rfl
      obtain ⟨d, hd⟩ := ih (a + 1) e (by omega) e1
      exact ⟨_, .one ha h e1 hd⟩
    · rw [scan_on _ _ _ (by omega) (by omega), h] at e0
      have hne : scan (f.drop (a + 1)) (1 + 1) ((a : Int) + 1) ≠ -1 := by
        have e1 : scan (f.drop (a + 1)) (1 + 1) ((a : Int) + 1) = e := by rw [← he, e0]; rfl
        rw [e1]; omega
      obtain ⟨q, q1, q2, q3, q4⟩ := scan_split (f.drop (a + 1)) 1 ((a : Int) + 1) (by omega) hne
      have e1 : fe f ((a + 1 : Nat) : Int) = ((a + 1 + q : Nat) : Int) := by
        rw [fe_any f (a + 1), show ((a + 1 : Nat) : Int) = (a : Int) + 1 by omega, q3]; omega
      have e2 : fe f ((a + 1 + q : Nat) : Int) = e := by
        rw [fe_any f (a + 1 + q), ← List.drop_drop, show ((a + 1 + q : Nat) : Int) = (a : Int) + 1 + q by omega, ← q4, ← he, e0]
        rfl
      obtain ⟨d1, h1⟩ := ih (a + 1) (a + 1 + q) (by omega) e1
      obtain ⟨d2, h2⟩ := ih (a + 1 + q) e (by omega) e2
      exact ⟨_, .two ha h e1 e2 h1 h2⟩

theorem dep_ex {f : List Int} (h : validB f = true) : ∃ d, Dp f 0 f.length d := dp_ex f f.length 0 f.length (by omega) (valid_len h).2.2
open Classical in
/-- DepthOf. -/
noncomputable def depV (f : List Int) : Int := if h : validB f = true then (dep_ex h).choose else -1
theorem depV_no {f : List Int} (h : validB f = false) : depV f = -1 := by unfold depV; rw [dif_neg (by rw [h]; decide)]
theorem depV_yes {f : List Int} (h : validB f = true) : Dp f 0 f.length (depV f) := by unfold depV; rw [dif_pos h]; exact (dep_ex h).choose_spec

end Go.Proofs.YtfanapddopafiaaDoor
