/- A formula is made again of its operator and its operands. Plain mathematics. -/
import Derived.Test.YtoniekjchabjlaaDoorDepth
import Derived.Test.YtoniekjchabjlaaDoorOpndR
import Derived.Test.YtoniekjchabjlaaDoorOper
import Derived.Test.YtoniekjchabjlaaDoorDualM
namespace Go.Proofs.YtoniekjchabjlaaDoor
open Go.RowKit

theorem scan_move : ∀ (xs : List Int) (m a b : Int) (q : Nat), 1 ≤ m → 0 ≤ a → 0 ≤ b → scan xs m a = a + q → scan xs m b = b + q ∧ scan (xs.take q) m b = b + q
  | [], _, a, _, q, _, ha, _, h => by rw [scan_nil] at h; omega
  | x :: xs, m, a, b, q, hm, ha, hb, h => by
    by_cases hx : arZ x = -1
    · rw [scan_bad _ _ _ hx] at h; omega
    · have hx0 : 0 ≤ arZ x := by have := arZ_lo x; omega
      by_cases hr : m + arZ x = 1
      · rw [scan_end _ _ _ hx0 hr] at h
        have hq : q = 1 := by omega
        subst hq
        exact ⟨by rw [scan_end _ _ _ hx0 hr]; rfl, by rw [List.take_succ_cons, scan_end _ _ _ hx0 hr]; rfl⟩
      · rw [scan_on _ _ _ hx0 hr] at h
        have hbd := scan_bd xs (m + arZ x - 1) (a + 1) (by omega)
        obtain ⟨q', rfl⟩ : ∃ q', q = q' + 1 := ⟨q - 1, by omega⟩
        obtain ⟨h1, h2⟩ := scan_move xs (m + arZ x - 1) (a + 1) (b + 1) q' (by omega) (by omega) (by omega) (by omega)
        refine ⟨by rw [scan_on _ _ _ hx0 hr, h1]; omega, ?_⟩
        rw [List.take_succ_cons, scan_on _ _ _ hx0 hr, h2]; omega

/-- What a formula's end cuts out is valid. -/
theorem seg_valid {f : List Int} {s e : Nat} (h : fe f s = e) (h1 : s < e) (h2 : e ≤ f.length) (h3 : f.length ≤ 24) : validB ((f.drop s).take (e - s)) = true := by
  rw [fe_any] at h
  have h4 := (scan_move (f.drop s) 1 s 0 (e - s) (by omega) (by omega) (by omega) (by omega)).2
  have hl : ((f.drop s).take (e - s)).length = e - s := by rw [List.length_take, List.length_drop]; omega
  generalize (f.drop s).take (e - s) = g at h4 hl
  have e1 := fe_any g 0
  rw [show ((0 : Nat) : Int) = 0 from rfl, List.drop_zero, h4] at e1
  simp only [validB, decide_eq_true_eq]
  rw [feI_small (by omega), e1]
  omega

/-- The parts of a valid formula, by the number of its operands. -/
theorem parts_none {f : List Int} (h : validB f = true) (ha : arZ (f.getD 0 0) = 0) : f.length = 1 ∧ opndB f 0 = false ∧ opndB f 1 = false ∧ depV f = 0 ∧ (opOf f = 0 ∨ opOf f = 13 ∨ opOf f = 14) := by
  obtain ⟨h1, h2, h3⟩ := valid_len h
  have e0 := fe_any f 0
  rw [show ((0 : Nat) : Int) = 0 from rfl, h3, show f.drop 0 = f.getD 0 0 :: f.drop 1 from drop_cons (by omega), scan_end _ _ _ (by omega) (by omega)] at e0
  have hl : f.length = 1 := by omega
  refine ⟨hl, opndB_no (by omega), opndB_no (by omega), ?_, ?_⟩
  · have hd := depV_yes h
    have hl0 : Dp f 0 (0 + 1) 0 := .leaf (by omega) ha
    exact (dp_one hd hl0).2
  · rcases sym_cases (f.getD 0 0) with ⟨hl, _⟩ | ⟨hl, _, h8⟩ | ⟨_, _, hn, _⟩
    · exact .inl (opOf_leaf h hl)
    · rw [opOf_op h hl]; omega
    · omega
theorem parts_one {f : List Int} (h : validB f = true) (ha : arZ (f.getD 0 0) = 1) : (opOf f = 17 ∨ opOf f = 18) ∧ opndB f 0 = true ∧ opndB f 1 = false ∧ wrapB (opOf f) (opndL f 0) = true ∧ wrapL (opOf f) (opndL f 0) = f := by
  obtain ⟨h1, h2, h3⟩ := valid_len h
  obtain ⟨q, q1, q2, q3, q4, _⟩ := operands h (by omega)
  have hq := q4 ha
  subst hq
  have hb : opndB f 0 = true := opndB_yes ⟨h, by omega, by omega⟩
  obtain ⟨e1, e2, e3, _, e5⟩ := opnd_in hb
  have eS : opS f 0 = 1 := rfl
  rw [eS] at e1 e2
  have eE : opE f 0 = f.length := by
    have : ((opE f 0 : Nat) : Int) = f.length := by rw [← e1]; exact q1
    omega
  have hop : opOf f = f.getD 0 0 ∧ (f.getD 0 0 = 17 ∨ f.getD 0 0 = 18) := by
    rcases sym_cases (f.getD 0 0) with ⟨_, hl, _⟩ | ⟨hl, _, h8⟩ | ⟨_, _, hn, _⟩
    · omega
    · exact ⟨opOf_op h hl, by omega⟩
    · omega
  have hv := seg_valid (s := 1) (e := f.length) q1 (by omega) (by omega) h2
  have hL : opndL f 0 = (f.drop 1).take (f.length - 1) := by rw [opndL_yes hb, eS, eE]
  have hT : (f.drop 1).take (f.length - 1) = f.drop 1 := List.take_of_length_le (by simp)
  have hw : wrapB (opOf f) (opndL f 0) = true := by
    refine wrapB_yes (by rw [hop.1]; exact ha) (by rw [hL]; exact hv) ?_
    rw [hL, hT, List.length_drop]; omega
  refine ⟨by rw [hop.1]; exact hop.2, hb, opndB_no (by omega), hw, ?_⟩
  rw [wrapL_yes hw, hL, hT, hop.1]
  exact (drop_cons (f := f) (k := 0) (by omega)).symm
theorem parts_two {f : List Int} (h : validB f = true) (ha : arZ (f.getD 0 0) = 2) : (opOf f = 11 ∨ opOf f = 12 ∨ opOf f = 15 ∨ opOf f = 16) ∧ opndB f 0 = true ∧ opndB f 1 = true ∧ joinB (opOf f) (opndL f 0) (opndL f 1) = true ∧ joinL (opOf f) (opndL f 0) (opndL f 1) = f ∧ feI f 1 = ((opndL f 0).length : Int) + 1 := by
  obtain ⟨h1, h2, h3⟩ := valid_len h
  obtain ⟨q, q1, q2, q3, _, q5⟩ := operands h (by omega)
  obtain ⟨q6, q7⟩ := q5 ha
  have hb0 : opndB f 0 = true := opndB_yes ⟨h, by omega, by omega⟩
  have hb1 : opndB f 1 = true := opndB_yes ⟨h, by omega, by omega⟩
  have eS0 : opS f 0 = 1 := rfl
  have eE0 : opE f 0 = q := by unfold opE; rw [eS0]; show (fe f 1).toNat = q; rw [q1]; rfl
  have eS1 : opS f 1 = q := by unfold opS; rw [if_neg (by decide), q1]; rfl
  have eE1 : opE f 1 = f.length := by unfold opE; rw [eS1, q7]; rfl
  have hop : opOf f = f.getD 0 0 ∧ (f.getD 0 0 = 11 ∨ f.getD 0 0 = 12 ∨ f.getD 0 0 = 15 ∨ f.getD 0 0 = 16) := by
    rcases sym_cases (f.getD 0 0) with ⟨_, hl, _⟩ | ⟨hl, _, h8⟩ | ⟨_, _, hn, _⟩
    · omega
    · exact ⟨opOf_op h hl, by omega⟩
    · omega
  have hva := seg_valid (s := 1) (e := q) q1 (by omega) (by omega) h2
  have hvb := seg_valid (s := q) (e := f.length) q7 (by omega) (by omega) h2
  have hLa : opndL f 0 = (f.drop 1).take (q - 1) := by rw [opndL_yes hb0, eS0, eE0]
  have hLb : opndL f 1 = (f.drop q).take (f.length - q) := by rw [opndL_yes hb1, eS1, eE1]
  have hT : (f.drop q).take (f.length - q) = f.drop q := List.take_of_length_le (by simp)
  have hla : ((f.drop 1).take (q - 1)).length = q - 1 := by rw [List.length_take, List.length_drop]; omega
  have hj : joinB (opOf f) (opndL f 0) (opndL f 1) = true := by
    refine joinB_yes (by rw [hop.1]; exact ha) (by rw [hLa]; exact hva) (by rw [hLb]; exact hvb) ?_
    rw [hLa, hLb, hT, hla, List.length_drop]; omega
  refine ⟨by rw [hop.1]; exact hop.2, hb0, hb1, hj, ?_, ?_⟩
  · rw [joinL_yes hj, hLa, hLb, hT, hop.1]
    have e1 : f.drop q = (f.drop 1).drop (q - 1) := by rw [List.drop_drop]; congr 1; omega
    rw [e1, List.take_append_drop]
    exact (drop_cons (f := f) (k := 0) (by omega)).symm
  · rw [feI_small h2, q1, hLa, hla]; omega
end Go.Proofs.YtoniekjchabjlaaDoor
