/- Mathematics: nets whose axioms carry atoms and dual atoms. -/
import Derived.Test.YtfanapddopafiaaDoorQSubA
namespace Go.Proofs.YtfanapddopafiaaDoor
open Go.ChangeAt Go.ChangeShapes Go.RowKit Go.WideShapes

/-- An axiom at a formula of one symbol, or another link. -/
def atomL (ws : List (List Int)) (l : Lk) : Bool := !(decide (l.k = 1) && !decide ((wAt ws l.a).length = 1))
theorem atomL_other {ws : List (List Int)} {l : Lk} (h : ¬ l.k = 1) : atomL ws l = true := by unfold atomL; rw [decide_eq_false h]; rfl
theorem atomL_yes {ws : List (List Int)} {l : Lk} (h : (wAt ws l.a).length = 1) : atomL ws l = true := by unfold atomL; rw [decide_eq_true h]; simp
theorem atomL_no {ws : List (List Int)} {l : Lk} (h : l.k = 1) (h2 : ¬ (wAt ws l.a).length = 1) : atomL ws l = false := by unfold atomL; rw [decide_eq_true h, decide_eq_false h2]; rfl
/-- AtomicNet. -/
def atN (N : Nt) : Bool := valN N && N.l.all (atomL N.w)
theorem atN_no {N : Nt} (hv : valN N = false) : atN N = false := by unfold atN; rw [hv]; rfl
theorem atN_bad {N : Nt} {k : Nat} (hk : k < N.l.length) (h : atomL N.w (N.l.getD k Lk.nil) = false) : atN N = false := by unfold atN; rw [all_bad hk h]; simp
theorem atN_all {N : Nt} (hv : valN N = true) (h : ∀ j, j < N.l.length → atomL N.w (N.l.getD j Lk.nil) = true) : atN N = true := by
  unfold atN
  rw [hv, Bool.true_and, List.all_eq_true]
  intro l hl
  obtain ⟨j, hj, rfl⟩ := List.getElem_of_mem hl
  have := h j hj
  simpa [List.getD, hj] using this
theorem atN_val {N : Nt} (hv : valN N = true) : atN N = N.l.all (atomL N.w) := by unfold atN; rw [hv, Bool.true_and]
/-- Some link is an axiom at a compound formula. -/
def badL (N : Nt) : Bool := N.l.any fun l => !atomL N.w l
theorem badL_yes {N : Nt} {k : Nat} (hk : k < N.l.length) (h : atomL N.w (N.l.getD k Lk.nil) = false) : badL N = true := List.any_eq_true.2 ⟨N.l.getD k Lk.nil, getL_mem hk, by rw [h]; rfl⟩
theorem badL_no {N : Nt} (h : ∀ j, j < N.l.length → atomL N.w (N.l.getD j Lk.nil) = true) : badL N = false := by
  unfold badL
  rw [List.any_eq_false]
  intro l hl
  obtain ⟨j, hj, rfl⟩ := List.getElem_of_mem hl
  have := h j hj
  have e : N.l.getD j Lk.nil = N.l[j] := by simp [List.getD, hj]
  rw [e] at this
  rw [this]; decide
theorem atN_badL {N : Nt} (hv : valN N = true) : atN N = !badL N := by
  rw [atN_val hv]
  unfold badL
  rw [← List.not_all_eq_any_not]
  simp
/-- A formula without units, additives and exponentials of one symbol is a leaf. -/
theorem form_one {f : List Int} (h : formN f = true) : leafB (f.getD 0 0) = decide (f.length = 1) := by
  have hv := formN_valid h
  obtain ⟨h1, _, hfe⟩ := valid_len hv
  cases f with
  | nil => simp at h1
  | cons x xs =>
    have hs := fe_nat (f := x :: xs) (a := 0) (by simp)
    rw [show ((0 : Nat) : Int) = 0 from rfl, hfe, List.drop_zero] at hs
    rw [show (x :: xs).getD 0 0 = x from rfl]
    rcases sym_cases x with ⟨hl, ha, _⟩ | ⟨hl, _, hc⟩ | ⟨hl, _, ha, _⟩
    · rw [scan_end xs 1 0 (by omega) (by omega)] at hs
      rw [hl, decide_eq_true (by omega)]
    · rw [hl]
      symm
      refine decide_eq_false fun e => ?_
      have hx : xs = [] := by cases xs with | nil => rfl | cons y ys => simp at e
      subst hx
      by_cases h0 : arZ x = 0
      · have hx : x = 13 ∨ x = 14 := by omega
        rcases hx with rfl | rfl <;> exact absurd h (by decide)
      · rw [scan_on [] 1 0 (by omega) (by omega), show scan [] (1 + arZ x - 1) (0 + 1) = -1 from rfl] at hs
        simp at hs
    · rw [scan_bad xs 1 0 ha] at hs
      simp at hs; omega
theorem wAt_one {N : Nt} (hv : valN N = true) {l : Lk} (hf : fitsN N.w l = true) (hk : l.k = 1) : leafB ((wAt N.w l.a).getD 0 0) = atomL N.w l := by
  rw [form_one (wAt_valid (valN_forms hv) (fitsN_yes hf).1)]
  unfold atomL
  rw [decide_eq_true hk, Bool.true_and, Bool.not_not]
end Go.Proofs.YtfanapddopafiaaDoor
