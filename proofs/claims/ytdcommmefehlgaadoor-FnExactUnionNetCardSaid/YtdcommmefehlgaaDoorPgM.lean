/- Counts of uses: plain mathematics. -/
import Derived.Test.YtdcommmefehlgaaDoorQNetA
import Derived.Test.YtdcommmefehlgaaDoorQMath
namespace Go.Proofs.YtdcommmefehlgaaDoor
set_option linter.unusedSimpArgs false
set_option linter.unusedVariables false
set_option linter.unusedSimpArgs false
set_option linter.unusedVariables false
open Go.ChangeAt Go.ChangeShapes Go.RowKit Go.WideShapes

/-- The wires that a link makes, and those that it uses. -/
def outL (l : Lk) : List Int := if l.k = 1 then [l.a, l.b] else if l.k = 2 then [] else [l.c]
def inL (l : Lk) : List Int := if l.k = 1 then [] else [l.a, l.b]
theorem mk1_is (l : Lk) (x : Nat) : mk1 l x = concN (outL l) x := by
  unfold mk1 outL concN
  split
  · simp
  · split <;> simp
theorem us1_is (l : Lk) (x : Nat) : us1 l x = concN (inL l) x := by
  unfold us1 inL concN
  split <;> simp
theorem inW_mono {n m : Nat} {x : Int} (h : n ≤ m) (hx : inW n x = true) : inW m x = true := by
  obtain ⟨h1, h2, h3⟩ := inW_yes hx
  unfold inW
  exact decide_eq_true (by omega)
theorem outL_in {n m : Nat} {l : Lk} (h : n ≤ m) (ha : inW n l.a = true) (hb : inW n l.b = true) (hc : inW n l.c = true) : (outL l).all (inW m) = true := by
  unfold outL
  split
  · simp [inW_mono h ha, inW_mono h hb]
  · split
    · rfl
    · simp [inW_mono h hc]
theorem inL_in {n m : Nat} {l : Lk} (h : n ≤ m) (ha : inW n l.a = true) (hb : inW n l.b = true) : (inL l).all (inW m) = true := by
  unfold inL
  split
  · rfl
  · simp [inW_mono h ha, inW_mono h hb]
theorem outL_len (l : Lk) : (outL l).length ≤ 2 := by
  unfold outL
  split
  · simp
  · split <;> simp
theorem inL_len (l : Lk) : (inL l).length ≤ 2 := by unfold inL; split <;> simp
theorem concN_zero {xs : List Int} {n x : Nat} (h : xs.all (inW n) = true) (hx : n ≤ x) : concN xs x = 0 := by
  induction xs with
  | nil => rfl
  | cons a t ih =>
    rw [List.all_cons, Bool.and_eq_true] at h
    obtain ⟨_, h2, _⟩ := inW_yes h.1
    have := ih h.2
    unfold concN at this ⊢
    rw [List.map_cons, List.sum_cons, this]
    have e : ¬ a.toNat = x := by omega
    simp [one, e]
theorem madeN_zero {ls : List Lk} {n x : Nat} (h : ∀ l ∈ ls, inW n l.a = true ∧ inW n l.b = true ∧ inW n l.c = true) (hx : n ≤ x) : madeN ls x = 0 := by
  induction ls with
  | nil => rfl
  | cons l t ih =>
    have := ih fun k hk => h k (List.mem_cons_of_mem _ hk)
    obtain ⟨h1, h2, h3⟩ := h l (List.mem_cons_self ..)
    unfold madeN at this ⊢
    rw [List.map_cons, List.sum_cons, this, mk1_is, concN_zero (outL_in (Nat.le_refl _) h1 h2 h3) hx]
    rfl
theorem usedN_zero {ls : List Lk} {n x : Nat} (h : ∀ l ∈ ls, inW n l.a = true ∧ inW n l.b = true ∧ inW n l.c = true) (hx : n ≤ x) : usedN ls x = 0 := by
  induction ls with
  | nil => rfl
  | cons l t ih =>
    have := ih fun k hk => h k (List.mem_cons_of_mem _ hk)
    obtain ⟨h1, h2, h3⟩ := h l (List.mem_cons_self ..)
    unfold usedN at this ⊢
    rw [List.map_cons, List.sum_cons, this, us1_is, concN_zero (inL_in (Nat.le_refl _) h1 h2) hx]
    rfl
theorem concN_mark (n x : Nat) : concN (markL 0 n) x = one (x < n) := by
  induction n with
  | zero => simp [markL, concN, one]
  | succ n ih =>
    have e : markL 0 (n + 1) = markL 0 n ++ [(0 : Int) + (n : Nat)] := by unfold markL; rw [List.range_succ, List.map_append]; rfl
    unfold concN at ih ⊢
    rw [e, List.map_append, List.sum_append, ih, List.map_singleton, List.sum_singleton]
    have e2 : ((0 : Int) + (n : Nat)).toNat = n := by omega
    rw [e2]
    unfold one
    by_cases h1 : x < n
    · rw [if_pos h1, if_neg (by omega), if_pos (by omega)]; rfl
    · by_cases h2 : n = x
      · rw [if_neg h1, if_pos h2, if_pos (by omega)]; rfl
      · rw [if_neg h1, if_neg h2, if_neg (by omega)]; rfl
theorem even_is {N : Nt} (hn : N.w.length ≤ 48) (hl : ∀ l ∈ N.l, inW N.w.length l.a = true ∧ inW N.w.length l.b = true ∧ inW N.w.length l.c = true) (hc : N.c.all (inW N.w.length) = true) :
    evenN N = (((List.range 48).all fun x => madeN N.l x == concN (markL 0 N.w.length) x) && ((List.range 48).all fun x => (usedN N.l x + concN N.c x) == concN (markL 0 N.w.length) x)) := by
  unfold evenN
  rw [Bool.eq_iff_iff]
  simp only [Bool.and_eq_true, List.all_eq_true, List.mem_range, decide_eq_true_eq, beq_iff_eq, concN_mark]
  constructor
  · intro h
    refine ⟨fun x hx => ?_, fun x hx => ?_⟩
    · by_cases h1 : x < N.w.length
      · rw [(h x h1).1]; unfold one; rw [if_pos h1]
      · rw [madeN_zero hl (by omega)]; unfold one; rw [if_neg h1]
    · by_cases h1 : x < N.w.length
      · rw [(h x h1).2]; unfold one; rw [if_pos h1]
      · rw [usedN_zero hl (by omega), concN_zero hc (by omega)]; unfold one; rw [if_neg h1]; rfl
  · intro h x hx
    have h1 := h.1 x (by omega)
    have h2 := h.2 x (by omega)
    unfold one at h1 h2
    rw [if_pos hx] at h1 h2
    exact ⟨h1, h2⟩
end Go.Proofs.YtdcommmefehlgaaDoor
