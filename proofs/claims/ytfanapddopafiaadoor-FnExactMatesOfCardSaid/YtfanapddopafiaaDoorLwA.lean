/- Rows of links: one replaced; a row of nothing but zeros. Uniqueness of a wire's source. -/
import Derived.Test.YtfanapddopafiaaDoorLwM
import Derived.Test.YtfanapddopafiaaDoorQPgJ
namespace Go.Proofs.YtfanapddopafiaaDoor
open Go.ChangeAt Go.ChangeShapes Go.RowKit Go.WideShapes

theorem flL_setw : ∀ (ls : List Lk) (k : Nat) (l : Lk), k < ls.length → (flL (ls.set k l)).map (Value.int .i64) = put4 ((flL ls).map (Value.int .i64)) (k * 4) (.int .i64 l.k) (.int .i64 l.a) (.int .i64 l.b) (.int .i64 l.c)
  | [], k, l, h => absurd h (by simp)
  | x :: xs, 0, l, _ => by simp [flL, put4]
  | x :: xs, k + 1, l, h => by
    have ih := flL_setw xs k l (by simpa using h)
    have e : (k + 1) * 4 = k * 4 + 1 + 1 + 1 + 1 := by omega
    simp only [List.set_cons_succ, flL, List.map_cons, ih, put4, e]
theorem made4w (m : Nat) : (madeCells #[Value.int .i64 0, Value.int .i64 0, Value.int .i64 0, Value.int .i64 0] (m * 4)).toList = List.replicate (m * 4) (Value.int .i64 0) := by
  apply List.ext_getElem?
  intro j
  by_cases hj : j < m * 4
  · have : j % 4 = 0 ∨ j % 4 = 1 ∨ j % 4 = 2 ∨ j % 4 = 3 := by omega
    rcases this with e | e | e | e <;> simp [madeCells, hj, e]
  · simp [madeCells, hj]
theorem flL_roomw (m : Nat) : (flL (List.replicate m Lk.nil)).map (Value.int .i64) = List.replicate (m * 4) (Value.int .i64 0) := by
  induction m with
  | zero => rfl
  | succ m ih =>
    rw [List.replicate_succ, show (m + 1) * 4 = m * 4 + 1 + 1 + 1 + 1 by omega, List.replicate_succ, List.replicate_succ, List.replicate_succ, List.replicate_succ]
    simp only [flL, Lk.nil, List.map_cons]
    rw [show (⟨0, 0, 0, 0⟩ : Lk) = Lk.nil from rfl, ih]

theorem mk1_src {ws : List (List Int)} {l : Lk} {x : Int} (hf : fitsN ws l = true) (hs : srcB x l = true) : 1 ≤ mk1 l x.toNat := by
  obtain ⟨_, _, ea⟩ := inW_yes (fitsN_yes hf).1
  obtain ⟨_, _, eb⟩ := inW_yes (fitsN_yes hf).2.1
  obtain ⟨_, _, ec⟩ := inW_yes (fitsN_yes hf).2.2.1
  have ha := one_le (l.a.toNat = x.toNat); have hb := one_le (l.b.toNat = x.toNat)
  have h1 : ∀ p : Prop, ∀ [Decidable p], p → one p = 1 := fun p _ hp => by unfold one; rw [if_pos hp]
  unfold mk1
  by_cases hk : l.k = 1
  · rw [if_pos hk]
    unfold srcB at hs
    simp only [hk, beq_self_eq_true, Bool.true_and, Bool.or_eq_true, beq_iff_eq, Bool.and_eq_true] at hs
    rcases hs with (e | e) | e
    · rw [h1 (l.a.toNat = x.toNat) (by rw [e])]; omega
    · rw [h1 (l.b.toNat = x.toNat) (by rw [e])]; omega
    · omega
  · have h34 := src_kind hf hs hk
    rw [if_neg hk, if_neg (by omega)]
    have hc : l.c = x := by
      unfold srcB at hs
      rcases h34 with e | e <;> simpa [e] using hs
    rw [h1 (l.c.toNat = x.toNat) (by rw [hc])]; omega
theorem made_mono {ls : List Lk} {x i : Nat} : ∀ j, i < j → j ≤ ls.length → mk1 (ls.getD i Lk.nil) x ≤ madeN (ls.take j) x
  | 0, h, _ => absurd h (by omega)
  | j + 1, h, hj => by
    have hs := madeN_step (ls := ls) (k := j) (by omega) x
    have h1 := mk1_le (ls.getD j Lk.nil) x
    have h0 := (madeN_le (ls.take j) x).1
    by_cases e : i = j
    · subst e; omega
    · have := made_mono (ls := ls) (x := x) j (show i < j by omega) (by omega)
      omega
theorem made_two {ls : List Lk} {x i j : Nat} (hij : i < j) (hj : j < ls.length) (hi1 : 1 ≤ mk1 (ls.getD i Lk.nil) x) (hj1 : 1 ≤ mk1 (ls.getD j Lk.nil) x) : 2 ≤ madeN ls x := by
  have h1 := made_mono (ls := ls) (x := x) j hij (by omega)
  have h2 := madeN_step hj x
  have h3 : ∀ n, j + 1 ≤ n → n ≤ ls.length → 2 ≤ madeN (ls.take n) x := by
    intro n
    induction n with
    | zero => intro h; omega
    | succ n ih =>
      intro hn hl
      by_cases e : n = j
      · subst e; omega
      · have h4 := ih (by omega) (by omega)
        have h5 := madeN_step (ls := ls) (k := n) (by omega) x
        have h6 := mk1_le (ls.getD n Lk.nil) x
        omega
  have := h3 ls.length (by omega) (Nat.le_refl _)
  rwa [List.take_length] at this
/-- A wire has one source. -/
theorem src_once {N : Nt} (hv : valN N = true) {x : Int} (hx : inW N.w.length x = true) {i j : Nat} (hi : i < N.l.length) (hj : j < N.l.length) (si : srcB x (N.l.getD i Lk.nil) = true) (sj : srcB x (N.l.getD j Lk.nil) = true) : i = j := by
  obtain ⟨_, hlt, _⟩ := inW_yes hx
  have hm := (valN_at hv hlt).1
  have h1 := mk1_src (link_fits hv hi) si
  have h2 := mk1_src (link_fits hv hj) sj
  rcases Nat.lt_trichotomy i j with h | h | h
  · have := made_two h hj h1 h2; omega
  · exact h
  · have := made_two h hi h2 h1; omega
/-- The sources that k links, and m outputs of the next one, have laid. -/
def SrcQ (N : Nt) (cur : List Lk) (k m : Nat) : Prop :=
  cur.length = N.w.length ∧ ∀ (x j : Nat), x < N.w.length → j < N.l.length → (j < k ∧ srcB (x : Int) (N.l.getD j Lk.nil) = true ∨ j = k ∧ ∃ t, t < m ∧ (outL (N.l.getD k Lk.nil)).getD t 0 = (x : Int)) → cur.getD x Lk.nil = N.l.getD j Lk.nil
theorem SrcQ.zero (N : Nt) : SrcQ N (List.replicate N.w.length Lk.nil) 0 0 := ⟨by simp, fun x j _ _ h => by
  rcases h with ⟨h, _⟩ | ⟨_, t, h, _⟩ <;> omega⟩
theorem out_src {N : Nt} (hv : valN N = true) {k t : Nat} (hk : k < N.l.length) (ht : t < (outL (N.l.getD k Lk.nil)).length) : srcB ((outL (N.l.getD k Lk.nil)).getD t 0) (N.l.getD k Lk.nil) = true := by
  rw [srcB_is (fitsN_kind (link_fits hv hk))]
  exact decide_eq_true (getL_mem ht)
theorem SrcQ.step {N : Nt} (hv : valN N = true) {cur : List Lk} {k m : Nat} (h : SrcQ N cur k m) (hk : k < N.l.length) (hm : m < (outL (N.l.getD k Lk.nil)).length) (hx : inW N.w.length ((outL (N.l.getD k Lk.nil)).getD m 0) = true) :
    SrcQ N (cur.set ((outL (N.l.getD k Lk.nil)).getD m 0).toNat (N.l.getD k Lk.nil)) k (m + 1) := by
  have hs := out_src hv hk hm
  obtain ⟨_, hlt, ez⟩ := inW_yes hx
  refine ⟨by rw [List.length_set]; exact h.1, fun x j hx' hj hc => ?_⟩
  by_cases e : x = ((outL (N.l.getD k Lk.nil)).getD m 0).toNat
  · have hg : (cur.set ((outL (N.l.getD k Lk.nil)).getD m 0).toNat (N.l.getD k Lk.nil)).getD x Lk.nil = N.l.getD k Lk.nil := by
      rw [← e]; simp [List.getD, h.1, hx']
    rw [hg]
    have ex : (x : Int) = (outL (N.l.getD k Lk.nil)).getD m 0 := by rw [e]; exact ez.symm
    rcases hc with ⟨h1, h2⟩ | ⟨h1, _⟩
    · rw [ex] at h2
      have := src_once hv hx hj hk h2 hs
      omega
    · rw [h1]
  · have hg : (cur.set ((outL (N.l.getD k Lk.nil)).getD m 0).toNat (N.l.getD k Lk.nil)).getD x Lk.nil = cur.getD x Lk.nil := by
      obtain ⟨z, hz⟩ : ∃ z, ((outL (N.l.getD k Lk.nil)).getD m 0).toNat = z := ⟨_, rfl⟩
      rw [hz] at e ⊢
      generalize N.l.getD k Lk.nil = l
      simp only [List.getD]
      rw [List.getElem?_set_ne (fun q => e q.symm)]
    rw [hg]
    refine h.2 x j hx' hj (hc.imp id fun ⟨h1, t, ht, h2⟩ => ⟨h1, t, ?_, h2⟩)
    by_cases e2 : t = m
    · subst e2; rw [h2] at e; exact absurd (by simp) e
    · omega
theorem getD_ix {X : List Int} {t : Nat} (ht : t < X.length) : X.getD t 0 = X[t] := by simp [List.getD, ht]
theorem SrcQ.next {N : Nt} (hv : valN N = true) {cur : List Lk} {k : Nat} (h : SrcQ N cur k (outL (N.l.getD k Lk.nil)).length) (hk : k < N.l.length) : SrcQ N cur (k + 1) 0 :=
  ⟨h.1, fun x j hx hj hc => h.2 x j hx hj (by
    rcases hc with ⟨h1, h2⟩ | ⟨_, t, ht, _⟩
    · by_cases e : j = k
      · subst e
        rw [srcB_is (fitsN_kind (link_fits hv hk))] at h2
        obtain ⟨t, ht, e2⟩ := List.getElem_of_mem (of_decide_eq_true h2)
        exact .inr ⟨rfl, t, ht, (getD_ix ht).trans e2⟩
      · exact .inl ⟨by omega, h2⟩
    · omega)⟩
/-- Each wire's source. -/
theorem SrcQ.all {N : Nt} {cur : List Lk} (h : SrcQ N cur N.l.length 0) {x : Int} (hx : inW N.w.length x = true) {k : Nat} (hs : N.l.findIdx? (srcB x) = some k) : cur.getD x.toNat Lk.nil = N.l.getD k Lk.nil := by
  obtain ⟨hk, hp⟩ := src_find hs
  obtain ⟨_, hlt, ez⟩ := inW_yes hx
  exact h.2 x.toNat k hlt hk (.inl ⟨hk, by rw [← ez]; exact hp⟩)
end Go.Proofs.YtfanapddopafiaaDoor
