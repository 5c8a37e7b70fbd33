/- Mathematics: nets parsed by firing links: the parts of links after a firing sequence; tables that lead to smaller links of the same part. -/
import Derived.Test.YtfdpkhiiboghiaaGreatDoorJQPgG
import Derived.Test.YtfdpkhiiboghiaaGreatDoorJQSwM
namespace Go.Proofs.YtfdpkhiiboghiaaGreatDoor
set_option linter.unusedSimpArgs false
set_option linter.unusedVariables false
set_option linter.unusedSimpArgs false
set_option linter.unusedVariables false
open Go.ChangeAt Go.ChangeShapes Go.RowKit Go.WideShapes

/-- The link that a wire comes from; the link that it leads to. -/
def frN (N : Nt) (x : Int) : Nat := (lxN outL N x).toNat
/-- One link fired. -/
def fireQ (N : Nt) (Q : Nat → Int) (f : Nat) : Nat → Int := fun k =>
  if (N.l.getD f Lk.nil).k = 1 then (if k = f then (f : Int) else Q k)
  else if k = f ∨ Q k = Q (frN N (N.l.getD f Lk.nil).a) ∨ Q k = Q (frN N (N.l.getD f Lk.nil).b) then min (f : Int) (min (Q (frN N (N.l.getD f Lk.nil).a)) (Q (frN N (N.l.getD f Lk.nil).b))) else Q k
/-- The parts of the links after some have been fired; -1 for the others. -/
def qN (N : Nt) (fs : List Int) : Nat → Int := fs.foldl (fun Q f => fireQ N Q f.toNat) (fun _ => -1)
/-- Is a link ready that has not been fired? -/
def rdyQ (N : Nt) (Q : Nat → Int) (l : Lk) : Bool :=
  decide (l.k = 1) || (decide (0 ≤ Q (frN N l.a)) && decide (0 ≤ Q (frN N l.b)) && (decide (Q (frN N l.a) = Q (frN N l.b)) == decide (l.k = 4)))
def okF (N : Nt) (fs : List Int) (f : Int) : Bool := inW N.l.length f && (!fs.contains f && rdyQ N (qN N fs) (N.l.getD f.toNat Lk.nil))
/-- Is it a firing sequence? -/
def isF (N : Nt) (fs : List Int) : Bool := (List.range fs.length).all fun k => okF N (fs.take k) (fs.getD k 0)
theorem qN_snoc (N : Nt) (fs : List Int) (f : Int) : qN N (fs ++ [f]) = fireQ N (qN N fs) f.toNat := by unfold qN; rw [List.foldl_append]; rfl
theorem isF_at {N : Nt} {fs : List Int} (h : isF N fs = true) {k : Nat} (hk : k < fs.length) : okF N (fs.take k) (fs.getD k 0) = true := (List.all_eq_true.1 h) k (List.mem_range.2 hk)
theorem isF_of {N : Nt} {fs : List Int} (h : ∀ k, k < fs.length → okF N (fs.take k) (fs.getD k 0) = true) : isF N fs = true := List.all_eq_true.2 fun k hk => h k (List.mem_range.1 hk)
theorem isF_take {N : Nt} {fs : List Int} {k : Nat} (hk : k ≤ fs.length) (h : ∀ j, j < k → okF N (fs.take j) (fs.getD j 0) = true) : isF N (fs.take k) = true := by
  refine isF_of fun j hj => ?_
  rw [List.length_take] at hj
  have e1 : (fs.take k).take j = fs.take j := by rw [List.take_take, Nat.min_eq_left (by omega)]
  have e2 : (fs.take k).getD j 0 = fs.getD j 0 := by simp only [List.getD]; rw [List.getElem?_take_of_lt (by omega)]
  rw [e1, e2]
  exact h j (by omega)
theorem isF_snoc {N : Nt} {fs : List Int} {f : Int} (h : isF N fs = true) (ho : okF N fs f = true) : isF N (fs ++ [f]) = true := by
  refine isF_of fun k hk => ?_
  rw [List.length_append] at hk
  by_cases e : k < fs.length
  · have e1 : (fs ++ [f]).take k = fs.take k := by rw [List.take_append_of_le_length (by omega)]
    have e2 : (fs ++ [f]).getD k 0 = fs.getD k 0 := by simp only [List.getD]; rw [List.getElem?_append_left e]
    rw [e1, e2]; exact isF_at h e
  · obtain rfl : k = fs.length := by simp at hk; omega
    have e1 : (fs ++ [f]).take fs.length = fs := by simp
    have e2 : (fs ++ [f]).getD fs.length 0 = f := by simp [List.getD]
    rw [e1, e2]; exact ho
theorem okF_yes {N : Nt} {fs : List Int} {f : Int} (h : okF N fs f = true) : inW N.l.length f = true ∧ ¬ f ∈ fs ∧ rdyQ N (qN N fs) (N.l.getD f.toNat Lk.nil) = true := by
  simp only [okF, Bool.and_eq_true, Bool.not_eq_true'] at h
  refine ⟨h.1, fun hm => ?_, h.2.2⟩
  have := List.contains_iff_mem.2 hm
  rw [h.2.1] at this; cases this
/-- What holds after a firing sequence. -/
structure QOk (N : Nt) (fs : List Int) (Q : Nat → Int) : Prop where
  rep : ∀ k, Q k = -1 ∨ ∃ r : Nat, Q k = (r : Int) ∧ r ≤ k ∧ Q r = (r : Int)
  mem : ∀ k : Nat, (Q k ≠ -1 ↔ (k : Int) ∈ fs)
  inl : ∀ x ∈ fs, inW N.l.length x = true
  src : ∀ k : Nat, Q k ≠ -1 → ¬ (N.l.getD k Lk.nil).k = 1 → Q k = Q (frN N (N.l.getD k Lk.nil).a)
  nod : fs.Nodup
theorem QOk.nil (N : Nt) : QOk N [] (qN N []) :=
  ⟨fun k => .inl rfl, fun k => ⟨fun h => absurd rfl h, fun h => absurd h (by simp)⟩, fun x h => absurd h (by simp), fun k h => absurd rfl h, List.nodup_nil⟩
theorem QOk.ge {N : Nt} {fs : List Int} {Q : Nat → Int} (h : QOk N fs Q) (k : Nat) : Q k ≠ -1 ↔ 0 ≤ Q k := by
  rcases h.rep k with e | ⟨r, e, _⟩ <;> omega
theorem rdyQ_yes {N : Nt} {fs : List Int} {Q : Nat → Int} {l : Lk} (h : QOk N fs Q) (hr : rdyQ N Q l = true) (h1 : ¬ l.k = 1) : Q (frN N l.a) ≠ -1 ∧ Q (frN N l.b) ≠ -1 ∧ (Q (frN N l.a) = Q (frN N l.b) ↔ l.k = 4) := by
  simp only [rdyQ, h1, decide_false, Bool.false_or, Bool.and_eq_true, decide_eq_true_eq, beq_iff_eq, decide_eq_decide] at hr
  exact ⟨(h.ge _).2 hr.1.1, (h.ge _).2 hr.1.2, hr.2⟩
theorem QOk.step {N : Nt} {fs : List Int} {Q : Nat → Int} {f : Nat} (h : QOk N fs Q) (hf : inW N.l.length (f : Int) = true) (hm : ¬ (f : Int) ∈ fs) (hr : rdyQ N Q (N.l.getD f Lk.nil) = true) : QOk N (fs ++ [(f : Int)]) (fireQ N Q f) := by
  have hQf : Q f = -1 := Decidable.byContradiction fun e => hm ((h.mem f).1 e)
  have hne : ∀ k, Q k ≠ (f : Int) := fun k e => by
    rcases h.rep k with e2 | ⟨r, e2, _, e3⟩
    · omega
    · obtain rfl : r = f := by omega
      omega
  have mem' : ∀ k : Nat, (fireQ N Q f k ≠ -1 ↔ (k = f ∨ Q k ≠ -1)) := fun k => by
    unfold fireQ
    by_cases h1 : (N.l.getD f Lk.nil).k = 1
    · rw [if_pos h1]
      by_cases e : k = f
      · rw [if_pos e]; omega
      · rw [if_neg e]; omega
    · rw [if_neg h1]
      obtain ⟨ha, hb, _⟩ := rdyQ_yes h hr h1
      have ga := (h.ge _).1 ha; have gb := (h.ge _).1 hb
      by_cases e : k = f ∨ Q k = Q (frN N (N.l.getD f Lk.nil).a) ∨ Q k = Q (frN N (N.l.getD f Lk.nil).b)
      · rw [if_pos e]
        constructor
        · intro _
          rcases e with e | e | e
          · exact .inl e
          · exact .inr (by rw [e]; exact ha)
          · exact .inr (by rw [e]; exact hb)
        · intro _; omega
      · rw [if_neg e]
        constructor
        · exact .inr
        · rintro (e2 | e2)
          · exact absurd (.inl e2) e
          · exact e2
  refine ⟨fun k => ?_, fun k => ?_, fun x hx => ?_, fun k hk hkk => ?_, ?_⟩
  · by_cases hk : fireQ N Q f k = -1
    · exact .inl hk
    right
    have hk2 := (mem' k).1 hk
    unfold fireQ at *
    by_cases h1 : (N.l.getD f Lk.nil).k = 1
    · simp only [if_pos h1]
      by_cases e : k = f
      · exact ⟨f, by rw [if_pos e], by omega, by rw [if_pos rfl]⟩
      · rw [if_neg e]
        rcases h.rep k with e2 | ⟨r, e2, e3, e4⟩
        · exact absurd (hk2.resolve_left e) (fun q => q e2)
        · refine ⟨r, e2, e3, ?_⟩
          rw [if_neg (by intro q; subst q; omega)]; exact e4
    · simp only [if_neg h1]
      obtain ⟨ha, hb, _⟩ := rdyQ_yes h hr h1
      generalize frN N (N.l.getD f Lk.nil).a = x at *
      generalize frN N (N.l.getD f Lk.nil).b = y at *
      rcases h.rep x with e | ⟨p, p1, p2, p3⟩
      · exact absurd e ha
      rcases h.rep y with e | ⟨q, q1, q2, q3⟩
      · exact absurd e hb
      by_cases e : k = f ∨ Q k = Q x ∨ Q k = Q y
      · rw [if_pos e]
        have hmin : ∃ m : Nat, min (f : Int) (min (Q x) (Q y)) = (m : Int) ∧ (m = f ∨ m = p ∨ m = q) ∧ m ≤ f ∧ m ≤ p ∧ m ≤ q := ⟨min f (min p q), by omega, by omega, by omega, by omega, by omega⟩
        obtain ⟨m, m1, m2, m3, m4, m5⟩ := hmin
        refine ⟨m, m1, ?_, ?_⟩
        · rcases e with e | e | e
          · omega
          · rcases h.rep k with e5 | ⟨r, e5, e6, _⟩ <;> omega
          · rcases h.rep k with e5 | ⟨r, e5, e6, _⟩ <;> omega
        · rw [if_pos]
          · exact m1
          · rcases m2 with e5 | e5 | e5
            · exact .inl e5
            · subst e5; exact .inr (.inl (by omega))
            · subst e5; exact .inr (.inr (by omega))
      · rw [if_neg e]
        rcases h.rep k with e2 | ⟨r, e2, e3, e4⟩
        · exact absurd (hk2.resolve_left (fun z => e (.inl z))) (fun q => q e2)
        · refine ⟨r, e2, e3, ?_⟩
          rw [if_neg]
          · exact e4
          · rintro (z | z | z)
            · subst z; omega
            · exact e (.inr (.inl (by omega)))
            · exact e (.inr (.inr (by omega)))
  · rw [mem' k, h.mem k, List.mem_append, List.mem_singleton]
    constructor
    · rintro (e | e)
      · exact .inr (by rw [e])
      · exact .inl e
    · rintro (e | e)
      · exact .inr e
      · exact .inl (by omega)
  · rcases List.mem_append.1 hx with e | e
    · exact h.inl x e
    · rw [List.mem_singleton.1 e]; exact hf
  · have hk2 := (mem' k).1 hk
    by_cases ek : k = f
    · subst ek
      unfold fireQ
      rw [if_neg hkk, if_neg hkk, if_pos (.inl rfl), if_pos (.inr (.inl rfl))]
    · have hq := h.src k (hk2.resolve_left ek) hkk
      have hqf : ¬ frN N (N.l.getD k Lk.nil).a = f := fun e => by rw [e, hQf] at hq; exact (hk2.resolve_left ek) hq
      unfold fireQ
      by_cases h1 : (N.l.getD f Lk.nil).k = 1
      · rw [if_pos h1, if_pos h1, if_neg ek, if_neg hqf]; exact hq
      · rw [if_neg h1, if_neg h1]
        simp only [ek, hqf, false_or, hq]
  · rw [List.nodup_append]
    exact ⟨h.nod, by simp, fun a ha b hb e => by rw [List.mem_singleton.1 hb] at e; exact hm (e ▸ ha)⟩
theorem QOk.snoc {N : Nt} {fs : List Int} {f : Int} (h : QOk N fs (qN N fs)) (ho : okF N fs f = true) : QOk N (fs ++ [f]) (qN N (fs ++ [f])) := by
  obtain ⟨h1, h2, h3⟩ := okF_yes ho
  obtain ⟨_, _, e⟩ := inW_yes h1
  have := h.step (f := f.toNat) (by rw [← e]; exact h1) (by rw [← e]; exact h2) h3
  rw [← e] at this
  rw [qN_snoc]; exact this
theorem isF_ok {N : Nt} {fs : List Int} (h : isF N fs = true) : QOk N fs (qN N fs) := by
  have : ∀ k, k ≤ fs.length → QOk N (fs.take k) (qN N (fs.take k)) := by
    intro k
    induction k with
    | zero => intro _; exact QOk.nil N
    | succ k ih =>
      intro hk
      rw [takeL_succ (d := 0) (by omega)]
      exact (ih (by omega)).snoc (isF_at h (by omega))
  have h2 := this fs.length (Nat.le_refl _)
  rwa [List.take_length] at h2
/-- Different numbers below n are at most n. -/
theorem nodup_le : ∀ (n : Nat) (L : List Int), L.Nodup → (∀ x ∈ L, 0 ≤ x ∧ x < (n : Int)) → L.length ≤ n
  | 0, L, _, h => by
    cases L with
    | nil => simp
    | cons x L => have := h x (by simp); omega
  | n + 1, L, hn, h => by
    by_cases hm : (n : Int) ∈ L
    · have hl := List.length_erase_of_mem hm
      have hp : 0 < L.length := List.length_pos_of_mem hm
      have := nodup_le n (L.erase (n : Int)) (hn.erase _) fun x hx => by
        have hx2 := (hn.mem_erase_iff).1 hx
        have := h x hx2.2
        have := hx2.1
        omega
      omega
    · have := nodup_le n L hn fun x hx => by
        have := h x hx
        have : x ≠ (n : Int) := fun e => hm (e ▸ hx)
        omega
      omega
theorem QOk.len {N : Nt} {fs : List Int} {Q : Nat → Int} (h : QOk N fs Q) : fs.length ≤ N.l.length := nodup_le _ fs h.nod fun x hx => by
  obtain ⟨_, _, _⟩ := inW_yes (h.inl x hx)
  omega
theorem QOk.all {N : Nt} {fs : List Int} {Q : Nat → Int} (h : QOk N fs Q) (hl : fs.length = N.l.length) {k : Nat} (hk : k < N.l.length) : (k : Int) ∈ fs := Decidable.byContradiction fun hm => by
  have := nodup_le N.l.length (fs ++ [(k : Int)]) (by
    rw [List.nodup_append]
    exact ⟨h.nod, by simp, fun a ha b hb e => by rw [List.mem_singleton.1 hb] at e; exact hm (e ▸ ha)⟩) fun x hx => by
    rcases List.mem_append.1 hx with e | e
    · obtain ⟨_, _, _⟩ := inW_yes (h.inl x e); omega
    · rw [List.mem_singleton.1 e]; omega
  rw [List.length_append] at this
  simp at this
  omega
theorem QOk.out {N : Nt} {fs : List Int} {Q : Nat → Int} (h : QOk N fs Q) {k : Nat} (hk : N.l.length ≤ k) : Q k = -1 := Decidable.byContradiction fun e => by
  obtain ⟨_, _, _⟩ := inW_yes (h.inl _ ((h.mem k).1 e)); omega
/-- A table that leads from each link of a part to a smaller one of the same part. -/
structure Uf (T : List Int) (Q : Nat → Int) : Prop where
  len : T.length = 48
  out : ∀ k, k < 48 → Q k = -1 → T.getD k 0 = -1
  inn : ∀ k, k < 48 → Q k ≠ -1 → ∃ j : Nat, T.getD k 0 = (j : Int) ∧ j ≤ k ∧ Q j = Q k ∧ (j = k → Q k = (k : Int))
  rep : ∀ k, Q k = -1 ∨ ∃ r : Nat, Q k = (r : Int) ∧ r ≤ k ∧ Q r = (r : Int)
def cntQ (Q : Nat → Int) : Int := ((List.range 48).map fun k : Nat => one (Q k = (k : Int))).sum
def updQ (Q : Nat → Int) (f : Nat) : Nat → Int := fun k => if k = f then (f : Int) else Q k
def uniQ (Q : Nat → Int) (a b : Nat) : Nat → Int := fun k => if Q k = max (Q a) (Q b) then min (Q a) (Q b) else Q k
theorem Uf.start : Uf (List.replicate 48 (-1)) (fun _ => -1) :=
  ⟨by rw [List.length_replicate], fun k hk _ => by rw [List.getD_eq_getElem?_getD, List.getElem?_replicate, if_pos hk]; rfl, fun k _ h => absurd rfl h, fun k => .inl rfl⟩
theorem cntQ_start : cntQ (fun _ => -1) = 0 := sum_zero_of fun k _ => by unfold one; rw [if_neg (by show ¬ (-1 : Int) = (k : Int); omega)]
theorem Uf.add {T : List Int} {Q : Nat → Int} {f : Nat} (h : Uf T Q) (hf : f < 48) (hq : Q f = -1) : Uf (T.set f (f : Int)) (updQ Q f) ∧ cntQ (updQ Q f) = cntQ Q + 1 := by
  have hne : ∀ k, Q k ≠ (f : Int) := fun k e => by
    rcases h.rep k with e2 | ⟨r, e2, _, e3⟩
    · omega
    · obtain rfl : r = f := by omega
      omega
  have hat : ∀ k, k < 48 → (T.set f (f : Int)).getD k 0 = if k = f then (f : Int) else T.getD k 0 := fun k hk => setI_at (by rw [h.len]; exact hf)
  refine ⟨⟨by rw [List.length_set]; exact h.len, fun k hk e => ?_, fun k hk e => ?_, fun k => ?_⟩, ?_⟩
  · rw [hat k hk]
    unfold updQ at e
    by_cases ek : k = f
    · rw [if_pos ek] at e; omega
    · rw [if_neg ek] at e ⊢; exact h.out k hk e
  · rw [hat k hk]
    unfold updQ at *
    by_cases ek : k = f
    · rw [if_pos ek]; exact ⟨f, rfl, by omega, by rw [if_pos rfl, if_pos ek], fun _ => by rw [if_pos ek, ek]⟩
    · rw [if_neg ek] at e ⊢
      obtain ⟨j, j1, j2, j3, j4⟩ := h.inn k hk e
      refine ⟨j, j1, j2, ?_, ?_⟩
      · rw [if_neg (by intro z; subst z; omega)]
        rw [if_neg ek]; exact j3
      · intro z; rw [if_neg ek]; exact j4 z
  · unfold updQ
    by_cases ek : k = f
    · rw [if_pos ek]; exact .inr ⟨f, rfl, by omega, by rw [if_pos rfl]⟩
    · rw [if_neg ek]
      rcases h.rep k with e | ⟨r, r1, r2, r3⟩
      · exact .inl e
      · exact .inr ⟨r, r1, r2, by rw [if_neg (by intro z; subst z; omega)]; exact r3⟩
  · unfold cntQ
    have e : ∀ k, k < 48 → one (updQ Q f k = (k : Int)) = one (Q k = (k : Int)) - (0 - one (f = k)) := fun k hk => by
      unfold updQ one
      by_cases ek : k = f
      · subst ek
        rw [if_pos rfl, if_pos rfl, if_neg (hne _), if_pos rfl]; omega
      · rw [if_neg ek, if_neg (fun z : f = k => ek z.symm)]; omega
    rw [sum_same2 e, sum_minus, sum_minus, sum_zero, sum_one hf]
    omega
theorem Uf.unite {T : List Int} {Q : Nat → Int} {a b : Nat} (h : Uf T Q) (ha : Q a ≠ -1) (hb : Q b ≠ -1) (ha8 : a < 48) (hb8 : b < 48) (hne : ¬ Q a = Q b) :
    Uf (T.set (max (Q a) (Q b)).toNat (min (Q a) (Q b))) (uniQ Q a b) ∧ cntQ (uniQ Q a b) = cntQ Q - 1 := by
  rcases h.rep a with e | ⟨p, p1, p2, p3⟩
  · exact absurd e ha
  rcases h.rep b with e | ⟨q, q1, q2, q3⟩
  · exact absurd e hb
  obtain ⟨m, n, hm, hn, hmn, hQm, hQn, hm8, hn8⟩ : ∃ m n : Nat, max (Q a) (Q b) = (m : Int) ∧ min (Q a) (Q b) = (n : Int) ∧ n < m ∧ Q m = (m : Int) ∧ Q n = (n : Int) ∧ m < 48 ∧ n < 48 := by
    by_cases c : p ≤ q
    · exact ⟨q, p, by omega, by omega, by omega, q3, p3, by omega, by omega⟩
    · exact ⟨p, q, by omega, by omega, by omega, p3, q3, by omega, by omega⟩
  have hu : ∀ k, uniQ Q a b k = if Q k = (m : Int) then (n : Int) else Q k := fun k => by unfold uniQ; rw [hm, hn]
  rw [hm, hn]
  have hat : ∀ k, k < 48 → (T.set (m : Int).toNat (n : Int)).getD k 0 = if k = m then (n : Int) else T.getD k 0 := fun k hk => by rw [Int.toNat_natCast]; exact setI_at (by rw [h.len]; exact hm8)
  refine ⟨⟨by rw [List.length_set]; exact h.len, fun k hk e => ?_, fun k hk e => ?_, fun k => ?_⟩, ?_⟩
  · rw [hu] at e
    rw [hat k hk]
    by_cases c : Q k = (m : Int)
    · rw [if_pos c] at e; omega
    · rw [if_neg c] at e
      rw [if_neg (by intro z; subst z; omega)]
      exact h.out k hk e
  · rw [hu] at e
    rw [hat k hk, hu]
    by_cases ek : k = m
    · subst ek
      rw [if_pos rfl]
      exact ⟨n, rfl, by omega, by rw [hu, if_neg (by omega), if_pos hQm, hQn], fun z => by omega⟩
    · rw [if_neg ek]
      have hk1 : Q k ≠ -1 := by
        intro z; rw [z] at e
        rw [if_neg (by omega)] at e; exact e rfl
      obtain ⟨j, j1, j2, j3, j4⟩ := h.inn k hk hk1
      refine ⟨j, j1, j2, by rw [hu, j3], fun z => ?_⟩
      have := j4 z
      rw [if_neg (by omega)]; exact this
  · rw [hu]
    by_cases c : Q k = (m : Int)
    · rw [if_pos c]
      refine .inr ⟨n, rfl, ?_, by rw [hu, if_neg (by omega)]; exact hQn⟩
      rcases h.rep k with e | ⟨r, r1, r2, _⟩ <;> omega
    · rw [if_neg c]
      rcases h.rep k with e | ⟨r, r1, r2, r3⟩
      · exact .inl e
      · exact .inr ⟨r, r1, r2, by rw [hu, if_neg (by omega)]; exact r3⟩
  · unfold cntQ
    have e : ∀ k, k < 48 → one (uniQ Q a b k = (k : Int)) = one (Q k = (k : Int)) - one (m = k) := fun k hk => by
      rw [hu]
      by_cases c : Q k = (m : Int)
      · rw [if_pos c, c]
        unfold one
        by_cases ek : m = k
        · subst ek
          rw [if_neg (by omega), if_pos rfl, if_pos rfl]; omega
        · rw [if_neg (by rcases h.rep k with e | ⟨r, r1, r2, r3⟩ <;> omega), if_neg (by omega), if_neg ek]; omega
      · rw [if_neg c]
        unfold one
        by_cases ek : m = k
        · subst ek; exact absurd hQm c
        · rw [if_neg ek]; omega
    rw [sum_same2 e, sum_minus, sum_one hm8]
/-- A part of its own, then joined to those of both inputs: the link has been fired. -/
theorem fire_is {N : Nt} {fs : List Int} {Q : Nat → Int} {f : Nat} (h : QOk N fs Q) (hm : ¬ (f : Int) ∈ fs) (hr : rdyQ N Q (N.l.getD f Lk.nil) = true) (h1 : ¬ (N.l.getD f Lk.nil).k = 1) :
    uniQ (uniQ (updQ Q f) f (frN N (N.l.getD f Lk.nil).a)) f (frN N (N.l.getD f Lk.nil).b) = fireQ N Q f ∧ ¬ updQ Q f f = updQ Q f (frN N (N.l.getD f Lk.nil).a) ∧
    (Q (frN N (N.l.getD f Lk.nil).a) = Q (frN N (N.l.getD f Lk.nil).b) ↔ uniQ (updQ Q f) f (frN N (N.l.getD f Lk.nil).a) f = uniQ (updQ Q f) f (frN N (N.l.getD f Lk.nil).a) (frN N (N.l.getD f Lk.nil).b)) := by
  have hQf : Q f = -1 := Decidable.byContradiction fun e => hm ((h.mem f).1 e)
  have hne : ∀ k, Q k ≠ (f : Int) := fun k e => by
    rcases h.rep k with e2 | ⟨r, e2, _, e3⟩
    · omega
    · obtain rfl : r = f := by omega
      omega
  obtain ⟨ha, hb, _⟩ := rdyQ_yes h hr h1
  unfold fireQ
  simp only [if_neg h1]
  generalize frN N (N.l.getD f Lk.nil).a = x at *
  generalize frN N (N.l.getD f Lk.nil).b = y at *
  have hxf : ¬ x = f := fun e => ha (by rw [e]; exact hQf)
  have hyf : ¬ y = f := fun e => hb (by rw [e]; exact hQf)
  have nx := hne x; have ny := hne y
  have u0 : updQ Q f f = (f : Int) := by unfold updQ; rw [if_pos rfl]
  have u1 : updQ Q f x = Q x := by unfold updQ; rw [if_neg hxf]
  have u2 : updQ Q f y = Q y := by unfold updQ; rw [if_neg hyf]
  have v0 : uniQ (updQ Q f) f x f = min (f : Int) (Q x) := by unfold uniQ; rw [u0, u1]; split <;> omega
  have v2 : uniQ (updQ Q f) f x y = if Q y = Q x then min (f : Int) (Q x) else Q y := by
    unfold uniQ; rw [u0, u1, u2]
    by_cases e : Q y = Q x
    · rw [if_pos e]; split <;> omega
    · rw [if_neg e, if_neg (by omega)]
  refine ⟨?_, by rw [u0, u1]; exact fun e => nx e.symm, ?_⟩
  · funext k
    rw [show ∀ R : Nat → Int, uniQ R f y k = if R k = max (R f) (R y) then min (R f) (R y) else R k from fun _ => rfl, v0, v2]
    have vk : uniQ (updQ Q f) f x k = if k = f ∨ Q k = Q x then min (f : Int) (Q x) else Q k := by
      unfold uniQ; rw [u0, u1]
      unfold updQ
      by_cases ek : k = f
      · rw [if_pos ek, if_pos (show k = f ∨ Q k = Q x from .inl ek)]; split <;> omega
      · rw [if_neg ek]
        have nk := hne k
        by_cases e : Q k = Q x
        · rw [if_pos (show k = f ∨ Q k = Q x from .inr e)]; split <;> omega
        · rw [if_neg (show ¬ (k = f ∨ Q k = Q x) by rintro (z | z); exact ek z; exact e z)]; split <;> omega
    rw [vk]
    have nk := hne k
    by_cases ek : k = f ∨ Q k = Q x
    · rw [if_pos ek, if_pos (show k = f ∨ Q k = Q x ∨ Q k = Q y by rcases ek with z | z; exact .inl z; exact .inr (.inl z))]
      by_cases e : Q y = Q x
      · rw [if_pos e]; split <;> omega
      · rw [if_neg e]; split <;> omega
    · rw [if_neg ek]
      have ek1 : ¬ k = f := fun z => ek (.inl z)
      have ek2 : ¬ Q k = Q x := fun z => ek (.inr z)
      by_cases e : Q y = Q x
      · rw [if_pos e]
        rw [if_neg (show ¬ (k = f ∨ Q k = Q x ∨ Q k = Q y) by rintro (z | z | z); exact ek1 z; exact ek2 z; exact ek2 (z.trans e))]
        split <;> omega
      · rw [if_neg e]
        by_cases e2 : Q k = Q y
        · rw [if_pos (show k = f ∨ Q k = Q x ∨ Q k = Q y from .inr (.inr e2))]
          split <;> omega
        · rw [if_neg (show ¬ (k = f ∨ Q k = Q x ∨ Q k = Q y) by rintro (z | z | z); exact ek1 z; exact ek2 z; exact e2 z)]
          rw [if_neg (by omega)]
  · rw [v0, v2]
    by_cases e : Q y = Q x
    · rw [if_pos e]; exact ⟨fun _ => rfl, fun _ => e.symm⟩
    · rw [if_neg e]; omega
/-- The parts while the inputs of a link are united with it. -/
def fiQ (N : Nt) (Q : Nat → Int) (f : Nat) : Nat → (Nat → Int)
  | 0 => updQ Q f
  | j + 1 => uniQ (fiQ N Q f j) f (frN N ((inL (N.l.getD f Lk.nil)).getD j 0))
theorem uniQ_ge {Q : Nat → Int} {a b k : Nat} (ha : 0 ≤ Q a) (hb : 0 ≤ Q b) (hk : 0 ≤ Q k) : 0 ≤ uniQ Q a b k := by unfold uniQ; split <;> omega
theorem fi_ge {N : Nt} {fs : List Int} {Q : Nat → Int} {f : Nat} (h : QOk N fs Q) (hr : rdyQ N Q (N.l.getD f Lk.nil) = true) : ∀ j, j ≤ (inL (N.l.getD f Lk.nil)).length → 0 ≤ fiQ N Q f j f ∧ ∀ t, t < (inL (N.l.getD f Lk.nil)).length → 0 ≤ fiQ N Q f j (frN N ((inL (N.l.getD f Lk.nil)).getD t 0))
  | 0, _ => by
    refine ⟨by unfold fiQ updQ; rw [if_pos rfl]; omega, fun t ht => ?_⟩
    have h1 : ¬ (N.l.getD f Lk.nil).k = 1 := fun e => by unfold inL at ht; rw [if_pos e] at ht; simp at ht
    obtain ⟨ha, hb, _⟩ := rdyQ_yes h hr h1
    have ga := (h.ge _).1 ha; have gb := (h.ge _).1 hb
    unfold inL at ht ⊢
    rw [if_neg h1] at ht ⊢
    unfold fiQ updQ
    have : t = 0 ∨ t = 1 := by simp at ht; omega
    rcases this with e | e <;> subst e <;> simp only [List.getD_cons_zero, List.getD_cons_succ] <;> split <;> omega
  | j + 1, hj => by
    obtain ⟨i1, i2⟩ := fi_ge h hr j (by omega)
    have i3 := i2 j (by omega)
    exact ⟨uniQ_ge i1 i3 i1, fun t ht => uniQ_ge i1 i3 (i2 t ht)⟩
theorem fi_all {N : Nt} {fs : List Int} {Q : Nat → Int} {f : Nat} (h : QOk N fs Q) (hm : ¬ (f : Int) ∈ fs) (hr : rdyQ N Q (N.l.getD f Lk.nil) = true) : fiQ N Q f (inL (N.l.getD f Lk.nil)).length = fireQ N Q f := by
  by_cases h1 : (N.l.getD f Lk.nil).k = 1
  · have e : inL (N.l.getD f Lk.nil) = [] := by unfold inL; rw [if_pos h1]
    rw [e]
    funext k
    show updQ Q f k = _
    unfold fireQ updQ
    rw [if_pos h1]
  · have e : inL (N.l.getD f Lk.nil) = [(N.l.getD f Lk.nil).a, (N.l.getD f Lk.nil).b] := by unfold inL; rw [if_neg h1]
    have := (fire_is h hm hr h1).1
    rw [← this, show (inL (N.l.getD f Lk.nil)).length = 2 by rw [e]; rfl]
    simp only [fiQ, e]
    rfl
theorem Uf.fired {T : List Int} {Q : Nat → Int} (h : Uf T Q) {k : Nat} (hk : k < 48) : (T.getD k 0 != -1) = decide (Q k ≠ -1) := by
  by_cases e : Q k = -1
  · rw [h.out k hk e, decide_eq_false (fun z => z e)]; rfl
  · obtain ⟨j, j1, _⟩ := h.inn k hk e
    rw [j1, decide_eq_true e]
    have : ¬ (j : Int) = -1 := by omega
    simp
theorem cntQ_le (Q : Nat → Int) : 0 ≤ cntQ Q ∧ cntQ Q ≤ 48 := by
  have : ∀ n : Nat, 0 ≤ ((List.range n).map fun k : Nat => one (Q k = (k : Int))).sum ∧ ((List.range n).map fun k : Nat => one (Q k = (k : Int))).sum ≤ (n : Int) := fun n => by
    induction n with
    | zero => simp
    | succ n ih =>
      rw [List.range_succ]
      simp only [List.map_append, List.sum_append, List.map_cons, List.map_nil, List.sum_cons, List.sum_nil]
      have := one_le (Q n = (n : Int))
      omega
  exact this 48
/-- Is a wire open? -/
def opnQ (N : Nt) (Q : Nat → Int) (x : Int) : Bool := decide (Q (frN N x) ≠ -1) && !(decide (lxN inL N x ≠ -1) && decide (Q (lxN inL N x).toNat ≠ -1))
theorem fr_lt {N : Nt} (hv : valN N = true) {x : Int} (hx : inW N.w.length x = true) : lxN outL N x = (frN N x : Int) ∧ frN N x < N.l.length := by
  obtain ⟨h0, h1, e⟩ := inW_yes hx
  rcases lxN_cases outL N x with ⟨j, hj, _, ej⟩ | ⟨hno, ej⟩
  · unfold frN; rw [ej]; exact ⟨by simp, by simpa using hj⟩
  · exfalso
    have h := (valN_at hv h1).1
    have e2 : madeN N.l x.toNat = 0 := by
      unfold madeN
      have : ∀ l ∈ N.l, mk1 l x.toNat = 0 := fun l hl => by
        rw [mk1_is]
        have hn : ¬ x ∈ outL l := by
          obtain ⟨j, hj, ej⟩ := List.getElem_of_mem hl
          have := hno j hj
          rwa [show N.l.getD j Lk.nil = l by simp [List.getD, hj, ej]] at this
        have hin := fitsN_yes ((List.all_eq_true.1 (valN_fits hv)) l hl)
        have hw : ∀ y ∈ outL l, 0 ≤ y := fun y hy => (inW_yes ((List.all_eq_true.1 (outL_in (Nat.le_refl _) hin.1 hin.2.1 hin.2.2.1)) y hy)).1
        generalize outL l = X at *
        unfold concN
        induction X with
        | nil => rfl
        | cons c cs ih =>
          simp only [List.map_cons, List.sum_cons]
          rw [ih (fun z => hn (List.mem_cons_of_mem _ z)) (fun y hy => hw y (List.mem_cons_of_mem _ hy))]
          have h3 := hw c (by simp)
          have : ¬ c.toNat = x.toNat := fun z => hn (by rw [show x = c by omega]; simp)
          unfold one; rw [if_neg this]; rfl
      rw [List.map_congr_left this]
      generalize N.l = L
      induction L with
      | nil => rfl
      | cons c cs ih => simpa using ih
    omega
theorem opn_in {N : Nt} (hv : valN N = true) {Q : Nat → Int} {k : Nat} (hk : k < N.l.length) (h1 : ¬ (N.l.getD k Lk.nil).k = 1) {x : Int} (hx : x = (N.l.getD k Lk.nil).a ∨ x = (N.l.getD k Lk.nil).b) :
    opnQ N Q x = (decide (Q (frN N x) ≠ -1) && !decide (Q k ≠ -1)) := by
  have hf := fitsN_yes (link_fits hv hk)
  have hin : inW N.w.length x = true := by rcases hx with e | e <;> rw [e]; exact hf.1; exact hf.2.1
  obtain ⟨_, h2, e⟩ := inW_yes hin
  have hmem : ((x.toNat : Nat) : Int) ∈ inL (N.l.getD k Lk.nil) := by rw [← e]; unfold inL; rw [if_neg h1]; rcases hx with e | e <;> simp [e]
  have := lxN_yes (oneP_in hv) h2 hk hmem
  rw [← e] at this
  unfold opnQ; rw [this]
  have : ¬ (k : Int) = -1 := by omega
  simp [this]
/-- What the program asks of a link is whether it has not been fired and is ready. -/
theorem ready_is {N : Nt} (hv : valN N = true) {fs : List Int} {Q : Nat → Int} (h : QOk N fs Q) {k : Nat} (hk : k < N.l.length) (h1 : ¬ (N.l.getD k Lk.nil).k = 1) :
    (opnQ N Q (N.l.getD k Lk.nil).a && (opnQ N Q (N.l.getD k Lk.nil).b && (decide (Q (frN N (N.l.getD k Lk.nil).a) = Q (frN N (N.l.getD k Lk.nil).b)) == decide ((N.l.getD k Lk.nil).k = 4)))) = (!fs.contains (k : Int) && rdyQ N Q (N.l.getD k Lk.nil)) := by
  rw [opn_in hv hk h1 (.inl rfl), opn_in hv hk h1 (.inr rfl)]
  unfold rdyQ
  have ga := h.ge (frN N (N.l.getD k Lk.nil).a); have gb := h.ge (frN N (N.l.getD k Lk.nil).b)
  have hc : fs.contains (k : Int) = decide (Q k ≠ -1) := by
    rw [Bool.eq_iff_iff, List.contains_iff_mem, decide_eq_true_eq]; exact (h.mem k).symm
  rw [hc]
  simp only [h1, decide_false, Bool.false_or]
  rw [decide_eq_decide.2 ga, decide_eq_decide.2 gb]
  generalize decide (0 ≤ Q (frN N (N.l.getD k Lk.nil).a)) = p
  generalize decide (0 ≤ Q (frN N (N.l.getD k Lk.nil).b)) = q
  generalize (decide (Q (frN N (N.l.getD k Lk.nil).a) = Q (frN N (N.l.getD k Lk.nil).b)) == decide ((N.l.getD k Lk.nil).k = 4)) = r
  generalize decide (Q k ≠ -1) = s
  cases p <;> cases q <;> cases r <;> cases s <;> rfl
/-- The ready links. -/
def allQ (N : Nt) (fs : List Int) : List Int := ((List.range N.l.length).map fun k : Nat => (k : Int)).filter fun k => okF N fs k
/-- The first, or the last, ready link. -/
def pkF (last : Bool) (r : List Int) : Int := r.getD (if last = true then r.length - 1 else 0) 0
def ordF (N : Nt) (last : Bool) : Nat → List Int → List Int
  | 0, fs => fs
  | n + 1, fs => if allQ N fs = [] then fs else ordF N last n (fs ++ [pkF last (allQ N fs)])
def ordN (N : Nt) (last : Bool) : List Int := ordF N last (N.l.length + 1) []
theorem pkF_mem {last : Bool} {r : List Int} (h : ¬ r = []) : pkF last r ∈ r := by
  have : 0 < r.length := List.length_pos_iff.2 h
  unfold pkF
  exact getL_mem (by split <;> omega)
theorem allQ_ok {N : Nt} {fs : List Int} {x : Int} (h : x ∈ allQ N fs) : okF N fs x = true := (List.mem_filter.1 h).2
/-- What the loops hold: the links fired so far lead to the same order. -/
structure OrdS (N : Nt) (last : Bool) (fs : List Int) : Prop where
  isf : isF N fs = true
  eq : ordF N last (N.l.length + 1 - fs.length) fs = ordN N last
theorem OrdS.start (N : Nt) (last : Bool) : OrdS N last [] := ⟨rfl, rfl⟩
theorem OrdS.len {N : Nt} {last : Bool} {fs : List Int} (h : OrdS N last fs) : fs.length ≤ N.l.length := (isF_ok h.isf).len
theorem OrdS.step {N : Nt} {last : Bool} {fs : List Int} (h : OrdS N last fs) (hr : ¬ allQ N fs = []) : OrdS N last (fs ++ [pkF last (allQ N fs)]) := by
  have hl := h.len
  refine ⟨isF_snoc h.isf (allQ_ok (pkF_mem hr)), ?_⟩
  have e := h.eq
  rw [show N.l.length + 1 - fs.length = (N.l.length - fs.length) + 1 by omega] at e
  unfold ordF at e
  rw [if_neg hr] at e
  rw [List.length_append, List.length_singleton, show N.l.length + 1 - (fs.length + 1) = N.l.length - fs.length by omega]
  exact e
theorem OrdS.stop {N : Nt} {last : Bool} {fs : List Int} (h : OrdS N last fs) (hr : allQ N fs = []) : fs = ordN N last := by
  have hl := h.len
  have e := h.eq
  rw [show N.l.length + 1 - fs.length = (N.l.length - fs.length) + 1 by omega] at e
  unfold ordF at e
  rw [if_pos hr] at e
  exact e
/-- All links fired into one part: what the program and what the model asks. -/
theorem one_part {N : Nt} (hv : valN N = true) {fs : List Int} {Q : Nat → Int} (h : QOk N fs Q) :
    (fs.length = N.l.length ∧ cntQ Q = 1) ↔ ((∀ x, x < N.w.length → Q (frN N (x : Int)) = 0) ∧ fs.length = N.l.length ∧ 0 < fs.length) := by
  have h48 := (valN_size hv).2
  have root : ∀ {k : Nat}, k < N.l.length → fs.length = N.l.length → Q 0 = 0 := fun {k} hk hl => by
    have hm := (h.mem 0).2 (h.all hl (k := 0) (by omega))
    rcases h.rep 0 with e | ⟨r, e1, e2, _⟩
    · exact absurd e hm
    · omega
  constructor
  · rintro ⟨hl, hc⟩
    have hpos : 0 < N.l.length := Nat.pos_of_ne_zero fun e => by
      have : cntQ Q = 0 := sum_zero_of fun k hk => by
        have := h.out (k := k) (by omega)
        unfold one; rw [if_neg (by omega)]
      omega
    refine ⟨fun x hx => ?_, hl, by omega⟩
    obtain ⟨_, hlt⟩ := fr_lt hv (x := (x : Int)) (decide_eq_true (by omega))
    have hfx := (h.mem _).2 (h.all hl hlt)
    have h0 := root hpos hl
    rcases h.rep (frN N (x : Int)) with e | ⟨r, e1, e2, e3⟩
    · exact absurd e hfx
    rw [e1]
    by_cases er : r = 0
    · omega
    exfalso
    have e : ∀ k, k < 48 → one (Q k = (k : Int)) = (one (Q k = (k : Int)) - one (0 = k) - one (r = k)) - (0 - one (0 = k) - one (r = k)) := fun k _ => by omega
    have hge : 0 ≤ ((List.range 48).map fun k : Nat => one (Q k = (k : Int)) - one (0 = k) - one (r = k)).sum := by
      have : ∀ n : Nat, 0 ≤ ((List.range n).map fun k : Nat => one (Q k = (k : Int)) - one (0 = k) - one (r = k)).sum := fun n => by
        induction n with
        | zero => simp
        | succ n ih =>
          rw [List.range_succ]
          simp only [List.map_append, List.sum_append, List.map_cons, List.map_nil, List.sum_cons, List.sum_nil]
          have : 0 ≤ one (Q n = (n : Int)) - one (0 = n) - one (r = n) := by
            unfold one
            by_cases c1 : 0 = n
            · subst c1; rw [if_pos (by omega), if_pos rfl, if_neg er]; omega
            · by_cases c2 : r = n
              · subst c2; rw [if_pos e3, if_neg c1, if_pos rfl]; omega
              · rw [if_neg c1, if_neg c2]; split <;> omega
          omega
      exact this 48
    rw [sum_minus, sum_minus, sum_one (show 0 < 48 by omega), sum_one (show r < 48 by omega)] at hge
    unfold cntQ at hc
    omega
  · rintro ⟨hw, hl, hpos⟩
    refine ⟨hl, ?_⟩
    have h0 := root (k := 0) (by omega) hl
    have e : ∀ k, k < 48 → one (Q k = (k : Int)) = one (0 = k) := fun k hk => by
      unfold one
      by_cases ek : 0 = k
      · subst ek; rw [if_pos (by omega), if_pos rfl]
      · rw [if_neg ek, if_neg]
        intro hq
        have hkf := (h.mem k).1 (by omega)
        obtain ⟨_, hkl, _⟩ := inW_yes (h.inl _ hkf)
        rw [Int.toNat_natCast] at hkl
        have hfit := fitsN_yes (link_fits hv hkl)
        by_cases h1 : (N.l.getD k Lk.nil).k = 1
        · obtain ⟨_, h2, e2⟩ := inW_yes hfit.1
          have hmem : (((N.l.getD k Lk.nil).a.toNat : Nat) : Int) ∈ outL (N.l.getD k Lk.nil) := by rw [← e2]; unfold outL; rw [if_pos h1]; simp
          have e3 := lxN_yes (oneP_out hv) h2 hkl hmem
          have := hw _ h2
          unfold frN at this
          rw [e3, Int.toNat_natCast] at this
          omega
        · have e3 := h.src k (by omega) h1
          obtain ⟨_, h2, e2⟩ := inW_yes hfit.1
          have := hw _ h2
          rw [← e2] at this
          omega
    unfold cntQ
    rw [sum_same2 e, sum_one (show 0 < 48 by omega)]
end Go.Proofs.YtfdpkhiiboghiaaGreatDoor
