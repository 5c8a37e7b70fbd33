/- Mathematics: nets parsed by firing links: the parts of links after a firing sequence; tables that lead to smaller links of the same part. Numbers sorted. Mathematics of chapter 14: terminal links; the parts that are left when a link is removed; nets of some links. Mathematics of chapter 14: splitting links, nets of some links, the last link, sequentialisable nets. Mathematics of chapter 15: sets of links as the bits of a number; closed sets, borders, subnets. Answers of chapter 8 are small. The program's checkedNet and AxiomNet. slices.Repeat of one number. -/
import Derived.Test.YtfdpkhiiboghiaaDoorKQPgG
import Derived.Test.YtfdpkhiiboghiaaDoorKQNetZ
import Derived.Test.YtfdpkhiiboghiaaDoorKQSeqV
import Derived.Test.YtfdpkhiiboghiaaDoorKQPgA
import Derived.Lib.TrailingZeros
import Derived.Test.YtfdpkhiiboghiaaDoorShelfU
import Derived.Deep.RegionHeldLaw
import Derived.Deep.DeepCutAuto
namespace Go.Proofs.YtfdpkhiiboghiaaDoor
set_option linter.unusedSimpArgs false
set_option linter.unusedVariables false
section
set_option linter.unusedSimpArgs false
set_option linter.unusedVariables false
open Go.ChangeAt Go.ChangeShapes Go.RowKit Go.WideShapes

/-- The link that a wire comes from; the link that it leads to. -/
def frN (N : Nt) (x : Int) : Nat := (lxN outL N x).toNat
/-- One link fired. -/
def fireQ (N : Nt) (Q : Nat → Int) (f : Nat) : Nat → Int := fun k =>
  if (N.l.getD f Lk.nil).k = 1 then (if k = f then (f : Int) else Q k)
  else if k = f ∨ Q k = Q (frN N (N.l.getD f Lk.nil).a) ∨ Q k = Q (frN N (N.l.getD f Lk.nil).b) then min (f : Int) (min (Q (frN N (N.l.getD f Lk.nil).a)) (Q (frN N (N.l.getD f Lk.nil).b))) else Q k
/-- The parts of the links after some have been fired; -1 for the others. -/
def qN (N : Nt) (fs : List Int) : Nat → Int := fs.foldl (fun Q f => fireQ N Q f.toNat) (fun _ => -1)
/-- Is a link ready that has not been fired? -/
def rdyQ (N : Nt) (Q : Nat → Int) (l : Lk) : Bool :=
  decide (l.k = 1) || (decide (0 ≤ Q (frN N l.a)) && decide (0 ≤ Q (frN N l.b)) && (decide (Q (frN N l.a) = Q (frN N l.b)) == decide (l.k = 4)))
def okF (N : Nt) (fs : List Int) (f : Int) : Bool := inW N.l.length f && (!fs.contains f && rdyQ N (qN N fs) (N.l.getD f.toNat Lk.nil))
/-- Is it a firing sequence? -/
def isF (N : Nt) (fs : List Int) : Bool := (List.range fs.length).all fun k => okF N (fs.take k) (fs.getD k 0)
theorem qN_snoc (N : Nt) (fs : List Int) (f : Int) : qN N (fs ++ [f]) = fireQ N (qN N fs) f.toNat := by unfold qN; rw [List.foldl_append]; rfl
theorem isF_at {N : Nt} {fs : List Int} (h : isF N fs = true) {k : Nat} (hk : k < fs.length) : okF N (fs.take k) (fs.getD k 0) = true := (List.all_eq_true.1 h) k (List.mem_range.2 hk)
theorem isF_of {N : Nt} {fs : List Int} (h : ∀ k, k < fs.length → okF N (fs.take k) (fs.getD k 0) = true) : isF N fs = true := List.all_eq_true.2 fun k hk => h k (List.mem_range.1 hk)
theorem isF_snoc {N : Nt} {fs : List Int} {f : Int} (h : isF N fs = true) (ho : okF N fs f = true) : isF N (fs ++ [f]) = true := by
  refine isF_of fun k hk => ?_
  rw [List.length_append] at hk
  by_cases e : k < fs.length
  · have e1 : (fs ++ [f]).take k = fs.take k := by rw [List.take_append_of_le_length (by omega)]
    have e2 : (fs ++ [f]).getD k 0 = fs.getD k 0 := by simp only [List.getD]; rw [List.getElem?_append_left e]
    rw [e1, e2]; exact isF_at h e
  · obtain rfl : k = fs.length := by simp at hk; omega
    have e1 : (fs ++ [f]).take fs.length = fs := by simp
    have e2 : (fs ++ [f]).getD fs.length 0 = f := by simp [List.getD]
    rw [e1, e2]; exact ho
theorem okF_yes {N : Nt} {fs : List Int} {f : Int} (h : okF N fs f = true) : inW N.l.length f = true ∧ ¬ f ∈ fs ∧ rdyQ N (qN N fs) (N.l.getD f.toNat Lk.nil) = true := by
  simp only [okF, Bool.and_eq_true, Bool.not_eq_true'] at h
  refine ⟨h.1, fun hm => ?_, h.2.2⟩
  have := List.contains_iff_mem.2 hm
  rw [h.2.1] at this; cases this
/-- What holds after a firing sequence. -/
structure QOk (N : Nt) (fs : List Int) (Q : Nat → Int) : Prop where
  rep : ∀ k, Q k = -1 ∨ ∃ r : Nat, Q k = (r : Int) ∧ r ≤ k ∧ Q r = (r : Int)
  mem : ∀ k : Nat, (Q k ≠ -1 ↔ (k : Int) ∈ fs)
  inl : ∀ x ∈ fs, inW N.l.length x = true
  src : ∀ k : Nat, Q k ≠ -1 → ¬ (N.l.getD k Lk.nil).k = 1 → Q k = Q (frN N (N.l.getD k Lk.nil).a)
  nod : fs.Nodup
theorem QOk.nil (N : Nt) : QOk N [] (qN N []) :=
  ⟨fun k => .inl rfl, fun k => ⟨fun h => absurd rfl h, fun h => absurd h (by simp)⟩, fun x h => absurd h (by simp), fun k h => absurd rfl h, List.nodup_nil⟩
theorem QOk.ge {N : Nt} {fs : List Int} {Q : Nat → Int} (h : QOk N fs Q) (k : Nat) : Q k ≠ -1 ↔ 0 ≤ Q k := by
  rcases h.rep k with e | ⟨r, e, _⟩ <;> omega
theorem rdyQ_yes {N : Nt} {fs : List Int} {Q : Nat → Int} {l : Lk} (h : QOk N fs Q) (hr : rdyQ N Q l = true) (h1 : ¬ l.k = 1) : Q (frN N l.a) ≠ -1 ∧ Q (frN N l.b) ≠ -1 ∧ (Q (frN N l.a) = Q (frN N l.b) ↔ l.k = 4) := by
  simp only [rdyQ, h1, decide_false, Bool.false_or, Bool.and_eq_true, decide_eq_true_eq, beq_iff_eq, decide_eq_decide] at hr
  exact ⟨(h.ge _).2 hr.1.1, (h.ge _).2 hr.1.2, hr.2⟩
theorem QOk.step {N : Nt} {fs : List Int} {Q : Nat → Int} {f : Nat} (h : QOk N fs Q) (hf : inW N.l.length (f : Int) = true) (hm : ¬ (f : Int) ∈ fs) (hr : rdyQ N Q (N.l.getD f Lk.nil) = true) : QOk N (fs ++ [(f : Int)]) (fireQ N Q f) := by
  have hQf : Q f = -1 := Decidable.byContradiction fun e => hm ((h.mem f).1 e)
  have hne : ∀ k, Q k ≠ (f : Int) := fun k e => by
    rcases h.rep k with e2 | ⟨r, e2, _, e3⟩
    · omega
    · obtain rfl : r = f := by omega
      omega
  have mem' : ∀ k : Nat, (fireQ N Q f k ≠ -1 ↔ (k = f ∨ Q k ≠ -1)) := fun k => by
    unfold fireQ
    by_cases h1 : (N.l.getD f Lk.nil).k = 1
    · rw [if_pos h1]
      by_cases e : k = f
      · rw [if_pos e]; omega
      · rw [if_neg e]; omega
    · rw [if_neg h1]
      obtain ⟨ha, hb, _⟩ := rdyQ_yes h hr h1
      have ga := (h.ge _).1 ha; have gb := (h.ge _).1 hb
      by_cases e : k = f ∨ Q k = Q (frN N (N.l.getD f Lk.nil).a) ∨ Q k = Q (frN N (N.l.getD f Lk.nil).b)
      · rw [if_pos e]
        constructor
        · intro _
          rcases e with e | e | e
          · exact .inl e
          · exact .inr (by rw [e]; exact ha)
          · exact .inr (by rw [e]; exact hb)
        · intro _; omega
      · rw [if_neg e]
        constructor
        · exact .inr
        · rintro (e2 | e2)
          · exact absurd (.inl e2) e
          · exact e2
  refine ⟨fun k => ?_, fun k => ?_, fun x hx => ?_, fun k hk hkk => ?_, ?_⟩
  · by_cases hk : fireQ N Q f k = -1
    · exact .inl hk
    right
    have hk2 := (mem' k).1 hk
    unfold fireQ at *
    by_cases h1 : (N.l.getD f Lk.nil).k = 1
    · simp only [if_pos h1]
      by_cases e : k = f
      · exact ⟨f, by rw [if_pos e], by omega, by rw [if_pos rfl]⟩
      · rw [if_neg e]
        rcases h.rep k with e2 | ⟨r, e2, e3, e4⟩
        · exact absurd (hk2.resolve_left e) (fun q => q e2)
        · refine ⟨r, e2, e3, ?_⟩
          rw [if_neg (by intro q; subst q; omega)]; exact e4
    · simp only [if_neg h1]
      obtain ⟨ha, hb, _⟩ := rdyQ_yes h hr h1
      generalize frN N (N.l.getD f Lk.nil).a = x at *
      generalize frN N (N.l.getD f Lk.nil).b = y at *
      rcases h.rep x with e | ⟨p, p1, p2, p3⟩
      · exact absurd e ha
      rcases h.rep y with e | ⟨q, q1, q2, q3⟩
      · exact absurd e hb
      by_cases e : k = f ∨ Q k = Q x ∨ Q k = Q y
      · rw [if_pos e]
        have hmin : ∃ m : Nat, min (f : Int) (min (Q x) (Q y)) = (m : Int) ∧ (m = f ∨ m = p ∨ m = q) ∧ m ≤ f ∧ m ≤ p ∧ m ≤ q := ⟨min f (min p q), by omega, by omega, by omega, by omega, by omega⟩
        obtain ⟨m, m1, m2, m3, m4, m5⟩ := hmin
        refine ⟨m, m1, ?_, ?_⟩
        · rcases e with e | e | e
          · omega
          · rcases h.rep k with e5 | ⟨r, e5, e6, _⟩ <;> omega
          · rcases h.rep k with e5 | ⟨r, e5, e6, _⟩ <;> omega
        · rw [if_pos]
          · exact m1
          · rcases m2 with e5 | e5 | e5
            · exact .inl e5
            · subst e5; exact .inr (.inl (by omega))
            · subst e5; exact .inr (.inr (by omega))
      · rw [if_neg e]
        rcases h.rep k with e2 | ⟨r, e2, e3, e4⟩
        · exact absurd (hk2.resolve_left (fun z => e (.inl z))) (fun q => q e2)
        · refine ⟨r, e2, e3, ?_⟩
          rw [if_neg]
          · exact e4
          · rintro (z | z | z)
            · subst z; omega
            · exact e (.inr (.inl (by omega)))
            · exact e (.inr (.inr (by omega)))
  · rw [mem' k, h.mem k, List.mem_append, List.mem_singleton]
    constructor
    · rintro (e | e)
      · exact .inr (by rw [e])
      · exact .inl e
    · rintro (e | e)
      · exact .inr e
      · exact .inl (by omega)
  · rcases List.mem_append.1 hx with e | e
    · exact h.inl x e
    · rw [List.mem_singleton.1 e]; exact hf
  · have hk2 := (mem' k).1 hk
    by_cases ek : k = f
    · subst ek
      unfold fireQ
      rw [if_neg hkk, if_neg hkk, if_pos (.inl rfl), if_pos (.inr (.inl rfl))]
    · have hq := h.src k (hk2.resolve_left ek) hkk
      have hqf : ¬ frN N (N.l.getD k Lk.nil).a = f := fun e => by rw [e, hQf] at hq; exact (hk2.resolve_left ek) hq
      unfold fireQ
      by_cases h1 : (N.l.getD f Lk.nil).k = 1
      · rw [if_pos h1, if_pos h1, if_neg ek, if_neg hqf]; exact hq
      · rw [if_neg h1, if_neg h1]
        simp only [ek, hqf, false_or, hq]
  · rw [List.nodup_append]
    exact ⟨h.nod, by simp, fun a ha b hb e => by rw [List.mem_singleton.1 hb] at e; exact hm (e ▸ ha)⟩
theorem QOk.snoc {N : Nt} {fs : List Int} {f : Int} (h : QOk N fs (qN N fs)) (ho : okF N fs f = true) : QOk N (fs ++ [f]) (qN N (fs ++ [f])) := by
  obtain ⟨h1, h2, h3⟩ := okF_yes ho
  obtain ⟨_, _, e⟩ := inW_yes h1
  have := h.step (f := f.toNat) (by rw [← e]; exact h1) (by rw [← e]; exact h2) h3
  rw [← e] at this
  rw [qN_snoc]; exact this
theorem isF_ok {N : Nt} {fs : List Int} (h : isF N fs = true) : QOk N fs (qN N fs) := by
  have : ∀ k, k ≤ fs.length → QOk N (fs.take k) (qN N (fs.take k)) := by
    intro k
    induction k with
    | zero => intro _; exact QOk.nil N
    | succ k ih =>
      intro hk
      rw [takeL_succ (d := 0) (by omega)]
      exact (ih (by omega)).snoc (isF_at h (by omega))
  have h2 := this fs.length (Nat.le_refl _)
  rwa [List.take_length] at h2
/-- Different numbers below n are at most n. -/
theorem nodup_le : ∀ (n : Nat) (L : List Int), L.Nodup → (∀ x ∈ L, 0 ≤ x ∧ x < (n : Int)) → L.length ≤ n
  | 0, L, _, h => by
    cases L with
    | nil => simp
    | cons x L => have := h x (by simp); omega
  | n + 1, L, hn, h => by
    by_cases hm : (n : Int) ∈ L
    · have hl := List.length_erase_of_mem hm
      have hp : 0 < L.length := List.length_pos_of_mem hm
      have := nodup_le n (L.erase (n : Int)) (hn.erase _) fun x hx => by
        have hx2 := (hn.mem_erase_iff).1 hx
        have := h x hx2.2
        have := hx2.1
        omega
      omega
    · have := nodup_le n L hn fun x hx => by
        have := h x hx
        have : x ≠ (n : Int) := fun e => hm (e ▸ hx)
        omega
      omega
theorem QOk.len {N : Nt} {fs : List Int} {Q : Nat → Int} (h : QOk N fs Q) : fs.length ≤ N.l.length := nodup_le _ fs h.nod fun x hx => by
  obtain ⟨_, _, _⟩ := inW_yes (h.inl x hx)
  omega
theorem QOk.all {N : Nt} {fs : List Int} {Q : Nat → Int} (h : QOk N fs Q) (hl : fs.length = N.l.length) {k : Nat} (hk : k < N.l.length) : (k : Int) ∈ fs := Decidable.byContradiction fun hm => by
  have := nodup_le N.l.length (fs ++ [(k : Int)]) (by
    rw [List.nodup_append]
    exact ⟨h.nod, by simp, fun a ha b hb e => by rw [List.mem_singleton.1 hb] at e; exact hm (e ▸ ha)⟩) fun x hx => by
    rcases List.mem_append.1 hx with e | e
    · obtain ⟨_, _, _⟩ := inW_yes (h.inl x e); omega
    · rw [List.mem_singleton.1 e]; omega
  rw [List.length_append] at this
  simp at this
  omega
theorem QOk.out {N : Nt} {fs : List Int} {Q : Nat → Int} (h : QOk N fs Q) {k : Nat} (hk : N.l.length ≤ k) : Q k = -1 := Decidable.byContradiction fun e => by
  obtain ⟨_, _, _⟩ := inW_yes (h.inl _ ((h.mem k).1 e)); omega
/-- A table that leads from each link of a part to a smaller one of the same part. -/
structure Uf (T : List Int) (Q : Nat → Int) : Prop where
  len : T.length = 48
  out : ∀ k, k < 48 → Q k = -1 → T.getD k 0 = -1
  inn : ∀ k, k < 48 → Q k ≠ -1 → ∃ j : Nat, T.getD k 0 = (j : Int) ∧ j ≤ k ∧ Q j = Q k ∧ (j = k → Q k = (k : Int))
  rep : ∀ k, Q k = -1 ∨ ∃ r : Nat, Q k = (r : Int) ∧ r ≤ k ∧ Q r = (r : Int)
def cntQ (Q : Nat → Int) : Int := ((List.range 48).map fun k : Nat => one (Q k = (k : Int))).sum
def updQ (Q : Nat → Int) (f : Nat) : Nat → Int := fun k => if k = f then (f : Int) else Q k
theorem Uf.start : Uf (List.replicate 48 (-1)) (fun _ => -1) :=
  ⟨by rw [List.length_replicate], fun k hk _ => by rw [List.getD_eq_getElem?_getD, List.getElem?_replicate, if_pos hk]; rfl, fun k _ h => absurd rfl h, fun k => .inl rfl⟩
theorem Uf.add {T : List Int} {Q : Nat → Int} {f : Nat} (h : Uf T Q) (hf : f < 48) (hq : Q f = -1) : Uf (T.set f (f : Int)) (updQ Q f) ∧ cntQ (updQ Q f) = cntQ Q + 1 := by
  have hne : ∀ k, Q k ≠ (f : Int) := fun k e => by
    rcases h.rep k with e2 | ⟨r, e2, _, e3⟩
    · omega
    · obtain rfl : r = f := by omega
      omega
  have hat : ∀ k, k < 48 → (T.set f (f : Int)).getD k 0 = if k = f then (f : Int) else T.getD k 0 := fun k hk => setI_at (by rw [h.len]; exact hf)
  refine ⟨⟨by rw [List.length_set]; exact h.len, fun k hk e => ?_, fun k hk e => ?_, fun k => ?_⟩, ?_⟩
  · rw [hat k hk]
    unfold updQ at e
    by_cases ek : k = f
    · rw [if_pos ek] at e; omega
    · rw [if_neg ek] at e ⊢; exact h.out k hk e
  · rw [hat k hk]
    unfold updQ at *
    by_cases ek : k = f
    · rw [if_pos ek]; exact ⟨f, rfl, by omega, by rw [if_pos rfl, if_pos ek], fun _ => by rw [if_pos ek, ek]⟩
    · rw [if_neg ek] at e ⊢
      obtain ⟨j, j1, j2, j3, j4⟩ := h.inn k hk e
      refine ⟨j, j1, j2, ?_, ?_⟩
      · rw [if_neg (by intro z; subst z; omega)]
        rw [if_neg ek]; exact j3
      · intro z; rw [if_neg ek]; exact j4 z
  · unfold updQ
    by_cases ek : k = f
    · rw [if_pos ek]; exact .inr ⟨f, rfl, by omega, by rw [if_pos rfl]⟩
    · rw [if_neg ek]
      rcases h.rep k with e | ⟨r, r1, r2, r3⟩
      · exact .inl e
      · exact .inr ⟨r, r1, r2, by rw [if_neg (by intro z; subst z; omega)]; exact r3⟩
  · unfold cntQ
    have e : ∀ k, k < 48 → one (updQ Q f k = (k : Int)) = one (Q k = (k : Int)) - (0 - one (f = k)) := fun k hk => by
      unfold updQ one
      by_cases ek : k = f
      · subst ek
        rw [if_pos rfl, if_pos rfl, if_neg (hne _), if_pos rfl]; omega
      · rw [if_neg ek, if_neg (fun z : f = k => ek z.symm)]; omega
    rw [sum_same2 e, sum_minus, sum_minus, sum_zero, sum_one hf]
    omega
theorem Uf.fired {T : List Int} {Q : Nat → Int} (h : Uf T Q) {k : Nat} (hk : k < 48) : (T.getD k 0 != -1) = decide (Q k ≠ -1) := by
  by_cases e : Q k = -1
  · rw [h.out k hk e, decide_eq_false (fun z => z e)]; rfl
  · obtain ⟨j, j1, _⟩ := h.inn k hk e
    rw [j1, decide_eq_true e]
    have : ¬ (j : Int) = -1 := by omega
    simp
/-- Is a wire open? -/
def opnQ (N : Nt) (Q : Nat → Int) (x : Int) : Bool := decide (Q (frN N x) ≠ -1) && !(decide (lxN inL N x ≠ -1) && decide (Q (lxN inL N x).toNat ≠ -1))
theorem fr_lt {N : Nt} (hv : valN N = true) {x : Int} (hx : inW N.w.length x = true) : lxN outL N x = (frN N x : Int) ∧ frN N x < N.l.length := by
  obtain ⟨h0, h1, e⟩ := inW_yes hx
  rcases lxN_cases outL N x with ⟨j, hj, _, ej⟩ | ⟨hno, ej⟩
  · unfold frN; rw [ej]; exact ⟨by simp, by simpa using hj⟩
  · exfalso
    have h := (valN_at hv h1).1
    have e2 : madeN N.l x.toNat = 0 := by
      unfold madeN
      have : ∀ l ∈ N.l, mk1 l x.toNat = 0 := fun l hl => by
        rw [mk1_is]
        have hn : ¬ x ∈ outL l := by
          obtain ⟨j, hj, ej⟩ := List.getElem_of_mem hl
          have := hno j hj
          rwa [show N.l.getD j Lk.nil = l by simp [List.getD, hj, ej]] at this
        have hin := fitsN_yes ((List.all_eq_true.1 (valN_fits hv)) l hl)
        have hw : ∀ y ∈ outL l, 0 ≤ y := fun y hy => (inW_yes ((List.all_eq_true.1 (outL_in (Nat.le_refl _) hin.1 hin.2.1 hin.2.2.1)) y hy)).1
        generalize outL l = X at *
        unfold concN
        induction X with
        | nil => rfl
        | cons c cs ih =>
          simp only [List.map_cons, List.sum_cons]
          rw [ih (fun z => hn (List.mem_cons_of_mem _ z)) (fun y hy => hw y (List.mem_cons_of_mem _ hy))]
          have h3 := hw c (by simp)
          have : ¬ c.toNat = x.toNat := fun z => hn (by rw [show x = c by omega]; simp)
          unfold one; rw [if_neg this]; rfl
      rw [List.map_congr_left this]
      generalize N.l = L
      induction L with
      | nil => rfl
      | cons c cs ih => simpa using ih
    omega
/-- The ready links. -/
def allQ (N : Nt) (fs : List Int) : List Int := ((List.range N.l.length).map fun k : Nat => (k : Int)).filter fun k => okF N fs k
/-- The first, or the last, ready link. -/
def pkF (last : Bool) (r : List Int) : Int := r.getD (if last = true then r.length - 1 else 0) 0
def ordF (N : Nt) (last : Bool) : Nat → List Int → List Int
  | 0, fs => fs
  | n + 1, fs => if allQ N fs = [] then fs else ordF N last n (fs ++ [pkF last (allQ N fs)])
def ordN (N : Nt) (last : Bool) : List Int := ordF N last (N.l.length + 1) []
theorem pkF_mem {last : Bool} {r : List Int} (h : ¬ r = []) : pkF last r ∈ r := by
  have : 0 < r.length := List.length_pos_iff.2 h
  unfold pkF
  exact getL_mem (by split <;> omega)
theorem allQ_ok {N : Nt} {fs : List Int} {x : Int} (h : x ∈ allQ N fs) : okF N fs x = true := (List.mem_filter.1 h).2
/-- What the loops hold: the links fired so far lead to the same order. -/
structure OrdS (N : Nt) (last : Bool) (fs : List Int) : Prop where
  isf : isF N fs = true
  eq : ordF N last (N.l.length + 1 - fs.length) fs = ordN N last
theorem OrdS.start (N : Nt) (last : Bool) : OrdS N last [] := ⟨rfl, rfl⟩
theorem OrdS.len {N : Nt} {last : Bool} {fs : List Int} (h : OrdS N last fs) : fs.length ≤ N.l.length := (isF_ok h.isf).len
theorem OrdS.step {N : Nt} {last : Bool} {fs : List Int} (h : OrdS N last fs) (hr : ¬ allQ N fs = []) : OrdS N last (fs ++ [pkF last (allQ N fs)]) := by
  have hl := h.len
  refine ⟨isF_snoc h.isf (allQ_ok (pkF_mem hr)), ?_⟩
  have e := h.eq
  rw [show N.l.length + 1 - fs.length = (N.l.length - fs.length) + 1 by omega] at e
  unfold ordF at e
  rw [if_neg hr] at e
  rw [List.length_append, List.length_singleton, show N.l.length + 1 - (fs.length + 1) = N.l.length - fs.length by omega]
  exact e
end
section
set_option linter.unusedSimpArgs false
set_option linter.unusedVariables false
open Go.ChangeAt Go.ChangeShapes Go.RowKit Go.WideShapes
end
section
set_option linter.unusedSimpArgs false
set_option linter.unusedVariables false
open Go.ChangeAt Go.ChangeShapes Go.RowKit Go.WideShapes

/-- The numbers below k of which p says yes. -/
def selU (p : Nat → Bool) (k : Nat) : List Int := ((List.range k).filter p).map fun x : Nat => (x : Int)
theorem selU_yes {p : Nat → Bool} {k : Nat} (h : p k = true) : selU p (k + 1) = selU p k ++ [(k : Int)] := by
  unfold selU; rw [List.range_succ, List.filter_append, List.map_append]; simp [h]
theorem selU_no {p : Nat → Bool} {k : Nat} (h : p k = false) : selU p (k + 1) = selU p k := by
  unfold selU; rw [List.range_succ, List.filter_append, List.map_append]; simp [h]
theorem selU_len (p : Nat → Bool) (k : Nat) : (selU p k).length ≤ k := by
  unfold selU; rw [List.length_map]; exact Nat.le_trans (List.length_filter_le _ _) (by rw [List.length_range]; exact Nat.le_refl _)
theorem selU_mem {p : Nat → Bool} {k : Nat} {x : Int} : x ∈ selU p k ↔ ∃ j : Nat, j < k ∧ p j = true ∧ x = (j : Int) := by
  unfold selU; rw [List.mem_map]
  constructor
  · rintro ⟨j, hj, rfl⟩; rw [List.mem_filter, List.mem_range] at hj; exact ⟨j, hj.1, hj.2, rfl⟩
  · rintro ⟨j, h1, h2, rfl⟩; exact ⟨j, by rw [List.mem_filter, List.mem_range]; exact ⟨h1, h2⟩, rfl⟩
theorem selU_lt (p : Nat → Bool) (k : Nat) : (selU p k).Pairwise (· < ·) := by
  unfold selU
  rw [List.pairwise_map]
  exact (List.Pairwise.filter p List.pairwise_lt_range).imp fun h => by omega
/-- Strictly increasing lists of the same numbers are the same. -/
theorem strict_ext : ∀ {X Y : List Int}, X.Pairwise (· < ·) → Y.Pairwise (· < ·) → (∀ x, x ∈ X ↔ x ∈ Y) → X = Y
  | [], [], _, _, _ => rfl
  | [], y :: Y, _, _, h => absurd ((h y).2 (by simp)) (by simp)
  | x :: X, [], _, _, h => absurd ((h x).1 (by simp)) (by simp)
  | x :: X, y :: Y, hX, hY, h => by
    rw [List.pairwise_cons] at hX hY
    have e : x = y := by
      rcases List.mem_cons.1 ((h x).1 (by simp)) with e | e
      · exact e
      · rcases List.mem_cons.1 ((h y).2 (by simp)) with e2 | e2
        · exact e2.symm
        · have := hX.1 y e2; have := hY.1 x e; omega
    subst e
    rw [strict_ext hX.2 hY.2 fun z => ?_]
    have hz := h z
    rw [List.mem_cons, List.mem_cons] at hz
    constructor
    · intro hm
      have := hX.1 z hm
      exact (hz.1 (.inr hm)).resolve_left (by omega)
    · intro hm
      have := hY.1 z hm
      exact (hz.2 (.inr hm)).resolve_left (by omega)
theorem in_in {N : Nt} (hv : valN N = true) {k : Nat} (hk : k < N.l.length) {x : Int} (hx : x ∈ inL (N.l.getD k Lk.nil)) : inW N.w.length x = true := by
  obtain ⟨h1, h2, h3, _⟩ := fitsN_yes (link_fits hv hk)
  exact List.all_eq_true.1 (inL_in (Nat.le_refl _) h1 h2) x hx
end
section
set_option linter.unusedSimpArgs false
set_option linter.unusedVariables false
open Go.ChangeAt Go.ChangeShapes Go.RowKit Go.WideShapes
end
section
set_option linter.unusedSimpArgs false
set_option linter.unusedVariables false
open Go.ChangeAt Go.ChangeShapes Go.RowKit Go.WideShapes

/-- The set of one link, as a number. -/
def shB (x : Int) : Nat := if 0 ≤ x ∧ x < 64 then 2 ^ x.toNat else 0
theorem shB_bit (x : Int) (k : Nat) : (shB x).testBit k = decide (x = (k : Int) ∧ k < 64) := by
  unfold shB
  by_cases h : 0 ≤ x ∧ x < 64
  · rw [if_pos h, Nat.testBit_two_pow, decide_eq_decide]; omega
  · rw [if_neg h, Nat.zero_testBit]; symm; rw [decide_eq_false_iff_not]; omega
theorem shB_lt (x : Int) : shB x < 2 ^ 64 := by
  unfold shB; split
  · exact Nat.pow_lt_pow_right (by decide) (by omega)
  · decide
/-- The set of some links. -/
def orS (ks : List Int) : Nat := ks.foldl (fun s x => s ||| shB x) 0
def orU (ks : List Int) (j : Nat) : Nat := orS (ks.take j)
theorem orU_succ {ks : List Int} {j : Nat} (h : j < ks.length) : orU ks (j + 1) = orU ks j ||| shB (ks.getD j 0) := by
  unfold orU orS; rw [takeL_succ (d := (0 : Int)) h, List.foldl_append]; rfl
theorem orU_end (ks : List Int) : orU ks ks.length = orS ks := by unfold orU; rw [List.take_length]
theorem orS_from : ∀ (ks : List Int) (s k : Nat), (ks.foldl (fun s x => s ||| shB x) s).testBit k = (s.testBit k || decide (k < 64 ∧ (k : Int) ∈ ks))
  | [], s, k => by simp
  | x :: ks, s, k => by
    rw [List.foldl_cons, orS_from ks, Nat.testBit_or, shB_bit, Bool.or_assoc]
    congr 1
    rw [Bool.eq_iff_iff, Bool.or_eq_true, decide_eq_true_eq, decide_eq_true_eq, decide_eq_true_eq, List.mem_cons]
    constructor
    · rintro (⟨rfl, h⟩ | ⟨h1, h2⟩)
      · exact ⟨h, .inl rfl⟩
      · exact ⟨h1, .inr h2⟩
    · rintro ⟨h1, rfl | h2⟩
      · exact .inl ⟨rfl, h1⟩
      · exact .inr ⟨h1, h2⟩
theorem orS_bit (ks : List Int) (k : Nat) : (orS ks).testBit k = decide (k < 64 ∧ (k : Int) ∈ ks) := by
  unfold orS; rw [orS_from, Nat.zero_testBit, Bool.false_or]
theorem orS_lt (ks : List Int) : orS ks < 2 ^ 64 := by
  have : ∀ (ks : List Int) (s : Nat), s < 2 ^ 64 → ks.foldl (fun s x => s ||| shB x) s < 2 ^ 64 := fun ks => by
    induction ks with
    | nil => intro s h; exact h
    | cons x ks ih => intro s h; exact ih _ (Nat.or_lt_two_pow h (shB_lt x))
  exact this ks 0 (by decide)
theorem orU_lt (ks : List Int) (j : Nat) : orU ks j < 2 ^ 64 := orS_lt _
/-- Is a link in a set? -/
def hasS (s : Nat) (x : Int) : Bool := decide (0 ≤ x ∧ x < 64) && s.testBit x.toNat
theorem hasS_nat {s k : Nat} (h : k < 64) : hasS s (k : Int) = s.testBit k := by
  unfold hasS; rw [decide_eq_true (by omega), Int.toNat_natCast]; rfl
theorem meets_is (s t : Nat) : (s &&& t = 0) ↔ ∀ k, ¬ (s.testBit k = true ∧ t.testBit k = true) := by
  constructor
  · intro h k hk
    have := Nat.testBit_and s t k
    rw [h, Nat.zero_testBit, hk.1, hk.2] at this; cases this
  · intro h
    refine Nat.eq_of_testBit_eq fun k => ?_
    rw [Nat.testBit_and, Nat.zero_testBit]
    have := h k
    cases h1 : s.testBit k <;> cases h2 : t.testBit k <;> simp_all
theorem has_and (s : Nat) (x : Int) : (!decide (s &&& shB x = 0)) = hasS s x := by
  rw [Bool.eq_iff_iff, Bool.not_eq_true', decide_eq_false_iff_not, meets_is]
  constructor
  · intro h
    refine Decidable.byContradiction fun e => h fun k hk => ?_
    rw [shB_bit, decide_eq_true_eq] at hk
    obtain ⟨h1, h2, h3⟩ := hk
    subst h2
    rw [hasS_nat h3] at e; exact e h1
  · intro h hh
    unfold hasS at h
    rw [Bool.and_eq_true, decide_eq_true_eq] at h
    refine hh x.toNat ⟨h.2, ?_⟩
    rw [shB_bit]; exact decide_eq_true (by omega)
-- the bits of a number, one after the other
/-- The lowest bit. -/
theorem ctz_at {x : Nat} (h0 : x ≠ 0) (hx : x < 2 ^ 64) : Lib.ctz 64 x < 64 ∧ x.testBit (Lib.ctz 64 x) = true ∧ (∀ k, k < Lib.ctz 64 x → x.testBit k = false) ∧ ∀ k, (x &&& (x - 1)).testBit k = (x.testBit k && !decide (k = Lib.ctz 64 x)) := by
  unfold Lib.ctz
  rw [if_neg h0]
  obtain ⟨m, hm, ht⟩ := Lib.ctzFrom_spec 64 x (by omega) hx
  generalize Lib.ctzFrom 64 x = t at *
  have hp : 0 < 2 ^ t := Nat.pow_pos (by decide)
  have b1 : ∀ k, x.testBit k = (decide (t ≤ k) && (2 * m + 1).testBit (k - t)) := fun k => by
    rw [hm, Nat.mul_comm, Nat.testBit_mul_two_pow]
  have e1 : x - 1 = 2 ^ t * (2 * m) + (2 ^ t - 1) := by
    rw [hm, Nat.mul_add]; omega
  have b2 : ∀ k, t ≤ k → (x - 1).testBit k = (2 * m).testBit (k - t) := fun k hk => by
    rw [e1, Nat.testBit_two_pow_mul_add _ (by omega), if_neg (by omega)]
  refine ⟨ht, ?_, fun k hk => ?_, fun k => ?_⟩
  · rw [b1, Nat.sub_self]; simp
  · rw [b1, decide_eq_false (by omega)]; rfl
  · rw [Nat.testBit_and, b1]
    by_cases h1 : t ≤ k
    · rw [b2 k h1]
      by_cases h2 : k = t
      · subst h2; rw [Nat.sub_self]; simp
      · obtain ⟨j, rfl⟩ : ∃ j, k = t + (j + 1) := ⟨k - t - 1, by omega⟩
        rw [show t + (j + 1) - t = j + 1 by omega, Nat.testBit_succ, Nat.testBit_succ, show (2 * m + 1) / 2 = m by omega, show 2 * m / 2 = m by omega, decide_eq_true h1, decide_eq_false h2]
        simp
    · rw [decide_eq_false h1]; rfl
/-- What is left of s behind the bits below j. -/
def lftS (s j : Nat) : Nat := s / 2 ^ j * 2 ^ j
theorem lftS_zero (s : Nat) : lftS s 0 = s := by unfold lftS; simp
theorem lftS_bit (s j k : Nat) : (lftS s j).testBit k = (decide (j ≤ k) && s.testBit k) := by
  unfold lftS
  rw [Nat.testBit_mul_two_pow, Nat.testBit_div_two_pow]
  by_cases h : j ≤ k
  · rw [show k - j + j = k by omega]
  · rw [decide_eq_false h]; rfl
theorem lftS_le (s j : Nat) : lftS s j ≤ s := Nat.div_mul_le_self _ _
theorem lft_done {s j : Nat} (h : lftS s j = 0) (hs : s < 2 ^ 64) (hj : j ≤ 64) : selU s.testBit j = selU s.testBit 64 := by
  have hb : ∀ k, j ≤ k → s.testBit k = false := fun k hk => by
    have := lftS_bit s j k
    rw [h, Nat.zero_testBit, decide_eq_true hk] at this; exact this.symm
  have : ∀ n, selU s.testBit (j + n) = selU s.testBit j := fun n => by
    induction n with
    | zero => rfl
    | succ n ih => rw [show j + (n + 1) = (j + n) + 1 by omega, selU_no (hb _ (by omega)), ih]
  have := this (64 - j)
  rw [show j + (64 - j) = 64 by omega] at this; exact this.symm
theorem lft_step {s j : Nat} (h : lftS s j ≠ 0) (hs : s < 2 ^ 64) : ∃ t, Lib.ctz 64 (lftS s j) = t ∧ j ≤ t ∧ t < 64 ∧ selU s.testBit (t + 1) = selU s.testBit j ++ [(t : Int)] ∧ lftS s j &&& (lftS s j - 1) = lftS s (t + 1) := by
  obtain ⟨h1, h2, h3, h4⟩ := ctz_at h (Nat.lt_of_le_of_lt (lftS_le s j) hs)
  generalize Lib.ctz 64 (lftS s j) = t at *
  rw [lftS_bit, Bool.and_eq_true, decide_eq_true_eq] at h2
  have hb : ∀ n, j + n ≤ t → selU s.testBit (j + n) = selU s.testBit j := fun n => by
    induction n with
    | zero => intro _; rfl
    | succ n ih =>
      intro hn
      have := h3 (j + n) (by omega)
      rw [lftS_bit, decide_eq_true (by omega), Bool.true_and] at this
      rw [show j + (n + 1) = (j + n) + 1 by omega, selU_no this, ih (by omega)]
  refine ⟨t, rfl, h2.1, h1, ?_, ?_⟩
  · have := hb (t - j) (by omega)
    rw [show j + (t - j) = t by omega] at this
    rw [selU_yes h2.2, this]
  · refine Nat.eq_of_testBit_eq fun k => ?_
    rw [h4, lftS_bit, lftS_bit]
    by_cases e1 : t + 1 ≤ k
    · rw [decide_eq_true e1, decide_eq_true (by omega), decide_eq_false (by omega)]; simp
    · rw [decide_eq_false e1]
      by_cases e2 : k = t
      · rw [decide_eq_true e2]; simp
      · have := h3 k (by omega)
        rw [lftS_bit] at this
        rw [this]; rfl
/-- The links of a set. -/
def lkS (s : Nat) : List Int := selU s.testBit 64
theorem lkS_len (s : Nat) : (lkS s).length ≤ 64 := selU_len _ _
theorem lkS_mem {s : Nat} {x : Int} : x ∈ lkS s ↔ hasS s x = true := by
  unfold lkS; rw [selU_mem]
  constructor
  · rintro ⟨j, h1, h2, rfl⟩; rw [hasS_nat h1]; exact h2
  · intro h
    unfold hasS at h
    rw [Bool.and_eq_true, decide_eq_true_eq] at h
    exact ⟨x.toNat, by omega, h.2, by omega⟩
/-- A set of links below n. -/
def inS (n s : Nat) : Prop := ∀ k, s.testBit k = true → k < n
theorem inS_lt {n s : Nat} (h : s < 2 ^ n) : inS n s := fun k hk => Decidable.byContradiction fun e => by
  have : s.testBit k = false := Nat.testBit_lt_two_pow (Nat.lt_of_lt_of_le h (Nat.pow_le_pow_right (by decide) (by omega)))
  rw [this] at hk; cases hk
theorem inS_or {n : Nat} {ks : List Int} (h : ∀ x ∈ ks, inW n x = true) : inS n (orS ks) := fun k hk => by
  rw [orS_bit, decide_eq_true_eq] at hk
  have := (inW_yes (h _ hk.2)).2.1
  omega
-- closed sets
/-- Does a set contain the producers of all inputs of a link? Of its links? -/
def inKB (N : Nt) (K : Nat → Bool) (k : Int) : Bool := (inL (N.l.getD k.toNat Lk.nil)).all fun x => K (frN N x)
def clKB (N : Nt) (K : Nat → Bool) (ks : List Int) : Bool := !ks.isEmpty && ks.all (inKB N K)
/-- Some links as a set. -/
def kS (ks : List Int) (k : Nat) : Bool := decide ((k : Int) ∈ ks)
def csB (N : Nt) (ks : List Int) : Bool := valN N && (ks.all (inW N.l.length) && (decide (ks.Pairwise (· < ·)) && clKB N (kS ks) ks))
/-- The program's test: the links of the set of the list are the list. -/
theorem same_lks {n : Nat} {ks : List Int} (hn : n ≤ 64) (h : ks.all (inW n) = true) : decide (ks = lkS (orS ks)) = decide (ks.Pairwise (· < ·)) := by
  rw [decide_eq_decide]
  have hin : ∀ x ∈ ks, inW n x = true := List.all_eq_true.1 h
  constructor
  · intro e; rw [e]; exact selU_lt _ _
  · intro hp
    refine strict_ext hp (selU_lt _ _) fun x => ?_
    rw [lkS_mem]
    constructor
    · intro hx
      obtain ⟨_, q1, q2⟩ := inW_yes (hin x hx)
      rw [q2, hasS_nat (by omega), orS_bit]
      exact decide_eq_true ⟨by omega, by rw [← q2]; exact hx⟩
    · intro hx
      unfold hasS at hx
      rw [Bool.and_eq_true, decide_eq_true_eq, orS_bit, decide_eq_true_eq] at hx
      have := hx.2.2
      rwa [show ((x.toNat : Nat) : Int) = x by omega] at this
theorem orS_kS {n : Nat} {ks : List Int} (hn : n ≤ 64) {k : Nat} (hk : k < n) : (orS ks).testBit k = kS ks k := by
  rw [orS_bit]; unfold kS; rw [decide_eq_decide]; exact ⟨fun h => h.2, fun h => ⟨by omega, h⟩⟩
/-- Is a set, as a number, closed? -/
def clS (N : Nt) (s : Nat) : Bool := clKB N s.testBit (lkS s)
theorem cl_same {N : Nt} (hv : valN N = true) {K K' : Nat → Bool} (h : ∀ k, k < N.l.length → K k = K' k) {ks : List Int} (hk : ∀ x ∈ ks, inW N.l.length x = true) : clKB N K ks = clKB N K' ks := by
  unfold clKB
  congr 1
  rw [Bool.eq_iff_iff, List.all_eq_true, List.all_eq_true]
  have : ∀ x ∈ ks, inKB N K x = inKB N K' x := fun x hx => by
    obtain ⟨_, q1, _⟩ := inW_yes (hk x hx)
    unfold inKB
    rw [Bool.eq_iff_iff, List.all_eq_true, List.all_eq_true]
    constructor
    · intro g y hy; rw [← h _ (fr_lt hv (in_in hv q1 hy)).2]; exact g y hy
    · intro g y hy; rw [h _ (fr_lt hv (in_in hv q1 hy)).2]; exact g y hy
  exact ⟨fun g x hx => (this x hx) ▸ g x hx, fun g x hx => (this x hx) ▸ g x hx⟩
/-- What the program asks of a list is what the model asks. -/
theorem csB_is {N : Nt} (hv : valN N = true) {ks : List Int} (h : ks.all (inW N.l.length) = true) : csB N ks = (decide (ks = lkS (orS ks)) && clS N (orS ks)) := by
  have h48 := (valN_size hv).2
  unfold csB
  rw [hv, h, Bool.true_and, Bool.true_and, same_lks (by omega) h]
  cases hp : decide (ks.Pairwise (· < ·)) with
  | false => rfl
  | true =>
    have e : ks = lkS (orS ks) := of_decide_eq_true ((same_lks (by omega) h).trans hp)
    rw [Bool.true_and, Bool.true_and]
    unfold clS
    rw [← e]
    exact cl_same hv (fun k hk => (orS_kS (n := N.l.length) (by omega) hk).symm) (List.all_eq_true.1 h)
end
section
open Go.ChangeAt Go.ChangeShapes Go.RowKit Go.WideShapes
end
section
set_option linter.unusedSimpArgs false
set_option linter.unusedVariables false
open Go.ChangeAt Go.ChangeShapes Go.RowKit Go.WideShapes
end
section
set_option linter.unusedSimpArgs false
set_option linter.unusedVariables false
open Go.ChangeAt Go.ChangeShapes Go.RowKit Go.WideShapes

theorem mul_one_any (n : Nat) (hn : n ≤ 1048576) (w : World) : Calls Tryd.prog 67 #[.int .u64 1, .int .u64 n] w fun e w' => e = .returned (.tuple #[.int .u64 0, .int .u64 n]) ∧ w' = w := by
  have h := Go.Proofs.Any.bits_Mul Tryd.mulL 1 n (by omega) (by omega) w
  rw [show 1 * n / 18446744073709551616 = 0 by omega, show 1 * n % 18446744073709551616 = n by omega] at h
  exact h
theorem made1x (m : Nat) : madeCells #[Value.int .i64 0] (m * 1) = (List.replicate m (Value.int .i64 0)).toArray := by
  apply Array.toList_inj.1
  apply List.ext_getElem?
  intro j
  by_cases hj : j < m
  · have : j % 1 = 0 := by omega
    simp [madeCells, hj, this]
  · simp [madeCells, hj]
/-- The first k cells are laid. -/
def repC (v : Int) (k n : Nat) : List Value := List.replicate k (Value.int .i64 v) ++ List.replicate (n - k) (Value.int .i64 0)
theorem repC_len {v : Int} {k n : Nat} (h : k ≤ n) : (repC v k n).length = n := by simp [repC]; omega
theorem repC_zero (v : Int) (n : Nat) : repC v 0 n = List.replicate n (Value.int .i64 0) := by simp [repC]
theorem repC_all (v : Int) (n : Nat) : repC v n n = (List.replicate n v).map (Value.int .i64) := by simp [repC]
theorem repC_splice {v : Int} {k c n : Nat} (h : k + c ≤ n) : splice (repC v k n) k (List.replicate c (Value.int .i64 v)) = repC v (k + c) n := by
  unfold splice repC
  rw [List.take_left' (by simp), List.length_replicate, List.drop_append]
  simp only [List.length_replicate, List.drop_replicate]
  rw [show k - (k + c) = 0 by omega, show k + c - k = c by omega, show n - k - c = n - (k + c) by omega, List.replicate_zero, List.nil_append, ← List.append_assoc, List.replicate_append_replicate]
theorem size_i64 : (Tryd.prog.info? 2).map (·.size) = some 1 := by kernel_rfl
theorem run_copy_rep {w : World} {b g lo s n d c : Nat} {v : Int} (hsrc : ∀ j, j < s → w.cell? ⟨b, j, none⟩ = some (.int .i64 v)) (hg : w.heap[g]? = some (.cells (repC v lo n).toArray 2 (0, 0))) (hl : lo ≤ n) :
    ∃ w', (Builtin.copy_ #[24, 24] 3 #[.slice (some ⟨g, lo, none⟩) (n - lo) d, .slice (some ⟨b, 0, none⟩) s c]).run Tryd.prog w = .ok (.int .i64 ((min s (n - lo) : Nat) : Int)) w' ∧ w'.heap[g]? = some (.cells (repC v (lo + min s (n - lo)) n).toArray 2 (0, 0)) ∧ Below g w w' := by
  have hr := run_copy_row (P := Tryd.prog) w 24 24 3 2 g lo (n - lo) d ⟨b, 0, none⟩ s c (repC v lo n).toArray 2 (List.replicate (min s (n - lo)) (Value.int .i64 v)) Tryd.underlying24 size_i64 hg (by simp only [List.length_replicate]) ?_ ?_ ?_
  · rw [List.length_replicate] at hr
    refine ⟨_, hr, ?_, below_setRow (Below.refl _ _) (Nat.le_refl _) _⟩
    rw [setRow_heap w g _ _ _ _ hg]
    have := repC_splice (v := v) (k := lo) (c := min s (n - lo)) (n := n) (by omega)
    unfold splice at this
    rw [List.length_replicate, ← List.append_assoc] at this
    simp only [List.toList_toArray]
    rw [this]
  · intro j u hu
    rw [List.getElem?_replicate] at hu
    split at hu
    · next hj =>
      cases hu
      have ea : (⟨b, 0, none⟩ : Addr).add j = ⟨b, j, none⟩ := by simp [Addr.add]; omega
      rw [ea]
      exact hsrc j (by omega)
    · cases hu
  · rw [List.length_replicate, List.size_toArray, repC_len hl]; omega
  · intro u hu; rw [(List.mem_replicate.1 hu).2]; rfl
set_option maxRecDepth 100000 in
set_option maxHeartbeats 2000000 in
theorem repeat_any (b : Nat) (v : Int) (n : Nat) (w : World) (hb : b < w.heap.size) (hc : w.cell? ⟨b, 0, none⟩ = some (.int .i64 v)) (hn : n ≤ 1048576) :
    Calls Tryd.prog 59 #[.slice (some ⟨b, 0, none⟩) 1 1, .int .i64 n] w (Gives w (List.replicate n v)) := by
  obtain ⟨i0, hi0, hz0, hz1, hz2⟩ := info_parts info_i64
  have mk2 : ∀ wx : World, (Instr.makeSlice 24 (.int .i64 (n : Nat)) (.int .i64 (n : Nat))).run Tryd.prog wx = .ok (.slice (some ⟨wx.heap.size, 0, none⟩) n n) (wx.alloc (.cells (repC v 0 n).toArray 2)) := fun wx => by
    have hr := run_make (P := Tryd.prog) wx 24 2 i0 (.int .i64 0) Tryd.underlying24 hi0 hz0 .i64 .i64 n n (by omega) (Int.le_refl _) (by rw [hz2]; omega) (by omega)
    simp only [Int.toNat_natCast, hz1] at hr
    rw [repC_zero, ← made1x]
    exact hr
  clear hi0 hz0 hz1 hz2
  obtain ⟨g, hg⟩ : ∃ g, w.heap.size = g := ⟨_, rfl⟩
  obtain ⟨w1, hw1⟩ : ∃ u, u = w.alloc (.cells (repC v 0 n).toArray 2) := ⟨_, rfl⟩
  have h1 : w1.heap[g]? = some (.cells (repC v 0 n).toArray 2 (0, 0)) := by rw [hw1, ← hg]; exact heap_alloc_new _ _
  have b1 : Below g w w1 := by rw [hw1]; exact (Below.refl _ _).alloc (by omega) _
  have hcw : w1.cell? ⟨b, 0, none⟩ = some (.int .i64 v) := (b1.cell (p := ⟨b, 0, none⟩) (by show b < g; omega)).trans hc
  have HW1 := Lib.hid hw1; have H1 := Lib.hid h1; have B1 := Lib.hid b1; have HCW := Lib.hid hcw
  have HGG := Lib.hid hg
  have hcv : IntKind.u64.wrap (1 : Int) = 1 := by rw [IntKind.wrap_u64]; omega
  have hcn : IntKind.u64.wrap (n : Int) = (n : Int) := by rw [IntKind.wrap_u64]; omega
  have hcm : IntKind.i64.wrap (n : Int) = (n : Int) := IntWalk.i64_in _ (by omega)
  have h0n : ¬ (n : Int) < 0 := by omega
  have hmx : ¬ (9223372036854775807 : Int) < (n : Int) := by omega
  have HMUL := Lib.hid (mul_one_any n hn w)
  have HS1 : Hid (splice (repC v 0 n) 0 (List.replicate (min 1 n) (Value.int .i64 v)) = repC v (min 1 n) n) := Lib.hid (by have := repC_splice (v := v) (k := 0) (c := min 1 n) (n := n) (by omega); rw [this, Nat.zero_add])
  clear hw1 h1 b1 hcw hc
  go_enter Tryd.func59, Tryd.ntmps59
  go_wp2_with (fail)
  refine HMUL.out.mono ?_
  rintro e w0 ⟨rfl, hw0⟩
  rw [hw0]
  clear hw0
  go_upto_region 7 with (fail)
  rw [← HW1.out]
  obtain ⟨w5, hcp, hg5, hb5⟩ := run_copy_rep (lo := 0) (s := 1) (c := 1) (d := n) (fun j hj => (show 0 = j by omega) ▸ HCW.out) H1.out (by omega)
  rw [Nat.sub_zero] at hcp
  rw [Nat.sub_zero, Nat.zero_add] at hg5
  have HG5 := Lib.hid hg5
  have B5 := Lib.hid (B1.out.trans hb5)
  clear hb5 hg5
  obtain ⟨q, hq⟩ : ∃ q, min 1 n = q := ⟨_, rfl⟩
  rw [hq] at HG5 hcp
  go_wp2
  go_loopw [8] (fun i wr => ∃ k : Nat, k ≤ n ∧ (k = 0 → n = 0) ∧ i = .int .i64 k ∧ wr.heap[g]? = some (.cells (repC v k n).toArray 2 (0, 0)) ∧ Below g w wr) (fun i _ => n - (intOf i).toNat)
  case atStart => exact ⟨q, by omega, by omega, rfl, HG5.out, B5.out⟩
  case round =>
    obtain ⟨k, hk, hk0, rfl, hG, hB⟩ := hrel
    clear HG5 B5
    by_cases hlt : k < n
    · have hk1 : 0 < k := by omega
      have hce : ∀ j, j < k → wr.drew.cell? ⟨g, j, none⟩ = some (Value.int .i64 v) := fun j hj => by
        show wr.cell? ⟨g, j, none⟩ = _
        rw [cell_of_row _ _ _ _ _ _ hG]
        simp [repC, List.getElem?_append, hj]
      obtain ⟨w6, hcp, hg6, hb6⟩ := run_copy_rep (w := wr.drew) (b := g) (lo := k) (s := k) (n := n) (d := n - k) (c := n) hce hG (by omega)
      have hnk : ¬ n = k := by omega
      obtain ⟨c, hc⟩ : ∃ c, min k (n - k) = c := ⟨_, rfl⟩
      rw [hc] at hcp hg6
      have HG6 := Lib.hid hg6
      have HB6 := Lib.hid (hB.trans (((Below.refl g wr).drew.trans hb6)))
      have hwr : IntKind.i64.wrap ((k : Int) + (c : Int)) = (k : Int) + (c : Int) := IntWalk.i64_in _ (by omega)
      clear hG hB hce hg6 hb6
      go_wp2
      go_region
      all_goals (try go_wp2)
      go_roundw
      case rel => exact ⟨k + c, by omega, by omega, by go_num, HG6.out, HB6.out⟩
      case measure => simp [intOf]; omega
    · have hkn : k = n := by omega
      subst hkn
      rw [repC_all] at hG
      have hlen : ((List.replicate k v).map (Value.int .i64)).length = k := by simp
      have hown : wr.ownsRow w.heap.size 2 1 (.slice (some ⟨g, 0, none⟩) k k) k ((List.replicate k v).map (Value.int .i64)) :=
        ⟨by simp, .inr ⟨g, k, _, rfl, by omega, hG, Nat.le_refl _, by unfold maxLen; omega, by simp, by simp⟩⟩
      have HG : Hid (Gives w (List.replicate k v) (.returned (.slice (some ⟨g, 0, none⟩) k k)) wr) := Lib.hid ⟨some ⟨g, 0, none⟩, k, by rw [List.length_replicate], by rw [List.length_replicate]; exact hown, by rw [HGG.out]; exact hB⟩
      clear hG hB hown hlen
      go_wp2
      go_ret
      exact HG.out
end
end Go.Proofs.YtfdpkhiiboghiaaDoor
