/- Plain mathematics of SubformsOf: a list of lists sorted and with equal neighbours struck is the list that insertion without repetition makes. The model's insertForm: a part put into a sorted row of parts, unless it is there. -/
import Derived.Test.YtjhagklpnpabeaaGreatDoorCmp
import Derived.Test.YtjhagklpnpabeaaGreatDoorCopyS
namespace Go.Proofs.YtjhagklpnpabeaaGreatDoor
open Go.ChangeAt Go.ChangeShapes Go.RowKit Go.WideShapes

theorem cmZ_neg (x y : Int) : cmZ x y = -cmZ y x := by
  rcases cmZ_cases x y with ⟨h, e⟩ | ⟨h, e⟩ | ⟨h, e⟩ <;> rcases cmZ_cases y x with ⟨h', e'⟩ | ⟨h', e'⟩ | ⟨h', e'⟩ <;> omega
theorem cmZ_zero {x y : Int} : cmZ x y = 0 ↔ x = y := by
  rcases cmZ_cases x y with ⟨h, e⟩ | ⟨h, e⟩ | ⟨h, e⟩ <;> omega
theorem cmZ_neg1 {x y : Int} : cmZ x y < 0 ↔ x < y := by
  rcases cmZ_cases x y with ⟨h, e⟩ | ⟨h, e⟩ | ⟨h, e⟩ <;> omega
theorem lexZ_zero : ∀ {a b : List Int}, lexZ a b = 0 ↔ a = b
  | [], [] => by simp [lexZ]
  | [], _ :: _ => by simp [lexZ]
  | _ :: _, [] => by simp [lexZ]
  | x :: xs, y :: ys => by
    by_cases h : cmZ x y = 0
    · rw [lexZ_same _ _ h, lexZ_zero, cmZ_zero.1 h]; simp
    · rw [lexZ_diff _ _ h]
      constructor
      · intro e; exact absurd e h
      · intro e; injection e with e1 e2; exact absurd (cmZ_zero.2 e1) h
theorem lexZ_neg : ∀ a b : List Int, lexZ a b = -lexZ b a
  | [], [] => by simp [lexZ]
  | [], _ :: _ => by simp [lexZ]
  | _ :: _, [] => by simp [lexZ]
  | x :: xs, y :: ys => by
    have hn := cmZ_neg x y
    by_cases h : cmZ x y = 0
    · rw [lexZ_same _ _ h, lexZ_same _ _ (by omega)]; exact lexZ_neg xs ys
    · rw [lexZ_diff _ _ h, lexZ_diff _ _ (by omega)]; exact hn
theorem lexZ_trans : ∀ {a b c : List Int}, lexZ a b < 0 → lexZ b c < 0 → lexZ a c < 0
  | [], [], c, h, _ => by simp [lexZ] at h
  | [], _ :: _, [], _, h => by simp [lexZ] at h
  | [], _ :: _, _ :: _, _, _ => by simp [lexZ]
  | _ :: _, [], _, h, _ => by simp [lexZ] at h
  | _ :: _, _ :: _, [], _, h => by simp [lexZ] at h
  | x :: xs, y :: ys, z :: zs, h, h' => by
    by_cases e : cmZ x y = 0
    · rw [lexZ_same _ _ e] at h
      obtain rfl := cmZ_zero.1 e
      by_cases e' : cmZ x z = 0
      · rw [lexZ_same _ _ e'] at h' ⊢; exact lexZ_trans h h'
      · rw [lexZ_diff _ _ e'] at h' ⊢; exact h'
    · rw [lexZ_diff _ _ e] at h
      have l1 := cmZ_neg1.1 h
      by_cases e' : cmZ y z = 0
      · obtain rfl := cmZ_zero.1 e'
        rw [lexZ_diff _ _ e]; exact h
      · rw [lexZ_diff _ _ e'] at h'
        have l2 := cmZ_neg1.1 h'
        have l3 : cmZ x z < 0 := cmZ_neg1.2 (by omega)
        rw [lexZ_diff _ _ (by omega)]; exact l3
theorem cmpL_neg (a b : List Int) : cmpL a b = -cmpL b a := by
  unfold cmpL
  have hn := cmZ_neg a.length b.length
  by_cases h : cmZ a.length b.length = 0
  · rw [if_pos h, if_pos (by omega)]; exact lexZ_neg a b
  · rw [if_neg h, if_neg (by omega)]; exact hn
theorem cmpL_zero {a b : List Int} : cmpL a b = 0 ↔ a = b := by
  unfold cmpL
  by_cases h : cmZ a.length b.length = 0
  · rw [if_pos h]; exact lexZ_zero
  · rw [if_neg h]
    constructor
    · intro e; exact absurd e h
    · intro e; subst e; exact absurd (cmZ_zero.2 rfl) h
theorem cmpL_trans {a b c : List Int} (h : cmpL a b < 0) (h' : cmpL b c < 0) : cmpL a c < 0 := by
  unfold cmpL at *
  by_cases e : cmZ a.length b.length = 0
  · rw [if_pos e] at h
    have el := cmZ_zero.1 e
    rw [el]
    by_cases e' : cmZ b.length c.length = 0
    · rw [if_pos e'] at h' ⊢; exact lexZ_trans h h'
    · rw [if_neg e'] at h' ⊢; exact h'
  · rw [if_neg e] at h
    have l1 := cmZ_neg1.1 h
    by_cases e' : cmZ b.length c.length = 0
    · rw [← cmZ_zero.1 e', if_neg e]; exact h
    · rw [if_neg e'] at h'
      have l2 := cmZ_neg1.1 h'
      have l3 : cmZ a.length c.length < 0 := cmZ_neg1.2 (by omega)
      rw [if_neg (by omega)]; exact l3

/-- Strictly sorted. -/
def SoS (xs : List (List Int)) : Prop := xs.Pairwise fun a b => cmpL a b < 0
/-- Sorted. -/
def SoL (xs : List (List Int)) : Prop := xs.Pairwise fun a b => cmpL a b ≤ 0
theorem sos_ext : ∀ {xs ys : List (List Int)}, SoS xs → SoS ys → (∀ z, z ∈ xs ↔ z ∈ ys) → xs = ys
  | [], [], _, _, _ => rfl
  | [], y :: ys, _, _, h => by have := (h y).2 (by simp); simp at this
  | x :: xs, [], _, _, h => by have := (h x).1 (by simp); simp at this
  | x :: xs, y :: ys, hx, hy, h => by
    obtain ⟨hx1, hx2⟩ := List.pairwise_cons.1 hx
    obtain ⟨hy1, hy2⟩ := List.pairwise_cons.1 hy
    have exy : x = y := by
      rcases List.mem_cons.1 ((h x).1 (by simp)) with e | m
      · exact e
      · rcases List.mem_cons.1 ((h y).2 (by simp)) with e | m'
        · exact e.symm
        · have a1 := hy1 x m
          have a2 := hx1 y m'
          have := cmpL_neg x y
          omega
    subst exy
    have irr : ∀ {zs : List (List Int)}, (∀ z ∈ zs, cmpL x z < 0) → x ∉ zs := fun hz hm => by
      have := hz x hm
      rw [cmpL_zero.2 rfl] at this
      omega
    rw [sos_ext hx2 hy2 fun z => ⟨fun m => by
      rcases List.mem_cons.1 ((h z).1 (List.mem_cons_of_mem _ m)) with e | m'
      · subst e; exact absurd m (irr hx1)
      · exact m', fun m => by
      rcases List.mem_cons.1 ((h z).2 (List.mem_cons_of_mem _ m)) with e | m'
      · subst e; exact absurd m (irr hy1)
      · exact m'⟩]

/-- Insertion without repetition. -/
def insL (f : List Int) : List (List Int) → List (List Int)
  | [] => [f]
  | x :: xs => if f = x then x :: xs else if cmpL f x < 0 then f :: x :: xs else x :: insL f xs
theorem insL_mem (f : List Int) : ∀ (xs : List (List Int)) (z : List Int), z ∈ insL f xs ↔ z = f ∨ z ∈ xs
  | [], z => by simp [insL]
  | x :: xs, z => by
    unfold insL
    by_cases e : f = x
    · subst e
      rw [if_pos rfl]
      simp
    · rw [if_neg e]
      by_cases h : cmpL f x < 0
      · rw [if_pos h]; simp
      · rw [if_neg h]
        simp only [List.mem_cons, insL_mem f xs z]
        constructor
        · rintro (h | h | h)
          · exact .inr (.inl h)
          · exact .inl h
          · exact .inr (.inr h)
        · rintro (h | h | h)
          · exact .inr (.inl h)
          · exact .inl h
          · exact .inr (.inr h)
theorem insL_sos (f : List Int) : ∀ (xs : List (List Int)), SoS xs → SoS (insL f xs)
  | [], _ => by simp [insL, SoS]
  | x :: xs, h => by
    obtain ⟨h1, h2⟩ := List.pairwise_cons.1 h
    unfold insL
    by_cases e : f = x
    · rw [if_pos e]; exact h
    · rw [if_neg e]
      by_cases hlt : cmpL f x < 0
      · rw [if_pos hlt]
        refine List.pairwise_cons.2 ⟨fun z hz => ?_, h⟩
        rcases List.mem_cons.1 hz with rfl | hz
        · exact hlt
        · exact cmpL_trans hlt (h1 z hz)
      · rw [if_neg hlt]
        refine List.pairwise_cons.2 ⟨fun z hz => ?_, insL_sos f xs h2⟩
        rcases (insL_mem f xs z).1 hz with rfl | hz
        · have h0 : ¬ cmpL z x = 0 := fun e0 => e (cmpL_zero.1 e0)
          have := cmpL_neg x z
          omega
        · exact h1 z hz

/-- Equal neighbours struck. -/
def cmpctL : List (List Int) → List (List Int)
  | [] => []
  | [x] => [x]
  | x :: y :: r => if x = y then cmpctL (y :: r) else x :: cmpctL (y :: r)
theorem cmpct_mem : ∀ (xs : List (List Int)) (z : List Int), z ∈ cmpctL xs ↔ z ∈ xs
  | [], z => by simp [cmpctL]
  | [x], z => by simp [cmpctL]
  | x :: y :: r, z => by
    unfold cmpctL
    have ih := cmpct_mem (y :: r) z
    by_cases e : x = y
    · rw [if_pos e, ih, e]
      simp
    · rw [if_neg e, List.mem_cons, ih, List.mem_cons (a := z) (b := x)]
theorem cmpct_sos : ∀ (xs : List (List Int)), SoL xs → SoS (cmpctL xs)
  | [], _ => by simp [cmpctL, SoS]
  | [x], _ => by simp [cmpctL, SoS]
  | x :: y :: r, h => by
    obtain ⟨h1, h2⟩ := List.pairwise_cons.1 h
    have ih := cmpct_sos (y :: r) h2
    unfold cmpctL
    by_cases e : x = y
    · rw [if_pos e]; exact ih
    · rw [if_neg e]
      refine List.pairwise_cons.2 ⟨fun z hz => ?_, ih⟩
      have hxy : cmpL x y < 0 := by
        have l1 := h1 y (by simp)
        have l2 : ¬ cmpL x y = 0 := fun e0 => e (cmpL_zero.1 e0)
        omega
      rcases List.mem_cons.1 ((cmpct_mem (y :: r) z).1 hz) with rfl | hm
      · exact hxy
      · have l3 := (List.pairwise_cons.1 h2).1 z hm
        by_cases e3 : cmpL y z = 0
        · rw [← cmpL_zero.1 e3]; exact hxy
        · exact cmpL_trans hxy (by omega)
/-- Sorted and struck, or inserted one by one: the same list. -/
theorem sub_same {ps qs : List (List Int)} (hp : qs.Perm ps) (hs : SoL qs) : cmpctL qs = ps.foldl (fun l f => insL f l) [] := by
  have hfold : ∀ (xs acc : List (List Int)), SoS acc → SoS (xs.foldl (fun l f => insL f l) acc) ∧ ∀ z, z ∈ xs.foldl (fun l f => insL f l) acc ↔ z ∈ xs ∨ z ∈ acc := by
    intro xs
    induction xs with
    | nil => intro acc h; exact ⟨h, by simp⟩
    | cons x xs ih =>
      intro acc h
      obtain ⟨i1, i2⟩ := ih (insL x acc) (insL_sos x acc h)
      refine ⟨i1, fun z => ?_⟩
      rw [List.foldl_cons, i2, insL_mem, List.mem_cons]
      constructor
      · rintro (h | h | h)
        · exact .inl (.inr h)
        · exact .inl (.inl h)
        · exact .inr h
      · rintro ((h | h) | h)
        · exact .inr (.inl h)
        · exact .inl h
        · exact .inr (.inr h)
  obtain ⟨f1, f2⟩ := hfold ps [] (by simp [SoS])
  refine sos_ext (cmpct_sos qs hs) f1 fun z => ?_
  rw [cmpct_mem, f2, hp.mem_iff]
  simp

/-- A part put in at place p. -/
def insAt (qs : List (List Int)) (p : Nat) (q : List Int) : List (List Int) := qs.take p ++ q :: qs.drop p
def insH (hs : Nat → Option Addr × Nat) (p : Nat) (x : Option Addr × Nat) : Nat → Option Addr × Nat := fun i => if i < p then hs i else if i = p then x else hs (i - 1)
theorem insAt_len {qs : List (List Int)} {p : Nat} (h : p ≤ qs.length) (q : List Int) : (insAt qs p q).length = qs.length + 1 := by
  unfold insAt; rw [List.length_append, List.length_take, List.length_cons, List.length_drop]; omega
theorem insAt_get {qs : List (List Int)} {p : Nat} (h : p ≤ qs.length) (q : List Int) (i : Nat) : (insAt qs p q).getD i [] = if i < p then qs.getD i [] else if i = p then q else qs.getD (i - 1) [] := by
  unfold insAt
  have hl : (qs.take p).length = p := by rw [List.length_take]; omega
  simp only [List.getD_eq_getElem?_getD]
  by_cases h1 : i < p
  · rw [if_pos h1, List.getElem?_append_left (by omega), List.getElem?_take_of_lt h1]
  · rw [if_neg h1, List.getElem?_append_right (by omega), hl]
    by_cases h2 : i = p
    · subst h2; rw [if_pos rfl, Nat.sub_self]; rfl
    · rw [if_neg h2]
      obtain ⟨k, hk⟩ : ∃ k, i - p = k + 1 := ⟨i - p - 1, by omega⟩
      rw [hk, List.getElem?_cons_succ, List.getElem?_drop]
      have e : p + k = i - 1 := by omega
      rw [e]
theorem insH_hv {hs : Nat → Option Addr × Nat} {qs : List (List Int)} {p : Nat} (h : p ≤ qs.length) (q : List Int) (x : Option Addr × Nat) (i : Nat) :
    hv (insH hs p x) (insAt qs p q) i = if i < p then hv hs qs i else if i = p then .slice x.1 q.length x.2 else hv hs qs (i - 1) := by
  unfold hv insH
  rw [insAt_get h]
  by_cases h1 : i < p
  · simp only [if_pos h1]
  · by_cases h2 : i = p
    · simp only [if_neg h1, if_pos h2]
    · simp only [if_neg h1, if_neg h2]
theorem rowV_ins {hs : Nat → Option Addr × Nat} {qs : List (List Int)} {p : Nat} (h : p ≤ qs.length) (q : List Int) (x : Option Addr × Nat) : rowV (insH hs p x) (insAt qs p q) = (rowV hs qs).take p ++ .slice x.1 q.length x.2 :: (rowV hs qs).drop p := by
  have hl : ((rowV hs qs).take p).length = p := by rw [List.length_take, rowV_len]; omega
  apply List.ext_getElem?
  intro i
  by_cases hi : i < qs.length + 1
  · rw [rowV_at (by rw [insAt_len h]; exact hi), insH_hv h]
    by_cases h1 : i < p
    · rw [if_pos h1, List.getElem?_append_left (by omega), List.getElem?_take_of_lt h1, rowV_at (by omega)]
    · rw [if_neg h1, List.getElem?_append_right (by omega), hl]
      by_cases h2 : i = p
      · subst h2; rw [if_pos rfl, Nat.sub_self]; rfl
      · rw [if_neg h2]
        obtain ⟨k, hk⟩ : ∃ k, i - p = k + 1 := ⟨i - p - 1, by omega⟩
        have e : p + k = i - 1 := by omega
        rw [hk, List.getElem?_cons_succ, List.getElem?_drop, e, rowV_at (by omega)]
  · rw [List.getElem?_eq_none (by rw [rowV_len, insAt_len h]; omega), List.getElem?_eq_none (by rw [List.length_append, hl, List.length_cons, List.length_drop, rowV_len]; omega)]

/-- A row of the same parts and one more, in a block of its own. -/
theorem OwnQ.insert {w w' : World} {lo hi p c' : Nat} {v v' : Value} {a : Option Addr} {hs : Nat → Option Addr × Nat} {qs : List (List Int)} {q : List Int} (h : OwnQ w lo hi v hs qs) (hp : p ≤ qs.length) (hlo : lo ≤ w.heap.size)
    (hq : w.ownsRow lo 2 1 (.slice a q.length c') q.length (q.map (Value.int .i64))) (hge : ∀ b, (Value.slice a q.length c').ownBlock = some b → hi ≤ b) (hb : Below w.heap.size w w')
    (ho : w'.ownsRow w.heap.size 35 1 v' (qs.length + 1) ((rowV hs qs).take p ++ .slice a q.length c' :: (rowV hs qs).drop p)) :
    OwnQ w' lo w'.heap.size v' (insH hs p (a, c')) (insAt qs p q) := by
  have hv1 := insH_hv (hs := hs) hp q (a, c')
  have hold : ∀ i, i < qs.length → ∀ b, (hv hs qs i).ownBlock = some b → b < w.heap.size ∧ b < hi := fun i hi b e => ⟨h.lt hi e, h.top i b hi e⟩
  have hnew : ∀ b, (Value.slice a q.length c').ownBlock = some b → b < w.heap.size ∧ hi ≤ b := fun b e => ⟨(hq.lt b e).2, hge b e⟩
  have hall : ∀ i, i < qs.length + 1 → ∀ b, (hv (insH hs p (a, c')) (insAt qs p q) i).ownBlock = some b → b < w.heap.size := by
    intro i hi b e
    rw [hv1] at e
    by_cases h1 : i < p
    · rw [if_pos h1] at e; exact (hold i (by omega) b e).1
    · rw [if_neg h1] at e
      by_cases h2 : i = p
      · rw [if_pos h2] at e; exact (hnew b e).1
      · rw [if_neg h2] at e; exact (hold (i - 1) (by omega) b e).1
  refine ⟨?_, fun i hi => ?_, fun i j hi hj hij => ?_, fun i hi => ?_, fun k e => (ho.lt k e).2, fun i k hi e => ?_⟩
  · rw [insAt_len hp, rowV_ins hp]; exact ho.mono hlo
  · rw [insAt_len hp] at hi
    rw [hv1, insAt_get hp]
    by_cases h1 : i < p
    · rw [if_pos h1, if_pos h1]
      exact own_same (h.inner i (by omega)) fun k e => hb.block k (hold i (by omega) k e).1
    · rw [if_neg h1, if_neg h1]
      by_cases h2 : i = p
      · rw [if_pos h2, if_pos h2]
        exact own_same hq fun k e => hb.block k (hnew k e).1
      · rw [if_neg h2, if_neg h2]
        exact own_same (h.inner (i - 1) (by omega)) fun k e => hb.block k (hold (i - 1) (by omega) k e).1
  · rw [insAt_len hp] at hi hj
    have mix : ∀ k, k < qs.length → (hv hs qs k).ownBlock = none ∨ (hv hs qs k).ownBlock ≠ (Value.slice a q.length c').ownBlock := by
      intro k hk
      cases e : (hv hs qs k).ownBlock with
      | none => exact .inl rfl
      | some b =>
        right
        intro e'
        have h1 := (hold k hk b e).2
        have h2 := (hnew b e'.symm).2
        omega
    have mix' : ∀ k, k < qs.length → (Value.slice a q.length c').ownBlock = none ∨ (Value.slice a q.length c').ownBlock ≠ (hv hs qs k).ownBlock := by
      intro k hk
      cases e : (Value.slice a q.length c').ownBlock with
      | none => exact .inl rfl
      | some b =>
        right
        intro e'
        have h1 := (hold k hk b e'.symm).2
        have h2 := (hnew b e).2
        omega
    rw [hv1, hv1]
    by_cases i1 : i < p
    · rw [if_pos i1]
      by_cases j1 : j < p
      · rw [if_pos j1]; exact h.apart i j (by omega) (by omega) hij
      · rw [if_neg j1]
        by_cases j2 : j = p
        · rw [if_pos j2]; exact mix i (by omega)
        · rw [if_neg j2]; exact h.apart i (j - 1) (by omega) (by omega) (by omega)
    · rw [if_neg i1]
      by_cases i2 : i = p
      · rw [if_pos i2]
        by_cases j1 : j < p
        · rw [if_pos j1]; exact mix' j (by omega)
        · rw [if_neg j1, if_neg (by omega)]; exact mix' (j - 1) (by omega)
      · rw [if_neg i2]
        by_cases j1 : j < p
        · rw [if_pos j1]; exact h.apart (i - 1) j (by omega) (by omega) (by omega)
        · rw [if_neg j1]
          by_cases j2 : j = p
          · rw [if_pos j2]; exact mix (i - 1) (by omega)
          · rw [if_neg j2]; exact h.apart (i - 1) (j - 1) (by omega) (by omega) (by omega)
  · rw [insAt_len hp] at hi
    cases e : (hv (insH hs p (a, c')) (insAt qs p q) i).ownBlock with
    | none => exact .inl rfl
    | some b =>
      right
      intro e'
      have h1 := hall i hi b e
      have h2 := (ho.lt b e'.symm).1
      omega
  · rw [insAt_len hp] at hi
    have h1 := hall i hi k e
    have := hb.size
    omega

/-- Ahead of it in the order, or not. -/
theorem ins_same {f : List Int} : ∀ {qs : List (List Int)} {i : Nat}, i < qs.length → (∀ j, j < i → f ≠ qs.getD j [] ∧ ¬ cmpL f (qs.getD j []) < 0) → f = qs.getD i [] → insL f qs = qs
  | [], i, hi, _, _ => by simp at hi
  | x :: xs, 0, _, _, e => by
    have e' : f = x := by simpa [List.getD] using e
    unfold insL; rw [if_pos e']
  | x :: xs, i + 1, hi, h, e => by
    have h0 := h 0 (by omega)
    have h0' : f ≠ x ∧ ¬ cmpL f x < 0 := by simpa [List.getD] using h0
    unfold insL
    rw [if_neg h0'.1, if_neg h0'.2, ins_same (i := i) (by simpa using hi) (fun j hj => by simpa [List.getD] using h (j + 1) (by omega)) (by simpa [List.getD] using e)]
theorem ins_at {f : List Int} : ∀ {qs : List (List Int)} {p : Nat}, p ≤ qs.length → (∀ j, j < p → f ≠ qs.getD j [] ∧ ¬ cmpL f (qs.getD j []) < 0) → (p = qs.length ∨ (f ≠ qs.getD p [] ∧ cmpL f (qs.getD p []) < 0)) → insL f qs = insAt qs p f
  | [], p, hp, _, _ => by
    obtain rfl : p = 0 := by simpa using hp
    rfl
  | x :: xs, 0, _, _, e => by
    have e' : f ≠ x ∧ cmpL f x < 0 := by
      rcases e with e | e
      · simp at e
      · simpa [List.getD] using e
    unfold insL; rw [if_neg e'.1, if_pos e'.2]; rfl
  | x :: xs, p + 1, hp, h, e => by
    have h0 := h 0 (by omega)
    have h0' : f ≠ x ∧ ¬ cmpL f x < 0 := by simpa [List.getD] using h0
    have ih := ins_at (f := f) (qs := xs) (p := p) (by simpa using hp) (fun j hj => by simpa [List.getD] using h (j + 1) (by omega)) (by
      rcases e with e | e
      · exact .inl (by simpa using e)
      · exact .inr (by simpa [List.getD] using e))
    unfold insL
    rw [if_neg h0'.1, if_neg h0'.2, ih]
    rfl
theorem sos_get {qs : List (List Int)} (h : SoS qs) {i j : Nat} (hij : i < j) (hj : j < qs.length) : cmpL (qs.getD i []) (qs.getD j []) < 0 := by
  have := List.pairwise_iff_getElem.1 h i j (by omega) hj hij
  simpa [List.getD, hj, show i < qs.length by omega] using this

/-- An append of one header to a row in a slot: what it asks, and what it leaves. -/
theorem app_in {wr : World} {lo m c2 : Nat} {A2 : Option Addr} {vals : List Value} (own : wr.ownsRow lo 35 1 (.slice A2 m c2) m vals) (hlo : lo ≤ wr.heap.size) (x : Value) :
    (wr.alloc (.cells #[x] 35)).ownsRow lo 35 1 (.slice A2 m c2) m vals ∧ (∀ j u, [x][j]? = some u → (wr.alloc (.cells #[x] 35)).cell? ((⟨wr.heap.size, 0, none⟩ : Addr).add j) = some u) ∧ lo ≤ (wr.alloc (.cells #[x] 35)).heap.size :=
  ⟨own.alloc _, World.news_of_block (heap_alloc_new wr (.cells #[x] 35)), by simp; omega⟩
theorem app_out {w wr w' : World} {lo m c2 : Nat} {A2 : Option Addr} {vals : List Value} {x : Value} (own : wr.ownsRow lo 35 1 (.slice A2 m c2) m vals) (hb : Below lo w wr) (hlo : lo ≤ wr.heap.size) (hg : (wr.alloc (.cells #[x] 35)).grownBy w' (Value.slice A2 m c2).ownBlock) : Below lo w w' :=
  (hb.alloc hlo _).grown hg (by simp; omega) fun q e => (own.lt q e).1
end Go.Proofs.YtjhagklpnpabeaaGreatDoor
