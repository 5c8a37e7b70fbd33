/- The model's insertForm: a part put into a sorted row of parts, unless it is there. -/
import Derived.Test.YtdgejhlpncnenaaDoorCopyS
import Derived.Test.YtdgejhlpncnenaaDoorSubM
namespace Go.Proofs.YtdgejhlpncnenaaDoor
open Go.ChangeShapes Go.WideShapes Go.ChangeAt Go.RowKit

/-- A part put in at place p. -/
def insAt (qs : List (List Int)) (p : Nat) (q : List Int) : List (List Int) := qs.take p ++ q :: qs.drop p
def insH (hs : Nat → Option Addr × Nat) (p : Nat) (x : Option Addr × Nat) : Nat → Option Addr × Nat := fun i => if i < p then hs i else if i = p then x else hs (i - 1)
theorem insAt_len {qs : List (List Int)} {p : Nat} (h : p ≤ qs.length) (q : List Int) : (insAt qs p q).length = qs.length + 1 := by
  unfold insAt; rw [List.length_append, List.length_take, List.length_cons, List.length_drop]; omega
theorem insAt_get {qs : List (List Int)} {p : Nat} (h : p ≤ qs.length) (q : List Int) (i : Nat) : (insAt qs p q).getD i [] = if i < p then qs.getD i [] else if i = p then q else qs.getD (i - 1) [] := by
  unfold insAt
  have hl : (qs.take p).length = p := by rw [List.length_take]; omega
  simp only [List.getD_eq_getElem?_getD]
  by_cases h1 : i < p
  · rw [if_pos h1, List.getElem?_append_left (by omega), List.getElem?_take_of_lt h1]
  · rw [if_neg h1, List.getElem?_append_right (by omega), hl]
    by_cases h2 : i = p
    · subst h2; rw [if_pos rfl, Nat.sub_self]; rfl
    · rw [if_neg h2]
      obtain ⟨k, hk⟩ : ∃ k, i - p = k + 1 := ⟨i - p - 1, by omega⟩
      rw [hk, List.getElem?_cons_succ, List.getElem?_drop]
      have e : p + k = i - 1 := by omega
      rw [e]
theorem insH_hv {hs : Nat → Option Addr × Nat} {qs : List (List Int)} {p : Nat} (h : p ≤ qs.length) (q : List Int) (x : Option Addr × Nat) (i : Nat) :
    hv (insH hs p x) (insAt qs p q) i = if i < p then hv hs qs i else if i = p then .slice x.1 q.length x.2 else hv hs qs (i - 1) := by
  unfold hv insH
  rw [insAt_get h]
  by_cases h1 : i < p
  · simp only [if_pos h1]
  · by_cases h2 : i = p
    · simp only [if_neg h1, if_pos h2]
    · simp only [if_neg h1, if_neg h2]
theorem rowV_ins {hs : Nat → Option Addr × Nat} {qs : List (List Int)} {p : Nat} (h : p ≤ qs.length) (q : List Int) (x : Option Addr × Nat) : rowV (insH hs p x) (insAt qs p q) = (rowV hs qs).take p ++ .slice x.1 q.length x.2 :: (rowV hs qs).drop p := by
  have hl : ((rowV hs qs).take p).length = p := by rw [List.length_take, rowV_len]; omega
  apply List.ext_getElem?
  intro i
  by_cases hi : i < qs.length + 1
  · rw [rowV_at (by rw [insAt_len h]; exact hi), insH_hv h]
    by_cases h1 : i < p
    · rw [if_pos h1, List.getElem?_append_left (by omega), List.getElem?_take_of_lt h1, rowV_at (by omega)]
    · rw [if_neg h1, List.getElem?_append_right (by omega), hl]
      by_cases h2 : i = p
      · subst h2; rw [if_pos rfl, Nat.sub_self]; rfl
      · rw [if_neg h2]
        obtain ⟨k, hk⟩ : ∃ k, i - p = k + 1 := ⟨i - p - 1, by omega⟩
        have e : p + k = i - 1 := by omega
        rw [hk, List.getElem?_cons_succ, List.getElem?_drop, e, rowV_at (by omega)]
  · rw [List.getElem?_eq_none (by rw [rowV_len, insAt_len h]; omega), List.getElem?_eq_none (by rw [List.length_append, hl, List.length_cons, List.length_drop, rowV_len]; omega)]

/-- A row of the same parts and one more, in a block of its own. -/
theorem OwnQ.insert {w w' : World} {lo hi p c' : Nat} {v v' : Value} {a : Option Addr} {hs : Nat → Option Addr × Nat} {qs : List (List Int)} {q : List Int} (h : OwnQ w lo hi v hs qs) (hp : p ≤ qs.length) (hlo : lo ≤ w.heap.size)
    (hq : w.ownsRow lo 2 1 (.slice a q.length c') q.length (q.map (Value.int .i64))) (hge : ∀ b, (Value.slice a q.length c').ownBlock = some b → hi ≤ b) (hb : Below w.heap.size w w')
    (ho : w'.ownsRow w.heap.size 24 1 v' (qs.length + 1) ((rowV hs qs).take p ++ .slice a q.length c' :: (rowV hs qs).drop p)) :
    OwnQ w' lo w'.heap.size v' (insH hs p (a, c')) (insAt qs p q) := by
  have hv1 := insH_hv (hs := hs) hp q (a, c')
  have hold : ∀ i, i < qs.length → ∀ b, (hv hs qs i).ownBlock = some b → b < w.heap.size ∧ b < hi := fun i hi b e => ⟨h.lt hi e, h.top i b hi e⟩
  have hnew : ∀ b, (Value.slice a q.length c').ownBlock = some b → b < w.heap.size ∧ hi ≤ b := fun b e => ⟨(hq.lt b e).2, hge b e⟩
  have hall : ∀ i, i < qs.length + 1 → ∀ b, (hv (insH hs p (a, c')) (insAt qs p q) i).ownBlock = some b → b < w.heap.size := by
    intro i hi b e
    rw [hv1] at e
    by_cases h1 : i < p
    · rw [if_pos h1] at e; exact (hold i (by omega) b e).1
    · rw [if_neg h1] at e
      by_cases h2 : i = p
      · rw [if_pos h2] at e; exact (hnew b e).1
      · rw [if_neg h2] at e; exact (hold (i - 1) (by omega) b e).1
  refine ⟨?_, fun i hi => ?_, fun i j hi hj hij => ?_, fun i hi => ?_, fun k e => (ho.lt k e).2, fun i k hi e => ?_⟩
  · rw [insAt_len hp, rowV_ins hp]; exact ho.mono hlo
  · rw [insAt_len hp] at hi
    rw [hv1, insAt_get hp]
    by_cases h1 : i < p
    · rw [if_pos h1, if_pos h1]
      exact own_same (h.inner i (by omega)) fun k e => hb.block k (hold i (by omega) k e).1
    · rw [if_neg h1, if_neg h1]
      by_cases h2 : i = p
      · rw [if_pos h2, if_pos h2]
        exact own_same hq fun k e => hb.block k (hnew k e).1
      · rw [if_neg h2, if_neg h2]
        exact own_same (h.inner (i - 1) (by omega)) fun k e => hb.block k (hold (i - 1) (by omega) k e).1
  · rw [insAt_len hp] at hi hj
    have mix : ∀ k, k < qs.length → (hv hs qs k).ownBlock = none ∨ (hv hs qs k).ownBlock ≠ (Value.slice a q.length c').ownBlock := by
      intro k hk
      cases e : (hv hs qs k).ownBlock with
      | none => exact .inl rfl
      | some b =>
        right
        intro e'
        have h1 := (hold k hk b e).2
        have h2 := (hnew b e'.symm).2
        omega
    have mix' : ∀ k, k < qs.length → (Value.slice a q.length c').ownBlock = none ∨ (Value.slice a q.length c').ownBlock ≠ (hv hs qs k).ownBlock := by
      intro k hk
      cases e : (Value.slice a q.length c').ownBlock with
      | none => exact .inl rfl
      | some b =>
        right
        intro e'
        have h1 := (hold k hk b e'.symm).2
        have h2 := (hnew b e).2
        omega
    rw [hv1, hv1]
    by_cases i1 : i < p
    · rw [if_pos i1]
      by_cases j1 : j < p
      · rw [if_pos j1]; exact h.apart i j (by omega) (by omega) hij
      · rw [if_neg j1]
        by_cases j2 : j = p
        · rw [if_pos j2]; exact mix i (by omega)
        · rw [if_neg j2]; exact h.apart i (j - 1) (by omega) (by omega) (by omega)
    · rw [if_neg i1]
      by_cases i2 : i = p
      · rw [if_pos i2]
        by_cases j1 : j < p
        · rw [if_pos j1]; exact mix' j (by omega)
        · rw [if_neg j1, if_neg (by omega)]; exact mix' (j - 1) (by omega)
      · rw [if_neg i2]
        by_cases j1 : j < p
        · rw [if_pos j1]; exact h.apart (i - 1) j (by omega) (by omega) (by omega)
        · rw [if_neg j1]
          by_cases j2 : j = p
          · rw [if_pos j2]; exact mix (i - 1) (by omega)
          · rw [if_neg j2]; exact h.apart (i - 1) (j - 1) (by omega) (by omega) (by omega)
  · rw [insAt_len hp] at hi
    cases e : (hv (insH hs p (a, c')) (insAt qs p q) i).ownBlock with
    | none => exact .inl rfl
    | some b =>
      right
      intro e'
      have h1 := hall i hi b e
      have h2 := (ho.lt b e'.symm).1
      omega
  · rw [insAt_len hp] at hi
    have h1 := hall i hi k e
    have := hb.size
    omega

/-- Ahead of it in the order, or not. -/
theorem ins_same {f : List Int} : ∀ {qs : List (List Int)} {i : Nat}, i < qs.length → (∀ j, j < i → f ≠ qs.getD j [] ∧ ¬ cmpL f (qs.getD j []) < 0) → f = qs.getD i [] → insL f qs = qs
  | [], i, hi, _, _ => by simp at hi
  | x :: xs, 0, _, _, e => by
    have e' : f = x := by simpa [List.getD] using e
    unfold insL; rw [if_pos e']
  | x :: xs, i + 1, hi, h, e => by
    have h0 := h 0 (by omega)
    have h0' : f ≠ x ∧ ¬ cmpL f x < 0 := by simpa [List.getD] using h0
    unfold insL
    rw [if_neg h0'.1, if_neg h0'.2, ins_same (i := i) (by simpa using hi) (fun j hj => by simpa [List.getD] using h (j + 1) (by omega)) (by simpa [List.getD] using e)]
theorem ins_at {f : List Int} : ∀ {qs : List (List Int)} {p : Nat}, p ≤ qs.length → (∀ j, j < p → f ≠ qs.getD j [] ∧ ¬ cmpL f (qs.getD j []) < 0) → (p = qs.length ∨ (f ≠ qs.getD p [] ∧ cmpL f (qs.getD p []) < 0)) → insL f qs = insAt qs p f
  | [], p, hp, _, _ => by
    obtain rfl : p = 0 := by simpa using hp
    rfl
  | x :: xs, 0, _, _, e => by
    have e' : f ≠ x ∧ cmpL f x < 0 := by
      rcases e with e | e
      · simp at e
      · simpa [List.getD] using e
    unfold insL; rw [if_neg e'.1, if_pos e'.2]; rfl
  | x :: xs, p + 1, hp, h, e => by
    have h0 := h 0 (by omega)
    have h0' : f ≠ x ∧ ¬ cmpL f x < 0 := by simpa [List.getD] using h0
    have ih := ins_at (f := f) (qs := xs) (p := p) (by simpa using hp) (fun j hj => by simpa [List.getD] using h (j + 1) (by omega)) (by
      rcases e with e | e
      · exact .inl (by simpa using e)
      · exact .inr (by simpa [List.getD] using e))
    unfold insL
    rw [if_neg h0'.1, if_neg h0'.2, ih]
    rfl
theorem sos_get {qs : List (List Int)} (h : SoS qs) {i j : Nat} (hij : i < j) (hj : j < qs.length) : cmpL (qs.getD i []) (qs.getD j []) < 0 := by
  have := List.pairwise_iff_getElem.1 h i j (by omega) hj hij
  simpa [List.getD, hj, show i < qs.length by omega] using this

/-- An append of one header to a row in a slot: what it asks, and what it leaves. -/
theorem app_in {wr : World} {lo m c2 : Nat} {A2 : Option Addr} {vals : List Value} (own : wr.ownsRow lo 24 1 (.slice A2 m c2) m vals) (hlo : lo ≤ wr.heap.size) (x : Value) :
    (wr.alloc (.cells #[x] 24)).ownsRow lo 24 1 (.slice A2 m c2) m vals ∧ (∀ j u, [x][j]? = some u → (wr.alloc (.cells #[x] 24)).cell? ((⟨wr.heap.size, 0, none⟩ : Addr).add j) = some u) ∧ lo ≤ (wr.alloc (.cells #[x] 24)).heap.size :=
  ⟨own.alloc _, World.news_of_block (heap_alloc_new wr (.cells #[x] 24)), by simp; omega⟩
theorem app_out {w wr w' : World} {lo m c2 : Nat} {A2 : Option Addr} {vals : List Value} {x : Value} (own : wr.ownsRow lo 24 1 (.slice A2 m c2) m vals) (hb : Below lo w wr) (hlo : lo ≤ wr.heap.size) (hg : (wr.alloc (.cells #[x] 24)).grownBy w' (Value.slice A2 m c2).ownBlock) : Below lo w w' :=
  (hb.alloc hlo _).grown hg (by simp; omega) fun q e => (own.lt q e).1
end Go.Proofs.YtdgejhlpncnenaaDoor
