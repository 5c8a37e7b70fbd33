/- Plain mathematics of SubformsOf: a list of lists sorted and with equal neighbours struck is the list that insertion without repetition makes. The model's insertForm: a part put into a sorted row of parts, unless it is there. A row of some of the parts, in another order, in the same block: what sorting and striking leave. slices.CompactFunc at a row of formulas in memory of its own. The order of formulas as slices.SortFunc asks for it. slices.SortFunc at formulas. slices.SortFunc at a row of formulas in memory of its own. -/
import Derived.Test.YtjdmcpaolhnejaaDoorQCmp
import Derived.Test.YtjdmcpaolhnejaaDoorQBytes
import Derived.Test.YtjdmcpaolhnejaaDoorAny
import Derived.Lib.SliceRun
import Derived.Shelf.SlSortCmp.Whole1
import Derived.Test.YtjdmcpaolhnejaaDoorShelf
import Derived.Lib.OwnBridge
namespace Go.Proofs.YtjdmcpaolhnejaaDoor
set_option linter.unusedSimpArgs false
set_option linter.unusedVariables false
section
open Go.ChangeAt Go.ChangeShapes Go.RowKit Go.WideShapes

theorem cmZ_neg (x y : Int) : cmZ x y = -cmZ y x := by
  rcases cmZ_cases x y with ⟨h, e⟩ | ⟨h, e⟩ | ⟨h, e⟩ <;> rcases cmZ_cases y x with ⟨h', e'⟩ | ⟨h', e'⟩ | ⟨h', e'⟩ <;> omega
theorem cmZ_zero {x y : Int} : cmZ x y = 0 ↔ x = y := by
  rcases cmZ_cases x y with ⟨h, e⟩ | ⟨h, e⟩ | ⟨h, e⟩ <;> omega
theorem cmZ_neg1 {x y : Int} : cmZ x y < 0 ↔ x < y := by
  rcases cmZ_cases x y with ⟨h, e⟩ | ⟨h, e⟩ | ⟨h, e⟩ <;> omega
theorem lexZ_zero : ∀ {a b : List Int}, lexZ a b = 0 ↔ a = b
  | [], [] => by simp [lexZ]
  | [], _ :: _ => by simp [lexZ]
  | _ :: _, [] => by simp [lexZ]
  | x :: xs, y :: ys => by
    by_cases h : cmZ x y = 0
    · rw [lexZ_same _ _ h, lexZ_zero, cmZ_zero.1 h]; simp
    · rw [lexZ_diff _ _ h]
      constructor
      · intro e; exact absurd e h
      · intro e; injection e with e1 e2; exact absurd (cmZ_zero.2 e1) h
theorem lexZ_neg : ∀ a b : List Int, lexZ a b = -lexZ b a
  | [], [] => by simp [lexZ]
  | [], _ :: _ => by simp [lexZ]
  | _ :: _, [] => by simp [lexZ]
  | x :: xs, y :: ys => by
    have hn := cmZ_neg x y
    by_cases h : cmZ x y = 0
    · rw [lexZ_same _ _ h, lexZ_same _ _ (by omega)]; exact lexZ_neg xs ys
    · rw [lexZ_diff _ _ h, lexZ_diff _ _ (by omega)]; exact hn
theorem lexZ_trans : ∀ {a b c : List Int}, lexZ a b < 0 → lexZ b c < 0 → lexZ a c < 0
  | [], [], c, h, _ => by simp [lexZ] at h
  | [], _ :: _, [], _, h => by simp [lexZ] at h
  | [], _ :: _, _ :: _, _, _ => by simp [lexZ]
  | _ :: _, [], _, h, _ => by simp [lexZ] at h
  | _ :: _, _ :: _, [], _, h => by simp [lexZ] at h
  | x :: xs, y :: ys, z :: zs, h, h' => by
    by_cases e : cmZ x y = 0
    · rw [lexZ_same _ _ e] at h
      obtain rfl := cmZ_zero.1 e
      by_cases e' : cmZ x z = 0
      · rw [lexZ_same _ _ e'] at h' ⊢; exact lexZ_trans h h'
      · rw [lexZ_diff _ _ e'] at h' ⊢; exact h'
    · rw [lexZ_diff _ _ e] at h
      have l1 := cmZ_neg1.1 h
      by_cases e' : cmZ y z = 0
      · obtain rfl := cmZ_zero.1 e'
        rw [lexZ_diff _ _ e]; exact h
      · rw [lexZ_diff _ _ e'] at h'
        have l2 := cmZ_neg1.1 h'
        have l3 : cmZ x z < 0 := cmZ_neg1.2 (by omega)
        rw [lexZ_diff _ _ (by omega)]; exact l3
theorem cmpL_neg (a b : List Int) : cmpL a b = -cmpL b a := by
  unfold cmpL
  have hn := cmZ_neg a.length b.length
  by_cases h : cmZ a.length b.length = 0
  · rw [if_pos h, if_pos (by omega)]; exact lexZ_neg a b
  · rw [if_neg h, if_neg (by omega)]; exact hn
theorem cmpL_zero {a b : List Int} : cmpL a b = 0 ↔ a = b := by
  unfold cmpL
  by_cases h : cmZ a.length b.length = 0
  · rw [if_pos h]; exact lexZ_zero
  · rw [if_neg h]
    constructor
    · intro e; exact absurd e h
    · intro e; subst e; exact absurd (cmZ_zero.2 rfl) h
theorem cmpL_trans {a b c : List Int} (h : cmpL a b < 0) (h' : cmpL b c < 0) : cmpL a c < 0 := by
  unfold cmpL at *
  by_cases e : cmZ a.length b.length = 0
  · rw [if_pos e] at h
    have el := cmZ_zero.1 e
    rw [el]
    by_cases e' : cmZ b.length c.length = 0
    · rw [if_pos e'] at h' ⊢; exact lexZ_trans h h'
    · rw [if_neg e'] at h' ⊢; exact h'
  · rw [if_neg e] at h
    have l1 := cmZ_neg1.1 h
    by_cases e' : cmZ b.length c.length = 0
    · rw [← cmZ_zero.1 e', if_neg e]; exact h
    · rw [if_neg e'] at h'
      have l2 := cmZ_neg1.1 h'
      have l3 : cmZ a.length c.length < 0 := cmZ_neg1.2 (by omega)
      rw [if_neg (by omega)]; exact l3

/-- Strictly sorted. -/
def SoS (xs : List (List Int)) : Prop := xs.Pairwise fun a b => cmpL a b < 0
/-- Sorted. -/
def SoL (xs : List (List Int)) : Prop := xs.Pairwise fun a b => cmpL a b ≤ 0
theorem sos_ext : ∀ {xs ys : List (List Int)}, SoS xs → SoS ys → (∀ z, z ∈ xs ↔ z ∈ ys) → xs = ys
  | [], [], _, _, _ => rfl
  | [], y :: ys, _, _, h => by have := (h y).2 (by simp); simp at this
  | x :: xs, [], _, _, h => by have := (h x).1 (by simp); simp at this
  | x :: xs, y :: ys, hx, hy, h => by
    obtain ⟨hx1, hx2⟩ := List.pairwise_cons.1 hx
    obtain ⟨hy1, hy2⟩ := List.pairwise_cons.1 hy
    have exy : x = y := by
      rcases List.mem_cons.1 ((h x).1 (by simp)) with e | m
      · exact e
      · rcases List.mem_cons.1 ((h y).2 (by simp)) with e | m'
        · exact e.symm
        · have a1 := hy1 x m
          have a2 := hx1 y m'
          have := cmpL_neg x y
          omega
    subst exy
    have irr : ∀ {zs : List (List Int)}, (∀ z ∈ zs, cmpL x z < 0) → x ∉ zs := fun hz hm => by
      have := hz x hm
      rw [cmpL_zero.2 rfl] at this
      omega
    rw [sos_ext hx2 hy2 fun z => ⟨fun m => by
      rcases List.mem_cons.1 ((h z).1 (List.mem_cons_of_mem _ m)) with e | m'
      · subst e; exact absurd m (irr hx1)
      · exact m', fun m => by
      rcases List.mem_cons.1 ((h z).2 (List.mem_cons_of_mem _ m)) with e | m'
      · subst e; exact absurd m (irr hy1)
      · exact m'⟩]

/-- Insertion without repetition. -/
def insL (f : List Int) : List (List Int) → List (List Int)
  | [] => [f]
  | x :: xs => if f = x then x :: xs else if cmpL f x < 0 then f :: x :: xs else x :: insL f xs
theorem insL_mem (f : List Int) : ∀ (xs : List (List Int)) (z : List Int), z ∈ insL f xs ↔ z = f ∨ z ∈ xs
  | [], z => by simp [insL]
  | x :: xs, z => by
    unfold insL
    by_cases e : f = x
    · subst e
      rw [if_pos rfl]
      simp
    · rw [if_neg e]
      by_cases h : cmpL f x < 0
      · rw [if_pos h]; simp
      · rw [if_neg h]
        simp only [List.mem_cons, insL_mem f xs z]
        constructor
        · rintro (h | h | h)
          · exact .inr (.inl h)
          · exact .inl h
          · exact .inr (.inr h)
        · rintro (h | h | h)
          · exact .inr (.inl h)
          · exact .inl h
          · exact .inr (.inr h)
theorem insL_sos (f : List Int) : ∀ (xs : List (List Int)), SoS xs → SoS (insL f xs)
  | [], _ => by simp [insL, SoS]
  | x :: xs, h => by
    obtain ⟨h1, h2⟩ := List.pairwise_cons.1 h
    unfold insL
    by_cases e : f = x
    · rw [if_pos e]; exact h
    · rw [if_neg e]
      by_cases hlt : cmpL f x < 0
      · rw [if_pos hlt]
        refine List.pairwise_cons.2 ⟨fun z hz => ?_, h⟩
        rcases List.mem_cons.1 hz with rfl | hz
        · exact hlt
        · exact cmpL_trans hlt (h1 z hz)
      · rw [if_neg hlt]
        refine List.pairwise_cons.2 ⟨fun z hz => ?_, insL_sos f xs h2⟩
        rcases (insL_mem f xs z).1 hz with rfl | hz
        · have h0 : ¬ cmpL z x = 0 := fun e0 => e (cmpL_zero.1 e0)
          have := cmpL_neg x z
          omega
        · exact h1 z hz

/-- Equal neighbours struck. -/
def cmpctL : List (List Int) → List (List Int)
  | [] => []
  | [x] => [x]
  | x :: y :: r => if x = y then cmpctL (y :: r) else x :: cmpctL (y :: r)
theorem cmpct_mem : ∀ (xs : List (List Int)) (z : List Int), z ∈ cmpctL xs ↔ z ∈ xs
  | [], z => by simp [cmpctL]
  | [x], z => by simp [cmpctL]
  | x :: y :: r, z => by
    unfold cmpctL
    have ih := cmpct_mem (y :: r) z
    by_cases e : x = y
    · rw [if_pos e, ih, e]
      simp
    · rw [if_neg e, List.mem_cons, ih, List.mem_cons (a := z) (b := x)]
theorem cmpct_sos : ∀ (xs : List (List Int)), SoL xs → SoS (cmpctL xs)
  | [], _ => by simp [cmpctL, SoS]
  | [x], _ => by simp [cmpctL, SoS]
  | x :: y :: r, h => by
    obtain ⟨h1, h2⟩ := List.pairwise_cons.1 h
    have ih := cmpct_sos (y :: r) h2
    unfold cmpctL
    by_cases e : x = y
    · rw [if_pos e]; exact ih
    · rw [if_neg e]
      refine List.pairwise_cons.2 ⟨fun z hz => ?_, ih⟩
      have hxy : cmpL x y < 0 := by
        have l1 := h1 y (by simp)
        have l2 : ¬ cmpL x y = 0 := fun e0 => e (cmpL_zero.1 e0)
        omega
      rcases List.mem_cons.1 ((cmpct_mem (y :: r) z).1 hz) with rfl | hm
      · exact hxy
      · have l3 := (List.pairwise_cons.1 h2).1 z hm
        by_cases e3 : cmpL y z = 0
        · rw [← cmpL_zero.1 e3]; exact hxy
        · exact cmpL_trans hxy (by omega)
/-- Sorted and struck, or inserted one by one: the same list. -/
theorem sub_same {ps qs : List (List Int)} (hp : qs.Perm ps) (hs : SoL qs) : cmpctL qs = ps.foldl (fun l f => insL f l) [] := by
  have hfold : ∀ (xs acc : List (List Int)), SoS acc → SoS (xs.foldl (fun l f => insL f l) acc) ∧ ∀ z, z ∈ xs.foldl (fun l f => insL f l) acc ↔ z ∈ xs ∨ z ∈ acc := by
    intro xs
    induction xs with
    | nil => intro acc h; exact ⟨h, by simp⟩
    | cons x xs ih =>
      intro acc h
      obtain ⟨i1, i2⟩ := ih (insL x acc) (insL_sos x acc h)
      refine ⟨i1, fun z => ?_⟩
      rw [List.foldl_cons, i2, insL_mem, List.mem_cons]
      constructor
      · rintro (h | h | h)
        · exact .inl (.inr h)
        · exact .inl (.inl h)
        · exact .inr h
      · rintro ((h | h) | h)
        · exact .inr (.inl h)
        · exact .inl h
        · exact .inr (.inr h)
  obtain ⟨f1, f2⟩ := hfold ps [] (by simp [SoS])
  refine sos_ext (cmpct_sos qs hs) f1 fun z => ?_
  rw [cmpct_mem, f2, hp.mem_iff]
  simp

/-- A part put in at place p. -/
def insAt (qs : List (List Int)) (p : Nat) (q : List Int) : List (List Int) := qs.take p ++ q :: qs.drop p
def insH (hs : Nat → Option Addr × Nat) (p : Nat) (x : Option Addr × Nat) : Nat → Option Addr × Nat := fun i => if i < p then hs i else if i = p then x else hs (i - 1)
theorem insAt_len {qs : List (List Int)} {p : Nat} (h : p ≤ qs.length) (q : List Int) : (insAt qs p q).length = qs.length + 1 := by
  unfold insAt; rw [List.length_append, List.length_take, List.length_cons, List.length_drop]; omega
theorem insAt_get {qs : List (List Int)} {p : Nat} (h : p ≤ qs.length) (q : List Int) (i : Nat) : (insAt qs p q).getD i [] = if i < p then qs.getD i [] else if i = p then q else qs.getD (i - 1) [] := by
  unfold insAt
  have hl : (qs.take p).length = p := by rw [List.length_take]; omega
  simp only [List.getD_eq_getElem?_getD]
  by_cases h1 : i < p
  · rw [if_pos h1, List.getElem?_append_left (by omega), List.getElem?_take_of_lt h1]
  · rw [if_neg h1, List.getElem?_append_right (by omega), hl]
    by_cases h2 : i = p
    · subst h2; rw [if_pos rfl, Nat.sub_self]; rfl
    · rw [if_neg h2]
      obtain ⟨k, hk⟩ : ∃ k, i - p = k + 1 := ⟨i - p - 1, by omega⟩
      rw [hk, List.getElem?_cons_succ, List.getElem?_drop]
      have e : p + k = i - 1 := by omega
      rw [e]
theorem insH_hv {hs : Nat → Option Addr × Nat} {qs : List (List Int)} {p : Nat} (h : p ≤ qs.length) (q : List Int) (x : Option Addr × Nat) (i : Nat) :
    hv (insH hs p x) (insAt qs p q) i = if i < p then hv hs qs i else if i = p then .slice x.1 q.length x.2 else hv hs qs (i - 1) := by
  unfold hv insH
  rw [insAt_get h]
  by_cases h1 : i < p
  · simp only [if_pos h1]
  · by_cases h2 : i = p
    · simp only [if_neg h1, if_pos h2]
    · simp only [if_neg h1, if_neg h2]
theorem rowV_ins {hs : Nat → Option Addr × Nat} {qs : List (List Int)} {p : Nat} (h : p ≤ qs.length) (q : List Int) (x : Option Addr × Nat) : rowV (insH hs p x) (insAt qs p q) = (rowV hs qs).take p ++ .slice x.1 q.length x.2 :: (rowV hs qs).drop p := by
  have hl : ((rowV hs qs).take p).length = p := by rw [List.length_take, rowV_len]; omega
  apply List.ext_getElem?
  intro i
  by_cases hi : i < qs.length + 1
  · rw [rowV_at (by rw [insAt_len h]; exact hi), insH_hv h]
    by_cases h1 : i < p
    · rw [if_pos h1, List.getElem?_append_left (by omega), List.getElem?_take_of_lt h1, rowV_at (by omega)]
    · rw [if_neg h1, List.getElem?_append_right (by omega), hl]
      by_cases h2 : i = p
      · subst h2; rw [if_pos rfl, Nat.sub_self]; rfl
      · rw [if_neg h2]
        obtain ⟨k, hk⟩ : ∃ k, i - p = k + 1 := ⟨i - p - 1, by omega⟩
        have e : p + k = i - 1 := by omega
        rw [hk, List.getElem?_cons_succ, List.getElem?_drop, e, rowV_at (by omega)]
  · rw [List.getElem?_eq_none (by rw [rowV_len, insAt_len h]; omega), List.getElem?_eq_none (by rw [List.length_append, hl, List.length_cons, List.length_drop, rowV_len]; omega)]

/-- A row of the same parts and one more, in a block of its own. -/
theorem OwnQ.insert {w w' : World} {lo hi p c' : Nat} {v v' : Value} {a : Option Addr} {hs : Nat → Option Addr × Nat} {qs : List (List Int)} {q : List Int} (h : OwnQ w lo hi v hs qs) (hp : p ≤ qs.length) (hlo : lo ≤ w.heap.size)
    (hq : w.ownsRow lo 2 1 (.slice a q.length c') q.length (q.map (Value.int .i64))) (hge : ∀ b, (Value.slice a q.length c').ownBlock = some b → hi ≤ b) (hb : Below w.heap.size w w')
    (ho : w'.ownsRow w.heap.size 22 1 v' (qs.length + 1) ((rowV hs qs).take p ++ .slice a q.length c' :: (rowV hs qs).drop p)) :
    OwnQ w' lo w'.heap.size v' (insH hs p (a, c')) (insAt qs p q) := by
  have hv1 := insH_hv (hs := hs) hp q (a, c')
  have hold : ∀ i, i < qs.length → ∀ b, (hv hs qs i).ownBlock = some b → b < w.heap.size ∧ b < hi := fun i hi b e => ⟨h.lt hi e, h.top i b hi e⟩
  have hnew : ∀ b, (Value.slice a q.length c').ownBlock = some b → b < w.heap.size ∧ hi ≤ b := fun b e => ⟨(hq.lt b e).2, hge b e⟩
  have hall : ∀ i, i < qs.length + 1 → ∀ b, (hv (insH hs p (a, c')) (insAt qs p q) i).ownBlock = some b → b < w.heap.size := by
    intro i hi b e
    rw [hv1] at e
    by_cases h1 : i < p
    · rw [if_pos h1] at e; exact (hold i (by omega) b e).1
    · rw [if_neg h1] at e
      by_cases h2 : i = p
      · rw [if_pos h2] at e; exact (hnew b e).1
      · rw [if_neg h2] at e; exact (hold (i - 1) (by omega) b e).1
  refine ⟨?_, fun i hi => ?_, fun i j hi hj hij => ?_, fun i hi => ?_, fun k e => (ho.lt k e).2, fun i k hi e => ?_⟩
  · rw [insAt_len hp, rowV_ins hp]; exact ho.mono hlo
  · rw [insAt_len hp] at hi
    rw [hv1, insAt_get hp]
    by_cases h1 : i < p
    · rw [if_pos h1, if_pos h1]
      exact own_same (h.inner i (by omega)) fun k e => hb.block k (hold i (by omega) k e).1
    · rw [if_neg h1, if_neg h1]
      by_cases h2 : i = p
      · rw [if_pos h2, if_pos h2]
        exact own_same hq fun k e => hb.block k (hnew k e).1
      · rw [if_neg h2, if_neg h2]
        exact own_same (h.inner (i - 1) (by omega)) fun k e => hb.block k (hold (i - 1) (by omega) k e).1
  · rw [insAt_len hp] at hi hj
    have mix : ∀ k, k < qs.length → (hv hs qs k).ownBlock = none ∨ (hv hs qs k).ownBlock ≠ (Value.slice a q.length c').ownBlock := by
      intro k hk
      cases e : (hv hs qs k).ownBlock with
      | none => exact .inl rfl
      | some b =>
        right
        intro e'
        have h1 := (hold k hk b e).2
        have h2 := (hnew b e'.symm).2
        omega
    have mix' : ∀ k, k < qs.length → (Value.slice a q.length c').ownBlock = none ∨ (Value.slice a q.length c').ownBlock ≠ (hv hs qs k).ownBlock := by
      intro k hk
      cases e : (Value.slice a q.length c').ownBlock with
      | none => exact .inl rfl
      | some b =>
        right
        intro e'
        have h1 := (hold k hk b e'.symm).2
        have h2 := (hnew b e).2
        omega
    rw [hv1, hv1]
    by_cases i1 : i < p
    · rw [if_pos i1]
      by_cases j1 : j < p
      · rw [if_pos j1]; exact h.apart i j (by omega) (by omega) hij
      · rw [if_neg j1]
        by_cases j2 : j = p
        · rw [if_pos j2]; exact mix i (by omega)
        · rw [if_neg j2]; exact h.apart i (j - 1) (by omega) (by omega) (by omega)
    · rw [if_neg i1]
      by_cases i2 : i = p
      · rw [if_pos i2]
        by_cases j1 : j < p
        · rw [if_pos j1]; exact mix' j (by omega)
        · rw [if_neg j1, if_neg (by omega)]; exact mix' (j - 1) (by omega)
      · rw [if_neg i2]
        by_cases j1 : j < p
        · rw [if_pos j1]; exact h.apart (i - 1) j (by omega) (by omega) (by omega)
        · rw [if_neg j1]
          by_cases j2 : j = p
          · rw [if_pos j2]; exact mix (i - 1) (by omega)
          · rw [if_neg j2]; exact h.apart (i - 1) (j - 1) (by omega) (by omega) (by omega)
  · rw [insAt_len hp] at hi
    cases e : (hv (insH hs p (a, c')) (insAt qs p q) i).ownBlock with
    | none => exact .inl rfl
    | some b =>
      right
      intro e'
      have h1 := hall i hi b e
      have h2 := (ho.lt b e'.symm).1
      omega
  · rw [insAt_len hp] at hi
    have h1 := hall i hi k e
    have := hb.size
    omega

/-- Ahead of it in the order, or not. -/
theorem ins_same {f : List Int} : ∀ {qs : List (List Int)} {i : Nat}, i < qs.length → (∀ j, j < i → f ≠ qs.getD j [] ∧ ¬ cmpL f (qs.getD j []) < 0) → f = qs.getD i [] → insL f qs = qs
  | [], i, hi, _, _ => by simp at hi
  | x :: xs, 0, _, _, e => by
    have e' : f = x := by simpa [List.getD] using e
    unfold insL; rw [if_pos e']
  | x :: xs, i + 1, hi, h, e => by
    have h0 := h 0 (by omega)
    have h0' : f ≠ x ∧ ¬ cmpL f x < 0 := by simpa [List.getD] using h0
    unfold insL
    rw [if_neg h0'.1, if_neg h0'.2, ins_same (i := i) (by simpa using hi) (fun j hj => by simpa [List.getD] using h (j + 1) (by omega)) (by simpa [List.getD] using e)]
theorem ins_at {f : List Int} : ∀ {qs : List (List Int)} {p : Nat}, p ≤ qs.length → (∀ j, j < p → f ≠ qs.getD j [] ∧ ¬ cmpL f (qs.getD j []) < 0) → (p = qs.length ∨ (f ≠ qs.getD p [] ∧ cmpL f (qs.getD p []) < 0)) → insL f qs = insAt qs p f
  | [], p, hp, _, _ => by
    obtain rfl : p = 0 := by simpa using hp
    rfl
  | x :: xs, 0, _, _, e => by
    have e' : f ≠ x ∧ cmpL f x < 0 := by
      rcases e with e | e
      · simp at e
      · simpa [List.getD] using e
    unfold insL; rw [if_neg e'.1, if_pos e'.2]; rfl
  | x :: xs, p + 1, hp, h, e => by
    have h0 := h 0 (by omega)
    have h0' : f ≠ x ∧ ¬ cmpL f x < 0 := by simpa [List.getD] using h0
    have ih := ins_at (f := f) (qs := xs) (p := p) (by simpa using hp) (fun j hj => by simpa [List.getD] using h (j + 1) (by omega)) (by
      rcases e with e | e
      · exact .inl (by simpa using e)
      · exact .inr (by simpa [List.getD] using e))
    unfold insL
    rw [if_neg h0'.1, if_neg h0'.2, ih]
    rfl
theorem sos_get {qs : List (List Int)} (h : SoS qs) {i j : Nat} (hij : i < j) (hj : j < qs.length) : cmpL (qs.getD i []) (qs.getD j []) < 0 := by
  have := List.pairwise_iff_getElem.1 h i j (by omega) hj hij
  simpa [List.getD, hj, show i < qs.length by omega] using this

/-- An append of one header to a row in a slot: what it asks, and what it leaves. -/
theorem app_in {wr : World} {lo m c2 : Nat} {A2 : Option Addr} {vals : List Value} (own : wr.ownsRow lo 22 1 (.slice A2 m c2) m vals) (hlo : lo ≤ wr.heap.size) (x : Value) :
    (wr.alloc (.cells #[x] 22)).ownsRow lo 22 1 (.slice A2 m c2) m vals ∧ (∀ j u, [x][j]? = some u → (wr.alloc (.cells #[x] 22)).cell? ((⟨wr.heap.size, 0, none⟩ : Addr).add j) = some u) ∧ lo ≤ (wr.alloc (.cells #[x] 22)).heap.size :=
  ⟨own.alloc _, World.news_of_block (heap_alloc_new wr (.cells #[x] 22)), by simp; omega⟩
theorem app_out {w wr w' : World} {lo m c2 : Nat} {A2 : Option Addr} {vals : List Value} {x : Value} (own : wr.ownsRow lo 22 1 (.slice A2 m c2) m vals) (hb : Below lo w wr) (hlo : lo ≤ wr.heap.size) (hg : (wr.alloc (.cells #[x] 22)).grownBy w' (Value.slice A2 m c2).ownBlock) : Below lo w w' :=
  (hb.alloc hlo _).grown hg (by simp; omega) fun q e => (own.lt q e).1
end
section
open Go.ChangeShapes Go.WideShapes Go.ChangeAt Go.RowKit

/-- The parts at the places sel. -/
def selQ (qs : List (List Int)) (sel : List Nat) : List (List Int) := sel.map fun i => qs.getD i []
def selH (hs : Nat → Option Addr × Nat) (sel : List Nat) : Nat → Option Addr × Nat := fun j => hs (sel.getD j 0)
theorem selQ_len (qs : List (List Int)) (sel : List Nat) : (selQ qs sel).length = sel.length := List.length_map _
theorem selQ_get {qs : List (List Int)} {sel : List Nat} {j : Nat} (h : j < sel.length) : (selQ qs sel).getD j [] = qs.getD (sel.getD j 0) [] := by
  simp [selQ, List.getD, h]
theorem sel_hv {hs : Nat → Option Addr × Nat} {qs : List (List Int)} {sel : List Nat} {j : Nat} (h : j < sel.length) : hv (selH hs sel) (selQ qs sel) j = hv hs qs (sel.getD j 0) := by
  unfold hv selH
  rw [selQ_get h]
theorem sel_row (hs : Nat → Option Addr × Nat) (qs : List (List Int)) (sel : List Nat) : rowV (selH hs sel) (selQ qs sel) = sel.map (hv hs qs) := by
  apply List.ext_getElem?
  intro j
  by_cases hj : j < sel.length
  · rw [rowV_at (by rw [selQ_len]; exact hj), sel_hv hj]
    simp [List.getD, hj]
  · rw [List.getElem?_eq_none (by rw [rowV_len, selQ_len]; omega), List.getElem?_eq_none (by simp; omega)]
theorem OwnQ.select {w w' : World} {lo hi : Nat} {v v' : Value} {hs : Nat → Option Addr × Nat} {qs : List (List Int)} {sel : List Nat} (h : OwnQ w lo hi v hs qs) (hlt : ∀ i ∈ sel, i < qs.length) (hnd : sel.Nodup)
    (hb : v'.ownBlock = v.ownBlock) (hk : ∀ k, some k ≠ v.ownBlock → k < w.heap.size → w'.heap[k]? = w.heap[k]?) (ho : w'.ownsRow lo 22 1 v' sel.length (sel.map (hv hs qs))) :
    OwnQ w' lo hi v' (selH hs sel) (selQ qs sel) := by
  have hm : ∀ j, j < sel.length → sel.getD j 0 < qs.length := fun j hj => hlt _ (by simp [List.getD, hj])
  have hinj : ∀ i j, i < sel.length → j < sel.length → i ≠ j → sel.getD i 0 ≠ sel.getD j 0 := by
    intro i j hi hj hij e
    have e' : sel[i] = sel[j] := by simpa [List.getD, hi, hj] using e
    exact hij ((List.getElem_inj hnd).1 e')
  refine ⟨?_, fun j hj => ?_, fun i j hi hj hij => ?_, fun j hj => ?_, fun k e => h.top0 k (hb ▸ e), fun j k hj e => ?_⟩
  · rw [selQ_len, sel_row]; exact ho
  · rw [selQ_len] at hj
    rw [sel_hv hj, selQ_get hj]
    refine own_same (h.inner _ (hm j hj)) fun k e => hk k (fun e' => ?_) (h.lt (hm j hj) e)
    rcases h.apart0 _ (hm j hj) with h0 | h0
    · rw [h0] at e; cases e
    · exact h0 (e.trans e')
  · rw [selQ_len] at hi hj
    rw [sel_hv hi, sel_hv hj]
    exact h.apart _ _ (hm i hi) (hm j hj) (hinj i j hi hj hij)
  · rw [selQ_len] at hj
    rw [sel_hv hj, hb]
    exact h.apart0 _ (hm j hj)
  · rw [selQ_len] at hj
    rw [sel_hv hj] at e
    exact h.top _ k (hm j hj) e
/-- A permutation of a mapped list is the map of a permutation. -/
theorem perm_map {α β : Type} {f : α → β} {l : List β} {m : List α} (h : l.Perm (m.map f)) : ∃ m' : List α, m'.Perm m ∧ l = m'.map f := by
  generalize hx : m.map f = x at h
  induction h generalizing m with
  | nil => 
    have : m = [] := List.map_eq_nil_iff.1 hx
    subst this
    exact ⟨[], .refl _, rfl⟩
  | cons a _ ih =>
    obtain ⟨b, t, rfl, rfl, ht⟩ := List.map_eq_cons_iff.1 hx
    obtain ⟨t', h1, h2⟩ := ih ht
    exact ⟨b :: t', h1.cons b, by rw [h2]; rfl⟩
  | swap a b l =>
    obtain ⟨c, t, rfl, rfl, ht⟩ := List.map_eq_cons_iff.1 hx
    obtain ⟨d, u, rfl, rfl, rfl⟩ := List.map_eq_cons_iff.1 ht
    exact ⟨d :: c :: u, .swap _ _ _, rfl⟩
  | trans _ _ ih1 ih2 =>
    obtain ⟨m1, h1, h2⟩ := ih2 hx
    obtain ⟨m2, h3, h4⟩ := ih1 h2.symm
    exact ⟨m2, h3.trans h1, h4⟩
end
section
open Go.ChangeShapes Go.WideShapes Go.ChangeAt Go.RowKit

/-- The places below i that are kept: each that differs from the one before it. -/
def kp (qs : List (List Int)) : Nat → List Nat
  | 0 => []
  | i + 1 => if i = 0 ∨ qs.getD i [] ≠ qs.getD (i - 1) [] then kp qs i ++ [i] else kp qs i
theorem kp_keep {qs : List (List Int)} {i : Nat} (h : i = 0 ∨ qs.getD i [] ≠ qs.getD (i - 1) []) : kp qs (i + 1) = kp qs i ++ [i] := by rw [kp, if_pos h]
theorem kp_drop {qs : List (List Int)} {i : Nat} (h0 : i ≠ 0) (h : qs.getD i [] = qs.getD (i - 1) []) : kp qs (i + 1) = kp qs i := by
  rw [kp, if_neg (by rintro (e | e); exact h0 e; exact e h)]
theorem kp_lt (qs : List (List Int)) : ∀ i, ∀ j ∈ kp qs i, j < i
  | 0 => by simp [kp]
  | i + 1 => by
    intro j hj
    by_cases h : i = 0 ∨ qs.getD i [] ≠ qs.getD (i - 1) []
    · rw [kp_keep h] at hj
      rcases List.mem_append.1 hj with hj | hj
      · have := kp_lt qs i j hj; omega
      · have : j = i := by simpa using hj
        omega
    · rw [kp, if_neg h] at hj
      have := kp_lt qs i j hj; omega
theorem kp_nd (qs : List (List Int)) : ∀ i, (kp qs i).Nodup
  | 0 => by simp [kp]
  | i + 1 => by
    by_cases h : i = 0 ∨ qs.getD i [] ≠ qs.getD (i - 1) []
    · rw [kp_keep h, List.nodup_append]
      refine ⟨kp_nd qs i, by simp, fun a ha b hb => ?_⟩
      have h1 := kp_lt qs i a ha
      have : b = i := by simpa using hb
      omega
    · rw [kp, if_neg h]; exact kp_nd qs i
theorem kp_len (qs : List (List Int)) : ∀ i, (kp qs i).length ≤ i
  | 0 => by simp [kp]
  | i + 1 => by
    have ih := kp_len qs i
    by_cases h : i = 0 ∨ qs.getD i [] ≠ qs.getD (i - 1) []
    · rw [kp_keep h, List.length_append]; simp; omega
    · rw [kp, if_neg h]; omega
theorem cmpct_snoc : ∀ (xs : List (List Int)) (y z : List Int), xs.getLast? = some z → cmpctL (xs ++ [y]) = if z = y then cmpctL xs else cmpctL xs ++ [y]
  | [], _, _, h => by simp at h
  | [x], y, z, h => by
    obtain rfl : x = z := by simpa using h
    simp only [List.cons_append, List.nil_append, cmpctL]
    by_cases e : x = y
    · rw [if_pos e, if_pos e, e]
    · rw [if_neg e, if_neg e]
  | x :: x' :: r, y, z, h => by
    have ih := cmpct_snoc (x' :: r) y z (by simpa [List.getLast?_cons_cons] using h)
    simp only [List.cons_append] at ih ⊢
    by_cases e : x = x'
    · rw [cmpctL, if_pos e, cmpctL, if_pos e]; exact ih
    · rw [cmpctL, if_neg e, ih, cmpctL, if_neg e]
      by_cases e2 : z = y
      · rw [if_pos e2, if_pos e2]
      · rw [if_neg e2, if_neg e2]; rfl
theorem cmpct_kp (qs : List (List Int)) : ∀ i, i ≤ qs.length → cmpctL (qs.take i) = selQ qs (kp qs i)
  | 0, _ => by simp [cmpctL, kp, selQ]
  | i + 1, h => by
    have ih := cmpct_kp qs i (by omega)
    have hi : i < qs.length := by omega
    have e3 : qs.getD i [] = qs[i] := by simp [List.getD, hi]
    rw [List.take_succ_eq_append_getElem hi, ← e3]
    by_cases h0 : i = 0
    · subst h0
      rw [kp_keep (.inl rfl)]
      simp [cmpctL, kp, selQ]
    · have hl : (qs.take i).getLast? = some (qs.getD (i - 1) []) := by
        rw [List.getLast?_eq_getElem?, List.length_take, Nat.min_eq_left (by omega), List.getElem?_take_of_lt (by omega), List.getElem?_eq_getElem (by omega)]
        simp [List.getD, show i - 1 < qs.length by omega]
      rw [cmpct_snoc _ _ _ hl]
      by_cases e : qs.getD i [] = qs.getD (i - 1) []
      · rw [if_pos e.symm, kp_drop h0 e]; exact ih
      · rw [if_neg (fun x => e x.symm), kp_keep (.inr e), ih]
        simp [selQ]
theorem range_kp {qs : List (List Int)} {i : Nat} (h : kp qs i = List.range i) (hd : i = 0 ∨ qs.getD i [] ≠ qs.getD (i - 1) []) : kp qs (i + 1) = List.range (i + 1) := by
  rw [kp_keep hd, h, List.range_succ]
theorem own_setCells {g lo n cap : Nat} {e : TypeId} : ∀ (vs : List Value) (o : Nat) (w : World) (xs : List Value), w.ownsRow lo e 1 (.slice (some ⟨g, 0, none⟩) n cap) n xs →
    ∃ xs', (w.setCells g o vs).ownsRow lo e 1 (.slice (some ⟨g, 0, none⟩) n cap) n xs' ∧ xs'.take o = xs.take o ∧ w.grownBy (w.setCells g o vs) (some g)
  | [], o, w, xs, h => ⟨xs, h, rfl, World.grownBy.refl w _⟩
  | v :: vs, o, w, xs, h => by
    obtain ⟨h1, h2⟩ := h.stored o v
    obtain ⟨xs', h3, h4, h5⟩ := own_setCells vs (o + 1) (w.setCell ⟨g, o, none⟩ v) (xs.set o v) h1
    refine ⟨xs', h3, ?_, grownBy_trans h2 h5⟩
    have e1 := congrArg (List.take o) h4
    rw [List.take_take, List.take_take, Nat.min_eq_left (by omega)] at e1
    rw [e1, List.take_set_of_le (Nat.le_refl o)]
end
section
open Go.Shelf Go.RowKit Go.Lib Go.Sort

/-- A slice that reads as a list, none of whose cells lies in block blk. -/
def Hdr (w : World) (blk : Nat) : Type :=
  { p : (Option Addr × Nat) × List Int // RdI w w.heap.size p.1.1 p.2.length p.2 ∧ (∀ b off s, p.1.1 = some ⟨b, off, s⟩ → b ≠ blk) ∧ p.2.length ≤ 1048576 }
instance (w : World) (blk : Nat) : Inhabited (Hdr w blk) :=
  ⟨⟨((none, 0), []), ⟨rfl, fun h => absurd h (by simp)⟩, (fun _ _ _ h => by cases h), by simp⟩⟩
/-- The list that it reads as. -/
def Hdr.list {w : World} {blk : Nat} (x : Hdr w blk) : List Int := x.1.2
/-- The value in the row. -/
def Hdr.enc {w : World} {blk : Nat} (x : Hdr w blk) : Value := .slice x.1.1.1 x.1.2.length x.1.1.2
/-- The comparison. -/
def Hdr.cmp {w : World} {blk : Nat} (x y : Hdr w blk) : Int := cmpL x.list y.list

theorem Hdr.one {w : World} {blk : Nat} : OneCell (Hdr.enc (w := w) (blk := blk)) := fun _ => rfl
theorem Hdr.swo {w : World} {blk : Nat} : SWO (ltOf (Hdr.cmp (w := w) (blk := blk))) where
  irrefl x := by
    have : cmpL x.list x.list = 0 := cmpL_zero.2 rfl
    exact decide_eq_false (by unfold Hdr.cmp; omega)
  trans x y z h h' := by
    have h1 := of_decide_eq_true h
    have h2 := of_decide_eq_true h'
    exact decide_eq_true (cmpL_trans h1 h2)
  ntrans x y z h h' := by
    have h1 := of_decide_eq_false h
    have h2 := of_decide_eq_false h'
    refine decide_eq_false fun h3 => ?_
    unfold Hdr.cmp at h1 h2 h3
    have n2 := cmpL_neg y.list z.list
    by_cases e : cmpL z.list y.list = 0
    · rw [cmpL_zero.1 e] at h3; exact h1 h3
    · exact h1 (cmpL_trans h3 (by omega))
theorem sorted_far {α : Type} [Inhabited α] (enc : α → Value) (w : World) (blk off m : Nat) (dk : Array α) (os : Array Obj) {p : Addr} (hp : p.block ≠ blk) (hl : p.block < w.heap.size) : (sortWorld enc w blk off m dk os).cell? p = w.cell? p := by
  have hs : (putRow enc (Sort.ahead w m) blk off dk).heap.size = w.heap.size := by simp [putRow, mapBlock, Sort.ahead]
  exact (cell?_grow _ os p (by rw [hs]; exact hl)).trans (cell?_putRow_other enc (Sort.ahead w m) blk off dk p (.inl hp))
theorem Hdr.reads {w : World} {blk : Nat} (x : Hdr w blk) (off m : Nat) (dk : Array (Hdr w blk)) (os : Array Obj) : RdI (sortWorld Hdr.enc w blk off m dk os) w.heap.size x.1.1.1 x.1.2.length x.1.2 := by
  obtain ⟨⟨h1, h2⟩, h3, _⟩ := x.2
  refine ⟨h1, fun hn => ?_⟩
  obtain ⟨b, o, hA, hb, hc⟩ := h2 hn
  refine ⟨b, o, hA, hb, fun j hj => ?_⟩
  rw [sorted_far Hdr.enc w blk off m dk os (p := ⟨b, o + j, none⟩) (h3 _ _ _ hA) hb]
  exact hc j hj
theorem Hdr.lays (w : World) (blk off size : Nat) : CmpLays1 Tryd.prog 33 #[] (Hdr.enc (w := w) (blk := blk)) Hdr.cmp blk off size w := by
  intro m os dk _ x y
  rw [Array.append_empty]
  refine (compareForms_any x.1.1.1 y.1.1.1 _ _ x.1.1.2 y.1.1.2 x.1.2 y.1.2 _ _ _ (x.reads off m dk os) (y.reads off m dk os) x.2.2.2 y.2.2.2).mono ?_
  rintro e w' ⟨rfl, rfl⟩
  exact ⟨rfl, 0, _, alloc_eq_grow _ _⟩
end
section
open Go.Shelf Go.RowKit Go.Lib Go.Sort

/-- The row holds a permutation of what it held, sorted. -/
theorem sortFunc_any (blk cap : Nat) (w : World) (d : Array (Hdr w blk)) (hH : Holds Hdr.enc w blk 0 d) (hblk : blk < w.heap.size) (hsz : d.size < 4611686018427387904) :
    Calls Tryd.prog 32 #[.slice (some ⟨blk, 0, none⟩) d.size cap, .func (.func 33) #[] #[]] w fun e w' =>
      e = .returned (.tuple #[]) ∧ ∃ d' n os, PermIn 0 d.size d d' ∧ SortedIn (ltOf Hdr.cmp) 0 d.size d' ∧ w' = sortWorld Hdr.enc w blk 0 n d' os := by
  have eg : ∀ args w, (callFunc 33 args).run Tryd.prog w = .ok (.enter 33 args) w := enters_of Tryd.func33 (by kernel_rfl) rfl
  have h := Any.slices_SortFunc Tryd.sortF (Hdr.enc (w := w) (blk := blk)) Hdr.one Hdr.cmp Hdr.swo 33 #[] blk 0 cap d w eg (Hdr.lays w blk 0 d.size) hH hblk hsz
  exact h
end
section
open Go.ChangeShapes Go.WideShapes Go.ChangeAt Go.RowKit Go.Shelf Go.Lib Go.Sort

theorem hdr_ok {w : World} {lo hi n c g : Nat} {hs : Nat → Option Addr × Nat} {qs : List (List Int)} (h : OwnQ w lo hi (.slice (some ⟨g, 0, none⟩) n c) hs qs) (hl : ∀ q ∈ qs, q.length ≤ 1048576) {i : Nat} (hi' : i < qs.length) :
    RdI w w.heap.size (hs i).1 (qs.getD i []).length (qs.getD i []) ∧ (∀ b off s, (hs i).1 = some ⟨b, off, s⟩ → b ≠ g) ∧ (qs.getD i []).length ≤ 1048576 := by
  refine ⟨RdI.of_own (h.inner i hi'), fun b off s e e' => ?_, hl _ (getD_mem hi')⟩
  subst e'
  have e1 : (hv hs qs i).ownBlock = some b := by unfold hv; rw [e]; rfl
  rcases h.apart0 i hi' with h0 | h0
  · rw [h0] at e1; cases e1
  · exact h0 e1
def hd1 {w : World} {lo hi n c g : Nat} {hs : Nat → Option Addr × Nat} {qs : List (List Int)} (h : OwnQ w lo hi (.slice (some ⟨g, 0, none⟩) n c) hs qs) (hl : ∀ q ∈ qs, q.length ≤ 1048576) {i : Nat} (hi' : i < qs.length) : Hdr w g := ⟨(((hs i).1, (hs i).2), qs.getD i []), hdr_ok h hl hi'⟩
/-- The header of part i, as the sort takes it. -/
noncomputable def mkH {w : World} {lo hi n c g : Nat} {hs : Nat → Option Addr × Nat} {qs : List (List Int)} (h : OwnQ w lo hi (.slice (some ⟨g, 0, none⟩) n c) hs qs) (hl : ∀ q ∈ qs, q.length ≤ 1048576) (i : Nat) : Hdr w g :=
  if hi' : i < qs.length then hd1 h hl hi' else default
theorem mkH_enc {w : World} {lo hi n c g : Nat} {hs : Nat → Option Addr × Nat} {qs : List (List Int)} (h : OwnQ w lo hi (.slice (some ⟨g, 0, none⟩) n c) hs qs) (hl : ∀ q ∈ qs, q.length ≤ 1048576) {i : Nat} (hi' : i < qs.length) : (mkH h hl i).enc = hv hs qs i := by
  unfold mkH; rw [dif_pos hi']; rfl
theorem mkH_list {w : World} {lo hi n c g : Nat} {hs : Nat → Option Addr × Nat} {qs : List (List Int)} (h : OwnQ w lo hi (.slice (some ⟨g, 0, none⟩) n c) hs qs) (hl : ∀ q ∈ qs, q.length ≤ 1048576) {i : Nat} (hi' : i < qs.length) : (mkH h hl i).list = qs.getD i [] := by
  unfold mkH; rw [dif_pos hi']; rfl

/-- The row is sorted in place: its headers stand in the order of their lists. -/
theorem sortQ_any {w : World} {lo hi n c g : Nat} {hs : Nat → Option Addr × Nat} {qs : List (List Int)} (h : OwnQ w lo hi (.slice (some ⟨g, 0, none⟩) n c) hs qs) (hn : qs.length = n) (hn1 : n ≤ 1000) (hl : ∀ q ∈ qs, q.length ≤ 1048576) :
    Calls Tryd.prog 32 #[.slice (some ⟨g, 0, none⟩) n c, .func (.func 33) #[] #[]] w fun e w' => e = .returned (.tuple #[]) ∧
      ∃ sel, sel.Perm (List.range n) ∧ SoL (selQ qs sel) ∧ OwnQ w' lo hi (.slice (some ⟨g, 0, none⟩) n c) (selH hs sel) (selQ qs sel) ∧ Below lo w w' := by
  subst hn
  have hg := h.outer.lt g rfl
  have hrow : (rowV hs qs) = ((List.range qs.length).map (mkH h hl)).map Hdr.enc := by
    unfold rowV
    rw [List.map_map]
    exact List.map_congr_left fun i hi' => (mkH_enc h hl (List.mem_range.1 hi')).symm
  have hsz : ((List.range qs.length).map (mkH h hl)).toArray.size = qs.length := by simp
  have hH : Holds Hdr.enc w g 0 ((List.range qs.length).map (mkH h hl)).toArray := by
    intro j hj
    rw [hsz] at hj
    obtain ⟨h1, h2⟩ := h.at rfl hj
    rw [Nat.zero_add]
    refine ⟨?_, h1⟩
    rw [h2, ← mkH_enc h hl hj]
    congr 1
    simp [getElem!_pos, hj]
  have hC := sortFunc_any g c w ((List.range qs.length).map (mkH h hl)).toArray hH hg.2 (by rw [hsz]; omega)
  rw [hsz] at hC
  refine hC.mono ?_
  rintro e w' ⟨he, d', m, os, hp, hs', rfl⟩
  refine ⟨he, ?_⟩
  obtain ⟨p1, _, p3⟩ := hp
  rw [hsz] at p1
  have x1 : d'.extract 0 qs.length = d' := by rw [← p1]; simp
  have x2 : (((List.range qs.length).map (mkH h hl)).toArray).extract 0 qs.length = ((List.range qs.length).map (mkH h hl)).toArray := by
    generalize ((List.range qs.length).map (mkH h hl)).toArray = D at hsz ⊢
    rw [← hsz]; simp
  rw [x1, x2] at p3
  obtain ⟨sel, hsel, hd⟩ := perm_map (f := mkH h hl) (l := d'.toList) (m := List.range qs.length) (by simpa using p3)
  have hlen : sel.length = qs.length := by have := hsel.length_eq; simpa using this
  have hlt : ∀ i ∈ sel, i < qs.length := fun i hi' => List.mem_range.1 (hsel.mem_iff.1 hi')
  have hnd : sel.Nodup := hsel.nodup_iff.2 List.nodup_range
  have hdd : d' = (sel.map (mkH h hl)).toArray := by rw [← hd]
  have henc : (sel.map (mkH h hl)).map Hdr.enc = sel.map (hv hs qs) := by
    rw [List.map_map]
    exact List.map_congr_left fun i hi' => mkH_enc h hl (hlt i hi')
  have howr := h.outer
  rw [hrow] at howr
  have ho := ownsRow_putRow (q := m) (k := qs.length) (ys := sel.map (mkH h hl)) howr (by rw [List.length_map]; exact hlen) (Nat.le_refl _)
  rw [List.take_of_length_le (by rw [List.length_map]; omega), henc] at ho
  have hgl : (putRow Hdr.enc (Sort.ahead w m) g 0 (sel.map (mkH h hl)).toArray).heap.size = w.heap.size := by simp [putRow, mapBlock, Sort.ahead]
  have hkeep : ∀ k, k ≠ g → k < w.heap.size → (sortWorld Hdr.enc w g 0 m d' os).heap[k]? = w.heap[k]? := by
    intro k hk hkl
    unfold sortWorld
    rw [heap_grow_old _ _ (by simp [putRow, mapBlock, Sort.ahead]; exact hkl)]
    have hk' : ¬ g = k := fun e => hk e.symm
    simp [putRow, mapBlock, Sort.ahead, Array.getElem?_modify, hk']
  have hB : Below lo w (sortWorld Hdr.enc w g 0 m d' os) := by
    refine ⟨rfl, rfl, rfl, ?_, fun k hk => hkeep k (by omega) (by omega)⟩
    unfold sortWorld
    rw [size_grow]
    simp [putRow, mapBlock, Sort.ahead]
  have ho' : (sortWorld Hdr.enc w g 0 m d' os).ownsRow lo 22 1 (.slice (some ⟨g, 0, none⟩) sel.length c) sel.length (sel.map (hv hs qs)) := by
    rw [hlen, hdd]
    exact own_same ho fun k e => by
      obtain rfl : g = k := by simpa [Value.ownBlock] using e
      exact heap_grow_old _ _ (by rw [hgl]; exact hg.2)
  have hq := h.select (v' := .slice (some ⟨g, 0, none⟩) sel.length c) hlt hnd rfl (fun k hk hkl => hkeep k (fun e => hk (by rw [e]; rfl)) hkl) ho'
  rw [hlen] at hq
  refine ⟨sel, hsel, ?_, hq, hB⟩
  unfold SoL
  rw [List.pairwise_iff_getElem]
  intro i j hi' hj' hij
  rw [selQ_len] at hi' hj'
  have h1 := hs' i j (Nat.zero_le _) hij (by omega)
  have h2 := of_decide_eq_false h1
  have gi : d'[i]! = mkH h hl (sel[i]) := by rw [hdd]; simp [getElem!_pos, hi']
  have gj : d'[j]! = mkH h hl (sel[j]) := by rw [hdd]; simp [getElem!_pos, hj']
  unfold Hdr.cmp at h2
  rw [gi, gj, mkH_list h hl (hlt _ (List.getElem_mem _)), mkH_list h hl (hlt _ (List.getElem_mem _))] at h2
  have e1 : (selQ qs sel)[i]'(by rw [selQ_len]; exact hi') = qs.getD sel[i] [] := by simp [selQ]
  have e2 : (selQ qs sel)[j]'(by rw [selQ_len]; exact hj') = qs.getD sel[j] [] := by simp [selQ]
  rw [e1, e2]
  have := cmpL_neg (qs.getD sel[i] []) (qs.getD sel[j] [])
  omega
end
end Go.Proofs.YtjdmcpaolhnejaaDoor
