/- A row of slices of integers: that it reads as a list of lists, and that it lies in memory of its own, every part apart from every other. The laws' helpers at rows of slices and at sequents: size, copy, comparison, marks. -/
import Derived.Test.YtfdpkhiiboghiaaGreatDoorJQMath
import Derived.Test.YtfdpkhiiboghiaaGreatDoorJQDual
namespace Go.Proofs.YtfdpkhiiboghiaaGreatDoor
set_option linter.unusedSimpArgs false
set_option linter.unusedVariables false
open Go.ChangeAt Go.ChangeShapes Go.RowKit Go.WideShapes

/-- The slice of slices '.slice A n c' reads as the list of lists qs, its cells and theirs below block B. -/
def RdQ (w : World) (B : Nat) (A : Option Addr) (n : Nat) (qs : List (List Int)) : Prop :=
  qs.length = n ∧ (0 < n → ∃ b off, A = some ⟨b, off, none⟩ ∧ b < B ∧ ∀ j, j < n → ∃ A' c', w.cell? ⟨b, off + j, none⟩ = some (.slice A' (qs.getD j []).length c') ∧ (qs.getD j []).length ≤ c' ∧ RdI w B A' (qs.getD j []).length (qs.getD j []))
section
variable {w w' : World} {B B' n : Nat} {A : Option Addr} {qs : List (List Int)}
theorem RdQ.len (h : RdQ w B A n qs) : qs.length = n := h.1
theorem RdQ.keep (h : RdQ w B A n qs) (hk : ∀ p : Addr, p.block < B → w'.cell? p = w.cell? p) : RdQ w' B A n qs :=
  ⟨h.1, fun hn => by
    obtain ⟨b, off, e, hb, hc⟩ := h.2 hn
    refine ⟨b, off, e, hb, fun j hj => ?_⟩
    obtain ⟨A', c', h1, h2, h3⟩ := hc j hj
    exact ⟨A', c', (hk _ hb).trans h1, h2, h3.keep hk⟩⟩
theorem RdQ.more (h : RdQ w B A n qs) (hB : B ≤ B') : RdQ w B' A n qs :=
  ⟨h.1, fun hn => by
    obtain ⟨b, off, e, hb, hc⟩ := h.2 hn
    refine ⟨b, off, e, by omega, fun j hj => ?_⟩
    obtain ⟨A', c', h1, h2, h3⟩ := hc j hj
    exact ⟨A', c', h1, h2, h3.more hB⟩⟩
theorem RdQ.below (h : RdQ w B A n qs) (hb : Below B w w') : RdQ w' B A n qs := h.keep fun _ hp => hb.cell hp
theorem RdQ.nil (w : World) (B : Nat) (A : Option Addr) : RdQ w B A 0 [] := ⟨rfl, fun h => absurd h (by omega)⟩
end

/-- A block's place in another world that holds it unchanged. -/
theorem own_same {w w' : World} {base n size : Nat} {e : TypeId} {v : Value} {xs : List Value} (h : w.ownsRow base e size v n xs) (hk : ∀ k, v.ownBlock = some k → w'.heap[k]? = w.heap[k]?) : w'.ownsRow base e size v n xs := by
  obtain ⟨h1, h2⟩ := h
  refine ⟨h1, ?_⟩
  rcases h2 with h2 | ⟨g, cap, cur, hv, hg, hh, r⟩
  · exact .inl h2
  · refine .inr ⟨g, cap, cur, hv, hg, ?_, r⟩
    rw [hk g (by rw [hv]; rfl)]; exact hh

/-- Blocks outside [lo, hi) are as they were. -/
structure Kept (lo hi : Nat) (w w' : World) : Prop where
  os : w'.os = w.os
  tape : w'.tape = w.tape
  output : w'.output = w.output
  size : w.heap.size ≤ w'.heap.size
  block : ∀ k, k < w.heap.size → (k < lo ∨ hi ≤ k) → w'.heap[k]? = w.heap[k]?
theorem Kept.refl (lo hi : Nat) (w : World) : Kept lo hi w w := ⟨rfl, rfl, rfl, Nat.le_refl _, fun _ _ _ => rfl⟩
theorem Kept.trans {lo hi : Nat} {a b c : World} (h : Kept lo hi a b) (k : Kept lo hi b c) : Kept lo hi a c :=
  ⟨k.os.trans h.os, k.tape.trans h.tape, k.output.trans h.output, Nat.le_trans h.size k.size, fun i hi hr => (k.block i (Nat.lt_of_lt_of_le hi h.size) hr).trans (h.block i hi hr)⟩
theorem Kept.of_below {w w' : World} (h : Below w.heap.size w w') (lo hi : Nat) : Kept lo hi w w' := ⟨h.os, h.tape, h.output, h.size, fun k hk _ => h.block k hk⟩
theorem Kept.of_grown {lo hi : Nat} {w w' : World} {r : Option Nat} (h : w.grownBy w' r) (hr : ∀ k, r = some k → lo ≤ k ∧ k < hi) : Kept lo hi w w' :=
  ⟨h.os, h.tape, h.output, h.size, fun k hk ho => h.block k hk (fun e => by have := hr k e.symm; omega)⟩
theorem Kept.to_below {lo hi B : Nat} {a w w' : World} (h : Kept lo hi w w') (hb : Below B a w) (hB : B ≤ lo) (hs : B ≤ w.heap.size) : Below B a w' :=
  hb.trans ⟨h.os, h.tape, h.output, h.size, fun k hk => h.block k (by omega) (.inl (by omega))⟩

/-- The header of part i. -/
def hv (hs : Nat → Option Addr × Nat) (qs : List (List Int)) (i : Nat) : Value := .slice (hs i).1 (qs.getD i []).length (hs i).2
/-- The headers, as the row holds them. -/
def rowV (hs : Nat → Option Addr × Nat) (qs : List (List Int)) : List Value := (List.range qs.length).map (hv hs qs)
theorem rowV_len (hs : Nat → Option Addr × Nat) (qs : List (List Int)) : (rowV hs qs).length = qs.length := by simp [rowV]
theorem rowV_at {hs : Nat → Option Addr × Nat} {qs : List (List Int)} {i : Nat} (h : i < qs.length) : (rowV hs qs)[i]? = some (hv hs qs i) := by simp [rowV, h]

/-- Another header at place k. -/
def upd (hs : Nat → Option Addr × Nat) (k : Nat) (x : Option Addr × Nat) : Nat → Option Addr × Nat := fun i => if i = k then x else hs i

theorem getD_set_eq {qs : List (List Int)} {k : Nat} {q : List Int} (h : k < qs.length) : (qs.set k q).getD k [] = q := by simp [List.getD, h]
theorem getD_set_ne {qs : List (List Int)} {k i : Nat} {q : List Int} (h : i ≠ k) : (qs.set k q).getD i [] = qs.getD i [] := by
  simp only [List.getD]
  rw [List.getElem?_set_ne (fun e => h e.symm)]
theorem hv_upd_eq {hs : Nat → Option Addr × Nat} {qs : List (List Int)} {k : Nat} {q : List Int} {x : Option Addr × Nat} (h : k < qs.length) : hv (upd hs k x) (qs.set k q) k = .slice x.1 q.length x.2 := by
  unfold hv upd
  rw [getD_set_eq h, if_pos rfl]
theorem hv_upd_ne {hs : Nat → Option Addr × Nat} {qs : List (List Int)} {k i : Nat} {q : List Int} {x : Option Addr × Nat} (h : i ≠ k) : hv (upd hs k x) (qs.set k q) i = hv hs qs i := by
  unfold hv upd
  rw [getD_set_ne h, if_neg h]
theorem rowV_set {hs : Nat → Option Addr × Nat} {qs : List (List Int)} {k : Nat} {q : List Int} {x : Option Addr × Nat} (h : k < qs.length) : (rowV hs qs).set k (.slice x.1 q.length x.2) = rowV (upd hs k x) (qs.set k q) := by
  apply List.ext_getElem?
  intro i
  by_cases hi : i < qs.length
  · rw [rowV_at (by simpa using hi)]
    by_cases e : i = k
    · subst e
      rw [hv_upd_eq h, List.getElem?_set_self (by rw [rowV_len]; exact h)]
    · rw [hv_upd_ne e, List.getElem?_set_ne (fun x => e x.symm), rowV_at hi]
  · rw [List.getElem?_eq_none (by simp [rowV_len]; omega), List.getElem?_eq_none (by simp [rowV_len]; omega)]

/-- A row of slices in memory of its own: blocks in [lo, hi), each part's apart from every other's and from the row's. -/
structure OwnQ (w : World) (lo hi : Nat) (v : Value) (hs : Nat → Option Addr × Nat) (qs : List (List Int)) : Prop where
  outer : w.ownsRow lo 24 1 v qs.length (rowV hs qs)
  inner : ∀ i, i < qs.length → w.ownsRow lo 2 1 (hv hs qs i) (qs.getD i []).length ((qs.getD i []).map (Value.int .i64))
  apart : ∀ i j, i < qs.length → j < qs.length → i ≠ j → (hv hs qs i).ownBlock = none ∨ (hv hs qs i).ownBlock ≠ (hv hs qs j).ownBlock
  apart0 : ∀ i, i < qs.length → (hv hs qs i).ownBlock = none ∨ (hv hs qs i).ownBlock ≠ v.ownBlock
  top0 : ∀ k, v.ownBlock = some k → k < hi
  top : ∀ i k, i < qs.length → (hv hs qs i).ownBlock = some k → k < hi
section
variable {w w' : World} {lo hi lo' hi' : Nat} {v : Value} {hs : Nat → Option Addr × Nat} {qs : List (List Int)}
theorem OwnQ.same (h : OwnQ w lo hi v hs qs) (hk : ∀ k, lo ≤ k → k < hi → k < w.heap.size → w'.heap[k]? = w.heap[k]?) : OwnQ w' lo hi v hs qs where
  outer := own_same h.outer fun k e => hk k (h.outer.lt k e).1 (h.top0 k e) (h.outer.lt k e).2
  inner i hi := own_same (h.inner i hi) fun k e => hk k ((h.inner i hi).lt k e).1 (h.top i k hi e) ((h.inner i hi).lt k e).2
  apart := h.apart
  apart0 := h.apart0
  top0 := h.top0
  top := h.top
theorem OwnQ.kept (h : OwnQ w lo hi v hs qs) (hk : Kept lo' hi' w w') (hd : hi ≤ lo' ∨ hi' ≤ lo) : OwnQ w' lo hi v hs qs :=
  h.same fun k h1 h2 h3 => hk.block k h3 (by omega)
theorem OwnQ.below (h : OwnQ w lo hi v hs qs) (hb : Below w.heap.size w w') : OwnQ w' lo hi v hs qs := h.same fun k _ _ h3 => hb.block k h3
theorem OwnQ.setBelow (h : OwnQ w lo hi v hs qs) {p : Addr} (hp : p.block < lo) (u : Value) : OwnQ (w.setCell p u) lo hi v hs qs :=
  h.same fun k h1 _ _ => Below.heap_setCell _ _ _ _ (by omega)
theorem OwnQ.more (h : OwnQ w lo hi v hs qs) (h1 : lo' ≤ lo) (h2 : hi ≤ hi') : OwnQ w lo' hi' v hs qs where
  outer := h.outer.mono h1
  inner i hi := (h.inner i hi).mono h1
  apart := h.apart
  apart0 := h.apart0
  top0 k e := Nat.lt_of_lt_of_le (h.top0 k e) h2
  top i k hi e := Nat.lt_of_lt_of_le (h.top i k hi e) h2
theorem OwnQ.lt {i k : Nat} (h : OwnQ w lo hi v hs qs) (hi : i < qs.length) (e : (hv hs qs i).ownBlock = some k) : k < w.heap.size := ((h.inner i hi).lt k e).2
theorem OwnQ.nil (w : World) (lo hi : Nat) (hs : Nat → Option Addr × Nat) : OwnQ w lo hi (.slice none 0 0) hs [] where
  outer := by simpa [rowV] using World.ownsRow_nil w lo 24 1
  inner i hi := by simp at hi
  apart i _ hi := by simp at hi
  apart0 i hi := by simp at hi
  top0 k e := by simp [Value.ownBlock] at e
  top i _ hi := by simp at hi
end
theorem own_cap1 {w : World} {base n c : Nat} {e : TypeId} {A : Option Addr} {xs : List Value} (h : w.ownsRow base e 1 (.slice A n c) n xs) : n ≤ c := by
  rcases h.2 with ⟨hv, rfl⟩ | ⟨g, cap, cur, hv, hb, hh, hn, hc, hs, ht⟩
  · exact Nat.zero_le _
  · injection hv with a1 a2 a3
    subst a3
    exact hn
/-- What is owned reads. -/
theorem OwnQ.rd {w : World} {lo hi n c : Nat} {A : Option Addr} {hs : Nat → Option Addr × Nat} {qs : List (List Int)} (h : OwnQ w lo hi (.slice A n c) hs qs) (hn : qs.length = n) : RdQ w w.heap.size A n qs := by
  subst hn
  refine ⟨rfl, fun hn => ?_⟩
  obtain ⟨g, cap, hv', _, hlt⟩ := h.outer.form hn
  injection hv' with e1 e2 e3
  subst e1; subst e3
  refine ⟨g, 0, rfl, hlt, fun j hj => ⟨(hs j).1, (hs j).2, ?_, own_cap1 (h.inner j hj), RdI.of_own (h.inner j hj)⟩⟩
  rw [Nat.zero_add, h.outer.cellAt j (by omega), rowV_at hj]
  rfl
theorem OwnQ.at {w : World} {lo hi n c k g : Nat} {hs : Nat → Option Addr × Nat} {qs : List (List Int)} (h : OwnQ w lo hi (.slice (some ⟨g, 0, none⟩) n c) hs qs) (hn : qs.length = n) (hk : k < n) :
    w.frozen? ⟨g, k, none⟩ = false ∧ w.cell? ⟨g, k, none⟩ = some (hv hs qs k) := by
  subst hn
  refine ⟨h.outer.frozenAt k, ?_⟩
  rw [h.outer.cellAt k (by omega), rowV_at hk]
/-- Part k replaced by a slice in memory beyond. -/
theorem OwnQ.store {w : World} {lo hi hi' n c k g c' : Nat} {a : Option Addr} {hs : Nat → Option Addr × Nat} {qs : List (List Int)} {q : List Int} (h : OwnQ w lo hi (.slice (some ⟨g, 0, none⟩) n c) hs qs) (hn : qs.length = n) (hk : k < n)
    (hq : w.ownsRow lo 2 1 (.slice a q.length c') q.length (q.map (Value.int .i64))) (hge : ∀ b, (Value.slice a q.length c').ownBlock = some b → hi ≤ b ∧ b < hi') (hh : hi ≤ hi') :
    OwnQ (w.setCell ⟨g, k, none⟩ (.slice a q.length c')) lo hi' (.slice (some ⟨g, 0, none⟩) n c) (upd hs k (a, c')) (qs.set k q) := by
  subst hn
  have hg : g < hi := h.top0 g rfl
  have ho := (h.outer.stored k (.slice a q.length c')).1
  have e := rowV_set (hs := hs) (q := q) (x := (a, c')) hk
  rw [show (Value.slice a q.length c') = .slice (a, c').1 q.length (a, c').2 from rfl, e] at ho
  have hot : ∀ i, i ≠ k → hv (upd hs k (a, c')) (qs.set k q) i = hv hs qs i := fun i hi => hv_upd_ne hi
  have hkk : hv (upd hs k (a, c')) (qs.set k q) k = .slice a q.length c' := hv_upd_eq hk
  refine ⟨by rw [List.length_set]; exact ho, fun i hi => ?_, fun i j hi hj hij => ?_, fun i hi => ?_, fun b e => ?_, fun i b hi e => ?_⟩
  · rw [List.length_set] at hi
    by_cases e : i = k
    · subst e
      rw [hkk, getD_set_eq hk]
      exact own_same hq fun b hb => Below.heap_setCell _ _ _ _ (by have := hge b hb; simp; omega)
    · rw [hot i e, getD_set_ne e]
      refine own_same (h.inner i hi) fun b hb => Below.heap_setCell _ _ _ _ ?_
      rcases h.apart0 i hi with h0 | h0
      · rw [h0] at hb; cases hb
      · rw [hb] at h0
        intro e'
        exact h0 (by rw [e']; rfl)
  · rw [List.length_set] at hi hj
    by_cases e : i = k
    · subst e
      rw [hkk, hot j (fun e => hij e.symm)]
      cases hb : (Value.slice a q.length c').ownBlock with
      | none => exact .inl rfl
      | some b =>
        right
        intro e'
        have := h.top j b hj e'.symm
        have := (hge b hb).1
        omega
    · by_cases e2 : j = k
      · subst e2
        rw [hkk, hot i e]
        cases hb : (hv hs qs i).ownBlock with
        | none => exact .inl rfl
        | some b =>
          right
          intro e'
          have := h.top i b hi hb
          have := (hge b e'.symm).1
          omega
      · rw [hot i e, hot j e2]
        exact h.apart i j hi hj hij
  · rw [List.length_set] at hi
    by_cases e : i = k
    · subst e
      rw [hkk]
      cases hb : (Value.slice a q.length c').ownBlock with
      | none => exact .inl rfl
      | some b =>
        right
        intro e'
        have : b = g := by simpa [Value.ownBlock] using e'
        have := (hge b hb).1
        omega
    · rw [hot i e]
      exact h.apart0 i hi
  · exact Nat.lt_of_lt_of_le (h.top0 b e) hh
  · rw [List.length_set] at hi
    by_cases e1 : i = k
    · subst e1
      rw [hkk] at e
      exact (hge b e).2
    · rw [hot i e1] at e
      exact Nat.lt_of_lt_of_le (h.top i b hi e) hh
/-- Part k written over in place. -/
theorem OwnQ.put {w w' : World} {lo hi k : Nat} {v : Value} {hs : Nat → Option Addr × Nat} {qs : List (List Int)} {q : List Int} (h : OwnQ w lo hi v hs qs) (hk : k < qs.length) (hl : q.length = (qs.getD k []).length)
    (hq : w'.ownsRow lo 2 1 (hv hs qs k) q.length (q.map (Value.int .i64))) (hg : w.grownBy w' (hv hs qs k).ownBlock) : OwnQ w' lo hi v hs (qs.set k q) := by
  have hh : ∀ i, hv hs (qs.set k q) i = hv hs qs i := by
    intro i
    by_cases e : i = k
    · subst e; unfold hv; rw [getD_set_eq hk, hl]
    · unfold hv; rw [getD_set_ne e]
  have hr : rowV hs (qs.set k q) = rowV hs qs := by
    unfold rowV
    rw [List.length_set]
    exact List.map_congr_left fun i _ => hh i
  refine ⟨?_, fun i hi => ?_, fun i j hi hj hij => ?_, fun i hi => ?_, h.top0, fun i b hi e => ?_⟩
  · rw [hr, List.length_set]
    refine h.outer.kept hg ?_
    rcases h.apart0 k hk with h0 | h0
    · rw [h0]; cases v.ownBlock with
      | none => exact .inl rfl
      | some b => exact .inr (by simp)
    · exact .inr fun e => h0 e.symm
  · rw [List.length_set] at hi
    rw [hh i]
    by_cases e : i = k
    · subst e
      rw [getD_set_eq hk]
      exact hq
    · rw [getD_set_ne e]
      exact (h.inner i hi).kept hg (h.apart i k hi hk e)
  · rw [List.length_set] at hi hj
    rw [hh i, hh j]; exact h.apart i j hi hj hij
  · rw [List.length_set] at hi
    rw [hh i]; exact h.apart0 i hi
  · rw [List.length_set] at hi
    rw [hh i] at e; exact h.top i b hi e

/-- A row of n nil parts. -/
theorem OwnQ.fresh {w : World} {lo g n c : Nat} (h : w.ownsRow lo 24 1 (.slice (some ⟨g, 0, none⟩) n c) n (List.replicate n (.slice none 0 0))) (hs : Nat → Option Addr × Nat) (hn : ∀ i, hs i = (none, 0)) (hi : Nat) (hg : g < hi) :
    OwnQ w lo hi (.slice (some ⟨g, 0, none⟩) n c) hs (List.replicate n []) := by
  have hz : ∀ i, hv hs (List.replicate n []) i = .slice none 0 0 := by
    intro i
    unfold hv
    rw [hn i]
    have : ((List.replicate n ([] : List Int)).getD i []).length = 0 := by
      simp only [List.getD]
      by_cases h : i < n
      · simp [h]
      · simp [h]
    rw [this]
  have hr : rowV hs (List.replicate n []) = List.replicate n (.slice none 0 0) := by
    apply List.ext_getElem?
    intro i
    by_cases hi : i < n
    · rw [rowV_at (by simpa using hi), hz]; simp [hi]
    · rw [List.getElem?_eq_none (by rw [rowV_len]; simp; omega), List.getElem?_eq_none (by simp; omega)]
  have hgd : ∀ i, (List.replicate n ([] : List Int)).getD i [] = [] := by
    intro i
    simp only [List.getD]
    by_cases h : i < n
    · simp [h]
    · simp [h]
  refine ⟨by rw [hr]; simpa using h, fun i _ => ?_, fun i j _ _ _ => ?_, fun i _ => ?_, fun k e => ?_, fun i k _ e => ?_⟩
  · rw [hz i, hgd i]; exact World.ownsRow_nil w lo _ 1
  · rw [hz i]; exact .inl rfl
  · rw [hz i]; exact .inl rfl
  · obtain rfl : g = k := by simpa [Value.ownBlock] using e
    exact hg
  · rw [hz i] at e; cases e
/-- The row appended to. -/
theorem OwnQ.push {w w' : World} {lo hi hi' c' : Nat} {v v' : Value} {a : Option Addr} {hs : Nat → Option Addr × Nat} {qs : List (List Int)} {q : List Int} (h : OwnQ w lo hi v hs qs)
    (hq : w.ownsRow lo 2 1 (.slice a q.length c') q.length (q.map (Value.int .i64))) (hge : ∀ b, (Value.slice a q.length c').ownBlock = some b → hi ≤ b)
    (ho : w'.ownsRow lo 24 1 v' (qs.length + 1) (rowV hs qs ++ [.slice a q.length c'])) (hg : w.grownBy w' v.ownBlock) (hv' : ∀ b, v'.ownBlock = some b → v.ownBlock = some b ∨ w.heap.size ≤ b) (_h1 : hi ≤ w.heap.size) (h2 : w'.heap.size ≤ hi') :
    OwnQ w' lo hi' v' (upd hs qs.length (a, c')) (qs ++ [q]) := by
  have hlt : ∀ i, i < qs.length → hv (upd hs qs.length (a, c')) (qs ++ [q]) i = hv hs qs i := by
    intro i hi
    unfold hv upd
    have e : (qs ++ [q]).getD i [] = qs.getD i [] := by simp [List.getD, List.getElem?_append_left hi]
    rw [e, if_neg (by omega)]
  have hge' : (qs ++ [q]).getD qs.length [] = q := by simp [List.getD]
  have hkk : hv (upd hs qs.length (a, c')) (qs ++ [q]) qs.length = .slice a q.length c' := by
    unfold hv upd
    rw [hge', if_pos rfl]
  have hr : rowV (upd hs qs.length (a, c')) (qs ++ [q]) = rowV hs qs ++ [.slice a q.length c'] := by
    unfold rowV
    rw [List.length_append, List.length_singleton, List.range_succ, List.map_append, List.map_singleton, hkk]
    congr 1
    exact List.map_congr_left fun i hi => hlt i (List.mem_range.1 hi)
  have hs' := hg.size
  have hbl : ∀ b, v'.ownBlock = some b → b < w'.heap.size := fun b e => (ho.lt b e).2
  have hqs : ∀ i, i < (qs ++ [q]).length → i = qs.length ∨ i < qs.length := fun i hi => by simp at hi; omega
  refine ⟨by rw [hr, List.length_append, List.length_singleton]; exact ho, fun i hi => ?_, fun i j hi hj hij => ?_, fun i hi => ?_, fun k e => ?_, fun i k hi e => ?_⟩
  · rcases hqs i hi with rfl | hi
    · rw [hkk, hge']
      refine hq.kept hg ?_
      cases hb : (Value.slice a q.length c').ownBlock with
      | none => exact .inl rfl
      | some b =>
        right
        intro e
        have := h.top0 b e.symm
        have := hge b hb
        omega
    · rw [hlt i hi]
      have e : (qs ++ [q]).getD i [] = qs.getD i [] := by simp [List.getD, List.getElem?_append_left hi]
      rw [e]
      exact (h.inner i hi).kept hg (h.apart0 i hi)
  · rcases hqs i hi with rfl | hi
    · rcases hqs j hj with rfl | hj
      · exact absurd rfl hij
      · rw [hkk, hlt j hj]
        cases hb : (Value.slice a q.length c').ownBlock with
        | none => exact .inl rfl
        | some b =>
          right
          intro e
          have := h.top j b hj e.symm
          have := hge b hb
          omega
    · rcases hqs j hj with rfl | hj
      · rw [hkk, hlt i hi]
        cases hb : (hv hs qs i).ownBlock with
        | none => exact .inl rfl
        | some b =>
          right
          intro e
          have := h.top i b hi hb
          have := hge b e.symm
          omega
      · rw [hlt i hi, hlt j hj]; exact h.apart i j hi hj hij
  · have hin : ∀ b, (hv (upd hs qs.length (a, c')) (qs ++ [q]) i).ownBlock = some b → b < w.heap.size ∧ v.ownBlock ≠ some b := by
      intro b e
      rcases hqs i hi with rfl | hi
      · rw [hkk] at e
        refine ⟨(hq.lt b e).2, fun e' => ?_⟩
        have := h.top0 b e'
        have := hge b e
        omega
      · rw [hlt i hi] at e
        refine ⟨((h.inner i hi).lt b e).2, fun e' => ?_⟩
        rcases h.apart0 i hi with h0 | h0
        · rw [h0] at e; cases e
        · exact h0 (e.trans e'.symm)
    cases hb : (hv (upd hs qs.length (a, c')) (qs ++ [q]) i).ownBlock with
    | none => exact .inl rfl
    | some b =>
      right
      intro e
      obtain ⟨h3, h4⟩ := hin b hb
      rcases hv' b e.symm with h5 | h5
      · exact h4 h5
      · omega
  · exact Nat.lt_of_lt_of_le (hbl k e) h2
  · rcases hqs i hi with rfl | hi
    · rw [hkk] at e
      have := (hq.lt k e).2
      omega
    · rw [hlt i hi] at e
      have := ((h.inner i hi).lt k e).2
      omega

/-- The number of all symbols. -/
def total (qs : List (List Int)) : Nat := (qs.map List.length).sum
theorem total_take {qs : List (List Int)} {k : Nat} (h : k < qs.length) : total (qs.take (k + 1)) = total (qs.take k) + (qs.getD k []).length := by
  unfold total
  rw [List.take_succ_eq_append_getElem h, List.map_append, List.sum_append]
  simp [List.getD, h]
theorem total_le {qs : List (List Int)} {k : Nat} (h : k < qs.length) : total (qs.take k) + (qs.getD k []).length ≤ total qs := by
  rw [← total_take h]
  unfold total
  have e : qs = qs.take (k + 1) ++ qs.drop (k + 1) := (List.take_append_drop _ _).symm
  conv => rhs; rw [e, List.map_append, List.sum_append]
  omega
theorem total_all (qs : List (List Int)) {k : Nat} (h : qs.length ≤ k) : total (qs.take k) = total qs := by rw [List.take_of_length_le h]
theorem getD_mem {qs : List (List Int)} {k : Nat} (h : k < qs.length) : qs.getD k [] ∈ qs := by
  simp [List.getD, h]

/-- What is left. -/
def szR (left : Int) (m : Nat) : Int := if left - m < 0 then -1 else left - m
theorem szR_neg {left : Int} {m : Nat} (h : left - m < 0) : szR left m = -1 := if_pos h
theorem szR_pos {left : Int} {m : Nat} (h : ¬ left - m < 0) : szR left m = left - m := if_neg h

theorem sz_any (A : Option Addr) (n c : Nat) (left : Int) (w : World) (hn : n ≤ maxLen) (h0 : 0 ≤ left) (h1 : left ≤ 1073741824) :
    Calls Tryz.prog 44 #[.slice A n c, .int .i64 left] w fun e w' => e = .returned (.int .i64 (szR left n)) ∧ w = w' := by
  unfold maxLen at hn
  by_cases h : left - n < 0
  · rw [szR_neg h]
    have hd : decide (left - n < 0) = true := decide_eq_true h
    go_enter Tryz.func44, Tryz.ntmps44
    go_wp2
    go_ret
    exact ⟨rfl, rfl⟩
  · rw [szR_pos h]
    have hd : decide (left - n < 0) = false := decide_eq_false h
    go_enter Tryz.func44, Tryz.ntmps44
    go_wp2
    go_ret
    exact ⟨rfl, rfl⟩

set_option maxHeartbeats 1000000 in
theorem szSS_any (A : Option Addr) (n c : Nat) (qs : List (List Int)) (left : Int) (w : World) (B : Nat) (h : RdQ w B A n qs) (hq : ∀ q ∈ qs, q.length ≤ maxLen) (hn : n ≤ maxLen) (h0 : 0 ≤ left) (h1 : left ≤ 1073741824) :
    Calls Tryz.prog 42 #[.slice A n c, .int .i64 left] w fun e w' => e = .returned (.int .i64 (szR left (n + total qs))) ∧ w = w' := by
  have hl := h.len
  subst hl
  have hn' := hn
  unfold maxLen at hn'
  by_cases hc : left - qs.length < 0
  · have HE : Hid ((-1 : Int) = szR left (qs.length + total qs)) := Lib.hid (szR_neg (by omega)).symm
    have hd : decide (left - (qs.length : Int) < 0) = true := decide_eq_true hc
    clear h hq hc
    go_enter Tryz.func42, Tryz.ntmps42
    go_wp2
    go_ret
    exact ⟨ret_i64 HE.out, rfl⟩
  · have hd : decide (left - (qs.length : Int) < 0) = false := decide_eq_false hc
    go_enter Tryz.func42, Tryz.ntmps42
    go_wp2
    go_loop [1, 5] (fun l i => ∃ k : Nat, k ≤ qs.length ∧ i = .int .i64 k ∧ l = .int .i64 (left - (qs.length + total (qs.take k) : Nat)) ∧ 0 ≤ left - (qs.length + total (qs.take k) : Nat)) (fun _ i => qs.length - (intOf i).toNat)
    case atStart => exact ⟨0, Nat.zero_le _, rfl, by simp [total], by simp [total]; omega⟩
    case round =>
      obtain ⟨k, hk, rfl, rfl, hp⟩ := hrel
      clear hd
      by_cases hlt : k < qs.length
      · obtain ⟨b, off, rfl, hbb, hcells⟩ := h.2 (by omega)
        obtain ⟨A', c', hcell, _, _⟩ := hcells k hlt
        have hm := hq _ (getD_mem hlt)
        have ht := total_take hlt
        have htl := total_le hlt
        have hm' := hm
        unfold maxLen at hm'
        clear hcells h hq
        generalize hM : (qs.getD k []).length = M at *
        generalize hT : total (qs.take k) = T at *
        obtain ⟨L, hL⟩ : ∃ L : Int, left - (qs.length + T : Nat) = L := ⟨_, rfl⟩
        rw [hL] at hp ⊢
        have HS := Lib.hid (sz_any A' M c' L w hm hp (by omega))
        by_cases hneg : L - M < 0
        · rw [szR_neg hneg] at HS
          have HE : Hid ((-1 : Int) = szR left (qs.length + total qs)) := Lib.hid (szR_neg (by omega)).symm
          clear ht htl hL hM hT hneg
          go_wp2_with (go_at_call 44; refine HS.out.mono ?_; rintro e w' ⟨rfl, rfl⟩)
          go_ret
          exact ⟨ret_i64 HE.out, rfl⟩
        · rw [szR_pos hneg] at HS
          have hd2 : decide (L - (M : Int) < 0) = false := decide_eq_false hneg
          have HR : Hid (L - M = left - (qs.length + total (qs.take (k + 1)) : Nat)) := Lib.hid (by rw [ht]; omega)
          have HP : Hid (0 ≤ L - M) := Lib.hid (by omega)
          clear ht htl hL hM hT hneg
          go_wp2_with (go_at_call 44; refine HS.out.mono ?_; rintro e w' ⟨rfl, rfl⟩)
          go_round
          case rel => exact ⟨k + 1, by omega, by go_num, by rw [HR.out], by rw [← HR.out]; exact HP.out⟩
          case measure => simp [intOf]; omega
      · have hkl : k = qs.length := by omega
        subst hkl
        rw [total_all qs (Nat.le_refl _)] at hp ⊢
        have HE : Hid (left - (qs.length + total qs : Nat) = szR left (qs.length + total qs)) := Lib.hid (szR_pos (by omega)).symm
        clear h hq hp
        go_wp2
        go_ret
        exact ⟨ret_i64 HE.out, rfl⟩

/-- How far the copy of a row has come. -/
def cpq (qs : List (List Int)) (k : Nat) : List (List Int) := qs.take k ++ List.replicate (qs.length - k) []
theorem cpq_zero (qs : List (List Int)) : List.replicate qs.length [] = cpq qs 0 := by simp [cpq]
theorem cpq_all (qs : List (List Int)) : cpq qs qs.length = qs := by simp [cpq]
theorem cpq_len {qs : List (List Int)} {k : Nat} (h : k ≤ qs.length) : (cpq qs k).length = qs.length := by simp [cpq]; omega
theorem cpq_step {qs : List (List Int)} {k : Nat} (h : k < qs.length) : (cpq qs k).set k (qs.getD k []) = cpq qs (k + 1) := by
  unfold cpq
  rw [List.set_append_right _ _ (by simp; omega)]
  have e1 : k - (qs.take k).length = 0 := by simp; omega
  rw [e1]
  have e2 : qs.length - k = (qs.length - (k + 1)) + 1 := by omega
  rw [e2, List.replicate_succ, List.set_cons_zero, List.take_succ_eq_append_getElem h, List.append_assoc]
  have e3 : qs.getD k [] = qs[k] := by simp [List.getD, h]
  rw [e3]
  rfl
theorem info_is : (Tryz.prog.info? 24).map (fun i => (i.zero, i.size, i.bytes)) = some (some (.slice none 0 0), 1, 24) := by kernel_rfl
/-- The parts of a type's facts at one cell. -/
theorem info_parts_s : ∃ i, Tryz.prog.info? 24 = some i ∧ i.zero = some (.slice none 0 0) ∧ i.size = 1 ∧ i.bytes = 24 := by
  obtain ⟨i, hi, he⟩ := Option.map_eq_some_iff.1 info_is
  simp only [Prod.mk.injEq] at he
  exact ⟨i, hi, he.1, he.2.1, he.2.2⟩
/-- What the copy of a row leaves. -/
def CopiedQ (w : World) (n : Nat) (qs : List (List Int)) (e : Ending) (w' : World) : Prop :=
  ∃ hs, e = .returned (.slice (some ⟨w.heap.size, 0, none⟩) n n) ∧ OwnQ w' w.heap.size w'.heap.size (.slice (some ⟨w.heap.size, 0, none⟩) n n) hs qs ∧ Below w.heap.size w w'
/-- The store of a new part, with what is left of the world below. -/
theorem OwnQ.fill {w wr w1 : World} {A : Option Addr} {n c k g m c' : Nat} {hs : Nat → Option Addr × Nat} {cur : List (List Int)} {q : List Int} (hown : OwnQ wr w.heap.size wr.heap.size (.slice (some ⟨g, 0, none⟩) n c) hs cur) (hn : cur.length = n) (hk : k < n) (hm : m = q.length)
    (hb : Below w.heap.size w wr) (own1 : w1.ownsRow wr.heap.size 2 1 (.slice A m c') m (q.map (Value.int .i64))) (bel1 : Below wr.heap.size wr w1) :
    OwnQ (w1.setCell ⟨g, k, none⟩ (.slice A m c')) w.heap.size (w1.setCell ⟨g, k, none⟩ (.slice A m c')).heap.size (.slice (some ⟨g, 0, none⟩) n c) (upd hs k (A, c')) (cur.set k q) ∧ Below w.heap.size w (w1.setCell ⟨g, k, none⟩ (.slice A m c')) := by
  subst hm
  have e : (w1.setCell ⟨g, k, none⟩ (.slice A q.length c')).heap.size = w1.heap.size := by simp
  rw [e]
  have hg := (hown.outer.lt g rfl).1
  refine ⟨(hown.below bel1).store hn hk (own1.mono hb.size) (fun b hb' => own1.lt b hb') bel1.size, (hb.trans (bel1.mono hb.size)).setCell hg _⟩

set_option maxHeartbeats 1000000 in
theorem toSS_any (A : Option Addr) (n c : Nat) (qs : List (List Int)) (w : World) (h : RdQ w w.heap.size A n qs) (hq : ∀ q ∈ qs, q.length ≤ 1048576) (hn : n ≤ 1048576) :
    Calls Tryz.prog 47 #[.slice A n c] w (CopiedQ w n qs) := by
  obtain ⟨i0, hi0, hz0, hz1, hz2⟩ := info_parts_s
  have hl := h.len
  subst hl
  go_enter Tryz.func47, Tryz.ntmps47
  have b2 : i0.bytes * qs.length ≤ 281474976710656 := by rw [hz2]; omega
  have b3 : qs.length ≤ maxLen := by unfold maxLen; omega
  go_wp2_with (at_make; refine wpList_make_full _ rfl _ _ _ rfl w.heap.size 24 i0 (.slice none 0 0) 1 Tryz.underlying22 hi0 hz0 hz1 _ _ _ _ qs.length rfl rfl rfl rfl b2 b3 (Nat.le_refl _) ?_; intro w1 hown hg)
  have hbel : Below w.heap.size w w1 := (Below.refl _ _).grown hg (Nat.le_refl _) (by intro k hk; cases hk)
  have hown0 : w1.ownsRow w.heap.size 24 1 (.slice (some ⟨w.heap.size, 0, none⟩) qs.length qs.length) qs.length (List.replicate qs.length (.slice none 0 0)) := by
    rw [← toList_madeCells_one]; simpa [Value.cells] using hown
  have hlt1 : w.heap.size < w1.heap.size := (hown0.lt _ rfl).2
  have hown1 : OwnQ w1 w.heap.size w1.heap.size (.slice (some ⟨w.heap.size, 0, none⟩) qs.length qs.length) (fun _ => (none, 0)) (cpq qs 0) := by
    rw [← cpq_zero]; exact OwnQ.fresh hown0 _ (fun _ => rfl) _ hlt1
  clear hg hown hown0 hlt1 b2 b3 hi0 hz0 hz1 hz2
  go_loopw [4] (fun i wr => ∃ k : Nat, k ≤ qs.length ∧ i = .int .i64 k ∧ ∃ hs, OwnQ wr w.heap.size wr.heap.size (.slice (some ⟨w.heap.size, 0, none⟩) qs.length qs.length) hs (cpq qs k) ∧ Below w.heap.size w wr)
    (fun i _ => qs.length - (intOf i).toNat)
  case atStart => exact ⟨0, Nat.zero_le _, rfl, _, hown1, hbel⟩
  case round =>
    obtain ⟨k, hk, rfl, hs, hown, hb⟩ := hrel
    clear hown1 hbel
    by_cases hlt : k < qs.length
    · have h' := (h.below hb).more hb.size
      obtain ⟨b, off, rfl, hbb, hcells⟩ := h'.2 (by omega)
      obtain ⟨A', c', hcell, _, hrd⟩ := hcells k hlt
      have hm := hq _ (getD_mem hlt)
      have hl2 := cpq_len hk
      have HSTEP := Lib.hid (cpq_step hlt)
      generalize hQ : qs.getD k [] = q at *
      have HT := Lib.hid (toInts_any A' q.length c' q wr hrd hm)
      have hgg : w.heap.size < wr.heap.size := hown.top0 _ rfl
      have HO := Lib.hid hown; have HB := Lib.hid hb; have HL2 := Lib.hid hl2
      clear hown hb h h' hcells hrd hQ hl2
      go_wp2_with (fail)
      refine HT.out.mono ?_
      rintro e w2 ⟨rfl, own2, bel2⟩
      obtain ⟨hF, hFb⟩ := HO.out.fill HL2.out hlt rfl HB.out own2 bel2
      rw [HSTEP.out] at hF
      have hO2 := HO.out.below bel2
      obtain ⟨hf, ho⟩ := hO2.at HL2.out hlt
      obtain ⟨o, hoo⟩ : ∃ o, hv hs (cpq qs k) k = o := ⟨_, rfl⟩
      rw [hoo] at ho
      have HF := Lib.hid hF; have HFB := Lib.hid hFb
      clear hF hFb hoo hO2 own2 bel2
      go_wp2
      go_roundw
      case rel => exact ⟨k + 1, by omega, by go_num, _, HF.out, HFB.out⟩
      case measure => simp [intOf]; omega
    · have hkl : k = qs.length := by omega
      subst hkl
      rw [cpq_all] at hown
      have HS := Lib.hid hown; have HB := Lib.hid hb
      clear hown hb h hq
      go_wp2
      go_ret
      exact ⟨_, rfl, HS.out, HB.out⟩

theorem takeq_step {zs ys : List (List Int)} {k : Nat} (h : zs.take k = ys.take k) (hz : k < zs.length) (hy : k < ys.length) (he : zs.getD k [] = ys.getD k []) : zs.take (k + 1) = ys.take (k + 1) := by
  rw [List.take_succ_eq_append_getElem hz, List.take_succ_eq_append_getElem hy, h]
  simp [List.getD, hz, hy] at he
  rw [he]
theorem neq_at {zs ys : List (List Int)} {k : Nat} (he : ¬ zs.getD k [] = ys.getD k []) : ¬ zs = ys := fun h => he (by rw [h])

set_option maxHeartbeats 1000000 in
theorem eqSS_any (A B : Option Addr) (n m c d : Nat) (zs ys : List (List Int)) (w : World) (P Q : Nat) (h : RdQ w P A n zs) (h' : RdQ w Q B m ys) (hn : n ≤ 1048576) (hm : m ≤ 1048576) (hz : ∀ q ∈ zs, q.length ≤ 1048576) (hy : ∀ q ∈ ys, q.length ≤ 1048576) :
    Calls Tryz.prog 51 #[.slice A n c, .slice B m d] w (SameD zs ys w) := by
  have hl := h.len
  have hl' := h'.len
  subst hl hl'
  by_cases hlen : zs.length = ys.length
  · have hd : ((zs.length : Int) != (ys.length : Int)) = false := by simp; omega
    have H := Lib.hid hlen; clear hlen
    go_enter Tryz.func51, Tryz.ntmps51
    go_wp2
    go_loopw [5] (fun i wr => ∃ k : Nat, k ≤ zs.length ∧ i = .int .i64 k ∧ zs.take k = ys.take k ∧ ∃ m, wr = w.drewN m) (fun i _ => zs.length - (intOf i).toNat)
    case atStart => exact ⟨0, Nat.zero_le _, rfl, by simp, 0, rfl⟩
    case round =>
      obtain ⟨k, hk, rfl, htk, hb⟩ := hrel
      clear hd
      by_cases hlt : k < zs.length
      · have hlt' : k < ys.length := by have := H.out; omega
        obtain ⟨b, off, rfl, hbb, hcells⟩ := h.2 (by omega)
        obtain ⟨b', off', rfl, hbb', hcells'⟩ := h'.2 (by omega)
        obtain ⟨A1, c1, hc1, _, hr1⟩ := hcells k hlt
        obtain ⟨A2, c2, hc2, _, hr2⟩ := hcells' k hlt'
        have hc := drewN_cell hb hc1
        have hc' := drewN_cell hb hc2
        have HT := Lib.hid htk; have HB := Lib.hid hb
        have HZ := Lib.hid (hz _ (getD_mem hlt)); have HY := Lib.hid (hy _ (getD_mem hlt'))
        have HC : Hid (∀ j, Calls Tryz.prog 19 #[.slice A1 (zs.getD k []).length c1, .slice A2 (ys.getD k []).length c2] (wr.drewN j) fun e w' => e = .returned (.bool (decide (zs.getD k [] = ys.getD k []))) ∧ ∃ m, w' = (wr.drewN j).drewN m) :=
          Lib.hid fun j => eqInts_d A1 A2 _ _ c1 c2 _ _ _ P Q (hr1.keep fun p _ => by obtain ⟨m, rfl⟩ := hb; rfl) (hr2.keep fun p _ => by obtain ⟨m, rfl⟩ := hb; rfl) HZ.out HY.out
        clear hcells hcells' htk hb h h' hz hy hr1 hr2 hc1 hc2
        by_cases he : zs.getD k [] = ys.getD k []
        · have HE := Lib.hid (takeq_step HT.out hlt hlt' he)
          rw [decide_eq_true he] at HC
          clear he HZ HY
          generalize (zs.getD k []).length = l1 at *
          generalize (ys.getD k []).length = l2 at *
          go_wp2
          go_quiet (first | (go_at_call 19; refine Calls.quiet_of (HC.out _)))
          go_wp2
          go_roundw
          case rel => exact ⟨k + 1, by omega, by go_num, HE.out, drewN_more HB.out _⟩
          case measure => simp [intOf]; omega
        · have HE := Lib.hid (neq_at he)
          rw [decide_eq_false he] at HC
          clear he HZ HY
          generalize (zs.getD k []).length = l1 at *
          generalize (ys.getD k []).length = l2 at *
          go_wp2
          go_quiet (first | (go_at_call 19; refine Calls.quiet_of (HC.out _)))
          go_wp2
          go_ret
          exact ⟨ret_no HE.out, drewN_more HB.out _⟩
      · have hkl : k = zs.length := by omega
        subst hkl
        have e : zs = ys := by
          have := htk
          rw [List.take_of_length_le (Nat.le_refl _), List.take_of_length_le (by have := H.out; omega)] at this
          exact this
        have HE := Lib.hid e; have HB := Lib.hid hb
        clear e htk hb h h' hz hy
        go_wp2
        go_ret
        exact ⟨ret_yes HE.out, HB.out⟩
  · have hd : ((zs.length : Int) != (ys.length : Int)) = true := by simp; omega
    have HE : Hid (¬ zs = ys) := Lib.hid fun e => hlen (by rw [e])
    clear hlen h h' hz hy
    go_enter Tryz.func51, Tryz.ntmps51
    go_wp2
    go_ret
    exact ⟨ret_no HE.out, 0, rfl⟩
end Go.Proofs.YtfdpkhiiboghiaaGreatDoor
