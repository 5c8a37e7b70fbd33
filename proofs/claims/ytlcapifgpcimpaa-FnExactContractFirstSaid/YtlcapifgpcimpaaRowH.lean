/- A row of slices of integers: that it reads as a list of lists, and that it lies in memory of its own, every part apart from every other. The laws' helpers at rows of slices and at sequents: size, copy, comparison, marks. -/
import Derived.Test.YtlcapifgpcimpaaQMath
import Derived.Test.YtlcapifgpcimpaaQEqD
namespace Go.Proofs.Ytlcapifgpcimpaa
set_option linter.unusedSimpArgs false
set_option linter.unusedVariables false
open Go.ChangeAt Go.ChangeShapes Go.RowKit Go.WideShapes

/-- The slice of slices '.slice A n c' reads as the list of lists qs, its cells and theirs below block B. -/
def RdQ (w : World) (B : Nat) (A : Option Addr) (n : Nat) (qs : List (List Int)) : Prop :=
  qs.length = n ∧ (0 < n → ∃ b off, A = some ⟨b, off, none⟩ ∧ b < B ∧ ∀ j, j < n → ∃ A' c', w.cell? ⟨b, off + j, none⟩ = some (.slice A' (qs.getD j []).length c') ∧ (qs.getD j []).length ≤ c' ∧ RdI w B A' (qs.getD j []).length (qs.getD j []))
section
variable {w w' : World} {B B' n : Nat} {A : Option Addr} {qs : List (List Int)}
theorem RdQ.len (h : RdQ w B A n qs) : qs.length = n := h.1
theorem RdQ.keep (h : RdQ w B A n qs) (hk : ∀ p : Addr, p.block < B → w'.cell? p = w.cell? p) : RdQ w' B A n qs :=
  ⟨h.1, fun hn => by
    obtain ⟨b, off, e, hb, hc⟩ := h.2 hn
    refine ⟨b, off, e, hb, fun j hj => ?_⟩
    obtain ⟨A', c', h1, h2, h3⟩ := hc j hj
    exact ⟨A', c', (hk _ hb).trans h1, h2, h3.keep hk⟩⟩
theorem RdQ.more (h : RdQ w B A n qs) (hB : B ≤ B') : RdQ w B' A n qs :=
  ⟨h.1, fun hn => by
    obtain ⟨b, off, e, hb, hc⟩ := h.2 hn
    refine ⟨b, off, e, by omega, fun j hj => ?_⟩
    obtain ⟨A', c', h1, h2, h3⟩ := hc j hj
    exact ⟨A', c', h1, h2, h3.more hB⟩⟩
theorem RdQ.below (h : RdQ w B A n qs) (hb : Below B w w') : RdQ w' B A n qs := h.keep fun _ hp => hb.cell hp
theorem RdQ.nil (w : World) (B : Nat) (A : Option Addr) : RdQ w B A 0 [] := ⟨rfl, fun h => absurd h (by omega)⟩
end

/-- A block's place in another world that holds it unchanged. -/
theorem own_same {w w' : World} {base n size : Nat} {e : TypeId} {v : Value} {xs : List Value} (h : w.ownsRow base e size v n xs) (hk : ∀ k, v.ownBlock = some k → w'.heap[k]? = w.heap[k]?) : w'.ownsRow base e size v n xs := by
  obtain ⟨h1, h2⟩ := h
  refine ⟨h1, ?_⟩
  rcases h2 with h2 | ⟨g, cap, cur, hv, hg, hh, r⟩
  · exact .inl h2
  · refine .inr ⟨g, cap, cur, hv, hg, ?_, r⟩
    rw [hk g (by rw [hv]; rfl)]; exact hh

/-- Blocks outside [lo, hi) are as they were. -/
structure Kept (lo hi : Nat) (w w' : World) : Prop where
  os : w'.os = w.os
  tape : w'.tape = w.tape
  output : w'.output = w.output
  size : w.heap.size ≤ w'.heap.size
  block : ∀ k, k < w.heap.size → (k < lo ∨ hi ≤ k) → w'.heap[k]? = w.heap[k]?
theorem Kept.refl (lo hi : Nat) (w : World) : Kept lo hi w w := ⟨rfl, rfl, rfl, Nat.le_refl _, fun _ _ _ => rfl⟩
theorem Kept.trans {lo hi : Nat} {a b c : World} (h : Kept lo hi a b) (k : Kept lo hi b c) : Kept lo hi a c :=
  ⟨k.os.trans h.os, k.tape.trans h.tape, k.output.trans h.output, Nat.le_trans h.size k.size, fun i hi hr => (k.block i (Nat.lt_of_lt_of_le hi h.size) hr).trans (h.block i hi hr)⟩
theorem Kept.of_below {w w' : World} (h : Below w.heap.size w w') (lo hi : Nat) : Kept lo hi w w' := ⟨h.os, h.tape, h.output, h.size, fun k hk _ => h.block k hk⟩
theorem Kept.of_grown {lo hi : Nat} {w w' : World} {r : Option Nat} (h : w.grownBy w' r) (hr : ∀ k, r = some k → lo ≤ k ∧ k < hi) : Kept lo hi w w' :=
  ⟨h.os, h.tape, h.output, h.size, fun k hk ho => h.block k hk (fun e => by have := hr k e.symm; omega)⟩
/-- The header of part i. -/
def hv (hs : Nat → Option Addr × Nat) (qs : List (List Int)) (i : Nat) : Value := .slice (hs i).1 (qs.getD i []).length (hs i).2
/-- The headers, as the row holds them. -/
def rowV (hs : Nat → Option Addr × Nat) (qs : List (List Int)) : List Value := (List.range qs.length).map (hv hs qs)
theorem rowV_len (hs : Nat → Option Addr × Nat) (qs : List (List Int)) : (rowV hs qs).length = qs.length := by simp [rowV]
theorem rowV_at {hs : Nat → Option Addr × Nat} {qs : List (List Int)} {i : Nat} (h : i < qs.length) : (rowV hs qs)[i]? = some (hv hs qs i) := by simp [rowV, h]

/-- Another header at place k. -/
def upd (hs : Nat → Option Addr × Nat) (k : Nat) (x : Option Addr × Nat) : Nat → Option Addr × Nat := fun i => if i = k then x else hs i

theorem getD_set_eq {qs : List (List Int)} {k : Nat} {q : List Int} (h : k < qs.length) : (qs.set k q).getD k [] = q := by simp [List.getD, h]
theorem getD_set_ne {qs : List (List Int)} {k i : Nat} {q : List Int} (h : i ≠ k) : (qs.set k q).getD i [] = qs.getD i [] := by
  simp only [List.getD]
  rw [List.getElem?_set_ne (fun e => h e.symm)]
theorem hv_upd_eq {hs : Nat → Option Addr × Nat} {qs : List (List Int)} {k : Nat} {q : List Int} {x : Option Addr × Nat} (h : k < qs.length) : hv (upd hs k x) (qs.set k q) k = .slice x.1 q.length x.2 := by
  unfold hv upd
  rw [getD_set_eq h, if_pos rfl]
theorem hv_upd_ne {hs : Nat → Option Addr × Nat} {qs : List (List Int)} {k i : Nat} {q : List Int} {x : Option Addr × Nat} (h : i ≠ k) : hv (upd hs k x) (qs.set k q) i = hv hs qs i := by
  unfold hv upd
  rw [getD_set_ne h, if_neg h]
theorem rowV_set {hs : Nat → Option Addr × Nat} {qs : List (List Int)} {k : Nat} {q : List Int} {x : Option Addr × Nat} (h : k < qs.length) : (rowV hs qs).set k (.slice x.1 q.length x.2) = rowV (upd hs k x) (qs.set k q) := by
  apply List.ext_getElem?
  intro i
  by_cases hi : i < qs.length
  · rw [rowV_at (by simpa using hi)]
    by_cases e : i = k
    · subst e
      rw [hv_upd_eq h, List.getElem?_set_self (by rw [rowV_len]; exact h)]
    · rw [hv_upd_ne e, List.getElem?_set_ne (fun x => e x.symm), rowV_at hi]
  · rw [List.getElem?_eq_none (by simp [rowV_len]; omega), List.getElem?_eq_none (by simp [rowV_len]; omega)]

/-- A row of slices in memory of its own: blocks in [lo, hi), each part's apart from every other's and from the row's. -/
structure OwnQ (w : World) (lo hi : Nat) (v : Value) (hs : Nat → Option Addr × Nat) (qs : List (List Int)) : Prop where
  outer : w.ownsRow lo 44 1 v qs.length (rowV hs qs)
  inner : ∀ i, i < qs.length → w.ownsRow lo 2 1 (hv hs qs i) (qs.getD i []).length ((qs.getD i []).map (Value.int .i64))
  apart : ∀ i j, i < qs.length → j < qs.length → i ≠ j → (hv hs qs i).ownBlock = none ∨ (hv hs qs i).ownBlock ≠ (hv hs qs j).ownBlock
  apart0 : ∀ i, i < qs.length → (hv hs qs i).ownBlock = none ∨ (hv hs qs i).ownBlock ≠ v.ownBlock
  top0 : ∀ k, v.ownBlock = some k → k < hi
  top : ∀ i k, i < qs.length → (hv hs qs i).ownBlock = some k → k < hi
section
variable {w w' : World} {lo hi lo' hi' : Nat} {v : Value} {hs : Nat → Option Addr × Nat} {qs : List (List Int)}
theorem OwnQ.same (h : OwnQ w lo hi v hs qs) (hk : ∀ k, lo ≤ k → k < hi → k < w.heap.size → w'.heap[k]? = w.heap[k]?) : OwnQ w' lo hi v hs qs where
  outer := own_same h.outer fun k e => hk k (h.outer.lt k e).1 (h.top0 k e) (h.outer.lt k e).2
  inner i hi := own_same (h.inner i hi) fun k e => hk k ((h.inner i hi).lt k e).1 (h.top i k hi e) ((h.inner i hi).lt k e).2
  apart := h.apart
  apart0 := h.apart0
  top0 := h.top0
  top := h.top
theorem OwnQ.kept (h : OwnQ w lo hi v hs qs) (hk : Kept lo' hi' w w') (hd : hi ≤ lo' ∨ hi' ≤ lo) : OwnQ w' lo hi v hs qs :=
  h.same fun k h1 h2 h3 => hk.block k h3 (by omega)
theorem OwnQ.below (h : OwnQ w lo hi v hs qs) (hb : Below w.heap.size w w') : OwnQ w' lo hi v hs qs := h.same fun k _ _ h3 => hb.block k h3
theorem OwnQ.setBelow (h : OwnQ w lo hi v hs qs) {p : Addr} (hp : p.block < lo) (u : Value) : OwnQ (w.setCell p u) lo hi v hs qs :=
  h.same fun k h1 _ _ => Below.heap_setCell _ _ _ _ (by omega)
theorem OwnQ.more (h : OwnQ w lo hi v hs qs) (h1 : lo' ≤ lo) (h2 : hi ≤ hi') : OwnQ w lo' hi' v hs qs where
  outer := h.outer.mono h1
  inner i hi := (h.inner i hi).mono h1
  apart := h.apart
  apart0 := h.apart0
  top0 k e := Nat.lt_of_lt_of_le (h.top0 k e) h2
  top i k hi e := Nat.lt_of_lt_of_le (h.top i k hi e) h2
theorem OwnQ.lt {i k : Nat} (h : OwnQ w lo hi v hs qs) (hi : i < qs.length) (e : (hv hs qs i).ownBlock = some k) : k < w.heap.size := ((h.inner i hi).lt k e).2
theorem OwnQ.nil (w : World) (lo hi : Nat) (hs : Nat → Option Addr × Nat) : OwnQ w lo hi (.slice none 0 0) hs [] where
  outer := by simpa [rowV] using World.ownsRow_nil w lo 44 1
  inner i hi := by simp at hi
  apart i _ hi := by simp at hi
  apart0 i hi := by simp at hi
  top0 k e := by simp [Value.ownBlock] at e
  top i _ hi := by simp at hi
end
theorem own_cap1 {w : World} {base n c : Nat} {e : TypeId} {A : Option Addr} {xs : List Value} (h : w.ownsRow base e 1 (.slice A n c) n xs) : n ≤ c := by
  rcases h.2 with ⟨hv, rfl⟩ | ⟨g, cap, cur, hv, hb, hh, hn, hc, hs, ht⟩
  · exact Nat.zero_le _
  · injection hv with a1 a2 a3
    subst a3
    exact hn
/-- What is owned reads. -/
theorem OwnQ.rd {w : World} {lo hi n c : Nat} {A : Option Addr} {hs : Nat → Option Addr × Nat} {qs : List (List Int)} (h : OwnQ w lo hi (.slice A n c) hs qs) (hn : qs.length = n) : RdQ w w.heap.size A n qs := by
  subst hn
  refine ⟨rfl, fun hn => ?_⟩
  obtain ⟨g, cap, hv', _, hlt⟩ := h.outer.form hn
  injection hv' with e1 e2 e3
  subst e1; subst e3
  refine ⟨g, 0, rfl, hlt, fun j hj => ⟨(hs j).1, (hs j).2, ?_, own_cap1 (h.inner j hj), RdI.of_own (h.inner j hj)⟩⟩
  rw [Nat.zero_add, h.outer.cellAt j (by omega), rowV_at hj]
  rfl
theorem OwnQ.at {w : World} {lo hi n c k g : Nat} {hs : Nat → Option Addr × Nat} {qs : List (List Int)} (h : OwnQ w lo hi (.slice (some ⟨g, 0, none⟩) n c) hs qs) (hn : qs.length = n) (hk : k < n) :
    w.frozen? ⟨g, k, none⟩ = false ∧ w.cell? ⟨g, k, none⟩ = some (hv hs qs k) := by
  subst hn
  refine ⟨h.outer.frozenAt k, ?_⟩
  rw [h.outer.cellAt k (by omega), rowV_at hk]
/-- Part k replaced by a slice in memory beyond. -/
theorem OwnQ.store {w : World} {lo hi hi' n c k g c' : Nat} {a : Option Addr} {hs : Nat → Option Addr × Nat} {qs : List (List Int)} {q : List Int} (h : OwnQ w lo hi (.slice (some ⟨g, 0, none⟩) n c) hs qs) (hn : qs.length = n) (hk : k < n)
    (hq : w.ownsRow lo 2 1 (.slice a q.length c') q.length (q.map (Value.int .i64))) (hge : ∀ b, (Value.slice a q.length c').ownBlock = some b → hi ≤ b ∧ b < hi') (hh : hi ≤ hi') :
    OwnQ (w.setCell ⟨g, k, none⟩ (.slice a q.length c')) lo hi' (.slice (some ⟨g, 0, none⟩) n c) (upd hs k (a, c')) (qs.set k q) := by
  subst hn
  have hg : g < hi := h.top0 g rfl
  have ho := (h.outer.stored k (.slice a q.length c')).1
  have e := rowV_set (hs := hs) (q := q) (x := (a, c')) hk
  rw [show (Value.slice a q.length c') = .slice (a, c').1 q.length (a, c').2 from rfl, e] at ho
  have hot : ∀ i, i ≠ k → hv (upd hs k (a, c')) (qs.set k q) i = hv hs qs i := fun i hi => hv_upd_ne hi
  have hkk : hv (upd hs k (a, c')) (qs.set k q) k = .slice a q.length c' := hv_upd_eq hk
  refine ⟨by rw [List.length_set]; exact ho, fun i hi => ?_, fun i j hi hj hij => ?_, fun i hi => ?_, fun b e => ?_, fun i b hi e => ?_⟩
  · rw [List.length_set] at hi
    by_cases e : i = k
    · subst e
      rw [hkk, getD_set_eq hk]
      exact own_same hq fun b hb => Below.heap_setCell _ _ _ _ (by have := hge b hb; simp; omega)
    · rw [hot i e, getD_set_ne e]
      refine own_same (h.inner i hi) fun b hb => Below.heap_setCell _ _ _ _ ?_
      rcases h.apart0 i hi with h0 | h0
      · rw [h0] at hb; cases hb
      · rw [hb] at h0
        intro e'
        exact h0 (by rw [e']; rfl)
  · rw [List.length_set] at hi hj
    by_cases e : i = k
    · subst e
      rw [hkk, hot j (fun e => hij e.symm)]
      cases hb : (Value.slice a q.length c').ownBlock with
      | none => exact .inl rfl
      | some b =>
        right
        intro e'
        have := h.top j b hj e'.symm
        have := (hge b hb).1
        omega
    · by_cases e2 : j = k
      · subst e2
        rw [hkk, hot i e]
        cases hb : (hv hs qs i).ownBlock with
        | none => exact .inl rfl
        | some b =>
          right
          intro e'
          have := h.top i b hi hb
          have := (hge b e'.symm).1
          omega
      · rw [hot i e, hot j e2]
        exact h.apart i j hi hj hij
  · rw [List.length_set] at hi
    by_cases e : i = k
    · subst e
      rw [hkk]
      cases hb : (Value.slice a q.length c').ownBlock with
      | none => exact .inl rfl
      | some b =>
        right
        intro e'
        have : b = g := by simpa [Value.ownBlock] using e'
        have := (hge b hb).1
        omega
    · rw [hot i e]
      exact h.apart0 i hi
  · exact Nat.lt_of_lt_of_le (h.top0 b e) hh
  · rw [List.length_set] at hi
    by_cases e1 : i = k
    · subst e1
      rw [hkk] at e
      exact (hge b e).2
    · rw [hot i e1] at e
      exact Nat.lt_of_lt_of_le (h.top i b hi e) hh
/-- Part k written over in place. -/
theorem OwnQ.put {w w' : World} {lo hi k : Nat} {v : Value} {hs : Nat → Option Addr × Nat} {qs : List (List Int)} {q : List Int} (h : OwnQ w lo hi v hs qs) (hk : k < qs.length) (hl : q.length = (qs.getD k []).length)
    (hq : w'.ownsRow lo 2 1 (hv hs qs k) q.length (q.map (Value.int .i64))) (hg : w.grownBy w' (hv hs qs k).ownBlock) : OwnQ w' lo hi v hs (qs.set k q) := by
  have hh : ∀ i, hv hs (qs.set k q) i = hv hs qs i := by
    intro i
    by_cases e : i = k
    · subst e; unfold hv; rw [getD_set_eq hk, hl]
    · unfold hv; rw [getD_set_ne e]
  have hr : rowV hs (qs.set k q) = rowV hs qs := by
    unfold rowV
    rw [List.length_set]
    exact List.map_congr_left fun i _ => hh i
  refine ⟨?_, fun i hi => ?_, fun i j hi hj hij => ?_, fun i hi => ?_, h.top0, fun i b hi e => ?_⟩
  · rw [hr, List.length_set]
    refine h.outer.kept hg ?_
    rcases h.apart0 k hk with h0 | h0
    · rw [h0]; cases v.ownBlock with
      | none => exact .inl rfl
      | some b => exact .inr (by simp)
    · exact .inr fun e => h0 e.symm
  · rw [List.length_set] at hi
    rw [hh i]
    by_cases e : i = k
    · subst e
      rw [getD_set_eq hk]
      exact hq
    · rw [getD_set_ne e]
      exact (h.inner i hi).kept hg (h.apart i k hi hk e)
  · rw [List.length_set] at hi hj
    rw [hh i, hh j]; exact h.apart i j hi hj hij
  · rw [List.length_set] at hi
    rw [hh i]; exact h.apart0 i hi
  · rw [List.length_set] at hi
    rw [hh i] at e; exact h.top i b hi e

/-- A row of n nil parts. -/
theorem OwnQ.fresh {w : World} {lo g n c : Nat} (h : w.ownsRow lo 44 1 (.slice (some ⟨g, 0, none⟩) n c) n (List.replicate n (.slice none 0 0))) (hs : Nat → Option Addr × Nat) (hn : ∀ i, hs i = (none, 0)) (hi : Nat) (hg : g < hi) :
    OwnQ w lo hi (.slice (some ⟨g, 0, none⟩) n c) hs (List.replicate n []) := by
  have hz : ∀ i, hv hs (List.replicate n []) i = .slice none 0 0 := by
    intro i
    unfold hv
    rw [hn i]
    have : ((List.replicate n ([] : List Int)).getD i []).length = 0 := by
      simp only [List.getD]
      by_cases h : i < n
      · simp [h]
      · simp [h]
    rw [this]
  have hr : rowV hs (List.replicate n []) = List.replicate n (.slice none 0 0) := by
    apply List.ext_getElem?
    intro i
    by_cases hi : i < n
    · rw [rowV_at (by simpa using hi), hz]; simp [hi]
    · rw [List.getElem?_eq_none (by rw [rowV_len]; simp; omega), List.getElem?_eq_none (by simp; omega)]
  have hgd : ∀ i, (List.replicate n ([] : List Int)).getD i [] = [] := by
    intro i
    simp only [List.getD]
    by_cases h : i < n
    · simp [h]
    · simp [h]
  refine ⟨by rw [hr]; simpa using h, fun i _ => ?_, fun i j _ _ _ => ?_, fun i _ => ?_, fun k e => ?_, fun i k _ e => ?_⟩
  · rw [hz i, hgd i]; exact World.ownsRow_nil w lo _ 1
  · rw [hz i]; exact .inl rfl
  · rw [hz i]; exact .inl rfl
  · obtain rfl : g = k := by simpa [Value.ownBlock] using e
    exact hg
  · rw [hz i] at e; cases e
/-- The number of all symbols. -/
def total (qs : List (List Int)) : Nat := (qs.map List.length).sum
theorem total_take {qs : List (List Int)} {k : Nat} (h : k < qs.length) : total (qs.take (k + 1)) = total (qs.take k) + (qs.getD k []).length := by
  unfold total
  rw [List.take_succ_eq_append_getElem h, List.map_append, List.sum_append]
  simp [List.getD, h]
theorem total_le {qs : List (List Int)} {k : Nat} (h : k < qs.length) : total (qs.take k) + (qs.getD k []).length ≤ total qs := by
  rw [← total_take h]
  unfold total
  have e : qs = qs.take (k + 1) ++ qs.drop (k + 1) := (List.take_append_drop _ _).symm
  conv => rhs; rw [e, List.map_append, List.sum_append]
  omega
theorem total_all (qs : List (List Int)) {k : Nat} (h : qs.length ≤ k) : total (qs.take k) = total qs := by rw [List.take_of_length_le h]
theorem getD_mem {qs : List (List Int)} {k : Nat} (h : k < qs.length) : qs.getD k [] ∈ qs := by
  simp [List.getD, h]

/-- What is left. -/
def szR (left : Int) (m : Nat) : Int := if left - m < 0 then -1 else left - m
theorem szR_neg {left : Int} {m : Nat} (h : left - m < 0) : szR left m = -1 := if_pos h
theorem szR_pos {left : Int} {m : Nat} (h : ¬ left - m < 0) : szR left m = left - m := if_neg h

/-- How far the copy of a row has come. -/
def cpq (qs : List (List Int)) (k : Nat) : List (List Int) := qs.take k ++ List.replicate (qs.length - k) []
theorem cpq_zero (qs : List (List Int)) : List.replicate qs.length [] = cpq qs 0 := by simp [cpq]
theorem cpq_all (qs : List (List Int)) : cpq qs qs.length = qs := by simp [cpq]
theorem cpq_len {qs : List (List Int)} {k : Nat} (h : k ≤ qs.length) : (cpq qs k).length = qs.length := by simp [cpq]; omega
theorem cpq_step {qs : List (List Int)} {k : Nat} (h : k < qs.length) : (cpq qs k).set k (qs.getD k []) = cpq qs (k + 1) := by
  unfold cpq
  rw [List.set_append_right _ _ (by simp; omega)]
  have e1 : k - (qs.take k).length = 0 := by simp; omega
  rw [e1]
  have e2 : qs.length - k = (qs.length - (k + 1)) + 1 := by omega
  rw [e2, List.replicate_succ, List.set_cons_zero, List.take_succ_eq_append_getElem h, List.append_assoc]
  have e3 : qs.getD k [] = qs[k] := by simp [List.getD, h]
  rw [e3]
  rfl
theorem info_is : (Try.prog.info? 44).map (fun i => (i.zero, i.size, i.bytes)) = some (some (.slice none 0 0), 1, 24) := by kernel_rfl
/-- The parts of a type's facts at one cell. -/
theorem info_parts_s : ∃ i, Try.prog.info? 44 = some i ∧ i.zero = some (.slice none 0 0) ∧ i.size = 1 ∧ i.bytes = 24 := by
  obtain ⟨i, hi, he⟩ := Option.map_eq_some_iff.1 info_is
  simp only [Prod.mk.injEq] at he
  exact ⟨i, hi, he.1, he.2.1, he.2.2⟩
/-- What the copy of a row leaves. -/
def CopiedQ (w : World) (n : Nat) (qs : List (List Int)) (e : Ending) (w' : World) : Prop :=
  ∃ hs, e = .returned (.slice (some ⟨w.heap.size, 0, none⟩) n n) ∧ OwnQ w' w.heap.size w'.heap.size (.slice (some ⟨w.heap.size, 0, none⟩) n n) hs qs ∧ Below w.heap.size w w'
/-- The store of a new part, with what is left of the world below. -/
theorem OwnQ.fill {w wr w1 : World} {A : Option Addr} {n c k g m c' : Nat} {hs : Nat → Option Addr × Nat} {cur : List (List Int)} {q : List Int} (hown : OwnQ wr w.heap.size wr.heap.size (.slice (some ⟨g, 0, none⟩) n c) hs cur) (hn : cur.length = n) (hk : k < n) (hm : m = q.length)
    (hb : Below w.heap.size w wr) (own1 : w1.ownsRow wr.heap.size 2 1 (.slice A m c') m (q.map (Value.int .i64))) (bel1 : Below wr.heap.size wr w1) :
    OwnQ (w1.setCell ⟨g, k, none⟩ (.slice A m c')) w.heap.size (w1.setCell ⟨g, k, none⟩ (.slice A m c')).heap.size (.slice (some ⟨g, 0, none⟩) n c) (upd hs k (A, c')) (cur.set k q) ∧ Below w.heap.size w (w1.setCell ⟨g, k, none⟩ (.slice A m c')) := by
  subst hm
  have e : (w1.setCell ⟨g, k, none⟩ (.slice A q.length c')).heap.size = w1.heap.size := by simp
  rw [e]
  have hg := (hown.outer.lt g rfl).1
  refine ⟨(hown.below bel1).store hn hk (own1.mono hb.size) (fun b hb' => own1.lt b hb') bel1.size, (hb.trans (bel1.mono hb.size)).setCell hg _⟩

theorem takeq_step {zs ys : List (List Int)} {k : Nat} (h : zs.take k = ys.take k) (hz : k < zs.length) (hy : k < ys.length) (he : zs.getD k [] = ys.getD k []) : zs.take (k + 1) = ys.take (k + 1) := by
  rw [List.take_succ_eq_append_getElem hz, List.take_succ_eq_append_getElem hy, h]
  simp [List.getD, hz, hy] at he
  rw [he]
theorem neq_at {zs ys : List (List Int)} {k : Nat} (he : ¬ zs.getD k [] = ys.getD k []) : ¬ zs = ys := fun h => he (by rw [h])

end Go.Proofs.Ytlcapifgpcimpaa
