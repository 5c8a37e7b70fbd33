/- Owned parts of an array; the program's binding.with. -/
import Derived.Test.YtoniekjchabjlaaDoorBndE
import Derived.Test.YtoniekjchabjlaaDoorSubI
import Derived.Test.YtoniekjchabjlaaDoorEqD
import Derived.Deep.RegionHeldLaw
namespace Go.Proofs.YtoniekjchabjlaaDoor
open Go.ChangeAt Go.ChangeShapes Go.RowKit Go.WideShapes

/-- The parts of a row in memory of their own, apart. -/
structure PartsO (w : World) (lo hi : Nat) (hs : Nat → Option Addr × Nat) (qs : List (List Int)) : Prop where
  inner : ∀ i, i < qs.length → w.ownsRow lo 2 1 (hv hs qs i) (qs.getD i []).length ((qs.getD i []).map (Value.int .i64))
  apart : ∀ i j, i < qs.length → j < qs.length → i ≠ j → (hv hs qs i).ownBlock = none ∨ (hv hs qs i).ownBlock ≠ (hv hs qs j).ownBlock
  top : ∀ i k, i < qs.length → (hv hs qs i).ownBlock = some k → k < hi
theorem PartsO.below {w w' : World} {lo hi : Nat} {hs : Nat → Option Addr × Nat} {qs : List (List Int)} (h : PartsO w lo hi hs qs) (hb : Below w.heap.size w w') : PartsO w' lo hi hs qs :=
  ⟨fun i hi => own_below (h.inner i hi) hb (Nat.le_refl _), h.apart, h.top⟩
theorem PartsO.more {w : World} {lo lo' hi hi' : Nat} {hs : Nat → Option Addr × Nat} {qs : List (List Int)} (h : PartsO w lo hi hs qs) (h1 : lo' ≤ lo) (h2 : hi ≤ hi') : PartsO w lo' hi' hs qs :=
  ⟨fun i hi => (h.inner i hi).mono h1, h.apart, fun i k hi e => Nat.lt_of_lt_of_le (h.top i k hi e) h2⟩
theorem PartsO.off {w w' : World} {lo hi : Nat} {hs : Nat → Option Addr × Nat} {qs : List (List Int)} (h : PartsO w lo hi hs qs) (hk : ∀ k, lo ≤ k → k < w.heap.size → w'.heap[k]? = w.heap[k]?) : PartsO w' lo hi hs qs :=
  ⟨fun i hi => own_same (h.inner i hi) fun k e => hk k ((h.inner i hi).lt k e).1 ((h.inner i hi).lt k e).2, h.apart, h.top⟩
theorem PartsO.keep {w w' : World} {lo hi B : Nat} {hs : Nat → Option Addr × Nat} {qs : List (List Int)} (h : PartsO w lo hi hs qs) (hb : Below B w w') (hB : hi ≤ B) : PartsO w' lo hi hs qs :=
  ⟨fun i hi' => own_same (h.inner i hi') fun k e => hb.block k (Nat.lt_of_lt_of_le (h.top i k hi' e) hB), h.apart, h.top⟩
theorem PartsO.zero (w : World) (lo hi : Nat) : PartsO w lo hi (fun _ => (none, 0)) (List.replicate 8 []) := by
  have hz : ∀ i, hv (fun _ => (none, 0)) (List.replicate 8 []) i = .slice none 0 0 := by
    intro i
    unfold hv
    have : ((List.replicate 8 ([] : List Int)).getD i []).length = 0 := by
      simp only [List.getD, List.getElem?_replicate]
      split <;> rfl
    rw [this]
  have hq : ∀ i, (List.replicate 8 ([] : List Int)).getD i [] = [] := by
    intro i
    simp only [List.getD, List.getElem?_replicate]
    split <;> rfl
  refine ⟨fun i _ => ?_, fun i j _ _ _ => .inl ?_, fun i k _ e => ?_⟩
  · rw [hz, hq]; exact World.ownsRow_nil _ _ _ _
  · rw [hz]; rfl
  · rw [hz] at e; cases e
/-- A part replaced by one in memory beyond. -/
theorem PartsO.set {w : World} {lo hi hi' k c' : Nat} {a : Option Addr} {hs : Nat → Option Addr × Nat} {qs : List (List Int)} {q : List Int} (h : PartsO w lo hi hs qs) (hk : k < qs.length)
    (hq : w.ownsRow lo 2 1 (.slice a q.length c') q.length (q.map (Value.int .i64))) (hge : ∀ b, (Value.slice a q.length c').ownBlock = some b → hi ≤ b ∧ b < hi') (hh : hi ≤ hi') :
    PartsO w lo hi' (upd hs k (a, c')) (qs.set k q) := by
  have hot : ∀ i, i ≠ k → hv (upd hs k (a, c')) (qs.set k q) i = hv hs qs i := fun i hi => hv_upd_ne hi
  have hkk : hv (upd hs k (a, c')) (qs.set k q) k = .slice a q.length c' := hv_upd_eq hk
  refine ⟨fun i hi => ?_, fun i j hi hj hij => ?_, fun i b hi e => ?_⟩
  · rw [List.length_set] at hi
    by_cases e : i = k
    · subst e
      rw [hkk, getD_set_eq hk]
      exact hq
    · rw [hot i e, getD_set_ne e]
      exact h.inner i hi
  · rw [List.length_set] at hi hj
    by_cases e : i = k
    · subst e
      rw [hkk, hot j (fun e => hij e.symm)]
      cases hb : (Value.slice a q.length c').ownBlock with
      | none => exact .inl rfl
      | some b =>
        right
        intro e'
        have := h.top j b hj e'.symm
        have := (hge b hb).1
        omega
    · by_cases e2 : j = k
      · subst e2
        rw [hkk, hot i e]
        cases hb : (hv hs qs i).ownBlock with
        | none => exact .inl rfl
        | some b =>
          right
          intro e'
          have := h.top i b hi hb
          have := (hge b e'.symm).1
          omega
      · rw [hot i e, hot j e2]
        exact h.apart i j hi hj hij
  · rw [List.length_set] at hi
    by_cases e1 : i = k
    · subst e1
      rw [hkk] at e
      exact (hge b e).2
    · rw [hot i e1] at e
      exact Nat.lt_of_lt_of_le (h.top i b hi e) hh
theorem rowV_one (hs : Nat → Option Addr × Nat) (qs : List (List Int)) : ∀ v ∈ rowV hs qs, v.oneCell' = true := by
  intro v hv
  obtain ⟨i, _, rfl⟩ := List.mem_map.1 hv
  rfl
theorem PartsO.bnd {w : World} {lo hi : Nat} {hs : Nat → Option Addr × Nat} {qs : List (List Int)} (h : PartsO w lo hi hs qs) (h8 : qs.length = 8) : BndV w (rowV hs qs).toArray qs :=
  ⟨by simp [rowV_len, h8], h8, by rw [Array.all_eq_true_iff_forall_mem]; intro v hv; exact rowV_one hs qs v (by simpa using hv), fun k hk => by
    refine ⟨(hs k).1, (hs k).2, ?_, own_cap1 (h.inner k (by omega)), RdI.of_own (h.inner k (by omega))⟩
    rw [List.getElem?_toArray]; exact rowV_at (by omega)⟩
end Go.Proofs.YtoniekjchabjlaaDoor
