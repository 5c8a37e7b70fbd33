/- A row of some of the parts, in another order, in the same block: what sorting and striking leave. -/
import Derived.Test.YtdgejhlpncnenaaDoorCopyS
import Derived.Test.YtdgejhlpncnenaaDoorSubM
namespace Go.Proofs.YtdgejhlpncnenaaDoor
open Go.ChangeShapes Go.WideShapes Go.ChangeAt Go.RowKit

/-- The parts at the places sel. -/
def selQ (qs : List (List Int)) (sel : List Nat) : List (List Int) := sel.map fun i => qs.getD i []
def selH (hs : Nat → Option Addr × Nat) (sel : List Nat) : Nat → Option Addr × Nat := fun j => hs (sel.getD j 0)
theorem selQ_len (qs : List (List Int)) (sel : List Nat) : (selQ qs sel).length = sel.length := List.length_map _
theorem selQ_get {qs : List (List Int)} {sel : List Nat} {j : Nat} (h : j < sel.length) : (selQ qs sel).getD j [] = qs.getD (sel.getD j 0) [] := by
  simp [selQ, List.getD, h]
theorem sel_hv {hs : Nat → Option Addr × Nat} {qs : List (List Int)} {sel : List Nat} {j : Nat} (h : j < sel.length) : hv (selH hs sel) (selQ qs sel) j = hv hs qs (sel.getD j 0) := by
  unfold hv selH
  rw [selQ_get h]
theorem sel_row (hs : Nat → Option Addr × Nat) (qs : List (List Int)) (sel : List Nat) : rowV (selH hs sel) (selQ qs sel) = sel.map (hv hs qs) := by
  apply List.ext_getElem?
  intro j
  by_cases hj : j < sel.length
  · rw [rowV_at (by rw [selQ_len]; exact hj), sel_hv hj]
    simp [List.getD, hj]
  · rw [List.getElem?_eq_none (by rw [rowV_len, selQ_len]; omega), List.getElem?_eq_none (by simp; omega)]
theorem OwnQ.select {w w' : World} {lo hi : Nat} {v v' : Value} {hs : Nat → Option Addr × Nat} {qs : List (List Int)} {sel : List Nat} (h : OwnQ w lo hi v hs qs) (hlt : ∀ i ∈ sel, i < qs.length) (hnd : sel.Nodup)
    (hb : v'.ownBlock = v.ownBlock) (hk : ∀ k, some k ≠ v.ownBlock → k < w.heap.size → w'.heap[k]? = w.heap[k]?) (ho : w'.ownsRow lo 24 1 v' sel.length (sel.map (hv hs qs))) :
    OwnQ w' lo hi v' (selH hs sel) (selQ qs sel) := by
  have hm : ∀ j, j < sel.length → sel.getD j 0 < qs.length := fun j hj => hlt _ (by simp [List.getD, hj])
  have hinj : ∀ i j, i < sel.length → j < sel.length → i ≠ j → sel.getD i 0 ≠ sel.getD j 0 := by
    intro i j hi hj hij e
    have e' : sel[i] = sel[j] := by simpa [List.getD, hi, hj] using e
    exact hij ((List.getElem_inj hnd).1 e')
  refine ⟨?_, fun j hj => ?_, fun i j hi hj hij => ?_, fun j hj => ?_, fun k e => h.top0 k (hb ▸ e), fun j k hj e => ?_⟩
  · rw [selQ_len, sel_row]; exact ho
  · rw [selQ_len] at hj
    rw [sel_hv hj, selQ_get hj]
    refine own_same (h.inner _ (hm j hj)) fun k e => hk k (fun e' => ?_) (h.lt (hm j hj) e)
    rcases h.apart0 _ (hm j hj) with h0 | h0
    · rw [h0] at e; cases e
    · exact h0 (e.trans e')
  · rw [selQ_len] at hi hj
    rw [sel_hv hi, sel_hv hj]
    exact h.apart _ _ (hm i hi) (hm j hj) (hinj i j hi hj hij)
  · rw [selQ_len] at hj
    rw [sel_hv hj, hb]
    exact h.apart0 _ (hm j hj)
  · rw [selQ_len] at hj
    rw [sel_hv hj] at e
    exact h.top _ k (hm j hj) e
/-- A permutation of a mapped list is the map of a permutation. -/
theorem perm_map {α β : Type} {f : α → β} {l : List β} {m : List α} (h : l.Perm (m.map f)) : ∃ m' : List α, m'.Perm m ∧ l = m'.map f := by
  generalize hx : m.map f = x at h
  induction h generalizing m with
  | nil => 
    have : m = [] := List.map_eq_nil_iff.1 hx
    subst this
    exact ⟨[], .refl _, rfl⟩
  | cons a _ ih =>
    obtain ⟨b, t, rfl, rfl, ht⟩ := List.map_eq_cons_iff.1 hx
    obtain ⟨t', h1, h2⟩ := ih ht
    exact ⟨b :: t', h1.cons b, by rw [h2]; rfl⟩
  | swap a b l =>
    obtain ⟨c, t, rfl, rfl, ht⟩ := List.map_eq_cons_iff.1 hx
    obtain ⟨d, u, rfl, rfl, rfl⟩ := List.map_eq_cons_iff.1 ht
    exact ⟨d :: c :: u, .swap _ _ _, rfl⟩
  | trans _ _ ih1 ih2 =>
    obtain ⟨m1, h1, h2⟩ := ih2 hx
    obtain ⟨m2, h3, h4⟩ := ih1 h2.symm
    exact ⟨m2, h3.trans h1, h4⟩
end Go.Proofs.YtdgejhlpncnenaaDoor
