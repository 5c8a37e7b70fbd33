/- DualSeq of the model. -/
import Derived.Test.YtdgejhlpncnenaaDoorMapd
import Derived.Deep.RegionLaw
import Derived.Deep.AppendLies
namespace Go.Proofs.YtdgejhlpncnenaaDoor
open Go.ChangeShapes Go.WideShapes Go.ChangeAt Go.RowKit

theorem three_heap (w : World) (a b c : Obj) : (((w.alloc a).alloc b).alloc c).heap[w.heap.size]? = some a ∧ (((w.alloc a).alloc b).alloc c).heap[w.heap.size + 1]? = some b ∧ (((w.alloc a).alloc b).alloc c).heap[w.heap.size + 1 + 1]? = some c := by
  obtain ⟨h1, h2⟩ := two_heap w a b
  exact ⟨(Below.heap_alloc _ _ _ (by simp; omega)).trans h1, heap_two _ _ _ _, heap_three _ _ _ _⟩

/-- .. where the variable lies below the parts. -/
theorem seq_out2 {w wr : World} {V : List (List Int)} {A : Option Addr} {n c b lo b0 : Nat} {t : TypeId} {v : Value} {hs : Nat → Option Addr × Nat} (hb : Below b0 w wr) (hlo : b0 ≤ b) (hlt : b < lo) (hh : wr.heap[b]? = some (.cells #[v] t (0, 0)))
    (own : OwnQ wr lo wr.heap.size (.slice A n c) hs V) :
    (wr.setCell ⟨b, 0, none⟩ (.slice A n c)).heap[b]? = some (.cells #[.slice A n c] t (0, 0)) ∧
      OwnQ (wr.setCell ⟨b, 0, none⟩ (.slice A n c)) b0 (wr.setCell ⟨b, 0, none⟩ (.slice A n c)).heap.size (.slice A n c) hs V ∧ Below b0 w (wr.setCell ⟨b, 0, none⟩ (.slice A n c)) := by
  have e : (wr.setCell ⟨b, 0, none⟩ (.slice A n c)).heap.size = wr.heap.size := by simp
  refine ⟨cell_set hh, ?_, hb.setCell hlo _⟩
  rw [e]
  exact (own.setBelow hlt _).more (by omega) (Nat.le_refl _)

theorem set_far {w : World} {b : Nat} {u : Value} {p : Addr} (h : p.block ≠ b) : (w.setCell ⟨b, 0, none⟩ u).cell? p = w.cell? p := World.cell?_of_block (Below.heap_setCell _ _ _ _ h)
/-- The append of a new part to a row in a variable of one's own (block b): what it asks. -/
theorem push_in {w5 w6 : World} {lo k c2 c6 : Nat} {A2 A6 : Option Addr} {hs : Nat → Option Addr × Nat} {cur : List (List Int)} {dq : List Int} (own5 : OwnQ w5 lo w5.heap.size (.slice A2 k c2) hs cur) (hlen : cur.length = k) (hlo : lo ≤ w5.heap.size)
    (bel6 : Below w5.heap.size w5 w6) :
    (w6.alloc (.cells #[.slice A6 dq.length c6] 24)).ownsRow lo 24 1 (.slice A2 k c2) k (rowV hs cur) ∧
      (∀ j u, [Value.slice A6 dq.length c6][j]? = some u → (w6.alloc (.cells #[.slice A6 dq.length c6] 24)).cell? ((⟨w6.heap.size, 0, none⟩ : Addr).add j) = some u) ∧ lo ≤ (w6.alloc (.cells #[.slice A6 dq.length c6] 24)).heap.size := by
  have h := ((own5.below bel6).below (box_below w6 (.slice A6 dq.length c6) 24)).outer
  rw [hlen] at h
  have hs6 := bel6.size
  exact ⟨h, World.news_of_block (heap_alloc_new w6 (.cells #[.slice A6 dq.length c6] 24)), by simp; omega⟩
/-- .. and what it leaves, the store behind it done. -/
theorem push_out {w3 w5 w6 w7 : World} {b lo k c2 c6 g cap : Nat} {A2 A6 : Option Addr} {t : TypeId} {hs : Nat → Option Addr × Nat} {cur : List (List Int)} {dq : List Int} (own5 : OwnQ w5 lo w5.heap.size (.slice A2 k c2) hs cur) (hlen : cur.length = k) (hlo : lo ≤ w5.heap.size) (hbl : b < lo)
    (bl5 : Below b w3 w5) (hb5 : w5.heap[b]? = some (.cells #[.slice A2 k c2] t (0, 0))) (bel6 : Below w5.heap.size w5 w6) (own6 : w6.ownsRow w5.heap.size 2 1 (.slice A6 dq.length c6) dq.length (dq.map (Value.int .i64)))
    (hown7 : w7.ownsRow lo 24 1 (.slice (some ⟨g, 0, none⟩) (k + 1) cap) (k + 1) (rowV hs cur ++ [.slice A6 dq.length c6])) (hgrow7 : (w6.alloc (.cells #[.slice A6 dq.length c6] 24)).grownBy w7 (Value.slice A2 k c2).ownBlock)
    (hat7 : (Value.slice A2 k c2).ownBlock = some g ∨ g = (w6.alloc (.cells #[.slice A6 dq.length c6] 24)).heap.size) :
    (∀ p : Addr, p.block < lo → w7.cell? p = w5.cell? p) ∧ w7.frozen? ⟨b, 0, none⟩ = false ∧
      (w7.setCell ⟨b, 0, none⟩ (.slice (some ⟨g, 0, none⟩) (k + 1) cap)).heap[b]? = some (.cells #[.slice (some ⟨g, 0, none⟩) (k + 1) cap] t (0, 0)) ∧
      OwnQ (w7.setCell ⟨b, 0, none⟩ (.slice (some ⟨g, 0, none⟩) (k + 1) cap)) lo (w7.setCell ⟨b, 0, none⟩ (.slice (some ⟨g, 0, none⟩) (k + 1) cap)).heap.size (.slice (some ⟨g, 0, none⟩) (k + 1) cap) (upd hs cur.length (A6, c6)) (cur ++ [dq]) ∧
      Below b w3 (w7.setCell ⟨b, 0, none⟩ (.slice (some ⟨g, 0, none⟩) (k + 1) cap)) := by
  have hbx := box_below w6 (.slice A6 dq.length c6) 24
  have hs6 := bel6.size
  have hsx := hbx.size
  have ob : ∀ q, (Value.slice A2 k c2).ownBlock = some q → lo ≤ q := fun q e => (own5.outer.lt q e).1
  have b67 : Below lo w5 w7 := ((bel6.mono hlo).trans (hbx.mono (by omega))).grown hgrow7 (by omega) ob
  have hb7 := (b67.block b hbl).trans hb5
  have own6a := (own5.below bel6).below hbx
  subst hlen
  have hq := OwnQ.push (hi' := w7.heap.size) own6a ((own6.mono hlo).alloc (.cells #[.slice A6 dq.length c6] 24)) (fun q e => (own6.lt q e).1) hown7 hgrow7
    (fun q e => by
      obtain rfl : g = q := by simpa [Value.ownBlock] using e
      rcases hat7 with h | h
      · exact .inl h
      · exact .inr (Nat.le_of_eq h.symm)) (by omega) (Nat.le_refl _)
  have e : (w7.setCell ⟨b, 0, none⟩ (.slice (some ⟨g, 0, none⟩) (cur.length + 1) cap)).heap.size = w7.heap.size := by simp
  refine ⟨fun p hp => b67.cell hp, frozen_of_row _ _ 0 _ _ hb7, cell_set hb7, ?_, (bl5.trans (b67.mono (by omega))).setCell (Nat.le_refl _) _⟩
  rw [e]
  exact hq.setBelow hbl _

theorem total_small {qs : List (List Int)} (h : ∀ q ∈ qs, q.length ≤ 24) : total qs ≤ 24 * qs.length := by
  induction qs with
  | nil => simp [total]
  | cons x xs ih =>
    have h1 := h x (by simp)
    have h2 := ih fun q hq => h q (by simp [hq])
    have e : total (x :: xs) = x.length + total xs := by simp [total]
    rw [e, List.length_cons]
    omega
theorem dualQ_small (qs : List (List Int)) : (dualQ qs).length ≤ 1048576 ∧ total (dualQ qs) ≤ 1048576 := by
  cases hv : validQ qs with
  | false => rw [dualQ_no hv]; simp [total]
  | true =>
    have hl := validQ_len hv
    rw [dualQ_yes hv]
    have ht := total_small (qs := qs.map dualL) fun q hq => by
      obtain ⟨x, _, rfl⟩ := List.mem_map.1 hq
      exact dualL_len x
    rw [List.length_map] at ht ⊢
    omega
end Go.Proofs.YtdgejhlpncnenaaDoor
