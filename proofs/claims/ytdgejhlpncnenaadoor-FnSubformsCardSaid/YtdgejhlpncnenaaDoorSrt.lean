/- slices.SortFunc at a row of formulas in memory of its own. -/
import Derived.Test.YtdgejhlpncnenaaDoorSortC
import Derived.Test.YtdgejhlpncnenaaDoorSel
import Derived.Lib.OwnBridge
namespace Go.Proofs.YtdgejhlpncnenaaDoor
open Go.ChangeShapes Go.WideShapes Go.ChangeAt Go.RowKit Go.Shelf Go.Lib Go.Sort

theorem hdr_ok {w : World} {lo hi n c g : Nat} {hs : Nat → Option Addr × Nat} {qs : List (List Int)} (h : OwnQ w lo hi (.slice (some ⟨g, 0, none⟩) n c) hs qs) (hl : ∀ q ∈ qs, q.length ≤ 1048576) {i : Nat} (hi' : i < qs.length) :
    RdI w w.heap.size (hs i).1 (qs.getD i []).length (qs.getD i []) ∧ (∀ b off s, (hs i).1 = some ⟨b, off, s⟩ → b ≠ g) ∧ (qs.getD i []).length ≤ 1048576 := by
  refine ⟨RdI.of_own (h.inner i hi'), fun b off s e e' => ?_, hl _ (getD_mem hi')⟩
  subst e'
  have e1 : (hv hs qs i).ownBlock = some b := by unfold hv; rw [e]; rfl
  rcases h.apart0 i hi' with h0 | h0
  · rw [h0] at e1; cases e1
  · exact h0 e1
def hd1 {w : World} {lo hi n c g : Nat} {hs : Nat → Option Addr × Nat} {qs : List (List Int)} (h : OwnQ w lo hi (.slice (some ⟨g, 0, none⟩) n c) hs qs) (hl : ∀ q ∈ qs, q.length ≤ 1048576) {i : Nat} (hi' : i < qs.length) : Hdr w g := ⟨(((hs i).1, (hs i).2), qs.getD i []), hdr_ok h hl hi'⟩
/-- The header of part i, as the sort takes it. -/
noncomputable def mkH {w : World} {lo hi n c g : Nat} {hs : Nat → Option Addr × Nat} {qs : List (List Int)} (h : OwnQ w lo hi (.slice (some ⟨g, 0, none⟩) n c) hs qs) (hl : ∀ q ∈ qs, q.length ≤ 1048576) (i : Nat) : Hdr w g :=
  if hi' : i < qs.length then hd1 h hl hi' else default
theorem mkH_enc {w : World} {lo hi n c g : Nat} {hs : Nat → Option Addr × Nat} {qs : List (List Int)} (h : OwnQ w lo hi (.slice (some ⟨g, 0, none⟩) n c) hs qs) (hl : ∀ q ∈ qs, q.length ≤ 1048576) {i : Nat} (hi' : i < qs.length) : (mkH h hl i).enc = hv hs qs i := by
  unfold mkH; rw [dif_pos hi']; rfl
theorem mkH_list {w : World} {lo hi n c g : Nat} {hs : Nat → Option Addr × Nat} {qs : List (List Int)} (h : OwnQ w lo hi (.slice (some ⟨g, 0, none⟩) n c) hs qs) (hl : ∀ q ∈ qs, q.length ≤ 1048576) {i : Nat} (hi' : i < qs.length) : (mkH h hl i).list = qs.getD i [] := by
  unfold mkH; rw [dif_pos hi']; rfl

/-- The row is sorted in place: its headers stand in the order of their lists. -/
theorem sortQ_any {w : World} {lo hi n c g : Nat} {hs : Nat → Option Addr × Nat} {qs : List (List Int)} (h : OwnQ w lo hi (.slice (some ⟨g, 0, none⟩) n c) hs qs) (hn : qs.length = n) (hn1 : n ≤ 1000) (hl : ∀ q ∈ qs, q.length ≤ 1048576) :
    Calls Tryd.prog 38 #[.slice (some ⟨g, 0, none⟩) n c, .func (.func 39) #[] #[]] w fun e w' => e = .returned (.tuple #[]) ∧
      ∃ sel, sel.Perm (List.range n) ∧ SoL (selQ qs sel) ∧ OwnQ w' lo hi (.slice (some ⟨g, 0, none⟩) n c) (selH hs sel) (selQ qs sel) ∧ Below lo w w' := by
  subst hn
  have hg := h.outer.lt g rfl
  have hrow : (rowV hs qs) = ((List.range qs.length).map (mkH h hl)).map Hdr.enc := by
    unfold rowV
    rw [List.map_map]
    exact List.map_congr_left fun i hi' => (mkH_enc h hl (List.mem_range.1 hi')).symm
  have hsz : ((List.range qs.length).map (mkH h hl)).toArray.size = qs.length := by simp
  have hH : Holds Hdr.enc w g 0 ((List.range qs.length).map (mkH h hl)).toArray := by
    intro j hj
    rw [hsz] at hj
    obtain ⟨h1, h2⟩ := h.at rfl hj
    rw [Nat.zero_add]
    refine ⟨?_, h1⟩
    rw [h2, ← mkH_enc h hl hj]
    congr 1
    simp [getElem!_pos, hj]
  have hC := sortFunc_any g c w ((List.range qs.length).map (mkH h hl)).toArray hH hg.2 (by rw [hsz]; omega)
  rw [hsz] at hC
  refine hC.mono ?_
  rintro e w' ⟨he, d', m, os, hp, hs', rfl⟩
  refine ⟨he, ?_⟩
  obtain ⟨p1, _, p3⟩ := hp
  rw [hsz] at p1
  have x1 : d'.extract 0 qs.length = d' := by rw [← p1]; simp
  have x2 : (((List.range qs.length).map (mkH h hl)).toArray).extract 0 qs.length = ((List.range qs.length).map (mkH h hl)).toArray := by
    generalize ((List.range qs.length).map (mkH h hl)).toArray = D at hsz ⊢
    rw [← hsz]; simp
  rw [x1, x2] at p3
  obtain ⟨sel, hsel, hd⟩ := perm_map (f := mkH h hl) (l := d'.toList) (m := List.range qs.length) (by simpa using p3)
  have hlen : sel.length = qs.length := by have := hsel.length_eq; simpa using this
  have hlt : ∀ i ∈ sel, i < qs.length := fun i hi' => List.mem_range.1 (hsel.mem_iff.1 hi')
  have hnd : sel.Nodup := hsel.nodup_iff.2 List.nodup_range
  have hdd : d' = (sel.map (mkH h hl)).toArray := by rw [← hd]
  have henc : (sel.map (mkH h hl)).map Hdr.enc = sel.map (hv hs qs) := by
    rw [List.map_map]
    exact List.map_congr_left fun i hi' => mkH_enc h hl (hlt i hi')
  have howr := h.outer
  rw [hrow] at howr
  have ho := ownsRow_putRow (q := m) (k := qs.length) (ys := sel.map (mkH h hl)) howr (by rw [List.length_map]; exact hlen) (Nat.le_refl _)
  rw [List.take_of_length_le (by rw [List.length_map]; omega), henc] at ho
  have hgl : (putRow Hdr.enc (Sort.ahead w m) g 0 (sel.map (mkH h hl)).toArray).heap.size = w.heap.size := by simp [putRow, mapBlock, Sort.ahead]
  have hkeep : ∀ k, k ≠ g → k < w.heap.size → (sortWorld Hdr.enc w g 0 m d' os).heap[k]? = w.heap[k]? := by
    intro k hk hkl
    unfold sortWorld
    rw [heap_grow_old _ _ (by simp [putRow, mapBlock, Sort.ahead]; exact hkl)]
    have hk' : ¬ g = k := fun e => hk e.symm
    simp [putRow, mapBlock, Sort.ahead, Array.getElem?_modify, hk']
  have hB : Below lo w (sortWorld Hdr.enc w g 0 m d' os) := by
    refine ⟨rfl, rfl, rfl, ?_, fun k hk => hkeep k (by omega) (by omega)⟩
    unfold sortWorld
    rw [size_grow]
    simp [putRow, mapBlock, Sort.ahead]
  have ho' : (sortWorld Hdr.enc w g 0 m d' os).ownsRow lo 24 1 (.slice (some ⟨g, 0, none⟩) sel.length c) sel.length (sel.map (hv hs qs)) := by
    rw [hlen, hdd]
    exact own_same ho fun k e => by
      obtain rfl : g = k := by simpa [Value.ownBlock] using e
      exact heap_grow_old _ _ (by rw [hgl]; exact hg.2)
  have hq := h.select (v' := .slice (some ⟨g, 0, none⟩) sel.length c) hlt hnd rfl (fun k hk hkl => hkeep k (fun e => hk (by rw [e]; rfl)) hkl) ho'
  rw [hlen] at hq
  refine ⟨sel, hsel, ?_, hq, hB⟩
  unfold SoL
  rw [List.pairwise_iff_getElem]
  intro i j hi' hj' hij
  rw [selQ_len] at hi' hj'
  have h1 := hs' i j (Nat.zero_le _) hij (by omega)
  have h2 := of_decide_eq_false h1
  have gi : d'[i]! = mkH h hl (sel[i]) := by rw [hdd]; simp [getElem!_pos, hi']
  have gj : d'[j]! = mkH h hl (sel[j]) := by rw [hdd]; simp [getElem!_pos, hj']
  unfold Hdr.cmp at h2
  rw [gi, gj, mkH_list h hl (hlt _ (List.getElem_mem _)), mkH_list h hl (hlt _ (List.getElem_mem _))] at h2
  have e1 : (selQ qs sel)[i]'(by rw [selQ_len]; exact hi') = qs.getD sel[i] [] := by simp [selQ]
  have e2 : (selQ qs sel)[j]'(by rw [selQ_len]; exact hj') = qs.getD sel[j] [] := by simp [selQ]
  rw [e1, e2]
  have := cmpL_neg (qs.getD sel[i] []) (qs.getD sel[j] [])
  omega
end Go.Proofs.YtdgejhlpncnenaaDoor
