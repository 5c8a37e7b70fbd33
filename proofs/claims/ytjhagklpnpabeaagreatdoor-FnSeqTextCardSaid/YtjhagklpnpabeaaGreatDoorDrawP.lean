/- The model's draw of a sequent: parts of at most 64 symbols in memory of its own, at most twelve of them. The model's draw of a sequent: the walk. The model's draws of a position and of the arguments of SwappedSeq. -/
import Derived.Test.YtjhagklpnpabeaaGreatDoorCopyS
import Derived.Test.YtjhagklpnpabeaaGreatDoorAny
import Derived.Deep.RegionLaw
import Derived.Deep.AppendLies
import Derived.StillTailTactics
import Derived.Test.YtjhagklpnpabeaaGreatDoorSwap
namespace Go.Proofs.YtjhagklpnpabeaaGreatDoor
open Go.ChangeAt Go.ChangeShapes Go.RowKit Go.WideShapes

/-- A sequent that is being drawn: its variable is block b, its parts lie at lo and above; the source is block g. -/
structure DQ (w : World) (g : Nat) (A : Option Addr) (n c : Nat) (code : List Int) (b lo : Nat) (cur : List (List Int)) (A2 : Option Addr) (c2 : Nat) (wr : World) : Prop where
  own : ∃ hs, OwnQ wr lo wr.heap.size (.slice A2 cur.length c2) hs cur
  cell : wr.heap[b]? = some (.cells #[.slice A2 cur.length c2] 26 (0, 0))
  res : wr.heap[w.heap.size]? = some (.cells #[.slice none 0 0] 26 (0, 0))
  src : Src wr g A n c code
  grew : w.grownBy wr (some g)
  pl : g < w.heap.size ∧ w.heap.size < b ∧ b < lo ∧ lo ≤ wr.heap.size
  bd : ∀ q ∈ cur, q.length ≤ 64

theorem DQ.picked {w wr w' : World} {g n c b lo c2 : Nat} {A A2 : Option Addr} {code : List Int} {cur : List (List Int)} (h : DQ w g A n c code b lo cur A2 c2 wr) (hs : Src w' g A n c code) (hg : wr.grownBy w' (some g)) : DQ w g A n c code b lo cur A2 c2 w' := by
  obtain ⟨⟨hs', ho⟩, hc, hrs, _, hgr, hpl, hbd⟩ := h
  refine ⟨⟨hs', (ho.same (w' := w') fun k h1 _ h3 => hg.block k h3 (fun e => by injection e with e; omega)).more (Nat.le_refl _) hg.size⟩, (hg.block b ?_ (fun e => by injection e with e; omega)).trans hc, (hg.block w.heap.size ?_ (fun e => by injection e with e; omega)).trans hrs, hs, grownBy_trans hgr hg, ⟨hpl.1, hpl.2.1, hpl.2.2.1, Nat.le_trans hpl.2.2.2 hg.size⟩, hbd⟩ <;> omega

/-- One part more: drawn, appended, stored. -/
theorem DQ.push {w wr w6 w7 : World} {g n c b lo c2 c6 g7 cap : Nat} {A A2 A6 : Option Addr} {code L : List Int} {cur : List (List Int)} (h : DQ w g A n c code b lo cur A2 c2 wr) (hs : Src w6 g A n c code) (hg : wr.grownBy w6 (some g))
    (own6 : w6.ownsRow wr.heap.size 2 1 (.slice A6 L.length c6) L.length (L.map (Value.int .i64))) (hL : L.length ≤ 64) {hs0 : Nat → Option Addr × Nat} (ho : OwnQ wr lo wr.heap.size (.slice A2 cur.length c2) hs0 cur)
    (hown7 : w7.ownsRow lo 35 1 (.slice (some ⟨g7, 0, none⟩) (cur.length + 1) cap) (cur.length + 1) (rowV hs0 cur ++ [.slice A6 L.length c6])) (hgrow7 : (w6.alloc (.cells #[.slice A6 L.length c6] 35)).grownBy w7 (Value.slice A2 cur.length c2).ownBlock)
    (hat7 : (Value.slice A2 cur.length c2).ownBlock = some g7 ∨ g7 = (w6.alloc (.cells #[.slice A6 L.length c6] 35)).heap.size) :
    DQ w g A n c code b lo (cur ++ [L]) (some ⟨g7, 0, none⟩) cap (w7.setCell ⟨b, 0, none⟩ (.slice (some ⟨g7, 0, none⟩) (cur.length + 1) cap)) := by
  have h6 := h.picked hs hg
  obtain ⟨_, hc6, hrs6, _, hgr6, hpl6, hbd⟩ := h6
  have ho6 : OwnQ w6 lo wr.heap.size (.slice A2 cur.length c2) hs0 cur := ho.same fun k h1 _ h3 => hg.block k h3 (fun e => by injection e with e; have := hpl6; omega)
  have hbx := box_below w6 (.slice A6 L.length c6) 35
  have hs6 := hg.size
  have hsx := hbx.size
  have hsx' : (w6.alloc (.cells #[.slice A6 L.length c6] 35)).heap.size = w6.heap.size + 1 := by simp
  have ob : ∀ q, (Value.slice A2 cur.length c2).ownBlock = some q → lo ≤ q := fun q e => (ho.outer.lt q e).1
  have ho6a := ho6.below hbx
  have hloq : lo ≤ wr.heap.size := h.pl.2.2.2
  have hq := OwnQ.push (hi' := w7.heap.size) ho6a ((own6.mono hloq).alloc (.cells #[.slice A6 L.length c6] 35)) (fun q e => (own6.lt q e).1) hown7 hgrow7
    (fun q e => by
      obtain rfl : g7 = q := by simpa [Value.ownBlock] using e
      rcases hat7 with h | h
      · exact .inl h
      · exact .inr (Nat.le_of_eq h.symm)) (by omega) (Nat.le_refl _)
  have g67 : w6.grownBy (w6.alloc (.cells #[.slice A6 L.length c6] 35)) (some g) := grown_alloc _ _ _
  have g7 := grown_own (grown_own hgr6 (grown_alloc w6 (.cells #[.slice A6 L.length c6] 35) none) (by simp)) hgrow7 (fun q e => by have := ob q e; have := hpl6; omega)
  have s7 := (hs.grown (grown_alloc w6 (.cells #[.slice A6 L.length c6] 35) none) (by simp)).grown hgrow7 (fun q e => by have := ob q e; have := hpl6; omega)
  have hb7 : w7.heap[b]? = some (.cells #[.slice A2 cur.length c2] 26 (0, 0)) :=
    (hgrow7.block b (by have := hpl6; omega) (fun e => by have := ob b e.symm; have := hpl6; omega)).trans ((Below.heap_alloc w6 _ b (by have := hpl6; omega)).trans hc6)
  have hr7 : w7.heap[w.heap.size]? = some (.cells #[.slice none 0 0] 26 (0, 0)) :=
    (hgrow7.block w.heap.size (by have := hpl6; omega) (fun e => by have := ob _ e.symm; have := hpl6; omega)).trans ((Below.heap_alloc w6 _ _ (by have := hpl6; omega)).trans hrs6)
  have e : ∀ v, (w7.setCell ⟨b, 0, none⟩ v).heap.size = w7.heap.size := fun v => by simp
  have el : (cur ++ [L]).length = cur.length + 1 := by simp
  refine ⟨⟨upd hs0 cur.length (A6, c6), ?_⟩, ?_, ?_, ?_, ?_, ?_, ?_⟩
  · rw [e, el]
    exact hq.setBelow (by have := hpl6; show b < lo; omega) _
  · rw [el]; exact cell_set hb7
  · exact (Below.heap_setCell _ _ _ _ (by have := hpl6; show w.heap.size ≠ b; omega)).trans hr7
  · exact s7.same fun k hk => Below.heap_setCell _ _ _ k (by have := hpl6; show k ≠ b; omega)
  · refine ⟨g7.os, g7.tape, g7.output, by rw [e]; exact g7.size, fun k hk hne => (Below.heap_setCell _ _ _ k (by have := hpl6; show k ≠ b; omega)).trans (g7.block k hk hne)⟩
  · have h7 := hgrow7.size
    rw [e]
    have := hpl6
    exact ⟨this.1, this.2.1, this.2.2.1, by omega⟩
  · intro q hq'
    rcases List.mem_append.1 hq' with hq' | hq'
    · exact hbd q hq'
    · obtain rfl : q = L := by simpa using hq'
      exact hL

theorem rowV_app (hs hs2 : Nat → Option Addr × Nat) (qs rs : List (List Int)) : rowV (fun i => if i < qs.length then hs i else hs2 (i - qs.length)) (qs ++ rs) = rowV hs qs ++ rowV hs2 rs := by
  apply List.ext_getElem?
  intro i
  by_cases h1 : i < qs.length
  · rw [rowV_at (by simp; omega), List.getElem?_append_left (by rw [rowV_len]; exact h1), rowV_at h1]
    simp [hv, h1, List.getD, List.getElem?_append_left]
  · by_cases h2 : i < (qs ++ rs).length
    · rw [rowV_at h2, List.getElem?_append_right (by rw [rowV_len]; omega), rowV_len, rowV_at (by simp at h2; omega)]
      simp [hv, h1, List.getD, List.getElem?_append_right (Nat.le_of_not_lt h1)]
    · rw [List.getElem?_eq_none (by rw [rowV_len]; omega), List.getElem?_eq_none (by simp [rowV_len] at h2 ⊢; omega)]
theorem hv_app (hs hs2 : Nat → Option Addr × Nat) (qs rs : List (List Int)) (i : Nat) : hv (fun i => if i < qs.length then hs i else hs2 (i - qs.length)) (qs ++ rs) i = if i < qs.length then hv hs qs i else hv hs2 rs (i - qs.length) := by
  by_cases h1 : i < qs.length
  · simp [hv, h1, List.getD, List.getElem?_append_left]
  · simp [hv, h1, List.getD, List.getElem?_append_right (Nat.le_of_not_lt h1)]
theorem getD_app (qs rs : List (List Int)) (i : Nat) : (qs ++ rs).getD i [] = if i < qs.length then qs.getD i [] else rs.getD (i - qs.length) [] := by
  by_cases h1 : i < qs.length
  · simp [h1, List.getD, List.getElem?_append_left]
  · simp [h1, List.getD, List.getElem?_append_right (Nat.le_of_not_lt h1)]
/-- A row, and some parts more in blocks of their own. -/
theorem OwnQ.concat {w w' : World} {lo hi hi' : Nat} {v v' : Value} {hs hs2 : Nat → Option Addr × Nat} {qs rs : List (List Int)} (h : OwnQ w lo hi v hs qs)
    (hin : ∀ i, i < rs.length → w.ownsRow lo 2 1 (hv hs2 rs i) (rs.getD i []).length ((rs.getD i []).map (Value.int .i64))) (hge : ∀ i k, i < rs.length → (hv hs2 rs i).ownBlock = some k → hi ≤ k)
    (hap : ∀ i j, i < rs.length → j < rs.length → i ≠ j → (hv hs2 rs i).ownBlock = none ∨ (hv hs2 rs i).ownBlock ≠ (hv hs2 rs j).ownBlock)
    (ho : w'.ownsRow lo 35 1 v' (qs.length + rs.length) (rowV hs qs ++ rowV hs2 rs)) (hg : w.grownBy w' v.ownBlock) (hv' : ∀ b, v'.ownBlock = some b → v.ownBlock = some b ∨ w.heap.size ≤ b) (h2 : w'.heap.size ≤ hi') :
    OwnQ w' lo hi' v' (fun i => if i < qs.length then hs i else hs2 (i - qs.length)) (qs ++ rs) := by
  have hs' := hg.size
  have hblk : ∀ i k, i < (qs ++ rs).length → (hv (fun i => if i < qs.length then hs i else hs2 (i - qs.length)) (qs ++ rs) i).ownBlock = some k → k < w.heap.size ∧ v.ownBlock ≠ some k ∧ (i < qs.length → k < hi) ∧ (¬ i < qs.length → hi ≤ k) := by
    intro i k hi e
    rw [hv_app] at e
    by_cases h1 : i < qs.length
    · rw [if_pos h1] at e
      refine ⟨h.lt h1 e, fun e2 => ?_, fun _ => h.top i k h1 e, fun h => absurd h1 h⟩
      rcases h.apart0 i h1 with h0 | h0
      · rw [h0] at e; cases e
      · exact h0 (e.trans e2.symm)
    · rw [if_neg h1] at e
      have hi2 : i - qs.length < rs.length := by simp at hi; omega
      have hk := hge _ k hi2 e
      exact ⟨((hin _ hi2).lt k e).2, fun e2 => by have := h.top0 k e2; omega, fun h => absurd h h1, fun _ => hk⟩
  refine ⟨by rw [rowV_app, List.length_append]; exact ho, fun i hi => ?_, fun i j hi hj hij => ?_, fun i hi => ?_, fun k e => Nat.lt_of_lt_of_le (ho.lt k e).2 h2, fun i k hi e => ?_⟩
  · have hb := hblk i
    rw [getD_app]
    have hne : (hv (fun i => if i < qs.length then hs i else hs2 (i - qs.length)) (qs ++ rs) i).ownBlock = none ∨ (hv (fun i => if i < qs.length then hs i else hs2 (i - qs.length)) (qs ++ rs) i).ownBlock ≠ v.ownBlock := by
      cases hq : (hv (fun i => if i < qs.length then hs i else hs2 (i - qs.length)) (qs ++ rs) i).ownBlock with
      | none => exact .inl rfl
      | some k => exact .inr (fun e => (hb k hi hq).2.1 e.symm)
    rw [hv_app] at hne ⊢
    by_cases h1 : i < qs.length
    · rw [if_pos h1] at hne ⊢
      rw [if_pos h1]
      exact (h.inner i h1).kept hg hne
    · rw [if_neg h1] at hne ⊢
      rw [if_neg h1]
      exact (hin _ (by simp at hi; omega)).kept hg hne
  · cases hq : (hv (fun i => if i < qs.length then hs i else hs2 (i - qs.length)) (qs ++ rs) i).ownBlock with
    | none => exact .inl rfl
    | some k =>
      right
      intro e
      have a1 := hblk i k hi hq
      have a2 := hblk j k hj e.symm
      rw [hv_app] at hq e
      by_cases h1 : i < qs.length
      · by_cases h3 : j < qs.length
        · rw [if_pos h1] at hq
          rw [if_pos h3] at e
          rcases h.apart i j h1 h3 hij with h0 | h0
          · rw [h0] at hq; cases hq
          · exact h0 (hq.trans e)
        · have := a1.2.2.1 h1; have := a2.2.2.2 h3; omega
      · by_cases h3 : j < qs.length
        · have := a1.2.2.2 h1; have := a2.2.2.1 h3; omega
        · rw [if_neg h1] at hq
          rw [if_neg h3] at e
          rcases hap (i - qs.length) (j - qs.length) (by simp at hi; omega) (by simp at hj; omega) (by omega) with h0 | h0
          · rw [h0] at hq; cases hq
          · exact h0 (hq.trans e)
  · cases hq : (hv (fun i => if i < qs.length then hs i else hs2 (i - qs.length)) (qs ++ rs) i).ownBlock with
    | none => exact .inl rfl
    | some k =>
      right
      intro e
      have a1 := hblk i k hi hq
      rcases hv' k e.symm with h0 | h0
      · exact a1.2.1 h0
      · omega
  · have a1 := hblk i k hi e
    omega

/-- The three headers of three drawn forms. -/
def hs3 (A1 A2 A3 : Option Addr) (c1 c2 c3 : Nat) : Nat → Option Addr × Nat := fun i => if i = 0 then (A1, c1) else if i = 1 then (A2, c2) else (A3, c3)
/-- Three parts more: drawn, appended, stored. -/
theorem DQ.push3 {w wr w6 w7 : World} {g n c b lo c2 g7 cap d1 d2 d3 : Nat} {A A2 B1 B2 B3 : Option Addr} {code L1 L2 L3 : List Int} {cur : List (List Int)} (h : DQ w g A n c code b lo cur A2 c2 wr) (hs : Src w6 g A n c code) (hg : wr.grownBy w6 (some g)) {m1 m2 : Nat} (hm1 : wr.heap.size ≤ m1) (hm2 : m1 ≤ m2)
    (own1 : w6.ownsRow wr.heap.size 2 1 (.slice B1 L1.length d1) L1.length (L1.map (Value.int .i64))) (own2 : w6.ownsRow m1 2 1 (.slice B2 L2.length d2) L2.length (L2.map (Value.int .i64))) (own3 : w6.ownsRow m2 2 1 (.slice B3 L3.length d3) L3.length (L3.map (Value.int .i64)))
    (lt1 : ∀ k, (Value.slice B1 L1.length d1).ownBlock = some k → k < m1) (lt2 : ∀ k, (Value.slice B2 L2.length d2).ownBlock = some k → k < m2)
    (hL1 : L1.length ≤ 64) (hL2 : L2.length ≤ 64) (hL3 : L3.length ≤ 64) {hs0 : Nat → Option Addr × Nat} (ho : OwnQ wr lo wr.heap.size (.slice A2 cur.length c2) hs0 cur)
    (hown7 : w7.ownsRow lo 35 1 (.slice (some ⟨g7, 0, none⟩) (cur.length + 3) cap) (cur.length + 3) (rowV hs0 cur ++ [.slice B1 L1.length d1, .slice B2 L2.length d2, .slice B3 L3.length d3]))
    (hgrow7 : (w6.alloc (.cells #[.slice B1 L1.length d1, .slice B2 L2.length d2, .slice B3 L3.length d3] 35)).grownBy w7 (Value.slice A2 cur.length c2).ownBlock)
    (hat7 : (Value.slice A2 cur.length c2).ownBlock = some g7 ∨ g7 = (w6.alloc (.cells #[.slice B1 L1.length d1, .slice B2 L2.length d2, .slice B3 L3.length d3] 35)).heap.size) :
    DQ w g A n c code b lo (cur ++ [L1, L2, L3]) (some ⟨g7, 0, none⟩) cap (w7.setCell ⟨b, 0, none⟩ (.slice (some ⟨g7, 0, none⟩) (cur.length + 3) cap)) := by
  have h6 := h.picked hs hg
  obtain ⟨_, hc6, hrs6, _, hgr6, hpl6, hbd⟩ := h6
  obtain ⟨wx, hwx⟩ : ∃ wx, wx = w6.alloc (.cells #[.slice B1 L1.length d1, .slice B2 L2.length d2, .slice B3 L3.length d3] 35) := ⟨_, rfl⟩
  have ho6 : OwnQ w6 lo wr.heap.size (.slice A2 cur.length c2) hs0 cur := ho.same fun k h1 _ h3 => hg.block k h3 (fun e => by injection e with e; have := hpl6; omega)
  have hbx : Below w6.heap.size w6 wx := by rw [hwx]; exact (Below.refl _ _).alloc (Nat.le_refl _) _
  have gx : w6.grownBy wx none := by rw [hwx]; exact grown_alloc _ _ _
  have p1 := own1.alloc (.cells #[.slice B1 L1.length d1, .slice B2 L2.length d2, .slice B3 L3.length d3] 35)
  have p2 := own2.alloc (.cells #[.slice B1 L1.length d1, .slice B2 L2.length d2, .slice B3 L3.length d3] 35)
  have p3 := own3.alloc (.cells #[.slice B1 L1.length d1, .slice B2 L2.length d2, .slice B3 L3.length d3] 35)
  have hsx' : wx.heap.size = w6.heap.size + 1 := by rw [hwx]; simp
  rw [← hwx] at hgrow7 hat7 p1 p2 p3
  clear hwx
  have hs6 := hg.size
  have ob : ∀ q, (Value.slice A2 cur.length c2).ownBlock = some q → lo ≤ q := fun q e => (ho.outer.lt q e).1
  have hloq : lo ≤ wr.heap.size := h.pl.2.2.2
  have hrow : rowV (hs3 B1 B2 B3 d1 d2 d3) [L1, L2, L3] = [.slice B1 L1.length d1, .slice B2 L2.length d2, .slice B3 L3.length d3] := by
    simp [rowV, hv, hs3, List.range_succ, List.getD]
  have i3 : ∀ i, i < [L1, L2, L3].length → i = 0 ∨ i = 1 ∨ i = 2 := fun i hi => by simp at hi; omega
  have e0 : hv (hs3 B1 B2 B3 d1 d2 d3) [L1, L2, L3] 0 = .slice B1 L1.length d1 := rfl
  have e1 : hv (hs3 B1 B2 B3 d1 d2 d3) [L1, L2, L3] 1 = .slice B2 L2.length d2 := rfl
  have e2 : hv (hs3 B1 B2 B3 d1 d2 d3) [L1, L2, L3] 2 = .slice B3 L3.length d3 := rfl
  have q1 := own1.lt
  have q2 := own2.lt
  have q3 := own3.lt
  have hq := OwnQ.concat (hs2 := hs3 B1 B2 B3 d1 d2 d3) (rs := [L1, L2, L3]) (hi' := w7.heap.size) (ho6.below hbx)
    (fun i hi => by
      rcases i3 i hi with rfl | rfl | rfl
      · exact p1.mono hloq
      · exact p2.mono (by omega)
      · exact p3.mono (by omega))
    (fun i k hi e => by
      rcases i3 i hi with rfl | rfl | rfl
      · exact (q1 k e).1
      · have := (q2 k e).1; omega
      · have := (q3 k e).1; omega)
    (fun i j hi hj hij => by
      cases hb : (hv (hs3 B1 B2 B3 d1 d2 d3) [L1, L2, L3] i).ownBlock with
      | none => exact .inl rfl
      | some k =>
        right
        intro e
        rcases i3 i hi with rfl | rfl | rfl <;> rcases i3 j hj with rfl | rfl | rfl
        · exact hij rfl
        · have := lt1 k hb; have := (q2 k e.symm).1; omega
        · have := lt1 k hb; have := (q3 k e.symm).1; omega
        · have := lt1 k e.symm; have := (q2 k hb).1; omega
        · exact hij rfl
        · have := lt2 k hb; have := (q3 k e.symm).1; omega
        · have := lt1 k e.symm; have := (q3 k hb).1; omega
        · have := lt2 k e.symm; have := (q3 k hb).1; omega
        · exact hij rfl)
    (by rw [hrow]; exact hown7) hgrow7
    (fun q e => by
      obtain rfl : g7 = q := by simpa [Value.ownBlock] using e
      rcases hat7 with h | h
      · exact .inl h
      · exact .inr (Nat.le_of_eq h.symm)) (Nat.le_refl _)
  have g7' := grown_own (grown_own hgr6 gx (by simp)) hgrow7 (fun q e => by have := ob q e; have := hpl6; omega)
  have s7 := (hs.grown gx (by simp)).grown hgrow7 (fun q e => by have := ob q e; have := hpl6; omega)
  have hb7 : w7.heap[b]? = some (.cells #[.slice A2 cur.length c2] 26 (0, 0)) :=
    (hgrow7.block b (by have := hpl6; omega) (fun e => by have := ob b e.symm; have := hpl6; omega)).trans ((hbx.block b (by have := hpl6; omega)).trans hc6)
  have hr7 : w7.heap[w.heap.size]? = some (.cells #[.slice none 0 0] 26 (0, 0)) :=
    (hgrow7.block w.heap.size (by have := hpl6; omega) (fun e => by have := ob _ e.symm; have := hpl6; omega)).trans ((hbx.block _ (by have := hpl6; omega)).trans hrs6)
  have e : ∀ v, (w7.setCell ⟨b, 0, none⟩ v).heap.size = w7.heap.size := fun v => by simp
  have el : (cur ++ [L1, L2, L3]).length = cur.length + 3 := by simp
  refine ⟨⟨fun i => if i < cur.length then hs0 i else hs3 B1 B2 B3 d1 d2 d3 (i - cur.length), ?_⟩, ?_, ?_, ?_, ?_, ?_, ?_⟩
  · rw [e, el]
    exact hq.setBelow (by have := hpl6; show b < lo; omega) _
  · rw [el]; exact cell_set hb7
  · exact (Below.heap_setCell _ _ _ _ (by have := hpl6; show w.heap.size ≠ b; omega)).trans hr7
  · exact s7.same fun k hk => Below.heap_setCell _ _ _ k (by have := hpl6; show k ≠ b; omega)
  · refine ⟨g7'.os, g7'.tape, g7'.output, by rw [e]; exact g7'.size, fun k hk hne => (Below.heap_setCell _ _ _ k (by have := hpl6; show k ≠ b; omega)).trans (g7'.block k hk hne)⟩
  · have h7 := hgrow7.size
    rw [e]
    have := hpl6
    exact ⟨this.1, this.2.1, this.2.2.1, by omega⟩
  · intro q hq'
    rcases List.mem_append.1 hq' with hq' | hq'
    · exact hbd q hq'
    · simp only [List.mem_cons, List.not_mem_nil, or_false] at hq'
      rcases hq' with rfl | rfl | rfl <;> assumption

/-- What the draw of a sequent leaves. -/
def DrawnQ (w : World) (g : Nat) (A : Option Addr) (n c : Nat) (code : List Int) (e : Ending) (w' : World) : Prop :=
  ∃ V hs A2 c2, e = .returned (.agg #[.slice A2 V.length c2]) ∧ OwnQ w' w.heap.size w'.heap.size (.slice A2 V.length c2) hs V ∧ V.length ≤ 12 ∧ (∀ q ∈ V, q.length ≤ 64) ∧ Src w' g A n c code ∧ w.grownBy w' (some g)
theorem grown_undrew {w w' : World} {g : Nat} (h : w.drew.grownBy w' (some g)) : w.grownBy w' (some g) := ⟨h.os, h.tape, h.output, h.size, h.block⟩
theorem DQ.at {w wr : World} {g n c b lo c2 : Nat} {A A2 : Option Addr} {code : List Int} {cur : List (List Int)} (h : DQ w g A n c code b lo cur A2 c2 wr) : wr.cell? ⟨b, 0, none⟩ = some (.slice A2 cur.length c2) := cell_of_row _ _ 0 _ _ (0, 0) h.cell
/-- The append of a drawn part: what it asks, and the variable's cell on its way. -/
theorem DQ.ask {w wr w6 : World} {g n c b lo c2 c6 : Nat} {A A2 A6 : Option Addr} {code L : List Int} {cur : List (List Int)} {hs0 : Nat → Option Addr × Nat} (h : DQ w g A n c code b lo cur A2 c2 wr) (ho : OwnQ wr lo wr.heap.size (.slice A2 cur.length c2) hs0 cur) (hg : wr.grownBy w6 (some g)) :
    (w6.alloc (.cells #[.slice A6 L.length c6] 35)).ownsRow lo 35 1 (.slice A2 cur.length c2) cur.length (rowV hs0 cur) ∧
    (∀ j u, [Value.slice A6 L.length c6][j]? = some u → (w6.alloc (.cells #[.slice A6 L.length c6] 35)).cell? ((⟨w6.heap.size, 0, none⟩ : Addr).add j) = some u) ∧ lo ≤ (w6.alloc (.cells #[.slice A6 L.length c6] 35)).heap.size ∧
    (w6.alloc (.cells #[.slice A6 L.length c6] 35)).cell? ⟨b, 0, none⟩ = some (.slice A2 cur.length c2) := by
  have hpl := h.pl
  have h6 : OwnQ w6 lo wr.heap.size (.slice A2 cur.length c2) hs0 cur := ho.same fun k h1 _ h3 => hg.block k h3 (fun e => by injection e with e; omega)
  have hs6 := hg.size
  have hc6 : w6.heap[b]? = some (.cells #[.slice A2 cur.length c2] 26 (0, 0)) := (hg.block b (by omega) (fun e => by injection e with e; omega)).trans h.cell
  refine ⟨h6.outer.alloc _, World.news_of_block (heap_alloc_new w6 (.cells #[.slice A6 L.length c6] 35)), by simp; omega, cell_of_row _ _ 0 _ _ (0, 0) ((Below.heap_alloc w6 _ b (by omega)).trans hc6)⟩
/-- The variable's cell behind the append. -/
theorem DQ.far {w wr w6 w7 : World} {g n c b lo c2 : Nat} {A A2 : Option Addr} {o : Obj} {code : List Int} {cur : List (List Int)} {hs0 : Nat → Option Addr × Nat} (h : DQ w g A n c code b lo cur A2 c2 wr) (ho : OwnQ wr lo wr.heap.size (.slice A2 cur.length c2) hs0 cur) (hg : wr.grownBy w6 (some g))
    (hgrow7 : (w6.alloc o).grownBy w7 (Value.slice A2 cur.length c2).ownBlock) : w7.cell? ⟨b, 0, none⟩ = some (.slice A2 cur.length c2) ∧ w7.frozen? ⟨b, 0, none⟩ = false := by
  have hpl := h.pl
  have hs6 := hg.size
  have hc6 : w6.heap[b]? = some (.cells #[.slice A2 cur.length c2] 26 (0, 0)) := (hg.block b (by omega) (fun e => by injection e with e; omega)).trans h.cell
  have hc7 : w7.heap[b]? = some (.cells #[.slice A2 cur.length c2] 26 (0, 0)) := (hgrow7.block b (by simp; omega) (fun e => by have := (ho.outer.lt b e.symm).1; omega)).trans ((Below.heap_alloc w6 _ b (by omega)).trans hc6)
  exact ⟨cell_of_row _ _ 0 _ _ (0, 0) hc7, frozen_of_row _ _ 0 _ _ hc7⟩

set_option maxRecDepth 100000 in
set_option maxHeartbeats 2000000 in
theorem drawSeq_any (g n c : Nat) (A : Option Addr) (code : List Int) (w : World) (h : Src w g A n c code) :
    Calls Tryz.prog 39 #[.pointer (some ⟨g, 0, none⟩)] w (DrawnQ w g A n c code) := by
  obtain ⟨i0, hi0, hz0, hz1, hz2⟩ := info_parts_s
  have hgw : g < w.heap.size := h.lt
  obtain ⟨w2, hw2⟩ : ∃ w2, w2 = (w.alloc (.cells #[.slice none 0 0] 26)).alloc (.cells #[.slice none 0 0] 26) := ⟨_, rfl⟩
  obtain ⟨hh0, hh1⟩ := two_heap w (.cells #[.slice none 0 0] 26) (.cells #[.slice none 0 0] 26)
  have hsz : w2.heap.size = w.heap.size + 1 + 1 := by rw [hw2]; simp
  have hb : Below w.heap.size w w2 := by rw [hw2]; exact ((Below.refl _ _).alloc (Nat.le_refl _) _).alloc (by simp) _
  have hgr : w.grownBy w2 (some g) := ⟨hb.os, hb.tape, hb.output, hb.size, fun k hk _ => hb.block k hk⟩
  rw [← hw2] at hh0 hh1
  have hD0 : DQ w g A n c code (w.heap.size + 1) (w.heap.size + 1 + 1) [] none 0 w2 := ⟨⟨fun _ => (none, 0), OwnQ.nil _ _ _ _⟩, hh1, hh0, h.below hb hgw, hgr, ⟨hgw, by omega, by omega, by omega⟩, by simp⟩
  have HI := Lib.hid hi0; have HZ0 := Lib.hid hz0; have HZ1 := Lib.hid hz1; have HZ2 := Lib.hid hz2
  have HD0 := Lib.hid hD0
  clear hi0 hz0 hz1 hz2 h hh0 hh1 hb hgr hD0
  go_enter Tryz.func39, Tryz.ntmps39
  go_wp2_with (fail)
  rw [← hw2]
  clear hw2
  generalize hb0 : w.heap.size + 1 = b at *
  refine (pick_any g n c A code 16 w2 HD0.out.src (by omega) (by omega)).mono ?_
  rintro e w3 ⟨fr, _, _, rfl, S3, G3⟩
  have HD3 := Lib.hid (HD0.out.picked S3 G3)
  clear S3 G3 HD0
  go_wp2_with (fail)
  refine (pick_any g n c A code 5 w3 HD3.out.src (by omega) (by omega)).mono ?_
  rintro e w4 ⟨m, hm1, hm2, rfl, S4, G4⟩
  have HD4 := Lib.hid (HD3.out.picked S4 G4)
  clear S4 G4 HD3
  go_wp2_with (fail)
  go_loopw [5] (fun i wr => ∃ (k : Nat) (cur : List (List Int)) (A2 : Option Addr) (c2 : Nat), k ≤ 4 ∧ i = .int .i64 k ∧ cur.length + k ≤ 4 ∧ DQ w g A n c code b (b + 1) cur A2 c2 wr) (fun i _ => (intOf i).toNat)
  case atStart => exact ⟨m.toNat, [], none, 0, by omega, by rw [Int.toNat_of_nonneg hm1], by simp; omega, HD4.out⟩
  case round =>
    obtain ⟨k, cur, A2, c2, hk, rfl, hl, hD⟩ := hrel
    have HD := Lib.hid hD
    clear hD HD4
    by_cases hk0 : k = 0
    · subst hk0
      have hln : cur.length ≤ 4 := by omega
      clear hl hk
      go_wp2_with (fail)
      refine (pick_any g n c A code 16 wr HD.out.src (by omega) (by omega)).mono ?_
      rintro e w5 ⟨r, p1, p2, rfl, S5, G5⟩
      have HE := Lib.hid (HD.out.picked S5 G5)
      clear S5 G5 HD
      have hK : ∀ (cu : List (List Int)) (A3 : Option Addr) (c3 : Nat) (wx : World), DQ w g A n c code b (b + 1) cu A3 c3 wx → cu.length ≤ 12 →
          (wx.setCell ⟨w.heap.size, 0, none⟩ (.slice A3 cu.length c3)).heap[w.heap.size]? = some (.cells #[.slice A3 cu.length c3] 26 (0, 0)) ∧ DrawnQ w g A n c code (.returned (.agg #[.slice A3 cu.length c3])) (wx.setCell ⟨w.heap.size, 0, none⟩ (.slice A3 cu.length c3)) := by
        intro cu A3 c3 wx hd hlen
        obtain ⟨hs3', ho3⟩ := hd.own
        have hpl := hd.pl
        have e : (wx.setCell ⟨w.heap.size, 0, none⟩ (.slice A3 cu.length c3)).heap.size = wx.heap.size := by simp
        refine ⟨cell_set hd.res, cu, hs3', A3, c3, rfl, ?_, hlen, hd.bd, hd.src.same fun k hk => Below.heap_setCell _ _ _ k (by show k ≠ w.heap.size; omega), ?_⟩
        · rw [e]
          exact (ho3.setBelow (by show w.heap.size < b + 1; omega) _).more (by omega) (Nat.le_refl _)
        · exact ⟨hd.grew.os, hd.grew.tape, hd.grew.output, by rw [e]; exact hd.grew.size, fun k hk hne => (Below.heap_setCell _ _ _ k (by show k ≠ w.heap.size; omega)).trans (hd.grew.block k hk hne)⟩
      have HK := Lib.hid hK
      clear hK
      by_cases e0 : r = 0
      · subst e0
        obtain ⟨hs0, ho⟩ := HE.out.own
        have HO := Lib.hid ho
        have k1 := HE.out.at
        have tokB : True := trivial
        clear ho
        go_wp2_with (fail)
        go_region_law
          (first
            | (have _t := tokB
               go_simp
               go_at_call 90
               refine (drawAny_any g n c A code w5.drew HE.out.src).mono ?_
               rintro e w6 ⟨L, A6, c6, rfl, l2, _, own6, S6, G6'⟩
               have G6 := grown_undrew G6'
               have HG6 := Lib.hid G6
               have HS6 := Lib.hid S6
               have HW6 := Lib.hid own6
               have k6 := (HE.out.picked S6 G6).at
               obtain ⟨o6, n6, b6, k6a⟩ := HE.out.ask (A6 := A6) (L := L) (c6 := c6) HO.out HG6.out
               have O6 := Lib.hid o6
               have N6 := Lib.hid n6
               have BS6 := Lib.hid b6
               clear own6 S6 G6 G6' o6 n6 b6 tokB
               dsimp only)
            | (refine step_append_lies _ rfl _ _ _ rfl _ 35 i0 (.slice none 0 0) 1 24 Tryz.underlying24 HI.out HZ0.out HZ1.out HZ2.out rfl (by decide) _ _ _ rfl O6.out ⟨w6.heap.size, 0, none⟩ 1 1 [.slice A6 L.length c6] rfl rfl N6.out (by simp [Value.oneCell']) (by decide) (by simp only [maxLen]; omega) (by omega) BS6.out _ rfl ?_
               intro g7 cap7 w7 hown7 hgrow7 hat7 hlt7
               obtain ⟨k7, f7⟩ := HE.out.far HO.out HG6.out hgrow7
               have HDN := Lib.hid (HE.out.push HS6.out HG6.out HW6.out (by omega) HO.out hown7 hgrow7 hat7)
               clear hown7 hgrow7 hat7 hlt7))
        all_goals
          have hel : (cur ++ [L]).length = cur.length + 1 := by simp
          have hF := HK.out _ _ _ _ HDN.out (by omega)
          have kF := HDN.out.at
          have k0F := cell_of_row _ _ 0 _ _ (0, 0) HDN.out.res
          have f0F := frozen_of_row _ _ 0 _ _ HDN.out.res
          rw [hel] at hF kF
          have HF := Lib.hid hF
          clear hF hel
          generalize w7.setCell ⟨b, 0, none⟩ (.slice (some ⟨g7, 0, none⟩) (cur.length + 1) cap7) = w8 at *
          go_wp2
          (try simp only [Exit.inBlock, Exit.then])
          refine bodyPost_ret (results_cell_row rfl _ _ w.heap.size _ _ (0, 0) _ rfl HF.out.1 Tryz.underlying26 rfl (by kernel_rfl)) rfl ?_
          exact HF.out.2
      · have f0 : (r == 0) = false := by simpa using e0
        by_cases e1 : r = 1
        · subst e1
          go_wp2_with (fail)
          go_loopg [] (12 - cur.length) (fun gg wr => ∃ (cu : List (List Int)) (A3 : Option Addr) (c3 : Nat), cu.length ≤ 11 ∧ 12 - cu.length = gg ∧ DQ w g A n c code b (b + 1) cu A3 c3 wr)
          case atStart => exact ⟨cur, A2, c2, by omega, rfl, HE.out⟩
          case round =>
            obtain ⟨cu, A3, c3, hcl, rfl, hD⟩ := hrel
            have HE2 := Lib.hid hD
            have k1 := hD.at
            clear hD HE
            go_upto_region 11 with (fail)
            go_cut [45] (fun t wx => ∃ T : Bool, t = .bool T ∧ (T = true → cu.length ≤ 10) ∧ DQ w g A n c code b (b + 1) cu A3 c3 wx)
            case first =>
              go_wp2_with (fail)
              go_region_law
                (first
                  | (go_simp
                     go_at_call 88
                     refine (pick_any g n c A code 3 wr.drew HE2.out.src (by omega) (by omega)).mono ?_
                     rintro e w6 ⟨r3, p3, p4, rfl, S6, G6'⟩
                     have HE3 := Lib.hid (HE2.out.picked S6 (grown_undrew G6'))
                     have k6 := HE3.out.at
                     have hwr : IntKind.i64.wrap (9 + r3) = 9 + r3 := IntWalk.i64_in _ (by omega)
                     clear S6 G6'
                     dsimp only))
              all_goals go_wp2_with (fail)
              all_goals go_meet
              all_goals exact ⟨_, rfl, (fun h => by have := of_decide_eq_true h; omega), HE3.out⟩
            case rest =>
              obtain ⟨T, rfl, hT, hD⟩ := hcut
              have HE4 := Lib.hid hD
              rename World => wx
              clear hD HE2 k1
              cases T with
              | true =>
                have hc10 := hT rfl
                obtain ⟨hs0, ho⟩ := HE4.out.own
                have HO := Lib.hid ho
                have k1 := HE4.out.at
                clear ho hT
                go_wp2_with (fail)
                go_region_law
                  (first
                    | (go_simp
                       go_at_call 91
                       refine (drawAtom_any g n c A code wx.drew HE4.out.src).mono ?_
                       rintro e w5 ⟨z, z1, z2, rfl, S5, G5'⟩
                       have G5 := grown_undrew G5'
                       have k5 := (HE4.out.picked S5 G5).at
                       have G6 : wx.grownBy (w5.alloc (.cells #[.int .i64 z] 2)) (some g) := grown_own G5 (grown_alloc w5 _ none) (by simp)
                       have S6 : Src (w5.alloc (.cells #[.int .i64 z] 2)) g A n c code := S5.grown (grown_alloc w5 _ none) (by simp)
                       have W6 : (w5.alloc (.cells #[.int .i64 z] 2)).ownsRow wx.heap.size 2 1 (.slice (some ⟨w5.heap.size, 0, none⟩) [z].length 1) [z].length ([z].map (Value.int .i64)) := World.ownsRow_lit (base := wx.heap.size) (e := 2) (size := 1) w5 #[.int .i64 z] 1 G5.size (by simp [maxLen]) rfl
                       have k5a := (HE4.out.picked S6 G6).at
                       obtain ⟨o6, n6, b6, k6a⟩ := HE4.out.ask (A6 := some ⟨w5.heap.size, 0, none⟩) (L := [z]) (c6 := 1) HO.out G6
                       simp only [List.length_cons, List.length_nil, Nat.zero_add] at o6 n6 b6 k6a
                       rw [show (w5.alloc (.cells #[.int .i64 z] 2)).heap.size = w5.heap.size + 1 by simp] at n6
                       have HG6 := Lib.hid G6
                       have HS6 := Lib.hid S6
                       have HW6 := Lib.hid W6
                       have O6 := Lib.hid o6
                       have N6 := Lib.hid n6
                       have BS6 := Lib.hid b6
                       clear S5 G5 G5' G6 S6 W6 o6 n6 b6
                       dsimp only)
                    | (refine step_append_lies _ rfl _ _ _ rfl _ 35 i0 (.slice none 0 0) 1 24 Tryz.underlying24 HI.out HZ0.out HZ1.out HZ2.out rfl (by decide) _ _ _ rfl O6.out ⟨w5.heap.size + 1, 0, none⟩ 1 1 [.slice (some ⟨w5.heap.size, 0, none⟩) 1 1] rfl rfl N6.out (by simp [Value.oneCell']) (by decide) (by simp only [maxLen]; omega) (by omega) BS6.out _ rfl ?_
                       intro g7 cap7 w7 hown7 hgrow7 hat7 hlt7
                       obtain ⟨k7, f7⟩ := HE4.out.far HO.out HG6.out hgrow7
                       have HDN := Lib.hid (HE4.out.push (L := [z]) (A6 := some ⟨w5.heap.size, 0, none⟩) (c6 := 1) HS6.out HG6.out HW6.out (by simp) HO.out hown7 hgrow7 (Or.imp id (fun h => by rw [h]; simp) hat7))
                       clear hown7 hgrow7 hat7 hlt7))
                all_goals
                  go_wp2
                  go_roundg (12 - (cu.length + 1))
                  case measure => omega
                  case rel => exact ⟨cu ++ [[z]], _, _, by simp; omega, by simp, HDN.out⟩
              | false =>
                have hF := HK.out _ _ _ _ HE4.out (by omega)
                have kF := HE4.out.at
                have k0F := cell_of_row _ _ 0 _ _ (0, 0) HE4.out.res
                have f0F := frozen_of_row _ _ 0 _ _ HE4.out.res
                have HF := Lib.hid hF
                clear hF
                go_wp2
                (try simp only [Exit.inBlock, Exit.then])
                refine bodyPost_ret (results_cell_row rfl _ _ w.heap.size _ _ (0, 0) _ rfl HF.out.1 Tryz.underlying26 rfl (by kernel_rfl)) rfl ?_
                exact HF.out.2
        · have f1 : (r == 1) = false := by simpa using e1
          by_cases e2 : r = 2
          · subst e2
            obtain ⟨hs0, ho⟩ := HE.out.own
            have HO := Lib.hid ho
            have k1 := HE.out.at
            have tokA : True := trivial
            have hgw' : g < w5.heap.size := by have := HE.out.pl; omega
            clear ho
            go_wp2_with (fail)
            go_region_law
              (first
                | (have _t := tokA
                   go_simp
                   go_at_call 89
                   have hI := drawForm_any g n c A code 1 24 w5.drew HE.out.src (by omega) (by omega)
                   refine hI.mono ?_
                   rintro e x1 ⟨L1, B1, d1, rfl, _, l1, _, own1, S1, G1'⟩
                   have G1 := grown_undrew G1'
                   have HX1 := Lib.hid (HE.out.picked S1 G1)
                   have kx1 := HX1.out.at
                   have HG1 := Lib.hid G1
                   have HW1 := Lib.hid own1
                   have tokB : True := trivial
                   clear hI own1 S1 G1 G1' tokA
                   dsimp only)
                | (have _t := tokB
                   go_simp
                   go_at_call 89
                   refine (drawForm_any g n c A code 1 24 x1 HX1.out.src (by omega) (by omega)).mono ?_
                   rintro e x2 ⟨L2, B2, d2, rfl, _, l2, _, own2, S2, G2⟩
                   have HX2 := Lib.hid (HX1.out.picked S2 G2)
                   have kx2 := HX2.out.at
                   have HW12 := Lib.hid (own_keep HW1.out G2 hgw')
                   have HX12 := Lib.hid G2.size
                   have HG2 := Lib.hid (grownBy_trans HG1.out G2)
                   have HW2 := Lib.hid own2
                   have ltb1 := Lib.hid (fun k e => (HW1.out.lt k e).2)
                   have hgw2 : g < x1.heap.size := by have := HX1.out.pl; omega
                   have tokC : True := trivial
                   clear own2 S2 G2 tokB
                   dsimp only)
                | (have _t := tokC
                   go_simp
                   go_at_call 89
                   refine (drawForm_any g n c A code 1 24 x2 HX2.out.src (by omega) (by omega)).mono ?_
                   rintro e x3 ⟨L3, B3, d3, rfl, _, l3, _, own3, S3, G3⟩
                   have HX3 := Lib.hid (HX2.out.picked S3 G3)
                   have kx3 := HX3.out.at
                   have HW13 := Lib.hid (own_keep HW12.out G3 hgw')
                   have HW23 := Lib.hid (own_keep HW2.out G3 hgw2)
                   have HG3 := Lib.hid (grownBy_trans HG2.out G3)
                   have HS3 := Lib.hid S3
                   have HW3 := Lib.hid own3
                   have ltb2 := Lib.hid (fun k e => (HW2.out.lt k e).2)
                   have hx12 : x1.heap.size ≤ x2.heap.size := HX12.out
                   have o6 := ((HO.out.same (w' := x3) fun k h1 _ h3 => HG3.out.block k h3 (fun e => by injection e with e; have := HE.out.pl; omega)).outer).alloc (.cells #[.slice B1 L1.length d1, .slice B2 L2.length d2, .slice B3 L3.length d3] 35)
                   have n6 := World.news_of_block (heap_alloc_new x3 (.cells #[.slice B1 L1.length d1, .slice B2 L2.length d2, .slice B3 L3.length d3] 35))
                   have b6 : b + 1 ≤ (x3.alloc (.cells #[.slice B1 L1.length d1, .slice B2 L2.length d2, .slice B3 L3.length d3] 35)).heap.size := by have := HX3.out.pl; simp; omega
                   have kx3a : (x3.alloc (.cells #[.slice B1 L1.length d1, .slice B2 L2.length d2, .slice B3 L3.length d3] 35)).cell? ⟨b, 0, none⟩ = some (.slice A2 cur.length c2) := cell_of_row _ _ 0 _ _ (0, 0) ((Below.heap_alloc x3 _ b (by have := HX3.out.pl; omega)).trans HX3.out.cell)
                   have O6 := Lib.hid o6
                   have N6 := Lib.hid n6
                   have BS6 := Lib.hid b6
                   clear own3 S3 G3 tokC o6 n6 b6
                   dsimp only)
                | (refine step_append_lies _ rfl _ _ _ rfl _ 35 i0 (.slice none 0 0) 1 24 Tryz.underlying24 HI.out HZ0.out HZ1.out HZ2.out rfl (by decide) _ _ _ rfl O6.out ⟨x3.heap.size, 0, none⟩ 3 3 [.slice B1 L1.length d1, .slice B2 L2.length d2, .slice B3 L3.length d3] rfl rfl N6.out (by simp [Value.oneCell']) (by decide) (by simp only [maxLen]; omega) (by omega) BS6.out _ rfl ?_
                   intro g7 cap7 w7 hown7 hgrow7 hat7 hlt7
                   obtain ⟨k7, f7⟩ := HE.out.far HO.out HG3.out hgrow7
                   have HDN := Lib.hid (HE.out.push3 HS3.out HG3.out HG1.out.size HX12.out HW13.out HW23.out HW3.out ltb1.out ltb2.out (by omega) (by omega) (by omega) HO.out hown7 hgrow7 hat7)
                   clear hown7 hgrow7 hat7 hlt7))
            all_goals
              have hel : (cur ++ [L1, L2, L3]).length = cur.length + 3 := by simp
              have hF := HK.out _ _ _ _ HDN.out (by omega)
              have kF := HDN.out.at
              have k0F := cell_of_row _ _ 0 _ _ (0, 0) HDN.out.res
              have f0F := frozen_of_row _ _ 0 _ _ HDN.out.res
              rw [hel] at hF kF
              have HF := Lib.hid hF
              clear hF hel
              generalize w7.setCell ⟨b, 0, none⟩ (.slice (some ⟨g7, 0, none⟩) (cur.length + 3) cap7) = w8 at *
              go_wp2
              (try simp only [Exit.inBlock, Exit.then])
              refine bodyPost_ret (results_cell_row rfl _ _ w.heap.size _ _ (0, 0) _ rfl HF.out.1 Tryz.underlying26 rfl (by kernel_rfl)) rfl ?_
              exact HF.out.2
          · have f2 : (r == 2) = false := by simpa using e2
            clear e0 e1 e2
            have hF := HK.out _ _ _ _ HE.out (by omega)
            have kF := HE.out.at
            have k0F := cell_of_row _ _ 0 _ _ (0, 0) HE.out.res
            have f0F := frozen_of_row _ _ 0 _ _ HE.out.res
            have HF := Lib.hid hF
            clear hF
            go_wp2
            (try simp only [Exit.inBlock, Exit.then])
            refine bodyPost_ret (results_cell_row rfl _ _ w.heap.size _ _ (0, 0) _ rfl HF.out.1 Tryz.underlying26 rfl (by kernel_rfl)) rfl ?_
            exact HF.out.2
    · have hd : decide ((0 : Int) < (k : Int)) = true := decide_eq_true (by omega)
      obtain ⟨hs0, ho⟩ := HD.out.own
      have HO := Lib.hid ho
      have k1 := HD.out.at
      have tokA : True := trivial
      clear ho
      go_wp2_with (fail)
      go_region_law
        (first
          | (have _t := tokA
             go_simp
             go_at_call 88
             refine (pick_any g n c A code 6 wr.drew HD.out.src (by omega) (by omega)).mono ?_
             rintro e w5 ⟨r, p1, p2, rfl, S5, G5'⟩
             obtain ⟨q1, rfl⟩ : ∃ q : Nat, r = q := ⟨r.toNat, by omega⟩
             have G5 := grown_undrew G5'
             have HG5 := Lib.hid G5
             have HD5 := Lib.hid (HD.out.picked S5 G5)
             have k5 := HD5.out.at
             have hI := drawForm_any g n c A code fr (1 + q1) w5 S5 (by omega) (by omega)
             rw [show ((1 + q1 : Nat) : Int) = 1 + (q1 : Int) by omega] at hI
             have HI1 := Lib.hid hI
             have tokB : True := trivial
             have hwr : IntKind.i64.wrap (1 + (q1 : Int)) = 1 + (q1 : Int) := IntWalk.i64_in _ (by omega)
             clear G5' G5 S5 hI tokA
             dsimp only)
          | (have _t := tokB
             go_simp
             go_at_call 89
             refine HI1.out.mono ?_
             rintro e w6 ⟨L, A6, c6, rfl, l1, l2, _, own6, S6, G6⟩
             have HG6 := Lib.hid (grownBy_trans HG5.out G6)
             have HS6 := Lib.hid S6
             have HW6 := Lib.hid (own6.mono HG5.out.size)
             have k6 := (HD5.out.picked S6 G6).at
             obtain ⟨o6, n6, b6, k6a⟩ := HD.out.ask (A6 := A6) (L := L) (c6 := c6) HO.out HG6.out
             have O6 := Lib.hid o6
             have N6 := Lib.hid n6
             have BS6 := Lib.hid b6
             clear own6 S6 G6 o6 n6 b6 tokB
             dsimp only)
          | (refine step_append_lies _ rfl _ _ _ rfl _ 35 i0 (.slice none 0 0) 1 24 Tryz.underlying24 HI.out HZ0.out HZ1.out HZ2.out rfl (by decide) _ _ _ rfl O6.out ⟨w6.heap.size, 0, none⟩ 1 1 [.slice A6 L.length c6] rfl rfl N6.out (by simp [Value.oneCell']) (by decide) (by simp only [maxLen]; omega) (by omega) BS6.out _ rfl ?_
             intro g7 cap7 w7 hown7 hgrow7 hat7 hlt7
             obtain ⟨k7, f7⟩ := HD.out.far HO.out HG6.out hgrow7
             have HDN := Lib.hid (HD.out.push HS6.out HG6.out HW6.out (by omega) HO.out hown7 hgrow7 hat7)
             clear hown7 hgrow7 hat7 hlt7))
      all_goals
        go_wp2
        go_roundw
        case rel => exact ⟨k - 1, cur ++ [L], _, _, by omega, by rw [show ((k - 1 : Nat) : Int) = (k : Int) - 1 by omega], by simp; omega, HDN.out⟩
        case measure => simp [intOf]; omega

theorem grown_box (w : World) (o : Obj) (g : Nat) : w.grownBy (w.alloc o) (some g) := grown_alloc w o _

/-- What the draw of a sequent and two positions leaves. -/
def DrawnSw (w : World) (e : Ending) (w' : World) : Prop :=
  ∃ V hs A2 c2 i j, e = .returned (.tuple #[.agg #[.slice A2 V.length c2], .int .i64 i, .int .i64 j]) ∧ OwnQ w' w.heap.size w'.heap.size (.slice A2 V.length c2) hs V ∧ V.length ≤ 12 ∧ (∀ q ∈ V, q.length ≤ 64) ∧ -1 ≤ i ∧ i ≤ 11 ∧ -1 ≤ j ∧ j ≤ 11 ∧ Below w.heap.size w w'

theorem results_cell_row_tmp2 {P : Program} {fn : Func} {p u v : Tmp} {ty : TypeId} (h : fn.results = #[.cell p ty, .tmp u, .tmp v]) (tmps : Array Value) (w : World) (g : Nat) (t : TypeId) (cs : Array Value) (fr : Nat × Nat) (d : TypeDesc)
    (hp : tmps.getD p undef = .pointer (some ⟨g, 0, none⟩)) (hg : w.heap[g]? = some (.cells cs t fr))
    (hu : P.underlying ty = some d) (hd : (match d with | .struct _ | .array _ _ => true | _ => false) = true) (hi : (P.info? ty).map (·.size) = some cs.size) :
    (results fn tmps).run P w = .ok (.tuple #[.agg cs, tmps.getD u undef, tmps.getD v undef]) w := by
  have e : (results fn tmps).run P w = ((asAddr (tmps.getD p undef)).run P w).andThen fun a w₁ => ((loadVar ty a).run P w₁).andThen fun x w₂ => .ok (.tuple #[x, tmps.getD u undef, tmps.getD v undef]) w₂ := by
    simp only [results, h]
    simp [Sem.run_bind, Result.andThen]
  have hp' : tmps[p]?.getD undef = .pointer (some ⟨g, 0, none⟩) := by simpa using hp
  rw [e]
  simp [hp', asAddr, run_loadVar_row w g t ty cs fr d hg hu hd hi, Result.andThen]

end Go.Proofs.YtjhagklpnpabeaaGreatDoor
