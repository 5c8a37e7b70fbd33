/- A function mapped over a sequent: mappedSeq with slices.Clone (copyOfSeq) and with DualOf; DualSeq of the program. DualSeq of the model. The model's copies of rows and sequents. -/
import Derived.Test.YtjfhbofgnagfaaaDoorSeqV
import Derived.Test.YtjfhbofgnagfaaaDoorDual
import Derived.Test.YtjfhbofgnagfaaaDoorClone
import Derived.Deep.RegionLaw
import Derived.Deep.AppendLies
namespace Go.Proofs.YtjfhbofgnagfaaaDoor
open Go.ChangeAt Go.ChangeShapes Go.RowKit Go.WideShapes

/-- What a function leaves that hands back a sequent in memory of its own. -/
def GivesSeq (w : World) (V : List (List Int)) (e : Ending) (w' : World) : Prop :=
  ∃ hs A c, e = .returned (.agg #[.slice A V.length c]) ∧ OwnQ w' w.heap.size w'.heap.size (.slice A V.length c) hs V ∧ Below w.heap.size w w'
/-- .. and a bool. -/
def GivesSeqB (w : World) (V : List (List Int)) (b : Bool) (e : Ending) (w' : World) : Prop :=
  ∃ hs A c, e = .returned (.tuple #[.agg #[.slice A V.length c], .bool b]) ∧ OwnQ w' w.heap.size w'.heap.size (.slice A V.length c) hs V ∧ Below w.heap.size w w'
theorem two_heap (w : World) (a b : Obj) : ((w.alloc a).alloc b).heap[w.heap.size]? = some a ∧ ((w.alloc a).alloc b).heap[w.heap.size + 1]? = some b := by
  have h : (w.alloc a).heap.size = w.heap.size + 1 := by simp
  refine ⟨?_, ?_⟩
  · rw [Below.heap_alloc _ _ _ (by simp)]; exact heap_alloc_new _ _
  · rw [← h]; exact heap_alloc_new _ _
theorem map_getD {qs : List (List Int)} (g : List Int → List Int) {k : Nat} (h : k < qs.length) : (qs.map g).getD k [] = g (qs.getD k []) := by
  simp [List.getD, h]
/-- The store of a struct of one cell into a variable of one's own. -/
theorem cell_set {w : World} {b : Nat} {v u : Value} {t : TypeId} (h : w.heap[b]? = some (.cells #[v] t (0, 0))) : (w.setCell ⟨b, 0, none⟩ u).heap[b]? = some (.cells #[u] t (0, 0)) := by
  have := heap_setCell_same w b 0 #[v] t u h
  simpa using this
/-- A sequent stored into the variable of the result. -/
theorem seq_out {w w2 w3 : World} {V : List (List Int)} {A : Option Addr} {c b : Nat} {t : TypeId} {v : Value} {hs : Nat → Option Addr × Nat} (hb : Below w.heap.size w w2) (hlo : w.heap.size ≤ b) (hlt : b < w2.heap.size) (hh : w2.heap[b]? = some (.cells #[v] t (0, 0)))
    (own : OwnQ w3 w2.heap.size w3.heap.size (.slice A V.length c) hs V) (bel : Below w2.heap.size w2 w3) :
    w3.cell? ⟨b, 0, none⟩ = some v ∧ w3.frozen? ⟨b, 0, none⟩ = false ∧ (w3.setCell ⟨b, 0, none⟩ (.slice A V.length c)).heap[b]? = some (.cells #[.slice A V.length c] t (0, 0)) ∧
      OwnQ (w3.setCell ⟨b, 0, none⟩ (.slice A V.length c)) w.heap.size (w3.setCell ⟨b, 0, none⟩ (.slice A V.length c)).heap.size (.slice A V.length c) hs V ∧ Below w.heap.size w (w3.setCell ⟨b, 0, none⟩ (.slice A V.length c)) := by
  have hh3 := (bel.block b hlt).trans hh
  have e : (w3.setCell ⟨b, 0, none⟩ (.slice A V.length c)).heap.size = w3.heap.size := by simp
  refine ⟨cell_of_row _ _ 0 _ _ _ hh3, frozen_of_row _ _ 0 _ _ hh3, cell_set hh3, ?_, (hb.trans (bel.mono hb.size)).setCell hlo _⟩
  rw [e]
  exact (own.setBelow hlt _).more hb.size (Nat.le_refl _)

/-- The dual of a sequent. -/
def dualQ (qs : List (List Int)) : List (List Int) := if validQ qs = true then qs.map dualL else []
theorem dualQ_no {qs : List (List Int)} (h : validQ qs = false) : dualQ qs = [] := by unfold dualQ; rw [h]; rfl
theorem dualQ_yes {qs : List (List Int)} (h : validQ qs = true) : dualQ qs = qs.map dualL := by unfold dualQ; rw [if_pos h]

theorem three_heap (w : World) (a b c : Obj) : (((w.alloc a).alloc b).alloc c).heap[w.heap.size]? = some a ∧ (((w.alloc a).alloc b).alloc c).heap[w.heap.size + 1]? = some b ∧ (((w.alloc a).alloc b).alloc c).heap[w.heap.size + 1 + 1]? = some c := by
  obtain ⟨h1, h2⟩ := two_heap w a b
  exact ⟨(Below.heap_alloc _ _ _ (by simp; omega)).trans h1, heap_two _ _ _ _, heap_three _ _ _ _⟩

/-- .. where the variable lies below the parts. -/
theorem seq_out2 {w wr : World} {V : List (List Int)} {A : Option Addr} {n c b lo b0 : Nat} {t : TypeId} {v : Value} {hs : Nat → Option Addr × Nat} (hb : Below b0 w wr) (hlo : b0 ≤ b) (hlt : b < lo) (hh : wr.heap[b]? = some (.cells #[v] t (0, 0)))
    (own : OwnQ wr lo wr.heap.size (.slice A n c) hs V) :
    (wr.setCell ⟨b, 0, none⟩ (.slice A n c)).heap[b]? = some (.cells #[.slice A n c] t (0, 0)) ∧
      OwnQ (wr.setCell ⟨b, 0, none⟩ (.slice A n c)) b0 (wr.setCell ⟨b, 0, none⟩ (.slice A n c)).heap.size (.slice A n c) hs V ∧ Below b0 w (wr.setCell ⟨b, 0, none⟩ (.slice A n c)) := by
  have e : (wr.setCell ⟨b, 0, none⟩ (.slice A n c)).heap.size = wr.heap.size := by simp
  refine ⟨cell_set hh, ?_, hb.setCell hlo _⟩
  rw [e]
  exact (own.setBelow hlt _).more (by omega) (Nat.le_refl _)

theorem set_far {w : World} {b : Nat} {u : Value} {p : Addr} (h : p.block ≠ b) : (w.setCell ⟨b, 0, none⟩ u).cell? p = w.cell? p := World.cell?_of_block (Below.heap_setCell _ _ _ _ h)
/-- The append of a new part to a row in a variable of one's own (block b): what it asks. -/
theorem push_in {w5 w6 : World} {lo k c2 c6 : Nat} {A2 A6 : Option Addr} {hs : Nat → Option Addr × Nat} {cur : List (List Int)} {dq : List Int} (own5 : OwnQ w5 lo w5.heap.size (.slice A2 k c2) hs cur) (hlen : cur.length = k) (hlo : lo ≤ w5.heap.size)
    (bel6 : Below w5.heap.size w5 w6) :
    (w6.alloc (.cells #[.slice A6 dq.length c6] 26)).ownsRow lo 26 1 (.slice A2 k c2) k (rowV hs cur) ∧
      (∀ j u, [Value.slice A6 dq.length c6][j]? = some u → (w6.alloc (.cells #[.slice A6 dq.length c6] 26)).cell? ((⟨w6.heap.size, 0, none⟩ : Addr).add j) = some u) ∧ lo ≤ (w6.alloc (.cells #[.slice A6 dq.length c6] 26)).heap.size := by
  have h := ((own5.below bel6).below (box_below w6 (.slice A6 dq.length c6) 26)).outer
  rw [hlen] at h
  have hs6 := bel6.size
  exact ⟨h, World.news_of_block (heap_alloc_new w6 (.cells #[.slice A6 dq.length c6] 26)), by simp; omega⟩
/-- .. and what it leaves, the store behind it done. -/
theorem push_out {w3 w5 w6 w7 : World} {b lo k c2 c6 g cap : Nat} {A2 A6 : Option Addr} {t : TypeId} {hs : Nat → Option Addr × Nat} {cur : List (List Int)} {dq : List Int} (own5 : OwnQ w5 lo w5.heap.size (.slice A2 k c2) hs cur) (hlen : cur.length = k) (hlo : lo ≤ w5.heap.size) (hbl : b < lo)
    (bl5 : Below b w3 w5) (hb5 : w5.heap[b]? = some (.cells #[.slice A2 k c2] t (0, 0))) (bel6 : Below w5.heap.size w5 w6) (own6 : w6.ownsRow w5.heap.size 2 1 (.slice A6 dq.length c6) dq.length (dq.map (Value.int .i64)))
    (hown7 : w7.ownsRow lo 26 1 (.slice (some ⟨g, 0, none⟩) (k + 1) cap) (k + 1) (rowV hs cur ++ [.slice A6 dq.length c6])) (hgrow7 : (w6.alloc (.cells #[.slice A6 dq.length c6] 26)).grownBy w7 (Value.slice A2 k c2).ownBlock)
    (hat7 : (Value.slice A2 k c2).ownBlock = some g ∨ g = (w6.alloc (.cells #[.slice A6 dq.length c6] 26)).heap.size) :
    (∀ p : Addr, p.block < lo → w7.cell? p = w5.cell? p) ∧ w7.frozen? ⟨b, 0, none⟩ = false ∧
      (w7.setCell ⟨b, 0, none⟩ (.slice (some ⟨g, 0, none⟩) (k + 1) cap)).heap[b]? = some (.cells #[.slice (some ⟨g, 0, none⟩) (k + 1) cap] t (0, 0)) ∧
      OwnQ (w7.setCell ⟨b, 0, none⟩ (.slice (some ⟨g, 0, none⟩) (k + 1) cap)) lo (w7.setCell ⟨b, 0, none⟩ (.slice (some ⟨g, 0, none⟩) (k + 1) cap)).heap.size (.slice (some ⟨g, 0, none⟩) (k + 1) cap) (upd hs cur.length (A6, c6)) (cur ++ [dq]) ∧
      Below b w3 (w7.setCell ⟨b, 0, none⟩ (.slice (some ⟨g, 0, none⟩) (k + 1) cap)) := by
  have hbx := box_below w6 (.slice A6 dq.length c6) 26
  have hs6 := bel6.size
  have hsx := hbx.size
  have ob : ∀ q, (Value.slice A2 k c2).ownBlock = some q → lo ≤ q := fun q e => (own5.outer.lt q e).1
  have b67 : Below lo w5 w7 := ((bel6.mono hlo).trans (hbx.mono (by omega))).grown hgrow7 (by omega) ob
  have hb7 := (b67.block b hbl).trans hb5
  have own6a := (own5.below bel6).below hbx
  subst hlen
  have hq := OwnQ.push (hi' := w7.heap.size) own6a ((own6.mono hlo).alloc (.cells #[.slice A6 dq.length c6] 26)) (fun q e => (own6.lt q e).1) hown7 hgrow7
    (fun q e => by
      obtain rfl : g = q := by simpa [Value.ownBlock] using e
      rcases hat7 with h | h
      · exact .inl h
      · exact .inr (Nat.le_of_eq h.symm)) (by omega) (Nat.le_refl _)
  have e : (w7.setCell ⟨b, 0, none⟩ (.slice (some ⟨g, 0, none⟩) (cur.length + 1) cap)).heap.size = w7.heap.size := by simp
  refine ⟨fun p hp => b67.cell hp, frozen_of_row _ _ 0 _ _ hb7, cell_set hb7, ?_, (bl5.trans (b67.mono (by omega))).setCell (Nat.le_refl _) _⟩
  rw [e]
  exact hq.setBelow hbl _

theorem total_small {qs : List (List Int)} (h : ∀ q ∈ qs, q.length ≤ 24) : total qs ≤ 24 * qs.length := by
  induction qs with
  | nil => simp [total]
  | cons x xs ih =>
    have h1 := h x (by simp)
    have h2 := ih fun q hq => h q (by simp [hq])
    have e : total (x :: xs) = x.length + total xs := by simp [total]
    rw [e, List.length_cons]
    omega
theorem dualQ_small (qs : List (List Int)) : (dualQ qs).length ≤ 1048576 ∧ total (dualQ qs) ≤ 1048576 := by
  cases hv : validQ qs with
  | false => rw [dualQ_no hv]; simp [total]
  | true =>
    have hl := validQ_len hv
    rw [dualQ_yes hv]
    have ht := total_small (qs := qs.map dualL) fun q hq => by
      obtain ⟨x, _, rfl⟩ := List.mem_map.1 hq
      exact dualL_len x
    rw [List.length_map] at ht ⊢
    omega

/-- What a function leaves that hands back a row of slices in memory of its own. -/
def GivesSS (w : World) (V : List (List Int)) (e : Ending) (w' : World) : Prop :=
  ∃ hs A c, e = .returned (.slice A V.length c) ∧ OwnQ w' w.heap.size w'.heap.size (.slice A V.length c) hs V ∧ Below w.heap.size w w'
/-- A part pushed onto a row in a slot. -/
theorem push_own {w5 w6 w7 : World} {lo k c2 c6 g cap : Nat} {A2 A6 : Option Addr} {hs : Nat → Option Addr × Nat} {cur : List (List Int)} {dq : List Int} (own5 : OwnQ w5 lo w5.heap.size (.slice A2 k c2) hs cur) (hlen : cur.length = k) (hlo : lo ≤ w5.heap.size)
    (bel6 : Below w5.heap.size w5 w6) (own6 : w6.ownsRow w5.heap.size 2 1 (.slice A6 dq.length c6) dq.length (dq.map (Value.int .i64)))
    (hown7 : w7.ownsRow lo 26 1 (.slice (some ⟨g, 0, none⟩) (k + 1) cap) (k + 1) (rowV hs cur ++ [.slice A6 dq.length c6])) (hgrow7 : (w6.alloc (.cells #[.slice A6 dq.length c6] 26)).grownBy w7 (Value.slice A2 k c2).ownBlock)
    (hat7 : (Value.slice A2 k c2).ownBlock = some g ∨ g = (w6.alloc (.cells #[.slice A6 dq.length c6] 26)).heap.size) :
    OwnQ w7 lo w7.heap.size (.slice (some ⟨g, 0, none⟩) (k + 1) cap) (upd hs cur.length (A6, c6)) (cur ++ [dq]) ∧ Below lo w5 w7 := by
  have hbx := box_below w6 (.slice A6 dq.length c6) 26
  have hs6 := bel6.size
  have hsx := hbx.size
  have ob : ∀ q, (Value.slice A2 k c2).ownBlock = some q → lo ≤ q := fun q e => (own5.outer.lt q e).1
  have b67 : Below lo w5 w7 := ((bel6.mono hlo).trans (hbx.mono (by omega))).grown hgrow7 (by omega) ob
  have own6a := (own5.below bel6).below hbx
  subst hlen
  exact ⟨OwnQ.push (hi' := w7.heap.size) own6a ((own6.mono hlo).alloc (.cells #[.slice A6 dq.length c6] 26)) (fun q e => (own6.lt q e).1) hown7 hgrow7
    (fun q e => by
      obtain rfl : g = q := by simpa [Value.ownBlock] using e
      rcases hat7 with h | h
      · exact .inl h
      · exact .inr (Nat.le_of_eq h.symm)) (by omega) (Nat.le_refl _), b67⟩
/-- An empty row just made. -/
theorem OwnQ.made (w : World) (hs : Nat → Option Addr × Nat) : OwnQ (w.alloc (.cells #[] 26)) w.heap.size (w.alloc (.cells #[] 26)).heap.size (.slice (some ⟨w.heap.size, 0, none⟩) 0 0) hs [] where
  outer := by simpa [rowV] using World.ownsRow_made (e := 26) (base := w.heap.size) (size := 1) w #[] 0 (Nat.le_refl _) (by simp [maxLen]) rfl
  inner i hi := by simp at hi
  apart i _ hi := by simp at hi
  apart0 i hi := by simp at hi
  top0 k e := by
    obtain rfl : w.heap.size = k := by simpa [Value.ownBlock] using e
    simp
  top i _ hi := by simp at hi
theorem take_push {qs : List (List Int)} {k : Nat} (h : k < qs.length) : qs.take k ++ [qs.getD k []] = qs.take (k + 1) := by
  rw [List.take_succ_eq_append_getElem h]
  simp [List.getD, h]

set_option maxHeartbeats 2000000 in
theorem sCopyForms_any (A : Option Addr) (n c : Nat) (qs : List (List Int)) (w : World) (h : RdQ w w.heap.size A n qs) (hn : n ≤ 1000) (hq : ∀ q ∈ qs, q.length ≤ 1000) (hp : ∀ q ∈ qs, 0 < q.length) :
    Calls Tryd.prog 121 #[.slice A n c] w (GivesSS w qs) := by
  obtain ⟨i0, hi0, hz0, hz1, hz2⟩ := info_parts_s
  have hl := h.len
  subst hl
  have hw0 := OwnQ.made w (fun _ => (none, 0))
  have hb0 : Below w.heap.size w (w.alloc (.cells #[] 26)) := (Below.refl _ _).alloc (Nat.le_refl _) _
  have HI := Lib.hid hi0; have HZ0 := Lib.hid hz0; have HZ1 := Lib.hid hz1; have HZ2 := Lib.hid hz2
  have H0 := Lib.hid hw0; have HB0 := Lib.hid hb0
  clear hi0 hz0 hz1 hz2 hw0 hb0
  go_enter Tryd.func121, Tryd.ntmps121
  go_wp2
  generalize w.alloc (.cells #[] 26) = w1 at *
  go_loopw [3, 4] (fun o i wr => ∃ k : Nat, k ≤ qs.length ∧ i = .int .i64 k ∧ ∃ hs A2 c2, o = .slice A2 k c2 ∧ OwnQ wr w.heap.size wr.heap.size (.slice A2 k c2) hs (qs.take k) ∧ Below w.heap.size w wr) (fun _ i _ => qs.length - (intOf i).toNat)
  case atStart => exact ⟨0, Nat.zero_le _, rfl, _, _, _, rfl, H0.out, HB0.out⟩
  case round =>
    obtain ⟨k, hk, rfl, hs, A2, c2, rfl, hown, hb⟩ := hrel
    by_cases hlt : k < qs.length
    · have h' := (h.below hb).more hb.size
      obtain ⟨b, off, rfl, hbb, hcells⟩ := h'.2 (by omega)
      obtain ⟨A', c', hcell, hcc, hrd⟩ := hcells k hlt
      have hm := hq _ (getD_mem hlt)
      have hpos := hp _ (getD_mem hlt)
      have HLEN : Hid ((qs.take k).length = k) := Lib.hid (by rw [List.length_take]; omega)
      have HNX := Lib.hid (take_push hlt)
      generalize hQ : qs.getD k [] = q at *
      have HT := Lib.hid (copyInts_any (.slice A' q.length c') q wr (Part.of_rd hrd hpos) hm)
      have HO := Lib.hid hown; have HB := Lib.hid hb
      clear hown hb h h' hcells hrd hQ H0 HB0
      go_wp2_with (first
        | (go_at_call 82; refine HT.out.mono ?_; rintro e w6 ⟨A6, c6, rfl, own6, bel6⟩; obtain ⟨o6, n6, bs6⟩ := push_in (A6 := A6) (c6 := c6) (dq := q) HO.out HLEN.out HB.out.size bel6; have O6 := Lib.hid o6; have N6 := Lib.hid n6; have BS6 := Lib.hid bs6; have OW6 := Lib.hid own6; have BE6 := Lib.hid bel6; clear own6 bel6 o6 n6 bs6)
        | (at_builtin; refine wpList_append_lies _ rfl _ _ _ rfl w.heap.size 26 i0 (.slice none 0 0) 1 24 Tryd.underlying24 HI.out HZ0.out HZ1.out HZ2.out rfl (by decide) _ _ _ rfl O6.out ⟨w6.heap.size, 0, none⟩ 1 1 [.slice A6 q.length c6] rfl rfl N6.out (by simp [Value.oneCell']) (by decide) (by simp only [maxLen]; omega) (by omega) BS6.out _ rfl ?_; intro g cap w7 hown7 hgrow7 hat7 hlt7))
      obtain ⟨G1, G2⟩ := push_own HO.out HLEN.out HB.out.size BE6.out OW6.out hown7 hgrow7 hat7
      rw [HNX.out] at G1
      have J1 := Lib.hid G1; have J2 := Lib.hid (HB.out.trans G2)
      clear hown7 hgrow7 hat7 G1 G2
      go_roundw
      case rel => exact ⟨k + 1, by omega, by go_num, _, _, _, rfl, J1.out, J2.out⟩
      case measure => simp [intOf]; omega
    · have hkl : k = qs.length := by omega
      subst hkl
      rw [List.take_of_length_le (Nat.le_refl _)] at hown
      have HO := Lib.hid hown; have HB := Lib.hid hb
      clear hown hb h hq hp H0 HB0
      go_wp2
      go_ret
      exact ⟨_, _, _, rfl, HO.out, HB.out⟩

end Go.Proofs.YtjfhbofgnagfaaaDoor
