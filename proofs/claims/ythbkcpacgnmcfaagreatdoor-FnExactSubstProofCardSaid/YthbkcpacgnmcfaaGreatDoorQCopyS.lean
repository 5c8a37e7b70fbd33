/- A function mapped over a sequent: mappedSeq with slices.Clone (copyOfSeq) and with DualOf; DualSeq of the program. DualSeq of the model. The model's copies of rows and sequents. The laws' helpers at a step: its size, its copy, comparison. toStep. -/
import Derived.Test.YthbkcpacgnmcfaaGreatDoorSeqV
import Derived.Test.YthbkcpacgnmcfaaGreatDoorQClone
import Derived.Deep.RegionLaw
import Derived.Deep.AppendLies
import Derived.Test.YthbkcpacgnmcfaaGreatDoorRowH
namespace Go.Proofs.YthbkcpacgnmcfaaGreatDoor
set_option linter.unusedSimpArgs false
set_option linter.unusedVariables false
section
open Go.ChangeAt Go.ChangeShapes Go.RowKit Go.WideShapes

/-- What a function leaves that hands back a sequent in memory of its own. -/
def GivesSeq (w : World) (V : List (List Int)) (e : Ending) (w' : World) : Prop :=
  ∃ hs A c, e = .returned (.agg #[.slice A V.length c]) ∧ OwnQ w' w.heap.size w'.heap.size (.slice A V.length c) hs V ∧ Below w.heap.size w w'
theorem two_heap (w : World) (a b : Obj) : ((w.alloc a).alloc b).heap[w.heap.size]? = some a ∧ ((w.alloc a).alloc b).heap[w.heap.size + 1]? = some b := by
  have h : (w.alloc a).heap.size = w.heap.size + 1 := by simp
  refine ⟨?_, ?_⟩
  · rw [Below.heap_alloc _ _ _ (by simp)]; exact heap_alloc_new _ _
  · rw [← h]; exact heap_alloc_new _ _
theorem map_getD {qs : List (List Int)} (g : List Int → List Int) {k : Nat} (h : k < qs.length) : (qs.map g).getD k [] = g (qs.getD k []) := by
  simp [List.getD, h]
/-- The store of a struct of one cell into a variable of one's own. -/
theorem cell_set {w : World} {b : Nat} {v u : Value} {t : TypeId} (h : w.heap[b]? = some (.cells #[v] t (0, 0))) : (w.setCell ⟨b, 0, none⟩ u).heap[b]? = some (.cells #[u] t (0, 0)) := by
  have := heap_setCell_same w b 0 #[v] t u h
  simpa using this
/-- A sequent stored into the variable of the result. -/
theorem seq_out {w w2 w3 : World} {V : List (List Int)} {A : Option Addr} {c b : Nat} {t : TypeId} {v : Value} {hs : Nat → Option Addr × Nat} (hb : Below w.heap.size w w2) (hlo : w.heap.size ≤ b) (hlt : b < w2.heap.size) (hh : w2.heap[b]? = some (.cells #[v] t (0, 0)))
    (own : OwnQ w3 w2.heap.size w3.heap.size (.slice A V.length c) hs V) (bel : Below w2.heap.size w2 w3) :
    w3.cell? ⟨b, 0, none⟩ = some v ∧ w3.frozen? ⟨b, 0, none⟩ = false ∧ (w3.setCell ⟨b, 0, none⟩ (.slice A V.length c)).heap[b]? = some (.cells #[.slice A V.length c] t (0, 0)) ∧
      OwnQ (w3.setCell ⟨b, 0, none⟩ (.slice A V.length c)) w.heap.size (w3.setCell ⟨b, 0, none⟩ (.slice A V.length c)).heap.size (.slice A V.length c) hs V ∧ Below w.heap.size w (w3.setCell ⟨b, 0, none⟩ (.slice A V.length c)) := by
  have hh3 := (bel.block b hlt).trans hh
  have e : (w3.setCell ⟨b, 0, none⟩ (.slice A V.length c)).heap.size = w3.heap.size := by simp
  refine ⟨cell_of_row _ _ 0 _ _ _ hh3, frozen_of_row _ _ 0 _ _ hh3, cell_set hh3, ?_, (hb.trans (bel.mono hb.size)).setCell hlo _⟩
  rw [e]
  exact (own.setBelow hlt _).more hb.size (Nat.le_refl _)

set_option maxHeartbeats 2000000 in
theorem mappedClone_any (A : Option Addr) (n c : Nat) (qs : List (List Int)) (w : World) (h : RdQ w w.heap.size A n qs) (hn : n ≤ 10) (hq : ∀ q ∈ qs, q.length ≤ 1000) (hp : ∀ q ∈ qs, 0 < q.length) :
    Calls Tryz.prog 80 #[.agg #[.slice A n c], .func (.func 64) #[] #[]] w (GivesSeq w (qs.map (id))) := by
  obtain ⟨i0, hi0, hz0, hz1, hz2⟩ := info_parts_s
  have hl := h.len
  subst hl
  have hlm : (qs.map (id)).length = qs.length := List.length_map _
  obtain ⟨w2, hw2⟩ : ∃ w2, w2 = (w.alloc (.cells #[Value.slice A qs.length c] 64)).alloc (.cells #[.slice none 0 0] 64) := ⟨_, rfl⟩
  obtain ⟨hb, ca, _, hsz⟩ := two_boxes w (.slice A qs.length c) (.slice none 0 0) 64
  obtain ⟨_, hh2⟩ := two_heap w (.cells #[Value.slice A qs.length c] 64) (.cells #[.slice none 0 0] 64)
  have ha : ((w.alloc (.cells #[Value.slice A qs.length c] 64)).alloc (.cells #[.slice none 0 0] 64)).cell? ⟨w.heap.size, 0, none⟩ = some (.slice A qs.length c) := ca
  rw [← hw2] at hb ca hsz hh2
  have hszl : w.heap.size + 1 < w2.heap.size := by omega
  have HSZ := Lib.hid hsz
  clear hsz
  have h2 := (h.below hb).more hb.size
  have HB0 := Lib.hid hb
  clear h
  go_enter Tryz.func80, Tryz.ntmps80
  have b2 : i0.bytes * qs.length ≤ 281474976710656 := by rw [hz2]; omega
  have b3 : qs.length ≤ maxLen := by unfold maxLen; omega
  go_wp2_with (at_make; refine wpList_make_full _ rfl _ _ _ rfl _ 36 i0 (.slice none 0 0) 1 Tryz.underlying23 hi0 hz0 hz1 _ _ _ _ qs.length rfl rfl rfl rfl b2 b3 (Nat.le_refl _) ?_; rw [← hw2]; intro w1 hown hg; have ca1 := (World.cell?_of_block (hg.block w.heap.size (by omega) (by simp))).trans ca)
  have hbel : Below w2.heap.size w2 w1 := (Below.refl _ _).grown hg (Nat.le_refl _) (by intro k hk; cases hk)
  have hown0 : w1.ownsRow w2.heap.size 36 1 (.slice (some ⟨w2.heap.size, 0, none⟩) qs.length qs.length) qs.length (List.replicate qs.length (.slice none 0 0)) := by
    rw [← toList_madeCells_one]; simpa [Value.cells] using hown
  have hlt1 : w2.heap.size < w1.heap.size := (hown0.lt _ rfl).2
  have hown1 : OwnQ w1 w2.heap.size w1.heap.size (.slice (some ⟨w.heap.size + 1 + 1, 0, none⟩) qs.length qs.length) (fun _ => (none, 0)) (cpq (qs.map (id)) 0) := by
    rw [← HSZ.out, ← cpq_zero, hlm]; exact OwnQ.fresh hown0 _ (fun _ => rfl) _ hlt1
  have HH2 := Lib.hid hh2
  clear hg hown hown0 hlt1 b2 b3 hi0 hz0 hz1 hz2 ca ca1 hw2 hh2 ha HSZ
  generalize w.heap.size + 1 + 1 = g at *
  go_loopw [6, 7, 15] (fun _ _ i wr => ∃ k : Nat, k ≤ qs.length ∧ i = .int .i64 k ∧ ∃ hs, OwnQ wr w2.heap.size wr.heap.size (.slice (some ⟨g, 0, none⟩) qs.length qs.length) hs (cpq (qs.map (id)) k) ∧ Below w2.heap.size w2 wr)
    (fun _ _ i _ => qs.length - (intOf i).toNat)
  case atStart => exact ⟨0, Nat.zero_le _, rfl, _, hown1, hbel⟩
  case round =>
    obtain ⟨k, hk, rfl, hs, hown, hb⟩ := hrel
    clear hown1 hbel
    by_cases hlt : k < qs.length
    · have h' := (h2.below hb).more hb.size
      obtain ⟨b, off, rfl, hbb, hcells⟩ := h'.2 (by omega)
      obtain ⟨A', c', hcell, hcc, hrd⟩ := hcells k hlt
      have hm := hq _ (getD_mem hlt)
      have hpos := hp _ (getD_mem hlt)
      have hl2 := (cpq_len (qs := qs.map (id)) (k := k) (by omega)).trans hlm
      have hst := cpq_step (qs := qs.map (id)) (k := k) (by omega)
      rw [map_getD _ hlt] at hst
      have HSTEP := Lib.hid hst
      clear hst
      generalize hQ : qs.getD k [] = q at *
      have HT := Lib.hid (show Calls _ _ _ _ (Gives wr (id q)) from clone_any (.slice A' q.length c') q wr (Part.of_rd hrd hpos) hm)
      generalize id q = gq at *
      have hgg : g < wr.heap.size := hown.top0 _ rfl
      have HO := Lib.hid hown; have HB := Lib.hid hb; have HL2 := Lib.hid hl2
      clear hown hb h2 h' hcells hrd hQ hl2
      go_wp2_with (fail)
      refine HT.out.mono ?_
      rintro e w3 ⟨A3, c3, rfl, own3, bel3⟩
      obtain ⟨hF, hFb⟩ := HO.out.fill HL2.out hlt rfl HB.out own3 bel3
      rw [HSTEP.out] at hF
      have hO2 := HO.out.below bel3
      obtain ⟨hf, ho⟩ := hO2.at HL2.out hlt
      obtain ⟨o, hoo⟩ : ∃ o, hv hs (cpq (qs.map (id)) k) k = o := ⟨_, rfl⟩
      rw [hoo] at ho
      have HF := Lib.hid hF; have HFB := Lib.hid hFb
      clear hF hFb hoo hO2 own3 bel3
      go_wp2
      go_roundw
      case rel => exact ⟨k + 1, by omega, by go_num, _, HF.out, HFB.out⟩
      case measure => simp [intOf]; omega
    · have hkl : k = qs.length := by omega
      subst hkl
      rw [← hlm, cpq_all, hlm] at hown
      have hh3 := (hb.block (w.heap.size + 1) (by omega)).trans HH2.out
      have hc3 : wr.cell? ⟨w.heap.size + 1, 0, none⟩ = some (.slice none 0 0) := cell_of_row _ _ 0 _ _ _ hh3
      have hf3 : wr.frozen? ⟨w.heap.size + 1, 0, none⟩ = false := frozen_of_row _ _ 0 _ _ hh3
      have HH := Lib.hid (cell_set (u := .slice (some ⟨g, 0, none⟩) qs.length qs.length) hh3)
      have e5 : (wr.setCell ⟨w.heap.size + 1, 0, none⟩ (.slice (some ⟨g, 0, none⟩) qs.length qs.length)).heap.size = wr.heap.size := by simp
      have HO : Hid (OwnQ (wr.setCell ⟨w.heap.size + 1, 0, none⟩ (.slice (some ⟨g, 0, none⟩) qs.length qs.length)) w.heap.size (wr.setCell ⟨w.heap.size + 1, 0, none⟩ (.slice (some ⟨g, 0, none⟩) qs.length qs.length)).heap.size (.slice (some ⟨g, 0, none⟩) qs.length qs.length) hs (qs.map (id))) := Lib.hid (by
        rw [e5]
        exact (hown.setBelow (by show w.heap.size + 1 < w2.heap.size; omega) _).more (by omega) (Nat.le_refl _))
      have HB := Lib.hid ((HB0.out.trans (hb.mono HB0.out.size)).setCell (p := ⟨w.heap.size + 1, 0, none⟩) (by show w.heap.size ≤ w.heap.size + 1; omega) (.slice (some ⟨g, 0, none⟩) qs.length qs.length))
      have HL := Lib.hid hlm
      clear hown hb h2 hq hh3 e5 hlm
      go_wp2
      (try simp only [Exit.inBlock, Exit.then])
      refine bodyPost_ret (results_cell_row rfl _ _ (w.heap.size + 1) _ _ (0, 0) _ rfl HH.out Tryz.underlying64 rfl (by kernel_rfl)) rfl ?_
      exact ⟨hs, some ⟨g, 0, none⟩, qs.length, by rw [HL.out], by rw [HL.out]; exact HO.out, HB.out⟩

set_option maxHeartbeats 1000000 in
theorem copyOfSeq_any (A : Option Addr) (n c : Nat) (qs : List (List Int)) (w : World) (h : RdQ w w.heap.size A n qs) (hn : n ≤ 10) (hq : ∀ q ∈ qs, q.length ≤ 1000) (hp : ∀ q ∈ qs, 0 < q.length) :
    Calls Tryz.prog 79 #[.agg #[.slice A n c]] w (GivesSeq w qs) := by
  obtain ⟨w2, hw2⟩ : ∃ w2, w2 = (w.alloc (.cells #[Value.slice A n c] 64)).alloc (.cells #[.slice none 0 0] 64) := ⟨_, rfl⟩
  obtain ⟨hb, ca, _, hsz⟩ := two_boxes w (.slice A n c) (.slice none 0 0) 64
  obtain ⟨_, hh2⟩ := two_heap w (.cells #[Value.slice A n c] 64) (.cells #[.slice none 0 0] 64)
  have ha : ((w.alloc (.cells #[Value.slice A n c] 64)).alloc (.cells #[.slice none 0 0] 64)).cell? ⟨w.heap.size, 0, none⟩ = some (.slice A n c) := ca
  rw [← hw2] at hb hsz hh2
  have hszl : w.heap.size + 1 < w2.heap.size := by omega
  have HM := Lib.hid (mappedClone_any A n c qs w2 ((h.below hb).more hb.size) hn hq hp)
  rw [List.map_id] at HM
  have HB := Lib.hid hb; have HH := Lib.hid hh2
  clear h hq hp hsz hb hh2 ca
  go_enter Tryz.func79, Tryz.ntmps79
  go_wp2_with (fail)
  rw [← hw2]
  clear hw2 ha
  refine HM.out.mono ?_
  rintro e w3 ⟨hs, A3, c3, rfl, own3, bel3⟩
  obtain ⟨hc3, hf3, h5, o5, b5⟩ := seq_out HB.out (b := w.heap.size + 1) (by omega) hszl HH.out own3 bel3
  have H5 := Lib.hid h5; have O5 := Lib.hid o5; have B5 := Lib.hid b5
  clear own3 bel3 h5 o5 b5
  go_wp2
  (try simp only [Exit.inBlock, Exit.then])
  refine bodyPost_ret (results_cell_row rfl _ _ (w.heap.size + 1) _ _ (0, 0) _ rfl H5.out Tryz.underlying64 rfl (by kernel_rfl)) rfl ?_
  exact ⟨hs, _, _, rfl, O5.out, B5.out⟩

/-- The append of a new part to a row in a variable of one's own (block b): what it asks. -/
theorem push_in {w5 w6 : World} {lo k c2 c6 : Nat} {A2 A6 : Option Addr} {hs : Nat → Option Addr × Nat} {cur : List (List Int)} {dq : List Int} (own5 : OwnQ w5 lo w5.heap.size (.slice A2 k c2) hs cur) (hlen : cur.length = k) (hlo : lo ≤ w5.heap.size)
    (bel6 : Below w5.heap.size w5 w6) :
    (w6.alloc (.cells #[.slice A6 dq.length c6] 36)).ownsRow lo 36 1 (.slice A2 k c2) k (rowV hs cur) ∧
      (∀ j u, [Value.slice A6 dq.length c6][j]? = some u → (w6.alloc (.cells #[.slice A6 dq.length c6] 36)).cell? ((⟨w6.heap.size, 0, none⟩ : Addr).add j) = some u) ∧ lo ≤ (w6.alloc (.cells #[.slice A6 dq.length c6] 36)).heap.size := by
  have h := ((own5.below bel6).below (box_below w6 (.slice A6 dq.length c6) 36)).outer
  rw [hlen] at h
  have hs6 := bel6.size
  exact ⟨h, World.news_of_block (heap_alloc_new w6 (.cells #[.slice A6 dq.length c6] 36)), by simp; omega⟩
theorem total_small {qs : List (List Int)} (h : ∀ q ∈ qs, q.length ≤ 24) : total qs ≤ 24 * qs.length := by
  induction qs with
  | nil => simp [total]
  | cons x xs ih =>
    have h1 := h x (by simp)
    have h2 := ih fun q hq => h q (by simp [hq])
    have e : total (x :: xs) = x.length + total xs := by simp [total]
    rw [e, List.length_cons]
    omega
/-- What a function leaves that hands back a row of slices in memory of its own. -/
def GivesSS (w : World) (V : List (List Int)) (e : Ending) (w' : World) : Prop :=
  ∃ hs A c, e = .returned (.slice A V.length c) ∧ OwnQ w' w.heap.size w'.heap.size (.slice A V.length c) hs V ∧ Below w.heap.size w w'
/-- A part pushed onto a row in a slot. -/
theorem push_own {w5 w6 w7 : World} {lo k c2 c6 g cap : Nat} {A2 A6 : Option Addr} {hs : Nat → Option Addr × Nat} {cur : List (List Int)} {dq : List Int} (own5 : OwnQ w5 lo w5.heap.size (.slice A2 k c2) hs cur) (hlen : cur.length = k) (hlo : lo ≤ w5.heap.size)
    (bel6 : Below w5.heap.size w5 w6) (own6 : w6.ownsRow w5.heap.size 2 1 (.slice A6 dq.length c6) dq.length (dq.map (Value.int .i64)))
    (hown7 : w7.ownsRow lo 36 1 (.slice (some ⟨g, 0, none⟩) (k + 1) cap) (k + 1) (rowV hs cur ++ [.slice A6 dq.length c6])) (hgrow7 : (w6.alloc (.cells #[.slice A6 dq.length c6] 36)).grownBy w7 (Value.slice A2 k c2).ownBlock)
    (hat7 : (Value.slice A2 k c2).ownBlock = some g ∨ g = (w6.alloc (.cells #[.slice A6 dq.length c6] 36)).heap.size) :
    OwnQ w7 lo w7.heap.size (.slice (some ⟨g, 0, none⟩) (k + 1) cap) (upd hs cur.length (A6, c6)) (cur ++ [dq]) ∧ Below lo w5 w7 := by
  have hbx := box_below w6 (.slice A6 dq.length c6) 36
  have hs6 := bel6.size
  have hsx := hbx.size
  have ob : ∀ q, (Value.slice A2 k c2).ownBlock = some q → lo ≤ q := fun q e => (own5.outer.lt q e).1
  have b67 : Below lo w5 w7 := ((bel6.mono hlo).trans (hbx.mono (by omega))).grown hgrow7 (by omega) ob
  have own6a := (own5.below bel6).below hbx
  subst hlen
  exact ⟨OwnQ.push (hi' := w7.heap.size) own6a ((own6.mono hlo).alloc (.cells #[.slice A6 dq.length c6] 36)) (fun q e => (own6.lt q e).1) hown7 hgrow7
    (fun q e => by
      obtain rfl : g = q := by simpa [Value.ownBlock] using e
      rcases hat7 with h | h
      · exact .inl h
      · exact .inr (Nat.le_of_eq h.symm)) (by omega) (Nat.le_refl _), b67⟩
/-- An empty row just made. -/
theorem OwnQ.made (w : World) (hs : Nat → Option Addr × Nat) : OwnQ (w.alloc (.cells #[] 36)) w.heap.size (w.alloc (.cells #[] 36)).heap.size (.slice (some ⟨w.heap.size, 0, none⟩) 0 0) hs [] where
  outer := by simpa [rowV] using World.ownsRow_made (e := 36) (base := w.heap.size) (size := 1) w #[] 0 (Nat.le_refl _) (by simp [maxLen]) rfl
  inner i hi := by simp at hi
  apart i _ hi := by simp at hi
  apart0 i hi := by simp at hi
  top0 k e := by
    obtain rfl : w.heap.size = k := by simpa [Value.ownBlock] using e
    simp
  top i _ hi := by simp at hi
theorem take_push {qs : List (List Int)} {k : Nat} (h : k < qs.length) : qs.take k ++ [qs.getD k []] = qs.take (k + 1) := by
  rw [List.take_succ_eq_append_getElem h]
  simp [List.getD, h]

set_option maxHeartbeats 2000000 in
theorem sCopyForms_any (A : Option Addr) (n c : Nat) (qs : List (List Int)) (w : World) (h : RdQ w w.heap.size A n qs) (hn : n ≤ 1000) (hq : ∀ q ∈ qs, q.length ≤ 1000) (hp : ∀ q ∈ qs, 0 < q.length) :
    Calls Tryz.prog 54 #[.slice A n c] w (GivesSS w qs) := by
  obtain ⟨i0, hi0, hz0, hz1, hz2⟩ := info_parts_s
  have hl := h.len
  subst hl
  have hw0 := OwnQ.made w (fun _ => (none, 0))
  have hb0 : Below w.heap.size w (w.alloc (.cells #[] 36)) := (Below.refl _ _).alloc (Nat.le_refl _) _
  have HI := Lib.hid hi0; have HZ0 := Lib.hid hz0; have HZ1 := Lib.hid hz1; have HZ2 := Lib.hid hz2
  have H0 := Lib.hid hw0; have HB0 := Lib.hid hb0
  clear hi0 hz0 hz1 hz2 hw0 hb0
  go_enter Tryz.func54, Tryz.ntmps54
  go_wp2
  generalize w.alloc (.cells #[] 36) = w1 at *
  go_loopw [3, 4] (fun o i wr => ∃ k : Nat, k ≤ qs.length ∧ i = .int .i64 k ∧ ∃ hs A2 c2, o = .slice A2 k c2 ∧ OwnQ wr w.heap.size wr.heap.size (.slice A2 k c2) hs (qs.take k) ∧ Below w.heap.size w wr) (fun _ i _ => qs.length - (intOf i).toNat)
  case atStart => exact ⟨0, Nat.zero_le _, rfl, _, _, _, rfl, H0.out, HB0.out⟩
  case round =>
    obtain ⟨k, hk, rfl, hs, A2, c2, rfl, hown, hb⟩ := hrel
    by_cases hlt : k < qs.length
    · have h' := (h.below hb).more hb.size
      obtain ⟨b, off, rfl, hbb, hcells⟩ := h'.2 (by omega)
      obtain ⟨A', c', hcell, hcc, hrd⟩ := hcells k hlt
      have hm := hq _ (getD_mem hlt)
      have hpos := hp _ (getD_mem hlt)
      have HLEN : Hid ((qs.take k).length = k) := Lib.hid (by rw [List.length_take]; omega)
      have HNX := Lib.hid (take_push hlt)
      generalize hQ : qs.getD k [] = q at *
      have HT := Lib.hid (copyInts_any (.slice A' q.length c') q wr (Part.of_rd hrd hpos) hm)
      have HO := Lib.hid hown; have HB := Lib.hid hb
      clear hown hb h h' hcells hrd hQ H0 HB0
      go_wp2_with (first
        | (go_at_call 44; refine HT.out.mono ?_; rintro e w6 ⟨A6, c6, rfl, own6, bel6⟩; obtain ⟨o6, n6, bs6⟩ := push_in (A6 := A6) (c6 := c6) (dq := q) HO.out HLEN.out HB.out.size bel6; have O6 := Lib.hid o6; have N6 := Lib.hid n6; have BS6 := Lib.hid bs6; have OW6 := Lib.hid own6; have BE6 := Lib.hid bel6; clear own6 bel6 o6 n6 bs6)
        | (at_builtin; refine wpList_append_lies _ rfl _ _ _ rfl w.heap.size 36 i0 (.slice none 0 0) 1 24 Tryz.underlying23 HI.out HZ0.out HZ1.out HZ2.out rfl (by decide) _ _ _ rfl O6.out ⟨w6.heap.size, 0, none⟩ 1 1 [.slice A6 q.length c6] rfl rfl N6.out (by simp [Value.oneCell']) (by decide) (by simp only [maxLen]; omega) (by omega) BS6.out _ rfl ?_; intro g cap w7 hown7 hgrow7 hat7 hlt7))
      obtain ⟨G1, G2⟩ := push_own HO.out HLEN.out HB.out.size BE6.out OW6.out hown7 hgrow7 hat7
      rw [HNX.out] at G1
      have J1 := Lib.hid G1; have J2 := Lib.hid (HB.out.trans G2)
      clear hown7 hgrow7 hat7 G1 G2
      go_roundw
      case rel => exact ⟨k + 1, by omega, by go_num, _, _, _, rfl, J1.out, J2.out⟩
      case measure => simp [intOf]; omega
    · have hkl : k = qs.length := by omega
      subst hkl
      rw [List.take_of_length_le (Nat.le_refl _)] at hown
      have HO := Lib.hid hown; have HB := Lib.hid hb
      clear hown hb h hq hp H0 HB0
      go_wp2
      go_ret
      exact ⟨_, _, _, rfl, HO.out, HB.out⟩
end
section
open Go.ChangeAt Go.ChangeShapes Go.RowKit Go.WideShapes

theorem box_any (w : World) (o : Obj) : Below w.heap.size w (w.alloc o) := (Below.refl _ _).alloc (Nat.le_refl _) _

theorem szStep_any (r a b i j : Int) (A : Option Addr) (n c : Nat) (left : Int) (w : World) (hn : n ≤ maxLen) (h0 : 0 ≤ left) (h1 : left ≤ 1073741824) :
    Calls Tryz.prog 15 #[Value.agg #[Value.int .i64 r, Value.int .i64 a, Value.int .i64 b, Value.int .i64 i, Value.int .i64 j, Value.slice A n c], .int .i64 left] w fun e w' => e = .returned (.int .i64 (szR left n)) ∧ Below w.heap.size w w' := by
  have hb := box_any w (.cells #[Value.int .i64 r, Value.int .i64 a, Value.int .i64 b, Value.int .i64 i, Value.int .i64 j, Value.slice A n c] 38)
  have hcell : (w.alloc (.cells #[Value.int .i64 r, Value.int .i64 a, Value.int .i64 b, Value.int .i64 i, Value.int .i64 j, Value.slice A n c] 38)).cell? ⟨w.heap.size, 5, none⟩ = some (.slice A n c) := by simp
  have HS := Lib.hid (sz_any A n c left (w.alloc (.cells #[Value.int .i64 r, Value.int .i64 a, Value.int .i64 b, Value.int .i64 i, Value.int .i64 j, Value.slice A n c] 38)) hn h0 h1)
  have HB := Lib.hid hb
  clear hb
  by_cases hc : szR left n < 0
  · have HE : Hid ((-1 : Int) = szR left n) := Lib.hid (by
      unfold szR at hc ⊢
      by_cases h : left - n < 0
      · rw [if_pos h]
      · rw [if_neg h] at hc; omega)
    have hd : decide (szR left n < 0) = true := decide_eq_true hc
    generalize szR left n = R at *
    clear hc
    go_enter Tryz.func15, Tryz.ntmps15
    go_wp2_with (fail)
    refine HS.out.mono ?_
    rintro e w' ⟨rfl, rfl⟩
    go_wp2
    go_ret
    exact ⟨ret_i64 HE.out, HB.out⟩
  · have hd : decide (szR left n < 0) = false := decide_eq_false hc
    generalize szR left n = R at *
    clear hc
    go_enter Tryz.func15, Tryz.ntmps15
    go_wp2_with (fail)
    refine HS.out.mono ?_
    rintro e w' ⟨rfl, rfl⟩
    go_wp2
    go_ret
    exact ⟨rfl, HB.out⟩

/-- Two blocks more. -/
theorem two_any (w : World) (o p : Obj) : Below w.heap.size w ((w.alloc o).alloc p) ∧ ((w.alloc o).alloc p).heap[w.heap.size]? = some o ∧ ((w.alloc o).alloc p).heap[w.heap.size + 1]? = some p ∧ ((w.alloc o).alloc p).heap.size = w.heap.size + 1 + 1 := by
  obtain ⟨h0, h1⟩ := two_heap w o p
  exact ⟨((Below.refl _ _).alloc (Nat.le_refl _) _).alloc (by simp) _, h0, h1, by simp⟩

theorem eqStep_any (r a b i j : Int) (A B : Option Addr) (n c d : Nat) (f : List Int) (w : World) (h : RdI w w.heap.size A n f) (h' : RdI w w.heap.size B n f) (hn : n ≤ 1048576) :
    Calls Tryz.prog 28 #[Value.agg #[Value.int .i64 r, Value.int .i64 a, Value.int .i64 b, Value.int .i64 i, Value.int .i64 j, Value.slice A n c], Value.agg #[Value.int .i64 r, Value.int .i64 a, Value.int .i64 b, Value.int .i64 i, Value.int .i64 j, Value.slice B n d]] w fun e w' => e = .returned (.bool true) ∧ Below w.heap.size w w' := by
  obtain ⟨w2, hw2⟩ : ∃ w2, w2 = (w.alloc (.cells #[Value.int .i64 r, Value.int .i64 a, Value.int .i64 b, Value.int .i64 i, Value.int .i64 j, Value.slice A n c] 43)).alloc (.cells #[Value.int .i64 r, Value.int .i64 a, Value.int .i64 b, Value.int .i64 i, Value.int .i64 j, Value.slice B n d] 43) := ⟨_, rfl⟩
  obtain ⟨hb, p0, p1, hsz⟩ := two_any w (.cells #[Value.int .i64 r, Value.int .i64 a, Value.int .i64 b, Value.int .i64 i, Value.int .i64 j, Value.slice A n c] 43) (.cells #[Value.int .i64 r, Value.int .i64 a, Value.int .i64 b, Value.int .i64 i, Value.int .i64 j, Value.slice B n d] 43)
  rw [← hw2] at hb p0 p1 hsz
  have x0 := cell_of_row _ _ 0 _ _ (0, 0) p0; have x1 := cell_of_row _ _ 1 _ _ (0, 0) p0; have x2 := cell_of_row _ _ 2 _ _ (0, 0) p0
  have x3 := cell_of_row _ _ 3 _ _ (0, 0) p0; have x4 := cell_of_row _ _ 4 _ _ (0, 0) p0; have x5 := cell_of_row _ _ 5 _ _ (0, 0) p0
  have y0 := cell_of_row _ _ 0 _ _ (0, 0) p1; have y1 := cell_of_row _ _ 1 _ _ (0, 0) p1; have y2 := cell_of_row _ _ 2 _ _ (0, 0) p1
  have y3 := cell_of_row _ _ 3 _ _ (0, 0) p1; have y4 := cell_of_row _ _ 4 _ _ (0, 0) p1; have y5 := cell_of_row _ _ 5 _ _ (0, 0) p1
  have HE := Lib.hid (eqInts_any A B n n c d f f w2 ((h.below hb).more hb.size) ((h'.below hb).more hb.size) hn hn)
  have HB := Lib.hid hb
  clear hb p0 p1 h h' hsz
  go_enter Tryz.func28, Tryz.ntmps28
  go_wp2_with (fail)
  rw [← hw2]
  clear hw2
  go_wp2_with (fail)
  refine HE.out.mono ?_
  rintro e w3 ⟨rfl, bel⟩
  have HB3 := Lib.hid (HB.out.trans (bel.mono HB.out.size))
  clear bel HE
  go_wp2
  go_ret
  exact ⟨rfl, HB3.out⟩
end
section
open Go.ChangeAt Go.ChangeShapes Go.RowKit Go.WideShapes

/-- What the copy of a step leaves. -/
def CopiedStep (w : World) (r a b i j : Int) (n : Nat) (f : List Int) (e : Ending) (w' : World) : Prop :=
  ∃ g, e = .returned (Value.agg #[Value.int .i64 r, Value.int .i64 a, Value.int .i64 b, Value.int .i64 i, Value.int .i64 j, Value.slice (some ⟨g, 0, none⟩) n n]) ∧ w'.ownsRow w.heap.size 2 1 (.slice (some ⟨g, 0, none⟩) n n) n (f.map (Value.int .i64)) ∧ Below w.heap.size w w'

/-- Six cells stored, one after another. -/
theorem set6_at {w : World} {b : Nat} {c0 c1 c2 c3 c4 c5 : Value} {t : TypeId} (h : w.heap[b]? = some (.cells #[c0, c1, c2, c3, c4, c5] t (0, 0))) (v0 v1 v2 v3 v4 v5 : Value) :
    ((((((w.setCell ⟨b, 0, none⟩ v0).setCell ⟨b, 1, none⟩ v1).setCell ⟨b, 2, none⟩ v2).setCell ⟨b, 3, none⟩ v3).setCell ⟨b, 4, none⟩ v4).setCell ⟨b, 5, none⟩ v5).heap[b]? = some (.cells #[v0, v1, v2, v3, v4, v5] t (0, 0)) := by
  have h0 := heap_setCell_same w b 0 _ t v0 h
  have h1 := heap_setCell_same _ b 1 _ t v1 h0
  have h2 := heap_setCell_same _ b 2 _ t v2 h1
  have h3 := heap_setCell_same _ b 3 _ t v3 h2
  have h4 := heap_setCell_same _ b 4 _ t v4 h3
  have h5 := heap_setCell_same _ b 5 _ t v5 h4
  simpa using h5
theorem set6_own {w : World} {base : Nat} {e : TypeId} {size : Nat} {v : Value} {n : Nat} {xs : List Value} (h : w.ownsRow base e size v n xs) {b : Nat} (hb : b < base) (v0 v1 v2 v3 v4 v5 : Value) :
    ((((((w.setCell ⟨b, 0, none⟩ v0).setCell ⟨b, 1, none⟩ v1).setCell ⟨b, 2, none⟩ v2).setCell ⟨b, 3, none⟩ v3).setCell ⟨b, 4, none⟩ v4).setCell ⟨b, 5, none⟩ v5).ownsRow base e size v n xs :=
  ownsRow_setCell_below (ownsRow_setCell_below (ownsRow_setCell_below (ownsRow_setCell_below (ownsRow_setCell_below (ownsRow_setCell_below h (a := ⟨b, 0, none⟩) hb v0) (a := ⟨b, 1, none⟩) hb v1) (a := ⟨b, 2, none⟩) hb v2) (a := ⟨b, 3, none⟩) hb v3) (a := ⟨b, 4, none⟩) hb v4) (a := ⟨b, 5, none⟩) hb v5
theorem set6_below {w0 w : World} {B b : Nat} (h : Below B w0 w) (hb : B ≤ b) (v0 v1 v2 v3 v4 v5 : Value) : Below B w0 ((((((w.setCell ⟨b, 0, none⟩ v0).setCell ⟨b, 1, none⟩ v1).setCell ⟨b, 2, none⟩ v2).setCell ⟨b, 3, none⟩ v3).setCell ⟨b, 4, none⟩ v4).setCell ⟨b, 5, none⟩ v5) :=
  (((((h.setCell (p := ⟨b, 0, none⟩) hb v0).setCell (p := ⟨b, 1, none⟩) hb v1).setCell (p := ⟨b, 2, none⟩) hb v2).setCell (p := ⟨b, 3, none⟩) hb v3).setCell (p := ⟨b, 4, none⟩) hb v4).setCell (p := ⟨b, 5, none⟩) hb v5

theorem three_any (w : World) (o p q : Obj) : Below w.heap.size w (((w.alloc o).alloc p).alloc q) ∧ (((w.alloc o).alloc p).alloc q).heap[w.heap.size]? = some o ∧ (((w.alloc o).alloc p).alloc q).heap[w.heap.size + 1]? = some p ∧ (((w.alloc o).alloc p).alloc q).heap[w.heap.size + 1 + 1]? = some q ∧ (((w.alloc o).alloc p).alloc q).heap.size = w.heap.size + 1 + 1 + 1 := by
  obtain ⟨hb, h0, h1, hs⟩ := two_any w o p
  refine ⟨hb.alloc (by omega) _, (Below.heap_alloc _ _ _ (by omega)).trans h0, (Below.heap_alloc _ _ _ (by omega)).trans h1, ?_, by simp⟩
  rw [← hs]; exact heap_alloc_new _ _

theorem toStep_any (r a b i j : Int) (A : Option Addr) (n c : Nat) (f : List Int) (w : World) (h : RdI w w.heap.size A n f) (hn : n ≤ 1048576) :
    Calls Tryz.prog 21 #[Value.agg #[Value.int .i64 r, Value.int .i64 a, Value.int .i64 b, Value.int .i64 i, Value.int .i64 j, Value.slice A n c]] w (CopiedStep w r a b i j n f) := by
  obtain ⟨w3, hw3⟩ : ∃ w3, w3 = ((w.alloc (.cells #[Value.int .i64 r, Value.int .i64 a, Value.int .i64 b, Value.int .i64 i, Value.int .i64 j, Value.slice A n c] 38)).alloc (.cells #[Value.int .i64 0, Value.int .i64 0, Value.int .i64 0, Value.int .i64 0, Value.int .i64 0, Value.slice none 0 0] 43)).alloc (.cells #[Value.int .i64 r, Value.int .i64 a, Value.int .i64 b, Value.int .i64 i, Value.int .i64 j, Value.slice none 0 0] 43) := ⟨_, rfl⟩
  obtain ⟨hb, p0, p1, p2, hsz⟩ := three_any w (.cells #[Value.int .i64 r, Value.int .i64 a, Value.int .i64 b, Value.int .i64 i, Value.int .i64 j, Value.slice A n c] 38) (.cells #[Value.int .i64 0, Value.int .i64 0, Value.int .i64 0, Value.int .i64 0, Value.int .i64 0, Value.slice none 0 0] 43) (.cells #[Value.int .i64 r, Value.int .i64 a, Value.int .i64 b, Value.int .i64 i, Value.int .i64 j, Value.slice none 0 0] 43)
  rw [← hw3] at hb p0 p1 p2 hsz
  have HI := Lib.hid (toInts_any A n c f w3 ((h.below hb).more hb.size) hn)
  have HB := Lib.hid hb
  clear hb h p0
  go_enter Tryz.func21, Tryz.ntmps21
  go_wp2_with (fail)
  rw [← hw3]
  clear hw3
  refine HI.out.mono ?_
  rintro e w4 ⟨rfl, own, bel⟩
  have q1 := (bel.block (w.heap.size + 1) (by omega)).trans p1
  have q2 := (bel.block (w.heap.size + 1 + 1) (by omega)).trans p2
  have x0 := cell_of_row _ _ 0 _ _ (0, 0) q2; have x1 := cell_of_row _ _ 1 _ _ (0, 0) q2; have x2 := cell_of_row _ _ 2 _ _ (0, 0) q2
  have x3 := cell_of_row _ _ 3 _ _ (0, 0) q2; have x4 := cell_of_row _ _ 4 _ _ (0, 0) q2; have x5 := cell_of_row _ _ 5 _ _ (0, 0) q2
  have z5 := frozen_of_row _ _ 5 _ _ q2
  have y0 := cell_of_row _ _ 0 _ _ (0, 0) q1; have y1 := cell_of_row _ _ 1 _ _ (0, 0) q1; have y2 := cell_of_row _ _ 2 _ _ (0, 0) q1
  have y3 := cell_of_row _ _ 3 _ _ (0, 0) q1; have y4 := cell_of_row _ _ 4 _ _ (0, 0) q1; have y5 := cell_of_row _ _ 5 _ _ (0, 0) q1
  have u0 := frozen_of_row _ _ 0 _ _ q1; have u1 := frozen_of_row _ _ 1 _ _ q1; have u2 := frozen_of_row _ _ 2 _ _ q1
  have u3 := frozen_of_row _ _ 3 _ _ q1; have u4 := frozen_of_row _ _ 4 _ _ q1; have u5 := frozen_of_row _ _ 5 _ _ q1
  have HO := Lib.hid own
  have HB4 := Lib.hid (HB.out.trans (bel.mono HB.out.size))
  have Q1 := Lib.hid q1
  clear own bel HI p1 p2 q1 q2
  generalize w3.heap.size = g at *
  have Q5 : (w4.setCell ⟨w.heap.size + 1 + 1, 5, none⟩ (.slice (some ⟨g, 0, none⟩) n n)).heap[w.heap.size + 1]? = some (.cells #[Value.int .i64 0, Value.int .i64 0, Value.int .i64 0, Value.int .i64 0, Value.int .i64 0, Value.slice none 0 0] 43 (0, 0)) :=
    (heap_setCell_other _ _ _ _ (by show w.heap.size + 1 ≠ w.heap.size + 1 + 1; omega)).trans Q1.out
  have HO5 := Lib.hid (ownsRow_setCell_below HO.out (a := ⟨w.heap.size + 1 + 1, 5, none⟩) (by show w.heap.size + 1 + 1 < g; omega) (.slice (some ⟨g, 0, none⟩) n n))
  have HB5 := Lib.hid (HB4.out.setCell (p := ⟨w.heap.size + 1 + 1, 5, none⟩) (by show w.heap.size ≤ w.heap.size + 1 + 1; omega) (.slice (some ⟨g, 0, none⟩) n n))
  have H6 := Lib.hid (set6_at Q5 (.int .i64 r) (.int .i64 a) (.int .i64 b) (.int .i64 i) (.int .i64 j) (.slice (some ⟨g, 0, none⟩) n n))
  have HO6 := Lib.hid (set6_own HO5.out (show w.heap.size + 1 < g by omega) (.int .i64 r) (.int .i64 a) (.int .i64 b) (.int .i64 i) (.int .i64 j) (.slice (some ⟨g, 0, none⟩) n n))
  have HB6 := Lib.hid (set6_below HB5.out (show w.heap.size ≤ w.heap.size + 1 by omega) (.int .i64 r) (.int .i64 a) (.int .i64 b) (.int .i64 i) (.int .i64 j) (.slice (some ⟨g, 0, none⟩) n n))
  clear Q5 HO5 HB5 HO HB4 Q1
  subst hsz
  go_wp2
  (try simp only [Exit.inBlock, Exit.then])
  refine bodyPost_ret (results_cell_row rfl _ _ (w.heap.size + 1) _ _ (0, 0) _ rfl H6.out Tryz.underlying43 rfl (by kernel_rfl)) rfl ?_
  exact ⟨_, rfl, HO6.out.mono (by omega), HB6.out⟩
end
end Go.Proofs.YthbkcpacgnmcfaaGreatDoor
