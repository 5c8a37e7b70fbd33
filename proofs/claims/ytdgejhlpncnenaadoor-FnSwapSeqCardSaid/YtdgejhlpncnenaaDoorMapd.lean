/- A function mapped over a sequent: mappedSeq with slices.Clone (copyOfSeq) and with DualOf; DualSeq of the program. -/
import Derived.Test.YtdgejhlpncnenaaDoorSeqV
import Derived.Test.YtdgejhlpncnenaaDoorSeqH
import Derived.Test.YtdgejhlpncnenaaDoorSame
import Derived.Test.YtdgejhlpncnenaaDoorDual
import Derived.Test.YtdgejhlpncnenaaDoorClone
namespace Go.Proofs.YtdgejhlpncnenaaDoor
open Go.ChangeShapes Go.WideShapes Go.ChangeAt Go.RowKit

/-- What a function leaves that hands back a sequent in memory of its own. -/
def GivesSeq (w : World) (V : List (List Int)) (e : Ending) (w' : World) : Prop :=
  ∃ hs A c, e = .returned (.agg #[.slice A V.length c]) ∧ OwnQ w' w.heap.size w'.heap.size (.slice A V.length c) hs V ∧ Below w.heap.size w w'
/-- .. and a bool. -/
def GivesSeqB (w : World) (V : List (List Int)) (b : Bool) (e : Ending) (w' : World) : Prop :=
  ∃ hs A c, e = .returned (.tuple #[.agg #[.slice A V.length c], .bool b]) ∧ OwnQ w' w.heap.size w'.heap.size (.slice A V.length c) hs V ∧ Below w.heap.size w w'
theorem two_heap (w : World) (a b : Obj) : ((w.alloc a).alloc b).heap[w.heap.size]? = some a ∧ ((w.alloc a).alloc b).heap[w.heap.size + 1]? = some b := by
  have h : (w.alloc a).heap.size = w.heap.size + 1 := by simp
  refine ⟨?_, ?_⟩
  · rw [Below.heap_alloc _ _ _ (by simp)]; exact heap_alloc_new _ _
  · rw [← h]; exact heap_alloc_new _ _
theorem map_getD {qs : List (List Int)} (g : List Int → List Int) {k : Nat} (h : k < qs.length) : (qs.map g).getD k [] = g (qs.getD k []) := by
  simp [List.getD, h]
/-- The store of a struct of one cell into a variable of one's own. -/
theorem cell_set {w : World} {b : Nat} {v u : Value} {t : TypeId} (h : w.heap[b]? = some (.cells #[v] t (0, 0))) : (w.setCell ⟨b, 0, none⟩ u).heap[b]? = some (.cells #[u] t (0, 0)) := by
  have := heap_setCell_same w b 0 #[v] t u h
  simpa using this
/-- A sequent stored into the variable of the result. -/
theorem seq_out {w w2 w3 : World} {V : List (List Int)} {A : Option Addr} {c b : Nat} {t : TypeId} {v : Value} {hs : Nat → Option Addr × Nat} (hb : Below w.heap.size w w2) (hlo : w.heap.size ≤ b) (hlt : b < w2.heap.size) (hh : w2.heap[b]? = some (.cells #[v] t (0, 0)))
    (own : OwnQ w3 w2.heap.size w3.heap.size (.slice A V.length c) hs V) (bel : Below w2.heap.size w2 w3) :
    w3.cell? ⟨b, 0, none⟩ = some v ∧ w3.frozen? ⟨b, 0, none⟩ = false ∧ (w3.setCell ⟨b, 0, none⟩ (.slice A V.length c)).heap[b]? = some (.cells #[.slice A V.length c] t (0, 0)) ∧
      OwnQ (w3.setCell ⟨b, 0, none⟩ (.slice A V.length c)) w.heap.size (w3.setCell ⟨b, 0, none⟩ (.slice A V.length c)).heap.size (.slice A V.length c) hs V ∧ Below w.heap.size w (w3.setCell ⟨b, 0, none⟩ (.slice A V.length c)) := by
  have hh3 := (bel.block b hlt).trans hh
  have e : (w3.setCell ⟨b, 0, none⟩ (.slice A V.length c)).heap.size = w3.heap.size := by simp
  refine ⟨cell_of_row _ _ 0 _ _ _ hh3, frozen_of_row _ _ 0 _ _ hh3, cell_set hh3, ?_, (hb.trans (bel.mono hb.size)).setCell hlo _⟩
  rw [e]
  exact (own.setBelow hlt _).more hb.size (Nat.le_refl _)

set_option maxHeartbeats 2000000 in
theorem mappedClone_any (A : Option Addr) (n c : Nat) (qs : List (List Int)) (w : World) (h : RdQ w w.heap.size A n qs) (hn : n ≤ 10) (hq : ∀ q ∈ qs, q.length ≤ 1000) (hp : ∀ q ∈ qs, 0 < q.length) :
    Calls Tryd.prog 59 #[.agg #[.slice A n c], .func (.func 36) #[] #[]] w (GivesSeq w (qs.map (id))) := by
  obtain ⟨i0, hi0, hz0, hz1, hz2⟩ := info_parts_s
  have hl := h.len
  subst hl
  have hlm : (qs.map (id)).length = qs.length := List.length_map _
  obtain ⟨w2, hw2⟩ : ∃ w2, w2 = (w.alloc (.cells #[Value.slice A qs.length c] 34)).alloc (.cells #[.slice none 0 0] 34) := ⟨_, rfl⟩
  obtain ⟨hb, ca, _, hsz⟩ := two_boxes w (.slice A qs.length c) (.slice none 0 0) 34
  obtain ⟨_, hh2⟩ := two_heap w (.cells #[Value.slice A qs.length c] 34) (.cells #[.slice none 0 0] 34)
  have ha : ((w.alloc (.cells #[Value.slice A qs.length c] 34)).alloc (.cells #[.slice none 0 0] 34)).cell? ⟨w.heap.size, 0, none⟩ = some (.slice A qs.length c) := ca
  rw [← hw2] at hb ca hsz hh2
  have hszl : w.heap.size + 1 < w2.heap.size := by omega
  have HSZ := Lib.hid hsz
  clear hsz
  have h2 := (h.below hb).more hb.size
  have HB0 := Lib.hid hb
  clear h
  go_enter Tryd.func59, Tryd.ntmps59
  have b2 : i0.bytes * qs.length ≤ 281474976710656 := by rw [hz2]; omega
  have b3 : qs.length ≤ maxLen := by unfold maxLen; omega
  go_wp2_with (at_make; refine wpList_make_full _ rfl _ _ _ rfl _ 24 i0 (.slice none 0 0) 1 Tryd.underlying26 hi0 hz0 hz1 _ _ _ _ qs.length rfl rfl rfl rfl b2 b3 (Nat.le_refl _) ?_; rw [← hw2]; intro w1 hown hg; have ca1 := (World.cell?_of_block (hg.block w.heap.size (by omega) (by simp))).trans ca)
  have hbel : Below w2.heap.size w2 w1 := (Below.refl _ _).grown hg (Nat.le_refl _) (by intro k hk; cases hk)
  have hown0 : w1.ownsRow w2.heap.size 24 1 (.slice (some ⟨w2.heap.size, 0, none⟩) qs.length qs.length) qs.length (List.replicate qs.length (.slice none 0 0)) := by
    rw [← toList_madeCells_one]; simpa [Value.cells] using hown
  have hlt1 : w2.heap.size < w1.heap.size := (hown0.lt _ rfl).2
  have hown1 : OwnQ w1 w2.heap.size w1.heap.size (.slice (some ⟨w.heap.size + 1 + 1, 0, none⟩) qs.length qs.length) (fun _ => (none, 0)) (cpq (qs.map (id)) 0) := by
    rw [← HSZ.out, ← cpq_zero, hlm]; exact OwnQ.fresh hown0 _ (fun _ => rfl) _ hlt1
  have HH2 := Lib.hid hh2
  clear hg hown hown0 hlt1 b2 b3 hi0 hz0 hz1 hz2 ca ca1 hw2 hh2 ha HSZ
  generalize w.heap.size + 1 + 1 = g at *
  go_loopw [6, 7, 15] (fun _ _ i wr => ∃ k : Nat, k ≤ qs.length ∧ i = .int .i64 k ∧ ∃ hs, OwnQ wr w2.heap.size wr.heap.size (.slice (some ⟨g, 0, none⟩) qs.length qs.length) hs (cpq (qs.map (id)) k) ∧ Below w2.heap.size w2 wr)
    (fun _ _ i _ => qs.length - (intOf i).toNat)
  case atStart => exact ⟨0, Nat.zero_le _, rfl, _, hown1, hbel⟩
  case round =>
    obtain ⟨k, hk, rfl, hs, hown, hb⟩ := hrel
    clear hown1 hbel
    by_cases hlt : k < qs.length
    · have h' := (h2.below hb).more hb.size
      obtain ⟨b, off, rfl, hbb, hcells⟩ := h'.2 (by omega)
      obtain ⟨A', c', hcell, hcc, hrd⟩ := hcells k hlt
      have hm := hq _ (getD_mem hlt)
      have hpos := hp _ (getD_mem hlt)
      have hl2 := (cpq_len (qs := qs.map (id)) (k := k) (by omega)).trans hlm
      have hst := cpq_step (qs := qs.map (id)) (k := k) (by omega)
      rw [map_getD _ hlt] at hst
      have HSTEP := Lib.hid hst
      clear hst
      generalize hQ : qs.getD k [] = q at *
      have HT := Lib.hid (show Calls _ _ _ _ (Gives wr (id q)) from clone_any (.slice A' q.length c') q wr (Part.of_rd hrd hpos) hm)
      generalize id q = gq at *
      have hgg : g < wr.heap.size := hown.top0 _ rfl
      have HO := Lib.hid hown; have HB := Lib.hid hb; have HL2 := Lib.hid hl2
      clear hown hb h2 h' hcells hrd hQ hl2
      go_wp2_with (fail)
      refine HT.out.mono ?_
      rintro e w3 ⟨A3, c3, rfl, own3, bel3⟩
      obtain ⟨hF, hFb⟩ := HO.out.fill HL2.out hlt rfl HB.out own3 bel3
      rw [HSTEP.out] at hF
      have hO2 := HO.out.below bel3
      obtain ⟨hf, ho⟩ := hO2.at HL2.out hlt
      obtain ⟨o, hoo⟩ : ∃ o, hv hs (cpq (qs.map (id)) k) k = o := ⟨_, rfl⟩
      rw [hoo] at ho
      have HF := Lib.hid hF; have HFB := Lib.hid hFb
      clear hF hFb hoo hO2 own3 bel3
      go_wp2
      go_roundw
      case rel => exact ⟨k + 1, by omega, by go_num, _, HF.out, HFB.out⟩
      case measure => simp [intOf]; omega
    · have hkl : k = qs.length := by omega
      subst hkl
      rw [← hlm, cpq_all, hlm] at hown
      have hh3 := (hb.block (w.heap.size + 1) (by omega)).trans HH2.out
      have hc3 : wr.cell? ⟨w.heap.size + 1, 0, none⟩ = some (.slice none 0 0) := cell_of_row _ _ 0 _ _ _ hh3
      have hf3 : wr.frozen? ⟨w.heap.size + 1, 0, none⟩ = false := frozen_of_row _ _ 0 _ _ hh3
      have HH := Lib.hid (cell_set (u := .slice (some ⟨g, 0, none⟩) qs.length qs.length) hh3)
      have e5 : (wr.setCell ⟨w.heap.size + 1, 0, none⟩ (.slice (some ⟨g, 0, none⟩) qs.length qs.length)).heap.size = wr.heap.size := by simp
      have HO : Hid (OwnQ (wr.setCell ⟨w.heap.size + 1, 0, none⟩ (.slice (some ⟨g, 0, none⟩) qs.length qs.length)) w.heap.size (wr.setCell ⟨w.heap.size + 1, 0, none⟩ (.slice (some ⟨g, 0, none⟩) qs.length qs.length)).heap.size (.slice (some ⟨g, 0, none⟩) qs.length qs.length) hs (qs.map (id))) := Lib.hid (by
        rw [e5]
        exact (hown.setBelow (by show w.heap.size + 1 < w2.heap.size; omega) _).more (by omega) (Nat.le_refl _))
      have HB := Lib.hid ((HB0.out.trans (hb.mono HB0.out.size)).setCell (p := ⟨w.heap.size + 1, 0, none⟩) (by show w.heap.size ≤ w.heap.size + 1; omega) (.slice (some ⟨g, 0, none⟩) qs.length qs.length))
      have HL := Lib.hid hlm
      clear hown hb h2 hq hh3 e5 hlm
      go_wp2
      (try simp only [Exit.inBlock, Exit.then])
      refine bodyPost_ret (results_cell_row rfl _ _ (w.heap.size + 1) _ _ (0, 0) _ rfl HH.out Tryd.underlying34 rfl (by kernel_rfl)) rfl ?_
      exact ⟨hs, some ⟨g, 0, none⟩, qs.length, by rw [HL.out], by rw [HL.out]; exact HO.out, HB.out⟩

set_option maxHeartbeats 2000000 in
theorem mappedDual_any (A : Option Addr) (n c : Nat) (qs : List (List Int)) (w : World) (h : RdQ w w.heap.size A n qs) (hn : n ≤ 10) (hq : ∀ q ∈ qs, q.length ≤ 1000) (ht : Arit w) (hu : Dual w) :
    Calls Tryd.prog 59 #[.agg #[.slice A n c], .func (.func 60) #[] #[]] w (GivesSeq w (qs.map (dualL))) := by
  obtain ⟨i0, hi0, hz0, hz1, hz2⟩ := info_parts_s
  have hl := h.len
  subst hl
  have hlm : (qs.map (dualL)).length = qs.length := List.length_map _
  obtain ⟨w2, hw2⟩ : ∃ w2, w2 = (w.alloc (.cells #[Value.slice A qs.length c] 34)).alloc (.cells #[.slice none 0 0] 34) := ⟨_, rfl⟩
  obtain ⟨hb, ca, _, hsz⟩ := two_boxes w (.slice A qs.length c) (.slice none 0 0) 34
  obtain ⟨_, hh2⟩ := two_heap w (.cells #[Value.slice A qs.length c] 34) (.cells #[.slice none 0 0] 34)
  have ha : ((w.alloc (.cells #[Value.slice A qs.length c] 34)).alloc (.cells #[.slice none 0 0] 34)).cell? ⟨w.heap.size, 0, none⟩ = some (.slice A qs.length c) := ca
  rw [← hw2] at hb ca hsz hh2
  have hszl : w.heap.size + 1 < w2.heap.size := by omega
  have HSZ := Lib.hid hsz
  clear hsz
  have h2 := (h.below hb).more hb.size
  have HB0 := Lib.hid hb
  have HTA := Lib.hid ht; have HTU := Lib.hid hu
  clear ht hu
  clear h
  go_enter Tryd.func59, Tryd.ntmps59
  have b2 : i0.bytes * qs.length ≤ 281474976710656 := by rw [hz2]; omega
  have b3 : qs.length ≤ maxLen := by unfold maxLen; omega
  go_wp2_with (at_make; refine wpList_make_full _ rfl _ _ _ rfl _ 24 i0 (.slice none 0 0) 1 Tryd.underlying26 hi0 hz0 hz1 _ _ _ _ qs.length rfl rfl rfl rfl b2 b3 (Nat.le_refl _) ?_; rw [← hw2]; intro w1 hown hg; have ca1 := (World.cell?_of_block (hg.block w.heap.size (by omega) (by simp))).trans ca)
  have hbel : Below w2.heap.size w2 w1 := (Below.refl _ _).grown hg (Nat.le_refl _) (by intro k hk; cases hk)
  have hown0 : w1.ownsRow w2.heap.size 24 1 (.slice (some ⟨w2.heap.size, 0, none⟩) qs.length qs.length) qs.length (List.replicate qs.length (.slice none 0 0)) := by
    rw [← toList_madeCells_one]; simpa [Value.cells] using hown
  have hlt1 : w2.heap.size < w1.heap.size := (hown0.lt _ rfl).2
  have hown1 : OwnQ w1 w2.heap.size w1.heap.size (.slice (some ⟨w.heap.size + 1 + 1, 0, none⟩) qs.length qs.length) (fun _ => (none, 0)) (cpq (qs.map (dualL)) 0) := by
    rw [← HSZ.out, ← cpq_zero, hlm]; exact OwnQ.fresh hown0 _ (fun _ => rfl) _ hlt1
  have HH2 := Lib.hid hh2
  clear hg hown hown0 hlt1 b2 b3 hi0 hz0 hz1 hz2 ca ca1 hw2 hh2 ha HSZ
  generalize w.heap.size + 1 + 1 = g at *
  go_loopw [6, 7, 15] (fun _ _ i wr => ∃ k : Nat, k ≤ qs.length ∧ i = .int .i64 k ∧ ∃ hs, OwnQ wr w2.heap.size wr.heap.size (.slice (some ⟨g, 0, none⟩) qs.length qs.length) hs (cpq (qs.map (dualL)) k) ∧ Below w2.heap.size w2 wr)
    (fun _ _ i _ => qs.length - (intOf i).toNat)
  case atStart => exact ⟨0, Nat.zero_le _, rfl, _, hown1, hbel⟩
  case round =>
    obtain ⟨k, hk, rfl, hs, hown, hb⟩ := hrel
    clear hown1 hbel
    by_cases hlt : k < qs.length
    · have h' := (h2.below hb).more hb.size
      obtain ⟨b, off, rfl, hbb, hcells⟩ := h'.2 (by omega)
      obtain ⟨A', c', hcell, hcc, hrd⟩ := hcells k hlt
      have hm := hq _ (getD_mem hlt)
      have hl2 := (cpq_len (qs := qs.map (dualL)) (k := k) (by omega)).trans hlm
      have hst := cpq_step (qs := qs.map (dualL)) (k := k) (by omega)
      rw [map_getD _ hlt] at hst
      have HSTEP := Lib.hid hst
      clear hst
      generalize hQ : qs.getD k [] = q at *
      have HT := Lib.hid (show Calls _ _ _ _ (Gives wr (dualL q)) from dualOf_impl A' q.length c' q wr hrd (HTA.out.below (HB0.out.trans (hb.mono HB0.out.size)) HTA.out.lt) (HTU.out.below (HB0.out.trans (hb.mono HB0.out.size)) HTU.out.lt) hcc)
      generalize dualL q = gq at *
      have hgg : g < wr.heap.size := hown.top0 _ rfl
      have HO := Lib.hid hown; have HB := Lib.hid hb; have HL2 := Lib.hid hl2
      clear hown hb h2 h' hcells hrd hQ hl2
      go_wp2_with (fail)
      refine HT.out.mono ?_
      rintro e w3 ⟨A3, c3, rfl, own3, bel3⟩
      obtain ⟨hF, hFb⟩ := HO.out.fill HL2.out hlt rfl HB.out own3 bel3
      rw [HSTEP.out] at hF
      have hO2 := HO.out.below bel3
      obtain ⟨hf, ho⟩ := hO2.at HL2.out hlt
      obtain ⟨o, hoo⟩ : ∃ o, hv hs (cpq (qs.map (dualL)) k) k = o := ⟨_, rfl⟩
      rw [hoo] at ho
      have HF := Lib.hid hF; have HFB := Lib.hid hFb
      clear hF hFb hoo hO2 own3 bel3
      go_wp2
      go_roundw
      case rel => exact ⟨k + 1, by omega, by go_num, _, HF.out, HFB.out⟩
      case measure => simp [intOf]; omega
    · have hkl : k = qs.length := by omega
      subst hkl
      rw [← hlm, cpq_all, hlm] at hown
      have hh3 := (hb.block (w.heap.size + 1) (by omega)).trans HH2.out
      have hc3 : wr.cell? ⟨w.heap.size + 1, 0, none⟩ = some (.slice none 0 0) := cell_of_row _ _ 0 _ _ _ hh3
      have hf3 : wr.frozen? ⟨w.heap.size + 1, 0, none⟩ = false := frozen_of_row _ _ 0 _ _ hh3
      have HH := Lib.hid (cell_set (u := .slice (some ⟨g, 0, none⟩) qs.length qs.length) hh3)
      have e5 : (wr.setCell ⟨w.heap.size + 1, 0, none⟩ (.slice (some ⟨g, 0, none⟩) qs.length qs.length)).heap.size = wr.heap.size := by simp
      have HO : Hid (OwnQ (wr.setCell ⟨w.heap.size + 1, 0, none⟩ (.slice (some ⟨g, 0, none⟩) qs.length qs.length)) w.heap.size (wr.setCell ⟨w.heap.size + 1, 0, none⟩ (.slice (some ⟨g, 0, none⟩) qs.length qs.length)).heap.size (.slice (some ⟨g, 0, none⟩) qs.length qs.length) hs (qs.map (dualL))) := Lib.hid (by
        rw [e5]
        exact (hown.setBelow (by show w.heap.size + 1 < w2.heap.size; omega) _).more (by omega) (Nat.le_refl _))
      have HB := Lib.hid ((HB0.out.trans (hb.mono HB0.out.size)).setCell (p := ⟨w.heap.size + 1, 0, none⟩) (by show w.heap.size ≤ w.heap.size + 1; omega) (.slice (some ⟨g, 0, none⟩) qs.length qs.length))
      have HL := Lib.hid hlm
      clear hown hb h2 hq hh3 e5 hlm
      go_wp2
      (try simp only [Exit.inBlock, Exit.then])
      refine bodyPost_ret (results_cell_row rfl _ _ (w.heap.size + 1) _ _ (0, 0) _ rfl HH.out Tryd.underlying34 rfl (by kernel_rfl)) rfl ?_
      exact ⟨hs, some ⟨g, 0, none⟩, qs.length, by rw [HL.out], by rw [HL.out]; exact HO.out, HB.out⟩

/-- The dual of a sequent. -/
def dualQ (qs : List (List Int)) : List (List Int) := if validQ qs = true then qs.map dualL else []
theorem dualQ_no {qs : List (List Int)} (h : validQ qs = false) : dualQ qs = [] := by unfold dualQ; rw [h]; rfl
theorem dualQ_yes {qs : List (List Int)} (h : validQ qs = true) : dualQ qs = qs.map dualL := by unfold dualQ; rw [if_pos h]

set_option maxHeartbeats 1000000 in
theorem copyOfSeq_any (A : Option Addr) (n c : Nat) (qs : List (List Int)) (w : World) (h : RdQ w w.heap.size A n qs) (hn : n ≤ 10) (hq : ∀ q ∈ qs, q.length ≤ 1000) (hp : ∀ q ∈ qs, 0 < q.length) :
    Calls Tryd.prog 50 #[.agg #[.slice A n c]] w (GivesSeq w qs) := by
  obtain ⟨w2, hw2⟩ : ∃ w2, w2 = (w.alloc (.cells #[Value.slice A n c] 34)).alloc (.cells #[.slice none 0 0] 34) := ⟨_, rfl⟩
  obtain ⟨hb, ca, _, hsz⟩ := two_boxes w (.slice A n c) (.slice none 0 0) 34
  obtain ⟨_, hh2⟩ := two_heap w (.cells #[Value.slice A n c] 34) (.cells #[.slice none 0 0] 34)
  have ha : ((w.alloc (.cells #[Value.slice A n c] 34)).alloc (.cells #[.slice none 0 0] 34)).cell? ⟨w.heap.size, 0, none⟩ = some (.slice A n c) := ca
  rw [← hw2] at hb hsz hh2
  have hszl : w.heap.size + 1 < w2.heap.size := by omega
  have HM := Lib.hid (mappedClone_any A n c qs w2 ((h.below hb).more hb.size) hn hq hp)
  rw [List.map_id] at HM
  have HB := Lib.hid hb; have HH := Lib.hid hh2
  clear h hq hp hsz hb hh2 ca
  go_enter Tryd.func50, Tryd.ntmps50
  go_wp2_with (fail)
  rw [← hw2]
  clear hw2 ha
  refine HM.out.mono ?_
  rintro e w3 ⟨hs, A3, c3, rfl, own3, bel3⟩
  obtain ⟨hc3, hf3, h5, o5, b5⟩ := seq_out HB.out (b := w.heap.size + 1) (by omega) hszl HH.out own3 bel3
  have H5 := Lib.hid h5; have O5 := Lib.hid o5; have B5 := Lib.hid b5
  clear own3 bel3 h5 o5 b5
  go_wp2
  (try simp only [Exit.inBlock, Exit.then])
  refine bodyPost_ret (results_cell_row rfl _ _ (w.heap.size + 1) _ _ (0, 0) _ rfl H5.out Tryd.underlying34 rfl (by kernel_rfl)) rfl ?_
  exact ⟨hs, _, _, rfl, O5.out, B5.out⟩

set_option maxHeartbeats 1000000 in
theorem dualSeq_impl (A : Option Addr) (n c : Nat) (qs : List (List Int)) (w : World) (h : RdQ w w.heap.size A n qs) (hn : n ≤ maxLen) (ht : Arit w) (hu : Dual w) :
    Calls Tryd.prog 22 #[.agg #[.slice A n c]] w (GivesSeq w (dualQ qs)) := by
  have hl := h.len
  obtain ⟨w2, hw2⟩ : ∃ w2, w2 = (w.alloc (.cells #[Value.slice A n c] 34)).alloc (.cells #[.slice none 0 0] 34) := ⟨_, rfl⟩
  obtain ⟨hb, ca, _, hsz⟩ := two_boxes w (.slice A n c) (.slice none 0 0) 34
  obtain ⟨_, hh2⟩ := two_heap w (.cells #[Value.slice A n c] 34) (.cells #[.slice none 0 0] 34)
  have ha : ((w.alloc (.cells #[Value.slice A n c] 34)).alloc (.cells #[.slice none 0 0] 34)).cell? ⟨w.heap.size, 0, none⟩ = some (.slice A n c) := ca
  rw [← hw2] at hb hsz hh2 ca
  have hszl : w.heap.size + 1 < w2.heap.size := by omega
  have hV := validSeq_impl A n c qs w2 ((h.below hb).more hb.size) hn (ht.below hb ht.lt)
  have HB := Lib.hid hb; have HH := Lib.hid hh2
  clear hsz hb hh2
  cases hv : validQ qs with
  | false =>
    rw [dualQ_no hv]
    rw [hv] at hV
    have HV := Lib.hid hV
    clear hV h ht hu
    go_enter Tryd.func22, Tryd.ntmps22
    go_wp2_with (fail)
    rw [← hw2]
    clear hw2 ha
    refine HV.out.mono ?_
    rintro e w3 ⟨rfl, bel3⟩
    obtain ⟨hc3, hf3, h5, o5, b5⟩ := seq_out (V := []) (A := none) (c := 0) HB.out (b := w.heap.size + 1) (by omega) hszl HH.out (OwnQ.nil w3 w2.heap.size w3.heap.size (fun _ => (none, 0))) bel3
    have H5 := Lib.hid h5; have O5 := Lib.hid o5; have B5 := Lib.hid b5
    clear bel3 h5 o5 b5
    go_wp2
    (try simp only [Exit.inBlock, Exit.then])
    refine bodyPost_ret (results_cell_row rfl _ _ (w.heap.size + 1) _ _ (0, 0) _ rfl H5.out Tryd.underlying34 rfl (by kernel_rfl)) rfl ?_
    exact ⟨_, _, _, rfl, O5.out, B5.out⟩
  | true =>
    rw [dualQ_yes hv]
    rw [hv] at hV
    have HV := Lib.hid hV
    have h10 := validQ_len hv
    have hq : ∀ q ∈ qs, q.length ≤ 1000 := fun q hq' => by have := valid_len (validQ_mem hv hq'); omega
    clear hV
    go_enter Tryd.func22, Tryd.ntmps22
    go_wp2_with (fail)
    rw [← hw2]
    clear hw2 ha
    refine HV.out.mono ?_
    rintro e w3 ⟨rfl, bel3⟩
    have b3 := HB.out.trans (bel3.mono HB.out.size)
    have ca3 := (bel3.cell (p := ⟨w.heap.size, 0, none⟩) (by show w.heap.size < w2.heap.size; omega)).trans ca
    have hh3 := (bel3.block (w.heap.size + 1) hszl).trans HH.out
    have hszl3 := Nat.lt_of_lt_of_le hszl bel3.size
    have HM := Lib.hid (mappedDual_any A n c qs w3 ((h.below b3).more b3.size) (by omega) hq (ht.below b3 ht.lt) (hu.below b3 hu.lt))
    have HB3 := Lib.hid b3; have HH3 := Lib.hid hh3
    clear bel3 b3 hh3 h ht hu hq ca HB HH HV
    go_wp2_with (fail)
    refine HM.out.mono ?_
    rintro e w4 ⟨hs, A4, c4, rfl, own4, bel4⟩
    obtain ⟨hc4, hf4, h5, o5, b5⟩ := seq_out HB3.out (b := w.heap.size + 1) (by omega) hszl3 HH3.out own4 bel4
    have H5 := Lib.hid h5; have O5 := Lib.hid o5; have B5 := Lib.hid b5
    clear own4 bel4 h5 o5 b5
    generalize qs.map dualL = V at *
    go_wp2
    (try simp only [Exit.inBlock, Exit.then])
    refine bodyPost_ret (results_cell_row rfl _ _ (w.heap.size + 1) _ _ (0, 0) _ rfl H5.out Tryd.underlying34 rfl (by kernel_rfl)) rfl ?_
    exact ⟨hs, _, _, rfl, O5.out, B5.out⟩
end Go.Proofs.YtdgejhlpncnenaaDoor
