/- A function mapped over a sequent: mappedSeq with slices.Clone (copyOfSeq) and with DualOf; DualSeq of the program. DualSeq of the model. The model's copies of rows and sequents. -/
import Derived.Test.YtoniekjchabjlaaDoorSeqV
import Derived.Test.YtoniekjchabjlaaDoorDual
import Derived.Test.YtoniekjchabjlaaDoorClone
import Derived.Deep.RegionLaw
import Derived.Deep.AppendLies
namespace Go.Proofs.YtoniekjchabjlaaDoor
open Go.ChangeAt Go.ChangeShapes Go.RowKit Go.WideShapes

/-- What a function leaves that hands back a sequent in memory of its own. -/
def GivesSeq (w : World) (V : List (List Int)) (e : Ending) (w' : World) : Prop :=
  ∃ hs A c, e = .returned (.agg #[.slice A V.length c]) ∧ OwnQ w' w.heap.size w'.heap.size (.slice A V.length c) hs V ∧ Below w.heap.size w w'
/-- .. and a bool. -/
def GivesSeqB (w : World) (V : List (List Int)) (b : Bool) (e : Ending) (w' : World) : Prop :=
  ∃ hs A c, e = .returned (.tuple #[.agg #[.slice A V.length c], .bool b]) ∧ OwnQ w' w.heap.size w'.heap.size (.slice A V.length c) hs V ∧ Below w.heap.size w w'
theorem two_heap (w : World) (a b : Obj) : ((w.alloc a).alloc b).heap[w.heap.size]? = some a ∧ ((w.alloc a).alloc b).heap[w.heap.size + 1]? = some b := by
  have h : (w.alloc a).heap.size = w.heap.size + 1 := by simp
  refine ⟨?_, ?_⟩
  · rw [Below.heap_alloc _ _ _ (by simp)]; exact heap_alloc_new _ _
  · rw [← h]; exact heap_alloc_new _ _
theorem map_getD {qs : List (List Int)} (g : List Int → List Int) {k : Nat} (h : k < qs.length) : (qs.map g).getD k [] = g (qs.getD k []) := by
  simp [List.getD, h]
/-- The store of a struct of one cell into a variable of one's own. -/
theorem cell_set {w : World} {b : Nat} {v u : Value} {t : TypeId} (h : w.heap[b]? = some (.cells #[v] t (0, 0))) : (w.setCell ⟨b, 0, none⟩ u).heap[b]? = some (.cells #[u] t (0, 0)) := by
  have := heap_setCell_same w b 0 #[v] t u h
  simpa using this
/-- A sequent stored into the variable of the result. -/
theorem seq_out {w w2 w3 : World} {V : List (List Int)} {A : Option Addr} {c b : Nat} {t : TypeId} {v : Value} {hs : Nat → Option Addr × Nat} (hb : Below w.heap.size w w2) (hlo : w.heap.size ≤ b) (hlt : b < w2.heap.size) (hh : w2.heap[b]? = some (.cells #[v] t (0, 0)))
    (own : OwnQ w3 w2.heap.size w3.heap.size (.slice A V.length c) hs V) (bel : Below w2.heap.size w2 w3) :
    w3.cell? ⟨b, 0, none⟩ = some v ∧ w3.frozen? ⟨b, 0, none⟩ = false ∧ (w3.setCell ⟨b, 0, none⟩ (.slice A V.length c)).heap[b]? = some (.cells #[.slice A V.length c] t (0, 0)) ∧
      OwnQ (w3.setCell ⟨b, 0, none⟩ (.slice A V.length c)) w.heap.size (w3.setCell ⟨b, 0, none⟩ (.slice A V.length c)).heap.size (.slice A V.length c) hs V ∧ Below w.heap.size w (w3.setCell ⟨b, 0, none⟩ (.slice A V.length c)) := by
  have hh3 := (bel.block b hlt).trans hh
  have e : (w3.setCell ⟨b, 0, none⟩ (.slice A V.length c)).heap.size = w3.heap.size := by simp
  refine ⟨cell_of_row _ _ 0 _ _ _ hh3, frozen_of_row _ _ 0 _ _ hh3, cell_set hh3, ?_, (hb.trans (bel.mono hb.size)).setCell hlo _⟩
  rw [e]
  exact (own.setBelow hlt _).more hb.size (Nat.le_refl _)

set_option maxHeartbeats 2000000 in
theorem mappedClone_any (A : Option Addr) (n c : Nat) (qs : List (List Int)) (w : World) (h : RdQ w w.heap.size A n qs) (hn : n ≤ 10) (hq : ∀ q ∈ qs, q.length ≤ 1000) (hp : ∀ q ∈ qs, 0 < q.length) :
    Calls Tryd.prog 64 #[.agg #[.slice A n c], .func (.func 49) #[] #[]] w (GivesSeq w (qs.map (id))) := by
  obtain ⟨i0, hi0, hz0, hz1, hz2⟩ := info_parts_s
  have hl := h.len
  subst hl
  have hlm : (qs.map (id)).length = qs.length := List.length_map _
  obtain ⟨w2, hw2⟩ : ∃ w2, w2 = (w.alloc (.cells #[Value.slice A qs.length c] 50)).alloc (.cells #[.slice none 0 0] 50) := ⟨_, rfl⟩
  obtain ⟨hb, ca, _, hsz⟩ := two_boxes w (.slice A qs.length c) (.slice none 0 0) 50
  obtain ⟨_, hh2⟩ := two_heap w (.cells #[Value.slice A qs.length c] 50) (.cells #[.slice none 0 0] 50)
  have ha : ((w.alloc (.cells #[Value.slice A qs.length c] 50)).alloc (.cells #[.slice none 0 0] 50)).cell? ⟨w.heap.size, 0, none⟩ = some (.slice A qs.length c) := ca
  rw [← hw2] at hb ca hsz hh2
  have hszl : w.heap.size + 1 < w2.heap.size := by omega
  have HSZ := Lib.hid hsz
  clear hsz
  have h2 := (h.below hb).more hb.size
  have HB0 := Lib.hid hb
  clear h
  go_enter Tryd.func64, Tryd.ntmps64
  have b2 : i0.bytes * qs.length ≤ 281474976710656 := by rw [hz2]; omega
  have b3 : qs.length ≤ maxLen := by unfold maxLen; omega
  go_wp2_with (at_make; refine wpList_make_full _ rfl _ _ _ rfl _ 24 i0 (.slice none 0 0) 1 Tryd.underlying25 hi0 hz0 hz1 _ _ _ _ qs.length rfl rfl rfl rfl b2 b3 (Nat.le_refl _) ?_; rw [← hw2]; intro w1 hown hg; have ca1 := (World.cell?_of_block (hg.block w.heap.size (by omega) (by simp))).trans ca)
  have hbel : Below w2.heap.size w2 w1 := (Below.refl _ _).grown hg (Nat.le_refl _) (by intro k hk; cases hk)
  have hown0 : w1.ownsRow w2.heap.size 24 1 (.slice (some ⟨w2.heap.size, 0, none⟩) qs.length qs.length) qs.length (List.replicate qs.length (.slice none 0 0)) := by
    rw [← toList_madeCells_one]; simpa [Value.cells] using hown
  have hlt1 : w2.heap.size < w1.heap.size := (hown0.lt _ rfl).2
  have hown1 : OwnQ w1 w2.heap.size w1.heap.size (.slice (some ⟨w.heap.size + 1 + 1, 0, none⟩) qs.length qs.length) (fun _ => (none, 0)) (cpq (qs.map (id)) 0) := by
    rw [← HSZ.out, ← cpq_zero, hlm]; exact OwnQ.fresh hown0 _ (fun _ => rfl) _ hlt1
  have HH2 := Lib.hid hh2
  clear hg hown hown0 hlt1 b2 b3 hi0 hz0 hz1 hz2 ca ca1 hw2 hh2 ha HSZ
  generalize w.heap.size + 1 + 1 = g at *
  go_loopw [6, 7, 15] (fun _ _ i wr => ∃ k : Nat, k ≤ qs.length ∧ i = .int .i64 k ∧ ∃ hs, OwnQ wr w2.heap.size wr.heap.size (.slice (some ⟨g, 0, none⟩) qs.length qs.length) hs (cpq (qs.map (id)) k) ∧ Below w2.heap.size w2 wr)
    (fun _ _ i _ => qs.length - (intOf i).toNat)
  case atStart => exact ⟨0, Nat.zero_le _, rfl, _, hown1, hbel⟩
  case round =>
    obtain ⟨k, hk, rfl, hs, hown, hb⟩ := hrel
    clear hown1 hbel
    by_cases hlt : k < qs.length
    · have h' := (h2.below hb).more hb.size
      obtain ⟨b, off, rfl, hbb, hcells⟩ := h'.2 (by omega)
      obtain ⟨A', c', hcell, hcc, hrd⟩ := hcells k hlt
      have hm := hq _ (getD_mem hlt)
      have hpos := hp _ (getD_mem hlt)
      have hl2 := (cpq_len (qs := qs.map (id)) (k := k) (by omega)).trans hlm
      have hst := cpq_step (qs := qs.map (id)) (k := k) (by omega)
      rw [map_getD _ hlt] at hst
      have HSTEP := Lib.hid hst
      clear hst
      generalize hQ : qs.getD k [] = q at *
      have HT := Lib.hid (show Calls _ _ _ _ (Gives wr (id q)) from clone_any (.slice A' q.length c') q wr (Part.of_rd hrd hpos) hm)
      generalize id q = gq at *
      have hgg : g < wr.heap.size := hown.top0 _ rfl
      have HO := Lib.hid hown; have HB := Lib.hid hb; have HL2 := Lib.hid hl2
      clear hown hb h2 h' hcells hrd hQ hl2
      go_wp2_with (fail)
      refine HT.out.mono ?_
      rintro e w3 ⟨A3, c3, rfl, own3, bel3⟩
      obtain ⟨hF, hFb⟩ := HO.out.fill HL2.out hlt rfl HB.out own3 bel3
      rw [HSTEP.out] at hF
      have hO2 := HO.out.below bel3
      obtain ⟨hf, ho⟩ := hO2.at HL2.out hlt
      obtain ⟨o, hoo⟩ : ∃ o, hv hs (cpq (qs.map (id)) k) k = o := ⟨_, rfl⟩
      rw [hoo] at ho
      have HF := Lib.hid hF; have HFB := Lib.hid hFb
      clear hF hFb hoo hO2 own3 bel3
      go_wp2
      go_roundw
      case rel => exact ⟨k + 1, by omega, by go_num, _, HF.out, HFB.out⟩
      case measure => simp [intOf]; omega
    · have hkl : k = qs.length := by omega
      subst hkl
      rw [← hlm, cpq_all, hlm] at hown
      have hh3 := (hb.block (w.heap.size + 1) (by omega)).trans HH2.out
      have hc3 : wr.cell? ⟨w.heap.size + 1, 0, none⟩ = some (.slice none 0 0) := cell_of_row _ _ 0 _ _ _ hh3
      have hf3 : wr.frozen? ⟨w.heap.size + 1, 0, none⟩ = false := frozen_of_row _ _ 0 _ _ hh3
      have HH := Lib.hid (cell_set (u := .slice (some ⟨g, 0, none⟩) qs.length qs.length) hh3)
      have e5 : (wr.setCell ⟨w.heap.size + 1, 0, none⟩ (.slice (some ⟨g, 0, none⟩) qs.length qs.length)).heap.size = wr.heap.size := by simp
      have HO : Hid (OwnQ (wr.setCell ⟨w.heap.size + 1, 0, none⟩ (.slice (some ⟨g, 0, none⟩) qs.length qs.length)) w.heap.size (wr.setCell ⟨w.heap.size + 1, 0, none⟩ (.slice (some ⟨g, 0, none⟩) qs.length qs.length)).heap.size (.slice (some ⟨g, 0, none⟩) qs.length qs.length) hs (qs.map (id))) := Lib.hid (by
        rw [e5]
        exact (hown.setBelow (by show w.heap.size + 1 < w2.heap.size; omega) _).more (by omega) (Nat.le_refl _))
      have HB := Lib.hid ((HB0.out.trans (hb.mono HB0.out.size)).setCell (p := ⟨w.heap.size + 1, 0, none⟩) (by show w.heap.size ≤ w.heap.size + 1; omega) (.slice (some ⟨g, 0, none⟩) qs.length qs.length))
      have HL := Lib.hid hlm
      clear hown hb h2 hq hh3 e5 hlm
      go_wp2
      (try simp only [Exit.inBlock, Exit.then])
      refine bodyPost_ret (results_cell_row rfl _ _ (w.heap.size + 1) _ _ (0, 0) _ rfl HH.out Tryd.underlying50 rfl (by kernel_rfl)) rfl ?_
      exact ⟨hs, some ⟨g, 0, none⟩, qs.length, by rw [HL.out], by rw [HL.out]; exact HO.out, HB.out⟩

set_option maxHeartbeats 2000000 in
theorem mappedDual_any (A : Option Addr) (n c : Nat) (qs : List (List Int)) (w : World) (h : RdQ w w.heap.size A n qs) (hn : n ≤ 10) (hq : ∀ q ∈ qs, q.length ≤ 1000) (ht : Arit w) (hu : Dual w) :
    Calls Tryd.prog 64 #[.agg #[.slice A n c], .func (.func 14) #[] #[]] w (GivesSeq w (qs.map (dualL))) := by
  obtain ⟨i0, hi0, hz0, hz1, hz2⟩ := info_parts_s
  have hl := h.len
  subst hl
  have hlm : (qs.map (dualL)).length = qs.length := List.length_map _
  obtain ⟨w2, hw2⟩ : ∃ w2, w2 = (w.alloc (.cells #[Value.slice A qs.length c] 50)).alloc (.cells #[.slice none 0 0] 50) := ⟨_, rfl⟩
  obtain ⟨hb, ca, _, hsz⟩ := two_boxes w (.slice A qs.length c) (.slice none 0 0) 50
  obtain ⟨_, hh2⟩ := two_heap w (.cells #[Value.slice A qs.length c] 50) (.cells #[.slice none 0 0] 50)
  have ha : ((w.alloc (.cells #[Value.slice A qs.length c] 50)).alloc (.cells #[.slice none 0 0] 50)).cell? ⟨w.heap.size, 0, none⟩ = some (.slice A qs.length c) := ca
  rw [← hw2] at hb ca hsz hh2
  have hszl : w.heap.size + 1 < w2.heap.size := by omega
  have HSZ := Lib.hid hsz
  clear hsz
  have h2 := (h.below hb).more hb.size
  have HB0 := Lib.hid hb
  have HTA := Lib.hid ht; have HTU := Lib.hid hu
  clear ht hu
  clear h
  go_enter Tryd.func64, Tryd.ntmps64
  have b2 : i0.bytes * qs.length ≤ 281474976710656 := by rw [hz2]; omega
  have b3 : qs.length ≤ maxLen := by unfold maxLen; omega
  go_wp2_with (at_make; refine wpList_make_full _ rfl _ _ _ rfl _ 24 i0 (.slice none 0 0) 1 Tryd.underlying25 hi0 hz0 hz1 _ _ _ _ qs.length rfl rfl rfl rfl b2 b3 (Nat.le_refl _) ?_; rw [← hw2]; intro w1 hown hg; have ca1 := (World.cell?_of_block (hg.block w.heap.size (by omega) (by simp))).trans ca)
  have hbel : Below w2.heap.size w2 w1 := (Below.refl _ _).grown hg (Nat.le_refl _) (by intro k hk; cases hk)
  have hown0 : w1.ownsRow w2.heap.size 24 1 (.slice (some ⟨w2.heap.size, 0, none⟩) qs.length qs.length) qs.length (List.replicate qs.length (.slice none 0 0)) := by
    rw [← toList_madeCells_one]; simpa [Value.cells] using hown
  have hlt1 : w2.heap.size < w1.heap.size := (hown0.lt _ rfl).2
  have hown1 : OwnQ w1 w2.heap.size w1.heap.size (.slice (some ⟨w.heap.size + 1 + 1, 0, none⟩) qs.length qs.length) (fun _ => (none, 0)) (cpq (qs.map (dualL)) 0) := by
    rw [← HSZ.out, ← cpq_zero, hlm]; exact OwnQ.fresh hown0 _ (fun _ => rfl) _ hlt1
  have HH2 := Lib.hid hh2
  clear hg hown hown0 hlt1 b2 b3 hi0 hz0 hz1 hz2 ca ca1 hw2 hh2 ha HSZ
  generalize w.heap.size + 1 + 1 = g at *
  go_loopw [6, 7, 15] (fun _ _ i wr => ∃ k : Nat, k ≤ qs.length ∧ i = .int .i64 k ∧ ∃ hs, OwnQ wr w2.heap.size wr.heap.size (.slice (some ⟨g, 0, none⟩) qs.length qs.length) hs (cpq (qs.map (dualL)) k) ∧ Below w2.heap.size w2 wr)
    (fun _ _ i _ => qs.length - (intOf i).toNat)
  case atStart => exact ⟨0, Nat.zero_le _, rfl, _, hown1, hbel⟩
  case round =>
    obtain ⟨k, hk, rfl, hs, hown, hb⟩ := hrel
    clear hown1 hbel
    by_cases hlt : k < qs.length
    · have h' := (h2.below hb).more hb.size
      obtain ⟨b, off, rfl, hbb, hcells⟩ := h'.2 (by omega)
      obtain ⟨A', c', hcell, hcc, hrd⟩ := hcells k hlt
      have hm := hq _ (getD_mem hlt)
      have hl2 := (cpq_len (qs := qs.map (dualL)) (k := k) (by omega)).trans hlm
      have hst := cpq_step (qs := qs.map (dualL)) (k := k) (by omega)
      rw [map_getD _ hlt] at hst
      have HSTEP := Lib.hid hst
      clear hst
      generalize hQ : qs.getD k [] = q at *
      have HT := Lib.hid (show Calls _ _ _ _ (Gives wr (dualL q)) from dualOf_impl A' q.length c' q wr hrd (HTA.out.below (HB0.out.trans (hb.mono HB0.out.size)) HTA.out.lt) (HTU.out.below (HB0.out.trans (hb.mono HB0.out.size)) HTU.out.lt) hcc)
      generalize dualL q = gq at *
      have hgg : g < wr.heap.size := hown.top0 _ rfl
      have HO := Lib.hid hown; have HB := Lib.hid hb; have HL2 := Lib.hid hl2
      clear hown hb h2 h' hcells hrd hQ hl2
      go_wp2_with (fail)
      refine HT.out.mono ?_
      rintro e w3 ⟨A3, c3, rfl, own3, bel3⟩
      obtain ⟨hF, hFb⟩ := HO.out.fill HL2.out hlt rfl HB.out own3 bel3
      rw [HSTEP.out] at hF
      have hO2 := HO.out.below bel3
      obtain ⟨hf, ho⟩ := hO2.at HL2.out hlt
      obtain ⟨o, hoo⟩ : ∃ o, hv hs (cpq (qs.map (dualL)) k) k = o := ⟨_, rfl⟩
      rw [hoo] at ho
      have HF := Lib.hid hF; have HFB := Lib.hid hFb
      clear hF hFb hoo hO2 own3 bel3
      go_wp2
      go_roundw
      case rel => exact ⟨k + 1, by omega, by go_num, _, HF.out, HFB.out⟩
      case measure => simp [intOf]; omega
    · have hkl : k = qs.length := by omega
      subst hkl
      rw [← hlm, cpq_all, hlm] at hown
      have hh3 := (hb.block (w.heap.size + 1) (by omega)).trans HH2.out
      have hc3 : wr.cell? ⟨w.heap.size + 1, 0, none⟩ = some (.slice none 0 0) := cell_of_row _ _ 0 _ _ _ hh3
      have hf3 : wr.frozen? ⟨w.heap.size + 1, 0, none⟩ = false := frozen_of_row _ _ 0 _ _ hh3
      have HH := Lib.hid (cell_set (u := .slice (some ⟨g, 0, none⟩) qs.length qs.length) hh3)
      have e5 : (wr.setCell ⟨w.heap.size + 1, 0, none⟩ (.slice (some ⟨g, 0, none⟩) qs.length qs.length)).heap.size = wr.heap.size := by simp
      have HO : Hid (OwnQ (wr.setCell ⟨w.heap.size + 1, 0, none⟩ (.slice (some ⟨g, 0, none⟩) qs.length qs.length)) w.heap.size (wr.setCell ⟨w.heap.size + 1, 0, none⟩ (.slice (some ⟨g, 0, none⟩) qs.length qs.length)).heap.size (.slice (some ⟨g, 0, none⟩) qs.length qs.length) hs (qs.map (dualL))) := Lib.hid (by
        rw [e5]
        exact (hown.setBelow (by show w.heap.size + 1 < w2.heap.size; omega) _).more (by omega) (Nat.le_refl _))
      have HB := Lib.hid ((HB0.out.trans (hb.mono HB0.out.size)).setCell (p := ⟨w.heap.size + 1, 0, none⟩) (by show w.heap.size ≤ w.heap.size + 1; omega) (.slice (some ⟨g, 0, none⟩) qs.length qs.length))
      have HL := Lib.hid hlm
      clear hown hb h2 hq hh3 e5 hlm
      go_wp2
      (try simp only [Exit.inBlock, Exit.then])
      refine bodyPost_ret (results_cell_row rfl _ _ (w.heap.size + 1) _ _ (0, 0) _ rfl HH.out Tryd.underlying50 rfl (by kernel_rfl)) rfl ?_
      exact ⟨hs, some ⟨g, 0, none⟩, qs.length, by rw [HL.out], by rw [HL.out]; exact HO.out, HB.out⟩

/-- The dual of a sequent. -/
def dualQ (qs : List (List Int)) : List (List Int) := if validQ qs = true then qs.map dualL else []
theorem dualQ_no {qs : List (List Int)} (h : validQ qs = false) : dualQ qs = [] := by unfold dualQ; rw [h]; rfl
theorem dualQ_yes {qs : List (List Int)} (h : validQ qs = true) : dualQ qs = qs.map dualL := by unfold dualQ; rw [if_pos h]

theorem three_heap (w : World) (a b c : Obj) : (((w.alloc a).alloc b).alloc c).heap[w.heap.size]? = some a ∧ (((w.alloc a).alloc b).alloc c).heap[w.heap.size + 1]? = some b ∧ (((w.alloc a).alloc b).alloc c).heap[w.heap.size + 1 + 1]? = some c := by
  obtain ⟨h1, h2⟩ := two_heap w a b
  exact ⟨(Below.heap_alloc _ _ _ (by simp; omega)).trans h1, heap_two _ _ _ _, heap_three _ _ _ _⟩

/-- .. where the variable lies below the parts. -/
theorem seq_out2 {w wr : World} {V : List (List Int)} {A : Option Addr} {n c b lo b0 : Nat} {t : TypeId} {v : Value} {hs : Nat → Option Addr × Nat} (hb : Below b0 w wr) (hlo : b0 ≤ b) (hlt : b < lo) (hh : wr.heap[b]? = some (.cells #[v] t (0, 0)))
    (own : OwnQ wr lo wr.heap.size (.slice A n c) hs V) :
    (wr.setCell ⟨b, 0, none⟩ (.slice A n c)).heap[b]? = some (.cells #[.slice A n c] t (0, 0)) ∧
      OwnQ (wr.setCell ⟨b, 0, none⟩ (.slice A n c)) b0 (wr.setCell ⟨b, 0, none⟩ (.slice A n c)).heap.size (.slice A n c) hs V ∧ Below b0 w (wr.setCell ⟨b, 0, none⟩ (.slice A n c)) := by
  have e : (wr.setCell ⟨b, 0, none⟩ (.slice A n c)).heap.size = wr.heap.size := by simp
  refine ⟨cell_set hh, ?_, hb.setCell hlo _⟩
  rw [e]
  exact (own.setBelow hlt _).more (by omega) (Nat.le_refl _)

theorem set_far {w : World} {b : Nat} {u : Value} {p : Addr} (h : p.block ≠ b) : (w.setCell ⟨b, 0, none⟩ u).cell? p = w.cell? p := World.cell?_of_block (Below.heap_setCell _ _ _ _ h)
/-- The append of a new part to a row in a variable of one's own (block b): what it asks. -/
theorem push_in {w5 w6 : World} {lo k c2 c6 : Nat} {A2 A6 : Option Addr} {hs : Nat → Option Addr × Nat} {cur : List (List Int)} {dq : List Int} (own5 : OwnQ w5 lo w5.heap.size (.slice A2 k c2) hs cur) (hlen : cur.length = k) (hlo : lo ≤ w5.heap.size)
    (bel6 : Below w5.heap.size w5 w6) :
    (w6.alloc (.cells #[.slice A6 dq.length c6] 24)).ownsRow lo 24 1 (.slice A2 k c2) k (rowV hs cur) ∧
      (∀ j u, [Value.slice A6 dq.length c6][j]? = some u → (w6.alloc (.cells #[.slice A6 dq.length c6] 24)).cell? ((⟨w6.heap.size, 0, none⟩ : Addr).add j) = some u) ∧ lo ≤ (w6.alloc (.cells #[.slice A6 dq.length c6] 24)).heap.size := by
  have h := ((own5.below bel6).below (box_below w6 (.slice A6 dq.length c6) 24)).outer
  rw [hlen] at h
  have hs6 := bel6.size
  exact ⟨h, World.news_of_block (heap_alloc_new w6 (.cells #[.slice A6 dq.length c6] 24)), by simp; omega⟩
/-- .. and what it leaves, the store behind it done. -/
theorem push_out {w3 w5 w6 w7 : World} {b lo k c2 c6 g cap : Nat} {A2 A6 : Option Addr} {t : TypeId} {hs : Nat → Option Addr × Nat} {cur : List (List Int)} {dq : List Int} (own5 : OwnQ w5 lo w5.heap.size (.slice A2 k c2) hs cur) (hlen : cur.length = k) (hlo : lo ≤ w5.heap.size) (hbl : b < lo)
    (bl5 : Below b w3 w5) (hb5 : w5.heap[b]? = some (.cells #[.slice A2 k c2] t (0, 0))) (bel6 : Below w5.heap.size w5 w6) (own6 : w6.ownsRow w5.heap.size 2 1 (.slice A6 dq.length c6) dq.length (dq.map (Value.int .i64)))
    (hown7 : w7.ownsRow lo 24 1 (.slice (some ⟨g, 0, none⟩) (k + 1) cap) (k + 1) (rowV hs cur ++ [.slice A6 dq.length c6])) (hgrow7 : (w6.alloc (.cells #[.slice A6 dq.length c6] 24)).grownBy w7 (Value.slice A2 k c2).ownBlock)
    (hat7 : (Value.slice A2 k c2).ownBlock = some g ∨ g = (w6.alloc (.cells #[.slice A6 dq.length c6] 24)).heap.size) :
    (∀ p : Addr, p.block < lo → w7.cell? p = w5.cell? p) ∧ w7.frozen? ⟨b, 0, none⟩ = false ∧
      (w7.setCell ⟨b, 0, none⟩ (.slice (some ⟨g, 0, none⟩) (k + 1) cap)).heap[b]? = some (.cells #[.slice (some ⟨g, 0, none⟩) (k + 1) cap] t (0, 0)) ∧
      OwnQ (w7.setCell ⟨b, 0, none⟩ (.slice (some ⟨g, 0, none⟩) (k + 1) cap)) lo (w7.setCell ⟨b, 0, none⟩ (.slice (some ⟨g, 0, none⟩) (k + 1) cap)).heap.size (.slice (some ⟨g, 0, none⟩) (k + 1) cap) (upd hs cur.length (A6, c6)) (cur ++ [dq]) ∧
      Below b w3 (w7.setCell ⟨b, 0, none⟩ (.slice (some ⟨g, 0, none⟩) (k + 1) cap)) := by
  have hbx := box_below w6 (.slice A6 dq.length c6) 24
  have hs6 := bel6.size
  have hsx := hbx.size
  have ob : ∀ q, (Value.slice A2 k c2).ownBlock = some q → lo ≤ q := fun q e => (own5.outer.lt q e).1
  have b67 : Below lo w5 w7 := ((bel6.mono hlo).trans (hbx.mono (by omega))).grown hgrow7 (by omega) ob
  have hb7 := (b67.block b hbl).trans hb5
  have own6a := (own5.below bel6).below hbx
  subst hlen
  have hq := OwnQ.push (hi' := w7.heap.size) own6a ((own6.mono hlo).alloc (.cells #[.slice A6 dq.length c6] 24)) (fun q e => (own6.lt q e).1) hown7 hgrow7
    (fun q e => by
      obtain rfl : g = q := by simpa [Value.ownBlock] using e
      rcases hat7 with h | h
      · exact .inl h
      · exact .inr (Nat.le_of_eq h.symm)) (by omega) (Nat.le_refl _)
  have e : (w7.setCell ⟨b, 0, none⟩ (.slice (some ⟨g, 0, none⟩) (cur.length + 1) cap)).heap.size = w7.heap.size := by simp
  refine ⟨fun p hp => b67.cell hp, frozen_of_row _ _ 0 _ _ hb7, cell_set hb7, ?_, (bl5.trans (b67.mono (by omega))).setCell (Nat.le_refl _) _⟩
  rw [e]
  exact hq.setBelow hbl _

theorem total_small {qs : List (List Int)} (h : ∀ q ∈ qs, q.length ≤ 24) : total qs ≤ 24 * qs.length := by
  induction qs with
  | nil => simp [total]
  | cons x xs ih =>
    have h1 := h x (by simp)
    have h2 := ih fun q hq => h q (by simp [hq])
    have e : total (x :: xs) = x.length + total xs := by simp [total]
    rw [e, List.length_cons]
    omega
theorem dualQ_small (qs : List (List Int)) : (dualQ qs).length ≤ 1048576 ∧ total (dualQ qs) ≤ 1048576 := by
  cases hv : validQ qs with
  | false => rw [dualQ_no hv]; simp [total]
  | true =>
    have hl := validQ_len hv
    rw [dualQ_yes hv]
    have ht := total_small (qs := qs.map dualL) fun q hq => by
      obtain ⟨x, _, rfl⟩ := List.mem_map.1 hq
      exact dualL_len x
    rw [List.length_map] at ht ⊢
    omega

/-- What a function leaves that hands back a row of slices in memory of its own. -/
def GivesSS (w : World) (V : List (List Int)) (e : Ending) (w' : World) : Prop :=
  ∃ hs A c, e = .returned (.slice A V.length c) ∧ OwnQ w' w.heap.size w'.heap.size (.slice A V.length c) hs V ∧ Below w.heap.size w w'
/-- A part pushed onto a row in a slot. -/
theorem push_own {w5 w6 w7 : World} {lo k c2 c6 g cap : Nat} {A2 A6 : Option Addr} {hs : Nat → Option Addr × Nat} {cur : List (List Int)} {dq : List Int} (own5 : OwnQ w5 lo w5.heap.size (.slice A2 k c2) hs cur) (hlen : cur.length = k) (hlo : lo ≤ w5.heap.size)
    (bel6 : Below w5.heap.size w5 w6) (own6 : w6.ownsRow w5.heap.size 2 1 (.slice A6 dq.length c6) dq.length (dq.map (Value.int .i64)))
    (hown7 : w7.ownsRow lo 24 1 (.slice (some ⟨g, 0, none⟩) (k + 1) cap) (k + 1) (rowV hs cur ++ [.slice A6 dq.length c6])) (hgrow7 : (w6.alloc (.cells #[.slice A6 dq.length c6] 24)).grownBy w7 (Value.slice A2 k c2).ownBlock)
    (hat7 : (Value.slice A2 k c2).ownBlock = some g ∨ g = (w6.alloc (.cells #[.slice A6 dq.length c6] 24)).heap.size) :
    OwnQ w7 lo w7.heap.size (.slice (some ⟨g, 0, none⟩) (k + 1) cap) (upd hs cur.length (A6, c6)) (cur ++ [dq]) ∧ Below lo w5 w7 := by
  have hbx := box_below w6 (.slice A6 dq.length c6) 24
  have hs6 := bel6.size
  have hsx := hbx.size
  have ob : ∀ q, (Value.slice A2 k c2).ownBlock = some q → lo ≤ q := fun q e => (own5.outer.lt q e).1
  have b67 : Below lo w5 w7 := ((bel6.mono hlo).trans (hbx.mono (by omega))).grown hgrow7 (by omega) ob
  have own6a := (own5.below bel6).below hbx
  subst hlen
  exact ⟨OwnQ.push (hi' := w7.heap.size) own6a ((own6.mono hlo).alloc (.cells #[.slice A6 dq.length c6] 24)) (fun q e => (own6.lt q e).1) hown7 hgrow7
    (fun q e => by
      obtain rfl : g = q := by simpa [Value.ownBlock] using e
      rcases hat7 with h | h
      · exact .inl h
      · exact .inr (Nat.le_of_eq h.symm)) (by omega) (Nat.le_refl _), b67⟩
/-- An empty row just made. -/
theorem OwnQ.made (w : World) (hs : Nat → Option Addr × Nat) : OwnQ (w.alloc (.cells #[] 24)) w.heap.size (w.alloc (.cells #[] 24)).heap.size (.slice (some ⟨w.heap.size, 0, none⟩) 0 0) hs [] where
  outer := by simpa [rowV] using World.ownsRow_made (e := 24) (base := w.heap.size) (size := 1) w #[] 0 (Nat.le_refl _) (by simp [maxLen]) rfl
  inner i hi := by simp at hi
  apart i _ hi := by simp at hi
  apart0 i hi := by simp at hi
  top0 k e := by
    obtain rfl : w.heap.size = k := by simpa [Value.ownBlock] using e
    simp
  top i _ hi := by simp at hi
theorem take_push {qs : List (List Int)} {k : Nat} (h : k < qs.length) : qs.take k ++ [qs.getD k []] = qs.take (k + 1) := by
  rw [List.take_succ_eq_append_getElem h]
  simp [List.getD, h]

end Go.Proofs.YtoniekjchabjlaaDoor
