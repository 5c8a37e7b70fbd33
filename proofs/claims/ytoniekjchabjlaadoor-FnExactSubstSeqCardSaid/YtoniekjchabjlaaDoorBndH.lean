/- The program's SubstSeq. -/
import Derived.Test.YtoniekjchabjlaaDoorBndE
import Derived.Test.YtoniekjchabjlaaDoorSubH
import Derived.Test.YtoniekjchabjlaaDoorCopyS
namespace Go.Proofs.YtoniekjchabjlaaDoor
open Go.ChangeAt Go.ChangeShapes Go.RowKit Go.WideShapes

set_option maxHeartbeats 2000000 in
theorem mappedIn_any (A : Option Addr) (n c : Nat) (qs : List (List Int)) (w : World) (h : RdQ w w.heap.size A n qs) (cs : Array Value) (ps : List (List Int)) (hb8 : BndV w cs ps) (hok : ∀ k, elB (ps.getD k []) = true) (hn : n ≤ 10) (hq : ∀ q ∈ qs, q.length ≤ 1000) (ht : Arit w) (hu : Dual w) :
    Calls Tryd.prog 64 #[.agg #[.slice A n c], .func (.func 48) #[.agg cs] #[]] w (GivesSeq w (qs.map (sbL ps))) := by
  obtain ⟨i0, hi0, hz0, hz1, hz2⟩ := info_parts_s
  have hl := h.len
  subst hl
  have hlm : (qs.map (sbL ps)).length = qs.length := List.length_map _
  obtain ⟨w2, hw2⟩ : ∃ w2, w2 = (w.alloc (.cells #[Value.slice A qs.length c] 50)).alloc (.cells #[.slice none 0 0] 50) := ⟨_, rfl⟩
  obtain ⟨hb, ca, _, hsz⟩ := two_boxes w (.slice A qs.length c) (.slice none 0 0) 50
  obtain ⟨_, hh2⟩ := two_heap w (.cells #[Value.slice A qs.length c] 50) (.cells #[.slice none 0 0] 50)
  have ha : ((w.alloc (.cells #[Value.slice A qs.length c] 50)).alloc (.cells #[.slice none 0 0] 50)).cell? ⟨w.heap.size, 0, none⟩ = some (.slice A qs.length c) := ca
  rw [← hw2] at hb ca hsz hh2
  have hszl : w.heap.size + 1 < w2.heap.size := by omega
  have HSZ := Lib.hid hsz
  clear hsz
  have h2 := (h.below hb).more hb.size
  have HB0 := Lib.hid hb
  have HTA := Lib.hid ht; have HTU := Lib.hid hu; have HV8 := Lib.hid hb8; have HOK := Lib.hid hok
  clear ht hu hb8 hok
  clear h
  go_enter Tryd.func64, Tryd.ntmps64
  have b2 : i0.bytes * qs.length ≤ 281474976710656 := by rw [hz2]; omega
  have b3 : qs.length ≤ maxLen := by unfold maxLen; omega
  go_wp2_with (at_make; refine wpList_make_full _ rfl _ _ _ rfl _ 24 i0 (.slice none 0 0) 1 Tryd.underlying25 hi0 hz0 hz1 _ _ _ _ qs.length rfl rfl rfl rfl b2 b3 (Nat.le_refl _) ?_; rw [← hw2]; intro w1 hown hg; have ca1 := (World.cell?_of_block (hg.block w.heap.size (by omega) (by simp))).trans ca)
  have hbel : Below w2.heap.size w2 w1 := (Below.refl _ _).grown hg (Nat.le_refl _) (by intro k hk; cases hk)
  have hown0 : w1.ownsRow w2.heap.size 24 1 (.slice (some ⟨w2.heap.size, 0, none⟩) qs.length qs.length) qs.length (List.replicate qs.length (.slice none 0 0)) := by
    rw [← toList_madeCells_one]; simpa [Value.cells] using hown
  have hlt1 : w2.heap.size < w1.heap.size := (hown0.lt _ rfl).2
  have hown1 : OwnQ w1 w2.heap.size w1.heap.size (.slice (some ⟨w.heap.size + 1 + 1, 0, none⟩) qs.length qs.length) (fun _ => (none, 0)) (cpq (qs.map (sbL ps)) 0) := by
    rw [← HSZ.out, ← cpq_zero, hlm]; exact OwnQ.fresh hown0 _ (fun _ => rfl) _ hlt1
  have HH2 := Lib.hid hh2
  clear hg hown hown0 hlt1 b2 b3 hi0 hz0 hz1 hz2 ca ca1 hw2 hh2 ha HSZ
  generalize w.heap.size + 1 + 1 = g at *
  go_loopw [6, 7, 15] (fun _ _ i wr => ∃ k : Nat, k ≤ qs.length ∧ i = .int .i64 k ∧ ∃ hs, OwnQ wr w2.heap.size wr.heap.size (.slice (some ⟨g, 0, none⟩) qs.length qs.length) hs (cpq (qs.map (sbL ps)) k) ∧ Below w2.heap.size w2 wr)
    (fun _ _ i _ => qs.length - (intOf i).toNat)
  case atStart => exact ⟨0, Nat.zero_le _, rfl, _, hown1, hbel⟩
  case round =>
    obtain ⟨k, hk, rfl, hs, hown, hb⟩ := hrel
    clear hown1 hbel
    by_cases hlt : k < qs.length
    · have h' := (h2.below hb).more hb.size
      obtain ⟨b, off, rfl, hbb, hcells⟩ := h'.2 (by omega)
      obtain ⟨A', c', hcell, hcc, hrd⟩ := hcells k hlt
      have hm := hq _ (getD_mem hlt)
      have hl2 := (cpq_len (qs := qs.map (sbL ps)) (k := k) (by omega)).trans hlm
      have hst := cpq_step (qs := qs.map (sbL ps)) (k := k) (by omega)
      rw [map_getD _ hlt] at hst
      have HSTEP := Lib.hid hst
      clear hst
      generalize hQ : qs.getD k [] = q at *
      have HT := Lib.hid (show Calls _ _ _ _ (Gives wr (sbL ps q)) from inForm_any cs ps A' q.length c' q wr (HV8.out.below (HB0.out.trans (hb.mono HB0.out.size))) HOK.out hrd hm (HTA.out.below (HB0.out.trans (hb.mono HB0.out.size)) HTA.out.lt) (HTU.out.below (HB0.out.trans (hb.mono HB0.out.size)) HTU.out.lt))
      generalize sbL ps q = gq at *
      have hgg : g < wr.heap.size := hown.top0 _ rfl
      have HO := Lib.hid hown; have HB := Lib.hid hb; have HL2 := Lib.hid hl2
      clear hown hb h2 h' hcells hrd hQ hl2
      go_wp2_with (fail)
      refine HT.out.mono ?_
      rintro e w3 ⟨A3, c3, rfl, own3, bel3⟩
      obtain ⟨hF, hFb⟩ := HO.out.fill HL2.out hlt rfl HB.out own3 bel3
      rw [HSTEP.out] at hF
      have hO2 := HO.out.below bel3
      obtain ⟨hf, ho⟩ := hO2.at HL2.out hlt
      obtain ⟨o, hoo⟩ : ∃ o, hv hs (cpq (qs.map (sbL ps)) k) k = o := ⟨_, rfl⟩
      rw [hoo] at ho
      have HF := Lib.hid hF; have HFB := Lib.hid hFb
      clear hF hFb hoo hO2 own3 bel3
      go_wp2
      go_roundw
      case rel => exact ⟨k + 1, by omega, by go_num, _, HF.out, HFB.out⟩
      case measure => simp [intOf]; omega
    · have hkl : k = qs.length := by omega
      subst hkl
      rw [← hlm, cpq_all, hlm] at hown
      have hh3 := (hb.block (w.heap.size + 1) (by omega)).trans HH2.out
      have hc3 : wr.cell? ⟨w.heap.size + 1, 0, none⟩ = some (.slice none 0 0) := cell_of_row _ _ 0 _ _ _ hh3
      have hf3 : wr.frozen? ⟨w.heap.size + 1, 0, none⟩ = false := frozen_of_row _ _ 0 _ _ hh3
      have HH := Lib.hid (cell_set (u := .slice (some ⟨g, 0, none⟩) qs.length qs.length) hh3)
      have e5 : (wr.setCell ⟨w.heap.size + 1, 0, none⟩ (.slice (some ⟨g, 0, none⟩) qs.length qs.length)).heap.size = wr.heap.size := by simp
      have HO : Hid (OwnQ (wr.setCell ⟨w.heap.size + 1, 0, none⟩ (.slice (some ⟨g, 0, none⟩) qs.length qs.length)) w.heap.size (wr.setCell ⟨w.heap.size + 1, 0, none⟩ (.slice (some ⟨g, 0, none⟩) qs.length qs.length)).heap.size (.slice (some ⟨g, 0, none⟩) qs.length qs.length) hs (qs.map (sbL ps))) := Lib.hid (by
        rw [e5]
        exact (hown.setBelow (by show w.heap.size + 1 < w2.heap.size; omega) _).more (by omega) (Nat.le_refl _))
      have HB := Lib.hid ((HB0.out.trans (hb.mono HB0.out.size)).setCell (p := ⟨w.heap.size + 1, 0, none⟩) (by show w.heap.size ≤ w.heap.size + 1; omega) (.slice (some ⟨g, 0, none⟩) qs.length qs.length))
      have HL := Lib.hid hlm
      clear hown hb h2 hq hh3 e5 hlm
      go_wp2
      (try simp only [Exit.inBlock, Exit.then])
      refine bodyPost_ret (results_cell_row rfl _ _ (w.heap.size + 1) _ _ (0, 0) _ rfl HH.out Tryd.underlying50 rfl (by kernel_rfl)) rfl ?_
      exact ⟨hs, some ⟨g, 0, none⟩, qs.length, by rw [HL.out], by rw [HL.out]; exact HO.out, HB.out⟩


theorem seq_zero {w u wx : World} (hbu : Below w.heap.size w u) (hs : u.heap.size = w.heap.size + 2) (hb : Below u.heap.size u wx) {v : Value} (hh : u.heap[w.heap.size + 1]? = some (.cells #[v] 50 (0, 0))) (V : Value) :
    wx.cell? ⟨w.heap.size + 1, 0, none⟩ = some v ∧ wx.frozen? ⟨w.heap.size + 1, 0, none⟩ = false ∧ (wx.setCell ⟨w.heap.size + 1, 0, none⟩ V).heap[w.heap.size + 1]? = some (.cells #[V] 50 (0, 0)) ∧ Below w.heap.size w (wx.setCell ⟨w.heap.size + 1, 0, none⟩ V) := by
  have q := (hb.block (w.heap.size + 1) (by omega)).trans hh
  exact ⟨cell_of_row _ _ 0 _ _ (0, 0) q, frozen_of_row _ _ 0 _ _ q, cell_set (u := V) q, (hbu.trans (hb.mono hbu.size)).setCell (p := ⟨w.heap.size + 1, 0, none⟩) (by show w.heap.size ≤ w.heap.size + 1; omega) V⟩

set_option maxRecDepth 100000 in
set_option maxHeartbeats 8000000 in
theorem substSeq_impl (A : Option Addr) (n c : Nat) (qs : List (List Int)) (B : Option Addr) (m d : Nat) (ps : List (List Int)) (w : World) (h : RdQ w w.heap.size A n qs) (h' : RdQ w w.heap.size B m ps) (hn : n ≤ 1048576) (hm : m ≤ 1048576) (ht : Arit w) (hu : Dual w) :
    Calls Tryd.prog 37 #[.agg #[.slice A n c], .slice B m d] w (GivesSeqB w (sqL qs ps) (sqB qs ps)) := by
  have hl := h.len
  subst hl
  obtain ⟨u, hu0⟩ : ∃ u, u = (w.alloc (.cells #[Value.slice A qs.length c] 50)).alloc (.cells #[.slice none 0 0] 50) := ⟨_, rfl⟩
  obtain ⟨hb, ca, _, hsz⟩ := two_boxes w (.slice A qs.length c) (.slice none 0 0) 50
  obtain ⟨_, hh2⟩ := two_heap w (.cells #[Value.slice A qs.length c] 50) (.cells #[.slice none 0 0] 50)
  rw [← hu0] at hb ca hsz hh2
  have HU0 := Lib.hid hu0; have HBU := Lib.hid hb; have HSU := Lib.hid hsz; have HHU := Lib.hid hh2; have HCA := Lib.hid ca
  have HR := Lib.hid h
  have HC := Lib.hid (bindingOf_any B m d ps u ((h'.below hb).more hb.size) hm (ht.below hb ht.lt))
  have HT := Lib.hid ht; have HTU := Lib.hid hu
  clear hu0 hb ca hsz hh2 h h' ht hu
  cases hbd : bndB ps with
  | false =>
    have hs := sqB_no2 (qs := qs) hbd
    have HN := Lib.hid (And.intro (sqL_no hs) hs)
    have HBF := Lib.hid hbd
    clear hs hbd
    go_enter Tryd.func37, Tryd.ntmps37
    go_wp2_with (fail)
    rw [← HU0.out]
    refine HC.out.mono ?_
    rintro e w1 ⟨cs, rfl, o1, b1⟩
    obtain ⟨hg, w2, hw2, hg2, o2, b2, hs2⟩ := bnd_var b1 o1
    have HG := Lib.hid hg; have HO1 := Lib.hid o1; have HB2 := Lib.hid b2; have HW2 := Lib.hid hw2; have HG2 := Lib.hid hg2; have HO2 := Lib.hid o2; have HS2 := Lib.hid hs2
    clear hg hw2 hg2 o2 b2 hs2 o1 b1
    rw [HBF.out]
    obtain ⟨y0, y1, y2, y3⟩ := seq_zero HBU.out HSU.out HB2.out HHU.out (.slice none 0 0)
    have Y2 := Lib.hid y2; have Y3 := Lib.hid y3
    clear y2 y3
    go_wp2_with (refine wpList_store_row rfl _ _ _ rfl w1.heap.size _ rfl rfl _ _ HG.out (by rw [HO1.out.size]; exact size_bnd) HO1.out.size.symm HO1.out.one ?_; rw [← HW2.out])
    (try simp only [Exit.inBlock, Exit.then])
    refine bodyPost_ret (results_cell_row_tmp rfl _ _ (w.heap.size + 1) _ _ (0, 0) _ rfl Y2.out Tryd.underlying50 rfl (by kernel_rfl)) rfl ?_
    exact givesSeqB_mk (hs := fun _ => (none, 0)) rfl (OwnQ.nil _ _ _ _) Y3.out HN.out.1.symm HN.out.2.symm
  | true =>
    have HBT := Lib.hid hbd
    have HQQ := Lib.hid (bndQ_yes hbd)
    cases hv : validQ qs with
    | false =>
      have hs := sqB_no1 (ps := ps) hv
      have HN := Lib.hid (And.intro (sqL_no hs) hs)
      have HVF := Lib.hid hv
      clear hs hbd hv
      go_enter Tryd.func37, Tryd.ntmps37
      go_wp2_with (fail)
      rw [← HU0.out]
      refine HC.out.mono ?_
      rintro e w1 ⟨cs, rfl, o1, b1⟩
      obtain ⟨hg, w2, hw2, hg2, o2, b2, hs2⟩ := bnd_var b1 o1
      have HG := Lib.hid hg; have HO1 := Lib.hid o1; have HB2 := Lib.hid b2; have HW2 := Lib.hid hw2; have HG2 := Lib.hid hg2; have HO2 := Lib.hid o2; have HS2 := Lib.hid hs2
      clear hg hw2 hg2 o2 b2 hs2 o1 b1
      rw [HBT.out]
      have k2 := (HB2.out.cell (p := ⟨w.heap.size, 0, none⟩) (by show w.heap.size < _; have := HSU.out; omega)).trans HCA.out
      have HBW2 := Lib.hid (HBU.out.trans (HB2.out.mono HBU.out.size))
      have HV := Lib.hid (validSeq_impl A qs.length c qs w2 ((HR.out.below HBW2.out).more HBW2.out.size) (by unfold maxLen; omega) (HT.out.below HBW2.out HT.out.lt))
      go_wp2_with (first
        | (refine wpList_store_row rfl _ _ _ rfl w1.heap.size _ rfl rfl _ _ HG.out (by rw [HO1.out.size]; exact size_bnd) HO1.out.size.symm HO1.out.one ?_; rw [← HW2.out])
        | (go_at_call 63; refine HV.out.mono ?_; rintro e w3 ⟨rfl, bel3⟩; rw [HVF.out]; have HB3 := Lib.hid (HB2.out.trans (bel3.mono HB2.out.size)); clear bel3; obtain ⟨y0, y1, y2, y3⟩ := seq_zero HBU.out HSU.out HB3.out HHU.out (.slice none 0 0); have Y2 := Lib.hid y2; have Y3 := Lib.hid y3; clear y2 y3))
      (try simp only [Exit.inBlock, Exit.then])
      refine bodyPost_ret (results_cell_row_tmp rfl _ _ (w.heap.size + 1) _ _ (0, 0) _ rfl Y2.out Tryd.underlying50 rfl (by kernel_rfl)) rfl ?_
      exact givesSeqB_mk (hs := fun _ => (none, 0)) rfl (OwnQ.nil _ _ _ _) Y3.out HN.out.1.symm HN.out.2.symm
    | true =>
      have hvl := validQ_len hv
      have hok := bnd_at hbd
      rw [← bndQ_yes hbd] at hok
      have HOK := Lib.hid hok
      have hn10 : qs.length ≤ 10 := by omega
      have HQL : Hid (∀ q ∈ qs, q.length ≤ 1000) := Lib.hid fun q hq => by have := (valid_len (validQ_mem hv hq)).2.1; omega
      have HSI := Lib.hid (sqB_is hv hbd)
      have HSY := Lib.hid (@sqL_yes qs ps)
      have HSN := Lib.hid (@sqL_no qs ps)
      have HVT := Lib.hid hv
      have HLM : Hid ((qs.map (sbL ps)).length = qs.length) := Lib.hid (List.length_map _)
      clear hbd hv hok hvl
      go_enter Tryd.func37, Tryd.ntmps37
      go_wp2_with (fail)
      rw [← HU0.out]
      refine HC.out.mono ?_
      rintro e w1 ⟨cs, rfl, o1, b1⟩
      obtain ⟨hg, w2, hw2, hg2, o2, b2, hs2⟩ := bnd_var b1 o1
      have HG := Lib.hid hg; have HO1 := Lib.hid o1; have HB2 := Lib.hid b2; have HW2 := Lib.hid hw2; have HG2 := Lib.hid hg2; have HO2 := Lib.hid o2; have HS2 := Lib.hid hs2
      clear hg hw2 hg2 o2 b2 hs2 o1 b1
      rw [HBT.out]
      have k2 := (HB2.out.cell (p := ⟨w.heap.size, 0, none⟩) (by show w.heap.size < _; have := HSU.out; omega)).trans HCA.out
      have HBW2 := Lib.hid (HBU.out.trans (HB2.out.mono HBU.out.size))
      have HV := Lib.hid (validSeq_impl A qs.length c qs w2 ((HR.out.below HBW2.out).more HBW2.out.size) (by unfold maxLen; omega) (HT.out.below HBW2.out HT.out.lt))
      have hmf : ∀ (fn : Fn) (first cap : Array Value) (w : World), (Instr.makeFunc fn first cap).run Tryd.prog w = .ok (.func fn first cap) w := fun _ _ _ _ => rfl
      go_wp2_with (first
        | (refine wpList_store_row rfl _ _ _ rfl w1.heap.size _ rfl rfl _ _ HG.out (by rw [HO1.out.size]; exact size_bnd) HO1.out.size.symm HO1.out.one ?_; rw [← HW2.out])
        | (refine wpList_load_row rfl _ _ rfl w1.heap.size rfl _ _ _ _ HG3.out Tryd.underlying62 rfl (by rw [HO1.out.size]; exact size_bnd) ?_)
        | (go_at_call 63; refine HV.out.mono ?_; rintro e w3 ⟨rfl, bel3⟩; rw [HVT.out]; have HB3 := Lib.hid (HB2.out.trans (bel3.mono HB2.out.size)); have HG3 : Hid (w3.heap[w1.heap.size]? = _) := Lib.hid ((bel3.block _ (by have := HS2.out; omega)).trans HG2.out); have HO3 := Lib.hid (HO2.out.below bel3); have k3 := (bel3.cell (p := ⟨w.heap.size, 0, none⟩) (by show w.heap.size < _; have := HSU.out; have := HB2.out.size; omega)).trans k2; clear bel3))
      have HBW3 := Lib.hid (HBU.out.trans (HB3.out.mono HBU.out.size))
      have hM := mappedIn_any A qs.length c qs w3 ((HR.out.below HBW3.out).more HBW3.out.size) cs (bndQ ps) HO3.out HOK.out hn10 HQL.out (HT.out.below HBW3.out HT.out.lt) (HTU.out.below HBW3.out HTU.out.lt)
      rw [HQQ.out] at hM
      obtain ⟨V, hV⟩ : ∃ V, V = qs.map (sbL ps) := ⟨_, rfl⟩
      rw [← hV] at hM HSI HSY HLM
      have HM := Lib.hid hM
      clear hM hV k2 k3 hmf HV HG HO1 HW2 HG2 HO2 HS2 HG3 HO3
      refine HM.out.mono ?_
      rintro e w4 ⟨hs4, A4, c4, rfl, own4, bel4⟩
      obtain ⟨w5, hw5⟩ : ∃ w5, w5 = w4.alloc (.cells #[.slice A4 V.length c4] 50) := ⟨_, rfl⟩
      have b45 : Below w4.heap.size w4 w5 := by rw [hw5]; exact (Below.refl _ _).alloc (Nat.le_refl _) _
      have k5 : w5.heap[w4.heap.size]? = some (.cells #[.slice A4 V.length c4] 50 (0, 0)) := by rw [hw5]; exact heap_alloc_new _ _
      have c5 := cell_of_row _ _ 0 _ _ (0, 0) k5
      have HO5 := Lib.hid (own4.below b45)
      have HB45 := Lib.hid (bel4.trans (b45.mono bel4.size))
      have HBU5 := Lib.hid (HB3.out.trans (HB45.out.mono HB3.out.size))
      have HBW5 := Lib.hid (HBU.out.trans (HBU5.out.mono HBU.out.size))
      have HW5 := Lib.hid hw5
      have hvl : V.length ≤ maxLen := by have := HLM.out; unfold maxLen; omega
      have hs5 : w4.heap.size < w5.heap.size := by rw [hw5]; simp
      have HV5 := Lib.hid (validSeq_impl A4 V.length c4 V w5 (HO5.out.rd rfl) hvl (HT.out.below HBW5.out HT.out.lt))
      have HLO : Hid (w.heap.size + 1 < w3.heap.size) := Lib.hid (by have := HSU.out; have := HB3.out.size; omega)
      have HS45 := Lib.hid b45.size
      clear hw5 b45 own4 bel4
      go_upto_region 5 with (fail)
      rw [← HW5.out]
      go_wp2_with (fail)
      refine HV5.out.mono ?_
      rintro e w6 ⟨rfl, bel6⟩
      have c6 := (bel6.cell (p := ⟨w4.heap.size, 0, none⟩) hs5).trans c5
      have HBU6 := Lib.hid (HBU5.out.trans (bel6.mono HBU5.out.size))
      have HO6 := Lib.hid (HO5.out.below bel6)
      have HS56 := Lib.hid bel6.size
      clear bel6 c5 k5
      cases hr : validQ V with
      | true =>
        have e1 := HSI.out.trans hr
        have HN := Lib.hid (And.intro (HSY.out e1) e1)
        obtain ⟨y0, y1, y2, y3⟩ := seq_zero HBU.out HSU.out HBU6.out HHU.out (.slice A4 V.length c4)
        have Y2 := Lib.hid y2; have Y3 := Lib.hid y3
        have e6 : (w6.setCell ⟨w.heap.size + 1, 0, none⟩ (.slice A4 V.length c4)).heap.size = w6.heap.size := by simp
        have HOF : Hid (OwnQ (w6.setCell ⟨w.heap.size + 1, 0, none⟩ (.slice A4 V.length c4)) w.heap.size (w6.setCell ⟨w.heap.size + 1, 0, none⟩ (.slice A4 V.length c4)).heap.size (.slice A4 V.length c4) hs4 V) := Lib.hid (by
          rw [e6]
          have h45 := HS45.out
          have h56 := HBU6.out.size
          have hlo := HLO.out
          exact (HO6.out.setBelow (p := ⟨w.heap.size + 1, 0, none⟩) hlo _).more (by omega) (by have h1 := HS45.out; have h2 := HS56.out; omega))
        clear y2 y3 e6 hr e1
        go_wp2
        (try simp only [Exit.inBlock, Exit.then])
        refine bodyPost_ret (results_cell_row_tmp rfl _ _ (w.heap.size + 1) _ _ (0, 0) _ rfl Y2.out Tryd.underlying50 rfl (by kernel_rfl)) rfl ?_
        exact givesSeqB_mk rfl HOF.out Y3.out HN.out.1.symm HN.out.2.symm
      | false =>
        have e1 := HSI.out.trans hr
        have HN := Lib.hid (And.intro (HSN.out e1) e1)
        obtain ⟨y0, y1, y2, y3⟩ := seq_zero HBU.out HSU.out HBU6.out HHU.out (.slice none 0 0)
        have Y2 := Lib.hid y2; have Y3 := Lib.hid y3
        clear y2 y3 hr e1
        go_wp2
        (try simp only [Exit.inBlock, Exit.then])
        refine bodyPost_ret (results_cell_row_tmp rfl _ _ (w.heap.size + 1) _ _ (0, 0) _ rfl Y2.out Tryd.underlying50 rfl (by kernel_rfl)) rfl ?_
        exact givesSeqB_mk (hs := fun _ => (none, 0)) rfl (OwnQ.nil _ _ _ _) Y3.out HN.out.1.symm HN.out.2.symm
end Go.Proofs.YtoniekjchabjlaaDoor
