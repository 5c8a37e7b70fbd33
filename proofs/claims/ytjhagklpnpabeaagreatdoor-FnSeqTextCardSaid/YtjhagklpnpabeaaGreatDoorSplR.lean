/- ReadSeq of the program. -/
import Derived.Test.YtjhagklpnpabeaaGreatDoorSplM
import Derived.Test.YtjhagklpnpabeaaGreatDoorShelfS
import Derived.Test.YtjhagklpnpabeaaGreatDoorCopyS
import Derived.Test.YtjhagklpnpabeaaGreatDoorSwap
namespace Go.Proofs.YtjhagklpnpabeaaGreatDoor
open Go.ChangeShapes Go.WideShapes Go.ChangeAt Go.RowKit

/-- The library's variable that strings.Index reads holds some integer. -/
def MaxL (w : World) : Prop := ∃ m : Int, w.cell? ⟨2, 0, none⟩ = some (.int .i64 m)
theorem MaxL.below {w w' : World} (h : MaxL w) (hb : Below w.heap.size w w') : MaxL w' := by
  obtain ⟨m, hm⟩ := h
  exact ⟨m, (hb.cell (World.block_lt_of_cell? w _ hm)).trans hm⟩
theorem splitN_any (s : ByteArray) (w : World) (hs : s.size ≤ 1048576) (hM : MaxL w) :
    Calls Tryz.prog 47 #[.string s, .string ⟨#[44, 32]⟩, .int .i64 11] w fun e w' =>
      e = .returned (.slice (some ⟨w.heap.size, 0, none⟩) (pieces s).length (min 11 (s.size + 1))) ∧ w' = w.alloc (.cells (Lib.cellsOf (pieces s) (min 11 (s.size + 1))) 9) := by
  obtain ⟨m, hm⟩ := hM
  exact Any.strings_SplitN Tryz.splitL (by kernel_rfl) s ⟨#[44, 32]⟩ 11 m w (by omega) hm (by decide) (by decide) (by decide)
theorem cells_at {P : List ByteArray} {N k : Nat} (h : k < P.length) : (Lib.cellsOf P N)[k]? = some (.string P[k]) := by
  unfold Lib.cellsOf
  rw [List.getElem?_toArray, List.getElem?_append_left (by simpa using h)]
  simp [h]
theorem size_zero {s : ByteArray} (h : s.size = 0) : (s.toList == ([] : List UInt8)) = true := by
  rw [ByteArray.toList_eq]
  have : s.data.toList = [] := List.eq_nil_of_length_eq_zero (by simpa using h)
  rw [this]; rfl
theorem size_pos {s : ByteArray} (h : ¬ s.size = 0) : (s.toList == ([] : List UInt8)) = false := by
  rw [ByteArray.toList_eq]
  cases hd : s.data.toList with
  | nil => exact absurd (by have := congrArg List.length hd; simpa using this) h
  | cons x xs => rfl

set_option maxRecDepth 100000 in
set_option maxHeartbeats 1000000 in
theorem readSeq_impl (s : ByteArray) (w : World) (hs : s.size ≤ 1048576) (ht : Arit w) (hu : Dual w) (hM : MaxL w) :
    Calls Tryz.prog 14 #[.string s] w (GivesSeqB w (rqL s) (rqB s)) := by
  by_cases h0 : s.size = 0
  · have he := size_zero h0
    have HN := Lib.hid (rqB_none h0)
    have hbx := box_below w (.slice none 0 0) 26
    have hh : (w.alloc (.cells #[.slice none 0 0] 26)).heap[w.heap.size]? = some (.cells #[.slice none 0 0] 26 (0, 0)) := heap_alloc_new _ _
    have H5 := Lib.hid hh
    have B5 := Lib.hid hbx
    clear hs ht hu hM hbx hh h0
    go_enter Tryz.func14, Tryz.ntmps14
    go_wp2
    (try simp only [Exit.inBlock, Exit.then])
    refine bodyPost_ret (results_cell_row_tmp rfl _ _ w.heap.size _ _ (0, 0) _ rfl H5.out Tryz.underlying26 rfl (by kernel_rfl)) rfl ?_
    exact ⟨fun _ => (none, 0), none, 0, by rw [HN.out.1, HN.out.2]; rfl, by rw [HN.out.2]; exact OwnQ.nil _ _ _ _, B5.out⟩
  · obtain ⟨i0, hi0, hz0, hz1, hz2⟩ := info_parts_s
    have he := size_pos h0
    obtain ⟨w2, hw2⟩ : ∃ w2, w2 = (w.alloc (.cells #[.slice none 0 0] 26)).alloc (.cells #[.slice none 0 0] 26) := ⟨_, rfl⟩
    obtain ⟨hh0, hh1⟩ := two_heap w (.cells #[.slice none 0 0] 26) (.cells #[.slice none 0 0] 26)
    have hb2 : Below w.heap.size w w2 := by rw [hw2]; exact ((Below.refl _ _).alloc (Nat.le_refl _) _).alloc (by simp) _
    have hsz2 : w2.heap.size = w.heap.size + 1 + 1 := by rw [hw2]; simp
    rw [← hw2] at hh0 hh1
    have HSP := Lib.hid (splitN_any s w2 hs (hM.below hb2))
    obtain ⟨w3, hw3⟩ : ∃ w3, w3 = w2.alloc (.cells (Lib.cellsOf (pieces s) (min 11 (s.size + 1))) 9) := ⟨_, rfl⟩
    have hb3 : Below w2.heap.size w2 w3 := by rw [hw3]; exact (Below.refl _ _).alloc (Nat.le_refl _) _
    have hp3 : w3.heap[w2.heap.size]? = some (.cells (Lib.cellsOf (pieces s) (min 11 (s.size + 1))) 9 (0, 0)) := by rw [hw3]; exact heap_alloc_new _ _
    have hz3 : w2.heap.size < w3.heap.size := by rw [hw3]; simp
    have hcl : ∀ j (hj : j < (pieces s).length), w3.cell? ⟨w2.heap.size, j, none⟩ = some (.string (pieces s)[j]) := fun j hj => (cell_of_row _ _ j _ _ (0, 0) hp3).trans (cells_at hj)
    have hh03 := (hb3.block w.heap.size (by omega)).trans hh0
    have hh13 := (hb3.block (w.heap.size + 1) (by omega)).trans hh1
    have hb03 := hb2.trans (hb3.mono hb2.size)
    have HCL := Lib.hid hcl
    have HI := Lib.hid hi0; have HZ0 := Lib.hid hz0; have HZ1 := Lib.hid hz1; have HZ2 := Lib.hid hz2
    have HT := Lib.hid (ht.below hb03 ht.lt); have HU := Lib.hid (hu.below hb03 hu.lt)
    have hal := ht.lt; have hul := hu.lt
    have hpl := pieces_len s
    have hz2' : w.heap.size + 1 < w2.heap.size := by omega
    have HH0 := Lib.hid hh03; have HH1 := Lib.hid hh13; have HB03 := Lib.hid hb03
    clear hi0 hz0 hz1 hz2 hM hb2 hb3 hp3 hcl hh0 hh1 hh03 hh13 hb03 hsz2 ht hu
    go_enter Tryz.func14, Tryz.ntmps14
    go_wp2_with (fail)
    rw [← hw2]
    clear hw2
    refine HSP.out.mono ?_
    rintro e w' ⟨rfl, rfl⟩
    go_wp2_with (fail)
    rw [← hw3]
    clear hw3 HSP
    generalize w2.heap.size = bp at *
    generalize hb0 : w.heap.size + 1 = b at *
    go_loopw [15] (fun i wr => ∃ k : Nat, k ≤ (pieces s).length ∧ i = .int .i64 k ∧ (∀ p ∈ (pieces s).take k, rdB p = true) ∧ (∀ j : Nat, wr.cell? ⟨bp, j, none⟩ = w3.cell? ⟨bp, j, none⟩) ∧ ∃ hs A2 c2, wr.heap[b]? = some (.cells #[.slice A2 k c2] 26 (0, 0)) ∧ OwnQ wr w3.heap.size wr.heap.size (.slice A2 k c2) hs (((pieces s).take k).map rdL) ∧ Below b w3 wr) (fun i _ => (pieces s).length - (intOf i).toNat)
    case atStart => exact ⟨0, Nat.zero_le _, rfl, (fun p hp => by simp at hp), (fun _ => rfl), fun _ => (none, 0), none, 0, HH1.out, OwnQ.nil _ _ _ _, Below.refl _ _⟩
    case round =>
      obtain ⟨k, hk, rfl, hall, hpc, hs0, A2, c2, hbb, hown, hbl⟩ := hrel
      have HAL := Lib.hid hall; have HPC := Lib.hid hpc; have HO := Lib.hid hown; have HBL := Lib.hid hbl; have HBB := Lib.hid hbb
      have hsw := hbl.size
      clear hall hpc hown hbl
      by_cases hkP : k < (pieces s).length
      · have hcell := (HPC.out k).trans (HCL.out k hkP)
        have hmem : (pieces s)[k] ∈ pieces s := List.getElem_mem hkP
        have hps := piece_size hmem
        have HTK : Hid ((pieces s).take k ++ [(pieces s)[k]] = (pieces s).take (k + 1)) := Lib.hid (List.take_succ_eq_append_getElem hkP).symm
        have HMEM := Lib.hid hmem
        generalize (pieces s)[k] = p at *
        have hRF := readForm_impl p wr (by omega) (HT.out.below HBL.out (by omega)) (HU.out.below HBL.out (by omega))
        have c4 : wr.cell? ⟨b, 0, none⟩ = some (.slice A2 k c2) := cell_of_row _ _ 0 _ _ (0, 0) hbb
        cases hrd : rdB p with
        | false =>
          rw [hrd] at hRF
          have HNO := Lib.hid (rqB_bad h0 HMEM.out hrd)
          have HRF := Lib.hid hRF
          clear hRF hmem hrd
          go_wp2_with (fail)
          refine HRF.out.mono ?_
          rintro e w5 ⟨A6, c6, rfl, own6, bel6⟩
          have B05 := (HB03.out.trans (HBL.out.mono (by omega))).trans (bel6.mono (by have := HB03.out.size; omega))
          have h05 := (bel6.block w.heap.size (by omega)).trans ((HBL.out.block w.heap.size (by omega)).trans HH0.out)
          have hc5 := cell_of_row _ _ 0 _ _ (0, 0) h05
          have hf5 := frozen_of_row _ _ 0 _ _ h05
          have hs5 := bel6.size
          obtain ⟨h5, o5, b5⟩ := seq_out2 B05 (Nat.le_refl _) (show w.heap.size < w5.heap.size by omega) h05 (OwnQ.nil w5 w5.heap.size w5.heap.size (fun _ => (none, 0)))
          have H5 := Lib.hid h5; have O5 := Lib.hid o5; have B5 := Lib.hid b5
          clear own6 bel6 B05 h05 h5 o5 b5 HRF
          go_wp2
          (try simp only [Exit.inBlock, Exit.then])
          refine bodyPost_ret (results_cell_row_tmp rfl _ _ w.heap.size _ _ (0, 0) _ rfl H5.out Tryz.underlying26 rfl (by kernel_rfl)) rfl ?_
          exact ⟨_, none, 0, by rw [HNO.out.1, HNO.out.2]; rfl, by rw [HNO.out.2]; exact O5.out, B5.out⟩
        | true =>
          rw [hrd] at hRF
          have HRF := Lib.hid hRF
          have HRD := Lib.hid hrd
          have hl24 := rdL_len p
          clear hRF hmem hrd
          generalize hLq : rdL p = L at *
          have HLQ := Lib.hid hLq
          clear hLq
          go_wp2_with (fail)
          refine HRF.out.mono ?_
          rintro e w5 ⟨A6, c6, rfl, own6, bel6⟩
          have hlen : (((pieces s).take k).map rdL).length = k := by rw [List.length_map, List.length_take]; omega
          have hlo : w3.heap.size ≤ wr.heap.size := hsw
          have hs5 := bel6.size
          obtain ⟨o6, n6, b6⟩ := push_in (A6 := A6) (c6 := c6) (dq := L) HO.out hlen hlo bel6
          have c45 := (bel6.cell (p := ⟨b, 0, none⟩) (by show b < _; omega)).trans c4
          have O6 := Lib.hid o6; have N6 := Lib.hid n6; have BS6 := Lib.hid b6; have OW6 := Lib.hid own6; have BE6 := Lib.hid bel6; have HLN := Lib.hid hlen
          have c46 : (w5.alloc (.cells #[.slice A6 L.length c6] 35)).cell? ⟨b, 0, none⟩ = some (.slice A2 k c2) := ((box_below w5 (.slice A6 L.length c6) 35).cell (p := ⟨b, 0, none⟩) (by show b < _; omega)).trans c45
          have hbw : b < w3.heap.size := by omega
          clear own6 bel6 o6 n6 b6 hlen HRF
          go_wp2_with (at_builtin; refine wpList_append_lies _ rfl _ _ _ rfl w3.heap.size 35 i0 (.slice none 0 0) 1 24 Tryz.underlying24 HI.out HZ0.out HZ1.out HZ2.out rfl (by decide) _ _ _ rfl O6.out ⟨w5.heap.size, 0, none⟩ 1 1 [.slice A6 L.length c6] rfl rfl N6.out (by simp [Value.oneCell']) (by decide) (by simp only [maxLen]; omega) (by omega) BS6.out _ rfl ?_; intro g7 cap7 w7 hown7 hgrow7 hat7 hlt7; obtain ⟨cl7, hf7, F1, F2, F3⟩ := push_out HO.out HLN.out hsw hbw HBL.out HBB.out BE6.out OW6.out hown7 hgrow7 hat7; have c47 := (cl7 ⟨b, 0, none⟩ hbw).trans c4; have CL7 := Lib.hid cl7; have G1 := Lib.hid F1; have G2 := Lib.hid F2; have G3 := Lib.hid F3; clear hown7 hgrow7 hat7 cl7 F1 F2 F3)
          have G2' : Hid (OwnQ (w7.setCell ⟨b, 0, none⟩ (.slice (some ⟨g7, 0, none⟩) (k + 1) cap7)) w3.heap.size (w7.setCell ⟨b, 0, none⟩ (.slice (some ⟨g7, 0, none⟩) (k + 1) cap7)).heap.size (.slice (some ⟨g7, 0, none⟩) (k + 1) cap7) (upd hs0 (((pieces s).take k).map rdL).length (A6, c6)) (((pieces s).take (k + 1)).map rdL)) := Lib.hid (by
            have e : ((pieces s).take (k + 1)).map rdL = ((pieces s).take k).map rdL ++ [L] := by rw [← HTK.out, List.map_append, List.map_singleton, HLQ.out]
            rw [e]; exact G2.out)
          go_roundw
          case rel => exact ⟨k + 1, by omega, by go_num, (fun x hx => by rw [← HTK.out] at hx; rcases List.mem_append.1 hx with hx | hx; exact HAL.out x hx; rw [List.mem_singleton.1 hx]; exact HRD.out), (fun j => ((far_cell (p := ⟨bp, j, none⟩) (by show bp ≠ b; omega)).trans (CL7.out ⟨bp, j, none⟩ (by show bp < _; omega))).trans (HPC.out j)), _, _, _, G1.out, G2'.out, G3.out⟩
          case measure => simp [intOf]; omega
      · have hkl : k = (pieces s).length := by omega
        subst hkl
        have hV := HO.out
        rw [List.take_of_length_le (Nat.le_refl _)] at hV
        have hAll := HAL.out
        rw [List.take_of_length_le (Nat.le_refl _)] at hAll
        have hlm : ((pieces s).map rdL).length = (pieces s).length := List.length_map _
        have c4 : wr.cell? ⟨b, 0, none⟩ = some (.slice A2 (pieces s).length c2) := cell_of_row _ _ 0 _ _ (0, 0) hbb
        have hVS := validSeq_impl A2 (pieces s).length c2 ((pieces s).map rdL) wr (hV.rd hlm) (by unfold maxLen; omega) (HT.out.below HBL.out (by omega))
        have B0r := HB03.out.trans (HBL.out.mono (by omega))
        have h0r := (HBL.out.block w.heap.size (by omega)).trans HH0.out
        cases hvq : validQ ((pieces s).map rdL) with
        | false =>
          rw [hvq] at hVS
          have HNO := Lib.hid (rqB_inv h0 hvq)
          have HVS := Lib.hid hVS
          clear hVS hV hAll hvq hlm
          go_wp2_with (fail)
          refine HVS.out.mono ?_
          rintro e w5 ⟨rfl, bel6⟩
          have hs5 := bel6.size
          have B05 := B0r.trans (bel6.mono (by have := B0r.size; omega))
          have h05 := (bel6.block w.heap.size (by omega)).trans h0r
          have hc5 := cell_of_row _ _ 0 _ _ (0, 0) h05
          have hf5 := frozen_of_row _ _ 0 _ _ h05
          obtain ⟨h5, o5, b5⟩ := seq_out2 B05 (Nat.le_refl _) (show w.heap.size < w5.heap.size by omega) h05 (OwnQ.nil w5 w5.heap.size w5.heap.size (fun _ => (none, 0)))
          have H5 := Lib.hid h5; have O5 := Lib.hid o5; have B5 := Lib.hid b5
          clear bel6 B05 h05 h5 o5 b5 HVS h0r B0r
          go_wp2
          (try simp only [Exit.inBlock, Exit.then])
          refine bodyPost_ret (results_cell_row_tmp rfl _ _ w.heap.size _ _ (0, 0) _ rfl H5.out Tryz.underlying26 rfl (by kernel_rfl)) rfl ?_
          exact ⟨_, none, 0, by rw [HNO.out.1, HNO.out.2]; rfl, by rw [HNO.out.2]; exact O5.out, B5.out⟩
        | true =>
          rw [hvq] at hVS
          have HYES := Lib.hid (rqB_ok h0 hAll hvq)
          have HVS := Lib.hid hVS
          have HVV := Lib.hid hV
          have HLM := Lib.hid hlm
          clear hVS hV hAll hvq hlm
          go_wp2_with (fail)
          refine HVS.out.mono ?_
          rintro e w5 ⟨rfl, bel6⟩
          have hs5 := bel6.size
          have c45 := (bel6.cell (p := ⟨b, 0, none⟩) (by show b < _; omega)).trans c4
          have B05 := B0r.trans (bel6.mono (by have := B0r.size; omega))
          have h05 := (bel6.block w.heap.size (by omega)).trans h0r
          have hc5 := cell_of_row _ _ 0 _ _ (0, 0) h05
          have hf5 := frozen_of_row _ _ 0 _ _ h05
          obtain ⟨h5, o5, b5⟩ := seq_out2 B05 (Nat.le_refl _) (show w.heap.size < w3.heap.size by omega) h05 ((HVV.out.below bel6).more (Nat.le_refl _) hs5)
          have H5 := Lib.hid h5; have O5 := Lib.hid o5; have B5 := Lib.hid b5
          clear bel6 B05 h05 h5 o5 b5 HVS h0r B0r
          go_wp2
          (try simp only [Exit.inBlock, Exit.then])
          refine bodyPost_ret (results_cell_row_tmp rfl _ _ w.heap.size _ _ (0, 0) _ rfl H5.out Tryz.underlying26 rfl (by kernel_rfl)) rfl ?_
          exact ⟨_, A2, c2, by rw [HYES.out.1, HYES.out.2, HLM.out]; rfl, by rw [HYES.out.2, HLM.out]; exact O5.out, B5.out⟩
end Go.Proofs.YtjhagklpnpabeaaGreatDoor
