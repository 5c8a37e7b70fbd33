/- ReadSeq of the model. -/
import Derived.Test.YtjhagklpnpabeaaDoorSplM
import Derived.Test.YtjhagklpnpabeaaDoorSplR
import Derived.Test.YtjhagklpnpabeaaDoorSrtK
import Derived.Laws.AppendOwnNone
namespace Go.Proofs.YtjhagklpnpabeaaDoor
open Go.ChangeShapes Go.WideShapes Go.ChangeAt Go.RowKit

/-- The append of a row of parts, perhaps none and perhaps nil, onto a row of one's own. -/
theorem append_any {w : World} {ops : Array Oper} {rest : List Oper} {o : Oper} {a : Act} {Q : Exit → Act → World → Prop} (hgd : o.guard = none) (s x : Operand)
    (ho : o.op = .call { callee := .builtin .append, args := #[s, x], argTypes := #[22, 22] })
    (base : Nat) (i : TypeInfo) (hi : Tryd.prog.info? 30 = some i) (hz : i.zero = some (.slice none 0 0)) (hsize : i.size = 1) (hby : i.bytes = 24)
    (v : Value) (hs : a.eval s = v) (hown : w.ownsRow base 30 1 v 0 [])
    {lo h9 m c2 : Nat} {A2 : Option Addr} {hh : Nat → Option Addr × Nat} {cur : List (List Int)} (hq : OwnQ w lo h9 (.slice A2 m c2) hh cur) (hlen : cur.length = m) (hm : m ≤ 10) (hx : a.eval x = .slice A2 m c2) (hbase : base ≤ w.heap.size)
    (h : ∀ v' w', w'.ownsRow base 30 1 v' m (rowV hh cur) → w.grownBy w' v.ownBlock → wpList Tryd.prog ops Q rest (a.put o.dst v') w') : wpList Tryd.prog ops Q (o :: rest) a w := by
  subst hlen
  have hout := hq.outer
  rcases hout.2 with ⟨hv, hn⟩ | ⟨g, cap, cells, hv, hb, hc, hn, hd, he, hf⟩
  · injection hv with a1 a2 a3
    subst a1
    subst a3
    have hc : cur = [] := List.eq_nil_of_length_eq_zero a2
    subst hc
    exact wpList_append_own_none hgd s x _ ho base 30 i 1 Tryd.underlying22 hi v 0 [] hs hown hx (h v w hown (World.grownBy.refl w _))
  · injection hv with a1 a2 a3
    subst a1
    refine wpList_append_own _ hgd s x _ ho base 30 i (.slice none 0 0) 1 24 Tryd.underlying22 hi hz hsize hby rfl (by decide) v 0 [] hs hown ⟨g, 0, none⟩ cur.length c2 (rowV hh cur) hx (by rw [rowV_len, Nat.mul_one]) (row_cells hout) (fun u hu => hv_one hu) (by simp only [maxLen]; omega) (by omega) hbase ?_
    intro v' w' h1 h2 _
    rw [Nat.zero_add, List.nil_append] at h1
    exact h v' w' h1 h2

set_option maxRecDepth 100000 in
set_option maxHeartbeats 1000000 in
theorem sReadSeq_any (s : ByteArray) (w : World) (hs : s.size ≤ 1048576) :
    Calls Tryd.prog 6 #[.string s] w (GivesSeqB w (rqL s) (rqB s)) := by
  obtain ⟨i0, hi0, hz0, hz1, hz2⟩ := info_parts_s
  obtain ⟨w3, hw3⟩ : ∃ w3, w3 = (w.alloc (.cells #[.slice none 0 0] 24)).alloc (.cells #[.slice none 0 0] 24) := ⟨_, rfl⟩
  obtain ⟨hh0, hh1⟩ := two_heap w (.cells #[.slice none 0 0] 24) (.cells #[.slice none 0 0] 24)
  have hb3 : Below w.heap.size w w3 := by rw [hw3]; exact ((Below.refl _ _).alloc (Nat.le_refl _) _).alloc (by simp) _
  have hsz3 : w3.heap.size = w.heap.size + 1 + 1 := by rw [hw3]; simp
  rw [← hw3] at hh0 hh1
  have HI := Lib.hid hi0; have HZ0 := Lib.hid hz0; have HZ1 := Lib.hid hz1; have HZ2 := Lib.hid hz2
  have HH0 := Lib.hid hh0; have HH1 := Lib.hid hh1; have HB3 := Lib.hid hb3; have HSZ := Lib.hid hsz3
  clear hi0 hz0 hz1 hz2 hh0 hh1 hb3 hsz3
  by_cases h0 : s.size = 0
  · have he := size_zero h0
    have HN := Lib.hid (rqB_none h0)
    clear h0
    go_enter Tryd.func6, Tryd.ntmps6
    go_wp2
    rw [← hw3]
    clear hw3
    generalize hb0 : w.heap.size + 1 = b at *
    have hszb : w3.heap.size = b + 1 := by have := HSZ.out; omega
    have hh := HH1.out
    have c4 : w3.cell? ⟨b, 0, none⟩ = some (.slice none 0 0) := cell_of_row _ _ 0 _ _ (0, 0) hh
    have HV := Lib.hid (sValidSeq_any none 0 0 [] w3 ((OwnQ.nil w3 w3.heap.size w3.heap.size (fun _ => (none, 0))).rd rfl) (by omega) (Nat.le_refl _))
    have HVQ : Hid (validQ [] = true) := Lib.hid (by decide)
    rw [HVQ.out] at HV
    have HS : Hid (seqT [] = s) := Lib.hid (by
      rw [seqT_yes HVQ.out]
      refine ba_ext ?_
      have h := eq_of_beq he
      rw [ByteArray.toList_eq] at h
      rw [h]
      rfl)
    clear hh
    refine wp_loop_rounds 1 ?_
    rw [rounds_succ]
    go_wp2_with (fail)
    refine HV.out.mono ?_
    rintro e w5 ⟨rfl, bel5⟩
    have hs5 := bel5.size
    have c45 := (bel5.cell (p := ⟨b, 0, none⟩) (by show b < _; omega)).trans c4
    have hT := sSeqText_any none 0 0 [] w5 ((OwnQ.nil w5 w5.heap.size w5.heap.size (fun _ => (none, 0))).rd rfl) (by omega) (Nat.le_refl _)
    rw [HS.out] at hT
    have HT := Lib.hid hT; have BE5 := Lib.hid bel5
    clear bel5 hT
    go_wp2_with (fail)
    refine HT.out.mono ?_
    rintro e w6 ⟨rfl, bel6⟩
    have c46 := (bel6.cell (p := ⟨b, 0, none⟩) (by show b < _; omega)).trans c45
    have hs6 := bel6.size
    have B06 := HB3.out.trans ((BE5.out.mono (by omega)).trans (bel6.mono (by omega)))
    have h06 := (bel6.block w.heap.size (by omega)).trans ((BE5.out.block w.heap.size (by omega)).trans HH0.out)
    have hc6 := cell_of_row _ _ 0 _ _ (0, 0) h06
    have hf6 := frozen_of_row _ _ 0 _ _ h06
    obtain ⟨h5, o5, b5⟩ := seq_out2 B06 (Nat.le_refl _) (show w.heap.size < w6.heap.size by omega) h06 (OwnQ.nil w6 w6.heap.size w6.heap.size (fun _ => (none, 0)))
    have H5 := Lib.hid h5; have O5 := Lib.hid o5; have B5 := Lib.hid b5
    clear bel6 B06 h06 h5 o5 b5
    go_wp2
    (try simp only [Exit.inBlock, Exit.then])
    refine bodyPost_ret (results_cell_row_tmp rfl _ _ w.heap.size _ _ (0, 0) _ rfl H5.out Tryd.underlying24 rfl (by kernel_rfl)) rfl ?_
    exact ⟨_, none, 0, by rw [HN.out.1, HN.out.2]; rfl, by rw [HN.out.2]; exact O5.out, B5.out⟩
  · have he := size_pos h0
    go_enter Tryd.func6, Tryd.ntmps6
    go_wp2
    rw [← hw3]
    clear hw3
    generalize hb0 : w.heap.size + 1 = b at *
    go_loopw [5, 6] (fun f i wr => ∃ fr k m : Nat, f = .int .i64 fr ∧ i = .int .i64 k ∧ (k ≤ s.size → fr ≤ k) ∧ fr ≤ s.size + 2 ∧ k ≤ s.size + 1 ∧ m ≤ 10 ∧ ∃ cur hs A2 c2, cur.length = m ∧ SeqAt s fr k cur ∧ wr.heap[b]? = some (.cells #[.slice A2 m c2] 24 (0, 0)) ∧
      OwnQ wr w3.heap.size wr.heap.size (.slice A2 m c2) hs cur ∧ Below b w3 wr) (fun _ i _ => s.size + 1 - (intOf i).toNat)
    case atStart => exact ⟨0, 0, 0, rfl, rfl, fun _ => Nat.le_refl _, by omega, by omega, by omega, [], fun _ => (none, 0), none, 0, rfl, seqAt_start s, HH1.out, OwnQ.nil _ _ _ _, Below.refl _ _⟩
    case round =>
      obtain ⟨fr, k, m, rfl, rfl, hfk, hfr, hk, hm, cur, hs0, A2, c2, hlen, hat, hbb, hown, hbl⟩ := hrel
      have HAT := Lib.hid hat; have HO := Lib.hid hown; have HBL := Lib.hid hbl; have HBB := Lib.hid hbb; have HLN := Lib.hid hlen
      have hsw := hbl.size
      have c4 : wr.cell? ⟨b, 0, none⟩ = some (.slice A2 m c2) := cell_of_row _ _ 0 _ _ (0, 0) hbb
      clear hat hown hbl hbb hlen
      by_cases hks : k ≤ s.size
      · by_cases hcm : k < s.size ∧ s.data.toList[k]? ≠ some 44
        · obtain ⟨hlt, hc0⟩ := hcm
          obtain ⟨c, hc, hidx⟩ := byte_at hlt
          have hx : ((c.toNat : Int) == 44) = false := by
            rw [beq_eq_false_iff_ne]
            intro e
            apply hc0
            rw [hc]
            congr 1
            apply UInt8.toNat_inj.1
            have : (44 : UInt8).toNat = 44 := rfl
            omega
          have HAT2 := Lib.hid (seqAt_skip HAT.out hlt hc0)
          clear hc hc0
          generalize (c.toNat : Int) = z at *
          go_wp2
          go_roundw
          case rel => exact ⟨fr, k + 1, m, rfl, by go_num, fun _ => by have := hfk hks; omega, by omega, by omega, hm, cur, hs0, A2, c2, HLN.out, HAT2.out, HBB.out, HO.out, HBL.out⟩
          case measure => simp [intOf]; omega
        · have hstop : k < s.size → s.data.toList[k]? = some 44 := fun h => Classical.byContradiction fun h' => hcm ⟨h, h'⟩
          have hpc := fun w => piece_at (hfk hks) hks w
          have hps := pieceAt_size (s := s) (fr := fr) (k := k)
          have HUN := Lib.hid (seqAt_unread h0 HAT.out hks hstop)
          have HFU := Lib.hid (seqAt_full h0 HAT.out hks hstop)
          have HMO := Lib.hid (fun h1 h2 => seqAt_more (k := k) HAT.out h1 h2)
          have HBA := Lib.hid (fun h1 h2 h3 => seqAt_bad (k := k) h0 HAT.out h1 h2 h3)
          have HEN : Hid (k = s.size → SeqAt s (s.size + 2) (s.size + 1) (cur ++ [rdL (pieceAt s fr k)])) := Lib.hid (by rintro rfl; exact seqAt_end HAT.out)
          have HST := Lib.hid hstop
          have hrl := rdL_len (pieceAt s fr k)
          generalize pieceAt s fr k = p at *
          have hRF := sReadForm_any p wr (by omega)
          clear hcm hstop HAT
          have hszb : w3.heap.size = b + 1 := by have := HSZ.out; omega
          have hidx : k < s.size → ∀ w : World, (Instr.index 9 (.string s) (.int .i64 (k : Int))).run Tryd.prog w = .ok (.int .u8 44) w := fun hlt => by
            obtain ⟨c, hc, hi⟩ := byte_at hlt
            rw [HST.out hlt] at hc
            obtain rfl : (44 : UInt8) = c := by injection hc
            exact hi
          cases hrd : rdB p with
          | false =>
            rw [hrd] at hRF
            have HRF := Lib.hid hRF
            have HNO := Lib.hid (HUN.out hrd)
            clear hRF HUN HFU HMO HBA HEN HST hrd
            by_cases hend : k < s.size
            · have hidx := hidx hend
              go_wp2_with (fail)
              refine HRF.out.mono ?_
              rintro e w5 ⟨A6, c6, rfl, own6, bel6⟩
              have B05 := HB3.out.trans ((HBL.out.mono (by omega)).trans (bel6.mono (by have := HBL.out.size; omega)))
              have h05 := (bel6.block w.heap.size (by omega)).trans ((HBL.out.block w.heap.size (by omega)).trans HH0.out)
              have hc5 := cell_of_row _ _ 0 _ _ (0, 0) h05
              have hf5 := frozen_of_row _ _ 0 _ _ h05
              have hs5 := bel6.size
              obtain ⟨h5, o5, b5⟩ := seq_out2 B05 (Nat.le_refl _) (show w.heap.size < w5.heap.size by omega) h05 (OwnQ.nil w5 w5.heap.size w5.heap.size (fun _ => (none, 0)))
              have c45 := (bel6.cell (p := ⟨b, 0, none⟩) (by show b < _; omega)).trans c4
              have H5 := Lib.hid h5; have O5 := Lib.hid o5; have B5 := Lib.hid b5
              clear own6 bel6 B05 h05 h5 o5 b5
              go_wp2
              (try simp only [Exit.inBlock, Exit.then])
              refine bodyPost_ret (results_cell_row_tmp rfl _ _ w.heap.size _ _ (0, 0) _ rfl H5.out Tryd.underlying24 rfl (by kernel_rfl)) rfl ?_
              exact ⟨_, none, 0, by rw [HNO.out.1, HNO.out.2]; rfl, by rw [HNO.out.2]; exact O5.out, B5.out⟩
            · clear hidx
              go_wp2_with (fail)
              refine HRF.out.mono ?_
              rintro e w5 ⟨A6, c6, rfl, own6, bel6⟩
              have B05 := HB3.out.trans ((HBL.out.mono (by omega)).trans (bel6.mono (by have := HBL.out.size; omega)))
              have h05 := (bel6.block w.heap.size (by omega)).trans ((HBL.out.block w.heap.size (by omega)).trans HH0.out)
              have hc5 := cell_of_row _ _ 0 _ _ (0, 0) h05
              have hf5 := frozen_of_row _ _ 0 _ _ h05
              have hs5 := bel6.size
              obtain ⟨h5, o5, b5⟩ := seq_out2 B05 (Nat.le_refl _) (show w.heap.size < w5.heap.size by omega) h05 (OwnQ.nil w5 w5.heap.size w5.heap.size (fun _ => (none, 0)))
              have c45 := (bel6.cell (p := ⟨b, 0, none⟩) (by show b < _; omega)).trans c4
              have H5 := Lib.hid h5; have O5 := Lib.hid o5; have B5 := Lib.hid b5
              clear own6 bel6 B05 h05 h5 o5 b5
              go_wp2
              (try simp only [Exit.inBlock, Exit.then])
              refine bodyPost_ret (results_cell_row_tmp rfl _ _ w.heap.size _ _ (0, 0) _ rfl H5.out Tryd.underlying24 rfl (by kernel_rfl)) rfl ?_
              exact ⟨_, none, 0, by rw [HNO.out.1, HNO.out.2]; rfl, by rw [HNO.out.2]; exact O5.out, B5.out⟩
          | true =>
            rw [hrd] at hRF
            have HRF := Lib.hid hRF
            clear hRF HUN hrd
            generalize hL : rdL p = L at *
            clear hL
            by_cases hm10 : m = 10
            · have HNO := Lib.hid (HFU.out (by rw [HLN.out]; exact hm10))
              clear HFU HMO HBA HEN HST
              by_cases hend : k < s.size
              · have hidx := hidx hend
                go_wp2_with (fail)
                refine HRF.out.mono ?_
                rintro e w5 ⟨A6, c6, rfl, own6, bel6⟩
                have B05 := HB3.out.trans ((HBL.out.mono (by omega)).trans (bel6.mono (by have := HBL.out.size; omega)))
                have h05 := (bel6.block w.heap.size (by omega)).trans ((HBL.out.block w.heap.size (by omega)).trans HH0.out)
                have hc5 := cell_of_row _ _ 0 _ _ (0, 0) h05
                have hf5 := frozen_of_row _ _ 0 _ _ h05
                have hs5 := bel6.size
                obtain ⟨h5, o5, b5⟩ := seq_out2 B05 (Nat.le_refl _) (show w.heap.size < w5.heap.size by omega) h05 (OwnQ.nil w5 w5.heap.size w5.heap.size (fun _ => (none, 0)))
                have c45 := (bel6.cell (p := ⟨b, 0, none⟩) (by show b < _; omega)).trans c4
                have H5 := Lib.hid h5; have O5 := Lib.hid o5; have B5 := Lib.hid b5
                clear own6 bel6 B05 h05 h5 o5 b5
                go_wp2
                (try simp only [Exit.inBlock, Exit.then])
                refine bodyPost_ret (results_cell_row_tmp rfl _ _ w.heap.size _ _ (0, 0) _ rfl H5.out Tryd.underlying24 rfl (by kernel_rfl)) rfl ?_
                exact ⟨_, none, 0, by rw [HNO.out.1, HNO.out.2]; rfl, by rw [HNO.out.2]; exact O5.out, B5.out⟩
              · clear hidx
                go_wp2_with (fail)
                refine HRF.out.mono ?_
                rintro e w5 ⟨A6, c6, rfl, own6, bel6⟩
                have B05 := HB3.out.trans ((HBL.out.mono (by omega)).trans (bel6.mono (by have := HBL.out.size; omega)))
                have h05 := (bel6.block w.heap.size (by omega)).trans ((HBL.out.block w.heap.size (by omega)).trans HH0.out)
                have hc5 := cell_of_row _ _ 0 _ _ (0, 0) h05
                have hf5 := frozen_of_row _ _ 0 _ _ h05
                have hs5 := bel6.size
                obtain ⟨h5, o5, b5⟩ := seq_out2 B05 (Nat.le_refl _) (show w.heap.size < w5.heap.size by omega) h05 (OwnQ.nil w5 w5.heap.size w5.heap.size (fun _ => (none, 0)))
                have c45 := (bel6.cell (p := ⟨b, 0, none⟩) (by show b < _; omega)).trans c4
                have H5 := Lib.hid h5; have O5 := Lib.hid o5; have B5 := Lib.hid b5
                clear own6 bel6 B05 h05 h5 o5 b5
                go_wp2
                (try simp only [Exit.inBlock, Exit.then])
                refine bodyPost_ret (results_cell_row_tmp rfl _ _ w.heap.size _ _ (0, 0) _ rfl H5.out Tryd.underlying24 rfl (by kernel_rfl)) rfl ?_
                exact ⟨_, none, 0, by rw [HNO.out.1, HNO.out.2]; rfl, by rw [HNO.out.2]; exact O5.out, B5.out⟩
            · clear HFU
              by_cases hend : k < s.size
              · have hidx := hidx hend
                by_cases h32 : k + 1 < s.size ∧ s.data.toList[k + 1]? = some 32
                · obtain ⟨hk1, h32⟩ := h32
                  have hidx1 : ∀ w : World, (Instr.index 9 (.string s) (.int .i64 ((k : Int) + 1))).run Tryd.prog w = .ok (.int .u8 32) w := by
                    obtain ⟨c, hc, hi⟩ := byte_at hk1
                    rw [h32] at hc
                    obtain rfl : (32 : UInt8) = c := by injection hc
                    exact hi
                  have HMO := Lib.hid (HMO.out hk1 (HST.out hend))
                  clear h32
                  go_wp2_with (fail)
                  refine HRF.out.mono ?_
                  rintro e w5 ⟨A6, c6, rfl, own6, bel6⟩
                  have c45 := (bel6.cell (p := ⟨b, 0, none⟩) (by show b < _; omega)).trans c4
                  have hs5 := bel6.size
                  have b5a : Below w5.heap.size w5 (w5.alloc (.cells #[] 30)) := (Below.refl _ _).alloc (Nat.le_refl _) _
                  have c46 := (b5a.cell (p := ⟨b, 0, none⟩) (by show b < _; omega)).trans c45
                  have o5e := World.ownsRow_made (e := 30) (base := w5.heap.size) (size := 1) w5 #[] 0 (Nat.le_refl _) (by simp [maxLen]) rfl
                  have oq5 := (HO.out.below bel6).below b5a
                  have OW6 := Lib.hid own6; have BE6 := Lib.hid bel6; have O5E := Lib.hid o5e; have OQ5 := Lib.hid oq5; have B5A := Lib.hid b5a
                  have tokA : True := trivial
                  clear own6 bel6 o5e oq5 b5a
                  go_wp2_with (first
                    | (at_builtin
                       have _t := tokA
                       refine append_any rfl _ _ rfl w5.heap.size i0 HI.out HZ0.out HZ1.out HZ2.out _ rfl O5E.out OQ5.out HLN.out (by omega) rfl (by simp) ?_
                       intro v7 w7 hown7 hgrow7
                       obtain ⟨A7, c7, rfl⟩ := own_shape hown7
                       have B57 := Lib.hid (B5A.out.grown hgrow7 B5A.out.size (fun b hb => Nat.le_of_eq (blk_of hb)))
                       have hs57 := B57.out.size
                       have O8 := Lib.hid (hown7.alloc (.cells #[.slice A6 L.length c6] 30))
                       have N8 := Lib.hid (World.news_of_block (heap_alloc_new w7 (.cells #[.slice A6 L.length c6] 30)))
                       have B58 := Lib.hid (B57.out.alloc hs57 (.cells #[.slice A6 L.length c6] 30))
                       clear hown7 hgrow7 tokA)
                    | (at_builtin
                       refine wpList_append_lies _ rfl _ _ _ rfl w5.heap.size 30 i0 (.slice none 0 0) 1 24 Tryd.underlying22 HI.out HZ0.out HZ1.out HZ2.out rfl (by decide) _ _ _ rfl O8.out ⟨w7.heap.size, 0, none⟩ 1 1 [.slice A6 L.length c6] rfl rfl N8.out (by simp [Value.oneCell']) (by decide) (by simp only [maxLen]; omega) (by omega) B58.out.size _ rfl ?_
                       intro g9 cap9 w9 hown9 hgrow9 _ _
                       have B59 := Lib.hid (B58.out.grown hgrow9 B58.out.size (fun b hb => (O8.out.lt b hb).1))
                       have hIN := (HO.out.below BE6.out).insert (p := m) (q := L) (a := A6) (c' := c6) (v' := .slice (some ⟨g9, 0, none⟩) (m + 1) cap9) (by rw [HLN.out]; exact Nat.le_refl _) (by omega) (OW6.out.mono (by omega)) (fun b hb => (OW6.out.lt b hb).1) B59.out (by rw [HLN.out, List.drop_of_length_le (by rw [rowV_len, HLN.out]; exact Nat.le_refl _), List.take_of_length_le (by rw [rowV_len, HLN.out]; exact Nat.le_refl _)]; exact hown9)
                       have HIN := Lib.hid hIN
                       have B69 := Lib.hid (BE6.out.trans (B59.out.mono hs5))
                       have hb9 := (B69.out.block b (by omega)).trans HBB.out
                       have hs9 := B69.out.size
                       have c49 := cell_of_row _ _ 0 _ _ (0, 0) hb9
                       have f49 := frozen_of_row _ _ 0 _ _ hb9
                       have HB9 := Lib.hid (cell_set (u := .slice (some ⟨g9, 0, none⟩) (m + 1) cap9) hb9)
                       have HOQ := Lib.hid (HIN.out.setBelow (p := ⟨b, 0, none⟩) (by show b < _; omega) (.slice (some ⟨g9, 0, none⟩) (m + 1) cap9))
                       have HBW := Lib.hid ((HBL.out.trans (B69.out.mono (by omega))).setCell (p := ⟨b, 0, none⟩) (Nat.le_refl _) (.slice (some ⟨g9, 0, none⟩) (m + 1) cap9))
                       have h09 := (B69.out.block w.heap.size (by omega)).trans ((HBL.out.block w.heap.size (by omega)).trans HH0.out)
                       have c09 := cell_of_row _ _ 0 _ _ (0, 0) h09
                       have f09 := frozen_of_row _ _ 0 _ _ h09
                       have hn1 : ¬ w.heap.size = b := by omega
                       have hn2 : ¬ b = w.heap.size := by omega
                       clear hown9 hgrow9 hIN hb9 h09))
                  have hLL : insAt cur m L = cur ++ [L] := by
                    unfold insAt
                    rw [List.take_of_length_le (by rw [HLN.out]; exact Nat.le_refl _), List.drop_of_length_le (by rw [HLN.out]; exact Nat.le_refl _)]
                  rw [hLL] at HOQ
                  have HOQ2 := Lib.hid (HOQ.out.more (lo' := w3.heap.size) (hi' := (w9.setCell ⟨b, 0, none⟩ (.slice (some ⟨g9, 0, none⟩) (m + 1) cap9)).heap.size) (Nat.le_refl _) (by simp))
                  clear hLL HOQ HIN
                  go_roundw
                  case rel => exact ⟨k + 2, k + 2, m + 1, by go_num, by go_num, fun _ => Nat.le_refl _, by omega, by omega, by omega, cur ++ [L], _, _, _, by rw [List.length_append, HLN.out]; rfl, HMO.out, HB9.out, HOQ2.out, HBW.out⟩
                  case measure => simp [intOf]; omega
                · have HNO := Lib.hid (HBA.out hend (HST.out hend) (fun h => h32 ⟨by obtain ⟨h1, _⟩ := List.getElem?_eq_some_iff.1 h; simpa using h1, h⟩))
                  by_cases hk1 : k + 1 < s.size
                  · obtain ⟨c, hc, hidx1'⟩ := byte_at hk1
                    have hidx1 : ∀ w : World, (Instr.index 9 (.string s) (.int .i64 ((k : Int) + 1))).run Tryd.prog w = .ok (.int .u8 (c.toNat : Int)) w := hidx1'
                    have hx : ((c.toNat : Int) == 32) = false := by
                      rw [beq_eq_false_iff_ne]
                      intro e
                      apply h32
                      refine ⟨hk1, ?_⟩
                      rw [hc]
                      congr 1
                      apply UInt8.toNat_inj.1
                      have : (32 : UInt8).toNat = 32 := rfl
                      omega
                    clear hc h32 hidx1'
                    generalize (c.toNat : Int) = z at *
                    go_wp2_with (fail)
                    refine HRF.out.mono ?_
                    rintro e w5 ⟨A6, c6, rfl, own6, bel6⟩
                    have c45 := (bel6.cell (p := ⟨b, 0, none⟩) (by show b < _; omega)).trans c4
                    have hs5 := bel6.size
                    have b5a : Below w5.heap.size w5 (w5.alloc (.cells #[] 30)) := (Below.refl _ _).alloc (Nat.le_refl _) _
                    have c46 := (b5a.cell (p := ⟨b, 0, none⟩) (by show b < _; omega)).trans c45
                    have o5e := World.ownsRow_made (e := 30) (base := w5.heap.size) (size := 1) w5 #[] 0 (Nat.le_refl _) (by simp [maxLen]) rfl
                    have oq5 := (HO.out.below bel6).below b5a
                    have OW6 := Lib.hid own6; have BE6 := Lib.hid bel6; have O5E := Lib.hid o5e; have OQ5 := Lib.hid oq5; have B5A := Lib.hid b5a
                    have tokA : True := trivial
                    clear own6 bel6 o5e oq5 b5a
                    go_wp2_with (first
                      | (at_builtin
                         have _t := tokA
                         refine append_any rfl _ _ rfl w5.heap.size i0 HI.out HZ0.out HZ1.out HZ2.out _ rfl O5E.out OQ5.out HLN.out (by omega) rfl (by simp) ?_
                         intro v7 w7 hown7 hgrow7
                         obtain ⟨A7, c7, rfl⟩ := own_shape hown7
                         have B57 := Lib.hid (B5A.out.grown hgrow7 B5A.out.size (fun b hb => Nat.le_of_eq (blk_of hb)))
                         have hs57 := B57.out.size
                         have O8 := Lib.hid (hown7.alloc (.cells #[.slice A6 L.length c6] 30))
                         have N8 := Lib.hid (World.news_of_block (heap_alloc_new w7 (.cells #[.slice A6 L.length c6] 30)))
                         have B58 := Lib.hid (B57.out.alloc hs57 (.cells #[.slice A6 L.length c6] 30))
                         clear hown7 hgrow7 tokA)
                      | (at_builtin
                         refine wpList_append_lies _ rfl _ _ _ rfl w5.heap.size 30 i0 (.slice none 0 0) 1 24 Tryd.underlying22 HI.out HZ0.out HZ1.out HZ2.out rfl (by decide) _ _ _ rfl O8.out ⟨w7.heap.size, 0, none⟩ 1 1 [.slice A6 L.length c6] rfl rfl N8.out (by simp [Value.oneCell']) (by decide) (by simp only [maxLen]; omega) (by omega) B58.out.size _ rfl ?_
                         intro g9 cap9 w9 hown9 hgrow9 _ _
                         have B59 := Lib.hid (B58.out.grown hgrow9 B58.out.size (fun b hb => (O8.out.lt b hb).1))
                         have hIN := (HO.out.below BE6.out).insert (p := m) (q := L) (a := A6) (c' := c6) (v' := .slice (some ⟨g9, 0, none⟩) (m + 1) cap9) (by rw [HLN.out]; exact Nat.le_refl _) (by omega) (OW6.out.mono (by omega)) (fun b hb => (OW6.out.lt b hb).1) B59.out (by rw [HLN.out, List.drop_of_length_le (by rw [rowV_len, HLN.out]; exact Nat.le_refl _), List.take_of_length_le (by rw [rowV_len, HLN.out]; exact Nat.le_refl _)]; exact hown9)
                         have HIN := Lib.hid hIN
                         have B69 := Lib.hid (BE6.out.trans (B59.out.mono hs5))
                         have hb9 := (B69.out.block b (by omega)).trans HBB.out
                         have hs9 := B69.out.size
                         have c49 := cell_of_row _ _ 0 _ _ (0, 0) hb9
                         have f49 := frozen_of_row _ _ 0 _ _ hb9
                         have HB9 := Lib.hid (cell_set (u := .slice (some ⟨g9, 0, none⟩) (m + 1) cap9) hb9)
                         have HOQ := Lib.hid (HIN.out.setBelow (p := ⟨b, 0, none⟩) (by show b < _; omega) (.slice (some ⟨g9, 0, none⟩) (m + 1) cap9))
                         have HBW := Lib.hid ((HBL.out.trans (B69.out.mono (by omega))).setCell (p := ⟨b, 0, none⟩) (Nat.le_refl _) (.slice (some ⟨g9, 0, none⟩) (m + 1) cap9))
                         have h09 := (B69.out.block w.heap.size (by omega)).trans ((HBL.out.block w.heap.size (by omega)).trans HH0.out)
                         have c09 := cell_of_row _ _ 0 _ _ (0, 0) h09
                         have f09 := frozen_of_row _ _ 0 _ _ h09
                         have hn1 : ¬ w.heap.size = b := by omega
                         have hn2 : ¬ b = w.heap.size := by omega
                         clear hown9 hgrow9 hIN hb9 h09))
                    have h05 := (HBW.out.block w.heap.size (by omega)).trans HH0.out
                    have hc5 := cell_of_row _ _ 0 _ _ (0, 0) h05
                    have hf5 := frozen_of_row _ _ 0 _ _ h05
                    have hsz9 : (w9.setCell ⟨b, 0, none⟩ (.slice (some ⟨g9, 0, none⟩) (m + 1) cap9)).heap.size = w9.heap.size := by simp
                    obtain ⟨h5, o5, b5⟩ := seq_out2 (HB3.out.trans (HBW.out.mono (by omega))) (Nat.le_refl _) (show w.heap.size < w9.heap.size by omega) h05 (OwnQ.nil _ w9.heap.size _ (fun _ => (none, 0)))
                    have H5 := Lib.hid h5; have O5 := Lib.hid o5; have B5 := Lib.hid b5
                    clear h05 h5 o5 b5 hsz9
                    go_wp2
                    (try simp only [Exit.inBlock, Exit.then])
                    refine bodyPost_ret (results_cell_row_tmp rfl _ _ w.heap.size _ _ (0, 0) _ rfl H5.out Tryd.underlying24 rfl (by kernel_rfl)) rfl ?_
                    exact ⟨_, none, 0, by rw [HNO.out.1, HNO.out.2]; rfl, by rw [HNO.out.2]; exact O5.out, B5.out⟩
                  · clear h32
                    go_wp2_with (fail)
                    refine HRF.out.mono ?_
                    rintro e w5 ⟨A6, c6, rfl, own6, bel6⟩
                    have c45 := (bel6.cell (p := ⟨b, 0, none⟩) (by show b < _; omega)).trans c4
                    have hs5 := bel6.size
                    have b5a : Below w5.heap.size w5 (w5.alloc (.cells #[] 30)) := (Below.refl _ _).alloc (Nat.le_refl _) _
                    have c46 := (b5a.cell (p := ⟨b, 0, none⟩) (by show b < _; omega)).trans c45
                    have o5e := World.ownsRow_made (e := 30) (base := w5.heap.size) (size := 1) w5 #[] 0 (Nat.le_refl _) (by simp [maxLen]) rfl
                    have oq5 := (HO.out.below bel6).below b5a
                    have OW6 := Lib.hid own6; have BE6 := Lib.hid bel6; have O5E := Lib.hid o5e; have OQ5 := Lib.hid oq5; have B5A := Lib.hid b5a
                    have tokA : True := trivial
                    clear own6 bel6 o5e oq5 b5a
                    go_wp2_with (first
                      | (at_builtin
                         have _t := tokA
                         refine append_any rfl _ _ rfl w5.heap.size i0 HI.out HZ0.out HZ1.out HZ2.out _ rfl O5E.out OQ5.out HLN.out (by omega) rfl (by simp) ?_
                         intro v7 w7 hown7 hgrow7
                         obtain ⟨A7, c7, rfl⟩ := own_shape hown7
                         have B57 := Lib.hid (B5A.out.grown hgrow7 B5A.out.size (fun b hb => Nat.le_of_eq (blk_of hb)))
                         have hs57 := B57.out.size
                         have O8 := Lib.hid (hown7.alloc (.cells #[.slice A6 L.length c6] 30))
                         have N8 := Lib.hid (World.news_of_block (heap_alloc_new w7 (.cells #[.slice A6 L.length c6] 30)))
                         have B58 := Lib.hid (B57.out.alloc hs57 (.cells #[.slice A6 L.length c6] 30))
                         clear hown7 hgrow7 tokA)
                      | (at_builtin
                         refine wpList_append_lies _ rfl _ _ _ rfl w5.heap.size 30 i0 (.slice none 0 0) 1 24 Tryd.underlying22 HI.out HZ0.out HZ1.out HZ2.out rfl (by decide) _ _ _ rfl O8.out ⟨w7.heap.size, 0, none⟩ 1 1 [.slice A6 L.length c6] rfl rfl N8.out (by simp [Value.oneCell']) (by decide) (by simp only [maxLen]; omega) (by omega) B58.out.size _ rfl ?_
                         intro g9 cap9 w9 hown9 hgrow9 _ _
                         have B59 := Lib.hid (B58.out.grown hgrow9 B58.out.size (fun b hb => (O8.out.lt b hb).1))
                         have hIN := (HO.out.below BE6.out).insert (p := m) (q := L) (a := A6) (c' := c6) (v' := .slice (some ⟨g9, 0, none⟩) (m + 1) cap9) (by rw [HLN.out]; exact Nat.le_refl _) (by omega) (OW6.out.mono (by omega)) (fun b hb => (OW6.out.lt b hb).1) B59.out (by rw [HLN.out, List.drop_of_length_le (by rw [rowV_len, HLN.out]; exact Nat.le_refl _), List.take_of_length_le (by rw [rowV_len, HLN.out]; exact Nat.le_refl _)]; exact hown9)
                         have HIN := Lib.hid hIN
                         have B69 := Lib.hid (BE6.out.trans (B59.out.mono hs5))
                         have hb9 := (B69.out.block b (by omega)).trans HBB.out
                         have hs9 := B69.out.size
                         have c49 := cell_of_row _ _ 0 _ _ (0, 0) hb9
                         have f49 := frozen_of_row _ _ 0 _ _ hb9
                         have HB9 := Lib.hid (cell_set (u := .slice (some ⟨g9, 0, none⟩) (m + 1) cap9) hb9)
                         have HOQ := Lib.hid (HIN.out.setBelow (p := ⟨b, 0, none⟩) (by show b < _; omega) (.slice (some ⟨g9, 0, none⟩) (m + 1) cap9))
                         have HBW := Lib.hid ((HBL.out.trans (B69.out.mono (by omega))).setCell (p := ⟨b, 0, none⟩) (Nat.le_refl _) (.slice (some ⟨g9, 0, none⟩) (m + 1) cap9))
                         have h09 := (B69.out.block w.heap.size (by omega)).trans ((HBL.out.block w.heap.size (by omega)).trans HH0.out)
                         have c09 := cell_of_row _ _ 0 _ _ (0, 0) h09
                         have f09 := frozen_of_row _ _ 0 _ _ h09
                         have hn1 : ¬ w.heap.size = b := by omega
                         have hn2 : ¬ b = w.heap.size := by omega
                         clear hown9 hgrow9 hIN hb9 h09))
                    have h05 := (HBW.out.block w.heap.size (by omega)).trans HH0.out
                    have hc5 := cell_of_row _ _ 0 _ _ (0, 0) h05
                    have hf5 := frozen_of_row _ _ 0 _ _ h05
                    have hsz9 : (w9.setCell ⟨b, 0, none⟩ (.slice (some ⟨g9, 0, none⟩) (m + 1) cap9)).heap.size = w9.heap.size := by simp
                    obtain ⟨h5, o5, b5⟩ := seq_out2 (HB3.out.trans (HBW.out.mono (by omega))) (Nat.le_refl _) (show w.heap.size < w9.heap.size by omega) h05 (OwnQ.nil _ w9.heap.size _ (fun _ => (none, 0)))
                    have H5 := Lib.hid h5; have O5 := Lib.hid o5; have B5 := Lib.hid b5
                    clear h05 h5 o5 b5 hsz9
                    go_wp2
                    (try simp only [Exit.inBlock, Exit.then])
                    refine bodyPost_ret (results_cell_row_tmp rfl _ _ w.heap.size _ _ (0, 0) _ rfl H5.out Tryd.underlying24 rfl (by kernel_rfl)) rfl ?_
                    exact ⟨_, none, 0, by rw [HNO.out.1, HNO.out.2]; rfl, by rw [HNO.out.2]; exact O5.out, B5.out⟩
              · clear hidx
                have HEN2 := Lib.hid (HEN.out (by omega))
                have HKS : Hid (k = s.size) := Lib.hid (by omega)
                go_wp2_with (fail)
                refine HRF.out.mono ?_
                rintro e w5 ⟨A6, c6, rfl, own6, bel6⟩
                have c45 := (bel6.cell (p := ⟨b, 0, none⟩) (by show b < _; omega)).trans c4
                have hs5 := bel6.size
                have b5a : Below w5.heap.size w5 (w5.alloc (.cells #[] 30)) := (Below.refl _ _).alloc (Nat.le_refl _) _
                have c46 := (b5a.cell (p := ⟨b, 0, none⟩) (by show b < _; omega)).trans c45
                have o5e := World.ownsRow_made (e := 30) (base := w5.heap.size) (size := 1) w5 #[] 0 (Nat.le_refl _) (by simp [maxLen]) rfl
                have oq5 := (HO.out.below bel6).below b5a
                have OW6 := Lib.hid own6; have BE6 := Lib.hid bel6; have O5E := Lib.hid o5e; have OQ5 := Lib.hid oq5; have B5A := Lib.hid b5a
                have tokA : True := trivial
                clear own6 bel6 o5e oq5 b5a
                go_wp2_with (first
                  | (at_builtin
                     have _t := tokA
                     refine append_any rfl _ _ rfl w5.heap.size i0 HI.out HZ0.out HZ1.out HZ2.out _ rfl O5E.out OQ5.out HLN.out (by omega) rfl (by simp) ?_
                     intro v7 w7 hown7 hgrow7
                     obtain ⟨A7, c7, rfl⟩ := own_shape hown7
                     have B57 := Lib.hid (B5A.out.grown hgrow7 B5A.out.size (fun b hb => Nat.le_of_eq (blk_of hb)))
                     have hs57 := B57.out.size
                     have O8 := Lib.hid (hown7.alloc (.cells #[.slice A6 L.length c6] 30))
                     have N8 := Lib.hid (World.news_of_block (heap_alloc_new w7 (.cells #[.slice A6 L.length c6] 30)))
                     have B58 := Lib.hid (B57.out.alloc hs57 (.cells #[.slice A6 L.length c6] 30))
                     clear hown7 hgrow7 tokA)
                  | (at_builtin
                     refine wpList_append_lies _ rfl _ _ _ rfl w5.heap.size 30 i0 (.slice none 0 0) 1 24 Tryd.underlying22 HI.out HZ0.out HZ1.out HZ2.out rfl (by decide) _ _ _ rfl O8.out ⟨w7.heap.size, 0, none⟩ 1 1 [.slice A6 L.length c6] rfl rfl N8.out (by simp [Value.oneCell']) (by decide) (by simp only [maxLen]; omega) (by omega) B58.out.size _ rfl ?_
                     intro g9 cap9 w9 hown9 hgrow9 _ _
                     have B59 := Lib.hid (B58.out.grown hgrow9 B58.out.size (fun b hb => (O8.out.lt b hb).1))
                     have hIN := (HO.out.below BE6.out).insert (p := m) (q := L) (a := A6) (c' := c6) (v' := .slice (some ⟨g9, 0, none⟩) (m + 1) cap9) (by rw [HLN.out]; exact Nat.le_refl _) (by omega) (OW6.out.mono (by omega)) (fun b hb => (OW6.out.lt b hb).1) B59.out (by rw [HLN.out, List.drop_of_length_le (by rw [rowV_len, HLN.out]; exact Nat.le_refl _), List.take_of_length_le (by rw [rowV_len, HLN.out]; exact Nat.le_refl _)]; exact hown9)
                     have HIN := Lib.hid hIN
                     have B69 := Lib.hid (BE6.out.trans (B59.out.mono hs5))
                     have hb9 := (B69.out.block b (by omega)).trans HBB.out
                     have hs9 := B69.out.size
                     have c49 := cell_of_row _ _ 0 _ _ (0, 0) hb9
                     have f49 := frozen_of_row _ _ 0 _ _ hb9
                     have HB9 := Lib.hid (cell_set (u := .slice (some ⟨g9, 0, none⟩) (m + 1) cap9) hb9)
                     have HOQ := Lib.hid (HIN.out.setBelow (p := ⟨b, 0, none⟩) (by show b < _; omega) (.slice (some ⟨g9, 0, none⟩) (m + 1) cap9))
                     have HBW := Lib.hid ((HBL.out.trans (B69.out.mono (by omega))).setCell (p := ⟨b, 0, none⟩) (Nat.le_refl _) (.slice (some ⟨g9, 0, none⟩) (m + 1) cap9))
                     have h09 := (B69.out.block w.heap.size (by omega)).trans ((HBL.out.block w.heap.size (by omega)).trans HH0.out)
                     have c09 := cell_of_row _ _ 0 _ _ (0, 0) h09
                     have f09 := frozen_of_row _ _ 0 _ _ h09
                     have hn1 : ¬ w.heap.size = b := by omega
                     have hn2 : ¬ b = w.heap.size := by omega
                     clear hown9 hgrow9 hIN hb9 h09))
                have hLL : insAt cur m L = cur ++ [L] := by
                  unfold insAt
                  rw [List.take_of_length_le (by rw [HLN.out]; exact Nat.le_refl _), List.drop_of_length_le (by rw [HLN.out]; exact Nat.le_refl _)]
                rw [hLL] at HOQ
                have HOQ2 := Lib.hid (HOQ.out.more (lo' := w3.heap.size) (hi' := (w9.setCell ⟨b, 0, none⟩ (.slice (some ⟨g9, 0, none⟩) (m + 1) cap9)).heap.size) (Nat.le_refl _) (by simp))
                clear hLL HOQ HIN
                go_roundw
                case rel => exact ⟨k + 2, k + 1, m + 1, by go_num, by go_num, fun h => by omega, by omega, by omega, by omega, cur ++ [L], _, _, _, by rw [List.length_append, HLN.out]; rfl, by rw [HKS.out]; exact HEN2.out, HB9.out, HOQ2.out, HBW.out⟩
                case measure => simp [intOf]; omega
      · have hkE : ¬ (k : Int) ≤ (s.size : Int) := by omega
        have hszb : w3.heap.size = b + 1 := by have := HSZ.out; omega
        have hrd := HO.out.rd HLN.out
        have hV := sValidSeq_any A2 m c2 cur wr hrd (by omega) (by have h := HO.out.outer; rw [HLN.out] at h; exact own_cap1 h)
        cases hvq : validQ cur with
        | false =>
          rw [hvq] at hV
          have HV := Lib.hid hV
          have HNO := Lib.hid (seqAt_no h0 HAT.out (by omega) (.inl hvq))
          clear hV hrd
          clear HAT
          go_wp2_with (fail)
          refine HV.out.mono ?_
          rintro e w5 ⟨rfl, bel6⟩
          have own6 := True.intro
          have B05 := HB3.out.trans ((HBL.out.mono (by omega)).trans (bel6.mono (by have := HBL.out.size; omega)))
          have h05 := (bel6.block w.heap.size (by omega)).trans ((HBL.out.block w.heap.size (by omega)).trans HH0.out)
          have hc5 := cell_of_row _ _ 0 _ _ (0, 0) h05
          have hf5 := frozen_of_row _ _ 0 _ _ h05
          have hs5 := bel6.size
          obtain ⟨h5, o5, b5⟩ := seq_out2 B05 (Nat.le_refl _) (show w.heap.size < w5.heap.size by omega) h05 (OwnQ.nil w5 w5.heap.size w5.heap.size (fun _ => (none, 0)))
          have c45 := (bel6.cell (p := ⟨b, 0, none⟩) (by show b < _; omega)).trans c4
          have H5 := Lib.hid h5; have O5 := Lib.hid o5; have B5 := Lib.hid b5
          clear own6 bel6 B05 h05 h5 o5 b5
          go_wp2
          (try simp only [Exit.inBlock, Exit.then])
          refine bodyPost_ret (results_cell_row_tmp rfl _ _ w.heap.size _ _ (0, 0) _ rfl H5.out Tryd.underlying24 rfl (by kernel_rfl)) rfl ?_
          exact ⟨_, none, 0, by rw [HNO.out.1, HNO.out.2]; rfl, by rw [HNO.out.2]; exact O5.out, B5.out⟩
        | true =>
          rw [hvq] at hV
          have HV := Lib.hid hV
          have HVQ := Lib.hid hvq
          clear hV hrd hvq
          go_wp2_with (fail)
          refine HV.out.mono ?_
          rintro e w5 ⟨rfl, bel5⟩
          have hs5 := bel5.size
          have c45 := (bel5.cell (p := ⟨b, 0, none⟩) (by show b < _; omega)).trans c4
          have hO5 := (HO.out.below bel5).more (Nat.le_refl _) hs5
          have hT := sSeqText_any A2 m c2 cur w5 (hO5.rd HLN.out) (by omega) (by have h := HO.out.outer; rw [HLN.out] at h; exact own_cap1 h)
          have HO5 := Lib.hid hO5; have HT := Lib.hid hT; have BE5 := Lib.hid bel5
          clear bel5 hO5 hT
          cases heq : ((seqT cur).toList == s.toList) with
          | false =>
            have HNO := Lib.hid (seqAt_no h0 HAT.out (by omega) (.inr (fun e => by rw [e] at heq; simp at heq)))
            clear HAT
            go_wp2_with (fail)
            refine HT.out.mono ?_
            rintro e w6 ⟨rfl, bel6⟩
            have c46 := (bel6.cell (p := ⟨b, 0, none⟩) (by show b < _; omega)).trans c45
            have hs6 := bel6.size
            have B06 := HB3.out.trans ((HBL.out.mono (by omega)).trans ((BE5.out.mono (by omega)).trans (bel6.mono (by omega))))
            have h06 := (bel6.block w.heap.size (by omega)).trans ((BE5.out.block w.heap.size (by omega)).trans ((HBL.out.block w.heap.size (by omega)).trans HH0.out))
            have hc6 := cell_of_row _ _ 0 _ _ (0, 0) h06
            have hf6 := frozen_of_row _ _ 0 _ _ h06
            obtain ⟨h5, o5, b5⟩ := seq_out2 B06 (Nat.le_refl _) (show w.heap.size < w6.heap.size by omega) h06 (OwnQ.nil w6 w6.heap.size w6.heap.size (fun _ => (none, 0)))
            have H5 := Lib.hid h5; have O5 := Lib.hid o5; have B5 := Lib.hid b5
            clear bel6 B06 h06 h5 o5 b5
            go_wp2
            (try simp only [Exit.inBlock, Exit.then])
            refine bodyPost_ret (results_cell_row_tmp rfl _ _ w.heap.size _ _ (0, 0) _ rfl H5.out Tryd.underlying24 rfl (by kernel_rfl)) rfl ?_
            exact ⟨_, none, 0, by rw [HNO.out.1, HNO.out.2]; rfl, by rw [HNO.out.2]; exact O5.out, B5.out⟩
          | true =>
            have HYES := Lib.hid (seqAt_yes (s := s) HVQ.out (ba_ext (by have h := eq_of_beq heq; rwa [ByteArray.toList_eq, ByteArray.toList_eq] at h)))
            clear HAT
            go_wp2_with (fail)
            refine HT.out.mono ?_
            rintro e w6 ⟨rfl, bel6⟩
            have c46 := (bel6.cell (p := ⟨b, 0, none⟩) (by show b < _; omega)).trans c45
            have hs6 := bel6.size
            have B06 := HB3.out.trans ((HBL.out.mono (by omega)).trans ((BE5.out.mono (by omega)).trans (bel6.mono (by omega))))
            have h06 := (bel6.block w.heap.size (by omega)).trans ((BE5.out.block w.heap.size (by omega)).trans ((HBL.out.block w.heap.size (by omega)).trans HH0.out))
            have hc6 := cell_of_row _ _ 0 _ _ (0, 0) h06
            have hf6 := frozen_of_row _ _ 0 _ _ h06
            obtain ⟨h5, o5, b5⟩ := seq_out2 B06 (Nat.le_refl _) (show w.heap.size < w3.heap.size by omega) h06 ((HO5.out.below bel6).more (Nat.le_refl _) hs6)
            have H5 := Lib.hid h5; have O5 := Lib.hid o5; have B5 := Lib.hid b5
            clear bel6 B06 h06 h5 o5 b5
            go_wp2
            (try simp only [Exit.inBlock, Exit.then])
            refine bodyPost_ret (results_cell_row_tmp rfl _ _ w.heap.size _ _ (0, 0) _ rfl H5.out Tryd.underlying24 rfl (by kernel_rfl)) rfl ?_
            exact ⟨_, A2, c2, by rw [HYES.out.1, HYES.out.2, HLN.out]; rfl, by rw [HYES.out.2, HLN.out]; exact O5.out, B5.out⟩
end Go.Proofs.YtjhagklpnpabeaaDoor
