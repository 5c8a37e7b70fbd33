/- Proved: for all arguments the law that SortedSeq answers as its model, leaves its argument and shares no memory answers true and leaves its arguments as they were (FnExactSortedSeq). Conditions: the row's own: the listed tables read as the program's text lays them, which the card ties to that text. -/
import Derived.Test.YtdgejhlpncnenaaDoorFrame
import Derived.Test.YtdgejhlpncnenaaDoorFrameQ
import Derived.Test.YtdgejhlpncnenaaDoorSrtK
import Derived.Test.YtdgejhlpncnenaaDoorSrtS
namespace Go.Proofs.YtdgejhlpncnenaaDoor.fnExactSortedSeq
open Go.ChangeShapes Go.WideShapes Go.ChangeAt Go.RowKit

theorem walk_big0 (A0 : Option Addr) (n0 c0 : Nat) (q0 : List (List Int)) (w : World) (h0 : RdQ w w.heap.size A0 n0 q0) (hm0 : n0 ≤ maxLen) (hq0 : ∀ q ∈ q0, q.length ≤ maxLen)  (hb : szR 1048576 (n0 + total q0) = -1) :
    Calls Tryd.prog 5 #[.agg #[.slice A0 n0 c0]] w fun e w' => e = .returned (.bool true) ∧ Below w.heap.size w w' := by
  obtain ⟨w0, hw0⟩ : ∃ w0, w0 = w.alloc (.cells #[Value.slice A0 n0 c0] 42) := ⟨_, rfl⟩
  have B0 : Below w.heap.size w w0 := by rw [hw0]; exact box_below _ _ _
  have ca0_0 : w0.cell? ⟨w.heap.size, 0, none⟩ = some (.slice A0 n0 c0) := by rw [hw0]; simp
  have s0 : w.heap.size + 1 ≤ w0.heap.size := by rw [hw0]; simp
  have HS0 := Lib.hid (fun w0 B => szSeq_any A0 n0 c0 q0 (1048576) w0 ((h0.below B).more (Below.size B)) hq0 hm0 (by decide) (by decide))
  rw [hb] at HS0
  clear hb h0
  go_enter Tryd.func5, Tryd.ntmps5
  go_wp2_with (fail)
  rw [← hw0]
  clear hw0
  refine (HS0.out w0 B0).mono ?_
  rintro e w1 ⟨rfl, bel1⟩
  have B1 := B0.trans (bel1.mono B0.size)
  have s1 := bel1.size
  have ca0_1 := (bel1.cell (p := ⟨w.heap.size, 0, none⟩) (by show w.heap.size < _; omega)).trans ca0_0
  clear bel1 ca0_0
  have HB := Lib.hid B1
  clear B0 B1
  go_wp2
  go_ret
  exact ⟨rfl, HB.out⟩

set_option maxRecDepth 100000 in
set_option maxHeartbeats 8000000 in
theorem walk_mid (A0 : Option Addr) (n0 c0 : Nat) (q0 : List (List Int)) (L0 : Int) (w : World) (h0 : RdQ w w.heap.size A0 n0 q0) (hs0 : szR 1048576 (n0 + total q0) = L0) (hL0 : 0 ≤ L0) (hL'0 : L0 ≤ 1048576) (hn0 : n0 ≤ 1048576) (hT0 : total q0 ≤ 1048576) (ht : Arit w) :
    Calls Tryd.prog 5 #[.agg #[.slice A0 n0 c0]] w fun e w' => e = .returned (.bool true) ∧ Below w.heap.size w w' := by
  have hq0 : ∀ q ∈ q0, q.length ≤ 1048576 := fun q hq' => Nat.le_trans (mem_total hq') hT0
  have hqm0 : ∀ q ∈ q0, q.length ≤ maxLen := fun q hq' => Nat.le_trans (hq0 q hq') (by decide)
  have hm0 : n0 ≤ maxLen := Nat.le_trans hn0 (by decide)
  have hl0 := h0.len
  obtain ⟨hv1, hv2⟩ : (srtQ q0).length ≤ 1048576 ∧ total (srtQ q0) ≤ 1048576 := srtQ_small q0
  generalize hV : srtQ q0 = V at hv1 hv2
  have HV := Lib.hid hV; clear hV
  have hv3 : ∀ q ∈ V, q.length ≤ 1048576 := fun q hq' => Nat.le_trans (mem_total hq') hv2
  obtain ⟨w0, hw0⟩ : ∃ w0, w0 = w.alloc (.cells #[Value.slice A0 n0 c0] 42) := ⟨_, rfl⟩
  have B0 : Below w.heap.size w w0 := by rw [hw0]; exact box_below _ _ _
  have ca0_0 : w0.cell? ⟨w.heap.size, 0, none⟩ = some (.slice A0 n0 c0) := by rw [hw0]; simp
  have s0 : w.heap.size + 1 ≤ w0.heap.size := by rw [hw0]; simp
  have HS0 := Lib.hid (fun w0 B => szSeq_any A0 n0 c0 q0 (1048576) w0 ((h0.below B).more (Below.size B)) hqm0 hm0 (by decide) (by decide))
  rw [hs0] at HS0
  have hd0 : decide (L0 < 0) = false := decide_eq_false (by omega)
  have HQ0 := Lib.hid hq0; have H0 := Lib.hid h0
  have HT := Lib.hid ht
  have HV3 := Lib.hid hv3
  clear hs0 hq0 hqm0 h0 ht hv3
  go_enter Tryd.func5, Tryd.ntmps5
  go_wp2_with (fail)
  rw [← hw0]
  clear hw0
  refine (HS0.out w0 B0).mono ?_
  rintro e w1 ⟨rfl, bel1⟩
  have s1 := bel1.size
  have B1 := B0.trans (bel1.mono B0.size)
  have ca0_1 := (bel1.cell (p := ⟨w.heap.size, 0, none⟩) (by show w.heap.size < _; omega)).trans ca0_0
  clear bel1
  clear ca0_0 B0
  generalize w0.heap.size = m0 at *
  go_wp2_with (fail)
  refine (toSeq_any A0 n0 c0 q0 w1 ((H0.out.below B1).more B1.size) HQ0.out hn0).mono ?_
  rintro e w2 ⟨hs_p0, A_p0, rfl, own2, bel2⟩
  have o_p0_2 := Lib.hid own2
  clear own2
  have s2 := bel2.size
  have B2 := B1.trans (bel2.mono B1.size)
  have ca0_2 := (bel2.cell (p := ⟨w.heap.size, 0, none⟩) (by show w.heap.size < _; omega)).trans ca0_1
  clear bel2
  clear ca0_1 B1
  generalize w1.heap.size = m1 at *
  go_wp2_with (fail)
  refine (sSortedSeq_any A_p0 n0 n0 q0 w2 (o_p0_2.out.rd hl0) hn0 (Nat.le_refl _)).mono ?_
  rw [HV.out]
  rintro e w3 ⟨hs_v, A_v, cc_v, rfl, own3, bel3⟩
  have o_v_3 := Lib.hid own3
  clear own3
  have s3 := bel3.size
  have B3 := B2.trans (bel3.mono B2.size)
  have ca0_3 := (bel3.cell (p := ⟨w.heap.size, 0, none⟩) (by show w.heap.size < _; omega)).trans ca0_2
  have o_p0_3 := Lib.hid (o_p0_2.out.below bel3)
  clear bel3
  clear ca0_2 o_p0_2 B2
  generalize w2.heap.size = m2 at *
  clear o_p0_3
  have bel4 : Below w3.heap.size w3 (w3.alloc (.cells #[Value.slice A_v V.length cc_v] 34)) := box_below _ _ _
  have cv_4 : (w3.alloc (.cells #[Value.slice A_v V.length cc_v] 34)).cell? ⟨w3.heap.size, 0, none⟩ = some (Value.slice A_v V.length cc_v) := by simp
  have t4 : w3.heap.size + 1 ≤ (w3.alloc (.cells #[Value.slice A_v V.length cc_v] 34)).heap.size := by simp
  have ca0_4 := (bel4.cell (p := ⟨w.heap.size, 0, none⟩) (by show w.heap.size < _; omega)).trans ca0_3
  clear ca0_3
  go_wp2_with (fail)
  generalize w3.alloc (.cells #[Value.slice A_v V.length cc_v] 34) = w4 at *
  have s4 := bel4.size
  have B4 := B3.trans (bel4.mono B3.size)
  have o_v_4 := Lib.hid (o_v_3.out.below bel4)
  clear bel4
  clear o_v_3 B3
  generalize w3.heap.size = m3 at *
  refine (toSeq_any A0 n0 c0 q0 w4 ((H0.out.below B4).more B4.size) HQ0.out hn0).mono ?_
  rintro e w5 ⟨hs_x0, A_x0, rfl, own5, bel5⟩
  have o_x0_5 := Lib.hid own5
  clear own5
  have s5 := bel5.size
  have B5 := B4.trans (bel5.mono B4.size)
  have ca0_5 := (bel5.cell (p := ⟨w.heap.size, 0, none⟩) (by show w.heap.size < _; omega)).trans ca0_4
  have cv_5 := (bel5.cell (p := ⟨m3, 0, none⟩) (by show m3 < _; omega)).trans cv_4
  have o_v_5 := Lib.hid (o_v_4.out.below bel5)
  clear bel5
  clear ca0_4 cv_4 o_v_4 B4
  generalize w4.heap.size = m4 at *
  have bel6 : Below w5.heap.size w5 (w5.alloc (.cells #[Value.slice A_x0 n0 n0] 34)) := box_below _ _ _
  have cx0_6 : (w5.alloc (.cells #[Value.slice A_x0 n0 n0] 34)).cell? ⟨w5.heap.size, 0, none⟩ = some (Value.slice A_x0 n0 n0) := by simp
  have t6 : w5.heap.size + 1 ≤ (w5.alloc (.cells #[Value.slice A_x0 n0 n0] 34)).heap.size := by simp
  have ca0_6 := (bel6.cell (p := ⟨w.heap.size, 0, none⟩) (by show w.heap.size < _; omega)).trans ca0_5
  have cv_6 := (bel6.cell (p := ⟨m3, 0, none⟩) (by show m3 < _; omega)).trans cv_5
  clear ca0_5 cv_5
  go_wp2_with (fail)
  generalize w5.alloc (.cells #[Value.slice A_x0 n0 n0] 34) = w6 at *
  have s6 := bel6.size
  have B6 := B5.trans (bel6.mono B5.size)
  have o_v_6 := Lib.hid (o_v_5.out.below bel6)
  have o_x0_6 := Lib.hid (o_x0_5.out.below bel6)
  clear bel6
  clear o_v_5 o_x0_5 B5
  generalize w5.heap.size = m5 at *
  refine (sortedSeq_impl A_x0 n0 n0 q0 w6 (o_x0_6.out.rd hl0) hn0 (HT.out.below B6 HT.out.lt)).mono ?_
  rw [HV.out]
  rintro e w7 ⟨hs_g, A_g, cc_g, rfl, own7, bel7⟩
  have o_g_7 := Lib.hid own7
  clear own7
  have s7 := bel7.size
  have B7 := B6.trans (bel7.mono B6.size)
  have ca0_7 := (bel7.cell (p := ⟨w.heap.size, 0, none⟩) (by show w.heap.size < _; omega)).trans ca0_6
  have cv_7 := (bel7.cell (p := ⟨m3, 0, none⟩) (by show m3 < _; omega)).trans cv_6
  have cx0_7 := (bel7.cell (p := ⟨m5, 0, none⟩) (by show m5 < _; omega)).trans cx0_6
  have o_v_7 := Lib.hid (o_v_6.out.below bel7)
  have o_x0_7 := Lib.hid (o_x0_6.out.below bel7)
  clear bel7
  clear ca0_6 cv_6 cx0_6 o_v_6 o_x0_6 B6
  generalize w6.heap.size = m6 at *
  have bel8 : Below w7.heap.size w7 (w7.alloc (.cells #[Value.slice A_g V.length cc_g] 34)) := box_below _ _ _
  have cg_8 : (w7.alloc (.cells #[Value.slice A_g V.length cc_g] 34)).cell? ⟨w7.heap.size, 0, none⟩ = some (Value.slice A_g V.length cc_g) := by simp
  have t8 : w7.heap.size + 1 ≤ (w7.alloc (.cells #[Value.slice A_g V.length cc_g] 34)).heap.size := by simp
  have ca0_8 := (bel8.cell (p := ⟨w.heap.size, 0, none⟩) (by show w.heap.size < _; omega)).trans ca0_7
  have cv_8 := (bel8.cell (p := ⟨m3, 0, none⟩) (by show m3 < _; omega)).trans cv_7
  have cx0_8 := (bel8.cell (p := ⟨m5, 0, none⟩) (by show m5 < _; omega)).trans cx0_7
  clear ca0_7 cv_7 cx0_7
  go_wp2_with (fail)
  generalize w7.alloc (.cells #[Value.slice A_g V.length cc_g] 34) = w8 at *
  have s8 := bel8.size
  have B8 := B7.trans (bel8.mono B7.size)
  have o_v_8 := Lib.hid (o_v_7.out.below bel8)
  have o_x0_8 := Lib.hid (o_x0_7.out.below bel8)
  have o_g_8 := Lib.hid (o_g_7.out.below bel8)
  clear bel8
  clear o_v_7 o_x0_7 o_g_7 B7
  generalize w7.heap.size = m7 at *
  refine (eqSeq_any _ _ _ _ _ _ V V w8 (o_g_8.out.rd rfl) (o_v_8.out.rd rfl) hv1 hv1 HV3.out HV3.out).mono ?_
  rw [decide_eq_true (rfl : V = V)]
  rintro e w9 ⟨rfl, bel9⟩
  have s9 := bel9.size
  have B9 := B8.trans (bel9.mono B8.size)
  have ca0_9 := (bel9.cell (p := ⟨w.heap.size, 0, none⟩) (by show w.heap.size < _; omega)).trans ca0_8
  have cv_9 := (bel9.cell (p := ⟨m3, 0, none⟩) (by show m3 < _; omega)).trans cv_8
  have cx0_9 := (bel9.cell (p := ⟨m5, 0, none⟩) (by show m5 < _; omega)).trans cx0_8
  have cg_9 := (bel9.cell (p := ⟨m7, 0, none⟩) (by show m7 < _; omega)).trans cg_8
  have o_v_9 := Lib.hid (o_v_8.out.below bel9)
  have o_x0_9 := Lib.hid (o_x0_8.out.below bel9)
  have o_g_9 := Lib.hid (o_g_8.out.below bel9)
  clear bel9
  clear ca0_8 cv_8 cx0_8 cg_8 o_v_8 o_x0_8 o_g_8 B8
  generalize w8.heap.size = m8 at *
  have R_x := Lib.hid (o_x0_9.out.rd hl0)
  have HBx := Lib.hid B9
  go_upto_region 10 with (fail)
  go_cut [31] (fun b wx => b = .bool false ∧ Below w9.heap.size w9 wx)
  case first =>
    go_wp2_with (fail)
    go_region_with (first
      | (go_at_call 25; refine (toSeq_any A0 n0 c0 q0 w9.drew ((H0.out.below HBx.out).more HBx.out.size) HQ0.out hn0).mono ?_; rintro e wt ⟨hst, At, rfl, ownt, belt'⟩; have belt := undrew belt'; have cxt := (belt.cell (p := ⟨m5, 0, none⟩) (by show m5 < _; omega)).trans cx0_9; have R7 := Lib.hid ((R_x.out.below belt).more belt.size); have S7 := Lib.hid (ownt.rd hl0); have B7 := Lib.hid (Below.trans (Below.refl _ _) (belt)); clear ownt belt belt')
      | (go_at_call 27; refine (eqSeq_any _ _ _ _ _ _ q0 q0 _ R7.out S7.out hn0 hn0 HQ0.out HQ0.out).mono ?_; rw [decide_eq_true (rfl : q0 = q0)]; rintro e wu ⟨rfl, belu⟩; have B8 := Lib.hid (B7.out.trans (belu.mono B7.out.size)); clear belu))
    all_goals (try go_wp2_with (fail))
    all_goals go_meet
    all_goals exact ⟨rfl, B8.out⟩
  case rest =>
  obtain ⟨rfl, bel10⟩ := hcut
  clear R_x HBx
  rename World => w10
  have s10 := bel10.size
  have B10 := B9.trans (bel10.mono B9.size)
  have ca0_10 := (bel10.cell (p := ⟨w.heap.size, 0, none⟩) (by show w.heap.size < _; omega)).trans ca0_9
  have cv_10 := (bel10.cell (p := ⟨m3, 0, none⟩) (by show m3 < _; omega)).trans cv_9
  have cx0_10 := (bel10.cell (p := ⟨m5, 0, none⟩) (by show m5 < _; omega)).trans cx0_9
  have cg_10 := (bel10.cell (p := ⟨m7, 0, none⟩) (by show m7 < _; omega)).trans cg_9
  have o_v_10 := Lib.hid (o_v_9.out.below bel10)
  have o_x0_10 := Lib.hid (o_x0_9.out.below bel10)
  have o_g_10 := Lib.hid (o_g_9.out.below bel10)
  clear bel10
  clear ca0_9 cv_9 cx0_9 cg_9 o_v_9 o_x0_9 o_g_9 B9
  generalize w9.heap.size = m9 at *
  go_wp2_with (fail)
  refine (markSeq_any _ _ _ _ q0 (1) w10 _ _ o_x0_10.out hl0 hn0 hT0 (by omega) (by omega)).mono ?_
  rintro e w11 ⟨rfl, own11, kp11⟩
  have o_x0_11 := Lib.hid own11
  clear own11
  have s11 := kp11.size
  have B11 := kp11.to_below B10 (by omega) B10.size
  have ca0_11 := (kept_cell kp11 (p := ⟨w.heap.size, 0, none⟩) (by show w.heap.size < _; omega) (by show w.heap.size < _ ∨ _ ≤ w.heap.size; omega)).trans ca0_10
  have cv_11 := (kept_cell kp11 (p := ⟨m3, 0, none⟩) (by show m3 < _; omega) (by show m3 < _ ∨ _ ≤ m3; omega)).trans cv_10
  have cx0_11 := (kept_cell kp11 (p := ⟨m5, 0, none⟩) (by show m5 < _; omega) (by show m5 < _ ∨ _ ≤ m5; omega)).trans cx0_10
  have cg_11 := (kept_cell kp11 (p := ⟨m7, 0, none⟩) (by show m7 < _; omega) (by show m7 < _ ∨ _ ≤ m7; omega)).trans cg_10
  have o_v_11 := Lib.hid (o_v_10.out.kept kp11 (by omega))
  have o_g_11 := Lib.hid (o_g_10.out.kept kp11 (by omega))
  clear kp11
  clear ca0_10 cv_10 cx0_10 cg_10 o_v_10 o_x0_10 o_g_10 B10
  generalize w10.heap.size = m10 at *
  have hkk : decide (1 + (total q0 : Int) < 0) = false := decide_eq_false (by omega)
  clear o_x0_11
  go_wp2_with (fail)
  refine (eqSeq_any _ _ _ _ _ _ V V w11 (o_g_11.out.rd rfl) (o_v_11.out.rd rfl) hv1 hv1 HV3.out HV3.out).mono ?_
  rw [decide_eq_true (rfl : V = V)]
  rintro e w12 ⟨rfl, bel12⟩
  have s12 := bel12.size
  have B12 := B11.trans (bel12.mono B11.size)
  have ca0_12 := (bel12.cell (p := ⟨w.heap.size, 0, none⟩) (by show w.heap.size < _; omega)).trans ca0_11
  have cv_12 := (bel12.cell (p := ⟨m3, 0, none⟩) (by show m3 < _; omega)).trans cv_11
  have cx0_12 := (bel12.cell (p := ⟨m5, 0, none⟩) (by show m5 < _; omega)).trans cx0_11
  have cg_12 := (bel12.cell (p := ⟨m7, 0, none⟩) (by show m7 < _; omega)).trans cg_11
  have o_v_12 := Lib.hid (o_v_11.out.below bel12)
  have o_g_12 := Lib.hid (o_g_11.out.below bel12)
  clear bel12
  clear ca0_11 cv_11 cx0_11 cg_11 o_v_11 o_g_11 B11
  generalize w11.heap.size = m11 at *
  have hmm : decide (1 + (total V : Int) < 0) = false := decide_eq_false (by omega)
  go_wp2_with (fail)
  refine (markSeq_any _ _ _ _ V (1) w12 _ _ o_g_12.out rfl hv1 hv2 (by omega) (by omega)).mono ?_
  rintro e w13 ⟨rfl, own13, kp13⟩
  have o_g_13 := Lib.hid own13
  clear own13
  have s13 := kp13.size
  have B13 := kp13.to_below B12 (by omega) B12.size
  have ca0_13 := (kept_cell kp13 (p := ⟨w.heap.size, 0, none⟩) (by show w.heap.size < _; omega) (by show w.heap.size < _ ∨ _ ≤ w.heap.size; omega)).trans ca0_12
  have cv_13 := (kept_cell kp13 (p := ⟨m3, 0, none⟩) (by show m3 < _; omega) (by show m3 < _ ∨ _ ≤ m3; omega)).trans cv_12
  have cx0_13 := (kept_cell kp13 (p := ⟨m5, 0, none⟩) (by show m5 < _; omega) (by show m5 < _ ∨ _ ≤ m5; omega)).trans cx0_12
  have cg_13 := (kept_cell kp13 (p := ⟨m7, 0, none⟩) (by show m7 < _; omega) (by show m7 < _ ∨ _ ≤ m7; omega)).trans cg_12
  have o_v_13 := Lib.hid (o_v_12.out.kept kp13 (by omega))
  clear kp13
  clear ca0_12 cv_12 cx0_12 cg_12 o_v_12 o_g_12 B12
  generalize w12.heap.size = m12 at *
  go_wp2_with (fail)
  refine (heldSeq_any _ _ _ V 1 w13 (o_g_13.out.rd (mrkQ_len _ _)) hv1 hv2 (by decide) (by decide)).mono ?_
  rintro e w14 ⟨rfl, bel14⟩
  have s14 := bel14.size
  have B14 := B13.trans (bel14.mono B13.size)
  have ca0_14 := (bel14.cell (p := ⟨w.heap.size, 0, none⟩) (by show w.heap.size < _; omega)).trans ca0_13
  have cv_14 := (bel14.cell (p := ⟨m3, 0, none⟩) (by show m3 < _; omega)).trans cv_13
  have cx0_14 := (bel14.cell (p := ⟨m5, 0, none⟩) (by show m5 < _; omega)).trans cx0_13
  have cg_14 := (bel14.cell (p := ⟨m7, 0, none⟩) (by show m7 < _; omega)).trans cg_13
  have o_v_14 := Lib.hid (o_v_13.out.below bel14)
  have o_g_14 := Lib.hid (o_g_13.out.below bel14)
  clear bel14
  clear ca0_13 cv_13 cx0_13 cg_13 o_v_13 o_g_13 B13
  generalize w13.heap.size = m13 at *
  go_wp2_with (fail)
  refine (toSeq_any A0 n0 c0 q0 w14 ((H0.out.below B14).more B14.size) HQ0.out hn0).mono ?_
  rintro e w15 ⟨hs_b0, A_b0, rfl, own15, bel15⟩
  have o_b0_15 := Lib.hid own15
  clear own15
  have s15 := bel15.size
  have B15 := B14.trans (bel15.mono B14.size)
  have ca0_15 := (bel15.cell (p := ⟨w.heap.size, 0, none⟩) (by show w.heap.size < _; omega)).trans ca0_14
  have cv_15 := (bel15.cell (p := ⟨m3, 0, none⟩) (by show m3 < _; omega)).trans cv_14
  have cx0_15 := (bel15.cell (p := ⟨m5, 0, none⟩) (by show m5 < _; omega)).trans cx0_14
  have cg_15 := (bel15.cell (p := ⟨m7, 0, none⟩) (by show m7 < _; omega)).trans cg_14
  have o_v_15 := Lib.hid (o_v_14.out.below bel15)
  have o_g_15 := Lib.hid (o_g_14.out.below bel15)
  clear bel15
  clear ca0_14 cv_14 cx0_14 cg_14 o_v_14 o_g_14 B14
  generalize w14.heap.size = m14 at *
  go_wp2_with (fail)
  refine (sortedSeq_impl A_b0 n0 n0 q0 w15 (o_b0_15.out.rd hl0) hn0 (HT.out.below B15 HT.out.lt)).mono ?_
  rw [HV.out]
  rintro e w16 ⟨hs_hh, A_hh, cc_hh, rfl, own16, bel16⟩
  have o_hh_16 := Lib.hid own16
  clear own16
  have s16 := bel16.size
  have B16 := B15.trans (bel16.mono B15.size)
  have ca0_16 := (bel16.cell (p := ⟨w.heap.size, 0, none⟩) (by show w.heap.size < _; omega)).trans ca0_15
  have cv_16 := (bel16.cell (p := ⟨m3, 0, none⟩) (by show m3 < _; omega)).trans cv_15
  have cx0_16 := (bel16.cell (p := ⟨m5, 0, none⟩) (by show m5 < _; omega)).trans cx0_15
  have cg_16 := (bel16.cell (p := ⟨m7, 0, none⟩) (by show m7 < _; omega)).trans cg_15
  have o_v_16 := Lib.hid (o_v_15.out.below bel16)
  have o_g_16 := Lib.hid (o_g_15.out.below bel16)
  have o_b0_16 := Lib.hid (o_b0_15.out.below bel16)
  clear bel16
  clear ca0_15 cv_15 cx0_15 cg_15 o_v_15 o_g_15 o_b0_15 B15
  generalize w15.heap.size = m15 at *
  clear o_b0_16
  have bel17 : Below w16.heap.size w16 (w16.alloc (.cells #[Value.slice A_hh V.length cc_hh] 34)) := box_below _ _ _
  have ch_17 : (w16.alloc (.cells #[Value.slice A_hh V.length cc_hh] 34)).cell? ⟨w16.heap.size, 0, none⟩ = some (Value.slice A_hh V.length cc_hh) := by simp
  have t17 : w16.heap.size + 1 ≤ (w16.alloc (.cells #[Value.slice A_hh V.length cc_hh] 34)).heap.size := by simp
  have ca0_17 := (bel17.cell (p := ⟨w.heap.size, 0, none⟩) (by show w.heap.size < _; omega)).trans ca0_16
  have cv_17 := (bel17.cell (p := ⟨m3, 0, none⟩) (by show m3 < _; omega)).trans cv_16
  have cx0_17 := (bel17.cell (p := ⟨m5, 0, none⟩) (by show m5 < _; omega)).trans cx0_16
  have cg_17 := (bel17.cell (p := ⟨m7, 0, none⟩) (by show m7 < _; omega)).trans cg_16
  clear ca0_16 cv_16 cx0_16 cg_16
  go_wp2_with (fail)
  generalize w16.alloc (.cells #[Value.slice A_hh V.length cc_hh] 34) = w17 at *
  have s17 := bel17.size
  have B17 := B16.trans (bel17.mono B16.size)
  have o_v_17 := Lib.hid (o_v_16.out.below bel17)
  have o_g_17 := Lib.hid (o_g_16.out.below bel17)
  have o_hh_17 := Lib.hid (o_hh_16.out.below bel17)
  clear bel17
  clear o_v_16 o_g_16 o_hh_16 B16
  generalize w16.heap.size = m16 at *
  refine (eqSeq_any _ _ _ _ _ _ V V w17 (o_hh_17.out.rd rfl) (o_v_17.out.rd rfl) hv1 hv1 HV3.out HV3.out).mono ?_
  rw [decide_eq_true (rfl : V = V)]
  rintro e w18 ⟨rfl, bel18⟩
  have s18 := bel18.size
  have B18 := B17.trans (bel18.mono B17.size)
  have ca0_18 := (bel18.cell (p := ⟨w.heap.size, 0, none⟩) (by show w.heap.size < _; omega)).trans ca0_17
  have cv_18 := (bel18.cell (p := ⟨m3, 0, none⟩) (by show m3 < _; omega)).trans cv_17
  have cx0_18 := (bel18.cell (p := ⟨m5, 0, none⟩) (by show m5 < _; omega)).trans cx0_17
  have cg_18 := (bel18.cell (p := ⟨m7, 0, none⟩) (by show m7 < _; omega)).trans cg_17
  have ch_18 := (bel18.cell (p := ⟨m16, 0, none⟩) (by show m16 < _; omega)).trans ch_17
  have o_v_18 := Lib.hid (o_v_17.out.below bel18)
  have o_g_18 := Lib.hid (o_g_17.out.below bel18)
  have o_hh_18 := Lib.hid (o_hh_17.out.below bel18)
  clear bel18
  clear ca0_17 cv_17 cx0_17 cg_17 ch_17 o_v_17 o_g_17 o_hh_17 B17
  generalize w17.heap.size = m17 at *
  go_wp2_with (fail)
  refine (heldSeq_any _ _ _ V 1 w18 (o_g_18.out.rd (mrkQ_len _ _)) hv1 hv2 (by decide) (by decide)).mono ?_
  rintro e w19 ⟨rfl, bel19⟩
  have s19 := bel19.size
  have B19 := B18.trans (bel19.mono B18.size)
  have ca0_19 := (bel19.cell (p := ⟨w.heap.size, 0, none⟩) (by show w.heap.size < _; omega)).trans ca0_18
  have cv_19 := (bel19.cell (p := ⟨m3, 0, none⟩) (by show m3 < _; omega)).trans cv_18
  have cx0_19 := (bel19.cell (p := ⟨m5, 0, none⟩) (by show m5 < _; omega)).trans cx0_18
  have cg_19 := (bel19.cell (p := ⟨m7, 0, none⟩) (by show m7 < _; omega)).trans cg_18
  have ch_19 := (bel19.cell (p := ⟨m16, 0, none⟩) (by show m16 < _; omega)).trans ch_18
  have o_v_19 := Lib.hid (o_v_18.out.below bel19)
  have o_g_19 := Lib.hid (o_g_18.out.below bel19)
  have o_hh_19 := Lib.hid (o_hh_18.out.below bel19)
  clear bel19
  clear ca0_18 cv_18 cx0_18 cg_18 ch_18 o_v_18 o_g_18 o_hh_18 B18
  generalize w18.heap.size = m18 at *
  have HB := Lib.hid B19
  go_wp2
  go_ret
  exact ⟨rfl, HB.out⟩

theorem walk (A0 : Option Addr) (n0 c0 : Nat) (q0 : List (List Int)) (w : World) (h0 : RdQ w w.heap.size A0 n0 q0) (_hc0 : n0 ≤ c0) (hm0 : n0 ≤ maxLen) (hq0 : ∀ q ∈ q0, q.length ≤ maxLen) (_hw0 : ∀ q ∈ q0, ∀ z ∈ q, (Lit.int .i64 z).wf = true) (ht : Arit w) :
    Calls Tryd.prog 5 #[.agg #[.slice A0 n0 c0]] w fun e w' => e = .returned (.bool true) ∧ Below w.heap.size w w' := by
  rcases sz_casesL 1048576 (by decide) n0 q0 with hb | ⟨L0, hs0, hL0, hL'0, hn0, hT0⟩
  · exact walk_big0 A0 n0 c0 q0  w h0 hm0 hq0  hb
  · exact walk_mid A0 n0 c0 q0 L0 w h0 hs0 hL0 hL'0 hn0 hT0 ht

set_option maxRecDepth 100000 in
/-- What the walk gives, for all arguments and every world that holds the tables. -/
theorem contract (H : Type) (enc : TypeId × Value → H) (W : World) (base : Nat) (args : Array Value) (ds gs : List (DataW H)) (before : List MemPlace)
    (hval : ∀ (j : Nat) t v, Tryd.f5.params[j]? = some t → args[j]? = some v → Value.okWide Tryd.prog W .any base t v)
    (hW : DataW.Whole enc Tryd.prog Tryd.f5.params.toList Rows.fnExactSortedSeqSpec.vars false W args.toList ds gs before) (hL : laidMetH Tryd.prog Rows.fnExactSortedSeqRow.laid W) :
    Calls Tryd.prog 5 args W fun e W' => ∃ v, e = .returned v ∧ Rows.fnExactSortedSeqSpec.post enc Tryd.prog Tryd.f5 false true false false W args v W' := by
  have hW' := hW
  obtain ⟨p, q, hA0, hV, rfl, hfz, hnd⟩ := hW
  have hA : DataW.TrodAll enc Tryd.prog W 0 (fun _ => true) true Tryd.f5.params.toList args.toList ds p := hA0
  rw [Tryd.params5] at hA hval
  obtain ⟨v0, vs0, d0, ds0, p0, q0, hargs, rfl, rfl, h0, r0⟩ := trodAll_cons hA
  obtain ⟨rfl, rfl, rfl⟩ := trodAll_nil r0
  obtain rfl : args = #[v0] := by cases args; simp_all
  have k0 := h0
  have lt0 : ∀ x ∈ p0, x.block < W.heap.size := by obtain ⟨m, hm⟩ := k0; exact DataW.trod_lt m _ _ _ hm
  obtain ⟨a0, len0, cap0, z0, rfl, w0, c0, m0, l0, b0⟩ := open_seq (hval 0 42 v0 rfl rfl) h0
  have ht : Arit W := arit_of hL
  have hv1 := hV
  obtain ⟨g, t, cs, fuel, d, p', rfl, hg, hty, hvar, hd, rfl⟩ := trodVars_one hV
  clear hA0
  refine (walk a0 len0 cap0 z0 W w0 c0 m0 l0 b0 ht).mono fun e W' ⟨he, bel⟩ => ?_
  subst he
  exact ⟨_, rfl, _, _, _, [], _, _, hW', trodAll_mk1 (shut_bool Tryd.underlying4 _),
    (trodAll_cons_mk (Below.trod laidOut (by kernel_rfl) (of_decide_eq_true (by kernel_rfl)) k0 bel lt0) trodAll_mk0),
    vars_below bel (readable_all _ (by kernel_rfl)) hv1, bel.frame _, fun h => by cases h⟩

theorem laid_met (os : Os) : laidMet Tryd.prog Rows.fnExactSortedSeqRow.laid ((laidWorld os).forCall (fun _ _ => 0) ⟨#[], #[.agg #[.slice none 0 0]], []⟩).memory :=
  laidMet_of_run' 8 (by kernel_rfl) (by kernel_rfl)
theorem reads (os : Os) {H : Type} (enc : TypeId × Value → H) : ∃ x, DataW.whole enc Tryd.prog ((laidWorld os).forCall (fun _ _ => 0) ⟨#[], #[.agg #[.slice none 0 0]], []⟩).memory Tryd.f5.params.toList Rows.fnExactSortedSeqSpec.vars false (#[.agg #[.slice none 0 0]] : Array Value).toList 8 = some x :=
  Option.isSome_iff_exists.1 (by kernel_rfl)

set_option maxRecDepth 100000 in
theorem lifted (os : Os) (started : os.Started) (H : Type) (enc : TypeId × Value → H) (F : Stop.Interp) :
    ReturnsInHanded {} Tryd.checked os 5 .any ((OpenSpec.ofChange Rows.fnExactSortedSeqSpec).preRow enc Tryd.prog Tryd.f5 Rows.fnExactSortedSeqRow.domain false Rows.fnExactSortedSeqRow.laid) (((OpenSpec.ofChange Rows.fnExactSortedSeqSpec).at F).post enc Tryd.prog Tryd.f5 false true false false) := by
  obtain ⟨places, hx⟩ := reads os enc
  refine returnsInHanded_of_row (C := Tryd.checked) (s := OpenSpec.ofChange Rows.fnExactSortedSeqSpec) own started (by kernel_rfl) Tryd.func5
    (witness_row_at (enc := enc) (C := Tryd.checked) false (laidWorld os) #[.agg #[.slice none 0 0]] rfl (by kernel_rfl) (by kernel_rfl) (by kernel_rfl)
      (OpenSpec.preRow_of_cond 8 hx rfl (fun k hk => by cases hk) (by kernel_rfl) (laid_met os))) ?_
  intro W base args ds gs before hval hW _ _ _ hL _ _
  exact contract H enc W base args ds gs before hval hW hL

theorem said : Rows.FnExactSortedSeqSaid :=
  OpenClaim.holds_of_cond 5 Tryd.f5 rfl rfl rfl rfl rfl rfl rfl ⟨rfl, rfl, rfl, rfl, rfl⟩ rfl rfl rfl rfl rfl (by kernel_rfl) Tryd.func5 (by kernel_rfl)
    (of_decide_eq_true (by kernel_rfl)) (by unfold Func.isWrapper; first | (rw [if_pos (by decide +kernel)]; kernel_rfl) | (rw [if_neg (by decide +kernel)]; exact ⟨rfl, rfl⟩))
    (fun os started H enc _ F => by rw [OpenClaim.pre_eq_preRow]; exact lifted os started H enc F)

theorem plain (f : FuncId) (fn : Func) (hf : Tryd.pinned.checked.prog.funcNamed "loop.example/g00872/laws.FnExactSortedSeq" = some f) (hfn : Tryd.pinned.checked.prog.funcs[f]? = some fn) :
    Rows.fnExactSortedSeqCard.stood.looks = Tryd.pinned.checked.prog.looks [] ∧ ∀ (j : Nat) t, fn.params[j]? = some t → Tryd.pinned.checked.prog.wantsStandIn t = false := by
  obtain rfl : f = 5 := Option.some.inj ((show Tryd.prog.funcNamed "loop.example/g00872/laws.FnExactSortedSeq" = some 5 by kernel_rfl).symm.trans hf) |>.symm
  obtain rfl : fn = Tryd.f5 := (Option.some.inj (Tryd.func5.symm.trans hfn)).symm
  refine ⟨by kernel_rfl, fun j t ht => ?_⟩
  rw [Tryd.params5] at ht
  have hm : t ∈ [42] := by simpa using Array.mem_of_getElem? ht
  have hall : ([42].all fun u => !Tryd.prog.wantsStandIn u) = true := by kernel_rfl
  exact (show Tryd.prog.wantsStandIn t = false by simpa using List.all_eq_true.1 hall t hm)

/-- The statement. -/
theorem card : Rows.FnExactSortedSeqCardSaid :=
  Claim7.holds_tied_plain_at .later [] _ _ _ _ said (fun _ h => by cases h) (by kernel_rfl) (fun _ h => by cases h) fnExactSortedSeq_row_tie rfl ⟨rfl, rfl⟩ (by kernel_rfl) rfl plain (by kernel_rfl)
end Go.Proofs.YtdgejhlpncnenaaDoor.fnExactSortedSeq
