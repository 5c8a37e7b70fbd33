/- Proved: for all arguments the law that SubstSeq answers as its model, leaves its arguments and shares no memory answers true and leaves its arguments as they were (FnExactSubstSeq). Conditions: the row's own: the listed tables read as the program's text lays them, which the card ties to that text. -/
import Derived.Test.YtoniekjchabjlaaDoorFrame
import Derived.Test.YtoniekjchabjlaaDoorBndH
namespace Go.Proofs.YtoniekjchabjlaaDoor.fnExactSubstSeq
open Go.ChangeShapes Go.WideShapes Go.ChangeAt Go.RowKit

theorem walk_big0 (A0 : Option Addr) (n0 c0 : Nat) (x0 : List (List Int)) (A1 : Option Addr) (n1 c1 : Nat) (_x1 : List (List Int)) (w : World) (h0 : RdQ w w.heap.size A0 n0 x0) (hm0 : n0 ≤ maxLen) (hqm0 : ∀ q ∈ x0, q.length ≤ maxLen)  (hb : szR 1048576 (n0 + total x0) = -1) :
    Calls Tryd.prog 8 #[.agg #[.slice A0 n0 c0], .slice A1 n1 c1] w fun e w' => e = .returned (.bool true) ∧ Below w.heap.size w w' := by
  have HS0 := Lib.hid (fun w0 (B : Below w.heap.size w w0) => szSeq_any A0 n0 c0 x0 (1048576) w0 ((h0.below B).more B.size) hqm0 hm0 (by decide) (by decide))
  rw [hb] at HS0
  clear hb h0
  obtain ⟨w0, hw0⟩ : ∃ w0, w0 = w.alloc (.cells #[Value.slice A0 n0 c0] 48) := ⟨_, rfl⟩
  have B0 : Below w.heap.size w w0 := by rw [hw0]; exact box_below _ _ _
  have c_a0_0 : w0.cell? ⟨w.heap.size, 0, none⟩ = some (.slice A0 n0 c0) := by rw [hw0]; simp
  have s0 : w.heap.size + 1 ≤ w0.heap.size := by rw [hw0]; simp
  go_enter Tryd.func8, Tryd.ntmps8
  go_wp2_with (fail)
  rw [← hw0]
  clear hw0
  refine (HS0.out w0 B0).mono ?_
  rintro e w1 ⟨rfl, bel1⟩
  have B1 := B0.trans (bel1.mono B0.size)
  have c_a0_1 := (bel1.cell (p := ⟨w.heap.size, 0, none⟩) (by show w.heap.size < _; omega)).trans c_a0_0
  have s1 := bel1.size
  clear bel1 B0
  have HB := Lib.hid B1
  clear B1
  go_wp2
  go_ret
  exact ⟨rfl, HB.out⟩

theorem walk_big1 (A0 : Option Addr) (n0 c0 : Nat) (x0 : List (List Int)) (A1 : Option Addr) (n1 c1 : Nat) (x1 : List (List Int)) (L0 : Int) (w : World) (h0 : RdQ w w.heap.size A0 n0 x0) (h1 : RdQ w w.heap.size A1 n1 x1) (hm0 : n0 ≤ maxLen) (hqm0 : ∀ q ∈ x0, q.length ≤ maxLen) (hm1 : n1 ≤ maxLen) (hqm1 : ∀ q ∈ x1, q.length ≤ maxLen) (hs0 : szR 1048576 (n0 + total x0) = L0) (hL0 : 0 ≤ L0) (hL'0 : L0 ≤ 1048576) (_hn0 : n0 ≤ 1048576) (_hT0 : total x0 ≤ 1048576) (hb : szR L0 (n1 + total x1) = -1) :
    Calls Tryd.prog 8 #[.agg #[.slice A0 n0 c0], .slice A1 n1 c1] w fun e w' => e = .returned (.bool true) ∧ Below w.heap.size w w' := by
  have HS0 := Lib.hid (fun w0 (B : Below w.heap.size w w0) => szSeq_any A0 n0 c0 x0 (1048576) w0 ((h0.below B).more B.size) hqm0 hm0 (by decide) (by decide))
  rw [hs0] at HS0
  have hd0 : decide (L0 < 0) = false := decide_eq_false (by omega)
  have HS1 := Lib.hid (fun w0 (B : Below w.heap.size w w0) => szQ_x A1 n1 c1 x1 (L0) w0 ((h1.below B).more B.size) hqm1 hm1 hL0 (by omega))
  rw [hb] at HS1
  clear hb h0 h1 hs0
  obtain ⟨w0, hw0⟩ : ∃ w0, w0 = w.alloc (.cells #[Value.slice A0 n0 c0] 48) := ⟨_, rfl⟩
  have B0 : Below w.heap.size w w0 := by rw [hw0]; exact box_below _ _ _
  have c_a0_0 : w0.cell? ⟨w.heap.size, 0, none⟩ = some (.slice A0 n0 c0) := by rw [hw0]; simp
  have s0 : w.heap.size + 1 ≤ w0.heap.size := by rw [hw0]; simp
  go_enter Tryd.func8, Tryd.ntmps8
  go_wp2_with (fail)
  rw [← hw0]
  clear hw0
  refine (HS0.out w0 B0).mono ?_
  rintro e w1 ⟨rfl, bel1⟩
  have B1 := B0.trans (bel1.mono B0.size)
  have c_a0_1 := (bel1.cell (p := ⟨w.heap.size, 0, none⟩) (by show w.heap.size < _; omega)).trans c_a0_0
  have s1 := bel1.size
  clear bel1 B0
  go_wp2_with (fail)
  refine (HS1.out w1 B1).mono ?_
  rintro e w2 ⟨rfl, bel2⟩
  have B2 := B1.trans (bel2.mono B1.size)
  have c_a0_2 := (bel2.cell (p := ⟨w.heap.size, 0, none⟩) (by show w.heap.size < _; omega)).trans c_a0_1
  have s2 := bel2.size
  clear bel2 B1
  have HB := Lib.hid B2
  clear B2
  go_wp2
  go_ret
  exact ⟨rfl, HB.out⟩

set_option maxRecDepth 100000 in
set_option maxHeartbeats 8000000 in
theorem walk_mid (A0 : Option Addr) (n0 c0 : Nat) (x0 : List (List Int)) (A1 : Option Addr) (n1 c1 : Nat) (x1 : List (List Int)) (L0 : Int) (L1 : Int) (w : World) (h0 : RdQ w w.heap.size A0 n0 x0) (h1 : RdQ w w.heap.size A1 n1 x1) (hs0 : szR 1048576 (n0 + total x0) = L0) (hL0 : 0 ≤ L0) (hL'0 : L0 ≤ 1048576) (hn0 : n0 ≤ 1048576) (hT0 : total x0 ≤ 1048576) (hs1 : szR L0 (n1 + total x1) = L1) (hL1 : 0 ≤ L1) (hL'1 : L1 ≤ 1048576) (hn1 : n1 ≤ 1048576) (hT1 : total x1 ≤ 1048576) (ht : Arit w) (hu : Dual w) :
    Calls Tryd.prog 8 #[.agg #[.slice A0 n0 c0], .slice A1 n1 c1] w fun e w' => e = .returned (.bool true) ∧ Below w.heap.size w w' := by
  have hq0 : ∀ q ∈ x0, q.length ≤ 1048576 := fun q hq' => Nat.le_trans (mem_total hq') hT0
  have hqm0 : ∀ q ∈ x0, q.length ≤ maxLen := fun q hq' => Nat.le_trans (hq0 q hq') (by decide)
  have hm0 : n0 ≤ maxLen := Nat.le_trans hn0 (by decide)
  have hl0 := h0.len
  have hq1 : ∀ q ∈ x1, q.length ≤ 1048576 := fun q hq' => Nat.le_trans (mem_total hq') hT1
  have hqm1 : ∀ q ∈ x1, q.length ≤ maxLen := fun q hq' => Nat.le_trans (hq1 q hq') (by decide)
  have hm1 : n1 ≤ maxLen := Nat.le_trans hn1 (by decide)
  have hl1 := h1.len
  obtain ⟨hv1, hv2⟩ : (sqL x0 x1).length ≤ 1048576 ∧ total (sqL x0 x1) ≤ 1048576 := sqL_small x0 x1
  generalize hV : sqL x0 x1 = V at hv1 hv2
  have HV := Lib.hid hV; clear hV
  have HV3 : Hid (∀ q ∈ V, q.length ≤ 1048576) := Lib.hid fun q hq' => Nat.le_trans (mem_total hq') hv2
  generalize hVb : sqB x0 x1 = Vb
  have HVb := Lib.hid hVb; clear hVb
  have hbb : (Vb != Vb) = false := by simp
  have HS0 := Lib.hid (fun w0 (B : Below w.heap.size w w0) => szSeq_any A0 n0 c0 x0 (1048576) w0 ((h0.below B).more B.size) hqm0 hm0 (by decide) (by decide))
  rw [hs0] at HS0
  have hd0 : decide (L0 < 0) = false := decide_eq_false (by omega)
  have HS1 := Lib.hid (fun w0 (B : Below w.heap.size w w0) => szQ_x A1 n1 c1 x1 (L0) w0 ((h1.below B).more B.size) hqm1 hm1 hL0 (by omega))
  rw [hs1] at HS1
  have hd1 : decide (L1 < 0) = false := decide_eq_false (by omega)
  have H0 := Lib.hid h0
  have HQ0 := Lib.hid hq0
  have H1 := Lib.hid h1
  have HQ1 := Lib.hid hq1
  have HT := Lib.hid ht
  have HU := Lib.hid hu
  clear h0 h1 hs0 hq0 hqm0 hs1 hq1 hqm1 ht hu
  obtain ⟨w0, hw0⟩ : ∃ w0, w0 = w.alloc (.cells #[Value.slice A0 n0 c0] 48) := ⟨_, rfl⟩
  have B0 : Below w.heap.size w w0 := by rw [hw0]; exact box_below _ _ _
  have c_a0_0 : w0.cell? ⟨w.heap.size, 0, none⟩ = some (.slice A0 n0 c0) := by rw [hw0]; simp
  have s0 : w.heap.size + 1 ≤ w0.heap.size := by rw [hw0]; simp
  go_enter Tryd.func8, Tryd.ntmps8
  go_wp2_with (fail)
  rw [← hw0]
  clear hw0
  refine (HS0.out w0 B0).mono ?_
  rintro e w1 ⟨rfl, bel1⟩
  have s1 := bel1.size
  have B1 := B0.trans (bel1.mono B0.size)
  have c_a0_1 := (bel1.cell (p := ⟨w.heap.size, 0, none⟩) (by show w.heap.size < _; omega)).trans c_a0_0
  clear bel1 B0 c_a0_0
  generalize w0.heap.size = m0 at *
  go_wp2_with (fail)
  refine (HS1.out w1 B1).mono ?_
  rintro e w2 ⟨rfl, bel2⟩
  have s2 := bel2.size
  have B2 := B1.trans (bel2.mono B1.size)
  have c_a0_2 := (bel2.cell (p := ⟨w.heap.size, 0, none⟩) (by show w.heap.size < _; omega)).trans c_a0_1
  clear bel2 B1 c_a0_1
  generalize w1.heap.size = m1 at *
  go_wp2_with (fail)
  refine (toSeq_any A0 n0 c0 x0 w2 ((H0.out.below B2).more B2.size) HQ0.out hn0).mono ?_
  rintro e w3 ⟨hs_p0, A_p0, rfl, own3, bel3⟩
  have o_p0_3 := Lib.hid own3
  clear own3
  have s3 := bel3.size
  have B3 := B2.trans (bel3.mono B2.size)
  have c_a0_3 := (bel3.cell (p := ⟨w.heap.size, 0, none⟩) (by show w.heap.size < _; omega)).trans c_a0_2
  clear bel3 B2 c_a0_2
  generalize w2.heap.size = m2 at *
  go_wp2_with (fail)
  refine (toQ_x A1 n1 c1 x1 w3 ((H1.out.below B3).more B3.size) HQ1.out hn1).mono ?_
  rintro e w4 ⟨hs_p1, g_p1, rfl, own4, bel4⟩
  have o_p1_4 := Lib.hid own4
  clear own4
  have s4 := bel4.size
  have B4 := B3.trans (bel4.mono B3.size)
  have c_a0_4 := (bel4.cell (p := ⟨w.heap.size, 0, none⟩) (by show w.heap.size < _; omega)).trans c_a0_3
  have o_p0_4 := Lib.hid (o_p0_3.out.below bel4)
  clear bel4 B3 o_p0_3 c_a0_3
  generalize w3.heap.size = m3 at *
  go_wp2_with (fail)
  refine (sSubstSeq_any A_p0 n0 n0 x0 (some ⟨g_p1, 0, none⟩) n1 n1 x1 w4 (o_p0_4.out.rd hl0) (o_p1_4.out.rd hl1) hn0 (Nat.le_refl _) hn1).mono ?_
  rw [HV.out, HVb.out]
  rintro e w5 ⟨hs_v, A_v, c_v, rfl, own5, bel5⟩
  have o_v_5 := Lib.hid own5
  clear own5
  have s5 := bel5.size
  have B5 := B4.trans (bel5.mono B4.size)
  have c_a0_5 := (bel5.cell (p := ⟨w.heap.size, 0, none⟩) (by show w.heap.size < _; omega)).trans c_a0_4
  have o_p0_5 := Lib.hid (o_p0_4.out.below bel5)
  have o_p1_5 := Lib.hid (o_p1_4.out.below bel5)
  clear bel5 B4 o_p0_4 o_p1_4 c_a0_4
  generalize w4.heap.size = m4 at *
  clear o_p0_5
  clear o_p1_5
  have bel6 : Below w5.heap.size w5 (w5.alloc (.cells #[Value.slice A_v V.length c_v] 50)) := box_below _ _ _
  have c_v_6 : (w5.alloc (.cells #[Value.slice A_v V.length c_v] 50)).cell? ⟨w5.heap.size, 0, none⟩ = some (Value.slice A_v V.length c_v) := by simp
  have t6 : w5.heap.size + 1 ≤ (w5.alloc (.cells #[Value.slice A_v V.length c_v] 50)).heap.size := by simp
  have c_a0_6 := (bel6.cell (p := ⟨w.heap.size, 0, none⟩) (by show w.heap.size < _; omega)).trans c_a0_5
  clear c_a0_5
  go_wp2_with (fail)
  generalize w5.alloc (.cells #[Value.slice A_v V.length c_v] 50) = w6 at *
  have s6 := bel6.size
  have B6 := B5.trans (bel6.mono B5.size)
  have o_v_6 := Lib.hid (o_v_5.out.below bel6)
  clear bel6 B5 o_v_5
  generalize w5.heap.size = m5 at *
  refine (toSeq_any A0 n0 c0 x0 w6 ((H0.out.below B6).more B6.size) HQ0.out hn0).mono ?_
  rintro e w7 ⟨hs_x0, A_x0, rfl, own7, bel7⟩
  have o_x0_7 := Lib.hid own7
  clear own7
  have s7 := bel7.size
  have B7 := B6.trans (bel7.mono B6.size)
  have c_a0_7 := (bel7.cell (p := ⟨w.heap.size, 0, none⟩) (by show w.heap.size < _; omega)).trans c_a0_6
  have c_v_7 := (bel7.cell (p := ⟨m5, 0, none⟩) (by show m5 < _; omega)).trans c_v_6
  have o_v_7 := Lib.hid (o_v_6.out.below bel7)
  clear bel7 B6 o_v_6 c_a0_6 c_v_6
  generalize w6.heap.size = m6 at *
  have bel8 : Below w7.heap.size w7 (w7.alloc (.cells #[Value.slice A_x0 n0 n0] 50)) := box_below _ _ _
  have c_x0_8 : (w7.alloc (.cells #[Value.slice A_x0 n0 n0] 50)).cell? ⟨w7.heap.size, 0, none⟩ = some (Value.slice A_x0 n0 n0) := by simp
  have t8 : w7.heap.size + 1 ≤ (w7.alloc (.cells #[Value.slice A_x0 n0 n0] 50)).heap.size := by simp
  have c_a0_8 := (bel8.cell (p := ⟨w.heap.size, 0, none⟩) (by show w.heap.size < _; omega)).trans c_a0_7
  have c_v_8 := (bel8.cell (p := ⟨m5, 0, none⟩) (by show m5 < _; omega)).trans c_v_7
  clear c_a0_7 c_v_7
  go_wp2_with (fail)
  generalize w7.alloc (.cells #[Value.slice A_x0 n0 n0] 50) = w8 at *
  have s8 := bel8.size
  have B8 := B7.trans (bel8.mono B7.size)
  have o_v_8 := Lib.hid (o_v_7.out.below bel8)
  have o_x0_8 := Lib.hid (o_x0_7.out.below bel8)
  clear bel8 B7 o_v_7 o_x0_7
  generalize w7.heap.size = m7 at *
  refine (toQ_x A1 n1 c1 x1 w8 ((H1.out.below B8).more B8.size) HQ1.out hn1).mono ?_
  rintro e w9 ⟨hs_x1, g_x1, rfl, own9, bel9⟩
  have o_x1_9 := Lib.hid own9
  clear own9
  have s9 := bel9.size
  have B9 := B8.trans (bel9.mono B8.size)
  have c_a0_9 := (bel9.cell (p := ⟨w.heap.size, 0, none⟩) (by show w.heap.size < _; omega)).trans c_a0_8
  have c_v_9 := (bel9.cell (p := ⟨m5, 0, none⟩) (by show m5 < _; omega)).trans c_v_8
  have c_x0_9 := (bel9.cell (p := ⟨m7, 0, none⟩) (by show m7 < _; omega)).trans c_x0_8
  have o_v_9 := Lib.hid (o_v_8.out.below bel9)
  have o_x0_9 := Lib.hid (o_x0_8.out.below bel9)
  clear bel9 B8 o_v_8 o_x0_8 c_a0_8 c_v_8 c_x0_8
  generalize w8.heap.size = m8 at *
  go_wp2_with (fail)
  refine (substSeq_impl A_x0 n0 n0 x0 (some ⟨g_x1, 0, none⟩) n1 n1 x1 w9 (o_x0_9.out.rd hl0) (o_x1_9.out.rd hl1) hn0 hn1 (HT.out.below B9 HT.out.lt) (HU.out.below B9 HU.out.lt)).mono ?_
  rw [HV.out, HVb.out]
  rintro e w10 ⟨hs_g, A_g, c_g, rfl, own10, bel10⟩
  have o_g_10 := Lib.hid own10
  clear own10
  have s10 := bel10.size
  have B10 := B9.trans (bel10.mono B9.size)
  have c_a0_10 := (bel10.cell (p := ⟨w.heap.size, 0, none⟩) (by show w.heap.size < _; omega)).trans c_a0_9
  have c_v_10 := (bel10.cell (p := ⟨m5, 0, none⟩) (by show m5 < _; omega)).trans c_v_9
  have c_x0_10 := (bel10.cell (p := ⟨m7, 0, none⟩) (by show m7 < _; omega)).trans c_x0_9
  have o_v_10 := Lib.hid (o_v_9.out.below bel10)
  have o_x0_10 := Lib.hid (o_x0_9.out.below bel10)
  have o_x1_10 := Lib.hid (o_x1_9.out.below bel10)
  clear bel10 B9 o_v_9 o_x0_9 o_x1_9 c_a0_9 c_v_9 c_x0_9
  generalize w9.heap.size = m9 at *
  have bel11 : Below w10.heap.size w10 (w10.alloc (.cells #[Value.slice A_g V.length c_g] 50)) := box_below _ _ _
  have c_g_11 : (w10.alloc (.cells #[Value.slice A_g V.length c_g] 50)).cell? ⟨w10.heap.size, 0, none⟩ = some (Value.slice A_g V.length c_g) := by simp
  have t11 : w10.heap.size + 1 ≤ (w10.alloc (.cells #[Value.slice A_g V.length c_g] 50)).heap.size := by simp
  have c_a0_11 := (bel11.cell (p := ⟨w.heap.size, 0, none⟩) (by show w.heap.size < _; omega)).trans c_a0_10
  have c_v_11 := (bel11.cell (p := ⟨m5, 0, none⟩) (by show m5 < _; omega)).trans c_v_10
  have c_x0_11 := (bel11.cell (p := ⟨m7, 0, none⟩) (by show m7 < _; omega)).trans c_x0_10
  clear c_a0_10 c_v_10 c_x0_10
  go_wp2_with (fail)
  generalize w10.alloc (.cells #[Value.slice A_g V.length c_g] 50) = w11 at *
  have s11 := bel11.size
  have B11 := B10.trans (bel11.mono B10.size)
  have o_v_11 := Lib.hid (o_v_10.out.below bel11)
  have o_x0_11 := Lib.hid (o_x0_10.out.below bel11)
  have o_x1_11 := Lib.hid (o_x1_10.out.below bel11)
  have o_g_11 := Lib.hid (o_g_10.out.below bel11)
  clear bel11 B10 o_v_10 o_x0_10 o_x1_10 o_g_10
  generalize w10.heap.size = m10 at *
  refine (eqSeq_any _ _ _ _ _ _ V V w11 (o_g_11.out.rd rfl) (o_v_11.out.rd rfl) hv1 hv1 HV3.out HV3.out).mono ?_
  rw [decide_eq_true (rfl : V = V)]
  rintro e w12 ⟨rfl, bel12⟩
  have s12 := bel12.size
  have B12 := B11.trans (bel12.mono B11.size)
  have c_a0_12 := (bel12.cell (p := ⟨w.heap.size, 0, none⟩) (by show w.heap.size < _; omega)).trans c_a0_11
  have c_v_12 := (bel12.cell (p := ⟨m5, 0, none⟩) (by show m5 < _; omega)).trans c_v_11
  have c_x0_12 := (bel12.cell (p := ⟨m7, 0, none⟩) (by show m7 < _; omega)).trans c_x0_11
  have c_g_12 := (bel12.cell (p := ⟨m10, 0, none⟩) (by show m10 < _; omega)).trans c_g_11
  have o_v_12 := Lib.hid (o_v_11.out.below bel12)
  have o_x0_12 := Lib.hid (o_x0_11.out.below bel12)
  have o_x1_12 := Lib.hid (o_x1_11.out.below bel12)
  have o_g_12 := Lib.hid (o_g_11.out.below bel12)
  clear bel12 B11 o_v_11 o_x0_11 o_x1_11 o_g_11 c_a0_11 c_v_11 c_x0_11 c_g_11
  generalize w11.heap.size = m11 at *
  have R_x := Lib.hid (o_x0_12.out.rd hl0)
  have HBx := Lib.hid B12
  go_upto_region 14 with (fail)
  go_cut [58] (fun b wx => b = .bool false ∧ Below w12.heap.size w12 wx)
  case first =>
    go_wp2_with (fail)
    go_region_with (first
      | (go_at_call 36; refine (toSeq_any A0 n0 c0 x0 w12.drew ((H0.out.below HBx.out).more HBx.out.size) HQ0.out hn0).mono ?_; rintro e wt ⟨hst, At, rfl, ownt, belt'⟩; have belt := undrew belt'; have cxt := (belt.cell (p := ⟨m7, 0, none⟩) (by show m7 < _; omega)).trans c_x0_12; have R7 := Lib.hid ((R_x.out.below belt).more belt.size); have S7 := Lib.hid (ownt.rd hl0); have B7 := Lib.hid belt; clear ownt belt belt')
      | (go_at_call 38; refine (eqSeq_any _ _ _ _ _ _ x0 x0 _ R7.out S7.out hn0 hn0 HQ0.out HQ0.out).mono ?_; rw [decide_eq_true (rfl : x0 = x0)]; rintro e wu ⟨rfl, belu⟩; have B8 := Lib.hid (B7.out.trans (belu.mono B7.out.size)); clear belu))
    all_goals (try go_wp2_with (fail))
    all_goals go_meet
    all_goals exact ⟨rfl, B8.out⟩
  case rest =>
  obtain ⟨rfl, bel13⟩ := hcut
  clear R_x HBx
  rename World => w13
  have s13 := bel13.size
  have B13 := B12.trans (bel13.mono B12.size)
  have c_a0_13 := (bel13.cell (p := ⟨w.heap.size, 0, none⟩) (by show w.heap.size < _; omega)).trans c_a0_12
  have c_v_13 := (bel13.cell (p := ⟨m5, 0, none⟩) (by show m5 < _; omega)).trans c_v_12
  have c_x0_13 := (bel13.cell (p := ⟨m7, 0, none⟩) (by show m7 < _; omega)).trans c_x0_12
  have c_g_13 := (bel13.cell (p := ⟨m10, 0, none⟩) (by show m10 < _; omega)).trans c_g_12
  have o_v_13 := Lib.hid (o_v_12.out.below bel13)
  have o_x0_13 := Lib.hid (o_x0_12.out.below bel13)
  have o_x1_13 := Lib.hid (o_x1_12.out.below bel13)
  have o_g_13 := Lib.hid (o_g_12.out.below bel13)
  clear bel13 B12 o_v_12 o_x0_12 o_x1_12 o_g_12 c_a0_12 c_v_12 c_x0_12 c_g_12
  generalize w12.heap.size = m12 at *
  go_wp2_with (fail)
  refine (toQ_x A1 n1 c1 x1 w13 ((H1.out.below B13).more B13.size) HQ1.out hn1).mono ?_
  rintro e w14 ⟨hs_t, g_t, rfl, own14, bel14⟩
  have o_t_14 := Lib.hid own14
  clear own14
  have s14 := bel14.size
  have B14 := B13.trans (bel14.mono B13.size)
  have c_a0_14 := (bel14.cell (p := ⟨w.heap.size, 0, none⟩) (by show w.heap.size < _; omega)).trans c_a0_13
  have c_v_14 := (bel14.cell (p := ⟨m5, 0, none⟩) (by show m5 < _; omega)).trans c_v_13
  have c_x0_14 := (bel14.cell (p := ⟨m7, 0, none⟩) (by show m7 < _; omega)).trans c_x0_13
  have c_g_14 := (bel14.cell (p := ⟨m10, 0, none⟩) (by show m10 < _; omega)).trans c_g_13
  have o_v_14 := Lib.hid (o_v_13.out.below bel14)
  have o_x0_14 := Lib.hid (o_x0_13.out.below bel14)
  have o_x1_14 := Lib.hid (o_x1_13.out.below bel14)
  have o_g_14 := Lib.hid (o_g_13.out.below bel14)
  clear bel14 B13 o_v_13 o_x0_13 o_x1_13 o_g_13 c_a0_13 c_v_13 c_x0_13 c_g_13
  generalize w13.heap.size = m13 at *
  go_wp2_with (fail)
  refine (eqQ_x _ _ _ _ _ x1 w14 (o_x1_14.out.rd hl1) (o_t_14.out.rd hl1) hn1 HQ1.out).mono ?_
  rintro e w15 ⟨rfl, bel15⟩
  have s15 := bel15.size
  have B15 := B14.trans (bel15.mono B14.size)
  have c_a0_15 := (bel15.cell (p := ⟨w.heap.size, 0, none⟩) (by show w.heap.size < _; omega)).trans c_a0_14
  have c_v_15 := (bel15.cell (p := ⟨m5, 0, none⟩) (by show m5 < _; omega)).trans c_v_14
  have c_x0_15 := (bel15.cell (p := ⟨m7, 0, none⟩) (by show m7 < _; omega)).trans c_x0_14
  have c_g_15 := (bel15.cell (p := ⟨m10, 0, none⟩) (by show m10 < _; omega)).trans c_g_14
  have o_v_15 := Lib.hid (o_v_14.out.below bel15)
  have o_x0_15 := Lib.hid (o_x0_14.out.below bel15)
  have o_x1_15 := Lib.hid (o_x1_14.out.below bel15)
  have o_g_15 := Lib.hid (o_g_14.out.below bel15)
  have o_t_15 := Lib.hid (o_t_14.out.below bel15)
  clear bel15 B14 o_v_14 o_x0_14 o_x1_14 o_g_14 o_t_14 c_a0_14 c_v_14 c_x0_14 c_g_14
  generalize w14.heap.size = m14 at *
  clear o_t_15
  go_wp2_with (fail)
  refine (markSeq_any _ _ _ _ x0 (1) w15 _ _ o_x0_15.out hl0 hn0 hT0 (by omega) (by omega)).mono ?_
  rintro e w16 ⟨rfl, own16, kp16⟩
  have o_x0_16 := Lib.hid own16
  clear own16
  have s16 := kp16.size
  have B16 := kp16.to_below B15 (by omega) B15.size
  have c_a0_16 := (kept_cell kp16 (p := ⟨w.heap.size, 0, none⟩) (by show w.heap.size < _; omega) (by show w.heap.size < _ ∨ _ ≤ w.heap.size; omega)).trans c_a0_15
  have c_v_16 := (kept_cell kp16 (p := ⟨m5, 0, none⟩) (by show m5 < _; omega) (by show m5 < _ ∨ _ ≤ m5; omega)).trans c_v_15
  have c_x0_16 := (kept_cell kp16 (p := ⟨m7, 0, none⟩) (by show m7 < _; omega) (by show m7 < _ ∨ _ ≤ m7; omega)).trans c_x0_15
  have c_g_16 := (kept_cell kp16 (p := ⟨m10, 0, none⟩) (by show m10 < _; omega) (by show m10 < _ ∨ _ ≤ m10; omega)).trans c_g_15
  have o_v_16 := Lib.hid (o_v_15.out.kept kp16 (by omega))
  have o_x1_16 := Lib.hid (o_x1_15.out.kept kp16 (by omega))
  have o_g_16 := Lib.hid (o_g_15.out.kept kp16 (by omega))
  clear kp16 B15 o_v_15 o_x0_15 o_x1_15 o_g_15 c_a0_15 c_v_15 c_x0_15 c_g_15
  generalize w15.heap.size = m15 at *
  go_wp2_with (fail)
  refine (markQ_x _ _ _ _ x1 (1 + (total x0 : Int)) w16 _ _ o_x1_16.out hl1 hn1 hT1 (by omega) (by omega)).mono ?_
  rintro e w17 ⟨rfl, own17, kp17⟩
  have o_x1_17 := Lib.hid own17
  clear own17
  have s17 := kp17.size
  have B17 := kp17.to_below B16 (by omega) B16.size
  have c_a0_17 := (kept_cell kp17 (p := ⟨w.heap.size, 0, none⟩) (by show w.heap.size < _; omega) (by show w.heap.size < _ ∨ _ ≤ w.heap.size; omega)).trans c_a0_16
  have c_v_17 := (kept_cell kp17 (p := ⟨m5, 0, none⟩) (by show m5 < _; omega) (by show m5 < _ ∨ _ ≤ m5; omega)).trans c_v_16
  have c_x0_17 := (kept_cell kp17 (p := ⟨m7, 0, none⟩) (by show m7 < _; omega) (by show m7 < _ ∨ _ ≤ m7; omega)).trans c_x0_16
  have c_g_17 := (kept_cell kp17 (p := ⟨m10, 0, none⟩) (by show m10 < _; omega) (by show m10 < _ ∨ _ ≤ m10; omega)).trans c_g_16
  have o_v_17 := Lib.hid (o_v_16.out.kept kp17 (by omega))
  have o_x0_17 := Lib.hid (o_x0_16.out.kept kp17 (by omega))
  have o_g_17 := Lib.hid (o_g_16.out.kept kp17 (by omega))
  clear kp17 B16 o_v_16 o_x0_16 o_x1_16 o_g_16 c_a0_16 c_v_16 c_x0_16 c_g_16
  generalize w16.heap.size = m16 at *
  have hkk : decide (1 + (total x0 : Int) + (total x1 : Int) < 0) = false := decide_eq_false (by omega)
  clear o_x0_17
  clear o_x1_17
  go_wp2_with (fail)
  refine (eqSeq_any _ _ _ _ _ _ V V w17 (o_g_17.out.rd rfl) (o_v_17.out.rd rfl) hv1 hv1 HV3.out HV3.out).mono ?_
  rw [decide_eq_true (rfl : V = V)]
  rintro e w18 ⟨rfl, bel18⟩
  have s18 := bel18.size
  have B18 := B17.trans (bel18.mono B17.size)
  have c_a0_18 := (bel18.cell (p := ⟨w.heap.size, 0, none⟩) (by show w.heap.size < _; omega)).trans c_a0_17
  have c_v_18 := (bel18.cell (p := ⟨m5, 0, none⟩) (by show m5 < _; omega)).trans c_v_17
  have c_x0_18 := (bel18.cell (p := ⟨m7, 0, none⟩) (by show m7 < _; omega)).trans c_x0_17
  have c_g_18 := (bel18.cell (p := ⟨m10, 0, none⟩) (by show m10 < _; omega)).trans c_g_17
  have o_v_18 := Lib.hid (o_v_17.out.below bel18)
  have o_g_18 := Lib.hid (o_g_17.out.below bel18)
  clear bel18 B17 o_v_17 o_g_17 c_a0_17 c_v_17 c_x0_17 c_g_17
  generalize w17.heap.size = m17 at *
  have hmm : decide (1 + (total V : Int) < 0) = false := decide_eq_false (by omega)
  go_wp2_with (fail)
  refine (markSeq_any _ _ _ _ V (1) w18 _ _ o_g_18.out rfl hv1 hv2 (by omega) (by omega)).mono ?_
  rintro e w19 ⟨rfl, own19, kp19⟩
  have o_g_19 := Lib.hid own19
  clear own19
  have s19 := kp19.size
  have B19 := kp19.to_below B18 (by omega) B18.size
  have c_a0_19 := (kept_cell kp19 (p := ⟨w.heap.size, 0, none⟩) (by show w.heap.size < _; omega) (by show w.heap.size < _ ∨ _ ≤ w.heap.size; omega)).trans c_a0_18
  have c_v_19 := (kept_cell kp19 (p := ⟨m5, 0, none⟩) (by show m5 < _; omega) (by show m5 < _ ∨ _ ≤ m5; omega)).trans c_v_18
  have c_x0_19 := (kept_cell kp19 (p := ⟨m7, 0, none⟩) (by show m7 < _; omega) (by show m7 < _ ∨ _ ≤ m7; omega)).trans c_x0_18
  have c_g_19 := (kept_cell kp19 (p := ⟨m10, 0, none⟩) (by show m10 < _; omega) (by show m10 < _ ∨ _ ≤ m10; omega)).trans c_g_18
  have o_v_19 := Lib.hid (o_v_18.out.kept kp19 (by omega))
  clear kp19 B18 o_v_18 o_g_18 c_a0_18 c_v_18 c_x0_18 c_g_18
  generalize w18.heap.size = m18 at *
  go_wp2_with (fail)
  refine (heldSeq_any _ _ _ V 1 w19 (o_g_19.out.rd (mrkQ_len _ _)) hv1 hv2 (by decide) (by decide)).mono ?_
  rintro e w20 ⟨rfl, bel20⟩
  have s20 := bel20.size
  have B20 := B19.trans (bel20.mono B19.size)
  have c_a0_20 := (bel20.cell (p := ⟨w.heap.size, 0, none⟩) (by show w.heap.size < _; omega)).trans c_a0_19
  have c_v_20 := (bel20.cell (p := ⟨m5, 0, none⟩) (by show m5 < _; omega)).trans c_v_19
  have c_x0_20 := (bel20.cell (p := ⟨m7, 0, none⟩) (by show m7 < _; omega)).trans c_x0_19
  have c_g_20 := (bel20.cell (p := ⟨m10, 0, none⟩) (by show m10 < _; omega)).trans c_g_19
  have o_v_20 := Lib.hid (o_v_19.out.below bel20)
  have o_g_20 := Lib.hid (o_g_19.out.below bel20)
  clear bel20 B19 o_v_19 o_g_19 c_a0_19 c_v_19 c_x0_19 c_g_19
  generalize w19.heap.size = m19 at *
  go_wp2_with (fail)
  refine (toSeq_any A0 n0 c0 x0 w20 ((H0.out.below B20).more B20.size) HQ0.out hn0).mono ?_
  rintro e w21 ⟨hs_b0, A_b0, rfl, own21, bel21⟩
  have o_b0_21 := Lib.hid own21
  clear own21
  have s21 := bel21.size
  have B21 := B20.trans (bel21.mono B20.size)
  have c_a0_21 := (bel21.cell (p := ⟨w.heap.size, 0, none⟩) (by show w.heap.size < _; omega)).trans c_a0_20
  have c_v_21 := (bel21.cell (p := ⟨m5, 0, none⟩) (by show m5 < _; omega)).trans c_v_20
  have c_x0_21 := (bel21.cell (p := ⟨m7, 0, none⟩) (by show m7 < _; omega)).trans c_x0_20
  have c_g_21 := (bel21.cell (p := ⟨m10, 0, none⟩) (by show m10 < _; omega)).trans c_g_20
  have o_v_21 := Lib.hid (o_v_20.out.below bel21)
  have o_g_21 := Lib.hid (o_g_20.out.below bel21)
  clear bel21 B20 o_v_20 o_g_20 c_a0_20 c_v_20 c_x0_20 c_g_20
  generalize w20.heap.size = m20 at *
  go_wp2_with (fail)
  refine (toQ_x A1 n1 c1 x1 w21 ((H1.out.below B21).more B21.size) HQ1.out hn1).mono ?_
  rintro e w22 ⟨hs_b1, g_b1, rfl, own22, bel22⟩
  have o_b1_22 := Lib.hid own22
  clear own22
  have s22 := bel22.size
  have B22 := B21.trans (bel22.mono B21.size)
  have c_a0_22 := (bel22.cell (p := ⟨w.heap.size, 0, none⟩) (by show w.heap.size < _; omega)).trans c_a0_21
  have c_v_22 := (bel22.cell (p := ⟨m5, 0, none⟩) (by show m5 < _; omega)).trans c_v_21
  have c_x0_22 := (bel22.cell (p := ⟨m7, 0, none⟩) (by show m7 < _; omega)).trans c_x0_21
  have c_g_22 := (bel22.cell (p := ⟨m10, 0, none⟩) (by show m10 < _; omega)).trans c_g_21
  have o_v_22 := Lib.hid (o_v_21.out.below bel22)
  have o_g_22 := Lib.hid (o_g_21.out.below bel22)
  have o_b0_22 := Lib.hid (o_b0_21.out.below bel22)
  clear bel22 B21 o_v_21 o_g_21 o_b0_21 c_a0_21 c_v_21 c_x0_21 c_g_21
  generalize w21.heap.size = m21 at *
  go_wp2_with (fail)
  refine (substSeq_impl A_b0 n0 n0 x0 (some ⟨g_b1, 0, none⟩) n1 n1 x1 w22 (o_b0_22.out.rd hl0) (o_b1_22.out.rd hl1) hn0 hn1 (HT.out.below B22 HT.out.lt) (HU.out.below B22 HU.out.lt)).mono ?_
  rw [HV.out, HVb.out]
  rintro e w23 ⟨hs_hh, A_hh, c_hh, rfl, own23, bel23⟩
  have o_hh_23 := Lib.hid own23
  clear own23
  have s23 := bel23.size
  have B23 := B22.trans (bel23.mono B22.size)
  have c_a0_23 := (bel23.cell (p := ⟨w.heap.size, 0, none⟩) (by show w.heap.size < _; omega)).trans c_a0_22
  have c_v_23 := (bel23.cell (p := ⟨m5, 0, none⟩) (by show m5 < _; omega)).trans c_v_22
  have c_x0_23 := (bel23.cell (p := ⟨m7, 0, none⟩) (by show m7 < _; omega)).trans c_x0_22
  have c_g_23 := (bel23.cell (p := ⟨m10, 0, none⟩) (by show m10 < _; omega)).trans c_g_22
  have o_v_23 := Lib.hid (o_v_22.out.below bel23)
  have o_g_23 := Lib.hid (o_g_22.out.below bel23)
  have o_b0_23 := Lib.hid (o_b0_22.out.below bel23)
  have o_b1_23 := Lib.hid (o_b1_22.out.below bel23)
  clear bel23 B22 o_v_22 o_g_22 o_b0_22 o_b1_22 c_a0_22 c_v_22 c_x0_22 c_g_22
  generalize w22.heap.size = m22 at *
  clear o_b0_23
  clear o_b1_23
  have bel24 : Below w23.heap.size w23 (w23.alloc (.cells #[Value.slice A_hh V.length c_hh] 50)) := box_below _ _ _
  have c_h_24 : (w23.alloc (.cells #[Value.slice A_hh V.length c_hh] 50)).cell? ⟨w23.heap.size, 0, none⟩ = some (Value.slice A_hh V.length c_hh) := by simp
  have t24 : w23.heap.size + 1 ≤ (w23.alloc (.cells #[Value.slice A_hh V.length c_hh] 50)).heap.size := by simp
  have c_a0_24 := (bel24.cell (p := ⟨w.heap.size, 0, none⟩) (by show w.heap.size < _; omega)).trans c_a0_23
  have c_v_24 := (bel24.cell (p := ⟨m5, 0, none⟩) (by show m5 < _; omega)).trans c_v_23
  have c_x0_24 := (bel24.cell (p := ⟨m7, 0, none⟩) (by show m7 < _; omega)).trans c_x0_23
  have c_g_24 := (bel24.cell (p := ⟨m10, 0, none⟩) (by show m10 < _; omega)).trans c_g_23
  clear c_a0_23 c_v_23 c_x0_23 c_g_23
  go_wp2_with (fail)
  generalize w23.alloc (.cells #[Value.slice A_hh V.length c_hh] 50) = w24 at *
  have s24 := bel24.size
  have B24 := B23.trans (bel24.mono B23.size)
  have o_v_24 := Lib.hid (o_v_23.out.below bel24)
  have o_g_24 := Lib.hid (o_g_23.out.below bel24)
  have o_hh_24 := Lib.hid (o_hh_23.out.below bel24)
  clear bel24 B23 o_v_23 o_g_23 o_hh_23
  generalize w23.heap.size = m23 at *
  refine (eqSeq_any _ _ _ _ _ _ V V w24 (o_hh_24.out.rd rfl) (o_v_24.out.rd rfl) hv1 hv1 HV3.out HV3.out).mono ?_
  rw [decide_eq_true (rfl : V = V)]
  rintro e w25 ⟨rfl, bel25⟩
  have s25 := bel25.size
  have B25 := B24.trans (bel25.mono B24.size)
  have c_a0_25 := (bel25.cell (p := ⟨w.heap.size, 0, none⟩) (by show w.heap.size < _; omega)).trans c_a0_24
  have c_v_25 := (bel25.cell (p := ⟨m5, 0, none⟩) (by show m5 < _; omega)).trans c_v_24
  have c_x0_25 := (bel25.cell (p := ⟨m7, 0, none⟩) (by show m7 < _; omega)).trans c_x0_24
  have c_g_25 := (bel25.cell (p := ⟨m10, 0, none⟩) (by show m10 < _; omega)).trans c_g_24
  have c_h_25 := (bel25.cell (p := ⟨m23, 0, none⟩) (by show m23 < _; omega)).trans c_h_24
  have o_v_25 := Lib.hid (o_v_24.out.below bel25)
  have o_g_25 := Lib.hid (o_g_24.out.below bel25)
  have o_hh_25 := Lib.hid (o_hh_24.out.below bel25)
  clear bel25 B24 o_v_24 o_g_24 o_hh_24 c_a0_24 c_v_24 c_x0_24 c_g_24 c_h_24
  generalize w24.heap.size = m24 at *
  go_wp2_with (fail)
  refine (heldSeq_any _ _ _ V 1 w25 (o_g_25.out.rd (mrkQ_len _ _)) hv1 hv2 (by decide) (by decide)).mono ?_
  rintro e w26 ⟨rfl, bel26⟩
  have s26 := bel26.size
  have B26 := B25.trans (bel26.mono B25.size)
  have c_a0_26 := (bel26.cell (p := ⟨w.heap.size, 0, none⟩) (by show w.heap.size < _; omega)).trans c_a0_25
  have c_v_26 := (bel26.cell (p := ⟨m5, 0, none⟩) (by show m5 < _; omega)).trans c_v_25
  have c_x0_26 := (bel26.cell (p := ⟨m7, 0, none⟩) (by show m7 < _; omega)).trans c_x0_25
  have c_g_26 := (bel26.cell (p := ⟨m10, 0, none⟩) (by show m10 < _; omega)).trans c_g_25
  have c_h_26 := (bel26.cell (p := ⟨m23, 0, none⟩) (by show m23 < _; omega)).trans c_h_25
  have o_v_26 := Lib.hid (o_v_25.out.below bel26)
  have o_g_26 := Lib.hid (o_g_25.out.below bel26)
  have o_hh_26 := Lib.hid (o_hh_25.out.below bel26)
  clear bel26 B25 o_v_25 o_g_25 o_hh_25 c_a0_25 c_v_25 c_x0_25 c_g_25 c_h_25
  generalize w25.heap.size = m25 at *
  have HB := Lib.hid B26
  go_wp2
  go_ret
  exact ⟨rfl, HB.out⟩

theorem walk (A0 : Option Addr) (n0 c0 : Nat) (x0 : List (List Int)) (A1 : Option Addr) (n1 c1 : Nat) (x1 : List (List Int)) (w : World) (h0 : RdQ w w.heap.size A0 n0 x0) (_hc0 : n0 ≤ c0) (hm0 : n0 ≤ maxLen) (hqm0 : ∀ q ∈ x0, q.length ≤ maxLen) (_hw0 : ∀ q ∈ x0, ∀ z ∈ q, (Lit.int .i64 z).wf = true) (h1 : RdQ w w.heap.size A1 n1 x1) (_hc1 : n1 ≤ c1) (hm1 : n1 ≤ maxLen) (hqm1 : ∀ q ∈ x1, q.length ≤ maxLen) (_hw1 : ∀ q ∈ x1, ∀ z ∈ q, (Lit.int .i64 z).wf = true) (ht : Arit w) (hu : Dual w) :
    Calls Tryd.prog 8 #[.agg #[.slice A0 n0 c0], .slice A1 n1 c1] w fun e w' => e = .returned (.bool true) ∧ Below w.heap.size w w' := by
  rcases sz_casesL 1048576 (by decide) n0 x0 with hb | ⟨L0, hs0, hL0, hL'0, hn0, hT0⟩
  · exact walk_big0 A0 n0 c0 x0 A1 n1 c1 x1  w h0 hm0 hqm0  hb
  ·
    rcases sz_casesL L0 hL'0 n1 x1 with hb | ⟨L1, hs1, hL1, hL'1, hn1, hT1⟩
    · exact walk_big1 A0 n0 c0 x0 A1 n1 c1 x1 L0 w h0 h1 hm0 hqm0 hm1 hqm1 hs0 hL0 hL'0 hn0 hT0 hb
    ·
      exact walk_mid A0 n0 c0 x0 A1 n1 c1 x1 L0 L1 w h0 h1 hs0 hL0 hL'0 hn0 hT0 hs1 hL1 hL'1 hn1 hT1 ht hu


set_option maxRecDepth 100000 in
/-- What the walk gives, for all arguments and every world that holds the tables. -/
theorem contract (H : Type) (enc : TypeId × Value → H) (W : World) (base : Nat) (args : Array Value) (ds gs : List (DataW H)) (before : List MemPlace)
    (hval : ∀ (j : Nat) t v, Tryd.f8.params[j]? = some t → args[j]? = some v → Value.okWide Tryd.prog W .any base t v)
    (hW : DataW.Whole enc Tryd.prog Tryd.f8.params.toList Rows.fnExactSubstSeqSpec.vars false W args.toList ds gs before) (hL : laidMetH Tryd.prog Rows.fnExactSubstSeqRow.laid W) :
    Calls Tryd.prog 8 args W fun e W' => ∃ v, e = .returned v ∧ Rows.fnExactSubstSeqSpec.post enc Tryd.prog Tryd.f8 false true false false W args v W' := by
  have hW' := hW
  obtain ⟨p, q, hA0, hV, rfl, hfz, hnd⟩ := hW
  have hA : DataW.TrodAll enc Tryd.prog W 0 (fun _ => true) true Tryd.f8.params.toList args.toList ds p := hA0
  rw [Tryd.params8] at hA hval
  obtain ⟨v0, vs0, d0, ds0, p0, q0, hargs, rfl, rfl, h0, r0⟩ := trodAll_cons hA
  obtain ⟨v1, vs1, d1, ds1, p1, q1, rfl, rfl, rfl, h1, r1⟩ := trodAll_cons r0
  obtain ⟨rfl, rfl, rfl⟩ := trodAll_nil r1
  obtain rfl : args = #[v0, v1] := by cases args; simp_all
  have k0 := h0
  have lt0 : ∀ x ∈ p0, x.block < W.heap.size := by obtain ⟨m, hm⟩ := k0; exact DataW.trod_lt m _ _ _ hm
  obtain ⟨a0, len0, cap0, z0, rfl, w0, c0, m0, l0, b0⟩ := open_seq (hval 0 48 v0 rfl rfl) h0
  have k1 := h1
  have lt1 : ∀ x ∈ p1, x.block < W.heap.size := by obtain ⟨m, hm⟩ := k1; exact DataW.trod_lt m _ _ _ hm
  obtain ⟨a1, len1, cap1, z1, rfl, w1, c1, m1, l1, b1⟩ := open_q (hval 1 25 v1 rfl rfl) h1
  have ht : Arit W := arit_of hL
  have hu : Dual W := dual_of hL
  have hv1 := hV
  obtain ⟨g0, t0, cs0, f0, e0, p0', g1, t1, cs1, f1, e1, p1', rfl, _, _, _, _, _, _, _, _, rfl⟩ := trodVars_two hV
  clear hA0
  refine (walk a0 len0 cap0 z0 a1 len1 cap1 z1 W w0 c0 m0 l0 b0 w1 c1 m1 l1 b1 ht hu).mono fun e W' ⟨he, bel⟩ => ?_
  subst he
  exact ⟨_, rfl, _, _, _, [], _, _, hW', trodAll_mk1 (shut_bool Tryd.underlying4 _),
    (trodAll_cons_mk (Below.trod laidOut (by kernel_rfl) (of_decide_eq_true (by kernel_rfl)) k0 bel lt0) (trodAll_cons_mk (Below.trod laidOut (by kernel_rfl) (of_decide_eq_true (by kernel_rfl)) k1 bel lt1) trodAll_mk0)),
    vars_below bel (readable_all _ (by kernel_rfl)) hv1, bel.frame _, fun h => by cases h⟩

theorem laid_met (os : Os) : laidMet Tryd.prog Rows.fnExactSubstSeqRow.laid ((laidWorld os).forCall (fun _ _ => 0) ⟨#[], #[.agg #[.slice none 0 0], .slice none 0 0], []⟩).memory :=
  laidMet_of_run' 8 (by kernel_rfl) (by kernel_rfl)
theorem reads (os : Os) {H : Type} (enc : TypeId × Value → H) : ∃ x, DataW.whole enc Tryd.prog ((laidWorld os).forCall (fun _ _ => 0) ⟨#[], #[.agg #[.slice none 0 0], .slice none 0 0], []⟩).memory Tryd.f8.params.toList Rows.fnExactSubstSeqSpec.vars false (#[.agg #[.slice none 0 0], .slice none 0 0] : Array Value).toList 8 = some x :=
  Option.isSome_iff_exists.1 (by kernel_rfl)

set_option maxRecDepth 100000 in
theorem lifted (os : Os) (started : os.Started) (H : Type) (enc : TypeId × Value → H) (F : Stop.Interp) :
    ReturnsInHanded {} Tryd.checked os 8 .any ((OpenSpec.ofChange Rows.fnExactSubstSeqSpec).preRow enc Tryd.prog Tryd.f8 Rows.fnExactSubstSeqRow.domain false Rows.fnExactSubstSeqRow.laid) (((OpenSpec.ofChange Rows.fnExactSubstSeqSpec).at F).post enc Tryd.prog Tryd.f8 false true false false) := by
  obtain ⟨places, hx⟩ := reads os enc
  refine returnsInHanded_of_row (C := Tryd.checked) (s := OpenSpec.ofChange Rows.fnExactSubstSeqSpec) own started (by kernel_rfl) Tryd.func8
    (witness_row_at (enc := enc) (C := Tryd.checked) false (laidWorld os) #[.agg #[.slice none 0 0], .slice none 0 0] rfl (by kernel_rfl) (by kernel_rfl) (by kernel_rfl)
      (OpenSpec.preRow_of_cond 8 hx rfl (fun k hk => by cases hk) (by kernel_rfl) (laid_met os))) ?_
  intro W base args ds gs before hval hW _ _ _ hL _ _
  exact contract H enc W base args ds gs before hval hW hL

theorem said : Rows.FnExactSubstSeqSaid :=
  OpenClaim.holds_of_cond 8 Tryd.f8 rfl rfl rfl rfl rfl rfl rfl ⟨rfl, rfl, rfl, rfl, rfl⟩ rfl rfl rfl rfl rfl (by kernel_rfl) Tryd.func8 (by kernel_rfl)
    (of_decide_eq_true (by kernel_rfl)) (by unfold Func.isWrapper; first | (rw [if_pos (by decide +kernel)]; kernel_rfl) | (rw [if_neg (by decide +kernel)]; exact ⟨rfl, rfl⟩))
    (fun os started H enc _ F => by rw [OpenClaim.pre_eq_preRow]; exact lifted os started H enc F)

theorem plain (f : FuncId) (fn : Func) (hf : Tryd.pinned.checked.prog.funcNamed "loop.example/g00872/laws.FnExactSubstSeq" = some f) (hfn : Tryd.pinned.checked.prog.funcs[f]? = some fn) :
    Rows.fnExactSubstSeqCard.stood.looks = Tryd.pinned.checked.prog.looks [] ∧ ∀ (j : Nat) t, fn.params[j]? = some t → Tryd.pinned.checked.prog.wantsStandIn t = false := by
  obtain rfl : f = 8 := Option.some.inj ((show Tryd.prog.funcNamed "loop.example/g00872/laws.FnExactSubstSeq" = some 8 by kernel_rfl).symm.trans hf) |>.symm
  obtain rfl : fn = Tryd.f8 := (Option.some.inj (Tryd.func8.symm.trans hfn)).symm
  refine ⟨by kernel_rfl, fun j t ht => ?_⟩
  rw [Tryd.params8] at ht
  have hm : t ∈ [48, 25] := by simpa using Array.mem_of_getElem? ht
  have hall : ([48, 25].all fun u => !Tryd.prog.wantsStandIn u) = true := by kernel_rfl
  exact (show Tryd.prog.wantsStandIn t = false by simpa using List.all_eq_true.1 hall t hm)

/-- The statement. -/
theorem card : Rows.FnExactSubstSeqCardSaid :=
  Claim7.holds_tied_plain_at .later [] _ _ _ _ said (fun _ h => by cases h) (by kernel_rfl) (fun _ h => by cases h) fnExactSubstSeq_row_tie rfl ⟨rfl, rfl⟩ (by kernel_rfl) rfl plain (by kernel_rfl)
end Go.Proofs.YtoniekjchabjlaaDoor.fnExactSubstSeq
