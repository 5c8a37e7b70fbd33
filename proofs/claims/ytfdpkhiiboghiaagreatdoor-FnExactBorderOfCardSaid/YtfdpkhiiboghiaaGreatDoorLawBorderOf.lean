/- Proved: for all arguments the law that BorderOf answers as its model, leaves its arguments and shares no memory answers true and leaves its arguments as they were (FnExactBorderOf). Conditions: the row's own: the listed tables read as the program's text lays them, which the card ties to that text. -/
import Derived.Test.YtfdpkhiiboghiaaGreatDoorKQMath
import Derived.Test.YtfdpkhiiboghiaaGreatDoorKQEmA
import Derived.Test.YtfdpkhiiboghiaaGreatDoorKQNetF
import Derived.Test.YtfdpkhiiboghiaaGreatDoorKEmE1
import Derived.Test.YtfdpkhiiboghiaaGreatDoorKEmG
namespace Go.Proofs.YtfdpkhiiboghiaaGreatDoor.fnExactBorderOf
set_option linter.unusedSimpArgs false
set_option linter.unusedVariables false
open Go.ChangeShapes Go.WideShapes Go.ChangeAt Go.RowKit

set_option maxRecDepth 100000 in
theorem walk_big1 (h0 : NH) (x0 : Nt) (A1 : Option Addr) (n1 c1 : Nat) (x1 : List Int) (w : World)    (hb : ¬ n1 ≤ 1048576) :
    Calls Tryz.prog 4 #[.agg #[Value.slice h0.A x0.w.length h0.c, Value.slice h0.L x0.l.length h0.d, Value.slice h0.C x0.c.length h0.e], .slice A1 n1 c1] w fun e w' => e = .returned (.bool true) ∧ Below w.heap.size w w' := by
  have hd1 : decide (1048576 < (n1 : Int)) = true := decide_eq_true (by omega)
  obtain ⟨w0, hw0⟩ : ∃ w0, w0 = w.alloc (.cells #[Value.slice h0.A x0.w.length h0.c, Value.slice h0.L x0.l.length h0.d, Value.slice h0.C x0.c.length h0.e] 26) := ⟨_, rfl⟩
  obtain ⟨bb0, hh0, sz0⟩ := box3_any w (Value.slice h0.A x0.w.length h0.c) (Value.slice h0.L x0.l.length h0.d) (Value.slice h0.C x0.c.length h0.e) 26
  rw [← hw0] at bb0 hh0 sz0
  have B0 : Below w.heap.size w w0 := bb0
  obtain ⟨c_a0_0_0, c_a0_0_1, c_a0_0_2⟩ := three_cells hh0
  have s0 : w.heap.size + 1 ≤ w0.heap.size := by omega
  clear bb0 hh0
  clear sz0
  go_enter Tryz.func4, Tryz.ntmps4
  have HB := Lib.hid B0
  clear B0
  go_wp2
  go_ret
  rw [← hw0]
  exact ⟨rfl, HB.out⟩

set_option maxRecDepth 100000 in
theorem walk_big0 (h0 : NH) (x0 : Nt) (A1 : Option Addr) (n1 c1 : Nat) (x1 : List Int) (w : World) (r0 : RdN w w.heap.size h0 x0) (gr0 : GreatN x0) (hn1 : n1 ≤ 1048576) (hb : szR 1048576 (nsz x0) = -1) :
    Calls Tryz.prog 4 #[.agg #[Value.slice h0.A x0.w.length h0.c, Value.slice h0.L x0.l.length h0.d, Value.slice h0.C x0.c.length h0.e], .slice A1 n1 c1] w fun e w' => e = .returned (.bool true) ∧ Below w.heap.size w w' := by
  have hd1 : decide (1048576 < (n1 : Int)) = false := decide_eq_false (by omega)
  have HS0 := Lib.hid (fun w0 (B : Below w.heap.size w w0) => szN_any h0 x0 (1048576) w0 ((r0.below B).more B.size) gr0.q gr0.w gr0.l gr0.c (by decide) (by decide))
  rw [hb] at HS0
  clear hb r0 gr0
  obtain ⟨w0, hw0⟩ : ∃ w0, w0 = w.alloc (.cells #[Value.slice h0.A x0.w.length h0.c, Value.slice h0.L x0.l.length h0.d, Value.slice h0.C x0.c.length h0.e] 26) := ⟨_, rfl⟩
  obtain ⟨bb0, hh0, sz0⟩ := box3_any w (Value.slice h0.A x0.w.length h0.c) (Value.slice h0.L x0.l.length h0.d) (Value.slice h0.C x0.c.length h0.e) 26
  rw [← hw0] at bb0 hh0 sz0
  have B0 : Below w.heap.size w w0 := bb0
  obtain ⟨c_a0_0_0, c_a0_0_1, c_a0_0_2⟩ := three_cells hh0
  have s0 : w.heap.size + 1 ≤ w0.heap.size := by omega
  clear bb0 hh0
  clear sz0
  go_enter Tryz.func4, Tryz.ntmps4
  go_wp2_with (fail)
  rw [← hw0]
  clear hw0
  refine (HS0.out w0 B0).mono ?_
  rintro e w1 ⟨rfl, bel1⟩
  have B1 := B0.trans (bel1.mono B0.size)
  have c_a0_1_0 := (bel1.cell (p := ⟨w.heap.size, 0, none⟩) (by show w.heap.size < _; omega)).trans c_a0_0_0
  have c_a0_1_1 := (bel1.cell (p := ⟨w.heap.size, 1, none⟩) (by show w.heap.size < _; omega)).trans c_a0_0_1
  have c_a0_1_2 := (bel1.cell (p := ⟨w.heap.size, 2, none⟩) (by show w.heap.size < _; omega)).trans c_a0_0_2
  have s1 := bel1.size
  clear bel1 B0
  have HB := Lib.hid B1
  clear B1
  go_wp2
  go_ret
  exact ⟨rfl, HB.out⟩

set_option maxRecDepth 100000 in
set_option maxHeartbeats 16000000 in
theorem walk_mid (h0 : NH) (x0 : Nt) (A1 : Option Addr) (n1 c1 : Nat) (x1 : List Int) (L0 : Int) (w : World) (r0 : RdN w w.heap.size h0 x0) (r1 : RdI w w.heap.size A1 n1 x1) (hn1 : n1 ≤ 1048576) (hs0 : szR 1048576 (nsz x0) = L0) (hL0 : 0 ≤ L0) (hL'0 : L0 ≤ 1048576) (sm0 : SmallN x0) (ht : Arit w) (hu : Dual w) (hz : Tz w) :
    Calls Tryz.prog 4 #[.agg #[Value.slice h0.A x0.w.length h0.c, Value.slice h0.L x0.l.length h0.d, Value.slice h0.C x0.c.length h0.e], .slice A1 n1 c1] w fun e w' => e = .returned (.bool true) ∧ Below w.heap.size w w' := by
  have gr0 := sm0.great
  have hv1 : (boV x0 x1).length ≤ 1048576 := boV_len x0 x1
  generalize hV : boV x0 x1 = V at hv1
  have HV := Lib.hid hV; clear hV
  have hd1 : decide (1048576 < (n1 : Int)) = false := decide_eq_false (by omega)
  have HS0 := Lib.hid (fun w0 (B : Below w.heap.size w w0) => szN_any h0 x0 (1048576) w0 ((r0.below B).more B.size) gr0.q gr0.w gr0.l gr0.c (by decide) (by decide))
  rw [hs0] at HS0
  have hd0 : decide (L0 < 0) = false := decide_eq_false (by omega)
  have H0 := Lib.hid r0
  have nt0 := sm0.tot
  have SM0 := Lib.hid sm0
  have H1 := Lib.hid r1
  have HT := Lib.hid ht
  have HU := Lib.hid hu
  have HZT := Lib.hid hz
  clear r0 r1 hs0 gr0 sm0 ht hu hz
  obtain ⟨w0, hw0⟩ : ∃ w0, w0 = w.alloc (.cells #[Value.slice h0.A x0.w.length h0.c, Value.slice h0.L x0.l.length h0.d, Value.slice h0.C x0.c.length h0.e] 26) := ⟨_, rfl⟩
  obtain ⟨bb0, hh0, sz0⟩ := box3_any w (Value.slice h0.A x0.w.length h0.c) (Value.slice h0.L x0.l.length h0.d) (Value.slice h0.C x0.c.length h0.e) 26
  rw [← hw0] at bb0 hh0 sz0
  have B0 : Below w.heap.size w w0 := bb0
  obtain ⟨c_a0_0_0, c_a0_0_1, c_a0_0_2⟩ := three_cells hh0
  have s0 : w.heap.size + 1 ≤ w0.heap.size := by omega
  clear bb0 hh0
  clear sz0
  go_enter Tryz.func4, Tryz.ntmps4
  go_wp2_with (fail)
  rw [← hw0]
  clear hw0
  refine (HS0.out w0 B0).mono ?_
  rintro e w1 ⟨rfl, bel1⟩
  have s1 := bel1.size
  have B1 := B0.trans (bel1.mono B0.size)
  have c_a0_1_0 := (bel1.cell (p := ⟨w.heap.size, 0, none⟩) (by show w.heap.size < _; omega)).trans c_a0_0_0
  have c_a0_1_1 := (bel1.cell (p := ⟨w.heap.size, 1, none⟩) (by show w.heap.size < _; omega)).trans c_a0_0_1
  have c_a0_1_2 := (bel1.cell (p := ⟨w.heap.size, 2, none⟩) (by show w.heap.size < _; omega)).trans c_a0_0_2
  clear bel1 B0 c_a0_0_0 c_a0_0_1 c_a0_0_2
  generalize w0.heap.size = m0 at *
  go_wp2_with (fail)
  refine (toN_any h0 x0 w1 ((H0.out.below B1).more B1.size) SM0.out.q SM0.out.w SM0.out.l SM0.out.c).mono ?_
  rintro e w2 ⟨h_p0, rfl, own2, bel2⟩
  have o_p0_2 := Lib.hid own2
  clear own2
  have s2 := bel2.size
  have B2 := B1.trans (bel2.mono B1.size)
  have c_a0_2_0 := (bel2.cell (p := ⟨w.heap.size, 0, none⟩) (by show w.heap.size < _; omega)).trans c_a0_1_0
  have c_a0_2_1 := (bel2.cell (p := ⟨w.heap.size, 1, none⟩) (by show w.heap.size < _; omega)).trans c_a0_1_1
  have c_a0_2_2 := (bel2.cell (p := ⟨w.heap.size, 2, none⟩) (by show w.heap.size < _; omega)).trans c_a0_1_2
  clear bel2 B1 c_a0_1_0 c_a0_1_1 c_a0_1_2
  generalize w1.heap.size = m1 at *
  go_wp2_with (fail)
  refine (toI_x A1 n1 c1 x1 w2 ((H1.out.below B2).more B2.size) hn1).mono ?_
  rintro e w3 ⟨g_p1, rfl, own3, bel3⟩
  have o_p1_3 := Lib.hid own3
  clear own3
  have s3 := bel3.size
  have B3 := B2.trans (bel3.mono B2.size)
  have c_a0_3_0 := (bel3.cell (p := ⟨w.heap.size, 0, none⟩) (by show w.heap.size < _; omega)).trans c_a0_2_0
  have c_a0_3_1 := (bel3.cell (p := ⟨w.heap.size, 1, none⟩) (by show w.heap.size < _; omega)).trans c_a0_2_1
  have c_a0_3_2 := (bel3.cell (p := ⟨w.heap.size, 2, none⟩) (by show w.heap.size < _; omega)).trans c_a0_2_2
  have o_p0_3 := Lib.hid (o_p0_2.out.below bel3)
  clear bel3 B2 o_p0_2 c_a0_2_0 c_a0_2_1 c_a0_2_2
  generalize w2.heap.size = m2 at *
  go_wp2_with (fail)
  refine (sBorderOf_any h_p0 x0 (some ⟨g_p1, 0, none⟩) n1 n1 x1 w3 (o_p0_3.out.rd) (o_p1_3.out.rd) hn1 SM0.out.w SM0.out.l SM0.out.c).mono ?_
  rw [HV.out]
  rintro e w4 ⟨A_v, c_v, rfl, own4, bel4⟩
  have o_v_4 := Lib.hid (OwnI.of_own own4)
  clear own4
  have s4 := bel4.size
  have B4 := B3.trans (bel4.mono B3.size)
  have c_a0_4_0 := (bel4.cell (p := ⟨w.heap.size, 0, none⟩) (by show w.heap.size < _; omega)).trans c_a0_3_0
  have c_a0_4_1 := (bel4.cell (p := ⟨w.heap.size, 1, none⟩) (by show w.heap.size < _; omega)).trans c_a0_3_1
  have c_a0_4_2 := (bel4.cell (p := ⟨w.heap.size, 2, none⟩) (by show w.heap.size < _; omega)).trans c_a0_3_2
  have o_p0_4 := Lib.hid (o_p0_3.out.below bel4)
  have o_p1_4 := Lib.hid (o_p1_3.out.below bel4)
  clear bel4 B3 o_p0_3 o_p1_3 c_a0_3_0 c_a0_3_1 c_a0_3_2
  generalize w3.heap.size = m3 at *
  clear o_p0_4
  clear o_p1_4
  go_wp2_with (fail)
  refine (toN_any h0 x0 w4 ((H0.out.below B4).more B4.size) SM0.out.q SM0.out.w SM0.out.l SM0.out.c).mono ?_
  rintro e w5 ⟨h_x0, rfl, own5, bel5⟩
  have o_x0_5 := Lib.hid own5
  clear own5
  have s5 := bel5.size
  have B5 := B4.trans (bel5.mono B4.size)
  have c_a0_5_0 := (bel5.cell (p := ⟨w.heap.size, 0, none⟩) (by show w.heap.size < _; omega)).trans c_a0_4_0
  have c_a0_5_1 := (bel5.cell (p := ⟨w.heap.size, 1, none⟩) (by show w.heap.size < _; omega)).trans c_a0_4_1
  have c_a0_5_2 := (bel5.cell (p := ⟨w.heap.size, 2, none⟩) (by show w.heap.size < _; omega)).trans c_a0_4_2
  have o_v_5 := Lib.hid (o_v_4.out.below bel5)
  clear bel5 B4 o_v_4 c_a0_4_0 c_a0_4_1 c_a0_4_2
  generalize w4.heap.size = m4 at *
  have bel6 : Below w5.heap.size w5 (w5.alloc (.cells #[Value.slice h_x0.A x0.w.length h_x0.c, Value.slice h_x0.L x0.l.length h_x0.d, Value.slice h_x0.C x0.c.length h_x0.e] 30)) := (Below.refl _ _).alloc (Nat.le_refl _) _
  obtain ⟨c_x0_6_0, c_x0_6_1, c_x0_6_2⟩ := three_cells (show (w5.alloc (.cells #[Value.slice h_x0.A x0.w.length h_x0.c, Value.slice h_x0.L x0.l.length h_x0.d, Value.slice h_x0.C x0.c.length h_x0.e] 30)).heap[w5.heap.size]? = some (.cells #[Value.slice h_x0.A x0.w.length h_x0.c, Value.slice h_x0.L x0.l.length h_x0.d, Value.slice h_x0.C x0.c.length h_x0.e] 30 (0, 0)) from heap_alloc_new _ _)
  have t6 : w5.heap.size + 1 ≤ (w5.alloc (.cells #[Value.slice h_x0.A x0.w.length h_x0.c, Value.slice h_x0.L x0.l.length h_x0.d, Value.slice h_x0.C x0.c.length h_x0.e] 30)).heap.size := by simp
  have c_a0_6_0 := (bel6.cell (p := ⟨w.heap.size, 0, none⟩) (by show w.heap.size < _; omega)).trans c_a0_5_0
  have c_a0_6_1 := (bel6.cell (p := ⟨w.heap.size, 1, none⟩) (by show w.heap.size < _; omega)).trans c_a0_5_1
  have c_a0_6_2 := (bel6.cell (p := ⟨w.heap.size, 2, none⟩) (by show w.heap.size < _; omega)).trans c_a0_5_2
  clear c_a0_5_0 c_a0_5_1 c_a0_5_2
  go_wp2_with (fail)
  generalize w5.alloc (.cells #[Value.slice h_x0.A x0.w.length h_x0.c, Value.slice h_x0.L x0.l.length h_x0.d, Value.slice h_x0.C x0.c.length h_x0.e] 30) = w6 at *
  have s6 := bel6.size
  have B6 := B5.trans (bel6.mono B5.size)
  have o_v_6 := Lib.hid (o_v_5.out.below bel6)
  have o_x0_6 := Lib.hid (o_x0_5.out.below bel6)
  clear bel6 B5 o_v_5 o_x0_5
  generalize w5.heap.size = m5 at *
  refine (toI_x A1 n1 c1 x1 w6 ((H1.out.below B6).more B6.size) hn1).mono ?_
  rintro e w7 ⟨g_x1, rfl, own7, bel7⟩
  have o_x1_7 := Lib.hid own7
  clear own7
  have s7 := bel7.size
  have B7 := B6.trans (bel7.mono B6.size)
  have c_a0_7_0 := (bel7.cell (p := ⟨w.heap.size, 0, none⟩) (by show w.heap.size < _; omega)).trans c_a0_6_0
  have c_a0_7_1 := (bel7.cell (p := ⟨w.heap.size, 1, none⟩) (by show w.heap.size < _; omega)).trans c_a0_6_1
  have c_a0_7_2 := (bel7.cell (p := ⟨w.heap.size, 2, none⟩) (by show w.heap.size < _; omega)).trans c_a0_6_2
  have c_x0_7_0 := (bel7.cell (p := ⟨m5, 0, none⟩) (by show m5 < _; omega)).trans c_x0_6_0
  have c_x0_7_1 := (bel7.cell (p := ⟨m5, 1, none⟩) (by show m5 < _; omega)).trans c_x0_6_1
  have c_x0_7_2 := (bel7.cell (p := ⟨m5, 2, none⟩) (by show m5 < _; omega)).trans c_x0_6_2
  have o_v_7 := Lib.hid (o_v_6.out.below bel7)
  have o_x0_7 := Lib.hid (o_x0_6.out.below bel7)
  clear bel7 B6 o_v_6 o_x0_6 c_a0_6_0 c_a0_6_1 c_a0_6_2 c_x0_6_0 c_x0_6_1 c_x0_6_2
  generalize w6.heap.size = m6 at *
  go_wp2_with (fail)
  refine (borderOf_impl h_x0 x0 (some ⟨g_x1, 0, none⟩) n1 n1 x1 w7 (o_x0_7.out.rd) SM0.out (o_x1_7.out.rd) hn1 (HT.out.below B7 HT.out.lt) (HU.out.below B7 HU.out.lt) (HZT.out.below B7 HZT.out.lt)).mono ?_
  rw [HV.out]
  rintro e w8 ⟨A_g, c_g, rfl, own8, bel8⟩
  have o_g_8 := Lib.hid (OwnI.of_own own8)
  clear own8
  have s8 := bel8.size
  have B8 := B7.trans (bel8.mono B7.size)
  have c_a0_8_0 := (bel8.cell (p := ⟨w.heap.size, 0, none⟩) (by show w.heap.size < _; omega)).trans c_a0_7_0
  have c_a0_8_1 := (bel8.cell (p := ⟨w.heap.size, 1, none⟩) (by show w.heap.size < _; omega)).trans c_a0_7_1
  have c_a0_8_2 := (bel8.cell (p := ⟨w.heap.size, 2, none⟩) (by show w.heap.size < _; omega)).trans c_a0_7_2
  have c_x0_8_0 := (bel8.cell (p := ⟨m5, 0, none⟩) (by show m5 < _; omega)).trans c_x0_7_0
  have c_x0_8_1 := (bel8.cell (p := ⟨m5, 1, none⟩) (by show m5 < _; omega)).trans c_x0_7_1
  have c_x0_8_2 := (bel8.cell (p := ⟨m5, 2, none⟩) (by show m5 < _; omega)).trans c_x0_7_2
  have o_v_8 := Lib.hid (o_v_7.out.below bel8)
  have o_x0_8 := Lib.hid (o_x0_7.out.below bel8)
  have o_x1_8 := Lib.hid (o_x1_7.out.below bel8)
  clear bel8 B7 o_v_7 o_x0_7 o_x1_7 c_a0_7_0 c_a0_7_1 c_a0_7_2 c_x0_7_0 c_x0_7_1 c_x0_7_2
  generalize w7.heap.size = m7 at *
  go_wp2_with (fail)
  refine (eqI_x _ _ _ _ _ V w8 (o_g_8.out.rd) (o_v_8.out.rd) hv1).mono ?_
  rintro e w9 ⟨rfl, bel9⟩
  have s9 := bel9.size
  have B9 := B8.trans (bel9.mono B8.size)
  have c_a0_9_0 := (bel9.cell (p := ⟨w.heap.size, 0, none⟩) (by show w.heap.size < _; omega)).trans c_a0_8_0
  have c_a0_9_1 := (bel9.cell (p := ⟨w.heap.size, 1, none⟩) (by show w.heap.size < _; omega)).trans c_a0_8_1
  have c_a0_9_2 := (bel9.cell (p := ⟨w.heap.size, 2, none⟩) (by show w.heap.size < _; omega)).trans c_a0_8_2
  have c_x0_9_0 := (bel9.cell (p := ⟨m5, 0, none⟩) (by show m5 < _; omega)).trans c_x0_8_0
  have c_x0_9_1 := (bel9.cell (p := ⟨m5, 1, none⟩) (by show m5 < _; omega)).trans c_x0_8_1
  have c_x0_9_2 := (bel9.cell (p := ⟨m5, 2, none⟩) (by show m5 < _; omega)).trans c_x0_8_2
  have o_v_9 := Lib.hid (o_v_8.out.below bel9)
  have o_x0_9 := Lib.hid (o_x0_8.out.below bel9)
  have o_x1_9 := Lib.hid (o_x1_8.out.below bel9)
  have o_g_9 := Lib.hid (o_g_8.out.below bel9)
  clear bel9 B8 o_v_8 o_x0_8 o_x1_8 o_g_8 c_a0_8_0 c_a0_8_1 c_a0_8_2 c_x0_8_0 c_x0_8_1 c_x0_8_2
  generalize w8.heap.size = m8 at *
  have R_x := Lib.hid (o_x0_9.out.rd)
  have HBx := Lib.hid B9
  go_upto_region 13 with (fail)
  go_cut [42] (fun b wx => b = .bool false ∧ Below w9.heap.size w9 wx)
  case first =>
    go_wp2_with (fail)
    go_region_with (first
      | (go_at_call 15; refine (toN_any h0 x0 w9.drew ((H0.out.below HBx.out).more HBx.out.size) SM0.out.q SM0.out.w SM0.out.l SM0.out.c).mono ?_; rintro e wt ⟨ht, rfl, ownt, belt'⟩; have belt := undrew belt'; have cxt0 := (belt.cell (p := ⟨m5, 0, none⟩) (by show m5 < _; omega)).trans c_x0_9_0; have cxt1 := (belt.cell (p := ⟨m5, 1, none⟩) (by show m5 < _; omega)).trans c_x0_9_1; have cxt2 := (belt.cell (p := ⟨m5, 2, none⟩) (by show m5 < _; omega)).trans c_x0_9_2; have R7 := Lib.hid ((R_x.out.below belt).more belt.size); have S7 := Lib.hid ownt.rd; have B7 := Lib.hid belt; clear ownt belt belt')
      | (go_at_call 18; refine (eqN_any h_x0 _ x0 _ R7.out S7.out SM0.out.q SM0.out.w SM0.out.l SM0.out.c).mono ?_; rintro e wu ⟨rfl, belu⟩; have B8 := Lib.hid (B7.out.trans (belu.mono B7.out.size)); clear belu))
    all_goals (try go_wp2_with (fail))
    all_goals go_meet
    all_goals exact ⟨rfl, B8.out⟩
  case rest =>
  obtain ⟨rfl, bel10⟩ := hcut
  clear R_x HBx
  rename World => w10
  have s10 := bel10.size
  have B10 := B9.trans (bel10.mono B9.size)
  have c_a0_10_0 := (bel10.cell (p := ⟨w.heap.size, 0, none⟩) (by show w.heap.size < _; omega)).trans c_a0_9_0
  have c_a0_10_1 := (bel10.cell (p := ⟨w.heap.size, 1, none⟩) (by show w.heap.size < _; omega)).trans c_a0_9_1
  have c_a0_10_2 := (bel10.cell (p := ⟨w.heap.size, 2, none⟩) (by show w.heap.size < _; omega)).trans c_a0_9_2
  have c_x0_10_0 := (bel10.cell (p := ⟨m5, 0, none⟩) (by show m5 < _; omega)).trans c_x0_9_0
  have c_x0_10_1 := (bel10.cell (p := ⟨m5, 1, none⟩) (by show m5 < _; omega)).trans c_x0_9_1
  have c_x0_10_2 := (bel10.cell (p := ⟨m5, 2, none⟩) (by show m5 < _; omega)).trans c_x0_9_2
  have o_v_10 := Lib.hid (o_v_9.out.below bel10)
  have o_x0_10 := Lib.hid (o_x0_9.out.below bel10)
  have o_x1_10 := Lib.hid (o_x1_9.out.below bel10)
  have o_g_10 := Lib.hid (o_g_9.out.below bel10)
  clear bel10 B9 o_v_9 o_x0_9 o_x1_9 o_g_9 c_a0_9_0 c_a0_9_1 c_a0_9_2 c_x0_9_0 c_x0_9_1 c_x0_9_2
  generalize w9.heap.size = m9 at *
  go_wp2_with (fail)
  refine (toI_x A1 n1 c1 x1 w10 ((H1.out.below B10).more B10.size) hn1).mono ?_
  rintro e w11 ⟨g_t, rfl, own11, bel11⟩
  have o_t_11 := Lib.hid own11
  clear own11
  have s11 := bel11.size
  have B11 := B10.trans (bel11.mono B10.size)
  have c_a0_11_0 := (bel11.cell (p := ⟨w.heap.size, 0, none⟩) (by show w.heap.size < _; omega)).trans c_a0_10_0
  have c_a0_11_1 := (bel11.cell (p := ⟨w.heap.size, 1, none⟩) (by show w.heap.size < _; omega)).trans c_a0_10_1
  have c_a0_11_2 := (bel11.cell (p := ⟨w.heap.size, 2, none⟩) (by show w.heap.size < _; omega)).trans c_a0_10_2
  have c_x0_11_0 := (bel11.cell (p := ⟨m5, 0, none⟩) (by show m5 < _; omega)).trans c_x0_10_0
  have c_x0_11_1 := (bel11.cell (p := ⟨m5, 1, none⟩) (by show m5 < _; omega)).trans c_x0_10_1
  have c_x0_11_2 := (bel11.cell (p := ⟨m5, 2, none⟩) (by show m5 < _; omega)).trans c_x0_10_2
  have o_v_11 := Lib.hid (o_v_10.out.below bel11)
  have o_x0_11 := Lib.hid (o_x0_10.out.below bel11)
  have o_x1_11 := Lib.hid (o_x1_10.out.below bel11)
  have o_g_11 := Lib.hid (o_g_10.out.below bel11)
  clear bel11 B10 o_v_10 o_x0_10 o_x1_10 o_g_10 c_a0_10_0 c_a0_10_1 c_a0_10_2 c_x0_10_0 c_x0_10_1 c_x0_10_2
  generalize w10.heap.size = m10 at *
  go_wp2_with (fail)
  refine (eqI_x _ _ _ _ _ x1 w11 (o_x1_11.out.rd) (o_t_11.out.rd) hn1).mono ?_
  rintro e w12 ⟨rfl, bel12⟩
  have s12 := bel12.size
  have B12 := B11.trans (bel12.mono B11.size)
  have c_a0_12_0 := (bel12.cell (p := ⟨w.heap.size, 0, none⟩) (by show w.heap.size < _; omega)).trans c_a0_11_0
  have c_a0_12_1 := (bel12.cell (p := ⟨w.heap.size, 1, none⟩) (by show w.heap.size < _; omega)).trans c_a0_11_1
  have c_a0_12_2 := (bel12.cell (p := ⟨w.heap.size, 2, none⟩) (by show w.heap.size < _; omega)).trans c_a0_11_2
  have c_x0_12_0 := (bel12.cell (p := ⟨m5, 0, none⟩) (by show m5 < _; omega)).trans c_x0_11_0
  have c_x0_12_1 := (bel12.cell (p := ⟨m5, 1, none⟩) (by show m5 < _; omega)).trans c_x0_11_1
  have c_x0_12_2 := (bel12.cell (p := ⟨m5, 2, none⟩) (by show m5 < _; omega)).trans c_x0_11_2
  have o_v_12 := Lib.hid (o_v_11.out.below bel12)
  have o_x0_12 := Lib.hid (o_x0_11.out.below bel12)
  have o_x1_12 := Lib.hid (o_x1_11.out.below bel12)
  have o_g_12 := Lib.hid (o_g_11.out.below bel12)
  have o_t_12 := Lib.hid (o_t_11.out.below bel12)
  clear bel12 B11 o_v_11 o_x0_11 o_x1_11 o_g_11 o_t_11 c_a0_11_0 c_a0_11_1 c_a0_11_2 c_x0_11_0 c_x0_11_1 c_x0_11_2
  generalize w11.heap.size = m11 at *
  clear o_t_12
  go_wp2_with (fail)
  refine (markN_any h_x0 x0 (1) w12 _ _ o_x0_12.out SM0.out.w SM0.out.t SM0.out.l SM0.out.c (by omega) (by omega)).mono ?_
  rintro e w13 ⟨rfl, own13, kp13⟩
  have o_x0_13 := Lib.hid own13
  clear own13
  have s13 := kp13.size
  have B13 := kp13.to_below B12 (by omega) B12.size
  have c_a0_13_0 := (kept_cell kp13 (p := ⟨w.heap.size, 0, none⟩) (by show w.heap.size < _; omega) (by show w.heap.size < _ ∨ _ ≤ w.heap.size; omega)).trans c_a0_12_0
  have c_a0_13_1 := (kept_cell kp13 (p := ⟨w.heap.size, 1, none⟩) (by show w.heap.size < _; omega) (by show w.heap.size < _ ∨ _ ≤ w.heap.size; omega)).trans c_a0_12_1
  have c_a0_13_2 := (kept_cell kp13 (p := ⟨w.heap.size, 2, none⟩) (by show w.heap.size < _; omega) (by show w.heap.size < _ ∨ _ ≤ w.heap.size; omega)).trans c_a0_12_2
  have c_x0_13_0 := (kept_cell kp13 (p := ⟨m5, 0, none⟩) (by show m5 < _; omega) (by show m5 < _ ∨ _ ≤ m5; omega)).trans c_x0_12_0
  have c_x0_13_1 := (kept_cell kp13 (p := ⟨m5, 1, none⟩) (by show m5 < _; omega) (by show m5 < _ ∨ _ ≤ m5; omega)).trans c_x0_12_1
  have c_x0_13_2 := (kept_cell kp13 (p := ⟨m5, 2, none⟩) (by show m5 < _; omega) (by show m5 < _ ∨ _ ≤ m5; omega)).trans c_x0_12_2
  have o_v_13 := Lib.hid (o_v_12.out.kept kp13 (by omega))
  have o_x1_13 := Lib.hid (o_x1_12.out.kept kp13 (by omega))
  have o_g_13 := Lib.hid (o_g_12.out.kept kp13 (by omega))
  clear kp13 B12 o_v_12 o_x0_12 o_x1_12 o_g_12 c_a0_12_0 c_a0_12_1 c_a0_12_2 c_x0_12_0 c_x0_12_1 c_x0_12_2
  generalize w12.heap.size = m12 at *
  go_wp2_with (fail)
  refine (markI_x _ _ _ x1 (1 + ((ntot x0 : Nat) : Int)) w13 _ _ o_x1_13.out hn1 (by omega) (by omega)).mono ?_
  rintro e w14 ⟨rfl, own14, kp14⟩
  have o_x1_14 := Lib.hid own14
  clear own14
  have s14 := kp14.size
  have B14 := kp14.to_below B13 (by omega) B13.size
  have c_a0_14_0 := (kept_cell kp14 (p := ⟨w.heap.size, 0, none⟩) (by show w.heap.size < _; omega) (by show w.heap.size < _ ∨ _ ≤ w.heap.size; omega)).trans c_a0_13_0
  have c_a0_14_1 := (kept_cell kp14 (p := ⟨w.heap.size, 1, none⟩) (by show w.heap.size < _; omega) (by show w.heap.size < _ ∨ _ ≤ w.heap.size; omega)).trans c_a0_13_1
  have c_a0_14_2 := (kept_cell kp14 (p := ⟨w.heap.size, 2, none⟩) (by show w.heap.size < _; omega) (by show w.heap.size < _ ∨ _ ≤ w.heap.size; omega)).trans c_a0_13_2
  have c_x0_14_0 := (kept_cell kp14 (p := ⟨m5, 0, none⟩) (by show m5 < _; omega) (by show m5 < _ ∨ _ ≤ m5; omega)).trans c_x0_13_0
  have c_x0_14_1 := (kept_cell kp14 (p := ⟨m5, 1, none⟩) (by show m5 < _; omega) (by show m5 < _ ∨ _ ≤ m5; omega)).trans c_x0_13_1
  have c_x0_14_2 := (kept_cell kp14 (p := ⟨m5, 2, none⟩) (by show m5 < _; omega) (by show m5 < _ ∨ _ ≤ m5; omega)).trans c_x0_13_2
  have o_v_14 := Lib.hid (o_v_13.out.kept kp14 (by omega))
  have o_x0_14 := Lib.hid (o_x0_13.out.kept kp14 (by omega))
  have o_g_14 := Lib.hid (o_g_13.out.kept kp14 (by omega))
  clear kp14 B13 o_v_13 o_x0_13 o_x1_13 o_g_13 c_a0_13_0 c_a0_13_1 c_a0_13_2 c_x0_13_0 c_x0_13_1 c_x0_13_2
  generalize w13.heap.size = m13 at *
  have hkk : decide (1 + ((ntot x0 : Nat) : Int) + (n1 : Int) < 0) = false := decide_eq_false (by omega)
  clear o_x0_14
  clear o_x1_14
  go_wp2_with (fail)
  refine (eqI_x _ _ _ _ _ V w14 (o_g_14.out.rd) (o_v_14.out.rd) hv1).mono ?_
  rintro e w15 ⟨rfl, bel15⟩
  have s15 := bel15.size
  have B15 := B14.trans (bel15.mono B14.size)
  have c_a0_15_0 := (bel15.cell (p := ⟨w.heap.size, 0, none⟩) (by show w.heap.size < _; omega)).trans c_a0_14_0
  have c_a0_15_1 := (bel15.cell (p := ⟨w.heap.size, 1, none⟩) (by show w.heap.size < _; omega)).trans c_a0_14_1
  have c_a0_15_2 := (bel15.cell (p := ⟨w.heap.size, 2, none⟩) (by show w.heap.size < _; omega)).trans c_a0_14_2
  have c_x0_15_0 := (bel15.cell (p := ⟨m5, 0, none⟩) (by show m5 < _; omega)).trans c_x0_14_0
  have c_x0_15_1 := (bel15.cell (p := ⟨m5, 1, none⟩) (by show m5 < _; omega)).trans c_x0_14_1
  have c_x0_15_2 := (bel15.cell (p := ⟨m5, 2, none⟩) (by show m5 < _; omega)).trans c_x0_14_2
  have o_v_15 := Lib.hid (o_v_14.out.below bel15)
  have o_g_15 := Lib.hid (o_g_14.out.below bel15)
  clear bel15 B14 o_v_14 o_g_14 c_a0_14_0 c_a0_14_1 c_a0_14_2 c_x0_14_0 c_x0_14_1 c_x0_14_2
  generalize w14.heap.size = m14 at *
  have hmm : decide (1 + (V.length : Int) < 0) = false := decide_eq_false (by omega)
  go_wp2_with (fail)
  refine (markI_x _ _ _ V (1) w15 _ _ o_g_15.out hv1 (by omega) (by omega)).mono ?_
  rintro e w16 ⟨rfl, own16, kp16⟩
  have o_g_16 := Lib.hid own16
  clear own16
  have s16 := kp16.size
  have B16 := kp16.to_below B15 (by omega) B15.size
  have c_a0_16_0 := (kept_cell kp16 (p := ⟨w.heap.size, 0, none⟩) (by show w.heap.size < _; omega) (by show w.heap.size < _ ∨ _ ≤ w.heap.size; omega)).trans c_a0_15_0
  have c_a0_16_1 := (kept_cell kp16 (p := ⟨w.heap.size, 1, none⟩) (by show w.heap.size < _; omega) (by show w.heap.size < _ ∨ _ ≤ w.heap.size; omega)).trans c_a0_15_1
  have c_a0_16_2 := (kept_cell kp16 (p := ⟨w.heap.size, 2, none⟩) (by show w.heap.size < _; omega) (by show w.heap.size < _ ∨ _ ≤ w.heap.size; omega)).trans c_a0_15_2
  have c_x0_16_0 := (kept_cell kp16 (p := ⟨m5, 0, none⟩) (by show m5 < _; omega) (by show m5 < _ ∨ _ ≤ m5; omega)).trans c_x0_15_0
  have c_x0_16_1 := (kept_cell kp16 (p := ⟨m5, 1, none⟩) (by show m5 < _; omega) (by show m5 < _ ∨ _ ≤ m5; omega)).trans c_x0_15_1
  have c_x0_16_2 := (kept_cell kp16 (p := ⟨m5, 2, none⟩) (by show m5 < _; omega) (by show m5 < _ ∨ _ ≤ m5; omega)).trans c_x0_15_2
  have o_v_16 := Lib.hid (o_v_15.out.kept kp16 (by omega))
  clear kp16 B15 o_v_15 o_g_15 c_a0_15_0 c_a0_15_1 c_a0_15_2 c_x0_15_0 c_x0_15_1 c_x0_15_2
  generalize w15.heap.size = m15 at *
  go_wp2_with (fail)
  refine (heldI_x _ _ _ 1 w16 (o_g_16.out.rd) hv1 (by decide) (by decide)).mono ?_
  rintro e w17 ⟨rfl, bel17⟩
  have s17 := bel17.size
  have B17 := B16.trans (bel17.mono B16.size)
  have c_a0_17_0 := (bel17.cell (p := ⟨w.heap.size, 0, none⟩) (by show w.heap.size < _; omega)).trans c_a0_16_0
  have c_a0_17_1 := (bel17.cell (p := ⟨w.heap.size, 1, none⟩) (by show w.heap.size < _; omega)).trans c_a0_16_1
  have c_a0_17_2 := (bel17.cell (p := ⟨w.heap.size, 2, none⟩) (by show w.heap.size < _; omega)).trans c_a0_16_2
  have c_x0_17_0 := (bel17.cell (p := ⟨m5, 0, none⟩) (by show m5 < _; omega)).trans c_x0_16_0
  have c_x0_17_1 := (bel17.cell (p := ⟨m5, 1, none⟩) (by show m5 < _; omega)).trans c_x0_16_1
  have c_x0_17_2 := (bel17.cell (p := ⟨m5, 2, none⟩) (by show m5 < _; omega)).trans c_x0_16_2
  have o_v_17 := Lib.hid (o_v_16.out.below bel17)
  have o_g_17 := Lib.hid (o_g_16.out.below bel17)
  clear bel17 B16 o_v_16 o_g_16 c_a0_16_0 c_a0_16_1 c_a0_16_2 c_x0_16_0 c_x0_16_1 c_x0_16_2
  generalize w16.heap.size = m16 at *
  go_wp2_with (fail)
  refine (toN_any h0 x0 w17 ((H0.out.below B17).more B17.size) SM0.out.q SM0.out.w SM0.out.l SM0.out.c).mono ?_
  rintro e w18 ⟨h_b0, rfl, own18, bel18⟩
  have o_b0_18 := Lib.hid own18
  clear own18
  have s18 := bel18.size
  have B18 := B17.trans (bel18.mono B17.size)
  have c_a0_18_0 := (bel18.cell (p := ⟨w.heap.size, 0, none⟩) (by show w.heap.size < _; omega)).trans c_a0_17_0
  have c_a0_18_1 := (bel18.cell (p := ⟨w.heap.size, 1, none⟩) (by show w.heap.size < _; omega)).trans c_a0_17_1
  have c_a0_18_2 := (bel18.cell (p := ⟨w.heap.size, 2, none⟩) (by show w.heap.size < _; omega)).trans c_a0_17_2
  have c_x0_18_0 := (bel18.cell (p := ⟨m5, 0, none⟩) (by show m5 < _; omega)).trans c_x0_17_0
  have c_x0_18_1 := (bel18.cell (p := ⟨m5, 1, none⟩) (by show m5 < _; omega)).trans c_x0_17_1
  have c_x0_18_2 := (bel18.cell (p := ⟨m5, 2, none⟩) (by show m5 < _; omega)).trans c_x0_17_2
  have o_v_18 := Lib.hid (o_v_17.out.below bel18)
  have o_g_18 := Lib.hid (o_g_17.out.below bel18)
  clear bel18 B17 o_v_17 o_g_17 c_a0_17_0 c_a0_17_1 c_a0_17_2 c_x0_17_0 c_x0_17_1 c_x0_17_2
  generalize w17.heap.size = m17 at *
  go_wp2_with (fail)
  refine (toI_x A1 n1 c1 x1 w18 ((H1.out.below B18).more B18.size) hn1).mono ?_
  rintro e w19 ⟨g_b1, rfl, own19, bel19⟩
  have o_b1_19 := Lib.hid own19
  clear own19
  have s19 := bel19.size
  have B19 := B18.trans (bel19.mono B18.size)
  have c_a0_19_0 := (bel19.cell (p := ⟨w.heap.size, 0, none⟩) (by show w.heap.size < _; omega)).trans c_a0_18_0
  have c_a0_19_1 := (bel19.cell (p := ⟨w.heap.size, 1, none⟩) (by show w.heap.size < _; omega)).trans c_a0_18_1
  have c_a0_19_2 := (bel19.cell (p := ⟨w.heap.size, 2, none⟩) (by show w.heap.size < _; omega)).trans c_a0_18_2
  have c_x0_19_0 := (bel19.cell (p := ⟨m5, 0, none⟩) (by show m5 < _; omega)).trans c_x0_18_0
  have c_x0_19_1 := (bel19.cell (p := ⟨m5, 1, none⟩) (by show m5 < _; omega)).trans c_x0_18_1
  have c_x0_19_2 := (bel19.cell (p := ⟨m5, 2, none⟩) (by show m5 < _; omega)).trans c_x0_18_2
  have o_v_19 := Lib.hid (o_v_18.out.below bel19)
  have o_g_19 := Lib.hid (o_g_18.out.below bel19)
  have o_b0_19 := Lib.hid (o_b0_18.out.below bel19)
  clear bel19 B18 o_v_18 o_g_18 o_b0_18 c_a0_18_0 c_a0_18_1 c_a0_18_2 c_x0_18_0 c_x0_18_1 c_x0_18_2
  generalize w18.heap.size = m18 at *
  go_wp2_with (fail)
  refine (borderOf_impl h_b0 x0 (some ⟨g_b1, 0, none⟩) n1 n1 x1 w19 (o_b0_19.out.rd) SM0.out (o_b1_19.out.rd) hn1 (HT.out.below B19 HT.out.lt) (HU.out.below B19 HU.out.lt) (HZT.out.below B19 HZT.out.lt)).mono ?_
  rw [HV.out]
  rintro e w20 ⟨A_hh, c_hh, rfl, own20, bel20⟩
  have o_hh_20 := Lib.hid (OwnI.of_own own20)
  clear own20
  have s20 := bel20.size
  have B20 := B19.trans (bel20.mono B19.size)
  have c_a0_20_0 := (bel20.cell (p := ⟨w.heap.size, 0, none⟩) (by show w.heap.size < _; omega)).trans c_a0_19_0
  have c_a0_20_1 := (bel20.cell (p := ⟨w.heap.size, 1, none⟩) (by show w.heap.size < _; omega)).trans c_a0_19_1
  have c_a0_20_2 := (bel20.cell (p := ⟨w.heap.size, 2, none⟩) (by show w.heap.size < _; omega)).trans c_a0_19_2
  have c_x0_20_0 := (bel20.cell (p := ⟨m5, 0, none⟩) (by show m5 < _; omega)).trans c_x0_19_0
  have c_x0_20_1 := (bel20.cell (p := ⟨m5, 1, none⟩) (by show m5 < _; omega)).trans c_x0_19_1
  have c_x0_20_2 := (bel20.cell (p := ⟨m5, 2, none⟩) (by show m5 < _; omega)).trans c_x0_19_2
  have o_v_20 := Lib.hid (o_v_19.out.below bel20)
  have o_g_20 := Lib.hid (o_g_19.out.below bel20)
  have o_b0_20 := Lib.hid (o_b0_19.out.below bel20)
  have o_b1_20 := Lib.hid (o_b1_19.out.below bel20)
  clear bel20 B19 o_v_19 o_g_19 o_b0_19 o_b1_19 c_a0_19_0 c_a0_19_1 c_a0_19_2 c_x0_19_0 c_x0_19_1 c_x0_19_2
  generalize w19.heap.size = m19 at *
  clear o_b0_20
  clear o_b1_20
  go_wp2_with (fail)
  refine (eqI_x _ _ _ _ _ V w20 (o_hh_20.out.rd) (o_v_20.out.rd) hv1).mono ?_
  rintro e w21 ⟨rfl, bel21⟩
  have s21 := bel21.size
  have B21 := B20.trans (bel21.mono B20.size)
  have c_a0_21_0 := (bel21.cell (p := ⟨w.heap.size, 0, none⟩) (by show w.heap.size < _; omega)).trans c_a0_20_0
  have c_a0_21_1 := (bel21.cell (p := ⟨w.heap.size, 1, none⟩) (by show w.heap.size < _; omega)).trans c_a0_20_1
  have c_a0_21_2 := (bel21.cell (p := ⟨w.heap.size, 2, none⟩) (by show w.heap.size < _; omega)).trans c_a0_20_2
  have c_x0_21_0 := (bel21.cell (p := ⟨m5, 0, none⟩) (by show m5 < _; omega)).trans c_x0_20_0
  have c_x0_21_1 := (bel21.cell (p := ⟨m5, 1, none⟩) (by show m5 < _; omega)).trans c_x0_20_1
  have c_x0_21_2 := (bel21.cell (p := ⟨m5, 2, none⟩) (by show m5 < _; omega)).trans c_x0_20_2
  have o_v_21 := Lib.hid (o_v_20.out.below bel21)
  have o_g_21 := Lib.hid (o_g_20.out.below bel21)
  have o_hh_21 := Lib.hid (o_hh_20.out.below bel21)
  clear bel21 B20 o_v_20 o_g_20 o_hh_20 c_a0_20_0 c_a0_20_1 c_a0_20_2 c_x0_20_0 c_x0_20_1 c_x0_20_2
  generalize w20.heap.size = m20 at *
  go_wp2_with (fail)
  refine (heldI_x _ _ _ 1 w21 (o_g_21.out.rd) hv1 (by decide) (by decide)).mono ?_
  rintro e w22 ⟨rfl, bel22⟩
  have s22 := bel22.size
  have B22 := B21.trans (bel22.mono B21.size)
  have c_a0_22_0 := (bel22.cell (p := ⟨w.heap.size, 0, none⟩) (by show w.heap.size < _; omega)).trans c_a0_21_0
  have c_a0_22_1 := (bel22.cell (p := ⟨w.heap.size, 1, none⟩) (by show w.heap.size < _; omega)).trans c_a0_21_1
  have c_a0_22_2 := (bel22.cell (p := ⟨w.heap.size, 2, none⟩) (by show w.heap.size < _; omega)).trans c_a0_21_2
  have c_x0_22_0 := (bel22.cell (p := ⟨m5, 0, none⟩) (by show m5 < _; omega)).trans c_x0_21_0
  have c_x0_22_1 := (bel22.cell (p := ⟨m5, 1, none⟩) (by show m5 < _; omega)).trans c_x0_21_1
  have c_x0_22_2 := (bel22.cell (p := ⟨m5, 2, none⟩) (by show m5 < _; omega)).trans c_x0_21_2
  have o_v_22 := Lib.hid (o_v_21.out.below bel22)
  have o_g_22 := Lib.hid (o_g_21.out.below bel22)
  have o_hh_22 := Lib.hid (o_hh_21.out.below bel22)
  clear bel22 B21 o_v_21 o_g_21 o_hh_21 c_a0_21_0 c_a0_21_1 c_a0_21_2 c_x0_21_0 c_x0_21_1 c_x0_21_2
  generalize w21.heap.size = m21 at *
  have HB := Lib.hid B22
  go_wp2
  go_ret
  exact ⟨rfl, HB.out⟩

theorem walk (h0 : NH) (x0 : Nt) (A1 : Option Addr) (n1 c1 : Nat) (x1 : List Int) (w : World) (r0 : RdN w w.heap.size h0 x0) (gr0 : GreatN x0) (r1 : RdI w w.heap.size A1 n1 x1) (_hnc1 : n1 ≤ c1) (_hf1 : ∀ z ∈ x1, (Lit.int .i64 z).wf = true) (ht : Arit w) (hu : Dual w) (hz : Tz w) :
    Calls Tryz.prog 4 #[.agg #[Value.slice h0.A x0.w.length h0.c, Value.slice h0.L x0.l.length h0.d, Value.slice h0.C x0.c.length h0.e], .slice A1 n1 c1] w fun e w' => e = .returned (.bool true) ∧ Below w.heap.size w w' := by
  rcases Nat.lt_or_ge 1048576 (n1) with hb' | hn1
  · have hb : ¬ n1 ≤ 1048576 := by omega
    exact walk_big1 h0 x0 A1 n1 c1 x1  w    hb
  ·
    rcases sz_casesN 1048576 (by decide) x0 with hb | ⟨L0, hs0, hL0, hL'0, sw0, st0, sl0, sc0⟩
    · exact walk_big0 h0 x0 A1 n1 c1 x1  w r0 gr0 hn1 hb
    ·
      have sm0 : SmallN x0 := ⟨sw0, st0, sl0, sc0⟩
      exact walk_mid h0 x0 A1 n1 c1 x1 L0 w r0 r1 hn1 hs0 hL0 hL'0 sm0 ht hu hz


set_option maxRecDepth 100000 in
/-- What the walk gives, for all arguments and every world that holds the tables. -/
theorem contract (H : Type) (enc : TypeId × Value → H) (W : World) (base : Nat) (args : Array Value) (ds gs : List (DataW H)) (before : List MemPlace)
    (hval : ∀ (j : Nat) t v, Tryz.f4.params[j]? = some t → args[j]? = some v → Value.okWide Tryz.prog W .any base t v)
    (hW : DataW.Whole enc Tryz.prog Tryz.f4.params.toList Rows.fnExactBorderOfSpec.vars false W args.toList ds gs before) (hL : laidMetH Tryz.prog Rows.fnExactBorderOfRow.laid W) (_hS : W.ShapedOpen Tryz.prog) :
    Calls Tryz.prog 4 args W fun e W' => ∃ v, e = .returned v ∧ Rows.fnExactBorderOfSpec.post enc Tryz.prog Tryz.f4 false true false false W args v W' := by
  have hW' := hW
  obtain ⟨p, q, hA0, hV, rfl, hfz, hnd⟩ := hW
  have hA : DataW.TrodAll enc Tryz.prog W 0 (fun _ => true) true Tryz.f4.params.toList args.toList ds p := hA0
  rw [Tryz.params4] at hA hval
  obtain ⟨v0, vs0, d0, ds0, p0, q0, hargs, rfl, rfl, h0, r0⟩ := trodAll_cons hA
  obtain ⟨v1, vs1, d1, ds1, p1, q1, rfl, rfl, rfl, h1, r1⟩ := trodAll_cons r0
  obtain ⟨rfl, rfl, rfl⟩ := trodAll_nil r1
  obtain rfl : args = #[v0, v1] := by cases args; simp_all
  have k0 := h0
  have lt0 : ∀ x ∈ p0, x.block < W.heap.size := by obtain ⟨m, hm⟩ := k0; exact DataW.trod_lt m _ _ _ hm
  obtain ⟨hh0, z0, rfl, w0, m0, l0⟩ := open_net (hval 0 26 v0 rfl rfl) h0
  obtain ⟨a1, len1, cap1, rfl⟩ := okWide_slice Tryz.underlying24 (hval 1 24 v1 rfl rfl)
  have k1 := h1
  have lt1 : ∀ x ∈ p1, x.block < W.heap.size := by obtain ⟨m, hm⟩ := k1; exact DataW.trod_lt m _ _ _ hm
  obtain ⟨z1, w1, c1, b1⟩ := open_i64s h1
  replace hL : laidMet Tryz.prog Rows.fnExactBorderOfRow.laid W := by rw [MakeChecks.laidMetH_plain _ _ _ (by kernel_rfl)] at hL; exact hL
  have ht : Arit W := arit_of (laidMet.tail hL)
  have hu : Dual W := dual_of (laidMet.tail hL)
  have hz : Tz W := tz_of hL
  have hv1 := hV
  obtain ⟨g0, t0, cs0, f0, e0, p0', g1, t1, cs1, f1, e1, p1', rfl, _, _, _, _, _, _, _, _, rfl⟩ := trodVars_two hV
  clear hA0
  refine (walk hh0 z0 a1 len1 cap1 z1 W w0 ⟨m0.1, m0.2.1, m0.2.2, l0⟩ w1 c1 b1 ht hu hz).mono fun e W' ⟨he, bel⟩ => ?_
  subst he
  exact ⟨_, rfl, _, _, _, [], _, _, hW', trodAll_mk1 (shut_bool Tryz.underlying4 _),
    (trodAll_cons_mk (Below.trod laidOut (by kernel_rfl) (of_decide_eq_true (by kernel_rfl)) k0 bel lt0) (trodAll_cons_mk (Below.trod laidOut (by kernel_rfl) (of_decide_eq_true (by kernel_rfl)) k1 bel lt1) trodAll_mk0)),
    vars_below bel (readable_all _ (by kernel_rfl)) hv1, bel.frame _, fun h => by cases h⟩

theorem laid_met (os : Os) : laidMet Tryz.prog Rows.fnExactBorderOfRow.laid ((World.laidAll Tryz.prog os Rows.fnExactBorderOfRow.laid).forCall (fun _ _ => 0) ⟨#[], #[.agg #[.slice none 0 0, .slice none 0 0, .slice none 0 0], .slice none 0 0], []⟩).memory :=
  laidMet_laidAll _ (by kernel_rfl) (by kernel_rfl)
theorem reads (os : Os) {H : Type} (enc : TypeId × Value → H) : ∃ x, DataW.whole enc Tryz.prog ((World.laidAll Tryz.prog os Rows.fnExactBorderOfRow.laid).forCall (fun _ _ => 0) ⟨#[], #[.agg #[.slice none 0 0, .slice none 0 0, .slice none 0 0], .slice none 0 0], []⟩).memory Tryz.f4.params.toList Rows.fnExactBorderOfSpec.vars false (#[.agg #[.slice none 0 0, .slice none 0 0, .slice none 0 0], .slice none 0 0] : Array Value).toList 8 = some x :=
  Option.isSome_iff_exists.1 (by kernel_rfl)

set_option maxRecDepth 100000 in
theorem lifted (os : Os) (started : os.Started) (H : Type) (enc : TypeId × Value → H) (F : Stop.Interp) :
    ReturnsInHanded {} Tryz.checked os 4 .any ((OpenSpec.ofChange Rows.fnExactBorderOfSpec).preRow enc Tryz.prog Tryz.f4 Rows.fnExactBorderOfRow.domain false Rows.fnExactBorderOfRow.laid) (((OpenSpec.ofChange Rows.fnExactBorderOfSpec).at F).post enc Tryz.prog Tryz.f4 false true false false) := by
  obtain ⟨places, hx⟩ := reads os enc
  refine returnsInHanded_of_row (C := Tryz.checked) (s := OpenSpec.ofChange Rows.fnExactBorderOfSpec) own started (by kernel_rfl) Tryz.func4
    (witness_row_sh (enc := enc) (C := Tryz.checked) false (World.laidAll Tryz.prog os Rows.fnExactBorderOfRow.laid) #[.agg #[.slice none 0 0, .slice none 0 0, .slice none 0 0], .slice none 0 0] (World.laidAll_os _ _ _) (World.shaped_of_ZipB (by kernel_rfl) (by kernel_rfl)) (by kernel_rfl)
      (OpenSpec.preRow_of_cond 8 hx rfl (fun k hk => by cases hk) (by kernel_rfl) (laid_met os))) ?_
  intro W base args ds gs before hval hW _ _ _ hL hS _
  exact contract H enc W base args ds gs before hval hW hL hS

theorem said : Rows.FnExactBorderOfSaid :=
  OpenClaim.holds_of_cond 4 Tryz.f4 rfl rfl rfl rfl rfl rfl rfl ⟨rfl, rfl, rfl, rfl, rfl⟩ rfl rfl rfl rfl rfl (by kernel_rfl) Tryz.func4 (by kernel_rfl)
    (of_decide_eq_true (by kernel_rfl)) (by unfold Func.isWrapper; first | (rw [if_pos (by decide +kernel)]; kernel_rfl) | (rw [if_neg (by decide +kernel)]; exact ⟨rfl, rfl⟩))
    (fun os started H enc _ F => by rw [OpenClaim.pre_eq_preRow]; exact lifted os started H enc F)

theorem plain (f : FuncId) (fn : Func) (hf : Tryz.pinned.checked.prog.funcNamed "loop.example/g00872/laws.FnExactBorderOf" = some f) (hfn : Tryz.pinned.checked.prog.funcs[f]? = some fn) :
    Rows.fnExactBorderOfCard.stood.looks = Tryz.pinned.checked.prog.looks [] ∧ ∀ (j : Nat) t, fn.params[j]? = some t → Tryz.pinned.checked.prog.wantsStandIn t = false := by
  obtain rfl : f = 4 := Option.some.inj ((show Tryz.prog.funcNamed "loop.example/g00872/laws.FnExactBorderOf" = some 4 by kernel_rfl).symm.trans hf) |>.symm
  obtain rfl : fn = Tryz.f4 := (Option.some.inj (Tryz.func4.symm.trans hfn)).symm
  refine ⟨by kernel_rfl, fun j t ht => ?_⟩
  rw [Tryz.params4] at ht
  have hm : t ∈ [26, 24] := by simpa using Array.mem_of_getElem? ht
  have hall : ([26, 24].all fun u => !Tryz.prog.wantsStandIn u) = true := by kernel_rfl
  exact (show Tryz.prog.wantsStandIn t = false by simpa using List.all_eq_true.1 hall t hm)

/-- The statement. -/
theorem card : Rows.FnExactBorderOfCardSaid :=
  Claim7.holds_tied_plain_at .later [] _ _ _ _ said (fun _ h => by cases h) (by kernel_rfl) (fun _ h => by cases h) fnExactBorderOf_row_tie rfl ⟨rfl, rfl⟩ (by kernel_rfl) rfl plain (by kernel_rfl)
end Go.Proofs.YtfdpkhiiboghiaaGreatDoor.fnExactBorderOf
