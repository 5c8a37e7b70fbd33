/- Proved: for all arguments the law that RenumberNet answers as its model, leaves its arguments and shares no memory answers true and leaves its arguments as they were (FnExactRenumberNet). Conditions: the row's own: the listed tables read as the program's text lays them, which the card ties to that text. -/
import Derived.Test.YtjfhbofgnagfaaaDoorQMath
import Derived.Test.YtjfhbofgnagfaaaDoorQNetD
import Derived.Test.YtjfhbofgnagfaaaDoorQNetH
import Derived.Test.YtjfhbofgnagfaaaDoorPgQ
namespace Go.Proofs.YtjfhbofgnagfaaaDoor.fnExactRenumberNet
set_option linter.unusedSimpArgs false
set_option linter.unusedVariables false
open Go.ChangeShapes Go.WideShapes Go.ChangeAt Go.RowKit

set_option maxRecDepth 100000 in
theorem walk_big1 (h0 : NH) (x0 : Nt) (A1 : Option Addr) (n1 c1 : Nat) (x1 : List Int) (A2 : Option Addr) (n2 c2 : Nat) (x2 : List Int) (w : World)    (hb : ¬ n1 ≤ 1048576) :
    Calls Tryd.prog 13 #[.agg #[Value.slice h0.A x0.w.length h0.c, Value.slice h0.L x0.l.length h0.d, Value.slice h0.C x0.c.length h0.e], .slice A1 n1 c1, .slice A2 n2 c2] w fun e w' => e = .returned (.bool true) ∧ Below w.heap.size w w' := by
  have hd1 : decide (1048576 < (n1 : Int)) = true := decide_eq_true (by omega)
  obtain ⟨w0, hw0⟩ : ∃ w0, w0 = w.alloc (.cells #[Value.slice h0.A x0.w.length h0.c, Value.slice h0.L x0.l.length h0.d, Value.slice h0.C x0.c.length h0.e] 46) := ⟨_, rfl⟩
  obtain ⟨bb0, hh0, sz0⟩ := box3_any w (Value.slice h0.A x0.w.length h0.c) (Value.slice h0.L x0.l.length h0.d) (Value.slice h0.C x0.c.length h0.e) 46
  rw [← hw0] at bb0 hh0 sz0
  have B0 : Below w.heap.size w w0 := bb0
  obtain ⟨c_a0_0_0, c_a0_0_1, c_a0_0_2⟩ := three_cells hh0
  have s0 : w.heap.size + 1 ≤ w0.heap.size := by omega
  clear bb0 hh0
  clear sz0
  go_enter Tryd.func13, Tryd.ntmps13
  have HB := Lib.hid B0
  clear B0
  go_wp2
  go_ret
  rw [← hw0]
  exact ⟨rfl, HB.out⟩

set_option maxRecDepth 100000 in
theorem walk_big2 (h0 : NH) (x0 : Nt) (A1 : Option Addr) (n1 c1 : Nat) (x1 : List Int) (A2 : Option Addr) (n2 c2 : Nat) (x2 : List Int) (w : World)   (hn1 : n1 ≤ 1048576) (hb : ¬ n2 ≤ 1048576) :
    Calls Tryd.prog 13 #[.agg #[Value.slice h0.A x0.w.length h0.c, Value.slice h0.L x0.l.length h0.d, Value.slice h0.C x0.c.length h0.e], .slice A1 n1 c1, .slice A2 n2 c2] w fun e w' => e = .returned (.bool true) ∧ Below w.heap.size w w' := by
  have hd1 : decide (1048576 < (n1 : Int)) = false := decide_eq_false (by omega)
  have hd2 : decide (1048576 < (n2 : Int)) = true := decide_eq_true (by omega)
  obtain ⟨w0, hw0⟩ : ∃ w0, w0 = w.alloc (.cells #[Value.slice h0.A x0.w.length h0.c, Value.slice h0.L x0.l.length h0.d, Value.slice h0.C x0.c.length h0.e] 46) := ⟨_, rfl⟩
  obtain ⟨bb0, hh0, sz0⟩ := box3_any w (Value.slice h0.A x0.w.length h0.c) (Value.slice h0.L x0.l.length h0.d) (Value.slice h0.C x0.c.length h0.e) 46
  rw [← hw0] at bb0 hh0 sz0
  have B0 : Below w.heap.size w w0 := bb0
  obtain ⟨c_a0_0_0, c_a0_0_1, c_a0_0_2⟩ := three_cells hh0
  have s0 : w.heap.size + 1 ≤ w0.heap.size := by omega
  clear bb0 hh0
  clear sz0
  go_enter Tryd.func13, Tryd.ntmps13
  have HB := Lib.hid B0
  clear B0
  go_wp2
  go_ret
  rw [← hw0]
  exact ⟨rfl, HB.out⟩

set_option maxRecDepth 100000 in
theorem walk_big0 (h0 : NH) (x0 : Nt) (A1 : Option Addr) (n1 c1 : Nat) (x1 : List Int) (A2 : Option Addr) (n2 c2 : Nat) (x2 : List Int) (w : World) (r0 : RdN w w.heap.size h0 x0) (gr0 : GreatN x0) (hn1 : n1 ≤ 1048576) (hn2 : n2 ≤ 1048576) (hb : szR 1048576 (nsz x0) = -1) :
    Calls Tryd.prog 13 #[.agg #[Value.slice h0.A x0.w.length h0.c, Value.slice h0.L x0.l.length h0.d, Value.slice h0.C x0.c.length h0.e], .slice A1 n1 c1, .slice A2 n2 c2] w fun e w' => e = .returned (.bool true) ∧ Below w.heap.size w w' := by
  have hd1 : decide (1048576 < (n1 : Int)) = false := decide_eq_false (by omega)
  have hd2 : decide (1048576 < (n2 : Int)) = false := decide_eq_false (by omega)
  have HS0 := Lib.hid (fun w0 (B : Below w.heap.size w w0) => szN_any h0 x0 (1048576) w0 ((r0.below B).more B.size) gr0.q gr0.w gr0.l gr0.c (by decide) (by decide))
  rw [hb] at HS0
  clear hb r0 gr0
  obtain ⟨w0, hw0⟩ : ∃ w0, w0 = w.alloc (.cells #[Value.slice h0.A x0.w.length h0.c, Value.slice h0.L x0.l.length h0.d, Value.slice h0.C x0.c.length h0.e] 46) := ⟨_, rfl⟩
  obtain ⟨bb0, hh0, sz0⟩ := box3_any w (Value.slice h0.A x0.w.length h0.c) (Value.slice h0.L x0.l.length h0.d) (Value.slice h0.C x0.c.length h0.e) 46
  rw [← hw0] at bb0 hh0 sz0
  have B0 : Below w.heap.size w w0 := bb0
  obtain ⟨c_a0_0_0, c_a0_0_1, c_a0_0_2⟩ := three_cells hh0
  have s0 : w.heap.size + 1 ≤ w0.heap.size := by omega
  clear bb0 hh0
  clear sz0
  go_enter Tryd.func13, Tryd.ntmps13
  go_wp2_with (fail)
  rw [← hw0]
  clear hw0
  refine (HS0.out w0 B0).mono ?_
  rintro e w1 ⟨rfl, bel1⟩
  have B1 := B0.trans (bel1.mono B0.size)
  have c_a0_1_0 := (bel1.cell (p := ⟨w.heap.size, 0, none⟩) (by show w.heap.size < _; omega)).trans c_a0_0_0
  have c_a0_1_1 := (bel1.cell (p := ⟨w.heap.size, 1, none⟩) (by show w.heap.size < _; omega)).trans c_a0_0_1
  have c_a0_1_2 := (bel1.cell (p := ⟨w.heap.size, 2, none⟩) (by show w.heap.size < _; omega)).trans c_a0_0_2
  have s1 := bel1.size
  clear bel1 B0
  have HB := Lib.hid B1
  clear B1
  go_wp2
  go_ret
  exact ⟨rfl, HB.out⟩

set_option maxRecDepth 100000 in
set_option maxHeartbeats 16000000 in
theorem walk_mid (h0 : NH) (x0 : Nt) (A1 : Option Addr) (n1 c1 : Nat) (x1 : List Int) (A2 : Option Addr) (n2 c2 : Nat) (x2 : List Int) (L0 : Int) (w : World) (r0 : RdN w w.heap.size h0 x0) (r1 : RdI w w.heap.size A1 n1 x1) (r2 : RdI w w.heap.size A2 n2 x2) (hn1 : n1 ≤ 1048576) (hn2 : n2 ≤ 1048576) (hs0 : szR 1048576 (nsz x0) = L0) (hL0 : 0 ≤ L0) (hL'0 : L0 ≤ 1048576) (sm0 : SmallN x0) (ht : Arit w) (hu : Dual w) :
    Calls Tryd.prog 13 #[.agg #[Value.slice h0.A x0.w.length h0.c, Value.slice h0.L x0.l.length h0.d, Value.slice h0.C x0.c.length h0.e], .slice A1 n1 c1, .slice A2 n2 c2] w fun e w' => e = .returned (.bool true) ∧ Below w.heap.size w w' := by
  have gr0 := sm0.great
  have smV : SmallN (rnV x0 x1 x2) := rnV_small x0 x1 x2
  generalize hV : rnV x0 x1 x2 = V at smV
  have HV := Lib.hid hV; clear hV
  have ntV := smV.tot
  generalize hVb : rnB x0 x1 x2 = Vb
  have HVb := Lib.hid hVb; clear hVb
  have hbb : (Vb != Vb) = false := by simp
  have hd1 : decide (1048576 < (n1 : Int)) = false := decide_eq_false (by omega)
  have hd2 : decide (1048576 < (n2 : Int)) = false := decide_eq_false (by omega)
  have HS0 := Lib.hid (fun w0 (B : Below w.heap.size w w0) => szN_any h0 x0 (1048576) w0 ((r0.below B).more B.size) gr0.q gr0.w gr0.l gr0.c (by decide) (by decide))
  rw [hs0] at HS0
  have hd0 : decide (L0 < 0) = false := decide_eq_false (by omega)
  have H0 := Lib.hid r0
  have nt0 := sm0.tot
  have SM0 := Lib.hid sm0
  have H1 := Lib.hid r1
  have H2 := Lib.hid r2
  have SMV := Lib.hid smV
  have HT := Lib.hid ht
  have HU := Lib.hid hu
  clear r0 r1 r2 hs0 gr0 sm0 ht hu smV
  obtain ⟨w0, hw0⟩ : ∃ w0, w0 = w.alloc (.cells #[Value.slice h0.A x0.w.length h0.c, Value.slice h0.L x0.l.length h0.d, Value.slice h0.C x0.c.length h0.e] 46) := ⟨_, rfl⟩
  obtain ⟨bb0, hh0, sz0⟩ := box3_any w (Value.slice h0.A x0.w.length h0.c) (Value.slice h0.L x0.l.length h0.d) (Value.slice h0.C x0.c.length h0.e) 46
  rw [← hw0] at bb0 hh0 sz0
  have B0 : Below w.heap.size w w0 := bb0
  obtain ⟨c_a0_0_0, c_a0_0_1, c_a0_0_2⟩ := three_cells hh0
  have s0 : w.heap.size + 1 ≤ w0.heap.size := by omega
  clear bb0 hh0
  clear sz0
  go_enter Tryd.func13, Tryd.ntmps13
  go_wp2_with (fail)
  rw [← hw0]
  clear hw0
  refine (HS0.out w0 B0).mono ?_
  rintro e w1 ⟨rfl, bel1⟩
  have s1 := bel1.size
  have B1 := B0.trans (bel1.mono B0.size)
  have c_a0_1_0 := (bel1.cell (p := ⟨w.heap.size, 0, none⟩) (by show w.heap.size < _; omega)).trans c_a0_0_0
  have c_a0_1_1 := (bel1.cell (p := ⟨w.heap.size, 1, none⟩) (by show w.heap.size < _; omega)).trans c_a0_0_1
  have c_a0_1_2 := (bel1.cell (p := ⟨w.heap.size, 2, none⟩) (by show w.heap.size < _; omega)).trans c_a0_0_2
  clear bel1 B0 c_a0_0_0 c_a0_0_1 c_a0_0_2
  generalize w0.heap.size = m0 at *
  go_wp2_with (fail)
  refine (toN_any h0 x0 w1 ((H0.out.below B1).more B1.size) SM0.out.q SM0.out.w SM0.out.l SM0.out.c).mono ?_
  rintro e w2 ⟨h_p0, rfl, own2, bel2⟩
  have o_p0_2 := Lib.hid own2
  clear own2
  have s2 := bel2.size
  have B2 := B1.trans (bel2.mono B1.size)
  have c_a0_2_0 := (bel2.cell (p := ⟨w.heap.size, 0, none⟩) (by show w.heap.size < _; omega)).trans c_a0_1_0
  have c_a0_2_1 := (bel2.cell (p := ⟨w.heap.size, 1, none⟩) (by show w.heap.size < _; omega)).trans c_a0_1_1
  have c_a0_2_2 := (bel2.cell (p := ⟨w.heap.size, 2, none⟩) (by show w.heap.size < _; omega)).trans c_a0_1_2
  clear bel2 B1 c_a0_1_0 c_a0_1_1 c_a0_1_2
  generalize w1.heap.size = m1 at *
  go_wp2_with (fail)
  refine (toI_x A1 n1 c1 x1 w2 ((H1.out.below B2).more B2.size) hn1).mono ?_
  rintro e w3 ⟨g_p1, rfl, own3, bel3⟩
  have o_p1_3 := Lib.hid own3
  clear own3
  have s3 := bel3.size
  have B3 := B2.trans (bel3.mono B2.size)
  have c_a0_3_0 := (bel3.cell (p := ⟨w.heap.size, 0, none⟩) (by show w.heap.size < _; omega)).trans c_a0_2_0
  have c_a0_3_1 := (bel3.cell (p := ⟨w.heap.size, 1, none⟩) (by show w.heap.size < _; omega)).trans c_a0_2_1
  have c_a0_3_2 := (bel3.cell (p := ⟨w.heap.size, 2, none⟩) (by show w.heap.size < _; omega)).trans c_a0_2_2
  have o_p0_3 := Lib.hid (o_p0_2.out.below bel3)
  clear bel3 B2 o_p0_2 c_a0_2_0 c_a0_2_1 c_a0_2_2
  generalize w2.heap.size = m2 at *
  go_wp2_with (fail)
  refine (toI_x A2 n2 c2 x2 w3 ((H2.out.below B3).more B3.size) hn2).mono ?_
  rintro e w4 ⟨g_p2, rfl, own4, bel4⟩
  have o_p2_4 := Lib.hid own4
  clear own4
  have s4 := bel4.size
  have B4 := B3.trans (bel4.mono B3.size)
  have c_a0_4_0 := (bel4.cell (p := ⟨w.heap.size, 0, none⟩) (by show w.heap.size < _; omega)).trans c_a0_3_0
  have c_a0_4_1 := (bel4.cell (p := ⟨w.heap.size, 1, none⟩) (by show w.heap.size < _; omega)).trans c_a0_3_1
  have c_a0_4_2 := (bel4.cell (p := ⟨w.heap.size, 2, none⟩) (by show w.heap.size < _; omega)).trans c_a0_3_2
  have o_p0_4 := Lib.hid (o_p0_3.out.below bel4)
  have o_p1_4 := Lib.hid (o_p1_3.out.below bel4)
  clear bel4 B3 o_p0_3 o_p1_3 c_a0_3_0 c_a0_3_1 c_a0_3_2
  generalize w3.heap.size = m3 at *
  go_wp2_with (fail)
  refine (sRenumberNet_any h_p0 x0 (some ⟨g_p1, 0, none⟩) (some ⟨g_p2, 0, none⟩) n1 n2 n1 n2 x1 x2 w4 (o_p0_4.out.rd) (o_p1_4.out.rd) (o_p2_4.out.rd) SM0.out.w SM0.out.l SM0.out.c hn1 hn2).mono ?_
  rw [HV.out, HVb.out]
  rintro e w5 ⟨h_v, rfl, own5, bel5⟩
  have o_v_5 := Lib.hid own5
  clear own5
  have s5 := bel5.size
  have B5 := B4.trans (bel5.mono B4.size)
  have c_a0_5_0 := (bel5.cell (p := ⟨w.heap.size, 0, none⟩) (by show w.heap.size < _; omega)).trans c_a0_4_0
  have c_a0_5_1 := (bel5.cell (p := ⟨w.heap.size, 1, none⟩) (by show w.heap.size < _; omega)).trans c_a0_4_1
  have c_a0_5_2 := (bel5.cell (p := ⟨w.heap.size, 2, none⟩) (by show w.heap.size < _; omega)).trans c_a0_4_2
  have o_p0_5 := Lib.hid (o_p0_4.out.below bel5)
  have o_p1_5 := Lib.hid (o_p1_4.out.below bel5)
  have o_p2_5 := Lib.hid (o_p2_4.out.below bel5)
  clear bel5 B4 o_p0_4 o_p1_4 o_p2_4 c_a0_4_0 c_a0_4_1 c_a0_4_2
  generalize w4.heap.size = m4 at *
  clear o_p0_5
  clear o_p1_5
  clear o_p2_5
  have bel6 : Below w5.heap.size w5 (w5.alloc (.cells #[Value.slice h_v.A V.w.length h_v.c, Value.slice h_v.L V.l.length h_v.d, Value.slice h_v.C V.c.length h_v.e] 28)) := (Below.refl _ _).alloc (Nat.le_refl _) _
  obtain ⟨c_v_6_0, c_v_6_1, c_v_6_2⟩ := three_cells (show (w5.alloc (.cells #[Value.slice h_v.A V.w.length h_v.c, Value.slice h_v.L V.l.length h_v.d, Value.slice h_v.C V.c.length h_v.e] 28)).heap[w5.heap.size]? = some (.cells #[Value.slice h_v.A V.w.length h_v.c, Value.slice h_v.L V.l.length h_v.d, Value.slice h_v.C V.c.length h_v.e] 28 (0, 0)) from heap_alloc_new _ _)
  have t6 : w5.heap.size + 1 ≤ (w5.alloc (.cells #[Value.slice h_v.A V.w.length h_v.c, Value.slice h_v.L V.l.length h_v.d, Value.slice h_v.C V.c.length h_v.e] 28)).heap.size := by simp
  have c_a0_6_0 := (bel6.cell (p := ⟨w.heap.size, 0, none⟩) (by show w.heap.size < _; omega)).trans c_a0_5_0
  have c_a0_6_1 := (bel6.cell (p := ⟨w.heap.size, 1, none⟩) (by show w.heap.size < _; omega)).trans c_a0_5_1
  have c_a0_6_2 := (bel6.cell (p := ⟨w.heap.size, 2, none⟩) (by show w.heap.size < _; omega)).trans c_a0_5_2
  clear c_a0_5_0 c_a0_5_1 c_a0_5_2
  go_wp2_with (fail)
  generalize w5.alloc (.cells #[Value.slice h_v.A V.w.length h_v.c, Value.slice h_v.L V.l.length h_v.d, Value.slice h_v.C V.c.length h_v.e] 28) = w6 at *
  have s6 := bel6.size
  have B6 := B5.trans (bel6.mono B5.size)
  have o_v_6 := Lib.hid (o_v_5.out.below bel6)
  clear bel6 B5 o_v_5
  generalize w5.heap.size = m5 at *
  refine (toN_any h0 x0 w6 ((H0.out.below B6).more B6.size) SM0.out.q SM0.out.w SM0.out.l SM0.out.c).mono ?_
  rintro e w7 ⟨h_x0, rfl, own7, bel7⟩
  have o_x0_7 := Lib.hid own7
  clear own7
  have s7 := bel7.size
  have B7 := B6.trans (bel7.mono B6.size)
  have c_a0_7_0 := (bel7.cell (p := ⟨w.heap.size, 0, none⟩) (by show w.heap.size < _; omega)).trans c_a0_6_0
  have c_a0_7_1 := (bel7.cell (p := ⟨w.heap.size, 1, none⟩) (by show w.heap.size < _; omega)).trans c_a0_6_1
  have c_a0_7_2 := (bel7.cell (p := ⟨w.heap.size, 2, none⟩) (by show w.heap.size < _; omega)).trans c_a0_6_2
  have c_v_7_0 := (bel7.cell (p := ⟨m5, 0, none⟩) (by show m5 < _; omega)).trans c_v_6_0
  have c_v_7_1 := (bel7.cell (p := ⟨m5, 1, none⟩) (by show m5 < _; omega)).trans c_v_6_1
  have c_v_7_2 := (bel7.cell (p := ⟨m5, 2, none⟩) (by show m5 < _; omega)).trans c_v_6_2
  have o_v_7 := Lib.hid (o_v_6.out.below bel7)
  clear bel7 B6 o_v_6 c_a0_6_0 c_a0_6_1 c_a0_6_2 c_v_6_0 c_v_6_1 c_v_6_2
  generalize w6.heap.size = m6 at *
  have bel8 : Below w7.heap.size w7 (w7.alloc (.cells #[Value.slice h_x0.A x0.w.length h_x0.c, Value.slice h_x0.L x0.l.length h_x0.d, Value.slice h_x0.C x0.c.length h_x0.e] 28)) := (Below.refl _ _).alloc (Nat.le_refl _) _
  obtain ⟨c_x0_8_0, c_x0_8_1, c_x0_8_2⟩ := three_cells (show (w7.alloc (.cells #[Value.slice h_x0.A x0.w.length h_x0.c, Value.slice h_x0.L x0.l.length h_x0.d, Value.slice h_x0.C x0.c.length h_x0.e] 28)).heap[w7.heap.size]? = some (.cells #[Value.slice h_x0.A x0.w.length h_x0.c, Value.slice h_x0.L x0.l.length h_x0.d, Value.slice h_x0.C x0.c.length h_x0.e] 28 (0, 0)) from heap_alloc_new _ _)
  have t8 : w7.heap.size + 1 ≤ (w7.alloc (.cells #[Value.slice h_x0.A x0.w.length h_x0.c, Value.slice h_x0.L x0.l.length h_x0.d, Value.slice h_x0.C x0.c.length h_x0.e] 28)).heap.size := by simp
  have c_a0_8_0 := (bel8.cell (p := ⟨w.heap.size, 0, none⟩) (by show w.heap.size < _; omega)).trans c_a0_7_0
  have c_a0_8_1 := (bel8.cell (p := ⟨w.heap.size, 1, none⟩) (by show w.heap.size < _; omega)).trans c_a0_7_1
  have c_a0_8_2 := (bel8.cell (p := ⟨w.heap.size, 2, none⟩) (by show w.heap.size < _; omega)).trans c_a0_7_2
  have c_v_8_0 := (bel8.cell (p := ⟨m5, 0, none⟩) (by show m5 < _; omega)).trans c_v_7_0
  have c_v_8_1 := (bel8.cell (p := ⟨m5, 1, none⟩) (by show m5 < _; omega)).trans c_v_7_1
  have c_v_8_2 := (bel8.cell (p := ⟨m5, 2, none⟩) (by show m5 < _; omega)).trans c_v_7_2
  clear c_a0_7_0 c_a0_7_1 c_a0_7_2 c_v_7_0 c_v_7_1 c_v_7_2
  go_wp2_with (fail)
  generalize w7.alloc (.cells #[Value.slice h_x0.A x0.w.length h_x0.c, Value.slice h_x0.L x0.l.length h_x0.d, Value.slice h_x0.C x0.c.length h_x0.e] 28) = w8 at *
  have s8 := bel8.size
  have B8 := B7.trans (bel8.mono B7.size)
  have o_v_8 := Lib.hid (o_v_7.out.below bel8)
  have o_x0_8 := Lib.hid (o_x0_7.out.below bel8)
  clear bel8 B7 o_v_7 o_x0_7
  generalize w7.heap.size = m7 at *
  refine (toI_x A1 n1 c1 x1 w8 ((H1.out.below B8).more B8.size) hn1).mono ?_
  rintro e w9 ⟨g_x1, rfl, own9, bel9⟩
  have o_x1_9 := Lib.hid own9
  clear own9
  have s9 := bel9.size
  have B9 := B8.trans (bel9.mono B8.size)
  have c_a0_9_0 := (bel9.cell (p := ⟨w.heap.size, 0, none⟩) (by show w.heap.size < _; omega)).trans c_a0_8_0
  have c_a0_9_1 := (bel9.cell (p := ⟨w.heap.size, 1, none⟩) (by show w.heap.size < _; omega)).trans c_a0_8_1
  have c_a0_9_2 := (bel9.cell (p := ⟨w.heap.size, 2, none⟩) (by show w.heap.size < _; omega)).trans c_a0_8_2
  have c_v_9_0 := (bel9.cell (p := ⟨m5, 0, none⟩) (by show m5 < _; omega)).trans c_v_8_0
  have c_v_9_1 := (bel9.cell (p := ⟨m5, 1, none⟩) (by show m5 < _; omega)).trans c_v_8_1
  have c_v_9_2 := (bel9.cell (p := ⟨m5, 2, none⟩) (by show m5 < _; omega)).trans c_v_8_2
  have c_x0_9_0 := (bel9.cell (p := ⟨m7, 0, none⟩) (by show m7 < _; omega)).trans c_x0_8_0
  have c_x0_9_1 := (bel9.cell (p := ⟨m7, 1, none⟩) (by show m7 < _; omega)).trans c_x0_8_1
  have c_x0_9_2 := (bel9.cell (p := ⟨m7, 2, none⟩) (by show m7 < _; omega)).trans c_x0_8_2
  have o_v_9 := Lib.hid (o_v_8.out.below bel9)
  have o_x0_9 := Lib.hid (o_x0_8.out.below bel9)
  clear bel9 B8 o_v_8 o_x0_8 c_a0_8_0 c_a0_8_1 c_a0_8_2 c_v_8_0 c_v_8_1 c_v_8_2 c_x0_8_0 c_x0_8_1 c_x0_8_2
  generalize w8.heap.size = m8 at *
  go_wp2_with (fail)
  refine (toI_x A2 n2 c2 x2 w9 ((H2.out.below B9).more B9.size) hn2).mono ?_
  rintro e w10 ⟨g_x2, rfl, own10, bel10⟩
  have o_x2_10 := Lib.hid own10
  clear own10
  have s10 := bel10.size
  have B10 := B9.trans (bel10.mono B9.size)
  have c_a0_10_0 := (bel10.cell (p := ⟨w.heap.size, 0, none⟩) (by show w.heap.size < _; omega)).trans c_a0_9_0
  have c_a0_10_1 := (bel10.cell (p := ⟨w.heap.size, 1, none⟩) (by show w.heap.size < _; omega)).trans c_a0_9_1
  have c_a0_10_2 := (bel10.cell (p := ⟨w.heap.size, 2, none⟩) (by show w.heap.size < _; omega)).trans c_a0_9_2
  have c_v_10_0 := (bel10.cell (p := ⟨m5, 0, none⟩) (by show m5 < _; omega)).trans c_v_9_0
  have c_v_10_1 := (bel10.cell (p := ⟨m5, 1, none⟩) (by show m5 < _; omega)).trans c_v_9_1
  have c_v_10_2 := (bel10.cell (p := ⟨m5, 2, none⟩) (by show m5 < _; omega)).trans c_v_9_2
  have c_x0_10_0 := (bel10.cell (p := ⟨m7, 0, none⟩) (by show m7 < _; omega)).trans c_x0_9_0
  have c_x0_10_1 := (bel10.cell (p := ⟨m7, 1, none⟩) (by show m7 < _; omega)).trans c_x0_9_1
  have c_x0_10_2 := (bel10.cell (p := ⟨m7, 2, none⟩) (by show m7 < _; omega)).trans c_x0_9_2
  have o_v_10 := Lib.hid (o_v_9.out.below bel10)
  have o_x0_10 := Lib.hid (o_x0_9.out.below bel10)
  have o_x1_10 := Lib.hid (o_x1_9.out.below bel10)
  clear bel10 B9 o_v_9 o_x0_9 o_x1_9 c_a0_9_0 c_a0_9_1 c_a0_9_2 c_v_9_0 c_v_9_1 c_v_9_2 c_x0_9_0 c_x0_9_1 c_x0_9_2
  generalize w9.heap.size = m9 at *
  go_wp2_with (fail)
  refine (renumberNet_impl h_x0 x0 (some ⟨g_x1, 0, none⟩) (some ⟨g_x2, 0, none⟩) n1 n2 n1 n2 x1 x2 w10 (o_x0_10.out.rd) SM0.out (o_x1_10.out.rd) (o_x2_10.out.rd) hn1 hn2 (HT.out.below B10 HT.out.lt) (HU.out.below B10 HU.out.lt)).mono ?_
  rw [HV.out, HVb.out]
  rintro e w11 ⟨h_g, rfl, own11, bel11⟩
  have o_g_11 := Lib.hid own11
  clear own11
  have s11 := bel11.size
  have B11 := B10.trans (bel11.mono B10.size)
  have c_a0_11_0 := (bel11.cell (p := ⟨w.heap.size, 0, none⟩) (by show w.heap.size < _; omega)).trans c_a0_10_0
  have c_a0_11_1 := (bel11.cell (p := ⟨w.heap.size, 1, none⟩) (by show w.heap.size < _; omega)).trans c_a0_10_1
  have c_a0_11_2 := (bel11.cell (p := ⟨w.heap.size, 2, none⟩) (by show w.heap.size < _; omega)).trans c_a0_10_2
  have c_v_11_0 := (bel11.cell (p := ⟨m5, 0, none⟩) (by show m5 < _; omega)).trans c_v_10_0
  have c_v_11_1 := (bel11.cell (p := ⟨m5, 1, none⟩) (by show m5 < _; omega)).trans c_v_10_1
  have c_v_11_2 := (bel11.cell (p := ⟨m5, 2, none⟩) (by show m5 < _; omega)).trans c_v_10_2
  have c_x0_11_0 := (bel11.cell (p := ⟨m7, 0, none⟩) (by show m7 < _; omega)).trans c_x0_10_0
  have c_x0_11_1 := (bel11.cell (p := ⟨m7, 1, none⟩) (by show m7 < _; omega)).trans c_x0_10_1
  have c_x0_11_2 := (bel11.cell (p := ⟨m7, 2, none⟩) (by show m7 < _; omega)).trans c_x0_10_2
  have o_v_11 := Lib.hid (o_v_10.out.below bel11)
  have o_x0_11 := Lib.hid (o_x0_10.out.below bel11)
  have o_x1_11 := Lib.hid (o_x1_10.out.below bel11)
  have o_x2_11 := Lib.hid (o_x2_10.out.below bel11)
  clear bel11 B10 o_v_10 o_x0_10 o_x1_10 o_x2_10 c_a0_10_0 c_a0_10_1 c_a0_10_2 c_v_10_0 c_v_10_1 c_v_10_2 c_x0_10_0 c_x0_10_1 c_x0_10_2
  generalize w10.heap.size = m10 at *
  have bel12 : Below w11.heap.size w11 (w11.alloc (.cells #[Value.slice h_g.A V.w.length h_g.c, Value.slice h_g.L V.l.length h_g.d, Value.slice h_g.C V.c.length h_g.e] 28)) := (Below.refl _ _).alloc (Nat.le_refl _) _
  obtain ⟨c_g_12_0, c_g_12_1, c_g_12_2⟩ := three_cells (show (w11.alloc (.cells #[Value.slice h_g.A V.w.length h_g.c, Value.slice h_g.L V.l.length h_g.d, Value.slice h_g.C V.c.length h_g.e] 28)).heap[w11.heap.size]? = some (.cells #[Value.slice h_g.A V.w.length h_g.c, Value.slice h_g.L V.l.length h_g.d, Value.slice h_g.C V.c.length h_g.e] 28 (0, 0)) from heap_alloc_new _ _)
  have t12 : w11.heap.size + 1 ≤ (w11.alloc (.cells #[Value.slice h_g.A V.w.length h_g.c, Value.slice h_g.L V.l.length h_g.d, Value.slice h_g.C V.c.length h_g.e] 28)).heap.size := by simp
  have c_a0_12_0 := (bel12.cell (p := ⟨w.heap.size, 0, none⟩) (by show w.heap.size < _; omega)).trans c_a0_11_0
  have c_a0_12_1 := (bel12.cell (p := ⟨w.heap.size, 1, none⟩) (by show w.heap.size < _; omega)).trans c_a0_11_1
  have c_a0_12_2 := (bel12.cell (p := ⟨w.heap.size, 2, none⟩) (by show w.heap.size < _; omega)).trans c_a0_11_2
  have c_v_12_0 := (bel12.cell (p := ⟨m5, 0, none⟩) (by show m5 < _; omega)).trans c_v_11_0
  have c_v_12_1 := (bel12.cell (p := ⟨m5, 1, none⟩) (by show m5 < _; omega)).trans c_v_11_1
  have c_v_12_2 := (bel12.cell (p := ⟨m5, 2, none⟩) (by show m5 < _; omega)).trans c_v_11_2
  have c_x0_12_0 := (bel12.cell (p := ⟨m7, 0, none⟩) (by show m7 < _; omega)).trans c_x0_11_0
  have c_x0_12_1 := (bel12.cell (p := ⟨m7, 1, none⟩) (by show m7 < _; omega)).trans c_x0_11_1
  have c_x0_12_2 := (bel12.cell (p := ⟨m7, 2, none⟩) (by show m7 < _; omega)).trans c_x0_11_2
  clear c_a0_11_0 c_a0_11_1 c_a0_11_2 c_v_11_0 c_v_11_1 c_v_11_2 c_x0_11_0 c_x0_11_1 c_x0_11_2
  go_wp2_with (fail)
  generalize w11.alloc (.cells #[Value.slice h_g.A V.w.length h_g.c, Value.slice h_g.L V.l.length h_g.d, Value.slice h_g.C V.c.length h_g.e] 28) = w12 at *
  have s12 := bel12.size
  have B12 := B11.trans (bel12.mono B11.size)
  have o_v_12 := Lib.hid (o_v_11.out.below bel12)
  have o_x0_12 := Lib.hid (o_x0_11.out.below bel12)
  have o_x1_12 := Lib.hid (o_x1_11.out.below bel12)
  have o_x2_12 := Lib.hid (o_x2_11.out.below bel12)
  have o_g_12 := Lib.hid (o_g_11.out.below bel12)
  clear bel12 B11 o_v_11 o_x0_11 o_x1_11 o_x2_11 o_g_11
  generalize w11.heap.size = m11 at *
  refine (eqN_any h_g h_v V w12 (o_g_12.out.rd) (o_v_12.out.rd) SMV.out.q SMV.out.w SMV.out.l SMV.out.c).mono ?_
  rintro e w13 ⟨rfl, bel13⟩
  have s13 := bel13.size
  have B13 := B12.trans (bel13.mono B12.size)
  have c_a0_13_0 := (bel13.cell (p := ⟨w.heap.size, 0, none⟩) (by show w.heap.size < _; omega)).trans c_a0_12_0
  have c_a0_13_1 := (bel13.cell (p := ⟨w.heap.size, 1, none⟩) (by show w.heap.size < _; omega)).trans c_a0_12_1
  have c_a0_13_2 := (bel13.cell (p := ⟨w.heap.size, 2, none⟩) (by show w.heap.size < _; omega)).trans c_a0_12_2
  have c_v_13_0 := (bel13.cell (p := ⟨m5, 0, none⟩) (by show m5 < _; omega)).trans c_v_12_0
  have c_v_13_1 := (bel13.cell (p := ⟨m5, 1, none⟩) (by show m5 < _; omega)).trans c_v_12_1
  have c_v_13_2 := (bel13.cell (p := ⟨m5, 2, none⟩) (by show m5 < _; omega)).trans c_v_12_2
  have c_x0_13_0 := (bel13.cell (p := ⟨m7, 0, none⟩) (by show m7 < _; omega)).trans c_x0_12_0
  have c_x0_13_1 := (bel13.cell (p := ⟨m7, 1, none⟩) (by show m7 < _; omega)).trans c_x0_12_1
  have c_x0_13_2 := (bel13.cell (p := ⟨m7, 2, none⟩) (by show m7 < _; omega)).trans c_x0_12_2
  have c_g_13_0 := (bel13.cell (p := ⟨m11, 0, none⟩) (by show m11 < _; omega)).trans c_g_12_0
  have c_g_13_1 := (bel13.cell (p := ⟨m11, 1, none⟩) (by show m11 < _; omega)).trans c_g_12_1
  have c_g_13_2 := (bel13.cell (p := ⟨m11, 2, none⟩) (by show m11 < _; omega)).trans c_g_12_2
  have o_v_13 := Lib.hid (o_v_12.out.below bel13)
  have o_x0_13 := Lib.hid (o_x0_12.out.below bel13)
  have o_x1_13 := Lib.hid (o_x1_12.out.below bel13)
  have o_x2_13 := Lib.hid (o_x2_12.out.below bel13)
  have o_g_13 := Lib.hid (o_g_12.out.below bel13)
  clear bel13 B12 o_v_12 o_x0_12 o_x1_12 o_x2_12 o_g_12 c_a0_12_0 c_a0_12_1 c_a0_12_2 c_v_12_0 c_v_12_1 c_v_12_2 c_x0_12_0 c_x0_12_1 c_x0_12_2 c_g_12_0 c_g_12_1 c_g_12_2
  generalize w12.heap.size = m12 at *
  have R_x := Lib.hid (o_x0_13.out.rd)
  have HBx := Lib.hid B13
  go_upto_region 16 with (fail)
  go_cut [67] (fun b wx => b = .bool false ∧ Below w13.heap.size w13 wx)
  case first =>
    go_wp2_with (fail)
    go_region_with (first
      | (go_at_call 28; refine (toN_any h0 x0 w13.drew ((H0.out.below HBx.out).more HBx.out.size) SM0.out.q SM0.out.w SM0.out.l SM0.out.c).mono ?_; rintro e wt ⟨ht, rfl, ownt, belt'⟩; have belt := undrew belt'; have cxt0 := (belt.cell (p := ⟨m7, 0, none⟩) (by show m7 < _; omega)).trans c_x0_13_0; have cxt1 := (belt.cell (p := ⟨m7, 1, none⟩) (by show m7 < _; omega)).trans c_x0_13_1; have cxt2 := (belt.cell (p := ⟨m7, 2, none⟩) (by show m7 < _; omega)).trans c_x0_13_2; have R7 := Lib.hid ((R_x.out.below belt).more belt.size); have S7 := Lib.hid ownt.rd; have B7 := Lib.hid belt; clear ownt belt belt')
      | (go_at_call 29; refine (eqN_any h_x0 _ x0 _ R7.out S7.out SM0.out.q SM0.out.w SM0.out.l SM0.out.c).mono ?_; rintro e wu ⟨rfl, belu⟩; have B8 := Lib.hid (B7.out.trans (belu.mono B7.out.size)); clear belu))
    all_goals (try go_wp2_with (fail))
    all_goals go_meet
    all_goals exact ⟨rfl, B8.out⟩
  case rest =>
  obtain ⟨rfl, bel14⟩ := hcut
  clear R_x HBx
  rename World => w14
  have s14 := bel14.size
  have B14 := B13.trans (bel14.mono B13.size)
  have c_a0_14_0 := (bel14.cell (p := ⟨w.heap.size, 0, none⟩) (by show w.heap.size < _; omega)).trans c_a0_13_0
  have c_a0_14_1 := (bel14.cell (p := ⟨w.heap.size, 1, none⟩) (by show w.heap.size < _; omega)).trans c_a0_13_1
  have c_a0_14_2 := (bel14.cell (p := ⟨w.heap.size, 2, none⟩) (by show w.heap.size < _; omega)).trans c_a0_13_2
  have c_v_14_0 := (bel14.cell (p := ⟨m5, 0, none⟩) (by show m5 < _; omega)).trans c_v_13_0
  have c_v_14_1 := (bel14.cell (p := ⟨m5, 1, none⟩) (by show m5 < _; omega)).trans c_v_13_1
  have c_v_14_2 := (bel14.cell (p := ⟨m5, 2, none⟩) (by show m5 < _; omega)).trans c_v_13_2
  have c_x0_14_0 := (bel14.cell (p := ⟨m7, 0, none⟩) (by show m7 < _; omega)).trans c_x0_13_0
  have c_x0_14_1 := (bel14.cell (p := ⟨m7, 1, none⟩) (by show m7 < _; omega)).trans c_x0_13_1
  have c_x0_14_2 := (bel14.cell (p := ⟨m7, 2, none⟩) (by show m7 < _; omega)).trans c_x0_13_2
  have c_g_14_0 := (bel14.cell (p := ⟨m11, 0, none⟩) (by show m11 < _; omega)).trans c_g_13_0
  have c_g_14_1 := (bel14.cell (p := ⟨m11, 1, none⟩) (by show m11 < _; omega)).trans c_g_13_1
  have c_g_14_2 := (bel14.cell (p := ⟨m11, 2, none⟩) (by show m11 < _; omega)).trans c_g_13_2
  have o_v_14 := Lib.hid (o_v_13.out.below bel14)
  have o_x0_14 := Lib.hid (o_x0_13.out.below bel14)
  have o_x1_14 := Lib.hid (o_x1_13.out.below bel14)
  have o_x2_14 := Lib.hid (o_x2_13.out.below bel14)
  have o_g_14 := Lib.hid (o_g_13.out.below bel14)
  clear bel14 B13 o_v_13 o_x0_13 o_x1_13 o_x2_13 o_g_13 c_a0_13_0 c_a0_13_1 c_a0_13_2 c_v_13_0 c_v_13_1 c_v_13_2 c_x0_13_0 c_x0_13_1 c_x0_13_2 c_g_13_0 c_g_13_1 c_g_13_2
  generalize w13.heap.size = m13 at *
  go_wp2_with (fail)
  refine (toI_x A1 n1 c1 x1 w14 ((H1.out.below B14).more B14.size) hn1).mono ?_
  rintro e w15 ⟨g_t, rfl, own15, bel15⟩
  have o_t_15 := Lib.hid own15
  clear own15
  have s15 := bel15.size
  have B15 := B14.trans (bel15.mono B14.size)
  have c_a0_15_0 := (bel15.cell (p := ⟨w.heap.size, 0, none⟩) (by show w.heap.size < _; omega)).trans c_a0_14_0
  have c_a0_15_1 := (bel15.cell (p := ⟨w.heap.size, 1, none⟩) (by show w.heap.size < _; omega)).trans c_a0_14_1
  have c_a0_15_2 := (bel15.cell (p := ⟨w.heap.size, 2, none⟩) (by show w.heap.size < _; omega)).trans c_a0_14_2
  have c_v_15_0 := (bel15.cell (p := ⟨m5, 0, none⟩) (by show m5 < _; omega)).trans c_v_14_0
  have c_v_15_1 := (bel15.cell (p := ⟨m5, 1, none⟩) (by show m5 < _; omega)).trans c_v_14_1
  have c_v_15_2 := (bel15.cell (p := ⟨m5, 2, none⟩) (by show m5 < _; omega)).trans c_v_14_2
  have c_x0_15_0 := (bel15.cell (p := ⟨m7, 0, none⟩) (by show m7 < _; omega)).trans c_x0_14_0
  have c_x0_15_1 := (bel15.cell (p := ⟨m7, 1, none⟩) (by show m7 < _; omega)).trans c_x0_14_1
  have c_x0_15_2 := (bel15.cell (p := ⟨m7, 2, none⟩) (by show m7 < _; omega)).trans c_x0_14_2
  have c_g_15_0 := (bel15.cell (p := ⟨m11, 0, none⟩) (by show m11 < _; omega)).trans c_g_14_0
  have c_g_15_1 := (bel15.cell (p := ⟨m11, 1, none⟩) (by show m11 < _; omega)).trans c_g_14_1
  have c_g_15_2 := (bel15.cell (p := ⟨m11, 2, none⟩) (by show m11 < _; omega)).trans c_g_14_2
  have o_v_15 := Lib.hid (o_v_14.out.below bel15)
  have o_x0_15 := Lib.hid (o_x0_14.out.below bel15)
  have o_x1_15 := Lib.hid (o_x1_14.out.below bel15)
  have o_x2_15 := Lib.hid (o_x2_14.out.below bel15)
  have o_g_15 := Lib.hid (o_g_14.out.below bel15)
  clear bel15 B14 o_v_14 o_x0_14 o_x1_14 o_x2_14 o_g_14 c_a0_14_0 c_a0_14_1 c_a0_14_2 c_v_14_0 c_v_14_1 c_v_14_2 c_x0_14_0 c_x0_14_1 c_x0_14_2 c_g_14_0 c_g_14_1 c_g_14_2
  generalize w14.heap.size = m14 at *
  go_wp2_with (fail)
  refine (eqI_x _ _ _ _ _ x1 w15 (o_x1_15.out.rd) (o_t_15.out.rd) hn1).mono ?_
  rintro e w16 ⟨rfl, bel16⟩
  have s16 := bel16.size
  have B16 := B15.trans (bel16.mono B15.size)
  have c_a0_16_0 := (bel16.cell (p := ⟨w.heap.size, 0, none⟩) (by show w.heap.size < _; omega)).trans c_a0_15_0
  have c_a0_16_1 := (bel16.cell (p := ⟨w.heap.size, 1, none⟩) (by show w.heap.size < _; omega)).trans c_a0_15_1
  have c_a0_16_2 := (bel16.cell (p := ⟨w.heap.size, 2, none⟩) (by show w.heap.size < _; omega)).trans c_a0_15_2
  have c_v_16_0 := (bel16.cell (p := ⟨m5, 0, none⟩) (by show m5 < _; omega)).trans c_v_15_0
  have c_v_16_1 := (bel16.cell (p := ⟨m5, 1, none⟩) (by show m5 < _; omega)).trans c_v_15_1
  have c_v_16_2 := (bel16.cell (p := ⟨m5, 2, none⟩) (by show m5 < _; omega)).trans c_v_15_2
  have c_x0_16_0 := (bel16.cell (p := ⟨m7, 0, none⟩) (by show m7 < _; omega)).trans c_x0_15_0
  have c_x0_16_1 := (bel16.cell (p := ⟨m7, 1, none⟩) (by show m7 < _; omega)).trans c_x0_15_1
  have c_x0_16_2 := (bel16.cell (p := ⟨m7, 2, none⟩) (by show m7 < _; omega)).trans c_x0_15_2
  have c_g_16_0 := (bel16.cell (p := ⟨m11, 0, none⟩) (by show m11 < _; omega)).trans c_g_15_0
  have c_g_16_1 := (bel16.cell (p := ⟨m11, 1, none⟩) (by show m11 < _; omega)).trans c_g_15_1
  have c_g_16_2 := (bel16.cell (p := ⟨m11, 2, none⟩) (by show m11 < _; omega)).trans c_g_15_2
  have o_v_16 := Lib.hid (o_v_15.out.below bel16)
  have o_x0_16 := Lib.hid (o_x0_15.out.below bel16)
  have o_x1_16 := Lib.hid (o_x1_15.out.below bel16)
  have o_x2_16 := Lib.hid (o_x2_15.out.below bel16)
  have o_g_16 := Lib.hid (o_g_15.out.below bel16)
  have o_t_16 := Lib.hid (o_t_15.out.below bel16)
  clear bel16 B15 o_v_15 o_x0_15 o_x1_15 o_x2_15 o_g_15 o_t_15 c_a0_15_0 c_a0_15_1 c_a0_15_2 c_v_15_0 c_v_15_1 c_v_15_2 c_x0_15_0 c_x0_15_1 c_x0_15_2 c_g_15_0 c_g_15_1 c_g_15_2
  generalize w15.heap.size = m15 at *
  clear o_t_16
  go_wp2_with (fail)
  refine (toI_x A2 n2 c2 x2 w16 ((H2.out.below B16).more B16.size) hn2).mono ?_
  rintro e w17 ⟨g_t, rfl, own17, bel17⟩
  have o_t_17 := Lib.hid own17
  clear own17
  have s17 := bel17.size
  have B17 := B16.trans (bel17.mono B16.size)
  have c_a0_17_0 := (bel17.cell (p := ⟨w.heap.size, 0, none⟩) (by show w.heap.size < _; omega)).trans c_a0_16_0
  have c_a0_17_1 := (bel17.cell (p := ⟨w.heap.size, 1, none⟩) (by show w.heap.size < _; omega)).trans c_a0_16_1
  have c_a0_17_2 := (bel17.cell (p := ⟨w.heap.size, 2, none⟩) (by show w.heap.size < _; omega)).trans c_a0_16_2
  have c_v_17_0 := (bel17.cell (p := ⟨m5, 0, none⟩) (by show m5 < _; omega)).trans c_v_16_0
  have c_v_17_1 := (bel17.cell (p := ⟨m5, 1, none⟩) (by show m5 < _; omega)).trans c_v_16_1
  have c_v_17_2 := (bel17.cell (p := ⟨m5, 2, none⟩) (by show m5 < _; omega)).trans c_v_16_2
  have c_x0_17_0 := (bel17.cell (p := ⟨m7, 0, none⟩) (by show m7 < _; omega)).trans c_x0_16_0
  have c_x0_17_1 := (bel17.cell (p := ⟨m7, 1, none⟩) (by show m7 < _; omega)).trans c_x0_16_1
  have c_x0_17_2 := (bel17.cell (p := ⟨m7, 2, none⟩) (by show m7 < _; omega)).trans c_x0_16_2
  have c_g_17_0 := (bel17.cell (p := ⟨m11, 0, none⟩) (by show m11 < _; omega)).trans c_g_16_0
  have c_g_17_1 := (bel17.cell (p := ⟨m11, 1, none⟩) (by show m11 < _; omega)).trans c_g_16_1
  have c_g_17_2 := (bel17.cell (p := ⟨m11, 2, none⟩) (by show m11 < _; omega)).trans c_g_16_2
  have o_v_17 := Lib.hid (o_v_16.out.below bel17)
  have o_x0_17 := Lib.hid (o_x0_16.out.below bel17)
  have o_x1_17 := Lib.hid (o_x1_16.out.below bel17)
  have o_x2_17 := Lib.hid (o_x2_16.out.below bel17)
  have o_g_17 := Lib.hid (o_g_16.out.below bel17)
  clear bel17 B16 o_v_16 o_x0_16 o_x1_16 o_x2_16 o_g_16 c_a0_16_0 c_a0_16_1 c_a0_16_2 c_v_16_0 c_v_16_1 c_v_16_2 c_x0_16_0 c_x0_16_1 c_x0_16_2 c_g_16_0 c_g_16_1 c_g_16_2
  generalize w16.heap.size = m16 at *
  go_wp2_with (fail)
  refine (eqI_x _ _ _ _ _ x2 w17 (o_x2_17.out.rd) (o_t_17.out.rd) hn2).mono ?_
  rintro e w18 ⟨rfl, bel18⟩
  have s18 := bel18.size
  have B18 := B17.trans (bel18.mono B17.size)
  have c_a0_18_0 := (bel18.cell (p := ⟨w.heap.size, 0, none⟩) (by show w.heap.size < _; omega)).trans c_a0_17_0
  have c_a0_18_1 := (bel18.cell (p := ⟨w.heap.size, 1, none⟩) (by show w.heap.size < _; omega)).trans c_a0_17_1
  have c_a0_18_2 := (bel18.cell (p := ⟨w.heap.size, 2, none⟩) (by show w.heap.size < _; omega)).trans c_a0_17_2
  have c_v_18_0 := (bel18.cell (p := ⟨m5, 0, none⟩) (by show m5 < _; omega)).trans c_v_17_0
  have c_v_18_1 := (bel18.cell (p := ⟨m5, 1, none⟩) (by show m5 < _; omega)).trans c_v_17_1
  have c_v_18_2 := (bel18.cell (p := ⟨m5, 2, none⟩) (by show m5 < _; omega)).trans c_v_17_2
  have c_x0_18_0 := (bel18.cell (p := ⟨m7, 0, none⟩) (by show m7 < _; omega)).trans c_x0_17_0
  have c_x0_18_1 := (bel18.cell (p := ⟨m7, 1, none⟩) (by show m7 < _; omega)).trans c_x0_17_1
  have c_x0_18_2 := (bel18.cell (p := ⟨m7, 2, none⟩) (by show m7 < _; omega)).trans c_x0_17_2
  have c_g_18_0 := (bel18.cell (p := ⟨m11, 0, none⟩) (by show m11 < _; omega)).trans c_g_17_0
  have c_g_18_1 := (bel18.cell (p := ⟨m11, 1, none⟩) (by show m11 < _; omega)).trans c_g_17_1
  have c_g_18_2 := (bel18.cell (p := ⟨m11, 2, none⟩) (by show m11 < _; omega)).trans c_g_17_2
  have o_v_18 := Lib.hid (o_v_17.out.below bel18)
  have o_x0_18 := Lib.hid (o_x0_17.out.below bel18)
  have o_x1_18 := Lib.hid (o_x1_17.out.below bel18)
  have o_x2_18 := Lib.hid (o_x2_17.out.below bel18)
  have o_g_18 := Lib.hid (o_g_17.out.below bel18)
  have o_t_18 := Lib.hid (o_t_17.out.below bel18)
  clear bel18 B17 o_v_17 o_x0_17 o_x1_17 o_x2_17 o_g_17 o_t_17 c_a0_17_0 c_a0_17_1 c_a0_17_2 c_v_17_0 c_v_17_1 c_v_17_2 c_x0_17_0 c_x0_17_1 c_x0_17_2 c_g_17_0 c_g_17_1 c_g_17_2
  generalize w17.heap.size = m17 at *
  clear o_t_18
  go_wp2_with (fail)
  refine (markN_any h_x0 x0 (1) w18 _ _ o_x0_18.out SM0.out.w SM0.out.t SM0.out.l SM0.out.c (by omega) (by omega)).mono ?_
  rintro e w19 ⟨rfl, own19, kp19⟩
  have o_x0_19 := Lib.hid own19
  clear own19
  have s19 := kp19.size
  have B19 := kp19.to_below B18 (by omega) B18.size
  have c_a0_19_0 := (kept_cell kp19 (p := ⟨w.heap.size, 0, none⟩) (by show w.heap.size < _; omega) (by show w.heap.size < _ ∨ _ ≤ w.heap.size; omega)).trans c_a0_18_0
  have c_a0_19_1 := (kept_cell kp19 (p := ⟨w.heap.size, 1, none⟩) (by show w.heap.size < _; omega) (by show w.heap.size < _ ∨ _ ≤ w.heap.size; omega)).trans c_a0_18_1
  have c_a0_19_2 := (kept_cell kp19 (p := ⟨w.heap.size, 2, none⟩) (by show w.heap.size < _; omega) (by show w.heap.size < _ ∨ _ ≤ w.heap.size; omega)).trans c_a0_18_2
  have c_v_19_0 := (kept_cell kp19 (p := ⟨m5, 0, none⟩) (by show m5 < _; omega) (by show m5 < _ ∨ _ ≤ m5; omega)).trans c_v_18_0
  have c_v_19_1 := (kept_cell kp19 (p := ⟨m5, 1, none⟩) (by show m5 < _; omega) (by show m5 < _ ∨ _ ≤ m5; omega)).trans c_v_18_1
  have c_v_19_2 := (kept_cell kp19 (p := ⟨m5, 2, none⟩) (by show m5 < _; omega) (by show m5 < _ ∨ _ ≤ m5; omega)).trans c_v_18_2
  have c_x0_19_0 := (kept_cell kp19 (p := ⟨m7, 0, none⟩) (by show m7 < _; omega) (by show m7 < _ ∨ _ ≤ m7; omega)).trans c_x0_18_0
  have c_x0_19_1 := (kept_cell kp19 (p := ⟨m7, 1, none⟩) (by show m7 < _; omega) (by show m7 < _ ∨ _ ≤ m7; omega)).trans c_x0_18_1
  have c_x0_19_2 := (kept_cell kp19 (p := ⟨m7, 2, none⟩) (by show m7 < _; omega) (by show m7 < _ ∨ _ ≤ m7; omega)).trans c_x0_18_2
  have c_g_19_0 := (kept_cell kp19 (p := ⟨m11, 0, none⟩) (by show m11 < _; omega) (by show m11 < _ ∨ _ ≤ m11; omega)).trans c_g_18_0
  have c_g_19_1 := (kept_cell kp19 (p := ⟨m11, 1, none⟩) (by show m11 < _; omega) (by show m11 < _ ∨ _ ≤ m11; omega)).trans c_g_18_1
  have c_g_19_2 := (kept_cell kp19 (p := ⟨m11, 2, none⟩) (by show m11 < _; omega) (by show m11 < _ ∨ _ ≤ m11; omega)).trans c_g_18_2
  have o_v_19 := Lib.hid (o_v_18.out.kept kp19 (by omega))
  have o_x1_19 := Lib.hid (o_x1_18.out.kept kp19 (by omega))
  have o_x2_19 := Lib.hid (o_x2_18.out.kept kp19 (by omega))
  have o_g_19 := Lib.hid (o_g_18.out.kept kp19 (by omega))
  clear kp19 B18 o_v_18 o_x0_18 o_x1_18 o_x2_18 o_g_18 c_a0_18_0 c_a0_18_1 c_a0_18_2 c_v_18_0 c_v_18_1 c_v_18_2 c_x0_18_0 c_x0_18_1 c_x0_18_2 c_g_18_0 c_g_18_1 c_g_18_2
  generalize w18.heap.size = m18 at *
  go_wp2_with (fail)
  refine (markI_x _ _ _ x1 (1 + ((ntot x0 : Nat) : Int)) w19 _ _ o_x1_19.out hn1 (by omega) (by omega)).mono ?_
  rintro e w20 ⟨rfl, own20, kp20⟩
  have o_x1_20 := Lib.hid own20
  clear own20
  have s20 := kp20.size
  have B20 := kp20.to_below B19 (by omega) B19.size
  have c_a0_20_0 := (kept_cell kp20 (p := ⟨w.heap.size, 0, none⟩) (by show w.heap.size < _; omega) (by show w.heap.size < _ ∨ _ ≤ w.heap.size; omega)).trans c_a0_19_0
  have c_a0_20_1 := (kept_cell kp20 (p := ⟨w.heap.size, 1, none⟩) (by show w.heap.size < _; omega) (by show w.heap.size < _ ∨ _ ≤ w.heap.size; omega)).trans c_a0_19_1
  have c_a0_20_2 := (kept_cell kp20 (p := ⟨w.heap.size, 2, none⟩) (by show w.heap.size < _; omega) (by show w.heap.size < _ ∨ _ ≤ w.heap.size; omega)).trans c_a0_19_2
  have c_v_20_0 := (kept_cell kp20 (p := ⟨m5, 0, none⟩) (by show m5 < _; omega) (by show m5 < _ ∨ _ ≤ m5; omega)).trans c_v_19_0
  have c_v_20_1 := (kept_cell kp20 (p := ⟨m5, 1, none⟩) (by show m5 < _; omega) (by show m5 < _ ∨ _ ≤ m5; omega)).trans c_v_19_1
  have c_v_20_2 := (kept_cell kp20 (p := ⟨m5, 2, none⟩) (by show m5 < _; omega) (by show m5 < _ ∨ _ ≤ m5; omega)).trans c_v_19_2
  have c_x0_20_0 := (kept_cell kp20 (p := ⟨m7, 0, none⟩) (by show m7 < _; omega) (by show m7 < _ ∨ _ ≤ m7; omega)).trans c_x0_19_0
  have c_x0_20_1 := (kept_cell kp20 (p := ⟨m7, 1, none⟩) (by show m7 < _; omega) (by show m7 < _ ∨ _ ≤ m7; omega)).trans c_x0_19_1
  have c_x0_20_2 := (kept_cell kp20 (p := ⟨m7, 2, none⟩) (by show m7 < _; omega) (by show m7 < _ ∨ _ ≤ m7; omega)).trans c_x0_19_2
  have c_g_20_0 := (kept_cell kp20 (p := ⟨m11, 0, none⟩) (by show m11 < _; omega) (by show m11 < _ ∨ _ ≤ m11; omega)).trans c_g_19_0
  have c_g_20_1 := (kept_cell kp20 (p := ⟨m11, 1, none⟩) (by show m11 < _; omega) (by show m11 < _ ∨ _ ≤ m11; omega)).trans c_g_19_1
  have c_g_20_2 := (kept_cell kp20 (p := ⟨m11, 2, none⟩) (by show m11 < _; omega) (by show m11 < _ ∨ _ ≤ m11; omega)).trans c_g_19_2
  have o_v_20 := Lib.hid (o_v_19.out.kept kp20 (by omega))
  have o_x0_20 := Lib.hid (o_x0_19.out.kept kp20 (by omega))
  have o_x2_20 := Lib.hid (o_x2_19.out.kept kp20 (by omega))
  have o_g_20 := Lib.hid (o_g_19.out.kept kp20 (by omega))
  clear kp20 B19 o_v_19 o_x0_19 o_x1_19 o_x2_19 o_g_19 c_a0_19_0 c_a0_19_1 c_a0_19_2 c_v_19_0 c_v_19_1 c_v_19_2 c_x0_19_0 c_x0_19_1 c_x0_19_2 c_g_19_0 c_g_19_1 c_g_19_2
  generalize w19.heap.size = m19 at *
  go_wp2_with (fail)
  refine (markI_x _ _ _ x2 (1 + ((ntot x0 : Nat) : Int) + (n1 : Int)) w20 _ _ o_x2_20.out hn2 (by omega) (by omega)).mono ?_
  rintro e w21 ⟨rfl, own21, kp21⟩
  have o_x2_21 := Lib.hid own21
  clear own21
  have s21 := kp21.size
  have B21 := kp21.to_below B20 (by omega) B20.size
  have c_a0_21_0 := (kept_cell kp21 (p := ⟨w.heap.size, 0, none⟩) (by show w.heap.size < _; omega) (by show w.heap.size < _ ∨ _ ≤ w.heap.size; omega)).trans c_a0_20_0
  have c_a0_21_1 := (kept_cell kp21 (p := ⟨w.heap.size, 1, none⟩) (by show w.heap.size < _; omega) (by show w.heap.size < _ ∨ _ ≤ w.heap.size; omega)).trans c_a0_20_1
  have c_a0_21_2 := (kept_cell kp21 (p := ⟨w.heap.size, 2, none⟩) (by show w.heap.size < _; omega) (by show w.heap.size < _ ∨ _ ≤ w.heap.size; omega)).trans c_a0_20_2
  have c_v_21_0 := (kept_cell kp21 (p := ⟨m5, 0, none⟩) (by show m5 < _; omega) (by show m5 < _ ∨ _ ≤ m5; omega)).trans c_v_20_0
  have c_v_21_1 := (kept_cell kp21 (p := ⟨m5, 1, none⟩) (by show m5 < _; omega) (by show m5 < _ ∨ _ ≤ m5; omega)).trans c_v_20_1
  have c_v_21_2 := (kept_cell kp21 (p := ⟨m5, 2, none⟩) (by show m5 < _; omega) (by show m5 < _ ∨ _ ≤ m5; omega)).trans c_v_20_2
  have c_x0_21_0 := (kept_cell kp21 (p := ⟨m7, 0, none⟩) (by show m7 < _; omega) (by show m7 < _ ∨ _ ≤ m7; omega)).trans c_x0_20_0
  have c_x0_21_1 := (kept_cell kp21 (p := ⟨m7, 1, none⟩) (by show m7 < _; omega) (by show m7 < _ ∨ _ ≤ m7; omega)).trans c_x0_20_1
  have c_x0_21_2 := (kept_cell kp21 (p := ⟨m7, 2, none⟩) (by show m7 < _; omega) (by show m7 < _ ∨ _ ≤ m7; omega)).trans c_x0_20_2
  have c_g_21_0 := (kept_cell kp21 (p := ⟨m11, 0, none⟩) (by show m11 < _; omega) (by show m11 < _ ∨ _ ≤ m11; omega)).trans c_g_20_0
  have c_g_21_1 := (kept_cell kp21 (p := ⟨m11, 1, none⟩) (by show m11 < _; omega) (by show m11 < _ ∨ _ ≤ m11; omega)).trans c_g_20_1
  have c_g_21_2 := (kept_cell kp21 (p := ⟨m11, 2, none⟩) (by show m11 < _; omega) (by show m11 < _ ∨ _ ≤ m11; omega)).trans c_g_20_2
  have o_v_21 := Lib.hid (o_v_20.out.kept kp21 (by omega))
  have o_x0_21 := Lib.hid (o_x0_20.out.kept kp21 (by omega))
  have o_x1_21 := Lib.hid (o_x1_20.out.kept kp21 (by omega))
  have o_g_21 := Lib.hid (o_g_20.out.kept kp21 (by omega))
  clear kp21 B20 o_v_20 o_x0_20 o_x1_20 o_x2_20 o_g_20 c_a0_20_0 c_a0_20_1 c_a0_20_2 c_v_20_0 c_v_20_1 c_v_20_2 c_x0_20_0 c_x0_20_1 c_x0_20_2 c_g_20_0 c_g_20_1 c_g_20_2
  generalize w20.heap.size = m20 at *
  have hkk : decide (1 + ((ntot x0 : Nat) : Int) + (n1 : Int) + (n2 : Int) < 0) = false := decide_eq_false (by omega)
  clear o_x0_21
  clear o_x1_21
  clear o_x2_21
  go_wp2_with (fail)
  refine (eqN_any h_g h_v V w21 (o_g_21.out.rd) (o_v_21.out.rd) SMV.out.q SMV.out.w SMV.out.l SMV.out.c).mono ?_
  rintro e w22 ⟨rfl, bel22⟩
  have s22 := bel22.size
  have B22 := B21.trans (bel22.mono B21.size)
  have c_a0_22_0 := (bel22.cell (p := ⟨w.heap.size, 0, none⟩) (by show w.heap.size < _; omega)).trans c_a0_21_0
  have c_a0_22_1 := (bel22.cell (p := ⟨w.heap.size, 1, none⟩) (by show w.heap.size < _; omega)).trans c_a0_21_1
  have c_a0_22_2 := (bel22.cell (p := ⟨w.heap.size, 2, none⟩) (by show w.heap.size < _; omega)).trans c_a0_21_2
  have c_v_22_0 := (bel22.cell (p := ⟨m5, 0, none⟩) (by show m5 < _; omega)).trans c_v_21_0
  have c_v_22_1 := (bel22.cell (p := ⟨m5, 1, none⟩) (by show m5 < _; omega)).trans c_v_21_1
  have c_v_22_2 := (bel22.cell (p := ⟨m5, 2, none⟩) (by show m5 < _; omega)).trans c_v_21_2
  have c_x0_22_0 := (bel22.cell (p := ⟨m7, 0, none⟩) (by show m7 < _; omega)).trans c_x0_21_0
  have c_x0_22_1 := (bel22.cell (p := ⟨m7, 1, none⟩) (by show m7 < _; omega)).trans c_x0_21_1
  have c_x0_22_2 := (bel22.cell (p := ⟨m7, 2, none⟩) (by show m7 < _; omega)).trans c_x0_21_2
  have c_g_22_0 := (bel22.cell (p := ⟨m11, 0, none⟩) (by show m11 < _; omega)).trans c_g_21_0
  have c_g_22_1 := (bel22.cell (p := ⟨m11, 1, none⟩) (by show m11 < _; omega)).trans c_g_21_1
  have c_g_22_2 := (bel22.cell (p := ⟨m11, 2, none⟩) (by show m11 < _; omega)).trans c_g_21_2
  have o_v_22 := Lib.hid (o_v_21.out.below bel22)
  have o_g_22 := Lib.hid (o_g_21.out.below bel22)
  clear bel22 B21 o_v_21 o_g_21 c_a0_21_0 c_a0_21_1 c_a0_21_2 c_v_21_0 c_v_21_1 c_v_21_2 c_x0_21_0 c_x0_21_1 c_x0_21_2 c_g_21_0 c_g_21_1 c_g_21_2
  generalize w21.heap.size = m21 at *
  have hmm : decide (1 + ((ntot V : Nat) : Int) < 0) = false := decide_eq_false (by omega)
  go_wp2_with (fail)
  refine (markN_any h_g V (1) w22 _ _ o_g_22.out SMV.out.w SMV.out.t SMV.out.l SMV.out.c (by omega) (by omega)).mono ?_
  rintro e w23 ⟨rfl, own23, kp23⟩
  have o_g_23 := Lib.hid own23
  clear own23
  have s23 := kp23.size
  have B23 := kp23.to_below B22 (by omega) B22.size
  have c_a0_23_0 := (kept_cell kp23 (p := ⟨w.heap.size, 0, none⟩) (by show w.heap.size < _; omega) (by show w.heap.size < _ ∨ _ ≤ w.heap.size; omega)).trans c_a0_22_0
  have c_a0_23_1 := (kept_cell kp23 (p := ⟨w.heap.size, 1, none⟩) (by show w.heap.size < _; omega) (by show w.heap.size < _ ∨ _ ≤ w.heap.size; omega)).trans c_a0_22_1
  have c_a0_23_2 := (kept_cell kp23 (p := ⟨w.heap.size, 2, none⟩) (by show w.heap.size < _; omega) (by show w.heap.size < _ ∨ _ ≤ w.heap.size; omega)).trans c_a0_22_2
  have c_v_23_0 := (kept_cell kp23 (p := ⟨m5, 0, none⟩) (by show m5 < _; omega) (by show m5 < _ ∨ _ ≤ m5; omega)).trans c_v_22_0
  have c_v_23_1 := (kept_cell kp23 (p := ⟨m5, 1, none⟩) (by show m5 < _; omega) (by show m5 < _ ∨ _ ≤ m5; omega)).trans c_v_22_1
  have c_v_23_2 := (kept_cell kp23 (p := ⟨m5, 2, none⟩) (by show m5 < _; omega) (by show m5 < _ ∨ _ ≤ m5; omega)).trans c_v_22_2
  have c_x0_23_0 := (kept_cell kp23 (p := ⟨m7, 0, none⟩) (by show m7 < _; omega) (by show m7 < _ ∨ _ ≤ m7; omega)).trans c_x0_22_0
  have c_x0_23_1 := (kept_cell kp23 (p := ⟨m7, 1, none⟩) (by show m7 < _; omega) (by show m7 < _ ∨ _ ≤ m7; omega)).trans c_x0_22_1
  have c_x0_23_2 := (kept_cell kp23 (p := ⟨m7, 2, none⟩) (by show m7 < _; omega) (by show m7 < _ ∨ _ ≤ m7; omega)).trans c_x0_22_2
  have c_g_23_0 := (kept_cell kp23 (p := ⟨m11, 0, none⟩) (by show m11 < _; omega) (by show m11 < _ ∨ _ ≤ m11; omega)).trans c_g_22_0
  have c_g_23_1 := (kept_cell kp23 (p := ⟨m11, 1, none⟩) (by show m11 < _; omega) (by show m11 < _ ∨ _ ≤ m11; omega)).trans c_g_22_1
  have c_g_23_2 := (kept_cell kp23 (p := ⟨m11, 2, none⟩) (by show m11 < _; omega) (by show m11 < _ ∨ _ ≤ m11; omega)).trans c_g_22_2
  have o_v_23 := Lib.hid (o_v_22.out.kept kp23 (by omega))
  clear kp23 B22 o_v_22 o_g_22 c_a0_22_0 c_a0_22_1 c_a0_22_2 c_v_22_0 c_v_22_1 c_v_22_2 c_x0_22_0 c_x0_22_1 c_x0_22_2 c_g_22_0 c_g_22_1 c_g_22_2
  generalize w22.heap.size = m22 at *
  go_wp2_with (fail)
  refine (heldN_any h_g V 1 w23 (rd_mrk o_g_23.out.rd) SMV.out.w SMV.out.t SMV.out.l SMV.out.c (by decide) (by decide)).mono ?_
  rintro e w24 ⟨rfl, bel24⟩
  have s24 := bel24.size
  have B24 := B23.trans (bel24.mono B23.size)
  have c_a0_24_0 := (bel24.cell (p := ⟨w.heap.size, 0, none⟩) (by show w.heap.size < _; omega)).trans c_a0_23_0
  have c_a0_24_1 := (bel24.cell (p := ⟨w.heap.size, 1, none⟩) (by show w.heap.size < _; omega)).trans c_a0_23_1
  have c_a0_24_2 := (bel24.cell (p := ⟨w.heap.size, 2, none⟩) (by show w.heap.size < _; omega)).trans c_a0_23_2
  have c_v_24_0 := (bel24.cell (p := ⟨m5, 0, none⟩) (by show m5 < _; omega)).trans c_v_23_0
  have c_v_24_1 := (bel24.cell (p := ⟨m5, 1, none⟩) (by show m5 < _; omega)).trans c_v_23_1
  have c_v_24_2 := (bel24.cell (p := ⟨m5, 2, none⟩) (by show m5 < _; omega)).trans c_v_23_2
  have c_x0_24_0 := (bel24.cell (p := ⟨m7, 0, none⟩) (by show m7 < _; omega)).trans c_x0_23_0
  have c_x0_24_1 := (bel24.cell (p := ⟨m7, 1, none⟩) (by show m7 < _; omega)).trans c_x0_23_1
  have c_x0_24_2 := (bel24.cell (p := ⟨m7, 2, none⟩) (by show m7 < _; omega)).trans c_x0_23_2
  have c_g_24_0 := (bel24.cell (p := ⟨m11, 0, none⟩) (by show m11 < _; omega)).trans c_g_23_0
  have c_g_24_1 := (bel24.cell (p := ⟨m11, 1, none⟩) (by show m11 < _; omega)).trans c_g_23_1
  have c_g_24_2 := (bel24.cell (p := ⟨m11, 2, none⟩) (by show m11 < _; omega)).trans c_g_23_2
  have o_v_24 := Lib.hid (o_v_23.out.below bel24)
  have o_g_24 := Lib.hid (o_g_23.out.below bel24)
  clear bel24 B23 o_v_23 o_g_23 c_a0_23_0 c_a0_23_1 c_a0_23_2 c_v_23_0 c_v_23_1 c_v_23_2 c_x0_23_0 c_x0_23_1 c_x0_23_2 c_g_23_0 c_g_23_1 c_g_23_2
  generalize w23.heap.size = m23 at *
  go_wp2_with (fail)
  refine (toN_any h0 x0 w24 ((H0.out.below B24).more B24.size) SM0.out.q SM0.out.w SM0.out.l SM0.out.c).mono ?_
  rintro e w25 ⟨h_b0, rfl, own25, bel25⟩
  have o_b0_25 := Lib.hid own25
  clear own25
  have s25 := bel25.size
  have B25 := B24.trans (bel25.mono B24.size)
  have c_a0_25_0 := (bel25.cell (p := ⟨w.heap.size, 0, none⟩) (by show w.heap.size < _; omega)).trans c_a0_24_0
  have c_a0_25_1 := (bel25.cell (p := ⟨w.heap.size, 1, none⟩) (by show w.heap.size < _; omega)).trans c_a0_24_1
  have c_a0_25_2 := (bel25.cell (p := ⟨w.heap.size, 2, none⟩) (by show w.heap.size < _; omega)).trans c_a0_24_2
  have c_v_25_0 := (bel25.cell (p := ⟨m5, 0, none⟩) (by show m5 < _; omega)).trans c_v_24_0
  have c_v_25_1 := (bel25.cell (p := ⟨m5, 1, none⟩) (by show m5 < _; omega)).trans c_v_24_1
  have c_v_25_2 := (bel25.cell (p := ⟨m5, 2, none⟩) (by show m5 < _; omega)).trans c_v_24_2
  have c_x0_25_0 := (bel25.cell (p := ⟨m7, 0, none⟩) (by show m7 < _; omega)).trans c_x0_24_0
  have c_x0_25_1 := (bel25.cell (p := ⟨m7, 1, none⟩) (by show m7 < _; omega)).trans c_x0_24_1
  have c_x0_25_2 := (bel25.cell (p := ⟨m7, 2, none⟩) (by show m7 < _; omega)).trans c_x0_24_2
  have c_g_25_0 := (bel25.cell (p := ⟨m11, 0, none⟩) (by show m11 < _; omega)).trans c_g_24_0
  have c_g_25_1 := (bel25.cell (p := ⟨m11, 1, none⟩) (by show m11 < _; omega)).trans c_g_24_1
  have c_g_25_2 := (bel25.cell (p := ⟨m11, 2, none⟩) (by show m11 < _; omega)).trans c_g_24_2
  have o_v_25 := Lib.hid (o_v_24.out.below bel25)
  have o_g_25 := Lib.hid (o_g_24.out.below bel25)
  clear bel25 B24 o_v_24 o_g_24 c_a0_24_0 c_a0_24_1 c_a0_24_2 c_v_24_0 c_v_24_1 c_v_24_2 c_x0_24_0 c_x0_24_1 c_x0_24_2 c_g_24_0 c_g_24_1 c_g_24_2
  generalize w24.heap.size = m24 at *
  go_wp2_with (fail)
  refine (toI_x A1 n1 c1 x1 w25 ((H1.out.below B25).more B25.size) hn1).mono ?_
  rintro e w26 ⟨g_b1, rfl, own26, bel26⟩
  have o_b1_26 := Lib.hid own26
  clear own26
  have s26 := bel26.size
  have B26 := B25.trans (bel26.mono B25.size)
  have c_a0_26_0 := (bel26.cell (p := ⟨w.heap.size, 0, none⟩) (by show w.heap.size < _; omega)).trans c_a0_25_0
  have c_a0_26_1 := (bel26.cell (p := ⟨w.heap.size, 1, none⟩) (by show w.heap.size < _; omega)).trans c_a0_25_1
  have c_a0_26_2 := (bel26.cell (p := ⟨w.heap.size, 2, none⟩) (by show w.heap.size < _; omega)).trans c_a0_25_2
  have c_v_26_0 := (bel26.cell (p := ⟨m5, 0, none⟩) (by show m5 < _; omega)).trans c_v_25_0
  have c_v_26_1 := (bel26.cell (p := ⟨m5, 1, none⟩) (by show m5 < _; omega)).trans c_v_25_1
  have c_v_26_2 := (bel26.cell (p := ⟨m5, 2, none⟩) (by show m5 < _; omega)).trans c_v_25_2
  have c_x0_26_0 := (bel26.cell (p := ⟨m7, 0, none⟩) (by show m7 < _; omega)).trans c_x0_25_0
  have c_x0_26_1 := (bel26.cell (p := ⟨m7, 1, none⟩) (by show m7 < _; omega)).trans c_x0_25_1
  have c_x0_26_2 := (bel26.cell (p := ⟨m7, 2, none⟩) (by show m7 < _; omega)).trans c_x0_25_2
  have c_g_26_0 := (bel26.cell (p := ⟨m11, 0, none⟩) (by show m11 < _; omega)).trans c_g_25_0
  have c_g_26_1 := (bel26.cell (p := ⟨m11, 1, none⟩) (by show m11 < _; omega)).trans c_g_25_1
  have c_g_26_2 := (bel26.cell (p := ⟨m11, 2, none⟩) (by show m11 < _; omega)).trans c_g_25_2
  have o_v_26 := Lib.hid (o_v_25.out.below bel26)
  have o_g_26 := Lib.hid (o_g_25.out.below bel26)
  have o_b0_26 := Lib.hid (o_b0_25.out.below bel26)
  clear bel26 B25 o_v_25 o_g_25 o_b0_25 c_a0_25_0 c_a0_25_1 c_a0_25_2 c_v_25_0 c_v_25_1 c_v_25_2 c_x0_25_0 c_x0_25_1 c_x0_25_2 c_g_25_0 c_g_25_1 c_g_25_2
  generalize w25.heap.size = m25 at *
  go_wp2_with (fail)
  refine (toI_x A2 n2 c2 x2 w26 ((H2.out.below B26).more B26.size) hn2).mono ?_
  rintro e w27 ⟨g_b2, rfl, own27, bel27⟩
  have o_b2_27 := Lib.hid own27
  clear own27
  have s27 := bel27.size
  have B27 := B26.trans (bel27.mono B26.size)
  have c_a0_27_0 := (bel27.cell (p := ⟨w.heap.size, 0, none⟩) (by show w.heap.size < _; omega)).trans c_a0_26_0
  have c_a0_27_1 := (bel27.cell (p := ⟨w.heap.size, 1, none⟩) (by show w.heap.size < _; omega)).trans c_a0_26_1
  have c_a0_27_2 := (bel27.cell (p := ⟨w.heap.size, 2, none⟩) (by show w.heap.size < _; omega)).trans c_a0_26_2
  have c_v_27_0 := (bel27.cell (p := ⟨m5, 0, none⟩) (by show m5 < _; omega)).trans c_v_26_0
  have c_v_27_1 := (bel27.cell (p := ⟨m5, 1, none⟩) (by show m5 < _; omega)).trans c_v_26_1
  have c_v_27_2 := (bel27.cell (p := ⟨m5, 2, none⟩) (by show m5 < _; omega)).trans c_v_26_2
  have c_x0_27_0 := (bel27.cell (p := ⟨m7, 0, none⟩) (by show m7 < _; omega)).trans c_x0_26_0
  have c_x0_27_1 := (bel27.cell (p := ⟨m7, 1, none⟩) (by show m7 < _; omega)).trans c_x0_26_1
  have c_x0_27_2 := (bel27.cell (p := ⟨m7, 2, none⟩) (by show m7 < _; omega)).trans c_x0_26_2
  have c_g_27_0 := (bel27.cell (p := ⟨m11, 0, none⟩) (by show m11 < _; omega)).trans c_g_26_0
  have c_g_27_1 := (bel27.cell (p := ⟨m11, 1, none⟩) (by show m11 < _; omega)).trans c_g_26_1
  have c_g_27_2 := (bel27.cell (p := ⟨m11, 2, none⟩) (by show m11 < _; omega)).trans c_g_26_2
  have o_v_27 := Lib.hid (o_v_26.out.below bel27)
  have o_g_27 := Lib.hid (o_g_26.out.below bel27)
  have o_b0_27 := Lib.hid (o_b0_26.out.below bel27)
  have o_b1_27 := Lib.hid (o_b1_26.out.below bel27)
  clear bel27 B26 o_v_26 o_g_26 o_b0_26 o_b1_26 c_a0_26_0 c_a0_26_1 c_a0_26_2 c_v_26_0 c_v_26_1 c_v_26_2 c_x0_26_0 c_x0_26_1 c_x0_26_2 c_g_26_0 c_g_26_1 c_g_26_2
  generalize w26.heap.size = m26 at *
  go_wp2_with (fail)
  refine (renumberNet_impl h_b0 x0 (some ⟨g_b1, 0, none⟩) (some ⟨g_b2, 0, none⟩) n1 n2 n1 n2 x1 x2 w27 (o_b0_27.out.rd) SM0.out (o_b1_27.out.rd) (o_b2_27.out.rd) hn1 hn2 (HT.out.below B27 HT.out.lt) (HU.out.below B27 HU.out.lt)).mono ?_
  rw [HV.out, HVb.out]
  rintro e w28 ⟨h_hh, rfl, own28, bel28⟩
  have o_hh_28 := Lib.hid own28
  clear own28
  have s28 := bel28.size
  have B28 := B27.trans (bel28.mono B27.size)
  have c_a0_28_0 := (bel28.cell (p := ⟨w.heap.size, 0, none⟩) (by show w.heap.size < _; omega)).trans c_a0_27_0
  have c_a0_28_1 := (bel28.cell (p := ⟨w.heap.size, 1, none⟩) (by show w.heap.size < _; omega)).trans c_a0_27_1
  have c_a0_28_2 := (bel28.cell (p := ⟨w.heap.size, 2, none⟩) (by show w.heap.size < _; omega)).trans c_a0_27_2
  have c_v_28_0 := (bel28.cell (p := ⟨m5, 0, none⟩) (by show m5 < _; omega)).trans c_v_27_0
  have c_v_28_1 := (bel28.cell (p := ⟨m5, 1, none⟩) (by show m5 < _; omega)).trans c_v_27_1
  have c_v_28_2 := (bel28.cell (p := ⟨m5, 2, none⟩) (by show m5 < _; omega)).trans c_v_27_2
  have c_x0_28_0 := (bel28.cell (p := ⟨m7, 0, none⟩) (by show m7 < _; omega)).trans c_x0_27_0
  have c_x0_28_1 := (bel28.cell (p := ⟨m7, 1, none⟩) (by show m7 < _; omega)).trans c_x0_27_1
  have c_x0_28_2 := (bel28.cell (p := ⟨m7, 2, none⟩) (by show m7 < _; omega)).trans c_x0_27_2
  have c_g_28_0 := (bel28.cell (p := ⟨m11, 0, none⟩) (by show m11 < _; omega)).trans c_g_27_0
  have c_g_28_1 := (bel28.cell (p := ⟨m11, 1, none⟩) (by show m11 < _; omega)).trans c_g_27_1
  have c_g_28_2 := (bel28.cell (p := ⟨m11, 2, none⟩) (by show m11 < _; omega)).trans c_g_27_2
  have o_v_28 := Lib.hid (o_v_27.out.below bel28)
  have o_g_28 := Lib.hid (o_g_27.out.below bel28)
  have o_b0_28 := Lib.hid (o_b0_27.out.below bel28)
  have o_b1_28 := Lib.hid (o_b1_27.out.below bel28)
  have o_b2_28 := Lib.hid (o_b2_27.out.below bel28)
  clear bel28 B27 o_v_27 o_g_27 o_b0_27 o_b1_27 o_b2_27 c_a0_27_0 c_a0_27_1 c_a0_27_2 c_v_27_0 c_v_27_1 c_v_27_2 c_x0_27_0 c_x0_27_1 c_x0_27_2 c_g_27_0 c_g_27_1 c_g_27_2
  generalize w27.heap.size = m27 at *
  clear o_b0_28
  clear o_b1_28
  clear o_b2_28
  have bel29 : Below w28.heap.size w28 (w28.alloc (.cells #[Value.slice h_hh.A V.w.length h_hh.c, Value.slice h_hh.L V.l.length h_hh.d, Value.slice h_hh.C V.c.length h_hh.e] 28)) := (Below.refl _ _).alloc (Nat.le_refl _) _
  obtain ⟨c_h_29_0, c_h_29_1, c_h_29_2⟩ := three_cells (show (w28.alloc (.cells #[Value.slice h_hh.A V.w.length h_hh.c, Value.slice h_hh.L V.l.length h_hh.d, Value.slice h_hh.C V.c.length h_hh.e] 28)).heap[w28.heap.size]? = some (.cells #[Value.slice h_hh.A V.w.length h_hh.c, Value.slice h_hh.L V.l.length h_hh.d, Value.slice h_hh.C V.c.length h_hh.e] 28 (0, 0)) from heap_alloc_new _ _)
  have t29 : w28.heap.size + 1 ≤ (w28.alloc (.cells #[Value.slice h_hh.A V.w.length h_hh.c, Value.slice h_hh.L V.l.length h_hh.d, Value.slice h_hh.C V.c.length h_hh.e] 28)).heap.size := by simp
  have c_a0_29_0 := (bel29.cell (p := ⟨w.heap.size, 0, none⟩) (by show w.heap.size < _; omega)).trans c_a0_28_0
  have c_a0_29_1 := (bel29.cell (p := ⟨w.heap.size, 1, none⟩) (by show w.heap.size < _; omega)).trans c_a0_28_1
  have c_a0_29_2 := (bel29.cell (p := ⟨w.heap.size, 2, none⟩) (by show w.heap.size < _; omega)).trans c_a0_28_2
  have c_v_29_0 := (bel29.cell (p := ⟨m5, 0, none⟩) (by show m5 < _; omega)).trans c_v_28_0
  have c_v_29_1 := (bel29.cell (p := ⟨m5, 1, none⟩) (by show m5 < _; omega)).trans c_v_28_1
  have c_v_29_2 := (bel29.cell (p := ⟨m5, 2, none⟩) (by show m5 < _; omega)).trans c_v_28_2
  have c_x0_29_0 := (bel29.cell (p := ⟨m7, 0, none⟩) (by show m7 < _; omega)).trans c_x0_28_0
  have c_x0_29_1 := (bel29.cell (p := ⟨m7, 1, none⟩) (by show m7 < _; omega)).trans c_x0_28_1
  have c_x0_29_2 := (bel29.cell (p := ⟨m7, 2, none⟩) (by show m7 < _; omega)).trans c_x0_28_2
  have c_g_29_0 := (bel29.cell (p := ⟨m11, 0, none⟩) (by show m11 < _; omega)).trans c_g_28_0
  have c_g_29_1 := (bel29.cell (p := ⟨m11, 1, none⟩) (by show m11 < _; omega)).trans c_g_28_1
  have c_g_29_2 := (bel29.cell (p := ⟨m11, 2, none⟩) (by show m11 < _; omega)).trans c_g_28_2
  clear c_a0_28_0 c_a0_28_1 c_a0_28_2 c_v_28_0 c_v_28_1 c_v_28_2 c_x0_28_0 c_x0_28_1 c_x0_28_2 c_g_28_0 c_g_28_1 c_g_28_2
  go_wp2_with (fail)
  generalize w28.alloc (.cells #[Value.slice h_hh.A V.w.length h_hh.c, Value.slice h_hh.L V.l.length h_hh.d, Value.slice h_hh.C V.c.length h_hh.e] 28) = w29 at *
  have s29 := bel29.size
  have B29 := B28.trans (bel29.mono B28.size)
  have o_v_29 := Lib.hid (o_v_28.out.below bel29)
  have o_g_29 := Lib.hid (o_g_28.out.below bel29)
  have o_hh_29 := Lib.hid (o_hh_28.out.below bel29)
  clear bel29 B28 o_v_28 o_g_28 o_hh_28
  generalize w28.heap.size = m28 at *
  refine (eqN_any h_hh h_v V w29 (o_hh_29.out.rd) (o_v_29.out.rd) SMV.out.q SMV.out.w SMV.out.l SMV.out.c).mono ?_
  rintro e w30 ⟨rfl, bel30⟩
  have s30 := bel30.size
  have B30 := B29.trans (bel30.mono B29.size)
  have c_a0_30_0 := (bel30.cell (p := ⟨w.heap.size, 0, none⟩) (by show w.heap.size < _; omega)).trans c_a0_29_0
  have c_a0_30_1 := (bel30.cell (p := ⟨w.heap.size, 1, none⟩) (by show w.heap.size < _; omega)).trans c_a0_29_1
  have c_a0_30_2 := (bel30.cell (p := ⟨w.heap.size, 2, none⟩) (by show w.heap.size < _; omega)).trans c_a0_29_2
  have c_v_30_0 := (bel30.cell (p := ⟨m5, 0, none⟩) (by show m5 < _; omega)).trans c_v_29_0
  have c_v_30_1 := (bel30.cell (p := ⟨m5, 1, none⟩) (by show m5 < _; omega)).trans c_v_29_1
  have c_v_30_2 := (bel30.cell (p := ⟨m5, 2, none⟩) (by show m5 < _; omega)).trans c_v_29_2
  have c_x0_30_0 := (bel30.cell (p := ⟨m7, 0, none⟩) (by show m7 < _; omega)).trans c_x0_29_0
  have c_x0_30_1 := (bel30.cell (p := ⟨m7, 1, none⟩) (by show m7 < _; omega)).trans c_x0_29_1
  have c_x0_30_2 := (bel30.cell (p := ⟨m7, 2, none⟩) (by show m7 < _; omega)).trans c_x0_29_2
  have c_g_30_0 := (bel30.cell (p := ⟨m11, 0, none⟩) (by show m11 < _; omega)).trans c_g_29_0
  have c_g_30_1 := (bel30.cell (p := ⟨m11, 1, none⟩) (by show m11 < _; omega)).trans c_g_29_1
  have c_g_30_2 := (bel30.cell (p := ⟨m11, 2, none⟩) (by show m11 < _; omega)).trans c_g_29_2
  have c_h_30_0 := (bel30.cell (p := ⟨m28, 0, none⟩) (by show m28 < _; omega)).trans c_h_29_0
  have c_h_30_1 := (bel30.cell (p := ⟨m28, 1, none⟩) (by show m28 < _; omega)).trans c_h_29_1
  have c_h_30_2 := (bel30.cell (p := ⟨m28, 2, none⟩) (by show m28 < _; omega)).trans c_h_29_2
  have o_v_30 := Lib.hid (o_v_29.out.below bel30)
  have o_g_30 := Lib.hid (o_g_29.out.below bel30)
  have o_hh_30 := Lib.hid (o_hh_29.out.below bel30)
  clear bel30 B29 o_v_29 o_g_29 o_hh_29 c_a0_29_0 c_a0_29_1 c_a0_29_2 c_v_29_0 c_v_29_1 c_v_29_2 c_x0_29_0 c_x0_29_1 c_x0_29_2 c_g_29_0 c_g_29_1 c_g_29_2 c_h_29_0 c_h_29_1 c_h_29_2
  generalize w29.heap.size = m29 at *
  go_wp2_with (fail)
  refine (heldN_any h_g V 1 w30 (rd_mrk o_g_30.out.rd) SMV.out.w SMV.out.t SMV.out.l SMV.out.c (by decide) (by decide)).mono ?_
  rintro e w31 ⟨rfl, bel31⟩
  have s31 := bel31.size
  have B31 := B30.trans (bel31.mono B30.size)
  have c_a0_31_0 := (bel31.cell (p := ⟨w.heap.size, 0, none⟩) (by show w.heap.size < _; omega)).trans c_a0_30_0
  have c_a0_31_1 := (bel31.cell (p := ⟨w.heap.size, 1, none⟩) (by show w.heap.size < _; omega)).trans c_a0_30_1
  have c_a0_31_2 := (bel31.cell (p := ⟨w.heap.size, 2, none⟩) (by show w.heap.size < _; omega)).trans c_a0_30_2
  have c_v_31_0 := (bel31.cell (p := ⟨m5, 0, none⟩) (by show m5 < _; omega)).trans c_v_30_0
  have c_v_31_1 := (bel31.cell (p := ⟨m5, 1, none⟩) (by show m5 < _; omega)).trans c_v_30_1
  have c_v_31_2 := (bel31.cell (p := ⟨m5, 2, none⟩) (by show m5 < _; omega)).trans c_v_30_2
  have c_x0_31_0 := (bel31.cell (p := ⟨m7, 0, none⟩) (by show m7 < _; omega)).trans c_x0_30_0
  have c_x0_31_1 := (bel31.cell (p := ⟨m7, 1, none⟩) (by show m7 < _; omega)).trans c_x0_30_1
  have c_x0_31_2 := (bel31.cell (p := ⟨m7, 2, none⟩) (by show m7 < _; omega)).trans c_x0_30_2
  have c_g_31_0 := (bel31.cell (p := ⟨m11, 0, none⟩) (by show m11 < _; omega)).trans c_g_30_0
  have c_g_31_1 := (bel31.cell (p := ⟨m11, 1, none⟩) (by show m11 < _; omega)).trans c_g_30_1
  have c_g_31_2 := (bel31.cell (p := ⟨m11, 2, none⟩) (by show m11 < _; omega)).trans c_g_30_2
  have c_h_31_0 := (bel31.cell (p := ⟨m28, 0, none⟩) (by show m28 < _; omega)).trans c_h_30_0
  have c_h_31_1 := (bel31.cell (p := ⟨m28, 1, none⟩) (by show m28 < _; omega)).trans c_h_30_1
  have c_h_31_2 := (bel31.cell (p := ⟨m28, 2, none⟩) (by show m28 < _; omega)).trans c_h_30_2
  have o_v_31 := Lib.hid (o_v_30.out.below bel31)
  have o_g_31 := Lib.hid (o_g_30.out.below bel31)
  have o_hh_31 := Lib.hid (o_hh_30.out.below bel31)
  clear bel31 B30 o_v_30 o_g_30 o_hh_30 c_a0_30_0 c_a0_30_1 c_a0_30_2 c_v_30_0 c_v_30_1 c_v_30_2 c_x0_30_0 c_x0_30_1 c_x0_30_2 c_g_30_0 c_g_30_1 c_g_30_2 c_h_30_0 c_h_30_1 c_h_30_2
  generalize w30.heap.size = m30 at *
  have HB := Lib.hid B31
  go_wp2
  go_ret
  exact ⟨rfl, HB.out⟩

theorem walk (h0 : NH) (x0 : Nt) (A1 : Option Addr) (n1 c1 : Nat) (x1 : List Int) (A2 : Option Addr) (n2 c2 : Nat) (x2 : List Int) (w : World) (r0 : RdN w w.heap.size h0 x0) (gr0 : GreatN x0) (r1 : RdI w w.heap.size A1 n1 x1) (_hnc1 : n1 ≤ c1) (_hf1 : ∀ z ∈ x1, (Lit.int .i64 z).wf = true) (r2 : RdI w w.heap.size A2 n2 x2) (_hnc2 : n2 ≤ c2) (_hf2 : ∀ z ∈ x2, (Lit.int .i64 z).wf = true) (ht : Arit w) (hu : Dual w) :
    Calls Tryd.prog 13 #[.agg #[Value.slice h0.A x0.w.length h0.c, Value.slice h0.L x0.l.length h0.d, Value.slice h0.C x0.c.length h0.e], .slice A1 n1 c1, .slice A2 n2 c2] w fun e w' => e = .returned (.bool true) ∧ Below w.heap.size w w' := by
  rcases Nat.lt_or_ge 1048576 (n1) with hb' | hn1
  · have hb : ¬ n1 ≤ 1048576 := by omega
    exact walk_big1 h0 x0 A1 n1 c1 x1 A2 n2 c2 x2  w    hb
  ·
    rcases Nat.lt_or_ge 1048576 (n2) with hb' | hn2
    · have hb : ¬ n2 ≤ 1048576 := by omega
      exact walk_big2 h0 x0 A1 n1 c1 x1 A2 n2 c2 x2  w   hn1 hb
    ·
      rcases sz_casesN 1048576 (by decide) x0 with hb | ⟨L0, hs0, hL0, hL'0, sw0, st0, sl0, sc0⟩
      · exact walk_big0 h0 x0 A1 n1 c1 x1 A2 n2 c2 x2  w r0 gr0 hn1 hn2 hb
      ·
        have sm0 : SmallN x0 := ⟨sw0, st0, sl0, sc0⟩
        exact walk_mid h0 x0 A1 n1 c1 x1 A2 n2 c2 x2 L0 w r0 r1 r2 hn1 hn2 hs0 hL0 hL'0 sm0 ht hu


set_option maxRecDepth 100000 in
/-- What the walk gives, for all arguments and every world that holds the tables. -/
theorem contract (H : Type) (enc : TypeId × Value → H) (W : World) (base : Nat) (args : Array Value) (ds gs : List (DataW H)) (before : List MemPlace)
    (hval : ∀ (j : Nat) t v, Tryd.f13.params[j]? = some t → args[j]? = some v → Value.okWide Tryd.prog W .any base t v)
    (hW : DataW.Whole enc Tryd.prog Tryd.f13.params.toList Rows.fnExactRenumberNetSpec.vars false W args.toList ds gs before) (hL : laidMetH Tryd.prog Rows.fnExactRenumberNetRow.laid W) :
    Calls Tryd.prog 13 args W fun e W' => ∃ v, e = .returned v ∧ Rows.fnExactRenumberNetSpec.post enc Tryd.prog Tryd.f13 false true false false W args v W' := by
  have hW' := hW
  obtain ⟨p, q, hA0, hV, rfl, hfz, hnd⟩ := hW
  have hA : DataW.TrodAll enc Tryd.prog W 0 (fun _ => true) true Tryd.f13.params.toList args.toList ds p := hA0
  rw [Tryd.params13] at hA hval
  obtain ⟨v0, vs0, d0, ds0, p0, q0, hargs, rfl, rfl, h0, r0⟩ := trodAll_cons hA
  obtain ⟨v1, vs1, d1, ds1, p1, q1, rfl, rfl, rfl, h1, r1⟩ := trodAll_cons r0
  obtain ⟨v2, vs2, d2, ds2, p2, q2, rfl, rfl, rfl, h2, r2⟩ := trodAll_cons r1
  obtain ⟨rfl, rfl, rfl⟩ := trodAll_nil r2
  obtain rfl : args = #[v0, v1, v2] := by cases args; simp_all
  have k0 := h0
  have lt0 : ∀ x ∈ p0, x.block < W.heap.size := by obtain ⟨m, hm⟩ := k0; exact DataW.trod_lt m _ _ _ hm
  obtain ⟨hh0, z0, rfl, w0, m0, l0⟩ := open_net (hval 0 46 v0 rfl rfl) h0
  obtain ⟨a1, len1, cap1, rfl⟩ := okWide_slice Tryd.underlying26 (hval 1 26 v1 rfl rfl)
  have k1 := h1
  have lt1 : ∀ x ∈ p1, x.block < W.heap.size := by obtain ⟨m, hm⟩ := k1; exact DataW.trod_lt m _ _ _ hm
  obtain ⟨z1, w1, c1, b1⟩ := open_i64s h1
  obtain ⟨a2, len2, cap2, rfl⟩ := okWide_slice Tryd.underlying26 (hval 2 26 v2 rfl rfl)
  have k2 := h2
  have lt2 : ∀ x ∈ p2, x.block < W.heap.size := by obtain ⟨m, hm⟩ := k2; exact DataW.trod_lt m _ _ _ hm
  obtain ⟨z2, w2, c2, b2⟩ := open_i64s h2
  have ht : Arit W := arit_of hL
  have hu : Dual W := dual_of hL
  have hv1 := hV
  obtain ⟨g0, t0, cs0, f0, e0, p0', g1, t1, cs1, f1, e1, p1', rfl, _, _, _, _, _, _, _, _, rfl⟩ := trodVars_two hV
  clear hA0
  refine (walk hh0 z0 a1 len1 cap1 z1 a2 len2 cap2 z2 W w0 ⟨m0.1, m0.2.1, m0.2.2, l0⟩ w1 c1 b1 w2 c2 b2 ht hu).mono fun e W' ⟨he, bel⟩ => ?_
  subst he
  exact ⟨_, rfl, _, _, _, [], _, _, hW', trodAll_mk1 (shut_bool Tryd.underlying4 _),
    (trodAll_cons_mk (Below.trod laidOut (by kernel_rfl) (of_decide_eq_true (by kernel_rfl)) k0 bel lt0) (trodAll_cons_mk (Below.trod laidOut (by kernel_rfl) (of_decide_eq_true (by kernel_rfl)) k1 bel lt1) (trodAll_cons_mk (Below.trod laidOut (by kernel_rfl) (of_decide_eq_true (by kernel_rfl)) k2 bel lt2) trodAll_mk0))),
    vars_below bel (readable_all _ (by kernel_rfl)) hv1, bel.frame _, fun h => by cases h⟩

theorem laid_met (os : Os) : laidMet Tryd.prog Rows.fnExactRenumberNetRow.laid ((laidWorld os).forCall (fun _ _ => 0) ⟨#[], #[.agg #[.slice none 0 0, .slice none 0 0, .slice none 0 0], .slice none 0 0, .slice none 0 0], []⟩).memory :=
  laidMet_of_run' 8 (by kernel_rfl) (by kernel_rfl)
theorem reads (os : Os) {H : Type} (enc : TypeId × Value → H) : ∃ x, DataW.whole enc Tryd.prog ((laidWorld os).forCall (fun _ _ => 0) ⟨#[], #[.agg #[.slice none 0 0, .slice none 0 0, .slice none 0 0], .slice none 0 0, .slice none 0 0], []⟩).memory Tryd.f13.params.toList Rows.fnExactRenumberNetSpec.vars false (#[.agg #[.slice none 0 0, .slice none 0 0, .slice none 0 0], .slice none 0 0, .slice none 0 0] : Array Value).toList 8 = some x :=
  Option.isSome_iff_exists.1 (by kernel_rfl)

set_option maxRecDepth 100000 in
theorem lifted (os : Os) (started : os.Started) (H : Type) (enc : TypeId × Value → H) (F : Stop.Interp) :
    ReturnsInHanded {} Tryd.checked os 13 .any ((OpenSpec.ofChange Rows.fnExactRenumberNetSpec).preRow enc Tryd.prog Tryd.f13 Rows.fnExactRenumberNetRow.domain false Rows.fnExactRenumberNetRow.laid) (((OpenSpec.ofChange Rows.fnExactRenumberNetSpec).at F).post enc Tryd.prog Tryd.f13 false true false false) := by
  obtain ⟨places, hx⟩ := reads os enc
  refine returnsInHanded_of_row (C := Tryd.checked) (s := OpenSpec.ofChange Rows.fnExactRenumberNetSpec) own started (by kernel_rfl) Tryd.func13
    (witness_row_at (enc := enc) (C := Tryd.checked) false (laidWorld os) #[.agg #[.slice none 0 0, .slice none 0 0, .slice none 0 0], .slice none 0 0, .slice none 0 0] rfl (by kernel_rfl) (by kernel_rfl) (by kernel_rfl)
      (OpenSpec.preRow_of_cond 8 hx rfl (fun k hk => by cases hk) (by kernel_rfl) (laid_met os))) ?_
  intro W base args ds gs before hval hW _ _ _ hL _ _
  exact contract H enc W base args ds gs before hval hW hL

theorem said : Rows.FnExactRenumberNetSaid :=
  OpenClaim.holds_of_cond 13 Tryd.f13 rfl rfl rfl rfl rfl rfl rfl ⟨rfl, rfl, rfl, rfl, rfl⟩ rfl rfl rfl rfl rfl (by kernel_rfl) Tryd.func13 (by kernel_rfl)
    (of_decide_eq_true (by kernel_rfl)) (by unfold Func.isWrapper; first | (rw [if_pos (by decide +kernel)]; kernel_rfl) | (rw [if_neg (by decide +kernel)]; exact ⟨rfl, rfl⟩))
    (fun os started H enc _ F => by rw [OpenClaim.pre_eq_preRow]; exact lifted os started H enc F)

theorem plain (f : FuncId) (fn : Func) (hf : Tryd.pinned.checked.prog.funcNamed "loop.example/g00872/laws.FnExactRenumberNet" = some f) (hfn : Tryd.pinned.checked.prog.funcs[f]? = some fn) :
    Rows.fnExactRenumberNetCard.stood.looks = Tryd.pinned.checked.prog.looks [] ∧ ∀ (j : Nat) t, fn.params[j]? = some t → Tryd.pinned.checked.prog.wantsStandIn t = false := by
  obtain rfl : f = 13 := Option.some.inj ((show Tryd.prog.funcNamed "loop.example/g00872/laws.FnExactRenumberNet" = some 13 by kernel_rfl).symm.trans hf) |>.symm
  obtain rfl : fn = Tryd.f13 := (Option.some.inj (Tryd.func13.symm.trans hfn)).symm
  refine ⟨by kernel_rfl, fun j t ht => ?_⟩
  rw [Tryd.params13] at ht
  have hm : t ∈ [46, 26, 26] := by simpa using Array.mem_of_getElem? ht
  have hall : ([46, 26, 26].all fun u => !Tryd.prog.wantsStandIn u) = true := by kernel_rfl
  exact (show Tryd.prog.wantsStandIn t = false by simpa using List.all_eq_true.1 hall t hm)

/-- The statement. -/
theorem card : Rows.FnExactRenumberNetCardSaid :=
  Claim7.holds_tied_plain_at .later [] _ _ _ _ said (fun _ h => by cases h) (by kernel_rfl) (fun _ h => by cases h) fnExactRenumberNet_row_tie rfl ⟨rfl, rfl⟩ (by kernel_rfl) rfl plain (by kernel_rfl)
end Go.Proofs.YtjfhbofgnagfaaaDoor.fnExactRenumberNet
