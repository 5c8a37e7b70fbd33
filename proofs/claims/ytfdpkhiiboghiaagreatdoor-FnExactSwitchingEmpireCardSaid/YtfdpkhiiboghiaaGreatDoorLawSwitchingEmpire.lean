/- Proved: for all arguments the law that SwitchingEmpire answers as its model, leaves its argument and shares no memory answers true and leaves its argument as it was (FnExactSwitchingEmpire). Conditions: the row's own: the listed tables read as the program's text lays them, which the card ties to that text. -/
import Derived.Test.YtfdpkhiiboghiaaGreatDoorJQMath
import Derived.Test.YtfdpkhiiboghiaaGreatDoorJQEmA
import Derived.Test.YtfdpkhiiboghiaaGreatDoorJQPgA
import Derived.Test.YtfdpkhiiboghiaaGreatDoorJQEnF
import Derived.Test.YtfdpkhiiboghiaaGreatDoorJEmP
namespace Go.Proofs.YtfdpkhiiboghiaaGreatDoor.fnExactSwitchingEmpire
set_option linter.unusedSimpArgs false
set_option linter.unusedVariables false
open Go.ChangeShapes Go.WideShapes Go.ChangeAt Go.RowKit

set_option maxRecDepth 100000 in
theorem walk_big0 (h0 : NH) (x0 : Nt) (i1 : Int) (w : World) (r0 : RdN w w.heap.size h0 x0) (gr0 : GreatN x0)  (hb : szR 1048576 (nsz x0) = -1) :
    Calls Tryz.prog 9 #[.agg #[Value.slice h0.A x0.w.length h0.c, Value.slice h0.L x0.l.length h0.d, Value.slice h0.C x0.c.length h0.e], .int .i64 i1] w fun e w' => e = .returned (.bool true) ∧ Below w.heap.size w w' := by
  have HS0 := Lib.hid (fun w0 (B : Below w.heap.size w w0) => szN_any h0 x0 (1048576) w0 ((r0.below B).more B.size) gr0.q gr0.w gr0.l gr0.c (by decide) (by decide))
  rw [hb] at HS0
  clear hb r0 gr0
  obtain ⟨w0, hw0⟩ : ∃ w0, w0 = w.alloc (.cells #[Value.slice h0.A x0.w.length h0.c, Value.slice h0.L x0.l.length h0.d, Value.slice h0.C x0.c.length h0.e] 26) := ⟨_, rfl⟩
  obtain ⟨bb0, hh0, sz0⟩ := box3_any w (Value.slice h0.A x0.w.length h0.c) (Value.slice h0.L x0.l.length h0.d) (Value.slice h0.C x0.c.length h0.e) 26
  rw [← hw0] at bb0 hh0 sz0
  have B0 : Below w.heap.size w w0 := bb0
  obtain ⟨c_a0_0_0, c_a0_0_1, c_a0_0_2⟩ := three_cells hh0
  have s0 : w.heap.size + 1 ≤ w0.heap.size := by omega
  clear bb0 hh0
  clear sz0
  go_enter Tryz.func9, Tryz.ntmps9
  go_wp2_with (fail)
  rw [← hw0]
  clear hw0
  refine (HS0.out w0 B0).mono ?_
  rintro e w1 ⟨rfl, bel1⟩
  have B1 := B0.trans (bel1.mono B0.size)
  have c_a0_1_0 := (bel1.cell (p := ⟨w.heap.size, 0, none⟩) (by show w.heap.size < _; omega)).trans c_a0_0_0
  have c_a0_1_1 := (bel1.cell (p := ⟨w.heap.size, 1, none⟩) (by show w.heap.size < _; omega)).trans c_a0_0_1
  have c_a0_1_2 := (bel1.cell (p := ⟨w.heap.size, 2, none⟩) (by show w.heap.size < _; omega)).trans c_a0_0_2
  have s1 := bel1.size
  clear bel1 B0
  have HB := Lib.hid B1
  clear B1
  go_wp2
  go_ret
  exact ⟨rfl, HB.out⟩

set_option maxRecDepth 100000 in
set_option maxHeartbeats 16000000 in
theorem walk_mid (h0 : NH) (x0 : Nt) (i1 : Int) (L0 : Int) (w : World) (r0 : RdN w w.heap.size h0 x0) (hs0 : szR 1048576 (nsz x0) = L0) (hL0 : 0 ≤ L0) (hL'0 : L0 ≤ 1048576) (sm0 : SmallN x0) (ht : Arit w) (hu : Dual w) (hz : Tz w) :
    Calls Tryz.prog 9 #[.agg #[Value.slice h0.A x0.w.length h0.c, Value.slice h0.L x0.l.length h0.d, Value.slice h0.C x0.c.length h0.e], .int .i64 i1] w fun e w' => e = .returned (.bool true) ∧ Below w.heap.size w w' := by
  have gr0 := sm0.great
  have hv1 : (seV x0 i1).length ≤ 1048576 := seV_len x0 i1
  generalize hV : seV x0 i1 = V at hv1
  have HV := Lib.hid hV; clear hV
  generalize hVb : kgB x0 i1 = Vb
  have HVb := Lib.hid hVb; clear hVb
  have hbb : (Vb != Vb) = false := by simp
  have HS0 := Lib.hid (fun w0 (B : Below w.heap.size w w0) => szN_any h0 x0 (1048576) w0 ((r0.below B).more B.size) gr0.q gr0.w gr0.l gr0.c (by decide) (by decide))
  rw [hs0] at HS0
  have hd0 : decide (L0 < 0) = false := decide_eq_false (by omega)
  have H0 := Lib.hid r0
  have nt0 := sm0.tot
  have SM0 := Lib.hid sm0
  have HT := Lib.hid ht
  have HU := Lib.hid hu
  have HZT := Lib.hid hz
  clear r0 hs0 gr0 sm0 ht hu hz
  obtain ⟨w0, hw0⟩ : ∃ w0, w0 = w.alloc (.cells #[Value.slice h0.A x0.w.length h0.c, Value.slice h0.L x0.l.length h0.d, Value.slice h0.C x0.c.length h0.e] 26) := ⟨_, rfl⟩
  obtain ⟨bb0, hh0, sz0⟩ := box3_any w (Value.slice h0.A x0.w.length h0.c) (Value.slice h0.L x0.l.length h0.d) (Value.slice h0.C x0.c.length h0.e) 26
  rw [← hw0] at bb0 hh0 sz0
  have B0 : Below w.heap.size w w0 := bb0
  obtain ⟨c_a0_0_0, c_a0_0_1, c_a0_0_2⟩ := three_cells hh0
  have s0 : w.heap.size + 1 ≤ w0.heap.size := by omega
  clear bb0 hh0
  clear sz0
  go_enter Tryz.func9, Tryz.ntmps9
  go_wp2_with (fail)
  rw [← hw0]
  clear hw0
  refine (HS0.out w0 B0).mono ?_
  rintro e w1 ⟨rfl, bel1⟩
  have s1 := bel1.size
  have B1 := B0.trans (bel1.mono B0.size)
  have c_a0_1_0 := (bel1.cell (p := ⟨w.heap.size, 0, none⟩) (by show w.heap.size < _; omega)).trans c_a0_0_0
  have c_a0_1_1 := (bel1.cell (p := ⟨w.heap.size, 1, none⟩) (by show w.heap.size < _; omega)).trans c_a0_0_1
  have c_a0_1_2 := (bel1.cell (p := ⟨w.heap.size, 2, none⟩) (by show w.heap.size < _; omega)).trans c_a0_0_2
  clear bel1 B0 c_a0_0_0 c_a0_0_1 c_a0_0_2
  generalize w0.heap.size = m0 at *
  go_wp2_with (fail)
  refine (toN_any h0 x0 w1 ((H0.out.below B1).more B1.size) SM0.out.q SM0.out.w SM0.out.l SM0.out.c).mono ?_
  rintro e w2 ⟨h_p0, rfl, own2, bel2⟩
  have o_p0_2 := Lib.hid own2
  clear own2
  have s2 := bel2.size
  have B2 := B1.trans (bel2.mono B1.size)
  have c_a0_2_0 := (bel2.cell (p := ⟨w.heap.size, 0, none⟩) (by show w.heap.size < _; omega)).trans c_a0_1_0
  have c_a0_2_1 := (bel2.cell (p := ⟨w.heap.size, 1, none⟩) (by show w.heap.size < _; omega)).trans c_a0_1_1
  have c_a0_2_2 := (bel2.cell (p := ⟨w.heap.size, 2, none⟩) (by show w.heap.size < _; omega)).trans c_a0_1_2
  clear bel2 B1 c_a0_1_0 c_a0_1_1 c_a0_1_2
  generalize w1.heap.size = m1 at *
  go_wp2_with (fail)
  refine (sSwitchingEmpire_any h_p0 x0 i1 w2 (o_p0_2.out.rd) SM0.out.w SM0.out.l SM0.out.c).mono ?_
  rw [HV.out, HVb.out]
  rintro e w3 ⟨A_v, c_v, rfl, own3, bel3⟩
  have o_v_3 := Lib.hid (OwnI.of_own own3)
  clear own3
  have s3 := bel3.size
  have B3 := B2.trans (bel3.mono B2.size)
  have c_a0_3_0 := (bel3.cell (p := ⟨w.heap.size, 0, none⟩) (by show w.heap.size < _; omega)).trans c_a0_2_0
  have c_a0_3_1 := (bel3.cell (p := ⟨w.heap.size, 1, none⟩) (by show w.heap.size < _; omega)).trans c_a0_2_1
  have c_a0_3_2 := (bel3.cell (p := ⟨w.heap.size, 2, none⟩) (by show w.heap.size < _; omega)).trans c_a0_2_2
  have o_p0_3 := Lib.hid (o_p0_2.out.below bel3)
  clear bel3 B2 o_p0_2 c_a0_2_0 c_a0_2_1 c_a0_2_2
  generalize w2.heap.size = m2 at *
  clear o_p0_3
  go_wp2_with (fail)
  refine (toN_any h0 x0 w3 ((H0.out.below B3).more B3.size) SM0.out.q SM0.out.w SM0.out.l SM0.out.c).mono ?_
  rintro e w4 ⟨h_x0, rfl, own4, bel4⟩
  have o_x0_4 := Lib.hid own4
  clear own4
  have s4 := bel4.size
  have B4 := B3.trans (bel4.mono B3.size)
  have c_a0_4_0 := (bel4.cell (p := ⟨w.heap.size, 0, none⟩) (by show w.heap.size < _; omega)).trans c_a0_3_0
  have c_a0_4_1 := (bel4.cell (p := ⟨w.heap.size, 1, none⟩) (by show w.heap.size < _; omega)).trans c_a0_3_1
  have c_a0_4_2 := (bel4.cell (p := ⟨w.heap.size, 2, none⟩) (by show w.heap.size < _; omega)).trans c_a0_3_2
  have o_v_4 := Lib.hid (o_v_3.out.below bel4)
  clear bel4 B3 o_v_3 c_a0_3_0 c_a0_3_1 c_a0_3_2
  generalize w3.heap.size = m3 at *
  have bel5 : Below w4.heap.size w4 (w4.alloc (.cells #[Value.slice h_x0.A x0.w.length h_x0.c, Value.slice h_x0.L x0.l.length h_x0.d, Value.slice h_x0.C x0.c.length h_x0.e] 30)) := (Below.refl _ _).alloc (Nat.le_refl _) _
  obtain ⟨c_x0_5_0, c_x0_5_1, c_x0_5_2⟩ := three_cells (show (w4.alloc (.cells #[Value.slice h_x0.A x0.w.length h_x0.c, Value.slice h_x0.L x0.l.length h_x0.d, Value.slice h_x0.C x0.c.length h_x0.e] 30)).heap[w4.heap.size]? = some (.cells #[Value.slice h_x0.A x0.w.length h_x0.c, Value.slice h_x0.L x0.l.length h_x0.d, Value.slice h_x0.C x0.c.length h_x0.e] 30 (0, 0)) from heap_alloc_new _ _)
  have t5 : w4.heap.size + 1 ≤ (w4.alloc (.cells #[Value.slice h_x0.A x0.w.length h_x0.c, Value.slice h_x0.L x0.l.length h_x0.d, Value.slice h_x0.C x0.c.length h_x0.e] 30)).heap.size := by simp
  have c_a0_5_0 := (bel5.cell (p := ⟨w.heap.size, 0, none⟩) (by show w.heap.size < _; omega)).trans c_a0_4_0
  have c_a0_5_1 := (bel5.cell (p := ⟨w.heap.size, 1, none⟩) (by show w.heap.size < _; omega)).trans c_a0_4_1
  have c_a0_5_2 := (bel5.cell (p := ⟨w.heap.size, 2, none⟩) (by show w.heap.size < _; omega)).trans c_a0_4_2
  clear c_a0_4_0 c_a0_4_1 c_a0_4_2
  go_wp2_with (fail)
  generalize w4.alloc (.cells #[Value.slice h_x0.A x0.w.length h_x0.c, Value.slice h_x0.L x0.l.length h_x0.d, Value.slice h_x0.C x0.c.length h_x0.e] 30) = w5 at *
  have s5 := bel5.size
  have B5 := B4.trans (bel5.mono B4.size)
  have o_v_5 := Lib.hid (o_v_4.out.below bel5)
  have o_x0_5 := Lib.hid (o_x0_4.out.below bel5)
  clear bel5 B4 o_v_4 o_x0_4
  generalize w4.heap.size = m4 at *
  refine (switchingEmpire_impl h_x0 x0 i1 w5 (o_x0_5.out.rd) SM0.out (HT.out.below B5 HT.out.lt) (HU.out.below B5 HU.out.lt) (HZT.out.below B5 HZT.out.lt)).mono ?_
  rw [HV.out, HVb.out]
  rintro e w6 ⟨A_g, c_g, rfl, own6, bel6⟩
  have o_g_6 := Lib.hid (OwnI.of_own own6)
  clear own6
  have s6 := bel6.size
  have B6 := B5.trans (bel6.mono B5.size)
  have c_a0_6_0 := (bel6.cell (p := ⟨w.heap.size, 0, none⟩) (by show w.heap.size < _; omega)).trans c_a0_5_0
  have c_a0_6_1 := (bel6.cell (p := ⟨w.heap.size, 1, none⟩) (by show w.heap.size < _; omega)).trans c_a0_5_1
  have c_a0_6_2 := (bel6.cell (p := ⟨w.heap.size, 2, none⟩) (by show w.heap.size < _; omega)).trans c_a0_5_2
  have c_x0_6_0 := (bel6.cell (p := ⟨m4, 0, none⟩) (by show m4 < _; omega)).trans c_x0_5_0
  have c_x0_6_1 := (bel6.cell (p := ⟨m4, 1, none⟩) (by show m4 < _; omega)).trans c_x0_5_1
  have c_x0_6_2 := (bel6.cell (p := ⟨m4, 2, none⟩) (by show m4 < _; omega)).trans c_x0_5_2
  have o_v_6 := Lib.hid (o_v_5.out.below bel6)
  have o_x0_6 := Lib.hid (o_x0_5.out.below bel6)
  clear bel6 B5 o_v_5 o_x0_5 c_a0_5_0 c_a0_5_1 c_a0_5_2 c_x0_5_0 c_x0_5_1 c_x0_5_2
  generalize w5.heap.size = m5 at *
  go_wp2_with (fail)
  refine (eqI_x _ _ _ _ _ V w6 (o_g_6.out.rd) (o_v_6.out.rd) hv1).mono ?_
  rintro e w7 ⟨rfl, bel7⟩
  have s7 := bel7.size
  have B7 := B6.trans (bel7.mono B6.size)
  have c_a0_7_0 := (bel7.cell (p := ⟨w.heap.size, 0, none⟩) (by show w.heap.size < _; omega)).trans c_a0_6_0
  have c_a0_7_1 := (bel7.cell (p := ⟨w.heap.size, 1, none⟩) (by show w.heap.size < _; omega)).trans c_a0_6_1
  have c_a0_7_2 := (bel7.cell (p := ⟨w.heap.size, 2, none⟩) (by show w.heap.size < _; omega)).trans c_a0_6_2
  have c_x0_7_0 := (bel7.cell (p := ⟨m4, 0, none⟩) (by show m4 < _; omega)).trans c_x0_6_0
  have c_x0_7_1 := (bel7.cell (p := ⟨m4, 1, none⟩) (by show m4 < _; omega)).trans c_x0_6_1
  have c_x0_7_2 := (bel7.cell (p := ⟨m4, 2, none⟩) (by show m4 < _; omega)).trans c_x0_6_2
  have o_v_7 := Lib.hid (o_v_6.out.below bel7)
  have o_x0_7 := Lib.hid (o_x0_6.out.below bel7)
  have o_g_7 := Lib.hid (o_g_6.out.below bel7)
  clear bel7 B6 o_v_6 o_x0_6 o_g_6 c_a0_6_0 c_a0_6_1 c_a0_6_2 c_x0_6_0 c_x0_6_1 c_x0_6_2
  generalize w6.heap.size = m6 at *
  have R_x := Lib.hid (o_x0_7.out.rd)
  have HBx := Lib.hid B7
  go_upto_region 10 with (fail)
  go_cut [49] (fun b wx => b = .bool false ∧ Below w7.heap.size w7 wx)
  case first =>
    go_wp2_with (fail)
    go_region_with (first
      | (go_at_call 15; refine (toN_any h0 x0 w7.drew ((H0.out.below HBx.out).more HBx.out.size) SM0.out.q SM0.out.w SM0.out.l SM0.out.c).mono ?_; rintro e wt ⟨ht, rfl, ownt, belt'⟩; have belt := undrew belt'; have cxt0 := (belt.cell (p := ⟨m4, 0, none⟩) (by show m4 < _; omega)).trans c_x0_7_0; have cxt1 := (belt.cell (p := ⟨m4, 1, none⟩) (by show m4 < _; omega)).trans c_x0_7_1; have cxt2 := (belt.cell (p := ⟨m4, 2, none⟩) (by show m4 < _; omega)).trans c_x0_7_2; have R7 := Lib.hid ((R_x.out.below belt).more belt.size); have S7 := Lib.hid ownt.rd; have B7 := Lib.hid belt; clear ownt belt belt')
      | (go_at_call 18; refine (eqN_any h_x0 _ x0 _ R7.out S7.out SM0.out.q SM0.out.w SM0.out.l SM0.out.c).mono ?_; rintro e wu ⟨rfl, belu⟩; have B8 := Lib.hid (B7.out.trans (belu.mono B7.out.size)); clear belu))
    all_goals (try go_wp2_with (fail))
    all_goals go_meet
    all_goals exact ⟨rfl, B8.out⟩
  case rest =>
  obtain ⟨rfl, bel8⟩ := hcut
  clear R_x HBx
  rename World => w8
  have s8 := bel8.size
  have B8 := B7.trans (bel8.mono B7.size)
  have c_a0_8_0 := (bel8.cell (p := ⟨w.heap.size, 0, none⟩) (by show w.heap.size < _; omega)).trans c_a0_7_0
  have c_a0_8_1 := (bel8.cell (p := ⟨w.heap.size, 1, none⟩) (by show w.heap.size < _; omega)).trans c_a0_7_1
  have c_a0_8_2 := (bel8.cell (p := ⟨w.heap.size, 2, none⟩) (by show w.heap.size < _; omega)).trans c_a0_7_2
  have c_x0_8_0 := (bel8.cell (p := ⟨m4, 0, none⟩) (by show m4 < _; omega)).trans c_x0_7_0
  have c_x0_8_1 := (bel8.cell (p := ⟨m4, 1, none⟩) (by show m4 < _; omega)).trans c_x0_7_1
  have c_x0_8_2 := (bel8.cell (p := ⟨m4, 2, none⟩) (by show m4 < _; omega)).trans c_x0_7_2
  have o_v_8 := Lib.hid (o_v_7.out.below bel8)
  have o_x0_8 := Lib.hid (o_x0_7.out.below bel8)
  have o_g_8 := Lib.hid (o_g_7.out.below bel8)
  clear bel8 B7 o_v_7 o_x0_7 o_g_7 c_a0_7_0 c_a0_7_1 c_a0_7_2 c_x0_7_0 c_x0_7_1 c_x0_7_2
  generalize w7.heap.size = m7 at *
  go_wp2_with (fail)
  refine (markN_any h_x0 x0 (1) w8 _ _ o_x0_8.out SM0.out.w SM0.out.t SM0.out.l SM0.out.c (by omega) (by omega)).mono ?_
  rintro e w9 ⟨rfl, own9, kp9⟩
  have o_x0_9 := Lib.hid own9
  clear own9
  have s9 := kp9.size
  have B9 := kp9.to_below B8 (by omega) B8.size
  have c_a0_9_0 := (kept_cell kp9 (p := ⟨w.heap.size, 0, none⟩) (by show w.heap.size < _; omega) (by show w.heap.size < _ ∨ _ ≤ w.heap.size; omega)).trans c_a0_8_0
  have c_a0_9_1 := (kept_cell kp9 (p := ⟨w.heap.size, 1, none⟩) (by show w.heap.size < _; omega) (by show w.heap.size < _ ∨ _ ≤ w.heap.size; omega)).trans c_a0_8_1
  have c_a0_9_2 := (kept_cell kp9 (p := ⟨w.heap.size, 2, none⟩) (by show w.heap.size < _; omega) (by show w.heap.size < _ ∨ _ ≤ w.heap.size; omega)).trans c_a0_8_2
  have c_x0_9_0 := (kept_cell kp9 (p := ⟨m4, 0, none⟩) (by show m4 < _; omega) (by show m4 < _ ∨ _ ≤ m4; omega)).trans c_x0_8_0
  have c_x0_9_1 := (kept_cell kp9 (p := ⟨m4, 1, none⟩) (by show m4 < _; omega) (by show m4 < _ ∨ _ ≤ m4; omega)).trans c_x0_8_1
  have c_x0_9_2 := (kept_cell kp9 (p := ⟨m4, 2, none⟩) (by show m4 < _; omega) (by show m4 < _ ∨ _ ≤ m4; omega)).trans c_x0_8_2
  have o_v_9 := Lib.hid (o_v_8.out.kept kp9 (by omega))
  have o_g_9 := Lib.hid (o_g_8.out.kept kp9 (by omega))
  clear kp9 B8 o_v_8 o_x0_8 o_g_8 c_a0_8_0 c_a0_8_1 c_a0_8_2 c_x0_8_0 c_x0_8_1 c_x0_8_2
  generalize w8.heap.size = m8 at *
  have hkk : decide (1 + ((ntot x0 : Nat) : Int) < 0) = false := decide_eq_false (by omega)
  clear o_x0_9
  go_wp2_with (fail)
  refine (eqI_x _ _ _ _ _ V w9 (o_g_9.out.rd) (o_v_9.out.rd) hv1).mono ?_
  rintro e w10 ⟨rfl, bel10⟩
  have s10 := bel10.size
  have B10 := B9.trans (bel10.mono B9.size)
  have c_a0_10_0 := (bel10.cell (p := ⟨w.heap.size, 0, none⟩) (by show w.heap.size < _; omega)).trans c_a0_9_0
  have c_a0_10_1 := (bel10.cell (p := ⟨w.heap.size, 1, none⟩) (by show w.heap.size < _; omega)).trans c_a0_9_1
  have c_a0_10_2 := (bel10.cell (p := ⟨w.heap.size, 2, none⟩) (by show w.heap.size < _; omega)).trans c_a0_9_2
  have c_x0_10_0 := (bel10.cell (p := ⟨m4, 0, none⟩) (by show m4 < _; omega)).trans c_x0_9_0
  have c_x0_10_1 := (bel10.cell (p := ⟨m4, 1, none⟩) (by show m4 < _; omega)).trans c_x0_9_1
  have c_x0_10_2 := (bel10.cell (p := ⟨m4, 2, none⟩) (by show m4 < _; omega)).trans c_x0_9_2
  have o_v_10 := Lib.hid (o_v_9.out.below bel10)
  have o_g_10 := Lib.hid (o_g_9.out.below bel10)
  clear bel10 B9 o_v_9 o_g_9 c_a0_9_0 c_a0_9_1 c_a0_9_2 c_x0_9_0 c_x0_9_1 c_x0_9_2
  generalize w9.heap.size = m9 at *
  have hmm : decide (1 + (V.length : Int) < 0) = false := decide_eq_false (by omega)
  go_wp2_with (fail)
  refine (markI_x _ _ _ V (1) w10 _ _ o_g_10.out hv1 (by omega) (by omega)).mono ?_
  rintro e w11 ⟨rfl, own11, kp11⟩
  have o_g_11 := Lib.hid own11
  clear own11
  have s11 := kp11.size
  have B11 := kp11.to_below B10 (by omega) B10.size
  have c_a0_11_0 := (kept_cell kp11 (p := ⟨w.heap.size, 0, none⟩) (by show w.heap.size < _; omega) (by show w.heap.size < _ ∨ _ ≤ w.heap.size; omega)).trans c_a0_10_0
  have c_a0_11_1 := (kept_cell kp11 (p := ⟨w.heap.size, 1, none⟩) (by show w.heap.size < _; omega) (by show w.heap.size < _ ∨ _ ≤ w.heap.size; omega)).trans c_a0_10_1
  have c_a0_11_2 := (kept_cell kp11 (p := ⟨w.heap.size, 2, none⟩) (by show w.heap.size < _; omega) (by show w.heap.size < _ ∨ _ ≤ w.heap.size; omega)).trans c_a0_10_2
  have c_x0_11_0 := (kept_cell kp11 (p := ⟨m4, 0, none⟩) (by show m4 < _; omega) (by show m4 < _ ∨ _ ≤ m4; omega)).trans c_x0_10_0
  have c_x0_11_1 := (kept_cell kp11 (p := ⟨m4, 1, none⟩) (by show m4 < _; omega) (by show m4 < _ ∨ _ ≤ m4; omega)).trans c_x0_10_1
  have c_x0_11_2 := (kept_cell kp11 (p := ⟨m4, 2, none⟩) (by show m4 < _; omega) (by show m4 < _ ∨ _ ≤ m4; omega)).trans c_x0_10_2
  have o_v_11 := Lib.hid (o_v_10.out.kept kp11 (by omega))
  clear kp11 B10 o_v_10 o_g_10 c_a0_10_0 c_a0_10_1 c_a0_10_2 c_x0_10_0 c_x0_10_1 c_x0_10_2
  generalize w10.heap.size = m10 at *
  go_wp2_with (fail)
  refine (heldI_x _ _ _ 1 w11 (o_g_11.out.rd) hv1 (by decide) (by decide)).mono ?_
  rintro e w12 ⟨rfl, bel12⟩
  have s12 := bel12.size
  have B12 := B11.trans (bel12.mono B11.size)
  have c_a0_12_0 := (bel12.cell (p := ⟨w.heap.size, 0, none⟩) (by show w.heap.size < _; omega)).trans c_a0_11_0
  have c_a0_12_1 := (bel12.cell (p := ⟨w.heap.size, 1, none⟩) (by show w.heap.size < _; omega)).trans c_a0_11_1
  have c_a0_12_2 := (bel12.cell (p := ⟨w.heap.size, 2, none⟩) (by show w.heap.size < _; omega)).trans c_a0_11_2
  have c_x0_12_0 := (bel12.cell (p := ⟨m4, 0, none⟩) (by show m4 < _; omega)).trans c_x0_11_0
  have c_x0_12_1 := (bel12.cell (p := ⟨m4, 1, none⟩) (by show m4 < _; omega)).trans c_x0_11_1
  have c_x0_12_2 := (bel12.cell (p := ⟨m4, 2, none⟩) (by show m4 < _; omega)).trans c_x0_11_2
  have o_v_12 := Lib.hid (o_v_11.out.below bel12)
  have o_g_12 := Lib.hid (o_g_11.out.below bel12)
  clear bel12 B11 o_v_11 o_g_11 c_a0_11_0 c_a0_11_1 c_a0_11_2 c_x0_11_0 c_x0_11_1 c_x0_11_2
  generalize w11.heap.size = m11 at *
  go_wp2_with (fail)
  refine (toN_any h0 x0 w12 ((H0.out.below B12).more B12.size) SM0.out.q SM0.out.w SM0.out.l SM0.out.c).mono ?_
  rintro e w13 ⟨h_b0, rfl, own13, bel13⟩
  have o_b0_13 := Lib.hid own13
  clear own13
  have s13 := bel13.size
  have B13 := B12.trans (bel13.mono B12.size)
  have c_a0_13_0 := (bel13.cell (p := ⟨w.heap.size, 0, none⟩) (by show w.heap.size < _; omega)).trans c_a0_12_0
  have c_a0_13_1 := (bel13.cell (p := ⟨w.heap.size, 1, none⟩) (by show w.heap.size < _; omega)).trans c_a0_12_1
  have c_a0_13_2 := (bel13.cell (p := ⟨w.heap.size, 2, none⟩) (by show w.heap.size < _; omega)).trans c_a0_12_2
  have c_x0_13_0 := (bel13.cell (p := ⟨m4, 0, none⟩) (by show m4 < _; omega)).trans c_x0_12_0
  have c_x0_13_1 := (bel13.cell (p := ⟨m4, 1, none⟩) (by show m4 < _; omega)).trans c_x0_12_1
  have c_x0_13_2 := (bel13.cell (p := ⟨m4, 2, none⟩) (by show m4 < _; omega)).trans c_x0_12_2
  have o_v_13 := Lib.hid (o_v_12.out.below bel13)
  have o_g_13 := Lib.hid (o_g_12.out.below bel13)
  clear bel13 B12 o_v_12 o_g_12 c_a0_12_0 c_a0_12_1 c_a0_12_2 c_x0_12_0 c_x0_12_1 c_x0_12_2
  generalize w12.heap.size = m12 at *
  go_wp2_with (fail)
  refine (switchingEmpire_impl h_b0 x0 i1 w13 (o_b0_13.out.rd) SM0.out (HT.out.below B13 HT.out.lt) (HU.out.below B13 HU.out.lt) (HZT.out.below B13 HZT.out.lt)).mono ?_
  rw [HV.out, HVb.out]
  rintro e w14 ⟨A_hh, c_hh, rfl, own14, bel14⟩
  have o_hh_14 := Lib.hid (OwnI.of_own own14)
  clear own14
  have s14 := bel14.size
  have B14 := B13.trans (bel14.mono B13.size)
  have c_a0_14_0 := (bel14.cell (p := ⟨w.heap.size, 0, none⟩) (by show w.heap.size < _; omega)).trans c_a0_13_0
  have c_a0_14_1 := (bel14.cell (p := ⟨w.heap.size, 1, none⟩) (by show w.heap.size < _; omega)).trans c_a0_13_1
  have c_a0_14_2 := (bel14.cell (p := ⟨w.heap.size, 2, none⟩) (by show w.heap.size < _; omega)).trans c_a0_13_2
  have c_x0_14_0 := (bel14.cell (p := ⟨m4, 0, none⟩) (by show m4 < _; omega)).trans c_x0_13_0
  have c_x0_14_1 := (bel14.cell (p := ⟨m4, 1, none⟩) (by show m4 < _; omega)).trans c_x0_13_1
  have c_x0_14_2 := (bel14.cell (p := ⟨m4, 2, none⟩) (by show m4 < _; omega)).trans c_x0_13_2
  have o_v_14 := Lib.hid (o_v_13.out.below bel14)
  have o_g_14 := Lib.hid (o_g_13.out.below bel14)
  have o_b0_14 := Lib.hid (o_b0_13.out.below bel14)
  clear bel14 B13 o_v_13 o_g_13 o_b0_13 c_a0_13_0 c_a0_13_1 c_a0_13_2 c_x0_13_0 c_x0_13_1 c_x0_13_2
  generalize w13.heap.size = m13 at *
  clear o_b0_14
  go_wp2_with (fail)
  refine (eqI_x _ _ _ _ _ V w14 (o_hh_14.out.rd) (o_v_14.out.rd) hv1).mono ?_
  rintro e w15 ⟨rfl, bel15⟩
  have s15 := bel15.size
  have B15 := B14.trans (bel15.mono B14.size)
  have c_a0_15_0 := (bel15.cell (p := ⟨w.heap.size, 0, none⟩) (by show w.heap.size < _; omega)).trans c_a0_14_0
  have c_a0_15_1 := (bel15.cell (p := ⟨w.heap.size, 1, none⟩) (by show w.heap.size < _; omega)).trans c_a0_14_1
  have c_a0_15_2 := (bel15.cell (p := ⟨w.heap.size, 2, none⟩) (by show w.heap.size < _; omega)).trans c_a0_14_2
  have c_x0_15_0 := (bel15.cell (p := ⟨m4, 0, none⟩) (by show m4 < _; omega)).trans c_x0_14_0
  have c_x0_15_1 := (bel15.cell (p := ⟨m4, 1, none⟩) (by show m4 < _; omega)).trans c_x0_14_1
  have c_x0_15_2 := (bel15.cell (p := ⟨m4, 2, none⟩) (by show m4 < _; omega)).trans c_x0_14_2
  have o_v_15 := Lib.hid (o_v_14.out.below bel15)
  have o_g_15 := Lib.hid (o_g_14.out.below bel15)
  have o_hh_15 := Lib.hid (o_hh_14.out.below bel15)
  clear bel15 B14 o_v_14 o_g_14 o_hh_14 c_a0_14_0 c_a0_14_1 c_a0_14_2 c_x0_14_0 c_x0_14_1 c_x0_14_2
  generalize w14.heap.size = m14 at *
  go_wp2_with (fail)
  refine (heldI_x _ _ _ 1 w15 (o_g_15.out.rd) hv1 (by decide) (by decide)).mono ?_
  rintro e w16 ⟨rfl, bel16⟩
  have s16 := bel16.size
  have B16 := B15.trans (bel16.mono B15.size)
  have c_a0_16_0 := (bel16.cell (p := ⟨w.heap.size, 0, none⟩) (by show w.heap.size < _; omega)).trans c_a0_15_0
  have c_a0_16_1 := (bel16.cell (p := ⟨w.heap.size, 1, none⟩) (by show w.heap.size < _; omega)).trans c_a0_15_1
  have c_a0_16_2 := (bel16.cell (p := ⟨w.heap.size, 2, none⟩) (by show w.heap.size < _; omega)).trans c_a0_15_2
  have c_x0_16_0 := (bel16.cell (p := ⟨m4, 0, none⟩) (by show m4 < _; omega)).trans c_x0_15_0
  have c_x0_16_1 := (bel16.cell (p := ⟨m4, 1, none⟩) (by show m4 < _; omega)).trans c_x0_15_1
  have c_x0_16_2 := (bel16.cell (p := ⟨m4, 2, none⟩) (by show m4 < _; omega)).trans c_x0_15_2
  have o_v_16 := Lib.hid (o_v_15.out.below bel16)
  have o_g_16 := Lib.hid (o_g_15.out.below bel16)
  have o_hh_16 := Lib.hid (o_hh_15.out.below bel16)
  clear bel16 B15 o_v_15 o_g_15 o_hh_15 c_a0_15_0 c_a0_15_1 c_a0_15_2 c_x0_15_0 c_x0_15_1 c_x0_15_2
  generalize w15.heap.size = m15 at *
  have HB := Lib.hid B16
  go_wp2
  go_ret
  exact ⟨rfl, HB.out⟩

theorem walk (h0 : NH) (x0 : Nt) (i1 : Int) (w : World) (r0 : RdN w w.heap.size h0 x0) (gr0 : GreatN x0) (_wf1 : (Lit.int .i64 i1).wf = true) (ht : Arit w) (hu : Dual w) (hz : Tz w) :
    Calls Tryz.prog 9 #[.agg #[Value.slice h0.A x0.w.length h0.c, Value.slice h0.L x0.l.length h0.d, Value.slice h0.C x0.c.length h0.e], .int .i64 i1] w fun e w' => e = .returned (.bool true) ∧ Below w.heap.size w w' := by
  rcases sz_casesN 1048576 (by decide) x0 with hb | ⟨L0, hs0, hL0, hL'0, sw0, st0, sl0, sc0⟩
  · exact walk_big0 h0 x0 i1  w r0 gr0  hb
  ·
    have sm0 : SmallN x0 := ⟨sw0, st0, sl0, sc0⟩
    exact walk_mid h0 x0 i1 L0 w r0 hs0 hL0 hL'0 sm0 ht hu hz


set_option maxRecDepth 100000 in
/-- What the walk gives, for all arguments and every world that holds the tables. -/
theorem contract (H : Type) (enc : TypeId × Value → H) (W : World) (base : Nat) (args : Array Value) (ds gs : List (DataW H)) (before : List MemPlace)
    (hval : ∀ (j : Nat) t v, Tryz.f9.params[j]? = some t → args[j]? = some v → Value.okWide Tryz.prog W .any base t v)
    (hW : DataW.Whole enc Tryz.prog Tryz.f9.params.toList Rows.fnExactSwitchingEmpireSpec.vars false W args.toList ds gs before) (hL : laidMetH Tryz.prog Rows.fnExactSwitchingEmpireRow.laid W) (_hS : W.ShapedOpen Tryz.prog) :
    Calls Tryz.prog 9 args W fun e W' => ∃ v, e = .returned v ∧ Rows.fnExactSwitchingEmpireSpec.post enc Tryz.prog Tryz.f9 false true false false W args v W' := by
  have hW' := hW
  obtain ⟨p, q, hA0, hV, rfl, hfz, hnd⟩ := hW
  have hA : DataW.TrodAll enc Tryz.prog W 0 (fun _ => true) true Tryz.f9.params.toList args.toList ds p := hA0
  rw [Tryz.params9] at hA hval
  obtain ⟨v0, vs0, d0, ds0, p0, q0, hargs, rfl, rfl, h0, r0⟩ := trodAll_cons hA
  obtain ⟨v1, vs1, d1, ds1, p1, q1, rfl, rfl, rfl, h1, r1⟩ := trodAll_cons r0
  obtain ⟨rfl, rfl, rfl⟩ := trodAll_nil r1
  obtain rfl : args = #[v0, v1] := by cases args; simp_all
  have k0 := h0
  have lt0 : ∀ x ∈ p0, x.block < W.heap.size := by obtain ⟨m, hm⟩ := k0; exact DataW.trod_lt m _ _ _ hm
  obtain ⟨hh0, z0, rfl, w0, m0, l0⟩ := open_net (hval 0 26 v0 rfl rfl) h0
  obtain ⟨z1, rfl, rfl, rfl, b1⟩ := open_int Tryz.underlying2 (hval 1 2 v1 rfl rfl) h1
  replace hL : laidMet Tryz.prog Rows.fnExactSwitchingEmpireRow.laid W := by rw [MakeChecks.laidMetH_plain _ _ _ (by kernel_rfl)] at hL; exact hL
  have ht : Arit W := arit_of (laidMet.tail hL)
  have hu : Dual W := dual_of (laidMet.tail hL)
  have hz : Tz W := tz_of hL
  have hv1 := hV
  obtain ⟨g0, t0, cs0, f0, e0, p0', g1, t1, cs1, f1, e1, p1', rfl, _, _, _, _, _, _, _, _, rfl⟩ := trodVars_two hV
  clear hA0
  refine (walk hh0 z0 z1 W w0 ⟨m0.1, m0.2.1, m0.2.2, l0⟩ b1 ht hu hz).mono fun e W' ⟨he, bel⟩ => ?_
  subst he
  exact ⟨_, rfl, _, _, _, [], _, _, hW', trodAll_mk1 (shut_bool Tryz.underlying4 _),
    (trodAll_cons_mk (Below.trod laidOut (by kernel_rfl) (of_decide_eq_true (by kernel_rfl)) k0 bel lt0) (trodAll_cons_mk (shut_int Tryz.underlying2 b1) trodAll_mk0)),
    vars_below bel (readable_all _ (by kernel_rfl)) hv1, bel.frame _, fun h => by cases h⟩

theorem laid_met (os : Os) : laidMet Tryz.prog Rows.fnExactSwitchingEmpireRow.laid ((World.laidAll Tryz.prog os Rows.fnExactSwitchingEmpireRow.laid).forCall (fun _ _ => 0) ⟨#[], #[.agg #[.slice none 0 0, .slice none 0 0, .slice none 0 0], .int .i64 0], []⟩).memory :=
  laidMet_laidAll _ (by kernel_rfl) (by kernel_rfl)
theorem reads (os : Os) {H : Type} (enc : TypeId × Value → H) : ∃ x, DataW.whole enc Tryz.prog ((World.laidAll Tryz.prog os Rows.fnExactSwitchingEmpireRow.laid).forCall (fun _ _ => 0) ⟨#[], #[.agg #[.slice none 0 0, .slice none 0 0, .slice none 0 0], .int .i64 0], []⟩).memory Tryz.f9.params.toList Rows.fnExactSwitchingEmpireSpec.vars false (#[.agg #[.slice none 0 0, .slice none 0 0, .slice none 0 0], .int .i64 0] : Array Value).toList 8 = some x :=
  Option.isSome_iff_exists.1 (by kernel_rfl)

set_option maxRecDepth 100000 in
theorem lifted (os : Os) (started : os.Started) (H : Type) (enc : TypeId × Value → H) (F : Stop.Interp) :
    ReturnsInHanded {} Tryz.checked os 9 .any ((OpenSpec.ofChange Rows.fnExactSwitchingEmpireSpec).preRow enc Tryz.prog Tryz.f9 Rows.fnExactSwitchingEmpireRow.domain false Rows.fnExactSwitchingEmpireRow.laid) (((OpenSpec.ofChange Rows.fnExactSwitchingEmpireSpec).at F).post enc Tryz.prog Tryz.f9 false true false false) := by
  obtain ⟨places, hx⟩ := reads os enc
  refine returnsInHanded_of_row (C := Tryz.checked) (s := OpenSpec.ofChange Rows.fnExactSwitchingEmpireSpec) own started (by kernel_rfl) Tryz.func9
    (witness_row_sh (enc := enc) (C := Tryz.checked) false (World.laidAll Tryz.prog os Rows.fnExactSwitchingEmpireRow.laid) #[.agg #[.slice none 0 0, .slice none 0 0, .slice none 0 0], .int .i64 0] (World.laidAll_os _ _ _) (World.shaped_of_ZipB (by kernel_rfl) (by kernel_rfl)) (by kernel_rfl)
      (OpenSpec.preRow_of_cond 8 hx rfl (fun k hk => by cases hk) (by kernel_rfl) (laid_met os))) ?_
  intro W base args ds gs before hval hW _ _ _ hL hS _
  exact contract H enc W base args ds gs before hval hW hL hS

theorem said : Rows.FnExactSwitchingEmpireSaid :=
  OpenClaim.holds_of_cond 9 Tryz.f9 rfl rfl rfl rfl rfl rfl rfl ⟨rfl, rfl, rfl, rfl, rfl⟩ rfl rfl rfl rfl rfl (by kernel_rfl) Tryz.func9 (by kernel_rfl)
    (of_decide_eq_true (by kernel_rfl)) (by unfold Func.isWrapper; first | (rw [if_pos (by decide +kernel)]; kernel_rfl) | (rw [if_neg (by decide +kernel)]; exact ⟨rfl, rfl⟩))
    (fun os started H enc _ F => by rw [OpenClaim.pre_eq_preRow]; exact lifted os started H enc F)

theorem plain (f : FuncId) (fn : Func) (hf : Tryz.pinned.checked.prog.funcNamed "loop.example/g00872/laws.FnExactSwitchingEmpire" = some f) (hfn : Tryz.pinned.checked.prog.funcs[f]? = some fn) :
    Rows.fnExactSwitchingEmpireCard.stood.looks = Tryz.pinned.checked.prog.looks [] ∧ ∀ (j : Nat) t, fn.params[j]? = some t → Tryz.pinned.checked.prog.wantsStandIn t = false := by
  obtain rfl : f = 9 := Option.some.inj ((show Tryz.prog.funcNamed "loop.example/g00872/laws.FnExactSwitchingEmpire" = some 9 by kernel_rfl).symm.trans hf) |>.symm
  obtain rfl : fn = Tryz.f9 := (Option.some.inj (Tryz.func9.symm.trans hfn)).symm
  refine ⟨by kernel_rfl, fun j t ht => ?_⟩
  rw [Tryz.params9] at ht
  have hm : t ∈ [26, 2] := by simpa using Array.mem_of_getElem? ht
  have hall : ([26, 2].all fun u => !Tryz.prog.wantsStandIn u) = true := by kernel_rfl
  exact (show Tryz.prog.wantsStandIn t = false by simpa using List.all_eq_true.1 hall t hm)

/-- The statement. -/
theorem card : Rows.FnExactSwitchingEmpireCardSaid :=
  Claim7.holds_tied_plain_at .later [] _ _ _ _ said (fun _ h => by cases h) (by kernel_rfl) (fun _ h => by cases h) fnExactSwitchingEmpire_row_tie rfl ⟨rfl, rfl⟩ (by kernel_rfl) rfl plain (by kernel_rfl)
end Go.Proofs.YtfdpkhiiboghiaaGreatDoor.fnExactSwitchingEmpire
