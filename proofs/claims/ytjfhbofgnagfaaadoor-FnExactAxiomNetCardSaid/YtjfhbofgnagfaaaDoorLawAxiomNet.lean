/- Proved: for all arguments the law that AxiomNet answers as its model, leaves its argument and shares no memory answers true and leaves its argument as it was (FnExactAxiomNet). Conditions: the row's own: the listed tables read as the program's text lays them, which the card ties to that text. -/
import Derived.Test.YtjfhbofgnagfaaaDoorFrame
import Derived.Test.YtjfhbofgnagfaaaDoorNetE
import Derived.Test.YtjfhbofgnagfaaaDoorNetP
import Derived.Test.YtjfhbofgnagfaaaDoorNetG
import Derived.Test.YtjfhbofgnagfaaaDoorPgJ
namespace Go.Proofs.YtjfhbofgnagfaaaDoor.fnExactAxiomNet
set_option linter.unusedSimpArgs false
set_option linter.unusedVariables false
open Go.ChangeShapes Go.WideShapes Go.ChangeAt Go.RowKit

set_option maxRecDepth 100000 in
theorem walk_big0 (A0 : Option Addr) (n0 c0 : Nat) (x0 : List Int) (w : World)    (hb : ¬ n0 ≤ 1048576) :
    Calls Tryd.prog 10 #[.slice A0 n0 c0] w fun e w' => e = .returned (.bool true) ∧ Below w.heap.size w w' := by
  have hd0 : decide (1048576 < (n0 : Int)) = true := decide_eq_true (by omega)
  have B0 : Below w.heap.size w w := Below.refl _ _
  go_enter Tryd.func10, Tryd.ntmps10
  have HB := Lib.hid B0
  clear B0
  go_wp2
  go_ret
  exact ⟨rfl, HB.out⟩

set_option maxRecDepth 100000 in
set_option maxHeartbeats 16000000 in
theorem walk_mid (A0 : Option Addr) (n0 c0 : Nat) (x0 : List Int) (w : World) (r0 : RdI w w.heap.size A0 n0 x0) (hn0 : n0 ≤ 1048576) (ht : Arit w) (hu : Dual w) :
    Calls Tryd.prog 10 #[.slice A0 n0 c0] w fun e w' => e = .returned (.bool true) ∧ Below w.heap.size w w' := by
  have smV : SmallN (axV x0) := axV_small x0
  generalize hV : axV x0 = V at smV
  have HV := Lib.hid hV; clear hV
  have ntV := smV.tot
  generalize hVb : formN x0 = Vb
  have HVb := Lib.hid hVb; clear hVb
  have hbb : (Vb != Vb) = false := by simp
  have hd0 : decide (1048576 < (n0 : Int)) = false := decide_eq_false (by omega)
  have H0 := Lib.hid r0
  have SMV := Lib.hid smV
  have HT := Lib.hid ht
  have HU := Lib.hid hu
  clear r0 ht hu smV
  have B0 : Below w.heap.size w w := Below.refl _ _
  go_enter Tryd.func10, Tryd.ntmps10
  go_wp2_with (fail)
  refine (toI_x A0 n0 c0 x0 w ((H0.out.below B0).more B0.size) hn0).mono ?_
  rintro e w1 ⟨g_p0, rfl, own1, bel1⟩
  have o_p0_1 := Lib.hid own1
  clear own1
  have s1 := bel1.size
  have B1 := B0.trans (bel1.mono B0.size)
  clear bel1 B0
  go_wp2_with (fail)
  refine (sAxiomNet_any (some ⟨g_p0, 0, none⟩) n0 n0 x0 w1 (o_p0_1.out.rd)).mono ?_
  rw [HV.out, HVb.out]
  rintro e w2 ⟨h_v, rfl, own2, bel2⟩
  have o_v_2 := Lib.hid own2
  clear own2
  have s2 := bel2.size
  have B2 := B1.trans (bel2.mono B1.size)
  have o_p0_2 := Lib.hid (o_p0_1.out.below bel2)
  clear bel2 B1 o_p0_1
  generalize w1.heap.size = m1 at *
  clear o_p0_2
  have bel3 : Below w2.heap.size w2 (w2.alloc (.cells #[Value.slice h_v.A V.w.length h_v.c, Value.slice h_v.L V.l.length h_v.d, Value.slice h_v.C V.c.length h_v.e] 28)) := (Below.refl _ _).alloc (Nat.le_refl _) _
  obtain ⟨c_v_3_0, c_v_3_1, c_v_3_2⟩ := three_cells (show (w2.alloc (.cells #[Value.slice h_v.A V.w.length h_v.c, Value.slice h_v.L V.l.length h_v.d, Value.slice h_v.C V.c.length h_v.e] 28)).heap[w2.heap.size]? = some (.cells #[Value.slice h_v.A V.w.length h_v.c, Value.slice h_v.L V.l.length h_v.d, Value.slice h_v.C V.c.length h_v.e] 28 (0, 0)) from heap_alloc_new _ _)
  have t3 : w2.heap.size + 1 ≤ (w2.alloc (.cells #[Value.slice h_v.A V.w.length h_v.c, Value.slice h_v.L V.l.length h_v.d, Value.slice h_v.C V.c.length h_v.e] 28)).heap.size := by simp
  go_wp2_with (fail)
  generalize w2.alloc (.cells #[Value.slice h_v.A V.w.length h_v.c, Value.slice h_v.L V.l.length h_v.d, Value.slice h_v.C V.c.length h_v.e] 28) = w3 at *
  have s3 := bel3.size
  have B3 := B2.trans (bel3.mono B2.size)
  have o_v_3 := Lib.hid (o_v_2.out.below bel3)
  clear bel3 B2 o_v_2
  generalize w2.heap.size = m2 at *
  refine (toI_x A0 n0 c0 x0 w3 ((H0.out.below B3).more B3.size) hn0).mono ?_
  rintro e w4 ⟨g_x0, rfl, own4, bel4⟩
  have o_x0_4 := Lib.hid own4
  clear own4
  have s4 := bel4.size
  have B4 := B3.trans (bel4.mono B3.size)
  have c_v_4_0 := (bel4.cell (p := ⟨m2, 0, none⟩) (by show m2 < _; omega)).trans c_v_3_0
  have c_v_4_1 := (bel4.cell (p := ⟨m2, 1, none⟩) (by show m2 < _; omega)).trans c_v_3_1
  have c_v_4_2 := (bel4.cell (p := ⟨m2, 2, none⟩) (by show m2 < _; omega)).trans c_v_3_2
  have o_v_4 := Lib.hid (o_v_3.out.below bel4)
  clear bel4 B3 o_v_3 c_v_3_0 c_v_3_1 c_v_3_2
  generalize w3.heap.size = m3 at *
  go_wp2_with (fail)
  refine (axiomNet_impl (some ⟨g_x0, 0, none⟩) n0 n0 x0 w4 (o_x0_4.out.rd) hn0 (Nat.le_refl _) (HT.out.below B4 HT.out.lt) (HU.out.below B4 HU.out.lt)).mono ?_
  rw [HV.out, HVb.out]
  rintro e w5 ⟨h_g, rfl, own5, bel5⟩
  have o_g_5 := Lib.hid own5
  clear own5
  have s5 := bel5.size
  have B5 := B4.trans (bel5.mono B4.size)
  have c_v_5_0 := (bel5.cell (p := ⟨m2, 0, none⟩) (by show m2 < _; omega)).trans c_v_4_0
  have c_v_5_1 := (bel5.cell (p := ⟨m2, 1, none⟩) (by show m2 < _; omega)).trans c_v_4_1
  have c_v_5_2 := (bel5.cell (p := ⟨m2, 2, none⟩) (by show m2 < _; omega)).trans c_v_4_2
  have o_v_5 := Lib.hid (o_v_4.out.below bel5)
  have o_x0_5 := Lib.hid (o_x0_4.out.below bel5)
  clear bel5 B4 o_v_4 o_x0_4 c_v_4_0 c_v_4_1 c_v_4_2
  generalize w4.heap.size = m4 at *
  have bel6 : Below w5.heap.size w5 (w5.alloc (.cells #[Value.slice h_g.A V.w.length h_g.c, Value.slice h_g.L V.l.length h_g.d, Value.slice h_g.C V.c.length h_g.e] 28)) := (Below.refl _ _).alloc (Nat.le_refl _) _
  obtain ⟨c_g_6_0, c_g_6_1, c_g_6_2⟩ := three_cells (show (w5.alloc (.cells #[Value.slice h_g.A V.w.length h_g.c, Value.slice h_g.L V.l.length h_g.d, Value.slice h_g.C V.c.length h_g.e] 28)).heap[w5.heap.size]? = some (.cells #[Value.slice h_g.A V.w.length h_g.c, Value.slice h_g.L V.l.length h_g.d, Value.slice h_g.C V.c.length h_g.e] 28 (0, 0)) from heap_alloc_new _ _)
  have t6 : w5.heap.size + 1 ≤ (w5.alloc (.cells #[Value.slice h_g.A V.w.length h_g.c, Value.slice h_g.L V.l.length h_g.d, Value.slice h_g.C V.c.length h_g.e] 28)).heap.size := by simp
  have c_v_6_0 := (bel6.cell (p := ⟨m2, 0, none⟩) (by show m2 < _; omega)).trans c_v_5_0
  have c_v_6_1 := (bel6.cell (p := ⟨m2, 1, none⟩) (by show m2 < _; omega)).trans c_v_5_1
  have c_v_6_2 := (bel6.cell (p := ⟨m2, 2, none⟩) (by show m2 < _; omega)).trans c_v_5_2
  clear c_v_5_0 c_v_5_1 c_v_5_2
  go_wp2_with (fail)
  generalize w5.alloc (.cells #[Value.slice h_g.A V.w.length h_g.c, Value.slice h_g.L V.l.length h_g.d, Value.slice h_g.C V.c.length h_g.e] 28) = w6 at *
  have s6 := bel6.size
  have B6 := B5.trans (bel6.mono B5.size)
  have o_v_6 := Lib.hid (o_v_5.out.below bel6)
  have o_x0_6 := Lib.hid (o_x0_5.out.below bel6)
  have o_g_6 := Lib.hid (o_g_5.out.below bel6)
  clear bel6 B5 o_v_5 o_x0_5 o_g_5
  generalize w5.heap.size = m5 at *
  refine (eqN_any h_g h_v V w6 (o_g_6.out.rd) (o_v_6.out.rd) SMV.out.q SMV.out.w SMV.out.l SMV.out.c).mono ?_
  rintro e w7 ⟨rfl, bel7⟩
  have s7 := bel7.size
  have B7 := B6.trans (bel7.mono B6.size)
  have c_v_7_0 := (bel7.cell (p := ⟨m2, 0, none⟩) (by show m2 < _; omega)).trans c_v_6_0
  have c_v_7_1 := (bel7.cell (p := ⟨m2, 1, none⟩) (by show m2 < _; omega)).trans c_v_6_1
  have c_v_7_2 := (bel7.cell (p := ⟨m2, 2, none⟩) (by show m2 < _; omega)).trans c_v_6_2
  have c_g_7_0 := (bel7.cell (p := ⟨m5, 0, none⟩) (by show m5 < _; omega)).trans c_g_6_0
  have c_g_7_1 := (bel7.cell (p := ⟨m5, 1, none⟩) (by show m5 < _; omega)).trans c_g_6_1
  have c_g_7_2 := (bel7.cell (p := ⟨m5, 2, none⟩) (by show m5 < _; omega)).trans c_g_6_2
  have o_v_7 := Lib.hid (o_v_6.out.below bel7)
  have o_x0_7 := Lib.hid (o_x0_6.out.below bel7)
  have o_g_7 := Lib.hid (o_g_6.out.below bel7)
  clear bel7 B6 o_v_6 o_x0_6 o_g_6 c_v_6_0 c_v_6_1 c_v_6_2 c_g_6_0 c_g_6_1 c_g_6_2
  generalize w6.heap.size = m6 at *
  go_wp2_with (fail)
  refine (toI_x A0 n0 c0 x0 w7 ((H0.out.below B7).more B7.size) hn0).mono ?_
  rintro e w8 ⟨g_t, rfl, own8, bel8⟩
  have o_t_8 := Lib.hid own8
  clear own8
  have s8 := bel8.size
  have B8 := B7.trans (bel8.mono B7.size)
  have c_v_8_0 := (bel8.cell (p := ⟨m2, 0, none⟩) (by show m2 < _; omega)).trans c_v_7_0
  have c_v_8_1 := (bel8.cell (p := ⟨m2, 1, none⟩) (by show m2 < _; omega)).trans c_v_7_1
  have c_v_8_2 := (bel8.cell (p := ⟨m2, 2, none⟩) (by show m2 < _; omega)).trans c_v_7_2
  have c_g_8_0 := (bel8.cell (p := ⟨m5, 0, none⟩) (by show m5 < _; omega)).trans c_g_7_0
  have c_g_8_1 := (bel8.cell (p := ⟨m5, 1, none⟩) (by show m5 < _; omega)).trans c_g_7_1
  have c_g_8_2 := (bel8.cell (p := ⟨m5, 2, none⟩) (by show m5 < _; omega)).trans c_g_7_2
  have o_v_8 := Lib.hid (o_v_7.out.below bel8)
  have o_x0_8 := Lib.hid (o_x0_7.out.below bel8)
  have o_g_8 := Lib.hid (o_g_7.out.below bel8)
  clear bel8 B7 o_v_7 o_x0_7 o_g_7 c_v_7_0 c_v_7_1 c_v_7_2 c_g_7_0 c_g_7_1 c_g_7_2
  generalize w7.heap.size = m7 at *
  go_wp2_with (fail)
  refine (eqI_x _ _ _ _ _ x0 w8 (o_x0_8.out.rd) (o_t_8.out.rd) hn0).mono ?_
  rintro e w9 ⟨rfl, bel9⟩
  have s9 := bel9.size
  have B9 := B8.trans (bel9.mono B8.size)
  have c_v_9_0 := (bel9.cell (p := ⟨m2, 0, none⟩) (by show m2 < _; omega)).trans c_v_8_0
  have c_v_9_1 := (bel9.cell (p := ⟨m2, 1, none⟩) (by show m2 < _; omega)).trans c_v_8_1
  have c_v_9_2 := (bel9.cell (p := ⟨m2, 2, none⟩) (by show m2 < _; omega)).trans c_v_8_2
  have c_g_9_0 := (bel9.cell (p := ⟨m5, 0, none⟩) (by show m5 < _; omega)).trans c_g_8_0
  have c_g_9_1 := (bel9.cell (p := ⟨m5, 1, none⟩) (by show m5 < _; omega)).trans c_g_8_1
  have c_g_9_2 := (bel9.cell (p := ⟨m5, 2, none⟩) (by show m5 < _; omega)).trans c_g_8_2
  have o_v_9 := Lib.hid (o_v_8.out.below bel9)
  have o_x0_9 := Lib.hid (o_x0_8.out.below bel9)
  have o_g_9 := Lib.hid (o_g_8.out.below bel9)
  have o_t_9 := Lib.hid (o_t_8.out.below bel9)
  clear bel9 B8 o_v_8 o_x0_8 o_g_8 o_t_8 c_v_8_0 c_v_8_1 c_v_8_2 c_g_8_0 c_g_8_1 c_g_8_2
  generalize w8.heap.size = m8 at *
  clear o_t_9
  go_wp2_with (fail)
  refine (markI_x _ _ _ x0 (1) w9 _ _ o_x0_9.out hn0 (by omega) (by omega)).mono ?_
  rintro e w10 ⟨rfl, own10, kp10⟩
  have o_x0_10 := Lib.hid own10
  clear own10
  have s10 := kp10.size
  have B10 := kp10.to_below B9 (by omega) B9.size
  have c_v_10_0 := (kept_cell kp10 (p := ⟨m2, 0, none⟩) (by show m2 < _; omega) (by show m2 < _ ∨ _ ≤ m2; omega)).trans c_v_9_0
  have c_v_10_1 := (kept_cell kp10 (p := ⟨m2, 1, none⟩) (by show m2 < _; omega) (by show m2 < _ ∨ _ ≤ m2; omega)).trans c_v_9_1
  have c_v_10_2 := (kept_cell kp10 (p := ⟨m2, 2, none⟩) (by show m2 < _; omega) (by show m2 < _ ∨ _ ≤ m2; omega)).trans c_v_9_2
  have c_g_10_0 := (kept_cell kp10 (p := ⟨m5, 0, none⟩) (by show m5 < _; omega) (by show m5 < _ ∨ _ ≤ m5; omega)).trans c_g_9_0
  have c_g_10_1 := (kept_cell kp10 (p := ⟨m5, 1, none⟩) (by show m5 < _; omega) (by show m5 < _ ∨ _ ≤ m5; omega)).trans c_g_9_1
  have c_g_10_2 := (kept_cell kp10 (p := ⟨m5, 2, none⟩) (by show m5 < _; omega) (by show m5 < _ ∨ _ ≤ m5; omega)).trans c_g_9_2
  have o_v_10 := Lib.hid (o_v_9.out.kept kp10 (by omega))
  have o_g_10 := Lib.hid (o_g_9.out.kept kp10 (by omega))
  clear kp10 B9 o_v_9 o_x0_9 o_g_9 c_v_9_0 c_v_9_1 c_v_9_2 c_g_9_0 c_g_9_1 c_g_9_2
  generalize w9.heap.size = m9 at *
  have hkk : decide (1 + (n0 : Int) < 0) = false := decide_eq_false (by omega)
  clear o_x0_10
  go_wp2_with (fail)
  refine (eqN_any h_g h_v V w10 (o_g_10.out.rd) (o_v_10.out.rd) SMV.out.q SMV.out.w SMV.out.l SMV.out.c).mono ?_
  rintro e w11 ⟨rfl, bel11⟩
  have s11 := bel11.size
  have B11 := B10.trans (bel11.mono B10.size)
  have c_v_11_0 := (bel11.cell (p := ⟨m2, 0, none⟩) (by show m2 < _; omega)).trans c_v_10_0
  have c_v_11_1 := (bel11.cell (p := ⟨m2, 1, none⟩) (by show m2 < _; omega)).trans c_v_10_1
  have c_v_11_2 := (bel11.cell (p := ⟨m2, 2, none⟩) (by show m2 < _; omega)).trans c_v_10_2
  have c_g_11_0 := (bel11.cell (p := ⟨m5, 0, none⟩) (by show m5 < _; omega)).trans c_g_10_0
  have c_g_11_1 := (bel11.cell (p := ⟨m5, 1, none⟩) (by show m5 < _; omega)).trans c_g_10_1
  have c_g_11_2 := (bel11.cell (p := ⟨m5, 2, none⟩) (by show m5 < _; omega)).trans c_g_10_2
  have o_v_11 := Lib.hid (o_v_10.out.below bel11)
  have o_g_11 := Lib.hid (o_g_10.out.below bel11)
  clear bel11 B10 o_v_10 o_g_10 c_v_10_0 c_v_10_1 c_v_10_2 c_g_10_0 c_g_10_1 c_g_10_2
  generalize w10.heap.size = m10 at *
  have hmm : decide (1 + ((ntot V : Nat) : Int) < 0) = false := decide_eq_false (by omega)
  go_wp2_with (fail)
  refine (markN_any h_g V (1) w11 _ _ o_g_11.out SMV.out.w SMV.out.t SMV.out.l SMV.out.c (by omega) (by omega)).mono ?_
  rintro e w12 ⟨rfl, own12, kp12⟩
  have o_g_12 := Lib.hid own12
  clear own12
  have s12 := kp12.size
  have B12 := kp12.to_below B11 (by omega) B11.size
  have c_v_12_0 := (kept_cell kp12 (p := ⟨m2, 0, none⟩) (by show m2 < _; omega) (by show m2 < _ ∨ _ ≤ m2; omega)).trans c_v_11_0
  have c_v_12_1 := (kept_cell kp12 (p := ⟨m2, 1, none⟩) (by show m2 < _; omega) (by show m2 < _ ∨ _ ≤ m2; omega)).trans c_v_11_1
  have c_v_12_2 := (kept_cell kp12 (p := ⟨m2, 2, none⟩) (by show m2 < _; omega) (by show m2 < _ ∨ _ ≤ m2; omega)).trans c_v_11_2
  have c_g_12_0 := (kept_cell kp12 (p := ⟨m5, 0, none⟩) (by show m5 < _; omega) (by show m5 < _ ∨ _ ≤ m5; omega)).trans c_g_11_0
  have c_g_12_1 := (kept_cell kp12 (p := ⟨m5, 1, none⟩) (by show m5 < _; omega) (by show m5 < _ ∨ _ ≤ m5; omega)).trans c_g_11_1
  have c_g_12_2 := (kept_cell kp12 (p := ⟨m5, 2, none⟩) (by show m5 < _; omega) (by show m5 < _ ∨ _ ≤ m5; omega)).trans c_g_11_2
  have o_v_12 := Lib.hid (o_v_11.out.kept kp12 (by omega))
  clear kp12 B11 o_v_11 o_g_11 c_v_11_0 c_v_11_1 c_v_11_2 c_g_11_0 c_g_11_1 c_g_11_2
  generalize w11.heap.size = m11 at *
  go_wp2_with (fail)
  refine (heldN_any h_g V 1 w12 (rd_mrk o_g_12.out.rd) SMV.out.w SMV.out.t SMV.out.l SMV.out.c (by decide) (by decide)).mono ?_
  rintro e w13 ⟨rfl, bel13⟩
  have s13 := bel13.size
  have B13 := B12.trans (bel13.mono B12.size)
  have c_v_13_0 := (bel13.cell (p := ⟨m2, 0, none⟩) (by show m2 < _; omega)).trans c_v_12_0
  have c_v_13_1 := (bel13.cell (p := ⟨m2, 1, none⟩) (by show m2 < _; omega)).trans c_v_12_1
  have c_v_13_2 := (bel13.cell (p := ⟨m2, 2, none⟩) (by show m2 < _; omega)).trans c_v_12_2
  have c_g_13_0 := (bel13.cell (p := ⟨m5, 0, none⟩) (by show m5 < _; omega)).trans c_g_12_0
  have c_g_13_1 := (bel13.cell (p := ⟨m5, 1, none⟩) (by show m5 < _; omega)).trans c_g_12_1
  have c_g_13_2 := (bel13.cell (p := ⟨m5, 2, none⟩) (by show m5 < _; omega)).trans c_g_12_2
  have o_v_13 := Lib.hid (o_v_12.out.below bel13)
  have o_g_13 := Lib.hid (o_g_12.out.below bel13)
  clear bel13 B12 o_v_12 o_g_12 c_v_12_0 c_v_12_1 c_v_12_2 c_g_12_0 c_g_12_1 c_g_12_2
  generalize w12.heap.size = m12 at *
  go_wp2_with (fail)
  refine (toI_x A0 n0 c0 x0 w13 ((H0.out.below B13).more B13.size) hn0).mono ?_
  rintro e w14 ⟨g_b0, rfl, own14, bel14⟩
  have o_b0_14 := Lib.hid own14
  clear own14
  have s14 := bel14.size
  have B14 := B13.trans (bel14.mono B13.size)
  have c_v_14_0 := (bel14.cell (p := ⟨m2, 0, none⟩) (by show m2 < _; omega)).trans c_v_13_0
  have c_v_14_1 := (bel14.cell (p := ⟨m2, 1, none⟩) (by show m2 < _; omega)).trans c_v_13_1
  have c_v_14_2 := (bel14.cell (p := ⟨m2, 2, none⟩) (by show m2 < _; omega)).trans c_v_13_2
  have c_g_14_0 := (bel14.cell (p := ⟨m5, 0, none⟩) (by show m5 < _; omega)).trans c_g_13_0
  have c_g_14_1 := (bel14.cell (p := ⟨m5, 1, none⟩) (by show m5 < _; omega)).trans c_g_13_1
  have c_g_14_2 := (bel14.cell (p := ⟨m5, 2, none⟩) (by show m5 < _; omega)).trans c_g_13_2
  have o_v_14 := Lib.hid (o_v_13.out.below bel14)
  have o_g_14 := Lib.hid (o_g_13.out.below bel14)
  clear bel14 B13 o_v_13 o_g_13 c_v_13_0 c_v_13_1 c_v_13_2 c_g_13_0 c_g_13_1 c_g_13_2
  generalize w13.heap.size = m13 at *
  go_wp2_with (fail)
  refine (axiomNet_impl (some ⟨g_b0, 0, none⟩) n0 n0 x0 w14 (o_b0_14.out.rd) hn0 (Nat.le_refl _) (HT.out.below B14 HT.out.lt) (HU.out.below B14 HU.out.lt)).mono ?_
  rw [HV.out, HVb.out]
  rintro e w15 ⟨h_hh, rfl, own15, bel15⟩
  have o_hh_15 := Lib.hid own15
  clear own15
  have s15 := bel15.size
  have B15 := B14.trans (bel15.mono B14.size)
  have c_v_15_0 := (bel15.cell (p := ⟨m2, 0, none⟩) (by show m2 < _; omega)).trans c_v_14_0
  have c_v_15_1 := (bel15.cell (p := ⟨m2, 1, none⟩) (by show m2 < _; omega)).trans c_v_14_1
  have c_v_15_2 := (bel15.cell (p := ⟨m2, 2, none⟩) (by show m2 < _; omega)).trans c_v_14_2
  have c_g_15_0 := (bel15.cell (p := ⟨m5, 0, none⟩) (by show m5 < _; omega)).trans c_g_14_0
  have c_g_15_1 := (bel15.cell (p := ⟨m5, 1, none⟩) (by show m5 < _; omega)).trans c_g_14_1
  have c_g_15_2 := (bel15.cell (p := ⟨m5, 2, none⟩) (by show m5 < _; omega)).trans c_g_14_2
  have o_v_15 := Lib.hid (o_v_14.out.below bel15)
  have o_g_15 := Lib.hid (o_g_14.out.below bel15)
  have o_b0_15 := Lib.hid (o_b0_14.out.below bel15)
  clear bel15 B14 o_v_14 o_g_14 o_b0_14 c_v_14_0 c_v_14_1 c_v_14_2 c_g_14_0 c_g_14_1 c_g_14_2
  generalize w14.heap.size = m14 at *
  clear o_b0_15
  have bel16 : Below w15.heap.size w15 (w15.alloc (.cells #[Value.slice h_hh.A V.w.length h_hh.c, Value.slice h_hh.L V.l.length h_hh.d, Value.slice h_hh.C V.c.length h_hh.e] 28)) := (Below.refl _ _).alloc (Nat.le_refl _) _
  obtain ⟨c_h_16_0, c_h_16_1, c_h_16_2⟩ := three_cells (show (w15.alloc (.cells #[Value.slice h_hh.A V.w.length h_hh.c, Value.slice h_hh.L V.l.length h_hh.d, Value.slice h_hh.C V.c.length h_hh.e] 28)).heap[w15.heap.size]? = some (.cells #[Value.slice h_hh.A V.w.length h_hh.c, Value.slice h_hh.L V.l.length h_hh.d, Value.slice h_hh.C V.c.length h_hh.e] 28 (0, 0)) from heap_alloc_new _ _)
  have t16 : w15.heap.size + 1 ≤ (w15.alloc (.cells #[Value.slice h_hh.A V.w.length h_hh.c, Value.slice h_hh.L V.l.length h_hh.d, Value.slice h_hh.C V.c.length h_hh.e] 28)).heap.size := by simp
  have c_v_16_0 := (bel16.cell (p := ⟨m2, 0, none⟩) (by show m2 < _; omega)).trans c_v_15_0
  have c_v_16_1 := (bel16.cell (p := ⟨m2, 1, none⟩) (by show m2 < _; omega)).trans c_v_15_1
  have c_v_16_2 := (bel16.cell (p := ⟨m2, 2, none⟩) (by show m2 < _; omega)).trans c_v_15_2
  have c_g_16_0 := (bel16.cell (p := ⟨m5, 0, none⟩) (by show m5 < _; omega)).trans c_g_15_0
  have c_g_16_1 := (bel16.cell (p := ⟨m5, 1, none⟩) (by show m5 < _; omega)).trans c_g_15_1
  have c_g_16_2 := (bel16.cell (p := ⟨m5, 2, none⟩) (by show m5 < _; omega)).trans c_g_15_2
  clear c_v_15_0 c_v_15_1 c_v_15_2 c_g_15_0 c_g_15_1 c_g_15_2
  go_wp2_with (fail)
  generalize w15.alloc (.cells #[Value.slice h_hh.A V.w.length h_hh.c, Value.slice h_hh.L V.l.length h_hh.d, Value.slice h_hh.C V.c.length h_hh.e] 28) = w16 at *
  have s16 := bel16.size
  have B16 := B15.trans (bel16.mono B15.size)
  have o_v_16 := Lib.hid (o_v_15.out.below bel16)
  have o_g_16 := Lib.hid (o_g_15.out.below bel16)
  have o_hh_16 := Lib.hid (o_hh_15.out.below bel16)
  clear bel16 B15 o_v_15 o_g_15 o_hh_15
  generalize w15.heap.size = m15 at *
  refine (eqN_any h_hh h_v V w16 (o_hh_16.out.rd) (o_v_16.out.rd) SMV.out.q SMV.out.w SMV.out.l SMV.out.c).mono ?_
  rintro e w17 ⟨rfl, bel17⟩
  have s17 := bel17.size
  have B17 := B16.trans (bel17.mono B16.size)
  have c_v_17_0 := (bel17.cell (p := ⟨m2, 0, none⟩) (by show m2 < _; omega)).trans c_v_16_0
  have c_v_17_1 := (bel17.cell (p := ⟨m2, 1, none⟩) (by show m2 < _; omega)).trans c_v_16_1
  have c_v_17_2 := (bel17.cell (p := ⟨m2, 2, none⟩) (by show m2 < _; omega)).trans c_v_16_2
  have c_g_17_0 := (bel17.cell (p := ⟨m5, 0, none⟩) (by show m5 < _; omega)).trans c_g_16_0
  have c_g_17_1 := (bel17.cell (p := ⟨m5, 1, none⟩) (by show m5 < _; omega)).trans c_g_16_1
  have c_g_17_2 := (bel17.cell (p := ⟨m5, 2, none⟩) (by show m5 < _; omega)).trans c_g_16_2
  have c_h_17_0 := (bel17.cell (p := ⟨m15, 0, none⟩) (by show m15 < _; omega)).trans c_h_16_0
  have c_h_17_1 := (bel17.cell (p := ⟨m15, 1, none⟩) (by show m15 < _; omega)).trans c_h_16_1
  have c_h_17_2 := (bel17.cell (p := ⟨m15, 2, none⟩) (by show m15 < _; omega)).trans c_h_16_2
  have o_v_17 := Lib.hid (o_v_16.out.below bel17)
  have o_g_17 := Lib.hid (o_g_16.out.below bel17)
  have o_hh_17 := Lib.hid (o_hh_16.out.below bel17)
  clear bel17 B16 o_v_16 o_g_16 o_hh_16 c_v_16_0 c_v_16_1 c_v_16_2 c_g_16_0 c_g_16_1 c_g_16_2 c_h_16_0 c_h_16_1 c_h_16_2
  generalize w16.heap.size = m16 at *
  go_wp2_with (fail)
  refine (heldN_any h_g V 1 w17 (rd_mrk o_g_17.out.rd) SMV.out.w SMV.out.t SMV.out.l SMV.out.c (by decide) (by decide)).mono ?_
  rintro e w18 ⟨rfl, bel18⟩
  have s18 := bel18.size
  have B18 := B17.trans (bel18.mono B17.size)
  have c_v_18_0 := (bel18.cell (p := ⟨m2, 0, none⟩) (by show m2 < _; omega)).trans c_v_17_0
  have c_v_18_1 := (bel18.cell (p := ⟨m2, 1, none⟩) (by show m2 < _; omega)).trans c_v_17_1
  have c_v_18_2 := (bel18.cell (p := ⟨m2, 2, none⟩) (by show m2 < _; omega)).trans c_v_17_2
  have c_g_18_0 := (bel18.cell (p := ⟨m5, 0, none⟩) (by show m5 < _; omega)).trans c_g_17_0
  have c_g_18_1 := (bel18.cell (p := ⟨m5, 1, none⟩) (by show m5 < _; omega)).trans c_g_17_1
  have c_g_18_2 := (bel18.cell (p := ⟨m5, 2, none⟩) (by show m5 < _; omega)).trans c_g_17_2
  have c_h_18_0 := (bel18.cell (p := ⟨m15, 0, none⟩) (by show m15 < _; omega)).trans c_h_17_0
  have c_h_18_1 := (bel18.cell (p := ⟨m15, 1, none⟩) (by show m15 < _; omega)).trans c_h_17_1
  have c_h_18_2 := (bel18.cell (p := ⟨m15, 2, none⟩) (by show m15 < _; omega)).trans c_h_17_2
  have o_v_18 := Lib.hid (o_v_17.out.below bel18)
  have o_g_18 := Lib.hid (o_g_17.out.below bel18)
  have o_hh_18 := Lib.hid (o_hh_17.out.below bel18)
  clear bel18 B17 o_v_17 o_g_17 o_hh_17 c_v_17_0 c_v_17_1 c_v_17_2 c_g_17_0 c_g_17_1 c_g_17_2 c_h_17_0 c_h_17_1 c_h_17_2
  generalize w17.heap.size = m17 at *
  have HB := Lib.hid B18
  go_wp2
  go_ret
  exact ⟨rfl, HB.out⟩

theorem walk (A0 : Option Addr) (n0 c0 : Nat) (x0 : List Int) (w : World) (r0 : RdI w w.heap.size A0 n0 x0) (_hnc0 : n0 ≤ c0) (_hf0 : ∀ z ∈ x0, (Lit.int .i64 z).wf = true) (ht : Arit w) (hu : Dual w) :
    Calls Tryd.prog 10 #[.slice A0 n0 c0] w fun e w' => e = .returned (.bool true) ∧ Below w.heap.size w w' := by
  rcases Nat.lt_or_ge 1048576 (n0) with hb' | hn0
  · have hb : ¬ n0 ≤ 1048576 := by omega
    exact walk_big0 A0 n0 c0 x0  w    hb
  ·
    exact walk_mid A0 n0 c0 x0  w r0 hn0 ht hu


set_option maxRecDepth 100000 in
/-- What the walk gives, for all arguments and every world that holds the tables. -/
theorem contract (H : Type) (enc : TypeId × Value → H) (W : World) (base : Nat) (args : Array Value) (ds gs : List (DataW H)) (before : List MemPlace)
    (hval : ∀ (j : Nat) t v, Tryd.f10.params[j]? = some t → args[j]? = some v → Value.okWide Tryd.prog W .any base t v)
    (hW : DataW.Whole enc Tryd.prog Tryd.f10.params.toList Rows.fnExactAxiomNetSpec.vars false W args.toList ds gs before) (hL : laidMetH Tryd.prog Rows.fnExactAxiomNetRow.laid W) :
    Calls Tryd.prog 10 args W fun e W' => ∃ v, e = .returned v ∧ Rows.fnExactAxiomNetSpec.post enc Tryd.prog Tryd.f10 false true false false W args v W' := by
  have hW' := hW
  obtain ⟨p, q, hA0, hV, rfl, hfz, hnd⟩ := hW
  have hA : DataW.TrodAll enc Tryd.prog W 0 (fun _ => true) true Tryd.f10.params.toList args.toList ds p := hA0
  rw [Tryd.params10] at hA hval
  obtain ⟨v0, vs0, d0, ds0, p0, q0, hargs, rfl, rfl, h0, r0⟩ := trodAll_cons hA
  obtain ⟨rfl, rfl, rfl⟩ := trodAll_nil r0
  obtain rfl : args = #[v0] := by cases args; simp_all
  obtain ⟨a0, len0, cap0, rfl⟩ := okWide_slice Tryd.underlying26 (hval 0 26 v0 rfl rfl)
  have k0 := h0
  have lt0 : ∀ x ∈ p0, x.block < W.heap.size := by obtain ⟨m, hm⟩ := k0; exact DataW.trod_lt m _ _ _ hm
  obtain ⟨z0, w0, c0, b0⟩ := open_i64s h0
  have ht : Arit W := arit_of hL
  have hu : Dual W := dual_of hL
  have hv1 := hV
  obtain ⟨g0, t0, cs0, f0, e0, p0', g1, t1, cs1, f1, e1, p1', rfl, _, _, _, _, _, _, _, _, rfl⟩ := trodVars_two hV
  clear hA0
  refine (walk a0 len0 cap0 z0 W w0 c0 b0 ht hu).mono fun e W' ⟨he, bel⟩ => ?_
  subst he
  exact ⟨_, rfl, _, _, _, [], _, _, hW', trodAll_mk1 (shut_bool Tryd.underlying4 _),
    (trodAll_cons_mk (Below.trod laidOut (by kernel_rfl) (of_decide_eq_true (by kernel_rfl)) k0 bel lt0) trodAll_mk0),
    vars_below bel (readable_all _ (by kernel_rfl)) hv1, bel.frame _, fun h => by cases h⟩

theorem laid_met (os : Os) : laidMet Tryd.prog Rows.fnExactAxiomNetRow.laid ((laidWorld os).forCall (fun _ _ => 0) ⟨#[], #[.slice none 0 0], []⟩).memory :=
  laidMet_of_run' 8 (by kernel_rfl) (by kernel_rfl)
theorem reads (os : Os) {H : Type} (enc : TypeId × Value → H) : ∃ x, DataW.whole enc Tryd.prog ((laidWorld os).forCall (fun _ _ => 0) ⟨#[], #[.slice none 0 0], []⟩).memory Tryd.f10.params.toList Rows.fnExactAxiomNetSpec.vars false (#[.slice none 0 0] : Array Value).toList 8 = some x :=
  Option.isSome_iff_exists.1 (by kernel_rfl)

set_option maxRecDepth 100000 in
theorem lifted (os : Os) (started : os.Started) (H : Type) (enc : TypeId × Value → H) (F : Stop.Interp) :
    ReturnsInHanded {} Tryd.checked os 10 .any ((OpenSpec.ofChange Rows.fnExactAxiomNetSpec).preRow enc Tryd.prog Tryd.f10 Rows.fnExactAxiomNetRow.domain false Rows.fnExactAxiomNetRow.laid) (((OpenSpec.ofChange Rows.fnExactAxiomNetSpec).at F).post enc Tryd.prog Tryd.f10 false true false false) := by
  obtain ⟨places, hx⟩ := reads os enc
  refine returnsInHanded_of_row (C := Tryd.checked) (s := OpenSpec.ofChange Rows.fnExactAxiomNetSpec) own started (by kernel_rfl) Tryd.func10
    (witness_row_at (enc := enc) (C := Tryd.checked) false (laidWorld os) #[.slice none 0 0] rfl (by kernel_rfl) (by kernel_rfl) (by kernel_rfl)
      (OpenSpec.preRow_of_cond 8 hx rfl (fun k hk => by cases hk) (by kernel_rfl) (laid_met os))) ?_
  intro W base args ds gs before hval hW _ _ _ hL _ _
  exact contract H enc W base args ds gs before hval hW hL

theorem said : Rows.FnExactAxiomNetSaid :=
  OpenClaim.holds_of_cond 10 Tryd.f10 rfl rfl rfl rfl rfl rfl rfl ⟨rfl, rfl, rfl, rfl, rfl⟩ rfl rfl rfl rfl rfl (by kernel_rfl) Tryd.func10 (by kernel_rfl)
    (of_decide_eq_true (by kernel_rfl)) (by unfold Func.isWrapper; first | (rw [if_pos (by decide +kernel)]; kernel_rfl) | (rw [if_neg (by decide +kernel)]; exact ⟨rfl, rfl⟩))
    (fun os started H enc _ F => by rw [OpenClaim.pre_eq_preRow]; exact lifted os started H enc F)

theorem plain (f : FuncId) (fn : Func) (hf : Tryd.pinned.checked.prog.funcNamed "loop.example/g00872/laws.FnExactAxiomNet" = some f) (hfn : Tryd.pinned.checked.prog.funcs[f]? = some fn) :
    Rows.fnExactAxiomNetCard.stood.looks = Tryd.pinned.checked.prog.looks [] ∧ ∀ (j : Nat) t, fn.params[j]? = some t → Tryd.pinned.checked.prog.wantsStandIn t = false := by
  obtain rfl : f = 10 := Option.some.inj ((show Tryd.prog.funcNamed "loop.example/g00872/laws.FnExactAxiomNet" = some 10 by kernel_rfl).symm.trans hf) |>.symm
  obtain rfl : fn = Tryd.f10 := (Option.some.inj (Tryd.func10.symm.trans hfn)).symm
  refine ⟨by kernel_rfl, fun j t ht => ?_⟩
  rw [Tryd.params10] at ht
  have hm : t ∈ [26] := by simpa using Array.mem_of_getElem? ht
  have hall : ([26].all fun u => !Tryd.prog.wantsStandIn u) = true := by kernel_rfl
  exact (show Tryd.prog.wantsStandIn t = false by simpa using List.all_eq_true.1 hall t hm)

/-- The statement. -/
theorem card : Rows.FnExactAxiomNetCardSaid :=
  Claim7.holds_tied_plain_at .later [] _ _ _ _ said (fun _ h => by cases h) (by kernel_rfl) (fun _ h => by cases h) fnExactAxiomNet_row_tie rfl ⟨rfl, rfl⟩ (by kernel_rfl) rfl plain (by kernel_rfl)
end Go.Proofs.YtjfhbofgnagfaaaDoor.fnExactAxiomNet
