/- Proved: for all arguments the law that SubstForm answers as its model, leaves its arguments and shares no memory answers true and leaves its arguments as they were (FnExactSubstForm). Conditions: the row's own: the listed tables read as the program's text lays them, which the card ties to that text. -/
import Derived.Test.YtoniekjchabjlaaDoorFrame
import Derived.Test.YtoniekjchabjlaaDoorBndE
namespace Go.Proofs.YtoniekjchabjlaaDoor.fnExactSubstForm
open Go.ChangeShapes Go.WideShapes Go.ChangeAt Go.RowKit

theorem walk_big0 (A0 : Option Addr) (n0 c0 : Nat) (_x0 : List Int) (A1 : Option Addr) (n1 c1 : Nat) (_x1 : List (List Int)) (w : World)    (hb : ¬ n0 ≤ 1048576) :
    Calls Tryd.prog 7 #[.slice A0 n0 c0, .slice A1 n1 c1] w fun e w' => e = .returned (.bool true) ∧ Below w.heap.size w w' := by
  have hd0 : decide (1048576 < (n0 : Int)) = true := decide_eq_true (by omega)
  have B0 : Below w.heap.size w w := Below.refl _ _
  go_enter Tryd.func7, Tryd.ntmps7
  have HB := Lib.hid B0
  clear B0
  go_wp2
  go_ret
  exact ⟨rfl, HB.out⟩

theorem walk_big1 (A0 : Option Addr) (n0 c0 : Nat) (_x0 : List Int) (A1 : Option Addr) (n1 c1 : Nat) (x1 : List (List Int)) (w : World) (h1 : RdQ w w.heap.size A1 n1 x1) (hm1 : n1 ≤ maxLen) (hqm1 : ∀ q ∈ x1, q.length ≤ maxLen) (hn0 : n0 ≤ 1048576) (hb : szR 1048576 (n1 + total x1) = -1) :
    Calls Tryd.prog 7 #[.slice A0 n0 c0, .slice A1 n1 c1] w fun e w' => e = .returned (.bool true) ∧ Below w.heap.size w w' := by
  have hd0 : decide (1048576 < (n0 : Int)) = false := decide_eq_false (by omega)
  have HS1 := Lib.hid (fun w0 (B : Below w.heap.size w w0) => szQ_x A1 n1 c1 x1 (1048576) w0 ((h1.below B).more B.size) hqm1 hm1 (by decide) (by decide))
  rw [hb] at HS1
  clear hb h1
  have B0 : Below w.heap.size w w := Below.refl _ _
  go_enter Tryd.func7, Tryd.ntmps7
  go_wp2_with (fail)
  refine (HS1.out w B0).mono ?_
  rintro e w1 ⟨rfl, bel1⟩
  have B1 := B0.trans (bel1.mono B0.size)
  clear bel1 B0
  have HB := Lib.hid B1
  clear B1
  go_wp2
  go_ret
  exact ⟨rfl, HB.out⟩

set_option maxRecDepth 100000 in
set_option maxHeartbeats 8000000 in
theorem walk_mid (A0 : Option Addr) (n0 c0 : Nat) (x0 : List Int) (A1 : Option Addr) (n1 c1 : Nat) (x1 : List (List Int)) (L1 : Int) (w : World) (h0 : RdI w w.heap.size A0 n0 x0) (h1 : RdQ w w.heap.size A1 n1 x1) (hn0 : n0 ≤ 1048576) (hs1 : szR 1048576 (n1 + total x1) = L1) (hL1 : 0 ≤ L1) (hL'1 : L1 ≤ 1048576) (hn1 : n1 ≤ 1048576) (hT1 : total x1 ≤ 1048576) (ht : Arit w) (hu : Dual w) :
    Calls Tryd.prog 7 #[.slice A0 n0 c0, .slice A1 n1 c1] w fun e w' => e = .returned (.bool true) ∧ Below w.heap.size w w' := by
  have hm0 : n0 ≤ maxLen := Nat.le_trans hn0 (by decide)
  have hl0 := h0.len
  have hq1 : ∀ q ∈ x1, q.length ≤ 1048576 := fun q hq' => Nat.le_trans (mem_total hq') hT1
  have hqm1 : ∀ q ∈ x1, q.length ≤ maxLen := fun q hq' => Nat.le_trans (hq1 q hq') (by decide)
  have hm1 : n1 ≤ maxLen := Nat.le_trans hn1 (by decide)
  have hl1 := h1.len
  have hv1 : (sfL x0 x1).length ≤ 1048576 := Nat.le_trans (sfL_len x0 x1) (by decide)
  generalize hV : sfL x0 x1 = V at hv1
  have HV := Lib.hid hV; clear hV
  generalize hVb : sfB x0 x1 = Vb
  have HVb := Lib.hid hVb; clear hVb
  have hbb : (Vb != Vb) = false := by simp
  have hd0 : decide (1048576 < (n0 : Int)) = false := decide_eq_false (by omega)
  have HS1 := Lib.hid (fun w0 (B : Below w.heap.size w w0) => szQ_x A1 n1 c1 x1 (1048576) w0 ((h1.below B).more B.size) hqm1 hm1 (by decide) (by decide))
  rw [hs1] at HS1
  have hd1 : decide (L1 < 0) = false := decide_eq_false (by omega)
  have H0 := Lib.hid h0
  have H1 := Lib.hid h1
  have HQ1 := Lib.hid hq1
  have HT := Lib.hid ht
  have HU := Lib.hid hu
  clear h0 h1 hs1 hq1 hqm1 ht hu
  have B0 : Below w.heap.size w w := Below.refl _ _
  go_enter Tryd.func7, Tryd.ntmps7
  go_wp2_with (fail)
  refine (HS1.out w B0).mono ?_
  rintro e w1 ⟨rfl, bel1⟩
  have s1 := bel1.size
  have B1 := B0.trans (bel1.mono B0.size)
  clear bel1 B0
  go_wp2_with (fail)
  refine (toI_x A0 n0 c0 x0 w1 ((H0.out.below B1).more B1.size) hn0).mono ?_
  rintro e w2 ⟨g_p0, rfl, own2, bel2⟩
  have o_p0_2 := Lib.hid own2
  clear own2
  have s2 := bel2.size
  have B2 := B1.trans (bel2.mono B1.size)
  clear bel2 B1
  generalize w1.heap.size = m1 at *
  go_wp2_with (fail)
  refine (toQ_x A1 n1 c1 x1 w2 ((H1.out.below B2).more B2.size) HQ1.out hn1).mono ?_
  rintro e w3 ⟨hs_p1, g_p1, rfl, own3, bel3⟩
  have o_p1_3 := Lib.hid own3
  clear own3
  have s3 := bel3.size
  have B3 := B2.trans (bel3.mono B2.size)
  have o_p0_3 := Lib.hid (o_p0_2.out.below bel3)
  clear bel3 B2 o_p0_2
  generalize w2.heap.size = m2 at *
  go_wp2_with (fail)
  refine (sSubstForm_any (some ⟨g_p0, 0, none⟩) n0 n0 x0 (some ⟨g_p1, 0, none⟩) n1 n1 x1 w3 (o_p0_3.out.rd) (o_p1_3.out.rd hl1) hn1).mono ?_
  rw [HV.out, HVb.out]
  rintro e w4 ⟨A_v, c_v, rfl, own4, bel4⟩
  have o_v_4 := Lib.hid (OwnI.of_own own4)
  clear own4
  have s4 := bel4.size
  have B4 := B3.trans (bel4.mono B3.size)
  have o_p0_4 := Lib.hid (o_p0_3.out.below bel4)
  have o_p1_4 := Lib.hid (o_p1_3.out.below bel4)
  clear bel4 B3 o_p0_3 o_p1_3
  generalize w3.heap.size = m3 at *
  clear o_p0_4
  clear o_p1_4
  go_wp2_with (fail)
  refine (toI_x A0 n0 c0 x0 w4 ((H0.out.below B4).more B4.size) hn0).mono ?_
  rintro e w5 ⟨g_x0, rfl, own5, bel5⟩
  have o_x0_5 := Lib.hid own5
  clear own5
  have s5 := bel5.size
  have B5 := B4.trans (bel5.mono B4.size)
  have o_v_5 := Lib.hid (o_v_4.out.below bel5)
  clear bel5 B4 o_v_4
  generalize w4.heap.size = m4 at *
  go_wp2_with (fail)
  refine (toQ_x A1 n1 c1 x1 w5 ((H1.out.below B5).more B5.size) HQ1.out hn1).mono ?_
  rintro e w6 ⟨hs_x1, g_x1, rfl, own6, bel6⟩
  have o_x1_6 := Lib.hid own6
  clear own6
  have s6 := bel6.size
  have B6 := B5.trans (bel6.mono B5.size)
  have o_v_6 := Lib.hid (o_v_5.out.below bel6)
  have o_x0_6 := Lib.hid (o_x0_5.out.below bel6)
  clear bel6 B5 o_v_5 o_x0_5
  generalize w5.heap.size = m5 at *
  go_wp2_with (fail)
  refine (substForm_impl (some ⟨g_x0, 0, none⟩) n0 n0 x0 (some ⟨g_x1, 0, none⟩) n1 n1 x1 w6 (o_x0_6.out.rd) (o_x1_6.out.rd hl1) (Nat.le_refl _) hn1 (HT.out.below B6 HT.out.lt) (HU.out.below B6 HU.out.lt)).mono ?_
  rw [HV.out, HVb.out]
  rintro e w7 ⟨A_g, c_g, rfl, own7, bel7⟩
  have o_g_7 := Lib.hid (OwnI.of_own own7)
  clear own7
  have s7 := bel7.size
  have B7 := B6.trans (bel7.mono B6.size)
  have o_v_7 := Lib.hid (o_v_6.out.below bel7)
  have o_x0_7 := Lib.hid (o_x0_6.out.below bel7)
  have o_x1_7 := Lib.hid (o_x1_6.out.below bel7)
  clear bel7 B6 o_v_6 o_x0_6 o_x1_6
  generalize w6.heap.size = m6 at *
  go_wp2_with (fail)
  refine (eqI_x _ _ _ _ _ V w7 (o_g_7.out.rd) (o_v_7.out.rd) hv1).mono ?_
  rintro e w8 ⟨rfl, bel8⟩
  have s8 := bel8.size
  have B8 := B7.trans (bel8.mono B7.size)
  have o_v_8 := Lib.hid (o_v_7.out.below bel8)
  have o_x0_8 := Lib.hid (o_x0_7.out.below bel8)
  have o_x1_8 := Lib.hid (o_x1_7.out.below bel8)
  have o_g_8 := Lib.hid (o_g_7.out.below bel8)
  clear bel8 B7 o_v_7 o_x0_7 o_x1_7 o_g_7
  generalize w7.heap.size = m7 at *
  go_wp2_with (fail)
  refine (toI_x A0 n0 c0 x0 w8 ((H0.out.below B8).more B8.size) hn0).mono ?_
  rintro e w9 ⟨g_t, rfl, own9, bel9⟩
  have o_t_9 := Lib.hid own9
  clear own9
  have s9 := bel9.size
  have B9 := B8.trans (bel9.mono B8.size)
  have o_v_9 := Lib.hid (o_v_8.out.below bel9)
  have o_x0_9 := Lib.hid (o_x0_8.out.below bel9)
  have o_x1_9 := Lib.hid (o_x1_8.out.below bel9)
  have o_g_9 := Lib.hid (o_g_8.out.below bel9)
  clear bel9 B8 o_v_8 o_x0_8 o_x1_8 o_g_8
  generalize w8.heap.size = m8 at *
  go_wp2_with (fail)
  refine (eqI_x _ _ _ _ _ x0 w9 (o_x0_9.out.rd) (o_t_9.out.rd) hn0).mono ?_
  rintro e w10 ⟨rfl, bel10⟩
  have s10 := bel10.size
  have B10 := B9.trans (bel10.mono B9.size)
  have o_v_10 := Lib.hid (o_v_9.out.below bel10)
  have o_x0_10 := Lib.hid (o_x0_9.out.below bel10)
  have o_x1_10 := Lib.hid (o_x1_9.out.below bel10)
  have o_g_10 := Lib.hid (o_g_9.out.below bel10)
  have o_t_10 := Lib.hid (o_t_9.out.below bel10)
  clear bel10 B9 o_v_9 o_x0_9 o_x1_9 o_g_9 o_t_9
  generalize w9.heap.size = m9 at *
  clear o_t_10
  go_wp2_with (fail)
  refine (toQ_x A1 n1 c1 x1 w10 ((H1.out.below B10).more B10.size) HQ1.out hn1).mono ?_
  rintro e w11 ⟨hs_t, g_t, rfl, own11, bel11⟩
  have o_t_11 := Lib.hid own11
  clear own11
  have s11 := bel11.size
  have B11 := B10.trans (bel11.mono B10.size)
  have o_v_11 := Lib.hid (o_v_10.out.below bel11)
  have o_x0_11 := Lib.hid (o_x0_10.out.below bel11)
  have o_x1_11 := Lib.hid (o_x1_10.out.below bel11)
  have o_g_11 := Lib.hid (o_g_10.out.below bel11)
  clear bel11 B10 o_v_10 o_x0_10 o_x1_10 o_g_10
  generalize w10.heap.size = m10 at *
  go_wp2_with (fail)
  refine (eqQ_x _ _ _ _ _ x1 w11 (o_x1_11.out.rd hl1) (o_t_11.out.rd hl1) hn1 HQ1.out).mono ?_
  rintro e w12 ⟨rfl, bel12⟩
  have s12 := bel12.size
  have B12 := B11.trans (bel12.mono B11.size)
  have o_v_12 := Lib.hid (o_v_11.out.below bel12)
  have o_x0_12 := Lib.hid (o_x0_11.out.below bel12)
  have o_x1_12 := Lib.hid (o_x1_11.out.below bel12)
  have o_g_12 := Lib.hid (o_g_11.out.below bel12)
  have o_t_12 := Lib.hid (o_t_11.out.below bel12)
  clear bel12 B11 o_v_11 o_x0_11 o_x1_11 o_g_11 o_t_11
  generalize w11.heap.size = m11 at *
  clear o_t_12
  go_wp2_with (fail)
  refine (markI_x _ _ _ x0 (1) w12 _ _ o_x0_12.out hn0 (by omega) (by omega)).mono ?_
  rintro e w13 ⟨rfl, own13, kp13⟩
  have o_x0_13 := Lib.hid own13
  clear own13
  have s13 := kp13.size
  have B13 := kp13.to_below B12 (by omega) B12.size
  have o_v_13 := Lib.hid (o_v_12.out.kept kp13 (by omega))
  have o_x1_13 := Lib.hid (o_x1_12.out.kept kp13 (by omega))
  have o_g_13 := Lib.hid (o_g_12.out.kept kp13 (by omega))
  clear kp13 B12 o_v_12 o_x0_12 o_x1_12 o_g_12
  generalize w12.heap.size = m12 at *
  go_wp2_with (fail)
  refine (markQ_x _ _ _ _ x1 (1 + (n0 : Int)) w13 _ _ o_x1_13.out hl1 hn1 hT1 (by omega) (by omega)).mono ?_
  rintro e w14 ⟨rfl, own14, kp14⟩
  have o_x1_14 := Lib.hid own14
  clear own14
  have s14 := kp14.size
  have B14 := kp14.to_below B13 (by omega) B13.size
  have o_v_14 := Lib.hid (o_v_13.out.kept kp14 (by omega))
  have o_x0_14 := Lib.hid (o_x0_13.out.kept kp14 (by omega))
  have o_g_14 := Lib.hid (o_g_13.out.kept kp14 (by omega))
  clear kp14 B13 o_v_13 o_x0_13 o_x1_13 o_g_13
  generalize w13.heap.size = m13 at *
  have hkk : decide (1 + (n0 : Int) + (total x1 : Int) < 0) = false := decide_eq_false (by omega)
  clear o_x0_14
  clear o_x1_14
  go_wp2_with (fail)
  refine (eqI_x _ _ _ _ _ V w14 (o_g_14.out.rd) (o_v_14.out.rd) hv1).mono ?_
  rintro e w15 ⟨rfl, bel15⟩
  have s15 := bel15.size
  have B15 := B14.trans (bel15.mono B14.size)
  have o_v_15 := Lib.hid (o_v_14.out.below bel15)
  have o_g_15 := Lib.hid (o_g_14.out.below bel15)
  clear bel15 B14 o_v_14 o_g_14
  generalize w14.heap.size = m14 at *
  have hmm : decide (1 + (V.length : Int) < 0) = false := decide_eq_false (by omega)
  go_wp2_with (fail)
  refine (markI_x _ _ _ V (1) w15 _ _ o_g_15.out hv1 (by omega) (by omega)).mono ?_
  rintro e w16 ⟨rfl, own16, kp16⟩
  have o_g_16 := Lib.hid own16
  clear own16
  have s16 := kp16.size
  have B16 := kp16.to_below B15 (by omega) B15.size
  have o_v_16 := Lib.hid (o_v_15.out.kept kp16 (by omega))
  clear kp16 B15 o_v_15 o_g_15
  generalize w15.heap.size = m15 at *
  go_wp2_with (fail)
  refine (heldI_x _ _ _ 1 w16 (o_g_16.out.rd) hv1 (by decide) (by decide)).mono ?_
  rintro e w17 ⟨rfl, bel17⟩
  have s17 := bel17.size
  have B17 := B16.trans (bel17.mono B16.size)
  have o_v_17 := Lib.hid (o_v_16.out.below bel17)
  have o_g_17 := Lib.hid (o_g_16.out.below bel17)
  clear bel17 B16 o_v_16 o_g_16
  generalize w16.heap.size = m16 at *
  go_wp2_with (fail)
  refine (toI_x A0 n0 c0 x0 w17 ((H0.out.below B17).more B17.size) hn0).mono ?_
  rintro e w18 ⟨g_b0, rfl, own18, bel18⟩
  have o_b0_18 := Lib.hid own18
  clear own18
  have s18 := bel18.size
  have B18 := B17.trans (bel18.mono B17.size)
  have o_v_18 := Lib.hid (o_v_17.out.below bel18)
  have o_g_18 := Lib.hid (o_g_17.out.below bel18)
  clear bel18 B17 o_v_17 o_g_17
  generalize w17.heap.size = m17 at *
  go_wp2_with (fail)
  refine (toQ_x A1 n1 c1 x1 w18 ((H1.out.below B18).more B18.size) HQ1.out hn1).mono ?_
  rintro e w19 ⟨hs_b1, g_b1, rfl, own19, bel19⟩
  have o_b1_19 := Lib.hid own19
  clear own19
  have s19 := bel19.size
  have B19 := B18.trans (bel19.mono B18.size)
  have o_v_19 := Lib.hid (o_v_18.out.below bel19)
  have o_g_19 := Lib.hid (o_g_18.out.below bel19)
  have o_b0_19 := Lib.hid (o_b0_18.out.below bel19)
  clear bel19 B18 o_v_18 o_g_18 o_b0_18
  generalize w18.heap.size = m18 at *
  go_wp2_with (fail)
  refine (substForm_impl (some ⟨g_b0, 0, none⟩) n0 n0 x0 (some ⟨g_b1, 0, none⟩) n1 n1 x1 w19 (o_b0_19.out.rd) (o_b1_19.out.rd hl1) (Nat.le_refl _) hn1 (HT.out.below B19 HT.out.lt) (HU.out.below B19 HU.out.lt)).mono ?_
  rw [HV.out, HVb.out]
  rintro e w20 ⟨A_hh, c_hh, rfl, own20, bel20⟩
  have o_hh_20 := Lib.hid (OwnI.of_own own20)
  clear own20
  have s20 := bel20.size
  have B20 := B19.trans (bel20.mono B19.size)
  have o_v_20 := Lib.hid (o_v_19.out.below bel20)
  have o_g_20 := Lib.hid (o_g_19.out.below bel20)
  have o_b0_20 := Lib.hid (o_b0_19.out.below bel20)
  have o_b1_20 := Lib.hid (o_b1_19.out.below bel20)
  clear bel20 B19 o_v_19 o_g_19 o_b0_19 o_b1_19
  generalize w19.heap.size = m19 at *
  clear o_b0_20
  clear o_b1_20
  go_wp2_with (fail)
  refine (eqI_x _ _ _ _ _ V w20 (o_hh_20.out.rd) (o_v_20.out.rd) hv1).mono ?_
  rintro e w21 ⟨rfl, bel21⟩
  have s21 := bel21.size
  have B21 := B20.trans (bel21.mono B20.size)
  have o_v_21 := Lib.hid (o_v_20.out.below bel21)
  have o_g_21 := Lib.hid (o_g_20.out.below bel21)
  have o_hh_21 := Lib.hid (o_hh_20.out.below bel21)
  clear bel21 B20 o_v_20 o_g_20 o_hh_20
  generalize w20.heap.size = m20 at *
  go_wp2_with (fail)
  refine (heldI_x _ _ _ 1 w21 (o_g_21.out.rd) hv1 (by decide) (by decide)).mono ?_
  rintro e w22 ⟨rfl, bel22⟩
  have s22 := bel22.size
  have B22 := B21.trans (bel22.mono B21.size)
  have o_v_22 := Lib.hid (o_v_21.out.below bel22)
  have o_g_22 := Lib.hid (o_g_21.out.below bel22)
  have o_hh_22 := Lib.hid (o_hh_21.out.below bel22)
  clear bel22 B21 o_v_21 o_g_21 o_hh_21
  generalize w21.heap.size = m21 at *
  have HB := Lib.hid B22
  go_wp2
  go_ret
  exact ⟨rfl, HB.out⟩

theorem walk (A0 : Option Addr) (n0 c0 : Nat) (x0 : List Int) (A1 : Option Addr) (n1 c1 : Nat) (x1 : List (List Int)) (w : World) (h0 : RdI w w.heap.size A0 n0 x0) (_hnc0 : n0 ≤ c0) (_hf0 : ∀ z ∈ x0, (Lit.int .i64 z).wf = true) (h1 : RdQ w w.heap.size A1 n1 x1) (_hc1 : n1 ≤ c1) (hm1 : n1 ≤ maxLen) (hqm1 : ∀ q ∈ x1, q.length ≤ maxLen) (_hw1 : ∀ q ∈ x1, ∀ z ∈ q, (Lit.int .i64 z).wf = true) (ht : Arit w) (hu : Dual w) :
    Calls Tryd.prog 7 #[.slice A0 n0 c0, .slice A1 n1 c1] w fun e w' => e = .returned (.bool true) ∧ Below w.heap.size w w' := by
  rcases Nat.lt_or_ge 1048576 (n0) with hb' | hn0
  · have hb : ¬ n0 ≤ 1048576 := by omega
    exact walk_big0 A0 n0 c0 x0 A1 n1 c1 x1  w    hb
  ·
    rcases sz_casesL 1048576 (by decide) n1 x1 with hb | ⟨L1, hs1, hL1, hL'1, hn1, hT1⟩
    · exact walk_big1 A0 n0 c0 x0 A1 n1 c1 x1  w h1 hm1 hqm1 hn0 hb
    ·
      exact walk_mid A0 n0 c0 x0 A1 n1 c1 x1 L1 w h0 h1 hn0 hs1 hL1 hL'1 hn1 hT1 ht hu


set_option maxRecDepth 100000 in
/-- What the walk gives, for all arguments and every world that holds the tables. -/
theorem contract (H : Type) (enc : TypeId × Value → H) (W : World) (base : Nat) (args : Array Value) (ds gs : List (DataW H)) (before : List MemPlace)
    (hval : ∀ (j : Nat) t v, Tryd.f7.params[j]? = some t → args[j]? = some v → Value.okWide Tryd.prog W .any base t v)
    (hW : DataW.Whole enc Tryd.prog Tryd.f7.params.toList Rows.fnExactSubstFormSpec.vars false W args.toList ds gs before) (hL : laidMetH Tryd.prog Rows.fnExactSubstFormRow.laid W) :
    Calls Tryd.prog 7 args W fun e W' => ∃ v, e = .returned v ∧ Rows.fnExactSubstFormSpec.post enc Tryd.prog Tryd.f7 false true false false W args v W' := by
  have hW' := hW
  obtain ⟨p, q, hA0, hV, rfl, hfz, hnd⟩ := hW
  have hA : DataW.TrodAll enc Tryd.prog W 0 (fun _ => true) true Tryd.f7.params.toList args.toList ds p := hA0
  rw [Tryd.params7] at hA hval
  obtain ⟨v0, vs0, d0, ds0, p0, q0, hargs, rfl, rfl, h0, r0⟩ := trodAll_cons hA
  obtain ⟨v1, vs1, d1, ds1, p1, q1, rfl, rfl, rfl, h1, r1⟩ := trodAll_cons r0
  obtain ⟨rfl, rfl, rfl⟩ := trodAll_nil r1
  obtain rfl : args = #[v0, v1] := by cases args; simp_all
  obtain ⟨a0, len0, cap0, rfl⟩ := okWide_slice Tryd.underlying24 (hval 0 24 v0 rfl rfl)
  have k0 := h0
  have lt0 : ∀ x ∈ p0, x.block < W.heap.size := by obtain ⟨m, hm⟩ := k0; exact DataW.trod_lt m _ _ _ hm
  obtain ⟨z0, w0, c0, b0⟩ := open_i64s h0
  have k1 := h1
  have lt1 : ∀ x ∈ p1, x.block < W.heap.size := by obtain ⟨m, hm⟩ := k1; exact DataW.trod_lt m _ _ _ hm
  obtain ⟨a1, len1, cap1, z1, rfl, w1, c1, m1, l1, b1⟩ := open_q (hval 1 25 v1 rfl rfl) h1
  have ht : Arit W := arit_of hL
  have hu : Dual W := dual_of hL
  have hv1 := hV
  obtain ⟨g0, t0, cs0, f0, e0, p0', g1, t1, cs1, f1, e1, p1', rfl, _, _, _, _, _, _, _, _, rfl⟩ := trodVars_two hV
  clear hA0
  refine (walk a0 len0 cap0 z0 a1 len1 cap1 z1 W w0 c0 b0 w1 c1 m1 l1 b1 ht hu).mono fun e W' ⟨he, bel⟩ => ?_
  subst he
  exact ⟨_, rfl, _, _, _, [], _, _, hW', trodAll_mk1 (shut_bool Tryd.underlying4 _),
    (trodAll_cons_mk (Below.trod laidOut (by kernel_rfl) (of_decide_eq_true (by kernel_rfl)) k0 bel lt0) (trodAll_cons_mk (Below.trod laidOut (by kernel_rfl) (of_decide_eq_true (by kernel_rfl)) k1 bel lt1) trodAll_mk0)),
    vars_below bel (readable_all _ (by kernel_rfl)) hv1, bel.frame _, fun h => by cases h⟩

theorem laid_met (os : Os) : laidMet Tryd.prog Rows.fnExactSubstFormRow.laid ((laidWorld os).forCall (fun _ _ => 0) ⟨#[], #[.slice none 0 0, .slice none 0 0], []⟩).memory :=
  laidMet_of_run' 8 (by kernel_rfl) (by kernel_rfl)
theorem reads (os : Os) {H : Type} (enc : TypeId × Value → H) : ∃ x, DataW.whole enc Tryd.prog ((laidWorld os).forCall (fun _ _ => 0) ⟨#[], #[.slice none 0 0, .slice none 0 0], []⟩).memory Tryd.f7.params.toList Rows.fnExactSubstFormSpec.vars false (#[.slice none 0 0, .slice none 0 0] : Array Value).toList 8 = some x :=
  Option.isSome_iff_exists.1 (by kernel_rfl)

set_option maxRecDepth 100000 in
theorem lifted (os : Os) (started : os.Started) (H : Type) (enc : TypeId × Value → H) (F : Stop.Interp) :
    ReturnsInHanded {} Tryd.checked os 7 .any ((OpenSpec.ofChange Rows.fnExactSubstFormSpec).preRow enc Tryd.prog Tryd.f7 Rows.fnExactSubstFormRow.domain false Rows.fnExactSubstFormRow.laid) (((OpenSpec.ofChange Rows.fnExactSubstFormSpec).at F).post enc Tryd.prog Tryd.f7 false true false false) := by
  obtain ⟨places, hx⟩ := reads os enc
  refine returnsInHanded_of_row (C := Tryd.checked) (s := OpenSpec.ofChange Rows.fnExactSubstFormSpec) own started (by kernel_rfl) Tryd.func7
    (witness_row_at (enc := enc) (C := Tryd.checked) false (laidWorld os) #[.slice none 0 0, .slice none 0 0] rfl (by kernel_rfl) (by kernel_rfl) (by kernel_rfl)
      (OpenSpec.preRow_of_cond 8 hx rfl (fun k hk => by cases hk) (by kernel_rfl) (laid_met os))) ?_
  intro W base args ds gs before hval hW _ _ _ hL _ _
  exact contract H enc W base args ds gs before hval hW hL

theorem said : Rows.FnExactSubstFormSaid :=
  OpenClaim.holds_of_cond 7 Tryd.f7 rfl rfl rfl rfl rfl rfl rfl ⟨rfl, rfl, rfl, rfl, rfl⟩ rfl rfl rfl rfl rfl (by kernel_rfl) Tryd.func7 (by kernel_rfl)
    (of_decide_eq_true (by kernel_rfl)) (by unfold Func.isWrapper; first | (rw [if_pos (by decide +kernel)]; kernel_rfl) | (rw [if_neg (by decide +kernel)]; exact ⟨rfl, rfl⟩))
    (fun os started H enc _ F => by rw [OpenClaim.pre_eq_preRow]; exact lifted os started H enc F)

theorem plain (f : FuncId) (fn : Func) (hf : Tryd.pinned.checked.prog.funcNamed "loop.example/g00872/laws.FnExactSubstForm" = some f) (hfn : Tryd.pinned.checked.prog.funcs[f]? = some fn) :
    Rows.fnExactSubstFormCard.stood.looks = Tryd.pinned.checked.prog.looks [] ∧ ∀ (j : Nat) t, fn.params[j]? = some t → Tryd.pinned.checked.prog.wantsStandIn t = false := by
  obtain rfl : f = 7 := Option.some.inj ((show Tryd.prog.funcNamed "loop.example/g00872/laws.FnExactSubstForm" = some 7 by kernel_rfl).symm.trans hf) |>.symm
  obtain rfl : fn = Tryd.f7 := (Option.some.inj (Tryd.func7.symm.trans hfn)).symm
  refine ⟨by kernel_rfl, fun j t ht => ?_⟩
  rw [Tryd.params7] at ht
  have hm : t ∈ [24, 25] := by simpa using Array.mem_of_getElem? ht
  have hall : ([24, 25].all fun u => !Tryd.prog.wantsStandIn u) = true := by kernel_rfl
  exact (show Tryd.prog.wantsStandIn t = false by simpa using List.all_eq_true.1 hall t hm)

/-- The statement. -/
theorem card : Rows.FnExactSubstFormCardSaid :=
  Claim7.holds_tied_plain_at .later [] _ _ _ _ said (fun _ h => by cases h) (by kernel_rfl) (fun _ h => by cases h) fnExactSubstForm_row_tie rfl ⟨rfl, rfl⟩ (by kernel_rfl) rfl plain (by kernel_rfl)
end Go.Proofs.YtoniekjchabjlaaDoor.fnExactSubstForm
