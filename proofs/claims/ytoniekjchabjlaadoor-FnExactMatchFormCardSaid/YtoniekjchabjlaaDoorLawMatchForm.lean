/- Proved: for all arguments the law that MatchForm answers as its model, leaves its arguments and shares no memory answers true and leaves its arguments as they were (FnExactMatchForm). Conditions: the row's own: the listed tables read as the program's text lays them, which the card ties to that text. -/
import Derived.Test.YtoniekjchabjlaaDoorFrame
import Derived.Test.YtoniekjchabjlaaDoorBndN
import Derived.Test.YtoniekjchabjlaaDoorBndM
namespace Go.Proofs.YtoniekjchabjlaaDoor.fnExactMatchForm
open Go.ChangeShapes Go.WideShapes Go.ChangeAt Go.RowKit

theorem walk_big0 (A0 : Option Addr) (n0 c0 : Nat) (_x0 : List Int) (A1 : Option Addr) (n1 c1 : Nat) (_x1 : List Int) (w : World)    (hb : ¬ n0 ≤ 1048576) :
    Calls Tryd.prog 9 #[.slice A0 n0 c0, .slice A1 n1 c1] w fun e w' => e = .returned (.bool true) ∧ Below w.heap.size w w' := by
  have hd0 : decide (1048576 < (n0 : Int)) = true := decide_eq_true (by omega)
  have B0 : Below w.heap.size w w := Below.refl _ _
  go_enter Tryd.func9, Tryd.ntmps9
  have HB := Lib.hid B0
  clear B0
  go_wp2
  go_ret
  exact ⟨rfl, HB.out⟩

theorem walk_big1 (A0 : Option Addr) (n0 c0 : Nat) (_x0 : List Int) (A1 : Option Addr) (n1 c1 : Nat) (_x1 : List Int) (w : World)   (hn0 : n0 ≤ 1048576) (hb : ¬ n1 ≤ 1048576) :
    Calls Tryd.prog 9 #[.slice A0 n0 c0, .slice A1 n1 c1] w fun e w' => e = .returned (.bool true) ∧ Below w.heap.size w w' := by
  have hd0 : decide (1048576 < (n0 : Int)) = false := decide_eq_false (by omega)
  have hd1 : decide (1048576 < (n1 : Int)) = true := decide_eq_true (by omega)
  have B0 : Below w.heap.size w w := Below.refl _ _
  go_enter Tryd.func9, Tryd.ntmps9
  have HB := Lib.hid B0
  clear B0
  go_wp2
  go_ret
  exact ⟨rfl, HB.out⟩

set_option maxRecDepth 100000 in
set_option maxHeartbeats 8000000 in
theorem walk_mid (A0 : Option Addr) (n0 c0 : Nat) (x0 : List Int) (A1 : Option Addr) (n1 c1 : Nat) (x1 : List Int) (w : World) (h0 : RdI w w.heap.size A0 n0 x0) (h1 : RdI w w.heap.size A1 n1 x1) (hn0 : n0 ≤ 1048576) (hn1 : n1 ≤ 1048576) (ht : Arit w) (hu : Dual w) :
    Calls Tryd.prog 9 #[.slice A0 n0 c0, .slice A1 n1 c1] w fun e w' => e = .returned (.bool true) ∧ Below w.heap.size w w' := by
  have hm0 : n0 ≤ maxLen := Nat.le_trans hn0 (by decide)
  have hl0 := h0.len
  have hm1 : n1 ≤ maxLen := Nat.le_trans hn1 (by decide)
  have hl1 := h1.len
  obtain ⟨hv1, hv2⟩ : (mtL x0 x1).length ≤ 1048576 ∧ total (mtL x0 x1) ≤ 1048576 := mtL_small x0 x1
  generalize hV : mtL x0 x1 = V at hv1 hv2
  have HV := Lib.hid hV; clear hV
  have HV3 : Hid (∀ q ∈ V, q.length ≤ 1048576) := Lib.hid fun q hq' => Nat.le_trans (mem_total hq') hv2
  generalize hVb : mtB x0 x1 = Vb
  have HVb := Lib.hid hVb; clear hVb
  have hbb : (Vb != Vb) = false := by simp
  have hd0 : decide (1048576 < (n0 : Int)) = false := decide_eq_false (by omega)
  have hd1 : decide (1048576 < (n1 : Int)) = false := decide_eq_false (by omega)
  have H0 := Lib.hid h0
  have H1 := Lib.hid h1
  have HT := Lib.hid ht
  have HU := Lib.hid hu
  clear h0 h1 ht hu
  have B0 : Below w.heap.size w w := Below.refl _ _
  go_enter Tryd.func9, Tryd.ntmps9
  go_wp2_with (fail)
  refine (toI_x A0 n0 c0 x0 w ((H0.out.below B0).more B0.size) hn0).mono ?_
  rintro e w1 ⟨g_p0, rfl, own1, bel1⟩
  have o_p0_1 := Lib.hid own1
  clear own1
  have s1 := bel1.size
  have B1 := B0.trans (bel1.mono B0.size)
  clear bel1 B0
  go_wp2_with (fail)
  refine (toI_x A1 n1 c1 x1 w1 ((H1.out.below B1).more B1.size) hn1).mono ?_
  rintro e w2 ⟨g_p1, rfl, own2, bel2⟩
  have o_p1_2 := Lib.hid own2
  clear own2
  have s2 := bel2.size
  have B2 := B1.trans (bel2.mono B1.size)
  have o_p0_2 := Lib.hid (o_p0_1.out.below bel2)
  clear bel2 B1 o_p0_1
  generalize w1.heap.size = m1 at *
  go_wp2_with (fail)
  refine (sMatch_any (some ⟨g_p0, 0, none⟩) n0 n0 x0 (some ⟨g_p1, 0, none⟩) n1 n1 x1 w2 (o_p0_2.out.rd) (o_p1_2.out.rd) (Nat.le_refl _)).mono ?_
  rw [HV.out, HVb.out]
  rintro e w3 ⟨hs_v, A_v, c_v, rfl, own3, bel3⟩
  have o_v_3 := Lib.hid own3
  clear own3
  have s3 := bel3.size
  have B3 := B2.trans (bel3.mono B2.size)
  have o_p0_3 := Lib.hid (o_p0_2.out.below bel3)
  have o_p1_3 := Lib.hid (o_p1_2.out.below bel3)
  clear bel3 B2 o_p0_2 o_p1_2
  generalize w2.heap.size = m2 at *
  clear o_p0_3
  clear o_p1_3
  go_wp2_with (fail)
  refine (toI_x A0 n0 c0 x0 w3 ((H0.out.below B3).more B3.size) hn0).mono ?_
  rintro e w4 ⟨g_x0, rfl, own4, bel4⟩
  have o_x0_4 := Lib.hid own4
  clear own4
  have s4 := bel4.size
  have B4 := B3.trans (bel4.mono B3.size)
  have o_v_4 := Lib.hid (o_v_3.out.below bel4)
  clear bel4 B3 o_v_3
  generalize w3.heap.size = m3 at *
  go_wp2_with (fail)
  refine (toI_x A1 n1 c1 x1 w4 ((H1.out.below B4).more B4.size) hn1).mono ?_
  rintro e w5 ⟨g_x1, rfl, own5, bel5⟩
  have o_x1_5 := Lib.hid own5
  clear own5
  have s5 := bel5.size
  have B5 := B4.trans (bel5.mono B4.size)
  have o_v_5 := Lib.hid (o_v_4.out.below bel5)
  have o_x0_5 := Lib.hid (o_x0_4.out.below bel5)
  clear bel5 B4 o_v_4 o_x0_4
  generalize w4.heap.size = m4 at *
  go_wp2_with (fail)
  refine (match_impl (some ⟨g_x0, 0, none⟩) n0 n0 x0 (some ⟨g_x1, 0, none⟩) n1 n1 x1 w5 (o_x0_5.out.rd) (o_x1_5.out.rd) (Nat.le_refl _) (Nat.le_refl _) (HT.out.below B5 HT.out.lt) (HU.out.below B5 HU.out.lt)).mono ?_
  rw [HV.out, HVb.out]
  rintro e w6 ⟨hs_g, A_g, c_g, rfl, own6, bel6⟩
  have o_g_6 := Lib.hid own6
  clear own6
  have s6 := bel6.size
  have B6 := B5.trans (bel6.mono B5.size)
  have o_v_6 := Lib.hid (o_v_5.out.below bel6)
  have o_x0_6 := Lib.hid (o_x0_5.out.below bel6)
  have o_x1_6 := Lib.hid (o_x1_5.out.below bel6)
  clear bel6 B5 o_v_5 o_x0_5 o_x1_5
  generalize w5.heap.size = m5 at *
  go_wp2_with (fail)
  refine (eqQ_x _ _ _ _ _ V w6 (o_g_6.out.rd rfl) (o_v_6.out.rd rfl) hv1 HV3.out).mono ?_
  rintro e w7 ⟨rfl, bel7⟩
  have s7 := bel7.size
  have B7 := B6.trans (bel7.mono B6.size)
  have o_v_7 := Lib.hid (o_v_6.out.below bel7)
  have o_x0_7 := Lib.hid (o_x0_6.out.below bel7)
  have o_x1_7 := Lib.hid (o_x1_6.out.below bel7)
  have o_g_7 := Lib.hid (o_g_6.out.below bel7)
  clear bel7 B6 o_v_6 o_x0_6 o_x1_6 o_g_6
  generalize w6.heap.size = m6 at *
  go_wp2_with (fail)
  refine (toI_x A0 n0 c0 x0 w7 ((H0.out.below B7).more B7.size) hn0).mono ?_
  rintro e w8 ⟨g_t, rfl, own8, bel8⟩
  have o_t_8 := Lib.hid own8
  clear own8
  have s8 := bel8.size
  have B8 := B7.trans (bel8.mono B7.size)
  have o_v_8 := Lib.hid (o_v_7.out.below bel8)
  have o_x0_8 := Lib.hid (o_x0_7.out.below bel8)
  have o_x1_8 := Lib.hid (o_x1_7.out.below bel8)
  have o_g_8 := Lib.hid (o_g_7.out.below bel8)
  clear bel8 B7 o_v_7 o_x0_7 o_x1_7 o_g_7
  generalize w7.heap.size = m7 at *
  go_wp2_with (fail)
  refine (eqI_x _ _ _ _ _ x0 w8 (o_x0_8.out.rd) (o_t_8.out.rd) hn0).mono ?_
  rintro e w9 ⟨rfl, bel9⟩
  have s9 := bel9.size
  have B9 := B8.trans (bel9.mono B8.size)
  have o_v_9 := Lib.hid (o_v_8.out.below bel9)
  have o_x0_9 := Lib.hid (o_x0_8.out.below bel9)
  have o_x1_9 := Lib.hid (o_x1_8.out.below bel9)
  have o_g_9 := Lib.hid (o_g_8.out.below bel9)
  have o_t_9 := Lib.hid (o_t_8.out.below bel9)
  clear bel9 B8 o_v_8 o_x0_8 o_x1_8 o_g_8 o_t_8
  generalize w8.heap.size = m8 at *
  clear o_t_9
  go_wp2_with (fail)
  refine (toI_x A1 n1 c1 x1 w9 ((H1.out.below B9).more B9.size) hn1).mono ?_
  rintro e w10 ⟨g_t, rfl, own10, bel10⟩
  have o_t_10 := Lib.hid own10
  clear own10
  have s10 := bel10.size
  have B10 := B9.trans (bel10.mono B9.size)
  have o_v_10 := Lib.hid (o_v_9.out.below bel10)
  have o_x0_10 := Lib.hid (o_x0_9.out.below bel10)
  have o_x1_10 := Lib.hid (o_x1_9.out.below bel10)
  have o_g_10 := Lib.hid (o_g_9.out.below bel10)
  clear bel10 B9 o_v_9 o_x0_9 o_x1_9 o_g_9
  generalize w9.heap.size = m9 at *
  go_wp2_with (fail)
  refine (eqI_x _ _ _ _ _ x1 w10 (o_x1_10.out.rd) (o_t_10.out.rd) hn1).mono ?_
  rintro e w11 ⟨rfl, bel11⟩
  have s11 := bel11.size
  have B11 := B10.trans (bel11.mono B10.size)
  have o_v_11 := Lib.hid (o_v_10.out.below bel11)
  have o_x0_11 := Lib.hid (o_x0_10.out.below bel11)
  have o_x1_11 := Lib.hid (o_x1_10.out.below bel11)
  have o_g_11 := Lib.hid (o_g_10.out.below bel11)
  have o_t_11 := Lib.hid (o_t_10.out.below bel11)
  clear bel11 B10 o_v_10 o_x0_10 o_x1_10 o_g_10 o_t_10
  generalize w10.heap.size = m10 at *
  clear o_t_11
  go_wp2_with (fail)
  refine (markI_x _ _ _ x0 (1) w11 _ _ o_x0_11.out hn0 (by omega) (by omega)).mono ?_
  rintro e w12 ⟨rfl, own12, kp12⟩
  have o_x0_12 := Lib.hid own12
  clear own12
  have s12 := kp12.size
  have B12 := kp12.to_below B11 (by omega) B11.size
  have o_v_12 := Lib.hid (o_v_11.out.kept kp12 (by omega))
  have o_x1_12 := Lib.hid (o_x1_11.out.kept kp12 (by omega))
  have o_g_12 := Lib.hid (o_g_11.out.kept kp12 (by omega))
  clear kp12 B11 o_v_11 o_x0_11 o_x1_11 o_g_11
  generalize w11.heap.size = m11 at *
  go_wp2_with (fail)
  refine (markI_x _ _ _ x1 (1 + (n0 : Int)) w12 _ _ o_x1_12.out hn1 (by omega) (by omega)).mono ?_
  rintro e w13 ⟨rfl, own13, kp13⟩
  have o_x1_13 := Lib.hid own13
  clear own13
  have s13 := kp13.size
  have B13 := kp13.to_below B12 (by omega) B12.size
  have o_v_13 := Lib.hid (o_v_12.out.kept kp13 (by omega))
  have o_x0_13 := Lib.hid (o_x0_12.out.kept kp13 (by omega))
  have o_g_13 := Lib.hid (o_g_12.out.kept kp13 (by omega))
  clear kp13 B12 o_v_12 o_x0_12 o_x1_12 o_g_12
  generalize w12.heap.size = m12 at *
  have hkk : decide (1 + (n0 : Int) + (n1 : Int) < 0) = false := decide_eq_false (by omega)
  clear o_x0_13
  clear o_x1_13
  go_wp2_with (fail)
  refine (eqQ_x _ _ _ _ _ V w13 (o_g_13.out.rd rfl) (o_v_13.out.rd rfl) hv1 HV3.out).mono ?_
  rintro e w14 ⟨rfl, bel14⟩
  have s14 := bel14.size
  have B14 := B13.trans (bel14.mono B13.size)
  have o_v_14 := Lib.hid (o_v_13.out.below bel14)
  have o_g_14 := Lib.hid (o_g_13.out.below bel14)
  clear bel14 B13 o_v_13 o_g_13
  generalize w13.heap.size = m13 at *
  have hmm : decide (1 + (total V : Int) < 0) = false := decide_eq_false (by omega)
  go_wp2_with (fail)
  refine (markT_any _ _ _ _ V (1) w14 _ _ o_g_14.out rfl hv1 hv2 (by omega) (by omega)).mono ?_
  rintro e w15 ⟨rfl, own15, kp15⟩
  have o_g_15 := Lib.hid own15
  clear own15
  have s15 := kp15.size
  have B15 := kp15.to_below B14 (by omega) B14.size
  have o_v_15 := Lib.hid (o_v_14.out.kept kp15 (by omega))
  clear kp15 B14 o_v_14 o_g_14
  generalize w14.heap.size = m14 at *
  go_wp2_with (fail)
  refine (heldQ_x _ _ _ V 1 w15 (o_g_15.out.rd (mrkQ_len _ _)) hv1 hv2 (by decide) (by decide)).mono ?_
  rintro e w16 ⟨rfl, bel16⟩
  have s16 := bel16.size
  have B16 := B15.trans (bel16.mono B15.size)
  have o_v_16 := Lib.hid (o_v_15.out.below bel16)
  have o_g_16 := Lib.hid (o_g_15.out.below bel16)
  clear bel16 B15 o_v_15 o_g_15
  generalize w15.heap.size = m15 at *
  go_wp2_with (fail)
  refine (toI_x A0 n0 c0 x0 w16 ((H0.out.below B16).more B16.size) hn0).mono ?_
  rintro e w17 ⟨g_b0, rfl, own17, bel17⟩
  have o_b0_17 := Lib.hid own17
  clear own17
  have s17 := bel17.size
  have B17 := B16.trans (bel17.mono B16.size)
  have o_v_17 := Lib.hid (o_v_16.out.below bel17)
  have o_g_17 := Lib.hid (o_g_16.out.below bel17)
  clear bel17 B16 o_v_16 o_g_16
  generalize w16.heap.size = m16 at *
  go_wp2_with (fail)
  refine (toI_x A1 n1 c1 x1 w17 ((H1.out.below B17).more B17.size) hn1).mono ?_
  rintro e w18 ⟨g_b1, rfl, own18, bel18⟩
  have o_b1_18 := Lib.hid own18
  clear own18
  have s18 := bel18.size
  have B18 := B17.trans (bel18.mono B17.size)
  have o_v_18 := Lib.hid (o_v_17.out.below bel18)
  have o_g_18 := Lib.hid (o_g_17.out.below bel18)
  have o_b0_18 := Lib.hid (o_b0_17.out.below bel18)
  clear bel18 B17 o_v_17 o_g_17 o_b0_17
  generalize w17.heap.size = m17 at *
  go_wp2_with (fail)
  refine (match_impl (some ⟨g_b0, 0, none⟩) n0 n0 x0 (some ⟨g_b1, 0, none⟩) n1 n1 x1 w18 (o_b0_18.out.rd) (o_b1_18.out.rd) (Nat.le_refl _) (Nat.le_refl _) (HT.out.below B18 HT.out.lt) (HU.out.below B18 HU.out.lt)).mono ?_
  rw [HV.out, HVb.out]
  rintro e w19 ⟨hs_hh, A_hh, c_hh, rfl, own19, bel19⟩
  have o_hh_19 := Lib.hid own19
  clear own19
  have s19 := bel19.size
  have B19 := B18.trans (bel19.mono B18.size)
  have o_v_19 := Lib.hid (o_v_18.out.below bel19)
  have o_g_19 := Lib.hid (o_g_18.out.below bel19)
  have o_b0_19 := Lib.hid (o_b0_18.out.below bel19)
  have o_b1_19 := Lib.hid (o_b1_18.out.below bel19)
  clear bel19 B18 o_v_18 o_g_18 o_b0_18 o_b1_18
  generalize w18.heap.size = m18 at *
  clear o_b0_19
  clear o_b1_19
  go_wp2_with (fail)
  refine (eqQ_x _ _ _ _ _ V w19 (o_hh_19.out.rd rfl) (o_v_19.out.rd rfl) hv1 HV3.out).mono ?_
  rintro e w20 ⟨rfl, bel20⟩
  have s20 := bel20.size
  have B20 := B19.trans (bel20.mono B19.size)
  have o_v_20 := Lib.hid (o_v_19.out.below bel20)
  have o_g_20 := Lib.hid (o_g_19.out.below bel20)
  have o_hh_20 := Lib.hid (o_hh_19.out.below bel20)
  clear bel20 B19 o_v_19 o_g_19 o_hh_19
  generalize w19.heap.size = m19 at *
  go_wp2_with (fail)
  refine (heldQ_x _ _ _ V 1 w20 (o_g_20.out.rd (mrkQ_len _ _)) hv1 hv2 (by decide) (by decide)).mono ?_
  rintro e w21 ⟨rfl, bel21⟩
  have s21 := bel21.size
  have B21 := B20.trans (bel21.mono B20.size)
  have o_v_21 := Lib.hid (o_v_20.out.below bel21)
  have o_g_21 := Lib.hid (o_g_20.out.below bel21)
  have o_hh_21 := Lib.hid (o_hh_20.out.below bel21)
  clear bel21 B20 o_v_20 o_g_20 o_hh_20
  generalize w20.heap.size = m20 at *
  have HB := Lib.hid B21
  go_wp2
  go_ret
  exact ⟨rfl, HB.out⟩

theorem walk (A0 : Option Addr) (n0 c0 : Nat) (x0 : List Int) (A1 : Option Addr) (n1 c1 : Nat) (x1 : List Int) (w : World) (h0 : RdI w w.heap.size A0 n0 x0) (_hnc0 : n0 ≤ c0) (_hf0 : ∀ z ∈ x0, (Lit.int .i64 z).wf = true) (h1 : RdI w w.heap.size A1 n1 x1) (_hnc1 : n1 ≤ c1) (_hf1 : ∀ z ∈ x1, (Lit.int .i64 z).wf = true) (ht : Arit w) (hu : Dual w) :
    Calls Tryd.prog 9 #[.slice A0 n0 c0, .slice A1 n1 c1] w fun e w' => e = .returned (.bool true) ∧ Below w.heap.size w w' := by
  rcases Nat.lt_or_ge 1048576 (n0) with hb' | hn0
  · have hb : ¬ n0 ≤ 1048576 := by omega
    exact walk_big0 A0 n0 c0 x0 A1 n1 c1 x1  w    hb
  ·
    rcases Nat.lt_or_ge 1048576 (n1) with hb' | hn1
    · have hb : ¬ n1 ≤ 1048576 := by omega
      exact walk_big1 A0 n0 c0 x0 A1 n1 c1 x1  w   hn0 hb
    ·
      exact walk_mid A0 n0 c0 x0 A1 n1 c1 x1  w h0 h1 hn0 hn1 ht hu


set_option maxRecDepth 100000 in
/-- What the walk gives, for all arguments and every world that holds the tables. -/
theorem contract (H : Type) (enc : TypeId × Value → H) (W : World) (base : Nat) (args : Array Value) (ds gs : List (DataW H)) (before : List MemPlace)
    (hval : ∀ (j : Nat) t v, Tryd.f9.params[j]? = some t → args[j]? = some v → Value.okWide Tryd.prog W .any base t v)
    (hW : DataW.Whole enc Tryd.prog Tryd.f9.params.toList Rows.fnExactMatchFormSpec.vars false W args.toList ds gs before) (hL : laidMetH Tryd.prog Rows.fnExactMatchFormRow.laid W) :
    Calls Tryd.prog 9 args W fun e W' => ∃ v, e = .returned v ∧ Rows.fnExactMatchFormSpec.post enc Tryd.prog Tryd.f9 false true false false W args v W' := by
  have hW' := hW
  obtain ⟨p, q, hA0, hV, rfl, hfz, hnd⟩ := hW
  have hA : DataW.TrodAll enc Tryd.prog W 0 (fun _ => true) true Tryd.f9.params.toList args.toList ds p := hA0
  rw [Tryd.params9] at hA hval
  obtain ⟨v0, vs0, d0, ds0, p0, q0, hargs, rfl, rfl, h0, r0⟩ := trodAll_cons hA
  obtain ⟨v1, vs1, d1, ds1, p1, q1, rfl, rfl, rfl, h1, r1⟩ := trodAll_cons r0
  obtain ⟨rfl, rfl, rfl⟩ := trodAll_nil r1
  obtain rfl : args = #[v0, v1] := by cases args; simp_all
  obtain ⟨a0, len0, cap0, rfl⟩ := okWide_slice Tryd.underlying24 (hval 0 24 v0 rfl rfl)
  have k0 := h0
  have lt0 : ∀ x ∈ p0, x.block < W.heap.size := by obtain ⟨m, hm⟩ := k0; exact DataW.trod_lt m _ _ _ hm
  obtain ⟨z0, w0, c0, b0⟩ := open_i64s h0
  obtain ⟨a1, len1, cap1, rfl⟩ := okWide_slice Tryd.underlying24 (hval 1 24 v1 rfl rfl)
  have k1 := h1
  have lt1 : ∀ x ∈ p1, x.block < W.heap.size := by obtain ⟨m, hm⟩ := k1; exact DataW.trod_lt m _ _ _ hm
  obtain ⟨z1, w1, c1, b1⟩ := open_i64s h1
  have ht : Arit W := arit_of hL
  have hu : Dual W := dual_of hL
  have hv1 := hV
  obtain ⟨g0, t0, cs0, f0, e0, p0', g1, t1, cs1, f1, e1, p1', rfl, _, _, _, _, _, _, _, _, rfl⟩ := trodVars_two hV
  clear hA0
  refine (walk a0 len0 cap0 z0 a1 len1 cap1 z1 W w0 c0 b0 w1 c1 b1 ht hu).mono fun e W' ⟨he, bel⟩ => ?_
  subst he
  exact ⟨_, rfl, _, _, _, [], _, _, hW', trodAll_mk1 (shut_bool Tryd.underlying4 _),
    (trodAll_cons_mk (Below.trod laidOut (by kernel_rfl) (of_decide_eq_true (by kernel_rfl)) k0 bel lt0) (trodAll_cons_mk (Below.trod laidOut (by kernel_rfl) (of_decide_eq_true (by kernel_rfl)) k1 bel lt1) trodAll_mk0)),
    vars_below bel (readable_all _ (by kernel_rfl)) hv1, bel.frame _, fun h => by cases h⟩

theorem laid_met (os : Os) : laidMet Tryd.prog Rows.fnExactMatchFormRow.laid ((laidWorld os).forCall (fun _ _ => 0) ⟨#[], #[.slice none 0 0, .slice none 0 0], []⟩).memory :=
  laidMet_of_run' 8 (by kernel_rfl) (by kernel_rfl)
theorem reads (os : Os) {H : Type} (enc : TypeId × Value → H) : ∃ x, DataW.whole enc Tryd.prog ((laidWorld os).forCall (fun _ _ => 0) ⟨#[], #[.slice none 0 0, .slice none 0 0], []⟩).memory Tryd.f9.params.toList Rows.fnExactMatchFormSpec.vars false (#[.slice none 0 0, .slice none 0 0] : Array Value).toList 8 = some x :=
  Option.isSome_iff_exists.1 (by kernel_rfl)

set_option maxRecDepth 100000 in
theorem lifted (os : Os) (started : os.Started) (H : Type) (enc : TypeId × Value → H) (F : Stop.Interp) :
    ReturnsInHanded {} Tryd.checked os 9 .any ((OpenSpec.ofChange Rows.fnExactMatchFormSpec).preRow enc Tryd.prog Tryd.f9 Rows.fnExactMatchFormRow.domain false Rows.fnExactMatchFormRow.laid) (((OpenSpec.ofChange Rows.fnExactMatchFormSpec).at F).post enc Tryd.prog Tryd.f9 false true false false) := by
  obtain ⟨places, hx⟩ := reads os enc
  refine returnsInHanded_of_row (C := Tryd.checked) (s := OpenSpec.ofChange Rows.fnExactMatchFormSpec) own started (by kernel_rfl) Tryd.func9
    (witness_row_at (enc := enc) (C := Tryd.checked) false (laidWorld os) #[.slice none 0 0, .slice none 0 0] rfl (by kernel_rfl) (by kernel_rfl) (by kernel_rfl)
      (OpenSpec.preRow_of_cond 8 hx rfl (fun k hk => by cases hk) (by kernel_rfl) (laid_met os))) ?_
  intro W base args ds gs before hval hW _ _ _ hL _ _
  exact contract H enc W base args ds gs before hval hW hL

theorem said : Rows.FnExactMatchFormSaid :=
  OpenClaim.holds_of_cond 9 Tryd.f9 rfl rfl rfl rfl rfl rfl rfl ⟨rfl, rfl, rfl, rfl, rfl⟩ rfl rfl rfl rfl rfl (by kernel_rfl) Tryd.func9 (by kernel_rfl)
    (of_decide_eq_true (by kernel_rfl)) (by unfold Func.isWrapper; first | (rw [if_pos (by decide +kernel)]; kernel_rfl) | (rw [if_neg (by decide +kernel)]; exact ⟨rfl, rfl⟩))
    (fun os started H enc _ F => by rw [OpenClaim.pre_eq_preRow]; exact lifted os started H enc F)

theorem plain (f : FuncId) (fn : Func) (hf : Tryd.pinned.checked.prog.funcNamed "loop.example/g00872/laws.FnExactMatchForm" = some f) (hfn : Tryd.pinned.checked.prog.funcs[f]? = some fn) :
    Rows.fnExactMatchFormCard.stood.looks = Tryd.pinned.checked.prog.looks [] ∧ ∀ (j : Nat) t, fn.params[j]? = some t → Tryd.pinned.checked.prog.wantsStandIn t = false := by
  obtain rfl : f = 9 := Option.some.inj ((show Tryd.prog.funcNamed "loop.example/g00872/laws.FnExactMatchForm" = some 9 by kernel_rfl).symm.trans hf) |>.symm
  obtain rfl : fn = Tryd.f9 := (Option.some.inj (Tryd.func9.symm.trans hfn)).symm
  refine ⟨by kernel_rfl, fun j t ht => ?_⟩
  rw [Tryd.params9] at ht
  have hm : t ∈ [24, 24] := by simpa using Array.mem_of_getElem? ht
  have hall : ([24, 24].all fun u => !Tryd.prog.wantsStandIn u) = true := by kernel_rfl
  exact (show Tryd.prog.wantsStandIn t = false by simpa using List.all_eq_true.1 hall t hm)

/-- The statement. -/
theorem card : Rows.FnExactMatchFormCardSaid :=
  Claim7.holds_tied_plain_at .later [] _ _ _ _ said (fun _ h => by cases h) (by kernel_rfl) (fun _ h => by cases h) fnExactMatchForm_row_tie rfl ⟨rfl, rfl⟩ (by kernel_rfl) rfl plain (by kernel_rfl)
end Go.Proofs.YtoniekjchabjlaaDoor.fnExactMatchForm
