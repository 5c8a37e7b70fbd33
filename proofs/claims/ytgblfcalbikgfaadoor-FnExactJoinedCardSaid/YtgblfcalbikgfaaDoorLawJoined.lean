/- Proved: for all arguments the law that Joined answers as its model, leaves its arguments and shares no memory answers true and leaves its arguments as they were (FnExactJoined). Conditions: the row's own: the listed tables read as the program's text lays them, which the card ties to that text. -/
import Derived.Test.YtgblfcalbikgfaaDoorFrame
import Derived.Test.YtgblfcalbikgfaaDoorJoinS
namespace Go.Proofs.YtgblfcalbikgfaaDoor.fnExactJoined
open Go.ChangeShapes Go.WideShapes Go.ChangeAt Go.RowKit

theorem walk_big1 (i0 : Int) (A1 : Option Addr) (n1 c1 : Nat) (A2 : Option Addr) (n2 c2 : Nat) (w : World) (hn : ¬ n1 ≤ 1048576) :
    Calls Tryd.prog 10 #[.int .i64 i0, .slice A1 n1 c1, .slice A2 n2 c2] w fun e w' => e = .returned (.bool true) ∧ Below w.heap.size w w' := by
  have hd1 : decide (1048576 < (n1 : Int)) = true := decide_eq_true (by omega)
  go_enter Tryd.func10, Tryd.ntmps10
  go_wp2
  go_ret
  exact ⟨rfl, Below.refl _ _⟩

theorem walk_big2 (i0 : Int) (A1 : Option Addr) (n1 c1 : Nat) (A2 : Option Addr) (n2 c2 : Nat) (w : World) (hn1 : n1 ≤ 1048576) (hn : ¬ n2 ≤ 1048576) :
    Calls Tryd.prog 10 #[.int .i64 i0, .slice A1 n1 c1, .slice A2 n2 c2] w fun e w' => e = .returned (.bool true) ∧ Below w.heap.size w w' := by
  have hd1 : decide (1048576 < (n1 : Int)) = false := decide_eq_false (by omega)
  have hd2 : decide (1048576 < (n2 : Int)) = true := decide_eq_true (by omega)
  go_enter Tryd.func10, Tryd.ntmps10
  go_wp2
  go_ret
  exact ⟨rfl, Below.refl _ _⟩

set_option maxHeartbeats 4000000 in
theorem walk_mid (i0 : Int) (A1 : Option Addr) (n1 c1 : Nat) (f1 : List Int) (A2 : Option Addr) (n2 c2 : Nat) (f2 : List Int) (w : World) (_hi0 : (Lit.int .i64 i0).wf = true) (h1 : RdI w w.heap.size A1 n1 f1) (_hnc1 : n1 ≤ c1) (_hf1 : ∀ z ∈ f1, (Lit.int .i64 z).wf = true) (h2 : RdI w w.heap.size A2 n2 f2) (_hnc2 : n2 ≤ c2) (_hf2 : ∀ z ∈ f2, (Lit.int .i64 z).wf = true) (ht : Arit w) (hn1 : n1 ≤ 1048576) (hn2 : n2 ≤ 1048576) :
    Calls Tryd.prog 10 #[.int .i64 i0, .slice A1 n1 c1, .slice A2 n2 c2] w fun e w' => e = .returned (.bool true) ∧ Below w.heap.size w w' := by
  have hd1 : decide (1048576 < (n1 : Int)) = false := decide_eq_false (by omega)
  have hd2 : decide (1048576 < (n2 : Int)) = false := decide_eq_false (by omega)
  have hlen : (joinL i0 f1 f2).length ≤ 1048576 := Nat.le_trans (joinL_len i0 f1 f2) (by decide)
  generalize hV : joinL i0 f1 f2 = V at hlen
  have HV := Lib.hid hV; clear hV
  generalize hVb : joinB i0 f1 f2 = Vb
  have HVb := Lib.hid hVb; clear hVb
  have B0 : Below w.heap.size w w := Below.refl _ _
  go_enter Tryd.func10, Tryd.ntmps10
  go_wp2_with (fail)
  refine (toInts_any A1 n1 c1 f1 w ((h1.below B0).more B0.size) hn1).mono ?_
  rintro e w1 ⟨rfl, o_a1_1, bel1⟩
  have B1 := B0.trans (bel1.mono B0.size)
  have s1 := bel1.size
  clear bel1
  go_wp2_with (fail)
  refine (toInts_any A2 n2 c2 f2 w1 ((h2.below B1).more B1.size) hn2).mono ?_
  rintro e w2 ⟨rfl, o_a2_2, bel2⟩
  have B2 := B1.trans (bel2.mono B1.size)
  have s2 := bel2.size
  have o_a1_2 := own_below o_a1_1 bel2 (Nat.le_refl _)
  clear bel2
  go_wp2_with (fail)
  refine (sJoined_any i0 _ n1 n1 f1 _ n2 n2 f2 w2 (RdI.of_own o_a1_2) (RdI.of_own o_a2_2)).mono ?_
  rw [HV.out, HVb.out]
  rintro e w3 ⟨A_v, c_v, rfl, o_v_3, bel3⟩
  have B3 := B2.trans (bel3.mono B2.size)
  have s3 := bel3.size
  have o_a1_3 := own_below o_a1_2 bel3 (Nat.le_refl _)
  have o_a2_3 := own_below o_a2_2 bel3 (Nat.le_refl _)
  clear bel3 o_a1_2
  go_wp2_with (fail)
  refine (toInts_any A1 n1 c1 f1 w3 ((h1.below B3).more B3.size) hn1).mono ?_
  rintro e w4 ⟨rfl, o_x1_4, bel4⟩
  have B4 := B3.trans (bel4.mono B3.size)
  have s4 := bel4.size
  have o_v_4 := own_below o_v_3 bel4 (Nat.le_refl _)
  clear bel4
  go_wp2_with (fail)
  refine (toInts_any A2 n2 c2 f2 w4 ((h2.below B4).more B4.size) hn2).mono ?_
  rintro e w5 ⟨rfl, o_x2_5, bel5⟩
  have B5 := B4.trans (bel5.mono B4.size)
  have s5 := bel5.size
  have o_v_5 := own_below o_v_4 bel5 (Nat.le_refl _)
  have o_x1_5 := own_below o_x1_4 bel5 (Nat.le_refl _)
  clear bel5 o_v_4
  go_wp2_with (fail)
  refine (joined_impl i0 _ n1 n1 f1 _ n2 n2 f2 w5 (RdI.of_own o_x1_5) (RdI.of_own o_x2_5) (ht.below B5 ht.lt) (Nat.le_refl _) (Nat.le_refl _)).mono ?_
  rw [HV.out, HVb.out]
  rintro e w6 ⟨A_g, c_g, rfl, o_g_6, bel6⟩
  have B6 := B5.trans (bel6.mono B5.size)
  have s6 := bel6.size
  have o_v_6 := own_below o_v_5 bel6 (Nat.le_refl _)
  have o_x1_6 := own_below o_x1_5 bel6 (Nat.le_refl _)
  have o_x2_6 := own_below o_x2_5 bel6 (Nat.le_refl _)
  clear bel6 o_v_5 o_x1_5
  go_wp2_with (fail)
  refine (eqInts_any _ _ _ _ _ _ V V w6 (RdI.of_own o_g_6) (RdI.of_own o_v_6) hlen hlen).mono ?_
  rintro e w7 ⟨rfl, bel7⟩
  have B7 := B6.trans (bel7.mono B6.size)
  have s7 := bel7.size
  have o_v_7 := own_below o_v_6 bel7 (Nat.le_refl _)
  have o_x1_7 := own_below o_x1_6 bel7 (Nat.le_refl _)
  have o_x2_7 := own_below o_x2_6 bel7 (Nat.le_refl _)
  have o_g_7 := own_below o_g_6 bel7 (Nat.le_refl _)
  clear bel7 o_v_6 o_x1_6 o_x2_6
  go_wp2_with (fail)
  refine (toInts_any A1 n1 c1 f1 w7 ((h1.below B7).more B7.size) hn1).mono ?_
  rintro e w8 ⟨rfl, o_t_8, bel8⟩
  have B8 := B7.trans (bel8.mono B7.size)
  have s8 := bel8.size
  have o_v_8 := own_below o_v_7 bel8 (Nat.le_refl _)
  have o_x1_8 := own_below o_x1_7 bel8 (Nat.le_refl _)
  have o_x2_8 := own_below o_x2_7 bel8 (Nat.le_refl _)
  have o_g_8 := own_below o_g_7 bel8 (Nat.le_refl _)
  clear bel8 o_v_7 o_x1_7 o_x2_7 o_g_7
  go_wp2_with (fail)
  refine (eqInts_any _ _ _ _ _ _ f1 f1 w8 (RdI.of_own o_x1_8) (RdI.of_own o_t_8) hn1 hn1).mono ?_
  rintro e w9 ⟨rfl, bel9⟩
  have B9 := B8.trans (bel9.mono B8.size)
  have s9 := bel9.size
  have o_v_9 := own_below o_v_8 bel9 (Nat.le_refl _)
  have o_x1_9 := own_below o_x1_8 bel9 (Nat.le_refl _)
  have o_x2_9 := own_below o_x2_8 bel9 (Nat.le_refl _)
  have o_g_9 := own_below o_g_8 bel9 (Nat.le_refl _)
  have o_t_9 := own_below o_t_8 bel9 (Nat.le_refl _)
  clear bel9 o_v_8 o_x1_8 o_x2_8 o_g_8
  go_wp2_with (fail)
  refine (toInts_any A2 n2 c2 f2 w9 ((h2.below B9).more B9.size) hn2).mono ?_
  rintro e w10 ⟨rfl, o_t_10, bel10⟩
  have B10 := B9.trans (bel10.mono B9.size)
  have s10 := bel10.size
  have o_v_10 := own_below o_v_9 bel10 (Nat.le_refl _)
  have o_x1_10 := own_below o_x1_9 bel10 (Nat.le_refl _)
  have o_x2_10 := own_below o_x2_9 bel10 (Nat.le_refl _)
  have o_g_10 := own_below o_g_9 bel10 (Nat.le_refl _)
  clear bel10 o_v_9 o_x1_9 o_x2_9 o_g_9
  go_wp2_with (fail)
  refine (eqInts_any _ _ _ _ _ _ f2 f2 w10 (RdI.of_own o_x2_10) (RdI.of_own o_t_10) hn2 hn2).mono ?_
  rintro e w11 ⟨rfl, bel11⟩
  have B11 := B10.trans (bel11.mono B10.size)
  have s11 := bel11.size
  have o_v_11 := own_below o_v_10 bel11 (Nat.le_refl _)
  have o_x1_11 := own_below o_x1_10 bel11 (Nat.le_refl _)
  have o_x2_11 := own_below o_x2_10 bel11 (Nat.le_refl _)
  have o_g_11 := own_below o_g_10 bel11 (Nat.le_refl _)
  have o_t_11 := own_below o_t_10 bel11 (Nat.le_refl _)
  clear bel11 o_v_10 o_x1_10 o_x2_10 o_g_10
  go_wp2_with (fail)
  refine (mark_any _ _ _ f1 (1) w11 _ o_x1_11 hn1 (by omega) (by omega)).mono ?_
  rintro e w12 ⟨rfl, o_x1_12, gr12⟩
  have B12 := below_grown B11 gr12 o_x1_11 (by omega) B11.size
  have s12 := gr12.size
  have o_v_12 := o_v_11.kept gr12 (own_ne o_v_3 o_x1_4 (Nat.le_refl _) (by omega))
  have o_x2_12 := o_x2_11.kept gr12 (own_ne' o_x1_4 o_x2_5 (Nat.le_refl _) (by omega))
  have o_g_12 := o_g_11.kept gr12 (own_ne' o_x1_4 o_g_6 (Nat.le_refl _) (by omega))
  clear gr12 o_v_11 o_x1_11 o_x2_11 o_g_11
  go_wp2_with (fail)
  refine (mark_any _ _ _ f2 (1 + (n1 : Int)) w12 _ o_x2_12 hn2 (by omega) (by omega)).mono ?_
  rintro e w13 ⟨rfl, o_x2_13, gr13⟩
  have B13 := below_grown B12 gr13 o_x2_12 (by omega) B12.size
  have s13 := gr13.size
  have o_v_13 := o_v_12.kept gr13 (own_ne o_v_3 o_x2_5 (Nat.le_refl _) (by omega))
  have o_x1_13 := o_x1_12.kept gr13 (own_ne o_x1_4 o_x2_5 (Nat.le_refl _) (by omega))
  have o_g_13 := o_g_12.kept gr13 (own_ne' o_x2_5 o_g_6 (Nat.le_refl _) (by omega))
  clear gr13 o_v_12 o_x1_12 o_x2_12 o_g_12
  have hkk : decide (1 + (n1 : Int) + (n2 : Int) < 0) = false := decide_eq_false (by omega)
  go_wp2_with (fail)
  refine (eqInts_any _ _ _ _ _ _ V V w13 (RdI.of_own o_g_13) (RdI.of_own o_v_13) hlen hlen).mono ?_
  rintro e w14 ⟨rfl, bel14⟩
  have B14 := B13.trans (bel14.mono B13.size)
  have s14 := bel14.size
  have o_v_14 := own_below o_v_13 bel14 (Nat.le_refl _)
  have o_g_14 := own_below o_g_13 bel14 (Nat.le_refl _)
  clear bel14 o_v_13 o_g_13
  have hmm : decide (1 + (V.length : Int) < 0) = false := decide_eq_false (by omega)
  go_wp2_with (fail)
  refine (mark_any _ _ _ V 1 w14 _ o_g_14 hlen (by omega) (by omega)).mono ?_
  rintro e w15 ⟨rfl, o_g_15, gr15⟩
  have B15 := below_grown B14 gr15 o_g_14 (by omega) B14.size
  have s15 := gr15.size
  have o_v_15 := o_v_14.kept gr15 (own_ne o_v_3 o_g_6 (Nat.le_refl _) (by omega))
  clear gr15 o_v_14 o_g_14
  go_wp2_with (fail)
  refine (held_any _ _ _ 1 w15 (RdI.of_own o_g_15) hlen (by omega) (by omega)).mono ?_
  rintro e w' ⟨rfl, rfl⟩
  go_wp2_with (fail)
  refine (toInts_any A1 n1 c1 f1 w15 ((h1.below B15).more B15.size) hn1).mono ?_
  rintro e w16 ⟨rfl, o_b1_16, bel16⟩
  have B16 := B15.trans (bel16.mono B15.size)
  have s16 := bel16.size
  have o_v_16 := own_below o_v_15 bel16 (Nat.le_refl _)
  have o_g_16 := own_below o_g_15 bel16 (Nat.le_refl _)
  clear bel16 o_v_15 o_g_15
  go_wp2_with (fail)
  refine (toInts_any A2 n2 c2 f2 w16 ((h2.below B16).more B16.size) hn2).mono ?_
  rintro e w17 ⟨rfl, o_b2_17, bel17⟩
  have B17 := B16.trans (bel17.mono B16.size)
  have s17 := bel17.size
  have o_v_17 := own_below o_v_16 bel17 (Nat.le_refl _)
  have o_g_17 := own_below o_g_16 bel17 (Nat.le_refl _)
  have o_b1_17 := own_below o_b1_16 bel17 (Nat.le_refl _)
  clear bel17 o_v_16 o_g_16
  go_wp2_with (fail)
  refine (joined_impl i0 _ n1 n1 f1 _ n2 n2 f2 w17 (RdI.of_own o_b1_17) (RdI.of_own o_b2_17) (ht.below B17 ht.lt) (Nat.le_refl _) (Nat.le_refl _)).mono ?_
  rw [HV.out, HVb.out]
  rintro e w18 ⟨A_hh, c_hh, rfl, o_hh_18, bel18⟩
  have B18 := B17.trans (bel18.mono B17.size)
  have s18 := bel18.size
  have o_v_18 := own_below o_v_17 bel18 (Nat.le_refl _)
  have o_g_18 := own_below o_g_17 bel18 (Nat.le_refl _)
  have o_b1_18 := own_below o_b1_17 bel18 (Nat.le_refl _)
  have o_b2_18 := own_below o_b2_17 bel18 (Nat.le_refl _)
  clear bel18 o_v_17 o_g_17 o_b1_17
  go_wp2_with (fail)
  refine (eqInts_any _ _ _ _ _ _ V V w18 (RdI.of_own o_hh_18) (RdI.of_own o_v_18) hlen hlen).mono ?_
  rintro e w19 ⟨rfl, bel19⟩
  have B19 := B18.trans (bel19.mono B18.size)
  have s19 := bel19.size
  have o_v_19 := own_below o_v_18 bel19 (Nat.le_refl _)
  have o_g_19 := own_below o_g_18 bel19 (Nat.le_refl _)
  have o_hh_19 := own_below o_hh_18 bel19 (Nat.le_refl _)
  clear bel19 o_v_18 o_g_18
  go_wp2_with (fail)
  refine (held_any _ _ _ 1 w19 (RdI.of_own o_g_19) hlen (by omega) (by omega)).mono ?_
  rintro e w' ⟨rfl, rfl⟩
  have HB := Lib.hid B19
  go_wp2
  go_ret
  exact ⟨rfl, HB.out⟩

theorem walk (i0 : Int) (A1 : Option Addr) (n1 c1 : Nat) (f1 : List Int) (A2 : Option Addr) (n2 c2 : Nat) (f2 : List Int) (w : World) (_hi0 : (Lit.int .i64 i0).wf = true) (h1 : RdI w w.heap.size A1 n1 f1) (_hnc1 : n1 ≤ c1) (_hf1 : ∀ z ∈ f1, (Lit.int .i64 z).wf = true) (h2 : RdI w w.heap.size A2 n2 f2) (_hnc2 : n2 ≤ c2) (_hf2 : ∀ z ∈ f2, (Lit.int .i64 z).wf = true) (ht : Arit w) :
    Calls Tryd.prog 10 #[.int .i64 i0, .slice A1 n1 c1, .slice A2 n2 c2] w fun e w' => e = .returned (.bool true) ∧ Below w.heap.size w w' := by
  by_cases hn1 : n1 ≤ 1048576
  · skip
    by_cases hn2 : n2 ≤ 1048576
    · exact walk_mid i0 A1 n1 c1 f1 A2 n2 c2 f2 w _hi0 h1 _hnc1 _hf1 h2 _hnc2 _hf2 ht hn1 hn2
    · exact walk_big2 i0 A1 n1 c1 A2 n2 c2 w hn1 hn2
  · exact walk_big1 i0 A1 n1 c1 A2 n2 c2 w hn1

/-- What the walk gives, for all arguments and every world that holds the tables. -/
theorem contract (H : Type) (enc : TypeId × Value → H) (W : World) (base : Nat) (args : Array Value) (ds gs : List (DataW H)) (before : List MemPlace)
    (hval : ∀ (j : Nat) t v, Tryd.f10.params[j]? = some t → args[j]? = some v → Value.okWide Tryd.prog W .any base t v)
    (hW : DataW.Whole enc Tryd.prog Tryd.f10.params.toList Rows.fnExactJoinedSpec.vars false W args.toList ds gs before) (hL : laidMetH Tryd.prog Rows.fnExactJoinedRow.laid W) :
    Calls Tryd.prog 10 args W fun e W' => ∃ v, e = .returned v ∧ Rows.fnExactJoinedSpec.post enc Tryd.prog Tryd.f10 false true false false W args v W' := by
  have hW' := hW
  obtain ⟨p, q, hA0, hV, rfl, hfz, hnd⟩ := hW
  have hA : DataW.TrodAll enc Tryd.prog W 0 (fun _ => true) true Tryd.f10.params.toList args.toList ds p := hA0
  rw [Tryd.params10] at hA hval
  obtain ⟨v0, vs0, d0, ds0, p0, q0, hargs, rfl, rfl, h0, r0⟩ := trodAll_cons hA
  obtain ⟨v1, vs1, d1, ds1, p1, q1, rfl, rfl, rfl, h1, r1⟩ := trodAll_cons r0
  obtain ⟨v2, vs2, d2, ds2, p2, q2, rfl, rfl, rfl, h2, r2⟩ := trodAll_cons r1
  obtain ⟨rfl, rfl, rfl⟩ := trodAll_nil r2
  obtain rfl : args = #[v0, v1, v2] := by cases args; simp_all
  obtain ⟨z0, rfl, rfl, rfl, b0⟩ := open_int Tryd.underlying2 (hval 0 2 v0 rfl rfl) h0
  obtain ⟨a1, len1, cap1, rfl⟩ := okWide_slice Tryd.underlying24 (hval 1 24 v1 rfl rfl)
  have k1 := h1
  have lt1 : ∀ x ∈ p1, x.block < W.heap.size := by obtain ⟨m, hm⟩ := k1; exact DataW.trod_lt m _ _ _ hm
  obtain ⟨z1, w1, c1, b1⟩ := open_i64s h1
  obtain ⟨a2, len2, cap2, rfl⟩ := okWide_slice Tryd.underlying24 (hval 2 24 v2 rfl rfl)
  have k2 := h2
  have lt2 : ∀ x ∈ p2, x.block < W.heap.size := by obtain ⟨m, hm⟩ := k2; exact DataW.trod_lt m _ _ _ hm
  obtain ⟨z2, w2, c2, b2⟩ := open_i64s h2
  have ht : Arit W := arit_of hL
  have hv1 := hV
  obtain ⟨g, t, cs, fuel, d, p', rfl, hg, hty, hvar, hd, rfl⟩ := trodVars_one hV
  clear hA0
  refine (walk z0 a1 len1 cap1 z1 a2 len2 cap2 z2 W b0 w1 c1 b1 w2 c2 b2 ht).mono fun e W' ⟨he, bel⟩ => ?_
  subst he
  exact ⟨_, rfl, _, _, _, [], _, _, hW', trodAll_mk1 (shut_bool Tryd.underlying4 _),
    (trodAll_cons_mk (shut_int Tryd.underlying2 b0) (trodAll_cons_mk (Below.trod laidOut (by kernel_rfl) (of_decide_eq_true (by kernel_rfl)) k1 bel lt1) (trodAll_cons_mk (Below.trod laidOut (by kernel_rfl) (of_decide_eq_true (by kernel_rfl)) k2 bel lt2) trodAll_mk0))),
    vars_below bel (readable_all _ (by kernel_rfl)) hv1, bel.frame _, fun h => by cases h⟩

theorem laid_met (os : Os) : laidMet Tryd.prog Rows.fnExactJoinedRow.laid ((laidWorld os).forCall (fun _ _ => 0) ⟨#[], #[.int .i64 0, .slice none 0 0, .slice none 0 0], []⟩).memory :=
  laidMet_of_run' 8 (by kernel_rfl) (by kernel_rfl)
theorem reads (os : Os) {H : Type} (enc : TypeId × Value → H) : ∃ x, DataW.whole enc Tryd.prog ((laidWorld os).forCall (fun _ _ => 0) ⟨#[], #[.int .i64 0, .slice none 0 0, .slice none 0 0], []⟩).memory Tryd.f10.params.toList Rows.fnExactJoinedSpec.vars false (#[.int .i64 0, .slice none 0 0, .slice none 0 0] : Array Value).toList 8 = some x :=
  Option.isSome_iff_exists.1 (by kernel_rfl)

set_option maxRecDepth 100000 in
theorem lifted (os : Os) (started : os.Started) (H : Type) (enc : TypeId × Value → H) (F : Stop.Interp) :
    ReturnsInHanded {} Tryd.checked os 10 .any ((OpenSpec.ofChange Rows.fnExactJoinedSpec).preRow enc Tryd.prog Tryd.f10 Rows.fnExactJoinedRow.domain false Rows.fnExactJoinedRow.laid) (((OpenSpec.ofChange Rows.fnExactJoinedSpec).at F).post enc Tryd.prog Tryd.f10 false true false false) := by
  obtain ⟨places, hx⟩ := reads os enc
  refine returnsInHanded_of_row (C := Tryd.checked) (s := OpenSpec.ofChange Rows.fnExactJoinedSpec) own started (by kernel_rfl) Tryd.func10
    (witness_row_at (enc := enc) (C := Tryd.checked) false (laidWorld os) #[.int .i64 0, .slice none 0 0, .slice none 0 0] rfl (by kernel_rfl) (by kernel_rfl) (by kernel_rfl)
      (OpenSpec.preRow_of_cond 8 hx rfl (fun k hk => by cases hk) (by kernel_rfl) (laid_met os))) ?_
  intro W base args ds gs before hval hW _ _ _ hL _ _
  exact contract H enc W base args ds gs before hval hW hL

theorem said : Rows.FnExactJoinedSaid :=
  OpenClaim.holds_of_cond 10 Tryd.f10 rfl rfl rfl rfl rfl rfl rfl ⟨rfl, rfl, rfl, rfl, rfl⟩ rfl rfl rfl rfl rfl (by kernel_rfl) Tryd.func10 (by kernel_rfl)
    (of_decide_eq_true (by kernel_rfl)) (by unfold Func.isWrapper; first | (rw [if_pos (by decide +kernel)]; kernel_rfl) | (rw [if_neg (by decide +kernel)]; exact ⟨rfl, rfl⟩))
    (fun os started H enc _ F => by rw [OpenClaim.pre_eq_preRow]; exact lifted os started H enc F)

theorem plain (f : FuncId) (fn : Func) (hf : Tryd.pinned.checked.prog.funcNamed "loop.example/g00872/laws.FnExactJoined" = some f) (hfn : Tryd.pinned.checked.prog.funcs[f]? = some fn) :
    false = Tryd.pinned.checked.prog.looks [] ∧ ∀ (j : Nat) t, fn.params[j]? = some t → Tryd.pinned.checked.prog.wantsStandIn t = false := by
  obtain rfl : f = 10 := Option.some.inj ((show Tryd.prog.funcNamed "loop.example/g00872/laws.FnExactJoined" = some 10 by kernel_rfl).symm.trans hf) |>.symm
  obtain rfl : fn = Tryd.f10 := (Option.some.inj (Tryd.func10.symm.trans hfn)).symm
  refine ⟨by kernel_rfl, fun j t ht => ?_⟩
  rw [Tryd.params10] at ht
  have hm : t ∈ [2, 24, 24] := by simpa using Array.mem_of_getElem? ht
  have hall : ([2, 24, 24].all fun u => !Tryd.prog.wantsStandIn u) = true := by kernel_rfl
  exact (show Tryd.prog.wantsStandIn t = false by simpa using List.all_eq_true.1 hall t hm)

/-- The statement. -/
theorem card : Rows.FnExactJoinedCardSaid :=
  Claim7.holds_tied_plain_at .later [] _ _ _ _ said (fun _ h => by cases h) (by kernel_rfl) (fun _ h => by cases h) fnExactJoined_row_tie rfl ⟨rfl, rfl⟩ (by kernel_rfl) rfl plain (by kernel_rfl)
end Go.Proofs.YtgblfcalbikgfaaDoor.fnExactJoined
