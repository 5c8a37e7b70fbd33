/- Proved: for all arguments the law that Wrapped answers as its model, leaves its arguments and shares no memory answers true and leaves its arguments as they were (FnExactWrapped). Conditions: the row's own: the listed tables read as the program's text lays them, which the card ties to that text. -/
import Derived.Test.YtgblfcalbikgfaaDoorFrame
import Derived.Test.YtgblfcalbikgfaaDoorWrapS
namespace Go.Proofs.YtgblfcalbikgfaaDoor.fnExactWrapped
open Go.ChangeShapes Go.WideShapes Go.ChangeAt Go.RowKit

theorem walk_big1 (i0 : Int) (A1 : Option Addr) (n1 c1 : Nat) (w : World) (hn : ¬ n1 ≤ 1048576) :
    Calls Tryd.prog 11 #[.int .i64 i0, .slice A1 n1 c1] w fun e w' => e = .returned (.bool true) ∧ Below w.heap.size w w' := by
  have hd1 : decide (1048576 < (n1 : Int)) = true := decide_eq_true (by omega)
  go_enter Tryd.func11, Tryd.ntmps11
  go_wp2
  go_ret
  exact ⟨rfl, Below.refl _ _⟩

set_option maxHeartbeats 4000000 in
theorem walk_mid (i0 : Int) (A1 : Option Addr) (n1 c1 : Nat) (f1 : List Int) (w : World) (_hi0 : (Lit.int .i64 i0).wf = true) (h1 : RdI w w.heap.size A1 n1 f1) (_hnc1 : n1 ≤ c1) (_hf1 : ∀ z ∈ f1, (Lit.int .i64 z).wf = true) (ht : Arit w) (hn1 : n1 ≤ 1048576) :
    Calls Tryd.prog 11 #[.int .i64 i0, .slice A1 n1 c1] w fun e w' => e = .returned (.bool true) ∧ Below w.heap.size w w' := by
  have hd1 : decide (1048576 < (n1 : Int)) = false := decide_eq_false (by omega)
  have hlen : (wrapL i0 f1).length ≤ 1048576 := Nat.le_trans (wrapL_len i0 f1) (by decide)
  generalize hV : wrapL i0 f1 = V at hlen
  have HV := Lib.hid hV; clear hV
  generalize hVb : wrapB i0 f1 = Vb
  have HVb := Lib.hid hVb; clear hVb
  have B0 : Below w.heap.size w w := Below.refl _ _
  go_enter Tryd.func11, Tryd.ntmps11
  go_wp2_with (fail)
  refine (toInts_any A1 n1 c1 f1 w ((h1.below B0).more B0.size) hn1).mono ?_
  rintro e w1 ⟨rfl, o_a1_1, bel1⟩
  have B1 := B0.trans (bel1.mono B0.size)
  have s1 := bel1.size
  clear bel1
  go_wp2_with (fail)
  refine (sWrapped_any i0 _ n1 n1 f1 w1 (RdI.of_own o_a1_1)).mono ?_
  rw [HV.out, HVb.out]
  rintro e w2 ⟨A_v, c_v, rfl, o_v_2, bel2⟩
  have B2 := B1.trans (bel2.mono B1.size)
  have s2 := bel2.size
  have o_a1_2 := own_below o_a1_1 bel2 (Nat.le_refl _)
  clear bel2
  go_wp2_with (fail)
  refine (toInts_any A1 n1 c1 f1 w2 ((h1.below B2).more B2.size) hn1).mono ?_
  rintro e w3 ⟨rfl, o_x1_3, bel3⟩
  have B3 := B2.trans (bel3.mono B2.size)
  have s3 := bel3.size
  have o_v_3 := own_below o_v_2 bel3 (Nat.le_refl _)
  clear bel3
  go_wp2_with (fail)
  refine (wrapped_impl i0 _ n1 n1 f1 w3 (RdI.of_own o_x1_3) (ht.below B3 ht.lt) (Nat.le_refl _)).mono ?_
  rw [HV.out, HVb.out]
  rintro e w4 ⟨A_g, c_g, rfl, o_g_4, bel4⟩
  have B4 := B3.trans (bel4.mono B3.size)
  have s4 := bel4.size
  have o_v_4 := own_below o_v_3 bel4 (Nat.le_refl _)
  have o_x1_4 := own_below o_x1_3 bel4 (Nat.le_refl _)
  clear bel4 o_v_3
  go_wp2_with (fail)
  refine (eqInts_any _ _ _ _ _ _ V V w4 (RdI.of_own o_g_4) (RdI.of_own o_v_4) hlen hlen).mono ?_
  rintro e w5 ⟨rfl, bel5⟩
  have B5 := B4.trans (bel5.mono B4.size)
  have s5 := bel5.size
  have o_v_5 := own_below o_v_4 bel5 (Nat.le_refl _)
  have o_x1_5 := own_below o_x1_4 bel5 (Nat.le_refl _)
  have o_g_5 := own_below o_g_4 bel5 (Nat.le_refl _)
  clear bel5 o_v_4 o_x1_4
  go_wp2_with (fail)
  refine (toInts_any A1 n1 c1 f1 w5 ((h1.below B5).more B5.size) hn1).mono ?_
  rintro e w6 ⟨rfl, o_t_6, bel6⟩
  have B6 := B5.trans (bel6.mono B5.size)
  have s6 := bel6.size
  have o_v_6 := own_below o_v_5 bel6 (Nat.le_refl _)
  have o_x1_6 := own_below o_x1_5 bel6 (Nat.le_refl _)
  have o_g_6 := own_below o_g_5 bel6 (Nat.le_refl _)
  clear bel6 o_v_5 o_x1_5 o_g_5
  go_wp2_with (fail)
  refine (eqInts_any _ _ _ _ _ _ f1 f1 w6 (RdI.of_own o_x1_6) (RdI.of_own o_t_6) hn1 hn1).mono ?_
  rintro e w7 ⟨rfl, bel7⟩
  have B7 := B6.trans (bel7.mono B6.size)
  have s7 := bel7.size
  have o_v_7 := own_below o_v_6 bel7 (Nat.le_refl _)
  have o_x1_7 := own_below o_x1_6 bel7 (Nat.le_refl _)
  have o_g_7 := own_below o_g_6 bel7 (Nat.le_refl _)
  have o_t_7 := own_below o_t_6 bel7 (Nat.le_refl _)
  clear bel7 o_v_6 o_x1_6 o_g_6
  go_wp2_with (fail)
  refine (mark_any _ _ _ f1 (1) w7 _ o_x1_7 hn1 (by omega) (by omega)).mono ?_
  rintro e w8 ⟨rfl, o_x1_8, gr8⟩
  have B8 := below_grown B7 gr8 o_x1_7 (by omega) B7.size
  have s8 := gr8.size
  have o_v_8 := o_v_7.kept gr8 (own_ne o_v_2 o_x1_3 (Nat.le_refl _) (by omega))
  have o_g_8 := o_g_7.kept gr8 (own_ne' o_x1_3 o_g_4 (Nat.le_refl _) (by omega))
  clear gr8 o_v_7 o_x1_7 o_g_7
  have hkk : decide (1 + (n1 : Int) < 0) = false := decide_eq_false (by omega)
  go_wp2_with (fail)
  refine (eqInts_any _ _ _ _ _ _ V V w8 (RdI.of_own o_g_8) (RdI.of_own o_v_8) hlen hlen).mono ?_
  rintro e w9 ⟨rfl, bel9⟩
  have B9 := B8.trans (bel9.mono B8.size)
  have s9 := bel9.size
  have o_v_9 := own_below o_v_8 bel9 (Nat.le_refl _)
  have o_g_9 := own_below o_g_8 bel9 (Nat.le_refl _)
  clear bel9 o_v_8 o_g_8
  have hmm : decide (1 + (V.length : Int) < 0) = false := decide_eq_false (by omega)
  go_wp2_with (fail)
  refine (mark_any _ _ _ V 1 w9 _ o_g_9 hlen (by omega) (by omega)).mono ?_
  rintro e w10 ⟨rfl, o_g_10, gr10⟩
  have B10 := below_grown B9 gr10 o_g_9 (by omega) B9.size
  have s10 := gr10.size
  have o_v_10 := o_v_9.kept gr10 (own_ne o_v_2 o_g_4 (Nat.le_refl _) (by omega))
  clear gr10 o_v_9 o_g_9
  go_wp2_with (fail)
  refine (held_any _ _ _ 1 w10 (RdI.of_own o_g_10) hlen (by omega) (by omega)).mono ?_
  rintro e w' ⟨rfl, rfl⟩
  go_wp2_with (fail)
  refine (toInts_any A1 n1 c1 f1 w10 ((h1.below B10).more B10.size) hn1).mono ?_
  rintro e w11 ⟨rfl, o_b1_11, bel11⟩
  have B11 := B10.trans (bel11.mono B10.size)
  have s11 := bel11.size
  have o_v_11 := own_below o_v_10 bel11 (Nat.le_refl _)
  have o_g_11 := own_below o_g_10 bel11 (Nat.le_refl _)
  clear bel11 o_v_10 o_g_10
  go_wp2_with (fail)
  refine (wrapped_impl i0 _ n1 n1 f1 w11 (RdI.of_own o_b1_11) (ht.below B11 ht.lt) (Nat.le_refl _)).mono ?_
  rw [HV.out, HVb.out]
  rintro e w12 ⟨A_hh, c_hh, rfl, o_hh_12, bel12⟩
  have B12 := B11.trans (bel12.mono B11.size)
  have s12 := bel12.size
  have o_v_12 := own_below o_v_11 bel12 (Nat.le_refl _)
  have o_g_12 := own_below o_g_11 bel12 (Nat.le_refl _)
  have o_b1_12 := own_below o_b1_11 bel12 (Nat.le_refl _)
  clear bel12 o_v_11 o_g_11
  go_wp2_with (fail)
  refine (eqInts_any _ _ _ _ _ _ V V w12 (RdI.of_own o_hh_12) (RdI.of_own o_v_12) hlen hlen).mono ?_
  rintro e w13 ⟨rfl, bel13⟩
  have B13 := B12.trans (bel13.mono B12.size)
  have s13 := bel13.size
  have o_v_13 := own_below o_v_12 bel13 (Nat.le_refl _)
  have o_g_13 := own_below o_g_12 bel13 (Nat.le_refl _)
  have o_hh_13 := own_below o_hh_12 bel13 (Nat.le_refl _)
  clear bel13 o_v_12 o_g_12
  go_wp2_with (fail)
  refine (held_any _ _ _ 1 w13 (RdI.of_own o_g_13) hlen (by omega) (by omega)).mono ?_
  rintro e w' ⟨rfl, rfl⟩
  have HB := Lib.hid B13
  go_wp2
  go_ret
  exact ⟨rfl, HB.out⟩

theorem walk (i0 : Int) (A1 : Option Addr) (n1 c1 : Nat) (f1 : List Int) (w : World) (_hi0 : (Lit.int .i64 i0).wf = true) (h1 : RdI w w.heap.size A1 n1 f1) (_hnc1 : n1 ≤ c1) (_hf1 : ∀ z ∈ f1, (Lit.int .i64 z).wf = true) (ht : Arit w) :
    Calls Tryd.prog 11 #[.int .i64 i0, .slice A1 n1 c1] w fun e w' => e = .returned (.bool true) ∧ Below w.heap.size w w' := by
  by_cases hn1 : n1 ≤ 1048576
  · exact walk_mid i0 A1 n1 c1 f1 w _hi0 h1 _hnc1 _hf1 ht hn1
  · exact walk_big1 i0 A1 n1 c1 w hn1

/-- What the walk gives, for all arguments and every world that holds the tables. -/
theorem contract (H : Type) (enc : TypeId × Value → H) (W : World) (base : Nat) (args : Array Value) (ds gs : List (DataW H)) (before : List MemPlace)
    (hval : ∀ (j : Nat) t v, Tryd.f11.params[j]? = some t → args[j]? = some v → Value.okWide Tryd.prog W .any base t v)
    (hW : DataW.Whole enc Tryd.prog Tryd.f11.params.toList Rows.fnExactWrappedSpec.vars false W args.toList ds gs before) (hL : laidMetH Tryd.prog Rows.fnExactWrappedRow.laid W) :
    Calls Tryd.prog 11 args W fun e W' => ∃ v, e = .returned v ∧ Rows.fnExactWrappedSpec.post enc Tryd.prog Tryd.f11 false true false false W args v W' := by
  have hW' := hW
  obtain ⟨p, q, hA0, hV, rfl, hfz, hnd⟩ := hW
  have hA : DataW.TrodAll enc Tryd.prog W 0 (fun _ => true) true Tryd.f11.params.toList args.toList ds p := hA0
  rw [Tryd.params11] at hA hval
  obtain ⟨v0, vs0, d0, ds0, p0, q0, hargs, rfl, rfl, h0, r0⟩ := trodAll_cons hA
  obtain ⟨v1, vs1, d1, ds1, p1, q1, rfl, rfl, rfl, h1, r1⟩ := trodAll_cons r0
  obtain ⟨rfl, rfl, rfl⟩ := trodAll_nil r1
  obtain rfl : args = #[v0, v1] := by cases args; simp_all
  obtain ⟨z0, rfl, rfl, rfl, b0⟩ := open_int Tryd.underlying2 (hval 0 2 v0 rfl rfl) h0
  obtain ⟨a1, len1, cap1, rfl⟩ := okWide_slice Tryd.underlying24 (hval 1 24 v1 rfl rfl)
  have k1 := h1
  have lt1 : ∀ x ∈ p1, x.block < W.heap.size := by obtain ⟨m, hm⟩ := k1; exact DataW.trod_lt m _ _ _ hm
  obtain ⟨z1, w1, c1, b1⟩ := open_i64s h1
  have ht : Arit W := arit_of hL
  have hv1 := hV
  obtain ⟨g, t, cs, fuel, d, p', rfl, hg, hty, hvar, hd, rfl⟩ := trodVars_one hV
  clear hA0
  refine (walk z0 a1 len1 cap1 z1 W b0 w1 c1 b1 ht).mono fun e W' ⟨he, bel⟩ => ?_
  subst he
  exact ⟨_, rfl, _, _, _, [], _, _, hW', trodAll_mk1 (shut_bool Tryd.underlying4 _),
    (trodAll_cons_mk (shut_int Tryd.underlying2 b0) (trodAll_cons_mk (Below.trod laidOut (by kernel_rfl) (of_decide_eq_true (by kernel_rfl)) k1 bel lt1) trodAll_mk0)),
    vars_below bel (readable_all _ (by kernel_rfl)) hv1, bel.frame _, fun h => by cases h⟩

theorem laid_met (os : Os) : laidMet Tryd.prog Rows.fnExactWrappedRow.laid ((laidWorld os).forCall (fun _ _ => 0) ⟨#[], #[.int .i64 0, .slice none 0 0], []⟩).memory :=
  laidMet_of_run' 8 (by kernel_rfl) (by kernel_rfl)
theorem reads (os : Os) {H : Type} (enc : TypeId × Value → H) : ∃ x, DataW.whole enc Tryd.prog ((laidWorld os).forCall (fun _ _ => 0) ⟨#[], #[.int .i64 0, .slice none 0 0], []⟩).memory Tryd.f11.params.toList Rows.fnExactWrappedSpec.vars false (#[.int .i64 0, .slice none 0 0] : Array Value).toList 8 = some x :=
  Option.isSome_iff_exists.1 (by kernel_rfl)

set_option maxRecDepth 100000 in
theorem lifted (os : Os) (started : os.Started) (H : Type) (enc : TypeId × Value → H) (F : Stop.Interp) :
    ReturnsInHanded {} Tryd.checked os 11 .any ((OpenSpec.ofChange Rows.fnExactWrappedSpec).preRow enc Tryd.prog Tryd.f11 Rows.fnExactWrappedRow.domain false Rows.fnExactWrappedRow.laid) (((OpenSpec.ofChange Rows.fnExactWrappedSpec).at F).post enc Tryd.prog Tryd.f11 false true false false) := by
  obtain ⟨places, hx⟩ := reads os enc
  refine returnsInHanded_of_row (C := Tryd.checked) (s := OpenSpec.ofChange Rows.fnExactWrappedSpec) own started (by kernel_rfl) Tryd.func11
    (witness_row_at (enc := enc) (C := Tryd.checked) false (laidWorld os) #[.int .i64 0, .slice none 0 0] rfl (by kernel_rfl) (by kernel_rfl) (by kernel_rfl)
      (OpenSpec.preRow_of_cond 8 hx rfl (fun k hk => by cases hk) (by kernel_rfl) (laid_met os))) ?_
  intro W base args ds gs before hval hW _ _ _ hL _ _
  exact contract H enc W base args ds gs before hval hW hL

theorem said : Rows.FnExactWrappedSaid :=
  OpenClaim.holds_of_cond 11 Tryd.f11 rfl rfl rfl rfl rfl rfl rfl ⟨rfl, rfl, rfl, rfl, rfl⟩ rfl rfl rfl rfl rfl (by kernel_rfl) Tryd.func11 (by kernel_rfl)
    (of_decide_eq_true (by kernel_rfl)) (by unfold Func.isWrapper; first | (rw [if_pos (by decide +kernel)]; kernel_rfl) | (rw [if_neg (by decide +kernel)]; exact ⟨rfl, rfl⟩))
    (fun os started H enc _ F => by rw [OpenClaim.pre_eq_preRow]; exact lifted os started H enc F)

theorem plain (f : FuncId) (fn : Func) (hf : Tryd.pinned.checked.prog.funcNamed "loop.example/g00872/laws.FnExactWrapped" = some f) (hfn : Tryd.pinned.checked.prog.funcs[f]? = some fn) :
    false = Tryd.pinned.checked.prog.looks [] ∧ ∀ (j : Nat) t, fn.params[j]? = some t → Tryd.pinned.checked.prog.wantsStandIn t = false := by
  obtain rfl : f = 11 := Option.some.inj ((show Tryd.prog.funcNamed "loop.example/g00872/laws.FnExactWrapped" = some 11 by kernel_rfl).symm.trans hf) |>.symm
  obtain rfl : fn = Tryd.f11 := (Option.some.inj (Tryd.func11.symm.trans hfn)).symm
  refine ⟨by kernel_rfl, fun j t ht => ?_⟩
  rw [Tryd.params11] at ht
  have hm : t ∈ [2, 24] := by simpa using Array.mem_of_getElem? ht
  have hall : ([2, 24].all fun u => !Tryd.prog.wantsStandIn u) = true := by kernel_rfl
  exact (show Tryd.prog.wantsStandIn t = false by simpa using List.all_eq_true.1 hall t hm)

/-- The statement. -/
theorem card : Rows.FnExactWrappedCardSaid :=
  Claim7.holds_tied_plain_at .later [] _ _ _ _ said (fun _ h => by cases h) (by kernel_rfl) (fun _ h => by cases h) fnExactWrapped_row_tie rfl ⟨rfl, rfl⟩ (by kernel_rfl) rfl plain (by kernel_rfl)
end Go.Proofs.YtgblfcalbikgfaaDoor.fnExactWrapped
