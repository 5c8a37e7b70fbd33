/- Proved: for all arguments the law that LeavesOf answers as its model, leaves its argument and shares no memory answers true and leaves its argument as it was (FnExactLeavesOf). Conditions: the row's own: the listed tables read as the program's text lays them, which the card ties to that text. -/
import Derived.Test.YtgblfcalbikgfaaDoorFrame
import Derived.Test.YtgblfcalbikgfaaDoorLeaves
namespace Go.Proofs.YtgblfcalbikgfaaDoor.fnExactLeavesOf
open Go.ChangeShapes Go.WideShapes Go.ChangeAt Go.RowKit

theorem walk_big0 (A0 : Option Addr) (n0 c0 : Nat) (w : World) (hn : ¬ n0 ≤ 1048576) :
    Calls Tryd.prog 12 #[.slice A0 n0 c0] w fun e w' => e = .returned (.bool true) ∧ Below w.heap.size w w' := by
  have hd0 : decide (1048576 < (n0 : Int)) = true := decide_eq_true (by omega)
  go_enter Tryd.func12, Tryd.ntmps12
  go_wp2
  go_ret
  exact ⟨rfl, Below.refl _ _⟩

set_option maxHeartbeats 4000000 in
theorem walk_mid (A0 : Option Addr) (n0 c0 : Nat) (f0 : List Int) (w : World) (h0 : RdI w w.heap.size A0 n0 f0) (_hnc0 : n0 ≤ c0) (_hf0 : ∀ z ∈ f0, (Lit.int .i64 z).wf = true) (ht : Arit w) (hn0 : n0 ≤ 1048576) :
    Calls Tryd.prog 12 #[.slice A0 n0 c0] w fun e w' => e = .returned (.bool true) ∧ Below w.heap.size w w' := by
  have hd0 : decide (1048576 < (n0 : Int)) = false := decide_eq_false (by omega)
  have hlen : (leavesL f0).length ≤ 1048576 := Nat.le_trans (leavesL_len f0) (by decide)
  generalize hV : leavesL f0 = V at hlen
  have HV := Lib.hid hV; clear hV
  have B0 : Below w.heap.size w w := Below.refl _ _
  go_enter Tryd.func12, Tryd.ntmps12
  go_wp2_with (fail)
  refine (toInts_any A0 n0 c0 f0 w ((h0.below B0).more B0.size) hn0).mono ?_
  rintro e w1 ⟨rfl, o_a0_1, bel1⟩
  have B1 := B0.trans (bel1.mono B0.size)
  have s1 := bel1.size
  clear bel1
  go_wp2_with (fail)
  refine (sLeavesOf_any _ n0 n0 f0 w1 (RdI.of_own o_a0_1)).mono ?_
  rw [HV.out]
  rintro e w2 ⟨A_v, c_v, rfl, o_v_2, bel2⟩
  have B2 := B1.trans (bel2.mono B1.size)
  have s2 := bel2.size
  have o_a0_2 := own_below o_a0_1 bel2 (Nat.le_refl _)
  clear bel2
  go_wp2_with (fail)
  refine (toInts_any A0 n0 c0 f0 w2 ((h0.below B2).more B2.size) hn0).mono ?_
  rintro e w3 ⟨rfl, o_x0_3, bel3⟩
  have B3 := B2.trans (bel3.mono B2.size)
  have s3 := bel3.size
  have o_v_3 := own_below o_v_2 bel3 (Nat.le_refl _)
  clear bel3
  go_wp2_with (fail)
  refine (leavesOf_impl _ n0 n0 f0 w3 (RdI.of_own o_x0_3) (ht.below B3 ht.lt) (Nat.le_refl _)).mono ?_
  rw [HV.out]
  rintro e w4 ⟨A_g, c_g, rfl, o_g_4, bel4⟩
  have B4 := B3.trans (bel4.mono B3.size)
  have s4 := bel4.size
  have o_v_4 := own_below o_v_3 bel4 (Nat.le_refl _)
  have o_x0_4 := own_below o_x0_3 bel4 (Nat.le_refl _)
  clear bel4 o_v_3
  go_wp2_with (fail)
  refine (eqInts_any _ _ _ _ _ _ V V w4 (RdI.of_own o_g_4) (RdI.of_own o_v_4) hlen hlen).mono ?_
  rintro e w5 ⟨rfl, bel5⟩
  have B5 := B4.trans (bel5.mono B4.size)
  have s5 := bel5.size
  have o_v_5 := own_below o_v_4 bel5 (Nat.le_refl _)
  have o_x0_5 := own_below o_x0_4 bel5 (Nat.le_refl _)
  have o_g_5 := own_below o_g_4 bel5 (Nat.le_refl _)
  clear bel5 o_v_4 o_x0_4
  go_wp2_with (fail)
  refine (toInts_any A0 n0 c0 f0 w5 ((h0.below B5).more B5.size) hn0).mono ?_
  rintro e w6 ⟨rfl, o_t_6, bel6⟩
  have B6 := B5.trans (bel6.mono B5.size)
  have s6 := bel6.size
  have o_v_6 := own_below o_v_5 bel6 (Nat.le_refl _)
  have o_x0_6 := own_below o_x0_5 bel6 (Nat.le_refl _)
  have o_g_6 := own_below o_g_5 bel6 (Nat.le_refl _)
  clear bel6 o_v_5 o_x0_5 o_g_5
  go_wp2_with (fail)
  refine (eqInts_any _ _ _ _ _ _ f0 f0 w6 (RdI.of_own o_x0_6) (RdI.of_own o_t_6) hn0 hn0).mono ?_
  rintro e w7 ⟨rfl, bel7⟩
  have B7 := B6.trans (bel7.mono B6.size)
  have s7 := bel7.size
  have o_v_7 := own_below o_v_6 bel7 (Nat.le_refl _)
  have o_x0_7 := own_below o_x0_6 bel7 (Nat.le_refl _)
  have o_g_7 := own_below o_g_6 bel7 (Nat.le_refl _)
  have o_t_7 := own_below o_t_6 bel7 (Nat.le_refl _)
  clear bel7 o_v_6 o_x0_6 o_g_6
  go_wp2_with (fail)
  refine (mark_any _ _ _ f0 (1) w7 _ o_x0_7 hn0 (by omega) (by omega)).mono ?_
  rintro e w8 ⟨rfl, o_x0_8, gr8⟩
  have B8 := below_grown B7 gr8 o_x0_7 (by omega) B7.size
  have s8 := gr8.size
  have o_v_8 := o_v_7.kept gr8 (own_ne o_v_2 o_x0_3 (Nat.le_refl _) (by omega))
  have o_g_8 := o_g_7.kept gr8 (own_ne' o_x0_3 o_g_4 (Nat.le_refl _) (by omega))
  clear gr8 o_v_7 o_x0_7 o_g_7
  have hkk : decide (1 + (n0 : Int) < 0) = false := decide_eq_false (by omega)
  go_wp2_with (fail)
  refine (eqInts_any _ _ _ _ _ _ V V w8 (RdI.of_own o_g_8) (RdI.of_own o_v_8) hlen hlen).mono ?_
  rintro e w9 ⟨rfl, bel9⟩
  have B9 := B8.trans (bel9.mono B8.size)
  have s9 := bel9.size
  have o_v_9 := own_below o_v_8 bel9 (Nat.le_refl _)
  have o_g_9 := own_below o_g_8 bel9 (Nat.le_refl _)
  clear bel9 o_v_8 o_g_8
  have hmm : decide (1 + (V.length : Int) < 0) = false := decide_eq_false (by omega)
  go_wp2_with (fail)
  refine (mark_any _ _ _ V 1 w9 _ o_g_9 hlen (by omega) (by omega)).mono ?_
  rintro e w10 ⟨rfl, o_g_10, gr10⟩
  have B10 := below_grown B9 gr10 o_g_9 (by omega) B9.size
  have s10 := gr10.size
  have o_v_10 := o_v_9.kept gr10 (own_ne o_v_2 o_g_4 (Nat.le_refl _) (by omega))
  clear gr10 o_v_9 o_g_9
  go_wp2_with (fail)
  refine (held_any _ _ _ 1 w10 (RdI.of_own o_g_10) hlen (by omega) (by omega)).mono ?_
  rintro e w' ⟨rfl, rfl⟩
  go_wp2_with (fail)
  refine (toInts_any A0 n0 c0 f0 w10 ((h0.below B10).more B10.size) hn0).mono ?_
  rintro e w11 ⟨rfl, o_b0_11, bel11⟩
  have B11 := B10.trans (bel11.mono B10.size)
  have s11 := bel11.size
  have o_v_11 := own_below o_v_10 bel11 (Nat.le_refl _)
  have o_g_11 := own_below o_g_10 bel11 (Nat.le_refl _)
  clear bel11 o_v_10 o_g_10
  go_wp2_with (fail)
  refine (leavesOf_impl _ n0 n0 f0 w11 (RdI.of_own o_b0_11) (ht.below B11 ht.lt) (Nat.le_refl _)).mono ?_
  rw [HV.out]
  rintro e w12 ⟨A_hh, c_hh, rfl, o_hh_12, bel12⟩
  have B12 := B11.trans (bel12.mono B11.size)
  have s12 := bel12.size
  have o_v_12 := own_below o_v_11 bel12 (Nat.le_refl _)
  have o_g_12 := own_below o_g_11 bel12 (Nat.le_refl _)
  have o_b0_12 := own_below o_b0_11 bel12 (Nat.le_refl _)
  clear bel12 o_v_11 o_g_11
  go_wp2_with (fail)
  refine (eqInts_any _ _ _ _ _ _ V V w12 (RdI.of_own o_hh_12) (RdI.of_own o_v_12) hlen hlen).mono ?_
  rintro e w13 ⟨rfl, bel13⟩
  have B13 := B12.trans (bel13.mono B12.size)
  have s13 := bel13.size
  have o_v_13 := own_below o_v_12 bel13 (Nat.le_refl _)
  have o_g_13 := own_below o_g_12 bel13 (Nat.le_refl _)
  have o_hh_13 := own_below o_hh_12 bel13 (Nat.le_refl _)
  clear bel13 o_v_12 o_g_12
  go_wp2_with (fail)
  refine (held_any _ _ _ 1 w13 (RdI.of_own o_g_13) hlen (by omega) (by omega)).mono ?_
  rintro e w' ⟨rfl, rfl⟩
  have HB := Lib.hid B13
  go_wp2
  go_ret
  exact ⟨rfl, HB.out⟩

theorem walk (A0 : Option Addr) (n0 c0 : Nat) (f0 : List Int) (w : World) (h0 : RdI w w.heap.size A0 n0 f0) (_hnc0 : n0 ≤ c0) (_hf0 : ∀ z ∈ f0, (Lit.int .i64 z).wf = true) (ht : Arit w) :
    Calls Tryd.prog 12 #[.slice A0 n0 c0] w fun e w' => e = .returned (.bool true) ∧ Below w.heap.size w w' := by
  by_cases hn0 : n0 ≤ 1048576
  · exact walk_mid A0 n0 c0 f0 w h0 _hnc0 _hf0 ht hn0
  · exact walk_big0 A0 n0 c0 w hn0

/-- What the walk gives, for all arguments and every world that holds the tables. -/
theorem contract (H : Type) (enc : TypeId × Value → H) (W : World) (base : Nat) (args : Array Value) (ds gs : List (DataW H)) (before : List MemPlace)
    (hval : ∀ (j : Nat) t v, Tryd.f12.params[j]? = some t → args[j]? = some v → Value.okWide Tryd.prog W .any base t v)
    (hW : DataW.Whole enc Tryd.prog Tryd.f12.params.toList Rows.fnExactLeavesOfSpec.vars false W args.toList ds gs before) (hL : laidMetH Tryd.prog Rows.fnExactLeavesOfRow.laid W) :
    Calls Tryd.prog 12 args W fun e W' => ∃ v, e = .returned v ∧ Rows.fnExactLeavesOfSpec.post enc Tryd.prog Tryd.f12 false true false false W args v W' := by
  have hW' := hW
  obtain ⟨p, q, hA0, hV, rfl, hfz, hnd⟩ := hW
  have hA : DataW.TrodAll enc Tryd.prog W 0 (fun _ => true) true Tryd.f12.params.toList args.toList ds p := hA0
  rw [Tryd.params12] at hA hval
  obtain ⟨v0, vs0, d0, ds0, p0, q0, hargs, rfl, rfl, h0, r0⟩ := trodAll_cons hA
  obtain ⟨rfl, rfl, rfl⟩ := trodAll_nil r0
  obtain rfl : args = #[v0] := by cases args; simp_all
  obtain ⟨a0, len0, cap0, rfl⟩ := okWide_slice Tryd.underlying24 (hval 0 24 v0 rfl rfl)
  have k0 := h0
  have lt0 : ∀ x ∈ p0, x.block < W.heap.size := by obtain ⟨m, hm⟩ := k0; exact DataW.trod_lt m _ _ _ hm
  obtain ⟨z0, w0, c0, b0⟩ := open_i64s h0
  have ht : Arit W := arit_of hL
  have hv1 := hV
  obtain ⟨g, t, cs, fuel, d, p', rfl, hg, hty, hvar, hd, rfl⟩ := trodVars_one hV
  clear hA0
  refine (walk a0 len0 cap0 z0 W w0 c0 b0 ht).mono fun e W' ⟨he, bel⟩ => ?_
  subst he
  exact ⟨_, rfl, _, _, _, [], _, _, hW', trodAll_mk1 (shut_bool Tryd.underlying4 _),
    (trodAll_cons_mk (Below.trod laidOut (by kernel_rfl) (of_decide_eq_true (by kernel_rfl)) k0 bel lt0) trodAll_mk0),
    vars_below bel (readable_all _ (by kernel_rfl)) hv1, bel.frame _, fun h => by cases h⟩

theorem laid_met (os : Os) : laidMet Tryd.prog Rows.fnExactLeavesOfRow.laid ((laidWorld os).forCall (fun _ _ => 0) ⟨#[], #[.slice none 0 0], []⟩).memory :=
  laidMet_of_run' 8 (by kernel_rfl) (by kernel_rfl)
theorem reads (os : Os) {H : Type} (enc : TypeId × Value → H) : ∃ x, DataW.whole enc Tryd.prog ((laidWorld os).forCall (fun _ _ => 0) ⟨#[], #[.slice none 0 0], []⟩).memory Tryd.f12.params.toList Rows.fnExactLeavesOfSpec.vars false (#[.slice none 0 0] : Array Value).toList 8 = some x :=
  Option.isSome_iff_exists.1 (by kernel_rfl)

set_option maxRecDepth 100000 in
theorem lifted (os : Os) (started : os.Started) (H : Type) (enc : TypeId × Value → H) (F : Stop.Interp) :
    ReturnsInHanded {} Tryd.checked os 12 .any ((OpenSpec.ofChange Rows.fnExactLeavesOfSpec).preRow enc Tryd.prog Tryd.f12 Rows.fnExactLeavesOfRow.domain false Rows.fnExactLeavesOfRow.laid) (((OpenSpec.ofChange Rows.fnExactLeavesOfSpec).at F).post enc Tryd.prog Tryd.f12 false true false false) := by
  obtain ⟨places, hx⟩ := reads os enc
  refine returnsInHanded_of_row (C := Tryd.checked) (s := OpenSpec.ofChange Rows.fnExactLeavesOfSpec) own started (by kernel_rfl) Tryd.func12
    (witness_row_at (enc := enc) (C := Tryd.checked) false (laidWorld os) #[.slice none 0 0] rfl (by kernel_rfl) (by kernel_rfl) (by kernel_rfl)
      (OpenSpec.preRow_of_cond 8 hx rfl (fun k hk => by cases hk) (by kernel_rfl) (laid_met os))) ?_
  intro W base args ds gs before hval hW _ _ _ hL _ _
  exact contract H enc W base args ds gs before hval hW hL

theorem said : Rows.FnExactLeavesOfSaid :=
  OpenClaim.holds_of_cond 12 Tryd.f12 rfl rfl rfl rfl rfl rfl rfl ⟨rfl, rfl, rfl, rfl, rfl⟩ rfl rfl rfl rfl rfl (by kernel_rfl) Tryd.func12 (by kernel_rfl)
    (of_decide_eq_true (by kernel_rfl)) (by unfold Func.isWrapper; first | (rw [if_pos (by decide +kernel)]; kernel_rfl) | (rw [if_neg (by decide +kernel)]; exact ⟨rfl, rfl⟩))
    (fun os started H enc _ F => by rw [OpenClaim.pre_eq_preRow]; exact lifted os started H enc F)

theorem plain (f : FuncId) (fn : Func) (hf : Tryd.pinned.checked.prog.funcNamed "loop.example/g00872/laws.FnExactLeavesOf" = some f) (hfn : Tryd.pinned.checked.prog.funcs[f]? = some fn) :
    false = Tryd.pinned.checked.prog.looks [] ∧ ∀ (j : Nat) t, fn.params[j]? = some t → Tryd.pinned.checked.prog.wantsStandIn t = false := by
  obtain rfl : f = 12 := Option.some.inj ((show Tryd.prog.funcNamed "loop.example/g00872/laws.FnExactLeavesOf" = some 12 by kernel_rfl).symm.trans hf) |>.symm
  obtain rfl : fn = Tryd.f12 := (Option.some.inj (Tryd.func12.symm.trans hfn)).symm
  refine ⟨by kernel_rfl, fun j t ht => ?_⟩
  rw [Tryd.params12] at ht
  have hm : t ∈ [24] := by simpa using Array.mem_of_getElem? ht
  have hall : ([24].all fun u => !Tryd.prog.wantsStandIn u) = true := by kernel_rfl
  exact (show Tryd.prog.wantsStandIn t = false by simpa using List.all_eq_true.1 hall t hm)

/-- The statement. -/
theorem card : Rows.FnExactLeavesOfCardSaid :=
  Claim7.holds_tied_plain_at .later [] _ _ _ _ said (fun _ h => by cases h) (by kernel_rfl) (fun _ h => by cases h) fnExactLeavesOf_row_tie rfl ⟨rfl, rfl⟩ (by kernel_rfl) rfl plain (by kernel_rfl)
end Go.Proofs.YtgblfcalbikgfaaDoor.fnExactLeavesOf
