/- Proved: for all arguments the law that RenamingOf answers as its model, leaves its argument and shares no memory answers true and leaves its argument as it was (FnExactRenamingOf). Conditions: the row's own: the listed tables read as the program's text lays them, which the card ties to that text. -/
import Derived.Test.YtoniekjchabjlaaFrame
import Derived.Test.YtoniekjchabjlaaFrameO
import Derived.Test.YtoniekjchabjlaaRenB
namespace Go.Proofs.Ytoniekjchabjlaa.fnExactRenamingOf
open Go.ChangeShapes Go.WideShapes Go.ChangeAt Go.RowKit

theorem walk_big0 (A0 : Option Addr) (n0 c0 : Nat) (_x0 : List Int) (w : World)    (hb : ¬ n0 ≤ 1048576) :
    Calls Try.prog 3 #[.slice A0 n0 c0] w fun e w' => e = .returned (.bool true) ∧ Below w.heap.size w w' := by
  have hd0 : decide (1048576 < (n0 : Int)) = true := decide_eq_true (by omega)
  have B0 : Below w.heap.size w w := Below.refl _ _
  go_enter Try.func3, Try.ntmps3
  have HB := Lib.hid B0
  clear B0
  go_wp2
  go_ret
  exact ⟨rfl, HB.out⟩

set_option maxRecDepth 100000 in
set_option maxHeartbeats 8000000 in
theorem walk_mid (A0 : Option Addr) (n0 c0 : Nat) (x0 : List Int) (w : World) (h0 : RdI w w.heap.size A0 n0 x0) (hn0 : n0 ≤ 1048576)  :
    Calls Try.prog 3 #[.slice A0 n0 c0] w fun e w' => e = .returned (.bool true) ∧ Below w.heap.size w w' := by
  have hm0 : n0 ≤ maxLen := Nat.le_trans hn0 (by decide)
  have hl0 := h0.len
  obtain ⟨hv1, hv2⟩ : (rnL x0).length ≤ 1048576 ∧ total (rnL x0) ≤ 1048576 := rnL_small x0
  generalize hV : rnL x0 = V at hv1 hv2
  have HV := Lib.hid hV; clear hV
  have HV3 : Hid (∀ q ∈ V, q.length ≤ 1048576) := Lib.hid fun q hq' => Nat.le_trans (mem_total hq') hv2
  generalize hVb : rnB x0 = Vb
  have HVb := Lib.hid hVb; clear hVb
  have hbb : (Vb != Vb) = false := by simp
  have hd0 : decide (1048576 < (n0 : Int)) = false := decide_eq_false (by omega)
  have H0 := Lib.hid h0
  clear h0
  have B0 : Below w.heap.size w w := Below.refl _ _
  go_enter Try.func3, Try.ntmps3
  go_wp2_with (fail)
  refine (toI_x A0 n0 c0 x0 w ((H0.out.below B0).more B0.size) hn0).mono ?_
  rintro e w1 ⟨g_p0, rfl, own1, bel1⟩
  have o_p0_1 := Lib.hid own1
  clear own1
  have s1 := bel1.size
  have B1 := B0.trans (bel1.mono B0.size)
  clear bel1 B0
  go_wp2_with (fail)
  refine (sRenaming_any (some ⟨g_p0, 0, none⟩) n0 n0 x0 w1 (o_p0_1.out.rd)).mono ?_
  rw [HV.out, HVb.out]
  rintro e w2 ⟨hs_v, A_v, c_v, rfl, own2, bel2⟩
  have o_v_2 := Lib.hid own2
  clear own2
  have s2 := bel2.size
  have B2 := B1.trans (bel2.mono B1.size)
  have o_p0_2 := Lib.hid (o_p0_1.out.below bel2)
  clear bel2 B1 o_p0_1
  generalize w1.heap.size = m1 at *
  clear o_p0_2
  go_wp2_with (fail)
  refine (toI_x A0 n0 c0 x0 w2 ((H0.out.below B2).more B2.size) hn0).mono ?_
  rintro e w3 ⟨g_x0, rfl, own3, bel3⟩
  have o_x0_3 := Lib.hid own3
  clear own3
  have s3 := bel3.size
  have B3 := B2.trans (bel3.mono B2.size)
  have o_v_3 := Lib.hid (o_v_2.out.below bel3)
  clear bel3 B2 o_v_2
  generalize w2.heap.size = m2 at *
  go_wp2_with (fail)
  refine (renaming_impl (some ⟨g_x0, 0, none⟩) n0 n0 x0 w3 (o_x0_3.out.rd)).mono ?_
  rw [HV.out, HVb.out]
  rintro e w4 ⟨hs_g, A_g, c_g, rfl, own4, bel4⟩
  have o_g_4 := Lib.hid own4
  clear own4
  have s4 := bel4.size
  have B4 := B3.trans (bel4.mono B3.size)
  have o_v_4 := Lib.hid (o_v_3.out.below bel4)
  have o_x0_4 := Lib.hid (o_x0_3.out.below bel4)
  clear bel4 B3 o_v_3 o_x0_3
  generalize w3.heap.size = m3 at *
  go_wp2_with (fail)
  refine (eqQ_x _ _ _ _ _ V w4 (o_g_4.out.rd rfl) (o_v_4.out.rd rfl) hv1 HV3.out).mono ?_
  rintro e w5 ⟨rfl, bel5⟩
  have s5 := bel5.size
  have B5 := B4.trans (bel5.mono B4.size)
  have o_v_5 := Lib.hid (o_v_4.out.below bel5)
  have o_x0_5 := Lib.hid (o_x0_4.out.below bel5)
  have o_g_5 := Lib.hid (o_g_4.out.below bel5)
  clear bel5 B4 o_v_4 o_x0_4 o_g_4
  generalize w4.heap.size = m4 at *
  go_wp2_with (fail)
  refine (toI_x A0 n0 c0 x0 w5 ((H0.out.below B5).more B5.size) hn0).mono ?_
  rintro e w6 ⟨g_t, rfl, own6, bel6⟩
  have o_t_6 := Lib.hid own6
  clear own6
  have s6 := bel6.size
  have B6 := B5.trans (bel6.mono B5.size)
  have o_v_6 := Lib.hid (o_v_5.out.below bel6)
  have o_x0_6 := Lib.hid (o_x0_5.out.below bel6)
  have o_g_6 := Lib.hid (o_g_5.out.below bel6)
  clear bel6 B5 o_v_5 o_x0_5 o_g_5
  generalize w5.heap.size = m5 at *
  go_wp2_with (fail)
  refine (eqI_x _ _ _ _ _ x0 w6 (o_x0_6.out.rd) (o_t_6.out.rd) hn0).mono ?_
  rintro e w7 ⟨rfl, bel7⟩
  have s7 := bel7.size
  have B7 := B6.trans (bel7.mono B6.size)
  have o_v_7 := Lib.hid (o_v_6.out.below bel7)
  have o_x0_7 := Lib.hid (o_x0_6.out.below bel7)
  have o_g_7 := Lib.hid (o_g_6.out.below bel7)
  have o_t_7 := Lib.hid (o_t_6.out.below bel7)
  clear bel7 B6 o_v_6 o_x0_6 o_g_6 o_t_6
  generalize w6.heap.size = m6 at *
  clear o_t_7
  go_wp2_with (fail)
  refine (markI_x _ _ _ x0 (1) w7 _ _ o_x0_7.out hn0 (by omega) (by omega)).mono ?_
  rintro e w8 ⟨rfl, own8, kp8⟩
  have o_x0_8 := Lib.hid own8
  clear own8
  have s8 := kp8.size
  have B8 := kp8.to_below B7 (by omega) B7.size
  have o_v_8 := Lib.hid (o_v_7.out.kept kp8 (by omega))
  have o_g_8 := Lib.hid (o_g_7.out.kept kp8 (by omega))
  clear kp8 B7 o_v_7 o_x0_7 o_g_7
  generalize w7.heap.size = m7 at *
  have hkk : decide (1 + (n0 : Int) < 0) = false := decide_eq_false (by omega)
  clear o_x0_8
  go_wp2_with (fail)
  refine (eqQ_x _ _ _ _ _ V w8 (o_g_8.out.rd rfl) (o_v_8.out.rd rfl) hv1 HV3.out).mono ?_
  rintro e w9 ⟨rfl, bel9⟩
  have s9 := bel9.size
  have B9 := B8.trans (bel9.mono B8.size)
  have o_v_9 := Lib.hid (o_v_8.out.below bel9)
  have o_g_9 := Lib.hid (o_g_8.out.below bel9)
  clear bel9 B8 o_v_8 o_g_8
  generalize w8.heap.size = m8 at *
  have hmm : decide (1 + (total V : Int) < 0) = false := decide_eq_false (by omega)
  go_wp2_with (fail)
  refine (markQ_x _ _ _ _ V (1) w9 _ _ o_g_9.out rfl hv1 hv2 (by omega) (by omega)).mono ?_
  rintro e w10 ⟨rfl, own10, kp10⟩
  have o_g_10 := Lib.hid own10
  clear own10
  have s10 := kp10.size
  have B10 := kp10.to_below B9 (by omega) B9.size
  have o_v_10 := Lib.hid (o_v_9.out.kept kp10 (by omega))
  clear kp10 B9 o_v_9 o_g_9
  generalize w9.heap.size = m9 at *
  go_wp2_with (fail)
  refine (heldQ_x _ _ _ V 1 w10 (o_g_10.out.rd (mrkQ_len _ _)) hv1 hv2 (by decide) (by decide)).mono ?_
  rintro e w11 ⟨rfl, bel11⟩
  have s11 := bel11.size
  have B11 := B10.trans (bel11.mono B10.size)
  have o_v_11 := Lib.hid (o_v_10.out.below bel11)
  have o_g_11 := Lib.hid (o_g_10.out.below bel11)
  clear bel11 B10 o_v_10 o_g_10
  generalize w10.heap.size = m10 at *
  go_wp2_with (fail)
  refine (toI_x A0 n0 c0 x0 w11 ((H0.out.below B11).more B11.size) hn0).mono ?_
  rintro e w12 ⟨g_b0, rfl, own12, bel12⟩
  have o_b0_12 := Lib.hid own12
  clear own12
  have s12 := bel12.size
  have B12 := B11.trans (bel12.mono B11.size)
  have o_v_12 := Lib.hid (o_v_11.out.below bel12)
  have o_g_12 := Lib.hid (o_g_11.out.below bel12)
  clear bel12 B11 o_v_11 o_g_11
  generalize w11.heap.size = m11 at *
  go_wp2_with (fail)
  refine (renaming_impl (some ⟨g_b0, 0, none⟩) n0 n0 x0 w12 (o_b0_12.out.rd)).mono ?_
  rw [HV.out, HVb.out]
  rintro e w13 ⟨hs_hh, A_hh, c_hh, rfl, own13, bel13⟩
  have o_hh_13 := Lib.hid own13
  clear own13
  have s13 := bel13.size
  have B13 := B12.trans (bel13.mono B12.size)
  have o_v_13 := Lib.hid (o_v_12.out.below bel13)
  have o_g_13 := Lib.hid (o_g_12.out.below bel13)
  have o_b0_13 := Lib.hid (o_b0_12.out.below bel13)
  clear bel13 B12 o_v_12 o_g_12 o_b0_12
  generalize w12.heap.size = m12 at *
  clear o_b0_13
  go_wp2_with (fail)
  refine (eqQ_x _ _ _ _ _ V w13 (o_hh_13.out.rd rfl) (o_v_13.out.rd rfl) hv1 HV3.out).mono ?_
  rintro e w14 ⟨rfl, bel14⟩
  have s14 := bel14.size
  have B14 := B13.trans (bel14.mono B13.size)
  have o_v_14 := Lib.hid (o_v_13.out.below bel14)
  have o_g_14 := Lib.hid (o_g_13.out.below bel14)
  have o_hh_14 := Lib.hid (o_hh_13.out.below bel14)
  clear bel14 B13 o_v_13 o_g_13 o_hh_13
  generalize w13.heap.size = m13 at *
  go_wp2_with (fail)
  refine (heldQ_x _ _ _ V 1 w14 (o_g_14.out.rd (mrkQ_len _ _)) hv1 hv2 (by decide) (by decide)).mono ?_
  rintro e w15 ⟨rfl, bel15⟩
  have s15 := bel15.size
  have B15 := B14.trans (bel15.mono B14.size)
  have o_v_15 := Lib.hid (o_v_14.out.below bel15)
  have o_g_15 := Lib.hid (o_g_14.out.below bel15)
  have o_hh_15 := Lib.hid (o_hh_14.out.below bel15)
  clear bel15 B14 o_v_14 o_g_14 o_hh_14
  generalize w14.heap.size = m14 at *
  have HB := Lib.hid B15
  go_wp2
  go_ret
  exact ⟨rfl, HB.out⟩

theorem walk (A0 : Option Addr) (n0 c0 : Nat) (x0 : List Int) (w : World) (h0 : RdI w w.heap.size A0 n0 x0) (_hnc0 : n0 ≤ c0) (_hf0 : ∀ z ∈ x0, (Lit.int .i64 z).wf = true)  :
    Calls Try.prog 3 #[.slice A0 n0 c0] w fun e w' => e = .returned (.bool true) ∧ Below w.heap.size w w' := by
  rcases Nat.lt_or_ge 1048576 (n0) with hb' | hn0
  · have hb : ¬ n0 ≤ 1048576 := by omega
    exact walk_big0 A0 n0 c0 x0  w    hb
  ·
    exact walk_mid A0 n0 c0 x0  w h0 hn0 


set_option maxRecDepth 100000 in
/-- What the walk gives, for all arguments and every world that holds the tables. -/
theorem contract (H : Type) (enc : TypeId × Value → H) (W : World) (base : Nat) (args : Array Value) (ds gs : List (DataW H)) (before : List MemPlace)
    (hval : ∀ (j : Nat) t v, Try.f3.params[j]? = some t → args[j]? = some v → Value.okWide Try.prog W .any base t v)
    (hW : DataW.Whole enc Try.prog Try.f3.params.toList Rows.fnExactRenamingOfSpec.vars false W args.toList ds gs before) (_hL : laidMetH Try.prog Rows.fnExactRenamingOfRow.laid W) (_hS : W.ShapedOpen Try.prog) :
    Calls Try.prog 3 args W fun e W' => ∃ v, e = .returned v ∧ Rows.fnExactRenamingOfSpec.post enc Try.prog Try.f3 false true false false W args v W' := by
  have hW' := hW
  obtain ⟨p, q, hA0, hV, rfl, hfz, hnd⟩ := hW
  have hA : DataW.TrodAll enc Try.prog W 0 (fun _ => true) true Try.f3.params.toList args.toList ds p := hA0
  rw [Try.params3] at hA hval
  obtain ⟨v0, vs0, d0, ds0, p0, q0, hargs, rfl, rfl, h0, r0⟩ := trodAll_cons hA
  obtain ⟨rfl, rfl, rfl⟩ := trodAll_nil r0
  obtain rfl : args = #[v0] := by cases args; simp_all
  obtain ⟨a0, len0, cap0, rfl⟩ := okWide_slice Try.underlying22 (hval 0 22 v0 rfl rfl)
  have k0 := h0
  have lt0 : ∀ x ∈ p0, x.block < W.heap.size := by obtain ⟨m, hm⟩ := k0; exact DataW.trod_lt m _ _ _ hm
  obtain ⟨z0, w0, c0, b0⟩ := open_i64s h0
  have hv1 := hV
  obtain ⟨rfl, rfl⟩ : gs = [] ∧ q = [] := by cases gs with | nil => exact ⟨rfl, hV⟩ | cons => exact hV.elim
  clear hA0
  refine (walk a0 len0 cap0 z0 W w0 c0 b0 ).mono fun e W' ⟨he, bel⟩ => ?_
  subst he
  exact ⟨_, rfl, _, _, _, [], _, _, hW', trodAll_mk1 (shut_bool Try.underlying4 _),
    (trodAll_cons_mk (Below.trod laidOut (by kernel_rfl) (of_decide_eq_true (by kernel_rfl)) k0 bel lt0) trodAll_mk0),
    vars_below bel (readable_all _ (by kernel_rfl)) hv1, bel.frame _, fun h => by cases h⟩

theorem laid_met (os : Os) : laidMet Try.prog Rows.fnExactRenamingOfRow.laid ((World.laidAll Try.prog os Rows.fnExactRenamingOfRow.laid).forCall (fun _ _ => 0) ⟨#[], #[.slice none 0 0], []⟩).memory :=
  laidMet_laidAll _ (by kernel_rfl) (by kernel_rfl)
theorem reads (os : Os) {H : Type} (enc : TypeId × Value → H) : ∃ x, DataW.whole enc Try.prog ((World.laidAll Try.prog os Rows.fnExactRenamingOfRow.laid).forCall (fun _ _ => 0) ⟨#[], #[.slice none 0 0], []⟩).memory Try.f3.params.toList Rows.fnExactRenamingOfSpec.vars false (#[.slice none 0 0] : Array Value).toList 8 = some x :=
  Option.isSome_iff_exists.1 (by kernel_rfl)

set_option maxRecDepth 100000 in
theorem lifted (os : Os) (started : os.Started) (H : Type) (enc : TypeId × Value → H) (F : Stop.Interp) :
    ReturnsInHanded {} Try.checked os 3 .any ((OpenSpec.ofChange Rows.fnExactRenamingOfSpec).preRow enc Try.prog Try.f3 Rows.fnExactRenamingOfRow.domain false Rows.fnExactRenamingOfRow.laid) (((OpenSpec.ofChange Rows.fnExactRenamingOfSpec).at F).post enc Try.prog Try.f3 false true false false) := by
  obtain ⟨places, hx⟩ := reads os enc
  refine returnsInHanded_of_row (C := Try.checked) (s := OpenSpec.ofChange Rows.fnExactRenamingOfSpec) own started (by kernel_rfl) Try.func3
    (witness_row_sh (enc := enc) (C := Try.checked) false (World.laidAll Try.prog os Rows.fnExactRenamingOfRow.laid) #[.slice none 0 0] (World.laidAll_os _ _ _) (World.shaped_of_ZipB (by kernel_rfl) (by kernel_rfl)) (by kernel_rfl)
      (OpenSpec.preRow_of_cond 8 hx rfl (fun k hk => by cases hk) (by kernel_rfl) (laid_met os))) ?_
  intro W base args ds gs before hval hW _ _ _ hL hS _
  exact contract H enc W base args ds gs before hval hW hL hS

theorem said : Rows.FnExactRenamingOfSaid :=
  OpenClaim.holds_of_cond 3 Try.f3 rfl rfl rfl rfl rfl rfl rfl ⟨rfl, rfl, rfl, rfl, rfl⟩ rfl rfl rfl rfl rfl (by kernel_rfl) Try.func3 (by kernel_rfl)
    (of_decide_eq_true (by kernel_rfl)) (by unfold Func.isWrapper; first | (rw [if_pos (by decide +kernel)]; kernel_rfl) | (rw [if_neg (by decide +kernel)]; exact ⟨rfl, rfl⟩))
    (fun os started H enc _ F => by rw [OpenClaim.pre_eq_preRow]; exact lifted os started H enc F)

end Go.Proofs.Ytoniekjchabjlaa.fnExactRenamingOf
