/- Proved: for all arguments the law that ReadSeq answers as its model and shares no memory answers true and leaves its argument as it was (FnExactReadSeq). Conditions: the row's own: the listed tables read as the program's text lays them, which the card ties to that text. -/
import Derived.Test.YtjhagklpnpabeaaDoorFrame
import Derived.Test.YtjhagklpnpabeaaDoorFrameZ
import Derived.Test.YtjhagklpnpabeaaDoorFrameQ
import Derived.Test.YtjhagklpnpabeaaDoorSplS
namespace Go.Proofs.YtjhagklpnpabeaaDoor.fnExactReadSeq
open Go.ChangeShapes Go.WideShapes Go.ChangeAt Go.RowKit

theorem walk_big0 (u0 : ByteArray) (w : World) (hn : ¬ u0.size ≤ 1048576) :
    Calls Tryd.prog 3 #[.string u0] w fun e w' => e = .returned (.bool true) ∧ Below w.heap.size w w' := by
  have hd0 : decide (1048576 < (u0.size : Int)) = true := decide_eq_true (by omega)
  go_enter Tryd.func3, Tryd.ntmps3
  go_wp2
  go_ret
  exact ⟨rfl, Below.refl _ _⟩

set_option maxRecDepth 100000 in
set_option maxHeartbeats 8000000 in
theorem walk_mid (u0 : ByteArray) (w : World)  (hn0 : u0.size ≤ 1048576) (ht : Arit w) (hu : Dual w) (hx : MaxL w) :
    Calls Tryd.prog 3 #[.string u0] w fun e w' => e = .returned (.bool true) ∧ Below w.heap.size w w' := by
  have hd0 : decide (1048576 < (u0.size : Int)) = false := decide_eq_false (by omega)
  obtain ⟨hv1, hv2⟩ : (rqL u0).length ≤ 1048576 ∧ total (rqL u0) ≤ 1048576 := rqL_small u0
  generalize hV : rqL u0 = V at hv1 hv2
  have HV := Lib.hid hV; clear hV
  have hv3 : ∀ q ∈ V, q.length ≤ 1048576 := fun q hq' => Nat.le_trans (mem_total hq') hv2
  generalize hVb : rqB u0 = Vb
  have HVb := Lib.hid hVb; clear hVb
  have hbb : (Vb != Vb) = false := by simp
  have B0 : Below w.heap.size w w := Below.refl _ _
  have HT := Lib.hid ht; have HU := Lib.hid hu; have HX := Lib.hid hx
  have HV3 := Lib.hid hv3
  clear  ht hu hx hv3
  go_enter Tryd.func3, Tryd.ntmps3
  go_wp2_with (fail)
  refine (sReadSeq_any u0 w hn0).mono ?_
  rw [HV.out, HVb.out]
  rintro e w1 ⟨hs_v, A_v, cc_v, rfl, own1, bel1⟩
  have o_v_1 := Lib.hid own1
  clear own1
  have s1 := bel1.size
  have B1 := B0.trans (bel1.mono B0.size)
  clear bel1
  clear B0
  have bel2 : Below w1.heap.size w1 (w1.alloc (.cells #[Value.slice A_v V.length cc_v] 24)) := box_below _ _ _
  have cv_2 : (w1.alloc (.cells #[Value.slice A_v V.length cc_v] 24)).cell? ⟨w1.heap.size, 0, none⟩ = some (Value.slice A_v V.length cc_v) := by simp
  have t2 : w1.heap.size + 1 ≤ (w1.alloc (.cells #[Value.slice A_v V.length cc_v] 24)).heap.size := by simp
  go_wp2_with (fail)
  generalize w1.alloc (.cells #[Value.slice A_v V.length cc_v] 24) = w2 at *
  have s2 := bel2.size
  have B2 := B1.trans (bel2.mono B1.size)
  have o_v_2 := Lib.hid (o_v_1.out.below bel2)
  clear bel2
  clear o_v_1 B1
  generalize w1.heap.size = m1 at *
  refine (readSeq_impl u0 w2 hn0 (HT.out.below B2 HT.out.lt) (HU.out.below B2 HU.out.lt) (HX.out.below B2)).mono ?_
  rw [HV.out, HVb.out]
  rintro e w3 ⟨hs_g, A_g, cc_g, rfl, own3, bel3⟩
  have o_g_3 := Lib.hid own3
  clear own3
  have s3 := bel3.size
  have B3 := B2.trans (bel3.mono B2.size)
  have cv_3 := (bel3.cell (p := ⟨m1, 0, none⟩) (by show m1 < _; omega)).trans cv_2
  have o_v_3 := Lib.hid (o_v_2.out.below bel3)
  clear bel3
  clear cv_2 o_v_2 B2
  generalize w2.heap.size = m2 at *
  have bel4 : Below w3.heap.size w3 (w3.alloc (.cells #[Value.slice A_g V.length cc_g] 24)) := box_below _ _ _
  have cg_4 : (w3.alloc (.cells #[Value.slice A_g V.length cc_g] 24)).cell? ⟨w3.heap.size, 0, none⟩ = some (Value.slice A_g V.length cc_g) := by simp
  have t4 : w3.heap.size + 1 ≤ (w3.alloc (.cells #[Value.slice A_g V.length cc_g] 24)).heap.size := by simp
  have cv_4 := (bel4.cell (p := ⟨m1, 0, none⟩) (by show m1 < _; omega)).trans cv_3
  clear cv_3
  go_wp2_with (fail)
  generalize w3.alloc (.cells #[Value.slice A_g V.length cc_g] 24) = w4 at *
  have s4 := bel4.size
  have B4 := B3.trans (bel4.mono B3.size)
  have o_v_4 := Lib.hid (o_v_3.out.below bel4)
  have o_g_4 := Lib.hid (o_g_3.out.below bel4)
  clear bel4
  clear o_v_3 o_g_3 B3
  generalize w3.heap.size = m3 at *
  refine (eqSeq_any _ _ _ _ _ _ V V w4 (o_g_4.out.rd rfl) (o_v_4.out.rd rfl) hv1 hv1 HV3.out HV3.out).mono ?_
  rw [decide_eq_true (rfl : V = V)]
  rintro e w5 ⟨rfl, bel5⟩
  have s5 := bel5.size
  have B5 := B4.trans (bel5.mono B4.size)
  have cv_5 := (bel5.cell (p := ⟨m1, 0, none⟩) (by show m1 < _; omega)).trans cv_4
  have cg_5 := (bel5.cell (p := ⟨m3, 0, none⟩) (by show m3 < _; omega)).trans cg_4
  have o_v_5 := Lib.hid (o_v_4.out.below bel5)
  have o_g_5 := Lib.hid (o_g_4.out.below bel5)
  clear bel5
  clear cv_4 cg_4 o_v_4 o_g_4 B4
  generalize w4.heap.size = m4 at *
  have hmm : decide (1 + (total V : Int) < 0) = false := decide_eq_false (by omega)
  go_wp2_with (fail)
  refine (markSeq_any _ _ _ _ V (1) w5 _ _ o_g_5.out rfl hv1 hv2 (by omega) (by omega)).mono ?_
  rintro e w6 ⟨rfl, own6, kp6⟩
  have o_g_6 := Lib.hid own6
  clear own6
  have s6 := kp6.size
  have B6 := kp6.to_below B5 (by omega) B5.size
  have cv_6 := (kept_cell kp6 (p := ⟨m1, 0, none⟩) (by show m1 < _; omega) (by show m1 < _ ∨ _ ≤ m1; omega)).trans cv_5
  have cg_6 := (kept_cell kp6 (p := ⟨m3, 0, none⟩) (by show m3 < _; omega) (by show m3 < _ ∨ _ ≤ m3; omega)).trans cg_5
  have o_v_6 := Lib.hid (o_v_5.out.kept kp6 (by omega))
  clear kp6
  clear cv_5 cg_5 o_v_5 o_g_5 B5
  generalize w5.heap.size = m5 at *
  go_wp2_with (fail)
  refine (heldSeq_any _ _ _ V 1 w6 (o_g_6.out.rd (mrkQ_len _ _)) hv1 hv2 (by decide) (by decide)).mono ?_
  rintro e w7 ⟨rfl, bel7⟩
  have s7 := bel7.size
  have B7 := B6.trans (bel7.mono B6.size)
  have cv_7 := (bel7.cell (p := ⟨m1, 0, none⟩) (by show m1 < _; omega)).trans cv_6
  have cg_7 := (bel7.cell (p := ⟨m3, 0, none⟩) (by show m3 < _; omega)).trans cg_6
  have o_v_7 := Lib.hid (o_v_6.out.below bel7)
  have o_g_7 := Lib.hid (o_g_6.out.below bel7)
  clear bel7
  clear cv_6 cg_6 o_v_6 o_g_6 B6
  generalize w6.heap.size = m6 at *
  go_wp2_with (fail)
  refine (readSeq_impl u0 w7 hn0 (HT.out.below B7 HT.out.lt) (HU.out.below B7 HU.out.lt) (HX.out.below B7)).mono ?_
  rw [HV.out, HVb.out]
  rintro e w8 ⟨hs_hh, A_hh, cc_hh, rfl, own8, bel8⟩
  have o_hh_8 := Lib.hid own8
  clear own8
  have s8 := bel8.size
  have B8 := B7.trans (bel8.mono B7.size)
  have cv_8 := (bel8.cell (p := ⟨m1, 0, none⟩) (by show m1 < _; omega)).trans cv_7
  have cg_8 := (bel8.cell (p := ⟨m3, 0, none⟩) (by show m3 < _; omega)).trans cg_7
  have o_v_8 := Lib.hid (o_v_7.out.below bel8)
  have o_g_8 := Lib.hid (o_g_7.out.below bel8)
  clear bel8
  clear cv_7 cg_7 o_v_7 o_g_7 B7
  generalize w7.heap.size = m7 at *
  have bel9 : Below w8.heap.size w8 (w8.alloc (.cells #[Value.slice A_hh V.length cc_hh] 24)) := box_below _ _ _
  have ch_9 : (w8.alloc (.cells #[Value.slice A_hh V.length cc_hh] 24)).cell? ⟨w8.heap.size, 0, none⟩ = some (Value.slice A_hh V.length cc_hh) := by simp
  have t9 : w8.heap.size + 1 ≤ (w8.alloc (.cells #[Value.slice A_hh V.length cc_hh] 24)).heap.size := by simp
  have cv_9 := (bel9.cell (p := ⟨m1, 0, none⟩) (by show m1 < _; omega)).trans cv_8
  have cg_9 := (bel9.cell (p := ⟨m3, 0, none⟩) (by show m3 < _; omega)).trans cg_8
  clear cv_8 cg_8
  go_wp2_with (fail)
  generalize w8.alloc (.cells #[Value.slice A_hh V.length cc_hh] 24) = w9 at *
  have s9 := bel9.size
  have B9 := B8.trans (bel9.mono B8.size)
  have o_v_9 := Lib.hid (o_v_8.out.below bel9)
  have o_g_9 := Lib.hid (o_g_8.out.below bel9)
  have o_hh_9 := Lib.hid (o_hh_8.out.below bel9)
  clear bel9
  clear o_v_8 o_g_8 o_hh_8 B8
  generalize w8.heap.size = m8 at *
  refine (eqSeq_any _ _ _ _ _ _ V V w9 (o_hh_9.out.rd rfl) (o_v_9.out.rd rfl) hv1 hv1 HV3.out HV3.out).mono ?_
  rw [decide_eq_true (rfl : V = V)]
  rintro e w10 ⟨rfl, bel10⟩
  have s10 := bel10.size
  have B10 := B9.trans (bel10.mono B9.size)
  have cv_10 := (bel10.cell (p := ⟨m1, 0, none⟩) (by show m1 < _; omega)).trans cv_9
  have cg_10 := (bel10.cell (p := ⟨m3, 0, none⟩) (by show m3 < _; omega)).trans cg_9
  have ch_10 := (bel10.cell (p := ⟨m8, 0, none⟩) (by show m8 < _; omega)).trans ch_9
  have o_v_10 := Lib.hid (o_v_9.out.below bel10)
  have o_g_10 := Lib.hid (o_g_9.out.below bel10)
  have o_hh_10 := Lib.hid (o_hh_9.out.below bel10)
  clear bel10
  clear cv_9 cg_9 ch_9 o_v_9 o_g_9 o_hh_9 B9
  generalize w9.heap.size = m9 at *
  go_wp2_with (fail)
  refine (heldSeq_any _ _ _ V 1 w10 (o_g_10.out.rd (mrkQ_len _ _)) hv1 hv2 (by decide) (by decide)).mono ?_
  rintro e w11 ⟨rfl, bel11⟩
  have s11 := bel11.size
  have B11 := B10.trans (bel11.mono B10.size)
  have cv_11 := (bel11.cell (p := ⟨m1, 0, none⟩) (by show m1 < _; omega)).trans cv_10
  have cg_11 := (bel11.cell (p := ⟨m3, 0, none⟩) (by show m3 < _; omega)).trans cg_10
  have ch_11 := (bel11.cell (p := ⟨m8, 0, none⟩) (by show m8 < _; omega)).trans ch_10
  have o_v_11 := Lib.hid (o_v_10.out.below bel11)
  have o_g_11 := Lib.hid (o_g_10.out.below bel11)
  have o_hh_11 := Lib.hid (o_hh_10.out.below bel11)
  clear bel11
  clear cv_10 cg_10 ch_10 o_v_10 o_g_10 o_hh_10 B10
  generalize w10.heap.size = m10 at *
  have HB := Lib.hid B11
  go_wp2
  go_ret
  exact ⟨rfl, HB.out⟩

theorem walk (u0 : ByteArray) (w : World) (_hu0 : u0.size ≤ maxLen) (ht : Arit w) (hu : Dual w) (hx : MaxL w) :
    Calls Tryd.prog 3 #[.string u0] w fun e w' => e = .returned (.bool true) ∧ Below w.heap.size w w' := by
  by_cases hn0 : u0.size ≤ 1048576
  · exact walk_mid u0 w hn0 ht hu hx
  · exact walk_big0 u0 w hn0


set_option maxRecDepth 100000 in
/-- What the walk gives, for all arguments and every world that holds the tables. -/
theorem contract (H : Type) (enc : TypeId × Value → H) (W : World) (base : Nat) (args : Array Value) (ds gs : List (DataW H)) (before : List MemPlace)
    (hval : ∀ (j : Nat) t v, Tryd.f3.params[j]? = some t → args[j]? = some v → Value.okWide Tryd.prog W .any base t v)
    (hW : DataW.Whole enc Tryd.prog Tryd.f3.params.toList Rows.fnExactReadSeqSpec.vars false W args.toList ds gs before) (hL : laidMetH Tryd.prog Rows.fnExactReadSeqRow.laid W) (hS : W.ShapedOpen Tryd.prog) :
    Calls Tryd.prog 3 args W fun e W' => ∃ v, e = .returned v ∧ Rows.fnExactReadSeqSpec.post enc Tryd.prog Tryd.f3 false true false false W args v W' := by
  have hW' := hW
  obtain ⟨p, q, hA0, hV, rfl, hfz, hnd⟩ := hW
  have hA : DataW.TrodAll enc Tryd.prog W 0 (fun _ => true) true Tryd.f3.params.toList args.toList ds p := hA0
  rw [Tryd.params3] at hA hval
  obtain ⟨v0, vs0, d0, ds0, p0, q0, hargs, rfl, rfl, h0, r0⟩ := trodAll_cons hA
  obtain ⟨rfl, rfl, rfl⟩ := trodAll_nil r0
  obtain rfl : args = #[v0] := by cases args; simp_all
  obtain ⟨z0, rfl, rfl, rfl, b0⟩ := Go.ChangeMaps.open_string Tryd.underlying9 (hval 0 9 v0 rfl rfl) h0
  replace hL : laidMet Tryd.prog Rows.fnExactReadSeqRow.laid W := by rw [MakeChecks.laidMetH_plain _ _ _ (by kernel_rfl)] at hL; exact hL
  have ht : Arit W := arit_of (laidMet.tail hL)
  have hu : Dual W := dual_of (laidMet.tail hL)
  have hx : MaxL W := maxl_of hS
  have hv1 := hV
  obtain ⟨g0, t0, cs0, f0, e0, p0', g1, t1, cs1, f1, e1, p1', rfl, _, _, _, _, _, _, _, _, rfl⟩ := trodVars_two hV
  clear hA0
  refine (walk z0 W b0 ht hu hx).mono fun e W' ⟨he, bel⟩ => ?_
  subst he
  exact ⟨_, rfl, _, _, _, [], _, _, hW', trodAll_mk1 (shut_bool Tryd.underlying4 _),
    (trodAll_cons_mk (Go.ChangeMaps.shut_string Tryd.underlying9 b0) trodAll_mk0),
    vars_below bel (readable_all _ (by kernel_rfl)) hv1, bel.frame _, fun h => by cases h⟩

theorem laid_met (os : Os) : laidMet Tryd.prog Rows.fnExactReadSeqRow.laid ((World.laidAll Tryd.prog os Rows.fnExactReadSeqRow.laid).forCall (fun _ _ => 0) ⟨#[], #[.string ⟨#[]⟩], []⟩).memory :=
  laidMet_laidAll _ (by kernel_rfl) (by kernel_rfl)
theorem reads (os : Os) {H : Type} (enc : TypeId × Value → H) : ∃ x, DataW.whole enc Tryd.prog ((World.laidAll Tryd.prog os Rows.fnExactReadSeqRow.laid).forCall (fun _ _ => 0) ⟨#[], #[.string ⟨#[]⟩], []⟩).memory Tryd.f3.params.toList Rows.fnExactReadSeqSpec.vars false (#[.string ⟨#[]⟩] : Array Value).toList 8 = some x :=
  Option.isSome_iff_exists.1 (by kernel_rfl)

set_option maxRecDepth 100000 in
theorem lifted (os : Os) (started : os.Started) (H : Type) (enc : TypeId × Value → H) (F : Stop.Interp) :
    ReturnsInHanded {} Tryd.checked os 3 .any ((OpenSpec.ofChange Rows.fnExactReadSeqSpec).preRow enc Tryd.prog Tryd.f3 Rows.fnExactReadSeqRow.domain false Rows.fnExactReadSeqRow.laid) (((OpenSpec.ofChange Rows.fnExactReadSeqSpec).at F).post enc Tryd.prog Tryd.f3 false true false false) := by
  obtain ⟨places, hx⟩ := reads os enc
  refine returnsInHanded_of_row (C := Tryd.checked) (s := OpenSpec.ofChange Rows.fnExactReadSeqSpec) own started (by kernel_rfl) Tryd.func3
    (witness_row_sh (enc := enc) (C := Tryd.checked) false (World.laidAll Tryd.prog os Rows.fnExactReadSeqRow.laid) #[.string ⟨#[]⟩] (World.laidAll_os _ _ _) (World.shaped_of_ZipB (by kernel_rfl) (by kernel_rfl)) (by kernel_rfl)
      (OpenSpec.preRow_of_cond 8 hx rfl (fun k hk => by cases hk) (by kernel_rfl) (laid_met os))) ?_
  intro W base args ds gs before hval hW _ _ _ hL hS _
  exact contract H enc W base args ds gs before hval hW hL hS

theorem said : Rows.FnExactReadSeqSaid :=
  OpenClaim.holds_of_cond 3 Tryd.f3 rfl rfl rfl rfl rfl rfl rfl ⟨rfl, rfl, rfl, rfl, rfl⟩ rfl rfl rfl rfl rfl (by kernel_rfl) Tryd.func3 (by kernel_rfl)
    (of_decide_eq_true (by kernel_rfl)) (by unfold Func.isWrapper; first | (rw [if_pos (by decide +kernel)]; kernel_rfl) | (rw [if_neg (by decide +kernel)]; exact ⟨rfl, rfl⟩))
    (fun os started H enc _ F => by rw [OpenClaim.pre_eq_preRow]; exact lifted os started H enc F)

theorem plain (f : FuncId) (fn : Func) (hf : Tryd.pinned.checked.prog.funcNamed "loop.example/g00872/laws.FnExactReadSeq" = some f) (hfn : Tryd.pinned.checked.prog.funcs[f]? = some fn) :
    Rows.fnExactReadSeqCard.stood.looks = Tryd.pinned.checked.prog.looks [] ∧ ∀ (j : Nat) t, fn.params[j]? = some t → Tryd.pinned.checked.prog.wantsStandIn t = false := by
  obtain rfl : f = 3 := Option.some.inj ((show Tryd.prog.funcNamed "loop.example/g00872/laws.FnExactReadSeq" = some 3 by kernel_rfl).symm.trans hf) |>.symm
  obtain rfl : fn = Tryd.f3 := (Option.some.inj (Tryd.func3.symm.trans hfn)).symm
  refine ⟨by kernel_rfl, fun j t ht => ?_⟩
  rw [Tryd.params3] at ht
  have hm : t ∈ [9] := by simpa using Array.mem_of_getElem? ht
  have hall : ([9].all fun u => !Tryd.prog.wantsStandIn u) = true := by kernel_rfl
  exact (show Tryd.prog.wantsStandIn t = false by simpa using List.all_eq_true.1 hall t hm)

/-- The statement. -/
theorem card : Rows.FnExactReadSeqCardSaid :=
  Claim7.holds_tied_plain_at .later [] _ _ _ _ said (fun _ h => by cases h) (by kernel_rfl) (fun _ h => by cases h) fnExactReadSeq_row_tie rfl ⟨rfl, rfl⟩ (by kernel_rfl) rfl plain (by kernel_rfl)
end Go.Proofs.YtjhagklpnpabeaaDoor.fnExactReadSeq
