/- Proved: for all arguments the law that ParseForm answers as its model and that no two of its answers share memory answers true (FnExactParseForm). Conditions: the row's own: the listed tables read as the program's text lays them, which the card ties to that text. -/
import Derived.Test.YtjekibknembcgaaDoorFrame
import Derived.Test.YtjekibknembcgaaDoorReadS
namespace Go.Proofs.YtjekibknembcgaaDoor.fnExactParseForm
open Go.ChangeShapes Go.WideShapes Go.ChangeAt Go.RowKit

theorem walk_big0 (s0 : ByteArray) (w : World) (hn : ¬ s0.size ≤ 1048576) :
    Calls Tryd.prog 9 #[.string s0] w fun e w' => e = .returned (.bool true) ∧ Below w.heap.size w w' := by
  have hd0 : decide (1048576 < (s0.size : Int)) = true := decide_eq_true (by omega)
  go_enter Tryd.func9, Tryd.ntmps9
  go_wp2
  go_ret
  exact ⟨rfl, Below.refl _ _⟩

set_option maxHeartbeats 4000000 in
theorem walk_mid (s0 : ByteArray) (w : World) (_hs0 : s0.size ≤ maxLen) (ht : Arit w) (hu : Dual w) (hn0 : s0.size ≤ 1048576) :
    Calls Tryd.prog 9 #[.string s0] w fun e w' => e = .returned (.bool true) ∧ Below w.heap.size w w' := by
  have hd0 : decide (1048576 < (s0.size : Int)) = false := decide_eq_false (by omega)
  have hlen : (pfL (bl s0)).length ≤ 1048576 := Nat.le_trans (pfL_len (bl s0)) (by decide)
  generalize hV : pfL (bl s0) = V at hlen
  have HV := Lib.hid hV; clear hV
  generalize hVb : pfZ (bl s0) = Vb
  have HVb := Lib.hid hVb; clear hVb
  have hzz : (Vb != Vb) = false := by simp
  have B0 : Below w.heap.size w w := Below.refl _ _
  go_enter Tryd.func9, Tryd.ntmps9
  go_wp2_with (fail)
  refine (sParseForm_any s0 w  hn0).mono ?_
  rw [HV.out, HVb.out]
  rintro e w1 ⟨A_v, c_v, rfl, o_v_1, bel1⟩
  have B1 := B0.trans (bel1.mono B0.size)
  have s1 := bel1.size
  clear bel1
  go_wp2_with (fail)
  refine (parseForm_impl s0 w1  hn0 (ht.below B1 ht.lt) (hu.below B1 hu.lt)).mono ?_
  rw [HV.out, HVb.out]
  rintro e w2 ⟨A_g, c_g, rfl, o_g_2, bel2⟩
  have B2 := B1.trans (bel2.mono B1.size)
  have s2 := bel2.size
  have o_v_2 := own_below o_v_1 bel2 (Nat.le_refl _)
  clear bel2
  go_wp2_with (fail)
  refine (eqInts_any _ _ _ _ _ _ V V w2 (RdI.of_own o_g_2) (RdI.of_own o_v_2) hlen hlen).mono ?_
  rintro e w3 ⟨rfl, bel3⟩
  have B3 := B2.trans (bel3.mono B2.size)
  have s3 := bel3.size
  have o_v_3 := own_below o_v_2 bel3 (Nat.le_refl _)
  have o_g_3 := own_below o_g_2 bel3 (Nat.le_refl _)
  clear bel3 o_v_2
  have hmm : decide (1 + (V.length : Int) < 0) = false := decide_eq_false (by omega)
  go_wp2_with (fail)
  refine (mark_any _ _ _ V 1 w3 _ o_g_3 hlen (by omega) (by omega)).mono ?_
  rintro e w4 ⟨rfl, o_g_4, gr4⟩
  have B4 := below_grown B3 gr4 o_g_3 (by omega) B3.size
  have s4 := gr4.size
  have o_v_4 := o_v_3.kept gr4 (own_ne o_v_1 o_g_2 (Nat.le_refl _) (by omega))
  clear gr4 o_v_3 o_g_3
  go_wp2_with (fail)
  refine (held_any _ _ _ 1 w4 (RdI.of_own o_g_4) hlen (by omega) (by omega)).mono ?_
  rintro e w' ⟨rfl, rfl⟩
  go_wp2_with (fail)
  refine (parseForm_impl s0 w4  hn0 (ht.below B4 ht.lt) (hu.below B4 hu.lt)).mono ?_
  rw [HV.out, HVb.out]
  rintro e w5 ⟨A_hh, c_hh, rfl, o_hh_5, bel5⟩
  have B5 := B4.trans (bel5.mono B4.size)
  have s5 := bel5.size
  have o_v_5 := own_below o_v_4 bel5 (Nat.le_refl _)
  have o_g_5 := own_below o_g_4 bel5 (Nat.le_refl _)
  clear bel5 o_v_4 o_g_4
  go_wp2_with (fail)
  refine (eqInts_any _ _ _ _ _ _ V V w5 (RdI.of_own o_hh_5) (RdI.of_own o_v_5) hlen hlen).mono ?_
  rintro e w6 ⟨rfl, bel6⟩
  have B6 := B5.trans (bel6.mono B5.size)
  have s6 := bel6.size
  have o_v_6 := own_below o_v_5 bel6 (Nat.le_refl _)
  have o_g_6 := own_below o_g_5 bel6 (Nat.le_refl _)
  have o_hh_6 := own_below o_hh_5 bel6 (Nat.le_refl _)
  clear bel6 o_v_5 o_g_5
  go_wp2_with (fail)
  refine (held_any _ _ _ 1 w6 (RdI.of_own o_g_6) hlen (by omega) (by omega)).mono ?_
  rintro e w' ⟨rfl, rfl⟩
  have HB := Lib.hid B6
  go_wp2
  go_ret
  exact ⟨rfl, HB.out⟩

theorem walk (s0 : ByteArray) (w : World) (_hs0 : s0.size ≤ maxLen) (ht : Arit w) (hu : Dual w) :
    Calls Tryd.prog 9 #[.string s0] w fun e w' => e = .returned (.bool true) ∧ Below w.heap.size w w' := by
  by_cases hn0 : s0.size ≤ 1048576
  · exact walk_mid s0 w _hs0 ht hu hn0
  · exact walk_big0 s0 w hn0

set_option maxRecDepth 100000 in
/-- What the walk gives, for all arguments and every world that holds the tables. -/
theorem contract (H : Type) (enc : TypeId × Value → H) (W : World) (base : Nat) (args : Array Value) (ds gs : List (DataW H)) (before : List MemPlace)
    (hval : ∀ (j : Nat) t v, Tryd.f9.params[j]? = some t → args[j]? = some v → Value.okWide Tryd.prog W .any base t v)
    (hW : DataW.Whole enc Tryd.prog Tryd.f9.params.toList Rows.fnExactParseFormSpec.vars false W args.toList ds gs before) (hL : laidMetH Tryd.prog Rows.fnExactParseFormRow.laid W) :
    Calls Tryd.prog 9 args W fun e W' => ∃ v, e = .returned v ∧ Rows.fnExactParseFormSpec.post enc Tryd.prog Tryd.f9 false true false false W args v W' := by
  have hW' := hW
  obtain ⟨p, q, hA0, hV, rfl, hfz, hnd⟩ := hW
  have hA : DataW.TrodAll enc Tryd.prog W 0 (fun _ => true) true Tryd.f9.params.toList args.toList ds p := hA0
  rw [Tryd.params9] at hA hval
  obtain ⟨v0, vs0, d0, ds0, p0, q0, hargs, rfl, rfl, h0, r0⟩ := trodAll_cons hA
  obtain ⟨rfl, rfl, rfl⟩ := trodAll_nil r0
  obtain rfl : args = #[v0] := by cases args; simp_all
  obtain ⟨z0, rfl, rfl, rfl, b0⟩ := Go.ChangeMaps.open_string Tryd.underlying9 (hval 0 9 v0 rfl rfl) h0
  have ht : Arit W := arit_of hL
  have hu : Dual W := dual_of hL
  have hv1 := hV
  obtain ⟨g0, t0, cs0, f0, e0, p0', g1, t1, cs1, f1, e1, p1', rfl, _, _, _, _, _, _, _, _, rfl⟩ := trodVars_two hV
  clear hA0
  refine (walk z0 W b0 ht hu).mono fun e W' ⟨he, bel⟩ => ?_
  subst he
  exact ⟨_, rfl, _, _, _, [], _, _, hW', trodAll_mk1 (shut_bool Tryd.underlying4 _),
    (trodAll_cons_mk (Go.ChangeMaps.shut_string Tryd.underlying9 b0) trodAll_mk0),
    vars_below bel (readable_all _ (by kernel_rfl)) hv1, bel.frame _, fun h => by cases h⟩

theorem laid_met (os : Os) : laidMet Tryd.prog Rows.fnExactParseFormRow.laid ((laidWorld os).forCall (fun _ _ => 0) ⟨#[], #[.string ⟨#[]⟩], []⟩).memory :=
  laidMet_of_run' 8 (by kernel_rfl) (by kernel_rfl)
theorem reads (os : Os) {H : Type} (enc : TypeId × Value → H) : ∃ x, DataW.whole enc Tryd.prog ((laidWorld os).forCall (fun _ _ => 0) ⟨#[], #[.string ⟨#[]⟩], []⟩).memory Tryd.f9.params.toList Rows.fnExactParseFormSpec.vars false (#[.string ⟨#[]⟩] : Array Value).toList 8 = some x :=
  Option.isSome_iff_exists.1 (by kernel_rfl)

set_option maxRecDepth 100000 in
theorem lifted (os : Os) (started : os.Started) (H : Type) (enc : TypeId × Value → H) (F : Stop.Interp) :
    ReturnsInHanded {} Tryd.checked os 9 .any ((OpenSpec.ofChange Rows.fnExactParseFormSpec).preRow enc Tryd.prog Tryd.f9 Rows.fnExactParseFormRow.domain false Rows.fnExactParseFormRow.laid) (((OpenSpec.ofChange Rows.fnExactParseFormSpec).at F).post enc Tryd.prog Tryd.f9 false true false false) := by
  obtain ⟨places, hx⟩ := reads os enc
  refine returnsInHanded_of_row (C := Tryd.checked) (s := OpenSpec.ofChange Rows.fnExactParseFormSpec) own started (by kernel_rfl) Tryd.func9
    (witness_row_at (enc := enc) (C := Tryd.checked) false (laidWorld os) #[.string ⟨#[]⟩] rfl (by kernel_rfl) (by kernel_rfl) (by kernel_rfl)
      (OpenSpec.preRow_of_cond 8 hx rfl (fun k hk => by cases hk) (by kernel_rfl) (laid_met os))) ?_
  intro W base args ds gs before hval hW _ _ _ hL _ _
  exact contract H enc W base args ds gs before hval hW hL

theorem said : Rows.FnExactParseFormSaid :=
  OpenClaim.holds_of_cond 9 Tryd.f9 rfl rfl rfl rfl rfl rfl rfl ⟨rfl, rfl, rfl, rfl, rfl⟩ rfl rfl rfl rfl rfl (by kernel_rfl) Tryd.func9 (by kernel_rfl)
    (of_decide_eq_true (by kernel_rfl)) (by unfold Func.isWrapper; first | (rw [if_pos (by decide +kernel)]; kernel_rfl) | (rw [if_neg (by decide +kernel)]; exact ⟨rfl, rfl⟩))
    (fun os started H enc _ F => by rw [OpenClaim.pre_eq_preRow]; exact lifted os started H enc F)

theorem plain (f : FuncId) (fn : Func) (hf : Tryd.pinned.checked.prog.funcNamed "loop.example/g00872/laws.FnExactParseForm" = some f) (hfn : Tryd.pinned.checked.prog.funcs[f]? = some fn) :
    Rows.fnExactParseFormCard.stood.looks = Tryd.pinned.checked.prog.looks [] ∧ ∀ (j : Nat) t, fn.params[j]? = some t → Tryd.pinned.checked.prog.wantsStandIn t = false := by
  obtain rfl : f = 9 := Option.some.inj ((show Tryd.prog.funcNamed "loop.example/g00872/laws.FnExactParseForm" = some 9 by kernel_rfl).symm.trans hf) |>.symm
  obtain rfl : fn = Tryd.f9 := (Option.some.inj (Tryd.func9.symm.trans hfn)).symm
  refine ⟨by kernel_rfl, fun j t ht => ?_⟩
  rw [Tryd.params9] at ht
  have hm : t ∈ [9] := by simpa using Array.mem_of_getElem? ht
  have hall : ([9].all fun u => !Tryd.prog.wantsStandIn u) = true := by kernel_rfl
  exact (show Tryd.prog.wantsStandIn t = false by simpa using List.all_eq_true.1 hall t hm)

/-- The statement. -/
theorem card : Rows.FnExactParseFormCardSaid :=
  Claim7.holds_tied_plain_at .later [] _ _ _ _ said (fun _ h => by cases h) (by kernel_rfl) (fun _ h => by cases h) fnExactParseForm_row_tie rfl ⟨rfl, rfl⟩ (by kernel_rfl) rfl plain (by kernel_rfl)
end Go.Proofs.YtjekibknembcgaaDoor.fnExactParseForm
