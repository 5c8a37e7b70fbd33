/- Proved: for all arguments the law that the dual of the dual of a drawn list is the list itself where it is a formula, with the same depth and fragment and the negated leaves, answers true and leaves its argument as it was (FnDual). Conditions: the row's own: the listed tables read as the program's text lays them, which the card ties to that text. -/
import Derived.Test.YtjekibknembcgaaDoorFrame
import Derived.Test.YtjekibknembcgaaDoorBytes
import Derived.Test.YtjekibknembcgaaDoorDualM
namespace Go.Proofs.YtjekibknembcgaaDoor.fnDual
open Go.ChangeShapes Go.WideShapes Go.ChangeAt Go.RowKit

theorem walk_big (A : Option Addr) (n c : Nat) (w : World) (hn : ¬ n ≤ 4096) :
    Calls Tryd.prog 14 #[.slice A n c] w fun e w' => e = .returned (.bool true) ∧ Below w.heap.size w w' := by
  have hd : decide (4096 < (n : Int)) = true := decide_eq_true (by omega)
  go_enter Tryd.func14, Tryd.ntmps14
  go_wp2_with (go_at_call 16; refine (big_any _ _ _ _).mono ?_; rintro e w' ⟨rfl, rfl⟩)
  go_ret
  exact ⟨rfl, Below.refl _ _⟩

theorem leaf_bd {f : List Int} {k : Nat} (h : k < (leavesL f).length) : -8 ≤ (leavesL f).getD k 0 ∧ (leavesL f).getD k 0 ≤ 8 := by
  have hm : (leavesL f).getD k 0 ∈ leavesL f := by simp [List.getD, h]
  have key : ∀ z ∈ leavesL f, -8 ≤ z ∧ z ≤ 8 := by
    intro z hz
    cases hv : validB f with
    | false => rw [leavesL_no hv] at hz; simp at hz
    | true =>
      have e : leavesL f = f.filter leafB := by simp [leavesL, hv]
      rw [e] at hz
      have := leaf_iff.1 (List.mem_filter.1 hz).2
      omega
  exact key _ hm

set_option maxHeartbeats 4000000 in
theorem walk (A : Option Addr) (n c : Nat) (code : List Int) (w : World) (h : RdB w w.heap.size A n code) (_hnc : n ≤ c) (_hf : ∀ z ∈ code, (Lit.int .u8 z).wf = true) (ht : Arit w) (hu : Dual w) :
    Calls Tryd.prog 14 #[.slice A n c] w fun e w' => e = .returned (.bool true) ∧ Below w.heap.size w w' := by
  by_cases hn : n ≤ 4096
  · have hd : decide (4096 < (n : Int)) = false := decide_eq_false (by omega)
    go_enter Tryd.func14, Tryd.ntmps14
    go_wp2_with (fail)
    refine (big_any _ _ _ _).mono ?_
    rintro e w' ⟨rfl, rfl⟩
    go_wp2_with (fail)
    refine (drawDual_any A n c code w h hn).mono ?_
    rintro e w1 ⟨L, A1, c1, rfl, l1, l2, o1, B1⟩
    have k1 := (own_cap o1).1
    cases hv : validB L with
    | false =>
      have hG := dualOf_impl A1 L.length c1 L w1 (RdI.of_own o1) (ht.below B1 ht.lt) (hu.below B1 hu.lt) k1
      rw [dualL_no hv] at hG
      go_wp2_with (fail)
      refine hG.mono ?_
      rintro e w2 ⟨A2, c2, rfl, o2, bel2⟩
      have o1' := own_below o1 bel2 (Nat.le_refl _)
      have B2 := B1.trans (bel2.mono B1.size)
      have HB := Lib.hid B2
      have x1 := RdI.of_own o1'
      have ht2 := ht.below B2 ht.lt
      have hdp := depV_no hv
      clear hG o1 o2 bel2 o1' B1 B2 l2
      go_wp2_with (first | (go_at_call 20; refine (sValidForm_any _ _ _ L _ x1).mono ?_; rintro e w' ⟨rfl, rfl⟩) | (go_at_call 50; refine (validForm_impl _ _ _ L _ x1 ht2 k1).mono ?_; rintro e w' ⟨rfl, rfl⟩) | (go_at_call 51; refine (depthOf_impl _ _ _ L _ x1 ht2 k1).mono ?_; rintro e w' ⟨rfl, rfl⟩))
      go_ret
      exact ⟨rfl, HB.out⟩
    | true =>
      have hG := dualOf_impl A1 L.length c1 L w1 (RdI.of_own o1) (ht.below B1 ht.lt) (hu.below B1 hu.lt) k1
      rw [dualL_yes hv] at hG
      have HJv := Lib.hid (valid_dual hv)
      have HJd := Lib.hid (dual_dual hv)
      have HJp := Lib.hid (depth_dual hv)
      have HJf := Lib.hid (frag_dual hv)
      have HJl := Lib.hid (leaves_dual hv)
      have hJl : (L.map duZ).length = L.length := by simp
      generalize L.map duZ = J at hG HJv HJd HJp HJf HJl hJl
      have HJL := Lib.hid hJl
      clear hJl
      go_wp2_with (fail)
      refine hG.mono ?_
      rintro e w2 ⟨A2, c2, rfl, o2, bel2⟩
      have o1_2 := own_below o1 bel2 (Nat.le_refl _)
      have B2 := B1.trans (bel2.mono B1.size)
      have k2 := (own_cap o2).1
      clear hG o1 bel2 B1 l2
      go_wp2_with (fail)
      refine (sValidForm_any _ _ _ L _ (RdI.of_own o1_2)).mono ?_
      rintro e w' ⟨rfl, rfl⟩
      rw [hv]
      go_wp2_with (fail)
      refine (leavesOf_impl A1 L.length c1 L w2 (RdI.of_own o1_2) (ht.below B2 ht.lt) k1).mono ?_
      rintro e w3 ⟨A3, c3, rfl, o3, bel3⟩
      have o1_3 := own_below o1_2 bel3 (Nat.le_refl _)
      have o2_3 := own_below o2 bel3 (Nat.le_refl _)
      have B3 := B2.trans (bel3.mono B2.size)
      clear o1_2 o2 bel3 B2
      go_wp2_with (fail)
      refine (leavesOf_impl A2 J.length c2 J w3 (RdI.of_own o2_3) (ht.below B3 ht.lt) k2).mono ?_
      rintro e w4 ⟨A4, c4, rfl, o4, bel4⟩
      have o1_4 := own_below o1_3 bel4 (Nat.le_refl _)
      have o2_4 := own_below o2_3 bel4 (Nat.le_refl _)
      have o3_4 := own_below o3 bel4 (Nat.le_refl _)
      have B4 := B3.trans (bel4.mono B3.size)
      have hlen : (leavesL J).length = (leavesL L).length := by rw [HJl.out]; simp
      have hat : ∀ k, k < (leavesL L).length → (leavesL L).getD k 0 = -((leavesL J).getD k 0) := fun k hk => by rw [HJl.out]; simp [List.getD, hk]
      have hbd : ∀ k, k < (leavesL L).length → -8 ≤ (leavesL J).getD k 0 ∧ (leavesL J).getD k 0 ≤ 8 := fun k hk => leaf_bd (by rw [hlen]; exact hk)
      have hP24 := leavesL_len L
      have x3 := RdI.of_own o3_4
      have x4 := RdI.of_own o4
      rw [hlen] at x4
      rw [hlen]
      have HAT := Lib.hid hat; have HBD := Lib.hid hbd
      have HO1 := Lib.hid o1_4; have HO2 := Lib.hid o2_4; have HB4 := Lib.hid B4
      generalize leavesL L = P at *
      generalize leavesL J = Q at *
      clear hat hbd o1_3 o2_3 o3 bel4 B3 o1_4 o2_4 o3_4 o4 B4 hlen HJl
      obtain ⟨N, hN⟩ : ∃ N, P.length = N := ⟨_, rfl⟩
      rw [hN] at x3 x4 HAT HBD hP24 ⊢
      have hnn : ((N : Int) != (N : Int)) = false := by simp
      clear hN
      go_wp2_with (fail)
      go_loopw [7] (fun i wr => ∃ k q : Nat, k ≤ N ∧ i = .int .i64 k ∧ wr = w4.drewN q) (fun i _ => N - (intOf i).toNat)
      case atStart => exact ⟨0, 0, Nat.zero_le _, rfl, rfl⟩
      case round =>
        obtain ⟨k, q, hk, rfl, rfl⟩ := hrel
        by_cases hlt : k < N
        · obtain ⟨b3, off3, rfl, _, hc3⟩ := x3.2 (by omega)
          obtain ⟨b4, off4, rfl, _, hc4⟩ := x4.2 (by omega)
          have h3 := hc3 k hlt
          have h4 := hc4 k hlt
          have hy := HBD.out k hlt
          rw [HAT.out k hlt] at h3
          generalize Q.getD k 0 = y at h3 h4 hy
          have hy1 : -8 ≤ y := hy.1
          have hy2 : y ≤ 8 := hy.2
          have hneq : ((-y : Int) != -y) = false := by simp
          clear hc3 hc4 hy x3 x4
          go_wp2_with (fail)
          go_quiet (fail)
          go_wp2_with (fail)
          go_roundw
          case rel => exact ⟨k + 1, _, by omega, by go_num, rfl⟩
          case measure => simp [intOf]; omega
        · have hkN : N = k := by omega
          subst hkN
          clear x3 x4 HAT HBD
          go_wp2_with (fail)
          have B5 : Below w.heap.size w (w4.drewN q) := below_drewN HB4.out q
          have o1_5 : (w4.drewN q).ownsRow w.heap.size 2 1 (.slice A1 L.length c1) L.length (L.map (Value.int .i64)) := HO1.out
          have o2_5 := own_below HO2.out (below_drewN (Below.refl w4.heap.size w4) q) (Nat.le_refl _)
          generalize w4.drewN q = w5 at *
          clear HO1 HO2 HB4
          have hG := dualOf_impl A2 J.length c2 J w5 (RdI.of_own o2_5) (ht.below B5 ht.lt) (hu.below B5 hu.lt) k2
          rw [HJd.out] at hG
          refine hG.mono ?_
          rintro e w6 ⟨A6, c6, rfl, o6, bel6⟩
          have o1_6 := own_below o1_5 bel6 (Nat.le_refl _)
          have o2_6 := own_below o2_5 bel6 (Nat.le_refl _)
          have B6 := B5.trans (bel6.mono B5.size)
          clear hG o1_5 o2_5 bel6 B5
          go_wp2_with (fail)
          refine (likeInts_any _ _ _ _ _ _ L L w6 (RdI.of_own o6) (RdI.of_own o1_6) (by omega) (by omega)).mono ?_
          rintro e w7 ⟨rfl, bel7⟩
          have y1 := RdI.of_own (own_below o1_6 bel7 (Nat.le_refl _))
          have y2 := RdI.of_own (own_below o2_6 bel7 (Nat.le_refl _))
          have HB := Lib.hid (B6.trans (bel7.mono B6.size))
          have ht7 := ht.below HB.out ht.lt
          have hJv := HJv.out
          have HP := HJp.out
          have HF := HJf.out
          clear o6 o1_6 o2_6 bel7 B6
          have e1 : (depV L == depV L) = true := by simp
          have e2 : (fragV L == fragV L) = true := by simp
          go_wp2_with (first | (go_at_call 51; first | ((with_reducible refine (depthOf_impl _ _ _ J _ y2 ht7 k2).mono ?_); rw [HP]; rintro e w' ⟨rfl, rfl⟩) | ((with_reducible refine (depthOf_impl _ _ _ L _ y1 ht7 k1).mono ?_); rintro e w' ⟨rfl, rfl⟩)) | (go_at_call 53; first | ((with_reducible refine (fragmentOf_impl _ _ _ J _ y2 ht7 k2).mono ?_); rw [HF]; rintro e w' ⟨rfl, rfl⟩) | ((with_reducible refine (fragmentOf_impl _ _ _ L _ y1 ht7 k1).mono ?_); rintro e w' ⟨rfl, rfl⟩)) | (go_at_call 50; refine (validForm_impl _ _ _ J _ y2 ht7 k2).mono ?_; rintro e w' ⟨rfl, rfl⟩))
          go_ret
          exact ⟨rfl, HB.out⟩
  · exact walk_big A n c w hn

set_option maxRecDepth 100000 in
/-- What the walk gives, for all arguments and every world that holds the tables. -/
theorem contract (H : Type) (enc : TypeId × Value → H) (W : World) (base : Nat) (args : Array Value) (ds gs : List (DataW H)) (before : List MemPlace)
    (hval : ∀ (j : Nat) t v, Tryd.f14.params[j]? = some t → args[j]? = some v → Value.okWide Tryd.prog W .any base t v)
    (hW : DataW.Whole enc Tryd.prog Tryd.f14.params.toList Rows.fnDualSpec.vars false W args.toList ds gs before) (hL : laidMetH Tryd.prog Rows.fnDualRow.laid W) :
    Calls Tryd.prog 14 args W fun e W' => ∃ v, e = .returned v ∧ Rows.fnDualSpec.post enc Tryd.prog Tryd.f14 false true false false W args v W' := by
  have hW' := hW
  obtain ⟨p, q, hA0, hV, rfl, hfz, hnd⟩ := hW
  have hA : DataW.TrodAll enc Tryd.prog W 0 (fun _ => true) true Tryd.f14.params.toList args.toList ds p := hA0
  rw [Tryd.params14] at hA hval
  obtain ⟨v0, vs0, d0, ds0, p0, q0, hargs, rfl, rfl, h0, r0⟩ := trodAll_cons hA
  obtain ⟨rfl, rfl, rfl⟩ := trodAll_nil r0
  obtain rfl : args = #[v0] := by cases args; simp_all
  obtain ⟨a0, len0, cap0, rfl⟩ := okWide_slice Tryd.underlying22 (hval 0 22 v0 rfl rfl)
  have k0 := h0
  have lt0 : ∀ x ∈ p0, x.block < W.heap.size := by obtain ⟨m, hm⟩ := k0; exact DataW.trod_lt m _ _ _ hm
  obtain ⟨z0, w0, c0, b0⟩ := open_u8s h0
  have ht : Arit W := arit_of hL
  have hu : Dual W := dual_of hL
  have hv1 := hV
  obtain ⟨g0, t0, cs0, f0, e0, p0', g1, t1, cs1, f1, e1, p1', rfl, _, _, _, _, _, _, _, _, rfl⟩ := trodVars_two hV
  clear hA0
  refine (walk a0 len0 cap0 z0 W w0 c0 b0 ht hu).mono fun e W' ⟨he, bel⟩ => ?_
  subst he
  exact ⟨_, rfl, _, _, _, [], _, _, hW', trodAll_mk1 (shut_bool Tryd.underlying4 _),
    (trodAll_cons_mk (Below.trod laidOut (by kernel_rfl) (of_decide_eq_true (by kernel_rfl)) k0 bel lt0) trodAll_mk0),
    vars_below bel (readable_all _ (by kernel_rfl)) hv1, bel.frame _, fun h => by cases h⟩

theorem laid_met (os : Os) : laidMet Tryd.prog Rows.fnDualRow.laid ((laidWorld os).forCall (fun _ _ => 0) ⟨#[], #[.slice none 0 0], []⟩).memory :=
  laidMet_of_run' 8 (by kernel_rfl) (by kernel_rfl)
theorem reads (os : Os) {H : Type} (enc : TypeId × Value → H) : ∃ x, DataW.whole enc Tryd.prog ((laidWorld os).forCall (fun _ _ => 0) ⟨#[], #[.slice none 0 0], []⟩).memory Tryd.f14.params.toList Rows.fnDualSpec.vars false (#[.slice none 0 0] : Array Value).toList 8 = some x :=
  Option.isSome_iff_exists.1 (by kernel_rfl)

set_option maxRecDepth 100000 in
theorem lifted (os : Os) (started : os.Started) (H : Type) (enc : TypeId × Value → H) (F : Stop.Interp) :
    ReturnsInHanded {} Tryd.checked os 14 .any ((OpenSpec.ofChange Rows.fnDualSpec).preRow enc Tryd.prog Tryd.f14 Rows.fnDualRow.domain false Rows.fnDualRow.laid) (((OpenSpec.ofChange Rows.fnDualSpec).at F).post enc Tryd.prog Tryd.f14 false true false false) := by
  obtain ⟨places, hx⟩ := reads os enc
  refine returnsInHanded_of_row (C := Tryd.checked) (s := OpenSpec.ofChange Rows.fnDualSpec) own started (by kernel_rfl) Tryd.func14
    (witness_row_at (enc := enc) (C := Tryd.checked) false (laidWorld os) #[.slice none 0 0] rfl (by kernel_rfl) (by kernel_rfl) (by kernel_rfl)
      (OpenSpec.preRow_of_cond 8 hx rfl (fun k hk => by cases hk) (by kernel_rfl) (laid_met os))) ?_
  intro W base args ds gs before hval hW _ _ _ hL _ _
  exact contract H enc W base args ds gs before hval hW hL

theorem said : Rows.FnDualSaid :=
  OpenClaim.holds_of_cond 14 Tryd.f14 rfl rfl rfl rfl rfl rfl rfl ⟨rfl, rfl, rfl, rfl, rfl⟩ rfl rfl rfl rfl rfl (by kernel_rfl) Tryd.func14 (by kernel_rfl)
    (of_decide_eq_true (by kernel_rfl)) (by unfold Func.isWrapper; first | (rw [if_pos (by decide +kernel)]; kernel_rfl) | (rw [if_neg (by decide +kernel)]; exact ⟨rfl, rfl⟩))
    (fun os started H enc _ F => by rw [OpenClaim.pre_eq_preRow]; exact lifted os started H enc F)

theorem plain (f : FuncId) (fn : Func) (hf : Tryd.pinned.checked.prog.funcNamed "loop.example/g00872/laws.FnDual" = some f) (hfn : Tryd.pinned.checked.prog.funcs[f]? = some fn) :
    Rows.fnDualCard.stood.looks = Tryd.pinned.checked.prog.looks [] ∧ ∀ (j : Nat) t, fn.params[j]? = some t → Tryd.pinned.checked.prog.wantsStandIn t = false := by
  obtain rfl : f = 14 := Option.some.inj ((show Tryd.prog.funcNamed "loop.example/g00872/laws.FnDual" = some 14 by kernel_rfl).symm.trans hf) |>.symm
  obtain rfl : fn = Tryd.f14 := (Option.some.inj (Tryd.func14.symm.trans hfn)).symm
  refine ⟨by kernel_rfl, fun j t ht => ?_⟩
  rw [Tryd.params14] at ht
  have hm : t ∈ [22] := by simpa using Array.mem_of_getElem? ht
  have hall : ([22].all fun u => !Tryd.prog.wantsStandIn u) = true := by kernel_rfl
  exact (show Tryd.prog.wantsStandIn t = false by simpa using List.all_eq_true.1 hall t hm)

/-- The statement. -/
theorem card : Rows.FnDualCardSaid :=
  Claim7.holds_tied_plain_at .later [] _ _ _ _ said (fun _ h => by cases h) (by kernel_rfl) (fun _ h => by cases h) fnDual_row_tie rfl ⟨rfl, rfl⟩ (by kernel_rfl) rfl plain (by kernel_rfl)
end Go.Proofs.YtjekibknembcgaaDoor.fnDual
