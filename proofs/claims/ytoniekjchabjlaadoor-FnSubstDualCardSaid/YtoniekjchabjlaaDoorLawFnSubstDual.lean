/- Proved: for all arguments the law that substitution in the dual of a drawn formula yields the dual of the substituted formula answers true and leaves its argument as it was (FnSubstDual). Conditions: the row's own: the listed tables read as the program's text lays them, which the card ties to that text. -/
import Derived.Test.YtoniekjchabjlaaDoorFrame
import Derived.Test.YtoniekjchabjlaaDoorBytes
import Derived.Test.YtoniekjchabjlaaDoorSubO
import Derived.Test.YtoniekjchabjlaaDoorBndE
namespace Go.Proofs.YtoniekjchabjlaaDoor.fnSubstDual
open Go.ChangeShapes Go.WideShapes Go.ChangeAt Go.RowKit

theorem walk_big (A : Option Addr) (n c : Nat) (w : World) (hn : ¬ n ≤ 4096) :
    Calls Tryd.prog 3 #[.slice A n c] w fun e w' => e = .returned (.bool true) ∧ Below w.heap.size w w' := by
  have hd : decide (4096 < (n : Int)) = true := decide_eq_true (by omega)
  go_enter Tryd.func3, Tryd.ntmps3
  go_wp2_with (go_at_call 11; refine (big_any _ _ _ _).mono ?_; rintro e w' ⟨rfl, rfl⟩)
  go_ret
  exact ⟨rfl, Below.refl _ _⟩

set_option maxRecDepth 100000 in
set_option maxHeartbeats 8000000 in
theorem walk (A : Option Addr) (n c : Nat) (code : List Int) (w : World) (h : RdB w w.heap.size A n code) (_hnc : n ≤ c) (_hf : ∀ z ∈ code, (Lit.int .u8 z).wf = true) (ht : Arit w) (hu : Dual w) :
    Calls Tryd.prog 3 #[.slice A n c] w fun e w' => e = .returned (.bool true) ∧ Below w.heap.size w w' := by
  by_cases hn : n ≤ 4096
  · have hd : decide (4096 < (n : Int)) = false := decide_eq_false (by omega)
    have Ht := Lib.hid ht.lt; have Hu := Lib.hid hu.lt
    go_enter Tryd.func3, Tryd.ntmps3
    go_wp2_with (fail)
    refine (big_any _ _ _ _).mono ?_
    rintro e w' ⟨rfl, rfl⟩
    go_wp2_with (fail)
    refine (drawSubstForm_any A n c code w h hn).mono ?_
    rintro e w1 ⟨L, A1, c1, B, m, d, qs, rfl, l1, l2, k1, rd1, hm8, hq, rq1, q64, B1⟩
    have hm : m ≤ 1048576 := by omega
    clear l2 hm8 hq q64
    have HR1 := Lib.hid rd1; have HQ1 := Lib.hid rq1
    have hG := substForm_impl A1 L.length c1 L B m d qs w1 rd1 rq1 k1 hm (ht.below B1 ht.lt) (hu.below B1 hu.lt)
    clear rd1 rq1
    obtain ⟨b, hb⟩ : ∃ b, sfB L qs = b := ⟨_, rfl⟩
    obtain ⟨G, hGs⟩ : ∃ G, sfL L qs = G := ⟨_, rfl⟩
    rw [hb, hGs] at hG
    have Hb := Lib.hid hb; have HGs := Lib.hid hGs
    clear hb hGs
    go_wp2_with (fail)
    refine hG.mono ?_
    rintro e w2 ⟨A2, c2, rfl, o2, bel2⟩
    have k2 := (own_cap o2).1
    have HO2 := Lib.hid (RdI.of_own o2)
    have B2 := B1.trans (bel2.mono B1.size)
    have HR2 := Lib.hid ((HR1.out.below bel2).more bel2.size); have HQ2 := Lib.hid ((HQ1.out.below bel2).more bel2.size)
    have hG2 := dualOf_impl A1 L.length c1 L w2 HR2.out (ht.below B2 ht.lt) (hu.below B2 hu.lt) k1
    clear hG o2 bel2 B1 HR1 HQ1
    obtain ⟨D, hD⟩ : ∃ D, dualL L = D := ⟨_, rfl⟩
    rw [hD] at hG2
    have HD := Lib.hid hD
    clear hD
    go_wp2_with (fail)
    refine hG2.mono ?_
    rintro e w3 ⟨A3, c3, rfl, o3, bel3⟩
    have k3 := (own_cap o3).1
    have B3 := B2.trans (bel3.mono B2.size)
    have HR3 := Lib.hid ((HR2.out.below bel3).more bel3.size); have HQ3 := Lib.hid ((HQ2.out.below bel3).more bel3.size); have HO3 := Lib.hid ((HO2.out.below bel3).more bel3.size)
    have hG3 := substForm_impl A3 D.length c3 D B m d qs w3 (RdI.of_own o3) HQ3.out k3 hm (ht.below B3 ht.lt) (hu.below B3 hu.lt)
    clear hG2 o3 bel3 B2 HR2 HQ2 HO2
    obtain ⟨b', hb'⟩ : ∃ b, sfB D qs = b := ⟨_, rfl⟩
    obtain ⟨J, hJ⟩ : ∃ G, sfL D qs = G := ⟨_, rfl⟩
    rw [hb', hJ] at hG3
    have Hb' := Lib.hid hb'; have HJ := Lib.hid hJ
    clear hb' hJ
    go_wp2_with (fail)
    refine hG3.mono ?_
    rintro e w4 ⟨A4, c4, rfl, o4, bel4⟩
    have HP4 := Lib.hid (RdI.of_own o4)
    have B4 := B3.trans (bel4.mono B3.size)
    have HR4 := Lib.hid ((HR3.out.below bel4).more bel4.size); have HQ4 := Lib.hid ((HQ3.out.below bel4).more bel4.size); have HO4 := Lib.hid ((HO3.out.below bel4).more bel4.size)
    have hG4 := sSubstForm_any A1 L.length c1 L B m d qs w4 HR4.out HQ4.out hm
    clear hG3 o4 bel4 B3 HR3 HQ3 HO3
    rw [Hb.out, HGs.out] at hG4
    go_wp2_with (fail)
    refine hG4.mono ?_
    rintro e w5 ⟨A5, c5, rfl, _, bel5⟩
    have B5 := B4.trans (bel5.mono B4.size)
    have HR5 := Lib.hid ((HR4.out.below bel5).more bel5.size); have HO5 := Lib.hid ((HO4.out.below bel5).more bel5.size); have HP5 := Lib.hid ((HP4.out.below bel5).more bel5.size)
    have hG5 := sValidForm_any A1 L.length c1 L w5 HR5.out
    have HN := Lib.hid (fun w2 (bel : Below w.heap.size w w2) => isBinding_impl none 0 0 [] w2 (RdQ.nil w2 _ none) (by omega) (ht.below bel ht.lt))
    have HB5 := Lib.hid B5
    have HGL := Lib.hid (sfL_len L qs)
    clear hG4 bel5 B4 HR4 HQ4 HO4 HP4 B5
    cases hv : validB L with
    | false =>
      rw [hv] at hG5
      obtain rfl : b = false := by rw [← Hb.out]; exact sf_bad hv
      obtain rfl : b' = false := by rw [← Hb'.out, ← HD.out, dualL_no hv]; rfl
      clear hv
      go_wp2_with (fail)
      refine hG5.mono ?_
      rintro e w' ⟨rfl, rfl⟩
      clear hG5
      go_wp2_with (go_at_call 17; refine (HN.out _ HB5.out).mono ?_; rintro e w6 ⟨rfl, bel6⟩; rw [bnd_nil])
      have HB6 := Lib.hid (HB5.out.trans (bel6.mono HB5.out.size))
      go_wp2
      go_ret
      exact ⟨rfl, HB6.out⟩
    | true =>
      rw [hv] at hG5
      obtain ⟨e1, e2⟩ := sf_dual (qs := qs) hv
      rw [← dualL_yes hv, HD.out, Hb'.out, Hb.out] at e1
      rw [← dualL_yes hv, HD.out, HJ.out, HGs.out] at e2
      subst e1
      have HE2 := Lib.hid e2
      clear e2
      cases b' with
      | false =>
        obtain rfl : G = [] := by rw [← HGs.out]; exact sf_no Hb.out
        clear hv
        go_wp2_with (fail)
        refine hG5.mono ?_
        rintro e w' ⟨rfl, rfl⟩
        clear hG5
        go_wp2_with (go_at_call 17; refine (HN.out _ HB5.out).mono ?_; rintro e w6 ⟨rfl, bel6⟩; rw [bnd_nil])
        have HB6 := Lib.hid (HB5.out.trans (bel6.mono HB5.out.size))
        go_wp2
        go_ret
        exact ⟨rfl, HB6.out⟩
      | true =>
        have hvG : validB G = true := by rw [← HGs.out]; have := sf_yes Hb.out; rw [this.1]; exact this.2.2.2.2
        have hG6 := dualOf_impl A2 G.length c2 G w5 HO5.out (ht.below HB5.out ht.lt) (hu.below HB5.out hu.lt) k2
        rw [dualL_yes hvG, ← HE2.out] at hG6
        have hl : J.length ≤ 1048576 := by
          have := HGL.out
          rw [HGs.out] at this
          rw [HE2.out, List.length_map]; omega
        clear hv hvG
        go_wp2_with (fail)
        refine hG5.mono ?_
        rintro e w' ⟨rfl, rfl⟩
        clear hG5
        go_wp2_with (fail)
        refine hG6.mono ?_
        rintro e w6 ⟨A6, c6, rfl, o6, bel6⟩
        have HB6 := Lib.hid (HB5.out.trans (bel6.mono HB5.out.size))
        have hL := likeInts_any A4 A6 J.length J.length c4 c6 J J w6 ((HP5.out.below bel6).more bel6.size) (RdI.of_own o6) hl hl
        clear hG6 o6 bel6
        go_wp2_with (fail)
        refine hL.mono ?_
        rintro e w7 ⟨rfl, bel7⟩
        have HB7 := Lib.hid (HB6.out.trans (bel7.mono HB6.out.size))
        clear hL bel7
        go_wp2
        go_ret
        exact ⟨rfl, HB7.out⟩
  · exact walk_big A n c w hn

set_option maxRecDepth 100000 in
/-- What the walk gives, for all arguments and every world that holds the tables. -/
theorem contract (H : Type) (enc : TypeId × Value → H) (W : World) (base : Nat) (args : Array Value) (ds gs : List (DataW H)) (before : List MemPlace)
    (hval : ∀ (j : Nat) t v, Tryd.f3.params[j]? = some t → args[j]? = some v → Value.okWide Tryd.prog W .any base t v)
    (hW : DataW.Whole enc Tryd.prog Tryd.f3.params.toList Rows.fnSubstDualSpec.vars false W args.toList ds gs before) (hL : laidMetH Tryd.prog Rows.fnSubstDualRow.laid W) :
    Calls Tryd.prog 3 args W fun e W' => ∃ v, e = .returned v ∧ Rows.fnSubstDualSpec.post enc Tryd.prog Tryd.f3 false true false false W args v W' := by
  have hW' := hW
  obtain ⟨p, q, hA0, hV, rfl, hfz, hnd⟩ := hW
  have hA : DataW.TrodAll enc Tryd.prog W 0 (fun _ => true) true Tryd.f3.params.toList args.toList ds p := hA0
  rw [Tryd.params3] at hA hval
  obtain ⟨v0, vs0, d0, ds0, p0, q0, hargs, rfl, rfl, h0, r0⟩ := trodAll_cons hA
  obtain ⟨rfl, rfl, rfl⟩ := trodAll_nil r0
  obtain rfl : args = #[v0] := by cases args; simp_all
  obtain ⟨a0, len0, cap0, rfl⟩ := okWide_slice Tryd.underlying22 (hval 0 22 v0 rfl rfl)
  have k0 := h0
  have lt0 : ∀ x ∈ p0, x.block < W.heap.size := by obtain ⟨m, hm⟩ := k0; exact DataW.trod_lt m _ _ _ hm
  obtain ⟨z0, w0, c0, b0⟩ := open_u8s h0
  have ht : Arit W := arit_of hL
  have hu : Dual W := dual_of hL
  have hv1 := hV
  obtain ⟨g0, t0, cs0, f0, e0, p0', g1, t1, cs1, f1, e1, p1', rfl, _, _, _, _, _, _, _, _, rfl⟩ := trodVars_two hV
  clear hA0
  refine (walk a0 len0 cap0 z0 W w0 c0 b0 ht hu).mono fun e W' ⟨he, bel⟩ => ?_
  subst he
  exact ⟨_, rfl, _, _, _, [], _, _, hW', trodAll_mk1 (shut_bool Tryd.underlying4 _),
    (trodAll_cons_mk (Below.trod laidOut (by kernel_rfl) (of_decide_eq_true (by kernel_rfl)) k0 bel lt0) trodAll_mk0),
    vars_below bel (readable_all _ (by kernel_rfl)) hv1, bel.frame _, fun h => by cases h⟩

theorem laid_met (os : Os) : laidMet Tryd.prog Rows.fnSubstDualRow.laid ((laidWorld os).forCall (fun _ _ => 0) ⟨#[], #[.slice none 0 0], []⟩).memory :=
  laidMet_of_run' 8 (by kernel_rfl) (by kernel_rfl)
theorem reads (os : Os) {H : Type} (enc : TypeId × Value → H) : ∃ x, DataW.whole enc Tryd.prog ((laidWorld os).forCall (fun _ _ => 0) ⟨#[], #[.slice none 0 0], []⟩).memory Tryd.f3.params.toList Rows.fnSubstDualSpec.vars false (#[.slice none 0 0] : Array Value).toList 8 = some x :=
  Option.isSome_iff_exists.1 (by kernel_rfl)

set_option maxRecDepth 100000 in
theorem lifted (os : Os) (started : os.Started) (H : Type) (enc : TypeId × Value → H) (F : Stop.Interp) :
    ReturnsInHanded {} Tryd.checked os 3 .any ((OpenSpec.ofChange Rows.fnSubstDualSpec).preRow enc Tryd.prog Tryd.f3 Rows.fnSubstDualRow.domain false Rows.fnSubstDualRow.laid) (((OpenSpec.ofChange Rows.fnSubstDualSpec).at F).post enc Tryd.prog Tryd.f3 false true false false) := by
  obtain ⟨places, hx⟩ := reads os enc
  refine returnsInHanded_of_row (C := Tryd.checked) (s := OpenSpec.ofChange Rows.fnSubstDualSpec) own started (by kernel_rfl) Tryd.func3
    (witness_row_at (enc := enc) (C := Tryd.checked) false (laidWorld os) #[.slice none 0 0] rfl (by kernel_rfl) (by kernel_rfl) (by kernel_rfl)
      (OpenSpec.preRow_of_cond 8 hx rfl (fun k hk => by cases hk) (by kernel_rfl) (laid_met os))) ?_
  intro W base args ds gs before hval hW _ _ _ hL _ _
  exact contract H enc W base args ds gs before hval hW hL

theorem said : Rows.FnSubstDualSaid :=
  OpenClaim.holds_of_cond 3 Tryd.f3 rfl rfl rfl rfl rfl rfl rfl ⟨rfl, rfl, rfl, rfl, rfl⟩ rfl rfl rfl rfl rfl (by kernel_rfl) Tryd.func3 (by kernel_rfl)
    (of_decide_eq_true (by kernel_rfl)) (by unfold Func.isWrapper; first | (rw [if_pos (by decide +kernel)]; kernel_rfl) | (rw [if_neg (by decide +kernel)]; exact ⟨rfl, rfl⟩))
    (fun os started H enc _ F => by rw [OpenClaim.pre_eq_preRow]; exact lifted os started H enc F)

theorem plain (f : FuncId) (fn : Func) (hf : Tryd.pinned.checked.prog.funcNamed "loop.example/g00872/laws.FnSubstDual" = some f) (hfn : Tryd.pinned.checked.prog.funcs[f]? = some fn) :
    Rows.fnSubstDualCard.stood.looks = Tryd.pinned.checked.prog.looks [] ∧ ∀ (j : Nat) t, fn.params[j]? = some t → Tryd.pinned.checked.prog.wantsStandIn t = false := by
  obtain rfl : f = 3 := Option.some.inj ((show Tryd.prog.funcNamed "loop.example/g00872/laws.FnSubstDual" = some 3 by kernel_rfl).symm.trans hf) |>.symm
  obtain rfl : fn = Tryd.f3 := (Option.some.inj (Tryd.func3.symm.trans hfn)).symm
  refine ⟨by kernel_rfl, fun j t ht => ?_⟩
  rw [Tryd.params3] at ht
  have hm : t ∈ [22] := by simpa using Array.mem_of_getElem? ht
  have hall : ([22].all fun u => !Tryd.prog.wantsStandIn u) = true := by kernel_rfl
  exact (show Tryd.prog.wantsStandIn t = false by simpa using List.all_eq_true.1 hall t hm)

/-- The statement. -/
theorem card : Rows.FnSubstDualCardSaid :=
  Claim7.holds_tied_plain_at .later [] _ _ _ _ said (fun _ h => by cases h) (by kernel_rfl) (fun _ h => by cases h) fnSubstDual_row_tie rfl ⟨rfl, rfl⟩ (by kernel_rfl) rfl plain (by kernel_rfl)
end Go.Proofs.YtoniekjchabjlaaDoor.fnSubstDual
