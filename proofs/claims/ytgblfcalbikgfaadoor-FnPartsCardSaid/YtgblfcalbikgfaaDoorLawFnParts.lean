/- Proved: for all arguments the law that a drawn formula is made again of its operator and its operands answers true and leaves its argument as it was (FnParts). Conditions: the row's own: the listed tables read as the program's text lays them, which the card ties to that text. -/
import Derived.Test.YtgblfcalbikgfaaDoorFrame
import Derived.Test.YtgblfcalbikgfaaDoorBytes
import Derived.Test.YtgblfcalbikgfaaDoorPartsM
namespace Go.Proofs.YtgblfcalbikgfaaDoor.fnParts
open Go.ChangeShapes Go.WideShapes Go.ChangeAt Go.RowKit

theorem walk_big (A : Option Addr) (n c : Nat) (w : World) (hn : ¬ n ≤ 4096) :
    Calls Tryd.prog 4 #[.slice A n c] w fun e w' => e = .returned (.bool true) ∧ Below w.heap.size w w' := by
  have hd : decide (4096 < (n : Int)) = true := decide_eq_true (by omega)
  go_enter Tryd.func4, Tryd.ntmps4
  go_wp2_with (go_at_call 15; refine (big_any _ _ _ _).mono ?_; rintro e w' ⟨rfl, rfl⟩)
  go_ret
  exact ⟨rfl, Below.refl _ _⟩

set_option maxRecDepth 100000 in
set_option maxHeartbeats 8000000 in
theorem walk (A : Option Addr) (n c : Nat) (code : List Int) (w : World) (h : RdB w w.heap.size A n code) (_hnc : n ≤ c) (_hf : ∀ z ∈ code, (Lit.int .u8 z).wf = true) (ht : Arit w) :
    Calls Tryd.prog 4 #[.slice A n c] w fun e w' => e = .returned (.bool true) ∧ Below w.heap.size w w' := by
  by_cases hn : n ≤ 4096
  · have hd : decide (4096 < (n : Int)) = false := decide_eq_false (by omega)
    go_enter Tryd.func4, Tryd.ntmps4
    go_wp2_with (fail)
    refine (big_any _ _ _ _).mono ?_
    rintro e w' ⟨rfl, rfl⟩
    go_wp2_with (fail)
    refine (drawOperator_any A n c code w h hn).mono ?_
    rintro e w1 ⟨L, A1, c1, rfl, l1, l2, o1, B1⟩
    have k1 := (own_cap o1).1
    have ht1 := ht.below B1 ht.lt
    have hP := operatorOf_impl A1 L.length c1 L w1 (RdI.of_own o1) ht1 k1
    have hQ := operandOf_impl A1 L.length c1 L 0 w1 (RdI.of_own o1) ht1 k1
    clear l2
    cases hv : validB L with
    | false =>
      rw [opOf_no hv] at hP
      have n0 : opndB L 0 = false := opndB_no (by rw [hv]; simp)
      have n1 : opndB L 1 = false := opndB_no (by rw [hv]; simp)
      rw [n0] at hQ
      generalize opndL L 0 = a at hQ
      go_wp2_with (fail)
      refine hP.mono ?_
      rintro e w' ⟨rfl, rfl⟩
      go_wp2_with (fail)
      refine hQ.mono ?_
      rintro e w2 ⟨A2, c2, rfl, o2, bel2⟩
      have o1_2 := own_below o1 bel2 (Nat.le_refl _)
      have B2 := B1.trans (bel2.mono B1.size)
      have hR := operandOf_impl A1 L.length c1 L 1 w2 (RdI.of_own o1_2) (ht.below B2 ht.lt) k1
      rw [n1] at hR
      generalize opndL L 1 = b at hR
      clear hP hQ o1 bel2 B1 n0 n1 ht1
      go_wp2_with (fail)
      refine hR.mono ?_
      rintro e w3 ⟨A3, c3, rfl, o3, bel3⟩
      have x1 := RdI.of_own (own_below o1_2 bel3 (Nat.le_refl _))
      have HB := Lib.hid (B2.trans (bel3.mono B2.size))
      clear hR o2 o3 o1_2 bel3 B2
      go_wp2_with (go_at_call 18; refine (sValidForm_any _ _ _ L _ x1).mono ?_; rintro e w' ⟨rfl, rfl⟩)
      go_ret
      exact ⟨rfl, HB.out⟩
    | true =>
      have hlen := valid_len hv
      have hr : arZ (L.getD 0 0) = 0 ∨ arZ (L.getD 0 0) = 1 ∨ arZ (L.getD 0 0) = 2 := by
        have h1 := valid_all hv (L.getD 0 0) (by have : 0 < L.length := by omega
                                                 simp [List.getD, this])
        have h2 := arZ_cases (L.getD 0 0)
        omega
      rcases hr with hr | hr | hr
      · obtain ⟨hl1, n0, n1, hdep, hop⟩ := parts_none hv hr
        rw [n0] at hQ
        generalize opndL L 0 = a at hQ
        have hlb : ((L.length : Int) == 1) = true := by rw [hl1]; rfl
        have HDep := Lib.hid hdep
        clear hr hlen hdep hl1 n0
        rcases hop with hop | hop | hop
        all_goals
          rw [hop] at hP
          clear hop
          go_wp2_with (fail)
          refine hP.mono ?_
          rintro e w' ⟨rfl, rfl⟩
          go_wp2_with (fail)
          refine hQ.mono ?_
          rintro e w2 ⟨A2, c2, rfl, o2, bel2⟩
          have o1_2 := own_below o1 bel2 (Nat.le_refl _)
          have B2 := B1.trans (bel2.mono B1.size)
          have hR := operandOf_impl A1 L.length c1 L 1 w2 (RdI.of_own o1_2) (ht.below B2 ht.lt) k1
          rw [n1] at hR
          generalize opndL L 1 = b at hR
          clear hP hQ o1 bel2 B1 n1 ht1
          go_wp2_with (fail)
          refine hR.mono ?_
          rintro e w3 ⟨A3, c3, rfl, o3, bel3⟩
          have x1 := RdI.of_own (own_below o1_2 bel3 (Nat.le_refl _))
          have B3 := B2.trans (bel3.mono B2.size)
          have ht3 := ht.below B3 ht.lt
          have HB := Lib.hid B3
          clear hR o2 o3 o1_2 bel3 B2 B3
          go_wp2_with (first | (go_at_call 18; refine (sValidForm_any _ _ _ L _ x1).mono ?_; rintro e w' ⟨rfl, rfl⟩) | (go_at_call 20; refine (depthOf_impl _ _ _ L _ x1 ht3 k1).mono ?_; rw [HDep.out]; rintro e w' ⟨rfl, rfl⟩))
          go_ret
          exact ⟨rfl, HB.out⟩
      · obtain ⟨hop, n0, n1, hwb, hwl⟩ := parts_one hv hr
        rw [n0] at hQ
        have hw := fun w A c (hx : RdI w w.heap.size A (opndL L 0).length (opndL L 0)) ht hk => wrapped_impl (opOf L) A (opndL L 0).length c (opndL L 0) w hx ht hk
        rw [hwb, hwl] at hw
        have HW := Lib.hid hw
        have hab := opndL_len L 0
        generalize opndL L 0 = a at hQ HW hab
        clear hr hlen n0 hwb hwl hw
        rcases hop with hop | hop
        all_goals
          rw [hop] at hP HW
          clear hop
          go_wp2_with (fail)
          refine hP.mono ?_
          rintro e w' ⟨rfl, rfl⟩
          go_wp2_with (fail)
          refine hQ.mono ?_
          rintro e w2 ⟨A2, c2, rfl, o2, bel2⟩
          have o1_2 := own_below o1 bel2 (Nat.le_refl _)
          have B2 := B1.trans (bel2.mono B1.size)
          have hR := operandOf_impl A1 L.length c1 L 1 w2 (RdI.of_own o1_2) (ht.below B2 ht.lt) k1
          rw [n1] at hR
          generalize opndL L 1 = b at hR
          have k2 := (own_cap o2).1
          clear hP hQ o1 bel2 B1 n1 ht1
          go_wp2_with (fail)
          refine hR.mono ?_
          rintro e w3 ⟨A3, c3, rfl, o3, bel3⟩
          have o1_3 := own_below o1_2 bel3 (Nat.le_refl _)
          have o2_3 := own_below o2 bel3 (Nat.le_refl _)
          have B3 := B2.trans (bel3.mono B2.size)
          have x1 := RdI.of_own o1_3
          have o1_4 := o1_3.alloc (.cells #[] 2)
          have o2_4 := o2_3.alloc (.cells #[] 2)
          have B4 := B3.alloc B3.size (.cells #[] 2)
          have hW4 := HW.out _ _ c2 (RdI.of_own o2_4) (ht.below B4 ht.lt) k2
          have HW4 := Lib.hid hW4; have HO1 := Lib.hid o1_4; have HB4 := Lib.hid B4
          clear hR o2 o3 o1_2 bel3 B2 B3 o1_3 o2_3 o1_4 o2_4 B4 hW4
          go_wp2_with (go_at_call 18; refine (sValidForm_any _ _ _ L _ x1).mono ?_; rintro e w' ⟨rfl, rfl⟩)
          refine HW4.out.mono ?_
          rintro e w5 ⟨A5, c5, rfl, o5, bel5⟩
          have x5 := RdI.of_own o5
          have y5 := RdI.of_own (own_below HO1.out bel5 (Nat.le_refl _))
          have B5 := HB4.out.trans (bel5.mono HB4.out.size)
          have HL := Lib.hid (likeInts_any A5 A1 L.length L.length c5 c1 L L w5 x5 y5 (by omega) (by omega))
          have HB5 := Lib.hid B5
          clear o5 bel5 x5 y5 B5 HO1 HB4 HW4
          go_wp2_with (fail)
          refine HL.out.mono ?_
          rintro e w6 ⟨rfl, bel6⟩
          have HB := Lib.hid (HB5.out.trans (bel6.mono HB5.out.size))
          clear bel6
          go_wp2
          go_ret
          exact ⟨rfl, HB.out⟩
      · obtain ⟨hop, n0, n1, hjb, hjl, hfe⟩ := parts_two hv hr
        rw [n0] at hQ
        have hw := fun w A c A' c' (hx : RdI w w.heap.size A (opndL L 0).length (opndL L 0)) (hy : RdI w w.heap.size A' (opndL L 1).length (opndL L 1)) ht hk hk' => joined_impl (opOf L) A (opndL L 0).length c (opndL L 0) A' (opndL L 1).length c' (opndL L 1) w hx hy ht hk hk'
        rw [hjb, hjl] at hw
        have hR1 := fun w A c (hx : RdI w w.heap.size A L.length L) ht hk => operandOf_impl A L.length c L 1 w hx ht hk
        rw [n1] at hR1
        have HW := Lib.hid hw; have HR1 := Lib.hid hR1
        have hab := opndL_len L 0
        have hfe' := Lib.hid hfe
        generalize opndL L 0 = a at hQ HW hab hfe'
        generalize opndL L 1 = b at HW HR1
        have hee : (((a.length : Int) + 1) == ((a.length : Int) + 1)) = true := by simp
        clear hr hlen n0 n1 hjb hjl hfe hw hR1
        rcases hop with hop | hop | hop | hop
        all_goals
          rw [hop] at hP HW
          clear hop
          go_wp2_with (fail)
          refine hP.mono ?_
          rintro e w' ⟨rfl, rfl⟩
          go_wp2_with (fail)
          refine hQ.mono ?_
          rintro e w2 ⟨A2, c2, rfl, o2, bel2⟩
          have o1_2 := own_below o1 bel2 (Nat.le_refl _)
          have B2 := B1.trans (bel2.mono B1.size)
          have hR := HR1.out w2 A1 c1 (RdI.of_own o1_2) (ht.below B2 ht.lt) k1
          have k2 := (own_cap o2).1
          clear hP hQ o1 bel2 B1 ht1 HR1
          go_wp2_with (fail)
          refine hR.mono ?_
          rintro e w3 ⟨A3, c3, rfl, o3, bel3⟩
          have k3 := (own_cap o3).1
          have o1_3 := own_below o1_2 bel3 (Nat.le_refl _)
          have o2_3 := own_below o2 bel3 (Nat.le_refl _)
          have B3 := B2.trans (bel3.mono B2.size)
          have x1 := RdI.of_own o1_3
          have o1_4 := o1_3.alloc (.cells #[] 2)
          have o2_4 := o2_3.alloc (.cells #[] 2)
          have o3_4 := o3.alloc (.cells #[] 2)
          have B4 := B3.alloc B3.size (.cells #[] 2)
          have hW4 := HW.out _ _ c2 _ c3 (RdI.of_own o2_4) (RdI.of_own o3_4) (ht.below B4 ht.lt) k2 k3
          have HW4 := Lib.hid hW4; have HO1 := Lib.hid o1_4; have HB4 := Lib.hid B4
          clear hR o2 o3 o1_2 bel3 B2 B3 o1_3 o2_3 o1_4 o2_4 o3_4 B4 hW4
          go_wp2_with (go_at_call 18; refine (sValidForm_any _ _ _ L _ x1).mono ?_; rintro e w' ⟨rfl, rfl⟩)
          refine HW4.out.mono ?_
          rintro e w5 ⟨A5, c5, rfl, o5, bel5⟩
          have x5 := RdI.of_own o5
          have z5 := own_below HO1.out bel5 (Nat.le_refl _)
          have y5 := RdI.of_own z5
          have B5 := HB4.out.trans (bel5.mono HB4.out.size)
          have HL := Lib.hid (likeInts_any A5 A1 L.length L.length c5 c1 L L w5 x5 y5 (by omega) (by omega))
          have HB5 := Lib.hid B5; have HZ5 := Lib.hid z5
          clear o5 bel5 x5 y5 z5 B5 HO1 HB4 HW4
          go_wp2_with (fail)
          refine HL.out.mono ?_
          rintro e w6 ⟨rfl, bel6⟩
          have B6 := HB5.out.trans (bel6.mono HB5.out.size)
          have y6 := RdI.of_own (own_below HZ5.out bel6 (Nat.le_refl _))
          have ht6 := ht.below B6 ht.lt
          have HB := Lib.hid B6
          clear bel6 B6
          go_wp2_with (go_at_call 29; refine (formEnd_impl _ _ _ L 1 _ y6 ht6 k1).mono ?_; rw [hfe'.out]; rintro e w' ⟨rfl, rfl⟩)
          go_ret
          exact ⟨rfl, HB.out⟩
  · exact walk_big A n c w hn

/-- What the walk gives, for all arguments and every world that holds the tables. -/
theorem contract (H : Type) (enc : TypeId × Value → H) (W : World) (base : Nat) (args : Array Value) (ds gs : List (DataW H)) (before : List MemPlace)
    (hval : ∀ (j : Nat) t v, Tryd.f4.params[j]? = some t → args[j]? = some v → Value.okWide Tryd.prog W .any base t v)
    (hW : DataW.Whole enc Tryd.prog Tryd.f4.params.toList Rows.fnPartsSpec.vars false W args.toList ds gs before) (hL : laidMetH Tryd.prog Rows.fnPartsRow.laid W) :
    Calls Tryd.prog 4 args W fun e W' => ∃ v, e = .returned v ∧ Rows.fnPartsSpec.post enc Tryd.prog Tryd.f4 false true false false W args v W' := by
  have hW' := hW
  obtain ⟨p, q, hA0, hV, rfl, hfz, hnd⟩ := hW
  have hA : DataW.TrodAll enc Tryd.prog W 0 (fun _ => true) true Tryd.f4.params.toList args.toList ds p := hA0
  rw [Tryd.params4] at hA hval
  obtain ⟨v0, vs0, d0, ds0, p0, q0, hargs, rfl, rfl, h0, r0⟩ := trodAll_cons hA
  obtain ⟨rfl, rfl, rfl⟩ := trodAll_nil r0
  obtain rfl : args = #[v0] := by cases args; simp_all
  obtain ⟨a0, len0, cap0, rfl⟩ := okWide_slice Tryd.underlying22 (hval 0 22 v0 rfl rfl)
  have k0 := h0
  have lt0 : ∀ x ∈ p0, x.block < W.heap.size := by obtain ⟨m, hm⟩ := k0; exact DataW.trod_lt m _ _ _ hm
  obtain ⟨z0, w0, c0, b0⟩ := open_u8s h0
  have ht : Arit W := arit_of hL
  have hv1 := hV
  obtain ⟨g, t, cs, fuel, d, p', rfl, hg, hty, hvar, hd, rfl⟩ := trodVars_one hV
  clear hA0
  refine (walk a0 len0 cap0 z0 W w0 c0 b0 ht).mono fun e W' ⟨he, bel⟩ => ?_
  subst he
  exact ⟨_, rfl, _, _, _, [], _, _, hW', trodAll_mk1 (shut_bool Tryd.underlying4 _),
    (trodAll_cons_mk (Below.trod laidOut (by kernel_rfl) (of_decide_eq_true (by kernel_rfl)) k0 bel lt0) trodAll_mk0),
    vars_below bel (readable_all _ (by kernel_rfl)) hv1, bel.frame _, fun h => by cases h⟩

theorem laid_met (os : Os) : laidMet Tryd.prog Rows.fnPartsRow.laid ((laidWorld os).forCall (fun _ _ => 0) ⟨#[], #[.slice none 0 0], []⟩).memory :=
  laidMet_of_run' 8 (by kernel_rfl) (by kernel_rfl)
theorem reads (os : Os) {H : Type} (enc : TypeId × Value → H) : ∃ x, DataW.whole enc Tryd.prog ((laidWorld os).forCall (fun _ _ => 0) ⟨#[], #[.slice none 0 0], []⟩).memory Tryd.f4.params.toList Rows.fnPartsSpec.vars false (#[.slice none 0 0] : Array Value).toList 8 = some x :=
  Option.isSome_iff_exists.1 (by kernel_rfl)

set_option maxRecDepth 100000 in
theorem lifted (os : Os) (started : os.Started) (H : Type) (enc : TypeId × Value → H) (F : Stop.Interp) :
    ReturnsInHanded {} Tryd.checked os 4 .any ((OpenSpec.ofChange Rows.fnPartsSpec).preRow enc Tryd.prog Tryd.f4 Rows.fnPartsRow.domain false Rows.fnPartsRow.laid) (((OpenSpec.ofChange Rows.fnPartsSpec).at F).post enc Tryd.prog Tryd.f4 false true false false) := by
  obtain ⟨places, hx⟩ := reads os enc
  refine returnsInHanded_of_row (C := Tryd.checked) (s := OpenSpec.ofChange Rows.fnPartsSpec) own started (by kernel_rfl) Tryd.func4
    (witness_row_at (enc := enc) (C := Tryd.checked) false (laidWorld os) #[.slice none 0 0] rfl (by kernel_rfl) (by kernel_rfl) (by kernel_rfl)
      (OpenSpec.preRow_of_cond 8 hx rfl (fun k hk => by cases hk) (by kernel_rfl) (laid_met os))) ?_
  intro W base args ds gs before hval hW _ _ _ hL _ _
  exact contract H enc W base args ds gs before hval hW hL

theorem said : Rows.FnPartsSaid :=
  OpenClaim.holds_of_cond 4 Tryd.f4 rfl rfl rfl rfl rfl rfl rfl ⟨rfl, rfl, rfl, rfl, rfl⟩ rfl rfl rfl rfl rfl (by kernel_rfl) Tryd.func4 (by kernel_rfl)
    (of_decide_eq_true (by kernel_rfl)) (by unfold Func.isWrapper; first | (rw [if_pos (by decide +kernel)]; kernel_rfl) | (rw [if_neg (by decide +kernel)]; exact ⟨rfl, rfl⟩))
    (fun os started H enc _ F => by rw [OpenClaim.pre_eq_preRow]; exact lifted os started H enc F)

theorem plain (f : FuncId) (fn : Func) (hf : Tryd.pinned.checked.prog.funcNamed "loop.example/g00872/laws.FnParts" = some f) (hfn : Tryd.pinned.checked.prog.funcs[f]? = some fn) :
    false = Tryd.pinned.checked.prog.looks [] ∧ ∀ (j : Nat) t, fn.params[j]? = some t → Tryd.pinned.checked.prog.wantsStandIn t = false := by
  obtain rfl : f = 4 := Option.some.inj ((show Tryd.prog.funcNamed "loop.example/g00872/laws.FnParts" = some 4 by kernel_rfl).symm.trans hf) |>.symm
  obtain rfl : fn = Tryd.f4 := (Option.some.inj (Tryd.func4.symm.trans hfn)).symm
  refine ⟨by kernel_rfl, fun j t ht => ?_⟩
  rw [Tryd.params4] at ht
  have hm : t ∈ [22] := by simpa using Array.mem_of_getElem? ht
  have hall : ([22].all fun u => !Tryd.prog.wantsStandIn u) = true := by kernel_rfl
  exact (show Tryd.prog.wantsStandIn t = false by simpa using List.all_eq_true.1 hall t hm)

/-- The statement. -/
theorem card : Rows.FnPartsCardSaid :=
  Claim7.holds_tied_plain_at .later [] _ _ _ _ said (fun _ h => by cases h) (by kernel_rfl) (fun _ h => by cases h) fnParts_row_tie rfl ⟨rfl, rfl⟩ (by kernel_rfl) rfl plain (by kernel_rfl)
end Go.Proofs.YtgblfcalbikgfaaDoor.fnParts
