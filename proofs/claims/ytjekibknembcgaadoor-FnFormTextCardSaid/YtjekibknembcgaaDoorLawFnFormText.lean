/- Proved: for all arguments the law that a drawn formula is recovered from its text, and that a drawn text that is read is the text of its formula, answers true and leaves its argument as it was (FnFormText). Conditions: the row's own: the listed tables read as the program's text lays them, which the card ties to that text. -/
import Derived.Test.YtjekibknembcgaaDoorFrame
import Derived.Test.YtjekibknembcgaaDoorReadW
import Derived.Test.YtjekibknembcgaaDoorRead
namespace Go.Proofs.YtjekibknembcgaaDoor.fnFormText
open Go.ChangeShapes Go.WideShapes Go.ChangeAt Go.RowKit

theorem walk_big (A : Option Addr) (n c : Nat) (w : World) (hn : ¬ n ≤ 4096) :
    Calls Tryd.prog 3 #[.slice A n c] w fun e w' => e = .returned (.bool true) ∧ Below w.heap.size w w' := by
  have hd : decide (4096 < (n : Int)) = true := decide_eq_true (by omega)
  go_enter Tryd.func3, Tryd.ntmps3
  go_wp2_with (go_at_call 16; refine (big_any _ _ _ _).mono ?_; rintro e w' ⟨rfl, rfl⟩)
  go_ret
  exact ⟨rfl, Below.refl _ _⟩


theorem read_empty : rdB (mkB []) = false := rdB_no1 (by decide +kernel)
theorem read_text {L : List Int} (hv : validB L = true) : rdB (mkB (textL L)) = true ∧ rdL (mkB (textL L)) = L := by
  have hb : bl (mkB (textL L)) = textL L := bl_mkB (fun c hc => by have := textL_byte L c hc; omega)
  have hid : nsp (textL L) = textL L := nsp_id (fun c hc => by have := textL_byte L c hc; omega)
  have hl := textL_len L
  obtain ⟨p1, p2⟩ := pf_text hv (by omega) hid
  have hr : rdB (mkB (textL L)) = true := rdB_yes (by rw [hb]; exact p2) (by rw [hb, p1]; exact beq_self_eq_true _)
  exact ⟨hr, by rw [rdL_yes hr, hb, p1]⟩
theorem read_back {t : ByteArray} (hr : rdB t = true) : ((mkB (textL (rdL t))).toList == t.toList) = true := by
  rw [rdL_yes hr]
  unfold rdB at hr
  exact (Bool.and_eq_true_iff.1 hr).2

set_option maxRecDepth 100000 in
set_option maxHeartbeats 4000000 in
/-- The law's second half: a drawn text. -/
theorem walk (A : Option Addr) (n c : Nat) (code : List Int) (w : World) (h : RdB w w.heap.size A n code) (_hnc : n ≤ c) (_hf : ∀ z ∈ code, (Lit.int .u8 z).wf = true) (ht : Arit w) (hu : Dual w) :
    Calls Tryd.prog 3 #[.slice A n c] w fun e w' => e = .returned (.bool true) ∧ Below w.heap.size w w' := by
  by_cases hn : n ≤ 4096
  · have hd : decide (4096 < (n : Int)) = false := decide_eq_false (by omega)
    have HRD := Lib.hid h
    have HDR := Lib.hid (fun w' (hb : Below w.heap.size w w') => drawRead_any A n c code w' (RdB.more (RdB.keep h (fun p hp => hb.cell hp)) hb.size) hn)
    go_enter Tryd.func3, Tryd.ntmps3
    go_wp2_with (fail)
    refine (big_any _ _ _ _).mono ?_
    rintro e w' ⟨rfl, rfl⟩
    go_wp2_with (fail)
    refine (drawText_any A n c code w h hn).mono ?_
    rintro e w1 ⟨L, A1, c1, rfl, l1, l2, o1, B1⟩
    have k1 := (own_cap o1).1
    have hts : (mkB (textL L)).size ≤ 1048576 := by rw [mkB_size]; have := textL_len L; omega
    have HFT := Lib.hid (formText_impl A1 L.length c1 L w1 (RdI.of_own o1) (ht.below B1 ht.lt) k1)
    have HRF := Lib.hid (readForm_impl (mkB (textL L)) w1 hts (ht.below B1 ht.lt) (hu.below B1 hu.lt))
    have HO1 := Lib.hid o1; have HB1 := Lib.hid B1
    clear o1 B1 l2 hts
    cases hv : validB L with
    | false =>
      have HVF := Lib.hid (fun w hw => sValidForm_any A1 L.length c1 L w hw)
      rw [textL_no hv] at HFT HRF
      rw [rdL_no read_empty, read_empty] at HRF
      rw [hv] at HVF
      obtain ⟨S, hS⟩ : ∃ S, mkB [] = S := ⟨_, rfl⟩
      rw [hS] at HFT HRF
      clear hS hv
      go_wp2_with (fail)
      refine HFT.out.mono ?_
      rintro e w' ⟨rfl, rfl⟩
      go_wp2_with (fail)
      refine HRF.out.mono ?_
      rintro e w2 ⟨A2, c2, rfl, o2, bel2⟩
      have o1_2 := own_below HO1.out bel2 (Nat.le_refl _)
      have B2 := HB1.out.trans (bel2.mono HB1.out.size)
      have HO2 := Lib.hid o1_2; have HB2 := Lib.hid B2
      clear o2 bel2 o1_2 B2
      go_wp2_with (fail)
      refine (HVF.out w2 (RdI.of_own HO2.out)).mono ?_
      rintro e w' ⟨rfl, rfl⟩
      go_wp2_with (fail)
      --HALF
      refine (HDR.out _ HB2.out).mono ?_
      rintro e wy ⟨t, hts, rfl, belt⟩
      have BY := HB2.out.trans (belt.mono HB2.out.size)
      have HBY := Lib.hid BY
      have HRT := Lib.hid (readForm_impl t wy (by omega) (ht.below BY ht.lt) (hu.below BY hu.lt))
      clear belt BY HB2
      cases hr : rdB t with
      | false =>
        rw [rdL_no hr, hr] at HRT
        clear hr
        go_wp2_with (fail)
        refine HRT.out.mono ?_
        rintro e wz ⟨A4, c4, rfl, o4, bel4⟩
        have HB4 := Lib.hid (HBY.out.trans (bel4.mono HBY.out.size))
        clear o4 bel4
        go_wp2
        go_ret
        exact ⟨rfl, HB4.out⟩
      | true =>
        have hback := read_back hr
        rw [hr] at HRT
        have HFR := Lib.hid (fun A n c w' => formText_impl A n c (rdL t) w')
        generalize rdL t = V at *
        generalize mkB (textL V) = TV at *
        clear hr
        go_wp2_with (fail)
        refine HRT.out.mono ?_
        rintro e wz ⟨A4, c4, rfl, o4, bel4⟩
        have B4 := HBY.out.trans (bel4.mono HBY.out.size)
        have HF4 := Lib.hid (HFR.out A4 V.length c4 wz (RdI.of_own o4) (ht.below B4 ht.lt) (own_cap o4).1)
        have HB4 := Lib.hid B4
        clear o4 bel4 B4
        go_wp2_with (fail)
        refine HF4.out.mono ?_
        rintro e w' ⟨rfl, rfl⟩
        go_wp2
        go_ret
        exact ⟨rfl, HB4.out⟩
    | true =>
      obtain ⟨hr1, hr2⟩ := read_text hv
      have HVF := Lib.hid (fun w hw => sValidForm_any A1 L.length c1 L w hw)
      rw [hr1, hr2] at HRF
      rw [hv] at HVF
      have hl24 := (valid_len hv).2.1
      obtain ⟨S, hS⟩ : ∃ S, mkB (textL L) = S := ⟨_, rfl⟩
      rw [hS] at HFT HRF
      clear hS hv hr1 hr2
      go_wp2_with (fail)
      refine HFT.out.mono ?_
      rintro e w' ⟨rfl, rfl⟩
      go_wp2_with (fail)
      refine HRF.out.mono ?_
      rintro e w2 ⟨A2, c2, rfl, o2, bel2⟩
      have o1_2 := own_below HO1.out bel2 (Nat.le_refl _)
      have B2 := HB1.out.trans (bel2.mono HB1.out.size)
      have HLK := Lib.hid (likeInts_any A1 A2 L.length L.length c1 c2 L L w2 (RdI.of_own o1_2) (RdI.of_own o2) (by omega) (by omega))
      have HO2 := Lib.hid o1_2; have HB2 := Lib.hid B2
      clear o2 bel2 o1_2 B2
      go_wp2_with (fail)
      refine (HVF.out w2 (RdI.of_own HO2.out)).mono ?_
      rintro e w' ⟨rfl, rfl⟩
      go_wp2_with (fail)
      refine HLK.out.mono ?_
      rintro e w3 ⟨rfl, bel3⟩
      have HB3 := Lib.hid (HB2.out.trans (bel3.mono HB2.out.size))
      clear bel3
      go_wp2_with (fail)
      --HALF
      refine (HDR.out _ HB3.out).mono ?_
      rintro e wy ⟨t, hts, rfl, belt⟩
      have BY := HB3.out.trans (belt.mono HB3.out.size)
      have HBY := Lib.hid BY
      have HRT := Lib.hid (readForm_impl t wy (by omega) (ht.below BY ht.lt) (hu.below BY hu.lt))
      clear belt BY HB3
      cases hr : rdB t with
      | false =>
        rw [rdL_no hr, hr] at HRT
        clear hr
        go_wp2_with (fail)
        refine HRT.out.mono ?_
        rintro e wz ⟨A4, c4, rfl, o4, bel4⟩
        have HB4 := Lib.hid (HBY.out.trans (bel4.mono HBY.out.size))
        clear o4 bel4
        go_wp2
        go_ret
        exact ⟨rfl, HB4.out⟩
      | true =>
        have hback := read_back hr
        rw [hr] at HRT
        have HFR := Lib.hid (fun A n c w' => formText_impl A n c (rdL t) w')
        generalize rdL t = V at *
        generalize mkB (textL V) = TV at *
        clear hr
        go_wp2_with (fail)
        refine HRT.out.mono ?_
        rintro e wz ⟨A4, c4, rfl, o4, bel4⟩
        have B4 := HBY.out.trans (bel4.mono HBY.out.size)
        have HF4 := Lib.hid (HFR.out A4 V.length c4 wz (RdI.of_own o4) (ht.below B4 ht.lt) (own_cap o4).1)
        have HB4 := Lib.hid B4
        clear o4 bel4 B4
        go_wp2_with (fail)
        refine HF4.out.mono ?_
        rintro e w' ⟨rfl, rfl⟩
        go_wp2
        go_ret
        exact ⟨rfl, HB4.out⟩
  · exact walk_big A n c w hn

set_option maxRecDepth 100000 in
/-- What the walk gives, for all arguments and every world that holds the tables. -/
theorem contract (H : Type) (enc : TypeId × Value → H) (W : World) (base : Nat) (args : Array Value) (ds gs : List (DataW H)) (before : List MemPlace)
    (hval : ∀ (j : Nat) t v, Tryd.f3.params[j]? = some t → args[j]? = some v → Value.okWide Tryd.prog W .any base t v)
    (hW : DataW.Whole enc Tryd.prog Tryd.f3.params.toList Rows.fnFormTextSpec.vars false W args.toList ds gs before) (hL : laidMetH Tryd.prog Rows.fnFormTextRow.laid W) :
    Calls Tryd.prog 3 args W fun e W' => ∃ v, e = .returned v ∧ Rows.fnFormTextSpec.post enc Tryd.prog Tryd.f3 false true false false W args v W' := by
  have hW' := hW
  obtain ⟨p, q, hA0, hV, rfl, hfz, hnd⟩ := hW
  have hA : DataW.TrodAll enc Tryd.prog W 0 (fun _ => true) true Tryd.f3.params.toList args.toList ds p := hA0
  rw [Tryd.params3] at hA hval
  obtain ⟨v0, vs0, d0, ds0, p0, q0, hargs, rfl, rfl, h0, r0⟩ := trodAll_cons hA
  obtain ⟨rfl, rfl, rfl⟩ := trodAll_nil r0
  obtain rfl : args = #[v0] := by cases args; simp_all
  obtain ⟨a0, len0, cap0, rfl⟩ := okWide_slice Tryd.underlying22 (hval 0 22 v0 rfl rfl)
  have k0 := h0
  have lt0 : ∀ x ∈ p0, x.block < W.heap.size := by obtain ⟨m, hm⟩ := k0; exact DataW.trod_lt m _ _ _ hm
  obtain ⟨z0, w0, c0, b0⟩ := open_u8s h0
  have ht : Arit W := arit_of hL
  have hu : Dual W := dual_of hL
  have hv1 := hV
  obtain ⟨g0, t0, cs0, f0, e0, p0', g1, t1, cs1, f1, e1, p1', rfl, _, _, _, _, _, _, _, _, rfl⟩ := trodVars_two hV
  clear hA0
  refine (walk a0 len0 cap0 z0 W w0 c0 b0 ht hu).mono fun e W' ⟨he, bel⟩ => ?_
  subst he
  exact ⟨_, rfl, _, _, _, [], _, _, hW', trodAll_mk1 (shut_bool Tryd.underlying4 _),
    (trodAll_cons_mk (Below.trod laidOut (by kernel_rfl) (of_decide_eq_true (by kernel_rfl)) k0 bel lt0) trodAll_mk0),
    vars_below bel (readable_all _ (by kernel_rfl)) hv1, bel.frame _, fun h => by cases h⟩

theorem laid_met (os : Os) : laidMet Tryd.prog Rows.fnFormTextRow.laid ((laidWorld os).forCall (fun _ _ => 0) ⟨#[], #[.slice none 0 0], []⟩).memory :=
  laidMet_of_run' 8 (by kernel_rfl) (by kernel_rfl)
theorem reads (os : Os) {H : Type} (enc : TypeId × Value → H) : ∃ x, DataW.whole enc Tryd.prog ((laidWorld os).forCall (fun _ _ => 0) ⟨#[], #[.slice none 0 0], []⟩).memory Tryd.f3.params.toList Rows.fnFormTextSpec.vars false (#[.slice none 0 0] : Array Value).toList 8 = some x :=
  Option.isSome_iff_exists.1 (by kernel_rfl)

set_option maxRecDepth 100000 in
theorem lifted (os : Os) (started : os.Started) (H : Type) (enc : TypeId × Value → H) (F : Stop.Interp) :
    ReturnsInHanded {} Tryd.checked os 3 .any ((OpenSpec.ofChange Rows.fnFormTextSpec).preRow enc Tryd.prog Tryd.f3 Rows.fnFormTextRow.domain false Rows.fnFormTextRow.laid) (((OpenSpec.ofChange Rows.fnFormTextSpec).at F).post enc Tryd.prog Tryd.f3 false true false false) := by
  obtain ⟨places, hx⟩ := reads os enc
  refine returnsInHanded_of_row (C := Tryd.checked) (s := OpenSpec.ofChange Rows.fnFormTextSpec) own started (by kernel_rfl) Tryd.func3
    (witness_row_at (enc := enc) (C := Tryd.checked) false (laidWorld os) #[.slice none 0 0] rfl (by kernel_rfl) (by kernel_rfl) (by kernel_rfl)
      (OpenSpec.preRow_of_cond 8 hx rfl (fun k hk => by cases hk) (by kernel_rfl) (laid_met os))) ?_
  intro W base args ds gs before hval hW _ _ _ hL _ _
  exact contract H enc W base args ds gs before hval hW hL

theorem said : Rows.FnFormTextSaid :=
  OpenClaim.holds_of_cond 3 Tryd.f3 rfl rfl rfl rfl rfl rfl rfl ⟨rfl, rfl, rfl, rfl, rfl⟩ rfl rfl rfl rfl rfl (by kernel_rfl) Tryd.func3 (by kernel_rfl)
    (of_decide_eq_true (by kernel_rfl)) (by unfold Func.isWrapper; first | (rw [if_pos (by decide +kernel)]; kernel_rfl) | (rw [if_neg (by decide +kernel)]; exact ⟨rfl, rfl⟩))
    (fun os started H enc _ F => by rw [OpenClaim.pre_eq_preRow]; exact lifted os started H enc F)

theorem plain (f : FuncId) (fn : Func) (hf : Tryd.pinned.checked.prog.funcNamed "loop.example/g00872/laws.FnFormText" = some f) (hfn : Tryd.pinned.checked.prog.funcs[f]? = some fn) :
    Rows.fnFormTextCard.stood.looks = Tryd.pinned.checked.prog.looks [] ∧ ∀ (j : Nat) t, fn.params[j]? = some t → Tryd.pinned.checked.prog.wantsStandIn t = false := by
  obtain rfl : f = 3 := Option.some.inj ((show Tryd.prog.funcNamed "loop.example/g00872/laws.FnFormText" = some 3 by kernel_rfl).symm.trans hf) |>.symm
  obtain rfl : fn = Tryd.f3 := (Option.some.inj (Tryd.func3.symm.trans hfn)).symm
  refine ⟨by kernel_rfl, fun j t ht => ?_⟩
  rw [Tryd.params3] at ht
  have hm : t ∈ [22] := by simpa using Array.mem_of_getElem? ht
  have hall : ([22].all fun u => !Tryd.prog.wantsStandIn u) = true := by kernel_rfl
  exact (show Tryd.prog.wantsStandIn t = false by simpa using List.all_eq_true.1 hall t hm)

/-- The statement. -/
theorem card : Rows.FnFormTextCardSaid :=
  Claim7.holds_tied_plain_at .later [] _ _ _ _ said (fun _ h => by cases h) (by kernel_rfl) (fun _ h => by cases h) fnFormText_row_tie rfl ⟨rfl, rfl⟩ (by kernel_rfl) rfl plain (by kernel_rfl)
end Go.Proofs.YtjekibknembcgaaDoor.fnFormText
