/- Proved: for all arguments the law that exchanging two formulas of a drawn sequent twice restores it and changes neither its formulas nor whether it is balanced answers true and leaves its argument as it was (FnSwapSeq). Conditions: the row's own: the listed tables read as the program's text lays them, which the card ties to that text. -/
import Derived.Test.YtdgejhlpncnenaaDoorFrame
import Derived.Test.YtdgejhlpncnenaaDoorDrawP
import Derived.Test.YtdgejhlpncnenaaDoorSwapM
import Derived.Test.YtdgejhlpncnenaaDoorBytes
import Derived.Test.YtdgejhlpncnenaaDoorDualS
import Derived.Test.YtdgejhlpncnenaaDoorSame
import Derived.Test.YtdgejhlpncnenaaDoorSwap
import Derived.Test.YtdgejhlpncnenaaDoorMsetI
import Derived.Test.YtdgejhlpncnenaaDoorBalW
namespace Go.Proofs.YtdgejhlpncnenaaDoor.fnSwapSeq
open Go.ChangeShapes Go.WideShapes Go.ChangeAt Go.RowKit

theorem walk_big (A : Option Addr) (n c : Nat) (w : World) (hn : ¬ n ≤ 4096) :
    Calls Tryd.prog 4 #[.slice A n c] w fun e w' => e = .returned (.bool true) ∧ Below w.heap.size w w' := by
  have hd : decide (4096 < (n : Int)) = true := decide_eq_true (by omega)
  go_enter Tryd.func4, Tryd.ntmps4
  go_wp2_with (go_at_call 8; refine (big_any _ _ _ _).mono ?_; rintro e w' ⟨rfl, rfl⟩)
  go_ret
  exact ⟨rfl, Below.refl _ _⟩

theorem boxed {w wx : World} {B : Nat} (hb : Below B w wx) (hB : B ≤ wx.heap.size) (v : Value) (t : TypeId) : Below B w (wx.alloc (.cells #[v] t)) ∧ (wx.alloc (.cells #[v] t)).cell? ⟨wx.heap.size, 0, none⟩ = some v ∧ wx.heap.size < (wx.alloc (.cells #[v] t)).heap.size ∧ Below wx.heap.size wx (wx.alloc (.cells #[v] t)) :=
  ⟨hb.trans ((box_below wx v t).mono hB), by simp, by simp, box_below wx v t⟩

set_option maxRecDepth 100000 in
set_option maxHeartbeats 2000000 in
theorem walk (A : Option Addr) (n c : Nat) (code : List Int) (w : World) (h : RdB w w.heap.size A n code) (_hnc : n ≤ c) (_hf : ∀ z ∈ code, (Lit.int .u8 z).wf = true) (ht : Arit w) (hu : Dual w) :
    Calls Tryd.prog 4 #[.slice A n c] w fun e w' => e = .returned (.bool true) ∧ Below w.heap.size w w' := by
  by_cases hn : n ≤ 4096
  · have hd : decide (4096 < (n : Int)) = false := decide_eq_false (by omega)
    have HT := Lib.hid ht; have HU := Lib.hid hu
    go_enter Tryd.func4, Tryd.ntmps4
    go_wp2_with (fail)
    refine (big_any _ _ _ _).mono ?_
    rintro e w' ⟨rfl, rfl⟩
    go_wp2_with (fail)
    refine (drawSwapped_any A n c code w h hn).mono ?_
    rintro e w1 ⟨V, hs, A2, c2, i, j, rfl, o1, hV, hq, i1, i2, j1, j2, B1⟩
    have hc2 := own_cap1 o1.outer
    have HQ := Lib.hid hq
    obtain ⟨B1b, q1, z1, bx1⟩ := boxed B1 B1.size (.slice A2 V.length c2) 34
    have O1 := Lib.hid ((o1.below bx1).more (Nat.le_refl _) bx1.size)
    have HB1 := Lib.hid B1b
    clear h ht hu o1 hq B1 B1b bx1
    go_wp2_with (fail)
    generalize w1.heap.size = b3 at *
    generalize (w1.alloc (.cells #[.slice A2 V.length c2] 34)) = w2 at *
    have hS := swappedSeq_impl A2 V.length c2 V i j w2 (O1.out.rd rfl) (by omega) hc2 (HT.out.below HB1.out HT.out.lt)
    have hSS := fun (wx : World) (hx : RdQ wx wx.heap.size A2 V.length V) => sSwappedSeq_any A2 V.length c2 V i j wx hx (by omega) hc2
    cases hsb : swapB V i j with
    | false =>
      rw [hsb, swapQ_no hsb] at hS
      rw [hsb, swapQ_no hsb] at hSS
      have HS := Lib.hid hS; have HSS := Lib.hid hSS
      clear hS hSS hsb
      refine HS.out.mono ?_
      rintro e w3 ⟨hs6, A6, c6, rfl, o3, bel3⟩
      obtain ⟨B3b, q6, z6, bx6⟩ := boxed (HB1.out.trans (bel3.mono HB1.out.size)) (HB1.out.trans (bel3.mono HB1.out.size)).size (.slice A6 0 c6) 34
      have q3 := (bx6.cell (p := ⟨b3, 0, none⟩) (by show b3 < _; have := bel3.size; omega)).trans ((bel3.cell (p := ⟨b3, 0, none⟩) z1).trans q1)
      have z3 : b3 < (w3.alloc (.cells #[.slice A6 0 c6] 34)).heap.size := by have := bel3.size; have := bx6.size; omega
      have O3 := Lib.hid ((O1.out.below bel3).below bx6)
      have HB3 := Lib.hid B3b
      clear HS o3 bel3 q1 z1 O1 B3b bx6
      go_wp2_with (fail)
      generalize w3.heap.size = b6 at *
      generalize (w3.alloc (.cells #[.slice A6 0 c6] 34)) = w4 at *
      refine (HSS.out w4 ((O3.out.rd rfl).more (Nat.le_refl _))).mono ?_
      rintro e w5 ⟨hs8, A8, c8, rfl, o5, bel5⟩
      obtain ⟨B5b, q8, z8, bx8⟩ := boxed (HB3.out.trans (bel5.mono HB3.out.size)) (HB3.out.trans (bel5.mono HB3.out.size)).size (.slice A8 0 c8) 34
      have q65 := (bx8.cell (p := ⟨b6, 0, none⟩) (by show b6 < _; have := bel5.size; omega)).trans ((bel5.cell (p := ⟨b6, 0, none⟩) z6).trans q6)
      have HB5 := Lib.hid B5b
      clear o5 bel5 B5b bx8 q3 O3 HSS
      go_wp2
      go_ret
      exact ⟨rfl, HB5.out⟩
    | true =>
      obtain ⟨W, hW, f1, f2, f3, f4, f5, f6, f7, f8, f9⟩ := swap_facts hsb
      rw [hsb, hW] at hS
      rw [hsb, hW] at hSS
      have HS := Lib.hid hS; have HSS := Lib.hid hSS
      have HF1 := Lib.hid f1; have HF2 := Lib.hid f2; have HF3 := Lib.hid f3; have HF6 := Lib.hid f6; have HF7 := Lib.hid f7; have HF8 := Lib.hid f8; have HF9 := Lib.hid f9
      have hWl : W.length ≤ 12 := by omega
      clear hS hSS hsb hW f1 f2 f3 f4 f5 f6 f7 f8 f9
      refine HS.out.mono ?_
      rintro e w3 ⟨hs6, A6, c6, rfl, o3, bel3⟩
      have hc6 := own_cap1 o3.outer
      obtain ⟨B3b, q6, z6, bx6⟩ := boxed (HB1.out.trans (bel3.mono HB1.out.size)) (HB1.out.trans (bel3.mono HB1.out.size)).size (.slice A6 W.length c6) 34
      have q3 := (bx6.cell (p := ⟨b3, 0, none⟩) (by show b3 < _; have := bel3.size; omega)).trans ((bel3.cell (p := ⟨b3, 0, none⟩) z1).trans q1)
      have z3 : b3 < (w3.alloc (.cells #[.slice A6 W.length c6] 34)).heap.size := by have := bel3.size; have := bx6.size; omega
      have O3 := Lib.hid ((O1.out.below bel3).below bx6)
      have P3 := Lib.hid (o3.below bx6)
      have HB3 := Lib.hid B3b
      clear HS o3 bel3 q1 z1 O1 B3b bx6
      go_wp2_with (fail)
      generalize w3.heap.size = b6 at *
      generalize (w3.alloc (.cells #[.slice A6 W.length c6] 34)) = w4 at *
      refine (HSS.out w4 ((O3.out.rd rfl).more (Nat.le_refl _))).mono ?_
      rintro e w5 ⟨hs8, A8, c8, rfl, o5, bel5⟩
      obtain ⟨B5b, q8, z8, bx8⟩ := boxed (HB3.out.trans (bel5.mono HB3.out.size)) (HB3.out.trans (bel5.mono HB3.out.size)).size (.slice A8 W.length c8) 34
      have q65 := (bx8.cell (p := ⟨b6, 0, none⟩) (by show b6 < _; have := bel5.size; omega)).trans ((bel5.cell (p := ⟨b6, 0, none⟩) z6).trans q6)
      have q35 := (bx8.cell (p := ⟨b3, 0, none⟩) (by show b3 < _; have := bel5.size; omega)).trans ((bel5.cell (p := ⟨b3, 0, none⟩) z3).trans q3)
      have z35 : b3 < (w5.alloc (.cells #[.slice A8 W.length c8] 34)).heap.size := by have := bel5.size; have := bx8.size; omega
      have z65 : b6 < (w5.alloc (.cells #[.slice A8 W.length c8] 34)).heap.size := by have := bel5.size; have := bx8.size; omega
      have O5 := Lib.hid ((O3.out.below bel5).below bx8)
      have P5 := Lib.hid ((P3.out.below bel5).below bx8)
      have HB5 := Lib.hid B5b
      clear o5 bel5 B5b bx8 q3 q6 z3 z6 O3 P3 HSS q8 z8
      go_wp2_with (fail)
      generalize (w5.alloc (.cells #[.slice A8 W.length c8] 34)) = w6 at *
      have hS2 := swappedSeq_impl A6 W.length c6 W i j w6 ((P5.out.rd rfl).more (Nat.le_refl _)) (by omega) hc6 (HT.out.below HB5.out HT.out.lt)
      rw [HF1.out, HF2.out] at hS2
      have HS2 := Lib.hid hS2
      clear hS2
      refine HS2.out.mono ?_
      rintro e w7 ⟨hs10, A10, c10, rfl, o7, bel7⟩
      have hc10 := own_cap1 o7.outer
      obtain ⟨B7b, q10, z10, bx10⟩ := boxed (HB5.out.trans (bel7.mono HB5.out.size)) (HB5.out.trans (bel7.mono HB5.out.size)).size (.slice A10 V.length c10) 34
      have q67 := (bx10.cell (p := ⟨b6, 0, none⟩) (by show b6 < _; have := bel7.size; omega)).trans ((bel7.cell (p := ⟨b6, 0, none⟩) z65).trans q65)
      have q37 := (bx10.cell (p := ⟨b3, 0, none⟩) (by show b3 < _; have := bel7.size; omega)).trans ((bel7.cell (p := ⟨b3, 0, none⟩) z35).trans q35)
      have z37 : b3 < (w7.alloc (.cells #[.slice A10 V.length c10] 34)).heap.size := by have := bel7.size; have := bx10.size; omega
      have z67 : b6 < (w7.alloc (.cells #[.slice A10 V.length c10] 34)).heap.size := by have := bel7.size; have := bx10.size; omega
      have O7 := Lib.hid ((O5.out.below bel7).below bx10)
      have P7 := Lib.hid ((P5.out.below bel7).below bx10)
      have R7 := Lib.hid (o7.below bx10)
      have HB7 := Lib.hid B7b
      clear o7 bel7 B7b bx10 q35 q65 z35 z65 O5 P5 HS2
      go_wp2_with (fail)
      generalize w7.heap.size = b10 at *
      generalize (w7.alloc (.cells #[.slice A10 V.length c10] 34)) = w8 at *
      have K0 : Hid (w8.cell? ⟨b3, 0, none⟩ = some (.slice A2 V.length c2) ∧ w8.cell? ⟨b6, 0, none⟩ = some (.slice A6 W.length c6) ∧ w8.cell? ⟨b10, 0, none⟩ = some (.slice A10 V.length c10)) := Lib.hid ⟨q37, q67, q10⟩
      have HKF : Hid (∀ wx, Below w8.heap.size w8 wx → (wx.cell? ⟨b3, 0, none⟩ = some (.slice A2 V.length c2) ∧ wx.cell? ⟨b6, 0, none⟩ = some (.slice A6 W.length c6) ∧ wx.cell? ⟨b10, 0, none⟩ = some (.slice A10 V.length c10))) := Lib.hid (fun wx hb => ⟨(hb.cell (p := ⟨b3, 0, none⟩) z37).trans K0.out.1, (hb.cell (p := ⟨b6, 0, none⟩) z67).trans K0.out.2.1, (hb.cell (p := ⟨b10, 0, none⟩) z10).trans K0.out.2.2⟩)
      have RV := Lib.hid (fun (wx : World) (hb : Below w8.heap.size w8 wx) => ((O7.out.below hb).rd rfl : RdQ wx wx.heap.size A2 V.length V))
      have RW := Lib.hid (fun (wx : World) (hb : Below w8.heap.size w8 wx) => ((P7.out.below hb).rd rfl : RdQ wx wx.heap.size A6 W.length W))
      have RX := Lib.hid (fun (wx : World) (hb : Below w8.heap.size w8 wx) => ((R7.out.below hb).rd rfl : RdQ wx wx.heap.size A10 V.length V))
      have TT := Lib.hid (fun (wx : World) (hb : Below w8.heap.size w8 wx) => HT.out.below (HB7.out.trans (hb.mono HB7.out.size)) HT.out.lt)
      have UU := Lib.hid (fun (wx : World) (hb : Below w8.heap.size w8 wx) => HU.out.below (HB7.out.trans (hb.mono HB7.out.size)) HU.out.lt)
      have hn12 : V.length ≤ 1048576 := by omega
      have hw12 : W.length ≤ 1048576 := by omega
      have hq20 : Hid (∀ q ∈ V, q.length ≤ 1048576) := Lib.hid (fun q hq' => Nat.le_trans (HQ.out q hq') (by decide))
      have hvm : V.length ≤ maxLen := by unfold maxLen; omega
      have hwm : W.length ≤ maxLen := by unfold maxLen; omega
      have hdm : (dualQ V).length ≤ maxLen := by have := (dualQ_small V).1; unfold maxLen; omega
      have hbd : Below w8.heap.size w8 w8.drew := (Below.refl _ _).drew
      obtain ⟨T, hT⟩ : ∃ T, balQ V = T := ⟨_, rfl⟩
      rw [hT] at HF8 HF9
      have HTq := Lib.hid hT
      have htt : (T == T) = true := by simp
      have tok1 : True := trivial
      clear q37 q67 q10 O7 P7 R7 hT
      go_region_held3 (fun wx => wx.cell? ⟨b3, 0, none⟩ = some (.slice A2 V.length c2) ∧ wx.cell? ⟨b6, 0, none⟩ = some (.slice A6 W.length c6) ∧ wx.cell? ⟨b10, 0, none⟩ = some (.slice A10 V.length c10))
        (first | exact K0.out | exact K1.out | exact K2.out | exact K3.out | exact K4.out | exact K5.out | exact K6.out | exact K7.out)
        (first
          | (have _t := tok1; go_at_call 19; refine (sameSeq_impl A10 A2 V.length V.length c10 c2 V V w8.drew (RX.out _ hbd) (RV.out _ hbd) hn12 hn12 hc10 hc2 hq20.out hq20.out (TT.out _ hbd)).mono ?_; rintro e x1 ⟨he, bel1'⟩; rw [HF6.out] at he; subst he; have bel1 := undrew bel1'; have H1 := Lib.hid bel1; have K1 := Lib.hid (HKF.out _ H1.out); have tok2 : True := trivial; clear bel1 bel1' tok1)
          | (have _t := tok2; go_at_call 20; refine (sameMset_impl A6 A2 W.length V.length c6 c2 W V x1 (RW.out _ H1.out) (RV.out _ H1.out) hw12 hn12 (TT.out _ H1.out)).mono ?_; rintro e x2 ⟨he, bel2'⟩; rw [HF7.out] at he; subst he; have bel2 := bel2'; have H2 := Lib.hid (H1.out.trans (bel2.mono H1.out.size)); have K2 := Lib.hid (HKF.out _ H2.out); have tok3 : True := trivial; clear bel2 bel2' tok2)
          | (have _t := tok3; go_at_call 21; refine (balSeq_impl A6 W.length c6 W x2 (RW.out _ H2.out) hwm (TT.out _ H2.out)).mono ?_; rintro e x3 ⟨he, bel3'⟩; rw [HF8.out] at he; subst he; have bel3 := bel3'; have H3 := Lib.hid (H2.out.trans (bel3.mono H2.out.size)); have K3 := Lib.hid (HKF.out _ H3.out); have tok4 : True := trivial; clear bel3 bel3' tok3)
          | (have _t := tok4; go_at_call 21; refine (balSeq_impl A2 V.length c2 V x3 (RV.out _ H3.out) hvm (TT.out _ H3.out)).mono ?_; rintro e x4 ⟨he, bel4'⟩; rw [HTq.out] at he; subst he; have bel4 := bel4'; have H4 := Lib.hid (H3.out.trans (bel4.mono H3.out.size)); have K4 := Lib.hid (HKF.out _ H4.out); have tok5 : True := trivial; clear bel4 bel4' tok4)
          | (have _t := tok5; go_at_call 22; refine (dualSeq_impl A2 V.length c2 V x4 (RV.out _ H4.out) hvm (TT.out _ H4.out) (UU.out _ H4.out)).mono ?_; rintro e x5 ⟨hsd, Ad, cd, rfl, od, bel5'⟩; have bel5 := bel5'; have OD := Lib.hid od; clear od; have H5 := Lib.hid (H4.out.trans (bel5.mono H4.out.size)); have K5 := Lib.hid (HKF.out _ H5.out); have tok6 : True := trivial; clear bel5 bel5' tok5)
          | (have _t := tok6; go_at_call 21; refine (balSeq_impl Ad (dualQ V).length cd (dualQ V) x5 (OD.out.rd rfl) hdm (TT.out _ H5.out)).mono ?_; rintro e x6 ⟨he, bel6'⟩; rw [HF9.out] at he; subst he; have bel6 := bel6'; have H6 := Lib.hid (H5.out.trans (bel6.mono H5.out.size)); have K6 := Lib.hid (HKF.out _ H6.out); have tok7 : True := trivial; clear bel6 bel6' tok6)
          | (have _t := tok7; go_at_call 21; refine (balSeq_impl A2 V.length c2 V x6 (RV.out _ H6.out) hvm (TT.out _ H6.out)).mono ?_; rintro e x7 ⟨he, bel7'⟩; rw [HTq.out] at he; subst he; have bel7 := bel7'; have H7 := Lib.hid (H6.out.trans (bel7.mono H6.out.size)); have K7 := Lib.hid (HKF.out _ H7.out); have tok8 : True := trivial; clear bel7 bel7' tok7))
      all_goals go_wp2
      all_goals go_ret
      all_goals exact ⟨rfl, HB7.out.trans (H7.out.mono HB7.out.size)⟩
  · exact walk_big A n c w hn

set_option maxRecDepth 100000 in
/-- What the walk gives, for all arguments and every world that holds the tables. -/
theorem contract (H : Type) (enc : TypeId × Value → H) (W : World) (base : Nat) (args : Array Value) (ds gs : List (DataW H)) (before : List MemPlace)
    (hval : ∀ (j : Nat) t v, Tryd.f4.params[j]? = some t → args[j]? = some v → Value.okWide Tryd.prog W .any base t v)
    (hW : DataW.Whole enc Tryd.prog Tryd.f4.params.toList Rows.fnSwapSeqSpec.vars false W args.toList ds gs before) (hL : laidMetH Tryd.prog Rows.fnSwapSeqRow.laid W) :
    Calls Tryd.prog 4 args W fun e W' => ∃ v, e = .returned v ∧ Rows.fnSwapSeqSpec.post enc Tryd.prog Tryd.f4 false true false false W args v W' := by
  have hW' := hW
  obtain ⟨p, q, hA0, hV, rfl, hfz, hnd⟩ := hW
  have hA : DataW.TrodAll enc Tryd.prog W 0 (fun _ => true) true Tryd.f4.params.toList args.toList ds p := hA0
  rw [Tryd.params4] at hA hval
  obtain ⟨v0, vs0, d0, ds0, p0, q0, hargs, rfl, rfl, h0, r0⟩ := trodAll_cons hA
  obtain ⟨rfl, rfl, rfl⟩ := trodAll_nil r0
  obtain rfl : args = #[v0] := by cases args; simp_all
  obtain ⟨a0, len0, cap0, rfl⟩ := okWide_slice Tryd.underlying22 (hval 0 22 v0 rfl rfl)
  have k0 := h0
  have lt0 : ∀ x ∈ p0, x.block < W.heap.size := by obtain ⟨m, hm⟩ := k0; exact DataW.trod_lt m _ _ _ hm
  obtain ⟨z0, w0, c0, b0⟩ := open_u8s h0
  have ht : Arit W := arit_of hL
  have hu : Dual W := dual_of hL
  have hv1 := hV
  obtain ⟨g0, t0, cs0, f0, e0, p0', g1, t1, cs1, f1, e1, p1', rfl, _, _, _, _, _, _, _, _, rfl⟩ := trodVars_two hV
  clear hA0
  refine (walk a0 len0 cap0 z0 W w0 c0 b0 ht hu).mono fun e W' ⟨he, bel⟩ => ?_
  subst he
  exact ⟨_, rfl, _, _, _, [], _, _, hW', trodAll_mk1 (shut_bool Tryd.underlying4 _),
    (trodAll_cons_mk (Below.trod laidOut (by kernel_rfl) (of_decide_eq_true (by kernel_rfl)) k0 bel lt0) trodAll_mk0),
    vars_below bel (readable_all _ (by kernel_rfl)) hv1, bel.frame _, fun h => by cases h⟩

theorem laid_met (os : Os) : laidMet Tryd.prog Rows.fnSwapSeqRow.laid ((laidWorld os).forCall (fun _ _ => 0) ⟨#[], #[.slice none 0 0], []⟩).memory :=
  laidMet_of_run' 8 (by kernel_rfl) (by kernel_rfl)
theorem reads (os : Os) {H : Type} (enc : TypeId × Value → H) : ∃ x, DataW.whole enc Tryd.prog ((laidWorld os).forCall (fun _ _ => 0) ⟨#[], #[.slice none 0 0], []⟩).memory Tryd.f4.params.toList Rows.fnSwapSeqSpec.vars false (#[.slice none 0 0] : Array Value).toList 8 = some x :=
  Option.isSome_iff_exists.1 (by kernel_rfl)

set_option maxRecDepth 100000 in
theorem lifted (os : Os) (started : os.Started) (H : Type) (enc : TypeId × Value → H) (F : Stop.Interp) :
    ReturnsInHanded {} Tryd.checked os 4 .any ((OpenSpec.ofChange Rows.fnSwapSeqSpec).preRow enc Tryd.prog Tryd.f4 Rows.fnSwapSeqRow.domain false Rows.fnSwapSeqRow.laid) (((OpenSpec.ofChange Rows.fnSwapSeqSpec).at F).post enc Tryd.prog Tryd.f4 false true false false) := by
  obtain ⟨places, hx⟩ := reads os enc
  refine returnsInHanded_of_row (C := Tryd.checked) (s := OpenSpec.ofChange Rows.fnSwapSeqSpec) own started (by kernel_rfl) Tryd.func4
    (witness_row_at (enc := enc) (C := Tryd.checked) false (laidWorld os) #[.slice none 0 0] rfl (by kernel_rfl) (by kernel_rfl) (by kernel_rfl)
      (OpenSpec.preRow_of_cond 8 hx rfl (fun k hk => by cases hk) (by kernel_rfl) (laid_met os))) ?_
  intro W base args ds gs before hval hW _ _ _ hL _ _
  exact contract H enc W base args ds gs before hval hW hL

theorem said : Rows.FnSwapSeqSaid :=
  OpenClaim.holds_of_cond 4 Tryd.f4 rfl rfl rfl rfl rfl rfl rfl ⟨rfl, rfl, rfl, rfl, rfl⟩ rfl rfl rfl rfl rfl (by kernel_rfl) Tryd.func4 (by kernel_rfl)
    (of_decide_eq_true (by kernel_rfl)) (by unfold Func.isWrapper; first | (rw [if_pos (by decide +kernel)]; kernel_rfl) | (rw [if_neg (by decide +kernel)]; exact ⟨rfl, rfl⟩))
    (fun os started H enc _ F => by rw [OpenClaim.pre_eq_preRow]; exact lifted os started H enc F)

theorem plain (f : FuncId) (fn : Func) (hf : Tryd.pinned.checked.prog.funcNamed "loop.example/g00872/laws.FnSwapSeq" = some f) (hfn : Tryd.pinned.checked.prog.funcs[f]? = some fn) :
    Rows.fnSwapSeqCard.stood.looks = Tryd.pinned.checked.prog.looks [] ∧ ∀ (j : Nat) t, fn.params[j]? = some t → Tryd.pinned.checked.prog.wantsStandIn t = false := by
  obtain rfl : f = 4 := Option.some.inj ((show Tryd.prog.funcNamed "loop.example/g00872/laws.FnSwapSeq" = some 4 by kernel_rfl).symm.trans hf) |>.symm
  obtain rfl : fn = Tryd.f4 := (Option.some.inj (Tryd.func4.symm.trans hfn)).symm
  refine ⟨by kernel_rfl, fun j t ht => ?_⟩
  rw [Tryd.params4] at ht
  have hm : t ∈ [22] := by simpa using Array.mem_of_getElem? ht
  have hall : ([22].all fun u => !Tryd.prog.wantsStandIn u) = true := by kernel_rfl
  exact (show Tryd.prog.wantsStandIn t = false by simpa using List.all_eq_true.1 hall t hm)

/-- The statement. -/
theorem card : Rows.FnSwapSeqCardSaid :=
  Claim7.holds_tied_plain_at .later [] _ _ _ _ said (fun _ h => by cases h) (by kernel_rfl) (fun _ h => by cases h) fnSwapSeq_row_tie rfl ⟨rfl, rfl⟩ (by kernel_rfl) rfl plain (by kernel_rfl)
end Go.Proofs.YtdgejhlpncnenaaDoor.fnSwapSeq
