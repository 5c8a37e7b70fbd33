/- Proved: for all arguments the law that ProofText answers as its model and leaves its argument answers true and leaves its argument as it was (FnExactProofText). Conditions: the row's own: the listed tables read as the program's text lays them, which the card ties to that text. -/
import Derived.Test.YtjhagklpnpabeaaDoorFrame
import Derived.Test.YtjhagklpnpabeaaDoorProofT
import Derived.Test.YtjhagklpnpabeaaDoorStepRowE
import Derived.Test.YtjhagklpnpabeaaDoorFrameS
import Derived.Test.YtjhagklpnpabeaaDoorFrameP
import Derived.Test.YtjhagklpnpabeaaDoorFrameQ
namespace Go.Proofs.YtjhagklpnpabeaaDoor.fnExactProofText
open Go.ChangeShapes Go.WideShapes Go.ChangeAt Go.RowKit

theorem walk_big (A0 : Option Addr) (n0 c0 : Nat) (ss : List Stp) (w : World) (h0 : RdP w w.heap.size A0 n0 ss) (hq : ∀ q ∈ fsP ss, q.length ≤ maxLen) (hm : n0 ≤ maxLen) (hb : szR 1048576 (n0 + total (fsP ss)) = -1) :
    Calls Tryd.prog 5 #[.slice A0 n0 c0] w fun e w' => e = .returned (.bool true) ∧ Below w.heap.size w w' := by
  have HSZ := Lib.hid (szStepS_any A0 n0 c0 ss 1048576 w h0 hq hm (by decide) (by decide))
  rw [hb] at HSZ
  go_enter Tryd.func5, Tryd.ntmps5
  go_wp2_with (fail)
  refine HSZ.out.mono ?_
  rintro e w1 ⟨rfl, bel⟩
  go_wp2
  go_ret
  exact ⟨rfl, bel⟩

set_option maxRecDepth 100000 in
set_option maxHeartbeats 8000000 in
theorem walk_mid (A0 : Option Addr) (n0 c0 : Nat) (ss : List Stp) (w : World) (L : Int) (h0 : RdP w w.heap.size A0 n0 ss) (hq : ∀ q ∈ fsP ss, q.length ≤ maxLen) (hm : n0 ≤ maxLen) (hb : szR 1048576 (n0 + total (fsP ss)) = L) (hL : 0 ≤ L) (hn : n0 ≤ 1048576) (hq' : ∀ q ∈ fsP ss, q.length ≤ 1048576) (ht : Arit w) (hw : Words w) :
    Calls Tryd.prog 5 #[.slice A0 n0 c0] w fun e w' => e = .returned (.bool true) ∧ Below w.heap.size w w' := by
  have HSZ := Lib.hid (szStepS_any A0 n0 c0 ss 1048576 w h0 hq hm (by decide) (by decide))
  rw [hb] at HSZ
  have hd : decide (L < 0) = false := decide_eq_false (by omega)
  generalize hS : prT ss = S
  have HS := Lib.hid hS; clear hS
  have hvv : (S.toList == S.toList) = true := by simp
  have hne : (S.toList != S.toList) = false := by simp
  have H0 := Lib.hid h0; have HT := Lib.hid ht; have HW := Lib.hid hw; have HQ := Lib.hid hq'
  clear h0 ht hw hq hq' hb hL
  go_enter Tryd.func5, Tryd.ntmps5
  go_wp2_with (fail)
  refine HSZ.out.mono ?_
  rintro e w1 ⟨rfl, bel⟩
  have B1 := Lib.hid bel
  clear bel HSZ
  go_wp2_with (fail)
  refine (toStepS_any A0 n0 c0 ss w1 ((H0.out.below B1.out).more B1.out.size) hn HQ.out).mono ?_
  rintro e w2 ⟨rfl, own, bel⟩
  have O2 := Lib.hid own
  clear own
  have B2 := Lib.hid (B1.out.trans (bel.mono B1.out.size))
  clear bel B1
  go_wp2_with (fail)
  refine (sProofText_any _ n0 n0 ss w2 O2.out hn).mono ?_
  rw [HS.out]
  rintro e w3 ⟨rfl, bel⟩
  clear O2
  have B3 := Lib.hid (B2.out.trans (bel.mono B2.out.size))
  clear bel B2
  go_wp2_with (fail)
  refine (toStepS_any A0 n0 c0 ss w3 ((H0.out.below B3.out).more B3.out.size) hn HQ.out).mono ?_
  rintro e w4 ⟨rfl, own, bel⟩
  have O4 := Lib.hid own
  clear own
  have B4 := Lib.hid (B3.out.trans (bel.mono B3.out.size))
  clear bel B3
  go_wp2_with (fail)
  refine (proofText_impl _ n0 n0 ss w4 O4.out hn (HT.out.below B4.out HT.out.lt) (HW.out.below B4.out HW.out.lt)).mono ?_
  rw [HS.out]
  rintro e w5 ⟨rfl, bel⟩
  replace O4 := Lib.hid ((O4.out.below bel).more bel.size)
  have B5 := Lib.hid (B4.out.trans (bel.mono B4.out.size))
  clear bel B4
  go_wp2_with (fail)
  refine (toStepS_any A0 n0 c0 ss w5 ((H0.out.below B5.out).more B5.out.size) hn HQ.out).mono ?_
  rintro e w6 ⟨rfl, own, bel⟩
  have O6 := Lib.hid own
  clear own
  replace O4 := Lib.hid ((O4.out.below bel).more bel.size)
  have B6 := Lib.hid (B5.out.trans (bel.mono B5.out.size))
  clear bel B5
  go_wp2_with (fail)
  refine (eqStepS_any _ _ n0 n0 n0 ss w6 O4.out O6.out hn HQ.out).mono ?_
  rintro e w7 ⟨rfl, bel⟩
  have B7 := Lib.hid (B6.out.trans (bel.mono B6.out.size))
  clear bel B6
  go_wp2
  go_ret
  exact ⟨rfl, B7.out⟩

theorem walk (A0 : Option Addr) (n0 c0 : Nat) (ss : List Stp) (w : World) (h0 : RdP w w.heap.size A0 n0 ss) (hm : n0 ≤ maxLen) (hq : ∀ q ∈ fsP ss, q.length ≤ maxLen) (ht : Arit w) (hw : Words w) :
    Calls Tryd.prog 5 #[.slice A0 n0 c0] w fun e w' => e = .returned (.bool true) ∧ Below w.heap.size w w' := by
  rcases sz_casesL 1048576 (by decide) n0 (fsP ss) with hb | ⟨L, hb, hL, _, hn, htt⟩
  · exact walk_big A0 n0 c0 ss w h0 hq hm hb
  · exact walk_mid A0 n0 c0 ss w L h0 hq hm hb hL hn (fun q hx => Nat.le_trans (mem_total hx) htt) ht hw

set_option maxRecDepth 100000 in
/-- What the walk gives, for all arguments and every world that holds the tables. -/
theorem contract (H : Type) (enc : TypeId × Value → H) (W : World) (base : Nat) (args : Array Value) (ds gs : List (DataW H)) (before : List MemPlace)
    (hval : ∀ (j : Nat) t v, Tryd.f5.params[j]? = some t → args[j]? = some v → Value.okWide Tryd.prog W .any base t v)
    (hW : DataW.Whole enc Tryd.prog Tryd.f5.params.toList Rows.fnExactProofTextSpec.vars false W args.toList ds gs before) (hL : laidMetH Tryd.prog Rows.fnExactProofTextRow.laid W) (hS : W.ShapedOpen Tryd.prog) :
    Calls Tryd.prog 5 args W fun e W' => ∃ v, e = .returned v ∧ Rows.fnExactProofTextSpec.post enc Tryd.prog Tryd.f5 false true false false W args v W' := by
  have hW' := hW
  obtain ⟨p, q, hA0, hV, rfl, hfz, hnd⟩ := hW
  have hA : DataW.TrodAll enc Tryd.prog W 0 (fun _ => true) true Tryd.f5.params.toList args.toList ds p := hA0
  rw [Tryd.params5] at hA hval
  obtain ⟨v0, vs0, d0, ds0, p0, q0, hargs, rfl, rfl, h0, r0⟩ := trodAll_cons hA
  obtain ⟨rfl, rfl, rfl⟩ := trodAll_nil r0
  obtain rfl : args = #[v0] := by cases args; simp_all
  obtain ⟨a0, len0, cap0, rfl⟩ := okWide_slice Tryd.underlying39 (hval 0 39 v0 rfl rfl)
  have k0 := h0
  have lt0 : ∀ x ∈ p0, x.block < W.heap.size := by obtain ⟨m, hm⟩ := k0; exact DataW.trod_lt m _ _ _ hm
  obtain ⟨ss0, rd0, nc0, m0, mq0⟩ := open_steps h0
  replace hL : laidMet Tryd.prog Rows.fnExactProofTextRow.laid W := by rw [MakeChecks.laidMetH_plain _ _ _ (by kernel_rfl)] at hL; exact hL
  have ht : Arit W := arit_of (laidMet.tail (laidMet.tail (laidMet.tail hL)))
  have hww : Words W := words_of (laidMet.tail (laidMet.tail (laidMet.tail (laidMet.tail hL))))
  have hv1 := hV
  obtain ⟨g0, t0, cs0, f0, e0, p0', g1, t1, cs1, f1, e1, p1', rfl, _, _, _, _, _, _, _, _, rfl⟩ := trodVars_two hV
  clear hA0
  refine (walk a0 len0 cap0 ss0 W rd0 m0 mq0 ht hww).mono fun e W' ⟨he, bel⟩ => ?_
  subst he
  exact ⟨_, rfl, _, _, _, [], _, _, hW', trodAll_mk1 (shut_bool Tryd.underlying4 _),
    (trodAll_cons_mk (Below.trod laidOut (by kernel_rfl) (of_decide_eq_true (by kernel_rfl)) k0 bel lt0) trodAll_mk0),
    vars_below bel (readable_all _ (by kernel_rfl)) hv1, bel.frame _, fun h => by cases h⟩

theorem laid_met (os : Os) : laidMet Tryd.prog Rows.fnExactProofTextRow.laid ((World.laidAll Tryd.prog os Rows.fnExactProofTextRow.laid).forCall (fun _ _ => 0) ⟨#[], #[.slice none 0 0], []⟩).memory :=
  laidMet_laidAll _ (by kernel_rfl) (by kernel_rfl)
theorem reads (os : Os) {H : Type} (enc : TypeId × Value → H) : ∃ x, DataW.whole enc Tryd.prog ((World.laidAll Tryd.prog os Rows.fnExactProofTextRow.laid).forCall (fun _ _ => 0) ⟨#[], #[.slice none 0 0], []⟩).memory Tryd.f5.params.toList Rows.fnExactProofTextSpec.vars false (#[.slice none 0 0] : Array Value).toList 8 = some x :=
  Option.isSome_iff_exists.1 (by kernel_rfl)

set_option maxRecDepth 100000 in
theorem lifted (os : Os) (started : os.Started) (H : Type) (enc : TypeId × Value → H) (F : Stop.Interp) :
    ReturnsInHanded {} Tryd.checked os 5 .any ((OpenSpec.ofChange Rows.fnExactProofTextSpec).preRow enc Tryd.prog Tryd.f5 Rows.fnExactProofTextRow.domain false Rows.fnExactProofTextRow.laid) (((OpenSpec.ofChange Rows.fnExactProofTextSpec).at F).post enc Tryd.prog Tryd.f5 false true false false) := by
  obtain ⟨places, hx⟩ := reads os enc
  refine returnsInHanded_of_row (C := Tryd.checked) (s := OpenSpec.ofChange Rows.fnExactProofTextSpec) own started (by kernel_rfl) Tryd.func5
    (witness_row_sh (enc := enc) (C := Tryd.checked) false (World.laidAll Tryd.prog os Rows.fnExactProofTextRow.laid) #[.slice none 0 0] (World.laidAll_os _ _ _) (World.shaped_of_ZipB (by kernel_rfl) (by kernel_rfl)) (by kernel_rfl)
      (OpenSpec.preRow_of_cond 8 hx rfl (fun k hk => by cases hk) (by kernel_rfl) (laid_met os))) ?_
  intro W base args ds gs before hval hW _ _ _ hL hS _
  exact contract H enc W base args ds gs before hval hW hL hS

theorem said : Rows.FnExactProofTextSaid :=
  OpenClaim.holds_of_cond 5 Tryd.f5 rfl rfl rfl rfl rfl rfl rfl ⟨rfl, rfl, rfl, rfl, rfl⟩ rfl rfl rfl rfl rfl (by kernel_rfl) Tryd.func5 (by kernel_rfl)
    (of_decide_eq_true (by kernel_rfl)) (by unfold Func.isWrapper; first | (rw [if_pos (by decide +kernel)]; kernel_rfl) | (rw [if_neg (by decide +kernel)]; exact ⟨rfl, rfl⟩))
    (fun os started H enc _ F => by rw [OpenClaim.pre_eq_preRow]; exact lifted os started H enc F)

theorem plain (f : FuncId) (fn : Func) (hf : Tryd.pinned.checked.prog.funcNamed "loop.example/g00872/laws.FnExactProofText" = some f) (hfn : Tryd.pinned.checked.prog.funcs[f]? = some fn) :
    Rows.fnExactProofTextCard.stood.looks = Tryd.pinned.checked.prog.looks [] ∧ ∀ (j : Nat) t, fn.params[j]? = some t → Tryd.pinned.checked.prog.wantsStandIn t = false := by
  obtain rfl : f = 5 := Option.some.inj ((show Tryd.prog.funcNamed "loop.example/g00872/laws.FnExactProofText" = some 5 by kernel_rfl).symm.trans hf) |>.symm
  obtain rfl : fn = Tryd.f5 := (Option.some.inj (Tryd.func5.symm.trans hfn)).symm
  refine ⟨by kernel_rfl, fun j t ht => ?_⟩
  rw [Tryd.params5] at ht
  have hm : t ∈ [39] := by simpa using Array.mem_of_getElem? ht
  have hall : ([39].all fun u => !Tryd.prog.wantsStandIn u) = true := by kernel_rfl
  exact (show Tryd.prog.wantsStandIn t = false by simpa using List.all_eq_true.1 hall t hm)

/-- The statement. -/
theorem card : Rows.FnExactProofTextCardSaid :=
  Claim7.holds_tied_plain_at .later [] _ _ _ _ said (fun _ h => by cases h) (by kernel_rfl) (fun _ h => by cases h) fnExactProofText_row_tie rfl ⟨rfl, rfl⟩ (by kernel_rfl) rfl plain (by kernel_rfl)
end Go.Proofs.YtjhagklpnpabeaaDoor.fnExactProofText
