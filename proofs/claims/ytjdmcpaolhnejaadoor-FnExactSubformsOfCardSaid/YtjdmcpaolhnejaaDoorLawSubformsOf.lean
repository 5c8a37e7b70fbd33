/- Proved: for all arguments the law that SubformsOf answers as its model, leaves its argument and shares no memory answers true and leaves its argument as it was (FnExactSubformsOf). Conditions: the row's own: the listed tables read as the program's text lays them, which the card ties to that text. -/
import Derived.Test.YtjdmcpaolhnejaaDoorQMath
import Derived.Test.YtjdmcpaolhnejaaDoorQCmp
import Derived.Test.YtjdmcpaolhnejaaDoorQCompX
namespace Go.Proofs.YtjdmcpaolhnejaaDoor.fnExactSubformsOf
set_option linter.unusedSimpArgs false
set_option linter.unusedVariables false
open Go.ChangeShapes Go.WideShapes Go.ChangeAt Go.RowKit

theorem subformsOf_impl (A : Option Addr) (n c : Nat) (f : List Int) (w : World) (h : RdI w w.heap.size A n f) (ht : Arit w) (hnc : n ≤ c) :
    Calls Tryd.prog 8 #[.slice A n c] w (GivesSS w (subL f)) := by
  have hl := h.len
  subst hl
  cases hv : validB f with
  | false => exact subforms_no A c f w h ht hnc hv
  | true => exact subforms_yes compact_any A c f w h ht hnc hv
theorem row_kept {wa wb : World} {base n lo hi m : Nat} {v u : Value} {xs : List Value} {hs : Nat → Option Addr × Nat} {qs : List (List Int)} (ho : OwnQ wa lo hi u hs qs) (hx : wa.ownsRow base 2 1 v n xs) (hg : wa.grownBy wb v.ownBlock) (hb : ∀ b, v.ownBlock = some b → b < m) (hd : hi ≤ base ∨ m ≤ lo) : OwnQ wb lo hi u hs qs :=
  ho.same fun k h1 h2 h3 => hg.block k h3 fun e => by
    have h4 := (hx.lt k e.symm).1
    have h5 := hb k e.symm
    omega
theorem walk_big (A : Option Addr) (n c : Nat) (w : World) (hn : ¬ n ≤ 1048576) :
    Calls Tryd.prog 3 #[.slice A n c] w fun e w' => e = .returned (.bool true) ∧ Below w.heap.size w w' := by
  have hd : decide (1048576 < (n : Int)) = true := decide_eq_true (by omega)
  go_enter Tryd.func3, Tryd.ntmps3
  go_wp2
  go_ret
  exact ⟨rfl, Below.refl _ _⟩

set_option maxRecDepth 100000 in
set_option maxHeartbeats 4000000 in
theorem walk (A : Option Addr) (n c : Nat) (f : List Int) (w : World) (h : RdI w w.heap.size A n f) (_hnc : n ≤ c) (_hf : ∀ z ∈ f, (Lit.int .i64 z).wf = true) (ht : Arit w) :
    Calls Tryd.prog 3 #[.slice A n c] w fun e w' => e = .returned (.bool true) ∧ Below w.heap.size w w' := by
  by_cases hn : n ≤ 1048576
  · have hB := ht.lt
    have hd : decide (1048576 < (n : Int)) = false := decide_eq_false (by omega)
    obtain ⟨hv1, hv2⟩ := subL_small f
    have hl := h.len
    generalize hV : subL f = V at hv1 hv2
    have HV := Lib.hid hV; clear hV
    have HV3 : Hid (∀ q ∈ V, q.length ≤ 1048576) := Lib.hid fun q hq' => Nat.le_trans (mem_total hq') hv2
    have H := Lib.hid h; have HT := Lib.hid ht
    clear h ht
    go_enter Tryd.func3, Tryd.ntmps3
    go_wp2_with (fail)
    refine (toInts_any A n c f w H.out hn).mono ?_
    rintro e w1 ⟨rfl, own1, bel1⟩
    have x1 := RdI.of_own own1
    have s1 := bel1.size
    have B1 := Lib.hid bel1
    clear bel1 own1
    go_wp2_with (fail)
    refine (sSubformsOf_any _ n n f w1 x1 hn (Nat.le_refl _)).mono ?_
    rw [HV.out]
    rintro e w2 ⟨hsv, Av, cv, rfl, own2, bel2⟩
    have v2 := Lib.hid own2
    have s2 := bel2.size
    have B2 := Lib.hid (B1.out.trans (bel2.mono B1.out.size))
    clear own2 bel2 x1 B1
    go_wp2_with (fail)
    refine (toInts_any A n c f w2 ((H.out.below B2.out).more B2.out.size) hn).mono ?_
    rintro e w3 ⟨rfl, own3, bel3⟩
    have x3 := Lib.hid own3
    have hxb : w2.heap.size < w3.heap.size := (own3.lt _ rfl).2
    have s3 := bel3.size
    have v3 := Lib.hid (v2.out.below bel3)
    have B3 := Lib.hid (B2.out.trans (bel3.mono B2.out.size))
    clear own3 bel3 v2 B2
    go_wp2_with (fail)
    refine (subformsOf_impl _ n n f w3 (RdI.of_own x3.out) (HT.out.below B3.out HT.out.lt) (Nat.le_refl _)).mono ?_
    rw [HV.out]
    rintro e w4 ⟨hsg, Ag, cg, rfl, own4, bel4⟩
    have g4 := Lib.hid own4
    have s4 := bel4.size
    have v4 := Lib.hid (v3.out.below bel4)
    have x4 := Lib.hid (own_below x3.out bel4 (Nat.le_refl _))
    have B4 := Lib.hid (B3.out.trans (bel4.mono B3.out.size))
    clear own4 bel4 v3 x3 B3
    go_wp2_with (fail)
    refine (eqSS_any _ _ _ _ _ _ V V w4 _ _ (g4.out.rd rfl) (v4.out.rd rfl) hv1 hv1 HV3.out HV3.out).mono ?_
    rintro e w5 ⟨he, hdr⟩
    rw [decide_eq_true (rfl : V = V)] at he
    subst he
    have bel5 := drewN_below hdr w4.heap.size
    have s5 := bel5.size
    have v5 := Lib.hid (v4.out.below bel5)
    have g5 := Lib.hid (g4.out.below bel5)
    have x5 := Lib.hid (own_below x4.out bel5 (Nat.le_refl _))
    have B5 := Lib.hid (B4.out.trans (bel5.mono B4.out.size))
    clear hdr bel5 v4 g4 x4 B4
    go_wp2_with (fail)
    refine (toInts_any A n c f w5 ((H.out.below B5.out).more B5.out.size) hn).mono ?_
    rintro e w6 ⟨rfl, own6, bel6⟩
    have t6 := RdI.of_own own6
    have s6 := bel6.size
    have v6 := Lib.hid (v5.out.below bel6)
    have g6 := Lib.hid (g5.out.below bel6)
    have x6 := Lib.hid (own_below x5.out bel6 (Nat.le_refl _))
    have B6 := Lib.hid (B5.out.trans (bel6.mono B5.out.size))
    clear own6 bel6 v5 g5 x5 B5
    go_wp2_with (fail)
    refine (eqInts_any _ _ _ _ _ _ f f w6 (RdI.of_own x6.out) t6 hn hn).mono ?_
    rintro e w7 ⟨he, bel7⟩
    rw [decide_eq_true (rfl : f = f)] at he
    subst he
    have s7 := bel7.size
    have v7 := Lib.hid (v6.out.below bel7)
    have g7 := Lib.hid (g6.out.below bel7)
    have x7 := Lib.hid (own_below x6.out bel7 (Nat.le_refl _))
    have B7 := Lib.hid (B6.out.trans (bel7.mono B6.out.size))
    clear bel7 v6 g6 x6 t6 B6
    go_wp2_with (fail)
    refine (mark_any _ n n f 1 w7 _ x7.out hn (by omega) (by omega)).mono ?_
    rintro e w8 ⟨rfl, _, gr8⟩
    have s8 := gr8.size
    have v8 := Lib.hid (row_kept v7.out x7.out gr8 (fun b e => by obtain rfl : w2.heap.size = b := (by simpa [Value.ownBlock] using e); exact hxb) (.inl (Nat.le_refl _)))
    have g8 := Lib.hid (row_kept g7.out x7.out gr8 (fun b e => by obtain rfl : w2.heap.size = b := (by simpa [Value.ownBlock] using e); exact hxb) (.inr (Nat.le_refl _)))
    have B8 := Lib.hid (below_grown B7.out gr8 x7.out (by omega) B7.out.size)
    have hkk : decide (1 + (n : Int) < 0) = false := decide_eq_false (by omega)
    clear gr8 v7 g7 x7 B7 hxb
    go_wp2_with (fail)
    refine (eqSS_any _ _ _ _ _ _ V V w8 _ _ (g8.out.rd rfl) (v8.out.rd rfl) hv1 hv1 HV3.out HV3.out).mono ?_
    rintro e w9 ⟨he, hdr⟩
    rw [decide_eq_true (rfl : V = V)] at he
    subst he
    have bel9 := drewN_below hdr w8.heap.size
    have s9 := bel9.size
    have v9 := Lib.hid (v8.out.below bel9)
    have g9 := Lib.hid (g8.out.below bel9)
    have B9 := Lib.hid (B8.out.trans (bel9.mono B8.out.size))
    have hmm : decide (1 + (total V : Int) < 0) = false := decide_eq_false (by omega)
    have hmq : ((1 + (total V : Int)) != (1 + (total V : Int))) = false := by simp
    clear hdr bel9 v8 g8 B8
    go_wp2_with (fail)
    refine (markSS_any _ _ _ _ V 1 w9 _ _ g9.out rfl hv1 hv2 (by omega) (by omega)).mono ?_
    rintro e w10 ⟨rfl, own10, kp10⟩
    have g10 := Lib.hid own10
    have s10 := kp10.size
    have v10 := Lib.hid (v9.out.kept kp10 (.inl (by omega)))
    have B10 := Lib.hid (kp10.to_below B9.out (by omega) B9.out.size)
    clear own10 kp10 v9 g9 B9
    go_wp2_with (fail)
    refine (heldSS_any _ _ _ V 1 w10 (g10.out.rd (mrkQ_len _ _)) hv1 hv2 (by decide) (by decide)).mono ?_
    rintro e w' ⟨rfl, rfl⟩
    go_wp2_with (fail)
    refine (toInts_any A n c f w10 ((H.out.below B10.out).more B10.out.size) hn).mono ?_
    rintro e w11 ⟨rfl, own11, bel11⟩
    have t11 := RdI.of_own own11
    have s11 := bel11.size
    have v11 := Lib.hid (v10.out.below bel11)
    have g11 := Lib.hid (g10.out.below bel11)
    have B11 := Lib.hid (B10.out.trans (bel11.mono B10.out.size))
    clear own11 bel11 v10 g10 B10
    go_wp2_with (fail)
    refine (subformsOf_impl _ n n f w11 t11 (HT.out.below B11.out HT.out.lt) (Nat.le_refl _)).mono ?_
    rw [HV.out]
    rintro e w12 ⟨hsh, Ah, ch, rfl, own12, bel12⟩
    have h12 := Lib.hid own12
    have s12 := bel12.size
    have v12 := Lib.hid (v11.out.below bel12)
    have g12 := Lib.hid (g11.out.below bel12)
    have B12 := Lib.hid (B11.out.trans (bel12.mono B11.out.size))
    clear own12 bel12 v11 g11 B11 t11
    go_wp2_with (fail)
    refine (eqSS_any _ _ _ _ _ _ V V w12 _ _ (h12.out.rd rfl) (v12.out.rd rfl) hv1 hv1 HV3.out HV3.out).mono ?_
    rintro e w13 ⟨he, hdr⟩
    rw [decide_eq_true (rfl : V = V)] at he
    subst he
    have bel13 := drewN_below hdr w12.heap.size
    have g13 := Lib.hid (g12.out.below bel13)
    have B13 := Lib.hid (B12.out.trans (bel13.mono B12.out.size))
    clear hdr bel13 g12 B12 h12 v12
    go_wp2_with (fail)
    refine (heldSS_any _ _ _ V 1 w13 (g13.out.rd (mrkQ_len _ _)) hv1 hv2 (by decide) (by decide)).mono ?_
    rintro e w' ⟨rfl, rfl⟩
    go_wp2
    go_ret
    exact ⟨rfl, B13.out⟩
  · exact walk_big A n c w hn

set_option maxRecDepth 100000 in
/-- What the walk gives, for all arguments and every world that holds the tables. -/
theorem contract (H : Type) (enc : TypeId × Value → H) (W : World) (base : Nat) (args : Array Value) (ds gs : List (DataW H)) (before : List MemPlace)
    (hval : ∀ (j : Nat) t v, Tryd.f3.params[j]? = some t → args[j]? = some v → Value.okWide Tryd.prog W .any base t v)
    (hW : DataW.Whole enc Tryd.prog Tryd.f3.params.toList Rows.fnExactSubformsOfSpec.vars false W args.toList ds gs before) (hL : laidMetH Tryd.prog Rows.fnExactSubformsOfRow.laid W) :
    Calls Tryd.prog 3 args W fun e W' => ∃ v, e = .returned v ∧ Rows.fnExactSubformsOfSpec.post enc Tryd.prog Tryd.f3 false true false false W args v W' := by
  have hW' := hW
  obtain ⟨p, q, hA0, hV, rfl, hfz, hnd⟩ := hW
  have hA : DataW.TrodAll enc Tryd.prog W 0 (fun _ => true) true Tryd.f3.params.toList args.toList ds p := hA0
  rw [Tryd.params3] at hA hval
  obtain ⟨v0, vs0, d0, ds0, p0, q0, hargs, rfl, rfl, h0, r0⟩ := trodAll_cons hA
  obtain ⟨rfl, rfl, rfl⟩ := trodAll_nil r0
  obtain rfl : args = #[v0] := by cases args; simp_all
  obtain ⟨a0, len0, cap0, rfl⟩ := okWide_slice Tryd.underlying22 (hval 0 22 v0 rfl rfl)
  have k0 := h0
  have lt0 : ∀ x ∈ p0, x.block < W.heap.size := by obtain ⟨m, hm⟩ := k0; exact DataW.trod_lt m _ _ _ hm
  obtain ⟨z0, w0, c0, b0⟩ := open_i64s h0
  have ht : Arit W := arit_of hL
  have hv1 := hV
  obtain ⟨g, t, cs, fuel, d, p', rfl, hg, hty, hvar, hd, rfl⟩ := trodVars_one hV
  clear hA0
  refine (walk a0 len0 cap0 z0 W w0 c0 b0 ht).mono fun e W' ⟨he, bel⟩ => ?_
  subst he
  exact ⟨_, rfl, _, _, _, [], _, _, hW', trodAll_mk1 (shut_bool Tryd.underlying4 _),
    (trodAll_cons_mk (Below.trod laidOut (by kernel_rfl) (of_decide_eq_true (by kernel_rfl)) k0 bel lt0) trodAll_mk0),
    vars_below bel (readable_all _ (by kernel_rfl)) hv1, bel.frame _, fun h => by cases h⟩

theorem laid_met (os : Os) : laidMet Tryd.prog Rows.fnExactSubformsOfRow.laid ((laidWorld os).forCall (fun _ _ => 0) ⟨#[], #[.slice none 0 0], []⟩).memory :=
  laidMet_of_run' 8 (by kernel_rfl) (by kernel_rfl)
theorem reads (os : Os) {H : Type} (enc : TypeId × Value → H) : ∃ x, DataW.whole enc Tryd.prog ((laidWorld os).forCall (fun _ _ => 0) ⟨#[], #[.slice none 0 0], []⟩).memory Tryd.f3.params.toList Rows.fnExactSubformsOfSpec.vars false (#[.slice none 0 0] : Array Value).toList 8 = some x :=
  Option.isSome_iff_exists.1 (by kernel_rfl)

set_option maxRecDepth 100000 in
theorem lifted (os : Os) (started : os.Started) (H : Type) (enc : TypeId × Value → H) (F : Stop.Interp) :
    ReturnsInHanded {} Tryd.checked os 3 .any ((OpenSpec.ofChange Rows.fnExactSubformsOfSpec).preRow enc Tryd.prog Tryd.f3 Rows.fnExactSubformsOfRow.domain false Rows.fnExactSubformsOfRow.laid) (((OpenSpec.ofChange Rows.fnExactSubformsOfSpec).at F).post enc Tryd.prog Tryd.f3 false true false false) := by
  obtain ⟨places, hx⟩ := reads os enc
  refine returnsInHanded_of_row (C := Tryd.checked) (s := OpenSpec.ofChange Rows.fnExactSubformsOfSpec) own started (by kernel_rfl) Tryd.func3
    (witness_row_at (enc := enc) (C := Tryd.checked) false (laidWorld os) #[.slice none 0 0] rfl (by kernel_rfl) (by kernel_rfl) (by kernel_rfl)
      (OpenSpec.preRow_of_cond 8 hx rfl (fun k hk => by cases hk) (by kernel_rfl) (laid_met os))) ?_
  intro W base args ds gs before hval hW _ _ _ hL _ _
  exact contract H enc W base args ds gs before hval hW hL

theorem said : Rows.FnExactSubformsOfSaid :=
  OpenClaim.holds_of_cond 3 Tryd.f3 rfl rfl rfl rfl rfl rfl rfl ⟨rfl, rfl, rfl, rfl, rfl⟩ rfl rfl rfl rfl rfl (by kernel_rfl) Tryd.func3 (by kernel_rfl)
    (of_decide_eq_true (by kernel_rfl)) (by unfold Func.isWrapper; first | (rw [if_pos (by decide +kernel)]; kernel_rfl) | (rw [if_neg (by decide +kernel)]; exact ⟨rfl, rfl⟩))
    (fun os started H enc _ F => by rw [OpenClaim.pre_eq_preRow]; exact lifted os started H enc F)

theorem plain (f : FuncId) (fn : Func) (hf : Tryd.pinned.checked.prog.funcNamed "loop.example/g00872/laws.FnExactSubformsOf" = some f) (hfn : Tryd.pinned.checked.prog.funcs[f]? = some fn) :
    Rows.fnExactSubformsOfCard.stood.looks = Tryd.pinned.checked.prog.looks [] ∧ ∀ (j : Nat) t, fn.params[j]? = some t → Tryd.pinned.checked.prog.wantsStandIn t = false := by
  obtain rfl : f = 3 := Option.some.inj ((show Tryd.prog.funcNamed "loop.example/g00872/laws.FnExactSubformsOf" = some 3 by kernel_rfl).symm.trans hf) |>.symm
  obtain rfl : fn = Tryd.f3 := (Option.some.inj (Tryd.func3.symm.trans hfn)).symm
  refine ⟨by kernel_rfl, fun j t ht => ?_⟩
  rw [Tryd.params3] at ht
  have hm : t ∈ [22] := by simpa using Array.mem_of_getElem? ht
  have hall : ([22].all fun u => !Tryd.prog.wantsStandIn u) = true := by kernel_rfl
  exact (show Tryd.prog.wantsStandIn t = false by simpa using List.all_eq_true.1 hall t hm)

/-- The statement. -/
theorem card : Rows.FnExactSubformsOfCardSaid :=
  Claim7.holds_tied_plain_at .later [] _ _ _ _ said (fun _ h => by cases h) (by kernel_rfl) (fun _ h => by cases h) fnExactSubformsOf_row_tie rfl ⟨rfl, rfl⟩ (by kernel_rfl) rfl plain (by kernel_rfl)
end Go.Proofs.YtjdmcpaolhnejaaDoor.fnExactSubformsOf
