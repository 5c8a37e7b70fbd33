/- Proved: for all arguments the law that a drawn composed binding has the effect of both bindings, one after the other, answers true and leaves its argument as it was (FnComposed). Conditions: the row's own: the listed tables read as the program's text lays them, which the card ties to that text. -/
import Derived.Test.YtoniekjchabjlaaDoorFrame
import Derived.Test.YtoniekjchabjlaaDoorBytes
import Derived.Test.YtoniekjchabjlaaDoorSubP
import Derived.Test.YtoniekjchabjlaaDoorSubL
import Derived.Test.YtoniekjchabjlaaDoorBndF
namespace Go.Proofs.YtoniekjchabjlaaDoor.fnComposed
open Go.ChangeShapes Go.WideShapes Go.ChangeAt Go.RowKit

theorem walk_big (A : Option Addr) (n c : Nat) (w : World) (hn : ¬ n ≤ 4096) :
    Calls Tryd.prog 5 #[.slice A n c] w fun e w' => e = .returned (.bool true) ∧ Below w.heap.size w w' := by
  have hd : decide (4096 < (n : Int)) = true := decide_eq_true (by omega)
  go_enter Tryd.func5, Tryd.ntmps5
  go_wp2_with (go_at_call 11; refine (big_any _ _ _ _).mono ?_; rintro e w' ⟨rfl, rfl⟩)
  go_ret
  exact ⟨rfl, Below.refl _ _⟩
theorem rdB_up {w : World} {B B' n : Nat} {A : Option Addr} {code : List Int} (h : RdB w B A n code) (hB : B ≤ B') : RdB w B' A n code :=
  ⟨h.1, h.2.1, fun hn => by
    obtain ⟨b, off, e, hb, hc⟩ := h.2.2 hn
    exact ⟨b, off, e, by omega, hc⟩⟩
theorem sf_none (qs : List (List Int)) : sfB [] qs = false := rfl
theorem sf_comp {f : List Int} {ps bs : List (List Int)} (h : cbB ps bs = true) (h1 : sfB f ps = true) (h2 : sfB (sfL f ps) bs = true) : sfB f (cbL ps bs) = true ∧ sfL f (cbL ps bs) = sfL (sfL f ps) bs := by
  obtain ⟨e1, v1, _, _, _⟩ := sf_yes h1
  obtain ⟨e2, v2, b2, l2, _⟩ := sf_yes h2
  rw [e1] at e2 l2
  have hb : sfB f (cbL ps bs) = true := by
    unfold sfB
    rw [v1, cbL_yes h, cb_bnd h, cb_comp h, decide_eq_true l2]; rfl
  refine ⟨hb, ?_⟩
  rw [(sf_yes hb).1, e1, e2, cbL_yes h, cb_comp h]

set_option maxRecDepth 100000 in
set_option maxHeartbeats 8000000 in
theorem walk (A : Option Addr) (n c : Nat) (code : List Int) (w : World) (h : RdB w w.heap.size A n code) (_hnc : n ≤ c) (_hf : ∀ z ∈ code, (Lit.int .u8 z).wf = true) (ht : Arit w) (hu : Dual w) :
    Calls Tryd.prog 5 #[.slice A n c] w fun e w' => e = .returned (.bool true) ∧ Below w.heap.size w w' := by
  by_cases hn : n ≤ 4096
  · have hd : decide (4096 < (n : Int)) = false := decide_eq_false (by omega)
    go_enter Tryd.func5, Tryd.ntmps5
    go_wp2_with (fail)
    refine (big_any _ _ _ _).mono ?_
    rintro e w' ⟨rfl, rfl⟩
    go_wp2_with (fail)
    refine (drawComposed_any A n c code w h hn).mono ?_
    rintro e w1 ⟨A1, n1, c1, ps, B, m, d, bs, rfl, hn8, hpl, rp1, hm8, hbl, rb1, B1⟩
    have hn1 : n1 ≤ 1048576 := by omega
    have hm1 : m ≤ 1048576 := by omega
    clear hn8 hm8 hpl hbl
    have HP1 := Lib.hid rp1; have HQ1 := Lib.hid rb1
    have HC := Lib.hid (composed_impl A1 n1 c1 ps B m d bs w1 rp1 rb1 hn1 hm1 (ht.below B1 ht.lt) (hu.below B1 hu.lt))
    have HB1 := Lib.hid B1
    clear rp1 rb1 B1
    have hsm := (cbL_small ps bs).1
    obtain ⟨b, hb⟩ : ∃ b, cbB ps bs = b := ⟨_, rfl⟩
    obtain ⟨S, hS⟩ : ∃ S, cbL ps bs = S := ⟨_, rfl⟩
    have HBB := Lib.hid hb; have HSS := Lib.hid hS
    rw [hb, hS] at HC
    rw [hS] at hsm
    have hbb : (b != b) = false := by simp
    clear hb hS
    go_wp2_with (fail)
    refine HC.out.mono ?_
    rintro e w2 ⟨hs2, A2, c2, rfl, o2, bel2⟩
    have HB2 := Lib.hid (HB1.out.trans (bel2.mono HB1.out.size))
    have HP2 := Lib.hid ((HP1.out.below bel2).more bel2.size)
    have HQ2 := Lib.hid ((HQ1.out.below bel2).more bel2.size)
    have HS2 := Lib.hid (o2.rd rfl)
    have HC2 := Lib.hid (sComposed_any A1 n1 c1 ps B m d bs w2 HP2.out HQ2.out hn1 hm1)
    rw [HBB.out, HSS.out] at HC2
    clear o2 bel2 HB1 HP1 HQ1 HC
    go_wp2_with (fail)
    refine HC2.out.mono ?_
    rintro e w3 ⟨hs3, A3, c3, rfl, _, bel3⟩
    have HB3 := Lib.hid (HB2.out.trans (bel3.mono HB2.out.size))
    have HP3 := Lib.hid ((HP2.out.below bel3).more bel3.size)
    have HQ3 := Lib.hid ((HQ2.out.below bel3).more bel3.size)
    have HS3 := Lib.hid ((HS2.out.below bel3).more bel3.size)
    have HL := Lib.hid (drawLeft_any A n c code w3 (rdB_up (h.keep fun p hp => HB3.out.cell hp) HB3.out.size) hn)
    clear bel3 HB2 HP2 HQ2 HS2 HC2
    go_wp2_with (fail)
    refine HL.out.mono ?_
    rintro e w4 ⟨L, A4, c4, rfl, l1, _, o4, bel4⟩
    have k4 := (own_cap o4).1
    have HB4 := Lib.hid (HB3.out.trans (bel4.mono HB3.out.size))
    have HP4 := Lib.hid ((HP3.out.below bel4).more bel4.size)
    have HQ4 := Lib.hid ((HQ3.out.below bel4).more bel4.size)
    have HS4 := Lib.hid ((HS3.out.below bel4).more bel4.size)
    have HL4 := Lib.hid (RdI.of_own o4)
    clear o4 bel4 HB3 HP3 HQ3 HS3 HL
    have HG := Lib.hid (substForm_impl A4 L.length c4 L A1 n1 c1 ps w4 HL4.out HP4.out k4 hn1 (ht.below HB4.out ht.lt) (hu.below HB4.out hu.lt))
    obtain ⟨one, h1⟩ : ∃ b, sfB L ps = b := ⟨_, rfl⟩
    obtain ⟨X, hX⟩ : ∃ S, sfL L ps = S := ⟨_, rfl⟩
    rw [h1, hX] at HG
    have HX1 := Lib.hid h1; have HX2 := Lib.hid hX
    clear h1 hX
    go_wp2_with (fail)
    refine HG.out.mono ?_
    rintro e w5 ⟨A5, c5, rfl, o5, bel5⟩
    have k5 := (own_cap o5).1
    have HB5 := Lib.hid (HB4.out.trans (bel5.mono HB4.out.size))
    have HQ5 := Lib.hid ((HQ4.out.below bel5).more bel5.size)
    have HS5 := Lib.hid ((HS4.out.below bel5).more bel5.size)
    have HL5 := Lib.hid ((HL4.out.below bel5).more bel5.size)
    have HX5 := Lib.hid (RdI.of_own o5)
    clear o5 bel5 HB4 HP4 HQ4 HS4 HL4 HG
    have HG := Lib.hid (substForm_impl A5 X.length c5 X B m d bs w5 HX5.out HQ5.out k5 hm1 (ht.below HB5.out ht.lt) (hu.below HB5.out hu.lt))
    obtain ⟨two, h2⟩ : ∃ b, sfB X bs = b := ⟨_, rfl⟩
    obtain ⟨Y, hY⟩ : ∃ S, sfL X bs = S := ⟨_, rfl⟩
    rw [h2, hY] at HG
    have HY1 := Lib.hid h2; have HY2 := Lib.hid hY
    have HYl := Lib.hid (sfL_len X bs)
    clear h2 hY
    go_wp2_with (fail)
    refine HG.out.mono ?_
    rintro e w6 ⟨A6, c6, rfl, o6, bel6⟩
    have HB6 := Lib.hid (HB5.out.trans (bel6.mono HB5.out.size))
    have HS6 := Lib.hid ((HS5.out.below bel6).more bel6.size)
    have HL6 := Lib.hid ((HL5.out.below bel6).more bel6.size)
    have HY6 := Lib.hid (RdI.of_own o6)
    clear o6 bel6 HB5 HQ5 HS5 HL5 HX5 HG
    have HG := Lib.hid (substForm_impl A4 L.length c4 L A2 S.length c2 S w6 HL6.out HS6.out k4 hsm (ht.below HB6.out ht.lt) (hu.below HB6.out hu.lt))
    obtain ⟨three, h3⟩ : ∃ b, sfB L S = b := ⟨_, rfl⟩
    obtain ⟨Z, hZ⟩ : ∃ R, sfL L S = R := ⟨_, rfl⟩
    rw [h3, hZ] at HG
    have HZ1 := Lib.hid h3; have HZ2 := Lib.hid hZ
    clear h3 hZ
    go_wp2_with (fail)
    refine HG.out.mono ?_
    rintro e w7 ⟨A7, c7, rfl, o7, bel7⟩
    have HB7 := Lib.hid (HB6.out.trans (bel7.mono HB6.out.size))
    have HS7 := Lib.hid ((HS6.out.below bel7).more bel7.size)
    have HY7 := Lib.hid ((HY6.out.below bel7).more bel7.size)
    have HZ7 := Lib.hid (RdI.of_own o7)
    clear o7 bel7 HB6 HS6 HL6 HY6 HG
    cases b with
    | false =>
      obtain rfl : S = [] := by rw [← HSS.out]; exact cbL_no HBB.out
      go_wp2
      go_ret
      exact ⟨rfl, HB7.out⟩
    | true =>
      cases one with
      | false =>
        obtain rfl : X = [] := by rw [← HX2.out]; exact sf_no HX1.out
        obtain rfl : two = false := HY1.out.symm.trans (sf_none bs)
        obtain rfl : Y = [] := by rw [← HY2.out]; exact sf_no HY1.out
        go_wp2
        go_ret
        exact ⟨rfl, HB7.out⟩
      | true =>
        cases two with
        | false =>
          obtain rfl : Y = [] := by rw [← HY2.out]; exact sf_no HY1.out
          go_wp2
          go_ret
          exact ⟨rfl, HB7.out⟩
        | true =>
          have hc := sf_comp (f := L) HBB.out HX1.out (by rw [HX2.out]; exact HY1.out)
          rw [HSS.out, HZ1.out, HZ2.out, HX2.out, HY2.out] at hc
          obtain ⟨rfl, rfl⟩ := hc
          have hbS : bndB S = true := by rw [← HSS.out, cbL_yes HBB.out]; exact cb_bnd HBB.out
          have HbS := Lib.hid hbS
          have hY24 : Z.length ≤ 1048576 := by have := HYl.out; rw [HY2.out] at this; omega
          clear hbS
          have HL := Lib.hid (likeInts_any A6 A7 Z.length Z.length c6 c7 Z Z w7 HY7.out HZ7.out hY24 hY24)
          go_wp2_with (fail)
          refine HL.out.mono ?_
          rintro e w8 ⟨rfl, bel8⟩
          have HB8 := Lib.hid (HB7.out.trans (bel8.mono HB7.out.size))
          have HI := Lib.hid (isBinding_impl A2 S.length c2 S w8 ((HS7.out.below bel8).more bel8.size) hsm (ht.below HB8.out ht.lt))
          rw [HbS.out] at HI
          clear bel8 HL
          go_wp2_with (fail)
          refine HI.out.mono ?_
          rintro e w9 ⟨rfl, bel9⟩
          have HB9 := Lib.hid (HB8.out.trans (bel9.mono HB8.out.size))
          clear bel9
          go_wp2
          go_ret
          exact ⟨rfl, HB9.out⟩
  · exact walk_big A n c w hn

set_option maxRecDepth 100000 in
/-- What the walk gives, for all arguments and every world that holds the tables. -/
theorem contract (H : Type) (enc : TypeId × Value → H) (W : World) (base : Nat) (args : Array Value) (ds gs : List (DataW H)) (before : List MemPlace)
    (hval : ∀ (j : Nat) t v, Tryd.f5.params[j]? = some t → args[j]? = some v → Value.okWide Tryd.prog W .any base t v)
    (hW : DataW.Whole enc Tryd.prog Tryd.f5.params.toList Rows.fnComposedSpec.vars false W args.toList ds gs before) (hL : laidMetH Tryd.prog Rows.fnComposedRow.laid W) :
    Calls Tryd.prog 5 args W fun e W' => ∃ v, e = .returned v ∧ Rows.fnComposedSpec.post enc Tryd.prog Tryd.f5 false true false false W args v W' := by
  have hW' := hW
  obtain ⟨p, q, hA0, hV, rfl, hfz, hnd⟩ := hW
  have hA : DataW.TrodAll enc Tryd.prog W 0 (fun _ => true) true Tryd.f5.params.toList args.toList ds p := hA0
  rw [Tryd.params5] at hA hval
  obtain ⟨v0, vs0, d0, ds0, p0, q0, hargs, rfl, rfl, h0, r0⟩ := trodAll_cons hA
  obtain ⟨rfl, rfl, rfl⟩ := trodAll_nil r0
  obtain rfl : args = #[v0] := by cases args; simp_all
  obtain ⟨a0, len0, cap0, rfl⟩ := okWide_slice Tryd.underlying22 (hval 0 22 v0 rfl rfl)
  have k0 := h0
  have lt0 : ∀ x ∈ p0, x.block < W.heap.size := by obtain ⟨m, hm⟩ := k0; exact DataW.trod_lt m _ _ _ hm
  obtain ⟨z0, w0, c0, b0⟩ := open_u8s h0
  have ht : Arit W := arit_of hL
  have hu : Dual W := dual_of hL
  have hv1 := hV
  obtain ⟨g0, t0, cs0, f0, e0, p0', g1, t1, cs1, f1, e1, p1', rfl, _, _, _, _, _, _, _, _, rfl⟩ := trodVars_two hV
  clear hA0
  refine (walk a0 len0 cap0 z0 W w0 c0 b0 ht hu).mono fun e W' ⟨he, bel⟩ => ?_
  subst he
  exact ⟨_, rfl, _, _, _, [], _, _, hW', trodAll_mk1 (shut_bool Tryd.underlying4 _),
    (trodAll_cons_mk (Below.trod laidOut (by kernel_rfl) (of_decide_eq_true (by kernel_rfl)) k0 bel lt0) trodAll_mk0),
    vars_below bel (readable_all _ (by kernel_rfl)) hv1, bel.frame _, fun h => by cases h⟩

theorem laid_met (os : Os) : laidMet Tryd.prog Rows.fnComposedRow.laid ((laidWorld os).forCall (fun _ _ => 0) ⟨#[], #[.slice none 0 0], []⟩).memory :=
  laidMet_of_run' 8 (by kernel_rfl) (by kernel_rfl)
theorem reads (os : Os) {H : Type} (enc : TypeId × Value → H) : ∃ x, DataW.whole enc Tryd.prog ((laidWorld os).forCall (fun _ _ => 0) ⟨#[], #[.slice none 0 0], []⟩).memory Tryd.f5.params.toList Rows.fnComposedSpec.vars false (#[.slice none 0 0] : Array Value).toList 8 = some x :=
  Option.isSome_iff_exists.1 (by kernel_rfl)

set_option maxRecDepth 100000 in
theorem lifted (os : Os) (started : os.Started) (H : Type) (enc : TypeId × Value → H) (F : Stop.Interp) :
    ReturnsInHanded {} Tryd.checked os 5 .any ((OpenSpec.ofChange Rows.fnComposedSpec).preRow enc Tryd.prog Tryd.f5 Rows.fnComposedRow.domain false Rows.fnComposedRow.laid) (((OpenSpec.ofChange Rows.fnComposedSpec).at F).post enc Tryd.prog Tryd.f5 false true false false) := by
  obtain ⟨places, hx⟩ := reads os enc
  refine returnsInHanded_of_row (C := Tryd.checked) (s := OpenSpec.ofChange Rows.fnComposedSpec) own started (by kernel_rfl) Tryd.func5
    (witness_row_at (enc := enc) (C := Tryd.checked) false (laidWorld os) #[.slice none 0 0] rfl (by kernel_rfl) (by kernel_rfl) (by kernel_rfl)
      (OpenSpec.preRow_of_cond 8 hx rfl (fun k hk => by cases hk) (by kernel_rfl) (laid_met os))) ?_
  intro W base args ds gs before hval hW _ _ _ hL _ _
  exact contract H enc W base args ds gs before hval hW hL

theorem said : Rows.FnComposedSaid :=
  OpenClaim.holds_of_cond 5 Tryd.f5 rfl rfl rfl rfl rfl rfl rfl ⟨rfl, rfl, rfl, rfl, rfl⟩ rfl rfl rfl rfl rfl (by kernel_rfl) Tryd.func5 (by kernel_rfl)
    (of_decide_eq_true (by kernel_rfl)) (by unfold Func.isWrapper; first | (rw [if_pos (by decide +kernel)]; kernel_rfl) | (rw [if_neg (by decide +kernel)]; exact ⟨rfl, rfl⟩))
    (fun os started H enc _ F => by rw [OpenClaim.pre_eq_preRow]; exact lifted os started H enc F)

theorem plain (f : FuncId) (fn : Func) (hf : Tryd.pinned.checked.prog.funcNamed "loop.example/g00872/laws.FnComposed" = some f) (hfn : Tryd.pinned.checked.prog.funcs[f]? = some fn) :
    Rows.fnComposedCard.stood.looks = Tryd.pinned.checked.prog.looks [] ∧ ∀ (j : Nat) t, fn.params[j]? = some t → Tryd.pinned.checked.prog.wantsStandIn t = false := by
  obtain rfl : f = 5 := Option.some.inj ((show Tryd.prog.funcNamed "loop.example/g00872/laws.FnComposed" = some 5 by kernel_rfl).symm.trans hf) |>.symm
  obtain rfl : fn = Tryd.f5 := (Option.some.inj (Tryd.func5.symm.trans hfn)).symm
  refine ⟨by kernel_rfl, fun j t ht => ?_⟩
  rw [Tryd.params5] at ht
  have hm : t ∈ [22] := by simpa using Array.mem_of_getElem? ht
  have hall : ([22].all fun u => !Tryd.prog.wantsStandIn u) = true := by kernel_rfl
  exact (show Tryd.prog.wantsStandIn t = false by simpa using List.all_eq_true.1 hall t hm)

/-- The statement. -/
theorem card : Rows.FnComposedCardSaid :=
  Claim7.holds_tied_plain_at .later [] _ _ _ _ said (fun _ h => by cases h) (by kernel_rfl) (fun _ h => by cases h) fnComposed_row_tie rfl ⟨rfl, rfl⟩ (by kernel_rfl) rfl plain (by kernel_rfl)
end Go.Proofs.YtoniekjchabjlaaDoor.fnComposed
