/- Proved: for all arguments the law that a drawn formula that matches a pattern is the pattern with the binding substituted answers true and leaves its argument as it was (FnMatch). Conditions: the row's own: the listed tables read as the program's text lays them, which the card ties to that text. -/
import Derived.Test.YtoniekjchabjlaaDoorFrame
import Derived.Test.YtoniekjchabjlaaDoorBytes
import Derived.Test.YtoniekjchabjlaaDoorSubP
import Derived.Test.YtoniekjchabjlaaDoorSubL
import Derived.Test.YtoniekjchabjlaaDoorBndN
namespace Go.Proofs.YtoniekjchabjlaaDoor.fnMatch
open Go.ChangeShapes Go.WideShapes Go.ChangeAt Go.RowKit

theorem walk_big (A : Option Addr) (n c : Nat) (w : World) (hn : ¬ n ≤ 4096) :
    Calls Tryd.prog 4 #[.slice A n c] w fun e w' => e = .returned (.bool true) ∧ Below w.heap.size w w' := by
  have hd : decide (4096 < (n : Int)) = true := decide_eq_true (by omega)
  go_enter Tryd.func4, Tryd.ntmps4
  go_wp2_with (go_at_call 11; refine (big_any _ _ _ _).mono ?_; rintro e w' ⟨rfl, rfl⟩)
  go_ret
  exact ⟨rfl, Below.refl _ _⟩
theorem self_mt (F : List Int) : mtB F F = validB F := by
  cases hv : validB F with
  | true => exact mt_self hv
  | false => unfold mtB; rw [hv]; rfl
theorem sf_mt {P F : List Int} (h : mtB P F = true) : sfB P (mtL P F) = true ∧ sfL P (mtL P F) = F ∧ bndB (mtL P F) = true := by
  obtain ⟨h1, h2, h3, h4⟩ := mt_sound h
  have hb : sfB P (mtL P F) = true := by
    unfold sfB
    rw [h1, h3, h4, decide_eq_true (valid_len h2).2.1]; rfl
  exact ⟨hb, (sf_yes hb).1.trans h4, h3⟩

set_option maxRecDepth 100000 in
set_option maxHeartbeats 8000000 in
theorem walk (A : Option Addr) (n c : Nat) (code : List Int) (w : World) (h : RdB w w.heap.size A n code) (_hnc : n ≤ c) (_hf : ∀ z ∈ code, (Lit.int .u8 z).wf = true) (ht : Arit w) (hu : Dual w) :
    Calls Tryd.prog 4 #[.slice A n c] w fun e w' => e = .returned (.bool true) ∧ Below w.heap.size w w' := by
  by_cases hn : n ≤ 4096
  · have hd : decide (4096 < (n : Int)) = false := decide_eq_false (by omega)
    go_enter Tryd.func4, Tryd.ntmps4
    go_wp2_with (fail)
    refine (big_any _ _ _ _).mono ?_
    rintro e w' ⟨rfl, rfl⟩
    go_wp2_with (fail)
    refine (drawMatch_any A n c code w h hn).mono ?_
    rintro e w1 ⟨P, A1, c1, F, A2, c2, rfl, l1, l2, k1, k2, rd1, rf1, B1⟩
    have HR1 := Lib.hid rd1; have HF1 := Lib.hid rf1
    have HM := Lib.hid (match_impl A1 P.length c1 P A2 F.length c2 F w1 rd1 rf1 k1 k2 (ht.below B1 ht.lt) (hu.below B1 hu.lt))
    have HB1 := Lib.hid B1
    clear rd1 rf1 B1
    have hsm := mtL_small P F
    cases hm : mtB P F with
    | false =>
      have e0 : mtL P F = [] := by unfold mtL; rw [if_neg (by rw [hm]; simp)]
      rw [hm, e0] at HM
      clear hm e0 hsm
      go_wp2_with (fail)
      refine HM.out.mono ?_
      rintro e w2 ⟨hs2, A3, c3, rfl, _, bel2⟩
      have HB2 := Lib.hid (HB1.out.trans (bel2.mono HB1.out.size))
      have HF2 := Lib.hid ((HF1.out.below bel2).more bel2.size)
      clear bel2 HB1 HF1 HR1 HM
      have HM2 := Lib.hid (match_impl A2 F.length c2 F A2 F.length c2 F w2 HF2.out HF2.out k2 k2 (ht.below HB2.out ht.lt) (hu.below HB2.out hu.lt))
      rw [self_mt] at HM2
      obtain ⟨S, hS⟩ : ∃ S, mtL F F = S := ⟨_, rfl⟩
      rw [hS] at HM2
      clear hS
      go_wp2_with (fail)
      refine HM2.out.mono ?_
      rintro e w3 ⟨hs3, A4, c4, rfl, _, bel3⟩
      have HB3 := Lib.hid (HB2.out.trans (bel3.mono HB2.out.size))
      have HF3 := Lib.hid ((HF2.out.below bel3).more bel3.size)
      clear bel3 HB2 HF2 HM2
      obtain ⟨v, hv⟩ : ∃ v, validB F = v := ⟨_, rfl⟩
      have HV := Lib.hid (sValidForm_any A2 F.length c2 F w3 HF3.out)
      rw [hv] at HV ⊢
      have hvv : (v == v) = true := by simp
      clear hv
      go_wp2_with (fail)
      refine HV.out.mono ?_
      rintro e w' ⟨rfl, rfl⟩
      go_wp2
      go_ret
      exact ⟨rfl, HB3.out⟩
    | true =>
      obtain ⟨s1, s2, s3⟩ := sf_mt hm
      obtain ⟨S, hS⟩ : ∃ S, mtL P F = S := ⟨_, rfl⟩
      rw [hS] at s1 s2 s3 hsm
      rw [hm, hS] at HM
      clear hm hS
      have hs1 := hsm.1
      have HS1 := Lib.hid s1; have HS2 := Lib.hid s2; have HS3 := Lib.hid s3
      clear hsm s1 s2 s3
      go_wp2_with (fail)
      refine HM.out.mono ?_
      rintro e w2 ⟨hs2, A3, c3, rfl, o2, bel2⟩
      have HB2 := Lib.hid (HB1.out.trans (bel2.mono HB1.out.size))
      have HR2 := Lib.hid ((HR1.out.below bel2).more bel2.size)
      have HF2 := Lib.hid ((HF1.out.below bel2).more bel2.size)
      have HQ2 := Lib.hid (o2.rd rfl)
      have HG := Lib.hid (substForm_impl A1 P.length c1 P A3 S.length c3 S w2 HR2.out HQ2.out k1 hs1 (ht.below HB2.out ht.lt) (hu.below HB2.out hu.lt))
      rw [HS1.out, HS2.out] at HG
      clear o2 bel2 HB1 HF1 HR1 HM HR2
      go_wp2_with (fail)
      refine HG.out.mono ?_
      rintro e w3 ⟨A4, c4, rfl, o3, bel3⟩
      have HB3 := Lib.hid (HB2.out.trans (bel3.mono HB2.out.size))
      have HF3 := Lib.hid ((HF2.out.below bel3).more bel3.size)
      have HQ3 := Lib.hid ((HQ2.out.below bel3).more bel3.size)
      have HL := Lib.hid (likeInts_any A4 A2 F.length F.length c4 c2 F F w3 (RdI.of_own o3) HF3.out (by omega) (by omega))
      clear o3 bel3 HB2 HF2 HQ2 HG
      go_wp2_with (fail)
      refine HL.out.mono ?_
      rintro e w4 ⟨rfl, bel4⟩
      have HB4 := Lib.hid (HB3.out.trans (bel4.mono HB3.out.size))
      have HQ4 := Lib.hid ((HQ3.out.below bel4).more bel4.size)
      have HI := Lib.hid (isBinding_impl A3 S.length c3 S w4 HQ4.out hs1 (ht.below HB4.out ht.lt))
      rw [HS3.out] at HI
      clear bel4 HB3 HQ3 HL
      go_wp2_with (fail)
      refine HI.out.mono ?_
      rintro e w5 ⟨rfl, bel5⟩
      have HB5 := Lib.hid (HB4.out.trans (bel5.mono HB4.out.size))
      clear bel5
      go_wp2
      go_ret
      exact ⟨rfl, HB5.out⟩
  · exact walk_big A n c w hn

set_option maxRecDepth 100000 in
/-- What the walk gives, for all arguments and every world that holds the tables. -/
theorem contract (H : Type) (enc : TypeId × Value → H) (W : World) (base : Nat) (args : Array Value) (ds gs : List (DataW H)) (before : List MemPlace)
    (hval : ∀ (j : Nat) t v, Tryd.f4.params[j]? = some t → args[j]? = some v → Value.okWide Tryd.prog W .any base t v)
    (hW : DataW.Whole enc Tryd.prog Tryd.f4.params.toList Rows.fnMatchSpec.vars false W args.toList ds gs before) (hL : laidMetH Tryd.prog Rows.fnMatchRow.laid W) :
    Calls Tryd.prog 4 args W fun e W' => ∃ v, e = .returned v ∧ Rows.fnMatchSpec.post enc Tryd.prog Tryd.f4 false true false false W args v W' := by
  have hW' := hW
  obtain ⟨p, q, hA0, hV, rfl, hfz, hnd⟩ := hW
  have hA : DataW.TrodAll enc Tryd.prog W 0 (fun _ => true) true Tryd.f4.params.toList args.toList ds p := hA0
  rw [Tryd.params4] at hA hval
  obtain ⟨v0, vs0, d0, ds0, p0, q0, hargs, rfl, rfl, h0, r0⟩ := trodAll_cons hA
  obtain ⟨rfl, rfl, rfl⟩ := trodAll_nil r0
  obtain rfl : args = #[v0] := by cases args; simp_all
  obtain ⟨a0, len0, cap0, rfl⟩ := okWide_slice Tryd.underlying22 (hval 0 22 v0 rfl rfl)
  have k0 := h0
  have lt0 : ∀ x ∈ p0, x.block < W.heap.size := by obtain ⟨m, hm⟩ := k0; exact DataW.trod_lt m _ _ _ hm
  obtain ⟨z0, w0, c0, b0⟩ := open_u8s h0
  have ht : Arit W := arit_of hL
  have hu : Dual W := dual_of hL
  have hv1 := hV
  obtain ⟨g0, t0, cs0, f0, e0, p0', g1, t1, cs1, f1, e1, p1', rfl, _, _, _, _, _, _, _, _, rfl⟩ := trodVars_two hV
  clear hA0
  refine (walk a0 len0 cap0 z0 W w0 c0 b0 ht hu).mono fun e W' ⟨he, bel⟩ => ?_
  subst he
  exact ⟨_, rfl, _, _, _, [], _, _, hW', trodAll_mk1 (shut_bool Tryd.underlying4 _),
    (trodAll_cons_mk (Below.trod laidOut (by kernel_rfl) (of_decide_eq_true (by kernel_rfl)) k0 bel lt0) trodAll_mk0),
    vars_below bel (readable_all _ (by kernel_rfl)) hv1, bel.frame _, fun h => by cases h⟩

theorem laid_met (os : Os) : laidMet Tryd.prog Rows.fnMatchRow.laid ((laidWorld os).forCall (fun _ _ => 0) ⟨#[], #[.slice none 0 0], []⟩).memory :=
  laidMet_of_run' 8 (by kernel_rfl) (by kernel_rfl)
theorem reads (os : Os) {H : Type} (enc : TypeId × Value → H) : ∃ x, DataW.whole enc Tryd.prog ((laidWorld os).forCall (fun _ _ => 0) ⟨#[], #[.slice none 0 0], []⟩).memory Tryd.f4.params.toList Rows.fnMatchSpec.vars false (#[.slice none 0 0] : Array Value).toList 8 = some x :=
  Option.isSome_iff_exists.1 (by kernel_rfl)

set_option maxRecDepth 100000 in
theorem lifted (os : Os) (started : os.Started) (H : Type) (enc : TypeId × Value → H) (F : Stop.Interp) :
    ReturnsInHanded {} Tryd.checked os 4 .any ((OpenSpec.ofChange Rows.fnMatchSpec).preRow enc Tryd.prog Tryd.f4 Rows.fnMatchRow.domain false Rows.fnMatchRow.laid) (((OpenSpec.ofChange Rows.fnMatchSpec).at F).post enc Tryd.prog Tryd.f4 false true false false) := by
  obtain ⟨places, hx⟩ := reads os enc
  refine returnsInHanded_of_row (C := Tryd.checked) (s := OpenSpec.ofChange Rows.fnMatchSpec) own started (by kernel_rfl) Tryd.func4
    (witness_row_at (enc := enc) (C := Tryd.checked) false (laidWorld os) #[.slice none 0 0] rfl (by kernel_rfl) (by kernel_rfl) (by kernel_rfl)
      (OpenSpec.preRow_of_cond 8 hx rfl (fun k hk => by cases hk) (by kernel_rfl) (laid_met os))) ?_
  intro W base args ds gs before hval hW _ _ _ hL _ _
  exact contract H enc W base args ds gs before hval hW hL

theorem said : Rows.FnMatchSaid :=
  OpenClaim.holds_of_cond 4 Tryd.f4 rfl rfl rfl rfl rfl rfl rfl ⟨rfl, rfl, rfl, rfl, rfl⟩ rfl rfl rfl rfl rfl (by kernel_rfl) Tryd.func4 (by kernel_rfl)
    (of_decide_eq_true (by kernel_rfl)) (by unfold Func.isWrapper; first | (rw [if_pos (by decide +kernel)]; kernel_rfl) | (rw [if_neg (by decide +kernel)]; exact ⟨rfl, rfl⟩))
    (fun os started H enc _ F => by rw [OpenClaim.pre_eq_preRow]; exact lifted os started H enc F)

theorem plain (f : FuncId) (fn : Func) (hf : Tryd.pinned.checked.prog.funcNamed "loop.example/g00872/laws.FnMatch" = some f) (hfn : Tryd.pinned.checked.prog.funcs[f]? = some fn) :
    Rows.fnMatchCard.stood.looks = Tryd.pinned.checked.prog.looks [] ∧ ∀ (j : Nat) t, fn.params[j]? = some t → Tryd.pinned.checked.prog.wantsStandIn t = false := by
  obtain rfl : f = 4 := Option.some.inj ((show Tryd.prog.funcNamed "loop.example/g00872/laws.FnMatch" = some 4 by kernel_rfl).symm.trans hf) |>.symm
  obtain rfl : fn = Tryd.f4 := (Option.some.inj (Tryd.func4.symm.trans hfn)).symm
  refine ⟨by kernel_rfl, fun j t ht => ?_⟩
  rw [Tryd.params4] at ht
  have hm : t ∈ [22] := by simpa using Array.mem_of_getElem? ht
  have hall : ([22].all fun u => !Tryd.prog.wantsStandIn u) = true := by kernel_rfl
  exact (show Tryd.prog.wantsStandIn t = false by simpa using List.all_eq_true.1 hall t hm)

/-- The statement. -/
theorem card : Rows.FnMatchCardSaid :=
  Claim7.holds_tied_plain_at .later [] _ _ _ _ said (fun _ h => by cases h) (by kernel_rfl) (fun _ h => by cases h) fnMatch_row_tie rfl ⟨rfl, rfl⟩ (by kernel_rfl) rfl plain (by kernel_rfl)
end Go.Proofs.YtoniekjchabjlaaDoor.fnMatch
