/- Proved: for all arguments the law that IsBinding answers as its model and leaves its argument as it was answers true and leaves its argument as it was (FnExactIsBinding). Conditions: the row's own: the listed tables read as the program's text lays them, which the card ties to that text. -/
import Derived.Test.YtoniekjchabjlaaDoorFrame
import Derived.Test.YtoniekjchabjlaaDoorBndC
namespace Go.Proofs.YtoniekjchabjlaaDoor.fnExactIsBinding
open Go.ChangeShapes Go.WideShapes Go.ChangeAt Go.RowKit

theorem walk_big0 (A0 : Option Addr) (n0 c0 : Nat) (x0 : List (List Int)) (w : World) (h0 : RdQ w w.heap.size A0 n0 x0) (hm0 : n0 ≤ maxLen) (hqm0 : ∀ q ∈ x0, q.length ≤ maxLen)  (hb : szR 1048576 (n0 + total x0) = -1) :
    Calls Tryd.prog 6 #[.slice A0 n0 c0] w fun e w' => e = .returned (.bool true) ∧ Below w.heap.size w w' := by
  have HS0 := Lib.hid (fun w0 (B : Below w.heap.size w w0) => szQ_x A0 n0 c0 x0 (1048576) w0 ((h0.below B).more B.size) hqm0 hm0 (by decide) (by decide))
  rw [hb] at HS0
  clear hb h0
  have B0 : Below w.heap.size w w := Below.refl _ _
  go_enter Tryd.func6, Tryd.ntmps6
  go_wp2_with (fail)
  refine (HS0.out w B0).mono ?_
  rintro e w1 ⟨rfl, bel1⟩
  have B1 := B0.trans (bel1.mono B0.size)
  clear bel1 B0
  have HB := Lib.hid B1
  clear B1
  go_wp2
  go_ret
  exact ⟨rfl, HB.out⟩

set_option maxRecDepth 100000 in
set_option maxHeartbeats 8000000 in
theorem walk_mid (A0 : Option Addr) (n0 c0 : Nat) (x0 : List (List Int)) (L0 : Int) (w : World) (h0 : RdQ w w.heap.size A0 n0 x0) (hs0 : szR 1048576 (n0 + total x0) = L0) (hL0 : 0 ≤ L0) (hL'0 : L0 ≤ 1048576) (hn0 : n0 ≤ 1048576) (hT0 : total x0 ≤ 1048576) (ht : Arit w) :
    Calls Tryd.prog 6 #[.slice A0 n0 c0] w fun e w' => e = .returned (.bool true) ∧ Below w.heap.size w w' := by
  have hq0 : ∀ q ∈ x0, q.length ≤ 1048576 := fun q hq' => Nat.le_trans (mem_total hq') hT0
  have hqm0 : ∀ q ∈ x0, q.length ≤ maxLen := fun q hq' => Nat.le_trans (hq0 q hq') (by decide)
  have hm0 : n0 ≤ maxLen := Nat.le_trans hn0 (by decide)
  have hl0 := h0.len
  generalize hV : bndB x0 = V
  have HV := Lib.hid hV; clear hV
  have hvv : (V != V) = false := by simp
  have HS0 := Lib.hid (fun w0 (B : Below w.heap.size w w0) => szQ_x A0 n0 c0 x0 (1048576) w0 ((h0.below B).more B.size) hqm0 hm0 (by decide) (by decide))
  rw [hs0] at HS0
  have hd0 : decide (L0 < 0) = false := decide_eq_false (by omega)
  have H0 := Lib.hid h0
  have HQ0 := Lib.hid hq0
  have HT := Lib.hid ht
  clear h0 hs0 hq0 hqm0 ht
  have B0 : Below w.heap.size w w := Below.refl _ _
  go_enter Tryd.func6, Tryd.ntmps6
  go_wp2_with (fail)
  refine (HS0.out w B0).mono ?_
  rintro e w1 ⟨rfl, bel1⟩
  have s1 := bel1.size
  have B1 := B0.trans (bel1.mono B0.size)
  clear bel1 B0
  go_wp2_with (fail)
  refine (toQ_x A0 n0 c0 x0 w1 ((H0.out.below B1).more B1.size) HQ0.out hn0).mono ?_
  rintro e w2 ⟨hs_p0, g_p0, rfl, own2, bel2⟩
  have o_p0_2 := Lib.hid own2
  clear own2
  have s2 := bel2.size
  have B2 := B1.trans (bel2.mono B1.size)
  clear bel2 B1
  generalize w1.heap.size = m1 at *
  go_wp2_with (fail)
  refine (sIsBinding_any (some ⟨g_p0, 0, none⟩) n0 n0 x0 w2 (o_p0_2.out.rd hl0) hn0).mono ?_
  rw [HV.out]
  rintro e w3 ⟨rfl, bel3⟩
  have s3 := bel3.size
  have B3 := B2.trans (bel3.mono B2.size)
  have o_p0_3 := Lib.hid (o_p0_2.out.below bel3)
  clear bel3 B2 o_p0_2
  generalize w2.heap.size = m2 at *
  clear o_p0_3
  go_wp2_with (fail)
  refine (toQ_x A0 n0 c0 x0 w3 ((H0.out.below B3).more B3.size) HQ0.out hn0).mono ?_
  rintro e w4 ⟨hs_x0, g_x0, rfl, own4, bel4⟩
  have o_x0_4 := Lib.hid own4
  clear own4
  have s4 := bel4.size
  have B4 := B3.trans (bel4.mono B3.size)
  clear bel4 B3
  generalize w3.heap.size = m3 at *
  go_wp2_with (fail)
  refine (isBinding_impl (some ⟨g_x0, 0, none⟩) n0 n0 x0 w4 (o_x0_4.out.rd hl0) hn0 (HT.out.below B4 HT.out.lt)).mono ?_
  rw [HV.out]
  rintro e w5 ⟨rfl, bel5⟩
  have s5 := bel5.size
  have B5 := B4.trans (bel5.mono B4.size)
  have o_x0_5 := Lib.hid (o_x0_4.out.below bel5)
  clear bel5 B4 o_x0_4
  generalize w4.heap.size = m4 at *
  go_wp2_with (fail)
  refine (toQ_x A0 n0 c0 x0 w5 ((H0.out.below B5).more B5.size) HQ0.out hn0).mono ?_
  rintro e w6 ⟨hs_t, g_t, rfl, own6, bel6⟩
  have o_t_6 := Lib.hid own6
  clear own6
  have s6 := bel6.size
  have B6 := B5.trans (bel6.mono B5.size)
  have o_x0_6 := Lib.hid (o_x0_5.out.below bel6)
  clear bel6 B5 o_x0_5
  generalize w5.heap.size = m5 at *
  go_wp2_with (fail)
  refine (eqQ_x _ _ _ _ _ x0 w6 (o_x0_6.out.rd hl0) (o_t_6.out.rd hl0) hn0 HQ0.out).mono ?_
  rintro e w7 ⟨rfl, bel7⟩
  have s7 := bel7.size
  have B7 := B6.trans (bel7.mono B6.size)
  have o_x0_7 := Lib.hid (o_x0_6.out.below bel7)
  have o_t_7 := Lib.hid (o_t_6.out.below bel7)
  clear bel7 B6 o_x0_6 o_t_6
  generalize w6.heap.size = m6 at *
  clear o_t_7
  have HB := Lib.hid B7
  go_wp2
  go_ret
  exact ⟨rfl, HB.out⟩

theorem walk (A0 : Option Addr) (n0 c0 : Nat) (x0 : List (List Int)) (w : World) (h0 : RdQ w w.heap.size A0 n0 x0) (_hc0 : n0 ≤ c0) (hm0 : n0 ≤ maxLen) (hqm0 : ∀ q ∈ x0, q.length ≤ maxLen) (_hw0 : ∀ q ∈ x0, ∀ z ∈ q, (Lit.int .i64 z).wf = true) (ht : Arit w) :
    Calls Tryd.prog 6 #[.slice A0 n0 c0] w fun e w' => e = .returned (.bool true) ∧ Below w.heap.size w w' := by
  rcases sz_casesL 1048576 (by decide) n0 x0 with hb | ⟨L0, hs0, hL0, hL'0, hn0, hT0⟩
  · exact walk_big0 A0 n0 c0 x0  w h0 hm0 hqm0  hb
  ·
    exact walk_mid A0 n0 c0 x0 L0 w h0 hs0 hL0 hL'0 hn0 hT0 ht


set_option maxRecDepth 100000 in
/-- What the walk gives, for all arguments and every world that holds the tables. -/
theorem contract (H : Type) (enc : TypeId × Value → H) (W : World) (base : Nat) (args : Array Value) (ds gs : List (DataW H)) (before : List MemPlace)
    (hval : ∀ (j : Nat) t v, Tryd.f6.params[j]? = some t → args[j]? = some v → Value.okWide Tryd.prog W .any base t v)
    (hW : DataW.Whole enc Tryd.prog Tryd.f6.params.toList Rows.fnExactIsBindingSpec.vars false W args.toList ds gs before) (hL : laidMetH Tryd.prog Rows.fnExactIsBindingRow.laid W) :
    Calls Tryd.prog 6 args W fun e W' => ∃ v, e = .returned v ∧ Rows.fnExactIsBindingSpec.post enc Tryd.prog Tryd.f6 false true false false W args v W' := by
  have hW' := hW
  obtain ⟨p, q, hA0, hV, rfl, hfz, hnd⟩ := hW
  have hA : DataW.TrodAll enc Tryd.prog W 0 (fun _ => true) true Tryd.f6.params.toList args.toList ds p := hA0
  rw [Tryd.params6] at hA hval
  obtain ⟨v0, vs0, d0, ds0, p0, q0, hargs, rfl, rfl, h0, r0⟩ := trodAll_cons hA
  obtain ⟨rfl, rfl, rfl⟩ := trodAll_nil r0
  obtain rfl : args = #[v0] := by cases args; simp_all
  have k0 := h0
  have lt0 : ∀ x ∈ p0, x.block < W.heap.size := by obtain ⟨m, hm⟩ := k0; exact DataW.trod_lt m _ _ _ hm
  obtain ⟨a0, len0, cap0, z0, rfl, w0, c0, m0, l0, b0⟩ := open_q (hval 0 25 v0 rfl rfl) h0
  have ht : Arit W := arit_of hL
  have hv1 := hV
  obtain ⟨g, t, cs, fuel, d, p', rfl, hg, hty, hvar, hd, rfl⟩ := trodVars_one hV
  clear hA0
  refine (walk a0 len0 cap0 z0 W w0 c0 m0 l0 b0 ht).mono fun e W' ⟨he, bel⟩ => ?_
  subst he
  exact ⟨_, rfl, _, _, _, [], _, _, hW', trodAll_mk1 (shut_bool Tryd.underlying4 _),
    (trodAll_cons_mk (Below.trod laidOut (by kernel_rfl) (of_decide_eq_true (by kernel_rfl)) k0 bel lt0) trodAll_mk0),
    vars_below bel (readable_all _ (by kernel_rfl)) hv1, bel.frame _, fun h => by cases h⟩

theorem laid_met (os : Os) : laidMet Tryd.prog Rows.fnExactIsBindingRow.laid ((laidWorld os).forCall (fun _ _ => 0) ⟨#[], #[.slice none 0 0], []⟩).memory :=
  laidMet_of_run' 8 (by kernel_rfl) (by kernel_rfl)
theorem reads (os : Os) {H : Type} (enc : TypeId × Value → H) : ∃ x, DataW.whole enc Tryd.prog ((laidWorld os).forCall (fun _ _ => 0) ⟨#[], #[.slice none 0 0], []⟩).memory Tryd.f6.params.toList Rows.fnExactIsBindingSpec.vars false (#[.slice none 0 0] : Array Value).toList 8 = some x :=
  Option.isSome_iff_exists.1 (by kernel_rfl)

set_option maxRecDepth 100000 in
theorem lifted (os : Os) (started : os.Started) (H : Type) (enc : TypeId × Value → H) (F : Stop.Interp) :
    ReturnsInHanded {} Tryd.checked os 6 .any ((OpenSpec.ofChange Rows.fnExactIsBindingSpec).preRow enc Tryd.prog Tryd.f6 Rows.fnExactIsBindingRow.domain false Rows.fnExactIsBindingRow.laid) (((OpenSpec.ofChange Rows.fnExactIsBindingSpec).at F).post enc Tryd.prog Tryd.f6 false true false false) := by
  obtain ⟨places, hx⟩ := reads os enc
  refine returnsInHanded_of_row (C := Tryd.checked) (s := OpenSpec.ofChange Rows.fnExactIsBindingSpec) own started (by kernel_rfl) Tryd.func6
    (witness_row_at (enc := enc) (C := Tryd.checked) false (laidWorld os) #[.slice none 0 0] rfl (by kernel_rfl) (by kernel_rfl) (by kernel_rfl)
      (OpenSpec.preRow_of_cond 8 hx rfl (fun k hk => by cases hk) (by kernel_rfl) (laid_met os))) ?_
  intro W base args ds gs before hval hW _ _ _ hL _ _
  exact contract H enc W base args ds gs before hval hW hL

theorem said : Rows.FnExactIsBindingSaid :=
  OpenClaim.holds_of_cond 6 Tryd.f6 rfl rfl rfl rfl rfl rfl rfl ⟨rfl, rfl, rfl, rfl, rfl⟩ rfl rfl rfl rfl rfl (by kernel_rfl) Tryd.func6 (by kernel_rfl)
    (of_decide_eq_true (by kernel_rfl)) (by unfold Func.isWrapper; first | (rw [if_pos (by decide +kernel)]; kernel_rfl) | (rw [if_neg (by decide +kernel)]; exact ⟨rfl, rfl⟩))
    (fun os started H enc _ F => by rw [OpenClaim.pre_eq_preRow]; exact lifted os started H enc F)

theorem plain (f : FuncId) (fn : Func) (hf : Tryd.pinned.checked.prog.funcNamed "loop.example/g00872/laws.FnExactIsBinding" = some f) (hfn : Tryd.pinned.checked.prog.funcs[f]? = some fn) :
    Rows.fnExactIsBindingCard.stood.looks = Tryd.pinned.checked.prog.looks [] ∧ ∀ (j : Nat) t, fn.params[j]? = some t → Tryd.pinned.checked.prog.wantsStandIn t = false := by
  obtain rfl : f = 6 := Option.some.inj ((show Tryd.prog.funcNamed "loop.example/g00872/laws.FnExactIsBinding" = some 6 by kernel_rfl).symm.trans hf) |>.symm
  obtain rfl : fn = Tryd.f6 := (Option.some.inj (Tryd.func6.symm.trans hfn)).symm
  refine ⟨by kernel_rfl, fun j t ht => ?_⟩
  rw [Tryd.params6] at ht
  have hm : t ∈ [25] := by simpa using Array.mem_of_getElem? ht
  have hall : ([25].all fun u => !Tryd.prog.wantsStandIn u) = true := by kernel_rfl
  exact (show Tryd.prog.wantsStandIn t = false by simpa using List.all_eq_true.1 hall t hm)

/-- The statement. -/
theorem card : Rows.FnExactIsBindingCardSaid :=
  Claim7.holds_tied_plain_at .later [] _ _ _ _ said (fun _ h => by cases h) (by kernel_rfl) (fun _ h => by cases h) fnExactIsBinding_row_tie rfl ⟨rfl, rfl⟩ (by kernel_rfl) rfl plain (by kernel_rfl)
end Go.Proofs.YtoniekjchabjlaaDoor.fnExactIsBinding
