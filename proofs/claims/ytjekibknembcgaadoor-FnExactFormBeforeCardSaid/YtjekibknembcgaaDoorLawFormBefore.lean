/- Proved: for all arguments the law that FormBefore answers as its model and leaves its arguments answers true and leaves its arguments as they were (FnExactFormBefore). Conditions: the row's own: the listed tables read as the program's text lays them, which the card ties to that text. -/
import Derived.Test.YtjekibknembcgaaDoorFrame
import Derived.Test.YtjekibknembcgaaDoorCmp
namespace Go.Proofs.YtjekibknembcgaaDoor.fnExactFormBefore
open Go.ChangeShapes Go.WideShapes Go.ChangeAt Go.RowKit

theorem walk_big0 (A : Option Addr) (n c : Nat) (B : Option Addr) (m d : Nat) (w : World) (hn : ¬ n ≤ 1048576) :
    Calls Tryd.prog 10 #[.slice A n c, .slice B m d] w fun e w' => e = .returned (.bool true) ∧ Below w.heap.size w w' := by
  have hd : decide (1048576 < (n : Int)) = true := decide_eq_true (by omega)
  go_enter Tryd.func10, Tryd.ntmps10
  go_wp2
  go_ret
  exact ⟨rfl, Below.refl _ _⟩
theorem walk_big1 (A : Option Addr) (n c : Nat) (B : Option Addr) (m d : Nat) (w : World) (hn0 : n ≤ 1048576) (hn : ¬ m ≤ 1048576) :
    Calls Tryd.prog 10 #[.slice A n c, .slice B m d] w fun e w' => e = .returned (.bool true) ∧ Below w.heap.size w w' := by
  have hd0 : decide (1048576 < (n : Int)) = false := decide_eq_false (by omega)
  have hd : decide (1048576 < (m : Int)) = true := decide_eq_true (by omega)
  go_enter Tryd.func10, Tryd.ntmps10
  go_wp2
  go_ret
  exact ⟨rfl, Below.refl _ _⟩

set_option maxHeartbeats 4000000 in
theorem walk (A : Option Addr) (n c : Nat) (a : List Int) (B : Option Addr) (m d : Nat) (b : List Int) (w : World) (h : RdI w w.heap.size A n a) (_hnc : n ≤ c) (_hf : ∀ z ∈ a, (Lit.int .i64 z).wf = true) (h' : RdI w w.heap.size B m b) (_hmd : m ≤ d) (_hf' : ∀ z ∈ b, (Lit.int .i64 z).wf = true) (ht : Arit w) :
    Calls Tryd.prog 10 #[.slice A n c, .slice B m d] w fun e w' => e = .returned (.bool true) ∧ Below w.heap.size w w' := by
  by_cases hn : n ≤ 1048576
  · by_cases hm : m ≤ 1048576
    · have hB := ht.lt
      have hd : decide (1048576 < (n : Int)) = false := decide_eq_false (by omega)
      have hd' : decide (1048576 < (m : Int)) = false := decide_eq_false (by omega)
      have B0 : Below w.heap.size w w := Below.refl _ _
      obtain ⟨T, hT⟩ : ∃ T, befB a b = T := ⟨_, rfl⟩
      have HT := Lib.hid hT; clear hT
      have hTT : (T != T) = false := by simp
      go_enter Tryd.func10, Tryd.ntmps10
      go_wp2_with (fail)
      refine (toInts_any A n c a w h hn).mono ?_
      rintro e w1 ⟨rfl, o1, bel1⟩
      have B1 := B0.trans (bel1.mono B0.size)
      go_wp2_with (fail)
      refine (toInts_any B m d b w1 ((h'.below B1).more B1.size) hm).mono ?_
      rintro e w2 ⟨rfl, o2, bel2⟩
      have o1' := own_below o1 bel2 (Nat.le_refl _)
      have B2 := B1.trans (bel2.mono B1.size)
      clear bel1 bel2
      go_wp2_with (fail)
      refine (sFormBefore_any _ _ n m n m a b w2 (RdI.of_own o1') (RdI.of_own o2)).mono ?_
      rw [HT.out]
      rintro e w3 ⟨rfl, bel3⟩
      have B3 := B2.trans (bel3.mono B2.size)
      clear bel3 o1' o2 o1
      go_wp2_with (fail)
      refine (toInts_any A n c a w3 ((h.below B3).more B3.size) hn).mono ?_
      rintro e w4 ⟨rfl, o4, bel4⟩
      have B4 := B3.trans (bel4.mono B3.size)
      clear bel4
      go_wp2_with (fail)
      refine (toInts_any B m d b w4 ((h'.below B4).more B4.size) hm).mono ?_
      rintro e w5 ⟨rfl, o5, bel5⟩
      have o4_5 := own_below o4 bel5 (Nat.le_refl _)
      have B5 := B4.trans (bel5.mono B4.size)
      clear bel5 o4
      go_wp2_with (fail)
      refine (formBefore_impl _ _ n m n m a b w5 (RdI.of_own o4_5) (RdI.of_own o5) (ht.below B5 hB) (Nat.le_refl _) (Nat.le_refl _)).mono ?_
      rw [HT.out]
      rintro e w6 ⟨rfl, bel6⟩
      have o4_6 := own_below o4_5 bel6 (Nat.le_refl _)
      have o5_6 := own_below o5 bel6 (Nat.le_refl _)
      have B6 := B5.trans (bel6.mono B5.size)
      clear bel6 o4_5 o5
      go_wp2_with (fail)
      refine (toInts_any A n c a w6 ((h.below B6).more B6.size) hn).mono ?_
      rintro e w7 ⟨rfl, o7, bel7⟩
      have o4_7 := own_below o4_6 bel7 (Nat.le_refl _)
      have o5_7 := own_below o5_6 bel7 (Nat.le_refl _)
      have B7 := B6.trans (bel7.mono B6.size)
      clear bel7 o4_6 o5_6
      go_wp2_with (fail)
      refine (eqInts_any _ _ n n n n a a w7 (RdI.of_own o4_7) (RdI.of_own o7) hn hn).mono ?_
      rintro e w8 ⟨rfl, bel8⟩
      have o5_8 := own_below o5_7 bel8 (Nat.le_refl _)
      have B8 := B7.trans (bel8.mono B7.size)
      clear bel8 o4_7 o5_7 o7
      go_wp2_with (fail)
      refine (toInts_any B m d b w8 ((h'.below B8).more B8.size) hm).mono ?_
      rintro e w9 ⟨rfl, o9, bel9⟩
      have o5_9 := own_below o5_8 bel9 (Nat.le_refl _)
      have B9 := B8.trans (bel9.mono B8.size)
      clear bel9 o5_8
      go_wp2_with (fail)
      refine (eqInts_any _ _ m m m m b b w9 (RdI.of_own o5_9) (RdI.of_own o9) hm hm).mono ?_
      rintro e w10 ⟨rfl, bel10⟩
      have HB := Lib.hid (B9.trans (bel10.mono B9.size))
      clear bel10 o5_9 o9 B0 B1 B2 B3 B4 B5 B6 B7 B8 B9
      go_wp2
      go_ret
      exact ⟨rfl, HB.out⟩
    · exact walk_big1 A n c B m d w hn hm
  · exact walk_big0 A n c B m d w hn

set_option maxRecDepth 100000 in
/-- What the walk gives, for all arguments and every world that holds the tables. -/
theorem contract (H : Type) (enc : TypeId × Value → H) (W : World) (base : Nat) (args : Array Value) (ds gs : List (DataW H)) (before : List MemPlace)
    (hval : ∀ (j : Nat) t v, Tryd.f10.params[j]? = some t → args[j]? = some v → Value.okWide Tryd.prog W .any base t v)
    (hW : DataW.Whole enc Tryd.prog Tryd.f10.params.toList Rows.fnExactFormBeforeSpec.vars false W args.toList ds gs before) (hL : laidMetH Tryd.prog Rows.fnExactFormBeforeRow.laid W) :
    Calls Tryd.prog 10 args W fun e W' => ∃ v, e = .returned v ∧ Rows.fnExactFormBeforeSpec.post enc Tryd.prog Tryd.f10 false true false false W args v W' := by
  have hW' := hW
  obtain ⟨p, q, hA0, hV, rfl, hfz, hnd⟩ := hW
  have hA : DataW.TrodAll enc Tryd.prog W 0 (fun _ => true) true Tryd.f10.params.toList args.toList ds p := hA0
  rw [Tryd.params10] at hA hval
  obtain ⟨v0, vs0, d0, ds0, p0, q0, hargs, rfl, rfl, h0, r0⟩ := trodAll_cons hA
  obtain ⟨v1, vs1, d1, ds1, p1, q1, rfl, rfl, rfl, h1, r1⟩ := trodAll_cons r0
  obtain ⟨rfl, rfl, rfl⟩ := trodAll_nil r1
  obtain rfl : args = #[v0, v1] := by cases args; simp_all
  obtain ⟨a0, len0, cap0, rfl⟩ := okWide_slice Tryd.underlying24 (hval 0 24 v0 rfl rfl)
  have k0 := h0
  have lt0 : ∀ x ∈ p0, x.block < W.heap.size := by obtain ⟨m, hm⟩ := k0; exact DataW.trod_lt m _ _ _ hm
  obtain ⟨z0, w0, c0, b0⟩ := open_i64s h0
  obtain ⟨a1, len1, cap1, rfl⟩ := okWide_slice Tryd.underlying24 (hval 1 24 v1 rfl rfl)
  have k1 := h1
  have lt1 : ∀ x ∈ p1, x.block < W.heap.size := by obtain ⟨m, hm⟩ := k1; exact DataW.trod_lt m _ _ _ hm
  obtain ⟨z1, w1, c1, b1⟩ := open_i64s h1
  have ht : Arit W := arit_of hL
  have hv1 := hV
  obtain ⟨g, t, cs, fuel, d, p', rfl, hg, hty, hvar, hd, rfl⟩ := trodVars_one hV
  clear hA0
  refine (walk a0 len0 cap0 z0 a1 len1 cap1 z1 W w0 c0 b0 w1 c1 b1 ht).mono fun e W' ⟨he, bel⟩ => ?_
  subst he
  exact ⟨_, rfl, _, _, _, [], _, _, hW', trodAll_mk1 (shut_bool Tryd.underlying4 _),
    (trodAll_cons_mk (Below.trod laidOut (by kernel_rfl) (of_decide_eq_true (by kernel_rfl)) k0 bel lt0) (trodAll_cons_mk (Below.trod laidOut (by kernel_rfl) (of_decide_eq_true (by kernel_rfl)) k1 bel lt1) trodAll_mk0)),
    vars_below bel (readable_all _ (by kernel_rfl)) hv1, bel.frame _, fun h => by cases h⟩

theorem laid_met (os : Os) : laidMet Tryd.prog Rows.fnExactFormBeforeRow.laid ((laidWorld os).forCall (fun _ _ => 0) ⟨#[], #[.slice none 0 0, .slice none 0 0], []⟩).memory :=
  laidMet_of_run' 8 (by kernel_rfl) (by kernel_rfl)
theorem reads (os : Os) {H : Type} (enc : TypeId × Value → H) : ∃ x, DataW.whole enc Tryd.prog ((laidWorld os).forCall (fun _ _ => 0) ⟨#[], #[.slice none 0 0, .slice none 0 0], []⟩).memory Tryd.f10.params.toList Rows.fnExactFormBeforeSpec.vars false (#[.slice none 0 0, .slice none 0 0] : Array Value).toList 8 = some x :=
  Option.isSome_iff_exists.1 (by kernel_rfl)

set_option maxRecDepth 100000 in
theorem lifted (os : Os) (started : os.Started) (H : Type) (enc : TypeId × Value → H) (F : Stop.Interp) :
    ReturnsInHanded {} Tryd.checked os 10 .any ((OpenSpec.ofChange Rows.fnExactFormBeforeSpec).preRow enc Tryd.prog Tryd.f10 Rows.fnExactFormBeforeRow.domain false Rows.fnExactFormBeforeRow.laid) (((OpenSpec.ofChange Rows.fnExactFormBeforeSpec).at F).post enc Tryd.prog Tryd.f10 false true false false) := by
  obtain ⟨places, hx⟩ := reads os enc
  refine returnsInHanded_of_row (C := Tryd.checked) (s := OpenSpec.ofChange Rows.fnExactFormBeforeSpec) own started (by kernel_rfl) Tryd.func10
    (witness_row_at (enc := enc) (C := Tryd.checked) false (laidWorld os) #[.slice none 0 0, .slice none 0 0] rfl (by kernel_rfl) (by kernel_rfl) (by kernel_rfl)
      (OpenSpec.preRow_of_cond 8 hx rfl (fun k hk => by cases hk) (by kernel_rfl) (laid_met os))) ?_
  intro W base args ds gs before hval hW _ _ _ hL _ _
  exact contract H enc W base args ds gs before hval hW hL

theorem said : Rows.FnExactFormBeforeSaid :=
  OpenClaim.holds_of_cond 10 Tryd.f10 rfl rfl rfl rfl rfl rfl rfl ⟨rfl, rfl, rfl, rfl, rfl⟩ rfl rfl rfl rfl rfl (by kernel_rfl) Tryd.func10 (by kernel_rfl)
    (of_decide_eq_true (by kernel_rfl)) (by unfold Func.isWrapper; first | (rw [if_pos (by decide +kernel)]; kernel_rfl) | (rw [if_neg (by decide +kernel)]; exact ⟨rfl, rfl⟩))
    (fun os started H enc _ F => by rw [OpenClaim.pre_eq_preRow]; exact lifted os started H enc F)

theorem plain (f : FuncId) (fn : Func) (hf : Tryd.pinned.checked.prog.funcNamed "loop.example/g00872/laws.FnExactFormBefore" = some f) (hfn : Tryd.pinned.checked.prog.funcs[f]? = some fn) :
    Rows.fnExactFormBeforeCard.stood.looks = Tryd.pinned.checked.prog.looks [] ∧ ∀ (j : Nat) t, fn.params[j]? = some t → Tryd.pinned.checked.prog.wantsStandIn t = false := by
  obtain rfl : f = 10 := Option.some.inj ((show Tryd.prog.funcNamed "loop.example/g00872/laws.FnExactFormBefore" = some 10 by kernel_rfl).symm.trans hf) |>.symm
  obtain rfl : fn = Tryd.f10 := (Option.some.inj (Tryd.func10.symm.trans hfn)).symm
  refine ⟨by kernel_rfl, fun j t ht => ?_⟩
  rw [Tryd.params10] at ht
  have hm : t ∈ [24, 24] := by simpa using Array.mem_of_getElem? ht
  have hall : ([24, 24].all fun u => !Tryd.prog.wantsStandIn u) = true := by kernel_rfl
  exact (show Tryd.prog.wantsStandIn t = false by simpa using List.all_eq_true.1 hall t hm)

/-- The statement. -/
theorem card : Rows.FnExactFormBeforeCardSaid :=
  Claim7.holds_tied_plain_at .later [] _ _ _ _ said (fun _ h => by cases h) (by kernel_rfl) (fun _ h => by cases h) fnExactFormBefore_row_tie rfl ⟨rfl, rfl⟩ (by kernel_rfl) rfl plain (by kernel_rfl)
end Go.Proofs.YtjekibknembcgaaDoor.fnExactFormBefore
