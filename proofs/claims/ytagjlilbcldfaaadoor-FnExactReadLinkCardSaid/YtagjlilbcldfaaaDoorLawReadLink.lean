/- Proved: for all arguments the law that ReadLink answers as its model answers true and leaves its argument as it was (FnExactReadLink). Conditions: the row's own: the listed tables read as the program's text lays them, which the card ties to that text. -/
import Derived.Test.YtagjlilbcldfaaaDoorQDual
import Derived.Test.YtagjlilbcldfaaaDoorRlS
import Derived.Test.YtagjlilbcldfaaaDoorFrameE
namespace Go.Proofs.YtagjlilbcldfaaaDoor.fnExactReadLink
set_option linter.unusedSimpArgs false
set_option linter.unusedVariables false
open Go.ChangeShapes Go.WideShapes Go.ChangeAt Go.RowKit

theorem walk_big (s : ByteArray) (w : World) (hn : ¬ s.size ≤ 1048576) :
    Calls Tryd.prog 4 #[.string s] w fun e w' => e = .returned (.bool true) ∧ Below w.heap.size w w' := by
  have hd : decide (1048576 < (s.size : Int)) = true := decide_eq_true (by omega)
  go_enter Tryd.func4, Tryd.ntmps4
  go_wp2
  go_ret
  exact ⟨rfl, Below.refl _ _⟩

set_option maxRecDepth 100000 in
theorem eqLink_any (k a b c : Int) (w : World) : Calls Tryd.prog 13 #[.agg #[.int .i64 k, .int .i64 a, .int .i64 b, .int .i64 c], .agg #[.int .i64 k, .int .i64 a, .int .i64 b, .int .i64 c]] w fun e w' => e = .returned (.bool true) ∧ Below w.heap.size w w' := by
  obtain ⟨u, hu⟩ : ∃ u, u = w.alloc (.cells #[.int .i64 k, .int .i64 a, .int .i64 b, .int .i64 c] 25) := ⟨_, rfl⟩
  have bu : Below w.heap.size w u := by rw [hu]; exact (Below.refl _ _).alloc (Nat.le_refl _) _
  have pu : u.heap[w.heap.size]? = some (.cells #[.int .i64 k, .int .i64 a, .int .i64 b, .int .i64 c] 25 (0, 0)) := by rw [hu]; exact heap_alloc_new _ _
  have su : u.heap.size = w.heap.size + 1 := by rw [hu]; simp
  obtain ⟨v, hv⟩ : ∃ v, v = u.alloc (.cells #[.int .i64 k, .int .i64 a, .int .i64 b, .int .i64 c] 25) := ⟨_, rfl⟩
  have bv : Below u.heap.size u v := by rw [hv]; exact (Below.refl _ _).alloc (Nat.le_refl _) _
  have pv : v.heap[u.heap.size]? = some (.cells #[.int .i64 k, .int .i64 a, .int .i64 b, .int .i64 c] 25 (0, 0)) := by rw [hv]; exact heap_alloc_new _ _
  have pu2 := (bv.block w.heap.size (by omega)).trans pu
  obtain ⟨x0, x1, x2, x3⟩ := cells4 pu2
  obtain ⟨y0, y1, y2, y3⟩ := cells4 pv
  rw [su] at y0 y1 y2 y3
  have HB := Lib.hid (bu.trans (bv.mono bu.size))
  have e0 : (k != k) = false := by simp
  have e1 : (a != a) = false := by simp
  have e2 : (b != b) = false := by simp
  have e3 : (c != c) = false := by simp
  clear bu pu su bv pv pu2
  rw [hv, hu] at x0 x1 x2 x3 y0 y1 y2 y3
  rw [hv, hu] at HB
  clear hv hu
  go_enter Tryd.func13, Tryd.ntmps13
  go_wp2
  go_ret
  exact ⟨rfl, HB.out⟩

set_option maxRecDepth 100000 in
set_option maxHeartbeats 8000000 in
theorem walk_mid (s : ByteArray) (w : World) (hn : s.size ≤ 1048576) (hw : LWords w) (he : Errs w) :
    Calls Tryd.prog 4 #[.string s] w fun e w' => e = .returned (.bool true) ∧ Below w.heap.size w w' := by
  have hd : decide (1048576 < (s.size : Int)) = false := decide_eq_false (by omega)
  have HM := Lib.hid (sReadLink_any s w hn)
  have HF := Lib.hid (fun w' (bel : Below w.heap.size w w') => readLink_impl s w' hn (hw.below bel hw.lt) (he.below bel he.lt))
  clear hw he
  generalize rlV s = S at *
  generalize rlB s = Vb at *
  obtain ⟨k, a, b, c⟩ := S
  have hbb : (Vb != Vb) = false := by simp
  go_enter Tryd.func4, Tryd.ntmps4
  go_wp2_with (fail)
  refine HM.out.mono ?_
  rintro e w1 ⟨rfl, bel1⟩
  dsimp only
  have s1 := bel1.size
  obtain ⟨v1, hv1⟩ : ∃ v1, v1 = w1.alloc (.cells #[.int .i64 k, .int .i64 a, .int .i64 b, .int .i64 c] 25) := ⟨_, rfl⟩
  have bx1 : Below w1.heap.size w1 v1 := by rw [hv1]; exact (Below.refl _ _).alloc (Nat.le_refl _) _
  have q1 : v1.heap[w1.heap.size]? = some (.cells #[.int .i64 k, .int .i64 a, .int .i64 b, .int .i64 c] 25 (0, 0)) := by rw [hv1]; exact heap_alloc_new _ _
  have t1 : v1.heap.size = w1.heap.size + 1 := by rw [hv1]; simp
  have B1 := Lib.hid (bel1.trans (bx1.mono bel1.size))
  have Q1 := Lib.hid q1
  clear bel1 bx1 q1 HM
  go_wp2_with (fail)
  rw [← hv1]
  clear hv1
  refine (HF.out v1 B1.out).mono ?_
  rintro e w2 ⟨rfl, bel2⟩
  dsimp only
  have s2 := bel2.size
  obtain ⟨v2, hv2⟩ : ∃ v2, v2 = w2.alloc (.cells #[.int .i64 k, .int .i64 a, .int .i64 b, .int .i64 c] 25) := ⟨_, rfl⟩
  have bx2 : Below w2.heap.size w2 v2 := by rw [hv2]; exact (Below.refl _ _).alloc (Nat.le_refl _) _
  have q2 : v2.heap[w2.heap.size]? = some (.cells #[.int .i64 k, .int .i64 a, .int .i64 b, .int .i64 c] 25 (0, 0)) := by rw [hv2]; exact heap_alloc_new _ _
  have bb := bel2.trans (bx2.mono bel2.size)
  have q12 := (bb.block w1.heap.size (by omega)).trans Q1.out
  obtain ⟨x0, x1, x2, x3⟩ := cells4 q12
  obtain ⟨y0, y1, y2, y3⟩ := cells4 q2
  have B2 := Lib.hid (B1.out.trans (bb.mono B1.out.size))
  have HE := Lib.hid (eqLink_any k a b c v2)
  rw [hv2] at x0 x1 x2 x3 y0 y1 y2 y3
  clear bel2 bx2 bb q2 q12 Q1 HF
  go_wp2_with (fail)
  rw [← hv2]
  clear hv2 x0 x1 x2 x3 y0 y1 y2 y3
  refine HE.out.mono ?_
  rintro e w3 ⟨rfl, bel3⟩
  have B3 := Lib.hid (B2.out.trans (bel3.mono B2.out.size))
  clear bel3 HE
  go_wp2
  go_ret
  exact ⟨rfl, B3.out⟩

theorem walk (s : ByteArray) (w : World) (_hs : s.size ≤ maxLen) (hw : LWords w) (he : Errs w) :
    Calls Tryd.prog 4 #[.string s] w fun e w' => e = .returned (.bool true) ∧ Below w.heap.size w w' := by
  by_cases hn : s.size ≤ 1048576
  · exact walk_mid s w hn hw he
  · exact walk_big s w hn

set_option maxRecDepth 100000 in
/-- What the walk gives, for all arguments and every world that holds the tables. -/
theorem contract (H : Type) (enc : TypeId × Value → H) (W : World) (base : Nat) (args : Array Value) (ds gs : List (DataW H)) (before : List MemPlace)
    (hval : ∀ (j : Nat) t v, Tryd.f4.params[j]? = some t → args[j]? = some v → Value.okWide Tryd.prog W .any base t v)
    (hW : DataW.Whole enc Tryd.prog Tryd.f4.params.toList Rows.fnExactReadLinkSpec.vars false W args.toList ds gs before) (hL : laidMetH Tryd.prog Rows.fnExactReadLinkRow.laid W) (_hS : W.ShapedOpen Tryd.prog) :
    Calls Tryd.prog 4 args W fun e W' => ∃ v, e = .returned v ∧ Rows.fnExactReadLinkSpec.post enc Tryd.prog Tryd.f4 false true false false W args v W' := by
  have hW' := hW
  obtain ⟨p, q, hA0, hV, rfl, hfz, hnd⟩ := hW
  have hA : DataW.TrodAll enc Tryd.prog W 0 (fun _ => true) true Tryd.f4.params.toList args.toList ds p := hA0
  rw [Tryd.params4] at hA hval
  obtain ⟨v0, vs0, d0, ds0, p0, q0, hargs, rfl, rfl, h0, r0⟩ := trodAll_cons hA
  obtain ⟨rfl, rfl, rfl⟩ := trodAll_nil r0
  obtain rfl : args = #[v0] := by cases args; simp_all
  obtain ⟨z0, rfl, rfl, rfl, b0⟩ := Go.ChangeMaps.open_string Tryd.underlying9 (hval 0 9 v0 rfl rfl) h0
  replace hL : laidMet Tryd.prog Rows.fnExactReadLinkRow.laid W := by rw [MakeChecks.laidMetH_plain _ _ _ (by kernel_rfl)] at hL; exact hL
  have hll : LWords W := lwords_of (laidMet.tail (laidMet.tail (laidMet.tail (laidMet.tail (laidMet.tail hL)))))
  have hee : Errs W := errs_of (laidMet.tail (laidMet.tail (laidMet.tail hL)))
  have hv1 := hV
  obtain ⟨g, t, cs, fuel, d, p', rfl, hg, hty, hvar, hd, rfl⟩ := trodVars_one hV
  clear hA0
  refine (walk z0 W b0  hll hee).mono fun e W' ⟨he, bel⟩ => ?_
  subst he
  exact ⟨_, rfl, _, _, _, [], _, _, hW', trodAll_mk1 (shut_bool Tryd.underlying4 _),
    (trodAll_cons_mk (Go.ChangeMaps.shut_string Tryd.underlying9 b0) trodAll_mk0),
    vars_below bel (readable_all _ (by kernel_rfl)) hv1, bel.frame _, fun h => by cases h⟩

theorem laid_met (os : Os) : laidMet Tryd.prog Rows.fnExactReadLinkRow.laid ((World.laidAll Tryd.prog os Rows.fnExactReadLinkRow.laid).forCall (fun _ _ => 0) ⟨#[], #[.string ⟨#[]⟩], []⟩).memory :=
  laidMet_laidAll _ (by kernel_rfl) (by kernel_rfl)
theorem reads (os : Os) {H : Type} (enc : TypeId × Value → H) : ∃ x, DataW.whole enc Tryd.prog ((World.laidAll Tryd.prog os Rows.fnExactReadLinkRow.laid).forCall (fun _ _ => 0) ⟨#[], #[.string ⟨#[]⟩], []⟩).memory Tryd.f4.params.toList Rows.fnExactReadLinkSpec.vars false (#[.string ⟨#[]⟩] : Array Value).toList 8 = some x :=
  Option.isSome_iff_exists.1 (by kernel_rfl)

set_option maxRecDepth 100000 in
theorem lifted (os : Os) (started : os.Started) (H : Type) (enc : TypeId × Value → H) (F : Stop.Interp) :
    ReturnsInHanded {} Tryd.checked os 4 .any ((OpenSpec.ofChange Rows.fnExactReadLinkSpec).preRow enc Tryd.prog Tryd.f4 Rows.fnExactReadLinkRow.domain false Rows.fnExactReadLinkRow.laid) (((OpenSpec.ofChange Rows.fnExactReadLinkSpec).at F).post enc Tryd.prog Tryd.f4 false true false false) := by
  obtain ⟨places, hx⟩ := reads os enc
  refine returnsInHanded_of_row (C := Tryd.checked) (s := OpenSpec.ofChange Rows.fnExactReadLinkSpec) own started (by kernel_rfl) Tryd.func4
    (witness_row_sh (enc := enc) (C := Tryd.checked) false (World.laidAll Tryd.prog os Rows.fnExactReadLinkRow.laid) #[.string ⟨#[]⟩] (World.laidAll_os _ _ _) (World.shaped_of_ZipB (by kernel_rfl) (by kernel_rfl)) (by kernel_rfl)
      (OpenSpec.preRow_of_cond 8 hx rfl (fun k hk => by cases hk) (by kernel_rfl) (laid_met os))) ?_
  intro W base args ds gs before hval hW _ _ _ hL hS _
  exact contract H enc W base args ds gs before hval hW hL hS

theorem said : Rows.FnExactReadLinkSaid :=
  OpenClaim.holds_of_cond 4 Tryd.f4 rfl rfl rfl rfl rfl rfl rfl ⟨rfl, rfl, rfl, rfl, rfl⟩ rfl rfl rfl rfl rfl (by kernel_rfl) Tryd.func4 (by kernel_rfl)
    (of_decide_eq_true (by kernel_rfl)) (by unfold Func.isWrapper; first | (rw [if_pos (by decide +kernel)]; kernel_rfl) | (rw [if_neg (by decide +kernel)]; exact ⟨rfl, rfl⟩))
    (fun os started H enc _ F => by rw [OpenClaim.pre_eq_preRow]; exact lifted os started H enc F)

theorem plain (f : FuncId) (fn : Func) (hf : Tryd.pinned.checked.prog.funcNamed "loop.example/g00872/laws.FnExactReadLink" = some f) (hfn : Tryd.pinned.checked.prog.funcs[f]? = some fn) :
    Rows.fnExactReadLinkCard.stood.looks = Tryd.pinned.checked.prog.looks [] ∧ ∀ (j : Nat) t, fn.params[j]? = some t → Tryd.pinned.checked.prog.wantsStandIn t = false := by
  obtain rfl : f = 4 := Option.some.inj ((show Tryd.prog.funcNamed "loop.example/g00872/laws.FnExactReadLink" = some 4 by kernel_rfl).symm.trans hf) |>.symm
  obtain rfl : fn = Tryd.f4 := (Option.some.inj (Tryd.func4.symm.trans hfn)).symm
  refine ⟨by kernel_rfl, fun j t ht => ?_⟩
  rw [Tryd.params4] at ht
  have hm : t ∈ [9] := by simpa using Array.mem_of_getElem? ht
  have hall : ([9].all fun u => !Tryd.prog.wantsStandIn u) = true := by kernel_rfl
  exact (show Tryd.prog.wantsStandIn t = false by simpa using List.all_eq_true.1 hall t hm)

/-- The statement. -/
theorem card : Rows.FnExactReadLinkCardSaid :=
  Claim7.holds_tied_plain_at .later [] _ _ _ _ said (fun _ h => by cases h) (by kernel_rfl) (fun _ h => by cases h) fnExactReadLink_row_tie rfl ⟨rfl, rfl⟩ (by kernel_rfl) rfl plain (by kernel_rfl)
end Go.Proofs.YtagjlilbcldfaaaDoor.fnExactReadLink
