/- Proved: for all arguments the law that ReadStep answers as its model and shares no memory answers true and leaves its argument as it was (FnExactReadStep). Conditions: the row's own: the listed tables read as the program's text lays them, which the card ties to that text. -/
import Derived.Test.YtjgmgaccmcepdaaGreatDoorFrame
import Derived.Test.YtjgmgaccmcepdaaGreatDoorStepK
namespace Go.Proofs.YtjgmgaccmcepdaaGreatDoor.fnExactReadStep
open Go.ChangeShapes Go.WideShapes Go.ChangeAt Go.RowKit

theorem walk_big (s : ByteArray) (w : World) (hn : ¬ s.size ≤ 1048576) :
    Calls Tryz.prog 7 #[.string s] w fun e w' => e = .returned (.bool true) ∧ Below w.heap.size w w' := by
  have hd : decide (1048576 < (s.size : Int)) = true := decide_eq_true (by omega)
  go_enter Tryz.func7, Tryz.ntmps7
  go_wp2
  go_ret
  exact ⟨rfl, Below.refl _ _⟩

set_option maxRecDepth 100000 in
set_option maxHeartbeats 8000000 in
theorem walk_mid (s : ByteArray) (w : World) (hn : s.size ≤ 1048576) (ht : Arit w) (hu : Dual w) (hw : Words w) (he : Errs w) :
    Calls Tryz.prog 7 #[.string s] w fun e w' => e = .returned (.bool true) ∧ Below w.heap.size w w' := by
  have hd : decide (1048576 < (s.size : Int)) = false := decide_eq_false (by omega)
  have hl := rsS_len s
  have HM := Lib.hid (sReadStep_any s w hn)
  have HF := Lib.hid (fun w' (bel : Below w.heap.size w w') => readStep_impl s w' hn (ht.below bel ht.lt) (hu.below bel hu.lt) (hw.below bel hw.lt) (he.below bel he.lt))
  clear ht hu hw he
  generalize rsS s = S at *
  generalize rsB s = Vb at *
  obtain ⟨r, a, b, i, j, f⟩ := S
  have hl' : f.length ≤ 1048576 := Nat.le_trans hl (by decide)
  have hbb : (Vb != Vb) = false := by simp
  clear hl
  go_enter Tryz.func7, Tryz.ntmps7
  go_wp2_with (fail)
  refine HM.out.mono ?_
  rintro e w1 ⟨A1, c1, rfl, o1, bel1⟩
  have s1 := bel1.size
  have bx1 := box_any w1 (.cells #[Value.int .i64 r, Value.int .i64 a, Value.int .i64 b, Value.int .i64 i, Value.int .i64 j, Value.slice A1 f.length c1] 30)
  have q1 : (w1.alloc (.cells #[Value.int .i64 r, Value.int .i64 a, Value.int .i64 b, Value.int .i64 i, Value.int .i64 j, Value.slice A1 f.length c1] 30)).heap[w1.heap.size]? = some (.cells #[Value.int .i64 r, Value.int .i64 a, Value.int .i64 b, Value.int .i64 i, Value.int .i64 j, Value.slice A1 f.length c1] 30 (0, 0)) := heap_alloc_new _ _
  have t1 : (w1.alloc (.cells #[Value.int .i64 r, Value.int .i64 a, Value.int .i64 b, Value.int .i64 i, Value.int .i64 j, Value.slice A1 f.length c1] 30)).heap.size = w1.heap.size + 1 := by simp
  obtain ⟨v1, hv1⟩ : ∃ v1, v1 = w1.alloc (.cells #[Value.int .i64 r, Value.int .i64 a, Value.int .i64 b, Value.int .i64 i, Value.int .i64 j, Value.slice A1 f.length c1] 30) := ⟨_, rfl⟩
  have O1 := Lib.hid (own_below o1 bx1 (Nat.le_refl _))
  rw [← hv1] at bx1 q1 t1 O1
  have B1 := Lib.hid (bel1.trans (bx1.mono bel1.size))
  have OV1 := O1
  have Q1 := Lib.hid q1
  clear bel1 bx1 o1 q1 HM
  go_wp2_with (fail)
  rw [← hv1]
  clear hv1
  refine (HF.out v1 B1.out).mono ?_
  rintro e w2 ⟨A2, c2, rfl, o2, bel2⟩
  have s2 := bel2.size
  have HG := Lib.hid o2.lt
  have bx2 := box_any w2 (.cells #[Value.int .i64 r, Value.int .i64 a, Value.int .i64 b, Value.int .i64 i, Value.int .i64 j, Value.slice A2 f.length c2] 30)
  have q2 : (w2.alloc (.cells #[Value.int .i64 r, Value.int .i64 a, Value.int .i64 b, Value.int .i64 i, Value.int .i64 j, Value.slice A2 f.length c2] 30)).heap[w2.heap.size]? = some (.cells #[Value.int .i64 r, Value.int .i64 a, Value.int .i64 b, Value.int .i64 i, Value.int .i64 j, Value.slice A2 f.length c2] 30 (0, 0)) := heap_alloc_new _ _
  have t2 : (w2.alloc (.cells #[Value.int .i64 r, Value.int .i64 a, Value.int .i64 b, Value.int .i64 i, Value.int .i64 j, Value.slice A2 f.length c2] 30)).heap.size = w2.heap.size + 1 := by simp
  obtain ⟨v2, hv2⟩ : ∃ v2, v2 = w2.alloc (.cells #[Value.int .i64 r, Value.int .i64 a, Value.int .i64 b, Value.int .i64 i, Value.int .i64 j, Value.slice A2 f.length c2] 30) := ⟨_, rfl⟩
  have O2 := Lib.hid (own_below o2 bx2 (Nat.le_refl _))
  have O12 := Lib.hid (own_below O1.out (bel2.trans (bx2.mono bel2.size)) (Nat.le_refl _))
  have bb := bel2.trans (bx2.mono bel2.size)
  have q12 := (bb.block w1.heap.size (by omega)).trans Q1.out
  have x0 := cell_of_row _ _ 0 _ _ (0, 0) q12; have x1 := cell_of_row _ _ 1 _ _ (0, 0) q12; have x2 := cell_of_row _ _ 2 _ _ (0, 0) q12; have x3 := cell_of_row _ _ 3 _ _ (0, 0) q12; have x4 := cell_of_row _ _ 4 _ _ (0, 0) q12; have x5 := cell_of_row _ _ 5 _ _ (0, 0) q12
  have y0 := cell_of_row _ _ 0 _ _ (0, 0) q2; have y1 := cell_of_row _ _ 1 _ _ (0, 0) q2; have y2 := cell_of_row _ _ 2 _ _ (0, 0) q2; have y3 := cell_of_row _ _ 3 _ _ (0, 0) q2; have y4 := cell_of_row _ _ 4 _ _ (0, 0) q2; have y5 := cell_of_row _ _ 5 _ _ (0, 0) q2
  rw [← hv2] at bx2 q2 q12 t2 O2 O12 bb
  have B2 := Lib.hid (B1.out.trans (bb.mono B1.out.size))
  have Q12 := Lib.hid q12
  have Q2 := Lib.hid q2
  clear bel2 bx2 bb o2 q2 q12 Q1 O1
  go_wp2_with (fail)
  rw [← hv2]
  clear hv2 x0 x1 x2 x3 x4 x5 y0 y1 y2 y3 y4 y5
  refine (eqStep_any r a b i j A2 A1 f.length c2 c1 f v2 (RdI.of_own O2.out) (RdI.of_own O12.out) hl').mono ?_
  rintro e w3 ⟨rfl, bel3⟩
  have s3 := bel3.size
  have B3 := Lib.hid (B2.out.trans (bel3.mono B2.out.size))
  have O13 := Lib.hid (own_below O12.out bel3 (Nat.le_refl _))
  have O23 := Lib.hid (own_below O2.out bel3 (Nat.le_refl _))
  have Q13 := Lib.hid ((bel3.block w1.heap.size (by omega)).trans Q12.out)
  have Q23 := Lib.hid ((bel3.block w2.heap.size (by omega)).trans Q2.out)
  clear bel3 Q12 Q2 O12 O2 B2
  have q3 := Q23.out
  have y0 := cell_of_row _ _ 0 _ _ (0, 0) q3; have y1 := cell_of_row _ _ 1 _ _ (0, 0) q3; have y2 := cell_of_row _ _ 2 _ _ (0, 0) q3; have y3 := cell_of_row _ _ 3 _ _ (0, 0) q3; have y4 := cell_of_row _ _ 4 _ _ (0, 0) q3; have y5 := cell_of_row _ _ 5 _ _ (0, 0) q3
  clear q3
  go_wp2_with (fail)
  clear y0 y1 y2 y3 y4 y5
  refine (markStep_any r a b i j A2 f.length c2 f 1 w3 _ O23.out hl' (by omega) (by omega)).mono ?_
  rintro e w4 ⟨rfl, o24, gr4⟩
  have bx4 := box_any w3 (.cells #[Value.int .i64 r, Value.int .i64 a, Value.int .i64 b, Value.int .i64 i, Value.int .i64 j, Value.slice A2 f.length c2] 30)
  have gs4 := gr4.size
  have t4 : (w3.alloc (.cells #[Value.int .i64 r, Value.int .i64 a, Value.int .i64 b, Value.int .i64 i, Value.int .i64 j, Value.slice A2 f.length c2] 30)).heap.size = w3.heap.size + 1 := by simp
  have O23' := own_below O23.out bx4 (Nat.le_refl _)
  have O13' := own_below O13.out bx4 (Nat.le_refl _)
  have O14 := Lib.hid (O13'.kept gr4 (own_ne OV1.out O23' (Nat.le_refl _) (Nat.le_refl _)))
  have B4 := Lib.hid (below_grown (B3.out.trans (bx4.mono B3.out.size)) gr4 O23' B1.out.size (by have := B3.out.size; omega))
  have Q14 := Lib.hid (((gr4.block w1.heap.size (by omega) (fun e => by have := HG.out _ e.symm; omega)).trans (bx4.block w1.heap.size (by omega))).trans Q13.out)
  have q24 := ((gr4.block w2.heap.size (by omega) (fun e => by have := HG.out _ e.symm; omega)).trans (bx4.block w2.heap.size (by omega))).trans Q23.out
  have O24 := Lib.hid o24
  have Q24 := Lib.hid q24
  have h4 : w3.heap.size + 1 ≤ w4.heap.size := by omega
  have y0 := cell_of_row _ _ 0 _ _ (0, 0) q24; have y1 := cell_of_row _ _ 1 _ _ (0, 0) q24; have y2 := cell_of_row _ _ 2 _ _ (0, 0) q24; have y3 := cell_of_row _ _ 3 _ _ (0, 0) q24; have y4 := cell_of_row _ _ 4 _ _ (0, 0) q24; have y5 := cell_of_row _ _ 5 _ _ (0, 0) q24
  have hm := Lib.hid (heldStep_any r a b i j A2 f.length c2 1 w4 (RdI.of_own O24.out) hl' (by omega) (by omega))
  have hk0 : decide (1 + (f.length : Int) < 0) = false := decide_eq_false (by omega)
  clear bx4 gs4 t4 O23' O13' O13 O23 B3 Q13 Q23 q24 o24 gr4
  go_wp2_with (fail)
  clear y0 y1 y2 y3 y4 y5
  refine hm.out.mono ?_
  rintro e w5 ⟨rfl, bel5⟩
  have s5 := bel5.size
  have B5 := Lib.hid (B4.out.trans (bel5.mono B4.out.size))
  have O15 := Lib.hid (own_below O14.out bel5 (Nat.le_refl _))
  have O25 := Lib.hid (own_below O24.out bel5 (Nat.le_refl _))
  have Q15 := Lib.hid ((bel5.block w1.heap.size (by omega)).trans Q14.out)
  have Q25 := Lib.hid ((bel5.block w2.heap.size (by omega)).trans Q24.out)
  clear bel5 hm Q14 Q24 O14 O24 B4
  go_wp2_with (fail)
  refine (HF.out w5 B5.out).mono ?_
  rintro e w6 ⟨A3, c3, rfl, o6, bel6⟩
  have s6 := bel6.size
  have bx6 := box_any w6 (.cells #[Value.int .i64 r, Value.int .i64 a, Value.int .i64 b, Value.int .i64 i, Value.int .i64 j, Value.slice A3 f.length c3] 30)
  have q6 : (w6.alloc (.cells #[Value.int .i64 r, Value.int .i64 a, Value.int .i64 b, Value.int .i64 i, Value.int .i64 j, Value.slice A3 f.length c3] 30)).heap[w6.heap.size]? = some (.cells #[Value.int .i64 r, Value.int .i64 a, Value.int .i64 b, Value.int .i64 i, Value.int .i64 j, Value.slice A3 f.length c3] 30 (0, 0)) := heap_alloc_new _ _
  have t6 : (w6.alloc (.cells #[Value.int .i64 r, Value.int .i64 a, Value.int .i64 b, Value.int .i64 i, Value.int .i64 j, Value.slice A3 f.length c3] 30)).heap.size = w6.heap.size + 1 := by simp
  obtain ⟨v6, hv6⟩ : ∃ v6, v6 = w6.alloc (.cells #[Value.int .i64 r, Value.int .i64 a, Value.int .i64 b, Value.int .i64 i, Value.int .i64 j, Value.slice A3 f.length c3] 30) := ⟨_, rfl⟩
  have O6 := Lib.hid (own_below o6 bx6 (Nat.le_refl _))
  have bb := bel6.trans (bx6.mono bel6.size)
  have O16 := Lib.hid (own_below O15.out bb (Nat.le_refl _))
  have O26 := Lib.hid (own_below O25.out bb (Nat.le_refl _))
  have q16 := (bb.block w1.heap.size (by omega)).trans Q15.out
  have q26 := (bb.block w2.heap.size (by omega)).trans Q25.out
  have x0 := cell_of_row _ _ 0 _ _ (0, 0) q16; have x1 := cell_of_row _ _ 1 _ _ (0, 0) q16; have x2 := cell_of_row _ _ 2 _ _ (0, 0) q16; have x3 := cell_of_row _ _ 3 _ _ (0, 0) q16; have x4 := cell_of_row _ _ 4 _ _ (0, 0) q16; have x5 := cell_of_row _ _ 5 _ _ (0, 0) q16
  have y0 := cell_of_row _ _ 0 _ _ (0, 0) q6; have y1 := cell_of_row _ _ 1 _ _ (0, 0) q6; have y2 := cell_of_row _ _ 2 _ _ (0, 0) q6; have y3 := cell_of_row _ _ 3 _ _ (0, 0) q6; have y4 := cell_of_row _ _ 4 _ _ (0, 0) q6; have y5 := cell_of_row _ _ 5 _ _ (0, 0) q6
  rw [← hv6] at bx6 q16 q26 t6 O6 O16 O26 bb
  have B6 := Lib.hid (B5.out.trans (bb.mono B5.out.size))
  have Q26 := Lib.hid q26
  clear bel6 bx6 bb o6 q6 q16 q26 Q15 Q25 O15 O25 B5
  go_wp2_with (fail)
  rw [← hv6]
  clear hv6 x0 x1 x2 x3 x4 x5 y0 y1 y2 y3 y4 y5
  refine (eqStep_any r a b i j A3 A1 f.length c3 c1 f v6 (RdI.of_own O6.out) (RdI.of_own O16.out) hl').mono ?_
  rintro e w7 ⟨rfl, bel7⟩
  have s7 := bel7.size
  have B7 := Lib.hid (B6.out.trans (bel7.mono B6.out.size))
  have O27 := Lib.hid (own_below O26.out bel7 (Nat.le_refl _))
  have q27 := (bel7.block w2.heap.size (by omega)).trans Q26.out
  have y0 := cell_of_row _ _ 0 _ _ (0, 0) q27; have y1 := cell_of_row _ _ 1 _ _ (0, 0) q27; have y2 := cell_of_row _ _ 2 _ _ (0, 0) q27; have y3 := cell_of_row _ _ 3 _ _ (0, 0) q27; have y4 := cell_of_row _ _ 4 _ _ (0, 0) q27; have y5 := cell_of_row _ _ 5 _ _ (0, 0) q27
  have hm := Lib.hid (heldStep_any r a b i j A2 f.length c2 1 w7 (RdI.of_own O27.out) hl' (by omega) (by omega))
  clear bel7 q27 O26 O16 O6 B6
  go_wp2_with (fail)
  clear y0 y1 y2 y3 y4 y5
  refine hm.out.mono ?_
  rintro e w8 ⟨rfl, bel8⟩
  have B8 := Lib.hid (B7.out.trans (bel8.mono B7.out.size))
  clear bel8 hm
  go_wp2
  go_ret
  exact ⟨rfl, B8.out⟩

theorem walk (s : ByteArray) (w : World) (_hs : s.size ≤ maxLen) (ht : Arit w) (hu : Dual w) (hw : Words w) (he : Errs w) :
    Calls Tryz.prog 7 #[.string s] w fun e w' => e = .returned (.bool true) ∧ Below w.heap.size w w' := by
  by_cases hn : s.size ≤ 1048576
  · exact walk_mid s w hn ht hu hw he
  · exact walk_big s w hn

set_option maxRecDepth 100000 in
/-- What the walk gives, for all arguments and every world that holds the tables. -/
theorem contract (H : Type) (enc : TypeId × Value → H) (W : World) (base : Nat) (args : Array Value) (ds gs : List (DataW H)) (before : List MemPlace)
    (hval : ∀ (j : Nat) t v, Tryz.f7.params[j]? = some t → args[j]? = some v → Value.okWide Tryz.prog W .any base t v)
    (hW : DataW.Whole enc Tryz.prog Tryz.f7.params.toList Rows.fnExactReadStepSpec.vars false W args.toList ds gs before) (hL : laidMetH Tryz.prog Rows.fnExactReadStepRow.laid W) (hS : W.ShapedOpen Tryz.prog) :
    Calls Tryz.prog 7 args W fun e W' => ∃ v, e = .returned v ∧ Rows.fnExactReadStepSpec.post enc Tryz.prog Tryz.f7 false true false false W args v W' := by
  have hW' := hW
  obtain ⟨p, q, hA0, hV, rfl, hfz, hnd⟩ := hW
  have hA : DataW.TrodAll enc Tryz.prog W 0 (fun _ => true) true Tryz.f7.params.toList args.toList ds p := hA0
  rw [Tryz.params7] at hA hval
  obtain ⟨v0, vs0, d0, ds0, p0, q0, hargs, rfl, rfl, h0, r0⟩ := trodAll_cons hA
  obtain ⟨rfl, rfl, rfl⟩ := trodAll_nil r0
  obtain rfl : args = #[v0] := by cases args; simp_all
  obtain ⟨z0, rfl, rfl, rfl, b0⟩ := Go.ChangeMaps.open_string Tryz.underlying9 (hval 0 9 v0 rfl rfl) h0
  replace hL : laidMet Tryz.prog Rows.fnExactReadStepRow.laid W := by rw [MakeChecks.laidMetH_plain _ _ _ (by kernel_rfl)] at hL; exact hL
  have ht : Arit W := arit_of (laidMet.tail (laidMet.tail (laidMet.tail (laidMet.tail (laidMet.tail hL)))))
  have hu : Dual W := dual_of (laidMet.tail (laidMet.tail (laidMet.tail (laidMet.tail (laidMet.tail hL)))))
  have hww : Words W := words_of (laidMet.tail (laidMet.tail (laidMet.tail (laidMet.tail (laidMet.tail (laidMet.tail (laidMet.tail hL)))))))
  have hee : Errs W := errs_of (laidMet.tail (laidMet.tail (laidMet.tail hL)))
  have hv1 := hV
  obtain ⟨g0, g1, g2, rfl⟩ := trodVars_three hV
  clear hA0
  refine (walk z0 W b0 ht hu hww hee).mono fun e W' ⟨he, bel⟩ => ?_
  subst he
  exact ⟨_, rfl, _, _, _, [], _, _, hW', trodAll_mk1 (shut_bool Tryz.underlying4 _),
    (trodAll_cons_mk (Go.ChangeMaps.shut_string Tryz.underlying9 b0) trodAll_mk0),
    vars_below bel (readable_all _ (by kernel_rfl)) hv1, bel.frame _, fun h => by cases h⟩

theorem laid_met (os : Os) : laidMet Tryz.prog Rows.fnExactReadStepRow.laid ((World.laidAll Tryz.prog os Rows.fnExactReadStepRow.laid).forCall (fun _ _ => 0) ⟨#[], #[.string ⟨#[]⟩], []⟩).memory :=
  laidMet_laidAll _ (by kernel_rfl) (by kernel_rfl)
theorem reads (os : Os) {H : Type} (enc : TypeId × Value → H) : ∃ x, DataW.whole enc Tryz.prog ((World.laidAll Tryz.prog os Rows.fnExactReadStepRow.laid).forCall (fun _ _ => 0) ⟨#[], #[.string ⟨#[]⟩], []⟩).memory Tryz.f7.params.toList Rows.fnExactReadStepSpec.vars false (#[.string ⟨#[]⟩] : Array Value).toList 8 = some x :=
  Option.isSome_iff_exists.1 (by kernel_rfl)

set_option maxRecDepth 100000 in
theorem lifted (os : Os) (started : os.Started) (H : Type) (enc : TypeId × Value → H) (F : Stop.Interp) :
    ReturnsInHanded {} Tryz.checked os 7 .any ((OpenSpec.ofChange Rows.fnExactReadStepSpec).preRow enc Tryz.prog Tryz.f7 Rows.fnExactReadStepRow.domain false Rows.fnExactReadStepRow.laid) (((OpenSpec.ofChange Rows.fnExactReadStepSpec).at F).post enc Tryz.prog Tryz.f7 false true false false) := by
  obtain ⟨places, hx⟩ := reads os enc
  refine returnsInHanded_of_row (C := Tryz.checked) (s := OpenSpec.ofChange Rows.fnExactReadStepSpec) own started (by kernel_rfl) Tryz.func7
    (witness_row_sh (enc := enc) (C := Tryz.checked) false (World.laidAll Tryz.prog os Rows.fnExactReadStepRow.laid) #[.string ⟨#[]⟩] (World.laidAll_os _ _ _) (World.shaped_of_ZipB (by kernel_rfl) (by kernel_rfl)) (by kernel_rfl)
      (OpenSpec.preRow_of_cond 8 hx rfl (fun k hk => by cases hk) (by kernel_rfl) (laid_met os))) ?_
  intro W base args ds gs before hval hW _ _ _ hL hS _
  exact contract H enc W base args ds gs before hval hW hL hS

theorem j1 : (Rows.fnExactReadStepRow.inPlace == Tryz.pinned.checked.prog.inPlace 7) = true := by kernel_rfl
theorem j2 : (Rows.fnExactReadStepRow.unfollowed == Tryz.pinned.checked.prog.unfollowed 7) = true := by kernel_rfl
theorem j3 : (Rows.fnExactReadStepRow.recurses == Tryz.pinned.checked.prog.recurses 7) = true := by kernel_rfl
theorem j4 : (Rows.fnExactReadStepRow.named == Tryz.pinned.checked.prog.varsNamed 7) = true := by kernel_rfl
theorem j5 : Rows.fnExactReadStepRow.wf (OpenSpec.ofChange Rows.fnExactReadStepSpec) = true := by kernel_rfl
theorem j6 : laidOutB Tryz.pinned.checked.prog = true := by kernel_rfl
theorem j7 : mapsRowed Tryz.pinned.checked.prog = true := by kernel_rfl
theorem j8 : (Rows.fnExactReadStepRow.plainKeys == Tryz.pinned.checked.prog.plainKeys) = true := by kernel_rfl
theorem j9 : Tryz.pinned.checked.prog.stopsHeard = true := by kernel_rfl
theorem j10 : Tryz.pinned.checked.prog.mayEnter = true := by kernel_rfl
theorem closed : joinedFacts Tryz.pinned.checked.prog 7 Tryz.f7 Rows.fnExactReadStepSpec Rows.fnExactReadStepRow = true := by
  unfold joinedFacts
  rw [j1, j2, j3, j4, j5, j6, j7, j8, j9, j10]
  kernel_rfl
theorem said : Rows.FnExactReadStepSaid :=
  OpenClaim.holds_of_cond 7 Tryz.f7 rfl rfl rfl rfl rfl rfl rfl ⟨rfl, rfl, rfl, rfl, rfl⟩ rfl rfl rfl rfl rfl (by kernel_rfl) Tryz.func7 closed
    (of_decide_eq_true (by kernel_rfl)) (by unfold Func.isWrapper; first | (rw [if_pos (by decide +kernel)]; kernel_rfl) | (rw [if_neg (by decide +kernel)]; exact ⟨rfl, rfl⟩))
    (fun os started H enc _ F => by rw [OpenClaim.pre_eq_preRow]; exact lifted os started H enc F)

theorem plain (f : FuncId) (fn : Func) (hf : Tryz.pinned.checked.prog.funcNamed "loop.example/g00872/laws.FnExactReadStep" = some f) (hfn : Tryz.pinned.checked.prog.funcs[f]? = some fn) :
    Rows.fnExactReadStepCard.stood.looks = Tryz.pinned.checked.prog.looks [] ∧ ∀ (j : Nat) t, fn.params[j]? = some t → Tryz.pinned.checked.prog.wantsStandIn t = false := by
  obtain rfl : f = 7 := Option.some.inj ((show Tryz.prog.funcNamed "loop.example/g00872/laws.FnExactReadStep" = some 7 by kernel_rfl).symm.trans hf) |>.symm
  obtain rfl : fn = Tryz.f7 := (Option.some.inj (Tryz.func7.symm.trans hfn)).symm
  refine ⟨by kernel_rfl, fun j t ht => ?_⟩
  rw [Tryz.params7] at ht
  have hm : t ∈ [9] := by simpa using Array.mem_of_getElem? ht
  have hall : ([9].all fun u => !Tryz.prog.wantsStandIn u) = true := by kernel_rfl
  exact (show Tryz.prog.wantsStandIn t = false by simpa using List.all_eq_true.1 hall t hm)

/-- The statement. -/
theorem card : Rows.FnExactReadStepCardSaid :=
  Claim7.holds_tied_plain_at .later [] _ _ _ _ said (fun _ h => by cases h) (by kernel_rfl) (fun _ h => by cases h) fnExactReadStep_row_tie rfl ⟨rfl, rfl⟩ (by kernel_rfl) rfl plain (by kernel_rfl)
end Go.Proofs.YtjgmgaccmcepdaaGreatDoor.fnExactReadStep
