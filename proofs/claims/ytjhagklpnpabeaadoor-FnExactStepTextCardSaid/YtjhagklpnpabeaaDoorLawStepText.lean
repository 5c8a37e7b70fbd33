/- Proved: for all arguments the law that StepText answers as its model and leaves its argument answers true and leaves its argument as it was (FnExactStepText). Conditions: the row's own: the listed tables read as the program's text lays them, which the card ties to that text. -/
import Derived.Test.YtjhagklpnpabeaaDoorFrame
import Derived.Test.YtjhagklpnpabeaaDoorStepS
import Derived.Test.YtjhagklpnpabeaaDoorStepT
import Derived.Test.YtjhagklpnpabeaaDoorFrameS
namespace Go.Proofs.YtjhagklpnpabeaaDoor.fnExactStepText
open Go.ChangeShapes Go.WideShapes Go.ChangeAt Go.RowKit

theorem walk_big (r a b i j : Int) (A0 : Option Addr) (n0 c0 : Nat) (w : World) (hm : n0 ≤ maxLen) (hn : ¬ n0 ≤ 1048576) :
    Calls Tryd.prog 4 #[Value.agg #[Value.int .i64 r, Value.int .i64 a, Value.int .i64 b, Value.int .i64 i, Value.int .i64 j, Value.slice A0 n0 c0]] w fun e w' => e = .returned (.bool true) ∧ Below w.heap.size w w' := by
  obtain ⟨w0, hw0⟩ : ∃ w0, w0 = w.alloc (.cells #[Value.int .i64 r, Value.int .i64 a, Value.int .i64 b, Value.int .i64 i, Value.int .i64 j, Value.slice A0 n0 c0] 32) := ⟨_, rfl⟩
  have B0 := box_any w (.cells #[Value.int .i64 r, Value.int .i64 a, Value.int .i64 b, Value.int .i64 i, Value.int .i64 j, Value.slice A0 n0 c0] 32)
  have p0 : (w.alloc (.cells #[Value.int .i64 r, Value.int .i64 a, Value.int .i64 b, Value.int .i64 i, Value.int .i64 j, Value.slice A0 n0 c0] 32)).heap[w.heap.size]? = some (.cells #[Value.int .i64 r, Value.int .i64 a, Value.int .i64 b, Value.int .i64 i, Value.int .i64 j, Value.slice A0 n0 c0] 32 (0, 0)) := heap_alloc_new _ _
  have hz0 : w.heap.size < (w.alloc (.cells #[Value.int .i64 r, Value.int .i64 a, Value.int .i64 b, Value.int .i64 i, Value.int .i64 j, Value.slice A0 n0 c0] 32)).heap.size := by simp
  rw [← hw0] at B0 p0 hz0
  have x0 : w0.cell? ⟨w.heap.size, 0, none⟩ = some (.int .i64 r) := cell_of_row _ _ 0 _ _ (0, 0) p0
  have x1 : w0.cell? ⟨w.heap.size, 1, none⟩ = some (.int .i64 a) := cell_of_row _ _ 1 _ _ (0, 0) p0
  have x2 : w0.cell? ⟨w.heap.size, 2, none⟩ = some (.int .i64 b) := cell_of_row _ _ 2 _ _ (0, 0) p0
  have x3 : w0.cell? ⟨w.heap.size, 3, none⟩ = some (.int .i64 i) := cell_of_row _ _ 3 _ _ (0, 0) p0
  have x4 : w0.cell? ⟨w.heap.size, 4, none⟩ = some (.int .i64 j) := cell_of_row _ _ 4 _ _ (0, 0) p0
  have x5 : w0.cell? ⟨w.heap.size, 5, none⟩ = some (.slice A0 n0 c0) := cell_of_row _ _ 5 _ _ (0, 0) p0
  have HSZ := Lib.hid (szStep_any r a b i j A0 n0 c0 1048576 w0 hm (by decide) (by decide))
  rw [szR_neg (show (1048576 : Int) - n0 < 0 by omega)] at HSZ
  clear p0
  go_enter Tryd.func4, Tryd.ntmps4
  go_wp2_with (fail)
  rw [← hw0]
  clear hw0
  refine HSZ.out.mono ?_
  rintro e w1 ⟨rfl, bel⟩
  have HB := Lib.hid (B0.trans (bel.mono B0.size))
  clear bel B0
  go_wp2
  go_ret
  exact ⟨rfl, HB.out⟩

set_option maxRecDepth 100000 in
set_option maxHeartbeats 8000000 in
theorem walk_mid (r a b i j : Int) (A0 : Option Addr) (n0 c0 : Nat) (f0 : List Int) (w : World) (h0 : RdI w w.heap.size A0 n0 f0) (hn : n0 ≤ 1048576) (ht : Arit w) (hw : Words w) :
    Calls Tryd.prog 4 #[Value.agg #[Value.int .i64 r, Value.int .i64 a, Value.int .i64 b, Value.int .i64 i, Value.int .i64 j, Value.slice A0 n0 c0]] w fun e w' => e = .returned (.bool true) ∧ Below w.heap.size w w' := by
  have hm : n0 ≤ maxLen := Nat.le_trans hn (by decide)
  generalize hS : stT r a b i j f0 = S
  have HS := Lib.hid hS; clear hS
  have hvv : (S.toList == S.toList) = true := by simp
  obtain ⟨w0, hw0⟩ : ∃ w0, w0 = w.alloc (.cells #[Value.int .i64 r, Value.int .i64 a, Value.int .i64 b, Value.int .i64 i, Value.int .i64 j, Value.slice A0 n0 c0] 32) := ⟨_, rfl⟩
  have B0 := box_any w (.cells #[Value.int .i64 r, Value.int .i64 a, Value.int .i64 b, Value.int .i64 i, Value.int .i64 j, Value.slice A0 n0 c0] 32)
  have p0 : (w.alloc (.cells #[Value.int .i64 r, Value.int .i64 a, Value.int .i64 b, Value.int .i64 i, Value.int .i64 j, Value.slice A0 n0 c0] 32)).heap[w.heap.size]? = some (.cells #[Value.int .i64 r, Value.int .i64 a, Value.int .i64 b, Value.int .i64 i, Value.int .i64 j, Value.slice A0 n0 c0] 32 (0, 0)) := heap_alloc_new _ _
  have hz0 : w.heap.size < (w.alloc (.cells #[Value.int .i64 r, Value.int .i64 a, Value.int .i64 b, Value.int .i64 i, Value.int .i64 j, Value.slice A0 n0 c0] 32)).heap.size := by simp
  rw [← hw0] at B0 p0 hz0
  have x0 : w0.cell? ⟨w.heap.size, 0, none⟩ = some (.int .i64 r) := cell_of_row _ _ 0 _ _ (0, 0) p0
  have x1 : w0.cell? ⟨w.heap.size, 1, none⟩ = some (.int .i64 a) := cell_of_row _ _ 1 _ _ (0, 0) p0
  have x2 : w0.cell? ⟨w.heap.size, 2, none⟩ = some (.int .i64 b) := cell_of_row _ _ 2 _ _ (0, 0) p0
  have x3 : w0.cell? ⟨w.heap.size, 3, none⟩ = some (.int .i64 i) := cell_of_row _ _ 3 _ _ (0, 0) p0
  have x4 : w0.cell? ⟨w.heap.size, 4, none⟩ = some (.int .i64 j) := cell_of_row _ _ 4 _ _ (0, 0) p0
  have x5 : w0.cell? ⟨w.heap.size, 5, none⟩ = some (.slice A0 n0 c0) := cell_of_row _ _ 5 _ _ (0, 0) p0
  have HSZ := Lib.hid (szStep_any r a b i j A0 n0 c0 1048576 w0 hm (by decide) (by decide))
  rw [szR_pos (show ¬ (1048576 : Int) - n0 < 0 by omega)] at HSZ
  have hd : decide ((1048576 : Int) - n0 < 0) = false := decide_eq_false (by omega)
  generalize (1048576 : Int) - n0 = L at *
  have H0 := Lib.hid h0; have HT := Lib.hid ht; have HW := Lib.hid hw
  replace B0 := Lib.hid B0
  clear p0 h0 ht hw
  go_enter Tryd.func4, Tryd.ntmps4
  go_wp2_with (fail)
  rw [← hw0]
  clear hw0
  refine HSZ.out.mono ?_
  rintro e w1 ⟨rfl, bel⟩
  replace x0 := (bel.cell (p := ⟨w.heap.size, 0, none⟩) hz0).trans x0
  replace x1 := (bel.cell (p := ⟨w.heap.size, 1, none⟩) hz0).trans x1
  replace x2 := (bel.cell (p := ⟨w.heap.size, 2, none⟩) hz0).trans x2
  replace x3 := (bel.cell (p := ⟨w.heap.size, 3, none⟩) hz0).trans x3
  replace x4 := (bel.cell (p := ⟨w.heap.size, 4, none⟩) hz0).trans x4
  replace x5 := (bel.cell (p := ⟨w.heap.size, 5, none⟩) hz0).trans x5
  replace hz0 : w.heap.size < w1.heap.size := by have := bel.size; omega
  have B1 := Lib.hid (B0.out.trans (bel.mono B0.out.size))
  clear bel B0
  go_wp2_with (fail)
  refine (toStep_any r a b i j A0 n0 c0 f0 w1 ((H0.out.below B1.out).more B1.out.size) hn).mono ?_
  rintro e w2 ⟨g2, rfl, own, bel⟩
  have O2 := Lib.hid own
  clear own
  replace x0 := (bel.cell (p := ⟨w.heap.size, 0, none⟩) hz0).trans x0
  replace x1 := (bel.cell (p := ⟨w.heap.size, 1, none⟩) hz0).trans x1
  replace x2 := (bel.cell (p := ⟨w.heap.size, 2, none⟩) hz0).trans x2
  replace x3 := (bel.cell (p := ⟨w.heap.size, 3, none⟩) hz0).trans x3
  replace x4 := (bel.cell (p := ⟨w.heap.size, 4, none⟩) hz0).trans x4
  replace x5 := (bel.cell (p := ⟨w.heap.size, 5, none⟩) hz0).trans x5
  replace hz0 : w.heap.size < w2.heap.size := by have := bel.size; omega
  have B2 := Lib.hid (B1.out.trans (bel.mono B1.out.size))
  clear bel B1
  go_wp2_with (fail)
  refine (sStepText_any r a b i j (some ⟨g2, 0, none⟩) n0 n0 f0 w2 (RdI.of_own O2.out)).mono ?_
  rw [HS.out]
  rintro e w3 ⟨rfl, bel⟩
  clear O2
  replace x0 := (bel.cell (p := ⟨w.heap.size, 0, none⟩) hz0).trans x0
  replace x1 := (bel.cell (p := ⟨w.heap.size, 1, none⟩) hz0).trans x1
  replace x2 := (bel.cell (p := ⟨w.heap.size, 2, none⟩) hz0).trans x2
  replace x3 := (bel.cell (p := ⟨w.heap.size, 3, none⟩) hz0).trans x3
  replace x4 := (bel.cell (p := ⟨w.heap.size, 4, none⟩) hz0).trans x4
  replace x5 := (bel.cell (p := ⟨w.heap.size, 5, none⟩) hz0).trans x5
  replace hz0 : w.heap.size < w3.heap.size := by have := bel.size; omega
  have B3 := Lib.hid (B2.out.trans (bel.mono B2.out.size))
  clear bel B2
  go_wp2_with (fail)
  refine (toStep_any r a b i j A0 n0 c0 f0 w3 ((H0.out.below B3.out).more B3.out.size) hn).mono ?_
  rintro e w4 ⟨g4, rfl, own, bel⟩
  have O4 := Lib.hid own
  clear own
  replace x0 := (bel.cell (p := ⟨w.heap.size, 0, none⟩) hz0).trans x0
  replace x1 := (bel.cell (p := ⟨w.heap.size, 1, none⟩) hz0).trans x1
  replace x2 := (bel.cell (p := ⟨w.heap.size, 2, none⟩) hz0).trans x2
  replace x3 := (bel.cell (p := ⟨w.heap.size, 3, none⟩) hz0).trans x3
  replace x4 := (bel.cell (p := ⟨w.heap.size, 4, none⟩) hz0).trans x4
  replace x5 := (bel.cell (p := ⟨w.heap.size, 5, none⟩) hz0).trans x5
  replace hz0 : w.heap.size < w4.heap.size := by have := bel.size; omega
  have B4 := Lib.hid (B3.out.trans (bel.mono B3.out.size))
  clear bel B3
  have bel := box_any w4 (.cells #[Value.int .i64 r, Value.int .i64 a, Value.int .i64 b, Value.int .i64 i, Value.int .i64 j, Value.slice (some ⟨g4, 0, none⟩) n0 n0] 35)
  have q5 : (w4.alloc (.cells #[Value.int .i64 r, Value.int .i64 a, Value.int .i64 b, Value.int .i64 i, Value.int .i64 j, Value.slice (some ⟨g4, 0, none⟩) n0 n0] 35)).heap[w4.heap.size]? = some (.cells #[Value.int .i64 r, Value.int .i64 a, Value.int .i64 b, Value.int .i64 i, Value.int .i64 j, Value.slice (some ⟨g4, 0, none⟩) n0 n0] 35 (0, 0)) := heap_alloc_new _ _
  have hzz : w4.heap.size < (w4.alloc (.cells #[Value.int .i64 r, Value.int .i64 a, Value.int .i64 b, Value.int .i64 i, Value.int .i64 j, Value.slice (some ⟨g4, 0, none⟩) n0 n0] 35)).heap.size := by simp
  go_wp2_with (fail)
  generalize (w4.alloc (.cells #[Value.int .i64 r, Value.int .i64 a, Value.int .i64 b, Value.int .i64 i, Value.int .i64 j, Value.slice (some ⟨g4, 0, none⟩) n0 n0] 35)) = w5 at *
  have z0 : w5.cell? ⟨w4.heap.size, 0, none⟩ = some (.int .i64 r) := cell_of_row _ _ 0 _ _ (0, 0) q5
  have z1 : w5.cell? ⟨w4.heap.size, 1, none⟩ = some (.int .i64 a) := cell_of_row _ _ 1 _ _ (0, 0) q5
  have z2 : w5.cell? ⟨w4.heap.size, 2, none⟩ = some (.int .i64 b) := cell_of_row _ _ 2 _ _ (0, 0) q5
  have z3 : w5.cell? ⟨w4.heap.size, 3, none⟩ = some (.int .i64 i) := cell_of_row _ _ 3 _ _ (0, 0) q5
  have z4 : w5.cell? ⟨w4.heap.size, 4, none⟩ = some (.int .i64 j) := cell_of_row _ _ 4 _ _ (0, 0) q5
  have z5 : w5.cell? ⟨w4.heap.size, 5, none⟩ = some (.slice (some ⟨g4, 0, none⟩) n0 n0) := cell_of_row _ _ 5 _ _ (0, 0) q5
  clear q5
  replace O4 := Lib.hid (own_below O4.out bel (Nat.le_refl _))
  replace x0 := (bel.cell (p := ⟨w.heap.size, 0, none⟩) hz0).trans x0
  replace x1 := (bel.cell (p := ⟨w.heap.size, 1, none⟩) hz0).trans x1
  replace x2 := (bel.cell (p := ⟨w.heap.size, 2, none⟩) hz0).trans x2
  replace x3 := (bel.cell (p := ⟨w.heap.size, 3, none⟩) hz0).trans x3
  replace x4 := (bel.cell (p := ⟨w.heap.size, 4, none⟩) hz0).trans x4
  replace x5 := (bel.cell (p := ⟨w.heap.size, 5, none⟩) hz0).trans x5
  replace hz0 : w.heap.size < w5.heap.size := by have := bel.size; omega
  have B5 := Lib.hid (B4.out.trans (bel.mono B4.out.size))
  clear bel B4
  generalize w4.heap.size = bz at *
  refine (stepText_impl r a b i j (some ⟨g4, 0, none⟩) n0 n0 f0 w5 (RdI.of_own O4.out) (Nat.le_refl _) (HT.out.below B5.out HT.out.lt) (HW.out.below B5.out HW.out.lt)).mono ?_
  rw [HS.out]
  rintro e w6 ⟨rfl, bel⟩
  replace O4 := Lib.hid (own_below O4.out bel (Nat.le_refl _))
  replace x0 := (bel.cell (p := ⟨w.heap.size, 0, none⟩) hz0).trans x0
  replace x1 := (bel.cell (p := ⟨w.heap.size, 1, none⟩) hz0).trans x1
  replace x2 := (bel.cell (p := ⟨w.heap.size, 2, none⟩) hz0).trans x2
  replace x3 := (bel.cell (p := ⟨w.heap.size, 3, none⟩) hz0).trans x3
  replace x4 := (bel.cell (p := ⟨w.heap.size, 4, none⟩) hz0).trans x4
  replace x5 := (bel.cell (p := ⟨w.heap.size, 5, none⟩) hz0).trans x5
  replace z0 := (bel.cell (p := ⟨bz, 0, none⟩) hzz).trans z0
  replace z1 := (bel.cell (p := ⟨bz, 1, none⟩) hzz).trans z1
  replace z2 := (bel.cell (p := ⟨bz, 2, none⟩) hzz).trans z2
  replace z3 := (bel.cell (p := ⟨bz, 3, none⟩) hzz).trans z3
  replace z4 := (bel.cell (p := ⟨bz, 4, none⟩) hzz).trans z4
  replace z5 := (bel.cell (p := ⟨bz, 5, none⟩) hzz).trans z5
  replace hzz : bz < w6.heap.size := by have := bel.size; omega
  replace hz0 : w.heap.size < w6.heap.size := by have := bel.size; omega
  have B6 := Lib.hid (B5.out.trans (bel.mono B5.out.size))
  clear bel B5
  go_wp2_with (fail)
  have HBx := Lib.hid (Below.refl w6.heap.size w6)
  go_region_with (first
    | (go_at_call 13; refine (toStep_any r a b i j A0 n0 c0 f0 w6.drew ((H0.out.below B6.out).more B6.out.size) hn).mono ?_; rintro e wt ⟨gt, rfl, ownt, belt'⟩; have belt := undrew belt'; have y0 := (belt.cell (p := ⟨bz, 0, none⟩) hzz).trans z0; have y1 := (belt.cell (p := ⟨bz, 1, none⟩) hzz).trans z1; have y2 := (belt.cell (p := ⟨bz, 2, none⟩) hzz).trans z2; have y3 := (belt.cell (p := ⟨bz, 3, none⟩) hzz).trans z3; have y4 := (belt.cell (p := ⟨bz, 4, none⟩) hzz).trans z4; have y5 := (belt.cell (p := ⟨bz, 5, none⟩) hzz).trans z5; have S7 := Lib.hid (RdI.of_own ownt); have R7 := Lib.hid (RdI.of_own (own_below O4.out belt (Nat.le_refl _))); have B7 := Lib.hid belt; clear ownt belt belt')
    | (go_at_call 15; refine (eqStep_any r a b i j _ _ n0 n0 n0 f0 wt R7.out S7.out hn).mono ?_; rintro e wu ⟨rfl, belu⟩; have B8 := Lib.hid (B7.out.trans (belu.mono B7.out.size)); clear belu))
  all_goals have HB := Lib.hid (B6.out.trans (B8.out.mono B6.out.size))
  all_goals go_wp2
  all_goals go_ret
  all_goals exact ⟨rfl, HB.out⟩

theorem walk (r a b i j : Int) (A0 : Option Addr) (n0 c0 : Nat) (f0 : List Int) (w : World) (h0 : RdI w w.heap.size A0 n0 f0) (hm : n0 ≤ maxLen) (ht : Arit w) (hw : Words w) :
    Calls Tryd.prog 4 #[Value.agg #[Value.int .i64 r, Value.int .i64 a, Value.int .i64 b, Value.int .i64 i, Value.int .i64 j, Value.slice A0 n0 c0]] w fun e w' => e = .returned (.bool true) ∧ Below w.heap.size w w' := by
  by_cases hn : n0 ≤ 1048576
  · exact walk_mid r a b i j A0 n0 c0 f0 w h0 hn ht hw
  · exact walk_big r a b i j A0 n0 c0 w hm hn

set_option maxRecDepth 100000 in
/-- What the walk gives, for all arguments and every world that holds the tables. -/
theorem contract (H : Type) (enc : TypeId × Value → H) (W : World) (base : Nat) (args : Array Value) (ds gs : List (DataW H)) (before : List MemPlace)
    (hval : ∀ (j : Nat) t v, Tryd.f4.params[j]? = some t → args[j]? = some v → Value.okWide Tryd.prog W .any base t v)
    (hW : DataW.Whole enc Tryd.prog Tryd.f4.params.toList Rows.fnExactStepTextSpec.vars false W args.toList ds gs before) (hL : laidMetH Tryd.prog Rows.fnExactStepTextRow.laid W) (hS : W.ShapedOpen Tryd.prog) :
    Calls Tryd.prog 4 args W fun e W' => ∃ v, e = .returned v ∧ Rows.fnExactStepTextSpec.post enc Tryd.prog Tryd.f4 false true false false W args v W' := by
  have hW' := hW
  obtain ⟨p, q, hA0, hV, rfl, hfz, hnd⟩ := hW
  have hA : DataW.TrodAll enc Tryd.prog W 0 (fun _ => true) true Tryd.f4.params.toList args.toList ds p := hA0
  rw [Tryd.params4] at hA hval
  obtain ⟨v0, vs0, d0, ds0, p0, q0, hargs, rfl, rfl, h0, r0⟩ := trodAll_cons hA
  obtain ⟨rfl, rfl, rfl⟩ := trodAll_nil r0
  obtain rfl : args = #[v0] := by cases args; simp_all
  have k0 := h0
  have lt0 : ∀ x ∈ p0, x.block < W.heap.size := by obtain ⟨m, hm⟩ := k0; exact DataW.trod_lt m _ _ _ hm
  obtain ⟨sr0, sa0, sb0, si0, sj0, sA0, sn0, sc0, sf0, rfl, rd0, nc0, m0⟩ := open_step (hval 0 32 v0 rfl rfl) h0
  replace hL : laidMet Tryd.prog Rows.fnExactStepTextRow.laid W := by rw [MakeChecks.laidMetH_plain _ _ _ (by kernel_rfl)] at hL; exact hL
  have ht : Arit W := arit_of (laidMet.tail (laidMet.tail (laidMet.tail hL)))
  have hww : Words W := words_of (laidMet.tail (laidMet.tail (laidMet.tail (laidMet.tail hL))))
  have hv1 := hV
  obtain ⟨g0, t0, cs0, f0, e0, p0', g1, t1, cs1, f1, e1, p1', rfl, _, _, _, _, _, _, _, _, rfl⟩ := trodVars_two hV
  clear hA0
  refine (walk sr0 sa0 sb0 si0 sj0 sA0 sn0 sc0 sf0 W rd0 m0 ht hww).mono fun e W' ⟨he, bel⟩ => ?_
  subst he
  exact ⟨_, rfl, _, _, _, [], _, _, hW', trodAll_mk1 (shut_bool Tryd.underlying4 _),
    (trodAll_cons_mk (Below.trod laidOut (by kernel_rfl) (of_decide_eq_true (by kernel_rfl)) k0 bel lt0) trodAll_mk0),
    vars_below bel (readable_all _ (by kernel_rfl)) hv1, bel.frame _, fun h => by cases h⟩

theorem laid_met (os : Os) : laidMet Tryd.prog Rows.fnExactStepTextRow.laid ((World.laidAll Tryd.prog os Rows.fnExactStepTextRow.laid).forCall (fun _ _ => 0) ⟨#[], #[.agg #[.int .i64 0, .int .i64 0, .int .i64 0, .int .i64 0, .int .i64 0, .slice none 0 0]], []⟩).memory :=
  laidMet_laidAll _ (by kernel_rfl) (by kernel_rfl)
theorem reads (os : Os) {H : Type} (enc : TypeId × Value → H) : ∃ x, DataW.whole enc Tryd.prog ((World.laidAll Tryd.prog os Rows.fnExactStepTextRow.laid).forCall (fun _ _ => 0) ⟨#[], #[.agg #[.int .i64 0, .int .i64 0, .int .i64 0, .int .i64 0, .int .i64 0, .slice none 0 0]], []⟩).memory Tryd.f4.params.toList Rows.fnExactStepTextSpec.vars false (#[.agg #[.int .i64 0, .int .i64 0, .int .i64 0, .int .i64 0, .int .i64 0, .slice none 0 0]] : Array Value).toList 8 = some x :=
  Option.isSome_iff_exists.1 (by kernel_rfl)

set_option maxRecDepth 100000 in
theorem lifted (os : Os) (started : os.Started) (H : Type) (enc : TypeId × Value → H) (F : Stop.Interp) :
    ReturnsInHanded {} Tryd.checked os 4 .any ((OpenSpec.ofChange Rows.fnExactStepTextSpec).preRow enc Tryd.prog Tryd.f4 Rows.fnExactStepTextRow.domain false Rows.fnExactStepTextRow.laid) (((OpenSpec.ofChange Rows.fnExactStepTextSpec).at F).post enc Tryd.prog Tryd.f4 false true false false) := by
  obtain ⟨places, hx⟩ := reads os enc
  refine returnsInHanded_of_row (C := Tryd.checked) (s := OpenSpec.ofChange Rows.fnExactStepTextSpec) own started (by kernel_rfl) Tryd.func4
    (witness_row_sh (enc := enc) (C := Tryd.checked) false (World.laidAll Tryd.prog os Rows.fnExactStepTextRow.laid) #[.agg #[.int .i64 0, .int .i64 0, .int .i64 0, .int .i64 0, .int .i64 0, .slice none 0 0]] (World.laidAll_os _ _ _) (World.shaped_of_ZipB (by kernel_rfl) (by kernel_rfl)) (by kernel_rfl)
      (OpenSpec.preRow_of_cond 8 hx rfl (fun k hk => by cases hk) (by kernel_rfl) (laid_met os))) ?_
  intro W base args ds gs before hval hW _ _ _ hL hS _
  exact contract H enc W base args ds gs before hval hW hL hS

theorem said : Rows.FnExactStepTextSaid :=
  OpenClaim.holds_of_cond 4 Tryd.f4 rfl rfl rfl rfl rfl rfl rfl ⟨rfl, rfl, rfl, rfl, rfl⟩ rfl rfl rfl rfl rfl (by kernel_rfl) Tryd.func4 (by kernel_rfl)
    (of_decide_eq_true (by kernel_rfl)) (by unfold Func.isWrapper; first | (rw [if_pos (by decide +kernel)]; kernel_rfl) | (rw [if_neg (by decide +kernel)]; exact ⟨rfl, rfl⟩))
    (fun os started H enc _ F => by rw [OpenClaim.pre_eq_preRow]; exact lifted os started H enc F)

theorem plain (f : FuncId) (fn : Func) (hf : Tryd.pinned.checked.prog.funcNamed "loop.example/g00872/laws.FnExactStepText" = some f) (hfn : Tryd.pinned.checked.prog.funcs[f]? = some fn) :
    Rows.fnExactStepTextCard.stood.looks = Tryd.pinned.checked.prog.looks [] ∧ ∀ (j : Nat) t, fn.params[j]? = some t → Tryd.pinned.checked.prog.wantsStandIn t = false := by
  obtain rfl : f = 4 := Option.some.inj ((show Tryd.prog.funcNamed "loop.example/g00872/laws.FnExactStepText" = some 4 by kernel_rfl).symm.trans hf) |>.symm
  obtain rfl : fn = Tryd.f4 := (Option.some.inj (Tryd.func4.symm.trans hfn)).symm
  refine ⟨by kernel_rfl, fun j t ht => ?_⟩
  rw [Tryd.params4] at ht
  have hm : t ∈ [32] := by simpa using Array.mem_of_getElem? ht
  have hall : ([32].all fun u => !Tryd.prog.wantsStandIn u) = true := by kernel_rfl
  exact (show Tryd.prog.wantsStandIn t = false by simpa using List.all_eq_true.1 hall t hm)

/-- The statement. -/
theorem card : Rows.FnExactStepTextCardSaid :=
  Claim7.holds_tied_plain_at .later [] _ _ _ _ said (fun _ h => by cases h) (by kernel_rfl) (fun _ h => by cases h) fnExactStepText_row_tie rfl ⟨rfl, rfl⟩ (by kernel_rfl) rfl plain (by kernel_rfl)
end Go.Proofs.YtjhagklpnpabeaaDoor.fnExactStepText
