/- ReadStep of the program. -/
import Derived.Test.YtjgmgaccmcepdaaGreatDoorReadI
import Derived.Test.YtjgmgaccmcepdaaGreatDoorReadQ
namespace Go.Proofs.YtjgmgaccmcepdaaGreatDoor
open Go.ChangeAt Go.ChangeShapes Go.RowKit Go.WideShapes

/-- The step that is read, or the zero step. -/
noncomputable def rsS (t : ByteArray) : Stp := if rsB t then lkS t else Stp.nil
theorem rsS_no {t : ByteArray} (h : rsB t = false) : rsS t = Stp.nil := by unfold rsS; rw [h]; rfl
theorem rsS_yes {t : ByteArray} (h : rsB t = true) : rsS t = lkS t := by unfold rsS; rw [h]; rfl
theorem rsB_zero {t : ByteArray} (h : rnm (cwA t) = 0) : rsB t = false := by unfold rsB; rw [h]; rfl
theorem rsB_text {t : ByteArray} (h : rnm (cwA t) ≠ 0) : rsB t = ((stT (lkS t).r (lkS t).a (lkS t).b (lkS t).i (lkS t).j (lkS t).f).toList == t.toList) := by unfold rsB; rw [decide_eq_true h]; rfl

set_option maxRecDepth 100000 in
set_option maxHeartbeats 8000000 in
theorem readStep_impl (t : ByteArray) (w : World) (hs : t.size ≤ 1048576) (ht : Arit w) (hu : Dual w) (hw : Words w) (he : Errs w) :
    Calls Tryz.prog 38 #[.string t] w (GivesStep w (rsS t) (rsB t)) := by
  obtain ⟨w1, hw1⟩ : ∃ w1, w1 = w.alloc (.cells #[Value.int .i64 0, Value.int .i64 0, Value.int .i64 0, Value.int .i64 0, Value.int .i64 0, Value.slice none 0 0] 30) := ⟨_, rfl⟩
  have hb1 := box_any w (.cells #[Value.int .i64 0, Value.int .i64 0, Value.int .i64 0, Value.int .i64 0, Value.int .i64 0, Value.slice none 0 0] 30)
  have p1 : (w.alloc (.cells #[Value.int .i64 0, Value.int .i64 0, Value.int .i64 0, Value.int .i64 0, Value.int .i64 0, Value.slice none 0 0] 30)).heap[w.heap.size]? = some (.cells #[Value.int .i64 0, Value.int .i64 0, Value.int .i64 0, Value.int .i64 0, Value.int .i64 0, Value.slice none 0 0] 30 (0, 0)) := heap_alloc_new _ _
  have hs1 : (w.alloc (.cells #[Value.int .i64 0, Value.int .i64 0, Value.int .i64 0, Value.int .i64 0, Value.int .i64 0, Value.slice none 0 0] 30)).heap.size = w.heap.size + 1 := by simp
  rw [← hw1] at hb1 p1 hs1
  have HB1 := Lib.hid hb1; have P1 := Lib.hid p1
  by_cases h0 : rnm (cwA t) = 0
  · have HL := Lib.hid (likelyStep_no t w1 hs (hw.below hb1 hw.lt) h0)
    have hr := rsB_zero h0
    rw [rsS_no hr, hr]
    clear hb1 p1 ht hu hw he h0 hr
    go_enter Tryz.func38, Tryz.ntmps38
    go_wp2_with (fail)
    rw [← hw1]
    clear hw1
    refine HL.out.mono ?_
    rintro e w2 ⟨A, c, rfl, _, bel2⟩
    have hs2 := bel2.size
    have HB2 := Lib.hid (HB1.out.trans (bel2.mono HB1.out.size))
    have p2 := (bel2.block w.heap.size (by omega)).trans P1.out
    have bx := box_any w2 (.cells #[Value.int .i64 0, Value.int .i64 0, Value.int .i64 0, Value.int .i64 0, Value.int .i64 0, Value.slice A 0 c] 30)
    have HB3 := Lib.hid (HB2.out.trans (bx.mono HB2.out.size))
    have p3 := (bx.block w.heap.size (by omega)).trans p2
    obtain ⟨w3, hw3⟩ : ∃ w3, w3 = w2.alloc (.cells #[Value.int .i64 0, Value.int .i64 0, Value.int .i64 0, Value.int .i64 0, Value.int .i64 0, Value.slice A 0 c] 30) := ⟨_, rfl⟩
    have EN : ∀ v : Value, (w2.alloc (.cells #[Value.int .i64 0, Value.int .i64 0, Value.int .i64 0, Value.int .i64 0, Value.int .i64 0, Value.slice A 0 c] 30)) = w3 := fun _ => hw3.symm
    rw [← hw3] at p3 HB3
    clear bel2 bx p2 HL
    have H6 := Lib.hid (set6_at p3 (.int .i64 0) (.int .i64 0) (.int .i64 0) (.int .i64 0) (.int .i64 0) (.slice none 0 0))
    have HB6 := Lib.hid (set6_below HB3.out (Nat.le_refl _) (.int .i64 0) (.int .i64 0) (.int .i64 0) (.int .i64 0) (.int .i64 0) (.slice none 0 0))
    have y0 := cell_of_row _ _ 0 _ _ (0, 0) p3; have y1 := cell_of_row _ _ 1 _ _ (0, 0) p3; have y2 := cell_of_row _ _ 2 _ _ (0, 0) p3; have y3 := cell_of_row _ _ 3 _ _ (0, 0) p3; have y4 := cell_of_row _ _ 4 _ _ (0, 0) p3; have y5 := cell_of_row _ _ 5 _ _ (0, 0) p3
    have u0 := frozen_of_row _ _ 0 _ _ p3; have u1 := frozen_of_row _ _ 1 _ _ p3; have u2 := frozen_of_row _ _ 2 _ _ p3; have u3 := frozen_of_row _ _ 3 _ _ p3; have u4 := frozen_of_row _ _ 4 _ _ p3; have u5 := frozen_of_row _ _ 5 _ _ p3
    clear p3
    have eN : Stp.nil = ⟨0, 0, 0, 0, 0, []⟩ := rfl
    subst hw3
    clear EN
    go_wp2
    (try simp only [Exit.inBlock, Exit.then])
    refine bodyPost_ret (results_cell_tmpR rfl _ _ w.heap.size _ _ (0, 0) _ rfl H6.out Tryz.underlying30 rfl (by kernel_rfl)) rfl ?_
    exact ⟨none, 0, rfl, World.ownsRow_nil _ _ _ _, HB6.out⟩
  · have HL := Lib.hid (likelyStep_yes t w1 hs (ht.below hb1 ht.lt) (hu.below hb1 hu.lt) (hw.below hb1 hw.lt) (he.below hb1 he.lt) h0)
    have hr := rsB_text h0
    have HT := Lib.hid ht; have HW := Lib.hid hw
    have hso := @rsS_no t; have hsy := @rsS_yes t
    obtain ⟨⟨r, a, b, i, j, f⟩, hS⟩ : ∃ s, s = lkS t := ⟨_, rfl⟩
    rw [← hS] at HL hr hsy
    dsimp only at hr
    clear hb1 p1 ht hu hw he h0 hS
    cases heq : ((stT r a b i j f).toList == t.toList) with
    | false =>
      rw [heq] at hr
      rw [hso hr, hr]
      clear hr hso hsy
      go_enter Tryz.func38, Tryz.ntmps38
      go_wp2_with (fail)
      rw [← hw1]
      clear hw1
      refine HL.out.mono ?_
      rintro e w2 ⟨A, c, rfl, own2, bel2⟩
      have hs2 := bel2.size
      have HB2 := Lib.hid (HB1.out.trans (bel2.mono HB1.out.size))
      have p2 := (bel2.block w.heap.size (by omega)).trans P1.out
      have bx := box_any w2 (.cells #[Value.int .i64 r, Value.int .i64 a, Value.int .i64 b, Value.int .i64 i, Value.int .i64 j, Value.slice A f.length c] 30)
      have q3 : (w2.alloc (.cells #[Value.int .i64 r, Value.int .i64 a, Value.int .i64 b, Value.int .i64 i, Value.int .i64 j, Value.slice A f.length c] 30)).heap[w2.heap.size]? = some (.cells #[Value.int .i64 r, Value.int .i64 a, Value.int .i64 b, Value.int .i64 i, Value.int .i64 j, Value.slice A f.length c] 30 (0, 0)) := heap_alloc_new _ _
      have hs3 : (w2.alloc (.cells #[Value.int .i64 r, Value.int .i64 a, Value.int .i64 b, Value.int .i64 i, Value.int .i64 j, Value.slice A f.length c] 30)).heap.size = w2.heap.size + 1 := by simp
      have HB3 := Lib.hid (HB2.out.trans (bx.mono HB2.out.size))
      have P3 := Lib.hid ((bx.block w.heap.size (by omega)).trans p2)
      have HO3 := Lib.hid (own_below own2 bx (Nat.le_refl _))
      obtain ⟨w3, hw3⟩ : ∃ w3, w3 = w2.alloc (.cells #[Value.int .i64 r, Value.int .i64 a, Value.int .i64 b, Value.int .i64 i, Value.int .i64 j, Value.slice A f.length c] 30) := ⟨_, rfl⟩
      have x0 := cell_of_row _ _ 0 _ _ (0, 0) q3; have x1 := cell_of_row _ _ 1 _ _ (0, 0) q3; have x2 := cell_of_row _ _ 2 _ _ (0, 0) q3; have x3 := cell_of_row _ _ 3 _ _ (0, 0) q3; have x4 := cell_of_row _ _ 4 _ _ (0, 0) q3; have x5 := cell_of_row _ _ 5 _ _ (0, 0) q3
      rw [← hw3] at q3 HB3 P3 HO3 hs3
      have HST := Lib.hid (stepText_impl r a b i j A f.length c f w3 ((RdI.of_own HO3.out)) (own_cap HO3.out).1 (HT.out.below HB3.out HT.out.lt) (HW.out.below HB3.out HW.out.lt))
      have Q3 := Lib.hid q3
      clear bel2 bx own2 p2 q3 HL
      go_wp2_with (fail)
      rw [← hw3]
      clear hw3 x0 x1 x2 x3 x4 x5
      refine HST.out.mono ?_
      rintro e w4 ⟨rfl, bel4⟩
      have hs4 := bel4.size
      have p5 := (bel4.block w.heap.size (by omega)).trans P3.out
      have HB5 := Lib.hid (HB3.out.trans (bel4.mono HB3.out.size))
      have H6 := Lib.hid (set6_at p5 (.int .i64 0) (.int .i64 0) (.int .i64 0) (.int .i64 0) (.int .i64 0) (.slice none 0 0))
      have HB6 := Lib.hid (set6_below HB5.out (Nat.le_refl _) (.int .i64 0) (.int .i64 0) (.int .i64 0) (.int .i64 0) (.int .i64 0) (.slice none 0 0))
      have y0 := cell_of_row _ _ 0 _ _ (0, 0) p5; have y1 := cell_of_row _ _ 1 _ _ (0, 0) p5; have y2 := cell_of_row _ _ 2 _ _ (0, 0) p5; have y3 := cell_of_row _ _ 3 _ _ (0, 0) p5; have y4 := cell_of_row _ _ 4 _ _ (0, 0) p5; have y5 := cell_of_row _ _ 5 _ _ (0, 0) p5
      have u0 := frozen_of_row _ _ 0 _ _ p5; have u1 := frozen_of_row _ _ 1 _ _ p5; have u2 := frozen_of_row _ _ 2 _ _ p5; have u3 := frozen_of_row _ _ 3 _ _ p5; have u4 := frozen_of_row _ _ 4 _ _ p5; have u5 := frozen_of_row _ _ 5 _ _ p5
      clear p5 bel4 HST
      generalize stT r a b i j f = R at *
      go_wp2
      (try simp only [Exit.inBlock, Exit.then])
      refine bodyPost_ret (results_cell_tmpR rfl _ _ w.heap.size _ _ (0, 0) _ rfl H6.out Tryz.underlying30 rfl (by kernel_rfl)) rfl ?_
      exact ⟨none, 0, rfl, World.ownsRow_nil _ _ _ _, HB6.out⟩
    | true =>
      rw [heq] at hr
      rw [hsy hr, hr]
      clear hr hso hsy
      go_enter Tryz.func38, Tryz.ntmps38
      go_wp2_with (fail)
      rw [← hw1]
      clear hw1
      refine HL.out.mono ?_
      rintro e w2 ⟨A, c, rfl, own2, bel2⟩
      have hs2 := bel2.size
      have HB2 := Lib.hid (HB1.out.trans (bel2.mono HB1.out.size))
      have p2 := (bel2.block w.heap.size (by omega)).trans P1.out
      have bx := box_any w2 (.cells #[Value.int .i64 r, Value.int .i64 a, Value.int .i64 b, Value.int .i64 i, Value.int .i64 j, Value.slice A f.length c] 30)
      have q3 : (w2.alloc (.cells #[Value.int .i64 r, Value.int .i64 a, Value.int .i64 b, Value.int .i64 i, Value.int .i64 j, Value.slice A f.length c] 30)).heap[w2.heap.size]? = some (.cells #[Value.int .i64 r, Value.int .i64 a, Value.int .i64 b, Value.int .i64 i, Value.int .i64 j, Value.slice A f.length c] 30 (0, 0)) := heap_alloc_new _ _
      have hs3 : (w2.alloc (.cells #[Value.int .i64 r, Value.int .i64 a, Value.int .i64 b, Value.int .i64 i, Value.int .i64 j, Value.slice A f.length c] 30)).heap.size = w2.heap.size + 1 := by simp
      have HB3 := Lib.hid (HB2.out.trans (bx.mono HB2.out.size))
      have P3 := Lib.hid ((bx.block w.heap.size (by omega)).trans p2)
      have HO3 := Lib.hid (own_below own2 bx (Nat.le_refl _))
      obtain ⟨w3, hw3⟩ : ∃ w3, w3 = w2.alloc (.cells #[Value.int .i64 r, Value.int .i64 a, Value.int .i64 b, Value.int .i64 i, Value.int .i64 j, Value.slice A f.length c] 30) := ⟨_, rfl⟩
      have x0 := cell_of_row _ _ 0 _ _ (0, 0) q3; have x1 := cell_of_row _ _ 1 _ _ (0, 0) q3; have x2 := cell_of_row _ _ 2 _ _ (0, 0) q3; have x3 := cell_of_row _ _ 3 _ _ (0, 0) q3; have x4 := cell_of_row _ _ 4 _ _ (0, 0) q3; have x5 := cell_of_row _ _ 5 _ _ (0, 0) q3
      rw [← hw3] at q3 HB3 P3 HO3 hs3
      have HST := Lib.hid (stepText_impl r a b i j A f.length c f w3 ((RdI.of_own HO3.out)) (own_cap HO3.out).1 (HT.out.below HB3.out HT.out.lt) (HW.out.below HB3.out HW.out.lt))
      have Q3 := Lib.hid q3
      clear bel2 bx own2 p2 q3 HL
      go_wp2_with (fail)
      rw [← hw3]
      clear hw3 x0 x1 x2 x3 x4 x5
      refine HST.out.mono ?_
      rintro e w4 ⟨rfl, bel4⟩
      have hs4 := bel4.size
      have p5 := (bel4.block w.heap.size (by omega)).trans P3.out
      have q5 := (bel4.block w2.heap.size (by omega)).trans Q3.out
      have HB5 := Lib.hid (HB3.out.trans (bel4.mono HB3.out.size))
      have HO5 := Lib.hid (own_below HO3.out bel4 (Nat.le_refl _))
      have H6 := Lib.hid (set6_at p5 (.int .i64 r) (.int .i64 a) (.int .i64 b) (.int .i64 i) (.int .i64 j) (.slice A f.length c))
      have HB6 := Lib.hid (set6_below HB5.out (Nat.le_refl _) (.int .i64 r) (.int .i64 a) (.int .i64 b) (.int .i64 i) (.int .i64 j) (.slice A f.length c))
      have HO6 := Lib.hid (set6_own HO5.out (show w.heap.size < w1.heap.size by omega) (.int .i64 r) (.int .i64 a) (.int .i64 b) (.int .i64 i) (.int .i64 j) (.slice A f.length c))
      have y0 := cell_of_row _ _ 0 _ _ (0, 0) p5; have y1 := cell_of_row _ _ 1 _ _ (0, 0) p5; have y2 := cell_of_row _ _ 2 _ _ (0, 0) p5; have y3 := cell_of_row _ _ 3 _ _ (0, 0) p5; have y4 := cell_of_row _ _ 4 _ _ (0, 0) p5; have y5 := cell_of_row _ _ 5 _ _ (0, 0) p5
      have u0 := frozen_of_row _ _ 0 _ _ p5; have u1 := frozen_of_row _ _ 1 _ _ p5; have u2 := frozen_of_row _ _ 2 _ _ p5; have u3 := frozen_of_row _ _ 3 _ _ p5; have u4 := frozen_of_row _ _ 4 _ _ p5; have u5 := frozen_of_row _ _ 5 _ _ p5
      have x0 := cell_of_row _ _ 0 _ _ (0, 0) q5; have x1 := cell_of_row _ _ 1 _ _ (0, 0) q5; have x2 := cell_of_row _ _ 2 _ _ (0, 0) q5; have x3 := cell_of_row _ _ 3 _ _ (0, 0) q5; have x4 := cell_of_row _ _ 4 _ _ (0, 0) q5; have x5 := cell_of_row _ _ 5 _ _ (0, 0) q5
      clear p5 q5 bel4 HST HO5
      generalize stT r a b i j f = R at *
      go_wp2
      (try simp only [Exit.inBlock, Exit.then])
      refine bodyPost_ret (results_cell_tmpR rfl _ _ w.heap.size _ _ (0, 0) _ rfl H6.out Tryz.underlying30 rfl (by kernel_rfl)) rfl ?_
      exact ⟨A, c, rfl, HO6.out.mono (by omega), HB6.out⟩
end Go.Proofs.YtjgmgaccmcepdaaGreatDoor
