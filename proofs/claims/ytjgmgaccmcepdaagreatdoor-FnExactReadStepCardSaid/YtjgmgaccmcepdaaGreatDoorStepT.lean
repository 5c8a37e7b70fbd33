/- toStep. -/
import Derived.Test.YtjgmgaccmcepdaaGreatDoorStepH
namespace Go.Proofs.YtjgmgaccmcepdaaGreatDoor
open Go.ChangeAt Go.ChangeShapes Go.RowKit Go.WideShapes

/-- What the copy of a step leaves. -/
def CopiedStep (w : World) (r a b i j : Int) (n : Nat) (f : List Int) (e : Ending) (w' : World) : Prop :=
  ∃ g, e = .returned (Value.agg #[Value.int .i64 r, Value.int .i64 a, Value.int .i64 b, Value.int .i64 i, Value.int .i64 j, Value.slice (some ⟨g, 0, none⟩) n n]) ∧ w'.ownsRow w.heap.size 2 1 (.slice (some ⟨g, 0, none⟩) n n) n (f.map (Value.int .i64)) ∧ Below w.heap.size w w'

/-- Six cells stored, one after another. -/
theorem set6_at {w : World} {b : Nat} {c0 c1 c2 c3 c4 c5 : Value} {t : TypeId} (h : w.heap[b]? = some (.cells #[c0, c1, c2, c3, c4, c5] t (0, 0))) (v0 v1 v2 v3 v4 v5 : Value) :
    ((((((w.setCell ⟨b, 0, none⟩ v0).setCell ⟨b, 1, none⟩ v1).setCell ⟨b, 2, none⟩ v2).setCell ⟨b, 3, none⟩ v3).setCell ⟨b, 4, none⟩ v4).setCell ⟨b, 5, none⟩ v5).heap[b]? = some (.cells #[v0, v1, v2, v3, v4, v5] t (0, 0)) := by
  have h0 := heap_setCell_same w b 0 _ t v0 h
  have h1 := heap_setCell_same _ b 1 _ t v1 h0
  have h2 := heap_setCell_same _ b 2 _ t v2 h1
  have h3 := heap_setCell_same _ b 3 _ t v3 h2
  have h4 := heap_setCell_same _ b 4 _ t v4 h3
  have h5 := heap_setCell_same _ b 5 _ t v5 h4
  simpa using h5
theorem set6_own {w : World} {base : Nat} {e : TypeId} {size : Nat} {v : Value} {n : Nat} {xs : List Value} (h : w.ownsRow base e size v n xs) {b : Nat} (hb : b < base) (v0 v1 v2 v3 v4 v5 : Value) :
    ((((((w.setCell ⟨b, 0, none⟩ v0).setCell ⟨b, 1, none⟩ v1).setCell ⟨b, 2, none⟩ v2).setCell ⟨b, 3, none⟩ v3).setCell ⟨b, 4, none⟩ v4).setCell ⟨b, 5, none⟩ v5).ownsRow base e size v n xs :=
  ownsRow_setCell_below (ownsRow_setCell_below (ownsRow_setCell_below (ownsRow_setCell_below (ownsRow_setCell_below (ownsRow_setCell_below h (a := ⟨b, 0, none⟩) hb v0) (a := ⟨b, 1, none⟩) hb v1) (a := ⟨b, 2, none⟩) hb v2) (a := ⟨b, 3, none⟩) hb v3) (a := ⟨b, 4, none⟩) hb v4) (a := ⟨b, 5, none⟩) hb v5
theorem set6_below {w0 w : World} {B b : Nat} (h : Below B w0 w) (hb : B ≤ b) (v0 v1 v2 v3 v4 v5 : Value) : Below B w0 ((((((w.setCell ⟨b, 0, none⟩ v0).setCell ⟨b, 1, none⟩ v1).setCell ⟨b, 2, none⟩ v2).setCell ⟨b, 3, none⟩ v3).setCell ⟨b, 4, none⟩ v4).setCell ⟨b, 5, none⟩ v5) :=
  (((((h.setCell (p := ⟨b, 0, none⟩) hb v0).setCell (p := ⟨b, 1, none⟩) hb v1).setCell (p := ⟨b, 2, none⟩) hb v2).setCell (p := ⟨b, 3, none⟩) hb v3).setCell (p := ⟨b, 4, none⟩) hb v4).setCell (p := ⟨b, 5, none⟩) hb v5

theorem three_any (w : World) (o p q : Obj) : Below w.heap.size w (((w.alloc o).alloc p).alloc q) ∧ (((w.alloc o).alloc p).alloc q).heap[w.heap.size]? = some o ∧ (((w.alloc o).alloc p).alloc q).heap[w.heap.size + 1]? = some p ∧ (((w.alloc o).alloc p).alloc q).heap[w.heap.size + 1 + 1]? = some q ∧ (((w.alloc o).alloc p).alloc q).heap.size = w.heap.size + 1 + 1 + 1 := by
  obtain ⟨hb, h0, h1, hs⟩ := two_any w o p
  refine ⟨hb.alloc (by omega) _, (Below.heap_alloc _ _ _ (by omega)).trans h0, (Below.heap_alloc _ _ _ (by omega)).trans h1, ?_, by simp⟩
  rw [← hs]; exact heap_alloc_new _ _

theorem toStep_any (r a b i j : Int) (A : Option Addr) (n c : Nat) (f : List Int) (w : World) (h : RdI w w.heap.size A n f) (hn : n ≤ 1048576) :
    Calls Tryz.prog 56 #[Value.agg #[Value.int .i64 r, Value.int .i64 a, Value.int .i64 b, Value.int .i64 i, Value.int .i64 j, Value.slice A n c]] w (CopiedStep w r a b i j n f) := by
  obtain ⟨w3, hw3⟩ : ∃ w3, w3 = ((w.alloc (.cells #[Value.int .i64 r, Value.int .i64 a, Value.int .i64 b, Value.int .i64 i, Value.int .i64 j, Value.slice A n c] 68)).alloc (.cells #[Value.int .i64 0, Value.int .i64 0, Value.int .i64 0, Value.int .i64 0, Value.int .i64 0, Value.slice none 0 0] 30)).alloc (.cells #[Value.int .i64 r, Value.int .i64 a, Value.int .i64 b, Value.int .i64 i, Value.int .i64 j, Value.slice none 0 0] 30) := ⟨_, rfl⟩
  obtain ⟨hb, p0, p1, p2, hsz⟩ := three_any w (.cells #[Value.int .i64 r, Value.int .i64 a, Value.int .i64 b, Value.int .i64 i, Value.int .i64 j, Value.slice A n c] 68) (.cells #[Value.int .i64 0, Value.int .i64 0, Value.int .i64 0, Value.int .i64 0, Value.int .i64 0, Value.slice none 0 0] 30) (.cells #[Value.int .i64 r, Value.int .i64 a, Value.int .i64 b, Value.int .i64 i, Value.int .i64 j, Value.slice none 0 0] 30)
  rw [← hw3] at hb p0 p1 p2 hsz
  have HI := Lib.hid (toInts_any A n c f w3 ((h.below hb).more hb.size) hn)
  have HB := Lib.hid hb
  clear hb h p0
  go_enter Tryz.func56, Tryz.ntmps56
  go_wp2_with (fail)
  rw [← hw3]
  clear hw3
  refine HI.out.mono ?_
  rintro e w4 ⟨rfl, own, bel⟩
  have q1 := (bel.block (w.heap.size + 1) (by omega)).trans p1
  have q2 := (bel.block (w.heap.size + 1 + 1) (by omega)).trans p2
  have x0 := cell_of_row _ _ 0 _ _ (0, 0) q2; have x1 := cell_of_row _ _ 1 _ _ (0, 0) q2; have x2 := cell_of_row _ _ 2 _ _ (0, 0) q2
  have x3 := cell_of_row _ _ 3 _ _ (0, 0) q2; have x4 := cell_of_row _ _ 4 _ _ (0, 0) q2; have x5 := cell_of_row _ _ 5 _ _ (0, 0) q2
  have z5 := frozen_of_row _ _ 5 _ _ q2
  have y0 := cell_of_row _ _ 0 _ _ (0, 0) q1; have y1 := cell_of_row _ _ 1 _ _ (0, 0) q1; have y2 := cell_of_row _ _ 2 _ _ (0, 0) q1
  have y3 := cell_of_row _ _ 3 _ _ (0, 0) q1; have y4 := cell_of_row _ _ 4 _ _ (0, 0) q1; have y5 := cell_of_row _ _ 5 _ _ (0, 0) q1
  have u0 := frozen_of_row _ _ 0 _ _ q1; have u1 := frozen_of_row _ _ 1 _ _ q1; have u2 := frozen_of_row _ _ 2 _ _ q1
  have u3 := frozen_of_row _ _ 3 _ _ q1; have u4 := frozen_of_row _ _ 4 _ _ q1; have u5 := frozen_of_row _ _ 5 _ _ q1
  have HO := Lib.hid own
  have HB4 := Lib.hid (HB.out.trans (bel.mono HB.out.size))
  have Q1 := Lib.hid q1
  clear own bel HI p1 p2 q1 q2
  generalize w3.heap.size = g at *
  have Q5 : (w4.setCell ⟨w.heap.size + 1 + 1, 5, none⟩ (.slice (some ⟨g, 0, none⟩) n n)).heap[w.heap.size + 1]? = some (.cells #[Value.int .i64 0, Value.int .i64 0, Value.int .i64 0, Value.int .i64 0, Value.int .i64 0, Value.slice none 0 0] 30 (0, 0)) :=
    (heap_setCell_other _ _ _ _ (by show w.heap.size + 1 ≠ w.heap.size + 1 + 1; omega)).trans Q1.out
  have HO5 := Lib.hid (ownsRow_setCell_below HO.out (a := ⟨w.heap.size + 1 + 1, 5, none⟩) (by show w.heap.size + 1 + 1 < g; omega) (.slice (some ⟨g, 0, none⟩) n n))
  have HB5 := Lib.hid (HB4.out.setCell (p := ⟨w.heap.size + 1 + 1, 5, none⟩) (by show w.heap.size ≤ w.heap.size + 1 + 1; omega) (.slice (some ⟨g, 0, none⟩) n n))
  have H6 := Lib.hid (set6_at Q5 (.int .i64 r) (.int .i64 a) (.int .i64 b) (.int .i64 i) (.int .i64 j) (.slice (some ⟨g, 0, none⟩) n n))
  have HO6 := Lib.hid (set6_own HO5.out (show w.heap.size + 1 < g by omega) (.int .i64 r) (.int .i64 a) (.int .i64 b) (.int .i64 i) (.int .i64 j) (.slice (some ⟨g, 0, none⟩) n n))
  have HB6 := Lib.hid (set6_below HB5.out (show w.heap.size ≤ w.heap.size + 1 by omega) (.int .i64 r) (.int .i64 a) (.int .i64 b) (.int .i64 i) (.int .i64 j) (.slice (some ⟨g, 0, none⟩) n n))
  clear Q5 HO5 HB5 HO HB4 Q1
  subst hsz
  go_wp2
  (try simp only [Exit.inBlock, Exit.then])
  refine bodyPost_ret (results_cell_row rfl _ _ (w.heap.size + 1) _ _ (0, 0) _ rfl H6.out Tryz.underlying30 rfl (by kernel_rfl)) rfl ?_
  exact ⟨_, rfl, HO6.out.mono (by omega), HB6.out⟩
end Go.Proofs.YtjgmgaccmcepdaaGreatDoor
