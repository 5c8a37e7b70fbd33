/- PlainStep of the program and of the model. -/
import Derived.Test.YtjgmgaccmcepdaaGreatDoorRule
namespace Go.Proofs.YtjgmgaccmcepdaaGreatDoor
open Go.ChangeAt Go.ChangeShapes Go.RowKit Go.WideShapes

def inR (x : Int) : Bool := decide (0 ≤ x) && decide (x < 40)
def idxB (named : Bool) (x u : Int) : Bool := if named then inR x else decide (x = u)
def fitV (x y z : Bool) (i j : Int) (f : List Int) : Bool := ((if z then validB f else decide (f.length = 0)) && (x || decide (i = 0))) && (y || decide (j = 0))
def plainB (r a b i j : Int) (f : List Int) : Bool :=
  decide (1 ≤ r) && (decide (r ≤ 14) && (fitV (ruI r) (ruJ r) (ruF r) i j f && (idxB (decide (0 < ruP r)) a (-1) && (idxB (decide (1 < ruP r)) b (-1) && (idxB (ruI r) i 0 && idxB (ruJ r) j 0)))))

set_option maxRecDepth 100000 in
set_option maxHeartbeats 8000000 in
theorem fits_any (x y z : Bool) (r a b i j : Int) (A : Option Addr) (n c : Nat) (f : List Int) (w : World) (h : RdI w w.heap.size A n f) (hnc : n ≤ c) (ht : Arit w) :
    Calls Tryz.prog 261 #[.agg #[.bool x, .bool y, .bool z], Value.agg #[Value.int .i64 r, Value.int .i64 a, Value.int .i64 b, Value.int .i64 i, Value.int .i64 j, Value.slice A n c]] w fun e w' => e = .returned (.bool (fitV x y z i j f)) ∧ Below w.heap.size w w' := by
  have hl := h.len
  obtain ⟨w2, hw2⟩ : ∃ w2, w2 = (w.alloc (.cells #[Value.bool x, Value.bool y, Value.bool z] 163)).alloc (.cells #[Value.int .i64 r, Value.int .i64 a, Value.int .i64 b, Value.int .i64 i, Value.int .i64 j, Value.slice A n c] 30) := ⟨_, rfl⟩
  obtain ⟨hb, p0, p1, hsz⟩ := two_any w (.cells #[Value.bool x, Value.bool y, Value.bool z] 163) (.cells #[Value.int .i64 r, Value.int .i64 a, Value.int .i64 b, Value.int .i64 i, Value.int .i64 j, Value.slice A n c] 30)
  rw [← hw2] at hb p0 p1 hsz
  have x0 : w2.cell? ⟨w.heap.size, 0, none⟩ = some (.bool x) := cell_of_row _ _ 0 _ _ (0, 0) p0
  have x1 : w2.cell? ⟨w.heap.size, 1, none⟩ = some (.bool y) := cell_of_row _ _ 1 _ _ (0, 0) p0
  have x2 : w2.cell? ⟨w.heap.size, 2, none⟩ = some (.bool z) := cell_of_row _ _ 2 _ _ (0, 0) p0
  have y3 : w2.cell? ⟨w.heap.size + 1, 3, none⟩ = some (.int .i64 i) := cell_of_row _ _ 3 _ _ (0, 0) p1
  have y4 : w2.cell? ⟨w.heap.size + 1, 4, none⟩ = some (.int .i64 j) := cell_of_row _ _ 4 _ _ (0, 0) p1
  have y5 : w2.cell? ⟨w.heap.size + 1, 5, none⟩ = some (.slice A n c) := cell_of_row _ _ 5 _ _ (0, 0) p1
  have HV := Lib.hid (validForm_impl A n c f w2 ((h.below hb).more hb.size) (ht.below hb ht.lt) hnc)
  have HB := Lib.hid hb
  clear hb p0 p1 h ht hsz
  obtain ⟨L, hL⟩ : ∃ L, ((n : Int) == 0) = L := ⟨_, rfl⟩
  obtain ⟨bi, hbi⟩ : ∃ q, (i == 0) = q := ⟨_, rfl⟩
  obtain ⟨bj, hbj⟩ : ∃ q, (j == 0) = q := ⟨_, rfl⟩
  have hLn : decide (f.length = 0) = L := by rw [← hL, hl]; by_cases e : n = 0 <;> simp [e, Int.natCast_eq_zero]
  have HF : Hid (fitV x y z i j f = (((if z then validB f else L) && (x || bi)) && (y || bj))) := Lib.hid (by unfold fitV; rw [hLn, ← hbi, ← hbj]; rfl)
  generalize fitV x y z i j f = R at *
  clear hLn hl
  cases z with
  | false =>
    clear HV
    cases L <;> cases x <;> cases y <;> cases bi
    all_goals
      go_enter Tryz.func261, Tryz.ntmps261
      go_wp2_with (fail)
      (try rw [← hw2])
      clear hw2
      go_wp2
      go_ret
      exact ⟨ret_bool (by rw [HF.out]; first | rfl | exact hbj), HB.out⟩
  | true =>
    generalize validB f = vb at *
    cases vb <;> cases x <;> cases y <;> cases bi
    all_goals
      go_enter Tryz.func261, Tryz.ntmps261
      go_wp2_with (fail)
      rw [← hw2]
      clear hw2
      refine HV.out.mono ?_
      rintro e w3 ⟨rfl, rfl⟩
      go_wp2
      go_ret
      exact ⟨ret_bool (by rw [HF.out]; first | rfl | exact hbj), HB.out⟩


theorem set4_at {w : World} {b : Nat} {c0 c1 c2 c3 : Value} {t : TypeId} (h : w.heap[b]? = some (.cells #[c0, c1, c2, c3] t (0, 0))) (v0 v1 v2 v3 : Value) :
    ((((w.setCell ⟨b, 0, none⟩ v0).setCell ⟨b, 1, none⟩ v1).setCell ⟨b, 2, none⟩ v2).setCell ⟨b, 3, none⟩ v3).heap[b]? = some (.cells #[v0, v1, v2, v3] t (0, 0)) := by
  have h0 := heap_setCell_same w b 0 _ t v0 h
  have h1 := heap_setCell_same _ b 1 _ t v1 h0
  have h2 := heap_setCell_same _ b 2 _ t v2 h1
  have h3 := heap_setCell_same _ b 3 _ t v3 h2
  simpa using h3
theorem set4_below {w0 w : World} {B b : Nat} (h : Below B w0 w) (hb : B ≤ b) (v0 v1 v2 v3 : Value) : Below B w0 ((((w.setCell ⟨b, 0, none⟩ v0).setCell ⟨b, 1, none⟩ v1).setCell ⟨b, 2, none⟩ v2).setCell ⟨b, 3, none⟩ v3) :=
  (((h.setCell (p := ⟨b, 0, none⟩) hb v0).setCell (p := ⟨b, 1, none⟩) hb v1).setCell (p := ⟨b, 2, none⟩) hb v2).setCell (p := ⟨b, 3, none⟩) hb v3

set_option maxRecDepth 100000 in
theorem namedIndices_any (r : Int) (h1 : 1 ≤ r) (h2 : r ≤ 14) (w : World) :
    Calls Tryz.prog 137 #[.iface (ruT r) (.agg #[Value.bool (ruI r), Value.bool (ruJ r), Value.bool (ruF r)])] w fun e w' =>
      e = .returned (.agg #[.bool (decide (0 < ruP r)), .bool (decide (1 < ruP r)), .bool (ruI r), .bool (ruJ r)]) ∧ Below w.heap.size w w' := by
  have hm := m_named r h1 h2
  have HP := Lib.hid (fun w => premiseCount_any r h1 h2 (.agg #[Value.bool (ruI r), Value.bool (ruJ r), Value.bool (ruF r)]) w)
  have hb0 := box_any w (.cells #[Value.bool false, Value.bool false, Value.bool false, Value.bool false] 150)
  have q0 : (w.alloc (.cells #[Value.bool false, Value.bool false, Value.bool false, Value.bool false] 150)).heap[w.heap.size]? = some (.cells #[Value.bool false, Value.bool false, Value.bool false, Value.bool false] 150 (0, 0)) := heap_alloc_new _ _
  have hs0 : (w.alloc (.cells #[Value.bool false, Value.bool false, Value.bool false, Value.bool false] 150)).heap.size = w.heap.size + 1 := by simp
  have hpr := ruP_range r h1 h2
  generalize ruT r = T at *; generalize ruI r = x at *; generalize ruJ r = y at *; generalize ruF r = z at *; generalize ruP r = p at *
  have HB0 := Lib.hid hb0
  clear hb0
  go_enter Tryz.func137, Tryz.ntmps137
  go_wp2_with (fail)
  generalize (w.alloc (.cells #[Value.bool false, Value.bool false, Value.bool false, Value.bool false] 150)) = w1 at *
  refine (HP.out w1).mono ?_
  rintro e w' ⟨rfl, rfl⟩
  go_wp2_with (fail)
  refine (namedFields_any x y z w1).mono ?_
  rintro e w2 ⟨rfl, bel⟩
  have q2 := (bel.block w.heap.size (by omega)).trans q0
  have hs2 := bel.size
  have hbx := box_any w2 (.cells #[Value.bool x, Value.bool y, Value.bool z] 163)
  have q3 : (w2.alloc (.cells #[Value.bool x, Value.bool y, Value.bool z] 163)).heap[w.heap.size]? = _ := (Below.heap_alloc _ _ _ (by omega)).trans q2
  have hb3 := HB0.out.trans ((bel.mono (by omega)).trans (hbx.mono (by omega)))
  have hc0 : (w2.alloc (.cells #[Value.bool x, Value.bool y, Value.bool z] 163)).cell? ⟨w.heap.size, 0, none⟩ = some (.bool false) := cell_of_row _ _ 0 _ _ (0, 0) q3
  have hc1 : (w2.alloc (.cells #[Value.bool x, Value.bool y, Value.bool z] 163)).cell? ⟨w.heap.size, 1, none⟩ = some (.bool false) := cell_of_row _ _ 1 _ _ (0, 0) q3
  have hc2 : (w2.alloc (.cells #[Value.bool x, Value.bool y, Value.bool z] 163)).cell? ⟨w.heap.size, 2, none⟩ = some (.bool false) := cell_of_row _ _ 2 _ _ (0, 0) q3
  have hc3 : (w2.alloc (.cells #[Value.bool x, Value.bool y, Value.bool z] 163)).cell? ⟨w.heap.size, 3, none⟩ = some (.bool false) := cell_of_row _ _ 3 _ _ (0, 0) q3
  have f0 := frozen_of_row _ _ 0 _ _ q3; have f1 := frozen_of_row _ _ 1 _ _ q3; have f2 := frozen_of_row _ _ 2 _ _ q3; have f3 := frozen_of_row _ _ 3 _ _ q3
  have g0 : (w2.alloc (.cells #[Value.bool x, Value.bool y, Value.bool z] 163)).cell? ⟨w2.heap.size, 0, none⟩ = some (.bool x) := by simp
  have g1 : (w2.alloc (.cells #[Value.bool x, Value.bool y, Value.bool z] 163)).cell? ⟨w2.heap.size, 1, none⟩ = some (.bool y) := by simp
  have H4 := Lib.hid (fun v0 v1 v2 v3 => set4_at q3 v0 v1 v2 v3)
  have H5 := Lib.hid (fun v0 v1 v2 v3 => set4_below hb3 (Nat.le_refl _) v0 v1 v2 v3)
  clear q0 q2 q3 hb3 hbx bel HP hm
  rcases hpr with rfl | rfl | rfl
  all_goals
    go_wp2_with (fail)
    (try simp only [Exit.inBlock, Exit.then])
    refine bodyPost_ret (results_cell_row rfl _ _ w.heap.size _ _ (0, 0) _ rfl (H4.out _ _ _ _) Tryz.underlying150 rfl (by kernel_rfl)) rfl ?_
    exact ⟨rfl, H5.out _ _ _ _⟩

end Go.Proofs.YtjgmgaccmcepdaaGreatDoor