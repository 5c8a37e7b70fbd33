/- The laws' helpers at a step: its size, its copy, comparison. -/
import Derived.Test.YtjgmgaccmcepdaaGreatDoorRowH
import Derived.Test.YtjgmgaccmcepdaaGreatDoorCopyS
namespace Go.Proofs.YtjgmgaccmcepdaaGreatDoor
open Go.ChangeAt Go.ChangeShapes Go.RowKit Go.WideShapes

theorem box_any (w : World) (o : Obj) : Below w.heap.size w (w.alloc o) := (Below.refl _ _).alloc (Nat.le_refl _) _

theorem szStep_any (r a b i j : Int) (A : Option Addr) (n c : Nat) (left : Int) (w : World) (hn : n ≤ maxLen) (h0 : 0 ≤ left) (h1 : left ≤ 1073741824) :
    Calls Tryz.prog 54 #[Value.agg #[Value.int .i64 r, Value.int .i64 a, Value.int .i64 b, Value.int .i64 i, Value.int .i64 j, Value.slice A n c], .int .i64 left] w fun e w' => e = .returned (.int .i64 (szR left n)) ∧ Below w.heap.size w w' := by
  have hb := box_any w (.cells #[Value.int .i64 r, Value.int .i64 a, Value.int .i64 b, Value.int .i64 i, Value.int .i64 j, Value.slice A n c] 68)
  have hcell : (w.alloc (.cells #[Value.int .i64 r, Value.int .i64 a, Value.int .i64 b, Value.int .i64 i, Value.int .i64 j, Value.slice A n c] 68)).cell? ⟨w.heap.size, 5, none⟩ = some (.slice A n c) := by simp
  have HS := Lib.hid (sz_any A n c left (w.alloc (.cells #[Value.int .i64 r, Value.int .i64 a, Value.int .i64 b, Value.int .i64 i, Value.int .i64 j, Value.slice A n c] 68)) hn h0 h1)
  have HB := Lib.hid hb
  clear hb
  by_cases hc : szR left n < 0
  · have HE : Hid ((-1 : Int) = szR left n) := Lib.hid (by
      unfold szR at hc ⊢
      by_cases h : left - n < 0
      · rw [if_pos h]
      · rw [if_neg h] at hc; omega)
    have hd : decide (szR left n < 0) = true := decide_eq_true hc
    generalize szR left n = R at *
    clear hc
    go_enter Tryz.func54, Tryz.ntmps54
    go_wp2_with (fail)
    refine HS.out.mono ?_
    rintro e w' ⟨rfl, rfl⟩
    go_wp2
    go_ret
    exact ⟨ret_i64 HE.out, HB.out⟩
  · have hd : decide (szR left n < 0) = false := decide_eq_false hc
    generalize szR left n = R at *
    clear hc
    go_enter Tryz.func54, Tryz.ntmps54
    go_wp2_with (fail)
    refine HS.out.mono ?_
    rintro e w' ⟨rfl, rfl⟩
    go_wp2
    go_ret
    exact ⟨rfl, HB.out⟩

/-- Two blocks more. -/
theorem two_any (w : World) (o p : Obj) : Below w.heap.size w ((w.alloc o).alloc p) ∧ ((w.alloc o).alloc p).heap[w.heap.size]? = some o ∧ ((w.alloc o).alloc p).heap[w.heap.size + 1]? = some p ∧ ((w.alloc o).alloc p).heap.size = w.heap.size + 1 + 1 := by
  obtain ⟨h0, h1⟩ := two_heap w o p
  exact ⟨((Below.refl _ _).alloc (Nat.le_refl _) _).alloc (by simp) _, h0, h1, by simp⟩

theorem eqStep_any (r a b i j : Int) (A B : Option Addr) (n c d : Nat) (f : List Int) (w : World) (h : RdI w w.heap.size A n f) (h' : RdI w w.heap.size B n f) (hn : n ≤ 1048576) :
    Calls Tryz.prog 39 #[Value.agg #[Value.int .i64 r, Value.int .i64 a, Value.int .i64 b, Value.int .i64 i, Value.int .i64 j, Value.slice A n c], Value.agg #[Value.int .i64 r, Value.int .i64 a, Value.int .i64 b, Value.int .i64 i, Value.int .i64 j, Value.slice B n d]] w fun e w' => e = .returned (.bool true) ∧ Below w.heap.size w w' := by
  obtain ⟨w2, hw2⟩ : ∃ w2, w2 = (w.alloc (.cells #[Value.int .i64 r, Value.int .i64 a, Value.int .i64 b, Value.int .i64 i, Value.int .i64 j, Value.slice A n c] 30)).alloc (.cells #[Value.int .i64 r, Value.int .i64 a, Value.int .i64 b, Value.int .i64 i, Value.int .i64 j, Value.slice B n d] 30) := ⟨_, rfl⟩
  obtain ⟨hb, p0, p1, hsz⟩ := two_any w (.cells #[Value.int .i64 r, Value.int .i64 a, Value.int .i64 b, Value.int .i64 i, Value.int .i64 j, Value.slice A n c] 30) (.cells #[Value.int .i64 r, Value.int .i64 a, Value.int .i64 b, Value.int .i64 i, Value.int .i64 j, Value.slice B n d] 30)
  rw [← hw2] at hb p0 p1 hsz
  have x0 := cell_of_row _ _ 0 _ _ (0, 0) p0; have x1 := cell_of_row _ _ 1 _ _ (0, 0) p0; have x2 := cell_of_row _ _ 2 _ _ (0, 0) p0
  have x3 := cell_of_row _ _ 3 _ _ (0, 0) p0; have x4 := cell_of_row _ _ 4 _ _ (0, 0) p0; have x5 := cell_of_row _ _ 5 _ _ (0, 0) p0
  have y0 := cell_of_row _ _ 0 _ _ (0, 0) p1; have y1 := cell_of_row _ _ 1 _ _ (0, 0) p1; have y2 := cell_of_row _ _ 2 _ _ (0, 0) p1
  have y3 := cell_of_row _ _ 3 _ _ (0, 0) p1; have y4 := cell_of_row _ _ 4 _ _ (0, 0) p1; have y5 := cell_of_row _ _ 5 _ _ (0, 0) p1
  have HE := Lib.hid (eqInts_any A B n n c d f f w2 ((h.below hb).more hb.size) ((h'.below hb).more hb.size) hn hn)
  have HB := Lib.hid hb
  clear hb p0 p1 h h' hsz
  go_enter Tryz.func39, Tryz.ntmps39
  go_wp2_with (fail)
  rw [← hw2]
  clear hw2
  go_wp2_with (fail)
  refine HE.out.mono ?_
  rintro e w3 ⟨rfl, bel⟩
  have HB3 := Lib.hid (HB.out.trans (bel.mono HB.out.size))
  clear bel HE
  go_wp2
  go_ret
  exact ⟨rfl, HB3.out⟩
end Go.Proofs.YtjgmgaccmcepdaaGreatDoor
