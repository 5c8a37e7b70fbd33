/- The program's netWithRoom. The program's usesFit. -/
import Derived.Test.YtjfhbofgnagfaaaDoorQNetH
import Derived.Test.YtjfhbofgnagfaaaDoorQNetO
import Derived.Test.YtjfhbofgnagfaaaDoorQSubA
import Derived.Test.YtjfhbofgnagfaaaDoorQPgM
import Derived.Test.YtjfhbofgnagfaaaDoorQNetD
namespace Go.Proofs.YtjfhbofgnagfaaaDoor
set_option linter.unusedSimpArgs false
set_option linter.unusedVariables false
section
set_option linter.unusedSimpArgs false
set_option linter.unusedVariables false
open Go.ChangeAt Go.ChangeShapes Go.RowKit Go.WideShapes

theorem made4 (m : Nat) : (madeCells #[Value.int .i64 0, Value.int .i64 0, Value.int .i64 0, Value.int .i64 0] (m * 4)).toList = List.replicate (m * 4) (Value.int .i64 0) := by
  apply List.ext_getElem?
  intro j
  by_cases hj : j < m * 4
  · have : j % 4 = 0 ∨ j % 4 = 1 ∨ j % 4 = 2 ∨ j % 4 = 3 := by omega
    rcases this with e | e | e | e <;> simp [madeCells, hj, e]
  · simp [madeCells, hj]
theorem flL_room (m : Nat) : (flL (List.replicate m Lk.nil)).map (Value.int .i64) = List.replicate (m * 4) (Value.int .i64 0) := by
  induction m with
  | zero => rfl
  | succ m ih =>
    rw [List.replicate_succ, show (m + 1) * 4 = m * 4 + 1 + 1 + 1 + 1 by omega, List.replicate_succ, List.replicate_succ, List.replicate_succ, List.replicate_succ]
    simp only [flL, Lk.nil, List.map_cons]
    rw [show (⟨0, 0, 0, 0⟩ : Lk) = Lk.nil from rfl, ih]
theorem rowV_room (n : Nat) : rowV (fun _ => (none, 0)) (List.replicate n ([] : List Int)) = List.replicate n (Value.slice none 0 0) := by
  apply List.ext_getElem?
  intro j
  by_cases hj : j < n
  · rw [rowV_at (by simpa using hj)]
    simp [hv, hj, List.getD]
  · rw [List.getElem?_eq_none (by simp [rowV]; omega), List.getElem?_eq_none (by simp; omega)]
theorem room_own {w : World} {lo g1 g2 n m : Nat} (h1 : w.heap[g1]? = some (.cells (madeCells (Value.slice none 0 0).cells (n * 1)) 26 (0, 0))) (h2 : w.heap[g2]? = some (.cells (madeCells #[Value.int .i64 0, Value.int .i64 0, Value.int .i64 0, Value.int .i64 0] (m * 4)) 75 (0, 0)))
    (l1 : lo ≤ g1) (l2 : lo ≤ g2) (hne : g1 ≠ g2) (hn : n ≤ 1048576) (hm : m ≤ 1048576) : OwnN w lo w.heap.size ⟨some ⟨g1, 0, none⟩, n, fun _ => (none, 0), some ⟨g2, 0, none⟩, m, none, 0⟩ (roomN n m) := by
  have b1 : g1 < w.heap.size := (Array.getElem?_eq_some_iff.1 h1).1
  have b2 : g2 < w.heap.size := (Array.getElem?_eq_some_iff.1 h2).1
  have o1 : w.ownsRow g1 26 1 (.slice (some ⟨g1, 0, none⟩) n n) n (List.replicate n (Value.slice none 0 0)) := by
    rw [← toList_madeCells_one, show madeCells #[Value.slice none 0 0] n = madeCells (Value.slice none 0 0).cells (n * 1) by simp [Value.cells]]
    exact ⟨(by first | rfl | (simp [Value.cells, size_madeCells]; done) | (rw [List.take_of_length_le (by simp [Value.cells, size_madeCells])]) | omega), .inr ⟨g1, n, _, rfl, Nat.le_refl _, h1, (by first | rfl | (simp [Value.cells, size_madeCells]; done) | (rw [List.take_of_length_le (by simp [Value.cells, size_madeCells])]) | omega), by unfold maxLen; omega, (by first | rfl | (simp [Value.cells, size_madeCells]; done) | (rw [List.take_of_length_le (by simp [Value.cells, size_madeCells])]) | omega), (by first | rfl | (simp [Value.cells, size_madeCells]; done) | (rw [List.take_of_length_le (by simp [Value.cells, size_madeCells])]) | omega)⟩⟩
  have o2 : w.ownsRow lo 75 4 (.slice (some ⟨g2, 0, none⟩) m m) m (List.replicate (m * 4) (Value.int .i64 0)) := by
    rw [← made4]
    exact ⟨(by first | rfl | (simp [Value.cells, size_madeCells]; done) | (rw [List.take_of_length_le (by simp [Value.cells, size_madeCells])]) | omega), .inr ⟨g2, m, _, rfl, l2, h2, (by first | rfl | (simp [Value.cells, size_madeCells]; done) | (rw [List.take_of_length_le (by simp [Value.cells, size_madeCells])]) | omega), by unfold maxLen; omega, (by first | rfl | (simp [Value.cells, size_madeCells]; done) | (rw [List.take_of_length_le (by simp [Value.cells, size_madeCells])]) | omega), (by first | rfl | (simp [Value.cells, size_madeCells]; done) | (rw [List.take_of_length_le (by simp [Value.cells, size_madeCells])]) | omega)⟩⟩
  have hl : (List.replicate n ([] : List Int)).length = n := by simp
  refine OwnN.mk3 (m0 := g1) (m1 := g1 + 1) (m2 := w.heap.size) (h := ⟨some ⟨g1, 0, none⟩, n, fun _ => (none, 0), some ⟨g2, 0, none⟩, m, none, 0⟩) (N := roomN n m) ?_ ?_ ?_ (World.ownsRow_nil _ _ _ _) l1 (by omega) (by omega) (Nat.le_refl _) (Nat.le_refl _)
  · show OwnQ w g1 (g1 + 1) (.slice (some ⟨g1, 0, none⟩) (List.replicate n ([] : List Int)).length n) (fun _ => (none, 0)) (List.replicate n [])
    rw [hl]
    have hh : ∀ i, (hv (fun _ => (none, 0)) (List.replicate n ([] : List Int)) i).ownBlock = none := fun i => by
      have : ((List.replicate n ([] : List Int)).getD i []).length = 0 := by
        by_cases hi : i < n <;> simp [List.getD, hi]
      unfold hv
      rw [this]; rfl
    exact {
      outer := by rw [rowV_room, hl]; exact o1
      inner := fun i hi => by
        have : (List.replicate n ([] : List Int)).getD i [] = [] := by by_cases hi : i < n <;> simp [List.getD, hi]
        unfold hv
        rw [this]
        exact World.ownsRow_nil _ _ _ _
      apart := fun i j _ _ _ => .inl (hh i)
      apart0 := fun i _ => .inl (hh i)
      top0 := fun k e => by
        have e' : g1 = k := by simpa [Value.ownBlock] using e
        omega
      top := fun i k _ e => by rw [hh i] at e; cases e }
  · show World.ownsRow _ _ _ _ (.slice (some ⟨g2, 0, none⟩) (List.replicate m Lk.nil).length m) (List.replicate m Lk.nil).length _
    rw [List.length_replicate]
    show World.ownsRow _ _ _ _ _ _ ((flL (List.replicate m Lk.nil)).map (Value.int .i64))
    rw [flL_room]
    exact o2
  · intro b e
    have e' : g2 = b := by simpa [Value.ownBlock] using e
    omega
theorem room_heap {w0 : World} {g : Nat} {c : Array Value} {t : TypeId} (o1 o2 : Obj) (h : w0.heap[g]? = some (.cells c t (0, 0))) : ((w0.alloc o1).alloc o2).heap[g]? = some (.cells c t (0, 0)) := by
  have hg : g < w0.heap.size := (Array.getElem?_eq_some_iff.1 h).1
  have b1 : Below w0.heap.size w0 (w0.alloc o1) := (Below.refl _ _).alloc (Nat.le_refl _) _
  have b2 : Below (w0.alloc o1).heap.size (w0.alloc o1) ((w0.alloc o1).alloc o2) := (Below.refl _ _).alloc (Nat.le_refl _) _
  exact (b2.block g (Nat.lt_of_lt_of_le hg b1.size)).trans ((b1.block g hg).trans h)
theorem room_done {w w0 u : World} {g1 g2 n m : Nat} {C1 C2 : Array Value} (ec1 : madeCells (Value.slice none 0 0).cells (n * 1) = C1) (ec2 : madeCells #[Value.int .i64 0, Value.int .i64 0, Value.int .i64 0, Value.int .i64 0] (m * 4) = C2) (hb : Below w.heap.size w w0) (hs : w.heap.size + 1 = w0.heap.size) (b4 : Below w0.heap.size w0 u) (h1 : u.heap[g1]? = some (.cells C1 26 (0, 0))) (h2 : u.heap[g2]? = some (.cells C2 75 (0, 0)))
    (l1 : w0.heap.size ≤ g1) (l2 : w0.heap.size ≤ g2) (hne : g1 ≠ g2) (hn : n ≤ 1048576) (hm : m ≤ 1048576) :
    CopiedN w (roomN n m) (.returned (.agg #[.slice (some ⟨g1, 0, none⟩) n n, .slice (some ⟨g2, 0, none⟩) m m, .slice none 0 0])) (((u.setCell ⟨w.heap.size, 0, none⟩ (.slice (some ⟨g1, 0, none⟩) n n)).setCell ⟨w.heap.size, 1, none⟩ (.slice (some ⟨g2, 0, none⟩) m m)).setCell ⟨w.heap.size, 2, none⟩ (.slice none 0 0)) := by
  subst ec1 ec2
  have o := room_own (lo := w0.heap.size) h1 h2 l1 l2 hne hn hm
  have := own_done0 (w := w) hb b4 o (by omega)
  have e1 : (roomN n m).w.length = n := by simp [roomN]
  have e2 : (roomN n m).l.length = m := by simp [roomN]
  have e3 : (roomN n m).c.length = 0 := by simp [roomN]
  rw [e1, e2, e3] at this
  exact this
set_option maxHeartbeats 2000000 in
theorem netWithRoom_any (n m : Nat) (w : World) (hn : n ≤ 1048576) (hm : m ≤ 1048576) :
    Calls Tryd.prog 54 #[.int .i64 n, .int .i64 m] w (CopiedN w (roomN n m)) := by
  obtain ⟨i1, hi1, hz1, hs1, hb1⟩ := info_parts_s
  obtain ⟨i2, hi2, hz2, hs2, hb2⟩ := info_parts_link
  have mk1 : ∀ wx : World, (Instr.makeSlice 24 (.int .i64 n) (.int .i64 n)).run Tryd.prog wx = .ok (.slice (some ⟨wx.heap.size, 0, none⟩) n n) (wx.alloc (.cells (madeCells (Value.slice none 0 0).cells (n * 1)) 26)) := fun wx => by
    have hr := run_make (P := Tryd.prog) wx 24 26 i1 (.slice none 0 0) Tryd.underlying24 hi1 hz1 .i64 .i64 n n (by omega) (Int.le_refl _) (by rw [hb1]; omega) (by omega)
    simp only [Int.toNat_natCast, hs1] at hr
    exact hr
  have mk2 : ∀ wx : World, (Instr.makeSlice 25 (.int .i64 m) (.int .i64 m)).run Tryd.prog wx = .ok (.slice (some ⟨wx.heap.size, 0, none⟩) m m) (wx.alloc (.cells (madeCells #[Value.int .i64 0, Value.int .i64 0, Value.int .i64 0, Value.int .i64 0] (m * 4)) 75)) := fun wx => by
    have hr := run_make (P := Tryd.prog) wx 25 75 i2 (.agg #[Value.int .i64 0, Value.int .i64 0, Value.int .i64 0, Value.int .i64 0]) Tryd.underlying25 hi2 hz2 .i64 .i64 m m (by omega) (Int.le_refl _) (by rw [hb2]; omega) (by omega)
    simp only [Int.toNat_natCast, hs2] at hr
    exact hr
  clear hi1 hz1 hs1 hb1 hi2 hz2 hs2 hb2
  obtain ⟨C1, hC1⟩ : ∃ C, madeCells (Value.slice none 0 0).cells (n * 1) = C := ⟨_, rfl⟩
  obtain ⟨C2, hC2⟩ : ∃ C, madeCells #[Value.int .i64 0, Value.int .i64 0, Value.int .i64 0, Value.int .i64 0] (m * 4) = C := ⟨_, rfl⟩
  rw [hC1] at mk1
  rw [hC2] at mk2
  have HC1 := Lib.hid hC1; have HC2 := Lib.hid hC2; have HN := Lib.hid hn; have HM := Lib.hid hm
  clear hC1 hC2 hn hm
  obtain ⟨w0, hw0⟩ : ∃ w0, w0 = w.alloc (.cells #[.slice none 0 0, .slice none 0 0, .slice none 0 0] 28) := ⟨_, rfl⟩
  have HB0 : Hid (Below w.heap.size w w0) := Lib.hid (by rw [hw0]; exact (Below.refl _ _).alloc (Nat.le_refl _) _)
  have HG : Hid (w0.heap[w.heap.size]? = some (.cells #[.slice none 0 0, .slice none 0 0, .slice none 0 0] 28 (0, 0))) := Lib.hid (by rw [hw0]; exact heap_alloc_new _ _)
  have HS : Hid (w.heap.size + 1 = w0.heap.size) := Lib.hid (by rw [hw0]; simp)
  go_enter Tryd.func54, Tryd.ntmps54
  go_upto_region 1 with (fail)
  rw [← hw0]
  clear hw0
  have q12 := room_heap (.cells C1 26) (.cells C2 75) HG.out
  have q21 := room_heap (.cells C2 75) (.cells C1 26) HG.out
  obtain ⟨a0, a1, a2⟩ := three_cells q12
  obtain ⟨d0, d1, d2⟩ := three_cells q21
  have f0 := frozen_of_row _ _ 0 _ _ q12; have f1 := frozen_of_row _ _ 1 _ _ q12; have f2 := frozen_of_row _ _ 2 _ _ q12
  have e0 := frozen_of_row _ _ 0 _ _ q21; have e1 := frozen_of_row _ _ 1 _ _ q21; have e2 := frozen_of_row _ _ 2 _ _ q21
  have Q12 := Lib.hid q12; have Q21 := Lib.hid q21
  clear q12 q21
  go_region
  all_goals go_wp2
  all_goals (try simp only [Exit.inBlock, Exit.then])
  · have h7 := set3_at Q12.out (.slice (some ⟨w0.heap.size, 0, none⟩) n n) (.slice (some ⟨w0.heap.size + 1, 0, none⟩) m m) (.slice none 0 0)
    have b1 : Below w0.heap.size w0 (w0.alloc (.cells C1 26)) := (Below.refl _ _).alloc (Nat.le_refl _) _
    have b2 : Below (w0.alloc (.cells C1 26)).heap.size (w0.alloc (.cells C1 26)) ((w0.alloc (.cells C1 26)).alloc (.cells C2 75)) := (Below.refl _ _).alloc (Nat.le_refl _) _
    have g1 : (w0.alloc (.cells C1 26)).heap[w0.heap.size]? = some (.cells C1 26 (0, 0)) := heap_alloc_new _ _
    have g2 : ((w0.alloc (.cells C1 26)).alloc (.cells C2 75)).heap[w0.heap.size + 1]? = some (.cells C2 75 (0, 0)) := by
      have := heap_alloc_new (w0.alloc (.cells C1 26)) (.cells C2 75)
      rwa [show (w0.alloc (.cells C1 26)).heap.size = w0.heap.size + 1 by simp] at this
    have g3 := (b2.block w0.heap.size (Array.getElem?_eq_some_iff.1 g1).1).trans g1
    have b3 := b1.trans (b2.mono b1.size)
    have hd := room_done (w := w) HC1.out HC2.out HB0.out HS.out b3 g3 g2 (Nat.le_refl _) (Nat.le_succ _) (by omega) HN.out HM.out
    obtain ⟨hh, e1, e2, e3⟩ := hd
    have HD : Hid (CopiedN w (roomN n m) (.returned (.agg #[.slice (some ⟨w0.heap.size, 0, none⟩) n n, .slice (some ⟨w0.heap.size + 1, 0, none⟩) m m, .slice none 0 0])) (((((w0.alloc (.cells C1 26)).alloc (.cells C2 75)).setCell ⟨w.heap.size, 0, none⟩ (.slice (some ⟨w0.heap.size, 0, none⟩) n n)).setCell ⟨w.heap.size, 1, none⟩ (.slice (some ⟨w0.heap.size + 1, 0, none⟩) m m)).setCell ⟨w.heap.size, 2, none⟩ (.slice none 0 0)).drew) := Lib.hid ⟨hh, e1, e2.same (fun _ _ _ _ => rfl), e3.drew⟩
    refine bodyPost_ret (results_cell_row rfl _ _ w.heap.size _ _ (0, 0) _ rfl (show ((((((w0.alloc (.cells C1 26)).alloc (.cells C2 75)).setCell ⟨w.heap.size, 0, none⟩ (.slice (some ⟨w0.heap.size, 0, none⟩) n n)).setCell ⟨w.heap.size, 1, none⟩ (.slice (some ⟨w0.heap.size + 1, 0, none⟩) m m)).setCell ⟨w.heap.size, 2, none⟩ (.slice none 0 0)).drew).heap[w.heap.size]? = some (.cells #[.slice (some ⟨w0.heap.size, 0, none⟩) n n, .slice (some ⟨w0.heap.size + 1, 0, none⟩) m m, .slice none 0 0] 28 (0, 0)) from h7) Tryd.underlying28 rfl (by kernel_rfl)) rfl ?_
    exact HD.out
  · have h7 := set3_at Q21.out (.slice (some ⟨w0.heap.size + 1, 0, none⟩) n n) (.slice (some ⟨w0.heap.size, 0, none⟩) m m) (.slice none 0 0)
    have b1 : Below w0.heap.size w0 (w0.alloc (.cells C2 75)) := (Below.refl _ _).alloc (Nat.le_refl _) _
    have b2 : Below (w0.alloc (.cells C2 75)).heap.size (w0.alloc (.cells C2 75)) ((w0.alloc (.cells C2 75)).alloc (.cells C1 26)) := (Below.refl _ _).alloc (Nat.le_refl _) _
    have g1 : (w0.alloc (.cells C2 75)).heap[w0.heap.size]? = some (.cells C2 75 (0, 0)) := heap_alloc_new _ _
    have g2 : ((w0.alloc (.cells C2 75)).alloc (.cells C1 26)).heap[w0.heap.size + 1]? = some (.cells C1 26 (0, 0)) := by
      have := heap_alloc_new (w0.alloc (.cells C2 75)) (.cells C1 26)
      rwa [show (w0.alloc (.cells C2 75)).heap.size = w0.heap.size + 1 by simp] at this
    have g3 := (b2.block w0.heap.size (Array.getElem?_eq_some_iff.1 g1).1).trans g1
    have b3 := b1.trans (b2.mono b1.size)
    have hd := room_done (w := w) HC1.out HC2.out HB0.out HS.out b3 g2 g3 (Nat.le_succ _) (Nat.le_refl _) (by omega) HN.out HM.out
    obtain ⟨hh, e1, e2, e3⟩ := hd
    have HD : Hid (CopiedN w (roomN n m) (.returned (.agg #[.slice (some ⟨w0.heap.size + 1, 0, none⟩) n n, .slice (some ⟨w0.heap.size, 0, none⟩) m m, .slice none 0 0])) (((((w0.alloc (.cells C2 75)).alloc (.cells C1 26)).setCell ⟨w.heap.size, 0, none⟩ (.slice (some ⟨w0.heap.size + 1, 0, none⟩) n n)).setCell ⟨w.heap.size, 1, none⟩ (.slice (some ⟨w0.heap.size, 0, none⟩) m m)).setCell ⟨w.heap.size, 2, none⟩ (.slice none 0 0)).drew) := Lib.hid ⟨hh, e1, e2.same (fun _ _ _ _ => rfl), e3.drew⟩
    refine bodyPost_ret (results_cell_row rfl _ _ w.heap.size _ _ (0, 0) _ rfl (show ((((((w0.alloc (.cells C2 75)).alloc (.cells C1 26)).setCell ⟨w.heap.size, 0, none⟩ (.slice (some ⟨w0.heap.size + 1, 0, none⟩) n n)).setCell ⟨w.heap.size, 1, none⟩ (.slice (some ⟨w0.heap.size, 0, none⟩) m m)).setCell ⟨w.heap.size, 2, none⟩ (.slice none 0 0)).drew).heap[w.heap.size]? = some (.cells #[.slice (some ⟨w0.heap.size + 1, 0, none⟩) n n, .slice (some ⟨w0.heap.size, 0, none⟩) m m, .slice none 0 0] 28 (0, 0)) from h7) Tryd.underlying28 rfl (by kernel_rfl)) rfl ?_
    exact HD.out
end
section
set_option linter.unusedSimpArgs false
set_option linter.unusedVariables false
open Go.ChangeAt Go.ChangeShapes Go.RowKit Go.WideShapes

theorem eqItems_ints {P : Program} {e : TypeId} (he : P.underlying e = some (.int .i64)) (d n : Nat) (xs ys : List Int) (hx : xs.length = n) (hy : ys.length = n) (w : World) : ∀ is : List Nat, (∀ i ∈ is, i < n) →
    (Op.eqItems (d + 1) e 1 (xs.map (Value.int .i64)).toArray (ys.map (Value.int .i64)).toArray is).run P w = .ok (is.all fun i => xs.getD i 0 == ys.getD i 0) w
  | [], _ => by simp [Op.eqItems]
  | i :: is, h => by
    have hi : i < n := h i (by simp)
    have px : (part e (xs.map (Value.int .i64)).toArray (i * 1)).run P w = .ok (.int .i64 (xs.getD i 0)) w := by
      simp [part, isAgg, run_underlying he, List.getD, List.getElem?_eq_getElem (show i < xs.length by omega)]
    have py : (part e (ys.map (Value.int .i64)).toArray (i * 1)).run P w = .ok (.int .i64 (ys.getD i 0)) w := by
      simp [part, isAgg, run_underlying he, List.getD, List.getElem?_eq_getElem (show i < ys.length by omega)]
    have pe := run_equalIn_int w d e .i64 .i64 (xs.getD i 0) (ys.getD i 0) he
    have ih := eqItems_ints he d n xs ys hx hy w is fun j hj => h j (by simp [hj])
    simp only [Op.eqItems, Sem.run_bind, px, py, pe, Result.andThen_ok, List.all_cons]
    cases hb : (xs.getD i 0 == ys.getD i 0)
    · simp
    · simp only [Bool.not_true, Bool.false_eq_true, if_false, Bool.true_and]
      exact ih
theorem eql_counts (f g : Nat → Int) (w : World) : (binOp .eql 109 (.agg (cntA f)) (.agg (cntA g))).run Tryd.prog w = .ok (.bool ((List.range 48).all fun x => f x == g x)) w := by
  obtain ⟨i, hi⟩ := Option.isSome_iff_exists.1 (show (Tryd.prog.info? 3).isSome = true from by kernel_rfl)
  have hc : Tryd.prog.cellsOf 3 = 1 := by kernel_rfl
  have hr : (List.range 48).all (fun x => (cnts 48 f).getD x 0 == (cnts 48 g).getD x 0) = (List.range 48).all fun x => f x == g x := by
    rw [Bool.eq_iff_iff]
    simp only [List.all_eq_true, List.mem_range]
    constructor
    · intro h x hx
      have := h x hx
      rwa [cnts_at hx, cnts_at hx] at this
    · intro h x hx
      rw [cnts_at hx, cnts_at hx]; exact h x hx
  rw [run_eql_struct, run_equalIn_array w 9999 (cntA f) (cntA g) Tryd.underlying109 hi, hc]
  unfold cntA
  rw [eqItems_ints Tryd.underlying3 9998 48 (cnts 48 f) (cnts 48 g) (cnts_len _ _) (cnts_len _ _) w (List.range 48) (fun i h => List.mem_range.1 h), hr]
  rfl
theorem wpList_load_row_g {P : Program} {ops : Array Oper} {rest : List Oper} {o : Oper} {a : Act} {w : World} {Q : Exit → Act → World → Prop} (hw : Region.wanted o (yielded ops a.tmps) = true) (ty : TypeId) (x : Operand) (ho : o.op = .load ty x)
    (g : Nat) (hx : a.eval x = .pointer (some ⟨g, 0, none⟩)) (t : TypeId) (cs : Array Value) (fr : Nat × Nat) (d : TypeDesc) (hg : w.heap[g]? = some (.cells cs t fr))
    (hu : P.underlying ty = some d) (hd : (match d with | .struct _ | .array _ _ => true | _ => false) = true) (hi : (P.info? ty).map (·.size) = some cs.size)
    (h : wpList P ops Q rest (a.put o.dst (.agg cs)) w) : wpList P ops Q (o :: rest) a w := by
  unfold wpList
  rw [if_pos hw]
  exact .inl (wp_load_row ty x ho g hx t cs fr d hg hu hd hi h)
theorem size_cnt : (Tryd.prog.info? 109).map (·.size) = some 48 := by kernel_rfl
/-- What usesFit holds: the net's box and three arrays of counts. -/
structure UsSt (w wr : World) (x y z : Value) (f1 f2 f3 : Nat → Int) : Prop where
  box : wr.heap[w.heap.size]? = some (.cells #[x, y, z] 28 (0, 0))
  a1 : ArrU wr (w.heap.size + 1) f1
  a2 : ArrU wr (w.heap.size + 1 + 1) f2
  a3 : ArrU wr (w.heap.size + 1 + 1 + 1) f3
  bel : Below w.heap.size w wr
section
variable {w wr w' : World} {x y z : Value} {f f1 f2 f3 : Nat → Int}
theorem UsSt.size (h : UsSt w wr x y z f1 f2 f3) : w.heap.size + 1 + 1 + 1 < wr.heap.size := (Array.getElem?_eq_some_iff.1 h.a3).1
theorem UsSt.below (h : UsSt w wr x y z f1 f2 f3) (hb : Below wr.heap.size wr w') : UsSt w w' x y z f1 f2 f3 := by
  have hs := h.size
  exact ⟨(hb.block _ (by omega)).trans h.box, h.a1.keep (hb.block _ (by omega)), h.a2.keep (hb.block _ (by omega)), h.a3.keep (hb.block _ hs), h.bel.trans (hb.mono h.bel.size)⟩
theorem KeptS.into {S : Nat → Prop} (hb : Below w.heap.size w wr) (hk : KeptS S wr w') (hS : ∀ k, S k → w.heap.size ≤ k) : Below w.heap.size w w' :=
  hb.trans ⟨hk.os, hk.tape, hk.output, hk.size, fun k h1 => hk.block k (Nat.lt_of_lt_of_le h1 hb.size) fun e => by have := hS k e; omega⟩
theorem UsSt.k1 (h : UsSt w wr x y z f1 f2 f3) (hk : KeptS (fun k => k = w.heap.size + 1) wr w') (ha : ArrU w' (w.heap.size + 1) f) : UsSt w w' x y z f f2 f3 := by
  have hs := h.size
  exact ⟨(hk.block _ (by omega) (by omega)).trans h.box, ha, h.a2.keep (hk.block _ (by omega) (by omega)), h.a3.keep (hk.block _ hs (by omega)), KeptS.into h.bel hk fun k e => by omega⟩
theorem UsSt.k2 (h : UsSt w wr x y z f1 f2 f3) (hk : KeptS (fun k => k = w.heap.size + 1 + 1) wr w') (ha : ArrU w' (w.heap.size + 1 + 1) f) : UsSt w w' x y z f1 f f3 := by
  have hs := h.size
  exact ⟨(hk.block _ (by omega) (by omega)).trans h.box, h.a1.keep (hk.block _ (by omega) (by omega)), ha, h.a3.keep (hk.block _ hs (by omega)), KeptS.into h.bel hk fun k e => by omega⟩
theorem UsSt.k3 (h : UsSt w wr x y z f1 f2 f3) (hk : KeptS (fun k => k = w.heap.size + 1 + 1 + 1) wr w') (ha : ArrU w' (w.heap.size + 1 + 1 + 1) f) : UsSt w w' x y z f1 f2 f := by
  have hs := h.size
  exact ⟨(hk.block _ (by omega) (by omega)).trans h.box, h.a1.keep (hk.block _ (by omega) (by omega)), h.a2.keep (hk.block _ (by omega) (by omega)), ha, KeptS.into h.bel hk fun k e => by omega⟩
theorem UsSt.ext {g1 g2 g3 : Nat → Int} (h : UsSt w wr x y z f1 f2 f3) (e1 : ∀ x, f1 x = g1 x) (e2 : ∀ x, f2 x = g2 x) (e3 : ∀ x, f3 x = g3 x) : UsSt w wr x y z g1 g2 g3 := by
  obtain rfl : f1 = g1 := funext e1
  obtain rfl : f2 = g2 := funext e2
  obtain rfl : f3 = g3 := funext e3
  exact h
end
theorem usSt_new (w : World) (x y z : Value) : UsSt w ((((w.alloc (.cells #[x, y, z] 28)).alloc (.cells #[Value.int .i64 0, Value.int .i64 0, Value.int .i64 0, Value.int .i64 0, Value.int .i64 0, Value.int .i64 0, Value.int .i64 0, Value.int .i64 0, Value.int .i64 0, Value.int .i64 0, Value.int .i64 0, Value.int .i64 0, Value.int .i64 0, Value.int .i64 0, Value.int .i64 0, Value.int .i64 0, Value.int .i64 0, Value.int .i64 0, Value.int .i64 0, Value.int .i64 0, Value.int .i64 0, Value.int .i64 0, Value.int .i64 0, Value.int .i64 0, Value.int .i64 0, Value.int .i64 0, Value.int .i64 0, Value.int .i64 0, Value.int .i64 0, Value.int .i64 0, Value.int .i64 0, Value.int .i64 0, Value.int .i64 0, Value.int .i64 0, Value.int .i64 0, Value.int .i64 0, Value.int .i64 0, Value.int .i64 0, Value.int .i64 0, Value.int .i64 0, Value.int .i64 0, Value.int .i64 0, Value.int .i64 0, Value.int .i64 0, Value.int .i64 0, Value.int .i64 0, Value.int .i64 0, Value.int .i64 0] 109)).alloc (.cells #[Value.int .i64 0, Value.int .i64 0, Value.int .i64 0, Value.int .i64 0, Value.int .i64 0, Value.int .i64 0, Value.int .i64 0, Value.int .i64 0, Value.int .i64 0, Value.int .i64 0, Value.int .i64 0, Value.int .i64 0, Value.int .i64 0, Value.int .i64 0, Value.int .i64 0, Value.int .i64 0, Value.int .i64 0, Value.int .i64 0, Value.int .i64 0, Value.int .i64 0, Value.int .i64 0, Value.int .i64 0, Value.int .i64 0, Value.int .i64 0, Value.int .i64 0, Value.int .i64 0, Value.int .i64 0, Value.int .i64 0, Value.int .i64 0, Value.int .i64 0, Value.int .i64 0, Value.int .i64 0, Value.int .i64 0, Value.int .i64 0, Value.int .i64 0, Value.int .i64 0, Value.int .i64 0, Value.int .i64 0, Value.int .i64 0, Value.int .i64 0, Value.int .i64 0, Value.int .i64 0, Value.int .i64 0, Value.int .i64 0, Value.int .i64 0, Value.int .i64 0, Value.int .i64 0, Value.int .i64 0] 109)).alloc (.cells #[Value.int .i64 0, Value.int .i64 0, Value.int .i64 0, Value.int .i64 0, Value.int .i64 0, Value.int .i64 0, Value.int .i64 0, Value.int .i64 0, Value.int .i64 0, Value.int .i64 0, Value.int .i64 0, Value.int .i64 0, Value.int .i64 0, Value.int .i64 0, Value.int .i64 0, Value.int .i64 0, Value.int .i64 0, Value.int .i64 0, Value.int .i64 0, Value.int .i64 0, Value.int .i64 0, Value.int .i64 0, Value.int .i64 0, Value.int .i64 0, Value.int .i64 0, Value.int .i64 0, Value.int .i64 0, Value.int .i64 0, Value.int .i64 0, Value.int .i64 0, Value.int .i64 0, Value.int .i64 0, Value.int .i64 0, Value.int .i64 0, Value.int .i64 0, Value.int .i64 0, Value.int .i64 0, Value.int .i64 0, Value.int .i64 0, Value.int .i64 0, Value.int .i64 0, Value.int .i64 0, Value.int .i64 0, Value.int .i64 0, Value.int .i64 0, Value.int .i64 0, Value.int .i64 0, Value.int .i64 0] 109)) x y z (fun _ => 0) (fun _ => 0) (fun _ => 0) := by
  have hz : (#[Value.int .i64 0, Value.int .i64 0, Value.int .i64 0, Value.int .i64 0, Value.int .i64 0, Value.int .i64 0, Value.int .i64 0, Value.int .i64 0, Value.int .i64 0, Value.int .i64 0, Value.int .i64 0, Value.int .i64 0, Value.int .i64 0, Value.int .i64 0, Value.int .i64 0, Value.int .i64 0, Value.int .i64 0, Value.int .i64 0, Value.int .i64 0, Value.int .i64 0, Value.int .i64 0, Value.int .i64 0, Value.int .i64 0, Value.int .i64 0, Value.int .i64 0, Value.int .i64 0, Value.int .i64 0, Value.int .i64 0, Value.int .i64 0, Value.int .i64 0, Value.int .i64 0, Value.int .i64 0, Value.int .i64 0, Value.int .i64 0, Value.int .i64 0, Value.int .i64 0, Value.int .i64 0, Value.int .i64 0, Value.int .i64 0, Value.int .i64 0, Value.int .i64 0, Value.int .i64 0, Value.int .i64 0, Value.int .i64 0, Value.int .i64 0, Value.int .i64 0, Value.int .i64 0, Value.int .i64 0] : Array Value) = cntA fun _ => 0 := by unfold cntA; rw [← cnts_zero]; rfl
  rw [hz]
  obtain ⟨b1, h1, s1⟩ := box3_any w x y z 28
  generalize w.alloc (.cells #[x, y, z] 28) = u1 at *
  have b2 : Below u1.heap.size u1 (u1.alloc (.cells (cntA fun _ => 0) 109)) := (Below.refl _ _).alloc (Nat.le_refl _) _
  have h2 : (u1.alloc (.cells (cntA fun _ => 0) 109)).heap[u1.heap.size]? = some (.cells (cntA fun _ => 0) 109 (0, 0)) := heap_alloc_new _ _
  have s2 : (u1.alloc (.cells (cntA fun _ => 0) 109)).heap.size = u1.heap.size + 1 := by simp
  generalize u1.alloc (.cells (cntA fun _ => 0) 109) = u2 at *
  have b3 : Below u2.heap.size u2 (u2.alloc (.cells (cntA fun _ => 0) 109)) := (Below.refl _ _).alloc (Nat.le_refl _) _
  have h3 : (u2.alloc (.cells (cntA fun _ => 0) 109)).heap[u2.heap.size]? = some (.cells (cntA fun _ => 0) 109 (0, 0)) := heap_alloc_new _ _
  have s3 : (u2.alloc (.cells (cntA fun _ => 0) 109)).heap.size = u2.heap.size + 1 := by simp
  generalize u2.alloc (.cells (cntA fun _ => 0) 109) = u3 at *
  have b4 : Below u3.heap.size u3 (u3.alloc (.cells (cntA fun _ => 0) 109)) := (Below.refl _ _).alloc (Nat.le_refl _) _
  have h4 : (u3.alloc (.cells (cntA fun _ => 0) 109)).heap[u3.heap.size]? = some (.cells (cntA fun _ => 0) 109 (0, 0)) := heap_alloc_new _ _
  generalize u3.alloc (.cells (cntA fun _ => 0) 109) = u4 at *
  rw [s3, s2, s1] at h4
  rw [s2, s1] at h3
  rw [s1] at h2
  exact ⟨((b4.block _ (by omega)).trans ((b3.block _ (by omega)).trans ((b2.block _ (by omega)).trans h1))), (b4.block _ (by omega)).trans ((b3.block _ (by omega)).trans h2), (b4.block _ (by omega)).trans h3, h4, b1.trans ((b2.trans ((b3.trans (b4.mono b3.size)).mono b2.size)).mono b1.size)⟩
set_option maxRecDepth 100000 in
set_option maxHeartbeats 4000000 in
theorem usesFit_any (h : NH) (N : Nt) (w : World) (r : RdN w w.heap.size h N) (h1 : N.w.length ≤ 48) (h2 : N.l.length ≤ 48) (h3 : N.c.length ≤ 1048576) (hl : ∀ l ∈ N.l, inW N.w.length l.a = true ∧ inW N.w.length l.b = true ∧ inW N.w.length l.c = true) (hc : N.c.all (inW N.w.length) = true) :
    Calls Tryd.prog 64 #[.agg #[.slice h.A N.w.length h.c, .slice h.L N.l.length h.d, .slice h.C N.c.length h.e]] w fun e w' => e = .returned (.bool (evenN N)) ∧ Below w.heap.size w w' := by
  have HE := Lib.hid (even_is h1 hl hc)
  obtain ⟨u0, hu0⟩ : ∃ u0, u0 = (((w.alloc (.cells #[.slice h.A N.w.length h.c, .slice h.L N.l.length h.d, .slice h.C N.c.length h.e] 28)).alloc (.cells #[Value.int .i64 0, Value.int .i64 0, Value.int .i64 0, Value.int .i64 0, Value.int .i64 0, Value.int .i64 0, Value.int .i64 0, Value.int .i64 0, Value.int .i64 0, Value.int .i64 0, Value.int .i64 0, Value.int .i64 0, Value.int .i64 0, Value.int .i64 0, Value.int .i64 0, Value.int .i64 0, Value.int .i64 0, Value.int .i64 0, Value.int .i64 0, Value.int .i64 0, Value.int .i64 0, Value.int .i64 0, Value.int .i64 0, Value.int .i64 0, Value.int .i64 0, Value.int .i64 0, Value.int .i64 0, Value.int .i64 0, Value.int .i64 0, Value.int .i64 0, Value.int .i64 0, Value.int .i64 0, Value.int .i64 0, Value.int .i64 0, Value.int .i64 0, Value.int .i64 0, Value.int .i64 0, Value.int .i64 0, Value.int .i64 0, Value.int .i64 0, Value.int .i64 0, Value.int .i64 0, Value.int .i64 0, Value.int .i64 0, Value.int .i64 0, Value.int .i64 0, Value.int .i64 0, Value.int .i64 0] 109)).alloc (.cells #[Value.int .i64 0, Value.int .i64 0, Value.int .i64 0, Value.int .i64 0, Value.int .i64 0, Value.int .i64 0, Value.int .i64 0, Value.int .i64 0, Value.int .i64 0, Value.int .i64 0, Value.int .i64 0, Value.int .i64 0, Value.int .i64 0, Value.int .i64 0, Value.int .i64 0, Value.int .i64 0, Value.int .i64 0, Value.int .i64 0, Value.int .i64 0, Value.int .i64 0, Value.int .i64 0, Value.int .i64 0, Value.int .i64 0, Value.int .i64 0, Value.int .i64 0, Value.int .i64 0, Value.int .i64 0, Value.int .i64 0, Value.int .i64 0, Value.int .i64 0, Value.int .i64 0, Value.int .i64 0, Value.int .i64 0, Value.int .i64 0, Value.int .i64 0, Value.int .i64 0, Value.int .i64 0, Value.int .i64 0, Value.int .i64 0, Value.int .i64 0, Value.int .i64 0, Value.int .i64 0, Value.int .i64 0, Value.int .i64 0, Value.int .i64 0, Value.int .i64 0, Value.int .i64 0, Value.int .i64 0] 109)).alloc (.cells #[Value.int .i64 0, Value.int .i64 0, Value.int .i64 0, Value.int .i64 0, Value.int .i64 0, Value.int .i64 0, Value.int .i64 0, Value.int .i64 0, Value.int .i64 0, Value.int .i64 0, Value.int .i64 0, Value.int .i64 0, Value.int .i64 0, Value.int .i64 0, Value.int .i64 0, Value.int .i64 0, Value.int .i64 0, Value.int .i64 0, Value.int .i64 0, Value.int .i64 0, Value.int .i64 0, Value.int .i64 0, Value.int .i64 0, Value.int .i64 0, Value.int .i64 0, Value.int .i64 0, Value.int .i64 0, Value.int .i64 0, Value.int .i64 0, Value.int .i64 0, Value.int .i64 0, Value.int .i64 0, Value.int .i64 0, Value.int .i64 0, Value.int .i64 0, Value.int .i64 0, Value.int .i64 0, Value.int .i64 0, Value.int .i64 0, Value.int .i64 0, Value.int .i64 0, Value.int .i64 0, Value.int .i64 0, Value.int .i64 0, Value.int .i64 0, Value.int .i64 0, Value.int .i64 0, Value.int .i64 0] 109) := ⟨_, rfl⟩
  have hst := usSt_new w (.slice h.A N.w.length h.c) (.slice h.L N.l.length h.d) (.slice h.C N.c.length h.e)
  rw [← hu0] at hst
  obtain ⟨A, cA, hs, L, d, C, e0⟩ := h
  obtain ⟨ws, ls, cs⟩ := N
  dsimp only at *
  have HU0 := Lib.hid hu0; have HST := Lib.hid hst; have HR := Lib.hid r; have HL := Lib.hid (fun t (ht : t < ls.length) => hl _ (getL_mem (d := Lk.nil) ht)); have HC := Lib.hid hc
  obtain ⟨y0, y1, y2⟩ := three_cells hst.box
  clear hu0 hst r hl hc
  go_enter Tryd.func64, Tryd.ntmps64
  go_upto_region 1 with (fail)
  go_upto_region 2 with (fail)
  rw [← HU0.out]
  have HN0 : Hid (Calls Tryd.prog 56 #[.int .i64 0, .int .i64 ws.length] u0 (Gives u0 (markL 0 ws.length))) := Lib.hid (numbersFrom_any 0 ws.length u0 (by omega) (by omega))
  have HML : Hid ((markL 0 ws.length).length ≤ 1048576) := Lib.hid (by rw [markL_len]; omega)
  have HMI : Hid ((markL 0 ws.length).all (inW 48) = true) := Lib.hid (by
    rw [List.all_eq_true]
    intro z hz
    unfold markL at hz
    obtain ⟨t, ht, rfl⟩ := List.mem_map.1 hz
    have := List.mem_range.1 ht
    unfold inW
    exact decide_eq_true (by omega))
  go_wp2_with (fail)
  refine HN0.out.mono ?_
  rintro e w1 ⟨A1, c1, rfl, o1, b1⟩
  have S1 := Lib.hid (HST.out.below b1)
  have HAD := Lib.hid (add_any (w.heap.size + 1) (fun _ => 0) A1 _ c1 (markL 0 ws.length) w1 w1.heap.size S1.out.a1 (RdI.of_own o1) (ne_of_own o1 (by have := HST.out.size; omega)) HML.out HMI.out (fun x => by omega))
  clear o1 b1 y0 y1 y2
  go_wp2_with (fail)
  refine HAD.out.mono ?_
  rintro e w2 ⟨rfl, a2, k2⟩
  have S2 := Lib.hid ((S1.out.k1 k2 a2).ext (g1 := concN (markL 0 ws.length)) (g2 := fun x => madeN (ls.take 0) x) (g3 := fun x => usedN (ls.take 0) x) (fun x => by simp) (fun x => by simp [madeN]) (fun x => by simp [usedN]))
  clear HAD S1 a2 k2 HST HML HMI HN0
  obtain ⟨y0, y1, y2⟩ := three_cells S2.out.box
  go_wp2
  go_loopw [16] (fun i wx => ∃ k : Nat, k ≤ ls.length ∧ i = .int .i64 k ∧ UsSt w wx (.slice A ws.length cA) (.slice L ls.length d) (.slice C cs.length e0) (concN (markL 0 ws.length)) (fun x => madeN (ls.take k) x) (fun x => usedN (ls.take k) x)) (fun i _ => ls.length - (intOf i).toNat)
  case atStart => exact ⟨0, Nat.zero_le _, rfl, S2.out⟩
  case round =>
    obtain ⟨k, hk, rfl, hS⟩ := hrel
    clear S2 y0 y1 y2
    by_cases hlt : k < ls.length
    · obtain ⟨b, off, rfl, hbb, hcells⟩ := (HR.out.2.1.below hS.bel).at (show 0 < ls.length by omega)
      obtain ⟨x0, x1, x2, x3⟩ := hcells k hlt
      obtain ⟨hia, hib, hic⟩ := HL.out k hlt
      have hm := fun x => madeN_step hlt x
      have hu := fun x => usedN_step hlt x
      have hmb := fun x => madeN_le (ls.take k) x
      have hub := fun x => usedN_le (ls.take k) x
      have hlk : (ls.take k).length ≤ 48 := by rw [List.length_take]; omega
      obtain ⟨⟨lk, la, lb, lc⟩, hl⟩ : ∃ l, ls.getD k Lk.nil = l := ⟨_, rfl⟩
      rw [hl] at x0 x1 x2 x3 hia hib hic hm hu
      dsimp only at x0 x1 x2 x3 hia hib hic
      obtain ⟨bl, z0, z1, z2, z3, zs⟩ := lnk_any wr ⟨lk, la, lb, lc⟩ 75
      have zb : (wr.alloc (.cells #[.int .i64 lk, .int .i64 la, .int .i64 lb, .int .i64 lc] 75)).heap[wr.heap.size]? = some (.cells #[.int .i64 lk, .int .i64 la, .int .i64 lb, .int .i64 lc] 75 (0, 0)) := heap_alloc_new _ _
      dsimp only at bl z0 z1 z2 z3
      have HO2 := Lib.hid (outL_in (m := 48) (l := ⟨lk, la, lb, lc⟩) h1 hia hib hic)
      have HI2 := Lib.hid (inL_in (m := 48) (l := ⟨lk, la, lb, lc⟩) h1 hia hib)
      have HM := Lib.hid hm; have HUU := Lib.hid hu; have HMB := Lib.hid (fun x => show 0 ≤ madeN (ls.take k) x ∧ madeN (ls.take k) x ≤ 1073741824 by have := hmb x; omega); have HUB := Lib.hid (fun x => show 0 ≤ usedN (ls.take k) x ∧ usedN (ls.take k) x ≤ 1073741824 by have := hub x; omega)
      have hsz := hS.size
      have HS0 := Lib.hid hS
      obtain ⟨u1, hu1⟩ : ∃ u1, u1 = wr.alloc (.cells #[.int .i64 lk, .int .i64 la, .int .i64 lb, .int .i64 lc] 75) := ⟨_, rfl⟩
      have HU1 := Lib.hid hu1
      rw [← hu1] at bl zb
      have HBL := Lib.hid bl; have HZB := Lib.hid zb
      have S1 := Lib.hid (hS.below bl)
      have HSZ : Hid (w.heap.size + 1 + 1 + 1 < wr.heap.size) := Lib.hid hsz
      have HS1 : Hid (wr.heap.size < u1.heap.size) := Lib.hid (Array.getElem?_eq_some_iff.1 zb).1
      clear hcells hia hib hic hm hu hmb hub hlk hl bl zb zs hS hu1 hsz
      go_wp2_with (fail)
      rw [← HU1.out]
      clear z0 z1 z2 z3 x0 x1 x2 x3
      refine (show Calls Tryd.prog 91 #[.agg #[.int .i64 lk, .int .i64 la, .int .i64 lb, .int .i64 lc]] u1 (Gives u1 (outL ⟨lk, la, lb, lc⟩)) from outputsOf_any ⟨lk, la, lb, lc⟩ u1).mono ?_
      rintro e u2 ⟨A2, c2, rfl, o2, b2⟩
      have S2 := Lib.hid (S1.out.below b2)
      have ZB2 := Lib.hid ((b2.block _ HS1.out).trans HZB.out)
      have HAD := Lib.hid (add_any (w.heap.size + 1 + 1) _ A2 _ c2 (outL ⟨lk, la, lb, lc⟩) u2 u2.heap.size S2.out.a2 (RdI.of_own o2) (ne_of_own o2 (by have := HS1.out; have := HSZ.out; omega)) (Nat.le_trans (outL_len _) (by decide)) HO2.out HMB.out)
      have HS2 : Hid (wr.heap.size < u2.heap.size) := Lib.hid (Nat.lt_of_lt_of_le HS1.out b2.size)
      clear o2 b2
      go_wp2_with (fail)
      refine HAD.out.mono ?_
      rintro e u3 ⟨rfl, a3, k3⟩
      have S3 := Lib.hid (S2.out.k2 k3 a3)
      have ZB3 := Lib.hid ((k3.block _ HS2.out (by have := HSZ.out; omega)).trans ZB2.out)
      have HS3 : Hid (wr.heap.size < u3.heap.size) := Lib.hid (Nat.lt_of_lt_of_le HS2.out k3.size)
      clear a3 k3 HAD
      obtain ⟨x0, x1, x2, x3⟩ := cells4 ZB3.out
      go_wp2_with (fail)
      clear x0 x1 x2 x3
      refine (show Calls Tryd.prog 93 #[.agg #[.int .i64 lk, .int .i64 la, .int .i64 lb, .int .i64 lc]] u3 (Gives u3 (inL ⟨lk, la, lb, lc⟩)) from inputsOf_any ⟨lk, la, lb, lc⟩ u3).mono ?_
      rintro e u4 ⟨A4, c4, rfl, o4, b4⟩
      have S4 := Lib.hid (S3.out.below b4)
      have HAD := Lib.hid (add_any (w.heap.size + 1 + 1 + 1) _ A4 _ c4 (inL ⟨lk, la, lb, lc⟩) u4 u4.heap.size S4.out.a3 (RdI.of_own o4) (ne_of_own o4 (by have := HS3.out; have := HSZ.out; omega)) (Nat.le_trans (inL_len _) (by decide)) HI2.out HUB.out)
      clear o4 b4
      go_wp2_with (fail)
      refine HAD.out.mono ?_
      rintro e u5 ⟨rfl, a5, k5⟩
      have S5 := Lib.hid ((S4.out.k3 k5 a5).ext (g1 := concN (markL 0 ws.length)) (g2 := fun x => madeN (ls.take (k + 1)) x) (g3 := fun x => usedN (ls.take (k + 1)) x) (fun _ => rfl) (fun x => by rw [HM.out x, mk1_is]) (fun x => by rw [HUU.out x, us1_is]))
      clear a5 k5 HAD
      go_wp2
      go_roundw
      case rel => exact ⟨k + 1, by omega, by go_num, S5.out⟩
      case measure => simp [intOf]; omega
    · have hkl : k = ls.length := by omega
      subst hkl
      rw [List.take_length] at hS
      have HS := Lib.hid hS
      have HAD := Lib.hid (add_any (w.heap.size + 1 + 1 + 1) _ C _ e0 cs wr w.heap.size hS.a3 (HR.out.2.2.below hS.bel) (ne_of_rd (HR.out.2.2) (by omega)) h3 (by
        rw [List.all_eq_true]
        exact fun z hz => inW_mono h1 ((List.all_eq_true.1 HC.out) z hz)) (fun x => by have := usedN_le ls x; omega))
      obtain ⟨y0, y1, y2⟩ := three_cells hS.box
      clear hS
      go_wp2_with (fail)
      refine HAD.out.mono ?_
      rintro e w6 ⟨rfl, a6, k6⟩
      have S6 := Lib.hid (HS.out.k3 k6 a6)
      clear a6 k6 HAD HS y0 y1 y2
      have HEV := HE.out
      (try dsimp only at HEV)
      have q1 := fun wx => eql_counts (fun x => madeN ls x) (concN (markL 0 ws.length)) wx
      have q2 := fun wx => eql_counts (fun x => usedN ls x + concN cs x) (concN (markL 0 ws.length)) wx
      obtain ⟨c1, hc1⟩ : ∃ c1, ((List.range 48).all fun x => madeN ls x == concN (markL 0 ws.length) x) = c1 := ⟨_, rfl⟩
      obtain ⟨c2, hc2⟩ : ∃ c2, ((List.range 48).all fun x => usedN ls x + concN cs x == concN (markL 0 ws.length) x) = c2 := ⟨_, rfl⟩
      rw [hc1] at HEV q1
      rw [hc2] at HEV q2
      have HV := Lib.hid HEV
      clear HEV hc1 hc2 HE
      have HA1 := Lib.hid S6.out.a1; have HA2 := Lib.hid S6.out.a2; have HA3 := Lib.hid S6.out.a3
      unfold ArrU at HA1 HA2 HA3
      have z1 : (cntA (concN (markL 0 ws.length))).size = 48 := cntA_len _
      have z2 : (cntA (fun x => madeN ls x)).size = 48 := cntA_len _
      have z3 : (cntA (fun x => usedN ls x + concN cs x)).size = 48 := cntA_len _
      have Z1 := Lib.hid z1; have Z2 := Lib.hid z2; have Z3 := Lib.hid z3
      clear z1 z2 z3
      generalize cntA (concN (markL 0 ws.length)) = K1 at *
      generalize cntA (fun x => madeN ls x) = K2 at *
      generalize cntA (fun x => usedN ls x + concN cs x) = K3 at *
      cases c1 with
      | false =>
        go_wp2_with (first
          | (refine wpList_load_row rfl _ _ rfl (w.heap.size + 1) rfl _ _ _ _ HA1.out Tryd.underlying109 rfl (by rw [Z1.out]; exact size_cnt) ?_)
          | (refine wpList_load_row rfl _ _ rfl (w.heap.size + 1 + 1) rfl _ _ _ _ HA2.out Tryd.underlying109 rfl (by rw [Z2.out]; exact size_cnt) ?_))
        go_ret
        exact ⟨ret_bool' HV.out.symm, S6.out.bel⟩
      | true =>
        rw [Bool.true_and] at HV
        go_wp2_with (first
          | (refine wpList_load_row rfl _ _ rfl (w.heap.size + 1) rfl _ _ _ _ HA1.out Tryd.underlying109 rfl (by rw [Z1.out]; exact size_cnt) ?_)
          | (refine wpList_load_row rfl _ _ rfl (w.heap.size + 1 + 1) rfl _ _ _ _ HA2.out Tryd.underlying109 rfl (by rw [Z2.out]; exact size_cnt) ?_)
          | (refine wpList_load_row_g (by rfl) _ _ rfl (w.heap.size + 1) rfl _ _ _ _ HA1.out Tryd.underlying109 rfl (by rw [Z1.out]; exact size_cnt) ?_)
          | (refine wpList_load_row_g (by rfl) _ _ rfl (w.heap.size + 1 + 1 + 1) rfl _ _ _ _ HA3.out Tryd.underlying109 rfl (by rw [Z3.out]; exact size_cnt) ?_))
        go_ret
        exact ⟨ret_bool' HV.out.symm, S6.out.bel⟩
end
end Go.Proofs.YtjfhbofgnagfaaaDoor
