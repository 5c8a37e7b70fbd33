/- The program's netWithRoom. Nets placed one behind the other. Plain mathematics. The program's copyOfNet. Made by mkpgr.py. Sources, targets and kinds of links, of the model. -/
import Derived.Test.YtdcommmefehlgaaDoorQSubA
import Derived.Test.YtdcommmefehlgaaDoorQNetW
import Derived.Test.YtdcommmefehlgaaDoorQNetO
import Derived.Test.YtdcommmefehlgaaDoorPgO
import Derived.Test.YtdcommmefehlgaaDoorNetY
namespace Go.Proofs.YtdcommmefehlgaaDoor
set_option linter.unusedSimpArgs false
set_option linter.unusedVariables false
section
set_option linter.unusedSimpArgs false
set_option linter.unusedVariables false
open Go.ChangeAt Go.ChangeShapes Go.RowKit Go.WideShapes

theorem made4 (m : Nat) : (madeCells #[Value.int .i64 0, Value.int .i64 0, Value.int .i64 0, Value.int .i64 0] (m * 4)).toList = List.replicate (m * 4) (Value.int .i64 0) := by
  apply List.ext_getElem?
  intro j
  by_cases hj : j < m * 4
  · have : j % 4 = 0 ∨ j % 4 = 1 ∨ j % 4 = 2 ∨ j % 4 = 3 := by omega
    rcases this with e | e | e | e <;> simp [madeCells, hj, e]
  · simp [madeCells, hj]
theorem flL_room (m : Nat) : (flL (List.replicate m Lk.nil)).map (Value.int .i64) = List.replicate (m * 4) (Value.int .i64 0) := by
  induction m with
  | zero => rfl
  | succ m ih =>
    rw [List.replicate_succ, show (m + 1) * 4 = m * 4 + 1 + 1 + 1 + 1 by omega, List.replicate_succ, List.replicate_succ, List.replicate_succ, List.replicate_succ]
    simp only [flL, Lk.nil, List.map_cons]
    rw [show (⟨0, 0, 0, 0⟩ : Lk) = Lk.nil from rfl, ih]
theorem rowV_room (n : Nat) : rowV (fun _ => (none, 0)) (List.replicate n ([] : List Int)) = List.replicate n (Value.slice none 0 0) := by
  apply List.ext_getElem?
  intro j
  by_cases hj : j < n
  · rw [rowV_at (by simpa using hj)]
    simp [hv, hj, List.getD]
  · rw [List.getElem?_eq_none (by simp [rowV]; omega), List.getElem?_eq_none (by simp; omega)]
theorem room_own {w : World} {lo g1 g2 n m : Nat} (h1 : w.heap[g1]? = some (.cells (madeCells (Value.slice none 0 0).cells (n * 1)) 24 (0, 0))) (h2 : w.heap[g2]? = some (.cells (madeCells #[Value.int .i64 0, Value.int .i64 0, Value.int .i64 0, Value.int .i64 0] (m * 4)) 72 (0, 0)))
    (l1 : lo ≤ g1) (l2 : lo ≤ g2) (hne : g1 ≠ g2) (hn : n ≤ 1048576) (hm : m ≤ 1048576) : OwnN w lo w.heap.size ⟨some ⟨g1, 0, none⟩, n, fun _ => (none, 0), some ⟨g2, 0, none⟩, m, none, 0⟩ (roomN n m) := by
  have b1 : g1 < w.heap.size := (Array.getElem?_eq_some_iff.1 h1).1
  have b2 : g2 < w.heap.size := (Array.getElem?_eq_some_iff.1 h2).1
  have o1 : w.ownsRow g1 24 1 (.slice (some ⟨g1, 0, none⟩) n n) n (List.replicate n (Value.slice none 0 0)) := by
    rw [← toList_madeCells_one, show madeCells #[Value.slice none 0 0] n = madeCells (Value.slice none 0 0).cells (n * 1) by simp [Value.cells]]
    exact ⟨(by first | rfl | (simp [Value.cells, size_madeCells]; done) | (rw [List.take_of_length_le (by simp [Value.cells, size_madeCells])]) | omega), .inr ⟨g1, n, _, rfl, Nat.le_refl _, h1, (by first | rfl | (simp [Value.cells, size_madeCells]; done) | (rw [List.take_of_length_le (by simp [Value.cells, size_madeCells])]) | omega), by unfold maxLen; omega, (by first | rfl | (simp [Value.cells, size_madeCells]; done) | (rw [List.take_of_length_le (by simp [Value.cells, size_madeCells])]) | omega), (by first | rfl | (simp [Value.cells, size_madeCells]; done) | (rw [List.take_of_length_le (by simp [Value.cells, size_madeCells])]) | omega)⟩⟩
  have o2 : w.ownsRow lo 72 4 (.slice (some ⟨g2, 0, none⟩) m m) m (List.replicate (m * 4) (Value.int .i64 0)) := by
    rw [← made4]
    exact ⟨(by first | rfl | (simp [Value.cells, size_madeCells]; done) | (rw [List.take_of_length_le (by simp [Value.cells, size_madeCells])]) | omega), .inr ⟨g2, m, _, rfl, l2, h2, (by first | rfl | (simp [Value.cells, size_madeCells]; done) | (rw [List.take_of_length_le (by simp [Value.cells, size_madeCells])]) | omega), by unfold maxLen; omega, (by first | rfl | (simp [Value.cells, size_madeCells]; done) | (rw [List.take_of_length_le (by simp [Value.cells, size_madeCells])]) | omega), (by first | rfl | (simp [Value.cells, size_madeCells]; done) | (rw [List.take_of_length_le (by simp [Value.cells, size_madeCells])]) | omega)⟩⟩
  have hl : (List.replicate n ([] : List Int)).length = n := by simp
  refine OwnN.mk3 (m0 := g1) (m1 := g1 + 1) (m2 := w.heap.size) (h := ⟨some ⟨g1, 0, none⟩, n, fun _ => (none, 0), some ⟨g2, 0, none⟩, m, none, 0⟩) (N := roomN n m) ?_ ?_ ?_ (World.ownsRow_nil _ _ _ _) l1 (by omega) (by omega) (Nat.le_refl _) (Nat.le_refl _)
  · show OwnQ w g1 (g1 + 1) (.slice (some ⟨g1, 0, none⟩) (List.replicate n ([] : List Int)).length n) (fun _ => (none, 0)) (List.replicate n [])
    rw [hl]
    have hh : ∀ i, (hv (fun _ => (none, 0)) (List.replicate n ([] : List Int)) i).ownBlock = none := fun i => by
      have : ((List.replicate n ([] : List Int)).getD i []).length = 0 := by
        by_cases hi : i < n <;> simp [List.getD, hi]
      unfold hv
      rw [this]; rfl
    exact {
      outer := by rw [rowV_room, hl]; exact o1
      inner := fun i hi => by
        have : (List.replicate n ([] : List Int)).getD i [] = [] := by by_cases hi : i < n <;> simp [List.getD, hi]
        unfold hv
        rw [this]
        exact World.ownsRow_nil _ _ _ _
      apart := fun i j _ _ _ => .inl (hh i)
      apart0 := fun i _ => .inl (hh i)
      top0 := fun k e => by
        have e' : g1 = k := by simpa [Value.ownBlock] using e
        omega
      top := fun i k _ e => by rw [hh i] at e; cases e }
  · show World.ownsRow _ _ _ _ (.slice (some ⟨g2, 0, none⟩) (List.replicate m Lk.nil).length m) (List.replicate m Lk.nil).length _
    rw [List.length_replicate]
    show World.ownsRow _ _ _ _ _ _ ((flL (List.replicate m Lk.nil)).map (Value.int .i64))
    rw [flL_room]
    exact o2
  · intro b e
    have e' : g2 = b := by simpa [Value.ownBlock] using e
    omega
theorem room_heap {w0 : World} {g : Nat} {c : Array Value} {t : TypeId} (o1 o2 : Obj) (h : w0.heap[g]? = some (.cells c t (0, 0))) : ((w0.alloc o1).alloc o2).heap[g]? = some (.cells c t (0, 0)) := by
  have hg : g < w0.heap.size := (Array.getElem?_eq_some_iff.1 h).1
  have b1 : Below w0.heap.size w0 (w0.alloc o1) := (Below.refl _ _).alloc (Nat.le_refl _) _
  have b2 : Below (w0.alloc o1).heap.size (w0.alloc o1) ((w0.alloc o1).alloc o2) := (Below.refl _ _).alloc (Nat.le_refl _) _
  exact (b2.block g (Nat.lt_of_lt_of_le hg b1.size)).trans ((b1.block g hg).trans h)
theorem room_done {w w0 u : World} {g1 g2 n m : Nat} {C1 C2 : Array Value} (ec1 : madeCells (Value.slice none 0 0).cells (n * 1) = C1) (ec2 : madeCells #[Value.int .i64 0, Value.int .i64 0, Value.int .i64 0, Value.int .i64 0] (m * 4) = C2) (hb : Below w.heap.size w w0) (hs : w.heap.size + 1 = w0.heap.size) (b4 : Below w0.heap.size w0 u) (h1 : u.heap[g1]? = some (.cells C1 24 (0, 0))) (h2 : u.heap[g2]? = some (.cells C2 72 (0, 0)))
    (l1 : w0.heap.size ≤ g1) (l2 : w0.heap.size ≤ g2) (hne : g1 ≠ g2) (hn : n ≤ 1048576) (hm : m ≤ 1048576) :
    CopiedN w (roomN n m) (.returned (.agg #[.slice (some ⟨g1, 0, none⟩) n n, .slice (some ⟨g2, 0, none⟩) m m, .slice none 0 0])) (((u.setCell ⟨w.heap.size, 0, none⟩ (.slice (some ⟨g1, 0, none⟩) n n)).setCell ⟨w.heap.size, 1, none⟩ (.slice (some ⟨g2, 0, none⟩) m m)).setCell ⟨w.heap.size, 2, none⟩ (.slice none 0 0)) := by
  subst ec1 ec2
  have o := room_own (lo := w0.heap.size) h1 h2 l1 l2 hne hn hm
  have := own_done0 (w := w) hb b4 o (by omega)
  have e1 : (roomN n m).w.length = n := by simp [roomN]
  have e2 : (roomN n m).l.length = m := by simp [roomN]
  have e3 : (roomN n m).c.length = 0 := by simp [roomN]
  rw [e1, e2, e3] at this
  exact this
set_option maxHeartbeats 2000000 in
theorem netWithRoom_any (n m : Nat) (w : World) (hn : n ≤ 1048576) (hm : m ≤ 1048576) :
    Calls Tryd.prog 43 #[.int .i64 n, .int .i64 m] w (CopiedN w (roomN n m)) := by
  obtain ⟨i1, hi1, hz1, hs1, hb1⟩ := info_parts_s
  obtain ⟨i2, hi2, hz2, hs2, hb2⟩ := info_parts_link
  have mk1 : ∀ wx : World, (Instr.makeSlice 22 (.int .i64 n) (.int .i64 n)).run Tryd.prog wx = .ok (.slice (some ⟨wx.heap.size, 0, none⟩) n n) (wx.alloc (.cells (madeCells (Value.slice none 0 0).cells (n * 1)) 24)) := fun wx => by
    have hr := run_make (P := Tryd.prog) wx 22 24 i1 (.slice none 0 0) Tryd.underlying22 hi1 hz1 .i64 .i64 n n (by omega) (Int.le_refl _) (by rw [hb1]; omega) (by omega)
    simp only [Int.toNat_natCast, hs1] at hr
    exact hr
  have mk2 : ∀ wx : World, (Instr.makeSlice 28 (.int .i64 m) (.int .i64 m)).run Tryd.prog wx = .ok (.slice (some ⟨wx.heap.size, 0, none⟩) m m) (wx.alloc (.cells (madeCells #[Value.int .i64 0, Value.int .i64 0, Value.int .i64 0, Value.int .i64 0] (m * 4)) 72)) := fun wx => by
    have hr := run_make (P := Tryd.prog) wx 28 72 i2 (.agg #[Value.int .i64 0, Value.int .i64 0, Value.int .i64 0, Value.int .i64 0]) Tryd.underlying28 hi2 hz2 .i64 .i64 m m (by omega) (Int.le_refl _) (by rw [hb2]; omega) (by omega)
    simp only [Int.toNat_natCast, hs2] at hr
    exact hr
  clear hi1 hz1 hs1 hb1 hi2 hz2 hs2 hb2
  obtain ⟨C1, hC1⟩ : ∃ C, madeCells (Value.slice none 0 0).cells (n * 1) = C := ⟨_, rfl⟩
  obtain ⟨C2, hC2⟩ : ∃ C, madeCells #[Value.int .i64 0, Value.int .i64 0, Value.int .i64 0, Value.int .i64 0] (m * 4) = C := ⟨_, rfl⟩
  rw [hC1] at mk1
  rw [hC2] at mk2
  have HC1 := Lib.hid hC1; have HC2 := Lib.hid hC2; have HN := Lib.hid hn; have HM := Lib.hid hm
  clear hC1 hC2 hn hm
  obtain ⟨w0, hw0⟩ : ∃ w0, w0 = w.alloc (.cells #[.slice none 0 0, .slice none 0 0, .slice none 0 0] 30) := ⟨_, rfl⟩
  have HB0 : Hid (Below w.heap.size w w0) := Lib.hid (by rw [hw0]; exact (Below.refl _ _).alloc (Nat.le_refl _) _)
  have HG : Hid (w0.heap[w.heap.size]? = some (.cells #[.slice none 0 0, .slice none 0 0, .slice none 0 0] 30 (0, 0))) := Lib.hid (by rw [hw0]; exact heap_alloc_new _ _)
  have HS : Hid (w.heap.size + 1 = w0.heap.size) := Lib.hid (by rw [hw0]; simp)
  go_enter Tryd.func43, Tryd.ntmps43
  go_upto_region 1 with (fail)
  rw [← hw0]
  clear hw0
  have q12 := room_heap (.cells C1 24) (.cells C2 72) HG.out
  have q21 := room_heap (.cells C2 72) (.cells C1 24) HG.out
  obtain ⟨a0, a1, a2⟩ := three_cells q12
  obtain ⟨d0, d1, d2⟩ := three_cells q21
  have f0 := frozen_of_row _ _ 0 _ _ q12; have f1 := frozen_of_row _ _ 1 _ _ q12; have f2 := frozen_of_row _ _ 2 _ _ q12
  have e0 := frozen_of_row _ _ 0 _ _ q21; have e1 := frozen_of_row _ _ 1 _ _ q21; have e2 := frozen_of_row _ _ 2 _ _ q21
  have Q12 := Lib.hid q12; have Q21 := Lib.hid q21
  clear q12 q21
  go_region
  all_goals go_wp2
  all_goals (try simp only [Exit.inBlock, Exit.then])
  · have h7 := set3_at Q12.out (.slice (some ⟨w0.heap.size, 0, none⟩) n n) (.slice (some ⟨w0.heap.size + 1, 0, none⟩) m m) (.slice none 0 0)
    have b1 : Below w0.heap.size w0 (w0.alloc (.cells C1 24)) := (Below.refl _ _).alloc (Nat.le_refl _) _
    have b2 : Below (w0.alloc (.cells C1 24)).heap.size (w0.alloc (.cells C1 24)) ((w0.alloc (.cells C1 24)).alloc (.cells C2 72)) := (Below.refl _ _).alloc (Nat.le_refl _) _
    have g1 : (w0.alloc (.cells C1 24)).heap[w0.heap.size]? = some (.cells C1 24 (0, 0)) := heap_alloc_new _ _
    have g2 : ((w0.alloc (.cells C1 24)).alloc (.cells C2 72)).heap[w0.heap.size + 1]? = some (.cells C2 72 (0, 0)) := by
      have := heap_alloc_new (w0.alloc (.cells C1 24)) (.cells C2 72)
      rwa [show (w0.alloc (.cells C1 24)).heap.size = w0.heap.size + 1 by simp] at this
    have g3 := (b2.block w0.heap.size (Array.getElem?_eq_some_iff.1 g1).1).trans g1
    have b3 := b1.trans (b2.mono b1.size)
    have hd := room_done (w := w) HC1.out HC2.out HB0.out HS.out b3 g3 g2 (Nat.le_refl _) (Nat.le_succ _) (by omega) HN.out HM.out
    obtain ⟨hh, e1, e2, e3⟩ := hd
    have HD : Hid (CopiedN w (roomN n m) (.returned (.agg #[.slice (some ⟨w0.heap.size, 0, none⟩) n n, .slice (some ⟨w0.heap.size + 1, 0, none⟩) m m, .slice none 0 0])) (((((w0.alloc (.cells C1 24)).alloc (.cells C2 72)).setCell ⟨w.heap.size, 0, none⟩ (.slice (some ⟨w0.heap.size, 0, none⟩) n n)).setCell ⟨w.heap.size, 1, none⟩ (.slice (some ⟨w0.heap.size + 1, 0, none⟩) m m)).setCell ⟨w.heap.size, 2, none⟩ (.slice none 0 0)).drew) := Lib.hid ⟨hh, e1, e2.same (fun _ _ _ _ => rfl), e3.drew⟩
    refine bodyPost_ret (results_cell_row rfl _ _ w.heap.size _ _ (0, 0) _ rfl (show ((((((w0.alloc (.cells C1 24)).alloc (.cells C2 72)).setCell ⟨w.heap.size, 0, none⟩ (.slice (some ⟨w0.heap.size, 0, none⟩) n n)).setCell ⟨w.heap.size, 1, none⟩ (.slice (some ⟨w0.heap.size + 1, 0, none⟩) m m)).setCell ⟨w.heap.size, 2, none⟩ (.slice none 0 0)).drew).heap[w.heap.size]? = some (.cells #[.slice (some ⟨w0.heap.size, 0, none⟩) n n, .slice (some ⟨w0.heap.size + 1, 0, none⟩) m m, .slice none 0 0] 30 (0, 0)) from h7) Tryd.underlying30 rfl (by kernel_rfl)) rfl ?_
    exact HD.out
  · have h7 := set3_at Q21.out (.slice (some ⟨w0.heap.size + 1, 0, none⟩) n n) (.slice (some ⟨w0.heap.size, 0, none⟩) m m) (.slice none 0 0)
    have b1 : Below w0.heap.size w0 (w0.alloc (.cells C2 72)) := (Below.refl _ _).alloc (Nat.le_refl _) _
    have b2 : Below (w0.alloc (.cells C2 72)).heap.size (w0.alloc (.cells C2 72)) ((w0.alloc (.cells C2 72)).alloc (.cells C1 24)) := (Below.refl _ _).alloc (Nat.le_refl _) _
    have g1 : (w0.alloc (.cells C2 72)).heap[w0.heap.size]? = some (.cells C2 72 (0, 0)) := heap_alloc_new _ _
    have g2 : ((w0.alloc (.cells C2 72)).alloc (.cells C1 24)).heap[w0.heap.size + 1]? = some (.cells C1 24 (0, 0)) := by
      have := heap_alloc_new (w0.alloc (.cells C2 72)) (.cells C1 24)
      rwa [show (w0.alloc (.cells C2 72)).heap.size = w0.heap.size + 1 by simp] at this
    have g3 := (b2.block w0.heap.size (Array.getElem?_eq_some_iff.1 g1).1).trans g1
    have b3 := b1.trans (b2.mono b1.size)
    have hd := room_done (w := w) HC1.out HC2.out HB0.out HS.out b3 g2 g3 (Nat.le_succ _) (Nat.le_refl _) (by omega) HN.out HM.out
    obtain ⟨hh, e1, e2, e3⟩ := hd
    have HD : Hid (CopiedN w (roomN n m) (.returned (.agg #[.slice (some ⟨w0.heap.size + 1, 0, none⟩) n n, .slice (some ⟨w0.heap.size, 0, none⟩) m m, .slice none 0 0])) (((((w0.alloc (.cells C2 72)).alloc (.cells C1 24)).setCell ⟨w.heap.size, 0, none⟩ (.slice (some ⟨w0.heap.size + 1, 0, none⟩) n n)).setCell ⟨w.heap.size, 1, none⟩ (.slice (some ⟨w0.heap.size, 0, none⟩) m m)).setCell ⟨w.heap.size, 2, none⟩ (.slice none 0 0)).drew) := Lib.hid ⟨hh, e1, e2.same (fun _ _ _ _ => rfl), e3.drew⟩
    refine bodyPost_ret (results_cell_row rfl _ _ w.heap.size _ _ (0, 0) _ rfl (show ((((((w0.alloc (.cells C2 72)).alloc (.cells C1 24)).setCell ⟨w.heap.size, 0, none⟩ (.slice (some ⟨w0.heap.size + 1, 0, none⟩) n n)).setCell ⟨w.heap.size, 1, none⟩ (.slice (some ⟨w0.heap.size, 0, none⟩) m m)).setCell ⟨w.heap.size, 2, none⟩ (.slice none 0 0)).drew).heap[w.heap.size]? = some (.cells #[.slice (some ⟨w0.heap.size + 1, 0, none⟩) n n, .slice (some ⟨w0.heap.size, 0, none⟩) m m, .slice none 0 0] 30 (0, 0)) from h7) Tryd.underlying30 rfl (by kernel_rfl)) rfl ?_
    exact HD.out
end
section
set_option linter.unusedSimpArgs false
set_option linter.unusedVariables false
open Go.ChangeAt Go.ChangeShapes Go.RowKit Go.WideShapes

theorem mapL_same {N : Nt} (hv : valN N = true) {l : Lk} (hl : l ∈ N.l) : mapL (markL 0 N.w.length) l = l := by
  have hk := (List.all_eq_true.1 (valN_fits hv)) l hl
  obtain ⟨ha, hb, hc, hr⟩ := fitsN_yes hk
  have hkd := fitsN_kind hk
  obtain ⟨_, a1, a2⟩ := inW_yes ha
  obtain ⟨_, b1, b2⟩ := inW_yes hb
  obtain ⟨_, c1, c2⟩ := inW_yes hc
  obtain ⟨k, a, b, c⟩ := l
  dsimp only at *
  unfold mapL
  dsimp only
  rw [markL_at _ _ _ a1, markL_at _ _ _ b1, markL_at _ _ _ c1]
  by_cases h3 : k = 3 ∨ k = 4
  · rw [if_pos h3]
    congr 1 <;> omega
  · rw [if_neg h3]
    have h12 : k = 1 ∨ k = 2 := by omega
    unfold rightN at hr
    rw [if_pos h12, Bool.and_eq_true] at hr
    have := of_decide_eq_true hr.1
    dsimp only at this
    congr 1 <;> omega
theorem plc_first {N : Nt} (hv : valN N = true) (x y : Nat) : plN (markL 0 N.w.length) (markL 0 N.l.length) N (roomN (N.w.length + x) (N.l.length + y)) = ⟨N.w ++ List.replicate x [], N.l ++ List.replicate y Lk.nil, N.c⟩ := by
  unfold plN roomN
  have e0 : N.l.map (mapL (markL 0 N.w.length)) = N.l := by
    conv => rhs; rw [← List.map_id N.l]
    exact List.map_congr_left fun l hl => mapL_same hv hl
  have e1 := plS_run (d := ([] : List Int)) (xs := N.w) (s := 0) (n := N.w.length) (X := []) (Y := List.replicate (N.w.length + x) []) rfl (Nat.le_refl _) (by simp) N.w.length (Nat.le_refl _)
  have e2 := plS_run (d := Lk.nil) (xs := N.l) (s := 0) (n := N.l.length) (X := []) (Y := List.replicate (N.l.length + y) Lk.nil) rfl (Nat.le_refl _) (by simp) N.l.length (Nat.le_refl _)
  simp only [List.nil_append, List.take_length, List.drop_replicate, Nat.add_sub_cancel_left, Int.natCast_zero] at e1 e2
  have e3 : N.c.map (fun x => (markL 0 N.w.length).getD x.toNat 0) = N.c := by
    conv => rhs; rw [← List.map_id N.c]
    refine List.map_congr_left fun z hz => ?_
    obtain ⟨_, z1, z2⟩ := inW_yes ((List.all_eq_true.1 (valN_concl hv)) z hz)
    rw [markL_at _ _ _ z1]
    simp only [id]
    omega
  dsimp only
  rw [e0, e3, List.nil_append]
  exact congr (congr (congrArg Nt.mk e1) e2) rfl
theorem plc_copy {N : Nt} (hv : valN N = true) : plN (markL 0 N.w.length) (markL 0 N.l.length) N (roomN N.w.length N.l.length) = N := by
  have := plc_first hv 0 0
  simpa using this
/-- Two nets side by side. -/
def unN (A B : Nt) : Nt := ⟨A.w ++ B.w, A.l ++ B.l.map (mapL (markL A.w.length B.w.length)), A.c ++ B.c.map fun x => (markL A.w.length B.w.length).getD x.toNat 0⟩
theorem plc_second (A B : Nt) : plN (markL A.w.length B.w.length) (markL A.l.length B.l.length) B ⟨A.w ++ List.replicate B.w.length [], A.l ++ List.replicate B.l.length Lk.nil, A.c⟩ = unN A B := by
  unfold plN unN
  have e1 := plS_run (d := ([] : List Int)) (xs := B.w) (s := A.w.length) (n := B.w.length) (X := A.w) (Y := List.replicate B.w.length []) rfl (Nat.le_refl _) (by simp) B.w.length (Nat.le_refl _)
  have e2 := plS_run (d := Lk.nil) (xs := B.l.map (mapL (markL A.w.length B.w.length))) (s := A.l.length) (n := B.l.length) (X := A.l) (Y := List.replicate B.l.length Lk.nil) rfl (by simp) (by simp) B.l.length (by simp)
  have e4 : (B.l.map (mapL (markL A.w.length B.w.length))).take B.l.length = B.l.map (mapL (markL A.w.length B.w.length)) := by
    rw [List.take_of_length_le (by simp)]
  simp only [List.take_length, List.drop_replicate, Nat.sub_self, List.replicate_zero, List.append_nil, e4] at e1 e2
  dsimp only
  exact congr (congr (congrArg Nt.mk e1) e2) rfl
end
section
set_option linter.unusedSimpArgs false
set_option linter.unusedVariables false
open Go.ChangeAt Go.ChangeShapes Go.RowKit Go.WideShapes

theorem far_new {w w' : World} {lo n c : Nat} {h : NH} {T : Nt} {t : TypeId} {A : Option Addr} {xs : List Value} (o : OwnN w lo w.heap.size h T) (ow : w'.ownsRow w.heap.size t 1 (.slice A n c) n xs) : 0 < n → ∀ b off, A = some ⟨b, off, none⟩ → FarN h T b := by
  intro hn b off e
  obtain ⟨g', cap, hv, hlo, _⟩ := ow.form hn
  subst e
  injection hv with h1 h2 h3
  injection h1 with h1
  injection h1 with h4 h5 h6
  exact o.far_ge (by omega)
theorem cp_out {w w3 u : World} {h2 : NH} {M : Nt} (hb : Below w.heap.size w w3) (hs : w.heap.size + 2 = w3.heap.size) (hw : Below w3.heap.size w3 u) (o : OwnN u w3.heap.size u.heap.size h2 M) :
    CopiedN w M (.returned (.agg #[.slice h2.A M.w.length h2.c, .slice h2.L M.l.length h2.d, .slice h2.C M.c.length h2.e])) (((u.setCell ⟨w.heap.size + 1, 0, none⟩ (.slice h2.A M.w.length h2.c)).setCell ⟨w.heap.size + 1, 1, none⟩ (.slice h2.L M.l.length h2.d)).setCell ⟨w.heap.size + 1, 2, none⟩ (.slice h2.C M.c.length h2.e)) :=
  ⟨h2, rfl, (own_setN (own_setN (own_setN o (by omega) _) (by omega) _) (by omega) _).more (by omega) (by simp), set3_below (hb.trans (hw.mono hb.size)) (show w.heap.size ≤ w.heap.size + 1 by omega) _ _ _⟩
theorem room_len' (n m : Nat) : (roomN n m).w.length = n ∧ (roomN n m).l.length = m ∧ (roomN n m).c.length = 0 := by simp [roomN]
theorem markL_in (n : Nat) : (markL 0 n).all (inW n) = true := by
  rw [List.all_eq_true]
  intro z hz
  unfold markL at hz
  obtain ⟨t, ht, rfl⟩ := List.mem_map.1 hz
  have := List.mem_range.1 ht
  unfold inW
  exact decide_eq_true (by omega)
set_option maxRecDepth 100000 in
set_option maxHeartbeats 4000000 in
theorem copyOfNet_any (h : NH) (N : Nt) (w : World) (r : RdN w w.heap.size h N) (hv : valN N = true) :
    Calls Tryd.prog 59 #[.agg #[.slice h.A N.w.length h.c, .slice h.L N.l.length h.d, .slice h.C N.c.length h.e]] w (CopiedN w N) := by
  have s1 := (valN_size hv).1; have s2 := (valN_size hv).2
  obtain ⟨w3, hw3⟩ : ∃ w3, w3 = (w.alloc (.cells #[.slice h.A N.w.length h.c, .slice h.L N.l.length h.d, .slice h.C N.c.length h.e] 30)).alloc (.cells #[.slice none 0 0, .slice none 0 0, .slice none 0 0] 30) := ⟨_, rfl⟩
  obtain ⟨hb, g0, g1, hsz⟩ := two_any' w (.cells #[.slice h.A N.w.length h.c, .slice h.L N.l.length h.d, .slice h.C N.c.length h.e] 30) (.cells #[.slice none 0 0, .slice none 0 0, .slice none 0 0] 30)
  rw [← hw3] at hb g0 g1 hsz
  obtain ⟨y0, y1, y2⟩ := three_cells g0
  have HK := Lib.hid (fun (wx : World) (hx : Below w3.heap.size w3 wx) => three_cells ((hx.block w.heap.size (by omega)).trans g0))
  have HK2 := Lib.hid (fun (wx : World) (hx : Below w3.heap.size w3 wx) => (hx.block (w.heap.size + 1) (by omega)).trans g1)
  have HB0 := Lib.hid hb
  have HS3 : Hid (w.heap.size + 2 = w3.heap.size) := Lib.hid (by omega)
  obtain ⟨T, hT⟩ : ∃ T, roomN N.w.length N.l.length = T := ⟨_, rfl⟩
  have hTl := room_len' N.w.length N.l.length
  have hcp := plc_copy hv
  rw [hT] at hTl hcp
  have HNR := Lib.hid (show Calls Tryd.prog 43 #[.int .i64 N.w.length, .int .i64 N.l.length] w3 (CopiedN w3 T) from hT ▸ netWithRoom_any N.w.length N.l.length w3 (by omega) (by omega))
  have HNW := Lib.hid (fun wx : World => show Calls Tryd.prog 45 #[.int .i64 0, .int .i64 N.w.length] wx (Gives wx (markL 0 N.w.length)) from numbersFrom_any 0 N.w.length wx (by omega) (by omega))
  have HNL := Lib.hid (fun wx : World => show Calls Tryd.prog 45 #[.int .i64 0, .int .i64 N.l.length] wx (Gives wx (markL 0 N.l.length)) from numbersFrom_any 0 N.l.length wx (by omega) (by omega))
  have HR := Lib.hid r; have HV := Lib.hid hv; have HTL := Lib.hid hTl; have HCP := Lib.hid hcp; have HSZ2 := Lib.hid (And.intro s1 s2)
  clear hb g0 g1 hsz r hv hTl hcp hT
  go_enter Tryd.func59, Tryd.ntmps59
  go_wp2_with (fail)
  rw [← hw3]
  clear hw3
  refine HNR.out.mono ?_
  rintro e u1 ⟨hR, rfl, oR, bR⟩
  obtain ⟨u2, hu2⟩ : ∃ u2, u2 = u1.alloc (.cells #[.slice hR.A T.w.length hR.c, .slice hR.L T.l.length hR.d, .slice hR.C T.c.length hR.e] 30) := ⟨_, rfl⟩
  have bx2 : Below u1.heap.size u1 u2 := by rw [hu2]; exact (Below.refl _ _).alloc (Nat.le_refl _) _
  have gx : u2.heap[u1.heap.size]? = some (.cells #[.slice hR.A T.w.length hR.c, .slice hR.L T.l.length hR.d, .slice hR.C T.c.length hR.e] 30 (0, 0)) := by rw [hu2]; exact heap_alloc_new _ _
  have hB2 : Below w3.heap.size w3 u2 := bR.trans (bx2.mono bR.size)
  have hfar := oR.far_ge (Nat.le_refl _)
  have oR2 := (oR.below bx2).size
  obtain ⟨bx, hbx⟩ : ∃ b, u1.heap.size = b := ⟨_, rfl⟩
  have hs1 := bR.size
  rw [hbx] at gx hfar hs1
  have hbx2 : bx < u2.heap.size := (Array.getElem?_eq_some_iff.1 gx).1
  have HU2 := Lib.hid hu2; have HBX := Lib.hid hbx; have HFAR := Lib.hid hfar
  have HSX : Hid (∀ wx, Below u2.heap.size u2 wx → wx.cell? ⟨bx, 0, none⟩ = some (.slice hR.A T.w.length hR.c) ∧ wx.cell? ⟨bx, 1, none⟩ = some (.slice hR.L T.l.length hR.d) ∧ wx.cell? ⟨bx, 2, none⟩ = some (.slice hR.C T.c.length hR.e) ∧ wx.cell? ⟨w.heap.size, 0, none⟩ = some (.slice h.A N.w.length h.c) ∧ wx.cell? ⟨w.heap.size, 1, none⟩ = some (.slice h.L N.l.length h.d) ∧ wx.cell? ⟨w.heap.size, 2, none⟩ = some (.slice h.C N.c.length h.e)) := Lib.hid fun wx hx => by
    obtain ⟨a0, a1, a2⟩ := three_cells ((hx.block bx hbx2).trans gx)
    obtain ⟨b0, b1, b2⟩ := HK.out wx (hB2.trans (hx.mono hB2.size))
    exact ⟨a0, a1, a2, b0, b1, b2⟩
  have HFX : Hid (∀ wx, Below u2.heap.size u2 wx → bx < wx.heap.size) := Lib.hid fun wx hx => Nat.lt_of_lt_of_le hbx2 hx.size
  have HS7 : Hid (∀ wv wx : World, Below u2.heap.size u2 wv → Below w3.heap.size w3 wx → wx.heap[bx]? = wv.heap[bx]? → wx.cell? ⟨bx, 0, none⟩ = some (.slice hR.A T.w.length hR.c) ∧ wx.cell? ⟨bx, 1, none⟩ = some (.slice hR.L T.l.length hR.d) ∧ wx.cell? ⟨bx, 2, none⟩ = some (.slice hR.C T.c.length hR.e) ∧ wx.cell? ⟨w.heap.size, 0, none⟩ = some (.slice h.A N.w.length h.c) ∧ wx.cell? ⟨w.heap.size, 1, none⟩ = some (.slice h.L N.l.length h.d) ∧ wx.cell? ⟨w.heap.size, 2, none⟩ = some (.slice h.C N.c.length h.e)) := Lib.hid fun wv wx hx hy e => by
    obtain ⟨a0, a1, a2⟩ := three_cells (e.trans ((hx.block bx hbx2).trans gx))
    obtain ⟨b0, b1, b2⟩ := HK.out wx hy
    exact ⟨a0, a1, a2, b0, b1, b2⟩
  have HS8 : Hid (∀ (wy : World) (v0 v1 v2 : Value), (∀ wx, wx = wy → wx.cell? ⟨bx, 0, none⟩ = some (.slice hR.A T.w.length hR.c) ∧ wx.cell? ⟨bx, 1, none⟩ = some (.slice hR.L T.l.length hR.d) ∧ wx.cell? ⟨bx, 2, none⟩ = some (.slice hR.C T.c.length hR.e) ∧ wx.cell? ⟨w.heap.size, 0, none⟩ = some (.slice h.A N.w.length h.c) ∧ wx.cell? ⟨w.heap.size, 1, none⟩ = some (.slice h.L N.l.length h.d) ∧ wx.cell? ⟨w.heap.size, 2, none⟩ = some (.slice h.C N.c.length h.e)) → ∀ wx, wx = ((wy.setCell ⟨w.heap.size + 1, 0, none⟩ v0).setCell ⟨w.heap.size + 1, 1, none⟩ v1).setCell ⟨w.heap.size + 1, 2, none⟩ v2 → wx.cell? ⟨bx, 0, none⟩ = some (.slice hR.A T.w.length hR.c) ∧ wx.cell? ⟨bx, 1, none⟩ = some (.slice hR.L T.l.length hR.d) ∧ wx.cell? ⟨bx, 2, none⟩ = some (.slice hR.C T.c.length hR.e) ∧ wx.cell? ⟨w.heap.size, 0, none⟩ = some (.slice h.A N.w.length h.c) ∧ wx.cell? ⟨w.heap.size, 1, none⟩ = some (.slice h.L N.l.length h.d) ∧ wx.cell? ⟨w.heap.size, 2, none⟩ = some (.slice h.C N.c.length h.e)) := Lib.hid fun wy v0 v1 v2 hs wx e => by
    subst e
    have n1 : w.heap.size + 1 ≠ bx := by have := HS3.out; omega
    have n2 : w.heap.size + 1 ≠ w.heap.size := by omega
    obtain ⟨a0, a1, a2, b0, b1, b2⟩ := hs wy rfl
    exact ⟨farW_cell (farW_cell (farW_cell a0 n1) n1) n1, farW_cell (farW_cell (farW_cell a1 n1) n1) n1, farW_cell (farW_cell (farW_cell a2 n1) n1) n1, farW_cell (farW_cell (farW_cell b0 n2) n2) n2, farW_cell (farW_cell (farW_cell b1 n2) n2) n2, farW_cell (farW_cell (farW_cell b2 n2) n2) n2⟩
  have HPL := Lib.hid (fun (wx : World) (AW : Option Addr) (cW : Nat) (AL : Option Addr) (cL : Nat) (o : OwnN wx w3.heap.size wx.heap.size hR T) (hx : Below u2.heap.size u2 wx) (rW : RdI wx wx.heap.size AW (markL 0 N.w.length).length (markL 0 N.w.length)) (fW : 0 < (markL 0 N.w.length).length → ∀ b off, AW = some ⟨b, off, none⟩ → FarN hR T b) (rL : RdI wx wx.heap.size AL (markL 0 N.l.length).length (markL 0 N.l.length)) (fL : 0 < (markL 0 N.l.length).length → ∀ b off, AL = some ⟨b, off, none⟩ → FarN hR T b) => by
    have h3 := placed_any w3 wx hR T h N AW AL cW cL (markL 0 N.w.length) (markL 0 N.l.length) o (hB2.trans (hx.mono hB2.size)) ((HR.out.below HB0.out).more HB0.out.size) rW fW rL fL HV.out (markL_len _ _) (by rw [HTL.out.1]; exact markL_in _) (markL_len _ _) (by rw [HTL.out.2.1]; exact markL_in _) (by have := HTL.out.1; have := HSZ2.out; omega) (by have := HTL.out.2.1; have := HSZ2.out; omega) (by have := HTL.out.2.2; omega)
    rw [HCP.out] at h3
    exact h3)
  have FB_0 := Lib.hid (Below.refl u2.heap.size u2)
  have FO_0 := Lib.hid oR2
  clear y0 y1 y2 oR bR bx2 gx hB2 hfar oR2 hu2 hbx
  obtain ⟨z0, z1, z2, z3, z4, z5⟩ := HSX.out u2 (Below.refl _ _)
  go_upto_region 2 with (fail)
  rw [← HU2.out, HBX.out]
  clear z0 z1 z2 z3 z4 z5
  refine wp_region_held_drew (S := fun wx => wx.cell? ⟨bx, 0, none⟩ = some (.slice hR.A T.w.length hR.c) ∧ wx.cell? ⟨bx, 1, none⟩ = some (.slice hR.L T.l.length hR.d) ∧ wx.cell? ⟨bx, 2, none⟩ = some (.slice hR.C T.c.length hR.e) ∧ wx.cell? ⟨w.heap.size, 0, none⟩ = some (.slice h.A N.w.length h.c) ∧ wx.cell? ⟨w.heap.size, 1, none⟩ = some (.slice h.L N.l.length h.d) ∧ wx.cell? ⟨w.heap.size, 2, none⟩ = some (.slice h.C N.c.length h.e)) (by kernel_rfl) (HSX.out _ (Below.refl _ _).drew) (fun hHeld => ?_)
  obtain ⟨wq1, hwq1⟩ : ∃ w', w' = u2.drew := ⟨_, rfl⟩
  rw [← hwq1] at hHeld ⊢
  have bq1 : Below u2.heap.size u2 wq1 := by rw [hwq1]; exact (Below.refl _ _).drew
  clear hwq1
  have FB_q2 := Lib.hid ((FB_0.out).trans ((bq1).mono (FB_0.out).size))
  have FO_q3 := Lib.hid (((FO_0.out).below (bq1)).size)
  clear FB_0 FO_0
  refine wpAnyH_take (i := 0) (v := ?vq4) rfl (by kernel_rfl) (by kernel_rfl) (by kernel_rfl) (fun _ _ _ h => h) (Or.inl ⟨by rfl, ?yq4⟩) (by assumption) ?_
  case yq4 => (intro w hSw; (try dsimp only at hSw); go_simp; all_goals (with_reducible rfl))
  (try simp only [Act.put, List.setIfInBounds_toArray, List.set_cons_zero, List.set_cons_succ, List.getElem_toArray, List.getElem_cons_succ, List.getElem_cons_zero])
  refine wpAnyH_take (i := 1) (v := ?vq5) rfl (by kernel_rfl) (by kernel_rfl) (by kernel_rfl) (fun _ _ _ h => h) (Or.inl ⟨by rfl, ?yq5⟩) (by assumption) ?_
  case yq5 => (intro w hSw; (try dsimp only at hSw); go_simp; all_goals (with_reducible rfl))
  (try simp only [Act.put, List.setIfInBounds_toArray, List.set_cons_zero, List.set_cons_succ, List.getElem_toArray, List.getElem_cons_succ, List.getElem_cons_zero])
  refine wpAnyH_take (i := 2) (v := ?vq6) rfl (by kernel_rfl) (by kernel_rfl) (by kernel_rfl) (fun _ _ _ h => h) (Or.inl ⟨by rfl, ?yq6⟩) (by assumption) ?_
  case yq6 => (intro w hSw; (try dsimp only at hSw); go_simp; all_goals (with_reducible rfl))
  (try simp only [Act.put, List.setIfInBounds_toArray, List.set_cons_zero, List.set_cons_succ, List.getElem_toArray, List.getElem_cons_succ, List.getElem_cons_zero])
  refine wpAnyH_take (i := 6) (v := ?vq7) rfl (by kernel_rfl) (by kernel_rfl) (by kernel_rfl) (fun _ _ _ h => h) (Or.inl ⟨by rfl, ?yq7⟩) (by assumption) ?_
  case yq7 => (intro w hSw; (try dsimp only at hSw); go_simp; all_goals (with_reducible rfl))
  (try simp only [Act.put, List.setIfInBounds_toArray, List.set_cons_zero, List.set_cons_succ, List.getElem_toArray, List.getElem_cons_succ, List.getElem_cons_zero])
  refine wpAnyH_take (i := 3) (v := ?vq8) rfl (by kernel_rfl) (by kernel_rfl) (by kernel_rfl) (fun _ _ _ h => h) (Or.inl ⟨by rfl, ?yq8⟩) (by assumption) ?_
  case yq8 => (intro w hSw; (try dsimp only at hSw); go_simp; all_goals (with_reducible rfl))
  (try simp only [Act.put, List.setIfInBounds_toArray, List.set_cons_zero, List.set_cons_succ, List.getElem_toArray, List.getElem_cons_succ, List.getElem_cons_zero])
  refine wpAnyH_take (i := 7) (v := ?vq9) rfl (by kernel_rfl) (by kernel_rfl) (by kernel_rfl) (fun _ _ _ h => h) (Or.inl ⟨by rfl, ?yq9⟩) (by assumption) ?_
  case yq9 => (intro w hSw; (try dsimp only at hSw); go_simp; all_goals (with_reducible rfl))
  (try simp only [Act.put, List.setIfInBounds_toArray, List.set_cons_zero, List.set_cons_succ, List.getElem_toArray, List.getElem_cons_succ, List.getElem_cons_zero])
  refine wpAnyH_take (i := 4) (v := ?vq10) rfl (by kernel_rfl) (by kernel_rfl) (by kernel_rfl) (fun _ _ _ h => h) (Or.inl ⟨by rfl, ?yq10⟩) (by assumption) ?_
  case yq10 => (intro w hSw; (try dsimp only at hSw); go_simp; all_goals (with_reducible rfl))
  (try simp only [Act.put, List.setIfInBounds_toArray, List.set_cons_zero, List.set_cons_succ, List.getElem_toArray, List.getElem_cons_succ, List.getElem_cons_zero])
  refine wpAnyH_take (i := 8) (v := ?vq11) rfl (by kernel_rfl) (by kernel_rfl) (by kernel_rfl) (fun _ _ _ h => h) (Or.inl ⟨by rfl, ?yq11⟩) (by assumption) ?_
  case yq11 => (intro w hSw; (try dsimp only at hSw); go_simp; all_goals (with_reducible rfl))
  (try simp only [Act.put, List.setIfInBounds_toArray, List.set_cons_zero, List.set_cons_succ, List.getElem_toArray, List.getElem_cons_succ, List.getElem_cons_zero])
  refine wpAnyH_ready (rs := [5]) (by kernel_rfl) (by simp) ?_
  refine AllReadyH.cons rfl (fun K hK => ?_) ?_
  · go_simp
    have FPq12 := FO_q3
    refine (HNW.out wq1).mono ?_
    rintro e wq12 ⟨AW, cAW, rfl, oq12, belq12⟩
    dsimp only
    have FB_q13 := Lib.hid ((FB_q2.out).trans ((belq12).mono (FB_q2.out).size))
    have FO_q14 := Lib.hid (((FO_q3.out).below (belq12)).size)
    clear FB_q2 FO_q3
    have FFFW := Lib.hid (far_new FPq12.out oq12)
    have FW_q12 := Lib.hid (RdI.of_own oq12)
    clear oq12 belq12 FPq12
    refine hK.out _ _ (HSX.out _ FB_q13.out) (fun hHeld => ?_)
    clear hK K
    (try simp only [Act.put, List.setIfInBounds_toArray, List.set_cons_zero, List.set_cons_succ, List.getElem_toArray, List.getElem_cons_succ, List.getElem_cons_zero])
    refine wpAnyH_ready (rs := [9]) (by kernel_rfl) (by simp) ?_
    refine AllReadyH.cons rfl (fun K hK => ?_) ?_
    · go_simp
      have FPq15 := FO_q14
      refine (HNL.out wq12).mono ?_
      rintro e wq15 ⟨AL, cAL, rfl, oq15, belq15⟩
      dsimp only
      have FB_q16 := Lib.hid ((FB_q13.out).trans ((belq15).mono (FB_q13.out).size))
      have FO_q17 := Lib.hid (((FO_q14.out).below (belq15)).size)
      have FW_q18 := Lib.hid (((FW_q12.out).below (belq15)).more (belq15).size)
      clear FB_q13 FO_q14 FW_q12
      have FFFL := Lib.hid (far_new FPq15.out oq15)
      have FL_q15 := Lib.hid (RdI.of_own oq15)
      clear oq15 belq15 FPq15
      refine hK.out _ _ (HSX.out _ FB_q16.out) (fun hHeld => ?_)
      clear hK K
      (try simp only [Act.put, List.setIfInBounds_toArray, List.set_cons_zero, List.set_cons_succ, List.getElem_toArray, List.getElem_cons_succ, List.getElem_cons_zero])
      refine wpAnyH_ready (rs := [10]) (by kernel_rfl) (by simp) ?_
      refine AllReadyH.cons rfl (fun K hK => ?_) ?_
      · go_simp
        refine (HPL.out wq15 AW cAW AL cAL FO_q17.out FB_q16.out FW_q18.out FFFW.out FL_q15.out FFFL.out).mono ?_
        rintro e u7 ⟨h2, rfl, o2, b2, s2, k2⟩
        dsimp only
        have FBX := HFX.out wq15 FB_q16.out
        have HO7 := Lib.hid o2; have HB7 := Lib.hid b2
        have S7 := Lib.hid (HS7.out wq15 u7 FB_q16.out b2 (k2 bx FBX (HFAR.out)).2)
        clear o2 b2 s2 k2 FBX
        refine hK.out _ _ (S7.out) (fun hHeld => ?_)
        clear hK K
        (try simp only [Act.put, List.setIfInBounds_toArray, List.set_cons_zero, List.set_cons_succ, List.getElem_toArray, List.getElem_cons_succ, List.getElem_cons_zero])
        refine wpAnyH_ready (rs := [11]) (by kernel_rfl) (by simp) ?_
        refine AllReadyH.cons rfl (fun K hK => ?_) ?_
        · have q7 := HK2.out u7 HB7.out
          obtain ⟨a0, a1, a2⟩ := three_cells q7
          have f0 := frozen_of_row _ _ 0 _ _ q7; have f1 := frozen_of_row _ _ 1 _ _ q7; have f2 := frozen_of_row _ _ 2 _ _ q7
          have H7 := Lib.hid (set3_at q7 (.slice h2.A N.w.length h2.c) (.slice h2.L N.l.length h2.d) (.slice h2.C N.c.length h2.e))
          have HF := Lib.hid (cp_out (w := w) HB0.out HS3.out HB7.out HO7.out)
          have S8 := Lib.hid (HS8.out u7 (.slice h2.A N.w.length h2.c) (.slice h2.L N.l.length h2.d) (.slice h2.C N.c.length h2.e) (fun wx e => by subst e; exact S7.out) _ rfl)
          go_simp
          clear q7 a0 a1 a2 f0 f1 f2
          refine hK.out _ _ (S8.out) (fun hHeld => ?_)
          clear hK K
          (try simp only [Act.put, List.setIfInBounds_toArray, List.set_cons_zero, List.set_cons_succ, List.getElem_toArray, List.getElem_cons_succ, List.getElem_cons_zero])
          refine wpAnyH_done (by kernel_rfl) ?_ _
          go_wp2
          (try simp only [Exit.inBlock, Exit.then])
          refine bodyPost_ret (results_cell_row rfl _ _ (w.heap.size + 1) _ _ (0, 0) _ rfl H7.out Tryd.underlying30 rfl (by kernel_rfl)) rfl ?_
          exact HF.out
        exact AllReadyH.nil
      exact AllReadyH.nil
    exact AllReadyH.nil
  exact AllReadyH.nil
end
section
open Go.ChangeAt Go.ChangeShapes Go.RowKit Go.WideShapes

/-- The wire is an output, or an input, of the link. -/
def srcB (x : Int) (l : Lk) : Bool := (l.k == 1 && (l.a == x || l.b == x)) || ((l.k == 3 || l.k == 4) && l.c == x)
def tgtB (x : Int) (l : Lk) : Bool := l.k != 1 && (l.a == x || l.b == x)
/-- The first link for which p holds, or -1. -/
def firstN (p : Lk → Bool) (ls : List Lk) : Int := match ls.findIdx? p with | some i => i | none => -1
theorem firstN_at {p : Lk → Bool} {ls : List Lk} {k : Nat} (hk : k < ls.length) (h : ∀ j, j < k → p (ls.getD j Lk.nil) = false) (hp : p (ls.getD k Lk.nil) = true) : firstN p ls = k := by
  have e : ls.findIdx? p = some k := by
    rw [List.findIdx?_eq_some_iff_getElem]
    refine ⟨hk, by simpa [List.getD, hk] using hp, fun j hj => ?_⟩
    have := h j hj
    have hj2 : j < ls.length := by omega
    simpa [List.getD, hj2] using this
  unfold firstN; rw [e]
theorem firstN_none {p : Lk → Bool} {ls : List Lk} (h : ∀ j, j < ls.length → p (ls.getD j Lk.nil) = false) : firstN p ls = -1 := by
  have e : ls.findIdx? p = none := by
    rw [List.findIdx?_eq_none_iff]
    intro l hl
    obtain ⟨j, hj, rfl⟩ := List.getElem_of_mem hl
    have := h j hj
    simpa [List.getD, hj] using this
  unfold firstN; rw [e]
theorem below_step {p : Lk → Bool} {ls : List Lk} {k : Nat} (h : ∀ j, j < k → p (ls.getD j Lk.nil) = false) (hp : p (ls.getD k Lk.nil) = false) : ∀ j, j < k + 1 → p (ls.getD j Lk.nil) = false := fun j hj => by
  by_cases e : j < k
  · exact h j e
  · obtain rfl : j = k := by omega
    exact hp
/-- SourceOf. -/
def srcN (N : Nt) (x : Int) : Int := if valN N && inW N.w.length x then firstN (srcB x) N.l else -1
/-- TargetOf. -/
def tgtN (N : Nt) (x : Int) : Int := if valN N && inW N.w.length x then firstN (tgtB x) N.l else -1
end
end Go.Proofs.YtdcommmefehlgaaDoor
