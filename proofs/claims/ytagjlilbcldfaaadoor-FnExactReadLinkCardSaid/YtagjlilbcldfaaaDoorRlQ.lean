/- The program's ReadLink. -/
import Derived.Test.YtagjlilbcldfaaaDoorRlP
import Derived.Test.YtagjlilbcldfaaaDoorQSubA
import Derived.Test.YtagjlilbcldfaaaDoorQSeqV
import Derived.Laws.CopyOwn
import Derived.Deep.RegionWith
namespace Go.Proofs.YtagjlilbcldfaaaDoor
set_option linter.unusedSimpArgs false
set_option linter.unusedVariables false
open Go.ChangeAt Go.ChangeShapes Go.RowKit Go.WideShapes

theorem size_i64 : (Tryd.prog.info? 2).map (·.size) = some 1 := by kernel_rfl
theorem run_copy3 {w : World} {g lo : Nat} {A : Option Addr} {c : Nat} {N : List Int} (hg : w.heap[g]? = some (.cells #[.int .i64 0, .int .i64 0, .int .i64 0] 83 (0, 0)))
    (own : w.ownsRow lo 2 1 (.slice A N.length c) N.length (N.map (Value.int .i64))) :
    ∃ v' w', (Builtin.copy_ #[34, 34] 3 #[.slice (some ⟨g, 0, none⟩) 3 3, .slice A N.length c]).run Tryd.prog w = .ok v' w' ∧ w'.heap[g]? = some (.cells #[.int .i64 (N.getD 0 0), .int .i64 (N.getD 1 0), .int .i64 (N.getD 2 0)] 83 (0, 0)) ∧ Below g w w' := by
  by_cases h0 : N.length = 0
  · obtain rfl : N = [] := List.length_eq_zero_iff.1 h0
    exact ⟨_, w, run_copy_none (P := Tryd.prog) w _ _ _ 2 _ _ _ _ _ _ Tryd.underlying34 size_i64 rfl, hg, Below.refl _ _⟩
  · obtain ⟨q, cap, hv, hlo, hlt⟩ := own.form (by omega)
    have hA : A = some ⟨q, 0, none⟩ ∧ c = cap := by injection hv with x y z; exact ⟨x, z⟩
    obtain ⟨rfl, rfl⟩ := hA
    refine ⟨_, _, run_copy_row (P := Tryd.prog) w _ _ _ 2 g 0 3 3 ⟨q, 0, none⟩ N.length c #[.int .i64 0, .int .i64 0, .int .i64 0] _ ((N.take 3).map (Value.int .i64)) Tryd.underlying34 size_i64 hg (by simp only [List.length_map, List.length_take]; exact Nat.min_comm _ _) ?_ (by simp only [List.length_map, List.length_take]; show 0 + min 3 N.length ≤ 3; omega) (fun v hv => by obtain ⟨x, _, rfl⟩ := List.mem_map.1 hv; rfl), ?_, below_setRow (Below.refl _ _) (Nat.le_refl _) _⟩
    · intro j v hj
      have ea : (⟨q, 0, none⟩ : Addr).add j = ⟨q, j, none⟩ := by simp [Addr.add]; omega
      rw [ea]
      have hjl : j < ((N.take 3).map (Value.int .i64)).length := (List.getElem?_eq_some_iff.1 hj).1
      simp only [List.length_map, List.length_take] at hjl
      rw [own.cellAt j (by omega)]
      rw [List.getElem?_map, List.getElem?_take, if_pos (by omega)] at hj
      rw [List.getElem?_map]
      exact hj
    · rw [setRow_heap w g _ _ _ _ hg]
      rcases N with _ | ⟨a, _ | ⟨b, _ | ⟨d, l⟩⟩⟩ <;> simp
theorem three_row {w : World} {b : Nat} {a0 a1 a2 : Value} {t : TypeId} (h : w.heap[b]? = some (.cells #[a0, a1, a2] t (0, 0))) :
    w.cell? ⟨b, 0, none⟩ = some a0 ∧ w.cell? ⟨b, 1, none⟩ = some a1 ∧ w.cell? ⟨b, 2, none⟩ = some a2 := ⟨cell_of_row _ _ 0 _ _ (0, 0) h, cell_of_row _ _ 1 _ _ (0, 0) h, cell_of_row _ _ 2 _ _ (0, 0) h⟩

set_option maxRecDepth 100000 in
set_option maxHeartbeats 4000000 in
theorem likelyLink_any (t : ByteArray) (w : World) (hs : t.size ≤ 1048576) (hw : LWords w) (he : Errs w) :
    Calls Tryd.prog 31 #[.string t] w fun e w' => e = .returned (.agg #[.int .i64 (cd t).k, .int .i64 (cd t).a, .int .i64 (cd t).b, .int .i64 (cd t).c]) ∧ Below w.heap.size w w' := by
  have hb1 : Below w.heap.size w (w.alloc (.cells #[.int .i64 0, .int .i64 0, .int .i64 0, .int .i64 0] 25)) := (Below.refl _ _).alloc (Nat.le_refl _) _
  obtain ⟨w1, hw1⟩ : ∃ u, u = w.alloc (.cells #[.int .i64 0, .int .i64 0, .int .i64 0, .int .i64 0] 25) := ⟨_, rfl⟩
  have p1 : w1.heap[w.heap.size]? = some (.cells #[.int .i64 0, .int .i64 0, .int .i64 0, .int .i64 0] 25 (0, 0)) := by rw [hw1]; exact heap_alloc_new _ _
  have hs1 : w1.heap.size = w.heap.size + 1 := by rw [hw1]; simp
  rw [← hw1] at hb1
  have HB1 := Lib.hid hb1; have P1 := Lib.hid p1
  have HC := Lib.hid (cutWord_any t w1 (by unfold maxLen; omega))
  have HCB : (cwB t).size ≤ 1048576 := by by_cases h0 : t.size = 0
                                          · unfold cwB; split
                                            · rw [ByteArray.size_extract]; omega
                                            · exact Nat.zero_le _
                                          · have := cwB_lt h0; omega
  have HW := Lib.hid hw; have HE := Lib.hid he
  obtain ⟨N, hN⟩ : ∃ N, nsG 48 (cwB t) = N := ⟨_, rfl⟩
  obtain ⟨k, hk⟩ : ∃ k : Int, (kn (cwA t) : Int) = k := ⟨_, rfl⟩
  obtain ⟨n0, e0⟩ : ∃ n, N.getD 0 0 = n := ⟨_, rfl⟩
  obtain ⟨n1, e1⟩ : ∃ n, N.getD 1 0 = n := ⟨_, rfl⟩
  obtain ⟨n2, e2⟩ : ∃ n, N.getD 2 0 = n := ⟨_, rfl⟩
  have hD : cd t = ⟨k, n0, n1, n2⟩ := by unfold cd; rw [hN, hk, e0, e1, e2]
  rw [hD]
  have HE0 := Lib.hid (And.intro e0 (And.intro e1 e2)); have HKN := Lib.hid hk; have HNN := Lib.hid hN
  clear hb1 p1 hw he hD e0 e1 e2 hk hN
  go_enter Tryd.func31, Tryd.ntmps31
  go_wp2_with (fail)
  rw [← hw1]
  clear hw1
  refine HC.out.mono ?_
  rintro e w2 ⟨rfl, bel2⟩
  have hs2 := bel2.size
  have HB2 := Lib.hid (HB1.out.trans (bel2.mono HB1.out.size))
  have P2 := Lib.hid ((bel2.block w.heap.size (by omega)).trans P1.out)
  clear bel2 HC HB1 P1
  generalize cwA t = word at *
  generalize cwB t = rest at *
  obtain ⟨w3, hw3⟩ : ∃ u, u = w2.alloc (.cells #[.int .i64 0, .int .i64 0, .int .i64 0] 83) := ⟨_, rfl⟩
  have b3 : Below w2.heap.size w2 w3 := by rw [hw3]; exact (Below.refl _ _).alloc (Nat.le_refl _) _
  have p3 : w3.heap[w2.heap.size]? = some (.cells #[.int .i64 0, .int .i64 0, .int .i64 0] 83 (0, 0)) := by rw [hw3]; exact heap_alloc_new _ _
  have hs3 : w3.heap.size = w2.heap.size + 1 := by rw [hw3]; simp
  have HB3 := Lib.hid (HB2.out.trans (b3.mono HB2.out.size))
  have P3 := Lib.hid ((b3.block w.heap.size (by omega)).trans P2.out)
  have G3 := Lib.hid p3
  have HN := Lib.hid (likelyNumbers_any rest w3.drew HCB (HE.out.below HB3.out.drew HE.out.lt))
  clear b3 p3 P2 HB2
  obtain ⟨g, hg⟩ : ∃ g, w2.heap.size = g := ⟨_, rfl⟩
  go_wp2_with (fail)
  rw [← hw3]
  clear hw3
  rw [hg] at G3 hs3
  rw [HNN.out] at HN
  go_cut [] (fun wx => wx.heap[g]? = some (.cells #[.int .i64 n0, .int .i64 n1, .int .i64 n2] 83 (0, 0)) ∧ Below g w3 wx)
  case first =>
    go_wp2_with (fail)
    go_region_with (go_at_call 55; refine HN.out.mono ?_; rintro e w4 ⟨A, c, rfl, own4, bel4'⟩; have bel4 := undrew bel4'; obtain ⟨v5, w5, hrun, g5, b5⟩ := run_copy3 ((bel4.block g (by omega)).trans G3.out) own4; rw [HE0.out.1, HE0.out.2.1, HE0.out.2.2] at g5; have G5 := Lib.hid g5; have HB5 := Lib.hid ((bel4.mono (by omega)).trans b5); clear own4 bel4 bel4' g5 b5)
    all_goals (try go_wp2_with (fail))
    all_goals go_meet
    all_goals exact ⟨G5.out, HB5.out⟩
  case rest =>
    obtain ⟨g6, b6⟩ := hcut
    rename World => w6
    have hs6 := b6.size
    obtain ⟨q0, q1, q2⟩ := three_row g6
    have P6 := (b6.block w.heap.size (by omega)).trans P3.out
    obtain ⟨x0, x1, x2, x3⟩ := cells4 P6
    have f0 := frozen_of_row _ _ 0 _ _ P6; have f1 := frozen_of_row _ _ 1 _ _ P6; have f2 := frozen_of_row _ _ 2 _ _ P6; have f3 := frozen_of_row _ _ 3 _ _ P6
    have hb6 := HB3.out.trans (b6.mono (show w.heap.size ≤ g by omega))
    have HK := Lib.hid (kindNamed_any word w6.drew (HW.out.below hb6.drew HW.out.lt))
    rw [HKN.out] at HK
    have HG := Lib.hid (set4_at (w := w6.drew) P6 (.int .i64 k) (.int .i64 n0) (.int .i64 n1) (.int .i64 n2))
    have HB := Lib.hid (set4_below hb6.drew (Nat.le_refl _) (.int .i64 k) (.int .i64 n0) (.int .i64 n1) (.int .i64 n2))
    clear g6 b6 P6 hb6 HN HB3 P3 G3
    go_wp2_with (fail)
    go_region_with (go_at_call 56; refine HK.out.mono ?_; rintro e w' ⟨rfl, rfl⟩)
    all_goals go_wp2
    all_goals (try simp only [Exit.inBlock, Exit.then])
    all_goals
      refine bodyPost_ret (results_cell_row rfl _ _ w.heap.size _ _ (0, 0) _ rfl HG.out Tryd.underlying25 rfl (by kernel_rfl)) rfl ?_
      exact ⟨rfl, HB.out⟩
end Go.Proofs.YtagjlilbcldfaaaDoor
