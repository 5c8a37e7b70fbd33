/- likelyStep of the program. -/
import Derived.Test.YtjgmgaccmcepdaaGreatDoorReadH
import Derived.BigRegion
namespace Go.Proofs.YtjgmgaccmcepdaaGreatDoor
open Go.ChangeAt Go.ChangeShapes Go.RowKit Go.WideShapes

/-- What a function leaves that hands back a step and a bool: its formula lies in memory of its own. -/
def GivesStep (w : World) (s : Stp) (b : Bool) (e : Ending) (w' : World) : Prop :=
  ∃ A c, e = .returned (.tuple #[Value.agg #[Value.int .i64 s.r, Value.int .i64 s.a, Value.int .i64 s.b, Value.int .i64 s.i, Value.int .i64 s.j, Value.slice A s.f.length c], .bool b]) ∧ w'.ownsRow w.heap.size 2 1 (.slice A s.f.length c) s.f.length (s.f.map (Value.int .i64)) ∧ Below w.heap.size w w'
theorem results_cell_tmpR {P : Program} {fn : Func} {p u : Tmp} {ty : TypeId} (h : fn.results = #[.cell p ty, .tmp u]) (tmps : Array Value) (w : World) (g : Nat) (t : TypeId) (cs : Array Value) (fr : Nat × Nat) (d : TypeDesc)
    (hp : tmps.getD p undef = .pointer (some ⟨g, 0, none⟩)) (hg : w.heap[g]? = some (.cells cs t fr))
    (hu : P.underlying ty = some d) (hd : (match d with | .struct _ | .array _ _ => true | _ => false) = true) (hi : (P.info? ty).map (·.size) = some cs.size) :
    (results fn tmps).run P w = .ok (.tuple #[.agg cs, tmps.getD u undef]) w := by
  have hp' : tmps[p]?.getD undef = .pointer (some ⟨g, 0, none⟩) := by simpa using hp
  rw [results_cell_tmp h]
  simp [hp', asAddr, run_loadVar_row w g t ty cs fr d hg hu hd hi, Result.andThen]
theorem rnm_lt (t : ByteArray) : rnm t < 15 := by
  unfold rnm
  cases h : (List.range 15).find? fun k => (nmB k).toList == t.toList with
  | none => exact Nat.zero_lt_succ _
  | some k => exact List.mem_range.1 (List.mem_of_find?_eq_some h)
theorem cwA_size (t : ByteArray) : (cwA t).size ≤ t.size := by
  unfold cwA
  split
  · rw [ByteArray.size_extract]; omega
  · exact Nat.le_refl _
theorem cwB_size (t : ByteArray) : (cwB t).size ≤ t.size := by
  unfold cwB
  split
  · rw [ByteArray.size_extract]; omega
  · exact Nat.zero_le _
theorem lkW_size (c : Bool) (t : ByteArray) : (lkW c t).size ≤ t.size := by
  cases c
  · exact Nat.le_refl _
  · exact cwB_size t
theorem set4_0 {w : World} {b : Nat} {c0 c1 c2 c3 : Value} {t : TypeId} (h : w.heap[b]? = some (.cells #[c0, c1, c2, c3] t (0, 0))) (v : Value) : (w.setCell ⟨b, 0, none⟩ v).heap[b]? = some (.cells #[v, c1, c2, c3] t (0, 0)) := by simpa using heap_setCell_same w b 0 _ t v h
theorem set4_1 {w : World} {b : Nat} {c0 c1 c2 c3 : Value} {t : TypeId} (h : w.heap[b]? = some (.cells #[c0, c1, c2, c3] t (0, 0))) (v : Value) : (w.setCell ⟨b, 1, none⟩ v).heap[b]? = some (.cells #[c0, v, c2, c3] t (0, 0)) := by simpa using heap_setCell_same w b 1 _ t v h
theorem set4_2 {w : World} {b : Nat} {c0 c1 c2 c3 : Value} {t : TypeId} (h : w.heap[b]? = some (.cells #[c0, c1, c2, c3] t (0, 0))) (v : Value) : (w.setCell ⟨b, 2, none⟩ v).heap[b]? = some (.cells #[c0, c1, v, c3] t (0, 0)) := by simpa using heap_setCell_same w b 2 _ t v h
theorem set4_3 {w : World} {b : Nat} {c0 c1 c2 c3 : Value} {t : TypeId} (h : w.heap[b]? = some (.cells #[c0, c1, c2, c3] t (0, 0))) (v : Value) : (w.setCell ⟨b, 3, none⟩ v).heap[b]? = some (.cells #[c0, c1, c2, v] t (0, 0)) := by simpa using heap_setCell_same w b 3 _ t v h
theorem mid4 {w : World} {b : Nat} {c0 c1 c2 c3 c4 c5 : Value} {t : TypeId} (h : w.heap[b]? = some (.cells #[c0, c1, c2, c3, c4, c5] t (0, 0))) (v1 v2 v3 v4 : Value) : ((((w.setCell ⟨b, 1, none⟩ v1).setCell ⟨b, 2, none⟩ v2).setCell ⟨b, 3, none⟩ v3).setCell ⟨b, 4, none⟩ v4).heap[b]? = some (.cells #[c0, v1, v2, v3, v4, c5] t (0, 0)) := by
  have h1 := heap_setCell_same w b 1 _ t v1 h
  have h2 := heap_setCell_same _ b 2 _ t v2 h1
  have h3 := heap_setCell_same _ b 3 _ t v3 h2
  have h4 := heap_setCell_same _ b 4 _ t v4 h3
  simpa using h4
theorem set_five {w : World} {b : Nat} {c0 c1 c2 c3 c4 c5 : Value} {t : TypeId} (h : w.heap[b]? = some (.cells #[c0, c1, c2, c3, c4, c5] t (0, 0))) (v : Value) : (w.setCell ⟨b, 5, none⟩ v).heap[b]? = some (.cells #[c0, c1, c2, c3, c4, v] t (0, 0)) := by simpa using heap_setCell_same w b 5 _ t v h

set_option maxRecDepth 100000 in
set_option maxHeartbeats 4000000 in
theorem likelyStep_no (t : ByteArray) (w : World) (hs : t.size ≤ 1048576) (hw : Words w) (h0 : rnm (cwA t) = 0) :
    Calls Tryz.prog 124 #[.string t] w (GivesStep w Stp.nil false) := by
  obtain ⟨w1, hw1⟩ : ∃ w1, w1 = w.alloc (.cells #[Value.int .i64 0, Value.int .i64 0, Value.int .i64 0, Value.int .i64 0, Value.int .i64 0, Value.slice none 0 0] 30) := ⟨_, rfl⟩
  have hb1 := box_any w (.cells #[Value.int .i64 0, Value.int .i64 0, Value.int .i64 0, Value.int .i64 0, Value.int .i64 0, Value.slice none 0 0] 30)
  have p1 : (w.alloc (.cells #[Value.int .i64 0, Value.int .i64 0, Value.int .i64 0, Value.int .i64 0, Value.int .i64 0, Value.slice none 0 0] 30)).heap[w.heap.size]? = some (.cells #[Value.int .i64 0, Value.int .i64 0, Value.int .i64 0, Value.int .i64 0, Value.int .i64 0, Value.slice none 0 0] 30 (0, 0)) := heap_alloc_new _ _
  have hs1 : (w.alloc (.cells #[Value.int .i64 0, Value.int .i64 0, Value.int .i64 0, Value.int .i64 0, Value.int .i64 0, Value.slice none 0 0] 30)).heap.size = w.heap.size + 1 := by simp
  rw [← hw1] at hb1 p1 hs1
  have HC := Lib.hid (cutWord_any t w1 (by unfold maxLen; omega))
  have H0 := Lib.hid h0
  have HW := Lib.hid hw
  have HB1 := Lib.hid hb1; have P1 := Lib.hid p1
  clear hb1 p1 hw h0
  have hne : ∀ (w : World), (binOp .eql 116 .nilIface .nilIface).run Tryz.prog w = .ok (.bool true) w := fun w => by rfl
  go_enter Tryz.func124, Tryz.ntmps124
  go_wp2_with (fail)
  rw [← hw1]
  clear hw1
  refine HC.out.mono ?_
  rintro e w2 ⟨rfl, bel2⟩
  have HB2 := Lib.hid (HB1.out.trans (bel2.mono HB1.out.size))
  have P2 := Lib.hid ((bel2.block w.heap.size (by omega)).trans P1.out)
  have HR := Lib.hid (ruleNamed_any (cwA t) w2 (HW.out.below HB2.out HW.out.lt))
  rw [H0.out, show ((0 : Nat) : Int) = 0 from rfl] at HR
  clear bel2 HC
  generalize cwA t = word at *
  generalize cwB t = rest at *
  go_wp2_with (fail)
  refine HR.out.mono ?_
  rintro e w' ⟨rfl, rfl⟩
  clear HR
  obtain ⟨w3, hw3⟩ : ∃ w3, w3 = w2.alloc (.cells #[Value.int .i64 0, Value.int .i64 0, Value.int .i64 0, Value.int .i64 0, Value.int .i64 0, Value.slice none 0 0] 30) := ⟨_, rfl⟩
  have hb3 := box_any w2 (.cells #[Value.int .i64 0, Value.int .i64 0, Value.int .i64 0, Value.int .i64 0, Value.int .i64 0, Value.slice none 0 0] 30)
  have p3 : (w2.alloc (.cells #[Value.int .i64 0, Value.int .i64 0, Value.int .i64 0, Value.int .i64 0, Value.int .i64 0, Value.slice none 0 0] 30)).heap[w2.heap.size]? = some (.cells #[Value.int .i64 0, Value.int .i64 0, Value.int .i64 0, Value.int .i64 0, Value.int .i64 0, Value.slice none 0 0] 30 (0, 0)) := heap_alloc_new _ _
  rw [← hw3] at hb3 p3
  have HB3 := Lib.hid (HB2.out.trans (hb3.mono HB2.out.size))
  have P3 := Lib.hid ((hb3.block w.heap.size (by have := HB2.out.size; have := P2.out; exact (Array.getElem?_eq_some_iff.1 P2.out).1)).trans P2.out)
  have x0 := cell_of_row _ _ 0 _ _ (0, 0) p3
  have x0' : (w2.alloc (.cells #[Value.int .i64 0, Value.int .i64 0, Value.int .i64 0, Value.int .i64 0, Value.int .i64 0, Value.slice none 0 0] 30)).cell? ⟨w2.heap.size, 0, none⟩ = some (.int .i64 0) := by rw [← hw3]; exact x0
  have HRO := Lib.hid (ruleOf_none w3 0 (by omega))
  clear hb3 p3 x0
  go_wp2_with (fail)
  rw [← hw3]
  clear hw3 x0'
  refine HRO.out.mono ?_
  rintro e w' ⟨rfl, rfl⟩
  have q1 := P3.out
  have y0 := cell_of_row _ _ 0 _ _ (0, 0) q1; have y1 := cell_of_row _ _ 1 _ _ (0, 0) q1; have y2 := cell_of_row _ _ 2 _ _ (0, 0) q1
  have y3 := cell_of_row _ _ 3 _ _ (0, 0) q1; have y4 := cell_of_row _ _ 4 _ _ (0, 0) q1; have y5 := cell_of_row _ _ 5 _ _ (0, 0) q1
  have u0 := frozen_of_row _ _ 0 _ _ q1; have u1 := frozen_of_row _ _ 1 _ _ q1; have u2 := frozen_of_row _ _ 2 _ _ q1
  have u3 := frozen_of_row _ _ 3 _ _ q1; have u4 := frozen_of_row _ _ 4 _ _ q1; have u5 := frozen_of_row _ _ 5 _ _ q1
  have H6 := Lib.hid (set6_at q1 (.int .i64 0) (.int .i64 0) (.int .i64 0) (.int .i64 0) (.int .i64 0) (.slice none 0 0))
  have HB6 := Lib.hid (set6_below HB3.out (Nat.le_refl _) (.int .i64 0) (.int .i64 0) (.int .i64 0) (.int .i64 0) (.int .i64 0) (.slice none 0 0))
  clear q1 HRO P1 P2 P3 HB1 HB2 HB3
  go_wp2
  (try simp only [Exit.inBlock, Exit.then])
  refine bodyPost_ret (results_cell_tmpR rfl _ _ w.heap.size _ _ (0, 0) _ rfl H6.out Tryz.underlying30 rfl (by kernel_rfl)) rfl ?_
  exact ⟨none, 0, rfl, World.ownsRow_nil _ _ _ _, HB6.out⟩

set_option maxRecDepth 100000 in
set_option maxHeartbeats 16000000 in
theorem likelyStep_yes (t : ByteArray) (w : World) (hs : t.size ≤ 1048576) (ht : Arit w) (hu : Dual w) (hw : Words w) (he : Errs w) (h0 : rnm (cwA t) ≠ 0) :
    Calls Tryz.prog 124 #[.string t] w (GivesStep w (lkS t) true) := by
  obtain ⟨w1, hw1⟩ : ∃ w1, w1 = w.alloc (.cells #[Value.int .i64 0, Value.int .i64 0, Value.int .i64 0, Value.int .i64 0, Value.int .i64 0, Value.slice none 0 0] 30) := ⟨_, rfl⟩
  have hb1 := box_any w (.cells #[Value.int .i64 0, Value.int .i64 0, Value.int .i64 0, Value.int .i64 0, Value.int .i64 0, Value.slice none 0 0] 30)
  have p1 : (w.alloc (.cells #[Value.int .i64 0, Value.int .i64 0, Value.int .i64 0, Value.int .i64 0, Value.int .i64 0, Value.slice none 0 0] 30)).heap[w.heap.size]? = some (.cells #[Value.int .i64 0, Value.int .i64 0, Value.int .i64 0, Value.int .i64 0, Value.int .i64 0, Value.slice none 0 0] 30 (0, 0)) := heap_alloc_new _ _
  have hs1 : (w.alloc (.cells #[Value.int .i64 0, Value.int .i64 0, Value.int .i64 0, Value.int .i64 0, Value.int .i64 0, Value.slice none 0 0] 30)).heap.size = w.heap.size + 1 := by simp
  rw [← hw1] at hb1 p1 hs1
  have hlt := rnm_lt (cwA t)
  obtain ⟨k, hk⟩ : ∃ k, k = rnm (cwA t) := ⟨_, rfl⟩
  obtain ⟨Q, hQ⟩ : ∃ Q, Q = lkQ k t := ⟨_, rfl⟩
  have hr1 : 1 ≤ (k : Int) := by omega
  have hr2 : (k : Int) ≤ 14 := by omega
  obtain ⟨V0, hV0⟩ : ∃ V, V = lkI (decide (0 < ruP k)) (Q 0) (-1) := ⟨_, rfl⟩
  obtain ⟨V1, hV1⟩ : ∃ V, V = lkI (decide (1 < ruP k)) (Q 1) (-1) := ⟨_, rfl⟩
  obtain ⟨V2, hV2⟩ : ∃ V, V = lkI (ruI k) (Q 2) 0 := ⟨_, rfl⟩
  obtain ⟨V3, hV3⟩ : ∃ V, V = lkI (ruJ k) (Q 3) 0 := ⟨_, rfl⟩
  have HL : Hid (lkS t = ⟨k, V0, V1, V2, V3, if ruF k then rdL (Q 4) else []⟩) := Lib.hid (by
    unfold lkS
    rw [hV0, hV1, hV2, hV3, hQ, hk])
  have EQ0 : Hid (Q 1 = lkW (decide (0 < ruP k)) (Q 0)) := Lib.hid (by rw [hQ]; rfl)
  have EQ1 : Hid (Q 2 = lkW (decide (1 < ruP k)) (Q 1)) := Lib.hid (by rw [hQ]; rfl)
  have EQ2 : Hid (Q 3 = lkW (ruI k) (Q 2)) := Lib.hid (by rw [hQ]; rfl)
  have EQ3 : Hid (Q 4 = lkW (ruJ k) (Q 3)) := Lib.hid (by rw [hQ]; rfl)
  have hq0 : Q 0 = cwB t := by rw [hQ]; rfl
  have s0 : (Q 0).size ≤ 1048576 := by rw [hq0]; exact Nat.le_trans (cwB_size t) hs
  have s1 : (Q 1).size ≤ 1048576 := by rw [EQ0.out]; exact Nat.le_trans (lkW_size _ _) s0
  have s2 : (Q 2).size ≤ 1048576 := by rw [EQ1.out]; exact Nat.le_trans (lkW_size _ _) s1
  have s3 : (Q 3).size ≤ 1048576 := by rw [EQ2.out]; exact Nat.le_trans (lkW_size _ _) s2
  have s4 : (Q 4).size ≤ 1048576 := by rw [EQ3.out]; exact Nat.le_trans (lkW_size _ _) s3
  have HQ : Hid (∀ m, (Q m).size ≤ 1048576 ∨ 4 < m) := Lib.hid fun m => by
    rcases m with _ | _ | _ | _ | _ | m
    · exact .inl s0
    · exact .inl s1
    · exact .inl s2
    · exact .inl s3
    · exact .inl s4
    · exact .inr (by omega)
  have EV0 := Lib.hid hV0; have EV1 := Lib.hid hV1; have EV2 := Lib.hid hV2; have EV3 := Lib.hid hV3
  have HQ0 := Lib.hid hq0; have HK := Lib.hid hk
  clear hV0 hV1 hV2 hV3 hQ hq0 s0 s1 s2 s3 s4
  rw [HL.out]
  obtain ⟨FF, hFF⟩ : ∃ FF, FF = if ruF k then rdL (Q 4) else [] := ⟨_, rfl⟩
  rw [← hFF]
  have HFF := Lib.hid hFF
  clear hFF HL
  have HC := Lib.hid (cutWord_any t w1 (by unfold maxLen; omega))
  have HW := Lib.hid hw; have HA := Lib.hid ht; have HU := Lib.hid hu; have HE := Lib.hid he
  have HB1 := Lib.hid hb1; have P1 := Lib.hid p1
  have HRO := Lib.hid (fun w => ruleOf_any w k hr1 hr2)
  have HN := Lib.hid (fun w => namedIndices_any k hr1 hr2 w)
  have hm := m_named k hr1 hr2
  have hne : ∀ (T : TypeId) (v : Value) (w : World), (binOp .eql 116 (.iface T v) .nilIface).run Tryz.prog w = .ok (.bool false) w := fun T v w => by rfl
  clear hb1 p1 hw ht hu he h0 hk hlt
  generalize ruT (k : Int) = T at *; generalize ruI (k : Int) = n2 at *; generalize ruJ (k : Int) = n3 at *; generalize ruF (k : Int) = z at *
  generalize decide (0 < ruP (k : Int)) = n0 at *; generalize decide (1 < ruP (k : Int)) = n1 at *
  go_enter Tryz.func124, Tryz.ntmps124
  go_wp2_with (fail)
  rw [← hw1]
  clear hw1
  refine HC.out.mono ?_
  rintro e w2 ⟨rfl, bel2⟩
  have HB2 := Lib.hid (HB1.out.trans (bel2.mono HB1.out.size))
  have hs2 := bel2.size
  have P2 := Lib.hid ((bel2.block w.heap.size (by omega)).trans P1.out)
  have HR := Lib.hid (ruleNamed_any (cwA t) w2 (HW.out.below HB2.out HW.out.lt))
  rw [← HK.out] at HR
  rw [← HQ0.out]
  clear bel2 HC HK HQ0
  generalize cwA t = word at *
  go_wp2_with (fail)
  refine HR.out.mono ?_
  rintro e w' ⟨rfl, rfl⟩
  clear HR
  obtain ⟨w3, hw3⟩ : ∃ w3, w3 = w2.alloc (.cells #[Value.int .i64 (k : Int), Value.int .i64 0, Value.int .i64 0, Value.int .i64 0, Value.int .i64 0, Value.slice none 0 0] 30) := ⟨_, rfl⟩
  have hb3 := box_any w2 (.cells #[Value.int .i64 (k : Int), Value.int .i64 0, Value.int .i64 0, Value.int .i64 0, Value.int .i64 0, Value.slice none 0 0] 30)
  have p3 : (w2.alloc (.cells #[Value.int .i64 (k : Int), Value.int .i64 0, Value.int .i64 0, Value.int .i64 0, Value.int .i64 0, Value.slice none 0 0] 30)).heap[w2.heap.size]? = some (.cells #[Value.int .i64 (k : Int), Value.int .i64 0, Value.int .i64 0, Value.int .i64 0, Value.int .i64 0, Value.slice none 0 0] 30 (0, 0)) := heap_alloc_new _ _
  have hs3 : (w2.alloc (.cells #[Value.int .i64 (k : Int), Value.int .i64 0, Value.int .i64 0, Value.int .i64 0, Value.int .i64 0, Value.slice none 0 0] 30)).heap.size = w2.heap.size + 1 := by simp
  rw [← hw3] at hb3 p3 hs3
  have HB3 := Lib.hid (HB2.out.trans (hb3.mono HB2.out.size))
  have P3 := Lib.hid ((hb3.block w.heap.size (by omega)).trans P2.out)
  have x0 := cell_of_row _ _ 0 _ _ (0, 0) p3
  have x0' : (w2.alloc (.cells #[Value.int .i64 (k : Int), Value.int .i64 0, Value.int .i64 0, Value.int .i64 0, Value.int .i64 0, Value.slice none 0 0] 30)).cell? ⟨w2.heap.size, 0, none⟩ = some (.int .i64 (k : Int)) := by rw [← hw3]; exact x0
  have S3 := Lib.hid p3
  clear hb3 p3 x0
  go_wp2_with (fail)
  rw [← hw3]
  clear hw3 x0'
  refine (HRO.out w3).mono ?_
  rintro e w' ⟨rfl, rfl⟩
  go_wp2_with (fail)
  refine (unnamedIndices_any w3).mono ?_
  rintro e w4 ⟨rfl, bel4⟩
  have hs4 := bel4.size
  have HB4 := Lib.hid (HB3.out.trans (bel4.mono HB3.out.size))
  have P4 := Lib.hid ((bel4.block w.heap.size (by omega)).trans P3.out)
  have S4 := Lib.hid ((bel4.block w2.heap.size (by omega)).trans S3.out)
  clear bel4
  obtain ⟨w5, hw5⟩ : ∃ w5, w5 = w4.alloc (.cells #[Value.int .i64 (-1), Value.int .i64 (-1), Value.int .i64 0, Value.int .i64 0] 147) := ⟨_, rfl⟩
  have hb5 := box_any w4 (.cells #[Value.int .i64 (-1), Value.int .i64 (-1), Value.int .i64 0, Value.int .i64 0] 147)
  have p5 : (w4.alloc (.cells #[Value.int .i64 (-1), Value.int .i64 (-1), Value.int .i64 0, Value.int .i64 0] 147)).heap[w4.heap.size]? = some (.cells #[Value.int .i64 (-1), Value.int .i64 (-1), Value.int .i64 0, Value.int .i64 0] 147 (0, 0)) := heap_alloc_new _ _
  have hs5 : (w4.alloc (.cells #[Value.int .i64 (-1), Value.int .i64 (-1), Value.int .i64 0, Value.int .i64 0] 147)).heap.size = w4.heap.size + 1 := by simp
  rw [← hw5] at hb5 p5 hs5
  go_wp2_with (fail)
  rw [← hw5]
  clear hw5
  refine (HN.out w5).mono ?_
  rintro e w6 ⟨rfl, bel6⟩
  have hs6 := bel6.size
  have b46 := hb5.trans (bel6.mono hb5.size)
  have HBW := Lib.hid (HB4.out.trans (b46.mono HB4.out.size))
  have P6 := Lib.hid ((b46.block w.heap.size (by omega)).trans P4.out)
  have S6 := Lib.hid ((b46.block w2.heap.size (by omega)).trans S4.out)
  have K6 := Lib.hid ((bel6.block w4.heap.size (by omega)).trans p5)
  have hl2 : w.heap.size < w2.heap.size := by omega
  have hl6 : w2.heap.size < w4.heap.size := by omega
  have hl8 : w4.heap.size < w6.heap.size := by omega
  clear hb5 p5 bel6 b46 HN HRO P1 P2 P3 P4 S3 S4 HB1 HB2 HB3 HB4 hs1 hs2 hs3 hs4 hs5 hs6
  generalize w4.heap.size = b8 at *
  generalize w2.heap.size = b6 at *
  obtain ⟨IX, hIX⟩ : ∃ IX : Nat → Array Value, IX = fun m => #[.int .i64 (if 0 < m then V0 else -1), .int .i64 (if 1 < m then V1 else -1), .int .i64 (if 2 < m then V2 else 0), .int .i64 (if 3 < m then V3 else 0)] := ⟨_, rfl⟩
  have E0 : Hid (IX 0 = #[Value.int .i64 (-1), Value.int .i64 (-1), Value.int .i64 0, Value.int .i64 0]) := Lib.hid (by rw [hIX]; rfl)
  have E1 : Hid (IX 1 = #[Value.int .i64 V0, Value.int .i64 (-1), Value.int .i64 0, Value.int .i64 0]) := Lib.hid (by rw [hIX]; rfl)
  have E2 : Hid (IX 2 = #[Value.int .i64 V0, Value.int .i64 V1, Value.int .i64 0, Value.int .i64 0]) := Lib.hid (by rw [hIX]; rfl)
  have E3 : Hid (IX 3 = #[Value.int .i64 V0, Value.int .i64 V1, Value.int .i64 V2, Value.int .i64 0]) := Lib.hid (by rw [hIX]; rfl)
  have E4 : Hid (IX 4 = #[Value.int .i64 V0, Value.int .i64 V1, Value.int .i64 V2, Value.int .i64 V3]) := Lib.hid (by rw [hIX]; rfl)
  clear hIX
  go_wp2_with (fail)
  go_loopw [4, 5, 28] (fun a q s wr => ∃ (m : Nat) (zm : Int) (word : ByteArray), m ≤ 4 ∧ zm = m ∧ s = .int .i64 zm ∧ a = .string word ∧ q = .string (Q m) ∧ wr.heap[b8]? = some (.cells (IX m) 147 (0, 0)) ∧ Below b8 w6 wr ∧ w6.heap.size ≤ wr.heap.size) (fun _ _ s _ => 4 - (intOf s).toNat)
  case atStart => exact ⟨0, 0, word, by omega, rfl, rfl, rfl, rfl, by rw [E0.out]; exact K6.out, Below.refl _ _, Nat.le_refl _⟩
  case round =>
    obtain ⟨m, zm, word, hmm, hzm, rfl, rfl, rfl, hk8, hb, hsr⟩ := hrel
    have hi0 := index4_0; have hi1 := index4_1; have hi2 := index4_2; have hi3 := index4_3
    have HB := Lib.hid hb
    clear hb
    obtain ⟨rfl, rfl⟩ | ⟨rfl, rfl⟩ | ⟨rfl, rfl⟩ | ⟨rfl, rfl⟩ | ⟨rfl, rfl⟩ : (m = 0 ∧ zm = 0) ∨ (m = 1 ∧ zm = 1) ∨ (m = 2 ∧ zm = 2) ∨ (m = 3 ∧ zm = 3) ∨ (m = 4 ∧ zm = 4) := by omega
    all_goals clear hzm hmm
    · have hk8' : wr.heap[b8]? = some (.cells (IX 0) 147 (0, 0)) := hk8
      rw [E0.out] at hk8'
      cases n0 with
      | true =>
        have HC := Lib.hid (cutWord_any (Q 0) wr (by have := HQ.out 0; unfold maxLen; omega))
        have EV : Hid (V0 = psI (cwA (Q 0))) := Lib.hid EV0.out
        have EQ : Hid (Q 1 = cwB (Q 0)) := Lib.hid EQ0.out
        have hsz1 := cwA_size (Q 0); have hsz2 := HQ.out 0
        go_wp2_with (fail)
        refine HC.out.mono ?_
        rintro e w10 ⟨rfl, bel10⟩
        have HP := Lib.hid (parseInt_any (cwA (Q 0)) w10 (by omega) (HE.out.below (HBW.out.trans ((HB.out.mono (Nat.le_of_lt (by omega))).trans (bel10.mono (by omega)))) HE.out.lt))
        have hs10 := bel10.size
        have hk10 := (bel10.block b8 (by omega)).trans hk8'
        have HB10 := Lib.hid (HB.out.trans (bel10.mono (by omega)))
        clear bel10 HC hk8 hk8'
        rw [← EV.out] at HP
        rw [← EQ.out]
        go_wp2_with (fail)
        refine HP.out.mono ?_
        rintro e w11 ⟨er, rfl, bel11⟩
        have hs11 := bel11.size
        have hk11 := (bel11.block b8 (by omega)).trans hk10
        have HB11 := Lib.hid ((HB10.out.trans (bel11.mono (by omega))).setCell (p := ⟨b8, 0, none⟩) (Nat.le_refl _) (.int .i64 V0))
        have HK := Lib.hid (set4_0 hk11 (.int .i64 V0))
        have z0 := cell_of_row _ _ 0 _ _ (0, 0) hk11
        have z1 := frozen_of_row _ _ 0 _ _ hk11
        clear bel11 HP hk10 hk11 HB10
        go_wp2
        go_roundw
        case rel => exact ⟨1, 1, cwA (Q 0), by omega, rfl, rfl, rfl, rfl, by rw [E1.out]; exact HK.out, HB11.out, by have := HB11.out.size; omega⟩
        case measure => simp [intOf]
      | false =>
        have EV : Hid (V0 = -1) := Lib.hid EV0.out
        have EQ : Hid (Q 1 = Q 0) := Lib.hid EQ0.out
        clear hk8'
        go_wp2
        go_roundw
        case rel => exact ⟨1, 1, word, by omega, rfl, rfl, rfl, by rw [EQ.out], by rw [E1.out, EV.out, ← E0.out]; exact hk8, HB.out, hsr⟩
        case measure => simp [intOf]
    · have hk8' : wr.heap[b8]? = some (.cells (IX 1) 147 (0, 0)) := hk8
      rw [E1.out] at hk8'
      cases n1 with
      | true =>
        have HC := Lib.hid (cutWord_any (Q 1) wr (by have := HQ.out 1; unfold maxLen; omega))
        have EV : Hid (V1 = psI (cwA (Q 1))) := Lib.hid EV1.out
        have EQ : Hid (Q 2 = cwB (Q 1)) := Lib.hid EQ1.out
        have hsz1 := cwA_size (Q 1); have hsz2 := HQ.out 1
        go_wp2_with (fail)
        refine HC.out.mono ?_
        rintro e w10 ⟨rfl, bel10⟩
        have HP := Lib.hid (parseInt_any (cwA (Q 1)) w10 (by omega) (HE.out.below (HBW.out.trans ((HB.out.mono (Nat.le_of_lt (by omega))).trans (bel10.mono (by omega)))) HE.out.lt))
        have hs10 := bel10.size
        have hk10 := (bel10.block b8 (by omega)).trans hk8'
        have HB10 := Lib.hid (HB.out.trans (bel10.mono (by omega)))
        clear bel10 HC hk8 hk8'
        rw [← EV.out] at HP
        rw [← EQ.out]
        go_wp2_with (fail)
        refine HP.out.mono ?_
        rintro e w11 ⟨er, rfl, bel11⟩
        have hs11 := bel11.size
        have hk11 := (bel11.block b8 (by omega)).trans hk10
        have HB11 := Lib.hid ((HB10.out.trans (bel11.mono (by omega))).setCell (p := ⟨b8, 1, none⟩) (Nat.le_refl _) (.int .i64 V1))
        have HK := Lib.hid (set4_1 hk11 (.int .i64 V1))
        have z0 := cell_of_row _ _ 1 _ _ (0, 0) hk11
        have z1 := frozen_of_row _ _ 1 _ _ hk11
        clear bel11 HP hk10 hk11 HB10
        go_wp2
        go_roundw
        case rel => exact ⟨2, 2, cwA (Q 1), by omega, rfl, rfl, rfl, rfl, by rw [E2.out]; exact HK.out, HB11.out, by have := HB11.out.size; omega⟩
        case measure => simp [intOf]
      | false =>
        have EV : Hid (V1 = -1) := Lib.hid EV1.out
        have EQ : Hid (Q 2 = Q 1) := Lib.hid EQ1.out
        clear hk8'
        go_wp2
        go_roundw
        case rel => exact ⟨2, 2, word, by omega, rfl, rfl, rfl, by rw [EQ.out], by rw [E2.out, EV.out, ← E1.out]; exact hk8, HB.out, hsr⟩
        case measure => simp [intOf]
    · have hk8' : wr.heap[b8]? = some (.cells (IX 2) 147 (0, 0)) := hk8
      rw [E2.out] at hk8'
      cases n2 with
      | true =>
        have HC := Lib.hid (cutWord_any (Q 2) wr (by have := HQ.out 2; unfold maxLen; omega))
        have EV : Hid (V2 = psI (cwA (Q 2))) := Lib.hid EV2.out
        have EQ : Hid (Q 3 = cwB (Q 2)) := Lib.hid EQ2.out
        have hsz1 := cwA_size (Q 2); have hsz2 := HQ.out 2
        go_wp2_with (fail)
        refine HC.out.mono ?_
        rintro e w10 ⟨rfl, bel10⟩
        have HP := Lib.hid (parseInt_any (cwA (Q 2)) w10 (by omega) (HE.out.below (HBW.out.trans ((HB.out.mono (Nat.le_of_lt (by omega))).trans (bel10.mono (by omega)))) HE.out.lt))
        have hs10 := bel10.size
        have hk10 := (bel10.block b8 (by omega)).trans hk8'
        have HB10 := Lib.hid (HB.out.trans (bel10.mono (by omega)))
        clear bel10 HC hk8 hk8'
        rw [← EV.out] at HP
        rw [← EQ.out]
        go_wp2_with (fail)
        refine HP.out.mono ?_
        rintro e w11 ⟨er, rfl, bel11⟩
        have hs11 := bel11.size
        have hk11 := (bel11.block b8 (by omega)).trans hk10
        have HB11 := Lib.hid ((HB10.out.trans (bel11.mono (by omega))).setCell (p := ⟨b8, 2, none⟩) (Nat.le_refl _) (.int .i64 V2))
        have HK := Lib.hid (set4_2 hk11 (.int .i64 V2))
        have z0 := cell_of_row _ _ 2 _ _ (0, 0) hk11
        have z1 := frozen_of_row _ _ 2 _ _ hk11
        clear bel11 HP hk10 hk11 HB10
        go_wp2
        go_roundw
        case rel => exact ⟨3, 3, cwA (Q 2), by omega, rfl, rfl, rfl, rfl, by rw [E3.out]; exact HK.out, HB11.out, by have := HB11.out.size; omega⟩
        case measure => simp [intOf]
      | false =>
        have EV : Hid (V2 = 0) := Lib.hid EV2.out
        have EQ : Hid (Q 3 = Q 2) := Lib.hid EQ2.out
        clear hk8'
        go_wp2
        go_roundw
        case rel => exact ⟨3, 3, word, by omega, rfl, rfl, rfl, by rw [EQ.out], by rw [E3.out, EV.out, ← E2.out]; exact hk8, HB.out, hsr⟩
        case measure => simp [intOf]
    · have hk8' : wr.heap[b8]? = some (.cells (IX 3) 147 (0, 0)) := hk8
      rw [E3.out] at hk8'
      cases n3 with
      | true =>
        have HC := Lib.hid (cutWord_any (Q 3) wr (by have := HQ.out 3; unfold maxLen; omega))
        have EV : Hid (V3 = psI (cwA (Q 3))) := Lib.hid EV3.out
        have EQ : Hid (Q 4 = cwB (Q 3)) := Lib.hid EQ3.out
        have hsz1 := cwA_size (Q 3); have hsz2 := HQ.out 3
        go_wp2_with (fail)
        refine HC.out.mono ?_
        rintro e w10 ⟨rfl, bel10⟩
        have HP := Lib.hid (parseInt_any (cwA (Q 3)) w10 (by omega) (HE.out.below (HBW.out.trans ((HB.out.mono (Nat.le_of_lt (by omega))).trans (bel10.mono (by omega)))) HE.out.lt))
        have hs10 := bel10.size
        have hk10 := (bel10.block b8 (by omega)).trans hk8'
        have HB10 := Lib.hid (HB.out.trans (bel10.mono (by omega)))
        clear bel10 HC hk8 hk8'
        rw [← EV.out] at HP
        rw [← EQ.out]
        go_wp2_with (fail)
        refine HP.out.mono ?_
        rintro e w11 ⟨er, rfl, bel11⟩
        have hs11 := bel11.size
        have hk11 := (bel11.block b8 (by omega)).trans hk10
        have HB11 := Lib.hid ((HB10.out.trans (bel11.mono (by omega))).setCell (p := ⟨b8, 3, none⟩) (Nat.le_refl _) (.int .i64 V3))
        have HK := Lib.hid (set4_3 hk11 (.int .i64 V3))
        have z0 := cell_of_row _ _ 3 _ _ (0, 0) hk11
        have z1 := frozen_of_row _ _ 3 _ _ hk11
        clear bel11 HP hk10 hk11 HB10
        go_wp2
        go_roundw
        case rel => exact ⟨4, 4, cwA (Q 3), by omega, rfl, rfl, rfl, rfl, by rw [E4.out]; exact HK.out, HB11.out, by have := HB11.out.size; omega⟩
        case measure => simp [intOf]
      | false =>
        have EV : Hid (V3 = 0) := Lib.hid EV3.out
        have EQ : Hid (Q 4 = Q 3) := Lib.hid EQ3.out
        clear hk8'
        go_wp2
        go_roundw
        case rel => exact ⟨4, 4, word, by omega, rfl, rfl, rfl, by rw [EQ.out], by rw [E4.out, EV.out, ← E3.out]; exact hk8, HB.out, hsr⟩
        case measure => simp [intOf]
    · rw [E4.out] at hk8
      have hS := (HB.out.block b6 hl6).trans S6.out
      have PZ := Lib.hid ((HB.out.block w.heap.size (by omega)).trans P6.out)
      have c0 := cell_of_row _ _ 0 _ _ (0, 0) hk8; have c1 := cell_of_row _ _ 1 _ _ (0, 0) hk8
      have c2 := cell_of_row _ _ 2 _ _ (0, 0) hk8; have c3 := cell_of_row _ _ 3 _ _ (0, 0) hk8
      have d1 := cell_of_row _ _ 1 _ _ (0, 0) hS; have d2 := cell_of_row _ _ 2 _ _ (0, 0) hS
      have d3 := cell_of_row _ _ 3 _ _ (0, 0) hS; have d4 := cell_of_row _ _ 4 _ _ (0, 0) hS
      have f1 := frozen_of_row _ _ 1 _ _ hS; have f2 := frozen_of_row _ _ 2 _ _ hS
      have f3 := frozen_of_row _ _ 3 _ _ hS; have f4 := frozen_of_row _ _ 4 _ _ hS
      obtain ⟨w7, hw7⟩ : ∃ w7, w7 = ((((wr.setCell ⟨b6, 1, none⟩ (.int .i64 V0)).setCell ⟨b6, 2, none⟩ (.int .i64 V1)).setCell ⟨b6, 3, none⟩ (.int .i64 V2)).setCell ⟨b6, 4, none⟩ (.int .i64 V3)).drew := ⟨_, rfl⟩
      have SM : Hid (w7.heap[b6]? = some (.cells #[Value.int .i64 (k : Int), Value.int .i64 V0, Value.int .i64 V1, Value.int .i64 V2, Value.int .i64 V3, Value.slice none 0 0] 30 (0, 0))) := Lib.hid (by rw [hw7]; exact mid4 hS (.int .i64 V0) (.int .i64 V1) (.int .i64 V2) (.int .i64 V3))
      have B67 : Below b6 wr w7 := by rw [hw7]; exact (((((Below.refl b6 wr).setCell (p := ⟨b6, 1, none⟩) (Nat.le_refl _) _).setCell (p := ⟨b6, 2, none⟩) (Nat.le_refl _) _).setCell (p := ⟨b6, 3, none⟩) (Nat.le_refl _) _).setCell (p := ⟨b6, 4, none⟩) (Nat.le_refl _) _).drew
      have hs7 : wr.heap.size ≤ w7.heap.size := B67.size
      have P7 := Lib.hid ((B67.block w.heap.size hl2).trans PZ.out)
      have HB7 := Lib.hid (HBW.out.trans ((HB.out.mono (by omega)).trans (B67.mono (by omega))))
      have h4 : (Q 4).size ≤ 1048576 := by have := HQ.out 4; omega
      clear hk8 hS E0 E1 E2 E3 E4 B67 PZ HB
      go_wp2_with (fail)
      go_region
      rw [← hw7]
      clear hw7 c0 c1 c2 c3 d1 d2 d3 d4 f1 f2 f3 f4
      go_wp2_with (fail)
      refine (namedFields_any n2 n3 z w7).mono ?_
      rintro e w8 ⟨rfl, bel8⟩
      have hs8 := bel8.size
      have p8 := (bel8.block w.heap.size (by omega)).trans P7.out
      have S8 := Lib.hid ((bel8.block b6 (by omega)).trans SM.out)
      have HB8 := Lib.hid (HB7.out.trans (bel8.mono (by omega)))
      have P8 := Lib.hid p8
      clear bel8 P7 SM HB7 p8
      have hmz := fun w => field2 (Value.bool n2) (Value.bool n3) (Value.bool z) w
      cases z with
      | false =>
        obtain rfl : FF = [] := HFF.out
        have q8 := P8.out; have r8 := S8.out
        have y0 := cell_of_row _ _ 0 _ _ (0, 0) q8; have y1 := cell_of_row _ _ 1 _ _ (0, 0) q8; have y2 := cell_of_row _ _ 2 _ _ (0, 0) q8; have y3 := cell_of_row _ _ 3 _ _ (0, 0) q8; have y4 := cell_of_row _ _ 4 _ _ (0, 0) q8; have y5 := cell_of_row _ _ 5 _ _ (0, 0) q8
        have u0 := frozen_of_row _ _ 0 _ _ q8; have u1 := frozen_of_row _ _ 1 _ _ q8; have u2 := frozen_of_row _ _ 2 _ _ q8; have u3 := frozen_of_row _ _ 3 _ _ q8; have u4 := frozen_of_row _ _ 4 _ _ q8; have u5 := frozen_of_row _ _ 5 _ _ q8
        have x0 := cell_of_row _ _ 0 _ _ (0, 0) r8; have x1 := cell_of_row _ _ 1 _ _ (0, 0) r8; have x2 := cell_of_row _ _ 2 _ _ (0, 0) r8; have x3 := cell_of_row _ _ 3 _ _ (0, 0) r8; have x4 := cell_of_row _ _ 4 _ _ (0, 0) r8; have x5 := cell_of_row _ _ 5 _ _ (0, 0) r8
        have H6 := Lib.hid (set6_at q8 (.int .i64 (k : Int)) (.int .i64 V0) (.int .i64 V1) (.int .i64 V2) (.int .i64 V3) (.slice none 0 0))
        have HB9 := Lib.hid (set6_below HB8.out (Nat.le_refl _) (.int .i64 (k : Int)) (.int .i64 V0) (.int .i64 V1) (.int .i64 V2) (.int .i64 V3) (.slice none 0 0))
        clear q8 r8
        go_wp2
        (try simp only [Exit.inBlock, Exit.then])
        refine bodyPost_ret (results_cell_tmpR rfl _ _ w.heap.size _ _ (0, 0) _ rfl H6.out Tryz.underlying30 rfl (by kernel_rfl)) rfl ?_
        exact ⟨none, 0, rfl, World.ownsRow_nil _ _ _ _, HB9.out⟩
      | true =>
        obtain rfl : FF = rdL (Q 4) := HFF.out
        have HR := Lib.hid (readForm_impl (Q 4) w8 h4 (HA.out.below HB8.out HA.out.lt) (HU.out.below HB8.out HU.out.lt))
        generalize rdL (Q 4) = FF at *
        go_wp2_with (fail)
        refine HR.out.mono ?_
        rintro e w9 ⟨A, c, rfl, own9, bel9⟩
        have hs9 := bel9.size
        have p9 := (bel9.block w.heap.size (by omega)).trans P8.out
        have r9 := (bel9.block b6 (by omega)).trans S8.out
        have HB9 := Lib.hid ((HB8.out.trans (bel9.mono (by omega))).setCell (p := ⟨b6, 5, none⟩) (Nat.le_of_lt hl2) (.slice A FF.length c))
        have HO9 := Lib.hid (ownsRow_setCell_below own9 (a := ⟨b6, 5, none⟩) (by show b6 < w8.heap.size; omega) (.slice A FF.length c))
        have r10 := set_five r9 (.slice A FF.length c)
        have q10 := (heap_setCell_other w9 ⟨b6, 5, none⟩ w.heap.size (.slice A FF.length c) (Nat.ne_of_lt hl2)).trans p9
        have g5 := cell_of_row _ _ 5 _ _ (0, 0) r9; have g5' := frozen_of_row _ _ 5 _ _ r9
        obtain ⟨w10, hw10⟩ : ∃ w10, w10 = w9.setCell ⟨b6, 5, none⟩ (.slice A FF.length c) := ⟨_, rfl⟩
        have x0 := cell_of_row _ _ 0 _ _ (0, 0) r9; have x1 := cell_of_row _ _ 1 _ _ (0, 0) r9; have x2 := cell_of_row _ _ 2 _ _ (0, 0) r9
        have x3 := cell_of_row _ _ 3 _ _ (0, 0) r9; have x4 := cell_of_row _ _ 4 _ _ (0, 0) r9
        have H6 := Lib.hid (set6_at q10 (.int .i64 (k : Int)) (.int .i64 V0) (.int .i64 V1) (.int .i64 V2) (.int .i64 V3) (.slice A FF.length c))
        have HB10 := Lib.hid (set6_below HB9.out (Nat.le_refl _) (.int .i64 (k : Int)) (.int .i64 V0) (.int .i64 V1) (.int .i64 V2) (.int .i64 V3) (.slice A FF.length c))
        have HO10 := Lib.hid (set6_own HO9.out (show w.heap.size < w8.heap.size by omega) (.int .i64 (k : Int)) (.int .i64 V0) (.int .i64 V1) (.int .i64 V2) (.int .i64 V3) (.slice A FF.length c))
        have y0 := cell_of_row _ _ 0 _ _ (0, 0) p9; have y1 := cell_of_row _ _ 1 _ _ (0, 0) p9; have y2 := cell_of_row _ _ 2 _ _ (0, 0) p9; have y3 := cell_of_row _ _ 3 _ _ (0, 0) p9; have y4 := cell_of_row _ _ 4 _ _ (0, 0) p9; have y5 := cell_of_row _ _ 5 _ _ (0, 0) p9
        have u0 := frozen_of_row _ _ 0 _ _ p9; have u1 := frozen_of_row _ _ 1 _ _ p9; have u2 := frozen_of_row _ _ 2 _ _ p9; have u3 := frozen_of_row _ _ 3 _ _ p9; have u4 := frozen_of_row _ _ 4 _ _ p9; have u5 := frozen_of_row _ _ 5 _ _ p9
        clear own9 bel9 r9 r10 q10 HO9 HB9 HR hw10
        go_wp2
        (try simp only [Exit.inBlock, Exit.then])
        refine bodyPost_ret (results_cell_tmpR rfl _ _ w.heap.size _ _ (0, 0) _ rfl H6.out Tryz.underlying30 rfl (by kernel_rfl)) rfl ?_
        exact ⟨A, c, rfl, HO10.out.mono (by omega), HB10.out⟩
end Go.Proofs.YtjgmgaccmcepdaaGreatDoor
