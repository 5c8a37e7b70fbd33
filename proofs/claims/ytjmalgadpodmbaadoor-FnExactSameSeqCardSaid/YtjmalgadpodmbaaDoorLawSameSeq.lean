/- Proved: for all arguments the law that SameSeq answers as its model, leaves its arguments and shares no memory answers true and leaves its arguments as they were (FnExactSameSeq). Conditions: the row's own: the listed tables read as the program's text lays them, which the card ties to that text. -/
import Derived.Test.YtjmalgadpodmbaaDoorFrame
import Derived.Test.YtjmalgadpodmbaaDoorFrameQ
import Derived.Test.YtjmalgadpodmbaaDoorSame
namespace Go.Proofs.YtjmalgadpodmbaaDoor.fnExactSameSeq
open Go.ChangeShapes Go.WideShapes Go.ChangeAt Go.RowKit

theorem walk_big0 (A0 : Option Addr) (n0 c0 : Nat) (q0 : List (List Int)) (A1 : Option Addr) (n1 c1 : Nat) (q1 : List (List Int)) (w : World) (h0 : RdQ w w.heap.size A0 n0 q0) (_h1 : RdQ w w.heap.size A1 n1 q1) (hm0 : n0 ≤ maxLen) (hq0 : ∀ q ∈ q0, q.length ≤ maxLen)  (hb : szR 1048576 (n0 + total q0) = -1) :
    Calls Tryd.prog 5 #[.agg #[.slice A0 n0 c0], .agg #[.slice A1 n1 c1]] w fun e w' => e = .returned (.bool true) ∧ Below w.heap.size w w' := by
  obtain ⟨w0, hw0⟩ : ∃ w0, w0 = (w.alloc (.cells #[Value.slice A0 n0 c0] 34)).alloc (.cells #[Value.slice A1 n1 c1] 34) := ⟨_, rfl⟩
  obtain ⟨B0, ca0_0, ca1_0, s0⟩ := two_boxes w (.slice A0 n0 c0) (.slice A1 n1 c1) 34
  rw [← hw0] at B0 ca0_0 ca1_0 s0
  replace s0 : w.heap.size + 1 + 1 ≤ w0.heap.size := Nat.le_of_eq s0.symm
  have HS0 := Lib.hid (fun w0 B => szSeq_any A0 n0 c0 q0 (1048576) w0 ((h0.below B).more (Below.size B)) hq0 hm0 (by decide) (by decide))
  rw [hb] at HS0
  clear hb h0 _h1
  go_enter Tryd.func5, Tryd.ntmps5
  go_wp2_with (fail)
  rw [← hw0]
  clear hw0
  refine (HS0.out w0 B0).mono ?_
  rintro e w1 ⟨rfl, bel1⟩
  have B1 := B0.trans (bel1.mono B0.size)
  have s1 := bel1.size
  have ca0_1 := (bel1.cell (p := ⟨w.heap.size, 0, none⟩) (by show w.heap.size < _; omega)).trans ca0_0
  have ca1_1 := (bel1.cell (p := ⟨(w.heap.size + 1), 0, none⟩) (by show (w.heap.size + 1) < _; omega)).trans ca1_0
  clear bel1 ca0_0 ca1_0
  have HB := Lib.hid B1
  clear B0 B1
  go_wp2
  go_ret
  exact ⟨rfl, HB.out⟩

theorem walk_big1 (A0 : Option Addr) (n0 c0 : Nat) (q0 : List (List Int)) (A1 : Option Addr) (n1 c1 : Nat) (q1 : List (List Int)) (L0 : Int) (w : World) (h0 : RdQ w w.heap.size A0 n0 q0) (h1 : RdQ w w.heap.size A1 n1 q1) (hm0 : n0 ≤ maxLen) (hq0 : ∀ q ∈ q0, q.length ≤ maxLen) (hm1 : n1 ≤ maxLen) (hq1 : ∀ q ∈ q1, q.length ≤ maxLen) (hs0 : szR 1048576 (n0 + total q0) = L0) (hL0 : 0 ≤ L0) (hL'0 : L0 ≤ 1048576) (hb : szR L0 (n1 + total q1) = -1) :
    Calls Tryd.prog 5 #[.agg #[.slice A0 n0 c0], .agg #[.slice A1 n1 c1]] w fun e w' => e = .returned (.bool true) ∧ Below w.heap.size w w' := by
  obtain ⟨w0, hw0⟩ : ∃ w0, w0 = (w.alloc (.cells #[Value.slice A0 n0 c0] 34)).alloc (.cells #[Value.slice A1 n1 c1] 34) := ⟨_, rfl⟩
  obtain ⟨B0, ca0_0, ca1_0, s0⟩ := two_boxes w (.slice A0 n0 c0) (.slice A1 n1 c1) 34
  rw [← hw0] at B0 ca0_0 ca1_0 s0
  replace s0 : w.heap.size + 1 + 1 ≤ w0.heap.size := Nat.le_of_eq s0.symm
  have HS0 := Lib.hid (fun w0 B => szSeq_any A0 n0 c0 q0 1048576 w0 ((h0.below B).more (Below.size B)) hq0 hm0 (by decide) (by decide))
  rw [hs0] at HS0
  have hd0 : decide (L0 < 0) = false := decide_eq_false (by omega)
  clear hs0
  have HS1 := Lib.hid (fun w0 B => szSeq_any A1 n1 c1 q1 (L0) w0 ((h1.below B).more (Below.size B)) hq1 hm1 hL0 (by omega))
  rw [hb] at HS1
  clear hb h0 h1
  go_enter Tryd.func5, Tryd.ntmps5
  go_wp2_with (fail)
  rw [← hw0]
  clear hw0
  refine (HS0.out w0 B0).mono ?_
  rintro e w1 ⟨rfl, bel1⟩
  have B1 := B0.trans (bel1.mono B0.size)
  have s1 := bel1.size
  have ca0_1 := (bel1.cell (p := ⟨w.heap.size, 0, none⟩) (by show w.heap.size < _; omega)).trans ca0_0
  have ca1_1 := (bel1.cell (p := ⟨(w.heap.size + 1), 0, none⟩) (by show (w.heap.size + 1) < _; omega)).trans ca1_0
  clear bel1 ca0_0 ca1_0
  go_wp2_with (fail)
  refine (HS1.out w1 B1).mono ?_
  rintro e w2 ⟨rfl, bel2⟩
  have B2 := B1.trans (bel2.mono B1.size)
  have s2 := bel2.size
  have ca0_2 := (bel2.cell (p := ⟨w.heap.size, 0, none⟩) (by show w.heap.size < _; omega)).trans ca0_1
  have ca1_2 := (bel2.cell (p := ⟨(w.heap.size + 1), 0, none⟩) (by show (w.heap.size + 1) < _; omega)).trans ca1_1
  clear bel2 ca0_1 ca1_1
  have HB := Lib.hid B2
  clear B0 B1 B2
  go_wp2
  go_ret
  exact ⟨rfl, HB.out⟩

set_option maxHeartbeats 8000000 in
theorem walk_mid (A0 : Option Addr) (n0 c0 : Nat) (q0 : List (List Int)) (A1 : Option Addr) (n1 c1 : Nat) (q1 : List (List Int)) (L0 : Int) (L1 : Int) (w : World) (h0 : RdQ w w.heap.size A0 n0 q0) (h1 : RdQ w w.heap.size A1 n1 q1) (hs0 : szR 1048576 (n0 + total q0) = L0) (hL0 : 0 ≤ L0) (hL'0 : L0 ≤ 1048576) (hn0 : n0 ≤ 1048576) (hT0 : total q0 ≤ 1048576) (hs1 : szR L0 (n1 + total q1) = L1) (hL1 : 0 ≤ L1) (hL'1 : L1 ≤ 1048576) (hn1 : n1 ≤ 1048576) (hT1 : total q1 ≤ 1048576) (ht : Arit w) :
    Calls Tryd.prog 5 #[.agg #[.slice A0 n0 c0], .agg #[.slice A1 n1 c1]] w fun e w' => e = .returned (.bool true) ∧ Below w.heap.size w w' := by
  have hq0 : ∀ q ∈ q0, q.length ≤ 1048576 := fun q hq' => Nat.le_trans (mem_total hq') hT0
  have hqm0 : ∀ q ∈ q0, q.length ≤ maxLen := fun q hq' => Nat.le_trans (hq0 q hq') (by decide)
  have hm0 : n0 ≤ maxLen := Nat.le_trans hn0 (by decide)
  have hl0 := h0.len
  have hq1 : ∀ q ∈ q1, q.length ≤ 1048576 := fun q hq' => Nat.le_trans (mem_total hq') hT1
  have hqm1 : ∀ q ∈ q1, q.length ≤ maxLen := fun q hq' => Nat.le_trans (hq1 q hq') (by decide)
  have hm1 : n1 ≤ maxLen := Nat.le_trans hn1 (by decide)
  have hl1 := h1.len
  generalize hV : sameQ q0 q1 = V
  have HV := Lib.hid hV; clear hV
  have hvv : (V != V) = false := by simp
  obtain ⟨w0, hw0⟩ : ∃ w0, w0 = (w.alloc (.cells #[Value.slice A0 n0 c0] 34)).alloc (.cells #[Value.slice A1 n1 c1] 34) := ⟨_, rfl⟩
  obtain ⟨B0, ca0_0, ca1_0, s0⟩ := two_boxes w (.slice A0 n0 c0) (.slice A1 n1 c1) 34
  rw [← hw0] at B0 ca0_0 ca1_0 s0
  replace s0 : w.heap.size + 1 + 1 ≤ w0.heap.size := Nat.le_of_eq s0.symm
  have HS0 := Lib.hid (fun w0 B => szSeq_any A0 n0 c0 q0 (1048576) w0 ((h0.below B).more (Below.size B)) hqm0 hm0 (by decide) (by decide))
  rw [hs0] at HS0
  have hd0 : decide (L0 < 0) = false := decide_eq_false (by omega)
  have HS1 := Lib.hid (fun w0 B => szSeq_any A1 n1 c1 q1 (L0) w0 ((h1.below B).more (Below.size B)) hqm1 hm1 hL0 (by omega))
  rw [hs1] at HS1
  have hd1 : decide (L1 < 0) = false := decide_eq_false (by omega)
  have HQ0 := Lib.hid hq0; have H0 := Lib.hid h0
  have HQ1 := Lib.hid hq1; have H1 := Lib.hid h1
  have HT := Lib.hid ht
  clear hs0 hq0 hqm0 h0 hs1 hq1 hqm1 h1 ht
  go_enter Tryd.func5, Tryd.ntmps5
  go_wp2_with (fail)
  rw [← hw0]
  clear hw0
  refine (HS0.out w0 B0).mono ?_
  rintro e w1 ⟨rfl, bel1⟩
  have s1 := bel1.size
  have B1 := B0.trans (bel1.mono B0.size)
  have ca0_1 := (bel1.cell (p := ⟨w.heap.size, 0, none⟩) (by show w.heap.size < _; omega)).trans ca0_0
  have ca1_1 := (bel1.cell (p := ⟨(w.heap.size + 1), 0, none⟩) (by show (w.heap.size + 1) < _; omega)).trans ca1_0
  clear bel1
  clear ca0_0 ca1_0 B0
  generalize w0.heap.size = m0 at *
  go_wp2_with (fail)
  refine (HS1.out w1 B1).mono ?_
  rintro e w2 ⟨rfl, bel2⟩
  have s2 := bel2.size
  have B2 := B1.trans (bel2.mono B1.size)
  have ca0_2 := (bel2.cell (p := ⟨w.heap.size, 0, none⟩) (by show w.heap.size < _; omega)).trans ca0_1
  have ca1_2 := (bel2.cell (p := ⟨(w.heap.size + 1), 0, none⟩) (by show (w.heap.size + 1) < _; omega)).trans ca1_1
  clear bel2
  clear ca0_1 ca1_1 B1
  generalize w1.heap.size = m1 at *
  go_upto_region 8 with (fail)
  have HBx := Lib.hid B2
  go_cut [6] (fun b wx => b = .bool V ∧ Below w2.heap.size w2 wx)
  case first =>
    go_wp2_with (fail)
    go_region_with (first
      | (go_at_call_of 25 (Value.agg #[Value.slice A0 n0 c0]); refine (toSeq_any A0 n0 c0 q0 w2.drew ((H0.out.below HBx.out).more HBx.out.size) HQ0.out hn0).mono ?_; rintro e wa ⟨hst, At, rfl, ownt, belt'⟩; have belt := undrew belt'; have cat := (belt.cell (p := ⟨w.heap.size, 0, none⟩) (by show w.heap.size < _; omega)).trans ca0_2; have cbt := (belt.cell (p := ⟨(w.heap.size + 1), 0, none⟩) (by show (w.heap.size + 1) < _; omega)).trans ca1_2; have S7 := Lib.hid (ownt.rd hl0); have B7 := Lib.hid (Below.trans (Below.refl _ _) belt); have B7w := Lib.hid (HBx.out.trans (belt.mono HBx.out.size)); clear ownt belt belt')
      | (go_at_call_of 25 (Value.agg #[Value.slice A1 n1 c1]); refine (toSeq_any A1 n1 c1 q1 wa ((H1.out.below B7w.out).more B7w.out.size) HQ1.out hn1).mono ?_; rintro e wb ⟨hsu, Bt, rfl, ownu, belu⟩; have R8 := Lib.hid ((S7.out.below belu).more belu.size); have S8 := Lib.hid (ownu.rd hl1); have B8 := Lib.hid (B7.out.trans (belu.mono B7.out.size)); clear ownu belu)
      | (go_at_call 28; refine (sSameSeq_any At Bt n0 n1 n0 n1 q0 q1 wb R8.out S8.out hn0 hn1 (Nat.le_refl _) (Nat.le_refl _) HQ0.out HQ1.out).mono ?_; rw [HV.out]; rintro e wc ⟨rfl, belv⟩; have B9 := Lib.hid (B8.out.trans (belv.mono B8.out.size)); clear belv))
    all_goals (try go_wp2_with (fail))
    all_goals go_meet
    all_goals exact ⟨rfl, B9.out⟩
  case rest =>
  obtain ⟨rfl, bel3⟩ := hcut
  clear HBx
  rename World => w3
  have s3 := bel3.size
  have B3 := B2.trans (bel3.mono B2.size)
  have ca0_3 := (bel3.cell (p := ⟨w.heap.size, 0, none⟩) (by show w.heap.size < _; omega)).trans ca0_2
  have ca1_3 := (bel3.cell (p := ⟨(w.heap.size + 1), 0, none⟩) (by show (w.heap.size + 1) < _; omega)).trans ca1_2
  clear bel3
  clear ca0_2 ca1_2 B2
  generalize w2.heap.size = m2 at *
  go_wp2_with (fail)
  refine (toSeq_any A0 n0 c0 q0 w3 ((H0.out.below B3).more B3.size) HQ0.out hn0).mono ?_
  rintro e w4 ⟨hs_x0, A_x0, rfl, own4, bel4⟩
  have o_x0_4 := Lib.hid own4
  clear own4
  have s4 := bel4.size
  have B4 := B3.trans (bel4.mono B3.size)
  have ca0_4 := (bel4.cell (p := ⟨w.heap.size, 0, none⟩) (by show w.heap.size < _; omega)).trans ca0_3
  have ca1_4 := (bel4.cell (p := ⟨(w.heap.size + 1), 0, none⟩) (by show (w.heap.size + 1) < _; omega)).trans ca1_3
  clear bel4
  clear ca0_3 ca1_3 B3
  generalize w3.heap.size = m3 at *
  have bel5 : Below w4.heap.size w4 (w4.alloc (.cells #[Value.slice A_x0 n0 n0] 26)) := box_below _ _ _
  have cx0_5 : (w4.alloc (.cells #[Value.slice A_x0 n0 n0] 26)).cell? ⟨w4.heap.size, 0, none⟩ = some (Value.slice A_x0 n0 n0) := by simp
  have t5 : w4.heap.size + 1 ≤ (w4.alloc (.cells #[Value.slice A_x0 n0 n0] 26)).heap.size := by simp
  have ca0_5 := (bel5.cell (p := ⟨w.heap.size, 0, none⟩) (by show w.heap.size < _; omega)).trans ca0_4
  have ca1_5 := (bel5.cell (p := ⟨(w.heap.size + 1), 0, none⟩) (by show (w.heap.size + 1) < _; omega)).trans ca1_4
  clear ca0_4 ca1_4
  go_wp2_with (fail)
  generalize w4.alloc (.cells #[Value.slice A_x0 n0 n0] 26) = w5 at *
  have s5 := bel5.size
  have B5 := B4.trans (bel5.mono B4.size)
  have o_x0_5 := Lib.hid (o_x0_4.out.below bel5)
  clear bel5
  clear o_x0_4 B4
  generalize w4.heap.size = m4 at *
  refine (toSeq_any A1 n1 c1 q1 w5 ((H1.out.below B5).more B5.size) HQ1.out hn1).mono ?_
  rintro e w6 ⟨hs_x1, A_x1, rfl, own6, bel6⟩
  have o_x1_6 := Lib.hid own6
  clear own6
  have s6 := bel6.size
  have B6 := B5.trans (bel6.mono B5.size)
  have ca0_6 := (bel6.cell (p := ⟨w.heap.size, 0, none⟩) (by show w.heap.size < _; omega)).trans ca0_5
  have ca1_6 := (bel6.cell (p := ⟨(w.heap.size + 1), 0, none⟩) (by show (w.heap.size + 1) < _; omega)).trans ca1_5
  have cx0_6 := (bel6.cell (p := ⟨m4, 0, none⟩) (by show m4 < _; omega)).trans cx0_5
  have o_x0_6 := Lib.hid (o_x0_5.out.below bel6)
  clear bel6
  clear ca0_5 ca1_5 cx0_5 o_x0_5 B5
  generalize w5.heap.size = m5 at *
  have bel7 : Below w6.heap.size w6 (w6.alloc (.cells #[Value.slice A_x1 n1 n1] 26)) := box_below _ _ _
  have cx1_7 : (w6.alloc (.cells #[Value.slice A_x1 n1 n1] 26)).cell? ⟨w6.heap.size, 0, none⟩ = some (Value.slice A_x1 n1 n1) := by simp
  have t7 : w6.heap.size + 1 ≤ (w6.alloc (.cells #[Value.slice A_x1 n1 n1] 26)).heap.size := by simp
  have ca0_7 := (bel7.cell (p := ⟨w.heap.size, 0, none⟩) (by show w.heap.size < _; omega)).trans ca0_6
  have ca1_7 := (bel7.cell (p := ⟨(w.heap.size + 1), 0, none⟩) (by show (w.heap.size + 1) < _; omega)).trans ca1_6
  have cx0_7 := (bel7.cell (p := ⟨m4, 0, none⟩) (by show m4 < _; omega)).trans cx0_6
  clear ca0_6 ca1_6 cx0_6
  go_wp2_with (fail)
  generalize w6.alloc (.cells #[Value.slice A_x1 n1 n1] 26) = w7 at *
  have s7 := bel7.size
  have B7 := B6.trans (bel7.mono B6.size)
  have o_x0_7 := Lib.hid (o_x0_6.out.below bel7)
  have o_x1_7 := Lib.hid (o_x1_6.out.below bel7)
  clear bel7
  clear o_x0_6 o_x1_6 B6
  generalize w6.heap.size = m6 at *
  refine (sameSeq_impl A_x0 A_x1 n0 n1 n0 n1 q0 q1 w7 (o_x0_7.out.rd hl0) (o_x1_7.out.rd hl1) hn0 hn1 (Nat.le_refl _) (Nat.le_refl _) HQ0.out HQ1.out (HT.out.below B7 HT.out.lt)).mono ?_
  rw [HV.out]
  rintro e w8 ⟨rfl, bel8⟩
  have s8 := bel8.size
  have B8 := B7.trans (bel8.mono B7.size)
  have ca0_8 := (bel8.cell (p := ⟨w.heap.size, 0, none⟩) (by show w.heap.size < _; omega)).trans ca0_7
  have ca1_8 := (bel8.cell (p := ⟨(w.heap.size + 1), 0, none⟩) (by show (w.heap.size + 1) < _; omega)).trans ca1_7
  have cx0_8 := (bel8.cell (p := ⟨m4, 0, none⟩) (by show m4 < _; omega)).trans cx0_7
  have cx1_8 := (bel8.cell (p := ⟨m6, 0, none⟩) (by show m6 < _; omega)).trans cx1_7
  have o_x0_8 := Lib.hid (o_x0_7.out.below bel8)
  have o_x1_8 := Lib.hid (o_x1_7.out.below bel8)
  clear bel8
  clear ca0_7 ca1_7 cx0_7 cx1_7 o_x0_7 o_x1_7 B7
  generalize w7.heap.size = m7 at *
  have R_x := Lib.hid (o_x0_8.out.rd hl0)
  have HBx := Lib.hid B8
  go_upto_region 14 with (fail)
  go_cut [39] (fun b wx => b = .bool false ∧ Below w8.heap.size w8 wx)
  case first =>
    go_wp2_with (fail)
    go_region_with (first
      | (go_at_call 25; refine (toSeq_any A0 n0 c0 q0 w8.drew ((H0.out.below HBx.out).more HBx.out.size) HQ0.out hn0).mono ?_; rintro e wt ⟨hst, At, rfl, ownt, belt'⟩; have belt := undrew belt'; have cxt := (belt.cell (p := ⟨m4, 0, none⟩) (by show m4 < _; omega)).trans cx0_8; have R7 := Lib.hid ((R_x.out.below belt).more belt.size); have S7 := Lib.hid (ownt.rd hl0); have B7 := Lib.hid (Below.trans (Below.refl _ _) (belt)); clear ownt belt belt')
      | (go_at_call 27; refine (eqSeq_any _ _ _ _ _ _ q0 q0 _ R7.out S7.out hn0 hn0 HQ0.out HQ0.out).mono ?_; rw [decide_eq_true (rfl : q0 = q0)]; rintro e wu ⟨rfl, belu⟩; have B8 := Lib.hid (B7.out.trans (belu.mono B7.out.size)); clear belu))
    all_goals (try go_wp2_with (fail))
    all_goals go_meet
    all_goals exact ⟨rfl, B8.out⟩
  case rest =>
  obtain ⟨rfl, bel9⟩ := hcut
  clear R_x HBx
  rename World => w9
  have s9 := bel9.size
  have B9 := B8.trans (bel9.mono B8.size)
  have ca0_9 := (bel9.cell (p := ⟨w.heap.size, 0, none⟩) (by show w.heap.size < _; omega)).trans ca0_8
  have ca1_9 := (bel9.cell (p := ⟨(w.heap.size + 1), 0, none⟩) (by show (w.heap.size + 1) < _; omega)).trans ca1_8
  have cx0_9 := (bel9.cell (p := ⟨m4, 0, none⟩) (by show m4 < _; omega)).trans cx0_8
  have cx1_9 := (bel9.cell (p := ⟨m6, 0, none⟩) (by show m6 < _; omega)).trans cx1_8
  have o_x0_9 := Lib.hid (o_x0_8.out.below bel9)
  have o_x1_9 := Lib.hid (o_x1_8.out.below bel9)
  clear bel9
  clear ca0_8 ca1_8 cx0_8 cx1_8 o_x0_8 o_x1_8 B8
  generalize w8.heap.size = m8 at *
  have R_x := Lib.hid (o_x1_9.out.rd hl1)
  have HBx := Lib.hid B9
  go_wp2
  go_region_with (first
    | (go_at_call 25; refine (toSeq_any A1 n1 c1 q1 w9.drew ((H1.out.below HBx.out).more HBx.out.size) HQ1.out hn1).mono ?_; rintro e wt ⟨hst, At, rfl, ownt, belt'⟩; have belt := undrew belt'; have cxt := (belt.cell (p := ⟨m6, 0, none⟩) (by show m6 < _; omega)).trans cx1_9; have R7 := Lib.hid ((R_x.out.below belt).more belt.size); have S7 := Lib.hid (ownt.rd hl1); have B7 := Lib.hid (Below.trans (Below.refl _ _) (belt)); clear ownt belt belt')
    | (go_at_call 27; refine (eqSeq_any _ _ _ _ _ _ q1 q1 _ R7.out S7.out hn1 hn1 HQ1.out HQ1.out).mono ?_; rw [decide_eq_true (rfl : q1 = q1)]; rintro e wu ⟨rfl, belu⟩; have B8 := Lib.hid (B7.out.trans (belu.mono B7.out.size)); clear belu))
  all_goals have HB := Lib.hid (HBx.out.trans (B8.out.mono HBx.out.size))
  all_goals go_wp2
  all_goals go_ret
  all_goals exact ⟨rfl, HB.out⟩

theorem walk (A0 : Option Addr) (n0 c0 : Nat) (q0 : List (List Int)) (A1 : Option Addr) (n1 c1 : Nat) (q1 : List (List Int)) (w : World) (h0 : RdQ w w.heap.size A0 n0 q0) (_hc0 : n0 ≤ c0) (hm0 : n0 ≤ maxLen) (hq0 : ∀ q ∈ q0, q.length ≤ maxLen) (_hw0 : ∀ q ∈ q0, ∀ z ∈ q, (Lit.int .i64 z).wf = true) (h1 : RdQ w w.heap.size A1 n1 q1) (_hc1 : n1 ≤ c1) (hm1 : n1 ≤ maxLen) (hq1 : ∀ q ∈ q1, q.length ≤ maxLen) (_hw1 : ∀ q ∈ q1, ∀ z ∈ q, (Lit.int .i64 z).wf = true) (ht : Arit w) :
    Calls Tryd.prog 5 #[.agg #[.slice A0 n0 c0], .agg #[.slice A1 n1 c1]] w fun e w' => e = .returned (.bool true) ∧ Below w.heap.size w w' := by
  rcases sz_casesL 1048576 (by decide) n0 q0 with hb | ⟨L0, hs0, hL0, hL'0, hn0, hT0⟩
  · exact walk_big0 A0 n0 c0 q0 A1 n1 c1 q1  w h0 h1 hm0 hq0  hb
  · rcases sz_casesL L0 hL'0 n1 q1 with hb | ⟨L1, hs1, hL1, hL'1, hn1, hT1⟩
    · exact walk_big1 A0 n0 c0 q0 A1 n1 c1 q1 L0 w h0 h1 hm0 hq0 hm1 hq1 hs0 hL0 hL'0 hb
    · exact walk_mid A0 n0 c0 q0 A1 n1 c1 q1 L0 L1 w h0 h1 hs0 hL0 hL'0 hn0 hT0 hs1 hL1 hL'1 hn1 hT1 ht

set_option maxRecDepth 100000 in
/-- What the walk gives, for all arguments and every world that holds the tables. -/
theorem contract (H : Type) (enc : TypeId × Value → H) (W : World) (base : Nat) (args : Array Value) (ds gs : List (DataW H)) (before : List MemPlace)
    (hval : ∀ (j : Nat) t v, Tryd.f5.params[j]? = some t → args[j]? = some v → Value.okWide Tryd.prog W .any base t v)
    (hW : DataW.Whole enc Tryd.prog Tryd.f5.params.toList Rows.fnExactSameSeqSpec.vars false W args.toList ds gs before) (hL : laidMetH Tryd.prog Rows.fnExactSameSeqRow.laid W) :
    Calls Tryd.prog 5 args W fun e W' => ∃ v, e = .returned v ∧ Rows.fnExactSameSeqSpec.post enc Tryd.prog Tryd.f5 false true false false W args v W' := by
  have hW' := hW
  obtain ⟨p, q, hA0, hV, rfl, hfz, hnd⟩ := hW
  have hA : DataW.TrodAll enc Tryd.prog W 0 (fun _ => true) true Tryd.f5.params.toList args.toList ds p := hA0
  rw [Tryd.params5] at hA hval
  obtain ⟨v0, vs0, d0, ds0, p0, q0, hargs, rfl, rfl, h0, r0⟩ := trodAll_cons hA
  obtain ⟨v1, vs1, d1, ds1, p1, q1, rfl, rfl, rfl, h1, r1⟩ := trodAll_cons r0
  obtain ⟨rfl, rfl, rfl⟩ := trodAll_nil r1
  obtain rfl : args = #[v0, v1] := by cases args; simp_all
  have k0 := h0
  have lt0 : ∀ x ∈ p0, x.block < W.heap.size := by obtain ⟨m, hm⟩ := k0; exact DataW.trod_lt m _ _ _ hm
  obtain ⟨a0, len0, cap0, z0, rfl, w0, c0, m0, l0, b0⟩ := open_seq (hval 0 34 v0 rfl rfl) h0
  have k1 := h1
  have lt1 : ∀ x ∈ p1, x.block < W.heap.size := by obtain ⟨m, hm⟩ := k1; exact DataW.trod_lt m _ _ _ hm
  obtain ⟨a1, len1, cap1, z1, rfl, w1, c1, m1, l1, b1⟩ := open_seq (hval 1 34 v1 rfl rfl) h1
  have ht : Arit W := arit_of hL
  have hv1 := hV
  obtain ⟨g, t, cs, fuel, d, p', rfl, hg, hty, hvar, hd, rfl⟩ := trodVars_one hV
  clear hA0
  refine (walk a0 len0 cap0 z0 a1 len1 cap1 z1 W w0 c0 m0 l0 b0 w1 c1 m1 l1 b1 ht).mono fun e W' ⟨he, bel⟩ => ?_
  subst he
  exact ⟨_, rfl, _, _, _, [], _, _, hW', trodAll_mk1 (shut_bool Tryd.underlying4 _),
    (trodAll_cons_mk (Below.trod laidOut (by kernel_rfl) (of_decide_eq_true (by kernel_rfl)) k0 bel lt0) (trodAll_cons_mk (Below.trod laidOut (by kernel_rfl) (of_decide_eq_true (by kernel_rfl)) k1 bel lt1) trodAll_mk0)),
    vars_below bel (readable_all _ (by kernel_rfl)) hv1, bel.frame _, fun h => by cases h⟩

theorem laid_met (os : Os) : laidMet Tryd.prog Rows.fnExactSameSeqRow.laid ((laidWorld os).forCall (fun _ _ => 0) ⟨#[], #[.agg #[.slice none 0 0], .agg #[.slice none 0 0]], []⟩).memory :=
  laidMet_of_run' 8 (by kernel_rfl) (by kernel_rfl)
theorem reads (os : Os) {H : Type} (enc : TypeId × Value → H) : ∃ x, DataW.whole enc Tryd.prog ((laidWorld os).forCall (fun _ _ => 0) ⟨#[], #[.agg #[.slice none 0 0], .agg #[.slice none 0 0]], []⟩).memory Tryd.f5.params.toList Rows.fnExactSameSeqSpec.vars false (#[.agg #[.slice none 0 0], .agg #[.slice none 0 0]] : Array Value).toList 8 = some x :=
  Option.isSome_iff_exists.1 (by kernel_rfl)

set_option maxRecDepth 100000 in
theorem lifted (os : Os) (started : os.Started) (H : Type) (enc : TypeId × Value → H) (F : Stop.Interp) :
    ReturnsInHanded {} Tryd.checked os 5 .any ((OpenSpec.ofChange Rows.fnExactSameSeqSpec).preRow enc Tryd.prog Tryd.f5 Rows.fnExactSameSeqRow.domain false Rows.fnExactSameSeqRow.laid) (((OpenSpec.ofChange Rows.fnExactSameSeqSpec).at F).post enc Tryd.prog Tryd.f5 false true false false) := by
  obtain ⟨places, hx⟩ := reads os enc
  refine returnsInHanded_of_row (C := Tryd.checked) (s := OpenSpec.ofChange Rows.fnExactSameSeqSpec) own started (by kernel_rfl) Tryd.func5
    (witness_row_at (enc := enc) (C := Tryd.checked) false (laidWorld os) #[.agg #[.slice none 0 0], .agg #[.slice none 0 0]] rfl (by kernel_rfl) (by kernel_rfl) (by kernel_rfl)
      (OpenSpec.preRow_of_cond 8 hx rfl (fun k hk => by cases hk) (by kernel_rfl) (laid_met os))) ?_
  intro W base args ds gs before hval hW _ _ _ hL _ _
  exact contract H enc W base args ds gs before hval hW hL

theorem said : Rows.FnExactSameSeqSaid :=
  OpenClaim.holds_of_cond 5 Tryd.f5 rfl rfl rfl rfl rfl rfl rfl ⟨rfl, rfl, rfl, rfl, rfl⟩ rfl rfl rfl rfl rfl (by kernel_rfl) Tryd.func5 (by kernel_rfl)
    (of_decide_eq_true (by kernel_rfl)) (by unfold Func.isWrapper; first | (rw [if_pos (by decide +kernel)]; kernel_rfl) | (rw [if_neg (by decide +kernel)]; exact ⟨rfl, rfl⟩))
    (fun os started H enc _ F => by rw [OpenClaim.pre_eq_preRow]; exact lifted os started H enc F)

theorem plain (f : FuncId) (fn : Func) (hf : Tryd.pinned.checked.prog.funcNamed "loop.example/g00872/laws.FnExactSameSeq" = some f) (hfn : Tryd.pinned.checked.prog.funcs[f]? = some fn) :
    Rows.fnExactSameSeqCard.stood.looks = Tryd.pinned.checked.prog.looks [] ∧ ∀ (j : Nat) t, fn.params[j]? = some t → Tryd.pinned.checked.prog.wantsStandIn t = false := by
  obtain rfl : f = 5 := Option.some.inj ((show Tryd.prog.funcNamed "loop.example/g00872/laws.FnExactSameSeq" = some 5 by kernel_rfl).symm.trans hf) |>.symm
  obtain rfl : fn = Tryd.f5 := (Option.some.inj (Tryd.func5.symm.trans hfn)).symm
  refine ⟨by kernel_rfl, fun j t ht => ?_⟩
  rw [Tryd.params5] at ht
  have hm : t ∈ [34, 34] := by simpa using Array.mem_of_getElem? ht
  have hall : ([34, 34].all fun u => !Tryd.prog.wantsStandIn u) = true := by kernel_rfl
  exact (show Tryd.prog.wantsStandIn t = false by simpa using List.all_eq_true.1 hall t hm)

/-- The statement. -/
theorem card : Rows.FnExactSameSeqCardSaid :=
  Claim7.holds_tied_plain_at .later [] _ _ _ _ said (fun _ h => by cases h) (by kernel_rfl) (fun _ h => by cases h) fnExactSameSeq_row_tie rfl ⟨rfl, rfl⟩ (by kernel_rfl) rfl plain (by kernel_rfl)
end Go.Proofs.YtjmalgadpodmbaaDoor.fnExactSameSeq
