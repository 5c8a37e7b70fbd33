/- The model's conclude at rule 14. Made by mkcmf.py. The model's conclude at every rule. The model's StepResult. -/
import Derived.Test.YthbkcpacgnmcfaaGreatDoorQCmE13
import Derived.Test.YthbkcpacgnmcfaaGreatDoorQSubA
import Derived.Test.YthbkcpacgnmcfaaGreatDoorQCmC0
import Derived.Test.YthbkcpacgnmcfaaGreatDoorQCmC3a
import Derived.Test.YthbkcpacgnmcfaaGreatDoorQCmE3
import Derived.Test.YthbkcpacgnmcfaaGreatDoorQCmE7
import Derived.Test.YthbkcpacgnmcfaaGreatDoorQCmE10
import Derived.Test.YthbkcpacgnmcfaaGreatDoorCmG
namespace Go.Proofs.YthbkcpacgnmcfaaGreatDoor
set_option linter.unusedSimpArgs false
set_option linter.unusedVariables false
section
open Go.ChangeAt Go.ChangeShapes Go.RowKit Go.WideShapes
open List (setIfInBounds_toArray set_cons_zero set_cons_succ getElem_toArray getElem_cons_succ getElem_cons_zero)

set_option linter.unusedSimpArgs false in
set_option maxRecDepth 100000 in
set_option maxHeartbeats 16000000 in
theorem cc_14 (a b : Int) (ii jj : Nat) (B : Option Addr) (m d : Nat) (F : List Int) (A : Option Addr) (n c : Nat) (P : List (List Int)) (A2 : Option Addr) (n2 c2 : Nat) (Q : List (List Int)) (w : World) (h : RdQ w w.heap.size A n P) (hnc : n ≤ c) (hP : validQ P = true) (hii : ii < P.length) (hjj : jj < P.length) :
    Calls Tryz.prog 55 #[.slice A n c, .slice A2 n2 c2, Value.agg #[Value.int .i64 14, Value.int .i64 a, Value.int .i64 b, Value.int .i64 ((ii : Nat) : Int), Value.int .i64 ((jj : Nat) : Int), Value.slice B m d]] w (GivesV w (cnL 14 ((ii : Nat) : Int) ((jj : Nat) : Int) F P Q)) := by
  rw [show cnL 14 ((ii : Nat) : Int) ((jj : Nat) : Int) F P Q = swpL P ii jj from rfl]
  obtain ⟨i0, hi0, hz0, hz1, hz2⟩ := info_parts_s
  have HI := Lib.hid hi0; have HZ0 := Lib.hid hz0; have HZ1 := Lib.hid hz1; have HZ2 := Lib.hid hz2
  have hl := h.len
  subst hl
  have hvl := validQ_len hP
  obtain ⟨u, hu0⟩ : ∃ u, u = w.alloc (.cells #[Value.int .i64 14, Value.int .i64 a, Value.int .i64 b, Value.int .i64 ((ii : Nat) : Int), Value.int .i64 ((jj : Nat) : Int), Value.slice B m d] 43) := ⟨_, rfl⟩
  have hb : Below w.heap.size w u := by rw [hu0]; exact box_any w _
  have p0 := an hu0
  have HU0 := Lib.hid hu0; have HBU := Lib.hid hb; have HP0 := Lib.hid p0
  obtain ⟨bp, op, rfl, hbp, hcp⟩ := h.2 (by omega)
  obtain ⟨vs, hv, hc⟩ := RdV.of_q ((h.below hb).more hb.size)
  obtain ⟨AI, cI, kI, mI, rI⟩ := hcp ii hii
  obtain ⟨AJ, cJ, kJ, mJ, rJ⟩ := hcp jj hjj
  have HRV : Hid (RdV u ((vs.set ii (.slice AJ (P.getD jj []).length cJ)).set jj (.slice AI (P.getD ii []).length cI)) (swpL P ii jj)) := Lib.hid ((hv.set hii ((rJ.below hb).more hb.size) mJ).set (by rw [List.length_set]; exact hjj) ((rI.below hb).more hb.size) mI)
  have H1 : Hid (∀ v ∈ vs, v.oneCell' = true) := Lib.hid hv.one
  have hlv := hv.len
  obtain ⟨w1, hw1⟩ : ∃ w1, w1 = u.alloc (.cells #[] 36) := ⟨_, rfl⟩
  have HO1 := Lib.hid (show w1.ownsRow u.heap.size 36 1 (.slice (some ⟨u.heap.size, 0, none⟩) 0 0) 0 [] by rw [hw1]; exact made_q (Nat.le_refl _))
  have HB1 := Lib.hid (show Below u.heap.size u w1 by rw [hw1]; exact box_any u _)
  have HW1 := Lib.hid hw1
  have HC : Hid (∀ j v, vs[j]? = some v → w1.cell? ((⟨bp, op, none⟩ : Addr).add j) = some v) := Lib.hid fun j v hv => by
    have e := hc j v hv
    rw [add_off] at e ⊢
    rw [← e]; exact HB1.out.cell (Nat.lt_of_lt_of_le hbp hb.size)
  generalize (P.getD ii []).length = NI at *
  generalize (P.getD jj []).length = NJ at *
  have HSX : Hid (∀ wx, Below u.heap.size u wx → wx.cell? ⟨w.heap.size, 3, none⟩ = some (.int .i64 ((ii : Nat) : Int)) ∧ wx.cell? ⟨w.heap.size, 4, none⟩ = some (.int .i64 ((jj : Nat) : Int)) ∧ wx.cell? ⟨bp, op + ii, none⟩ = some (.slice AI NI cI) ∧ wx.cell? ⟨bp, op + jj, none⟩ = some (.slice AJ NJ cJ)) := Lib.hid fun wx hx => by
    have q := (hx.block w.heap.size (Array.getElem?_eq_some_iff.1 p0).1).trans p0
    exact ⟨cell_of_row _ _ 3 _ _ (0, 0) q, cell_of_row _ _ 4 _ _ (0, 0) q, ((hb.trans (hx.mono hb.size)).cell (p := ⟨bp, op + ii, none⟩) hbp).trans kI, ((hb.trans (hx.mono hb.size)).cell (p := ⟨bp, op + jj, none⟩) hbp).trans kJ⟩
  have tokA : True := trivial
  clear hw1 hv hc h hnc hP hcp kI kJ mI mJ rI rJ hbp
  have e0 := cell_of_row _ _ 0 _ _ (0, 0) HP0.out
  clear hu0 hb p0
  go_enter Tryz.func55, Tryz.ntmps55
  go_upto_region 1 with (fail)
  rw [← HU0.out]
  go_wp2_with (first
    | (have _t := tokA; at_builtin; rw [← HW1.out]; refine wpList_append_own _ rfl _ _ 23 rfl u.heap.size 36 i0 (.slice none 0 0) 1 24 Tryz.underlying23 HI.out HZ0.out HZ1.out HZ2.out rfl (by decide) _ _ _ rfl HO1.out ⟨bp, op, none⟩ P.length c vs rfl (by rw [Nat.mul_one]; exact hlv) HC.out H1.out (by unfold maxLen; omega) (by omega) HB1.out.size ?_; intro v2 w2 hown2 hgrow2 hiff2; rw [Nat.zero_add, List.nil_append] at hown2; obtain ⟨g2, k2, rfl⟩ := own_some hown2 (fun e => by have := (hiff2.1 e).1; cases this); have FB_0 := Lib.hid (HB1.out.grown hgrow2 HB1.out.size (fun k hk => (HO1.out.lt k hk).1)); have FO_0 := Lib.hid hown2; clear hown2 hgrow2 hiff2 tokA; have HG2 := Lib.hid (FO_0.out.lt g2 rfl).1)
    | fail)
  go_upto_region 29 with (fail)
  refine wp_region_held_drew (S := fun wx => wx.cell? ⟨w.heap.size, 3, none⟩ = some (.int .i64 ((ii : Nat) : Int)) ∧ wx.cell? ⟨w.heap.size, 4, none⟩ = some (.int .i64 ((jj : Nat) : Int)) ∧ wx.cell? ⟨bp, op + ii, none⟩ = some (.slice AI NI cI) ∧ wx.cell? ⟨bp, op + jj, none⟩ = some (.slice AJ NJ cJ)) (by kernel_rfl) (HSX.out _ FB_0.out.drew) (fun hHeld => ?_)
  obtain ⟨wy1, hwy1⟩ : ∃ w', w' = w2.drew := ⟨_, rfl⟩
  rw [← hwy1] at hHeld ⊢
  have by1 : Below w2.heap.size w2 wy1 := by rw [hwy1]; exact (Below.refl _ _).drew
  clear hwy1
  have FB_y2 := Lib.hid ((FB_0.out).trans ((by1).mono (FB_0.out).size))
  have FO_y3 := Lib.hid (own_below (FO_0.out) (by1) (Nat.le_refl _))
  clear FB_0 FO_0
  refine tk (i := 0) (h := ?_)
  (try simp only [Act.put, setIfInBounds_toArray, set_cons_zero, set_cons_succ, getElem_toArray, getElem_cons_succ, getElem_cons_zero])
  refine tk (i := 1) (h := ?_)
  (try simp only [Act.put, setIfInBounds_toArray, set_cons_zero, set_cons_succ, getElem_toArray, getElem_cons_succ, getElem_cons_zero])
  refine tk (i := 3) (h := ?_)
  (try simp only [Act.put, setIfInBounds_toArray, set_cons_zero, set_cons_succ, getElem_toArray, getElem_cons_succ, getElem_cons_zero])
  refine tk (i := 4) (h := ?_)
  (try simp only [Act.put, setIfInBounds_toArray, set_cons_zero, set_cons_succ, getElem_toArray, getElem_cons_succ, getElem_cons_zero])
  refine tk (i := 2) (h := ?_)
  (try simp only [Act.put, setIfInBounds_toArray, set_cons_zero, set_cons_succ, getElem_toArray, getElem_cons_succ, getElem_cons_zero])
  refine tk (i := 5) (h := ?_)
  (try simp only [Act.put, setIfInBounds_toArray, set_cons_zero, set_cons_succ, getElem_toArray, getElem_cons_succ, getElem_cons_zero])
  refine tk (i := 6) (h := ?_)
  (try simp only [Act.put, setIfInBounds_toArray, set_cons_zero, set_cons_succ, getElem_toArray, getElem_cons_succ, getElem_cons_zero])
  refine tk (i := 7) (h := ?_)
  (try simp only [Act.put, setIfInBounds_toArray, set_cons_zero, set_cons_succ, getElem_toArray, getElem_cons_succ, getElem_cons_zero])
  refine tk (i := 8) (h := ?_)
  (try simp only [Act.put, setIfInBounds_toArray, set_cons_zero, set_cons_succ, getElem_toArray, getElem_cons_succ, getElem_cons_zero])
  refine t1 (i := 9) (h := fun K hK => ?_)
  obtain ⟨dy13, czy13⟩ : ∃ d, wy1.cell? ⟨g2, ii, none⟩ = some d := ⟨_, (FO_y3.out.cellAt ii (by omega)).trans (List.getElem?_eq_getElem (by have := FO_y3.out.1; omega))⟩; have fzy13 := FO_y3.out.frozenAt ii
  go_simp
  obtain ⟨wy13, hwy13⟩ : ∃ w', w' = wy1.setCell ⟨g2, ii, none⟩ (.slice AJ NJ cJ) := ⟨_, rfl⟩
  rw [← hwy13]
  have FB_y13 : Hid (Below u.heap.size u wy13) := Lib.hid (by rw [hwy13]; exact FB_y2.out.setCell (p := ⟨g2, ii, none⟩) HG2.out (.slice AJ NJ cJ))
  have FO_y13 := Lib.hid (FO_y3.out.stored ii (.slice AJ NJ cJ)).1
  rw [← hwy13] at FO_y13
  clear czy13 fzy13 hwy13 FB_y2 FO_y3
  refine hK.out _ _ (HSX.out _ FB_y13.out) (fun hHeld => ?_)
  clear hK K
  (try simp only [Act.put, setIfInBounds_toArray, set_cons_zero, set_cons_succ, getElem_toArray, getElem_cons_succ, getElem_cons_zero])
  refine wpAnyH_done (by kernel_rfl) ?_ _
  obtain ⟨e3, e4, e5, e6⟩ := HSX.out _ FB_y13.out
  go_upto_region 30 with (fail)
  clear e3 e4 e5 e6
  refine wp_region_held_drew (S := fun wx => wx.cell? ⟨w.heap.size, 3, none⟩ = some (.int .i64 ((ii : Nat) : Int)) ∧ wx.cell? ⟨w.heap.size, 4, none⟩ = some (.int .i64 ((jj : Nat) : Int)) ∧ wx.cell? ⟨bp, op + ii, none⟩ = some (.slice AI NI cI) ∧ wx.cell? ⟨bp, op + jj, none⟩ = some (.slice AJ NJ cJ)) (by kernel_rfl) (HSX.out _ FB_y13.out.drew) (fun hHeld => ?_)
  obtain ⟨wz1, hwz1⟩ : ∃ w', w' = wy13.drew := ⟨_, rfl⟩
  rw [← hwz1] at hHeld ⊢
  have bz1 : Below wy13.heap.size wy13 wz1 := by rw [hwz1]; exact (Below.refl _ _).drew
  clear hwz1
  have FB_z2 := Lib.hid ((FB_y13.out).trans ((bz1).mono (FB_y13.out).size))
  have FO_z3 := Lib.hid (own_below (FO_y13.out) (bz1) (Nat.le_refl _))
  clear FB_y13 FO_y13
  refine tk (i := 0) (h := ?_)
  (try simp only [Act.put, setIfInBounds_toArray, set_cons_zero, set_cons_succ, getElem_toArray, getElem_cons_succ, getElem_cons_zero])
  refine tk (i := 1) (h := ?_)
  (try simp only [Act.put, setIfInBounds_toArray, set_cons_zero, set_cons_succ, getElem_toArray, getElem_cons_succ, getElem_cons_zero])
  refine tk (i := 3) (h := ?_)
  (try simp only [Act.put, setIfInBounds_toArray, set_cons_zero, set_cons_succ, getElem_toArray, getElem_cons_succ, getElem_cons_zero])
  refine tk (i := 4) (h := ?_)
  (try simp only [Act.put, setIfInBounds_toArray, set_cons_zero, set_cons_succ, getElem_toArray, getElem_cons_succ, getElem_cons_zero])
  refine tk (i := 2) (h := ?_)
  (try simp only [Act.put, setIfInBounds_toArray, set_cons_zero, set_cons_succ, getElem_toArray, getElem_cons_succ, getElem_cons_zero])
  refine tk (i := 5) (h := ?_)
  (try simp only [Act.put, setIfInBounds_toArray, set_cons_zero, set_cons_succ, getElem_toArray, getElem_cons_succ, getElem_cons_zero])
  refine tk (i := 6) (h := ?_)
  (try simp only [Act.put, setIfInBounds_toArray, set_cons_zero, set_cons_succ, getElem_toArray, getElem_cons_succ, getElem_cons_zero])
  refine tk (i := 7) (h := ?_)
  (try simp only [Act.put, setIfInBounds_toArray, set_cons_zero, set_cons_succ, getElem_toArray, getElem_cons_succ, getElem_cons_zero])
  refine tk (i := 8) (h := ?_)
  (try simp only [Act.put, setIfInBounds_toArray, set_cons_zero, set_cons_succ, getElem_toArray, getElem_cons_succ, getElem_cons_zero])
  refine t1 (i := 9) (h := fun K hK => ?_)
  obtain ⟨dz13, czz13⟩ : ∃ d, wz1.cell? ⟨g2, jj, none⟩ = some d := ⟨_, (FO_z3.out.cellAt jj (by omega)).trans (List.getElem?_eq_getElem (by have := FO_z3.out.1; omega))⟩; have fzz13 := FO_z3.out.frozenAt jj
  go_simp
  obtain ⟨wz13, hwz13⟩ : ∃ w', w' = wz1.setCell ⟨g2, jj, none⟩ (.slice AI NI cI) := ⟨_, rfl⟩
  rw [← hwz13]
  have FB_z13 : Hid (Below u.heap.size u wz13) := Lib.hid (by rw [hwz13]; exact FB_z2.out.setCell (p := ⟨g2, jj, none⟩) HG2.out (.slice AI NI cI))
  have FO_z13 := Lib.hid (FO_z3.out.stored jj (.slice AI NI cI)).1
  rw [← hwz13] at FO_z13
  clear czz13 fzz13 hwz13 FB_z2 FO_z3
  refine hK.out _ _ (HSX.out _ FB_z13.out) (fun hHeld => ?_)
  clear hK K
  (try simp only [Act.put, setIfInBounds_toArray, set_cons_zero, set_cons_succ, getElem_toArray, getElem_cons_succ, getElem_cons_zero])
  refine wpAnyH_done (by kernel_rfl) ?_ _
  have HB9 := Lib.hid FB_z13.out; have HO9 := Lib.hid FO_z13.out
  clear HSX
  go_wp2
  go_ret
  exact givesV_of HBU.out HB9.out HO9.out HRV.out
end
section
open Go.ChangeAt Go.ChangeShapes Go.RowKit Go.WideShapes

theorem sConclude_any (a b i j : Int) (B : Option Addr) (m d : Nat) (F : List Int) (A : Option Addr) (n c : Nat) (P : List (List Int)) (A2 : Option Addr) (n2 c2 : Nat) (Q : List (List Int)) (w : World) (hf : RdI w w.heap.size B m F) (h : RdQ w w.heap.size A n P) (h2 : RdQ w w.heap.size A2 n2 Q) (hmd : m ≤ d) (hnc : n ≤ c) (hnc2 : n2 ≤ c2) (hA : A = none → c = 0) (hP : validQ P = true) (hQ : validQ Q = true) :
    ∀ r : Int, 1 ≤ r → r ≤ 14 → cdB r i j F P Q = true → Calls Tryz.prog 55 #[.slice A n c, .slice A2 n2 c2, Value.agg #[Value.int .i64 r, Value.int .i64 a, Value.int .i64 b, Value.int .i64 i, Value.int .i64 j, Value.slice B m d]] w (GivesV w (cnL r i j F P Q)) := by
  have hfit : ∀ r : Int, ruF r = true → cdB r i j F P Q = true → validB F = true := fun r hz hc => by
    unfold cdB fitV at hc
    rw [hz] at hc
    simp only [Bool.and_eq_true, if_true] at hc
    exact hc.1.1.1.1
  have hpos : ∀ r : Int, cdB r i j F P Q = true → posM r i j P.length Q.length = true := fun r hc => by
    unfold cdB at hc
    simp only [Bool.and_eq_true] at hc
    exact hc.1.2
  have hctx : ∀ r : Int, cdB r i j F P Q = true → ctxB r i j P Q = true := fun r hc => by
    unfold cdB at hc
    simp only [Bool.and_eq_true] at hc
    exact hc.2
  refine ru_cases ?_ ?_ ?_ ?_ ?_ ?_ ?_ ?_ ?_ ?_ ?_ ?_ ?_ ?_
  all_goals intro hc
  · exact cc_1 a b i j B m d F A n c P A2 n2 c2 Q w hf hmd (hfit 1 rfl hc)
  · obtain ⟨ii, rfl, hii⟩ := posM_I (hpos 2 hc) rfl
    obtain ⟨jj, rfl, hjj⟩ := posM_J2 (hpos 2 hc) rfl rfl
    exact cc_2 a b ii jj B m d F A n c P A2 n2 c2 Q w h hnc hP hii h2 hnc2 hQ hjj
  · obtain ⟨ii, rfl, hii⟩ := posM_I (hpos 3 hc) rfl
    obtain ⟨jj, rfl, hjj⟩ := posM_J2 (hpos 3 hc) rfl rfl
    exact cc_3 a b ii jj B m d F A n c P A2 n2 c2 Q w h hnc hP hii h2 hnc2 hQ hjj
  · obtain ⟨ii, rfl, hii⟩ := posM_I (hpos 4 hc) rfl
    obtain ⟨jj, rfl, hjj⟩ := posM_J1 (hpos 4 hc) rfl rfl
    have hij : ii ≠ jj := fun e => by have := of_decide_eq_true (show decide (((ii : Nat) : Int) ≠ (jj : Int)) = true from hctx 4 hc); exact this (by rw [e])
    exact cc_4 a b ii jj B m d F A n c P A2 n2 c2 Q w h hnc hP hii hjj hij
  · exact cc_5 a b i j B m d F A n c P A2 n2 c2 Q w
  · exact cc_6 a b i j B m d F A n c P A2 n2 c2 Q w h hA hP
  · obtain ⟨ii, rfl, hii⟩ := posM_I (hpos 7 hc) rfl
    obtain ⟨jj, rfl, hjj⟩ := posM_J2 (hpos 7 hc) rfl rfl
    exact cc_7 a b ii jj B m d F A n c P A2 n2 c2 Q w h hnc hP hii h2 hnc2 hQ hjj
  · obtain ⟨ii, rfl, hii⟩ := posM_I (hpos 8 hc) rfl
    exact cc_8 a b j ii B m d F A n c P A2 n2 c2 Q w h hnc hP hii hf (hfit 8 rfl hc)
  · obtain ⟨ii, rfl, hii⟩ := posM_I (hpos 9 hc) rfl
    exact cc_9 a b j ii B m d F A n c P A2 n2 c2 Q w h hnc hP hii hf (hfit 9 rfl hc)
  · obtain ⟨ii, rfl, hii⟩ := posM_I (hpos 10 hc) rfl
    exact cc_10 a b j ii B m d F A n c P A2 n2 c2 Q w h hnc hP hii
  · obtain ⟨ii, rfl, hii⟩ := posM_I (hpos 11 hc) rfl
    exact cc_11 a b j ii B m d F A n c P A2 n2 c2 Q w h hnc hP hii
  · exact cc_12 a b i j B m d F A n c P A2 n2 c2 Q w h hA hP hf (hfit 12 rfl hc)
  · obtain ⟨ii, rfl, hii⟩ := posM_I (hpos 13 hc) rfl
    obtain ⟨jj, rfl, hjj⟩ := posM_J1 (hpos 13 hc) rfl rfl
    have hij : ii ≠ jj := fun e => by
      have h9 : (decide (((ii : Nat) : Int) ≠ (jj : Int)) && _) = true := hctx 13 hc
      rw [Bool.and_eq_true] at h9
      exact of_decide_eq_true h9.1 (by rw [e])
    exact cc_13 a b ii jj B m d F A n c P A2 n2 c2 Q w h hnc hP hii hjj hij
  · obtain ⟨ii, rfl, hii⟩ := posM_I (hpos 14 hc) rfl
    obtain ⟨jj, rfl, hjj⟩ := posM_J1 (hpos 14 hc) rfl rfl
    exact cc_14 a b ii jj B m d F A n c P A2 n2 c2 Q w h hnc hP hii hjj
end
section
open Go.ChangeAt Go.ChangeShapes Go.RowKit Go.WideShapes

theorem woL_mem {P : List (List Int)} {L : List Int} {q : List Int} (h : q ∈ woL P L) : q ∈ P := by
  unfold woL woK at h
  obtain ⟨i, hi, rfl⟩ := List.mem_map.1 h
  have := (List.mem_filter.1 hi).1
  exact getD_mem (List.mem_range.1 this)
theorem swp_in {P : List (List Int)} {i j : Nat} (hi : i < P.length) (hj : j < P.length) {q : List Int} (h : q ∈ swpL P i j) : q ∈ P := by
  unfold swpL at h
  rcases List.mem_or_eq_of_mem_set h with h | rfl
  · rcases List.mem_or_eq_of_mem_set h with h | rfl
    · exact h
    · exact getD_mem hj
  · exact getD_mem hi
def okL (q : List Int) : Prop := 0 < q.length ∧ q.length ≤ 1000
theorem okQ {P : List (List Int)} (hP : validQ P = true) {q : List Int} (h : q ∈ P) : 0 < q.length ∧ q.length ≤ 24 := by have := valid_len (validQ_mem hP h); omega
/-- What a rule concludes is small. -/
theorem cn_lens {i j : Int} {F : List Int} {P Q : List (List Int)} (hP : validQ P = true) (hQ : validQ Q = true) : ∀ r : Int, 1 ≤ r → r ≤ 14 → cdB r i j F P Q = true → (cnL r i j F P Q).length ≤ 1000 ∧ ∀ q ∈ cnL r i j F P Q, okL q := by
  have hlP := validQ_len hP
  have hlQ := validQ_len hQ
  have w1 : ∀ L, (woL P L).length ≤ 10 := fun L => Nat.le_trans (woK_len _ _ _) hlP
  have w2 : ∀ L, (woL Q L).length ≤ 10 := fun L => Nat.le_trans (woK_len _ _ _) hlQ
  have m1 : ∀ L, ∀ q ∈ woL P L, okL q := fun L q hq => by have := okQ hP (woL_mem hq); unfold okL; omega
  have m2 : ∀ L, ∀ q ∈ woL Q L, okL q := fun L q hq => by have := okQ hQ (woL_mem hq); unfold okL; omega
  have one : ∀ {R : List (List Int)} {X : List Int}, R.length ≤ 20 → (∀ q ∈ R, okL q) → okL X → (R ++ [X]).length ≤ 1000 ∧ ∀ q ∈ R ++ [X], okL q := fun h1 h2 h3 => by
    refine ⟨by rw [List.length_append, List.length_singleton]; omega, fun q hq => ?_⟩
    rcases List.mem_append.1 hq with h | h
    · exact h2 q h
    · rw [List.mem_singleton.1 h]; exact h3
  have two : ∀ {R S : List (List Int)}, R.length ≤ 10 → S.length ≤ 10 → (∀ q ∈ R, okL q) → (∀ q ∈ S, okL q) → (R ++ S).length ≤ 20 ∧ ∀ q ∈ R ++ S, okL q := fun h1 h2 h3 h4 => by
    refine ⟨by rw [List.length_append]; omega, fun q hq => ?_⟩
    rcases List.mem_append.1 hq with h | h
    · exact h3 q h
    · exact h4 q h
  have gP : ∀ k : Nat, k < P.length → (P.getD k []).length ≤ 24 ∧ 0 < (P.getD k []).length := fun k hk => by have := okQ hP (getD_mem hk); omega
  have gQ : ∀ k : Nat, k < Q.length → (Q.getD k []).length ≤ 24 ∧ 0 < (Q.getD k []).length := fun k hk => by have := okQ hQ (getD_mem hk); omega
  have hfit : ∀ r : Int, ruF r = true → cdB r i j F P Q = true → 0 < F.length ∧ F.length ≤ 24 := fun r hz hc => by
    unfold cdB fitV at hc
    rw [hz] at hc
    simp only [Bool.and_eq_true, if_true] at hc
    have := valid_len hc.1.1.1.1
    omega
  have hpos : ∀ r : Int, cdB r i j F P Q = true → posM r i j P.length Q.length = true := fun r hc => by
    unfold cdB at hc
    simp only [Bool.and_eq_true] at hc
    exact hc.1.2
  have hI : ∀ r : Int, ruI r = true → cdB r i j F P Q = true → i.toNat < P.length := fun r hr hc => by
    obtain ⟨k, e, hk⟩ := posM_I (hpos r hc) hr
    omega
  have hJ1 : ∀ r : Int, ruJ r = true → ruP r = 1 → cdB r i j F P Q = true → j.toNat < P.length := fun r hr hp hc => by
    obtain ⟨k, e, hk⟩ := posM_J1 (hpos r hc) hr hp
    omega
  have hJ2 : ∀ r : Int, ruJ r = true → ruP r = 2 → cdB r i j F P Q = true → j.toNat < Q.length := fun r hr hp hc => by
    obtain ⟨k, e, hk⟩ := posM_J2 (hpos r hc) hr hp
    omega
  have bin : ∀ {x y : List Int} {o : Int}, x.length ≤ 24 → y.length ≤ 24 → okL (o :: (x ++ y)) := fun h1 h2 => by unfold okL; simp; omega
  have una : ∀ {x : List Int} {o : Int}, x.length ≤ 24 → okL (o :: x) := fun h1 => by unfold okL; simp; omega
  refine ru_cases ?_ ?_ ?_ ?_ ?_ ?_ ?_ ?_ ?_ ?_ ?_ ?_ ?_ ?_
  all_goals intro hc
  · have hF := hfit 1 rfl hc
    show [F, dualL F].length ≤ 1000 ∧ ∀ q ∈ [F, dualL F], okL q
    have hv : validB F = true := by
      unfold cdB fitV at hc
      simp only [Bool.and_eq_true] at hc
      exact hc.1.1.1.1
    have hd : (dualL F).length = F.length := by rw [dualL_yes hv, List.length_map]
    refine ⟨by simp, fun q hq => ?_⟩
    rcases List.mem_cons.1 hq with rfl | hq
    · unfold okL; omega
    · rw [List.mem_singleton.1 hq]; unfold okL; omega
  · have h9 := two (w1 [((i.toNat : Nat) : Int)]) (w2 [((j.toNat : Nat) : Int)]) (m1 _) (m2 _)
    exact ⟨Nat.le_trans h9.1 (by decide), h9.2⟩
  · have h9 := two (w1 [((i.toNat : Nat) : Int)]) (w2 [((j.toNat : Nat) : Int)]) (m1 _) (m2 _)
    exact one h9.1 h9.2 (bin (gP _ (hI 3 rfl hc)).1 (gQ _ (hJ2 3 rfl rfl hc)).1)
  · exact one (Nat.le_trans (w1 _) (by decide)) (m1 _) (bin (gP _ (hI 4 rfl hc)).1 (gP _ (hJ1 4 rfl rfl hc)).1)
  · show [[13]].length ≤ 1000 ∧ ∀ q ∈ [[(13 : Int)]], okL q
    exact ⟨by simp, fun q hq => by rw [List.mem_singleton.1 hq]; unfold okL; simp⟩
  · exact one (Nat.le_trans (w1 _) (by decide)) (m1 _) (by unfold okL; simp)
  · exact one (Nat.le_trans (w1 _) (by decide)) (m1 _) (bin (gP _ (hI 7 rfl hc)).1 (gQ _ (hJ2 7 rfl rfl hc)).1)
  · exact one (Nat.le_trans (w1 _) (by decide)) (m1 _) (bin (gP _ (hI 8 rfl hc)).1 (hfit 8 rfl hc).2)
  · exact one (Nat.le_trans (w1 _) (by decide)) (m1 _) (bin (hfit 9 rfl hc).2 (gP _ (hI 9 rfl hc)).1)
  · exact one (Nat.le_trans (w1 _) (by decide)) (m1 _) (una (gP _ (hI 10 rfl hc)).1)
  · exact one (Nat.le_trans (w1 _) (by decide)) (m1 _) (una (gP _ (hI 11 rfl hc)).1)
  · exact one (Nat.le_trans (w1 _) (by decide)) (m1 _) (una (hfit 12 rfl hc).2)
  · exact one (Nat.le_trans (w1 _) (by decide)) (m1 _) (by have := gP _ (hI 13 rfl hc); unfold okL; omega)
  · show (swpL P i.toNat j.toNat).length ≤ 1000 ∧ ∀ q ∈ swpL P i.toNat j.toNat, okL q
    exact ⟨by unfold swpL; rw [List.length_set, List.length_set]; omega, fun q hq => by have := okQ hP (swp_in (hI 14 rfl hc) (hJ1 14 rfl rfl hc) hq); unfold okL; omega⟩

set_option maxRecDepth 100000 in
set_option maxHeartbeats 4000000 in
theorem sStepResult_any (r a b i j : Int) (h1 : 1 ≤ r) (h14 : r ≤ 14) (A : Option Addr) (n c : Nat) (P : List (List Int)) (A2 : Option Addr) (n2 c2 : Nat) (Q : List (List Int)) (B : Option Addr) (m d : Nat) (F : List Int) (w : World) (h : RdQ w w.heap.size A n P) (h2 : RdQ w w.heap.size A2 n2 Q) (hf : RdI w w.heap.size B m F) (hmd : m ≤ d) (hm : m ≤ 1048576) (hnc : n ≤ c) (hnc2 : n2 ≤ c2) (hA : A = none → c = 0) (hP : validQ P = true) (hQ : validQ Q = true) :
    Calls Tryz.prog 42 #[.agg #[.slice A n c], .agg #[.slice A2 n2 c2], Value.agg #[Value.int .i64 r, Value.int .i64 a, Value.int .i64 b, Value.int .i64 i, Value.int .i64 j, Value.slice B m d]] w (GivesS w (srV r i j F P Q)) := by
  have hl := h.len
  subst hl
  have hl2 := h2.len
  subst hl2
  obtain ⟨u, hu0⟩ : ∃ u, u = (((w.alloc (.cells #[Value.slice A P.length c] 64)).alloc (.cells #[Value.slice A2 Q.length c2] 64)).alloc (.cells #[Value.int .i64 r, Value.int .i64 a, Value.int .i64 b, Value.int .i64 i, Value.int .i64 j, Value.slice B m d] 43)).alloc (.cells #[.slice none 0 0] 64) := ⟨_, rfl⟩
  obtain ⟨hb, p0, p1, p2, p3⟩ := four_boxes w (.cells #[Value.slice A P.length c] 64) (.cells #[Value.slice A2 Q.length c2] 64) (.cells #[Value.int .i64 r, Value.int .i64 a, Value.int .i64 b, Value.int .i64 i, Value.int .i64 j, Value.slice B m d] 43) (.cells #[.slice none 0 0] 64)
  rw [← hu0] at hb p0 p1 p2 p3
  have hlt0 : w.heap.size + 1 + 1 + 1 < u.heap.size := (Array.getElem?_eq_some_iff.1 p3).1
  have HKX : Hid (∀ wx, Below u.heap.size u wx → wx.cell? ⟨w.heap.size, 0, none⟩ = some (.slice A P.length c) ∧ wx.cell? ⟨w.heap.size + 1, 0, none⟩ = some (.slice A2 Q.length c2) ∧ wx.cell? ⟨w.heap.size + 1 + 1, 0, none⟩ = some (.int .i64 r) ∧ wx.cell? ⟨w.heap.size + 1 + 1, 1, none⟩ = some (.int .i64 a) ∧ wx.cell? ⟨w.heap.size + 1 + 1, 2, none⟩ = some (.int .i64 b) ∧ wx.cell? ⟨w.heap.size + 1 + 1, 3, none⟩ = some (.int .i64 i) ∧ wx.cell? ⟨w.heap.size + 1 + 1, 4, none⟩ = some (.int .i64 j) ∧ wx.cell? ⟨w.heap.size + 1 + 1, 5, none⟩ = some (.slice B m d) ∧ wx.cell? ⟨w.heap.size + 1 + 1 + 1, 0, none⟩ = some (.slice none 0 0) ∧ wx.frozen? ⟨w.heap.size + 1 + 1 + 1, 0, none⟩ = false ∧ w.heap.size + 1 + 1 + 1 < wx.heap.size ∧ wx.heap[w.heap.size + 1 + 1 + 1]? = some (.cells #[.slice none 0 0] 64 (0, 0))) := Lib.hid fun wx hx => by
    have g : ∀ k o, u.heap[k]? = some o → wx.heap[k]? = some o := fun k o h => (hx.block k (Array.getElem?_eq_some_iff.1 h).1).trans h
    exact ⟨cell_of_row _ _ 0 _ _ (0, 0) (g _ _ p0), cell_of_row _ _ 0 _ _ (0, 0) (g _ _ p1), cell_of_row _ _ 0 _ _ (0, 0) (g _ _ p2), cell_of_row _ _ 1 _ _ (0, 0) (g _ _ p2), cell_of_row _ _ 2 _ _ (0, 0) (g _ _ p2), cell_of_row _ _ 3 _ _ (0, 0) (g _ _ p2), cell_of_row _ _ 4 _ _ (0, 0) (g _ _ p2), cell_of_row _ _ 5 _ _ (0, 0) (g _ _ p2), cell_of_row _ _ 0 _ _ (0, 0) (g _ _ p3), frozen_of_row wx _ 0 _ _ (g _ _ p3), Nat.lt_of_lt_of_le hlt0 hx.size, g _ _ p3⟩
  have HU0 := Lib.hid hu0; have HBU := Lib.hid hb
  have HSC := Lib.hid (fun (wx : World) (hx : Below u.heap.size u wx) => sStepCode_any r a b i j h1 h14 B m d F A P.length c P A2 Q.length c2 Q wx ((hf.below (hb.trans (hx.mono hb.size))).more (Nat.le_trans hb.size hx.size)) ((h.below (hb.trans (hx.mono hb.size))).more (Nat.le_trans hb.size hx.size)) ((h2.below (hb.trans (hx.mono hb.size))).more (Nat.le_trans hb.size hx.size)) hm hnc hnc2 hP hQ)
  have HCC0 : Hid (cdB r i j F P Q = true → ∀ (wx : World), Below u.heap.size u wx → Calls Tryz.prog 55 #[.slice A P.length c, .slice A2 Q.length c2, Value.agg #[Value.int .i64 r, Value.int .i64 a, Value.int .i64 b, Value.int .i64 i, Value.int .i64 j, Value.slice B m d]] wx (GivesV wx (cnL r i j F P Q))) := Lib.hid fun hv wx hx => sConclude_any a b i j B m d F A P.length c P A2 Q.length c2 Q wx ((hf.below (hb.trans (hx.mono hb.size))).more (Nat.le_trans hb.size hx.size)) ((h.below (hb.trans (hx.mono hb.size))).more (Nat.le_trans hb.size hx.size)) ((h2.below (hb.trans (hx.mono hb.size))).more (Nat.le_trans hb.size hx.size)) hmd hnc hnc2 hA hP hQ r h1 h14 hv
  have HLN : Hid (cdB r i j F P Q = true → (cnL r i j F P Q).length ≤ 1000 ∧ ∀ q ∈ cnL r i j F P Q, okL q) := Lib.hid (cn_lens hP hQ r h1 h14)
  rw [srV_is h1 h14 hP hQ]
  generalize cdB r i j F P Q = V at *
  generalize cnL r i j F P Q = R at *
  obtain ⟨ea, eb, e0, e1, e2, e3, e4, e5, ec, ef, el, eh⟩ := HKX.out u (Below.refl _ _)
  clear hu0 hb p0 p1 p2 p3 h h2 hf hlt0 el eh ec ef
  cases V with
  | false =>
    rw [if_neg (by decide)]
    go_enter Tryz.func42, Tryz.ntmps42
    go_upto_region 1 with (fail)
    rw [← HU0.out]
    go_wp2_with (fail)
    refine (HSC.out u (Below.refl _ _)).mono ?_
    rintro e w1 ⟨k1, rfl, hk0, hk1, b1⟩
    have HB1 := Lib.hid b1
    clear b1 ea eb e0 e1 e2 e3 e4 e5
    obtain ⟨ea, eb, e0, e1, e2, e3, e4, e5, ec, ef, el, eh⟩ := HKX.out w1 HB1.out
    have EH := Lib.hid eh; clear eh
    have hk : (k1 != 0) = true := by simpa using hk1 rfl
    have HK := Lib.hid (hk1 rfl)
    clear hk0 hk1
    have HC := Lib.hid (cell_set (u := .slice none 0 0) EH.out)
    have HBC := Lib.hid ((HBU.out.trans (HB1.out.mono HBU.out.size)).setCell (p := ⟨w.heap.size + 1 + 1 + 1, 0, none⟩) (by simp only [Nat.add_assoc]; exact Nat.le_add_right _ _) (.slice none 0 0))
    go_wp2
    (try simp only [Exit.inBlock, Exit.then])
    refine bodyPost_ret (results_cell_row_tmp rfl _ _ (w.heap.size + 1 + 1 + 1) _ _ (0, 0) _ rfl HC.out Tryz.underlying64 rfl (by kernel_rfl)) rfl ?_
    exact ⟨HBC.out, k1, HK.out, rfl⟩
  | true =>
    rw [if_pos rfl]
    have HCC := Lib.hid (HCC0.out rfl)
    have HLR := Lib.hid (HLN.out rfl)
    obtain ⟨O, hO⟩ : ∃ O, (if validQ R = true then some R else none) = O := ⟨_, rfl⟩
    rw [hO]
    have HO := Lib.hid hO
    clear HCC0 HLN hO
    go_enter Tryz.func42, Tryz.ntmps42
    go_upto_region 1 with (fail)
    rw [← HU0.out]
    go_wp2_with (fail)
    refine (HSC.out u (Below.refl _ _)).mono ?_
    rintro e w1 ⟨k1, rfl, hk0, hk1, b1⟩
    have HB1 := Lib.hid b1
    clear b1 ea eb e0 e1 e2 e3 e4 e5
    obtain ⟨ea, eb, e0, e1, e2, e3, e4, e5, ec, ef, el, eh⟩ := HKX.out w1 HB1.out
    have hkz : k1 = 0 := hk0 rfl
    subst hkz
    clear hk0 hk1 eh el ec ef
    go_wp2_with (fail)
    refine (HCC.out w1 HB1.out).mono ?_
    rintro e w2 ⟨Ac, cc, vc, rfl, o2, rd2, b2⟩
    have HB2 := Lib.hid (HB1.out.trans (b2.mono HB1.out.size))
    have HCF := Lib.hid (sCopyForms_any Ac R.length cc R w2 (rd2.rd o2) HLR.out.1 (fun q hq => (HLR.out.2 q hq).2) (fun q hq => (HLR.out.2 q hq).1))
    clear o2 rd2 b2 ea eb e0 e1 e2 e3 e4 e5 HCC HSC
    go_wp2_with (fail)
    refine HCF.out.mono ?_
    rintro e w3 ⟨hs, A3, c3, rfl, own3, b3⟩
    have HB3 := Lib.hid (HB2.out.trans (b3.mono HB2.out.size))
    obtain ⟨w4, hw4⟩ : ∃ w4, w4 = w3.alloc (.cells #[Value.slice A3 R.length c3] 64) := ⟨_, rfl⟩
    have b4 : Below w3.heap.size w3 w4 := by rw [hw4]; exact box_any w3 _
    have g4 := an hw4
    have b24 : Below w2.heap.size w2 w4 := b3.trans (b4.mono b3.size)
    have HB4 := Lib.hid (HB2.out.trans (b24.mono HB2.out.size))
    have HV := Lib.hid (sValidSeq_any A3 R.length c3 R w4 (((own3.rd rfl).below b4).more b4.size) (by have := HLR.out.1; omega) (own_cap1 own3.outer))
    have HW4 := Lib.hid hw4; have HG4 := Lib.hid g4; have HB24 := Lib.hid b24
    have HOW := Lib.hid (own3.below b4)
    have HS3 := Lib.hid b3.size
    have HS34 := Lib.hid b4.size
    clear hw4 b4 g4 b24 b3 own3 HCF HB3
    go_upto_region 5 with (fail)
    rw [← HW4.out]
    have c4 := cell_of_row _ _ 0 _ _ (0, 0) HG4.out
    cases hv : validQ R with
    | false =>
      have ho : O = none := by rw [← HO.out, hv]; rfl
      subst ho
      rw [hv] at HV
      clear hv
      go_wp2_with (fail)
      refine HV.out.mono ?_
      rintro e w5 ⟨rfl, b5⟩
      have HB5 := Lib.hid (HB4.out.trans (b5.mono HB4.out.size))
      clear b5 c4
      obtain ⟨-, -, -, -, -, -, -, -, ec, ef, el, eh⟩ := HKX.out w5 HB5.out
      have HC := Lib.hid (cell_set (u := .slice none 0 0) eh)
      have HBC := Lib.hid ((HBU.out.trans (HB5.out.mono HBU.out.size)).setCell (p := ⟨w.heap.size + 1 + 1 + 1, 0, none⟩) (by simp only [Nat.add_assoc]; exact Nat.le_add_right _ _) (.slice none 0 0))
      clear eh el HKX
      go_wp2
      (try simp only [Exit.inBlock, Exit.then])
      refine bodyPost_ret (results_cell_row_tmp rfl _ _ (w.heap.size + 1 + 1 + 1) _ _ (0, 0) _ rfl HC.out Tryz.underlying64 rfl (by kernel_rfl)) rfl ?_
      exact ⟨HBC.out, 7, by decide, rfl⟩
    | true =>
      have ho : O = some R := by rw [← HO.out, hv]; rfl
      subst ho
      rw [hv] at HV
      clear hv
      go_wp2_with (fail)
      refine HV.out.mono ?_
      rintro e w5 ⟨rfl, b5⟩
      have HB5 := Lib.hid (HB4.out.trans (b5.mono HB4.out.size))
      have c5 := (b5.cell (p := ⟨w3.heap.size, 0, none⟩) (Array.getElem?_eq_some_iff.1 HG4.out).1).trans c4
      obtain ⟨-, -, -, -, -, -, -, -, ec, ef, el, eh⟩ := HKX.out w2 HB2.out
      obtain ⟨-, -, -, -, -, -, -, -, ec, ef, -, -⟩ := HKX.out w5 HB5.out
      obtain ⟨y0, y1, y2, y3, y4⟩ := seq_out (HBU.out.trans (HB2.out.mono HBU.out.size)) (by simp only [Nat.add_assoc]; exact Nat.le_add_right _ _) el eh ((HOW.out.below b5).more (Nat.le_refl _) (Nat.le_trans HS34.out b5.size)) (HB24.out.trans (b5.mono HB24.out.size))
      have Y2 := Lib.hid y2; have Y3 := Lib.hid y3; have Y4 := Lib.hid y4
      clear y2 y3 y4 b5 c4 el eh HKX
      go_wp2
      (try simp only [Exit.inBlock, Exit.then])
      refine bodyPost_ret (results_cell_row_tmp rfl _ _ (w.heap.size + 1 + 1 + 1) _ _ (0, 0) _ rfl Y2.out Tryz.underlying64 rfl (by kernel_rfl)) rfl ?_
      exact ⟨Y4.out, hs, A3, c3, rfl, Y3.out⟩
end
end Go.Proofs.YthbkcpacgnmcfaaGreatDoor
