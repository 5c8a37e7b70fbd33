/- LinkText, whole: of the program, of the model. Made by mkltb.py. -/
import Derived.Test.YtagjlilbcldfaaaDoorLtA
import Derived.Test.YtagjlilbcldfaaaDoorQFrag
import Derived.Deep.RegionWith
import Derived.Deep.DeepCutAuto
import Derived.Test.YtagjlilbcldfaaaDoorTk
namespace Go.Proofs.YtagjlilbcldfaaaDoor
set_option linter.unusedSimpArgs false
set_option linter.unusedVariables false
open Go.ChangeAt Go.ChangeShapes Go.RowKit Go.WideShapes
open List (setIfInBounds_toArray set_cons_zero set_cons_succ getElem_toArray getElem_cons_succ getElem_cons_zero)

set_option maxRecDepth 100000 in
set_option maxHeartbeats 4000000 in
theorem lt_two (w : World) (kk : Nat) (a b c : Int) (hk0 : 1 ≤ kk) (hk : kk < 5) (ok : okL kk a b c = true) (h12 : ((kk : Int) = 1 ∨ (kk : Int) = 2)) (hw : LWords w) :
    Calls Tryd.prog 10 #[.agg #[.int .i64 ((kk : Nat) : Int), .int .i64 a, .int .i64 b, .int .i64 c]] w fun e w' => e = .returned (.string (ltT kk a b c)) ∧ Below w.heap.size w w' := by
  obtain ⟨hk14, ha, hb, hc, _⟩ := okL_yes ok
  have HL := Lib.hid (fun wx => hasLine_any wx kk a b c)
  rw [ok] at HL
  have HOP := Lib.hid (fun wx => linkOperator_any kk wx)
  rw [show opK kk = -1 from by unfold opK; rcases h12 with e | e <;> simp [e]] at HOP
  have HE : Hid (([a, b]).foldl spN (lwB kk) = ltT kk a b c) := Lib.hid (by rw [ltT_two ok h12]; rfl)
  have HWL := Lib.hid (lwB_len kk)
  have HNB := Lib.hid (fun (wx : World) (g : Nat) (hg : wx.heap[g]? = some (.cells #[.int .i64 a, .int .i64 b] 2 (0, 0))) => numbered_any (lwB kk) g 2 [a, b] wx rfl (by omega) (by have := HWL.out; omega) (fun j hj => by
    rcases (by omega : j = 0 ∨ j = 1) with rfl | rfl
    · exact cell_of_row _ _ 0 _ _ (0, 0) hg
    · exact cell_of_row _ _ 1 _ _ (0, 0) hg) (fun x hx => by
    simp only [List.mem_cons, List.not_mem_nil, or_false] at hx
    rcases hx with rfl | rfl
    · exact ha
    · exact hb))
  obtain ⟨u, hu0⟩ : ∃ u, u = w.alloc (.cells #[.int .i64 ((kk : Nat) : Int), .int .i64 a, .int .i64 b, .int .i64 c] 25) := ⟨_, rfl⟩
  obtain ⟨bl, z0, z1, z2, z3, zs⟩ := lnk_any w ⟨kk, a, b, c⟩ 25
  dsimp only at bl z0 z1 z2 z3
  rw [← hu0] at bl z0 z1 z2 z3 zs
  have hgw := hw.lt
  have zw := (bl.cell (p := ⟨0, kk, none⟩) hgw).trans (hw kk hk)
  obtain ⟨W, hW⟩ : ∃ W, lwB kk = W := ⟨_, rfl⟩
  rw [hW] at zw HNB HE
  have HSX : Hid (∀ wx, Below u.heap.size u wx → wx.cell? ⟨w.heap.size, 0, none⟩ = some (.int .i64 ((kk : Nat) : Int)) ∧ wx.cell? ⟨w.heap.size, 1, none⟩ = some (.int .i64 a) ∧ wx.cell? ⟨w.heap.size, 2, none⟩ = some (.int .i64 b) ∧ wx.cell? ⟨w.heap.size, 3, none⟩ = some (.int .i64 c) ∧ wx.cell? ⟨0, kk, none⟩ = some (.string W)) := Lib.hid fun wx hx => ⟨(hx.cell (p := ⟨w.heap.size, 0, none⟩) (by show w.heap.size < _; omega)).trans z0, (hx.cell (p := ⟨w.heap.size, 1, none⟩) (by show w.heap.size < _; omega)).trans z1, (hx.cell (p := ⟨w.heap.size, 2, none⟩) (by show w.heap.size < _; omega)).trans z2, (hx.cell (p := ⟨w.heap.size, 3, none⟩) (by show w.heap.size < _; omega)).trans z3, (hx.cell (p := ⟨0, kk, none⟩) (by show 0 < _; omega)).trans zw⟩
  have HU0 := Lib.hid hu0; have HBU := Lib.hid bl
  have hk5 : ((kk : Nat) : Int) < 5 := by omega
  rw [← HE.out]
  clear hu0 bl zs hw hgw hk14 ha hb hc ok h12 hW HWL HE
  generalize ([a, b]).foldl spN W = R at *
  go_enter Tryd.func10, Tryd.ntmps10
  go_wp2_with (fail)
  rw [← HU0.out]
  clear HU0
  refine (HL.out u).mono ?_
  rintro e u1 ⟨rfl, bel⟩
  have B1 := Lib.hid bel
  clear bel z0 z1 z2 z3 zw
  obtain ⟨z0, z1, z2, z3, zw⟩ := HSX.out _ B1.out
  go_wp2_with (fail)
  refine (HOP.out u1).mono ?_
  rintro e u1' ⟨rfl, rfl⟩
  go_upto_region 4 with (fail)
  clear z0 z1 z2 z3 zw
  have FB_0 := Lib.hid (Below.refl u1.heap.size u1)
  have HSY : Hid (∀ wx, Below u1.heap.size u1 wx → wx.cell? ⟨w.heap.size, 0, none⟩ = some (.int .i64 ((kk : Nat) : Int)) ∧ wx.cell? ⟨w.heap.size, 1, none⟩ = some (.int .i64 a) ∧ wx.cell? ⟨w.heap.size, 2, none⟩ = some (.int .i64 b) ∧ wx.cell? ⟨w.heap.size, 3, none⟩ = some (.int .i64 c) ∧ wx.cell? ⟨0, kk, none⟩ = some (.string W)) := Lib.hid fun wx hx => HSX.out wx (B1.out.trans (hx.mono B1.out.size))
  refine wp_region_held_drew (S := fun wx => wx.cell? ⟨w.heap.size, 0, none⟩ = some (.int .i64 ((kk : Nat) : Int)) ∧ wx.cell? ⟨w.heap.size, 1, none⟩ = some (.int .i64 a) ∧ wx.cell? ⟨w.heap.size, 2, none⟩ = some (.int .i64 b) ∧ wx.cell? ⟨w.heap.size, 3, none⟩ = some (.int .i64 c) ∧ wx.cell? ⟨0, kk, none⟩ = some (.string W)) (by kernel_rfl) (HSY.out _ (Below.refl _ _).drew) (fun hHeld => ?_)
  obtain ⟨wq1, hwq1⟩ : ∃ w', w' = u1.drew := ⟨_, rfl⟩
  rw [← hwq1] at hHeld ⊢
  have bq1 : Below u1.heap.size u1 wq1 := by rw [hwq1]; exact (Below.refl _ _).drew
  clear hwq1
  have FB_q2 := Lib.hid ((FB_0.out).trans ((bq1).mono (FB_0.out).size))
  clear FB_0
  refine tk (i := 0) (h := ?_)
  (try simp only [Act.put, setIfInBounds_toArray, set_cons_zero, set_cons_succ, getElem_toArray, getElem_cons_succ, getElem_cons_zero])
  refine tk (i := 4) (h := ?_)
  (try simp only [Act.put, setIfInBounds_toArray, set_cons_zero, set_cons_succ, getElem_toArray, getElem_cons_succ, getElem_cons_zero])
  refine tk (i := 6) (h := ?_)
  (try simp only [Act.put, setIfInBounds_toArray, set_cons_zero, set_cons_succ, getElem_toArray, getElem_cons_succ, getElem_cons_zero])
  refine tk (i := 1) (h := ?_)
  (try simp only [Act.put, setIfInBounds_toArray, set_cons_zero, set_cons_succ, getElem_toArray, getElem_cons_succ, getElem_cons_zero])
  refine tk (i := 5) (h := ?_)
  (try simp only [Act.put, setIfInBounds_toArray, set_cons_zero, set_cons_succ, getElem_toArray, getElem_cons_succ, getElem_cons_zero])
  refine tk (i := 7) (h := ?_)
  (try simp only [Act.put, setIfInBounds_toArray, set_cons_zero, set_cons_succ, getElem_toArray, getElem_cons_succ, getElem_cons_zero])
  refine tk (i := 2) (h := ?_)
  (try simp only [Act.put, setIfInBounds_toArray, set_cons_zero, set_cons_succ, getElem_toArray, getElem_cons_succ, getElem_cons_zero])
  refine tk (i := 3) (h := ?_)
  (try simp only [Act.put, setIfInBounds_toArray, set_cons_zero, set_cons_succ, getElem_toArray, getElem_cons_succ, getElem_cons_zero])
  refine t1 (i := 8) (h := fun K hK => ?_)
  go_simp
  obtain ⟨wq11, hwq11⟩ : ∃ w', w' = wq1.alloc (.cells #[.int .i64 a, .int .i64 b] 2) := ⟨_, rfl⟩
  rw [← hwq11]
  have bq11 := al hwq11
  have gq11 := an hwq11
  clear hwq11
  have FB_q12 := Lib.hid ((FB_q2.out).trans ((bq11).mono (FB_q2.out).size))
  clear FB_q2
  obtain ⟨gpq13, hgq13⟩ : ∃ b, wq1.heap.size = b := ⟨_, rfl⟩
  have FP_q13 := Lib.hid gq11
  rw [hgq13] at FP_q13 ⊢
  clear hgq13 gq11 bq11
  refine hK.out _ _ (HSY.out _ FB_q12.out) (fun hHeld => ?_)
  clear hK K
  (try simp only [Act.put, setIfInBounds_toArray, set_cons_zero, set_cons_succ, getElem_toArray, getElem_cons_succ, getElem_cons_zero])
  refine t1 (i := 9) (h := fun K hK => ?_)
  go_simp
  refine (HNB.out wq11 gpq13 FP_q13.out).mono ?_
  rintro e wz ⟨rfl, hwz⟩
  subst hwz
  dsimp only
  refine hK.out _ _ (HSY.out _ FB_q12.out) (fun hHeld => ?_)
  clear hK K
  (try simp only [Act.put, setIfInBounds_toArray, set_cons_zero, set_cons_succ, getElem_toArray, getElem_cons_succ, getElem_cons_zero])
  refine t1 (i := 10) (h := fun K hK => ?_)
  go_simp
  refine hK.out _ _ hHeld (fun hHeld => ?_)
  clear hK K
  (try simp only [Act.put, setIfInBounds_toArray, set_cons_zero, set_cons_succ, getElem_toArray, getElem_cons_succ, getElem_cons_zero])
  refine wpAnyH_done (by kernel_rfl) ?_ _
  have HBX := Lib.hid (HBU.out.trans ((B1.out.trans (FB_q12.out.mono B1.out.size)).mono HBU.out.size))
  clear HSX HSY
  go_wp2
  go_ret
  exact ⟨rfl, HBX.out⟩
set_option maxRecDepth 100000 in
set_option maxHeartbeats 4000000 in
theorem lt_three (w : World) (kk : Nat) (a b c : Int) (hk0 : 1 ≤ kk) (hk : kk < 5) (ok : okL kk a b c = true) (h12 : ¬ ((kk : Int) = 1 ∨ (kk : Int) = 2)) (hw : LWords w) :
    Calls Tryd.prog 10 #[.agg #[.int .i64 ((kk : Nat) : Int), .int .i64 a, .int .i64 b, .int .i64 c]] w fun e w' => e = .returned (.string (ltT kk a b c)) ∧ Below w.heap.size w w' := by
  obtain ⟨hk14, ha, hb, hc, _⟩ := okL_yes ok
  have HL := Lib.hid (fun wx => hasLine_any wx kk a b c)
  rw [ok] at HL
  have HOP := Lib.hid (fun wx => linkOperator_any kk wx)
  have hop : (opK kk == -1) = false := by unfold opK; rcases (by omega : (kk : Int) = 3 ∨ (kk : Int) = 4) with e | e <;> simp [e]
  generalize opK kk = OPV at *
  have HE : Hid (([a, b, c]).foldl spN (lwB kk) = ltT kk a b c) := Lib.hid (by rw [ltT_three ok h12]; rfl)
  have HWL := Lib.hid (lwB_len kk)
  have HNB := Lib.hid (fun (wx : World) (g : Nat) (hg : wx.heap[g]? = some (.cells #[.int .i64 a, .int .i64 b, .int .i64 c] 2 (0, 0))) => numbered_any (lwB kk) g 3 [a, b, c] wx rfl (by omega) (by have := HWL.out; omega) (fun j hj => by
    rcases (by omega : j = 0 ∨ j = 1 ∨ j = 2) with rfl | rfl | rfl
    · exact cell_of_row _ _ 0 _ _ (0, 0) hg
    · exact cell_of_row _ _ 1 _ _ (0, 0) hg
    · exact cell_of_row _ _ 2 _ _ (0, 0) hg) (fun x hx => by
    simp only [List.mem_cons, List.not_mem_nil, or_false] at hx
    rcases hx with rfl | rfl | rfl
    · exact ha
    · exact hb
    · exact hc))
  obtain ⟨u, hu0⟩ : ∃ u, u = w.alloc (.cells #[.int .i64 ((kk : Nat) : Int), .int .i64 a, .int .i64 b, .int .i64 c] 25) := ⟨_, rfl⟩
  obtain ⟨bl, z0, z1, z2, z3, zs⟩ := lnk_any w ⟨kk, a, b, c⟩ 25
  dsimp only at bl z0 z1 z2 z3
  rw [← hu0] at bl z0 z1 z2 z3 zs
  have hgw := hw.lt
  have zw := (bl.cell (p := ⟨0, kk, none⟩) hgw).trans (hw kk hk)
  obtain ⟨W, hW⟩ : ∃ W, lwB kk = W := ⟨_, rfl⟩
  rw [hW] at zw HNB HE
  have HSX : Hid (∀ wx, Below u.heap.size u wx → wx.cell? ⟨w.heap.size, 0, none⟩ = some (.int .i64 ((kk : Nat) : Int)) ∧ wx.cell? ⟨w.heap.size, 1, none⟩ = some (.int .i64 a) ∧ wx.cell? ⟨w.heap.size, 2, none⟩ = some (.int .i64 b) ∧ wx.cell? ⟨w.heap.size, 3, none⟩ = some (.int .i64 c) ∧ wx.cell? ⟨0, kk, none⟩ = some (.string W)) := Lib.hid fun wx hx => ⟨(hx.cell (p := ⟨w.heap.size, 0, none⟩) (by show w.heap.size < _; omega)).trans z0, (hx.cell (p := ⟨w.heap.size, 1, none⟩) (by show w.heap.size < _; omega)).trans z1, (hx.cell (p := ⟨w.heap.size, 2, none⟩) (by show w.heap.size < _; omega)).trans z2, (hx.cell (p := ⟨w.heap.size, 3, none⟩) (by show w.heap.size < _; omega)).trans z3, (hx.cell (p := ⟨0, kk, none⟩) (by show 0 < _; omega)).trans zw⟩
  have HU0 := Lib.hid hu0; have HBU := Lib.hid bl
  have hk5 : ((kk : Nat) : Int) < 5 := by omega
  rw [← HE.out]
  clear hu0 bl zs hw hgw hk14 ha hb hc ok h12 hW HWL HE
  generalize ([a, b, c]).foldl spN W = R at *
  go_enter Tryd.func10, Tryd.ntmps10
  go_wp2_with (fail)
  rw [← HU0.out]
  clear HU0
  refine (HL.out u).mono ?_
  rintro e u1 ⟨rfl, bel⟩
  have B1 := Lib.hid bel
  clear bel z0 z1 z2 z3 zw
  obtain ⟨z0, z1, z2, z3, zw⟩ := HSX.out _ B1.out
  go_wp2_with (fail)
  refine (HOP.out u1).mono ?_
  rintro e u1' ⟨rfl, rfl⟩
  go_upto_region 5 with (fail)
  clear z0 z1 z2 z3 zw
  have FB_0 := Lib.hid (Below.refl u1.heap.size u1)
  have HSY : Hid (∀ wx, Below u1.heap.size u1 wx → wx.cell? ⟨w.heap.size, 0, none⟩ = some (.int .i64 ((kk : Nat) : Int)) ∧ wx.cell? ⟨w.heap.size, 1, none⟩ = some (.int .i64 a) ∧ wx.cell? ⟨w.heap.size, 2, none⟩ = some (.int .i64 b) ∧ wx.cell? ⟨w.heap.size, 3, none⟩ = some (.int .i64 c) ∧ wx.cell? ⟨0, kk, none⟩ = some (.string W)) := Lib.hid fun wx hx => HSX.out wx (B1.out.trans (hx.mono B1.out.size))
  refine wp_region_held_drew (S := fun wx => wx.cell? ⟨w.heap.size, 0, none⟩ = some (.int .i64 ((kk : Nat) : Int)) ∧ wx.cell? ⟨w.heap.size, 1, none⟩ = some (.int .i64 a) ∧ wx.cell? ⟨w.heap.size, 2, none⟩ = some (.int .i64 b) ∧ wx.cell? ⟨w.heap.size, 3, none⟩ = some (.int .i64 c) ∧ wx.cell? ⟨0, kk, none⟩ = some (.string W)) (by kernel_rfl) (HSY.out _ (Below.refl _ _).drew) (fun hHeld => ?_)
  obtain ⟨wq1, hwq1⟩ : ∃ w', w' = u1.drew := ⟨_, rfl⟩
  rw [← hwq1] at hHeld ⊢
  have bq1 : Below u1.heap.size u1 wq1 := by rw [hwq1]; exact (Below.refl _ _).drew
  clear hwq1
  have FB_q2 := Lib.hid ((FB_0.out).trans ((bq1).mono (FB_0.out).size))
  clear FB_0
  refine tk (i := 0) (h := ?_)
  (try simp only [Act.put, setIfInBounds_toArray, set_cons_zero, set_cons_succ, getElem_toArray, getElem_cons_succ, getElem_cons_zero])
  refine tk (i := 4) (h := ?_)
  (try simp only [Act.put, setIfInBounds_toArray, set_cons_zero, set_cons_succ, getElem_toArray, getElem_cons_succ, getElem_cons_zero])
  refine tk (i := 6) (h := ?_)
  (try simp only [Act.put, setIfInBounds_toArray, set_cons_zero, set_cons_succ, getElem_toArray, getElem_cons_succ, getElem_cons_zero])
  refine tk (i := 8) (h := ?_)
  (try simp only [Act.put, setIfInBounds_toArray, set_cons_zero, set_cons_succ, getElem_toArray, getElem_cons_succ, getElem_cons_zero])
  refine tk (i := 1) (h := ?_)
  (try simp only [Act.put, setIfInBounds_toArray, set_cons_zero, set_cons_succ, getElem_toArray, getElem_cons_succ, getElem_cons_zero])
  refine tk (i := 5) (h := ?_)
  (try simp only [Act.put, setIfInBounds_toArray, set_cons_zero, set_cons_succ, getElem_toArray, getElem_cons_succ, getElem_cons_zero])
  refine tk (i := 7) (h := ?_)
  (try simp only [Act.put, setIfInBounds_toArray, set_cons_zero, set_cons_succ, getElem_toArray, getElem_cons_succ, getElem_cons_zero])
  refine tk (i := 9) (h := ?_)
  (try simp only [Act.put, setIfInBounds_toArray, set_cons_zero, set_cons_succ, getElem_toArray, getElem_cons_succ, getElem_cons_zero])
  refine tk (i := 2) (h := ?_)
  (try simp only [Act.put, setIfInBounds_toArray, set_cons_zero, set_cons_succ, getElem_toArray, getElem_cons_succ, getElem_cons_zero])
  refine tk (i := 3) (h := ?_)
  (try simp only [Act.put, setIfInBounds_toArray, set_cons_zero, set_cons_succ, getElem_toArray, getElem_cons_succ, getElem_cons_zero])
  refine t1 (i := 10) (h := fun K hK => ?_)
  go_simp
  obtain ⟨wq13, hwq13⟩ : ∃ w', w' = wq1.alloc (.cells #[.int .i64 a, .int .i64 b, .int .i64 c] 2) := ⟨_, rfl⟩
  rw [← hwq13]
  have bq13 := al hwq13
  have gq13 := an hwq13
  clear hwq13
  have FB_q14 := Lib.hid ((FB_q2.out).trans ((bq13).mono (FB_q2.out).size))
  clear FB_q2
  obtain ⟨gpq15, hgq15⟩ : ∃ b, wq1.heap.size = b := ⟨_, rfl⟩
  have FP_q15 := Lib.hid gq13
  rw [hgq15] at FP_q15 ⊢
  clear hgq15 gq13 bq13
  refine hK.out _ _ (HSY.out _ FB_q14.out) (fun hHeld => ?_)
  clear hK K
  (try simp only [Act.put, setIfInBounds_toArray, set_cons_zero, set_cons_succ, getElem_toArray, getElem_cons_succ, getElem_cons_zero])
  refine t1 (i := 11) (h := fun K hK => ?_)
  go_simp
  refine (HNB.out wq13 gpq15 FP_q15.out).mono ?_
  rintro e wz ⟨rfl, hwz⟩
  subst hwz
  dsimp only
  refine hK.out _ _ (HSY.out _ FB_q14.out) (fun hHeld => ?_)
  clear hK K
  (try simp only [Act.put, setIfInBounds_toArray, set_cons_zero, set_cons_succ, getElem_toArray, getElem_cons_succ, getElem_cons_zero])
  refine t1 (i := 12) (h := fun K hK => ?_)
  go_simp
  refine hK.out _ _ hHeld (fun hHeld => ?_)
  clear hK K
  (try simp only [Act.put, setIfInBounds_toArray, set_cons_zero, set_cons_succ, getElem_toArray, getElem_cons_succ, getElem_cons_zero])
  refine wpAnyH_done (by kernel_rfl) ?_ _
  have HBX := Lib.hid (HBU.out.trans ((B1.out.trans (FB_q14.out.mono B1.out.size)).mono HBU.out.size))
  clear HSX HSY
  go_wp2
  go_ret
  exact ⟨rfl, HBX.out⟩
set_option maxHeartbeats 1000000 in
theorem lt_no (w : World) (k a b c : Int) (ok : okL k a b c = false) :
    Calls Tryd.prog 10 #[.agg #[.int .i64 k, .int .i64 a, .int .i64 b, .int .i64 c]] w fun e w' => e = .returned (.string (ltT k a b c)) ∧ Below w.heap.size w w' := by
  have HL := Lib.hid (fun wx => hasLine_any wx k a b c)
  rw [ok] at HL
  have HE : Hid ((⟨#[]⟩ : ByteArray) = ltT k a b c) := Lib.hid (ltT_no ok).symm
  obtain ⟨u, hu0⟩ : ∃ u, u = w.alloc (.cells #[.int .i64 k, .int .i64 a, .int .i64 b, .int .i64 c] 25) := ⟨_, rfl⟩
  obtain ⟨bl, z0, z1, z2, z3, zs⟩ := lnk_any w ⟨k, a, b, c⟩ 25
  dsimp only at bl z0 z1 z2 z3
  rw [← hu0] at bl z0 z1 z2 z3 zs
  have HBU := Lib.hid bl
  clear bl zs ok
  go_enter Tryd.func10, Tryd.ntmps10
  go_wp2_with (fail)
  rw [← hu0]
  clear hu0
  refine (HL.out u).mono ?_
  rintro e u1 ⟨rfl, bel⟩
  have B1 := Lib.hid (HBU.out.trans (bel.mono HBU.out.size))
  clear bel z0 z1 z2 z3
  go_wp2
  go_ret
  exact ⟨ret_str HE.out, B1.out⟩
theorem linkText_impl (k a b c : Int) (w : World) (hw : LWords w) :
    Calls Tryd.prog 10 #[.agg #[.int .i64 k, .int .i64 a, .int .i64 b, .int .i64 c]] w fun e w' => e = .returned (.string (ltT k a b c)) ∧ Below w.heap.size w w' := by
  cases ok : okL k a b c with
  | false => exact lt_no w k a b c ok
  | true =>
    obtain ⟨⟨h1, h4⟩, _⟩ := okL_yes ok
    obtain ⟨kk, rfl⟩ : ∃ j : Nat, k = j := ⟨k.toNat, by omega⟩
    by_cases h12 : (kk : Int) = 1 ∨ (kk : Int) = 2
    · exact lt_two w kk a b c (by omega) (by omega) ok h12 hw
    · exact lt_three w kk a b c (by omega) (by omega) ok h12 hw
set_option maxRecDepth 100000 in
set_option maxHeartbeats 4000000 in
theorem slt_n0 (w : World) (k a b c : Int) (hk : decide (1 ≤ k ∧ k ≤ 4) = false) :
    Calls Tryd.prog 8 #[.agg #[.int .i64 k, .int .i64 a, .int .i64 b, .int .i64 c]] w fun e w' => e = .returned (.string ⟨#[]⟩) ∧ Below w.heap.size w w' := by
  have Q0 := fun wx => inRange_any k 1 4 wx
  rw [hk] at Q0
  have R0 := Lib.hid Q0; clear Q0
  obtain ⟨u, hu0⟩ : ∃ u, u = w.alloc (.cells #[.int .i64 k, .int .i64 a, .int .i64 b, .int .i64 c] 25) := ⟨_, rfl⟩
  obtain ⟨bl, z0, z1, z2, z3, zs⟩ := lnk_any w ⟨k, a, b, c⟩ 25
  dsimp only at bl z0 z1 z2 z3
  rw [← hu0] at bl z0 z1 z2 z3 zs
  have HBU := Lib.hid bl
  clear bl zs hk
  go_enter Tryd.func8, Tryd.ntmps8
  go_wp2_with (fail)
  rw [← hu0]
  clear hu0
  refine (R0.out _).mono ?_
  rintro e w' ⟨rfl, rfl⟩
  go_wp2
  go_ret
  exact ⟨rfl, HBU.out⟩
set_option maxRecDepth 100000 in
set_option maxHeartbeats 4000000 in
theorem slt_n1 (w : World) (k a b c : Int) (hk : decide (1 ≤ k ∧ k ≤ 4) = true) (ha : inM a = false) :
    Calls Tryd.prog 8 #[.agg #[.int .i64 k, .int .i64 a, .int .i64 b, .int .i64 c]] w fun e w' => e = .returned (.string ⟨#[]⟩) ∧ Below w.heap.size w w' := by
  have Q0 := fun wx => inRange_any k 1 4 wx
  rw [hk] at Q0
  have R0 := Lib.hid Q0; clear Q0
  have Q1 := fun wx => inRange_any a 0 47 wx
  rw [show decide (0 ≤ a ∧ a ≤ 47) = false from ha] at Q1
  have R1 := Lib.hid Q1; clear Q1
  obtain ⟨u, hu0⟩ : ∃ u, u = w.alloc (.cells #[.int .i64 k, .int .i64 a, .int .i64 b, .int .i64 c] 25) := ⟨_, rfl⟩
  obtain ⟨bl, z0, z1, z2, z3, zs⟩ := lnk_any w ⟨k, a, b, c⟩ 25
  dsimp only at bl z0 z1 z2 z3
  rw [← hu0] at bl z0 z1 z2 z3 zs
  have HBU := Lib.hid bl
  clear bl zs hk ha
  go_enter Tryd.func8, Tryd.ntmps8
  go_wp2_with (fail)
  rw [← hu0]
  clear hu0
  refine (R0.out _).mono ?_
  rintro e w' ⟨rfl, rfl⟩
  go_wp2_with (fail)
  refine (R1.out _).mono ?_
  rintro e w' ⟨rfl, rfl⟩
  go_wp2
  go_ret
  exact ⟨rfl, HBU.out⟩
set_option maxRecDepth 100000 in
set_option maxHeartbeats 4000000 in
theorem slt_n2 (w : World) (k a b c : Int) (hk : decide (1 ≤ k ∧ k ≤ 4) = true) (ha : inM a = true) (hb : inM b = false) :
    Calls Tryd.prog 8 #[.agg #[.int .i64 k, .int .i64 a, .int .i64 b, .int .i64 c]] w fun e w' => e = .returned (.string ⟨#[]⟩) ∧ Below w.heap.size w w' := by
  have Q0 := fun wx => inRange_any k 1 4 wx
  rw [hk] at Q0
  have R0 := Lib.hid Q0; clear Q0
  have Q1 := fun wx => inRange_any a 0 47 wx
  rw [show decide (0 ≤ a ∧ a ≤ 47) = true from ha] at Q1
  have R1 := Lib.hid Q1; clear Q1
  have Q2 := fun wx => inRange_any b 0 47 wx
  rw [show decide (0 ≤ b ∧ b ≤ 47) = false from hb] at Q2
  have R2 := Lib.hid Q2; clear Q2
  obtain ⟨u, hu0⟩ : ∃ u, u = w.alloc (.cells #[.int .i64 k, .int .i64 a, .int .i64 b, .int .i64 c] 25) := ⟨_, rfl⟩
  obtain ⟨bl, z0, z1, z2, z3, zs⟩ := lnk_any w ⟨k, a, b, c⟩ 25
  dsimp only at bl z0 z1 z2 z3
  rw [← hu0] at bl z0 z1 z2 z3 zs
  have HBU := Lib.hid bl
  clear bl zs hk ha hb
  go_enter Tryd.func8, Tryd.ntmps8
  go_wp2_with (fail)
  rw [← hu0]
  clear hu0
  refine (R0.out _).mono ?_
  rintro e w' ⟨rfl, rfl⟩
  go_wp2_with (fail)
  refine (R1.out _).mono ?_
  rintro e w' ⟨rfl, rfl⟩
  go_wp2_with (fail)
  refine (R2.out _).mono ?_
  rintro e w' ⟨rfl, rfl⟩
  go_wp2
  go_ret
  exact ⟨rfl, HBU.out⟩
set_option maxRecDepth 100000 in
set_option maxHeartbeats 4000000 in
theorem slt_n3 (w : World) (k a b c : Int) (hk : decide (1 ≤ k ∧ k ≤ 4) = true) (ha : inM a = true) (hb : inM b = true) (hc : inM c = false) :
    Calls Tryd.prog 8 #[.agg #[.int .i64 k, .int .i64 a, .int .i64 b, .int .i64 c]] w fun e w' => e = .returned (.string ⟨#[]⟩) ∧ Below w.heap.size w w' := by
  have Q0 := fun wx => inRange_any k 1 4 wx
  rw [hk] at Q0
  have R0 := Lib.hid Q0; clear Q0
  have Q1 := fun wx => inRange_any a 0 47 wx
  rw [show decide (0 ≤ a ∧ a ≤ 47) = true from ha] at Q1
  have R1 := Lib.hid Q1; clear Q1
  have Q2 := fun wx => inRange_any b 0 47 wx
  rw [show decide (0 ≤ b ∧ b ≤ 47) = true from hb] at Q2
  have R2 := Lib.hid Q2; clear Q2
  have Q3 := fun wx => inRange_any c 0 47 wx
  rw [show decide (0 ≤ c ∧ c ≤ 47) = false from hc] at Q3
  have R3 := Lib.hid Q3; clear Q3
  obtain ⟨u, hu0⟩ : ∃ u, u = w.alloc (.cells #[.int .i64 k, .int .i64 a, .int .i64 b, .int .i64 c] 25) := ⟨_, rfl⟩
  obtain ⟨bl, z0, z1, z2, z3, zs⟩ := lnk_any w ⟨k, a, b, c⟩ 25
  dsimp only at bl z0 z1 z2 z3
  rw [← hu0] at bl z0 z1 z2 z3 zs
  have HBU := Lib.hid bl
  clear bl zs hk ha hb hc
  go_enter Tryd.func8, Tryd.ntmps8
  go_wp2_with (fail)
  rw [← hu0]
  clear hu0
  refine (R0.out _).mono ?_
  rintro e w' ⟨rfl, rfl⟩
  go_wp2_with (fail)
  refine (R1.out _).mono ?_
  rintro e w' ⟨rfl, rfl⟩
  go_wp2_with (fail)
  refine (R2.out _).mono ?_
  rintro e w' ⟨rfl, rfl⟩
  go_wp2_with (fail)
  refine (R3.out _).mono ?_
  rintro e w' ⟨rfl, rfl⟩
  go_wp2
  go_ret
  exact ⟨rfl, HBU.out⟩
theorem kinds_any (w : World) : Calls Tryd.prog 24 #[] w fun e w' => e = .returned (.slice (some ⟨w.heap.size, 0, none⟩) 4 4) ∧ w' = w.alloc (.cells ((List.range 4).map fun k => Value.string (lwB (k + 1))).toArray 9) := by
  go_enter Tryd.func24, Tryd.ntmps24
  go_wp2
  go_ret
  exact ⟨rfl, rfl⟩
theorem kinds_cell {w w1 : World} (h : w1 = w.alloc (.cells ((List.range 4).map fun k => Value.string (lwB (k + 1))).toArray 9)) {j : Nat} (hj : j < 4) : w1.cell? ⟨w.heap.size, j, none⟩ = some (.string (lwB (j + 1))) := by
  subst h
  have := cell_of_row _ _ j _ _ (0, 0) (heap_alloc_new w (.cells ((List.range 4).map fun k => Value.string (lwB (k + 1))).toArray 9))
  rw [this]
  simp [hj]
set_option maxRecDepth 100000 in
set_option maxHeartbeats 4000000 in
theorem slt_two (w : World) (j : Nat) (a b c : Int) (hj : j < 4) (ha : inM a = true) (hb : inM b = true) (hc : inM c = true) (h12 : j < 2) (hc0 : c = 0) :
    Calls Tryd.prog 8 #[.agg #[.int .i64 ((j : Nat) + 1 : Int), .int .i64 a, .int .i64 b, .int .i64 c]] w fun e w' => e = .returned (.string (spN (spN (lwB (j + 1)) a) b)) ∧ Below w.heap.size w w' := by
  have Q0 := fun wx => inRange_any ((j : Nat) + 1 : Int) 1 4 wx
  rw [decide_eq_true (by omega)] at Q0
  have R0 := Lib.hid Q0; clear Q0
  have Q1 := fun wx => inRange_any a 0 47 wx
  rw [show decide (0 ≤ a ∧ a ≤ 47) = true from ha] at Q1
  have R1 := Lib.hid Q1; clear Q1
  have Q2 := fun wx => inRange_any b 0 47 wx
  rw [show decide (0 ≤ b ∧ b ≤ 47) = true from hb] at Q2
  have R2 := Lib.hid Q2; clear Q2
  have Q3 := fun wx => inRange_any c 0 47 wx
  rw [show decide (0 ≤ c ∧ c ≤ 47) = true from hc] at Q3
  have R3 := Lib.hid Q3; clear Q3
  obtain ⟨a0, a1⟩ := inM_yes ha; obtain ⟨b0, b1⟩ := inM_yes hb; obtain ⟨c0, c1⟩ := inM_yes hc
  have HDA := Lib.hid (fun wx => decimalN_any a wx a0 (by omega))
  have HDB := Lib.hid (fun wx => decimalN_any b wx b0 (by omega))
  have HDC := Lib.hid (fun wx => decimalN_any c wx c0 (by omega))
  have la := decN_len a0 (show a < 100 by omega); have lb := decN_len b0 (show b < 100 by omega); have lc := decN_len c0 (show c < 100 by omega)
  have lw := lwB_len (j + 1)
  have l1 := spN_len (T := lwB (j + 1)) ha; have l2 := spN_len (T := spN (lwB (j + 1)) a) hb
  have e32 : (⟨#[32]⟩ : ByteArray).size = 1 := rfl
  have HKC := Lib.hid (fun (wx wy : World) (h : wy = wx.alloc (.cells ((List.range 4).map fun k => Value.string (lwB (k + 1))).toArray 9)) => kinds_cell h hj)
  have hsp : ∀ (T : ByteArray) (x : Int), spN T x = (T ++ ⟨#[32]⟩) ++ decN x := fun T x => (ByteArray.append_assoc ..).symm
  obtain ⟨W, hW⟩ : ∃ W, lwB (j + 1) = W := ⟨_, rfl⟩
  rw [hW] at HKC lw l1 l2 ⊢
  obtain ⟨U1, hU1⟩ : ∃ U, W ++ ⟨#[32]⟩ = U := ⟨_, rfl⟩
  obtain ⟨V1, hV1⟩ : ∃ V, spN W a = V := ⟨_, rfl⟩
  obtain ⟨U3, hU3⟩ : ∃ U, V1 ++ ⟨#[32]⟩ = U := ⟨_, rfl⟩
  obtain ⟨V2, hV2⟩ : ∃ V, spN V1 b = V := ⟨_, rfl⟩
  rw [hV1] at l1 l2 ⊢
  rw [hV2] at l2 ⊢
  have f1 : ∀ w : World, (Op.stringOp .add W ⟨#[32]⟩).run Tryd.prog w = .ok (.string U1) w := fun w => by rw [← hU1]; exact run_string_add_sum _ _ _ (by omega)
  have s1 : U1.size = W.size + 1 := by rw [← hU1, ByteArray.size_append]; omega
  have f2 : ∀ w : World, (Op.stringOp .add U1 (decN a)).run Tryd.prog w = .ok (.string V1) w := fun w => by rw [← hV1, hsp, hU1]; exact run_string_add_sum _ _ _ (by omega)
  have f3 : ∀ w : World, (Op.stringOp .add V1 ⟨#[32]⟩).run Tryd.prog w = .ok (.string U3) w := fun w => by rw [← hU3]; exact run_string_add_sum _ _ _ (by omega)
  have s3 : U3.size = V1.size + 1 := by rw [← hU3, ByteArray.size_append]; omega
  have f4 : ∀ w : World, (Op.stringOp .add U3 (decN b)).run Tryd.prog w = .ok (.string V2) w := fun w => by rw [← hV2, hsp, hU3]; exact run_string_add_sum _ _ _ (by omega)
  clear hU1 hV1 hU3 hV2 hsp s1 s3 la lb lc lw l1 l2 hW ha hb hc a0 a1 b0 b1 c0 c1
  generalize decN a = DA at *
  generalize decN b = DB at *
  generalize decN c = DC at *
  have d3 : decide ((3 : Int) ≤ (j : Int) + 1) = false := decide_eq_false (by omega)
  have hj4 : (j : Int) < 4 := by omega
  have hwj : IntKind.i64.wrap (j : Int) = (j : Int) := IntWalk.i64_in _ (by omega)
  subst hc0
  obtain ⟨u, hu0⟩ : ∃ u, u = w.alloc (.cells #[.int .i64 ((j : Nat) + 1 : Int), .int .i64 a, .int .i64 b, .int .i64 0] 25) := ⟨_, rfl⟩
  obtain ⟨bl, z0, z1, z2, z3, zs⟩ := lnk_any w ⟨(j : Nat) + 1, a, b, 0⟩ 25
  dsimp only at bl z0 z1 z2 z3
  rw [← hu0] at bl z0 z1 z2 z3 zs
  have HSX : Hid (∀ wx, Below u.heap.size u wx → wx.cell? ⟨w.heap.size, 0, none⟩ = some (.int .i64 ((j : Nat) + 1 : Int)) ∧ wx.cell? ⟨w.heap.size, 1, none⟩ = some (.int .i64 a) ∧ wx.cell? ⟨w.heap.size, 2, none⟩ = some (.int .i64 b) ∧ wx.cell? ⟨w.heap.size, 3, none⟩ = some (.int .i64 0)) := Lib.hid fun wx hx => ⟨(hx.cell (p := ⟨w.heap.size, 0, none⟩) (by show w.heap.size < _; omega)).trans z0, (hx.cell (p := ⟨w.heap.size, 1, none⟩) (by show w.heap.size < _; omega)).trans z1, (hx.cell (p := ⟨w.heap.size, 2, none⟩) (by show w.heap.size < _; omega)).trans z2, (hx.cell (p := ⟨w.heap.size, 3, none⟩) (by show w.heap.size < _; omega)).trans z3⟩
  have HBU := Lib.hid bl
  clear bl zs h12
  go_enter Tryd.func8, Tryd.ntmps8
  go_wp2_with (fail)
  rw [← hu0]
  clear hu0
  refine (R0.out _).mono ?_
  rintro e w' ⟨rfl, rfl⟩
  go_wp2_with (fail)
  refine (R1.out _).mono ?_
  rintro e w' ⟨rfl, rfl⟩
  go_wp2_with (fail)
  refine (R2.out _).mono ?_
  rintro e w' ⟨rfl, rfl⟩
  go_wp2_with (fail)
  refine (R3.out _).mono ?_
  rintro e w' ⟨rfl, rfl⟩
  go_upto_region 3 with (fail)
  go_cut [3] (fun v wx => v = .string V2 ∧ Below u.heap.size u wx)
  case first =>
    clear z0 z1 z2 z3
    have FB_0 := Lib.hid (Below.refl u.heap.size u)
    refine wp_region_held_drew (S := fun wx => wx.cell? ⟨w.heap.size, 0, none⟩ = some (.int .i64 ((j : Nat) + 1 : Int)) ∧ wx.cell? ⟨w.heap.size, 1, none⟩ = some (.int .i64 a) ∧ wx.cell? ⟨w.heap.size, 2, none⟩ = some (.int .i64 b) ∧ wx.cell? ⟨w.heap.size, 3, none⟩ = some (.int .i64 0)) (by kernel_rfl) (HSX.out _ (Below.refl _ _).drew) (fun hHeld => ?_)
    obtain ⟨wq1, hwq1⟩ : ∃ w', w' = u.drew := ⟨_, rfl⟩
    rw [← hwq1] at hHeld ⊢
    have bq1 : Below u.heap.size u wq1 := by rw [hwq1]; exact (Below.refl _ _).drew
    clear hwq1
    have FB_q2 := Lib.hid ((FB_0.out).trans ((bq1).mono (FB_0.out).size))
    clear FB_0
    refine tk (i := 1) (h := ?_)
    (try simp only [Act.put, setIfInBounds_toArray, set_cons_zero, set_cons_succ, getElem_toArray, getElem_cons_succ, getElem_cons_zero])
    refine tk (i := 7) (h := ?_)
    (try simp only [Act.put, setIfInBounds_toArray, set_cons_zero, set_cons_succ, getElem_toArray, getElem_cons_succ, getElem_cons_zero])
    refine tk (i := 12) (h := ?_)
    (try simp only [Act.put, setIfInBounds_toArray, set_cons_zero, set_cons_succ, getElem_toArray, getElem_cons_succ, getElem_cons_zero])
    refine tk (i := 2) (h := ?_)
    (try simp only [Act.put, setIfInBounds_toArray, set_cons_zero, set_cons_succ, getElem_toArray, getElem_cons_succ, getElem_cons_zero])
    refine tk (i := 8) (h := ?_)
    (try simp only [Act.put, setIfInBounds_toArray, set_cons_zero, set_cons_succ, getElem_toArray, getElem_cons_succ, getElem_cons_zero])
    refine tk (i := 13) (h := ?_)
    (try simp only [Act.put, setIfInBounds_toArray, set_cons_zero, set_cons_succ, getElem_toArray, getElem_cons_succ, getElem_cons_zero])
    refine tk (i := 3) (h := ?_)
    (try simp only [Act.put, setIfInBounds_toArray, set_cons_zero, set_cons_succ, getElem_toArray, getElem_cons_succ, getElem_cons_zero])
    refine t1 (i := 0) (h := fun K hK => ?_)
    go_simp
    refine (kinds_any wq1).mono ?_
    rintro e wq10 ⟨rfl, hwq10⟩
    dsimp only
    have KCq10 := Lib.hid (HKC.out _ _ hwq10)
    have bq10 := al hwq10
    have glq10 : wq1.heap.size < wq10.heap.size := by rw [hwq10]; simp
    have FB_q11 := Lib.hid ((FB_q2.out).trans ((bq10).mono (FB_q2.out).size))
    clear FB_q2
    obtain ⟨gkq12, hgkq12⟩ : ∃ g, wq1.heap.size = g := ⟨_, rfl⟩
    rw [hgkq12] at KCq10 glq10 ⊢
    clear hgkq12 hwq10 bq10
    have FK_q12 := Lib.hid (And.intro KCq10.out glq10)
    clear KCq10 glq10
    refine hK.out _ _ (HSX.out _ FB_q11.out) (fun hHeld => ?_)
    clear hK K
    (try simp only [Act.put, setIfInBounds_toArray, set_cons_zero, set_cons_succ, getElem_toArray, getElem_cons_succ, getElem_cons_zero])
    refine tk (i := 4) (h := ?_)
    (try simp only [Act.put, setIfInBounds_toArray, set_cons_zero, set_cons_succ, getElem_toArray, getElem_cons_succ, getElem_cons_zero])
    refine wpAnyH_ready (rs := [5, 9]) (by kernel_rfl) (by simp) ?_
    refine AllReadyH.cons rfl (fun K hK => ?_) ?_
    · have kc := FK_q12.out.1
      go_simp
      clear kc
      refine hK.out _ _ (hHeld) (fun hHeld => ?_)
      clear hK K
      (try simp only [Act.put, setIfInBounds_toArray, set_cons_zero, set_cons_succ, getElem_toArray, getElem_cons_succ, getElem_cons_zero])
      refine tk (i := 6) (h := ?_)
      (try simp only [Act.put, setIfInBounds_toArray, set_cons_zero, set_cons_succ, getElem_toArray, getElem_cons_succ, getElem_cons_zero])
      refine t1 (i := 9) (h := fun K hK => ?_)
      go_simp
      refine (HDA.out wq10).mono ?_
      rintro e wq15 ⟨rfl, belq15⟩
      dsimp only
      have FB_q16 := Lib.hid ((FB_q11.out).trans ((belq15).mono (FB_q11.out).size))
      have FK_q17 := Lib.hid (And.intro (((belq15).cell (p := ⟨gkq12, j, none⟩) (FK_q12.out).2).trans (FK_q12.out).1) (Nat.lt_of_lt_of_le (FK_q12.out).2 (belq15).size))
      clear FB_q11 FK_q12
      clear belq15
      refine hK.out _ _ (HSX.out _ FB_q16.out) (fun hHeld => ?_)
      clear hK K
      (try simp only [Act.put, setIfInBounds_toArray, set_cons_zero, set_cons_succ, getElem_toArray, getElem_cons_succ, getElem_cons_zero])
      refine tk (i := 10) (h := ?_)
      (try simp only [Act.put, setIfInBounds_toArray, set_cons_zero, set_cons_succ, getElem_toArray, getElem_cons_succ, getElem_cons_zero])
      refine tk (i := 11) (h := ?_)
      (try simp only [Act.put, setIfInBounds_toArray, set_cons_zero, set_cons_succ, getElem_toArray, getElem_cons_succ, getElem_cons_zero])
      refine t1 (i := 14) (h := fun K hK => ?_)
      go_simp
      refine (HDB.out wq15).mono ?_
      rintro e wq20 ⟨rfl, belq20⟩
      dsimp only
      have FB_q21 := Lib.hid ((FB_q16.out).trans ((belq20).mono (FB_q16.out).size))
      have FK_q22 := Lib.hid (And.intro (((belq20).cell (p := ⟨gkq12, j, none⟩) (FK_q17.out).2).trans (FK_q17.out).1) (Nat.lt_of_lt_of_le (FK_q17.out).2 (belq20).size))
      clear FB_q16 FK_q17
      clear belq20
      refine hK.out _ _ (HSX.out _ FB_q21.out) (fun hHeld => ?_)
      clear hK K
      (try simp only [Act.put, setIfInBounds_toArray, set_cons_zero, set_cons_succ, getElem_toArray, getElem_cons_succ, getElem_cons_zero])
      refine tk (i := 15) (h := ?_)
      (try simp only [Act.put, setIfInBounds_toArray, set_cons_zero, set_cons_succ, getElem_toArray, getElem_cons_succ, getElem_cons_zero])
      refine t1 (i := 16) (h := fun K hK => ?_)
      go_simp
      refine hK.out _ _ hHeld (fun hHeld => ?_)
      clear hK K
      (try simp only [Act.put, setIfInBounds_toArray, set_cons_zero, set_cons_succ, getElem_toArray, getElem_cons_succ, getElem_cons_zero])
      refine wpAnyH_done (by kernel_rfl) ?_ _
      have HBX := FB_q21.out
      go_wp2_with (fail)
      go_meet
      exact ⟨rfl, HBX⟩
    refine AllReadyH.cons rfl (fun K hK => ?_) ?_
    · go_simp
      refine (HDA.out wq10).mono ?_
      rintro e wq24 ⟨rfl, belq24⟩
      dsimp only
      have FB_q25 := Lib.hid ((FB_q11.out).trans ((belq24).mono (FB_q11.out).size))
      have FK_q26 := Lib.hid (And.intro (((belq24).cell (p := ⟨gkq12, j, none⟩) (FK_q12.out).2).trans (FK_q12.out).1) (Nat.lt_of_lt_of_le (FK_q12.out).2 (belq24).size))
      clear FB_q11 FK_q12
      clear belq24
      refine hK.out _ _ (HSX.out _ FB_q25.out) (fun hHeld => ?_)
      clear hK K
      (try simp only [Act.put, setIfInBounds_toArray, set_cons_zero, set_cons_succ, getElem_toArray, getElem_cons_succ, getElem_cons_zero])
      refine wpAnyH_ready (rs := [5, 14]) (by kernel_rfl) (by simp) ?_
      refine AllReadyH.cons rfl (fun K hK => ?_) ?_
      · have kc := FK_q26.out.1
        go_simp
        clear kc
        refine hK.out _ _ (hHeld) (fun hHeld => ?_)
        clear hK K
        (try simp only [Act.put, setIfInBounds_toArray, set_cons_zero, set_cons_succ, getElem_toArray, getElem_cons_succ, getElem_cons_zero])
        refine tk (i := 6) (h := ?_)
        (try simp only [Act.put, setIfInBounds_toArray, set_cons_zero, set_cons_succ, getElem_toArray, getElem_cons_succ, getElem_cons_zero])
        refine tk (i := 10) (h := ?_)
        (try simp only [Act.put, setIfInBounds_toArray, set_cons_zero, set_cons_succ, getElem_toArray, getElem_cons_succ, getElem_cons_zero])
        refine tk (i := 11) (h := ?_)
        (try simp only [Act.put, setIfInBounds_toArray, set_cons_zero, set_cons_succ, getElem_toArray, getElem_cons_succ, getElem_cons_zero])
        refine t1 (i := 14) (h := fun K hK => ?_)
        go_simp
        refine (HDB.out wq24).mono ?_
        rintro e wq30 ⟨rfl, belq30⟩
        dsimp only
        have FB_q31 := Lib.hid ((FB_q25.out).trans ((belq30).mono (FB_q25.out).size))
        have FK_q32 := Lib.hid (And.intro (((belq30).cell (p := ⟨gkq12, j, none⟩) (FK_q26.out).2).trans (FK_q26.out).1) (Nat.lt_of_lt_of_le (FK_q26.out).2 (belq30).size))
        clear FB_q25 FK_q26
        clear belq30
        refine hK.out _ _ (HSX.out _ FB_q31.out) (fun hHeld => ?_)
        clear hK K
        (try simp only [Act.put, setIfInBounds_toArray, set_cons_zero, set_cons_succ, getElem_toArray, getElem_cons_succ, getElem_cons_zero])
        refine tk (i := 15) (h := ?_)
        (try simp only [Act.put, setIfInBounds_toArray, set_cons_zero, set_cons_succ, getElem_toArray, getElem_cons_succ, getElem_cons_zero])
        refine t1 (i := 16) (h := fun K hK => ?_)
        go_simp
        refine hK.out _ _ hHeld (fun hHeld => ?_)
        clear hK K
        (try simp only [Act.put, setIfInBounds_toArray, set_cons_zero, set_cons_succ, getElem_toArray, getElem_cons_succ, getElem_cons_zero])
        refine wpAnyH_done (by kernel_rfl) ?_ _
        have HBX := FB_q31.out
        go_wp2_with (fail)
        go_meet
        exact ⟨rfl, HBX⟩
      refine AllReadyH.cons rfl (fun K hK => ?_) ?_
      · go_simp
        refine (HDB.out wq24).mono ?_
        rintro e wq34 ⟨rfl, belq34⟩
        dsimp only
        have FB_q35 := Lib.hid ((FB_q25.out).trans ((belq34).mono (FB_q25.out).size))
        have FK_q36 := Lib.hid (And.intro (((belq34).cell (p := ⟨gkq12, j, none⟩) (FK_q26.out).2).trans (FK_q26.out).1) (Nat.lt_of_lt_of_le (FK_q26.out).2 (belq34).size))
        clear FB_q25 FK_q26
        clear belq34
        refine hK.out _ _ (HSX.out _ FB_q35.out) (fun hHeld => ?_)
        clear hK K
        (try simp only [Act.put, setIfInBounds_toArray, set_cons_zero, set_cons_succ, getElem_toArray, getElem_cons_succ, getElem_cons_zero])
        refine t1 (i := 5) (h := fun K hK => ?_)
        have kc := FK_q36.out.1
        go_simp
        clear kc
        refine hK.out _ _ (hHeld) (fun hHeld => ?_)
        clear hK K
        (try simp only [Act.put, setIfInBounds_toArray, set_cons_zero, set_cons_succ, getElem_toArray, getElem_cons_succ, getElem_cons_zero])
        refine tk (i := 6) (h := ?_)
        (try simp only [Act.put, setIfInBounds_toArray, set_cons_zero, set_cons_succ, getElem_toArray, getElem_cons_succ, getElem_cons_zero])
        refine tk (i := 10) (h := ?_)
        (try simp only [Act.put, setIfInBounds_toArray, set_cons_zero, set_cons_succ, getElem_toArray, getElem_cons_succ, getElem_cons_zero])
        refine tk (i := 11) (h := ?_)
        (try simp only [Act.put, setIfInBounds_toArray, set_cons_zero, set_cons_succ, getElem_toArray, getElem_cons_succ, getElem_cons_zero])
        refine tk (i := 15) (h := ?_)
        (try simp only [Act.put, setIfInBounds_toArray, set_cons_zero, set_cons_succ, getElem_toArray, getElem_cons_succ, getElem_cons_zero])
        refine t1 (i := 16) (h := fun K hK => ?_)
        go_simp
        refine hK.out _ _ hHeld (fun hHeld => ?_)
        clear hK K
        (try simp only [Act.put, setIfInBounds_toArray, set_cons_zero, set_cons_succ, getElem_toArray, getElem_cons_succ, getElem_cons_zero])
        refine wpAnyH_done (by kernel_rfl) ?_ _
        have HBX := FB_q35.out
        go_wp2_with (fail)
        go_meet
        exact ⟨rfl, HBX⟩
      exact AllReadyH.nil
    exact AllReadyH.nil
  case rest =>
    obtain ⟨rfl, hB⟩ := hcut
    have B2 := Lib.hid hB
    clear hB z0 z1 z2 z3
    obtain ⟨z0, z1, z2, z3⟩ := HSX.out _ B2.out
    have B3 := Lib.hid (HBU.out.trans (B2.out.mono HBU.out.size))
    go_wp2
    go_ret
    exact ⟨rfl, B3.out⟩
set_option maxRecDepth 100000 in
set_option maxHeartbeats 4000000 in
theorem slt_twoc (w : World) (j : Nat) (a b c : Int) (hj : j < 4) (ha : inM a = true) (hb : inM b = true) (hc : inM c = true) (h12 : j < 2) (hc0 : ¬ c = 0) :
    Calls Tryd.prog 8 #[.agg #[.int .i64 ((j : Nat) + 1 : Int), .int .i64 a, .int .i64 b, .int .i64 c]] w fun e w' => e = .returned (.string (⟨#[]⟩)) ∧ Below w.heap.size w w' := by
  have Q0 := fun wx => inRange_any ((j : Nat) + 1 : Int) 1 4 wx
  rw [decide_eq_true (by omega)] at Q0
  have R0 := Lib.hid Q0; clear Q0
  have Q1 := fun wx => inRange_any a 0 47 wx
  rw [show decide (0 ≤ a ∧ a ≤ 47) = true from ha] at Q1
  have R1 := Lib.hid Q1; clear Q1
  have Q2 := fun wx => inRange_any b 0 47 wx
  rw [show decide (0 ≤ b ∧ b ≤ 47) = true from hb] at Q2
  have R2 := Lib.hid Q2; clear Q2
  have Q3 := fun wx => inRange_any c 0 47 wx
  rw [show decide (0 ≤ c ∧ c ≤ 47) = true from hc] at Q3
  have R3 := Lib.hid Q3; clear Q3
  obtain ⟨a0, a1⟩ := inM_yes ha; obtain ⟨b0, b1⟩ := inM_yes hb; obtain ⟨c0, c1⟩ := inM_yes hc
  have HDA := Lib.hid (fun wx => decimalN_any a wx a0 (by omega))
  have HDB := Lib.hid (fun wx => decimalN_any b wx b0 (by omega))
  have HDC := Lib.hid (fun wx => decimalN_any c wx c0 (by omega))
  have la := decN_len a0 (show a < 100 by omega); have lb := decN_len b0 (show b < 100 by omega); have lc := decN_len c0 (show c < 100 by omega)
  have lw := lwB_len (j + 1)
  have l1 := spN_len (T := lwB (j + 1)) ha; have l2 := spN_len (T := spN (lwB (j + 1)) a) hb
  have e32 : (⟨#[32]⟩ : ByteArray).size = 1 := rfl
  have HKC := Lib.hid (fun (wx wy : World) (h : wy = wx.alloc (.cells ((List.range 4).map fun k => Value.string (lwB (k + 1))).toArray 9)) => kinds_cell h hj)
  have hsp : ∀ (T : ByteArray) (x : Int), spN T x = (T ++ ⟨#[32]⟩) ++ decN x := fun T x => (ByteArray.append_assoc ..).symm
  obtain ⟨W, hW⟩ : ∃ W, lwB (j + 1) = W := ⟨_, rfl⟩
  rw [hW] at HKC lw l1 l2
  obtain ⟨U1, hU1⟩ : ∃ U, W ++ ⟨#[32]⟩ = U := ⟨_, rfl⟩
  obtain ⟨V1, hV1⟩ : ∃ V, spN W a = V := ⟨_, rfl⟩
  obtain ⟨U3, hU3⟩ : ∃ U, V1 ++ ⟨#[32]⟩ = U := ⟨_, rfl⟩
  obtain ⟨V2, hV2⟩ : ∃ V, spN V1 b = V := ⟨_, rfl⟩
  rw [hV1] at l1 l2
  rw [hV2] at l2
  have f1 : ∀ w : World, (Op.stringOp .add W ⟨#[32]⟩).run Tryd.prog w = .ok (.string U1) w := fun w => by rw [← hU1]; exact run_string_add_sum _ _ _ (by omega)
  have s1 : U1.size = W.size + 1 := by rw [← hU1, ByteArray.size_append]; omega
  have f2 : ∀ w : World, (Op.stringOp .add U1 (decN a)).run Tryd.prog w = .ok (.string V1) w := fun w => by rw [← hV1, hsp, hU1]; exact run_string_add_sum _ _ _ (by omega)
  have f3 : ∀ w : World, (Op.stringOp .add V1 ⟨#[32]⟩).run Tryd.prog w = .ok (.string U3) w := fun w => by rw [← hU3]; exact run_string_add_sum _ _ _ (by omega)
  have s3 : U3.size = V1.size + 1 := by rw [← hU3, ByteArray.size_append]; omega
  have f4 : ∀ w : World, (Op.stringOp .add U3 (decN b)).run Tryd.prog w = .ok (.string V2) w := fun w => by rw [← hV2, hsp, hU3]; exact run_string_add_sum _ _ _ (by omega)
  clear hU1 hV1 hU3 hV2 hsp s1 s3 la lb lc lw l1 l2 hW ha hb hc a0 a1 b0 b1 c0 c1
  generalize decN a = DA at *
  generalize decN b = DB at *
  generalize decN c = DC at *
  have d3 : decide ((3 : Int) ≤ (j : Int) + 1) = false := decide_eq_false (by omega)
  have hj4 : (j : Int) < 4 := by omega
  have hwj : IntKind.i64.wrap (j : Int) = (j : Int) := IntWalk.i64_in _ (by omega)
  have dc : (c == 0) = false := by simpa using hc0
  have dc2 : (c != 0) = true := by simpa using hc0
  obtain ⟨u, hu0⟩ : ∃ u, u = w.alloc (.cells #[.int .i64 ((j : Nat) + 1 : Int), .int .i64 a, .int .i64 b, .int .i64 c] 25) := ⟨_, rfl⟩
  obtain ⟨bl, z0, z1, z2, z3, zs⟩ := lnk_any w ⟨(j : Nat) + 1, a, b, c⟩ 25
  dsimp only at bl z0 z1 z2 z3
  rw [← hu0] at bl z0 z1 z2 z3 zs
  have HSX : Hid (∀ wx, Below u.heap.size u wx → wx.cell? ⟨w.heap.size, 0, none⟩ = some (.int .i64 ((j : Nat) + 1 : Int)) ∧ wx.cell? ⟨w.heap.size, 1, none⟩ = some (.int .i64 a) ∧ wx.cell? ⟨w.heap.size, 2, none⟩ = some (.int .i64 b) ∧ wx.cell? ⟨w.heap.size, 3, none⟩ = some (.int .i64 c)) := Lib.hid fun wx hx => ⟨(hx.cell (p := ⟨w.heap.size, 0, none⟩) (by show w.heap.size < _; omega)).trans z0, (hx.cell (p := ⟨w.heap.size, 1, none⟩) (by show w.heap.size < _; omega)).trans z1, (hx.cell (p := ⟨w.heap.size, 2, none⟩) (by show w.heap.size < _; omega)).trans z2, (hx.cell (p := ⟨w.heap.size, 3, none⟩) (by show w.heap.size < _; omega)).trans z3⟩
  have HBU := Lib.hid bl
  clear bl zs h12 hc0
  go_enter Tryd.func8, Tryd.ntmps8
  go_wp2_with (fail)
  rw [← hu0]
  clear hu0
  refine (R0.out _).mono ?_
  rintro e w' ⟨rfl, rfl⟩
  go_wp2_with (fail)
  refine (R1.out _).mono ?_
  rintro e w' ⟨rfl, rfl⟩
  go_wp2_with (fail)
  refine (R2.out _).mono ?_
  rintro e w' ⟨rfl, rfl⟩
  go_wp2_with (fail)
  refine (R3.out _).mono ?_
  rintro e w' ⟨rfl, rfl⟩
  go_upto_region 3 with (fail)
  go_cut [3] (fun v wx => v = .string V2 ∧ Below u.heap.size u wx)
  case first =>
    clear z0 z1 z2 z3
    have FB_0 := Lib.hid (Below.refl u.heap.size u)
    refine wp_region_held_drew (S := fun wx => wx.cell? ⟨w.heap.size, 0, none⟩ = some (.int .i64 ((j : Nat) + 1 : Int)) ∧ wx.cell? ⟨w.heap.size, 1, none⟩ = some (.int .i64 a) ∧ wx.cell? ⟨w.heap.size, 2, none⟩ = some (.int .i64 b) ∧ wx.cell? ⟨w.heap.size, 3, none⟩ = some (.int .i64 c)) (by kernel_rfl) (HSX.out _ (Below.refl _ _).drew) (fun hHeld => ?_)
    obtain ⟨wq1, hwq1⟩ : ∃ w', w' = u.drew := ⟨_, rfl⟩
    rw [← hwq1] at hHeld ⊢
    have bq1 : Below u.heap.size u wq1 := by rw [hwq1]; exact (Below.refl _ _).drew
    clear hwq1
    have FB_q2 := Lib.hid ((FB_0.out).trans ((bq1).mono (FB_0.out).size))
    clear FB_0
    refine tk (i := 1) (h := ?_)
    (try simp only [Act.put, setIfInBounds_toArray, set_cons_zero, set_cons_succ, getElem_toArray, getElem_cons_succ, getElem_cons_zero])
    refine tk (i := 7) (h := ?_)
    (try simp only [Act.put, setIfInBounds_toArray, set_cons_zero, set_cons_succ, getElem_toArray, getElem_cons_succ, getElem_cons_zero])
    refine tk (i := 12) (h := ?_)
    (try simp only [Act.put, setIfInBounds_toArray, set_cons_zero, set_cons_succ, getElem_toArray, getElem_cons_succ, getElem_cons_zero])
    refine tk (i := 2) (h := ?_)
    (try simp only [Act.put, setIfInBounds_toArray, set_cons_zero, set_cons_succ, getElem_toArray, getElem_cons_succ, getElem_cons_zero])
    refine tk (i := 8) (h := ?_)
    (try simp only [Act.put, setIfInBounds_toArray, set_cons_zero, set_cons_succ, getElem_toArray, getElem_cons_succ, getElem_cons_zero])
    refine tk (i := 13) (h := ?_)
    (try simp only [Act.put, setIfInBounds_toArray, set_cons_zero, set_cons_succ, getElem_toArray, getElem_cons_succ, getElem_cons_zero])
    refine tk (i := 3) (h := ?_)
    (try simp only [Act.put, setIfInBounds_toArray, set_cons_zero, set_cons_succ, getElem_toArray, getElem_cons_succ, getElem_cons_zero])
    refine t1 (i := 0) (h := fun K hK => ?_)
    go_simp
    refine (kinds_any wq1).mono ?_
    rintro e wq10 ⟨rfl, hwq10⟩
    dsimp only
    have KCq10 := Lib.hid (HKC.out _ _ hwq10)
    have bq10 := al hwq10
    have glq10 : wq1.heap.size < wq10.heap.size := by rw [hwq10]; simp
    have FB_q11 := Lib.hid ((FB_q2.out).trans ((bq10).mono (FB_q2.out).size))
    clear FB_q2
    obtain ⟨gkq12, hgkq12⟩ : ∃ g, wq1.heap.size = g := ⟨_, rfl⟩
    rw [hgkq12] at KCq10 glq10 ⊢
    clear hgkq12 hwq10 bq10
    have FK_q12 := Lib.hid (And.intro KCq10.out glq10)
    clear KCq10 glq10
    refine hK.out _ _ (HSX.out _ FB_q11.out) (fun hHeld => ?_)
    clear hK K
    (try simp only [Act.put, setIfInBounds_toArray, set_cons_zero, set_cons_succ, getElem_toArray, getElem_cons_succ, getElem_cons_zero])
    refine tk (i := 4) (h := ?_)
    (try simp only [Act.put, setIfInBounds_toArray, set_cons_zero, set_cons_succ, getElem_toArray, getElem_cons_succ, getElem_cons_zero])
    refine wpAnyH_ready (rs := [5, 9]) (by kernel_rfl) (by simp) ?_
    refine AllReadyH.cons rfl (fun K hK => ?_) ?_
    · have kc := FK_q12.out.1
      go_simp
      clear kc
      refine hK.out _ _ (hHeld) (fun hHeld => ?_)
      clear hK K
      (try simp only [Act.put, setIfInBounds_toArray, set_cons_zero, set_cons_succ, getElem_toArray, getElem_cons_succ, getElem_cons_zero])
      refine tk (i := 6) (h := ?_)
      (try simp only [Act.put, setIfInBounds_toArray, set_cons_zero, set_cons_succ, getElem_toArray, getElem_cons_succ, getElem_cons_zero])
      refine t1 (i := 9) (h := fun K hK => ?_)
      go_simp
      refine (HDA.out wq10).mono ?_
      rintro e wq15 ⟨rfl, belq15⟩
      dsimp only
      have FB_q16 := Lib.hid ((FB_q11.out).trans ((belq15).mono (FB_q11.out).size))
      have FK_q17 := Lib.hid (And.intro (((belq15).cell (p := ⟨gkq12, j, none⟩) (FK_q12.out).2).trans (FK_q12.out).1) (Nat.lt_of_lt_of_le (FK_q12.out).2 (belq15).size))
      clear FB_q11 FK_q12
      clear belq15
      refine hK.out _ _ (HSX.out _ FB_q16.out) (fun hHeld => ?_)
      clear hK K
      (try simp only [Act.put, setIfInBounds_toArray, set_cons_zero, set_cons_succ, getElem_toArray, getElem_cons_succ, getElem_cons_zero])
      refine tk (i := 10) (h := ?_)
      (try simp only [Act.put, setIfInBounds_toArray, set_cons_zero, set_cons_succ, getElem_toArray, getElem_cons_succ, getElem_cons_zero])
      refine tk (i := 11) (h := ?_)
      (try simp only [Act.put, setIfInBounds_toArray, set_cons_zero, set_cons_succ, getElem_toArray, getElem_cons_succ, getElem_cons_zero])
      refine t1 (i := 14) (h := fun K hK => ?_)
      go_simp
      refine (HDB.out wq15).mono ?_
      rintro e wq20 ⟨rfl, belq20⟩
      dsimp only
      have FB_q21 := Lib.hid ((FB_q16.out).trans ((belq20).mono (FB_q16.out).size))
      have FK_q22 := Lib.hid (And.intro (((belq20).cell (p := ⟨gkq12, j, none⟩) (FK_q17.out).2).trans (FK_q17.out).1) (Nat.lt_of_lt_of_le (FK_q17.out).2 (belq20).size))
      clear FB_q16 FK_q17
      clear belq20
      refine hK.out _ _ (HSX.out _ FB_q21.out) (fun hHeld => ?_)
      clear hK K
      (try simp only [Act.put, setIfInBounds_toArray, set_cons_zero, set_cons_succ, getElem_toArray, getElem_cons_succ, getElem_cons_zero])
      refine tk (i := 15) (h := ?_)
      (try simp only [Act.put, setIfInBounds_toArray, set_cons_zero, set_cons_succ, getElem_toArray, getElem_cons_succ, getElem_cons_zero])
      refine t1 (i := 16) (h := fun K hK => ?_)
      go_simp
      refine hK.out _ _ hHeld (fun hHeld => ?_)
      clear hK K
      (try simp only [Act.put, setIfInBounds_toArray, set_cons_zero, set_cons_succ, getElem_toArray, getElem_cons_succ, getElem_cons_zero])
      refine wpAnyH_done (by kernel_rfl) ?_ _
      have HBX := FB_q21.out
      go_wp2_with (fail)
      go_meet
      exact ⟨rfl, HBX⟩
    refine AllReadyH.cons rfl (fun K hK => ?_) ?_
    · go_simp
      refine (HDA.out wq10).mono ?_
      rintro e wq24 ⟨rfl, belq24⟩
      dsimp only
      have FB_q25 := Lib.hid ((FB_q11.out).trans ((belq24).mono (FB_q11.out).size))
      have FK_q26 := Lib.hid (And.intro (((belq24).cell (p := ⟨gkq12, j, none⟩) (FK_q12.out).2).trans (FK_q12.out).1) (Nat.lt_of_lt_of_le (FK_q12.out).2 (belq24).size))
      clear FB_q11 FK_q12
      clear belq24
      refine hK.out _ _ (HSX.out _ FB_q25.out) (fun hHeld => ?_)
      clear hK K
      (try simp only [Act.put, setIfInBounds_toArray, set_cons_zero, set_cons_succ, getElem_toArray, getElem_cons_succ, getElem_cons_zero])
      refine wpAnyH_ready (rs := [5, 14]) (by kernel_rfl) (by simp) ?_
      refine AllReadyH.cons rfl (fun K hK => ?_) ?_
      · have kc := FK_q26.out.1
        go_simp
        clear kc
        refine hK.out _ _ (hHeld) (fun hHeld => ?_)
        clear hK K
        (try simp only [Act.put, setIfInBounds_toArray, set_cons_zero, set_cons_succ, getElem_toArray, getElem_cons_succ, getElem_cons_zero])
        refine tk (i := 6) (h := ?_)
        (try simp only [Act.put, setIfInBounds_toArray, set_cons_zero, set_cons_succ, getElem_toArray, getElem_cons_succ, getElem_cons_zero])
        refine tk (i := 10) (h := ?_)
        (try simp only [Act.put, setIfInBounds_toArray, set_cons_zero, set_cons_succ, getElem_toArray, getElem_cons_succ, getElem_cons_zero])
        refine tk (i := 11) (h := ?_)
        (try simp only [Act.put, setIfInBounds_toArray, set_cons_zero, set_cons_succ, getElem_toArray, getElem_cons_succ, getElem_cons_zero])
        refine t1 (i := 14) (h := fun K hK => ?_)
        go_simp
        refine (HDB.out wq24).mono ?_
        rintro e wq30 ⟨rfl, belq30⟩
        dsimp only
        have FB_q31 := Lib.hid ((FB_q25.out).trans ((belq30).mono (FB_q25.out).size))
        have FK_q32 := Lib.hid (And.intro (((belq30).cell (p := ⟨gkq12, j, none⟩) (FK_q26.out).2).trans (FK_q26.out).1) (Nat.lt_of_lt_of_le (FK_q26.out).2 (belq30).size))
        clear FB_q25 FK_q26
        clear belq30
        refine hK.out _ _ (HSX.out _ FB_q31.out) (fun hHeld => ?_)
        clear hK K
        (try simp only [Act.put, setIfInBounds_toArray, set_cons_zero, set_cons_succ, getElem_toArray, getElem_cons_succ, getElem_cons_zero])
        refine tk (i := 15) (h := ?_)
        (try simp only [Act.put, setIfInBounds_toArray, set_cons_zero, set_cons_succ, getElem_toArray, getElem_cons_succ, getElem_cons_zero])
        refine t1 (i := 16) (h := fun K hK => ?_)
        go_simp
        refine hK.out _ _ hHeld (fun hHeld => ?_)
        clear hK K
        (try simp only [Act.put, setIfInBounds_toArray, set_cons_zero, set_cons_succ, getElem_toArray, getElem_cons_succ, getElem_cons_zero])
        refine wpAnyH_done (by kernel_rfl) ?_ _
        have HBX := FB_q31.out
        go_wp2_with (fail)
        go_meet
        exact ⟨rfl, HBX⟩
      refine AllReadyH.cons rfl (fun K hK => ?_) ?_
      · go_simp
        refine (HDB.out wq24).mono ?_
        rintro e wq34 ⟨rfl, belq34⟩
        dsimp only
        have FB_q35 := Lib.hid ((FB_q25.out).trans ((belq34).mono (FB_q25.out).size))
        have FK_q36 := Lib.hid (And.intro (((belq34).cell (p := ⟨gkq12, j, none⟩) (FK_q26.out).2).trans (FK_q26.out).1) (Nat.lt_of_lt_of_le (FK_q26.out).2 (belq34).size))
        clear FB_q25 FK_q26
        clear belq34
        refine hK.out _ _ (HSX.out _ FB_q35.out) (fun hHeld => ?_)
        clear hK K
        (try simp only [Act.put, setIfInBounds_toArray, set_cons_zero, set_cons_succ, getElem_toArray, getElem_cons_succ, getElem_cons_zero])
        refine t1 (i := 5) (h := fun K hK => ?_)
        have kc := FK_q36.out.1
        go_simp
        clear kc
        refine hK.out _ _ (hHeld) (fun hHeld => ?_)
        clear hK K
        (try simp only [Act.put, setIfInBounds_toArray, set_cons_zero, set_cons_succ, getElem_toArray, getElem_cons_succ, getElem_cons_zero])
        refine tk (i := 6) (h := ?_)
        (try simp only [Act.put, setIfInBounds_toArray, set_cons_zero, set_cons_succ, getElem_toArray, getElem_cons_succ, getElem_cons_zero])
        refine tk (i := 10) (h := ?_)
        (try simp only [Act.put, setIfInBounds_toArray, set_cons_zero, set_cons_succ, getElem_toArray, getElem_cons_succ, getElem_cons_zero])
        refine tk (i := 11) (h := ?_)
        (try simp only [Act.put, setIfInBounds_toArray, set_cons_zero, set_cons_succ, getElem_toArray, getElem_cons_succ, getElem_cons_zero])
        refine tk (i := 15) (h := ?_)
        (try simp only [Act.put, setIfInBounds_toArray, set_cons_zero, set_cons_succ, getElem_toArray, getElem_cons_succ, getElem_cons_zero])
        refine t1 (i := 16) (h := fun K hK => ?_)
        go_simp
        refine hK.out _ _ hHeld (fun hHeld => ?_)
        clear hK K
        (try simp only [Act.put, setIfInBounds_toArray, set_cons_zero, set_cons_succ, getElem_toArray, getElem_cons_succ, getElem_cons_zero])
        refine wpAnyH_done (by kernel_rfl) ?_ _
        have HBX := FB_q35.out
        go_wp2_with (fail)
        go_meet
        exact ⟨rfl, HBX⟩
      exact AllReadyH.nil
    exact AllReadyH.nil
  case rest =>
    obtain ⟨rfl, hB⟩ := hcut
    have B2 := Lib.hid hB
    clear hB z0 z1 z2 z3
    obtain ⟨z0, z1, z2, z3⟩ := HSX.out _ B2.out
    have B3 := Lib.hid (HBU.out.trans (B2.out.mono HBU.out.size))
    go_wp2
    go_ret
    exact ⟨rfl, B3.out⟩
set_option maxRecDepth 100000 in
set_option maxHeartbeats 4000000 in
theorem slt_three (w : World) (j : Nat) (a b c : Int) (hj : j < 4) (ha : inM a = true) (hb : inM b = true) (hc : inM c = true) (h12 : ¬ j < 2) :
    Calls Tryd.prog 8 #[.agg #[.int .i64 ((j : Nat) + 1 : Int), .int .i64 a, .int .i64 b, .int .i64 c]] w fun e w' => e = .returned (.string (spN (spN (spN (lwB (j + 1)) a) b) c)) ∧ Below w.heap.size w w' := by
  have Q0 := fun wx => inRange_any ((j : Nat) + 1 : Int) 1 4 wx
  rw [decide_eq_true (by omega)] at Q0
  have R0 := Lib.hid Q0; clear Q0
  have Q1 := fun wx => inRange_any a 0 47 wx
  rw [show decide (0 ≤ a ∧ a ≤ 47) = true from ha] at Q1
  have R1 := Lib.hid Q1; clear Q1
  have Q2 := fun wx => inRange_any b 0 47 wx
  rw [show decide (0 ≤ b ∧ b ≤ 47) = true from hb] at Q2
  have R2 := Lib.hid Q2; clear Q2
  have Q3 := fun wx => inRange_any c 0 47 wx
  rw [show decide (0 ≤ c ∧ c ≤ 47) = true from hc] at Q3
  have R3 := Lib.hid Q3; clear Q3
  obtain ⟨a0, a1⟩ := inM_yes ha; obtain ⟨b0, b1⟩ := inM_yes hb; obtain ⟨c0, c1⟩ := inM_yes hc
  have HDA := Lib.hid (fun wx => decimalN_any a wx a0 (by omega))
  have HDB := Lib.hid (fun wx => decimalN_any b wx b0 (by omega))
  have HDC := Lib.hid (fun wx => decimalN_any c wx c0 (by omega))
  have la := decN_len a0 (show a < 100 by omega); have lb := decN_len b0 (show b < 100 by omega); have lc := decN_len c0 (show c < 100 by omega)
  have lw := lwB_len (j + 1)
  have l1 := spN_len (T := lwB (j + 1)) ha; have l2 := spN_len (T := spN (lwB (j + 1)) a) hb
  have e32 : (⟨#[32]⟩ : ByteArray).size = 1 := rfl
  have HKC := Lib.hid (fun (wx wy : World) (h : wy = wx.alloc (.cells ((List.range 4).map fun k => Value.string (lwB (k + 1))).toArray 9)) => kinds_cell h hj)
  have hsp : ∀ (T : ByteArray) (x : Int), spN T x = (T ++ ⟨#[32]⟩) ++ decN x := fun T x => (ByteArray.append_assoc ..).symm
  obtain ⟨W, hW⟩ : ∃ W, lwB (j + 1) = W := ⟨_, rfl⟩
  rw [hW] at HKC lw l1 l2 ⊢
  obtain ⟨U1, hU1⟩ : ∃ U, W ++ ⟨#[32]⟩ = U := ⟨_, rfl⟩
  obtain ⟨V1, hV1⟩ : ∃ V, spN W a = V := ⟨_, rfl⟩
  obtain ⟨U3, hU3⟩ : ∃ U, V1 ++ ⟨#[32]⟩ = U := ⟨_, rfl⟩
  obtain ⟨V2, hV2⟩ : ∃ V, spN V1 b = V := ⟨_, rfl⟩
  rw [hV1] at l1 l2 ⊢
  rw [hV2] at l2 ⊢
  have f1 : ∀ w : World, (Op.stringOp .add W ⟨#[32]⟩).run Tryd.prog w = .ok (.string U1) w := fun w => by rw [← hU1]; exact run_string_add_sum _ _ _ (by omega)
  have s1 : U1.size = W.size + 1 := by rw [← hU1, ByteArray.size_append]; omega
  have f2 : ∀ w : World, (Op.stringOp .add U1 (decN a)).run Tryd.prog w = .ok (.string V1) w := fun w => by rw [← hV1, hsp, hU1]; exact run_string_add_sum _ _ _ (by omega)
  have f3 : ∀ w : World, (Op.stringOp .add V1 ⟨#[32]⟩).run Tryd.prog w = .ok (.string U3) w := fun w => by rw [← hU3]; exact run_string_add_sum _ _ _ (by omega)
  have s3 : U3.size = V1.size + 1 := by rw [← hU3, ByteArray.size_append]; omega
  have f4 : ∀ w : World, (Op.stringOp .add U3 (decN b)).run Tryd.prog w = .ok (.string V2) w := fun w => by rw [← hV2, hsp, hU3]; exact run_string_add_sum _ _ _ (by omega)
  obtain ⟨U5, hU5⟩ : ∃ U, V2 ++ ⟨#[32]⟩ = U := ⟨_, rfl⟩
  have f5 : ∀ w : World, (Op.stringOp .add V2 ⟨#[32]⟩).run Tryd.prog w = .ok (.string U5) w := fun w => by rw [← hU5]; exact run_string_add_sum _ _ _ (by omega)
  have s5 : U5.size = V2.size + 1 := by rw [← hU5, ByteArray.size_append]; omega
  have f6 : ∀ w : World, (Op.stringOp .add U5 (decN c)).run Tryd.prog w = .ok (.string (spN V2 c)) w := fun w => by rw [hsp, hU5]; exact run_string_add_sum _ _ _ (by omega)
  generalize spN V2 c = V3 at *
  clear hU5 s5
  clear hU1 hV1 hU3 hV2 hsp s1 s3 la lb lc lw l1 l2 hW ha hb hc a0 a1 b0 b1 c0 c1
  generalize decN a = DA at *
  generalize decN b = DB at *
  generalize decN c = DC at *
  have d3 : decide ((3 : Int) ≤ (j : Int) + 1) = true := decide_eq_true (by omega)
  have hj4 : (j : Int) < 4 := by omega
  have hwj : IntKind.i64.wrap (j : Int) = (j : Int) := IntWalk.i64_in _ (by omega)
  obtain ⟨u, hu0⟩ : ∃ u, u = w.alloc (.cells #[.int .i64 ((j : Nat) + 1 : Int), .int .i64 a, .int .i64 b, .int .i64 c] 25) := ⟨_, rfl⟩
  obtain ⟨bl, z0, z1, z2, z3, zs⟩ := lnk_any w ⟨(j : Nat) + 1, a, b, c⟩ 25
  dsimp only at bl z0 z1 z2 z3
  rw [← hu0] at bl z0 z1 z2 z3 zs
  have HSX : Hid (∀ wx, Below u.heap.size u wx → wx.cell? ⟨w.heap.size, 0, none⟩ = some (.int .i64 ((j : Nat) + 1 : Int)) ∧ wx.cell? ⟨w.heap.size, 1, none⟩ = some (.int .i64 a) ∧ wx.cell? ⟨w.heap.size, 2, none⟩ = some (.int .i64 b) ∧ wx.cell? ⟨w.heap.size, 3, none⟩ = some (.int .i64 c)) := Lib.hid fun wx hx => ⟨(hx.cell (p := ⟨w.heap.size, 0, none⟩) (by show w.heap.size < _; omega)).trans z0, (hx.cell (p := ⟨w.heap.size, 1, none⟩) (by show w.heap.size < _; omega)).trans z1, (hx.cell (p := ⟨w.heap.size, 2, none⟩) (by show w.heap.size < _; omega)).trans z2, (hx.cell (p := ⟨w.heap.size, 3, none⟩) (by show w.heap.size < _; omega)).trans z3⟩
  have HBU := Lib.hid bl
  clear bl zs h12
  go_enter Tryd.func8, Tryd.ntmps8
  go_wp2_with (fail)
  rw [← hu0]
  clear hu0
  refine (R0.out _).mono ?_
  rintro e w' ⟨rfl, rfl⟩
  go_wp2_with (fail)
  refine (R1.out _).mono ?_
  rintro e w' ⟨rfl, rfl⟩
  go_wp2_with (fail)
  refine (R2.out _).mono ?_
  rintro e w' ⟨rfl, rfl⟩
  go_wp2_with (fail)
  refine (R3.out _).mono ?_
  rintro e w' ⟨rfl, rfl⟩
  go_upto_region 3 with (fail)
  go_cut [3] (fun v wx => v = .string V2 ∧ Below u.heap.size u wx)
  case first =>
    clear z0 z1 z2 z3
    have FB_0 := Lib.hid (Below.refl u.heap.size u)
    refine wp_region_held_drew (S := fun wx => wx.cell? ⟨w.heap.size, 0, none⟩ = some (.int .i64 ((j : Nat) + 1 : Int)) ∧ wx.cell? ⟨w.heap.size, 1, none⟩ = some (.int .i64 a) ∧ wx.cell? ⟨w.heap.size, 2, none⟩ = some (.int .i64 b) ∧ wx.cell? ⟨w.heap.size, 3, none⟩ = some (.int .i64 c)) (by kernel_rfl) (HSX.out _ (Below.refl _ _).drew) (fun hHeld => ?_)
    obtain ⟨wq1, hwq1⟩ : ∃ w', w' = u.drew := ⟨_, rfl⟩
    rw [← hwq1] at hHeld ⊢
    have bq1 : Below u.heap.size u wq1 := by rw [hwq1]; exact (Below.refl _ _).drew
    clear hwq1
    have FB_q2 := Lib.hid ((FB_0.out).trans ((bq1).mono (FB_0.out).size))
    clear FB_0
    refine tk (i := 1) (h := ?_)
    (try simp only [Act.put, setIfInBounds_toArray, set_cons_zero, set_cons_succ, getElem_toArray, getElem_cons_succ, getElem_cons_zero])
    refine tk (i := 7) (h := ?_)
    (try simp only [Act.put, setIfInBounds_toArray, set_cons_zero, set_cons_succ, getElem_toArray, getElem_cons_succ, getElem_cons_zero])
    refine tk (i := 12) (h := ?_)
    (try simp only [Act.put, setIfInBounds_toArray, set_cons_zero, set_cons_succ, getElem_toArray, getElem_cons_succ, getElem_cons_zero])
    refine tk (i := 2) (h := ?_)
    (try simp only [Act.put, setIfInBounds_toArray, set_cons_zero, set_cons_succ, getElem_toArray, getElem_cons_succ, getElem_cons_zero])
    refine tk (i := 8) (h := ?_)
    (try simp only [Act.put, setIfInBounds_toArray, set_cons_zero, set_cons_succ, getElem_toArray, getElem_cons_succ, getElem_cons_zero])
    refine tk (i := 13) (h := ?_)
    (try simp only [Act.put, setIfInBounds_toArray, set_cons_zero, set_cons_succ, getElem_toArray, getElem_cons_succ, getElem_cons_zero])
    refine tk (i := 3) (h := ?_)
    (try simp only [Act.put, setIfInBounds_toArray, set_cons_zero, set_cons_succ, getElem_toArray, getElem_cons_succ, getElem_cons_zero])
    refine t1 (i := 0) (h := fun K hK => ?_)
    go_simp
    refine (kinds_any wq1).mono ?_
    rintro e wq10 ⟨rfl, hwq10⟩
    dsimp only
    have KCq10 := Lib.hid (HKC.out _ _ hwq10)
    have bq10 := al hwq10
    have glq10 : wq1.heap.size < wq10.heap.size := by rw [hwq10]; simp
    have FB_q11 := Lib.hid ((FB_q2.out).trans ((bq10).mono (FB_q2.out).size))
    clear FB_q2
    obtain ⟨gkq12, hgkq12⟩ : ∃ g, wq1.heap.size = g := ⟨_, rfl⟩
    rw [hgkq12] at KCq10 glq10 ⊢
    clear hgkq12 hwq10 bq10
    have FK_q12 := Lib.hid (And.intro KCq10.out glq10)
    clear KCq10 glq10
    refine hK.out _ _ (HSX.out _ FB_q11.out) (fun hHeld => ?_)
    clear hK K
    (try simp only [Act.put, setIfInBounds_toArray, set_cons_zero, set_cons_succ, getElem_toArray, getElem_cons_succ, getElem_cons_zero])
    refine tk (i := 4) (h := ?_)
    (try simp only [Act.put, setIfInBounds_toArray, set_cons_zero, set_cons_succ, getElem_toArray, getElem_cons_succ, getElem_cons_zero])
    refine wpAnyH_ready (rs := [5, 9]) (by kernel_rfl) (by simp) ?_
    refine AllReadyH.cons rfl (fun K hK => ?_) ?_
    · have kc := FK_q12.out.1
      go_simp
      clear kc
      refine hK.out _ _ (hHeld) (fun hHeld => ?_)
      clear hK K
      (try simp only [Act.put, setIfInBounds_toArray, set_cons_zero, set_cons_succ, getElem_toArray, getElem_cons_succ, getElem_cons_zero])
      refine tk (i := 6) (h := ?_)
      (try simp only [Act.put, setIfInBounds_toArray, set_cons_zero, set_cons_succ, getElem_toArray, getElem_cons_succ, getElem_cons_zero])
      refine t1 (i := 9) (h := fun K hK => ?_)
      go_simp
      refine (HDA.out wq10).mono ?_
      rintro e wq15 ⟨rfl, belq15⟩
      dsimp only
      have FB_q16 := Lib.hid ((FB_q11.out).trans ((belq15).mono (FB_q11.out).size))
      have FK_q17 := Lib.hid (And.intro (((belq15).cell (p := ⟨gkq12, j, none⟩) (FK_q12.out).2).trans (FK_q12.out).1) (Nat.lt_of_lt_of_le (FK_q12.out).2 (belq15).size))
      clear FB_q11 FK_q12
      clear belq15
      refine hK.out _ _ (HSX.out _ FB_q16.out) (fun hHeld => ?_)
      clear hK K
      (try simp only [Act.put, setIfInBounds_toArray, set_cons_zero, set_cons_succ, getElem_toArray, getElem_cons_succ, getElem_cons_zero])
      refine tk (i := 10) (h := ?_)
      (try simp only [Act.put, setIfInBounds_toArray, set_cons_zero, set_cons_succ, getElem_toArray, getElem_cons_succ, getElem_cons_zero])
      refine tk (i := 11) (h := ?_)
      (try simp only [Act.put, setIfInBounds_toArray, set_cons_zero, set_cons_succ, getElem_toArray, getElem_cons_succ, getElem_cons_zero])
      refine t1 (i := 14) (h := fun K hK => ?_)
      go_simp
      refine (HDB.out wq15).mono ?_
      rintro e wq20 ⟨rfl, belq20⟩
      dsimp only
      have FB_q21 := Lib.hid ((FB_q16.out).trans ((belq20).mono (FB_q16.out).size))
      have FK_q22 := Lib.hid (And.intro (((belq20).cell (p := ⟨gkq12, j, none⟩) (FK_q17.out).2).trans (FK_q17.out).1) (Nat.lt_of_lt_of_le (FK_q17.out).2 (belq20).size))
      clear FB_q16 FK_q17
      clear belq20
      refine hK.out _ _ (HSX.out _ FB_q21.out) (fun hHeld => ?_)
      clear hK K
      (try simp only [Act.put, setIfInBounds_toArray, set_cons_zero, set_cons_succ, getElem_toArray, getElem_cons_succ, getElem_cons_zero])
      refine tk (i := 15) (h := ?_)
      (try simp only [Act.put, setIfInBounds_toArray, set_cons_zero, set_cons_succ, getElem_toArray, getElem_cons_succ, getElem_cons_zero])
      refine t1 (i := 16) (h := fun K hK => ?_)
      go_simp
      refine hK.out _ _ hHeld (fun hHeld => ?_)
      clear hK K
      (try simp only [Act.put, setIfInBounds_toArray, set_cons_zero, set_cons_succ, getElem_toArray, getElem_cons_succ, getElem_cons_zero])
      refine wpAnyH_done (by kernel_rfl) ?_ _
      have HBX := FB_q21.out
      go_wp2_with (fail)
      go_meet
      exact ⟨rfl, HBX⟩
    refine AllReadyH.cons rfl (fun K hK => ?_) ?_
    · go_simp
      refine (HDA.out wq10).mono ?_
      rintro e wq24 ⟨rfl, belq24⟩
      dsimp only
      have FB_q25 := Lib.hid ((FB_q11.out).trans ((belq24).mono (FB_q11.out).size))
      have FK_q26 := Lib.hid (And.intro (((belq24).cell (p := ⟨gkq12, j, none⟩) (FK_q12.out).2).trans (FK_q12.out).1) (Nat.lt_of_lt_of_le (FK_q12.out).2 (belq24).size))
      clear FB_q11 FK_q12
      clear belq24
      refine hK.out _ _ (HSX.out _ FB_q25.out) (fun hHeld => ?_)
      clear hK K
      (try simp only [Act.put, setIfInBounds_toArray, set_cons_zero, set_cons_succ, getElem_toArray, getElem_cons_succ, getElem_cons_zero])
      refine wpAnyH_ready (rs := [5, 14]) (by kernel_rfl) (by simp) ?_
      refine AllReadyH.cons rfl (fun K hK => ?_) ?_
      · have kc := FK_q26.out.1
        go_simp
        clear kc
        refine hK.out _ _ (hHeld) (fun hHeld => ?_)
        clear hK K
        (try simp only [Act.put, setIfInBounds_toArray, set_cons_zero, set_cons_succ, getElem_toArray, getElem_cons_succ, getElem_cons_zero])
        refine tk (i := 6) (h := ?_)
        (try simp only [Act.put, setIfInBounds_toArray, set_cons_zero, set_cons_succ, getElem_toArray, getElem_cons_succ, getElem_cons_zero])
        refine tk (i := 10) (h := ?_)
        (try simp only [Act.put, setIfInBounds_toArray, set_cons_zero, set_cons_succ, getElem_toArray, getElem_cons_succ, getElem_cons_zero])
        refine tk (i := 11) (h := ?_)
        (try simp only [Act.put, setIfInBounds_toArray, set_cons_zero, set_cons_succ, getElem_toArray, getElem_cons_succ, getElem_cons_zero])
        refine t1 (i := 14) (h := fun K hK => ?_)
        go_simp
        refine (HDB.out wq24).mono ?_
        rintro e wq30 ⟨rfl, belq30⟩
        dsimp only
        have FB_q31 := Lib.hid ((FB_q25.out).trans ((belq30).mono (FB_q25.out).size))
        have FK_q32 := Lib.hid (And.intro (((belq30).cell (p := ⟨gkq12, j, none⟩) (FK_q26.out).2).trans (FK_q26.out).1) (Nat.lt_of_lt_of_le (FK_q26.out).2 (belq30).size))
        clear FB_q25 FK_q26
        clear belq30
        refine hK.out _ _ (HSX.out _ FB_q31.out) (fun hHeld => ?_)
        clear hK K
        (try simp only [Act.put, setIfInBounds_toArray, set_cons_zero, set_cons_succ, getElem_toArray, getElem_cons_succ, getElem_cons_zero])
        refine tk (i := 15) (h := ?_)
        (try simp only [Act.put, setIfInBounds_toArray, set_cons_zero, set_cons_succ, getElem_toArray, getElem_cons_succ, getElem_cons_zero])
        refine t1 (i := 16) (h := fun K hK => ?_)
        go_simp
        refine hK.out _ _ hHeld (fun hHeld => ?_)
        clear hK K
        (try simp only [Act.put, setIfInBounds_toArray, set_cons_zero, set_cons_succ, getElem_toArray, getElem_cons_succ, getElem_cons_zero])
        refine wpAnyH_done (by kernel_rfl) ?_ _
        have HBX := FB_q31.out
        go_wp2_with (fail)
        go_meet
        exact ⟨rfl, HBX⟩
      refine AllReadyH.cons rfl (fun K hK => ?_) ?_
      · go_simp
        refine (HDB.out wq24).mono ?_
        rintro e wq34 ⟨rfl, belq34⟩
        dsimp only
        have FB_q35 := Lib.hid ((FB_q25.out).trans ((belq34).mono (FB_q25.out).size))
        have FK_q36 := Lib.hid (And.intro (((belq34).cell (p := ⟨gkq12, j, none⟩) (FK_q26.out).2).trans (FK_q26.out).1) (Nat.lt_of_lt_of_le (FK_q26.out).2 (belq34).size))
        clear FB_q25 FK_q26
        clear belq34
        refine hK.out _ _ (HSX.out _ FB_q35.out) (fun hHeld => ?_)
        clear hK K
        (try simp only [Act.put, setIfInBounds_toArray, set_cons_zero, set_cons_succ, getElem_toArray, getElem_cons_succ, getElem_cons_zero])
        refine t1 (i := 5) (h := fun K hK => ?_)
        have kc := FK_q36.out.1
        go_simp
        clear kc
        refine hK.out _ _ (hHeld) (fun hHeld => ?_)
        clear hK K
        (try simp only [Act.put, setIfInBounds_toArray, set_cons_zero, set_cons_succ, getElem_toArray, getElem_cons_succ, getElem_cons_zero])
        refine tk (i := 6) (h := ?_)
        (try simp only [Act.put, setIfInBounds_toArray, set_cons_zero, set_cons_succ, getElem_toArray, getElem_cons_succ, getElem_cons_zero])
        refine tk (i := 10) (h := ?_)
        (try simp only [Act.put, setIfInBounds_toArray, set_cons_zero, set_cons_succ, getElem_toArray, getElem_cons_succ, getElem_cons_zero])
        refine tk (i := 11) (h := ?_)
        (try simp only [Act.put, setIfInBounds_toArray, set_cons_zero, set_cons_succ, getElem_toArray, getElem_cons_succ, getElem_cons_zero])
        refine tk (i := 15) (h := ?_)
        (try simp only [Act.put, setIfInBounds_toArray, set_cons_zero, set_cons_succ, getElem_toArray, getElem_cons_succ, getElem_cons_zero])
        refine t1 (i := 16) (h := fun K hK => ?_)
        go_simp
        refine hK.out _ _ hHeld (fun hHeld => ?_)
        clear hK K
        (try simp only [Act.put, setIfInBounds_toArray, set_cons_zero, set_cons_succ, getElem_toArray, getElem_cons_succ, getElem_cons_zero])
        refine wpAnyH_done (by kernel_rfl) ?_ _
        have HBX := FB_q35.out
        go_wp2_with (fail)
        go_meet
        exact ⟨rfl, HBX⟩
      exact AllReadyH.nil
    exact AllReadyH.nil
  case rest =>
    obtain ⟨rfl, hB⟩ := hcut
    have B2 := Lib.hid hB
    clear hB z0 z1 z2 z3
    obtain ⟨z0, z1, z2, z3⟩ := HSX.out _ B2.out
    go_wp2_with (fail)
    refine (HDC.out _).mono ?_
    rintro e w3 ⟨rfl, bel⟩
    have B3 := Lib.hid (HBU.out.trans ((B2.out.trans (bel.mono B2.out.size)).mono HBU.out.size))
    clear bel z0 z1 z2 z3
    go_wp2
    go_ret
    exact ⟨rfl, B3.out⟩
theorem sLinkText_any (k a b c : Int) (w : World) :
    Calls Tryd.prog 8 #[.agg #[.int .i64 k, .int .i64 a, .int .i64 b, .int .i64 c]] w fun e w' => e = .returned (.string (ltT k a b c)) ∧ Below w.heap.size w w' := by
  cases hk : decide (1 ≤ k ∧ k ≤ 4) with
  | false => rw [ltT_no (by unfold okL; rw [hk]; rfl)]; exact slt_n0 w k a b c hk
  | true =>
    cases ha : inM a with
    | false => rw [ltT_no (by unfold okL; rw [hk, ha]; rfl)]; exact slt_n1 w k a b c hk ha
    | true =>
      cases hb : inM b with
      | false => rw [ltT_no (by unfold okL; rw [hk, ha, hb]; rfl)]; exact slt_n2 w k a b c hk ha hb
      | true =>
        cases hc : inM c with
        | false => rw [ltT_no (by unfold okL; rw [hk, ha, hb, hc]; rfl)]; exact slt_n3 w k a b c hk ha hb hc
        | true =>
          have h14 := of_decide_eq_true hk
          obtain ⟨j, rfl⟩ : ∃ j : Nat, k = (j : Int) + 1 := ⟨(k - 1).toNat, by omega⟩
          have et : ((j : Int) + 1).toNat = j + 1 := by omega
          by_cases h12 : j < 2
          · by_cases hc0 : c = 0
            · have ok : okL ((j : Int) + 1) a b c = true := by unfold okL; rw [hk, ha, hb, hc, decide_eq_true (fun _ => hc0)]; rfl
              rw [ltT_two ok (by omega), et]
              exact slt_two w j a b c (by omega) ha hb hc h12 hc0
            · have ok : okL ((j : Int) + 1) a b c = false := by unfold okL; rw [decide_eq_false (p := (j : Int) + 1 = 1 ∨ (j : Int) + 1 = 2 → c = 0) (fun h => hc0 (h (by omega)))]; simp
              rw [ltT_no ok]
              exact slt_twoc w j a b c (by omega) ha hb hc h12 hc0
          · have ok : okL ((j : Int) + 1) a b c = true := by unfold okL; rw [hk, ha, hb, hc, decide_eq_true (p := (j : Int) + 1 = 1 ∨ (j : Int) + 1 = 2 → c = 0) (fun h => absurd h (by omega))]; rfl
            rw [ltT_three ok (by omega), et]
            exact slt_three w j a b c (by omega) ha hb hc h12
end Go.Proofs.YtagjlilbcldfaaaDoor
