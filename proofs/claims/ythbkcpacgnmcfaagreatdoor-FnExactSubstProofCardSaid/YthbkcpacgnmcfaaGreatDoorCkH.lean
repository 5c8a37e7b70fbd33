/- The program's rules with two premises (tensor). Made by mkckb.py. -/
import Derived.Test.YthbkcpacgnmcfaaGreatDoorQCkF
import Derived.Test.YthbkcpacgnmcfaaGreatDoorQJoinS
import Derived.Test.YthbkcpacgnmcfaaGreatDoorQClone
import Derived.Test.YthbkcpacgnmcfaaGreatDoorQSubA
namespace Go.Proofs.YthbkcpacgnmcfaaGreatDoor
set_option linter.unusedSimpArgs false
set_option linter.unusedVariables false
open Go.ChangeAt Go.ChangeShapes Go.RowKit Go.WideShapes
open List (setIfInBounds_toArray set_cons_zero set_cons_succ getElem_toArray getElem_cons_succ getElem_cons_zero)

set_option linter.unusedSimpArgs false in
set_option maxRecDepth 100000 in
set_option maxHeartbeats 8000000 in
theorem tensor_any (x y z : Bool) (r a b : Int) (ii jj : Nat) (A : Option Addr) (n c : Nat) (P : List (List Int)) (A2 : Option Addr) (n2 c2 : Nat) (Q : List (List Int)) (B : Option Addr) (m d : Nat) (w : World) (h : RdQ w w.heap.size A n P) (h2 : RdQ w w.heap.size A2 n2 Q) (hn : n ≤ 10) (hn2 : n2 ≤ 10) (hq : ∀ q ∈ P, 0 < q.length ∧ q.length ≤ 24) (hq2 : ∀ q ∈ Q, 0 < q.length ∧ q.length ≤ 24) (hii : ii < n) (hjj : jj < n2) :
    Calls Tryz.prog 108 #[.agg #[.bool x, .bool y, .bool z], .slice A n c, .slice A2 n2 c2, Value.agg #[Value.int .i64 r, Value.int .i64 a, Value.int .i64 b, Value.int .i64 ((ii : Nat) : Int), Value.int .i64 ((jj : Nat) : Int), Value.slice B m d]] w (GivesD w (some ((woL P [((ii : Nat) : Int)] ++ woL Q [((jj : Nat) : Int)]) ++ [(11 :: (P.getD ii [] ++ Q.getD jj []))]))) := by
  obtain ⟨i0, hi0, hz0, hz1, hz2⟩ := info_parts_s
  have HI := Lib.hid hi0; have HZ0 := Lib.hid hz0; have HZ1 := Lib.hid hz1; have HZ2 := Lib.hid hz2
  have hl := h.len
  subst hl
  have hl2 := h2.len
  subst hl2
  obtain ⟨u, hu0⟩ : ∃ u, u = (w.alloc (.cells #[Value.bool x, Value.bool y, Value.bool z] 94)).alloc (.cells #[Value.int .i64 r, Value.int .i64 a, Value.int .i64 b, Value.int .i64 ((ii : Nat) : Int), Value.int .i64 ((jj : Nat) : Int), Value.slice B m d] 43) := ⟨_, rfl⟩
  obtain ⟨hb, p0, p1, hsz⟩ := two_any w (.cells #[Value.bool x, Value.bool y, Value.bool z] 94) (.cells #[Value.int .i64 r, Value.int .i64 a, Value.int .i64 b, Value.int .i64 ((ii : Nat) : Int), Value.int .i64 ((jj : Nat) : Int), Value.slice B m d] 43)
  rw [← hu0] at hb p0 p1 hsz
  have HU0 := Lib.hid hu0; have HBU := Lib.hid hb; have HP1 := Lib.hid p1; have HP := Lib.hid ((h.below hb).more hb.size); have HQ := Lib.hid ((h2.below hb).more hb.size)
  obtain ⟨bp, op, rfl, hbp, hcp⟩ := h.2 (by omega)
  obtain ⟨bq, oq, rfl, hbq, hcq⟩ := h2.2 (by omega)
  obtain ⟨AI, cI, kI, mI, rI⟩ := hcp ii (by omega)
  obtain ⟨AJ, cJ, kJ, mJ, rJ⟩ := hcq jj (by omega)
  have HRI := Lib.hid ((rI.below hb).more hb.size); have HRJ := Lib.hid ((rJ.below hb).more hb.size)
  have hlI : 0 < (P.getD ii []).length ∧ (P.getD ii []).length ≤ 24 := hq _ (getD_mem (by omega))
  have hlJ : 0 < (Q.getD jj []).length ∧ (Q.getD jj []).length ≤ 24 := hq2 _ (getD_mem (by omega))
  have HSX : Hid (∀ wx, Below u.heap.size u wx → wx.cell? ⟨w.heap.size + 1, 3, none⟩ = some (.int .i64 ((ii : Nat) : Int)) ∧ wx.cell? ⟨w.heap.size + 1, 4, none⟩ = some (.int .i64 ((jj : Nat) : Int)) ∧ wx.cell? ⟨bp, op + ii, none⟩ = some (.slice AI (P.getD ii []).length cI) ∧ wx.cell? ⟨bq, oq + jj, none⟩ = some (.slice AJ (Q.getD jj []).length cJ)) := Lib.hid fun wx hx => by
    have q := (hx.block (w.heap.size + 1) (by omega)).trans p1
    exact ⟨cell_of_row _ _ 3 _ _ (0, 0) q, cell_of_row _ _ 4 _ _ (0, 0) q, ((hb.trans (hx.mono hb.size)).cell (p := ⟨bp, op + ii, none⟩) hbp).trans kI, ((hb.trans (hx.mono hb.size)).cell (p := ⟨bq, oq + jj, none⟩) hbq).trans kJ⟩
  have K0 := Lib.hid (HSX.out u (Below.refl _ _))
  have hwo1 := fun (wx : World) (g : Nat) (hx : Below u.heap.size u wx) (hg : wx.heap[g]? = some (.cells #[Value.int .i64 ((ii : Nat) : Int)] 2 (0, 0))) => without_any (some ⟨bp, op, none⟩) P.length c P (some ⟨g, 0, none⟩) 1 1 [((ii : Nat) : Int)] wx ((HP.out.below hx).more hx.size) (rd_lit hg) (by omega) (by omega)
  obtain ⟨R1, hR1⟩ : ∃ R, woL P [((ii : Nat) : Int)] = R := ⟨_, rfl⟩
  have hR19 : R1.length ≤ 10 := by rw [← hR1]; exact Nat.le_trans (woK_len _ _ _) hn
  rw [hR1] at hwo1 ⊢
  have HWO1 := Lib.hid hwo1; have HR19 := Lib.hid hR19
  have hwo2 := fun (wx : World) (g : Nat) (hx : Below u.heap.size u wx) (hg : wx.heap[g]? = some (.cells #[Value.int .i64 ((jj : Nat) : Int)] 2 (0, 0))) => without_any (some ⟨bq, oq, none⟩) Q.length c2 Q (some ⟨g, 0, none⟩) 1 1 [((jj : Nat) : Int)] wx ((HQ.out.below hx).more hx.size) (rd_lit hg) (by omega) (by omega)
  obtain ⟨R2, hR2⟩ : ∃ R, woL Q [((jj : Nat) : Int)] = R := ⟨_, rfl⟩
  have hR29 : R2.length ≤ 10 := by rw [← hR2]; exact Nat.le_trans (woK_len _ _ _) hn2
  rw [hR2] at hwo2 ⊢
  have HWO2 := Lib.hid hwo2; have HR29 := Lib.hid hR29
  have hfo := fun (wx : World) (g : Nat) (hx : Below u.heap.size u wx) (hg : wx.heap[g]? = some (.cells #[.slice AI (P.getD ii []).length cI, .slice AJ (Q.getD jj []).length cJ] 36 (0, 0))) => formOf2_any 11 g AI AJ cI cJ (P.getD ii []) (Q.getD jj []) wx hg ((HRI.out.below hx).more hx.size) ((HRJ.out.below hx).more hx.size) (by omega) (by omega)
  obtain ⟨X, hX⟩ : ∃ X, (11 :: (P.getD ii [] ++ Q.getD jj [])) = X := ⟨_, rfl⟩
  rw [hX] at hfo ⊢
  have HFO := Lib.hid hfo
  have hai : ((ii : Nat) : Int) < (P.length : Int) := by omega
  have haj : ((jj : Nat) : Int) < (Q.length : Int) := by omega
  clear hu0 hb p0 p1 hwo1 hwo2 hR1 hR2 hR19 hR29 h h2 hcp hcq hi0 hz0 hz1 hz2 kI kJ rI rJ hq hq2 hfo hX hlI hlJ mI mJ
  generalize (P.getD ii []).length = NI at *
  generalize (Q.getD jj []).length = NJ at *
  go_enter Tryz.func108, Tryz.ntmps108
  go_upto_region 1 with (fail)
  rw [← HU0.out]
  have FB_0 := Lib.hid (Below.refl u.heap.size u)
  refine wp_region_held_drew (S := fun wx => wx.cell? ⟨w.heap.size + 1, 3, none⟩ = some (.int .i64 ((ii : Nat) : Int)) ∧ wx.cell? ⟨w.heap.size + 1, 4, none⟩ = some (.int .i64 ((jj : Nat) : Int)) ∧ wx.cell? ⟨bp, op + ii, none⟩ = some (.slice AI NI cI) ∧ wx.cell? ⟨bq, oq + jj, none⟩ = some (.slice AJ NJ cJ)) (by kernel_rfl) K0.out (fun hHeld => ?_)
  obtain ⟨wq1, hwq1⟩ : ∃ w', w' = u.drew := ⟨_, rfl⟩
  rw [← hwq1] at hHeld ⊢
  have bq1 : Below u.heap.size u wq1 := by rw [hwq1]; exact (Below.refl _ _).drew
  clear hwq1
  have FB_q2 := Lib.hid ((FB_0.out).trans ((bq1).mono (FB_0.out).size))
  clear FB_0
  refine tk (i := 0) (h := ?_)
  (try simp only [Act.put, setIfInBounds_toArray, set_cons_zero, set_cons_succ])
  refine tk (i := 1) (h := ?_)
  (try simp only [Act.put, setIfInBounds_toArray, set_cons_zero, set_cons_succ])
  refine tk (i := 5) (h := ?_)
  (try simp only [Act.put, setIfInBounds_toArray, set_cons_zero, set_cons_succ])
  refine tk (i := 6) (h := ?_)
  (try simp only [Act.put, setIfInBounds_toArray, set_cons_zero, set_cons_succ])
  refine tk (i := 2) (h := ?_)
  (try simp only [Act.put, setIfInBounds_toArray, set_cons_zero, set_cons_succ])
  refine tk (i := 7) (h := ?_)
  (try simp only [Act.put, setIfInBounds_toArray, set_cons_zero, set_cons_succ])
  refine wpAnyH_ready (rs := [3, 8]) (by kernel_rfl) (by simp) ?_
  refine AllReadyH.cons rfl (fun K hK => ?_) ?_
  · go_simp
    obtain ⟨wq9, hwq9⟩ : ∃ w', w' = wq1.alloc (.cells #[Value.int .i64 ((ii : Nat) : Int)] 2) := ⟨_, rfl⟩
    rw [← hwq9]
    have bq9 := al hwq9
    have gq9 := an hwq9
    clear hwq9
    have FB_q10 := Lib.hid ((FB_q2.out).trans ((bq9).mono (FB_q2.out).size))
    clear FB_q2
    obtain ⟨glq11, hgq11⟩ : ∃ b, wq1.heap.size = b := ⟨_, rfl⟩
    have FL_q11 := Lib.hid gq9
    rw [hgq11] at FL_q11 ⊢
    clear hgq11 gq9 bq9
    refine hK.out _ _ (HSX.out _ FB_q10.out) (fun hHeld => ?_)
    clear hK K
    (try simp only [Act.put, setIfInBounds_toArray, set_cons_zero, set_cons_succ])
    refine wpAnyH_ready (rs := [4, 8]) (by kernel_rfl) (by simp) ?_
    refine AllReadyH.cons rfl (fun K hK => ?_) ?_
    · go_simp
      have KB1q12 := Lib.hid FB_q10.out
      refine (HWO1.out wq9 glq11 FB_q10.out FL_q11.out).mono ?_
      rintro e wq12 ⟨A14, c14, vs14, rfl, oq12, rq12, belq12⟩
      dsimp only
      have FB_q13 := Lib.hid ((FB_q10.out).trans ((belq12).mono (FB_q10.out).size))
      have FL_q14 := Lib.hid (((belq12).block _ (Array.getElem?_eq_some_iff.1 (FL_q11.out)).1).trans (FL_q11.out))
      clear FB_q10 FL_q11
      have FQ1_q12 := Lib.hid belq12; have FO1_q12 := Lib.hid oq12; have KR1q12 := Lib.hid rq12
      clear oq12 rq12 belq12
      refine hK.out _ _ (HSX.out _ FB_q13.out) (fun hHeld => ?_)
      clear hK K
      (try simp only [Act.put, setIfInBounds_toArray, set_cons_zero, set_cons_succ])
      refine t1 (i := 8) (h := fun K hK => ?_)
      go_simp
      obtain ⟨wq15, hwq15⟩ : ∃ w', w' = wq12.alloc (.cells #[Value.int .i64 ((jj : Nat) : Int)] 2) := ⟨_, rfl⟩
      rw [← hwq15]
      have bq15 := al hwq15
      have gq15 := an hwq15
      clear hwq15
      have FB_q16 := Lib.hid ((FB_q13.out).trans ((bq15).mono (FB_q13.out).size))
      have FL_q17 := Lib.hid (((bq15).block _ (Array.getElem?_eq_some_iff.1 (FL_q14.out)).1).trans (FL_q14.out))
      have FQ1_q18 := Lib.hid ((FQ1_q12.out).trans ((bq15).mono (FQ1_q12.out).size))
      have FO1_q19 := Lib.hid (own_below (FO1_q12.out) (bq15) (Nat.le_refl _))
      clear FB_q13 FL_q14 FQ1_q12 FO1_q12
      obtain ⟨gkq20, hgq20⟩ : ∃ b, wq12.heap.size = b := ⟨_, rfl⟩
      have FK_q20 := Lib.hid gq15
      rw [hgq20] at FK_q20 ⊢
      clear hgq20 gq15 bq15
      refine hK.out _ _ (HSX.out _ FB_q16.out) (fun hHeld => ?_)
      clear hK K
      (try simp only [Act.put, setIfInBounds_toArray, set_cons_zero, set_cons_succ])
      refine t1 (i := 9) (h := fun K hK => ?_)
      go_simp
      have KB2q21 := Lib.hid FB_q16.out
      refine (HWO2.out wq15 gkq20 FB_q16.out FK_q20.out).mono ?_
      rintro e wq21 ⟨A24, c24, vs24, rfl, oq21, rq21, belq21⟩
      dsimp only
      have FB_q22 := Lib.hid ((FB_q16.out).trans ((belq21).mono (FB_q16.out).size))
      have FL_q23 := Lib.hid (((belq21).block _ (Array.getElem?_eq_some_iff.1 (FL_q17.out)).1).trans (FL_q17.out))
      have FQ1_q24 := Lib.hid ((FQ1_q18.out).trans ((belq21).mono (FQ1_q18.out).size))
      have FO1_q25 := Lib.hid (own_below (FO1_q19.out) (belq21) (Nat.le_refl _))
      have FK_q26 := Lib.hid (((belq21).block _ (Array.getElem?_eq_some_iff.1 (FK_q20.out)).1).trans (FK_q20.out))
      clear FB_q16 FL_q17 FQ1_q18 FO1_q19 FK_q20
      have FQ2_q21 := Lib.hid belq21; have FO2_q21 := Lib.hid oq21; have KR2q21 := Lib.hid rq21
      clear oq21 rq21 belq21
      refine hK.out _ _ (HSX.out _ FB_q22.out) (fun hHeld => ?_)
      clear hK K
      (try simp only [Act.put, setIfInBounds_toArray, set_cons_zero, set_cons_succ])
      refine t1 (i := 10) (h := fun K hK => ?_)
      go_simp
      obtain ⟨wq27, hwq27⟩ : ∃ w', w' = wq21.alloc (.cells #[Value.slice A14 R1.length c14, Value.slice A24 R2.length c24] 23) := ⟨_, rfl⟩
      rw [← hwq27]
      have bq27 := al hwq27
      have gq27 := an hwq27
      clear hwq27
      have FB_q28 := Lib.hid ((FB_q22.out).trans ((bq27).mono (FB_q22.out).size))
      have FL_q29 := Lib.hid (((bq27).block _ (Array.getElem?_eq_some_iff.1 (FL_q23.out)).1).trans (FL_q23.out))
      have FQ1_q30 := Lib.hid ((FQ1_q24.out).trans ((bq27).mono (FQ1_q24.out).size))
      have FO1_q31 := Lib.hid (own_below (FO1_q25.out) (bq27) (Nat.le_refl _))
      have FK_q32 := Lib.hid (((bq27).block _ (Array.getElem?_eq_some_iff.1 (FK_q26.out)).1).trans (FK_q26.out))
      have FQ2_q33 := Lib.hid ((FQ2_q21.out).trans ((bq27).mono (FQ2_q21.out).size))
      have FO2_q34 := Lib.hid (own_below (FO2_q21.out) (bq27) (Nat.le_refl _))
      clear FB_q22 FL_q23 FQ1_q24 FO1_q25 FK_q26 FQ2_q21 FO2_q21
      obtain ⟨gfq35, hgq35⟩ : ∃ b, wq21.heap.size = b := ⟨_, rfl⟩
      have FF_q35 := Lib.hid gq27
      rw [hgq35] at FF_q35 ⊢
      clear hgq35 gq27 bq27
      refine hK.out _ _ (HSX.out _ FB_q28.out) (fun hHeld => ?_)
      clear hK K
      (try simp only [Act.put, setIfInBounds_toArray, set_cons_zero, set_cons_succ])
      refine t1 (i := 11) (h := fun K hK => ?_)
      go_simp
      have KBq36 := Lib.hid FB_q28.out
      have KRZq36 := Lib.hid (RdV.app (RdV.below KR1q12.out FQ1_q30.out) (RdV.below KR2q21.out FQ2_q33.out))
      refine (concatQ_any gfq35 2 A14 A24 R1.length R2.length c14 c24 _ _ vs14 vs24 wq27 FF_q35.out FO1_q31.out FO2_q34.out KR1q12.out.one KR2q21.out.one (by have := HR19.out; omega) (by have := HR29.out; omega)).mono ?_
      rintro e wq36 ⟨A4, c4, rfl, oq36, belq36⟩
      dsimp only
      have FB_q37 := Lib.hid ((FB_q28.out).trans ((belq36).mono (FB_q28.out).size))
      have FL_q38 := Lib.hid (((belq36).block _ (Array.getElem?_eq_some_iff.1 (FL_q29.out)).1).trans (FL_q29.out))
      have FQ1_q39 := Lib.hid ((FQ1_q30.out).trans ((belq36).mono (FQ1_q30.out).size))
      have FO1_q40 := Lib.hid (own_below (FO1_q31.out) (belq36) (Nat.le_refl _))
      have FK_q41 := Lib.hid (((belq36).block _ (Array.getElem?_eq_some_iff.1 (FK_q32.out)).1).trans (FK_q32.out))
      have FQ2_q42 := Lib.hid ((FQ2_q33.out).trans ((belq36).mono (FQ2_q33.out).size))
      have FO2_q43 := Lib.hid (own_below (FO2_q34.out) (belq36) (Nat.le_refl _))
      have FF_q44 := Lib.hid (((belq36).block _ (Array.getElem?_eq_some_iff.1 (FF_q35.out)).1).trans (FF_q35.out))
      clear FB_q28 FL_q29 FQ1_q30 FO1_q31 FK_q32 FQ2_q33 FO2_q34 FF_q35
      have FQ_q36 := Lib.hid belq36; have FO_q36 := Lib.hid oq36
      clear oq36 belq36
      refine hK.out _ _ (HSX.out _ FB_q37.out) (fun hHeld => ?_)
      clear hK K
      (try simp only [Act.put, setIfInBounds_toArray, set_cons_zero, set_cons_succ])
      refine t1 (i := 12) (h := fun K hK => ?_)
      go_simp
      refine hK.out _ _ hHeld (fun hHeld => ?_)
      clear hK K
      (try simp only [Act.put, setIfInBounds_toArray, set_cons_zero, set_cons_succ])
      refine wpAnyH_done (by kernel_rfl) ?_ _
      go_upto_region 2 with (fail)
      refine wp_region_held_drew (S := fun wx => wx.cell? ⟨w.heap.size + 1, 3, none⟩ = some (.int .i64 ((ii : Nat) : Int)) ∧ wx.cell? ⟨w.heap.size + 1, 4, none⟩ = some (.int .i64 ((jj : Nat) : Int)) ∧ wx.cell? ⟨bp, op + ii, none⟩ = some (.slice AI NI cI) ∧ wx.cell? ⟨bq, oq + jj, none⟩ = some (.slice AJ NJ cJ)) (by kernel_rfl) (HSX.out wq36 FB_q37.out) (fun hHeld => ?_)
      obtain ⟨wsq451, hwsq451⟩ : ∃ w', w' = wq36.drew := ⟨_, rfl⟩
      rw [← hwsq451] at hHeld ⊢
      have bsq451 : Below wq36.heap.size wq36 wsq451 := by rw [hwsq451]; exact (Below.refl _ _).drew
      clear hwsq451
      have FB_sq452 := Lib.hid ((FB_q37.out).trans ((bsq451).mono (FB_q37.out).size))
      have FQ_sq453 := Lib.hid ((FQ_q36.out).trans ((bsq451).mono (FQ_q36.out).size))
      have FO_sq454 := Lib.hid (own_below (FO_q36.out) (bsq451) (Nat.le_refl _))
      clear FB_q37 FQ_q36 FO_q36
      refine tk (i := 0) (h := ?_)
      (try simp only [Act.put, setIfInBounds_toArray, set_cons_zero, set_cons_succ])
      refine tk (i := 1) (h := ?_)
      (try simp only [Act.put, setIfInBounds_toArray, set_cons_zero, set_cons_succ])
      refine tk (i := 2) (h := ?_)
      (try simp only [Act.put, setIfInBounds_toArray, set_cons_zero, set_cons_succ])
      refine tk (i := 6) (h := ?_)
      (try simp only [Act.put, setIfInBounds_toArray, set_cons_zero, set_cons_succ])
      refine tk (i := 7) (h := ?_)
      (try simp only [Act.put, setIfInBounds_toArray, set_cons_zero, set_cons_succ])
      refine tk (i := 3) (h := ?_)
      (try simp only [Act.put, setIfInBounds_toArray, set_cons_zero, set_cons_succ])
      refine tk (i := 8) (h := ?_)
      (try simp only [Act.put, setIfInBounds_toArray, set_cons_zero, set_cons_succ])
      refine tk (i := 4) (h := ?_)
      (try simp only [Act.put, setIfInBounds_toArray, set_cons_zero, set_cons_succ])
      refine tk (i := 9) (h := ?_)
      (try simp only [Act.put, setIfInBounds_toArray, set_cons_zero, set_cons_succ])
      refine tk (i := 5) (h := ?_)
      (try simp only [Act.put, setIfInBounds_toArray, set_cons_zero, set_cons_succ])
      refine tk (i := 10) (h := ?_)
      (try simp only [Act.put, setIfInBounds_toArray, set_cons_zero, set_cons_succ])
      refine t1 (i := 11) (h := fun K hK => ?_)
      go_simp
      obtain ⟨wsq4516, hwsq4516⟩ : ∃ w', w' = wsq451.alloc (.cells #[Value.slice AI NI cI, Value.slice AJ NJ cJ] 36) := ⟨_, rfl⟩
      rw [← hwsq4516]
      have bsq4516 := al hwsq4516
      have gsq4516 := an hwsq4516
      clear hwsq4516
      have FB_sq4517 := Lib.hid ((FB_sq452.out).trans ((bsq4516).mono (FB_sq452.out).size))
      have FQ_sq4518 := Lib.hid ((FQ_sq453.out).trans ((bsq4516).mono (FQ_sq453.out).size))
      have FO_sq4519 := Lib.hid (own_below (FO_sq454.out) (bsq4516) (Nat.le_refl _))
      clear FB_sq452 FQ_sq453 FO_sq454
      obtain ⟨ggsq4520, hgsq4520⟩ : ∃ b, wsq451.heap.size = b := ⟨_, rfl⟩
      have FG_sq4520 := Lib.hid gsq4516
      rw [hgsq4520] at FG_sq4520 ⊢
      clear hgsq4520 gsq4516 bsq4516
      refine hK.out _ _ (HSX.out _ FB_sq4517.out) (fun hHeld => ?_)
      clear hK K
      (try simp only [Act.put, setIfInBounds_toArray, set_cons_zero, set_cons_succ])
      refine t1 (i := 12) (h := fun K hK => ?_)
      go_simp
      have KOsq4521 := Lib.hid FO_sq4519.out
      refine (HFO.out wsq4516 ggsq4520 FB_sq4517.out FG_sq4520.out).mono ?_
      rintro e wsq4521 ⟨AX, cX, rfl, osq4521, belsq4521⟩
      dsimp only
      have FB_sq4522 := Lib.hid ((FB_sq4517.out).trans ((belsq4521).mono (FB_sq4517.out).size))
      have FQ_sq4523 := Lib.hid ((FQ_sq4518.out).trans ((belsq4521).mono (FQ_sq4518.out).size))
      have FO_sq4524 := Lib.hid (own_below (FO_sq4519.out) (belsq4521) (Nat.le_refl _))
      have FG_sq4525 := Lib.hid (((belsq4521).block _ (Array.getElem?_eq_some_iff.1 (FG_sq4520.out)).1).trans (FG_sq4520.out))
      clear FB_sq4517 FQ_sq4518 FO_sq4519 FG_sq4520
      have FX_sq4521 := Lib.hid (RdI.of_own osq4521); have KCsq4521 := Lib.hid (own_cap osq4521).1; have NEsq4521 := Lib.hid (own_ord KOsq4521.out osq4521 (Nat.le_refl _))
      clear osq4521 belsq4521 KOsq4521
      refine hK.out _ _ (HSX.out _ FB_sq4522.out) (fun hHeld => ?_)
      clear hK K
      (try simp only [Act.put, setIfInBounds_toArray, set_cons_zero, set_cons_succ])
      refine t1 (i := 13) (h := fun K hK => ?_)
      go_simp
      obtain ⟨wsq4526, hwsq4526⟩ : ∃ w', w' = wsq4521.alloc (.cells #[Value.slice AX X.length cX] 36) := ⟨_, rfl⟩
      rw [← hwsq4526]
      have bsq4526 := al hwsq4526
      have gsq4526 := an hwsq4526
      clear hwsq4526
      have FB_sq4527 := Lib.hid ((FB_sq4522.out).trans ((bsq4526).mono (FB_sq4522.out).size))
      have FQ_sq4528 := Lib.hid ((FQ_sq4523.out).trans ((bsq4526).mono (FQ_sq4523.out).size))
      have FO_sq4529 := Lib.hid (own_below (FO_sq4524.out) (bsq4526) (Nat.le_refl _))
      have FG_sq4530 := Lib.hid (((bsq4526).block _ (Array.getElem?_eq_some_iff.1 (FG_sq4525.out)).1).trans (FG_sq4525.out))
      have FX_sq4531 := Lib.hid (((FX_sq4521.out).below (bsq4526)).more (bsq4526).size)
      clear FB_sq4522 FQ_sq4523 FO_sq4524 FG_sq4525 FX_sq4521
      obtain ⟨gnsq4532, hgsq4532⟩ : ∃ b, wsq4521.heap.size = b := ⟨_, rfl⟩
      have FN_sq4532 := Lib.hid gsq4526
      rw [hgsq4532] at FN_sq4532 ⊢
      clear hgsq4532 gsq4526 bsq4526
      refine hK.out _ _ (HSX.out _ FB_sq4527.out) (fun hHeld => ?_)
      clear hK K
      (try simp only [Act.put, setIfInBounds_toArray, set_cons_zero, set_cons_succ])
      refine t1 (i := 14) (h := fun K hK => ?_)
      refine step_append_o rfl _ _ 23 rfl wq27.heap.size 36 i0 (.slice none 0 0) 1 24 Tryz.underlying23 HI.out HZ0.out HZ1.out HZ2.out rfl (by decide) _ _ _ rfl FO_sq4529.out ⟨gnsq4532, 0, none⟩ 1 1 [.slice AX X.length cX] rfl rfl (World.news_of_block FN_sq4532.out) (by simp [Value.oneCell']) (by have := HR19.out; have := HR29.out; unfold maxLen; omega) (by have := HR19.out; have := HR29.out; omega) FQ_sq4528.out.size ?_
      intro v7 wsq4533 hown7 hgrow7 _
      obtain ⟨A7, c7, rfl, bsq4533, osq4533, rsq4533⟩ := rule_out KBq36.out FQ_sq4528.out (by rw [List.length_append]) FO_sq4529.out KRZq36.out FX_sq4531.out NEsq4521.out KCsq4521.out hown7 hgrow7
      have FB_sq4533 := Lib.hid bsq4533; have FO_sq4533 := Lib.hid osq4533; have KRsq4533 := Lib.hid rsq4533
      clear bsq4533 osq4533 rsq4533 hown7 hgrow7
      refine hK.out _ _ (HSX.out _ FB_sq4533.out) (fun hHeld => ?_)
      clear hK K
      (try simp only [Act.put, setIfInBounds_toArray, set_cons_zero, set_cons_succ])
      refine t1 (i := 15) (h := fun K hK => ?_)
      go_simp
      refine hK.out _ _ hHeld (fun hHeld => ?_)
      clear hK K
      (try simp only [Act.put, setIfInBounds_toArray, set_cons_zero, set_cons_succ])
      refine t1 (i := 16) (h := fun K hK => ?_)
      go_simp
      refine hK.out _ _ hHeld (fun hHeld => ?_)
      clear hK K
      (try simp only [Act.put, setIfInBounds_toArray, set_cons_zero, set_cons_succ])
      refine wpAnyH_done (by kernel_rfl) ?_ _
      go_wp2
      go_ret2
      exact ⟨HBU.out.trans (FB_sq4533.out.mono HBU.out.size), A7, c7, _, by rw [show ((R1 ++ R2) ++ [X]).length = R1.length + (R2.length + 1) by simp]; rfl, own_base FO_sq4533.out HBU.out.size, KRsq4533.out⟩
    refine AllReadyH.cons rfl (fun K hK => ?_) ?_
    · go_simp
      obtain ⟨wq47, hwq47⟩ : ∃ w', w' = wq9.alloc (.cells #[Value.int .i64 ((jj : Nat) : Int)] 2) := ⟨_, rfl⟩
      rw [← hwq47]
      have bq47 := al hwq47
      have gq47 := an hwq47
      clear hwq47
      have FB_q48 := Lib.hid ((FB_q10.out).trans ((bq47).mono (FB_q10.out).size))
      have FL_q49 := Lib.hid (((bq47).block _ (Array.getElem?_eq_some_iff.1 (FL_q11.out)).1).trans (FL_q11.out))
      clear FB_q10 FL_q11
      obtain ⟨gkq50, hgq50⟩ : ∃ b, wq9.heap.size = b := ⟨_, rfl⟩
      have FK_q50 := Lib.hid gq47
      rw [hgq50] at FK_q50 ⊢
      clear hgq50 gq47 bq47
      refine hK.out _ _ (HSX.out _ FB_q48.out) (fun hHeld => ?_)
      clear hK K
      (try simp only [Act.put, setIfInBounds_toArray, set_cons_zero, set_cons_succ])
      refine t1 (i := 4) (h := fun K hK => ?_)
      go_simp
      have KB1q51 := Lib.hid FB_q48.out
      refine (HWO1.out wq47 glq11 FB_q48.out FL_q49.out).mono ?_
      rintro e wq51 ⟨A14, c14, vs14, rfl, oq51, rq51, belq51⟩
      dsimp only
      have FB_q52 := Lib.hid ((FB_q48.out).trans ((belq51).mono (FB_q48.out).size))
      have FL_q53 := Lib.hid (((belq51).block _ (Array.getElem?_eq_some_iff.1 (FL_q49.out)).1).trans (FL_q49.out))
      have FK_q54 := Lib.hid (((belq51).block _ (Array.getElem?_eq_some_iff.1 (FK_q50.out)).1).trans (FK_q50.out))
      clear FB_q48 FL_q49 FK_q50
      have FQ1_q51 := Lib.hid belq51; have FO1_q51 := Lib.hid oq51; have KR1q51 := Lib.hid rq51
      clear oq51 rq51 belq51
      refine hK.out _ _ (HSX.out _ FB_q52.out) (fun hHeld => ?_)
      clear hK K
      (try simp only [Act.put, setIfInBounds_toArray, set_cons_zero, set_cons_succ])
      refine t1 (i := 9) (h := fun K hK => ?_)
      go_simp
      have KB2q55 := Lib.hid FB_q52.out
      refine (HWO2.out wq51 gkq50 FB_q52.out FK_q54.out).mono ?_
      rintro e wq55 ⟨A24, c24, vs24, rfl, oq55, rq55, belq55⟩
      dsimp only
      have FB_q56 := Lib.hid ((FB_q52.out).trans ((belq55).mono (FB_q52.out).size))
      have FL_q57 := Lib.hid (((belq55).block _ (Array.getElem?_eq_some_iff.1 (FL_q53.out)).1).trans (FL_q53.out))
      have FK_q58 := Lib.hid (((belq55).block _ (Array.getElem?_eq_some_iff.1 (FK_q54.out)).1).trans (FK_q54.out))
      have FQ1_q59 := Lib.hid ((FQ1_q51.out).trans ((belq55).mono (FQ1_q51.out).size))
      have FO1_q60 := Lib.hid (own_below (FO1_q51.out) (belq55) (Nat.le_refl _))
      clear FB_q52 FL_q53 FK_q54 FQ1_q51 FO1_q51
      have FQ2_q55 := Lib.hid belq55; have FO2_q55 := Lib.hid oq55; have KR2q55 := Lib.hid rq55
      clear oq55 rq55 belq55
      refine hK.out _ _ (HSX.out _ FB_q56.out) (fun hHeld => ?_)
      clear hK K
      (try simp only [Act.put, setIfInBounds_toArray, set_cons_zero, set_cons_succ])
      refine t1 (i := 10) (h := fun K hK => ?_)
      go_simp
      obtain ⟨wq61, hwq61⟩ : ∃ w', w' = wq55.alloc (.cells #[Value.slice A14 R1.length c14, Value.slice A24 R2.length c24] 23) := ⟨_, rfl⟩
      rw [← hwq61]
      have bq61 := al hwq61
      have gq61 := an hwq61
      clear hwq61
      have FB_q62 := Lib.hid ((FB_q56.out).trans ((bq61).mono (FB_q56.out).size))
      have FL_q63 := Lib.hid (((bq61).block _ (Array.getElem?_eq_some_iff.1 (FL_q57.out)).1).trans (FL_q57.out))
      have FK_q64 := Lib.hid (((bq61).block _ (Array.getElem?_eq_some_iff.1 (FK_q58.out)).1).trans (FK_q58.out))
      have FQ1_q65 := Lib.hid ((FQ1_q59.out).trans ((bq61).mono (FQ1_q59.out).size))
      have FO1_q66 := Lib.hid (own_below (FO1_q60.out) (bq61) (Nat.le_refl _))
      have FQ2_q67 := Lib.hid ((FQ2_q55.out).trans ((bq61).mono (FQ2_q55.out).size))
      have FO2_q68 := Lib.hid (own_below (FO2_q55.out) (bq61) (Nat.le_refl _))
      clear FB_q56 FL_q57 FK_q58 FQ1_q59 FO1_q60 FQ2_q55 FO2_q55
      obtain ⟨gfq69, hgq69⟩ : ∃ b, wq55.heap.size = b := ⟨_, rfl⟩
      have FF_q69 := Lib.hid gq61
      rw [hgq69] at FF_q69 ⊢
      clear hgq69 gq61 bq61
      refine hK.out _ _ (HSX.out _ FB_q62.out) (fun hHeld => ?_)
      clear hK K
      (try simp only [Act.put, setIfInBounds_toArray, set_cons_zero, set_cons_succ])
      refine t1 (i := 11) (h := fun K hK => ?_)
      go_simp
      have KBq70 := Lib.hid FB_q62.out
      have KRZq70 := Lib.hid (RdV.app (RdV.below KR1q51.out FQ1_q65.out) (RdV.below KR2q55.out FQ2_q67.out))
      refine (concatQ_any gfq69 2 A14 A24 R1.length R2.length c14 c24 _ _ vs14 vs24 wq61 FF_q69.out FO1_q66.out FO2_q68.out KR1q51.out.one KR2q55.out.one (by have := HR19.out; omega) (by have := HR29.out; omega)).mono ?_
      rintro e wq70 ⟨A4, c4, rfl, oq70, belq70⟩
      dsimp only
      have FB_q71 := Lib.hid ((FB_q62.out).trans ((belq70).mono (FB_q62.out).size))
      have FL_q72 := Lib.hid (((belq70).block _ (Array.getElem?_eq_some_iff.1 (FL_q63.out)).1).trans (FL_q63.out))
      have FK_q73 := Lib.hid (((belq70).block _ (Array.getElem?_eq_some_iff.1 (FK_q64.out)).1).trans (FK_q64.out))
      have FQ1_q74 := Lib.hid ((FQ1_q65.out).trans ((belq70).mono (FQ1_q65.out).size))
      have FO1_q75 := Lib.hid (own_below (FO1_q66.out) (belq70) (Nat.le_refl _))
      have FQ2_q76 := Lib.hid ((FQ2_q67.out).trans ((belq70).mono (FQ2_q67.out).size))
      have FO2_q77 := Lib.hid (own_below (FO2_q68.out) (belq70) (Nat.le_refl _))
      have FF_q78 := Lib.hid (((belq70).block _ (Array.getElem?_eq_some_iff.1 (FF_q69.out)).1).trans (FF_q69.out))
      clear FB_q62 FL_q63 FK_q64 FQ1_q65 FO1_q66 FQ2_q67 FO2_q68 FF_q69
      have FQ_q70 := Lib.hid belq70; have FO_q70 := Lib.hid oq70
      clear oq70 belq70
      refine hK.out _ _ (HSX.out _ FB_q71.out) (fun hHeld => ?_)
      clear hK K
      (try simp only [Act.put, setIfInBounds_toArray, set_cons_zero, set_cons_succ])
      refine t1 (i := 12) (h := fun K hK => ?_)
      go_simp
      refine hK.out _ _ hHeld (fun hHeld => ?_)
      clear hK K
      (try simp only [Act.put, setIfInBounds_toArray, set_cons_zero, set_cons_succ])
      refine wpAnyH_done (by kernel_rfl) ?_ _
      go_upto_region 2 with (fail)
      refine wp_region_held_drew (S := fun wx => wx.cell? ⟨w.heap.size + 1, 3, none⟩ = some (.int .i64 ((ii : Nat) : Int)) ∧ wx.cell? ⟨w.heap.size + 1, 4, none⟩ = some (.int .i64 ((jj : Nat) : Int)) ∧ wx.cell? ⟨bp, op + ii, none⟩ = some (.slice AI NI cI) ∧ wx.cell? ⟨bq, oq + jj, none⟩ = some (.slice AJ NJ cJ)) (by kernel_rfl) (HSX.out wq70 FB_q71.out) (fun hHeld => ?_)
      obtain ⟨wsq791, hwsq791⟩ : ∃ w', w' = wq70.drew := ⟨_, rfl⟩
      rw [← hwsq791] at hHeld ⊢
      have bsq791 : Below wq70.heap.size wq70 wsq791 := by rw [hwsq791]; exact (Below.refl _ _).drew
      clear hwsq791
      have FB_sq792 := Lib.hid ((FB_q71.out).trans ((bsq791).mono (FB_q71.out).size))
      have FQ_sq793 := Lib.hid ((FQ_q70.out).trans ((bsq791).mono (FQ_q70.out).size))
      have FO_sq794 := Lib.hid (own_below (FO_q70.out) (bsq791) (Nat.le_refl _))
      clear FB_q71 FQ_q70 FO_q70
      refine tk (i := 0) (h := ?_)
      (try simp only [Act.put, setIfInBounds_toArray, set_cons_zero, set_cons_succ])
      refine tk (i := 1) (h := ?_)
      (try simp only [Act.put, setIfInBounds_toArray, set_cons_zero, set_cons_succ])
      refine tk (i := 2) (h := ?_)
      (try simp only [Act.put, setIfInBounds_toArray, set_cons_zero, set_cons_succ])
      refine tk (i := 6) (h := ?_)
      (try simp only [Act.put, setIfInBounds_toArray, set_cons_zero, set_cons_succ])
      refine tk (i := 7) (h := ?_)
      (try simp only [Act.put, setIfInBounds_toArray, set_cons_zero, set_cons_succ])
      refine tk (i := 3) (h := ?_)
      (try simp only [Act.put, setIfInBounds_toArray, set_cons_zero, set_cons_succ])
      refine tk (i := 8) (h := ?_)
      (try simp only [Act.put, setIfInBounds_toArray, set_cons_zero, set_cons_succ])
      refine tk (i := 4) (h := ?_)
      (try simp only [Act.put, setIfInBounds_toArray, set_cons_zero, set_cons_succ])
      refine tk (i := 9) (h := ?_)
      (try simp only [Act.put, setIfInBounds_toArray, set_cons_zero, set_cons_succ])
      refine tk (i := 5) (h := ?_)
      (try simp only [Act.put, setIfInBounds_toArray, set_cons_zero, set_cons_succ])
      refine tk (i := 10) (h := ?_)
      (try simp only [Act.put, setIfInBounds_toArray, set_cons_zero, set_cons_succ])
      refine t1 (i := 11) (h := fun K hK => ?_)
      go_simp
      obtain ⟨wsq7916, hwsq7916⟩ : ∃ w', w' = wsq791.alloc (.cells #[Value.slice AI NI cI, Value.slice AJ NJ cJ] 36) := ⟨_, rfl⟩
      rw [← hwsq7916]
      have bsq7916 := al hwsq7916
      have gsq7916 := an hwsq7916
      clear hwsq7916
      have FB_sq7917 := Lib.hid ((FB_sq792.out).trans ((bsq7916).mono (FB_sq792.out).size))
      have FQ_sq7918 := Lib.hid ((FQ_sq793.out).trans ((bsq7916).mono (FQ_sq793.out).size))
      have FO_sq7919 := Lib.hid (own_below (FO_sq794.out) (bsq7916) (Nat.le_refl _))
      clear FB_sq792 FQ_sq793 FO_sq794
      obtain ⟨ggsq7920, hgsq7920⟩ : ∃ b, wsq791.heap.size = b := ⟨_, rfl⟩
      have FG_sq7920 := Lib.hid gsq7916
      rw [hgsq7920] at FG_sq7920 ⊢
      clear hgsq7920 gsq7916 bsq7916
      refine hK.out _ _ (HSX.out _ FB_sq7917.out) (fun hHeld => ?_)
      clear hK K
      (try simp only [Act.put, setIfInBounds_toArray, set_cons_zero, set_cons_succ])
      refine t1 (i := 12) (h := fun K hK => ?_)
      go_simp
      have KOsq7921 := Lib.hid FO_sq7919.out
      refine (HFO.out wsq7916 ggsq7920 FB_sq7917.out FG_sq7920.out).mono ?_
      rintro e wsq7921 ⟨AX, cX, rfl, osq7921, belsq7921⟩
      dsimp only
      have FB_sq7922 := Lib.hid ((FB_sq7917.out).trans ((belsq7921).mono (FB_sq7917.out).size))
      have FQ_sq7923 := Lib.hid ((FQ_sq7918.out).trans ((belsq7921).mono (FQ_sq7918.out).size))
      have FO_sq7924 := Lib.hid (own_below (FO_sq7919.out) (belsq7921) (Nat.le_refl _))
      have FG_sq7925 := Lib.hid (((belsq7921).block _ (Array.getElem?_eq_some_iff.1 (FG_sq7920.out)).1).trans (FG_sq7920.out))
      clear FB_sq7917 FQ_sq7918 FO_sq7919 FG_sq7920
      have FX_sq7921 := Lib.hid (RdI.of_own osq7921); have KCsq7921 := Lib.hid (own_cap osq7921).1; have NEsq7921 := Lib.hid (own_ord KOsq7921.out osq7921 (Nat.le_refl _))
      clear osq7921 belsq7921 KOsq7921
      refine hK.out _ _ (HSX.out _ FB_sq7922.out) (fun hHeld => ?_)
      clear hK K
      (try simp only [Act.put, setIfInBounds_toArray, set_cons_zero, set_cons_succ])
      refine t1 (i := 13) (h := fun K hK => ?_)
      go_simp
      obtain ⟨wsq7926, hwsq7926⟩ : ∃ w', w' = wsq7921.alloc (.cells #[Value.slice AX X.length cX] 36) := ⟨_, rfl⟩
      rw [← hwsq7926]
      have bsq7926 := al hwsq7926
      have gsq7926 := an hwsq7926
      clear hwsq7926
      have FB_sq7927 := Lib.hid ((FB_sq7922.out).trans ((bsq7926).mono (FB_sq7922.out).size))
      have FQ_sq7928 := Lib.hid ((FQ_sq7923.out).trans ((bsq7926).mono (FQ_sq7923.out).size))
      have FO_sq7929 := Lib.hid (own_below (FO_sq7924.out) (bsq7926) (Nat.le_refl _))
      have FG_sq7930 := Lib.hid (((bsq7926).block _ (Array.getElem?_eq_some_iff.1 (FG_sq7925.out)).1).trans (FG_sq7925.out))
      have FX_sq7931 := Lib.hid (((FX_sq7921.out).below (bsq7926)).more (bsq7926).size)
      clear FB_sq7922 FQ_sq7923 FO_sq7924 FG_sq7925 FX_sq7921
      obtain ⟨gnsq7932, hgsq7932⟩ : ∃ b, wsq7921.heap.size = b := ⟨_, rfl⟩
      have FN_sq7932 := Lib.hid gsq7926
      rw [hgsq7932] at FN_sq7932 ⊢
      clear hgsq7932 gsq7926 bsq7926
      refine hK.out _ _ (HSX.out _ FB_sq7927.out) (fun hHeld => ?_)
      clear hK K
      (try simp only [Act.put, setIfInBounds_toArray, set_cons_zero, set_cons_succ])
      refine t1 (i := 14) (h := fun K hK => ?_)
      refine step_append_o rfl _ _ 23 rfl wq61.heap.size 36 i0 (.slice none 0 0) 1 24 Tryz.underlying23 HI.out HZ0.out HZ1.out HZ2.out rfl (by decide) _ _ _ rfl FO_sq7929.out ⟨gnsq7932, 0, none⟩ 1 1 [.slice AX X.length cX] rfl rfl (World.news_of_block FN_sq7932.out) (by simp [Value.oneCell']) (by have := HR19.out; have := HR29.out; unfold maxLen; omega) (by have := HR19.out; have := HR29.out; omega) FQ_sq7928.out.size ?_
      intro v7 wsq7933 hown7 hgrow7 _
      obtain ⟨A7, c7, rfl, bsq7933, osq7933, rsq7933⟩ := rule_out KBq70.out FQ_sq7928.out (by rw [List.length_append]) FO_sq7929.out KRZq70.out FX_sq7931.out NEsq7921.out KCsq7921.out hown7 hgrow7
      have FB_sq7933 := Lib.hid bsq7933; have FO_sq7933 := Lib.hid osq7933; have KRsq7933 := Lib.hid rsq7933
      clear bsq7933 osq7933 rsq7933 hown7 hgrow7
      refine hK.out _ _ (HSX.out _ FB_sq7933.out) (fun hHeld => ?_)
      clear hK K
      (try simp only [Act.put, setIfInBounds_toArray, set_cons_zero, set_cons_succ])
      refine t1 (i := 15) (h := fun K hK => ?_)
      go_simp
      refine hK.out _ _ hHeld (fun hHeld => ?_)
      clear hK K
      (try simp only [Act.put, setIfInBounds_toArray, set_cons_zero, set_cons_succ])
      refine t1 (i := 16) (h := fun K hK => ?_)
      go_simp
      refine hK.out _ _ hHeld (fun hHeld => ?_)
      clear hK K
      (try simp only [Act.put, setIfInBounds_toArray, set_cons_zero, set_cons_succ])
      refine wpAnyH_done (by kernel_rfl) ?_ _
      go_wp2
      go_ret2
      exact ⟨HBU.out.trans (FB_sq7933.out.mono HBU.out.size), A7, c7, _, by rw [show ((R1 ++ R2) ++ [X]).length = R1.length + (R2.length + 1) by simp]; rfl, own_base FO_sq7933.out HBU.out.size, KRsq7933.out⟩
    exact AllReadyH.nil
  refine AllReadyH.cons rfl (fun K hK => ?_) ?_
  · go_simp
    obtain ⟨wq81, hwq81⟩ : ∃ w', w' = wq1.alloc (.cells #[Value.int .i64 ((jj : Nat) : Int)] 2) := ⟨_, rfl⟩
    rw [← hwq81]
    have bq81 := al hwq81
    have gq81 := an hwq81
    clear hwq81
    have FB_q82 := Lib.hid ((FB_q2.out).trans ((bq81).mono (FB_q2.out).size))
    clear FB_q2
    obtain ⟨gkq83, hgq83⟩ : ∃ b, wq1.heap.size = b := ⟨_, rfl⟩
    have FK_q83 := Lib.hid gq81
    rw [hgq83] at FK_q83 ⊢
    clear hgq83 gq81 bq81
    refine hK.out _ _ (HSX.out _ FB_q82.out) (fun hHeld => ?_)
    clear hK K
    (try simp only [Act.put, setIfInBounds_toArray, set_cons_zero, set_cons_succ])
    refine t1 (i := 3) (h := fun K hK => ?_)
    go_simp
    obtain ⟨wq84, hwq84⟩ : ∃ w', w' = wq81.alloc (.cells #[Value.int .i64 ((ii : Nat) : Int)] 2) := ⟨_, rfl⟩
    rw [← hwq84]
    have bq84 := al hwq84
    have gq84 := an hwq84
    clear hwq84
    have FB_q85 := Lib.hid ((FB_q82.out).trans ((bq84).mono (FB_q82.out).size))
    have FK_q86 := Lib.hid (((bq84).block _ (Array.getElem?_eq_some_iff.1 (FK_q83.out)).1).trans (FK_q83.out))
    clear FB_q82 FK_q83
    obtain ⟨glq87, hgq87⟩ : ∃ b, wq81.heap.size = b := ⟨_, rfl⟩
    have FL_q87 := Lib.hid gq84
    rw [hgq87] at FL_q87 ⊢
    clear hgq87 gq84 bq84
    refine hK.out _ _ (HSX.out _ FB_q85.out) (fun hHeld => ?_)
    clear hK K
    (try simp only [Act.put, setIfInBounds_toArray, set_cons_zero, set_cons_succ])
    refine t1 (i := 4) (h := fun K hK => ?_)
    go_simp
    have KB1q88 := Lib.hid FB_q85.out
    refine (HWO1.out wq84 glq87 FB_q85.out FL_q87.out).mono ?_
    rintro e wq88 ⟨A14, c14, vs14, rfl, oq88, rq88, belq88⟩
    dsimp only
    have FB_q89 := Lib.hid ((FB_q85.out).trans ((belq88).mono (FB_q85.out).size))
    have FK_q90 := Lib.hid (((belq88).block _ (Array.getElem?_eq_some_iff.1 (FK_q86.out)).1).trans (FK_q86.out))
    have FL_q91 := Lib.hid (((belq88).block _ (Array.getElem?_eq_some_iff.1 (FL_q87.out)).1).trans (FL_q87.out))
    clear FB_q85 FK_q86 FL_q87
    have FQ1_q88 := Lib.hid belq88; have FO1_q88 := Lib.hid oq88; have KR1q88 := Lib.hid rq88
    clear oq88 rq88 belq88
    refine hK.out _ _ (HSX.out _ FB_q89.out) (fun hHeld => ?_)
    clear hK K
    (try simp only [Act.put, setIfInBounds_toArray, set_cons_zero, set_cons_succ])
    refine t1 (i := 9) (h := fun K hK => ?_)
    go_simp
    have KB2q92 := Lib.hid FB_q89.out
    refine (HWO2.out wq88 gkq83 FB_q89.out FK_q90.out).mono ?_
    rintro e wq92 ⟨A24, c24, vs24, rfl, oq92, rq92, belq92⟩
    dsimp only
    have FB_q93 := Lib.hid ((FB_q89.out).trans ((belq92).mono (FB_q89.out).size))
    have FK_q94 := Lib.hid (((belq92).block _ (Array.getElem?_eq_some_iff.1 (FK_q90.out)).1).trans (FK_q90.out))
    have FL_q95 := Lib.hid (((belq92).block _ (Array.getElem?_eq_some_iff.1 (FL_q91.out)).1).trans (FL_q91.out))
    have FQ1_q96 := Lib.hid ((FQ1_q88.out).trans ((belq92).mono (FQ1_q88.out).size))
    have FO1_q97 := Lib.hid (own_below (FO1_q88.out) (belq92) (Nat.le_refl _))
    clear FB_q89 FK_q90 FL_q91 FQ1_q88 FO1_q88
    have FQ2_q92 := Lib.hid belq92; have FO2_q92 := Lib.hid oq92; have KR2q92 := Lib.hid rq92
    clear oq92 rq92 belq92
    refine hK.out _ _ (HSX.out _ FB_q93.out) (fun hHeld => ?_)
    clear hK K
    (try simp only [Act.put, setIfInBounds_toArray, set_cons_zero, set_cons_succ])
    refine t1 (i := 10) (h := fun K hK => ?_)
    go_simp
    obtain ⟨wq98, hwq98⟩ : ∃ w', w' = wq92.alloc (.cells #[Value.slice A14 R1.length c14, Value.slice A24 R2.length c24] 23) := ⟨_, rfl⟩
    rw [← hwq98]
    have bq98 := al hwq98
    have gq98 := an hwq98
    clear hwq98
    have FB_q99 := Lib.hid ((FB_q93.out).trans ((bq98).mono (FB_q93.out).size))
    have FK_q100 := Lib.hid (((bq98).block _ (Array.getElem?_eq_some_iff.1 (FK_q94.out)).1).trans (FK_q94.out))
    have FL_q101 := Lib.hid (((bq98).block _ (Array.getElem?_eq_some_iff.1 (FL_q95.out)).1).trans (FL_q95.out))
    have FQ1_q102 := Lib.hid ((FQ1_q96.out).trans ((bq98).mono (FQ1_q96.out).size))
    have FO1_q103 := Lib.hid (own_below (FO1_q97.out) (bq98) (Nat.le_refl _))
    have FQ2_q104 := Lib.hid ((FQ2_q92.out).trans ((bq98).mono (FQ2_q92.out).size))
    have FO2_q105 := Lib.hid (own_below (FO2_q92.out) (bq98) (Nat.le_refl _))
    clear FB_q93 FK_q94 FL_q95 FQ1_q96 FO1_q97 FQ2_q92 FO2_q92
    obtain ⟨gfq106, hgq106⟩ : ∃ b, wq92.heap.size = b := ⟨_, rfl⟩
    have FF_q106 := Lib.hid gq98
    rw [hgq106] at FF_q106 ⊢
    clear hgq106 gq98 bq98
    refine hK.out _ _ (HSX.out _ FB_q99.out) (fun hHeld => ?_)
    clear hK K
    (try simp only [Act.put, setIfInBounds_toArray, set_cons_zero, set_cons_succ])
    refine t1 (i := 11) (h := fun K hK => ?_)
    go_simp
    have KBq107 := Lib.hid FB_q99.out
    have KRZq107 := Lib.hid (RdV.app (RdV.below KR1q88.out FQ1_q102.out) (RdV.below KR2q92.out FQ2_q104.out))
    refine (concatQ_any gfq106 2 A14 A24 R1.length R2.length c14 c24 _ _ vs14 vs24 wq98 FF_q106.out FO1_q103.out FO2_q105.out KR1q88.out.one KR2q92.out.one (by have := HR19.out; omega) (by have := HR29.out; omega)).mono ?_
    rintro e wq107 ⟨A4, c4, rfl, oq107, belq107⟩
    dsimp only
    have FB_q108 := Lib.hid ((FB_q99.out).trans ((belq107).mono (FB_q99.out).size))
    have FK_q109 := Lib.hid (((belq107).block _ (Array.getElem?_eq_some_iff.1 (FK_q100.out)).1).trans (FK_q100.out))
    have FL_q110 := Lib.hid (((belq107).block _ (Array.getElem?_eq_some_iff.1 (FL_q101.out)).1).trans (FL_q101.out))
    have FQ1_q111 := Lib.hid ((FQ1_q102.out).trans ((belq107).mono (FQ1_q102.out).size))
    have FO1_q112 := Lib.hid (own_below (FO1_q103.out) (belq107) (Nat.le_refl _))
    have FQ2_q113 := Lib.hid ((FQ2_q104.out).trans ((belq107).mono (FQ2_q104.out).size))
    have FO2_q114 := Lib.hid (own_below (FO2_q105.out) (belq107) (Nat.le_refl _))
    have FF_q115 := Lib.hid (((belq107).block _ (Array.getElem?_eq_some_iff.1 (FF_q106.out)).1).trans (FF_q106.out))
    clear FB_q99 FK_q100 FL_q101 FQ1_q102 FO1_q103 FQ2_q104 FO2_q105 FF_q106
    have FQ_q107 := Lib.hid belq107; have FO_q107 := Lib.hid oq107
    clear oq107 belq107
    refine hK.out _ _ (HSX.out _ FB_q108.out) (fun hHeld => ?_)
    clear hK K
    (try simp only [Act.put, setIfInBounds_toArray, set_cons_zero, set_cons_succ])
    refine t1 (i := 12) (h := fun K hK => ?_)
    go_simp
    refine hK.out _ _ hHeld (fun hHeld => ?_)
    clear hK K
    (try simp only [Act.put, setIfInBounds_toArray, set_cons_zero, set_cons_succ])
    refine wpAnyH_done (by kernel_rfl) ?_ _
    go_upto_region 2 with (fail)
    refine wp_region_held_drew (S := fun wx => wx.cell? ⟨w.heap.size + 1, 3, none⟩ = some (.int .i64 ((ii : Nat) : Int)) ∧ wx.cell? ⟨w.heap.size + 1, 4, none⟩ = some (.int .i64 ((jj : Nat) : Int)) ∧ wx.cell? ⟨bp, op + ii, none⟩ = some (.slice AI NI cI) ∧ wx.cell? ⟨bq, oq + jj, none⟩ = some (.slice AJ NJ cJ)) (by kernel_rfl) (HSX.out wq107 FB_q108.out) (fun hHeld => ?_)
    obtain ⟨wsq1161, hwsq1161⟩ : ∃ w', w' = wq107.drew := ⟨_, rfl⟩
    rw [← hwsq1161] at hHeld ⊢
    have bsq1161 : Below wq107.heap.size wq107 wsq1161 := by rw [hwsq1161]; exact (Below.refl _ _).drew
    clear hwsq1161
    have FB_sq1162 := Lib.hid ((FB_q108.out).trans ((bsq1161).mono (FB_q108.out).size))
    have FQ_sq1163 := Lib.hid ((FQ_q107.out).trans ((bsq1161).mono (FQ_q107.out).size))
    have FO_sq1164 := Lib.hid (own_below (FO_q107.out) (bsq1161) (Nat.le_refl _))
    clear FB_q108 FQ_q107 FO_q107
    refine tk (i := 0) (h := ?_)
    (try simp only [Act.put, setIfInBounds_toArray, set_cons_zero, set_cons_succ])
    refine tk (i := 1) (h := ?_)
    (try simp only [Act.put, setIfInBounds_toArray, set_cons_zero, set_cons_succ])
    refine tk (i := 2) (h := ?_)
    (try simp only [Act.put, setIfInBounds_toArray, set_cons_zero, set_cons_succ])
    refine tk (i := 6) (h := ?_)
    (try simp only [Act.put, setIfInBounds_toArray, set_cons_zero, set_cons_succ])
    refine tk (i := 7) (h := ?_)
    (try simp only [Act.put, setIfInBounds_toArray, set_cons_zero, set_cons_succ])
    refine tk (i := 3) (h := ?_)
    (try simp only [Act.put, setIfInBounds_toArray, set_cons_zero, set_cons_succ])
    refine tk (i := 8) (h := ?_)
    (try simp only [Act.put, setIfInBounds_toArray, set_cons_zero, set_cons_succ])
    refine tk (i := 4) (h := ?_)
    (try simp only [Act.put, setIfInBounds_toArray, set_cons_zero, set_cons_succ])
    refine tk (i := 9) (h := ?_)
    (try simp only [Act.put, setIfInBounds_toArray, set_cons_zero, set_cons_succ])
    refine tk (i := 5) (h := ?_)
    (try simp only [Act.put, setIfInBounds_toArray, set_cons_zero, set_cons_succ])
    refine tk (i := 10) (h := ?_)
    (try simp only [Act.put, setIfInBounds_toArray, set_cons_zero, set_cons_succ])
    refine t1 (i := 11) (h := fun K hK => ?_)
    go_simp
    obtain ⟨wsq11616, hwsq11616⟩ : ∃ w', w' = wsq1161.alloc (.cells #[Value.slice AI NI cI, Value.slice AJ NJ cJ] 36) := ⟨_, rfl⟩
    rw [← hwsq11616]
    have bsq11616 := al hwsq11616
    have gsq11616 := an hwsq11616
    clear hwsq11616
    have FB_sq11617 := Lib.hid ((FB_sq1162.out).trans ((bsq11616).mono (FB_sq1162.out).size))
    have FQ_sq11618 := Lib.hid ((FQ_sq1163.out).trans ((bsq11616).mono (FQ_sq1163.out).size))
    have FO_sq11619 := Lib.hid (own_below (FO_sq1164.out) (bsq11616) (Nat.le_refl _))
    clear FB_sq1162 FQ_sq1163 FO_sq1164
    obtain ⟨ggsq11620, hgsq11620⟩ : ∃ b, wsq1161.heap.size = b := ⟨_, rfl⟩
    have FG_sq11620 := Lib.hid gsq11616
    rw [hgsq11620] at FG_sq11620 ⊢
    clear hgsq11620 gsq11616 bsq11616
    refine hK.out _ _ (HSX.out _ FB_sq11617.out) (fun hHeld => ?_)
    clear hK K
    (try simp only [Act.put, setIfInBounds_toArray, set_cons_zero, set_cons_succ])
    refine t1 (i := 12) (h := fun K hK => ?_)
    go_simp
    have KOsq11621 := Lib.hid FO_sq11619.out
    refine (HFO.out wsq11616 ggsq11620 FB_sq11617.out FG_sq11620.out).mono ?_
    rintro e wsq11621 ⟨AX, cX, rfl, osq11621, belsq11621⟩
    dsimp only
    have FB_sq11622 := Lib.hid ((FB_sq11617.out).trans ((belsq11621).mono (FB_sq11617.out).size))
    have FQ_sq11623 := Lib.hid ((FQ_sq11618.out).trans ((belsq11621).mono (FQ_sq11618.out).size))
    have FO_sq11624 := Lib.hid (own_below (FO_sq11619.out) (belsq11621) (Nat.le_refl _))
    have FG_sq11625 := Lib.hid (((belsq11621).block _ (Array.getElem?_eq_some_iff.1 (FG_sq11620.out)).1).trans (FG_sq11620.out))
    clear FB_sq11617 FQ_sq11618 FO_sq11619 FG_sq11620
    have FX_sq11621 := Lib.hid (RdI.of_own osq11621); have KCsq11621 := Lib.hid (own_cap osq11621).1; have NEsq11621 := Lib.hid (own_ord KOsq11621.out osq11621 (Nat.le_refl _))
    clear osq11621 belsq11621 KOsq11621
    refine hK.out _ _ (HSX.out _ FB_sq11622.out) (fun hHeld => ?_)
    clear hK K
    (try simp only [Act.put, setIfInBounds_toArray, set_cons_zero, set_cons_succ])
    refine t1 (i := 13) (h := fun K hK => ?_)
    go_simp
    obtain ⟨wsq11626, hwsq11626⟩ : ∃ w', w' = wsq11621.alloc (.cells #[Value.slice AX X.length cX] 36) := ⟨_, rfl⟩
    rw [← hwsq11626]
    have bsq11626 := al hwsq11626
    have gsq11626 := an hwsq11626
    clear hwsq11626
    have FB_sq11627 := Lib.hid ((FB_sq11622.out).trans ((bsq11626).mono (FB_sq11622.out).size))
    have FQ_sq11628 := Lib.hid ((FQ_sq11623.out).trans ((bsq11626).mono (FQ_sq11623.out).size))
    have FO_sq11629 := Lib.hid (own_below (FO_sq11624.out) (bsq11626) (Nat.le_refl _))
    have FG_sq11630 := Lib.hid (((bsq11626).block _ (Array.getElem?_eq_some_iff.1 (FG_sq11625.out)).1).trans (FG_sq11625.out))
    have FX_sq11631 := Lib.hid (((FX_sq11621.out).below (bsq11626)).more (bsq11626).size)
    clear FB_sq11622 FQ_sq11623 FO_sq11624 FG_sq11625 FX_sq11621
    obtain ⟨gnsq11632, hgsq11632⟩ : ∃ b, wsq11621.heap.size = b := ⟨_, rfl⟩
    have FN_sq11632 := Lib.hid gsq11626
    rw [hgsq11632] at FN_sq11632 ⊢
    clear hgsq11632 gsq11626 bsq11626
    refine hK.out _ _ (HSX.out _ FB_sq11627.out) (fun hHeld => ?_)
    clear hK K
    (try simp only [Act.put, setIfInBounds_toArray, set_cons_zero, set_cons_succ])
    refine t1 (i := 14) (h := fun K hK => ?_)
    refine step_append_o rfl _ _ 23 rfl wq98.heap.size 36 i0 (.slice none 0 0) 1 24 Tryz.underlying23 HI.out HZ0.out HZ1.out HZ2.out rfl (by decide) _ _ _ rfl FO_sq11629.out ⟨gnsq11632, 0, none⟩ 1 1 [.slice AX X.length cX] rfl rfl (World.news_of_block FN_sq11632.out) (by simp [Value.oneCell']) (by have := HR19.out; have := HR29.out; unfold maxLen; omega) (by have := HR19.out; have := HR29.out; omega) FQ_sq11628.out.size ?_
    intro v7 wsq11633 hown7 hgrow7 _
    obtain ⟨A7, c7, rfl, bsq11633, osq11633, rsq11633⟩ := rule_out KBq107.out FQ_sq11628.out (by rw [List.length_append]) FO_sq11629.out KRZq107.out FX_sq11631.out NEsq11621.out KCsq11621.out hown7 hgrow7
    have FB_sq11633 := Lib.hid bsq11633; have FO_sq11633 := Lib.hid osq11633; have KRsq11633 := Lib.hid rsq11633
    clear bsq11633 osq11633 rsq11633 hown7 hgrow7
    refine hK.out _ _ (HSX.out _ FB_sq11633.out) (fun hHeld => ?_)
    clear hK K
    (try simp only [Act.put, setIfInBounds_toArray, set_cons_zero, set_cons_succ])
    refine t1 (i := 15) (h := fun K hK => ?_)
    go_simp
    refine hK.out _ _ hHeld (fun hHeld => ?_)
    clear hK K
    (try simp only [Act.put, setIfInBounds_toArray, set_cons_zero, set_cons_succ])
    refine t1 (i := 16) (h := fun K hK => ?_)
    go_simp
    refine hK.out _ _ hHeld (fun hHeld => ?_)
    clear hK K
    (try simp only [Act.put, setIfInBounds_toArray, set_cons_zero, set_cons_succ])
    refine wpAnyH_done (by kernel_rfl) ?_ _
    go_wp2
    go_ret2
    exact ⟨HBU.out.trans (FB_sq11633.out.mono HBU.out.size), A7, c7, _, by rw [show ((R1 ++ R2) ++ [X]).length = R1.length + (R2.length + 1) by simp]; rfl, own_base FO_sq11633.out HBU.out.size, KRsq11633.out⟩
  exact AllReadyH.nil
end Go.Proofs.YthbkcpacgnmcfaaGreatDoor
