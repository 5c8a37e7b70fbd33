/- The model's conclude at rule 3. Made by mkcme.py. The model's conclude at rule 4. Made by mkcme.py. The model's premiseCode. -/
import Derived.Test.YthbkcpacgnmcfaaGreatDoorQCmC3a
import Derived.Test.YthbkcpacgnmcfaaGreatDoorQSubA
import Derived.Test.YthbkcpacgnmcfaaGreatDoorQCkX
import Derived.Test.YthbkcpacgnmcfaaGreatDoorQCmD
import Derived.Test.YthbkcpacgnmcfaaGreatDoorQCmE13
namespace Go.Proofs.YthbkcpacgnmcfaaGreatDoor
set_option linter.unusedSimpArgs false
set_option linter.unusedVariables false
section
open Go.ChangeAt Go.ChangeShapes Go.RowKit Go.WideShapes
open List (setIfInBounds_toArray set_cons_zero set_cons_succ getElem_toArray getElem_cons_succ getElem_cons_zero)

set_option linter.unusedSimpArgs false in
set_option maxRecDepth 100000 in
set_option maxHeartbeats 16000000 in
theorem cc_3 (a b : Int) (ii jj : Nat) (B : Option Addr) (m d : Nat) (F : List Int) (A : Option Addr) (n c : Nat) (P : List (List Int)) (A2 : Option Addr) (n2 c2 : Nat) (Q : List (List Int)) (w : World) (h : RdQ w w.heap.size A n P) (hnc : n ≤ c) (hP : validQ P = true) (hii : ii < P.length) (h2 : RdQ w w.heap.size A2 n2 Q) (hnc2 : n2 ≤ c2) (hQ : validQ Q = true) (hjj : jj < Q.length) :
    Calls Tryz.prog 55 #[.slice A n c, .slice A2 n2 c2, Value.agg #[Value.int .i64 3, Value.int .i64 a, Value.int .i64 b, Value.int .i64 ((ii : Nat) : Int), Value.int .i64 ((jj : Nat) : Int), Value.slice B m d]] w (GivesV w (cnL 3 ((ii : Nat) : Int) ((jj : Nat) : Int) F P Q)) := by
  obtain ⟨i0, hi0, hz0, hz1, hz2⟩ := info_parts_s
  have HI := Lib.hid hi0; have HZ0 := Lib.hid hz0; have HZ1 := Lib.hid hz1; have HZ2 := Lib.hid hz2
  have hl := h.len
  subst hl
  have hl2 := h2.len
  subst hl2
  have hcn : cnL 3 ((ii : Nat) : Int) ((jj : Nat) : Int) F P Q = (woL P [((ii : Nat) : Int)] ++ woL Q [((jj : Nat) : Int)]) ++ [(11 :: (P.getD ii [] ++ Q.getD jj []))] := rfl
  rw [hcn]
  clear hcn
  obtain ⟨u, hu0⟩ : ∃ u, u = w.alloc (.cells #[Value.int .i64 3, Value.int .i64 a, Value.int .i64 b, Value.int .i64 ((ii : Nat) : Int), Value.int .i64 ((jj : Nat) : Int), Value.slice B m d] 43) := ⟨_, rfl⟩
  have hb : Below w.heap.size w u := by rw [hu0]; exact box_any w _
  have p0 := an hu0
  have HU0 := Lib.hid hu0; have HBU := Lib.hid hb; have HP0 := Lib.hid p0
  have hvl := validQ_len hP
  obtain ⟨bp, op, rfl, hbp, hcp⟩ := h.2 (by omega)
  obtain ⟨vsP, hvP, hcP⟩ := RdV.of_q ((h.below hb).more hb.size)
  have hlP := hvP.len
  obtain ⟨AI, cI, kI, mI, rI⟩ := hcp ii (by omega)
  have HRI := Lib.hid ((rI.below hb).more hb.size); have HMI := Lib.hid mI
  have hlI : 0 < (P.getD ii []).length ∧ (P.getD ii []).length ≤ 24 := by have := valid_len (validQ_mem hP (getD_mem (show ii < _ by omega))); omega
  have hvlQ := validQ_len hQ
  obtain ⟨bq, oq, rfl, hbq, hcq⟩ := h2.2 (by omega)
  obtain ⟨vsQ, hvQ, hcQ⟩ := RdV.of_q ((h2.below hb).more hb.size)
  have hlQ := hvQ.len
  obtain ⟨AJ, cJ, kJ, mJ, rJ⟩ := hcq jj (by omega)
  have HRJ := Lib.hid ((rJ.below hb).more hb.size); have HMJ := Lib.hid mJ
  have hlJ : 0 < (Q.getD jj []).length ∧ (Q.getD jj []).length ≤ 24 := by have := valid_len (validQ_mem hQ (getD_mem (show jj < _ by omega))); omega
  have HSX : Hid (∀ wx, Below u.heap.size u wx → wx.cell? ⟨w.heap.size, 3, none⟩ = some (.int .i64 ((ii : Nat) : Int)) ∧ wx.cell? ⟨w.heap.size, 4, none⟩ = some (.int .i64 ((jj : Nat) : Int)) ∧ wx.cell? ⟨bp, op + ii, none⟩ = some (.slice AI (P.getD ii []).length cI) ∧ wx.cell? ⟨bq, oq + jj, none⟩ = some (.slice AJ (Q.getD jj []).length cJ)) := Lib.hid fun wx hx => by
    have q := (hx.block w.heap.size (Array.getElem?_eq_some_iff.1 p0).1).trans p0
    exact ⟨cell_of_row _ _ 3 _ _ (0, 0) q, cell_of_row _ _ 4 _ _ (0, 0) q, ((hb.trans (hx.mono hb.size)).cell (p := ⟨bp, op + ii, none⟩) hbp).trans kI, ((hb.trans (hx.mono hb.size)).cell (p := ⟨bq, oq + jj, none⟩) hbq).trans kJ⟩
  have K0 := Lib.hid (HSX.out u (Below.refl _ _))
  have hwo := fun (wx : World) (hx : Below u.heap.size u wx) => sWithoutS_any bp op P.length c ii vsP wx hlP hvP.one (Nat.lt_of_lt_of_le (Nat.lt_of_lt_of_le hbp hb.size) hx.size) (fun j v hv => by have e := hcP j v hv; rw [add_off] at e ⊢; rw [← e]; exact hx.cell (Nat.lt_of_lt_of_le hbp hb.size)) (by omega) hnc hii
  have hrv := hvP.ex ii
  obtain ⟨vR, hvR⟩ : ∃ vR, exV vsP ii = vR := ⟨_, rfl⟩
  obtain ⟨R, hR⟩ : ∃ R, woL P [((ii : Nat) : Int)] = R := ⟨_, rfl⟩
  rw [hvR] at hwo hrv
  rw [hR] at hrv ⊢
  have hR9 : R.length ≤ 10 := by rw [← hR]; exact Nat.le_trans (woK_len _ _ _) hvl
  have HWO := Lib.hid hwo; have HRV := Lib.hid hrv; have HR9 : Hid (vR.length ≤ 10) := Lib.hid (by rw [hrv.len]; exact hR9); have HONE := Lib.hid hrv.one
  have hwq := fun (wx : World) (hx : Below u.heap.size u wx) => sWithoutS_any bq oq Q.length c2 jj vsQ wx hlQ hvQ.one (Nat.lt_of_lt_of_le (Nat.lt_of_lt_of_le hbq hb.size) hx.size) (fun j v hv => by have e := hcQ j v hv; rw [add_off] at e ⊢; rw [← e]; exact hx.cell (Nat.lt_of_lt_of_le hbq hb.size)) (by omega) hnc2 hjj
  have hrq := hvQ.ex jj
  obtain ⟨vQ, hvQ9⟩ : ∃ vQ, exV vsQ jj = vQ := ⟨_, rfl⟩
  obtain ⟨RQ, hRQ⟩ : ∃ RQ, woL Q [((jj : Nat) : Int)] = RQ := ⟨_, rfl⟩
  rw [hvQ9] at hwq hrq
  rw [hRQ] at hrq ⊢
  have hRQ9 : RQ.length ≤ 10 := by rw [← hRQ]; exact Nat.le_trans (woK_len _ _ _) hvlQ
  have HWQ := Lib.hid hwq; have HRVQ := Lib.hid hrq; have HRQ9 : Hid (vQ.length ≤ 10) := Lib.hid (by rw [hrq.len]; exact hRQ9); have HONEQ := Lib.hid hrq.one
  have HRW := Lib.hid (HRV.out.app HRVQ.out)
  have hjn := fun (wx : World) (hx : Below u.heap.size u wx) => sjoined_any 11 AI (P.getD ii []).length cI (P.getD ii []) AJ (Q.getD jj []).length cJ (Q.getD jj []) wx ((HRI.out.below hx).more hx.size) ((HRJ.out.below hx).more hx.size) (by omega) (by omega) (by omega) (by omega)
  obtain ⟨X, hX⟩ : ∃ X, (11 :: (P.getD ii [] ++ Q.getD jj [])) = X := ⟨_, rfl⟩
  rw [hX] at hjn ⊢
  have HJN := Lib.hid hjn
  have e0 := cell_of_row _ _ 0 _ _ (0, 0) HP0.out
  clear hu0 hb p0 hwo hrv hvR hR hR9 h hi0 hz0 hz1 hz2 hcp hcP hvP hlP hP hbp hwq hrq hvQ9 hRQ hRQ9 h2 hcq hcQ hvQ hlQ hQ hbq hvlQ hjn hX kI mI rI kJ mJ rJ
  generalize (P.getD ii []).length = NI at *
  generalize (Q.getD jj []).length = NJ at *
  have FB_0 := Lib.hid (Below.refl u.heap.size u)
  go_enter Tryz.func55, Tryz.ntmps55
  go_upto_region 1 with (fail)
  rw [← HU0.out]
  go_upto_region 7 with (fail)
  clear e0
  refine wp_region_held_drew (S := fun wx => wx.cell? ⟨w.heap.size, 3, none⟩ = some (.int .i64 ((ii : Nat) : Int)) ∧ wx.cell? ⟨w.heap.size, 4, none⟩ = some (.int .i64 ((jj : Nat) : Int)) ∧ wx.cell? ⟨bp, op + ii, none⟩ = some (.slice AI NI cI) ∧ wx.cell? ⟨bq, oq + jj, none⟩ = some (.slice AJ NJ cJ)) (by kernel_rfl) K0.out (fun hHeld => ?_)
  obtain ⟨wq1, hwq1⟩ : ∃ w', w' = u.drew := ⟨_, rfl⟩
  rw [← hwq1] at hHeld ⊢
  have bq1 : Below u.heap.size u wq1 := by rw [hwq1]; exact (Below.refl _ _).drew
  clear hwq1
  have FB_q2 := Lib.hid ((FB_0.out).trans ((bq1).mono (FB_0.out).size))
  clear FB_0
  refine tk (i := 0) (h := ?_)
  (try simp only [Act.put, setIfInBounds_toArray, set_cons_zero, set_cons_succ, getElem_toArray, getElem_cons_succ, getElem_cons_zero])
  refine tk (i := 1) (h := ?_)
  (try simp only [Act.put, setIfInBounds_toArray, set_cons_zero, set_cons_succ, getElem_toArray, getElem_cons_succ, getElem_cons_zero])
  refine tk (i := 4) (h := ?_)
  (try simp only [Act.put, setIfInBounds_toArray, set_cons_zero, set_cons_succ, getElem_toArray, getElem_cons_succ, getElem_cons_zero])
  refine tk (i := 5) (h := ?_)
  (try simp only [Act.put, setIfInBounds_toArray, set_cons_zero, set_cons_succ, getElem_toArray, getElem_cons_succ, getElem_cons_zero])
  refine tk (i := 9) (h := ?_)
  (try simp only [Act.put, setIfInBounds_toArray, set_cons_zero, set_cons_succ, getElem_toArray, getElem_cons_succ, getElem_cons_zero])
  refine tk (i := 10) (h := ?_)
  (try simp only [Act.put, setIfInBounds_toArray, set_cons_zero, set_cons_succ, getElem_toArray, getElem_cons_succ, getElem_cons_zero])
  refine tk (i := 14) (h := ?_)
  (try simp only [Act.put, setIfInBounds_toArray, set_cons_zero, set_cons_succ, getElem_toArray, getElem_cons_succ, getElem_cons_zero])
  refine tk (i := 15) (h := ?_)
  (try simp only [Act.put, setIfInBounds_toArray, set_cons_zero, set_cons_succ, getElem_toArray, getElem_cons_succ, getElem_cons_zero])
  refine tk (i := 2) (h := ?_)
  (try simp only [Act.put, setIfInBounds_toArray, set_cons_zero, set_cons_succ, getElem_toArray, getElem_cons_succ, getElem_cons_zero])
  refine tk (i := 6) (h := ?_)
  (try simp only [Act.put, setIfInBounds_toArray, set_cons_zero, set_cons_succ, getElem_toArray, getElem_cons_succ, getElem_cons_zero])
  refine tk (i := 11) (h := ?_)
  (try simp only [Act.put, setIfInBounds_toArray, set_cons_zero, set_cons_succ, getElem_toArray, getElem_cons_succ, getElem_cons_zero])
  refine tk (i := 16) (h := ?_)
  (try simp only [Act.put, setIfInBounds_toArray, set_cons_zero, set_cons_succ, getElem_toArray, getElem_cons_succ, getElem_cons_zero])
  refine tk (i := 12) (h := ?_)
  (try simp only [Act.put, setIfInBounds_toArray, set_cons_zero, set_cons_succ, getElem_toArray, getElem_cons_succ, getElem_cons_zero])
  refine tk (i := 17) (h := ?_)
  (try simp only [Act.put, setIfInBounds_toArray, set_cons_zero, set_cons_succ, getElem_toArray, getElem_cons_succ, getElem_cons_zero])
  refine tk (i := 13) (h := ?_)
  (try simp only [Act.put, setIfInBounds_toArray, set_cons_zero, set_cons_succ, getElem_toArray, getElem_cons_succ, getElem_cons_zero])
  refine tk (i := 18) (h := ?_)
  (try simp only [Act.put, setIfInBounds_toArray, set_cons_zero, set_cons_succ, getElem_toArray, getElem_cons_succ, getElem_cons_zero])
  refine t1 (i := 3) (h := fun K hK => ?_)
  go_simp
  have KBq19 := Lib.hid FB_q2.out.size
  refine (HWO.out wq1 FB_q2.out).mono ?_
  rintro e wq19 ⟨gRq19, kRq19, rfl, oq19, belq19⟩
  dsimp only
  have FB_q20 := Lib.hid ((FB_q2.out).trans ((belq19).mono (FB_q2.out).size))
  clear FB_q2
  have FO_q19 := Lib.hid (own_base oq19 KBq19.out)
  clear oq19 belq19
  refine hK.out _ _ (HSX.out _ FB_q20.out) (fun hHeld => ?_)
  clear hK K
  (try simp only [Act.put, setIfInBounds_toArray, set_cons_zero, set_cons_succ, getElem_toArray, getElem_cons_succ, getElem_cons_zero])
  refine t1 (i := 7) (h := fun K hK => ?_)
  go_simp
  have KBq21 := Lib.hid FB_q20.out.size
  refine (HWQ.out wq19 FB_q20.out).mono ?_
  rintro e wq21 ⟨gRq21, kRq21, rfl, oq21, belq21⟩
  dsimp only
  have FB_q22 := Lib.hid ((FB_q20.out).trans ((belq21).mono (FB_q20.out).size))
  have FO_q23 := Lib.hid (own_below (FO_q19.out) (belq21) (Nat.le_refl _))
  clear FB_q20 FO_q19
  have FQ_q21 := Lib.hid (own_base oq21 KBq21.out)
  clear oq21 belq21
  refine hK.out _ _ (HSX.out _ FB_q22.out) (fun hHeld => ?_)
  clear hK K
  (try simp only [Act.put, setIfInBounds_toArray, set_cons_zero, set_cons_succ, getElem_toArray, getElem_cons_succ, getElem_cons_zero])
  refine t1 (i := 8) (h := fun K hK => ?_)
  refine step_append_o rfl _ _ 23 rfl u.heap.size 36 i0 (.slice none 0 0) 1 24 Tryz.underlying23 HI.out HZ0.out HZ1.out HZ2.out rfl (by decide) _ _ _ rfl FO_q23.out ⟨gRq21, 0, none⟩ vQ.length kRq21 vQ rfl (by rw [Nat.mul_one]) (FQ_q21.out.cells rfl) HONEQ.out (by have := HR9.out; have := HRQ9.out; unfold maxLen; omega) (by have := HR9.out; have := HRQ9.out; omega) FB_q22.out.size ?_
  intro v7 wq24 hown7 hgrow7 _
  obtain ⟨A7, c7, rfl⟩ := own_shape hown7
  have FB_q24 := Lib.hid (FB_q22.out.grown hgrow7 FB_q22.out.size (fun k hk => (FO_q23.out.lt k hk).1)); have FO_q24 := Lib.hid hown7
  clear hown7 hgrow7
  refine hK.out _ _ (HSX.out _ FB_q24.out) (fun hHeld => ?_)
  clear hK K
  (try simp only [Act.put, setIfInBounds_toArray, set_cons_zero, set_cons_succ, getElem_toArray, getElem_cons_succ, getElem_cons_zero])
  refine t1 (i := 19) (h := fun K hK => ?_)
  go_simp
  have KBq25 := Lib.hid FB_q24.out.size
  refine (HJN.out wq24 FB_q24.out).mono ?_
  rintro e wq25 ⟨AX, cX, rfl, oq25, belq25⟩
  dsimp only
  have FB_q26 := Lib.hid ((FB_q24.out).trans ((belq25).mono (FB_q24.out).size))
  have FO_q27 := Lib.hid (own_below (FO_q24.out) (belq25) (Nat.le_refl _))
  clear FB_q24 FO_q24
  have FX_q25 := Lib.hid (own_base oq25 KBq25.out)
  clear oq25 belq25
  refine hK.out _ _ (HSX.out _ FB_q26.out) (fun hHeld => ?_)
  clear hK K
  (try simp only [Act.put, setIfInBounds_toArray, set_cons_zero, set_cons_succ, getElem_toArray, getElem_cons_succ, getElem_cons_zero])
  refine t1 (i := 20) (h := fun K hK => ?_)
  go_simp
  obtain ⟨wq28, hwq28⟩ : ∃ w', w' = wq25.alloc (.cells #[Value.slice AX X.length cX] 36) := ⟨_, rfl⟩
  rw [← hwq28]
  have bq28 := al hwq28
  have gq28 := an hwq28
  clear hwq28
  have FB_q29 := Lib.hid ((FB_q26.out).trans ((bq28).mono (FB_q26.out).size))
  have FO_q30 := Lib.hid (own_below (FO_q27.out) (bq28) (Nat.le_refl _))
  have FX_q31 := Lib.hid (own_below (FX_q25.out) (bq28) (Nat.le_refl _))
  clear FB_q26 FO_q27 FX_q25
  obtain ⟨gnq32, hgq32⟩ : ∃ b, wq25.heap.size = b := ⟨_, rfl⟩
  have FN_q32 := Lib.hid gq28
  rw [hgq32] at FN_q32 ⊢
  clear hgq32 gq28 bq28
  refine hK.out _ _ (HSX.out _ FB_q29.out) (fun hHeld => ?_)
  clear hK K
  (try simp only [Act.put, setIfInBounds_toArray, set_cons_zero, set_cons_succ, getElem_toArray, getElem_cons_succ, getElem_cons_zero])
  refine t1 (i := 21) (h := fun K hK => ?_)
  refine step_append_o rfl _ _ 23 rfl u.heap.size 36 i0 (.slice none 0 0) 1 24 Tryz.underlying23 HI.out HZ0.out HZ1.out HZ2.out rfl (by decide) _ _ _ rfl FO_q30.out ⟨gnq32, 0, none⟩ 1 1 [.slice AX X.length cX] rfl rfl (World.news_of_block FN_q32.out) (by simp [Value.oneCell']) (by have := HR9.out; have := HRQ9.out; unfold maxLen; omega) (by have := HR9.out; have := HRQ9.out; omega) FB_q29.out.size ?_
  intro v7 wq33 hown7 hgrow7 _
  have FB_q33 := Lib.hid (FB_q29.out.grown hgrow7 FB_q29.out.size (fun k hk => (FO_q30.out.lt k hk).1))
  obtain ⟨A7, c7, rfl, bq33, oq33, rq33⟩ := rule_out HBU.out FB_q29.out (by rw [← List.length_append]; rw [← HRW.out.len]) FO_q30.out HRW.out (RdI.of_own FX_q31.out) (row_apart FX_q31.out FO_q30.out (by decide)) (own_cap1 FX_q31.out) hown7 hgrow7
  have HB9 := Lib.hid bq33; have HO9 := Lib.hid oq33; have HV9 := Lib.hid rq33
  clear bq33 oq33 rq33 hown7 hgrow7
  refine hK.out _ _ (HSX.out _ FB_q33.out) (fun hHeld => ?_)
  clear hK K
  (try simp only [Act.put, setIfInBounds_toArray, set_cons_zero, set_cons_succ, getElem_toArray, getElem_cons_succ, getElem_cons_zero])
  refine t1 (i := 22) (h := fun K hK => ?_)
  go_simp
  refine hK.out _ _ hHeld (fun hHeld => ?_)
  clear hK K
  (try simp only [Act.put, setIfInBounds_toArray, set_cons_zero, set_cons_succ, getElem_toArray, getElem_cons_succ, getElem_cons_zero])
  refine wpAnyH_done (by kernel_rfl) ?_ _
  clear HSX
  go_wp2
  go_ret
  exact givesV_app HO9.out HV9.out HB9.out
end
section
open Go.ChangeAt Go.ChangeShapes Go.RowKit Go.WideShapes
open List (setIfInBounds_toArray set_cons_zero set_cons_succ getElem_toArray getElem_cons_succ getElem_cons_zero)

set_option linter.unusedSimpArgs false in
set_option maxRecDepth 100000 in
set_option maxHeartbeats 16000000 in
theorem cc_4 (a b : Int) (ii jj : Nat) (B : Option Addr) (m d : Nat) (F : List Int) (A : Option Addr) (n c : Nat) (P : List (List Int)) (A2 : Option Addr) (n2 c2 : Nat) (Q : List (List Int)) (w : World) (h : RdQ w w.heap.size A n P) (hnc : n ≤ c) (hP : validQ P = true) (hii : ii < P.length) (hjj : jj < P.length) (hij : ii ≠ jj) :
    Calls Tryz.prog 55 #[.slice A n c, .slice A2 n2 c2, Value.agg #[Value.int .i64 4, Value.int .i64 a, Value.int .i64 b, Value.int .i64 ((ii : Nat) : Int), Value.int .i64 ((jj : Nat) : Int), Value.slice B m d]] w (GivesV w (cnL 4 ((ii : Nat) : Int) ((jj : Nat) : Int) F P Q)) := by
  obtain ⟨i0, hi0, hz0, hz1, hz2⟩ := info_parts_s
  have HI := Lib.hid hi0; have HZ0 := Lib.hid hz0; have HZ1 := Lib.hid hz1; have HZ2 := Lib.hid hz2
  have hl := h.len
  subst hl
  have hcn : cnL 4 ((ii : Nat) : Int) ((jj : Nat) : Int) F P Q = woL P [((ii : Nat) : Int), ((jj : Nat) : Int)] ++ [(12 :: (P.getD ii [] ++ P.getD jj []))] := rfl
  rw [hcn]
  clear hcn
  obtain ⟨u, hu0⟩ : ∃ u, u = w.alloc (.cells #[Value.int .i64 4, Value.int .i64 a, Value.int .i64 b, Value.int .i64 ((ii : Nat) : Int), Value.int .i64 ((jj : Nat) : Int), Value.slice B m d] 43) := ⟨_, rfl⟩
  have hb : Below w.heap.size w u := by rw [hu0]; exact box_any w _
  have p0 := an hu0
  have HU0 := Lib.hid hu0; have HBU := Lib.hid hb; have HP0 := Lib.hid p0
  have hvl := validQ_len hP
  obtain ⟨bp, op, rfl, hbp, hcp⟩ := h.2 (by omega)
  obtain ⟨vsP, hvP, hcP⟩ := RdV.of_q ((h.below hb).more hb.size)
  have hlP := hvP.len
  obtain ⟨AI, cI, kI, mI, rI⟩ := hcp ii (by omega)
  have HRI := Lib.hid ((rI.below hb).more hb.size); have HMI := Lib.hid mI
  have hlI : 0 < (P.getD ii []).length ∧ (P.getD ii []).length ≤ 24 := by have := valid_len (validQ_mem hP (getD_mem (show ii < _ by omega))); omega
  obtain ⟨AJ, cJ, kJ, mJ, rJ⟩ := hcp jj (by omega)
  have HRJ := Lib.hid ((rJ.below hb).more hb.size); have HMJ := Lib.hid mJ
  have hlJ : 0 < (P.getD jj []).length ∧ (P.getD jj []).length ≤ 24 := by have := valid_len (validQ_mem hP (getD_mem (show jj < _ by omega))); omega
  have HSX : Hid (∀ wx, Below u.heap.size u wx → wx.cell? ⟨w.heap.size, 3, none⟩ = some (.int .i64 ((ii : Nat) : Int)) ∧ wx.cell? ⟨w.heap.size, 4, none⟩ = some (.int .i64 ((jj : Nat) : Int)) ∧ wx.cell? ⟨bp, op + ii, none⟩ = some (.slice AI (P.getD ii []).length cI) ∧ wx.cell? ⟨bp, op + jj, none⟩ = some (.slice AJ (P.getD jj []).length cJ)) := Lib.hid fun wx hx => by
    have q := (hx.block w.heap.size (Array.getElem?_eq_some_iff.1 p0).1).trans p0
    exact ⟨cell_of_row _ _ 3 _ _ (0, 0) q, cell_of_row _ _ 4 _ _ (0, 0) q, ((hb.trans (hx.mono hb.size)).cell (p := ⟨bp, op + ii, none⟩) hbp).trans kI, ((hb.trans (hx.mono hb.size)).cell (p := ⟨bp, op + jj, none⟩) hbp).trans kJ⟩
  have K0 := Lib.hid (HSX.out u (Below.refl _ _))
  have hwo := fun (wx : World) (hx : Below u.heap.size u wx) => sTwoS_any bp op P.length c vsP ii jj wx hlP hvP.one (Nat.lt_of_lt_of_le (Nat.lt_of_lt_of_le hbp hb.size) hx.size) (fun j v hv => by have e := hcP j v hv; rw [add_off] at e ⊢; rw [← e]; exact hx.cell (Nat.lt_of_lt_of_le hbp hb.size)) (by omega) hnc hii hjj hij
  have hrv := hvP.exW hij
  obtain ⟨vR, hvR⟩ : ∃ vR, exW vsP ii jj = vR := ⟨_, rfl⟩
  obtain ⟨R, hR⟩ : ∃ R, woL P [((ii : Nat) : Int), ((jj : Nat) : Int)] = R := ⟨_, rfl⟩
  rw [hvR] at hwo hrv
  rw [hR] at hrv ⊢
  have hR9 : R.length ≤ 10 := by rw [← hR]; exact Nat.le_trans (woK_len _ _ _) hvl
  have HWO := Lib.hid hwo; have HRV := Lib.hid hrv; have HR9 : Hid (vR.length ≤ 10) := Lib.hid (by rw [hrv.len]; exact hR9); have HONE := Lib.hid hrv.one
  have hjn := fun (wx : World) (hx : Below u.heap.size u wx) => sjoined_any 12 AI (P.getD ii []).length cI (P.getD ii []) AJ (P.getD jj []).length cJ (P.getD jj []) wx ((HRI.out.below hx).more hx.size) ((HRJ.out.below hx).more hx.size) (by omega) (by omega) (by omega) (by omega)
  obtain ⟨X, hX⟩ : ∃ X, (12 :: (P.getD ii [] ++ P.getD jj [])) = X := ⟨_, rfl⟩
  rw [hX] at hjn ⊢
  have HJN := Lib.hid hjn
  have e0 := cell_of_row _ _ 0 _ _ (0, 0) HP0.out
  clear hu0 hb p0 hwo hrv hvR hR hR9 h hi0 hz0 hz1 hz2 hcp hcP hvP hlP hP hbp hjn hX kI mI rI kJ mJ rJ
  generalize (P.getD ii []).length = NI at *
  generalize (P.getD jj []).length = NJ at *
  have FB_0 := Lib.hid (Below.refl u.heap.size u)
  go_enter Tryz.func55, Tryz.ntmps55
  go_upto_region 1 with (fail)
  rw [← HU0.out]
  go_upto_region 9 with (fail)
  clear e0
  refine wp_region_held_drew (S := fun wx => wx.cell? ⟨w.heap.size, 3, none⟩ = some (.int .i64 ((ii : Nat) : Int)) ∧ wx.cell? ⟨w.heap.size, 4, none⟩ = some (.int .i64 ((jj : Nat) : Int)) ∧ wx.cell? ⟨bp, op + ii, none⟩ = some (.slice AI NI cI) ∧ wx.cell? ⟨bp, op + jj, none⟩ = some (.slice AJ NJ cJ)) (by kernel_rfl) K0.out (fun hHeld => ?_)
  obtain ⟨wq1, hwq1⟩ : ∃ w', w' = u.drew := ⟨_, rfl⟩
  rw [← hwq1] at hHeld ⊢
  have bq1 : Below u.heap.size u wq1 := by rw [hwq1]; exact (Below.refl _ _).drew
  clear hwq1
  have FB_q2 := Lib.hid ((FB_0.out).trans ((bq1).mono (FB_0.out).size))
  clear FB_0
  refine tk (i := 0) (h := ?_)
  (try simp only [Act.put, setIfInBounds_toArray, set_cons_zero, set_cons_succ, getElem_toArray, getElem_cons_succ, getElem_cons_zero])
  refine tk (i := 1) (h := ?_)
  (try simp only [Act.put, setIfInBounds_toArray, set_cons_zero, set_cons_succ, getElem_toArray, getElem_cons_succ, getElem_cons_zero])
  refine tk (i := 3) (h := ?_)
  (try simp only [Act.put, setIfInBounds_toArray, set_cons_zero, set_cons_succ, getElem_toArray, getElem_cons_succ, getElem_cons_zero])
  refine tk (i := 6) (h := ?_)
  (try simp only [Act.put, setIfInBounds_toArray, set_cons_zero, set_cons_succ, getElem_toArray, getElem_cons_succ, getElem_cons_zero])
  refine tk (i := 7) (h := ?_)
  (try simp only [Act.put, setIfInBounds_toArray, set_cons_zero, set_cons_succ, getElem_toArray, getElem_cons_succ, getElem_cons_zero])
  refine tk (i := 11) (h := ?_)
  (try simp only [Act.put, setIfInBounds_toArray, set_cons_zero, set_cons_succ, getElem_toArray, getElem_cons_succ, getElem_cons_zero])
  refine tk (i := 12) (h := ?_)
  (try simp only [Act.put, setIfInBounds_toArray, set_cons_zero, set_cons_succ, getElem_toArray, getElem_cons_succ, getElem_cons_zero])
  refine tk (i := 2) (h := ?_)
  (try simp only [Act.put, setIfInBounds_toArray, set_cons_zero, set_cons_succ, getElem_toArray, getElem_cons_succ, getElem_cons_zero])
  refine tk (i := 4) (h := ?_)
  (try simp only [Act.put, setIfInBounds_toArray, set_cons_zero, set_cons_succ, getElem_toArray, getElem_cons_succ, getElem_cons_zero])
  refine tk (i := 8) (h := ?_)
  (try simp only [Act.put, setIfInBounds_toArray, set_cons_zero, set_cons_succ, getElem_toArray, getElem_cons_succ, getElem_cons_zero])
  refine tk (i := 13) (h := ?_)
  (try simp only [Act.put, setIfInBounds_toArray, set_cons_zero, set_cons_succ, getElem_toArray, getElem_cons_succ, getElem_cons_zero])
  refine tk (i := 9) (h := ?_)
  (try simp only [Act.put, setIfInBounds_toArray, set_cons_zero, set_cons_succ, getElem_toArray, getElem_cons_succ, getElem_cons_zero])
  refine tk (i := 14) (h := ?_)
  (try simp only [Act.put, setIfInBounds_toArray, set_cons_zero, set_cons_succ, getElem_toArray, getElem_cons_succ, getElem_cons_zero])
  refine tk (i := 10) (h := ?_)
  (try simp only [Act.put, setIfInBounds_toArray, set_cons_zero, set_cons_succ, getElem_toArray, getElem_cons_succ, getElem_cons_zero])
  refine tk (i := 15) (h := ?_)
  (try simp only [Act.put, setIfInBounds_toArray, set_cons_zero, set_cons_succ, getElem_toArray, getElem_cons_succ, getElem_cons_zero])
  refine t1 (i := 5) (h := fun K hK => ?_)
  go_simp
  have KBq18 := Lib.hid FB_q2.out.size
  refine (HWO.out wq1 FB_q2.out).mono ?_
  rintro e wq18 ⟨gRq18, kRq18, rfl, oq18, belq18⟩
  dsimp only
  have FB_q19 := Lib.hid ((FB_q2.out).trans ((belq18).mono (FB_q2.out).size))
  clear FB_q2
  have FO_q18 := Lib.hid (own_base oq18 KBq18.out)
  clear oq18 belq18
  refine hK.out _ _ (HSX.out _ FB_q19.out) (fun hHeld => ?_)
  clear hK K
  (try simp only [Act.put, setIfInBounds_toArray, set_cons_zero, set_cons_succ, getElem_toArray, getElem_cons_succ, getElem_cons_zero])
  refine t1 (i := 16) (h := fun K hK => ?_)
  go_simp
  have KBq20 := Lib.hid FB_q19.out.size
  refine (HJN.out wq18 FB_q19.out).mono ?_
  rintro e wq20 ⟨AX, cX, rfl, oq20, belq20⟩
  dsimp only
  have FB_q21 := Lib.hid ((FB_q19.out).trans ((belq20).mono (FB_q19.out).size))
  have FO_q22 := Lib.hid (own_below (FO_q18.out) (belq20) (Nat.le_refl _))
  clear FB_q19 FO_q18
  have FX_q20 := Lib.hid (own_base oq20 KBq20.out)
  clear oq20 belq20
  refine hK.out _ _ (HSX.out _ FB_q21.out) (fun hHeld => ?_)
  clear hK K
  (try simp only [Act.put, setIfInBounds_toArray, set_cons_zero, set_cons_succ, getElem_toArray, getElem_cons_succ, getElem_cons_zero])
  refine t1 (i := 17) (h := fun K hK => ?_)
  go_simp
  obtain ⟨wq23, hwq23⟩ : ∃ w', w' = wq20.alloc (.cells #[Value.slice AX X.length cX] 36) := ⟨_, rfl⟩
  rw [← hwq23]
  have bq23 := al hwq23
  have gq23 := an hwq23
  clear hwq23
  have FB_q24 := Lib.hid ((FB_q21.out).trans ((bq23).mono (FB_q21.out).size))
  have FO_q25 := Lib.hid (own_below (FO_q22.out) (bq23) (Nat.le_refl _))
  have FX_q26 := Lib.hid (own_below (FX_q20.out) (bq23) (Nat.le_refl _))
  clear FB_q21 FO_q22 FX_q20
  obtain ⟨gnq27, hgq27⟩ : ∃ b, wq20.heap.size = b := ⟨_, rfl⟩
  have FN_q27 := Lib.hid gq23
  rw [hgq27] at FN_q27 ⊢
  clear hgq27 gq23 bq23
  refine hK.out _ _ (HSX.out _ FB_q24.out) (fun hHeld => ?_)
  clear hK K
  (try simp only [Act.put, setIfInBounds_toArray, set_cons_zero, set_cons_succ, getElem_toArray, getElem_cons_succ, getElem_cons_zero])
  refine t1 (i := 18) (h := fun K hK => ?_)
  refine step_append_o rfl _ _ 23 rfl u.heap.size 36 i0 (.slice none 0 0) 1 24 Tryz.underlying23 HI.out HZ0.out HZ1.out HZ2.out rfl (by decide) _ _ _ rfl FO_q25.out ⟨gnq27, 0, none⟩ 1 1 [.slice AX X.length cX] rfl rfl (World.news_of_block FN_q27.out) (by simp [Value.oneCell']) (by have := HR9.out; unfold maxLen; omega) (by have := HR9.out; omega) FB_q24.out.size ?_
  intro v7 wq28 hown7 hgrow7 _
  have FB_q28 := Lib.hid (FB_q24.out.grown hgrow7 FB_q24.out.size (fun k hk => (FO_q25.out.lt k hk).1))
  obtain ⟨A7, c7, rfl, bq28, oq28, rq28⟩ := rule_out HBU.out FB_q24.out (by rw [← HRV.out.len]) FO_q25.out HRV.out (RdI.of_own FX_q26.out) (row_apart FX_q26.out FO_q25.out (by decide)) (own_cap1 FX_q26.out) hown7 hgrow7
  have HB9 := Lib.hid bq28; have HO9 := Lib.hid oq28; have HV9 := Lib.hid rq28
  clear bq28 oq28 rq28 hown7 hgrow7
  refine hK.out _ _ (HSX.out _ FB_q28.out) (fun hHeld => ?_)
  clear hK K
  (try simp only [Act.put, setIfInBounds_toArray, set_cons_zero, set_cons_succ, getElem_toArray, getElem_cons_succ, getElem_cons_zero])
  refine t1 (i := 19) (h := fun K hK => ?_)
  go_simp
  refine hK.out _ _ hHeld (fun hHeld => ?_)
  clear hK K
  (try simp only [Act.put, setIfInBounds_toArray, set_cons_zero, set_cons_succ, getElem_toArray, getElem_cons_succ, getElem_cons_zero])
  refine wpAnyH_done (by kernel_rfl) ?_ _
  clear HSX
  go_wp2
  go_ret
  exact givesV_app HO9.out HV9.out HB9.out
end
section
open Go.ChangeAt Go.ChangeShapes Go.RowKit Go.WideShapes

/-- A premise that a step names or not. -/
def prm (p : Int) (named : Bool) (k : Nat) : Bool := if named = true then decide (0 ≤ p ∧ p ≤ (k : Int) - 1) else decide (p = -1)
def preB (r a b : Int) (k : Nat) : Bool := decide (1 ≤ r ∧ r ≤ 14) && (prm a (decide (0 < ruP r)) k && prm b (decide (1 < ruP r)) k)
set_option linter.unusedSimpArgs false in
set_option maxRecDepth 100000 in
set_option maxHeartbeats 40000000 in
theorem sPremiseCode_any (r a b i j : Int) (B : Option Addr) (m d k : Nat) (w : World) (hk : k ≤ 1000) :
    Calls Tryz.prog 41 #[Value.agg #[Value.int .i64 r, Value.int .i64 a, Value.int .i64 b, Value.int .i64 i, Value.int .i64 j, Value.slice B m d], .int .i64 k] w (GivesC w (preB r a b k)) := by
  obtain ⟨u, hu0⟩ : ∃ u, u = w.alloc (.cells #[Value.int .i64 r, Value.int .i64 a, Value.int .i64 b, Value.int .i64 i, Value.int .i64 j, Value.slice B m d] 43) := ⟨_, rfl⟩
  have hb := al hu0
  have p0 := an hu0
  have e0 := cell_of_row _ _ 0 _ _ (0, 0) p0
  have e1 := cell_of_row _ _ 1 _ _ (0, 0) p0
  have e2 := cell_of_row _ _ 2 _ _ (0, 0) p0
  have HU0 := Lib.hid hu0; have HBU := Lib.hid hb
  have hwk : IntKind.i64.wrap ((k : Int) - 1) = (k : Int) - 1 := IntWalk.i64_in _ (by omega)
  by_cases hr : 1 ≤ r ∧ r ≤ 14
  · have HE : Hid (preB r a b k = (prm a (decide (0 < ruP r)) k && prm b (decide (1 < ruP r)) k)) := Lib.hid (by unfold preB; rw [decide_eq_true hr]; rfl)
    have HPM := Lib.hid (premises_any u r hr.1 hr.2)
    have h3 := ruP_three r hr.1 hr.2
    generalize ruP r = np at *
    have HIA := Lib.hid (fun (wx : World) => inRange_any a 0 ((k : Int) - 1) wx)
    have HIB := Lib.hid (fun (wx : World) => inRange_any b 0 ((k : Int) - 1) wx)
    have HPA : Hid (∀ nm, prm a nm k = if nm = true then decide (0 ≤ a ∧ a ≤ (k : Int) - 1) else !(a != -1)) := Lib.hid fun nm => by
      unfold prm
      have : decide (a = -1) = !(a != -1) := by cases h : decide (a = -1) <;> simp_all
      rw [this]
    have HPB : Hid (∀ nm, prm b nm k = if nm = true then decide (0 ≤ b ∧ b ≤ (k : Int) - 1) else !(b != -1)) := Lib.hid fun nm => by
      unfold prm
      have : decide (b = -1) = !(b != -1) := by cases h : decide (b = -1) <;> simp_all
      rw [this]
    obtain ⟨va, hva⟩ : ∃ v, decide (0 ≤ a ∧ a ≤ (k : Int) - 1) = v := ⟨_, rfl⟩
    obtain ⟨vb, hvb⟩ : ∃ v, decide (0 ≤ b ∧ b ≤ (k : Int) - 1) = v := ⟨_, rfl⟩
    obtain ⟨na, hna⟩ : ∃ v, (a != -1) = v := ⟨_, rfl⟩
    obtain ⟨nb, hnb⟩ : ∃ v, (b != -1) = v := ⟨_, rfl⟩
    rw [hva] at HIA HPA; rw [hvb] at HIB HPB; rw [hna] at HPA; rw [hnb] at HPB
    rw [HPA.out, HPB.out] at HE
    generalize preB r a b k = V at *
    clear hu0 hb p0 hva hvb hr HPA HPB
    rcases h3 with rfl | rfl | rfl
    · cases na with
      | true =>
        have HV : Hid (V = false) := Lib.hid (by rw [HE.out]; rfl)
        go_enter Tryz.func41, Tryz.ntmps41
        go_upto_region 1 with (fail)
        rw [← HU0.out]
        go_wp2_with (fail)
        refine HPM.out.mono ?_
        rintro e w' ⟨rfl, rfl⟩
        go_wp2
        go_ret
        exact gc_no (k := 2) (by decide) HV.out HBU.out
      | false =>
        cases nb with
        | true =>
          have HV : Hid (V = false) := Lib.hid (by rw [HE.out]; rfl)
          go_enter Tryz.func41, Tryz.ntmps41
          go_upto_region 1 with (fail)
          rw [← HU0.out]
          go_wp2_with (fail)
          refine HPM.out.mono ?_
          rintro e w' ⟨rfl, rfl⟩
          go_wp2
          go_ret
          exact gc_no (k := 2) (by decide) HV.out HBU.out
        | false =>
          have HV : Hid (V = true) := Lib.hid (by rw [HE.out]; rfl)
          go_enter Tryz.func41, Tryz.ntmps41
          go_upto_region 1 with (fail)
          rw [← HU0.out]
          go_wp2_with (fail)
          refine HPM.out.mono ?_
          rintro e w' ⟨rfl, rfl⟩
          go_wp2
          go_ret
          exact gc_yes HV.out HBU.out
    · cases va with
      | false =>
        have HV : Hid (V = false) := Lib.hid (by rw [HE.out]; rfl)
        go_enter Tryz.func41, Tryz.ntmps41
        go_upto_region 1 with (fail)
        rw [← HU0.out]
        go_wp2_with (fail)
        refine HPM.out.mono ?_
        rintro e w' ⟨rfl, rfl⟩
        go_wp2_with (fail)
        refine (HIA.out u).mono ?_
        rintro e w' ⟨rfl, rfl⟩
        go_wp2
        go_ret
        exact gc_no (k := 2) (by decide) HV.out HBU.out
      | true =>
        cases nb with
        | true =>
          have HV : Hid (V = false) := Lib.hid (by rw [HE.out]; rfl)
          go_enter Tryz.func41, Tryz.ntmps41
          go_upto_region 1 with (fail)
          rw [← HU0.out]
          go_wp2_with (fail)
          refine HPM.out.mono ?_
          rintro e w' ⟨rfl, rfl⟩
          go_wp2_with (fail)
          refine (HIA.out u).mono ?_
          rintro e w' ⟨rfl, rfl⟩
          go_wp2
          go_ret
          exact gc_no (k := 2) (by decide) HV.out HBU.out
        | false =>
          have HV : Hid (V = true) := Lib.hid (by rw [HE.out]; rfl)
          go_enter Tryz.func41, Tryz.ntmps41
          go_upto_region 1 with (fail)
          rw [← HU0.out]
          go_wp2_with (fail)
          refine HPM.out.mono ?_
          rintro e w' ⟨rfl, rfl⟩
          go_wp2_with (fail)
          refine (HIA.out u).mono ?_
          rintro e w' ⟨rfl, rfl⟩
          go_wp2
          go_ret
          exact gc_yes HV.out HBU.out
    · cases va with
      | false =>
        have HV : Hid (V = false) := Lib.hid (by rw [HE.out]; rfl)
        go_enter Tryz.func41, Tryz.ntmps41
        go_upto_region 1 with (fail)
        rw [← HU0.out]
        go_wp2_with (fail)
        refine HPM.out.mono ?_
        rintro e w' ⟨rfl, rfl⟩
        go_wp2_with (fail)
        refine (HIA.out u).mono ?_
        rintro e w' ⟨rfl, rfl⟩
        go_wp2
        go_ret
        exact gc_no (k := 2) (by decide) HV.out HBU.out
      | true =>
        have HV : Hid (V = vb) := Lib.hid (by rw [HE.out]; simp)
        go_enter Tryz.func41, Tryz.ntmps41
        go_upto_region 1 with (fail)
        rw [← HU0.out]
        go_wp2_with (fail)
        refine HPM.out.mono ?_
        rintro e w' ⟨rfl, rfl⟩
        go_wp2_with (fail)
        refine (HIA.out u).mono ?_
        rintro e w' ⟨rfl, rfl⟩
        go_wp2_with (fail)
        refine (HIB.out u).mono ?_
        rintro e w' ⟨rfl, rfl⟩
        cases vb with
        | false =>
          go_wp2
          go_ret
          exact gc_no (k := 2) (by decide) HV.out HBU.out
        | true =>
          go_wp2
          go_ret
          exact gc_yes HV.out HBU.out
  · have HV : Hid (preB r a b k = false) := Lib.hid (by unfold preB; rw [decide_eq_false hr]; rfl)
    have HPM := Lib.hid (premises_none r u hr)
    generalize preB r a b k = V at *
    clear hu0 hb p0 hr
    go_enter Tryz.func41, Tryz.ntmps41
    go_upto_region 1 with (fail)
    rw [← HU0.out]
    go_wp2_with (fail)
    refine HPM.out.mono ?_
    rintro e w' ⟨rfl, rfl⟩
    go_wp2
    go_ret
    exact gc_no (k := 1) (by decide) HV.out HBU.out
end
end Go.Proofs.YthbkcpacgnmcfaaGreatDoor
