/- The model's conclude at rule 7. Made by mkcme.py. The model's conclude at rule 8. Made by mkcme.py. The model's conclude at rule 9. Made by mkcme.py. -/
import Derived.Test.YthbkcpacgnmcfaaGreatDoorQCmC3a
import Derived.Test.YthbkcpacgnmcfaaGreatDoorQSubA
namespace Go.Proofs.YthbkcpacgnmcfaaGreatDoor
set_option linter.unusedSimpArgs false
set_option linter.unusedVariables false
section
open Go.ChangeAt Go.ChangeShapes Go.RowKit Go.WideShapes
open List (setIfInBounds_toArray set_cons_zero set_cons_succ getElem_toArray getElem_cons_succ getElem_cons_zero)

set_option linter.unusedSimpArgs false in
set_option maxRecDepth 100000 in
set_option maxHeartbeats 16000000 in
theorem cc_7 (a b : Int) (ii jj : Nat) (B : Option Addr) (m d : Nat) (F : List Int) (A : Option Addr) (n c : Nat) (P : List (List Int)) (A2 : Option Addr) (n2 c2 : Nat) (Q : List (List Int)) (w : World) (h : RdQ w w.heap.size A n P) (hnc : n ≤ c) (hP : validQ P = true) (hii : ii < P.length) (h2 : RdQ w w.heap.size A2 n2 Q) (hnc2 : n2 ≤ c2) (hQ : validQ Q = true) (hjj : jj < Q.length) :
    Calls Tryz.prog 55 #[.slice A n c, .slice A2 n2 c2, Value.agg #[Value.int .i64 7, Value.int .i64 a, Value.int .i64 b, Value.int .i64 ((ii : Nat) : Int), Value.int .i64 ((jj : Nat) : Int), Value.slice B m d]] w (GivesV w (cnL 7 ((ii : Nat) : Int) ((jj : Nat) : Int) F P Q)) := by
  obtain ⟨i0, hi0, hz0, hz1, hz2⟩ := info_parts_s
  have HI := Lib.hid hi0; have HZ0 := Lib.hid hz0; have HZ1 := Lib.hid hz1; have HZ2 := Lib.hid hz2
  have hl := h.len
  subst hl
  have hl2 := h2.len
  subst hl2
  have hcn : cnL 7 ((ii : Nat) : Int) ((jj : Nat) : Int) F P Q = woL P [((ii : Nat) : Int)] ++ [(16 :: (P.getD ii [] ++ Q.getD jj []))] := rfl
  rw [hcn]
  clear hcn
  obtain ⟨u, hu0⟩ : ∃ u, u = w.alloc (.cells #[Value.int .i64 7, Value.int .i64 a, Value.int .i64 b, Value.int .i64 ((ii : Nat) : Int), Value.int .i64 ((jj : Nat) : Int), Value.slice B m d] 43) := ⟨_, rfl⟩
  have hb : Below w.heap.size w u := by rw [hu0]; exact box_any w _
  have p0 := an hu0
  have HU0 := Lib.hid hu0; have HBU := Lib.hid hb; have HP0 := Lib.hid p0
  have hvl := validQ_len hP
  obtain ⟨bp, op, rfl, hbp, hcp⟩ := h.2 (by omega)
  obtain ⟨vsP, hvP, hcP⟩ := RdV.of_q ((h.below hb).more hb.size)
  have hlP := hvP.len
  obtain ⟨AI, cI, kI, mI, rI⟩ := hcp ii (by omega)
  have HRI := Lib.hid ((rI.below hb).more hb.size); have HMI := Lib.hid mI
  have hlI : 0 < (P.getD ii []).length ∧ (P.getD ii []).length ≤ 24 := by have := valid_len (validQ_mem hP (getD_mem (show ii < _ by omega))); omega
  have hvlQ := validQ_len hQ
  obtain ⟨bq, oq, rfl, hbq, hcq⟩ := h2.2 (by omega)
  obtain ⟨vsQ, hvQ, hcQ⟩ := RdV.of_q ((h2.below hb).more hb.size)
  have hlQ := hvQ.len
  obtain ⟨AJ, cJ, kJ, mJ, rJ⟩ := hcq jj (by omega)
  have HRJ := Lib.hid ((rJ.below hb).more hb.size); have HMJ := Lib.hid mJ
  have hlJ : 0 < (Q.getD jj []).length ∧ (Q.getD jj []).length ≤ 24 := by have := valid_len (validQ_mem hQ (getD_mem (show jj < _ by omega))); omega
  have HSX : Hid (∀ wx, Below u.heap.size u wx → wx.cell? ⟨w.heap.size, 3, none⟩ = some (.int .i64 ((ii : Nat) : Int)) ∧ wx.cell? ⟨w.heap.size, 4, none⟩ = some (.int .i64 ((jj : Nat) : Int)) ∧ wx.cell? ⟨bp, op + ii, none⟩ = some (.slice AI (P.getD ii []).length cI) ∧ wx.cell? ⟨bq, oq + jj, none⟩ = some (.slice AJ (Q.getD jj []).length cJ)) := Lib.hid fun wx hx => by
    have q := (hx.block w.heap.size (Array.getElem?_eq_some_iff.1 p0).1).trans p0
    exact ⟨cell_of_row _ _ 3 _ _ (0, 0) q, cell_of_row _ _ 4 _ _ (0, 0) q, ((hb.trans (hx.mono hb.size)).cell (p := ⟨bp, op + ii, none⟩) hbp).trans kI, ((hb.trans (hx.mono hb.size)).cell (p := ⟨bq, oq + jj, none⟩) hbq).trans kJ⟩
  have K0 := Lib.hid (HSX.out u (Below.refl _ _))
  have hwo := fun (wx : World) (hx : Below u.heap.size u wx) => sWithoutS_any bp op P.length c ii vsP wx hlP hvP.one (Nat.lt_of_lt_of_le (Nat.lt_of_lt_of_le hbp hb.size) hx.size) (fun j v hv => by have e := hcP j v hv; rw [add_off] at e ⊢; rw [← e]; exact hx.cell (Nat.lt_of_lt_of_le hbp hb.size)) (by omega) hnc hii
  have hrv := hvP.ex ii
  obtain ⟨vR, hvR⟩ : ∃ vR, exV vsP ii = vR := ⟨_, rfl⟩
  obtain ⟨R, hR⟩ : ∃ R, woL P [((ii : Nat) : Int)] = R := ⟨_, rfl⟩
  rw [hvR] at hwo hrv
  rw [hR] at hrv ⊢
  have hR9 : R.length ≤ 10 := by rw [← hR]; exact Nat.le_trans (woK_len _ _ _) hvl
  have HWO := Lib.hid hwo; have HRV := Lib.hid hrv; have HR9 : Hid (vR.length ≤ 10) := Lib.hid (by rw [hrv.len]; exact hR9); have HONE := Lib.hid hrv.one
  have hjn := fun (wx : World) (hx : Below u.heap.size u wx) => sjoined_any 16 AI (P.getD ii []).length cI (P.getD ii []) AJ (Q.getD jj []).length cJ (Q.getD jj []) wx ((HRI.out.below hx).more hx.size) ((HRJ.out.below hx).more hx.size) (by omega) (by omega) (by omega) (by omega)
  obtain ⟨X, hX⟩ : ∃ X, (16 :: (P.getD ii [] ++ Q.getD jj [])) = X := ⟨_, rfl⟩
  rw [hX] at hjn ⊢
  have HJN := Lib.hid hjn
  have e0 := cell_of_row _ _ 0 _ _ (0, 0) HP0.out
  clear hu0 hb p0 hwo hrv hvR hR hR9 h hi0 hz0 hz1 hz2 hcp hcP hvP hlP hP hbp h2 hcq hcQ hvQ hlQ hQ hbq hvlQ hjn hX kI mI rI kJ mJ rJ
  generalize (P.getD ii []).length = NI at *
  generalize (Q.getD jj []).length = NJ at *
  have FB_0 := Lib.hid (Below.refl u.heap.size u)
  go_enter Tryz.func55, Tryz.ntmps55
  go_upto_region 1 with (fail)
  rw [← HU0.out]
  go_upto_region 15 with (fail)
  clear e0
  refine wp_region_held_drew (S := fun wx => wx.cell? ⟨w.heap.size, 3, none⟩ = some (.int .i64 ((ii : Nat) : Int)) ∧ wx.cell? ⟨w.heap.size, 4, none⟩ = some (.int .i64 ((jj : Nat) : Int)) ∧ wx.cell? ⟨bp, op + ii, none⟩ = some (.slice AI NI cI) ∧ wx.cell? ⟨bq, oq + jj, none⟩ = some (.slice AJ NJ cJ)) (by kernel_rfl) K0.out (fun hHeld => ?_)
  obtain ⟨wq1, hwq1⟩ : ∃ w', w' = u.drew := ⟨_, rfl⟩
  rw [← hwq1] at hHeld ⊢
  have bq1 : Below u.heap.size u wq1 := by rw [hwq1]; exact (Below.refl _ _).drew
  clear hwq1
  have FB_q2 := Lib.hid ((FB_0.out).trans ((bq1).mono (FB_0.out).size))
  clear FB_0
  refine tk (i := 0) (h := ?_)
  (try simp only [Act.put, setIfInBounds_toArray, set_cons_zero, set_cons_succ, getElem_toArray, getElem_cons_succ, getElem_cons_zero])
  refine tk (i := 1) (h := ?_)
  (try simp only [Act.put, setIfInBounds_toArray, set_cons_zero, set_cons_succ, getElem_toArray, getElem_cons_succ, getElem_cons_zero])
  refine tk (i := 4) (h := ?_)
  (try simp only [Act.put, setIfInBounds_toArray, set_cons_zero, set_cons_succ, getElem_toArray, getElem_cons_succ, getElem_cons_zero])
  refine tk (i := 5) (h := ?_)
  (try simp only [Act.put, setIfInBounds_toArray, set_cons_zero, set_cons_succ, getElem_toArray, getElem_cons_succ, getElem_cons_zero])
  refine tk (i := 9) (h := ?_)
  (try simp only [Act.put, setIfInBounds_toArray, set_cons_zero, set_cons_succ, getElem_toArray, getElem_cons_succ, getElem_cons_zero])
  refine tk (i := 10) (h := ?_)
  (try simp only [Act.put, setIfInBounds_toArray, set_cons_zero, set_cons_succ, getElem_toArray, getElem_cons_succ, getElem_cons_zero])
  refine tk (i := 2) (h := ?_)
  (try simp only [Act.put, setIfInBounds_toArray, set_cons_zero, set_cons_succ, getElem_toArray, getElem_cons_succ, getElem_cons_zero])
  refine tk (i := 6) (h := ?_)
  (try simp only [Act.put, setIfInBounds_toArray, set_cons_zero, set_cons_succ, getElem_toArray, getElem_cons_succ, getElem_cons_zero])
  refine tk (i := 11) (h := ?_)
  (try simp only [Act.put, setIfInBounds_toArray, set_cons_zero, set_cons_succ, getElem_toArray, getElem_cons_succ, getElem_cons_zero])
  refine tk (i := 7) (h := ?_)
  (try simp only [Act.put, setIfInBounds_toArray, set_cons_zero, set_cons_succ, getElem_toArray, getElem_cons_succ, getElem_cons_zero])
  refine tk (i := 12) (h := ?_)
  (try simp only [Act.put, setIfInBounds_toArray, set_cons_zero, set_cons_succ, getElem_toArray, getElem_cons_succ, getElem_cons_zero])
  refine tk (i := 8) (h := ?_)
  (try simp only [Act.put, setIfInBounds_toArray, set_cons_zero, set_cons_succ, getElem_toArray, getElem_cons_succ, getElem_cons_zero])
  refine tk (i := 13) (h := ?_)
  (try simp only [Act.put, setIfInBounds_toArray, set_cons_zero, set_cons_succ, getElem_toArray, getElem_cons_succ, getElem_cons_zero])
  refine t1 (i := 3) (h := fun K hK => ?_)
  go_simp
  have KBq16 := Lib.hid FB_q2.out.size
  refine (HWO.out wq1 FB_q2.out).mono ?_
  rintro e wq16 ⟨gRq16, kRq16, rfl, oq16, belq16⟩
  dsimp only
  have FB_q17 := Lib.hid ((FB_q2.out).trans ((belq16).mono (FB_q2.out).size))
  clear FB_q2
  have FO_q16 := Lib.hid (own_base oq16 KBq16.out)
  clear oq16 belq16
  refine hK.out _ _ (HSX.out _ FB_q17.out) (fun hHeld => ?_)
  clear hK K
  (try simp only [Act.put, setIfInBounds_toArray, set_cons_zero, set_cons_succ, getElem_toArray, getElem_cons_succ, getElem_cons_zero])
  refine t1 (i := 14) (h := fun K hK => ?_)
  go_simp
  have KBq18 := Lib.hid FB_q17.out.size
  refine (HJN.out wq16 FB_q17.out).mono ?_
  rintro e wq18 ⟨AX, cX, rfl, oq18, belq18⟩
  dsimp only
  have FB_q19 := Lib.hid ((FB_q17.out).trans ((belq18).mono (FB_q17.out).size))
  have FO_q20 := Lib.hid (own_below (FO_q16.out) (belq18) (Nat.le_refl _))
  clear FB_q17 FO_q16
  have FX_q18 := Lib.hid (own_base oq18 KBq18.out)
  clear oq18 belq18
  refine hK.out _ _ (HSX.out _ FB_q19.out) (fun hHeld => ?_)
  clear hK K
  (try simp only [Act.put, setIfInBounds_toArray, set_cons_zero, set_cons_succ, getElem_toArray, getElem_cons_succ, getElem_cons_zero])
  refine t1 (i := 15) (h := fun K hK => ?_)
  go_simp
  obtain ⟨wq21, hwq21⟩ : ∃ w', w' = wq18.alloc (.cells #[Value.slice AX X.length cX] 36) := ⟨_, rfl⟩
  rw [← hwq21]
  have bq21 := al hwq21
  have gq21 := an hwq21
  clear hwq21
  have FB_q22 := Lib.hid ((FB_q19.out).trans ((bq21).mono (FB_q19.out).size))
  have FO_q23 := Lib.hid (own_below (FO_q20.out) (bq21) (Nat.le_refl _))
  have FX_q24 := Lib.hid (own_below (FX_q18.out) (bq21) (Nat.le_refl _))
  clear FB_q19 FO_q20 FX_q18
  obtain ⟨gnq25, hgq25⟩ : ∃ b, wq18.heap.size = b := ⟨_, rfl⟩
  have FN_q25 := Lib.hid gq21
  rw [hgq25] at FN_q25 ⊢
  clear hgq25 gq21 bq21
  refine hK.out _ _ (HSX.out _ FB_q22.out) (fun hHeld => ?_)
  clear hK K
  (try simp only [Act.put, setIfInBounds_toArray, set_cons_zero, set_cons_succ, getElem_toArray, getElem_cons_succ, getElem_cons_zero])
  refine t1 (i := 16) (h := fun K hK => ?_)
  refine step_append_o rfl _ _ 23 rfl u.heap.size 36 i0 (.slice none 0 0) 1 24 Tryz.underlying23 HI.out HZ0.out HZ1.out HZ2.out rfl (by decide) _ _ _ rfl FO_q23.out ⟨gnq25, 0, none⟩ 1 1 [.slice AX X.length cX] rfl rfl (World.news_of_block FN_q25.out) (by simp [Value.oneCell']) (by have := HR9.out; unfold maxLen; omega) (by have := HR9.out; omega) FB_q22.out.size ?_
  intro v7 wq26 hown7 hgrow7 _
  have FB_q26 := Lib.hid (FB_q22.out.grown hgrow7 FB_q22.out.size (fun k hk => (FO_q23.out.lt k hk).1))
  obtain ⟨A7, c7, rfl, bq26, oq26, rq26⟩ := rule_out HBU.out FB_q22.out (by rw [← HRV.out.len]) FO_q23.out HRV.out (RdI.of_own FX_q24.out) (row_apart FX_q24.out FO_q23.out (by decide)) (own_cap1 FX_q24.out) hown7 hgrow7
  have HB9 := Lib.hid bq26; have HO9 := Lib.hid oq26; have HV9 := Lib.hid rq26
  clear bq26 oq26 rq26 hown7 hgrow7
  refine hK.out _ _ (HSX.out _ FB_q26.out) (fun hHeld => ?_)
  clear hK K
  (try simp only [Act.put, setIfInBounds_toArray, set_cons_zero, set_cons_succ, getElem_toArray, getElem_cons_succ, getElem_cons_zero])
  refine t1 (i := 17) (h := fun K hK => ?_)
  go_simp
  refine hK.out _ _ hHeld (fun hHeld => ?_)
  clear hK K
  (try simp only [Act.put, setIfInBounds_toArray, set_cons_zero, set_cons_succ, getElem_toArray, getElem_cons_succ, getElem_cons_zero])
  refine wpAnyH_done (by kernel_rfl) ?_ _
  clear HSX
  go_wp2
  go_ret
  exact givesV_app HO9.out HV9.out HB9.out
end
section
open Go.ChangeAt Go.ChangeShapes Go.RowKit Go.WideShapes
open List (setIfInBounds_toArray set_cons_zero set_cons_succ getElem_toArray getElem_cons_succ getElem_cons_zero)

set_option linter.unusedSimpArgs false in
set_option maxRecDepth 100000 in
set_option maxHeartbeats 16000000 in
theorem cc_8 (a b j : Int) (ii : Nat) (B : Option Addr) (m d : Nat) (F : List Int) (A : Option Addr) (n c : Nat) (P : List (List Int)) (A2 : Option Addr) (n2 c2 : Nat) (Q : List (List Int)) (w : World) (h : RdQ w w.heap.size A n P) (hnc : n ≤ c) (hP : validQ P = true) (hii : ii < P.length) (hf : RdI w w.heap.size B m F) (hF : validB F = true) :
    Calls Tryz.prog 55 #[.slice A n c, .slice A2 n2 c2, Value.agg #[Value.int .i64 8, Value.int .i64 a, Value.int .i64 b, Value.int .i64 ((ii : Nat) : Int), Value.int .i64 j, Value.slice B m d]] w (GivesV w (cnL 8 ((ii : Nat) : Int) j F P Q)) := by
  obtain ⟨i0, hi0, hz0, hz1, hz2⟩ := info_parts_s
  have HI := Lib.hid hi0; have HZ0 := Lib.hid hz0; have HZ1 := Lib.hid hz1; have HZ2 := Lib.hid hz2
  have hl := h.len
  subst hl
  have hl3 := hf.len
  subst hl3
  have hcn : cnL 8 ((ii : Nat) : Int) j F P Q = woL P [((ii : Nat) : Int)] ++ [(15 :: (P.getD ii [] ++ F))] := rfl
  rw [hcn]
  clear hcn
  obtain ⟨u, hu0⟩ : ∃ u, u = w.alloc (.cells #[Value.int .i64 8, Value.int .i64 a, Value.int .i64 b, Value.int .i64 ((ii : Nat) : Int), Value.int .i64 j, Value.slice B F.length d] 43) := ⟨_, rfl⟩
  have hb : Below w.heap.size w u := by rw [hu0]; exact box_any w _
  have p0 := an hu0
  have HU0 := Lib.hid hu0; have HBU := Lib.hid hb; have HP0 := Lib.hid p0
  have hvl := validQ_len hP
  obtain ⟨bp, op, rfl, hbp, hcp⟩ := h.2 (by omega)
  obtain ⟨vsP, hvP, hcP⟩ := RdV.of_q ((h.below hb).more hb.size)
  have hlP := hvP.len
  obtain ⟨AI, cI, kI, mI, rI⟩ := hcp ii (by omega)
  have HRI := Lib.hid ((rI.below hb).more hb.size); have HMI := Lib.hid mI
  have hlI : 0 < (P.getD ii []).length ∧ (P.getD ii []).length ≤ 24 := by have := valid_len (validQ_mem hP (getD_mem (show ii < _ by omega))); omega
  have HRF := Lib.hid ((hf.below hb).more hb.size)
  have hlF : 0 < F.length ∧ F.length ≤ 24 := by have := valid_len hF; omega
  have HSX : Hid (∀ wx, Below u.heap.size u wx → wx.cell? ⟨w.heap.size, 3, none⟩ = some (.int .i64 ((ii : Nat) : Int)) ∧ wx.cell? ⟨w.heap.size, 5, none⟩ = some (.slice B F.length d) ∧ wx.cell? ⟨bp, op + ii, none⟩ = some (.slice AI (P.getD ii []).length cI)) := Lib.hid fun wx hx => by
    have q := (hx.block w.heap.size (Array.getElem?_eq_some_iff.1 p0).1).trans p0
    exact ⟨cell_of_row _ _ 3 _ _ (0, 0) q, cell_of_row _ _ 5 _ _ (0, 0) q, ((hb.trans (hx.mono hb.size)).cell (p := ⟨bp, op + ii, none⟩) hbp).trans kI⟩
  have K0 := Lib.hid (HSX.out u (Below.refl _ _))
  have hwo := fun (wx : World) (hx : Below u.heap.size u wx) => sWithoutS_any bp op P.length c ii vsP wx hlP hvP.one (Nat.lt_of_lt_of_le (Nat.lt_of_lt_of_le hbp hb.size) hx.size) (fun j v hv => by have e := hcP j v hv; rw [add_off] at e ⊢; rw [← e]; exact hx.cell (Nat.lt_of_lt_of_le hbp hb.size)) (by omega) hnc hii
  have hrv := hvP.ex ii
  obtain ⟨vR, hvR⟩ : ∃ vR, exV vsP ii = vR := ⟨_, rfl⟩
  obtain ⟨R, hR⟩ : ∃ R, woL P [((ii : Nat) : Int)] = R := ⟨_, rfl⟩
  rw [hvR] at hwo hrv
  rw [hR] at hrv ⊢
  have hR9 : R.length ≤ 10 := by rw [← hR]; exact Nat.le_trans (woK_len _ _ _) hvl
  have HWO := Lib.hid hwo; have HRV := Lib.hid hrv; have HR9 : Hid (vR.length ≤ 10) := Lib.hid (by rw [hrv.len]; exact hR9); have HONE := Lib.hid hrv.one
  have hjn := fun (wx : World) (hx : Below u.heap.size u wx) => sjoined_any 15 AI (P.getD ii []).length cI (P.getD ii []) B F.length d (F) wx ((HRI.out.below hx).more hx.size) ((HRF.out.below hx).more hx.size) (by omega) (by omega) (by omega) (by omega)
  obtain ⟨X, hX⟩ : ∃ X, (15 :: (P.getD ii [] ++ F)) = X := ⟨_, rfl⟩
  rw [hX] at hjn ⊢
  have HJN := Lib.hid hjn
  have e0 := cell_of_row _ _ 0 _ _ (0, 0) HP0.out
  clear hu0 hb p0 hwo hrv hvR hR hR9 h hi0 hz0 hz1 hz2 hcp hcP hvP hlP hP hbp hf hF hjn hX kI mI rI
  generalize (P.getD ii []).length = NI at *
  have FB_0 := Lib.hid (Below.refl u.heap.size u)
  go_enter Tryz.func55, Tryz.ntmps55
  go_upto_region 1 with (fail)
  rw [← HU0.out]
  go_upto_region 17 with (fail)
  clear e0
  refine wp_region_held_drew (S := fun wx => wx.cell? ⟨w.heap.size, 3, none⟩ = some (.int .i64 ((ii : Nat) : Int)) ∧ wx.cell? ⟨w.heap.size, 5, none⟩ = some (.slice B F.length d) ∧ wx.cell? ⟨bp, op + ii, none⟩ = some (.slice AI NI cI)) (by kernel_rfl) K0.out (fun hHeld => ?_)
  obtain ⟨wq1, hwq1⟩ : ∃ w', w' = u.drew := ⟨_, rfl⟩
  rw [← hwq1] at hHeld ⊢
  have bq1 : Below u.heap.size u wq1 := by rw [hwq1]; exact (Below.refl _ _).drew
  clear hwq1
  have FB_q2 := Lib.hid ((FB_0.out).trans ((bq1).mono (FB_0.out).size))
  clear FB_0
  refine tk (i := 0) (h := ?_)
  (try simp only [Act.put, setIfInBounds_toArray, set_cons_zero, set_cons_succ, getElem_toArray, getElem_cons_succ, getElem_cons_zero])
  refine tk (i := 1) (h := ?_)
  (try simp only [Act.put, setIfInBounds_toArray, set_cons_zero, set_cons_succ, getElem_toArray, getElem_cons_succ, getElem_cons_zero])
  refine tk (i := 4) (h := ?_)
  (try simp only [Act.put, setIfInBounds_toArray, set_cons_zero, set_cons_succ, getElem_toArray, getElem_cons_succ, getElem_cons_zero])
  refine tk (i := 5) (h := ?_)
  (try simp only [Act.put, setIfInBounds_toArray, set_cons_zero, set_cons_succ, getElem_toArray, getElem_cons_succ, getElem_cons_zero])
  refine tk (i := 9) (h := ?_)
  (try simp only [Act.put, setIfInBounds_toArray, set_cons_zero, set_cons_succ, getElem_toArray, getElem_cons_succ, getElem_cons_zero])
  refine tk (i := 2) (h := ?_)
  (try simp only [Act.put, setIfInBounds_toArray, set_cons_zero, set_cons_succ, getElem_toArray, getElem_cons_succ, getElem_cons_zero])
  refine tk (i := 6) (h := ?_)
  (try simp only [Act.put, setIfInBounds_toArray, set_cons_zero, set_cons_succ, getElem_toArray, getElem_cons_succ, getElem_cons_zero])
  refine tk (i := 10) (h := ?_)
  (try simp only [Act.put, setIfInBounds_toArray, set_cons_zero, set_cons_succ, getElem_toArray, getElem_cons_succ, getElem_cons_zero])
  refine tk (i := 7) (h := ?_)
  (try simp only [Act.put, setIfInBounds_toArray, set_cons_zero, set_cons_succ, getElem_toArray, getElem_cons_succ, getElem_cons_zero])
  refine tk (i := 8) (h := ?_)
  (try simp only [Act.put, setIfInBounds_toArray, set_cons_zero, set_cons_succ, getElem_toArray, getElem_cons_succ, getElem_cons_zero])
  refine t1 (i := 3) (h := fun K hK => ?_)
  go_simp
  have KBq13 := Lib.hid FB_q2.out.size
  refine (HWO.out wq1 FB_q2.out).mono ?_
  rintro e wq13 ⟨gRq13, kRq13, rfl, oq13, belq13⟩
  dsimp only
  have FB_q14 := Lib.hid ((FB_q2.out).trans ((belq13).mono (FB_q2.out).size))
  clear FB_q2
  have FO_q13 := Lib.hid (own_base oq13 KBq13.out)
  clear oq13 belq13
  refine hK.out _ _ (HSX.out _ FB_q14.out) (fun hHeld => ?_)
  clear hK K
  (try simp only [Act.put, setIfInBounds_toArray, set_cons_zero, set_cons_succ, getElem_toArray, getElem_cons_succ, getElem_cons_zero])
  refine t1 (i := 11) (h := fun K hK => ?_)
  go_simp
  have KBq15 := Lib.hid FB_q14.out.size
  refine (HJN.out wq13 FB_q14.out).mono ?_
  rintro e wq15 ⟨AX, cX, rfl, oq15, belq15⟩
  dsimp only
  have FB_q16 := Lib.hid ((FB_q14.out).trans ((belq15).mono (FB_q14.out).size))
  have FO_q17 := Lib.hid (own_below (FO_q13.out) (belq15) (Nat.le_refl _))
  clear FB_q14 FO_q13
  have FX_q15 := Lib.hid (own_base oq15 KBq15.out)
  clear oq15 belq15
  refine hK.out _ _ (HSX.out _ FB_q16.out) (fun hHeld => ?_)
  clear hK K
  (try simp only [Act.put, setIfInBounds_toArray, set_cons_zero, set_cons_succ, getElem_toArray, getElem_cons_succ, getElem_cons_zero])
  refine t1 (i := 12) (h := fun K hK => ?_)
  go_simp
  obtain ⟨wq18, hwq18⟩ : ∃ w', w' = wq15.alloc (.cells #[Value.slice AX X.length cX] 36) := ⟨_, rfl⟩
  rw [← hwq18]
  have bq18 := al hwq18
  have gq18 := an hwq18
  clear hwq18
  have FB_q19 := Lib.hid ((FB_q16.out).trans ((bq18).mono (FB_q16.out).size))
  have FO_q20 := Lib.hid (own_below (FO_q17.out) (bq18) (Nat.le_refl _))
  have FX_q21 := Lib.hid (own_below (FX_q15.out) (bq18) (Nat.le_refl _))
  clear FB_q16 FO_q17 FX_q15
  obtain ⟨gnq22, hgq22⟩ : ∃ b, wq15.heap.size = b := ⟨_, rfl⟩
  have FN_q22 := Lib.hid gq18
  rw [hgq22] at FN_q22 ⊢
  clear hgq22 gq18 bq18
  refine hK.out _ _ (HSX.out _ FB_q19.out) (fun hHeld => ?_)
  clear hK K
  (try simp only [Act.put, setIfInBounds_toArray, set_cons_zero, set_cons_succ, getElem_toArray, getElem_cons_succ, getElem_cons_zero])
  refine t1 (i := 13) (h := fun K hK => ?_)
  refine step_append_o rfl _ _ 23 rfl u.heap.size 36 i0 (.slice none 0 0) 1 24 Tryz.underlying23 HI.out HZ0.out HZ1.out HZ2.out rfl (by decide) _ _ _ rfl FO_q20.out ⟨gnq22, 0, none⟩ 1 1 [.slice AX X.length cX] rfl rfl (World.news_of_block FN_q22.out) (by simp [Value.oneCell']) (by have := HR9.out; unfold maxLen; omega) (by have := HR9.out; omega) FB_q19.out.size ?_
  intro v7 wq23 hown7 hgrow7 _
  have FB_q23 := Lib.hid (FB_q19.out.grown hgrow7 FB_q19.out.size (fun k hk => (FO_q20.out.lt k hk).1))
  obtain ⟨A7, c7, rfl, bq23, oq23, rq23⟩ := rule_out HBU.out FB_q19.out (by rw [← HRV.out.len]) FO_q20.out HRV.out (RdI.of_own FX_q21.out) (row_apart FX_q21.out FO_q20.out (by decide)) (own_cap1 FX_q21.out) hown7 hgrow7
  have HB9 := Lib.hid bq23; have HO9 := Lib.hid oq23; have HV9 := Lib.hid rq23
  clear bq23 oq23 rq23 hown7 hgrow7
  refine hK.out _ _ (HSX.out _ FB_q23.out) (fun hHeld => ?_)
  clear hK K
  (try simp only [Act.put, setIfInBounds_toArray, set_cons_zero, set_cons_succ, getElem_toArray, getElem_cons_succ, getElem_cons_zero])
  refine t1 (i := 14) (h := fun K hK => ?_)
  go_simp
  refine hK.out _ _ hHeld (fun hHeld => ?_)
  clear hK K
  (try simp only [Act.put, setIfInBounds_toArray, set_cons_zero, set_cons_succ, getElem_toArray, getElem_cons_succ, getElem_cons_zero])
  refine wpAnyH_done (by kernel_rfl) ?_ _
  clear HSX
  go_wp2
  go_ret
  exact givesV_app HO9.out HV9.out HB9.out
end
section
open Go.ChangeAt Go.ChangeShapes Go.RowKit Go.WideShapes
open List (setIfInBounds_toArray set_cons_zero set_cons_succ getElem_toArray getElem_cons_succ getElem_cons_zero)

set_option linter.unusedSimpArgs false in
set_option maxRecDepth 100000 in
set_option maxHeartbeats 16000000 in
theorem cc_9 (a b j : Int) (ii : Nat) (B : Option Addr) (m d : Nat) (F : List Int) (A : Option Addr) (n c : Nat) (P : List (List Int)) (A2 : Option Addr) (n2 c2 : Nat) (Q : List (List Int)) (w : World) (h : RdQ w w.heap.size A n P) (hnc : n ≤ c) (hP : validQ P = true) (hii : ii < P.length) (hf : RdI w w.heap.size B m F) (hF : validB F = true) :
    Calls Tryz.prog 55 #[.slice A n c, .slice A2 n2 c2, Value.agg #[Value.int .i64 9, Value.int .i64 a, Value.int .i64 b, Value.int .i64 ((ii : Nat) : Int), Value.int .i64 j, Value.slice B m d]] w (GivesV w (cnL 9 ((ii : Nat) : Int) j F P Q)) := by
  obtain ⟨i0, hi0, hz0, hz1, hz2⟩ := info_parts_s
  have HI := Lib.hid hi0; have HZ0 := Lib.hid hz0; have HZ1 := Lib.hid hz1; have HZ2 := Lib.hid hz2
  have hl := h.len
  subst hl
  have hl3 := hf.len
  subst hl3
  have hcn : cnL 9 ((ii : Nat) : Int) j F P Q = woL P [((ii : Nat) : Int)] ++ [(15 :: (F ++ P.getD ii []))] := rfl
  rw [hcn]
  clear hcn
  obtain ⟨u, hu0⟩ : ∃ u, u = w.alloc (.cells #[Value.int .i64 9, Value.int .i64 a, Value.int .i64 b, Value.int .i64 ((ii : Nat) : Int), Value.int .i64 j, Value.slice B F.length d] 43) := ⟨_, rfl⟩
  have hb : Below w.heap.size w u := by rw [hu0]; exact box_any w _
  have p0 := an hu0
  have HU0 := Lib.hid hu0; have HBU := Lib.hid hb; have HP0 := Lib.hid p0
  have hvl := validQ_len hP
  obtain ⟨bp, op, rfl, hbp, hcp⟩ := h.2 (by omega)
  obtain ⟨vsP, hvP, hcP⟩ := RdV.of_q ((h.below hb).more hb.size)
  have hlP := hvP.len
  obtain ⟨AI, cI, kI, mI, rI⟩ := hcp ii (by omega)
  have HRI := Lib.hid ((rI.below hb).more hb.size); have HMI := Lib.hid mI
  have hlI : 0 < (P.getD ii []).length ∧ (P.getD ii []).length ≤ 24 := by have := valid_len (validQ_mem hP (getD_mem (show ii < _ by omega))); omega
  have HRF := Lib.hid ((hf.below hb).more hb.size)
  have hlF : 0 < F.length ∧ F.length ≤ 24 := by have := valid_len hF; omega
  have HSX : Hid (∀ wx, Below u.heap.size u wx → wx.cell? ⟨w.heap.size, 3, none⟩ = some (.int .i64 ((ii : Nat) : Int)) ∧ wx.cell? ⟨w.heap.size, 5, none⟩ = some (.slice B F.length d) ∧ wx.cell? ⟨bp, op + ii, none⟩ = some (.slice AI (P.getD ii []).length cI)) := Lib.hid fun wx hx => by
    have q := (hx.block w.heap.size (Array.getElem?_eq_some_iff.1 p0).1).trans p0
    exact ⟨cell_of_row _ _ 3 _ _ (0, 0) q, cell_of_row _ _ 5 _ _ (0, 0) q, ((hb.trans (hx.mono hb.size)).cell (p := ⟨bp, op + ii, none⟩) hbp).trans kI⟩
  have K0 := Lib.hid (HSX.out u (Below.refl _ _))
  have hwo := fun (wx : World) (hx : Below u.heap.size u wx) => sWithoutS_any bp op P.length c ii vsP wx hlP hvP.one (Nat.lt_of_lt_of_le (Nat.lt_of_lt_of_le hbp hb.size) hx.size) (fun j v hv => by have e := hcP j v hv; rw [add_off] at e ⊢; rw [← e]; exact hx.cell (Nat.lt_of_lt_of_le hbp hb.size)) (by omega) hnc hii
  have hrv := hvP.ex ii
  obtain ⟨vR, hvR⟩ : ∃ vR, exV vsP ii = vR := ⟨_, rfl⟩
  obtain ⟨R, hR⟩ : ∃ R, woL P [((ii : Nat) : Int)] = R := ⟨_, rfl⟩
  rw [hvR] at hwo hrv
  rw [hR] at hrv ⊢
  have hR9 : R.length ≤ 10 := by rw [← hR]; exact Nat.le_trans (woK_len _ _ _) hvl
  have HWO := Lib.hid hwo; have HRV := Lib.hid hrv; have HR9 : Hid (vR.length ≤ 10) := Lib.hid (by rw [hrv.len]; exact hR9); have HONE := Lib.hid hrv.one
  have hjn := fun (wx : World) (hx : Below u.heap.size u wx) => sjoined_any 15 B F.length d (F) AI (P.getD ii []).length cI (P.getD ii []) wx ((HRF.out.below hx).more hx.size) ((HRI.out.below hx).more hx.size) (by omega) (by omega) (by omega) (by omega)
  obtain ⟨X, hX⟩ : ∃ X, (15 :: (F ++ P.getD ii [])) = X := ⟨_, rfl⟩
  rw [hX] at hjn ⊢
  have HJN := Lib.hid hjn
  have e0 := cell_of_row _ _ 0 _ _ (0, 0) HP0.out
  clear hu0 hb p0 hwo hrv hvR hR hR9 h hi0 hz0 hz1 hz2 hcp hcP hvP hlP hP hbp hf hF hjn hX kI mI rI
  generalize (P.getD ii []).length = NI at *
  have FB_0 := Lib.hid (Below.refl u.heap.size u)
  go_enter Tryz.func55, Tryz.ntmps55
  go_upto_region 1 with (fail)
  rw [← HU0.out]
  go_upto_region 19 with (fail)
  clear e0
  refine wp_region_held_drew (S := fun wx => wx.cell? ⟨w.heap.size, 3, none⟩ = some (.int .i64 ((ii : Nat) : Int)) ∧ wx.cell? ⟨w.heap.size, 5, none⟩ = some (.slice B F.length d) ∧ wx.cell? ⟨bp, op + ii, none⟩ = some (.slice AI NI cI)) (by kernel_rfl) K0.out (fun hHeld => ?_)
  obtain ⟨wq1, hwq1⟩ : ∃ w', w' = u.drew := ⟨_, rfl⟩
  rw [← hwq1] at hHeld ⊢
  have bq1 : Below u.heap.size u wq1 := by rw [hwq1]; exact (Below.refl _ _).drew
  clear hwq1
  have FB_q2 := Lib.hid ((FB_0.out).trans ((bq1).mono (FB_0.out).size))
  clear FB_0
  refine tk (i := 0) (h := ?_)
  (try simp only [Act.put, setIfInBounds_toArray, set_cons_zero, set_cons_succ, getElem_toArray, getElem_cons_succ, getElem_cons_zero])
  refine tk (i := 1) (h := ?_)
  (try simp only [Act.put, setIfInBounds_toArray, set_cons_zero, set_cons_succ, getElem_toArray, getElem_cons_succ, getElem_cons_zero])
  refine tk (i := 4) (h := ?_)
  (try simp only [Act.put, setIfInBounds_toArray, set_cons_zero, set_cons_succ, getElem_toArray, getElem_cons_succ, getElem_cons_zero])
  refine tk (i := 6) (h := ?_)
  (try simp only [Act.put, setIfInBounds_toArray, set_cons_zero, set_cons_succ, getElem_toArray, getElem_cons_succ, getElem_cons_zero])
  refine tk (i := 7) (h := ?_)
  (try simp only [Act.put, setIfInBounds_toArray, set_cons_zero, set_cons_succ, getElem_toArray, getElem_cons_succ, getElem_cons_zero])
  refine tk (i := 2) (h := ?_)
  (try simp only [Act.put, setIfInBounds_toArray, set_cons_zero, set_cons_succ, getElem_toArray, getElem_cons_succ, getElem_cons_zero])
  refine tk (i := 5) (h := ?_)
  (try simp only [Act.put, setIfInBounds_toArray, set_cons_zero, set_cons_succ, getElem_toArray, getElem_cons_succ, getElem_cons_zero])
  refine tk (i := 8) (h := ?_)
  (try simp only [Act.put, setIfInBounds_toArray, set_cons_zero, set_cons_succ, getElem_toArray, getElem_cons_succ, getElem_cons_zero])
  refine tk (i := 9) (h := ?_)
  (try simp only [Act.put, setIfInBounds_toArray, set_cons_zero, set_cons_succ, getElem_toArray, getElem_cons_succ, getElem_cons_zero])
  refine tk (i := 10) (h := ?_)
  (try simp only [Act.put, setIfInBounds_toArray, set_cons_zero, set_cons_succ, getElem_toArray, getElem_cons_succ, getElem_cons_zero])
  refine t1 (i := 3) (h := fun K hK => ?_)
  go_simp
  have KBq13 := Lib.hid FB_q2.out.size
  refine (HWO.out wq1 FB_q2.out).mono ?_
  rintro e wq13 ⟨gRq13, kRq13, rfl, oq13, belq13⟩
  dsimp only
  have FB_q14 := Lib.hid ((FB_q2.out).trans ((belq13).mono (FB_q2.out).size))
  clear FB_q2
  have FO_q13 := Lib.hid (own_base oq13 KBq13.out)
  clear oq13 belq13
  refine hK.out _ _ (HSX.out _ FB_q14.out) (fun hHeld => ?_)
  clear hK K
  (try simp only [Act.put, setIfInBounds_toArray, set_cons_zero, set_cons_succ, getElem_toArray, getElem_cons_succ, getElem_cons_zero])
  refine t1 (i := 11) (h := fun K hK => ?_)
  go_simp
  have KBq15 := Lib.hid FB_q14.out.size
  refine (HJN.out wq13 FB_q14.out).mono ?_
  rintro e wq15 ⟨AX, cX, rfl, oq15, belq15⟩
  dsimp only
  have FB_q16 := Lib.hid ((FB_q14.out).trans ((belq15).mono (FB_q14.out).size))
  have FO_q17 := Lib.hid (own_below (FO_q13.out) (belq15) (Nat.le_refl _))
  clear FB_q14 FO_q13
  have FX_q15 := Lib.hid (own_base oq15 KBq15.out)
  clear oq15 belq15
  refine hK.out _ _ (HSX.out _ FB_q16.out) (fun hHeld => ?_)
  clear hK K
  (try simp only [Act.put, setIfInBounds_toArray, set_cons_zero, set_cons_succ, getElem_toArray, getElem_cons_succ, getElem_cons_zero])
  refine t1 (i := 12) (h := fun K hK => ?_)
  go_simp
  obtain ⟨wq18, hwq18⟩ : ∃ w', w' = wq15.alloc (.cells #[Value.slice AX X.length cX] 36) := ⟨_, rfl⟩
  rw [← hwq18]
  have bq18 := al hwq18
  have gq18 := an hwq18
  clear hwq18
  have FB_q19 := Lib.hid ((FB_q16.out).trans ((bq18).mono (FB_q16.out).size))
  have FO_q20 := Lib.hid (own_below (FO_q17.out) (bq18) (Nat.le_refl _))
  have FX_q21 := Lib.hid (own_below (FX_q15.out) (bq18) (Nat.le_refl _))
  clear FB_q16 FO_q17 FX_q15
  obtain ⟨gnq22, hgq22⟩ : ∃ b, wq15.heap.size = b := ⟨_, rfl⟩
  have FN_q22 := Lib.hid gq18
  rw [hgq22] at FN_q22 ⊢
  clear hgq22 gq18 bq18
  refine hK.out _ _ (HSX.out _ FB_q19.out) (fun hHeld => ?_)
  clear hK K
  (try simp only [Act.put, setIfInBounds_toArray, set_cons_zero, set_cons_succ, getElem_toArray, getElem_cons_succ, getElem_cons_zero])
  refine t1 (i := 13) (h := fun K hK => ?_)
  refine step_append_o rfl _ _ 23 rfl u.heap.size 36 i0 (.slice none 0 0) 1 24 Tryz.underlying23 HI.out HZ0.out HZ1.out HZ2.out rfl (by decide) _ _ _ rfl FO_q20.out ⟨gnq22, 0, none⟩ 1 1 [.slice AX X.length cX] rfl rfl (World.news_of_block FN_q22.out) (by simp [Value.oneCell']) (by have := HR9.out; unfold maxLen; omega) (by have := HR9.out; omega) FB_q19.out.size ?_
  intro v7 wq23 hown7 hgrow7 _
  have FB_q23 := Lib.hid (FB_q19.out.grown hgrow7 FB_q19.out.size (fun k hk => (FO_q20.out.lt k hk).1))
  obtain ⟨A7, c7, rfl, bq23, oq23, rq23⟩ := rule_out HBU.out FB_q19.out (by rw [← HRV.out.len]) FO_q20.out HRV.out (RdI.of_own FX_q21.out) (row_apart FX_q21.out FO_q20.out (by decide)) (own_cap1 FX_q21.out) hown7 hgrow7
  have HB9 := Lib.hid bq23; have HO9 := Lib.hid oq23; have HV9 := Lib.hid rq23
  clear bq23 oq23 rq23 hown7 hgrow7
  refine hK.out _ _ (HSX.out _ FB_q23.out) (fun hHeld => ?_)
  clear hK K
  (try simp only [Act.put, setIfInBounds_toArray, set_cons_zero, set_cons_succ, getElem_toArray, getElem_cons_succ, getElem_cons_zero])
  refine t1 (i := 14) (h := fun K hK => ?_)
  go_simp
  refine hK.out _ _ hHeld (fun hHeld => ?_)
  clear hK K
  (try simp only [Act.put, setIfInBounds_toArray, set_cons_zero, set_cons_succ, getElem_toArray, getElem_cons_succ, getElem_cons_zero])
  refine wpAnyH_done (by kernel_rfl) ?_ _
  clear HSX
  go_wp2
  go_ret
  exact givesV_app HO9.out HV9.out HB9.out
end
end Go.Proofs.YthbkcpacgnmcfaaGreatDoor
