/- The model's conclude at rule 10. Made by mkcme.py. The model's conclude at rule 11. Made by mkcme.py. -/
import Derived.Test.YthbkcpacgnmcfaaGreatDoorQCmC3a
import Derived.Test.YthbkcpacgnmcfaaGreatDoorQSubA
namespace Go.Proofs.YthbkcpacgnmcfaaGreatDoor
set_option linter.unusedSimpArgs false
set_option linter.unusedVariables false
section
open Go.ChangeAt Go.ChangeShapes Go.RowKit Go.WideShapes
open List (setIfInBounds_toArray set_cons_zero set_cons_succ getElem_toArray getElem_cons_succ getElem_cons_zero)

set_option linter.unusedSimpArgs false in
set_option maxRecDepth 100000 in
set_option maxHeartbeats 16000000 in
theorem cc_10 (a b j : Int) (ii : Nat) (B : Option Addr) (m d : Nat) (F : List Int) (A : Option Addr) (n c : Nat) (P : List (List Int)) (A2 : Option Addr) (n2 c2 : Nat) (Q : List (List Int)) (w : World) (h : RdQ w w.heap.size A n P) (hnc : n ≤ c) (hP : validQ P = true) (hii : ii < P.length) :
    Calls Tryz.prog 55 #[.slice A n c, .slice A2 n2 c2, Value.agg #[Value.int .i64 10, Value.int .i64 a, Value.int .i64 b, Value.int .i64 ((ii : Nat) : Int), Value.int .i64 j, Value.slice B m d]] w (GivesV w (cnL 10 ((ii : Nat) : Int) j F P Q)) := by
  obtain ⟨i0, hi0, hz0, hz1, hz2⟩ := info_parts_s
  have HI := Lib.hid hi0; have HZ0 := Lib.hid hz0; have HZ1 := Lib.hid hz1; have HZ2 := Lib.hid hz2
  obtain ⟨i1, hi1, hy0, hy1, hy2⟩ := info_parts info_i64
  have HI1 := Lib.hid hi1; have HY0 := Lib.hid hy0; have HY1 := Lib.hid hy1; have HY2 := Lib.hid hy2
  have hl := h.len
  subst hl
  have hcn : cnL 10 ((ii : Nat) : Int) j F P Q = woL P [((ii : Nat) : Int)] ++ [(17 :: P.getD ii [])] := rfl
  rw [hcn]
  clear hcn
  obtain ⟨u, hu0⟩ : ∃ u, u = w.alloc (.cells #[Value.int .i64 10, Value.int .i64 a, Value.int .i64 b, Value.int .i64 ((ii : Nat) : Int), Value.int .i64 j, Value.slice B m d] 43) := ⟨_, rfl⟩
  have hb : Below w.heap.size w u := by rw [hu0]; exact box_any w _
  have p0 := an hu0
  have HU0 := Lib.hid hu0; have HBU := Lib.hid hb; have HP0 := Lib.hid p0
  have hvl := validQ_len hP
  obtain ⟨bp, op, rfl, hbp, hcp⟩ := h.2 (by omega)
  obtain ⟨vsP, hvP, hcP⟩ := RdV.of_q ((h.below hb).more hb.size)
  have hlP := hvP.len
  obtain ⟨AI, cI, kI, mI, rI⟩ := hcp ii (by omega)
  have HRI := Lib.hid ((rI.below hb).more hb.size); have HMI := Lib.hid mI
  have hlI : 0 < (P.getD ii []).length ∧ (P.getD ii []).length ≤ 24 := by have := valid_len (validQ_mem hP (getD_mem (show ii < _ by omega))); omega
  obtain ⟨bi, oi, rfl, hbi, hci⟩ := rI.2 (by omega)
  have HCI : Hid (∀ wx, Below u.heap.size u wx → ∀ j v, ((P.getD ii []).map (Value.int .i64))[j]? = some v → wx.cell? ((⟨bi, oi, none⟩ : Addr).add j) = some v) := Lib.hid fun wx hx j v hv => by
    rw [List.getElem?_map] at hv
    have hj : j < (P.getD ii []).length := by
      rcases Nat.lt_or_ge j (P.getD ii []).length with h9 | h9
      · exact h9
      · rw [List.getElem?_eq_none h9] at hv; cases hv
    rw [add_off, ((hb.trans (hx.mono hb.size)).cell (p := ⟨bi, oi + j, none⟩) hbi), hci j hj, ← hv, List.getElem?_eq_getElem hj, List.getD_eq_getElem?_getD, List.getElem?_eq_getElem hj]; rfl
  have HSX : Hid (∀ wx, Below u.heap.size u wx → wx.cell? ⟨w.heap.size, 3, none⟩ = some (.int .i64 ((ii : Nat) : Int)) ∧ wx.cell? ⟨bp, op + ii, none⟩ = some (.slice (some ⟨bi, oi, none⟩) (P.getD ii []).length cI)) := Lib.hid fun wx hx => by
    have q := (hx.block w.heap.size (Array.getElem?_eq_some_iff.1 p0).1).trans p0
    exact ⟨cell_of_row _ _ 3 _ _ (0, 0) q, ((hb.trans (hx.mono hb.size)).cell (p := ⟨bp, op + ii, none⟩) hbp).trans kI⟩
  have K0 := Lib.hid (HSX.out u (Below.refl _ _))
  have hwo := fun (wx : World) (hx : Below u.heap.size u wx) => sWithoutS_any bp op P.length c ii vsP wx hlP hvP.one (Nat.lt_of_lt_of_le (Nat.lt_of_lt_of_le hbp hb.size) hx.size) (fun j v hv => by have e := hcP j v hv; rw [add_off] at e ⊢; rw [← e]; exact hx.cell (Nat.lt_of_lt_of_le hbp hb.size)) (by omega) hnc hii
  have hrv := hvP.ex ii
  obtain ⟨vR, hvR⟩ : ∃ vR, exV vsP ii = vR := ⟨_, rfl⟩
  obtain ⟨R, hR⟩ : ∃ R, woL P [((ii : Nat) : Int)] = R := ⟨_, rfl⟩
  rw [hvR] at hwo hrv
  rw [hR] at hrv ⊢
  have hR9 : R.length ≤ 10 := by rw [← hR]; exact Nat.le_trans (woK_len _ _ _) hvl
  have HWO := Lib.hid hwo; have HRV := Lib.hid hrv; have HR9 : Hid (vR.length ≤ 10) := Lib.hid (by rw [hrv.len]; exact hR9); have HONE := Lib.hid hrv.one
  have HXL : Hid (1 + (P.getD ii []).length = ((17 :: P.getD ii [])).length) := Lib.hid (Nat.add_comm _ _)
  have HXM : Hid ([Value.int .i64 17] ++ (P.getD ii []).map (Value.int .i64) = ((17 :: P.getD ii [])).map (Value.int .i64)) := Lib.hid rfl
  have HXI : Hid (∀ v ∈ (P.getD ii []).map (Value.int .i64), v.oneCell' = true) := Lib.hid fun v hv => by obtain ⟨x, _, rfl⟩ := List.mem_map.1 hv; rfl
  have HLI := Lib.hid hlI
  have HLM : Hid (((P.getD ii []).map (Value.int .i64)).length = (P.getD ii []).length * 1) := Lib.hid (by rw [List.length_map, Nat.mul_one])
  obtain ⟨X, hX⟩ : ∃ X, (17 :: P.getD ii []) = X := ⟨_, rfl⟩
  rw [hX] at HXL HXM ⊢
  obtain ⟨ms, hms⟩ : ∃ ms, (P.getD ii []).map (Value.int .i64) = ms := ⟨_, rfl⟩
  rw [hms] at HXM HXI HLM HCI
  have e0 := cell_of_row _ _ 0 _ _ (0, 0) HP0.out
  clear hu0 hb p0 hwo hrv hvR hR hR9 h hi0 hz0 hz1 hz2 hcp hcP hvP hlP hP hbp hX hi1 hy0 hy1 hy2 hbi hci hms kI mI
  generalize (P.getD ii []).length = NI at *
  have FB_0 := Lib.hid (Below.refl u.heap.size u)
  go_enter Tryz.func55, Tryz.ntmps55
  go_upto_region 1 with (fail)
  rw [← HU0.out]
  go_upto_region 21 with (fail)
  clear e0
  refine wp_region_held_drew (S := fun wx => wx.cell? ⟨w.heap.size, 3, none⟩ = some (.int .i64 ((ii : Nat) : Int)) ∧ wx.cell? ⟨bp, op + ii, none⟩ = some (.slice (some ⟨bi, oi, none⟩) NI cI)) (by kernel_rfl) K0.out (fun hHeld => ?_)
  obtain ⟨wq1, hwq1⟩ : ∃ w', w' = u.drew := ⟨_, rfl⟩
  rw [← hwq1] at hHeld ⊢
  have bq1 : Below u.heap.size u wq1 := by rw [hwq1]; exact (Below.refl _ _).drew
  clear hwq1
  have FB_q2 := Lib.hid ((FB_0.out).trans ((bq1).mono (FB_0.out).size))
  clear FB_0
  refine tk (i := 0) (h := ?_)
  (try simp only [Act.put, setIfInBounds_toArray, set_cons_zero, set_cons_succ, getElem_toArray, getElem_cons_succ, getElem_cons_zero])
  refine tk (i := 1) (h := ?_)
  (try simp only [Act.put, setIfInBounds_toArray, set_cons_zero, set_cons_succ, getElem_toArray, getElem_cons_succ, getElem_cons_zero])
  refine tk (i := 5) (h := ?_)
  (try simp only [Act.put, setIfInBounds_toArray, set_cons_zero, set_cons_succ, getElem_toArray, getElem_cons_succ, getElem_cons_zero])
  refine tk (i := 6) (h := ?_)
  (try simp only [Act.put, setIfInBounds_toArray, set_cons_zero, set_cons_succ, getElem_toArray, getElem_cons_succ, getElem_cons_zero])
  refine tk (i := 2) (h := ?_)
  (try simp only [Act.put, setIfInBounds_toArray, set_cons_zero, set_cons_succ, getElem_toArray, getElem_cons_succ, getElem_cons_zero])
  refine tk (i := 7) (h := ?_)
  (try simp only [Act.put, setIfInBounds_toArray, set_cons_zero, set_cons_succ, getElem_toArray, getElem_cons_succ, getElem_cons_zero])
  refine tk (i := 8) (h := ?_)
  (try simp only [Act.put, setIfInBounds_toArray, set_cons_zero, set_cons_succ, getElem_toArray, getElem_cons_succ, getElem_cons_zero])
  refine tk (i := 9) (h := ?_)
  (try simp only [Act.put, setIfInBounds_toArray, set_cons_zero, set_cons_succ, getElem_toArray, getElem_cons_succ, getElem_cons_zero])
  refine wpAnyH_ready (rs := [3, 4]) (by kernel_rfl) (by simp) ?_
  refine AllReadyH.cons rfl (fun K hK => ?_) ?_
  · go_simp
    have KBq11 := Lib.hid FB_q2.out.size
    refine (HWO.out wq1 FB_q2.out).mono ?_
    rintro e wq11 ⟨gRq11, kRq11, rfl, oq11, belq11⟩
    dsimp only
    have FB_q12 := Lib.hid ((FB_q2.out).trans ((belq11).mono (FB_q2.out).size))
    clear FB_q2
    have FO_q11 := Lib.hid (own_base oq11 KBq11.out)
    clear oq11 belq11
    refine hK.out _ _ (HSX.out _ FB_q12.out) (fun hHeld => ?_)
    clear hK K
    (try simp only [Act.put, setIfInBounds_toArray, set_cons_zero, set_cons_succ, getElem_toArray, getElem_cons_succ, getElem_cons_zero])
    refine t1 (i := 4) (h := fun K hK => ?_)
    go_simp
    obtain ⟨wq13, hwq13⟩ : ∃ w', w' = wq11.alloc (.cells #[Value.int .i64 17] 2) := ⟨_, rfl⟩
    rw [← hwq13]
    have bq13 := al hwq13
    have oq13 : wq13.ownsRow u.heap.size 2 1 (.slice (some ⟨wq11.heap.size, 0, none⟩) 1 1) 1 [Value.int .i64 17] := by rw [hwq13]; exact lit_i FB_q12.out.size _
    clear hwq13
    have FB_q14 := Lib.hid ((FB_q12.out).trans ((bq13).mono (FB_q12.out).size))
    have FO_q15 := Lib.hid (own_below (FO_q11.out) (bq13) (Nat.le_refl _))
    clear FB_q12 FO_q11
    obtain ⟨glq16, hgq16⟩ : ∃ b, wq11.heap.size = b := ⟨_, rfl⟩
    have FL_q16 := Lib.hid oq13
    rw [hgq16] at FL_q16 ⊢
    clear hgq16 oq13 bq13
    refine hK.out _ _ (HSX.out _ FB_q14.out) (fun hHeld => ?_)
    clear hK K
    (try simp only [Act.put, setIfInBounds_toArray, set_cons_zero, set_cons_succ, getElem_toArray, getElem_cons_succ, getElem_cons_zero])
    refine t1 (i := 10) (h := fun K hK => ?_)
    refine step_append_o rfl _ _ 36 rfl u.heap.size 2 i1 (.int .i64 0) 1 8 Tryz.underlying36 HI1.out HY0.out HY1.out HY2.out rfl (by decide) _ _ _ rfl FL_q16.out ⟨bi, oi, none⟩ NI cI ms rfl HLM.out (HCI.out _ FB_q14.out) HXI.out (by have := HLI.out; unfold maxLen; omega) (by have := HLI.out; omega) FB_q14.out.size ?_
    intro v7 wq17 hown7 hgrow7 _
    rw [HXL.out, HXM.out] at hown7
    obtain ⟨AX, cX, rfl⟩ := own_shape hown7
    have FB_q17 := Lib.hid (FB_q14.out.grown hgrow7 FB_q14.out.size (fun k hk => (FL_q16.out.lt k hk).1)); have FO_q17 := Lib.hid (FO_q15.out.kept hgrow7 (row_apart FO_q15.out FL_q16.out (by decide))); have FX_q17 := Lib.hid hown7
    clear hown7 hgrow7
    refine hK.out _ _ (HSX.out _ FB_q17.out) (fun hHeld => ?_)
    clear hK K
    (try simp only [Act.put, setIfInBounds_toArray, set_cons_zero, set_cons_succ, getElem_toArray, getElem_cons_succ, getElem_cons_zero])
    refine t1 (i := 11) (h := fun K hK => ?_)
    go_simp
    obtain ⟨wq18, hwq18⟩ : ∃ w', w' = wq17.alloc (.cells #[Value.slice AX X.length cX] 36) := ⟨_, rfl⟩
    rw [← hwq18]
    have bq18 := al hwq18
    have gq18 := an hwq18
    clear hwq18
    have FB_q19 := Lib.hid ((FB_q17.out).trans ((bq18).mono (FB_q17.out).size))
    have FO_q20 := Lib.hid (own_below (FO_q17.out) (bq18) (Nat.le_refl _))
    have FX_q21 := Lib.hid (own_below (FX_q17.out) (bq18) (Nat.le_refl _))
    clear FB_q17 FO_q17 FX_q17
    obtain ⟨gnq22, hgq22⟩ : ∃ b, wq17.heap.size = b := ⟨_, rfl⟩
    have FN_q22 := Lib.hid gq18
    rw [hgq22] at FN_q22 ⊢
    clear hgq22 gq18 bq18
    refine hK.out _ _ (HSX.out _ FB_q19.out) (fun hHeld => ?_)
    clear hK K
    (try simp only [Act.put, setIfInBounds_toArray, set_cons_zero, set_cons_succ, getElem_toArray, getElem_cons_succ, getElem_cons_zero])
    refine t1 (i := 12) (h := fun K hK => ?_)
    refine step_append_o rfl _ _ 23 rfl u.heap.size 36 i0 (.slice none 0 0) 1 24 Tryz.underlying23 HI.out HZ0.out HZ1.out HZ2.out rfl (by decide) _ _ _ rfl FO_q20.out ⟨gnq22, 0, none⟩ 1 1 [.slice AX X.length cX] rfl rfl (World.news_of_block FN_q22.out) (by simp [Value.oneCell']) (by have := HR9.out; unfold maxLen; omega) (by have := HR9.out; omega) FB_q19.out.size ?_
    intro v7 wq23 hown7 hgrow7 _
    have FB_q23 := Lib.hid (FB_q19.out.grown hgrow7 FB_q19.out.size (fun k hk => (FO_q20.out.lt k hk).1))
    obtain ⟨A7, c7, rfl, bq23, oq23, rq23⟩ := rule_out HBU.out FB_q19.out (by rw [← HRV.out.len]) FO_q20.out HRV.out (RdI.of_own FX_q21.out) (row_apart FX_q21.out FO_q20.out (by decide)) (own_cap1 FX_q21.out) hown7 hgrow7
    have HB9 := Lib.hid bq23; have HO9 := Lib.hid oq23; have HV9 := Lib.hid rq23
    clear bq23 oq23 rq23 hown7 hgrow7
    refine hK.out _ _ (HSX.out _ FB_q23.out) (fun hHeld => ?_)
    clear hK K
    (try simp only [Act.put, setIfInBounds_toArray, set_cons_zero, set_cons_succ, getElem_toArray, getElem_cons_succ, getElem_cons_zero])
    refine t1 (i := 13) (h := fun K hK => ?_)
    go_simp
    refine hK.out _ _ hHeld (fun hHeld => ?_)
    clear hK K
    (try simp only [Act.put, setIfInBounds_toArray, set_cons_zero, set_cons_succ, getElem_toArray, getElem_cons_succ, getElem_cons_zero])
    refine wpAnyH_done (by kernel_rfl) ?_ _
    clear HSX
    go_wp2
    go_ret
    exact givesV_app HO9.out HV9.out HB9.out
  refine AllReadyH.cons rfl (fun K hK => ?_) ?_
  · go_simp
    obtain ⟨wq24, hwq24⟩ : ∃ w', w' = wq1.alloc (.cells #[Value.int .i64 17] 2) := ⟨_, rfl⟩
    rw [← hwq24]
    have bq24 := al hwq24
    have oq24 : wq24.ownsRow u.heap.size 2 1 (.slice (some ⟨wq1.heap.size, 0, none⟩) 1 1) 1 [Value.int .i64 17] := by rw [hwq24]; exact lit_i FB_q2.out.size _
    clear hwq24
    have FB_q25 := Lib.hid ((FB_q2.out).trans ((bq24).mono (FB_q2.out).size))
    clear FB_q2
    obtain ⟨glq26, hgq26⟩ : ∃ b, wq1.heap.size = b := ⟨_, rfl⟩
    have FL_q26 := Lib.hid oq24
    rw [hgq26] at FL_q26 ⊢
    clear hgq26 oq24 bq24
    refine hK.out _ _ (HSX.out _ FB_q25.out) (fun hHeld => ?_)
    clear hK K
    (try simp only [Act.put, setIfInBounds_toArray, set_cons_zero, set_cons_succ, getElem_toArray, getElem_cons_succ, getElem_cons_zero])
    refine t1 (i := 3) (h := fun K hK => ?_)
    go_simp
    have KBq27 := Lib.hid FB_q25.out.size
    refine (HWO.out wq24 FB_q25.out).mono ?_
    rintro e wq27 ⟨gRq27, kRq27, rfl, oq27, belq27⟩
    dsimp only
    have FB_q28 := Lib.hid ((FB_q25.out).trans ((belq27).mono (FB_q25.out).size))
    have FL_q29 := Lib.hid (own_below (FL_q26.out) (belq27) (Nat.le_refl _))
    clear FB_q25 FL_q26
    have FO_q27 := Lib.hid (own_base oq27 KBq27.out)
    clear oq27 belq27
    refine hK.out _ _ (HSX.out _ FB_q28.out) (fun hHeld => ?_)
    clear hK K
    (try simp only [Act.put, setIfInBounds_toArray, set_cons_zero, set_cons_succ, getElem_toArray, getElem_cons_succ, getElem_cons_zero])
    refine t1 (i := 10) (h := fun K hK => ?_)
    refine step_append_o rfl _ _ 36 rfl u.heap.size 2 i1 (.int .i64 0) 1 8 Tryz.underlying36 HI1.out HY0.out HY1.out HY2.out rfl (by decide) _ _ _ rfl FL_q29.out ⟨bi, oi, none⟩ NI cI ms rfl HLM.out (HCI.out _ FB_q28.out) HXI.out (by have := HLI.out; unfold maxLen; omega) (by have := HLI.out; omega) FB_q28.out.size ?_
    intro v7 wq30 hown7 hgrow7 _
    rw [HXL.out, HXM.out] at hown7
    obtain ⟨AX, cX, rfl⟩ := own_shape hown7
    have FB_q30 := Lib.hid (FB_q28.out.grown hgrow7 FB_q28.out.size (fun k hk => (FL_q29.out.lt k hk).1)); have FO_q30 := Lib.hid (FO_q27.out.kept hgrow7 (row_apart FO_q27.out FL_q29.out (by decide))); have FX_q30 := Lib.hid hown7
    clear hown7 hgrow7
    refine hK.out _ _ (HSX.out _ FB_q30.out) (fun hHeld => ?_)
    clear hK K
    (try simp only [Act.put, setIfInBounds_toArray, set_cons_zero, set_cons_succ, getElem_toArray, getElem_cons_succ, getElem_cons_zero])
    refine t1 (i := 11) (h := fun K hK => ?_)
    go_simp
    obtain ⟨wq31, hwq31⟩ : ∃ w', w' = wq30.alloc (.cells #[Value.slice AX X.length cX] 36) := ⟨_, rfl⟩
    rw [← hwq31]
    have bq31 := al hwq31
    have gq31 := an hwq31
    clear hwq31
    have FB_q32 := Lib.hid ((FB_q30.out).trans ((bq31).mono (FB_q30.out).size))
    have FO_q33 := Lib.hid (own_below (FO_q30.out) (bq31) (Nat.le_refl _))
    have FX_q34 := Lib.hid (own_below (FX_q30.out) (bq31) (Nat.le_refl _))
    clear FB_q30 FO_q30 FX_q30
    obtain ⟨gnq35, hgq35⟩ : ∃ b, wq30.heap.size = b := ⟨_, rfl⟩
    have FN_q35 := Lib.hid gq31
    rw [hgq35] at FN_q35 ⊢
    clear hgq35 gq31 bq31
    refine hK.out _ _ (HSX.out _ FB_q32.out) (fun hHeld => ?_)
    clear hK K
    (try simp only [Act.put, setIfInBounds_toArray, set_cons_zero, set_cons_succ, getElem_toArray, getElem_cons_succ, getElem_cons_zero])
    refine t1 (i := 12) (h := fun K hK => ?_)
    refine step_append_o rfl _ _ 23 rfl u.heap.size 36 i0 (.slice none 0 0) 1 24 Tryz.underlying23 HI.out HZ0.out HZ1.out HZ2.out rfl (by decide) _ _ _ rfl FO_q33.out ⟨gnq35, 0, none⟩ 1 1 [.slice AX X.length cX] rfl rfl (World.news_of_block FN_q35.out) (by simp [Value.oneCell']) (by have := HR9.out; unfold maxLen; omega) (by have := HR9.out; omega) FB_q32.out.size ?_
    intro v7 wq36 hown7 hgrow7 _
    have FB_q36 := Lib.hid (FB_q32.out.grown hgrow7 FB_q32.out.size (fun k hk => (FO_q33.out.lt k hk).1))
    obtain ⟨A7, c7, rfl, bq36, oq36, rq36⟩ := rule_out HBU.out FB_q32.out (by rw [← HRV.out.len]) FO_q33.out HRV.out (RdI.of_own FX_q34.out) (row_apart FX_q34.out FO_q33.out (by decide)) (own_cap1 FX_q34.out) hown7 hgrow7
    have HB9 := Lib.hid bq36; have HO9 := Lib.hid oq36; have HV9 := Lib.hid rq36
    clear bq36 oq36 rq36 hown7 hgrow7
    refine hK.out _ _ (HSX.out _ FB_q36.out) (fun hHeld => ?_)
    clear hK K
    (try simp only [Act.put, setIfInBounds_toArray, set_cons_zero, set_cons_succ, getElem_toArray, getElem_cons_succ, getElem_cons_zero])
    refine t1 (i := 13) (h := fun K hK => ?_)
    go_simp
    refine hK.out _ _ hHeld (fun hHeld => ?_)
    clear hK K
    (try simp only [Act.put, setIfInBounds_toArray, set_cons_zero, set_cons_succ, getElem_toArray, getElem_cons_succ, getElem_cons_zero])
    refine wpAnyH_done (by kernel_rfl) ?_ _
    clear HSX
    go_wp2
    go_ret
    exact givesV_app HO9.out HV9.out HB9.out
  exact AllReadyH.nil
end
section
open Go.ChangeAt Go.ChangeShapes Go.RowKit Go.WideShapes
open List (setIfInBounds_toArray set_cons_zero set_cons_succ getElem_toArray getElem_cons_succ getElem_cons_zero)

set_option linter.unusedSimpArgs false in
set_option maxRecDepth 100000 in
set_option maxHeartbeats 16000000 in
theorem cc_11 (a b j : Int) (ii : Nat) (B : Option Addr) (m d : Nat) (F : List Int) (A : Option Addr) (n c : Nat) (P : List (List Int)) (A2 : Option Addr) (n2 c2 : Nat) (Q : List (List Int)) (w : World) (h : RdQ w w.heap.size A n P) (hnc : n ≤ c) (hP : validQ P = true) (hii : ii < P.length) :
    Calls Tryz.prog 55 #[.slice A n c, .slice A2 n2 c2, Value.agg #[Value.int .i64 11, Value.int .i64 a, Value.int .i64 b, Value.int .i64 ((ii : Nat) : Int), Value.int .i64 j, Value.slice B m d]] w (GivesV w (cnL 11 ((ii : Nat) : Int) j F P Q)) := by
  obtain ⟨i0, hi0, hz0, hz1, hz2⟩ := info_parts_s
  have HI := Lib.hid hi0; have HZ0 := Lib.hid hz0; have HZ1 := Lib.hid hz1; have HZ2 := Lib.hid hz2
  obtain ⟨i1, hi1, hy0, hy1, hy2⟩ := info_parts info_i64
  have HI1 := Lib.hid hi1; have HY0 := Lib.hid hy0; have HY1 := Lib.hid hy1; have HY2 := Lib.hid hy2
  have hl := h.len
  subst hl
  have hcn : cnL 11 ((ii : Nat) : Int) j F P Q = woL P [((ii : Nat) : Int)] ++ [(18 :: P.getD ii [])] := rfl
  rw [hcn]
  clear hcn
  obtain ⟨u, hu0⟩ : ∃ u, u = w.alloc (.cells #[Value.int .i64 11, Value.int .i64 a, Value.int .i64 b, Value.int .i64 ((ii : Nat) : Int), Value.int .i64 j, Value.slice B m d] 43) := ⟨_, rfl⟩
  have hb : Below w.heap.size w u := by rw [hu0]; exact box_any w _
  have p0 := an hu0
  have HU0 := Lib.hid hu0; have HBU := Lib.hid hb; have HP0 := Lib.hid p0
  have hvl := validQ_len hP
  obtain ⟨bp, op, rfl, hbp, hcp⟩ := h.2 (by omega)
  obtain ⟨vsP, hvP, hcP⟩ := RdV.of_q ((h.below hb).more hb.size)
  have hlP := hvP.len
  obtain ⟨AI, cI, kI, mI, rI⟩ := hcp ii (by omega)
  have HRI := Lib.hid ((rI.below hb).more hb.size); have HMI := Lib.hid mI
  have hlI : 0 < (P.getD ii []).length ∧ (P.getD ii []).length ≤ 24 := by have := valid_len (validQ_mem hP (getD_mem (show ii < _ by omega))); omega
  obtain ⟨bi, oi, rfl, hbi, hci⟩ := rI.2 (by omega)
  have HCI : Hid (∀ wx, Below u.heap.size u wx → ∀ j v, ((P.getD ii []).map (Value.int .i64))[j]? = some v → wx.cell? ((⟨bi, oi, none⟩ : Addr).add j) = some v) := Lib.hid fun wx hx j v hv => by
    rw [List.getElem?_map] at hv
    have hj : j < (P.getD ii []).length := by
      rcases Nat.lt_or_ge j (P.getD ii []).length with h9 | h9
      · exact h9
      · rw [List.getElem?_eq_none h9] at hv; cases hv
    rw [add_off, ((hb.trans (hx.mono hb.size)).cell (p := ⟨bi, oi + j, none⟩) hbi), hci j hj, ← hv, List.getElem?_eq_getElem hj, List.getD_eq_getElem?_getD, List.getElem?_eq_getElem hj]; rfl
  have HSX : Hid (∀ wx, Below u.heap.size u wx → wx.cell? ⟨w.heap.size, 3, none⟩ = some (.int .i64 ((ii : Nat) : Int)) ∧ wx.cell? ⟨bp, op + ii, none⟩ = some (.slice (some ⟨bi, oi, none⟩) (P.getD ii []).length cI)) := Lib.hid fun wx hx => by
    have q := (hx.block w.heap.size (Array.getElem?_eq_some_iff.1 p0).1).trans p0
    exact ⟨cell_of_row _ _ 3 _ _ (0, 0) q, ((hb.trans (hx.mono hb.size)).cell (p := ⟨bp, op + ii, none⟩) hbp).trans kI⟩
  have K0 := Lib.hid (HSX.out u (Below.refl _ _))
  have hwo := fun (wx : World) (hx : Below u.heap.size u wx) => sWithoutS_any bp op P.length c ii vsP wx hlP hvP.one (Nat.lt_of_lt_of_le (Nat.lt_of_lt_of_le hbp hb.size) hx.size) (fun j v hv => by have e := hcP j v hv; rw [add_off] at e ⊢; rw [← e]; exact hx.cell (Nat.lt_of_lt_of_le hbp hb.size)) (by omega) hnc hii
  have hrv := hvP.ex ii
  obtain ⟨vR, hvR⟩ : ∃ vR, exV vsP ii = vR := ⟨_, rfl⟩
  obtain ⟨R, hR⟩ : ∃ R, woL P [((ii : Nat) : Int)] = R := ⟨_, rfl⟩
  rw [hvR] at hwo hrv
  rw [hR] at hrv ⊢
  have hR9 : R.length ≤ 10 := by rw [← hR]; exact Nat.le_trans (woK_len _ _ _) hvl
  have HWO := Lib.hid hwo; have HRV := Lib.hid hrv; have HR9 : Hid (vR.length ≤ 10) := Lib.hid (by rw [hrv.len]; exact hR9); have HONE := Lib.hid hrv.one
  have HXL : Hid (1 + (P.getD ii []).length = ((18 :: P.getD ii [])).length) := Lib.hid (Nat.add_comm _ _)
  have HXM : Hid ([Value.int .i64 18] ++ (P.getD ii []).map (Value.int .i64) = ((18 :: P.getD ii [])).map (Value.int .i64)) := Lib.hid rfl
  have HXI : Hid (∀ v ∈ (P.getD ii []).map (Value.int .i64), v.oneCell' = true) := Lib.hid fun v hv => by obtain ⟨x, _, rfl⟩ := List.mem_map.1 hv; rfl
  have HLI := Lib.hid hlI
  have HLM : Hid (((P.getD ii []).map (Value.int .i64)).length = (P.getD ii []).length * 1) := Lib.hid (by rw [List.length_map, Nat.mul_one])
  obtain ⟨X, hX⟩ : ∃ X, (18 :: P.getD ii []) = X := ⟨_, rfl⟩
  rw [hX] at HXL HXM ⊢
  obtain ⟨ms, hms⟩ : ∃ ms, (P.getD ii []).map (Value.int .i64) = ms := ⟨_, rfl⟩
  rw [hms] at HXM HXI HLM HCI
  have e0 := cell_of_row _ _ 0 _ _ (0, 0) HP0.out
  clear hu0 hb p0 hwo hrv hvR hR hR9 h hi0 hz0 hz1 hz2 hcp hcP hvP hlP hP hbp hX hi1 hy0 hy1 hy2 hbi hci hms kI mI
  generalize (P.getD ii []).length = NI at *
  have FB_0 := Lib.hid (Below.refl u.heap.size u)
  go_enter Tryz.func55, Tryz.ntmps55
  go_upto_region 1 with (fail)
  rw [← HU0.out]
  go_upto_region 23 with (fail)
  clear e0
  refine wp_region_held_drew (S := fun wx => wx.cell? ⟨w.heap.size, 3, none⟩ = some (.int .i64 ((ii : Nat) : Int)) ∧ wx.cell? ⟨bp, op + ii, none⟩ = some (.slice (some ⟨bi, oi, none⟩) NI cI)) (by kernel_rfl) K0.out (fun hHeld => ?_)
  obtain ⟨wq1, hwq1⟩ : ∃ w', w' = u.drew := ⟨_, rfl⟩
  rw [← hwq1] at hHeld ⊢
  have bq1 : Below u.heap.size u wq1 := by rw [hwq1]; exact (Below.refl _ _).drew
  clear hwq1
  have FB_q2 := Lib.hid ((FB_0.out).trans ((bq1).mono (FB_0.out).size))
  clear FB_0
  refine tk (i := 0) (h := ?_)
  (try simp only [Act.put, setIfInBounds_toArray, set_cons_zero, set_cons_succ, getElem_toArray, getElem_cons_succ, getElem_cons_zero])
  refine tk (i := 1) (h := ?_)
  (try simp only [Act.put, setIfInBounds_toArray, set_cons_zero, set_cons_succ, getElem_toArray, getElem_cons_succ, getElem_cons_zero])
  refine tk (i := 5) (h := ?_)
  (try simp only [Act.put, setIfInBounds_toArray, set_cons_zero, set_cons_succ, getElem_toArray, getElem_cons_succ, getElem_cons_zero])
  refine tk (i := 6) (h := ?_)
  (try simp only [Act.put, setIfInBounds_toArray, set_cons_zero, set_cons_succ, getElem_toArray, getElem_cons_succ, getElem_cons_zero])
  refine tk (i := 2) (h := ?_)
  (try simp only [Act.put, setIfInBounds_toArray, set_cons_zero, set_cons_succ, getElem_toArray, getElem_cons_succ, getElem_cons_zero])
  refine tk (i := 7) (h := ?_)
  (try simp only [Act.put, setIfInBounds_toArray, set_cons_zero, set_cons_succ, getElem_toArray, getElem_cons_succ, getElem_cons_zero])
  refine tk (i := 8) (h := ?_)
  (try simp only [Act.put, setIfInBounds_toArray, set_cons_zero, set_cons_succ, getElem_toArray, getElem_cons_succ, getElem_cons_zero])
  refine tk (i := 9) (h := ?_)
  (try simp only [Act.put, setIfInBounds_toArray, set_cons_zero, set_cons_succ, getElem_toArray, getElem_cons_succ, getElem_cons_zero])
  refine wpAnyH_ready (rs := [3, 4]) (by kernel_rfl) (by simp) ?_
  refine AllReadyH.cons rfl (fun K hK => ?_) ?_
  · go_simp
    have KBq11 := Lib.hid FB_q2.out.size
    refine (HWO.out wq1 FB_q2.out).mono ?_
    rintro e wq11 ⟨gRq11, kRq11, rfl, oq11, belq11⟩
    dsimp only
    have FB_q12 := Lib.hid ((FB_q2.out).trans ((belq11).mono (FB_q2.out).size))
    clear FB_q2
    have FO_q11 := Lib.hid (own_base oq11 KBq11.out)
    clear oq11 belq11
    refine hK.out _ _ (HSX.out _ FB_q12.out) (fun hHeld => ?_)
    clear hK K
    (try simp only [Act.put, setIfInBounds_toArray, set_cons_zero, set_cons_succ, getElem_toArray, getElem_cons_succ, getElem_cons_zero])
    refine t1 (i := 4) (h := fun K hK => ?_)
    go_simp
    obtain ⟨wq13, hwq13⟩ : ∃ w', w' = wq11.alloc (.cells #[Value.int .i64 18] 2) := ⟨_, rfl⟩
    rw [← hwq13]
    have bq13 := al hwq13
    have oq13 : wq13.ownsRow u.heap.size 2 1 (.slice (some ⟨wq11.heap.size, 0, none⟩) 1 1) 1 [Value.int .i64 18] := by rw [hwq13]; exact lit_i FB_q12.out.size _
    clear hwq13
    have FB_q14 := Lib.hid ((FB_q12.out).trans ((bq13).mono (FB_q12.out).size))
    have FO_q15 := Lib.hid (own_below (FO_q11.out) (bq13) (Nat.le_refl _))
    clear FB_q12 FO_q11
    obtain ⟨glq16, hgq16⟩ : ∃ b, wq11.heap.size = b := ⟨_, rfl⟩
    have FL_q16 := Lib.hid oq13
    rw [hgq16] at FL_q16 ⊢
    clear hgq16 oq13 bq13
    refine hK.out _ _ (HSX.out _ FB_q14.out) (fun hHeld => ?_)
    clear hK K
    (try simp only [Act.put, setIfInBounds_toArray, set_cons_zero, set_cons_succ, getElem_toArray, getElem_cons_succ, getElem_cons_zero])
    refine t1 (i := 10) (h := fun K hK => ?_)
    refine step_append_o rfl _ _ 36 rfl u.heap.size 2 i1 (.int .i64 0) 1 8 Tryz.underlying36 HI1.out HY0.out HY1.out HY2.out rfl (by decide) _ _ _ rfl FL_q16.out ⟨bi, oi, none⟩ NI cI ms rfl HLM.out (HCI.out _ FB_q14.out) HXI.out (by have := HLI.out; unfold maxLen; omega) (by have := HLI.out; omega) FB_q14.out.size ?_
    intro v7 wq17 hown7 hgrow7 _
    rw [HXL.out, HXM.out] at hown7
    obtain ⟨AX, cX, rfl⟩ := own_shape hown7
    have FB_q17 := Lib.hid (FB_q14.out.grown hgrow7 FB_q14.out.size (fun k hk => (FL_q16.out.lt k hk).1)); have FO_q17 := Lib.hid (FO_q15.out.kept hgrow7 (row_apart FO_q15.out FL_q16.out (by decide))); have FX_q17 := Lib.hid hown7
    clear hown7 hgrow7
    refine hK.out _ _ (HSX.out _ FB_q17.out) (fun hHeld => ?_)
    clear hK K
    (try simp only [Act.put, setIfInBounds_toArray, set_cons_zero, set_cons_succ, getElem_toArray, getElem_cons_succ, getElem_cons_zero])
    refine t1 (i := 11) (h := fun K hK => ?_)
    go_simp
    obtain ⟨wq18, hwq18⟩ : ∃ w', w' = wq17.alloc (.cells #[Value.slice AX X.length cX] 36) := ⟨_, rfl⟩
    rw [← hwq18]
    have bq18 := al hwq18
    have gq18 := an hwq18
    clear hwq18
    have FB_q19 := Lib.hid ((FB_q17.out).trans ((bq18).mono (FB_q17.out).size))
    have FO_q20 := Lib.hid (own_below (FO_q17.out) (bq18) (Nat.le_refl _))
    have FX_q21 := Lib.hid (own_below (FX_q17.out) (bq18) (Nat.le_refl _))
    clear FB_q17 FO_q17 FX_q17
    obtain ⟨gnq22, hgq22⟩ : ∃ b, wq17.heap.size = b := ⟨_, rfl⟩
    have FN_q22 := Lib.hid gq18
    rw [hgq22] at FN_q22 ⊢
    clear hgq22 gq18 bq18
    refine hK.out _ _ (HSX.out _ FB_q19.out) (fun hHeld => ?_)
    clear hK K
    (try simp only [Act.put, setIfInBounds_toArray, set_cons_zero, set_cons_succ, getElem_toArray, getElem_cons_succ, getElem_cons_zero])
    refine t1 (i := 12) (h := fun K hK => ?_)
    refine step_append_o rfl _ _ 23 rfl u.heap.size 36 i0 (.slice none 0 0) 1 24 Tryz.underlying23 HI.out HZ0.out HZ1.out HZ2.out rfl (by decide) _ _ _ rfl FO_q20.out ⟨gnq22, 0, none⟩ 1 1 [.slice AX X.length cX] rfl rfl (World.news_of_block FN_q22.out) (by simp [Value.oneCell']) (by have := HR9.out; unfold maxLen; omega) (by have := HR9.out; omega) FB_q19.out.size ?_
    intro v7 wq23 hown7 hgrow7 _
    have FB_q23 := Lib.hid (FB_q19.out.grown hgrow7 FB_q19.out.size (fun k hk => (FO_q20.out.lt k hk).1))
    obtain ⟨A7, c7, rfl, bq23, oq23, rq23⟩ := rule_out HBU.out FB_q19.out (by rw [← HRV.out.len]) FO_q20.out HRV.out (RdI.of_own FX_q21.out) (row_apart FX_q21.out FO_q20.out (by decide)) (own_cap1 FX_q21.out) hown7 hgrow7
    have HB9 := Lib.hid bq23; have HO9 := Lib.hid oq23; have HV9 := Lib.hid rq23
    clear bq23 oq23 rq23 hown7 hgrow7
    refine hK.out _ _ (HSX.out _ FB_q23.out) (fun hHeld => ?_)
    clear hK K
    (try simp only [Act.put, setIfInBounds_toArray, set_cons_zero, set_cons_succ, getElem_toArray, getElem_cons_succ, getElem_cons_zero])
    refine t1 (i := 13) (h := fun K hK => ?_)
    go_simp
    refine hK.out _ _ hHeld (fun hHeld => ?_)
    clear hK K
    (try simp only [Act.put, setIfInBounds_toArray, set_cons_zero, set_cons_succ, getElem_toArray, getElem_cons_succ, getElem_cons_zero])
    refine wpAnyH_done (by kernel_rfl) ?_ _
    clear HSX
    go_wp2
    go_ret
    exact givesV_app HO9.out HV9.out HB9.out
  refine AllReadyH.cons rfl (fun K hK => ?_) ?_
  · go_simp
    obtain ⟨wq24, hwq24⟩ : ∃ w', w' = wq1.alloc (.cells #[Value.int .i64 18] 2) := ⟨_, rfl⟩
    rw [← hwq24]
    have bq24 := al hwq24
    have oq24 : wq24.ownsRow u.heap.size 2 1 (.slice (some ⟨wq1.heap.size, 0, none⟩) 1 1) 1 [Value.int .i64 18] := by rw [hwq24]; exact lit_i FB_q2.out.size _
    clear hwq24
    have FB_q25 := Lib.hid ((FB_q2.out).trans ((bq24).mono (FB_q2.out).size))
    clear FB_q2
    obtain ⟨glq26, hgq26⟩ : ∃ b, wq1.heap.size = b := ⟨_, rfl⟩
    have FL_q26 := Lib.hid oq24
    rw [hgq26] at FL_q26 ⊢
    clear hgq26 oq24 bq24
    refine hK.out _ _ (HSX.out _ FB_q25.out) (fun hHeld => ?_)
    clear hK K
    (try simp only [Act.put, setIfInBounds_toArray, set_cons_zero, set_cons_succ, getElem_toArray, getElem_cons_succ, getElem_cons_zero])
    refine t1 (i := 3) (h := fun K hK => ?_)
    go_simp
    have KBq27 := Lib.hid FB_q25.out.size
    refine (HWO.out wq24 FB_q25.out).mono ?_
    rintro e wq27 ⟨gRq27, kRq27, rfl, oq27, belq27⟩
    dsimp only
    have FB_q28 := Lib.hid ((FB_q25.out).trans ((belq27).mono (FB_q25.out).size))
    have FL_q29 := Lib.hid (own_below (FL_q26.out) (belq27) (Nat.le_refl _))
    clear FB_q25 FL_q26
    have FO_q27 := Lib.hid (own_base oq27 KBq27.out)
    clear oq27 belq27
    refine hK.out _ _ (HSX.out _ FB_q28.out) (fun hHeld => ?_)
    clear hK K
    (try simp only [Act.put, setIfInBounds_toArray, set_cons_zero, set_cons_succ, getElem_toArray, getElem_cons_succ, getElem_cons_zero])
    refine t1 (i := 10) (h := fun K hK => ?_)
    refine step_append_o rfl _ _ 36 rfl u.heap.size 2 i1 (.int .i64 0) 1 8 Tryz.underlying36 HI1.out HY0.out HY1.out HY2.out rfl (by decide) _ _ _ rfl FL_q29.out ⟨bi, oi, none⟩ NI cI ms rfl HLM.out (HCI.out _ FB_q28.out) HXI.out (by have := HLI.out; unfold maxLen; omega) (by have := HLI.out; omega) FB_q28.out.size ?_
    intro v7 wq30 hown7 hgrow7 _
    rw [HXL.out, HXM.out] at hown7
    obtain ⟨AX, cX, rfl⟩ := own_shape hown7
    have FB_q30 := Lib.hid (FB_q28.out.grown hgrow7 FB_q28.out.size (fun k hk => (FL_q29.out.lt k hk).1)); have FO_q30 := Lib.hid (FO_q27.out.kept hgrow7 (row_apart FO_q27.out FL_q29.out (by decide))); have FX_q30 := Lib.hid hown7
    clear hown7 hgrow7
    refine hK.out _ _ (HSX.out _ FB_q30.out) (fun hHeld => ?_)
    clear hK K
    (try simp only [Act.put, setIfInBounds_toArray, set_cons_zero, set_cons_succ, getElem_toArray, getElem_cons_succ, getElem_cons_zero])
    refine t1 (i := 11) (h := fun K hK => ?_)
    go_simp
    obtain ⟨wq31, hwq31⟩ : ∃ w', w' = wq30.alloc (.cells #[Value.slice AX X.length cX] 36) := ⟨_, rfl⟩
    rw [← hwq31]
    have bq31 := al hwq31
    have gq31 := an hwq31
    clear hwq31
    have FB_q32 := Lib.hid ((FB_q30.out).trans ((bq31).mono (FB_q30.out).size))
    have FO_q33 := Lib.hid (own_below (FO_q30.out) (bq31) (Nat.le_refl _))
    have FX_q34 := Lib.hid (own_below (FX_q30.out) (bq31) (Nat.le_refl _))
    clear FB_q30 FO_q30 FX_q30
    obtain ⟨gnq35, hgq35⟩ : ∃ b, wq30.heap.size = b := ⟨_, rfl⟩
    have FN_q35 := Lib.hid gq31
    rw [hgq35] at FN_q35 ⊢
    clear hgq35 gq31 bq31
    refine hK.out _ _ (HSX.out _ FB_q32.out) (fun hHeld => ?_)
    clear hK K
    (try simp only [Act.put, setIfInBounds_toArray, set_cons_zero, set_cons_succ, getElem_toArray, getElem_cons_succ, getElem_cons_zero])
    refine t1 (i := 12) (h := fun K hK => ?_)
    refine step_append_o rfl _ _ 23 rfl u.heap.size 36 i0 (.slice none 0 0) 1 24 Tryz.underlying23 HI.out HZ0.out HZ1.out HZ2.out rfl (by decide) _ _ _ rfl FO_q33.out ⟨gnq35, 0, none⟩ 1 1 [.slice AX X.length cX] rfl rfl (World.news_of_block FN_q35.out) (by simp [Value.oneCell']) (by have := HR9.out; unfold maxLen; omega) (by have := HR9.out; omega) FB_q32.out.size ?_
    intro v7 wq36 hown7 hgrow7 _
    have FB_q36 := Lib.hid (FB_q32.out.grown hgrow7 FB_q32.out.size (fun k hk => (FO_q33.out.lt k hk).1))
    obtain ⟨A7, c7, rfl, bq36, oq36, rq36⟩ := rule_out HBU.out FB_q32.out (by rw [← HRV.out.len]) FO_q33.out HRV.out (RdI.of_own FX_q34.out) (row_apart FX_q34.out FO_q33.out (by decide)) (own_cap1 FX_q34.out) hown7 hgrow7
    have HB9 := Lib.hid bq36; have HO9 := Lib.hid oq36; have HV9 := Lib.hid rq36
    clear bq36 oq36 rq36 hown7 hgrow7
    refine hK.out _ _ (HSX.out _ FB_q36.out) (fun hHeld => ?_)
    clear hK K
    (try simp only [Act.put, setIfInBounds_toArray, set_cons_zero, set_cons_succ, getElem_toArray, getElem_cons_succ, getElem_cons_zero])
    refine t1 (i := 13) (h := fun K hK => ?_)
    go_simp
    refine hK.out _ _ hHeld (fun hHeld => ?_)
    clear hK K
    (try simp only [Act.put, setIfInBounds_toArray, set_cons_zero, set_cons_succ, getElem_toArray, getElem_cons_succ, getElem_cons_zero])
    refine wpAnyH_done (by kernel_rfl) ?_ _
    clear HSX
    go_wp2
    go_ret
    exact givesV_app HO9.out HV9.out HB9.out
  exact AllReadyH.nil
end
end Go.Proofs.YthbkcpacgnmcfaaGreatDoor
