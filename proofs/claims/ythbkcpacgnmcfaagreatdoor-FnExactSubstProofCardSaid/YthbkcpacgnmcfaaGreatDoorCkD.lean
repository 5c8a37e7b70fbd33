/- The program's rules with one premise that append a formula (plusL, plusR, der). Made by mkck.py. -/
import Derived.Test.YthbkcpacgnmcfaaGreatDoorQRule
import Derived.Test.YthbkcpacgnmcfaaGreatDoorQSubA
namespace Go.Proofs.YthbkcpacgnmcfaaGreatDoor
set_option linter.unusedSimpArgs false
set_option linter.unusedVariables false
open Go.ChangeAt Go.ChangeShapes Go.RowKit Go.WideShapes
open List (setIfInBounds_toArray set_cons_zero set_cons_succ getElem_toArray getElem_cons_succ getElem_cons_zero)

set_option linter.unusedSimpArgs false in
set_option maxRecDepth 100000 in
set_option maxHeartbeats 8000000 in
theorem plusL_any (x y z : Bool) (r a b j : Int) (ii : Nat) (A : Option Addr) (n c : Nat) (P : List (List Int)) (B : Option Addr) (m d : Nat) (F : List Int) (w : World) (h : RdQ w w.heap.size A n P) (hf : RdI w w.heap.size B m F) (hn : n ≤ 10) (hq : ∀ q ∈ P, 0 < q.length ∧ q.length ≤ 24) (hii : ii < n) (hF : 0 < F.length ∧ F.length ≤ 24) :
    Calls Tryz.prog 117 #[.agg #[.bool x, .bool y, .bool z], .slice A n c, Value.agg #[Value.int .i64 r, Value.int .i64 a, Value.int .i64 b, Value.int .i64 ((ii : Nat):Int), Value.int .i64 j, Value.slice B m d]] w (GivesD w (some (woL P [((ii : Nat) : Int)] ++ [(15 :: (P.getD ii [] ++ F))]))) := by
  obtain ⟨i0, hi0, hz0, hz1, hz2⟩ := info_parts_s
  have HI := Lib.hid hi0; have HZ0 := Lib.hid hz0; have HZ1 := Lib.hid hz1; have HZ2 := Lib.hid hz2
  have hl := h.len
  subst hl
  have hl2 := hf.len
  subst hl2
  obtain ⟨u, hu0⟩ : ∃ u, u = (w.alloc (.cells #[Value.bool x, Value.bool y, Value.bool z] 99)).alloc (.cells #[Value.int .i64 r, Value.int .i64 a, Value.int .i64 b, Value.int .i64 ((ii : Nat) : Int), Value.int .i64 j, Value.slice B F.length d] 43) := ⟨_, rfl⟩
  obtain ⟨hb, p0, p1, hsz⟩ := two_any w (.cells #[Value.bool x, Value.bool y, Value.bool z] 99) (.cells #[Value.int .i64 r, Value.int .i64 a, Value.int .i64 b, Value.int .i64 ((ii : Nat) : Int), Value.int .i64 j, Value.slice B F.length d] 43)
  rw [← hu0] at hb p0 p1 hsz
  have HU0 := Lib.hid hu0; have HBU := Lib.hid hb; have HP1 := Lib.hid p1; have HP := Lib.hid ((h.below hb).more hb.size)
  obtain ⟨bp, op, rfl, hbp, hcp⟩ := h.2 (by omega)
  obtain ⟨AI, cI, kI, mI, rI⟩ := hcp ii (by omega)
  have HRI := Lib.hid ((rI.below hb).more hb.size)
  have hlI : 0 < (P.getD ii []).length ∧ (P.getD ii []).length ≤ 24 := hq _ (getD_mem (by omega))
  have HRF := Lib.hid ((hf.below hb).more hb.size)
  have HSX : Hid (∀ wx, Below u.heap.size u wx → wx.cell? ⟨w.heap.size + 1, 3, none⟩ = some (.int .i64 ((ii : Nat) : Int)) ∧ wx.cell? ⟨w.heap.size + 1, 5, none⟩ = some (.slice B F.length d) ∧ wx.cell? ⟨bp, op + ii, none⟩ = some (.slice AI (P.getD ii []).length cI)) := Lib.hid fun wx hx => by
    have q := (hx.block (w.heap.size + 1) (by omega)).trans p1
    exact ⟨cell_of_row _ _ 3 _ _ (0, 0) q, cell_of_row _ _ 5 _ _ (0, 0) q, ((hb.trans (hx.mono hb.size)).cell (p := ⟨bp, op + ii, none⟩) hbp).trans kI⟩
  have K0 := Lib.hid (HSX.out u (Below.refl _ _))
  have hwo := fun (wx : World) (g : Nat) (hx : Below u.heap.size u wx) (hg : wx.heap[g]? = some (.cells #[Value.int .i64 ((ii : Nat) : Int)] 2 (0, 0))) => without_any (some ⟨bp, op, none⟩) P.length c P (some ⟨g, 0, none⟩) 1 1 [((ii : Nat) : Int)] wx ((HP.out.below hx).more hx.size) (rd_lit hg) (by omega) (by omega)
  have hfo := fun (wx : World) (g : Nat) (hx : Below u.heap.size u wx) (hg : wx.heap[g]? = some (.cells #[.slice AI (P.getD ii []).length cI, .slice B F.length d] 36 (0, 0))) => formOf2_any 15 g AI B cI d (P.getD ii []) (F) wx hg ((HRI.out.below hx).more hx.size) ((HRF.out.below hx).more hx.size) (by omega) (by omega)
  obtain ⟨X, hX⟩ : ∃ X, (15 :: (P.getD ii [] ++ F)) = X := ⟨_, rfl⟩
  obtain ⟨R, hR⟩ : ∃ R, woL P [((ii : Nat) : Int)] = R := ⟨_, rfl⟩
  have hR9 : R.length ≤ 10 := by rw [← hR]; exact Nat.le_trans (woK_len _ _ _) hn
  rw [hX] at hfo ⊢
  rw [hR] at hwo ⊢
  have HWO := Lib.hid hwo; have HFO := Lib.hid hfo; have HR9 := Lib.hid hR9
  have hai : ((ii : Nat) : Int) < (P.length : Int) := by omega
  clear hu0 hb p0 p1 hwo hfo hX hR hR9 h hq hi0 hz0 hz1 hz2 kI rI hlI mI hcp hf
  generalize (P.getD ii []).length = NI at *
  go_enter Tryz.func117, Tryz.ntmps117
  go_upto_region 1 with (fail)
  rw [← HU0.out]
  have FB_0 := Lib.hid (Below.refl u.heap.size u)
  refine wp_region_held_drew (S := fun wx => wx.cell? ⟨w.heap.size + 1, 3, none⟩ = some (.int .i64 ((ii : Nat) : Int)) ∧ wx.cell? ⟨w.heap.size + 1, 5, none⟩ = some (.slice B F.length d) ∧ wx.cell? ⟨bp, op + ii, none⟩ = some (.slice AI NI cI)) (by kernel_rfl) K0.out (fun hHeld => ?_)
  obtain ⟨wq1, hwq1⟩ : ∃ w', w' = u.drew := ⟨_, rfl⟩
  rw [← hwq1] at hHeld ⊢
  have bq1 : Below u.heap.size u wq1 := by rw [hwq1]; exact (Below.refl _ _).drew
  clear hwq1
  have FB_q2 := Lib.hid ((FB_0.out).trans ((bq1).mono (FB_0.out).size))
  clear FB_0
  refine tk (i := 0) (h := ?_)
  (try simp only [Act.put, setIfInBounds_toArray, set_cons_zero, set_cons_succ])
  refine tk (i := 1) (h := ?_)
  (try simp only [Act.put, setIfInBounds_toArray, set_cons_zero, set_cons_succ])
  refine tk (i := 5) (h := ?_)
  (try simp only [Act.put, setIfInBounds_toArray, set_cons_zero, set_cons_succ])
  refine tk (i := 6) (h := ?_)
  (try simp only [Act.put, setIfInBounds_toArray, set_cons_zero, set_cons_succ])
  refine tk (i := 10) (h := ?_)
  (try simp only [Act.put, setIfInBounds_toArray, set_cons_zero, set_cons_succ])
  refine tk (i := 2) (h := ?_)
  (try simp only [Act.put, setIfInBounds_toArray, set_cons_zero, set_cons_succ])
  refine tk (i := 7) (h := ?_)
  (try simp only [Act.put, setIfInBounds_toArray, set_cons_zero, set_cons_succ])
  refine tk (i := 11) (h := ?_)
  (try simp only [Act.put, setIfInBounds_toArray, set_cons_zero, set_cons_succ])
  refine tk (i := 8) (h := ?_)
  (try simp only [Act.put, setIfInBounds_toArray, set_cons_zero, set_cons_succ])
  refine tk (i := 9) (h := ?_)
  (try simp only [Act.put, setIfInBounds_toArray, set_cons_zero, set_cons_succ])
  refine wpAnyH_ready (rs := [3, 12]) (by kernel_rfl) (by simp) ?_
  refine AllReadyH.cons rfl (fun K hK => ?_) ?_
  · go_simp
    obtain ⟨wq13, hwq13⟩ : ∃ w', w' = wq1.alloc (.cells #[Value.int .i64 ((ii : Nat) : Int)] 2) := ⟨_, rfl⟩
    rw [← hwq13]
    have bq13 := al hwq13
    have gq13 := an hwq13
    clear hwq13
    have FB_q14 := Lib.hid ((FB_q2.out).trans ((bq13).mono (FB_q2.out).size))
    clear FB_q2
    obtain ⟨glq15, hgq15⟩ : ∃ b, wq1.heap.size = b := ⟨_, rfl⟩
    have FL_q15 := Lib.hid gq13
    rw [hgq15] at FL_q15 ⊢
    clear hgq15 gq13 bq13
    refine hK.out _ _ (HSX.out _ FB_q14.out) (fun hHeld => ?_)
    clear hK K
    (try simp only [Act.put, setIfInBounds_toArray, set_cons_zero, set_cons_succ])
    refine wpAnyH_ready (rs := [4, 12]) (by kernel_rfl) (by simp) ?_
    refine AllReadyH.cons rfl (fun K hK => ?_) ?_
    · go_simp
      have KBq16 := Lib.hid FB_q14.out
      refine (HWO.out wq13 glq15 FB_q14.out FL_q15.out).mono ?_
      rintro e wq16 ⟨A4, c4, vs4, rfl, oq16, rq16, belq16⟩
      dsimp only
      have FB_q17 := Lib.hid ((FB_q14.out).trans ((belq16).mono (FB_q14.out).size))
      have FL_q18 := Lib.hid (((belq16).block _ (Array.getElem?_eq_some_iff.1 (FL_q15.out)).1).trans (FL_q15.out))
      clear FB_q14 FL_q15
      have FQ_q16 := Lib.hid belq16; have FO_q16 := Lib.hid oq16; have KRq16 := Lib.hid rq16
      clear oq16 rq16 belq16
      refine hK.out _ _ (HSX.out _ FB_q17.out) (fun hHeld => ?_)
      clear hK K
      (try simp only [Act.put, setIfInBounds_toArray, set_cons_zero, set_cons_succ])
      refine t1 (i := 12) (h := fun K hK => ?_)
      go_simp
      obtain ⟨wq19, hwq19⟩ : ∃ w', w' = wq16.alloc (.cells #[.slice AI NI cI, .slice B F.length d] 36) := ⟨_, rfl⟩
      rw [← hwq19]
      have bq19 := al hwq19
      have gq19 := an hwq19
      clear hwq19
      have FB_q20 := Lib.hid ((FB_q17.out).trans ((bq19).mono (FB_q17.out).size))
      have FL_q21 := Lib.hid (((bq19).block _ (Array.getElem?_eq_some_iff.1 (FL_q18.out)).1).trans (FL_q18.out))
      have FQ_q22 := Lib.hid ((FQ_q16.out).trans ((bq19).mono (FQ_q16.out).size))
      have FO_q23 := Lib.hid (own_below (FO_q16.out) (bq19) (Nat.le_refl _))
      clear FB_q17 FL_q18 FQ_q16 FO_q16
      obtain ⟨gfq24, hgq24⟩ : ∃ b, wq16.heap.size = b := ⟨_, rfl⟩
      have FF_q24 := Lib.hid gq19
      rw [hgq24] at FF_q24 ⊢
      clear hgq24 gq19 bq19
      refine hK.out _ _ (HSX.out _ FB_q20.out) (fun hHeld => ?_)
      clear hK K
      (try simp only [Act.put, setIfInBounds_toArray, set_cons_zero, set_cons_succ])
      refine t1 (i := 13) (h := fun K hK => ?_)
      go_simp
      have KOq25 := Lib.hid FO_q23.out
      refine (HFO.out wq19 gfq24 FB_q20.out FF_q24.out).mono ?_
      rintro e wq25 ⟨AX, cX, rfl, oq25, belq25⟩
      dsimp only
      have FB_q26 := Lib.hid ((FB_q20.out).trans ((belq25).mono (FB_q20.out).size))
      have FL_q27 := Lib.hid (((belq25).block _ (Array.getElem?_eq_some_iff.1 (FL_q21.out)).1).trans (FL_q21.out))
      have FQ_q28 := Lib.hid ((FQ_q22.out).trans ((belq25).mono (FQ_q22.out).size))
      have FO_q29 := Lib.hid (own_below (FO_q23.out) (belq25) (Nat.le_refl _))
      have FF_q30 := Lib.hid (((belq25).block _ (Array.getElem?_eq_some_iff.1 (FF_q24.out)).1).trans (FF_q24.out))
      clear FB_q20 FL_q21 FQ_q22 FO_q23 FF_q24
      have FX_q25 := Lib.hid (RdI.of_own oq25); have KCq25 := Lib.hid (own_cap oq25).1; have NEq25 := Lib.hid (own_ord KOq25.out oq25 (Nat.le_refl _))
      clear oq25 belq25 KOq25
      refine hK.out _ _ (HSX.out _ FB_q26.out) (fun hHeld => ?_)
      clear hK K
      (try simp only [Act.put, setIfInBounds_toArray, set_cons_zero, set_cons_succ])
      refine t1 (i := 14) (h := fun K hK => ?_)
      go_simp
      obtain ⟨wq31, hwq31⟩ : ∃ w', w' = wq25.alloc (.cells #[Value.slice AX X.length cX] 36) := ⟨_, rfl⟩
      rw [← hwq31]
      have bq31 := al hwq31
      have gq31 := an hwq31
      clear hwq31
      have FB_q32 := Lib.hid ((FB_q26.out).trans ((bq31).mono (FB_q26.out).size))
      have FL_q33 := Lib.hid (((bq31).block _ (Array.getElem?_eq_some_iff.1 (FL_q27.out)).1).trans (FL_q27.out))
      have FQ_q34 := Lib.hid ((FQ_q28.out).trans ((bq31).mono (FQ_q28.out).size))
      have FO_q35 := Lib.hid (own_below (FO_q29.out) (bq31) (Nat.le_refl _))
      have FF_q36 := Lib.hid (((bq31).block _ (Array.getElem?_eq_some_iff.1 (FF_q30.out)).1).trans (FF_q30.out))
      have FX_q37 := Lib.hid (((FX_q25.out).below (bq31)).more (bq31).size)
      clear FB_q26 FL_q27 FQ_q28 FO_q29 FF_q30 FX_q25
      obtain ⟨gnq38, hgq38⟩ : ∃ b, wq25.heap.size = b := ⟨_, rfl⟩
      have FN_q38 := Lib.hid gq31
      rw [hgq38] at FN_q38 ⊢
      clear hgq38 gq31 bq31
      refine hK.out _ _ (HSX.out _ FB_q32.out) (fun hHeld => ?_)
      clear hK K
      (try simp only [Act.put, setIfInBounds_toArray, set_cons_zero, set_cons_succ])
      refine t1 (i := 15) (h := fun K hK => ?_)
      refine step_append_o rfl _ _ 23 rfl wq13.heap.size 36 i0 (.slice none 0 0) 1 24 Tryz.underlying23 HI.out HZ0.out HZ1.out HZ2.out rfl (by decide) _ _ _ rfl FO_q35.out ⟨gnq38, 0, none⟩ 1 1 [.slice AX X.length cX] rfl rfl (World.news_of_block FN_q38.out) (by simp [Value.oneCell']) (by have := HR9.out; unfold maxLen; omega) (by have := HR9.out; omega) FQ_q34.out.size ?_
      intro v7 wq39 hown7 hgrow7 _
      obtain ⟨A7, c7, rfl, bq39, oq39, rq39⟩ := rule_out KBq16.out FQ_q34.out rfl FO_q35.out KRq16.out FX_q37.out NEq25.out KCq25.out hown7 hgrow7
      have FB_q39 := Lib.hid bq39; have FO_q39 := Lib.hid oq39; have KRq39 := Lib.hid rq39
      clear bq39 oq39 rq39 hown7 hgrow7
      refine hK.out _ _ (HSX.out _ FB_q39.out) (fun hHeld => ?_)
      clear hK K
      (try simp only [Act.put, setIfInBounds_toArray, set_cons_zero, set_cons_succ])
      refine t1 (i := 16) (h := fun K hK => ?_)
      go_simp
      refine hK.out _ _ hHeld (fun hHeld => ?_)
      clear hK K
      (try simp only [Act.put, setIfInBounds_toArray, set_cons_zero, set_cons_succ])
      refine t1 (i := 17) (h := fun K hK => ?_)
      go_simp
      refine hK.out _ _ hHeld (fun hHeld => ?_)
      clear hK K
      (try simp only [Act.put, setIfInBounds_toArray, set_cons_zero, set_cons_succ])
      refine wpAnyH_done (by kernel_rfl) ?_ _
      go_wp2
      go_ret2
      exact ⟨HBU.out.trans (FB_q39.out.mono HBU.out.size), A7, c7, _, by rw [show (R ++ [X]).length = R.length + 1 by simp]; rfl, own_base FO_q39.out HBU.out.size, KRq39.out⟩
    refine AllReadyH.cons rfl (fun K hK => ?_) ?_
    · go_simp
      obtain ⟨wq40, hwq40⟩ : ∃ w', w' = wq13.alloc (.cells #[.slice AI NI cI, .slice B F.length d] 36) := ⟨_, rfl⟩
      rw [← hwq40]
      have bq40 := al hwq40
      have gq40 := an hwq40
      clear hwq40
      have FB_q41 := Lib.hid ((FB_q14.out).trans ((bq40).mono (FB_q14.out).size))
      have FL_q42 := Lib.hid (((bq40).block _ (Array.getElem?_eq_some_iff.1 (FL_q15.out)).1).trans (FL_q15.out))
      clear FB_q14 FL_q15
      obtain ⟨gfq43, hgq43⟩ : ∃ b, wq13.heap.size = b := ⟨_, rfl⟩
      have FF_q43 := Lib.hid gq40
      rw [hgq43] at FF_q43 ⊢
      clear hgq43 gq40 bq40
      refine hK.out _ _ (HSX.out _ FB_q41.out) (fun hHeld => ?_)
      clear hK K
      (try simp only [Act.put, setIfInBounds_toArray, set_cons_zero, set_cons_succ])
      refine t1 (i := 4) (h := fun K hK => ?_)
      go_simp
      have KBq44 := Lib.hid FB_q41.out
      refine (HWO.out wq40 glq15 FB_q41.out FL_q42.out).mono ?_
      rintro e wq44 ⟨A4, c4, vs4, rfl, oq44, rq44, belq44⟩
      dsimp only
      have FB_q45 := Lib.hid ((FB_q41.out).trans ((belq44).mono (FB_q41.out).size))
      have FL_q46 := Lib.hid (((belq44).block _ (Array.getElem?_eq_some_iff.1 (FL_q42.out)).1).trans (FL_q42.out))
      have FF_q47 := Lib.hid (((belq44).block _ (Array.getElem?_eq_some_iff.1 (FF_q43.out)).1).trans (FF_q43.out))
      clear FB_q41 FL_q42 FF_q43
      have FQ_q44 := Lib.hid belq44; have FO_q44 := Lib.hid oq44; have KRq44 := Lib.hid rq44
      clear oq44 rq44 belq44
      refine hK.out _ _ (HSX.out _ FB_q45.out) (fun hHeld => ?_)
      clear hK K
      (try simp only [Act.put, setIfInBounds_toArray, set_cons_zero, set_cons_succ])
      refine t1 (i := 13) (h := fun K hK => ?_)
      go_simp
      have KOq48 := Lib.hid FO_q44.out
      refine (HFO.out wq44 gfq43 FB_q45.out FF_q47.out).mono ?_
      rintro e wq48 ⟨AX, cX, rfl, oq48, belq48⟩
      dsimp only
      have FB_q49 := Lib.hid ((FB_q45.out).trans ((belq48).mono (FB_q45.out).size))
      have FL_q50 := Lib.hid (((belq48).block _ (Array.getElem?_eq_some_iff.1 (FL_q46.out)).1).trans (FL_q46.out))
      have FF_q51 := Lib.hid (((belq48).block _ (Array.getElem?_eq_some_iff.1 (FF_q47.out)).1).trans (FF_q47.out))
      have FQ_q52 := Lib.hid ((FQ_q44.out).trans ((belq48).mono (FQ_q44.out).size))
      have FO_q53 := Lib.hid (own_below (FO_q44.out) (belq48) (Nat.le_refl _))
      clear FB_q45 FL_q46 FF_q47 FQ_q44 FO_q44
      have FX_q48 := Lib.hid (RdI.of_own oq48); have KCq48 := Lib.hid (own_cap oq48).1; have NEq48 := Lib.hid (own_ord KOq48.out oq48 (Nat.le_refl _))
      clear oq48 belq48 KOq48
      refine hK.out _ _ (HSX.out _ FB_q49.out) (fun hHeld => ?_)
      clear hK K
      (try simp only [Act.put, setIfInBounds_toArray, set_cons_zero, set_cons_succ])
      refine t1 (i := 14) (h := fun K hK => ?_)
      go_simp
      obtain ⟨wq54, hwq54⟩ : ∃ w', w' = wq48.alloc (.cells #[Value.slice AX X.length cX] 36) := ⟨_, rfl⟩
      rw [← hwq54]
      have bq54 := al hwq54
      have gq54 := an hwq54
      clear hwq54
      have FB_q55 := Lib.hid ((FB_q49.out).trans ((bq54).mono (FB_q49.out).size))
      have FL_q56 := Lib.hid (((bq54).block _ (Array.getElem?_eq_some_iff.1 (FL_q50.out)).1).trans (FL_q50.out))
      have FF_q57 := Lib.hid (((bq54).block _ (Array.getElem?_eq_some_iff.1 (FF_q51.out)).1).trans (FF_q51.out))
      have FQ_q58 := Lib.hid ((FQ_q52.out).trans ((bq54).mono (FQ_q52.out).size))
      have FO_q59 := Lib.hid (own_below (FO_q53.out) (bq54) (Nat.le_refl _))
      have FX_q60 := Lib.hid (((FX_q48.out).below (bq54)).more (bq54).size)
      clear FB_q49 FL_q50 FF_q51 FQ_q52 FO_q53 FX_q48
      obtain ⟨gnq61, hgq61⟩ : ∃ b, wq48.heap.size = b := ⟨_, rfl⟩
      have FN_q61 := Lib.hid gq54
      rw [hgq61] at FN_q61 ⊢
      clear hgq61 gq54 bq54
      refine hK.out _ _ (HSX.out _ FB_q55.out) (fun hHeld => ?_)
      clear hK K
      (try simp only [Act.put, setIfInBounds_toArray, set_cons_zero, set_cons_succ])
      refine t1 (i := 15) (h := fun K hK => ?_)
      refine step_append_o rfl _ _ 23 rfl wq40.heap.size 36 i0 (.slice none 0 0) 1 24 Tryz.underlying23 HI.out HZ0.out HZ1.out HZ2.out rfl (by decide) _ _ _ rfl FO_q59.out ⟨gnq61, 0, none⟩ 1 1 [.slice AX X.length cX] rfl rfl (World.news_of_block FN_q61.out) (by simp [Value.oneCell']) (by have := HR9.out; unfold maxLen; omega) (by have := HR9.out; omega) FQ_q58.out.size ?_
      intro v7 wq62 hown7 hgrow7 _
      obtain ⟨A7, c7, rfl, bq62, oq62, rq62⟩ := rule_out KBq44.out FQ_q58.out rfl FO_q59.out KRq44.out FX_q60.out NEq48.out KCq48.out hown7 hgrow7
      have FB_q62 := Lib.hid bq62; have FO_q62 := Lib.hid oq62; have KRq62 := Lib.hid rq62
      clear bq62 oq62 rq62 hown7 hgrow7
      refine hK.out _ _ (HSX.out _ FB_q62.out) (fun hHeld => ?_)
      clear hK K
      (try simp only [Act.put, setIfInBounds_toArray, set_cons_zero, set_cons_succ])
      refine t1 (i := 16) (h := fun K hK => ?_)
      go_simp
      refine hK.out _ _ hHeld (fun hHeld => ?_)
      clear hK K
      (try simp only [Act.put, setIfInBounds_toArray, set_cons_zero, set_cons_succ])
      refine t1 (i := 17) (h := fun K hK => ?_)
      go_simp
      refine hK.out _ _ hHeld (fun hHeld => ?_)
      clear hK K
      (try simp only [Act.put, setIfInBounds_toArray, set_cons_zero, set_cons_succ])
      refine wpAnyH_done (by kernel_rfl) ?_ _
      go_wp2
      go_ret2
      exact ⟨HBU.out.trans (FB_q62.out.mono HBU.out.size), A7, c7, _, by rw [show (R ++ [X]).length = R.length + 1 by simp]; rfl, own_base FO_q62.out HBU.out.size, KRq62.out⟩
    exact AllReadyH.nil
  refine AllReadyH.cons rfl (fun K hK => ?_) ?_
  · go_simp
    obtain ⟨wq63, hwq63⟩ : ∃ w', w' = wq1.alloc (.cells #[.slice AI NI cI, .slice B F.length d] 36) := ⟨_, rfl⟩
    rw [← hwq63]
    have bq63 := al hwq63
    have gq63 := an hwq63
    clear hwq63
    have FB_q64 := Lib.hid ((FB_q2.out).trans ((bq63).mono (FB_q2.out).size))
    clear FB_q2
    obtain ⟨gfq65, hgq65⟩ : ∃ b, wq1.heap.size = b := ⟨_, rfl⟩
    have FF_q65 := Lib.hid gq63
    rw [hgq65] at FF_q65 ⊢
    clear hgq65 gq63 bq63
    refine hK.out _ _ (HSX.out _ FB_q64.out) (fun hHeld => ?_)
    clear hK K
    (try simp only [Act.put, setIfInBounds_toArray, set_cons_zero, set_cons_succ])
    refine t1 (i := 3) (h := fun K hK => ?_)
    go_simp
    obtain ⟨wq66, hwq66⟩ : ∃ w', w' = wq63.alloc (.cells #[Value.int .i64 ((ii : Nat) : Int)] 2) := ⟨_, rfl⟩
    rw [← hwq66]
    have bq66 := al hwq66
    have gq66 := an hwq66
    clear hwq66
    have FB_q67 := Lib.hid ((FB_q64.out).trans ((bq66).mono (FB_q64.out).size))
    have FF_q68 := Lib.hid (((bq66).block _ (Array.getElem?_eq_some_iff.1 (FF_q65.out)).1).trans (FF_q65.out))
    clear FB_q64 FF_q65
    obtain ⟨glq69, hgq69⟩ : ∃ b, wq63.heap.size = b := ⟨_, rfl⟩
    have FL_q69 := Lib.hid gq66
    rw [hgq69] at FL_q69 ⊢
    clear hgq69 gq66 bq66
    refine hK.out _ _ (HSX.out _ FB_q67.out) (fun hHeld => ?_)
    clear hK K
    (try simp only [Act.put, setIfInBounds_toArray, set_cons_zero, set_cons_succ])
    refine t1 (i := 4) (h := fun K hK => ?_)
    go_simp
    have KBq70 := Lib.hid FB_q67.out
    refine (HWO.out wq66 glq69 FB_q67.out FL_q69.out).mono ?_
    rintro e wq70 ⟨A4, c4, vs4, rfl, oq70, rq70, belq70⟩
    dsimp only
    have FB_q71 := Lib.hid ((FB_q67.out).trans ((belq70).mono (FB_q67.out).size))
    have FF_q72 := Lib.hid (((belq70).block _ (Array.getElem?_eq_some_iff.1 (FF_q68.out)).1).trans (FF_q68.out))
    have FL_q73 := Lib.hid (((belq70).block _ (Array.getElem?_eq_some_iff.1 (FL_q69.out)).1).trans (FL_q69.out))
    clear FB_q67 FF_q68 FL_q69
    have FQ_q70 := Lib.hid belq70; have FO_q70 := Lib.hid oq70; have KRq70 := Lib.hid rq70
    clear oq70 rq70 belq70
    refine hK.out _ _ (HSX.out _ FB_q71.out) (fun hHeld => ?_)
    clear hK K
    (try simp only [Act.put, setIfInBounds_toArray, set_cons_zero, set_cons_succ])
    refine t1 (i := 13) (h := fun K hK => ?_)
    go_simp
    have KOq74 := Lib.hid FO_q70.out
    refine (HFO.out wq70 gfq65 FB_q71.out FF_q72.out).mono ?_
    rintro e wq74 ⟨AX, cX, rfl, oq74, belq74⟩
    dsimp only
    have FB_q75 := Lib.hid ((FB_q71.out).trans ((belq74).mono (FB_q71.out).size))
    have FF_q76 := Lib.hid (((belq74).block _ (Array.getElem?_eq_some_iff.1 (FF_q72.out)).1).trans (FF_q72.out))
    have FL_q77 := Lib.hid (((belq74).block _ (Array.getElem?_eq_some_iff.1 (FL_q73.out)).1).trans (FL_q73.out))
    have FQ_q78 := Lib.hid ((FQ_q70.out).trans ((belq74).mono (FQ_q70.out).size))
    have FO_q79 := Lib.hid (own_below (FO_q70.out) (belq74) (Nat.le_refl _))
    clear FB_q71 FF_q72 FL_q73 FQ_q70 FO_q70
    have FX_q74 := Lib.hid (RdI.of_own oq74); have KCq74 := Lib.hid (own_cap oq74).1; have NEq74 := Lib.hid (own_ord KOq74.out oq74 (Nat.le_refl _))
    clear oq74 belq74 KOq74
    refine hK.out _ _ (HSX.out _ FB_q75.out) (fun hHeld => ?_)
    clear hK K
    (try simp only [Act.put, setIfInBounds_toArray, set_cons_zero, set_cons_succ])
    refine t1 (i := 14) (h := fun K hK => ?_)
    go_simp
    obtain ⟨wq80, hwq80⟩ : ∃ w', w' = wq74.alloc (.cells #[Value.slice AX X.length cX] 36) := ⟨_, rfl⟩
    rw [← hwq80]
    have bq80 := al hwq80
    have gq80 := an hwq80
    clear hwq80
    have FB_q81 := Lib.hid ((FB_q75.out).trans ((bq80).mono (FB_q75.out).size))
    have FF_q82 := Lib.hid (((bq80).block _ (Array.getElem?_eq_some_iff.1 (FF_q76.out)).1).trans (FF_q76.out))
    have FL_q83 := Lib.hid (((bq80).block _ (Array.getElem?_eq_some_iff.1 (FL_q77.out)).1).trans (FL_q77.out))
    have FQ_q84 := Lib.hid ((FQ_q78.out).trans ((bq80).mono (FQ_q78.out).size))
    have FO_q85 := Lib.hid (own_below (FO_q79.out) (bq80) (Nat.le_refl _))
    have FX_q86 := Lib.hid (((FX_q74.out).below (bq80)).more (bq80).size)
    clear FB_q75 FF_q76 FL_q77 FQ_q78 FO_q79 FX_q74
    obtain ⟨gnq87, hgq87⟩ : ∃ b, wq74.heap.size = b := ⟨_, rfl⟩
    have FN_q87 := Lib.hid gq80
    rw [hgq87] at FN_q87 ⊢
    clear hgq87 gq80 bq80
    refine hK.out _ _ (HSX.out _ FB_q81.out) (fun hHeld => ?_)
    clear hK K
    (try simp only [Act.put, setIfInBounds_toArray, set_cons_zero, set_cons_succ])
    refine t1 (i := 15) (h := fun K hK => ?_)
    refine step_append_o rfl _ _ 23 rfl wq66.heap.size 36 i0 (.slice none 0 0) 1 24 Tryz.underlying23 HI.out HZ0.out HZ1.out HZ2.out rfl (by decide) _ _ _ rfl FO_q85.out ⟨gnq87, 0, none⟩ 1 1 [.slice AX X.length cX] rfl rfl (World.news_of_block FN_q87.out) (by simp [Value.oneCell']) (by have := HR9.out; unfold maxLen; omega) (by have := HR9.out; omega) FQ_q84.out.size ?_
    intro v7 wq88 hown7 hgrow7 _
    obtain ⟨A7, c7, rfl, bq88, oq88, rq88⟩ := rule_out KBq70.out FQ_q84.out rfl FO_q85.out KRq70.out FX_q86.out NEq74.out KCq74.out hown7 hgrow7
    have FB_q88 := Lib.hid bq88; have FO_q88 := Lib.hid oq88; have KRq88 := Lib.hid rq88
    clear bq88 oq88 rq88 hown7 hgrow7
    refine hK.out _ _ (HSX.out _ FB_q88.out) (fun hHeld => ?_)
    clear hK K
    (try simp only [Act.put, setIfInBounds_toArray, set_cons_zero, set_cons_succ])
    refine t1 (i := 16) (h := fun K hK => ?_)
    go_simp
    refine hK.out _ _ hHeld (fun hHeld => ?_)
    clear hK K
    (try simp only [Act.put, setIfInBounds_toArray, set_cons_zero, set_cons_succ])
    refine t1 (i := 17) (h := fun K hK => ?_)
    go_simp
    refine hK.out _ _ hHeld (fun hHeld => ?_)
    clear hK K
    (try simp only [Act.put, setIfInBounds_toArray, set_cons_zero, set_cons_succ])
    refine wpAnyH_done (by kernel_rfl) ?_ _
    go_wp2
    go_ret2
    exact ⟨HBU.out.trans (FB_q88.out.mono HBU.out.size), A7, c7, _, by rw [show (R ++ [X]).length = R.length + 1 by simp]; rfl, own_base FO_q88.out HBU.out.size, KRq88.out⟩
  exact AllReadyH.nil

set_option linter.unusedSimpArgs false in
set_option maxRecDepth 100000 in
set_option maxHeartbeats 8000000 in
theorem plusR_any (x y z : Bool) (r a b j : Int) (ii : Nat) (A : Option Addr) (n c : Nat) (P : List (List Int)) (B : Option Addr) (m d : Nat) (F : List Int) (w : World) (h : RdQ w w.heap.size A n P) (hf : RdI w w.heap.size B m F) (hn : n ≤ 10) (hq : ∀ q ∈ P, 0 < q.length ∧ q.length ≤ 24) (hii : ii < n) (hF : 0 < F.length ∧ F.length ≤ 24) :
    Calls Tryz.prog 118 #[.agg #[.bool x, .bool y, .bool z], .slice A n c, Value.agg #[Value.int .i64 r, Value.int .i64 a, Value.int .i64 b, Value.int .i64 ((ii : Nat):Int), Value.int .i64 j, Value.slice B m d]] w (GivesD w (some (woL P [((ii : Nat) : Int)] ++ [(15 :: (F ++ P.getD ii []))]))) := by
  obtain ⟨i0, hi0, hz0, hz1, hz2⟩ := info_parts_s
  have HI := Lib.hid hi0; have HZ0 := Lib.hid hz0; have HZ1 := Lib.hid hz1; have HZ2 := Lib.hid hz2
  have hl := h.len
  subst hl
  have hl2 := hf.len
  subst hl2
  obtain ⟨u, hu0⟩ : ∃ u, u = (w.alloc (.cells #[Value.bool x, Value.bool y, Value.bool z] 100)).alloc (.cells #[Value.int .i64 r, Value.int .i64 a, Value.int .i64 b, Value.int .i64 ((ii : Nat) : Int), Value.int .i64 j, Value.slice B F.length d] 43) := ⟨_, rfl⟩
  obtain ⟨hb, p0, p1, hsz⟩ := two_any w (.cells #[Value.bool x, Value.bool y, Value.bool z] 100) (.cells #[Value.int .i64 r, Value.int .i64 a, Value.int .i64 b, Value.int .i64 ((ii : Nat) : Int), Value.int .i64 j, Value.slice B F.length d] 43)
  rw [← hu0] at hb p0 p1 hsz
  have HU0 := Lib.hid hu0; have HBU := Lib.hid hb; have HP1 := Lib.hid p1; have HP := Lib.hid ((h.below hb).more hb.size)
  obtain ⟨bp, op, rfl, hbp, hcp⟩ := h.2 (by omega)
  obtain ⟨AI, cI, kI, mI, rI⟩ := hcp ii (by omega)
  have HRI := Lib.hid ((rI.below hb).more hb.size)
  have hlI : 0 < (P.getD ii []).length ∧ (P.getD ii []).length ≤ 24 := hq _ (getD_mem (by omega))
  have HRF := Lib.hid ((hf.below hb).more hb.size)
  have HSX : Hid (∀ wx, Below u.heap.size u wx → wx.cell? ⟨w.heap.size + 1, 3, none⟩ = some (.int .i64 ((ii : Nat) : Int)) ∧ wx.cell? ⟨w.heap.size + 1, 5, none⟩ = some (.slice B F.length d) ∧ wx.cell? ⟨bp, op + ii, none⟩ = some (.slice AI (P.getD ii []).length cI)) := Lib.hid fun wx hx => by
    have q := (hx.block (w.heap.size + 1) (by omega)).trans p1
    exact ⟨cell_of_row _ _ 3 _ _ (0, 0) q, cell_of_row _ _ 5 _ _ (0, 0) q, ((hb.trans (hx.mono hb.size)).cell (p := ⟨bp, op + ii, none⟩) hbp).trans kI⟩
  have K0 := Lib.hid (HSX.out u (Below.refl _ _))
  have hwo := fun (wx : World) (g : Nat) (hx : Below u.heap.size u wx) (hg : wx.heap[g]? = some (.cells #[Value.int .i64 ((ii : Nat) : Int)] 2 (0, 0))) => without_any (some ⟨bp, op, none⟩) P.length c P (some ⟨g, 0, none⟩) 1 1 [((ii : Nat) : Int)] wx ((HP.out.below hx).more hx.size) (rd_lit hg) (by omega) (by omega)
  have hfo := fun (wx : World) (g : Nat) (hx : Below u.heap.size u wx) (hg : wx.heap[g]? = some (.cells #[.slice B F.length d, .slice AI (P.getD ii []).length cI] 36 (0, 0))) => formOf2_any 15 g B AI d cI (F) (P.getD ii []) wx hg ((HRF.out.below hx).more hx.size) ((HRI.out.below hx).more hx.size) (by omega) (by omega)
  obtain ⟨X, hX⟩ : ∃ X, (15 :: (F ++ P.getD ii [])) = X := ⟨_, rfl⟩
  obtain ⟨R, hR⟩ : ∃ R, woL P [((ii : Nat) : Int)] = R := ⟨_, rfl⟩
  have hR9 : R.length ≤ 10 := by rw [← hR]; exact Nat.le_trans (woK_len _ _ _) hn
  rw [hX] at hfo ⊢
  rw [hR] at hwo ⊢
  have HWO := Lib.hid hwo; have HFO := Lib.hid hfo; have HR9 := Lib.hid hR9
  have hai : ((ii : Nat) : Int) < (P.length : Int) := by omega
  clear hu0 hb p0 p1 hwo hfo hX hR hR9 h hq hi0 hz0 hz1 hz2 kI rI hlI mI hcp hf
  generalize (P.getD ii []).length = NI at *
  go_enter Tryz.func118, Tryz.ntmps118
  go_upto_region 1 with (fail)
  rw [← HU0.out]
  have FB_0 := Lib.hid (Below.refl u.heap.size u)
  refine wp_region_held_drew (S := fun wx => wx.cell? ⟨w.heap.size + 1, 3, none⟩ = some (.int .i64 ((ii : Nat) : Int)) ∧ wx.cell? ⟨w.heap.size + 1, 5, none⟩ = some (.slice B F.length d) ∧ wx.cell? ⟨bp, op + ii, none⟩ = some (.slice AI NI cI)) (by kernel_rfl) K0.out (fun hHeld => ?_)
  obtain ⟨wq1, hwq1⟩ : ∃ w', w' = u.drew := ⟨_, rfl⟩
  rw [← hwq1] at hHeld ⊢
  have bq1 : Below u.heap.size u wq1 := by rw [hwq1]; exact (Below.refl _ _).drew
  clear hwq1
  have FB_q2 := Lib.hid ((FB_0.out).trans ((bq1).mono (FB_0.out).size))
  clear FB_0
  refine tk (i := 0) (h := ?_)
  (try simp only [Act.put, setIfInBounds_toArray, set_cons_zero, set_cons_succ])
  refine tk (i := 1) (h := ?_)
  (try simp only [Act.put, setIfInBounds_toArray, set_cons_zero, set_cons_succ])
  refine tk (i := 5) (h := ?_)
  (try simp only [Act.put, setIfInBounds_toArray, set_cons_zero, set_cons_succ])
  refine tk (i := 7) (h := ?_)
  (try simp only [Act.put, setIfInBounds_toArray, set_cons_zero, set_cons_succ])
  refine tk (i := 8) (h := ?_)
  (try simp only [Act.put, setIfInBounds_toArray, set_cons_zero, set_cons_succ])
  refine tk (i := 2) (h := ?_)
  (try simp only [Act.put, setIfInBounds_toArray, set_cons_zero, set_cons_succ])
  refine tk (i := 6) (h := ?_)
  (try simp only [Act.put, setIfInBounds_toArray, set_cons_zero, set_cons_succ])
  refine tk (i := 9) (h := ?_)
  (try simp only [Act.put, setIfInBounds_toArray, set_cons_zero, set_cons_succ])
  refine tk (i := 10) (h := ?_)
  (try simp only [Act.put, setIfInBounds_toArray, set_cons_zero, set_cons_succ])
  refine tk (i := 11) (h := ?_)
  (try simp only [Act.put, setIfInBounds_toArray, set_cons_zero, set_cons_succ])
  refine wpAnyH_ready (rs := [3, 12]) (by kernel_rfl) (by simp) ?_
  refine AllReadyH.cons rfl (fun K hK => ?_) ?_
  · go_simp
    obtain ⟨wq13, hwq13⟩ : ∃ w', w' = wq1.alloc (.cells #[Value.int .i64 ((ii : Nat) : Int)] 2) := ⟨_, rfl⟩
    rw [← hwq13]
    have bq13 := al hwq13
    have gq13 := an hwq13
    clear hwq13
    have FB_q14 := Lib.hid ((FB_q2.out).trans ((bq13).mono (FB_q2.out).size))
    clear FB_q2
    obtain ⟨glq15, hgq15⟩ : ∃ b, wq1.heap.size = b := ⟨_, rfl⟩
    have FL_q15 := Lib.hid gq13
    rw [hgq15] at FL_q15 ⊢
    clear hgq15 gq13 bq13
    refine hK.out _ _ (HSX.out _ FB_q14.out) (fun hHeld => ?_)
    clear hK K
    (try simp only [Act.put, setIfInBounds_toArray, set_cons_zero, set_cons_succ])
    refine wpAnyH_ready (rs := [4, 12]) (by kernel_rfl) (by simp) ?_
    refine AllReadyH.cons rfl (fun K hK => ?_) ?_
    · go_simp
      have KBq16 := Lib.hid FB_q14.out
      refine (HWO.out wq13 glq15 FB_q14.out FL_q15.out).mono ?_
      rintro e wq16 ⟨A4, c4, vs4, rfl, oq16, rq16, belq16⟩
      dsimp only
      have FB_q17 := Lib.hid ((FB_q14.out).trans ((belq16).mono (FB_q14.out).size))
      have FL_q18 := Lib.hid (((belq16).block _ (Array.getElem?_eq_some_iff.1 (FL_q15.out)).1).trans (FL_q15.out))
      clear FB_q14 FL_q15
      have FQ_q16 := Lib.hid belq16; have FO_q16 := Lib.hid oq16; have KRq16 := Lib.hid rq16
      clear oq16 rq16 belq16
      refine hK.out _ _ (HSX.out _ FB_q17.out) (fun hHeld => ?_)
      clear hK K
      (try simp only [Act.put, setIfInBounds_toArray, set_cons_zero, set_cons_succ])
      refine t1 (i := 12) (h := fun K hK => ?_)
      go_simp
      obtain ⟨wq19, hwq19⟩ : ∃ w', w' = wq16.alloc (.cells #[.slice B F.length d, .slice AI NI cI] 36) := ⟨_, rfl⟩
      rw [← hwq19]
      have bq19 := al hwq19
      have gq19 := an hwq19
      clear hwq19
      have FB_q20 := Lib.hid ((FB_q17.out).trans ((bq19).mono (FB_q17.out).size))
      have FL_q21 := Lib.hid (((bq19).block _ (Array.getElem?_eq_some_iff.1 (FL_q18.out)).1).trans (FL_q18.out))
      have FQ_q22 := Lib.hid ((FQ_q16.out).trans ((bq19).mono (FQ_q16.out).size))
      have FO_q23 := Lib.hid (own_below (FO_q16.out) (bq19) (Nat.le_refl _))
      clear FB_q17 FL_q18 FQ_q16 FO_q16
      obtain ⟨gfq24, hgq24⟩ : ∃ b, wq16.heap.size = b := ⟨_, rfl⟩
      have FF_q24 := Lib.hid gq19
      rw [hgq24] at FF_q24 ⊢
      clear hgq24 gq19 bq19
      refine hK.out _ _ (HSX.out _ FB_q20.out) (fun hHeld => ?_)
      clear hK K
      (try simp only [Act.put, setIfInBounds_toArray, set_cons_zero, set_cons_succ])
      refine t1 (i := 13) (h := fun K hK => ?_)
      go_simp
      have KOq25 := Lib.hid FO_q23.out
      refine (HFO.out wq19 gfq24 FB_q20.out FF_q24.out).mono ?_
      rintro e wq25 ⟨AX, cX, rfl, oq25, belq25⟩
      dsimp only
      have FB_q26 := Lib.hid ((FB_q20.out).trans ((belq25).mono (FB_q20.out).size))
      have FL_q27 := Lib.hid (((belq25).block _ (Array.getElem?_eq_some_iff.1 (FL_q21.out)).1).trans (FL_q21.out))
      have FQ_q28 := Lib.hid ((FQ_q22.out).trans ((belq25).mono (FQ_q22.out).size))
      have FO_q29 := Lib.hid (own_below (FO_q23.out) (belq25) (Nat.le_refl _))
      have FF_q30 := Lib.hid (((belq25).block _ (Array.getElem?_eq_some_iff.1 (FF_q24.out)).1).trans (FF_q24.out))
      clear FB_q20 FL_q21 FQ_q22 FO_q23 FF_q24
      have FX_q25 := Lib.hid (RdI.of_own oq25); have KCq25 := Lib.hid (own_cap oq25).1; have NEq25 := Lib.hid (own_ord KOq25.out oq25 (Nat.le_refl _))
      clear oq25 belq25 KOq25
      refine hK.out _ _ (HSX.out _ FB_q26.out) (fun hHeld => ?_)
      clear hK K
      (try simp only [Act.put, setIfInBounds_toArray, set_cons_zero, set_cons_succ])
      refine t1 (i := 14) (h := fun K hK => ?_)
      go_simp
      obtain ⟨wq31, hwq31⟩ : ∃ w', w' = wq25.alloc (.cells #[Value.slice AX X.length cX] 36) := ⟨_, rfl⟩
      rw [← hwq31]
      have bq31 := al hwq31
      have gq31 := an hwq31
      clear hwq31
      have FB_q32 := Lib.hid ((FB_q26.out).trans ((bq31).mono (FB_q26.out).size))
      have FL_q33 := Lib.hid (((bq31).block _ (Array.getElem?_eq_some_iff.1 (FL_q27.out)).1).trans (FL_q27.out))
      have FQ_q34 := Lib.hid ((FQ_q28.out).trans ((bq31).mono (FQ_q28.out).size))
      have FO_q35 := Lib.hid (own_below (FO_q29.out) (bq31) (Nat.le_refl _))
      have FF_q36 := Lib.hid (((bq31).block _ (Array.getElem?_eq_some_iff.1 (FF_q30.out)).1).trans (FF_q30.out))
      have FX_q37 := Lib.hid (((FX_q25.out).below (bq31)).more (bq31).size)
      clear FB_q26 FL_q27 FQ_q28 FO_q29 FF_q30 FX_q25
      obtain ⟨gnq38, hgq38⟩ : ∃ b, wq25.heap.size = b := ⟨_, rfl⟩
      have FN_q38 := Lib.hid gq31
      rw [hgq38] at FN_q38 ⊢
      clear hgq38 gq31 bq31
      refine hK.out _ _ (HSX.out _ FB_q32.out) (fun hHeld => ?_)
      clear hK K
      (try simp only [Act.put, setIfInBounds_toArray, set_cons_zero, set_cons_succ])
      refine t1 (i := 15) (h := fun K hK => ?_)
      refine step_append_o rfl _ _ 23 rfl wq13.heap.size 36 i0 (.slice none 0 0) 1 24 Tryz.underlying23 HI.out HZ0.out HZ1.out HZ2.out rfl (by decide) _ _ _ rfl FO_q35.out ⟨gnq38, 0, none⟩ 1 1 [.slice AX X.length cX] rfl rfl (World.news_of_block FN_q38.out) (by simp [Value.oneCell']) (by have := HR9.out; unfold maxLen; omega) (by have := HR9.out; omega) FQ_q34.out.size ?_
      intro v7 wq39 hown7 hgrow7 _
      obtain ⟨A7, c7, rfl, bq39, oq39, rq39⟩ := rule_out KBq16.out FQ_q34.out rfl FO_q35.out KRq16.out FX_q37.out NEq25.out KCq25.out hown7 hgrow7
      have FB_q39 := Lib.hid bq39; have FO_q39 := Lib.hid oq39; have KRq39 := Lib.hid rq39
      clear bq39 oq39 rq39 hown7 hgrow7
      refine hK.out _ _ (HSX.out _ FB_q39.out) (fun hHeld => ?_)
      clear hK K
      (try simp only [Act.put, setIfInBounds_toArray, set_cons_zero, set_cons_succ])
      refine t1 (i := 16) (h := fun K hK => ?_)
      go_simp
      refine hK.out _ _ hHeld (fun hHeld => ?_)
      clear hK K
      (try simp only [Act.put, setIfInBounds_toArray, set_cons_zero, set_cons_succ])
      refine t1 (i := 17) (h := fun K hK => ?_)
      go_simp
      refine hK.out _ _ hHeld (fun hHeld => ?_)
      clear hK K
      (try simp only [Act.put, setIfInBounds_toArray, set_cons_zero, set_cons_succ])
      refine wpAnyH_done (by kernel_rfl) ?_ _
      go_wp2
      go_ret2
      exact ⟨HBU.out.trans (FB_q39.out.mono HBU.out.size), A7, c7, _, by rw [show (R ++ [X]).length = R.length + 1 by simp]; rfl, own_base FO_q39.out HBU.out.size, KRq39.out⟩
    refine AllReadyH.cons rfl (fun K hK => ?_) ?_
    · go_simp
      obtain ⟨wq40, hwq40⟩ : ∃ w', w' = wq13.alloc (.cells #[.slice B F.length d, .slice AI NI cI] 36) := ⟨_, rfl⟩
      rw [← hwq40]
      have bq40 := al hwq40
      have gq40 := an hwq40
      clear hwq40
      have FB_q41 := Lib.hid ((FB_q14.out).trans ((bq40).mono (FB_q14.out).size))
      have FL_q42 := Lib.hid (((bq40).block _ (Array.getElem?_eq_some_iff.1 (FL_q15.out)).1).trans (FL_q15.out))
      clear FB_q14 FL_q15
      obtain ⟨gfq43, hgq43⟩ : ∃ b, wq13.heap.size = b := ⟨_, rfl⟩
      have FF_q43 := Lib.hid gq40
      rw [hgq43] at FF_q43 ⊢
      clear hgq43 gq40 bq40
      refine hK.out _ _ (HSX.out _ FB_q41.out) (fun hHeld => ?_)
      clear hK K
      (try simp only [Act.put, setIfInBounds_toArray, set_cons_zero, set_cons_succ])
      refine t1 (i := 4) (h := fun K hK => ?_)
      go_simp
      have KBq44 := Lib.hid FB_q41.out
      refine (HWO.out wq40 glq15 FB_q41.out FL_q42.out).mono ?_
      rintro e wq44 ⟨A4, c4, vs4, rfl, oq44, rq44, belq44⟩
      dsimp only
      have FB_q45 := Lib.hid ((FB_q41.out).trans ((belq44).mono (FB_q41.out).size))
      have FL_q46 := Lib.hid (((belq44).block _ (Array.getElem?_eq_some_iff.1 (FL_q42.out)).1).trans (FL_q42.out))
      have FF_q47 := Lib.hid (((belq44).block _ (Array.getElem?_eq_some_iff.1 (FF_q43.out)).1).trans (FF_q43.out))
      clear FB_q41 FL_q42 FF_q43
      have FQ_q44 := Lib.hid belq44; have FO_q44 := Lib.hid oq44; have KRq44 := Lib.hid rq44
      clear oq44 rq44 belq44
      refine hK.out _ _ (HSX.out _ FB_q45.out) (fun hHeld => ?_)
      clear hK K
      (try simp only [Act.put, setIfInBounds_toArray, set_cons_zero, set_cons_succ])
      refine t1 (i := 13) (h := fun K hK => ?_)
      go_simp
      have KOq48 := Lib.hid FO_q44.out
      refine (HFO.out wq44 gfq43 FB_q45.out FF_q47.out).mono ?_
      rintro e wq48 ⟨AX, cX, rfl, oq48, belq48⟩
      dsimp only
      have FB_q49 := Lib.hid ((FB_q45.out).trans ((belq48).mono (FB_q45.out).size))
      have FL_q50 := Lib.hid (((belq48).block _ (Array.getElem?_eq_some_iff.1 (FL_q46.out)).1).trans (FL_q46.out))
      have FF_q51 := Lib.hid (((belq48).block _ (Array.getElem?_eq_some_iff.1 (FF_q47.out)).1).trans (FF_q47.out))
      have FQ_q52 := Lib.hid ((FQ_q44.out).trans ((belq48).mono (FQ_q44.out).size))
      have FO_q53 := Lib.hid (own_below (FO_q44.out) (belq48) (Nat.le_refl _))
      clear FB_q45 FL_q46 FF_q47 FQ_q44 FO_q44
      have FX_q48 := Lib.hid (RdI.of_own oq48); have KCq48 := Lib.hid (own_cap oq48).1; have NEq48 := Lib.hid (own_ord KOq48.out oq48 (Nat.le_refl _))
      clear oq48 belq48 KOq48
      refine hK.out _ _ (HSX.out _ FB_q49.out) (fun hHeld => ?_)
      clear hK K
      (try simp only [Act.put, setIfInBounds_toArray, set_cons_zero, set_cons_succ])
      refine t1 (i := 14) (h := fun K hK => ?_)
      go_simp
      obtain ⟨wq54, hwq54⟩ : ∃ w', w' = wq48.alloc (.cells #[Value.slice AX X.length cX] 36) := ⟨_, rfl⟩
      rw [← hwq54]
      have bq54 := al hwq54
      have gq54 := an hwq54
      clear hwq54
      have FB_q55 := Lib.hid ((FB_q49.out).trans ((bq54).mono (FB_q49.out).size))
      have FL_q56 := Lib.hid (((bq54).block _ (Array.getElem?_eq_some_iff.1 (FL_q50.out)).1).trans (FL_q50.out))
      have FF_q57 := Lib.hid (((bq54).block _ (Array.getElem?_eq_some_iff.1 (FF_q51.out)).1).trans (FF_q51.out))
      have FQ_q58 := Lib.hid ((FQ_q52.out).trans ((bq54).mono (FQ_q52.out).size))
      have FO_q59 := Lib.hid (own_below (FO_q53.out) (bq54) (Nat.le_refl _))
      have FX_q60 := Lib.hid (((FX_q48.out).below (bq54)).more (bq54).size)
      clear FB_q49 FL_q50 FF_q51 FQ_q52 FO_q53 FX_q48
      obtain ⟨gnq61, hgq61⟩ : ∃ b, wq48.heap.size = b := ⟨_, rfl⟩
      have FN_q61 := Lib.hid gq54
      rw [hgq61] at FN_q61 ⊢
      clear hgq61 gq54 bq54
      refine hK.out _ _ (HSX.out _ FB_q55.out) (fun hHeld => ?_)
      clear hK K
      (try simp only [Act.put, setIfInBounds_toArray, set_cons_zero, set_cons_succ])
      refine t1 (i := 15) (h := fun K hK => ?_)
      refine step_append_o rfl _ _ 23 rfl wq40.heap.size 36 i0 (.slice none 0 0) 1 24 Tryz.underlying23 HI.out HZ0.out HZ1.out HZ2.out rfl (by decide) _ _ _ rfl FO_q59.out ⟨gnq61, 0, none⟩ 1 1 [.slice AX X.length cX] rfl rfl (World.news_of_block FN_q61.out) (by simp [Value.oneCell']) (by have := HR9.out; unfold maxLen; omega) (by have := HR9.out; omega) FQ_q58.out.size ?_
      intro v7 wq62 hown7 hgrow7 _
      obtain ⟨A7, c7, rfl, bq62, oq62, rq62⟩ := rule_out KBq44.out FQ_q58.out rfl FO_q59.out KRq44.out FX_q60.out NEq48.out KCq48.out hown7 hgrow7
      have FB_q62 := Lib.hid bq62; have FO_q62 := Lib.hid oq62; have KRq62 := Lib.hid rq62
      clear bq62 oq62 rq62 hown7 hgrow7
      refine hK.out _ _ (HSX.out _ FB_q62.out) (fun hHeld => ?_)
      clear hK K
      (try simp only [Act.put, setIfInBounds_toArray, set_cons_zero, set_cons_succ])
      refine t1 (i := 16) (h := fun K hK => ?_)
      go_simp
      refine hK.out _ _ hHeld (fun hHeld => ?_)
      clear hK K
      (try simp only [Act.put, setIfInBounds_toArray, set_cons_zero, set_cons_succ])
      refine t1 (i := 17) (h := fun K hK => ?_)
      go_simp
      refine hK.out _ _ hHeld (fun hHeld => ?_)
      clear hK K
      (try simp only [Act.put, setIfInBounds_toArray, set_cons_zero, set_cons_succ])
      refine wpAnyH_done (by kernel_rfl) ?_ _
      go_wp2
      go_ret2
      exact ⟨HBU.out.trans (FB_q62.out.mono HBU.out.size), A7, c7, _, by rw [show (R ++ [X]).length = R.length + 1 by simp]; rfl, own_base FO_q62.out HBU.out.size, KRq62.out⟩
    exact AllReadyH.nil
  refine AllReadyH.cons rfl (fun K hK => ?_) ?_
  · go_simp
    obtain ⟨wq63, hwq63⟩ : ∃ w', w' = wq1.alloc (.cells #[.slice B F.length d, .slice AI NI cI] 36) := ⟨_, rfl⟩
    rw [← hwq63]
    have bq63 := al hwq63
    have gq63 := an hwq63
    clear hwq63
    have FB_q64 := Lib.hid ((FB_q2.out).trans ((bq63).mono (FB_q2.out).size))
    clear FB_q2
    obtain ⟨gfq65, hgq65⟩ : ∃ b, wq1.heap.size = b := ⟨_, rfl⟩
    have FF_q65 := Lib.hid gq63
    rw [hgq65] at FF_q65 ⊢
    clear hgq65 gq63 bq63
    refine hK.out _ _ (HSX.out _ FB_q64.out) (fun hHeld => ?_)
    clear hK K
    (try simp only [Act.put, setIfInBounds_toArray, set_cons_zero, set_cons_succ])
    refine t1 (i := 3) (h := fun K hK => ?_)
    go_simp
    obtain ⟨wq66, hwq66⟩ : ∃ w', w' = wq63.alloc (.cells #[Value.int .i64 ((ii : Nat) : Int)] 2) := ⟨_, rfl⟩
    rw [← hwq66]
    have bq66 := al hwq66
    have gq66 := an hwq66
    clear hwq66
    have FB_q67 := Lib.hid ((FB_q64.out).trans ((bq66).mono (FB_q64.out).size))
    have FF_q68 := Lib.hid (((bq66).block _ (Array.getElem?_eq_some_iff.1 (FF_q65.out)).1).trans (FF_q65.out))
    clear FB_q64 FF_q65
    obtain ⟨glq69, hgq69⟩ : ∃ b, wq63.heap.size = b := ⟨_, rfl⟩
    have FL_q69 := Lib.hid gq66
    rw [hgq69] at FL_q69 ⊢
    clear hgq69 gq66 bq66
    refine hK.out _ _ (HSX.out _ FB_q67.out) (fun hHeld => ?_)
    clear hK K
    (try simp only [Act.put, setIfInBounds_toArray, set_cons_zero, set_cons_succ])
    refine t1 (i := 4) (h := fun K hK => ?_)
    go_simp
    have KBq70 := Lib.hid FB_q67.out
    refine (HWO.out wq66 glq69 FB_q67.out FL_q69.out).mono ?_
    rintro e wq70 ⟨A4, c4, vs4, rfl, oq70, rq70, belq70⟩
    dsimp only
    have FB_q71 := Lib.hid ((FB_q67.out).trans ((belq70).mono (FB_q67.out).size))
    have FF_q72 := Lib.hid (((belq70).block _ (Array.getElem?_eq_some_iff.1 (FF_q68.out)).1).trans (FF_q68.out))
    have FL_q73 := Lib.hid (((belq70).block _ (Array.getElem?_eq_some_iff.1 (FL_q69.out)).1).trans (FL_q69.out))
    clear FB_q67 FF_q68 FL_q69
    have FQ_q70 := Lib.hid belq70; have FO_q70 := Lib.hid oq70; have KRq70 := Lib.hid rq70
    clear oq70 rq70 belq70
    refine hK.out _ _ (HSX.out _ FB_q71.out) (fun hHeld => ?_)
    clear hK K
    (try simp only [Act.put, setIfInBounds_toArray, set_cons_zero, set_cons_succ])
    refine t1 (i := 13) (h := fun K hK => ?_)
    go_simp
    have KOq74 := Lib.hid FO_q70.out
    refine (HFO.out wq70 gfq65 FB_q71.out FF_q72.out).mono ?_
    rintro e wq74 ⟨AX, cX, rfl, oq74, belq74⟩
    dsimp only
    have FB_q75 := Lib.hid ((FB_q71.out).trans ((belq74).mono (FB_q71.out).size))
    have FF_q76 := Lib.hid (((belq74).block _ (Array.getElem?_eq_some_iff.1 (FF_q72.out)).1).trans (FF_q72.out))
    have FL_q77 := Lib.hid (((belq74).block _ (Array.getElem?_eq_some_iff.1 (FL_q73.out)).1).trans (FL_q73.out))
    have FQ_q78 := Lib.hid ((FQ_q70.out).trans ((belq74).mono (FQ_q70.out).size))
    have FO_q79 := Lib.hid (own_below (FO_q70.out) (belq74) (Nat.le_refl _))
    clear FB_q71 FF_q72 FL_q73 FQ_q70 FO_q70
    have FX_q74 := Lib.hid (RdI.of_own oq74); have KCq74 := Lib.hid (own_cap oq74).1; have NEq74 := Lib.hid (own_ord KOq74.out oq74 (Nat.le_refl _))
    clear oq74 belq74 KOq74
    refine hK.out _ _ (HSX.out _ FB_q75.out) (fun hHeld => ?_)
    clear hK K
    (try simp only [Act.put, setIfInBounds_toArray, set_cons_zero, set_cons_succ])
    refine t1 (i := 14) (h := fun K hK => ?_)
    go_simp
    obtain ⟨wq80, hwq80⟩ : ∃ w', w' = wq74.alloc (.cells #[Value.slice AX X.length cX] 36) := ⟨_, rfl⟩
    rw [← hwq80]
    have bq80 := al hwq80
    have gq80 := an hwq80
    clear hwq80
    have FB_q81 := Lib.hid ((FB_q75.out).trans ((bq80).mono (FB_q75.out).size))
    have FF_q82 := Lib.hid (((bq80).block _ (Array.getElem?_eq_some_iff.1 (FF_q76.out)).1).trans (FF_q76.out))
    have FL_q83 := Lib.hid (((bq80).block _ (Array.getElem?_eq_some_iff.1 (FL_q77.out)).1).trans (FL_q77.out))
    have FQ_q84 := Lib.hid ((FQ_q78.out).trans ((bq80).mono (FQ_q78.out).size))
    have FO_q85 := Lib.hid (own_below (FO_q79.out) (bq80) (Nat.le_refl _))
    have FX_q86 := Lib.hid (((FX_q74.out).below (bq80)).more (bq80).size)
    clear FB_q75 FF_q76 FL_q77 FQ_q78 FO_q79 FX_q74
    obtain ⟨gnq87, hgq87⟩ : ∃ b, wq74.heap.size = b := ⟨_, rfl⟩
    have FN_q87 := Lib.hid gq80
    rw [hgq87] at FN_q87 ⊢
    clear hgq87 gq80 bq80
    refine hK.out _ _ (HSX.out _ FB_q81.out) (fun hHeld => ?_)
    clear hK K
    (try simp only [Act.put, setIfInBounds_toArray, set_cons_zero, set_cons_succ])
    refine t1 (i := 15) (h := fun K hK => ?_)
    refine step_append_o rfl _ _ 23 rfl wq66.heap.size 36 i0 (.slice none 0 0) 1 24 Tryz.underlying23 HI.out HZ0.out HZ1.out HZ2.out rfl (by decide) _ _ _ rfl FO_q85.out ⟨gnq87, 0, none⟩ 1 1 [.slice AX X.length cX] rfl rfl (World.news_of_block FN_q87.out) (by simp [Value.oneCell']) (by have := HR9.out; unfold maxLen; omega) (by have := HR9.out; omega) FQ_q84.out.size ?_
    intro v7 wq88 hown7 hgrow7 _
    obtain ⟨A7, c7, rfl, bq88, oq88, rq88⟩ := rule_out KBq70.out FQ_q84.out rfl FO_q85.out KRq70.out FX_q86.out NEq74.out KCq74.out hown7 hgrow7
    have FB_q88 := Lib.hid bq88; have FO_q88 := Lib.hid oq88; have KRq88 := Lib.hid rq88
    clear bq88 oq88 rq88 hown7 hgrow7
    refine hK.out _ _ (HSX.out _ FB_q88.out) (fun hHeld => ?_)
    clear hK K
    (try simp only [Act.put, setIfInBounds_toArray, set_cons_zero, set_cons_succ])
    refine t1 (i := 16) (h := fun K hK => ?_)
    go_simp
    refine hK.out _ _ hHeld (fun hHeld => ?_)
    clear hK K
    (try simp only [Act.put, setIfInBounds_toArray, set_cons_zero, set_cons_succ])
    refine t1 (i := 17) (h := fun K hK => ?_)
    go_simp
    refine hK.out _ _ hHeld (fun hHeld => ?_)
    clear hK K
    (try simp only [Act.put, setIfInBounds_toArray, set_cons_zero, set_cons_succ])
    refine wpAnyH_done (by kernel_rfl) ?_ _
    go_wp2
    go_ret2
    exact ⟨HBU.out.trans (FB_q88.out.mono HBU.out.size), A7, c7, _, by rw [show (R ++ [X]).length = R.length + 1 by simp]; rfl, own_base FO_q88.out HBU.out.size, KRq88.out⟩
  exact AllReadyH.nil

set_option linter.unusedSimpArgs false in
set_option maxRecDepth 100000 in
set_option maxHeartbeats 8000000 in
theorem der_any (x y z : Bool) (r a b j : Int) (ii : Nat) (A : Option Addr) (n c : Nat) (P : List (List Int)) (B : Option Addr) (m d : Nat) (F : List Int) (w : World) (h : RdQ w w.heap.size A n P) (_hf : RdI w w.heap.size B m F) (hn : n ≤ 10) (hq : ∀ q ∈ P, 0 < q.length ∧ q.length ≤ 24) (hii : ii < n) :
    Calls Tryz.prog 121 #[.agg #[.bool x, .bool y, .bool z], .slice A n c, Value.agg #[Value.int .i64 r, Value.int .i64 a, Value.int .i64 b, Value.int .i64 ((ii : Nat):Int), Value.int .i64 j, Value.slice B m d]] w (GivesD w (some (woL P [((ii : Nat) : Int)] ++ [(18 :: P.getD ii [])]))) := by
  obtain ⟨i0, hi0, hz0, hz1, hz2⟩ := info_parts_s
  have HI := Lib.hid hi0; have HZ0 := Lib.hid hz0; have HZ1 := Lib.hid hz1; have HZ2 := Lib.hid hz2
  have hl := h.len
  subst hl
  obtain ⟨u, hu0⟩ : ∃ u, u = (w.alloc (.cells #[Value.bool x, Value.bool y, Value.bool z] 102)).alloc (.cells #[Value.int .i64 r, Value.int .i64 a, Value.int .i64 b, Value.int .i64 ((ii : Nat) : Int), Value.int .i64 j, Value.slice B m d] 43) := ⟨_, rfl⟩
  obtain ⟨hb, p0, p1, hsz⟩ := two_any w (.cells #[Value.bool x, Value.bool y, Value.bool z] 102) (.cells #[Value.int .i64 r, Value.int .i64 a, Value.int .i64 b, Value.int .i64 ((ii : Nat) : Int), Value.int .i64 j, Value.slice B m d] 43)
  rw [← hu0] at hb p0 p1 hsz
  have HU0 := Lib.hid hu0; have HBU := Lib.hid hb; have HP1 := Lib.hid p1; have HP := Lib.hid ((h.below hb).more hb.size)
  obtain ⟨bp, op, rfl, hbp, hcp⟩ := h.2 (by omega)
  obtain ⟨AI, cI, kI, mI, rI⟩ := hcp ii (by omega)
  have HRI := Lib.hid ((rI.below hb).more hb.size)
  have hlI : 0 < (P.getD ii []).length ∧ (P.getD ii []).length ≤ 24 := hq _ (getD_mem (by omega))
  have HSX : Hid (∀ wx, Below u.heap.size u wx → wx.cell? ⟨w.heap.size + 1, 3, none⟩ = some (.int .i64 ((ii : Nat) : Int)) ∧ wx.cell? ⟨bp, op + ii, none⟩ = some (.slice AI (P.getD ii []).length cI)) := Lib.hid fun wx hx => by
    have q := (hx.block (w.heap.size + 1) (by omega)).trans p1
    exact ⟨cell_of_row _ _ 3 _ _ (0, 0) q, ((hb.trans (hx.mono hb.size)).cell (p := ⟨bp, op + ii, none⟩) hbp).trans kI⟩
  have K0 := Lib.hid (HSX.out u (Below.refl _ _))
  have hwo := fun (wx : World) (g : Nat) (hx : Below u.heap.size u wx) (hg : wx.heap[g]? = some (.cells #[Value.int .i64 ((ii : Nat) : Int)] 2 (0, 0))) => without_any (some ⟨bp, op, none⟩) P.length c P (some ⟨g, 0, none⟩) 1 1 [((ii : Nat) : Int)] wx ((HP.out.below hx).more hx.size) (rd_lit hg) (by omega) (by omega)
  have hfo := fun (wx : World) (g : Nat) (hx : Below u.heap.size u wx) (hg : wx.heap[g]? = some (.cells #[.slice AI (P.getD ii []).length cI] 36 (0, 0))) => formOf1_any 18 g AI cI (P.getD ii []) wx hg ((HRI.out.below hx).more hx.size) (by omega)
  obtain ⟨X, hX⟩ : ∃ X, (18 :: P.getD ii []) = X := ⟨_, rfl⟩
  obtain ⟨R, hR⟩ : ∃ R, woL P [((ii : Nat) : Int)] = R := ⟨_, rfl⟩
  have hR9 : R.length ≤ 10 := by rw [← hR]; exact Nat.le_trans (woK_len _ _ _) hn
  rw [hX] at hfo ⊢
  rw [hR] at hwo ⊢
  have HWO := Lib.hid hwo; have HFO := Lib.hid hfo; have HR9 := Lib.hid hR9
  have hai : ((ii : Nat) : Int) < (P.length : Int) := by omega
  clear hu0 hb p0 p1 hwo hfo hX hR hR9 h hq hi0 hz0 hz1 hz2 kI rI hlI mI hcp
  generalize (P.getD ii []).length = NI at *
  go_enter Tryz.func121, Tryz.ntmps121
  go_upto_region 1 with (fail)
  rw [← HU0.out]
  have FB_0 := Lib.hid (Below.refl u.heap.size u)
  refine wp_region_held_drew (S := fun wx => wx.cell? ⟨w.heap.size + 1, 3, none⟩ = some (.int .i64 ((ii : Nat) : Int)) ∧ wx.cell? ⟨bp, op + ii, none⟩ = some (.slice AI NI cI)) (by kernel_rfl) K0.out (fun hHeld => ?_)
  obtain ⟨wq1, hwq1⟩ : ∃ w', w' = u.drew := ⟨_, rfl⟩
  rw [← hwq1] at hHeld ⊢
  have bq1 : Below u.heap.size u wq1 := by rw [hwq1]; exact (Below.refl _ _).drew
  clear hwq1
  have FB_q2 := Lib.hid ((FB_0.out).trans ((bq1).mono (FB_0.out).size))
  clear FB_0
  refine tk (i := 0) (h := ?_)
  (try simp only [Act.put, setIfInBounds_toArray, set_cons_zero, set_cons_succ])
  refine tk (i := 1) (h := ?_)
  (try simp only [Act.put, setIfInBounds_toArray, set_cons_zero, set_cons_succ])
  refine tk (i := 5) (h := ?_)
  (try simp only [Act.put, setIfInBounds_toArray, set_cons_zero, set_cons_succ])
  refine tk (i := 6) (h := ?_)
  (try simp only [Act.put, setIfInBounds_toArray, set_cons_zero, set_cons_succ])
  refine tk (i := 2) (h := ?_)
  (try simp only [Act.put, setIfInBounds_toArray, set_cons_zero, set_cons_succ])
  refine tk (i := 7) (h := ?_)
  (try simp only [Act.put, setIfInBounds_toArray, set_cons_zero, set_cons_succ])
  refine tk (i := 8) (h := ?_)
  (try simp only [Act.put, setIfInBounds_toArray, set_cons_zero, set_cons_succ])
  refine tk (i := 9) (h := ?_)
  (try simp only [Act.put, setIfInBounds_toArray, set_cons_zero, set_cons_succ])
  refine wpAnyH_ready (rs := [3, 10]) (by kernel_rfl) (by simp) ?_
  refine AllReadyH.cons rfl (fun K hK => ?_) ?_
  · go_simp
    obtain ⟨wq11, hwq11⟩ : ∃ w', w' = wq1.alloc (.cells #[Value.int .i64 ((ii : Nat) : Int)] 2) := ⟨_, rfl⟩
    rw [← hwq11]
    have bq11 := al hwq11
    have gq11 := an hwq11
    clear hwq11
    have FB_q12 := Lib.hid ((FB_q2.out).trans ((bq11).mono (FB_q2.out).size))
    clear FB_q2
    obtain ⟨glq13, hgq13⟩ : ∃ b, wq1.heap.size = b := ⟨_, rfl⟩
    have FL_q13 := Lib.hid gq11
    rw [hgq13] at FL_q13 ⊢
    clear hgq13 gq11 bq11
    refine hK.out _ _ (HSX.out _ FB_q12.out) (fun hHeld => ?_)
    clear hK K
    (try simp only [Act.put, setIfInBounds_toArray, set_cons_zero, set_cons_succ])
    refine wpAnyH_ready (rs := [4, 10]) (by kernel_rfl) (by simp) ?_
    refine AllReadyH.cons rfl (fun K hK => ?_) ?_
    · go_simp
      have KBq14 := Lib.hid FB_q12.out
      refine (HWO.out wq11 glq13 FB_q12.out FL_q13.out).mono ?_
      rintro e wq14 ⟨A4, c4, vs4, rfl, oq14, rq14, belq14⟩
      dsimp only
      have FB_q15 := Lib.hid ((FB_q12.out).trans ((belq14).mono (FB_q12.out).size))
      have FL_q16 := Lib.hid (((belq14).block _ (Array.getElem?_eq_some_iff.1 (FL_q13.out)).1).trans (FL_q13.out))
      clear FB_q12 FL_q13
      have FQ_q14 := Lib.hid belq14; have FO_q14 := Lib.hid oq14; have KRq14 := Lib.hid rq14
      clear oq14 rq14 belq14
      refine hK.out _ _ (HSX.out _ FB_q15.out) (fun hHeld => ?_)
      clear hK K
      (try simp only [Act.put, setIfInBounds_toArray, set_cons_zero, set_cons_succ])
      refine t1 (i := 10) (h := fun K hK => ?_)
      go_simp
      obtain ⟨wq17, hwq17⟩ : ∃ w', w' = wq14.alloc (.cells #[.slice AI NI cI] 36) := ⟨_, rfl⟩
      rw [← hwq17]
      have bq17 := al hwq17
      have gq17 := an hwq17
      clear hwq17
      have FB_q18 := Lib.hid ((FB_q15.out).trans ((bq17).mono (FB_q15.out).size))
      have FL_q19 := Lib.hid (((bq17).block _ (Array.getElem?_eq_some_iff.1 (FL_q16.out)).1).trans (FL_q16.out))
      have FQ_q20 := Lib.hid ((FQ_q14.out).trans ((bq17).mono (FQ_q14.out).size))
      have FO_q21 := Lib.hid (own_below (FO_q14.out) (bq17) (Nat.le_refl _))
      clear FB_q15 FL_q16 FQ_q14 FO_q14
      obtain ⟨gfq22, hgq22⟩ : ∃ b, wq14.heap.size = b := ⟨_, rfl⟩
      have FF_q22 := Lib.hid gq17
      rw [hgq22] at FF_q22 ⊢
      clear hgq22 gq17 bq17
      refine hK.out _ _ (HSX.out _ FB_q18.out) (fun hHeld => ?_)
      clear hK K
      (try simp only [Act.put, setIfInBounds_toArray, set_cons_zero, set_cons_succ])
      refine t1 (i := 11) (h := fun K hK => ?_)
      go_simp
      have KOq23 := Lib.hid FO_q21.out
      refine (HFO.out wq17 gfq22 FB_q18.out FF_q22.out).mono ?_
      rintro e wq23 ⟨AX, cX, rfl, oq23, belq23⟩
      dsimp only
      have FB_q24 := Lib.hid ((FB_q18.out).trans ((belq23).mono (FB_q18.out).size))
      have FL_q25 := Lib.hid (((belq23).block _ (Array.getElem?_eq_some_iff.1 (FL_q19.out)).1).trans (FL_q19.out))
      have FQ_q26 := Lib.hid ((FQ_q20.out).trans ((belq23).mono (FQ_q20.out).size))
      have FO_q27 := Lib.hid (own_below (FO_q21.out) (belq23) (Nat.le_refl _))
      have FF_q28 := Lib.hid (((belq23).block _ (Array.getElem?_eq_some_iff.1 (FF_q22.out)).1).trans (FF_q22.out))
      clear FB_q18 FL_q19 FQ_q20 FO_q21 FF_q22
      have FX_q23 := Lib.hid (RdI.of_own oq23); have KCq23 := Lib.hid (own_cap oq23).1; have NEq23 := Lib.hid (own_ord KOq23.out oq23 (Nat.le_refl _))
      clear oq23 belq23 KOq23
      refine hK.out _ _ (HSX.out _ FB_q24.out) (fun hHeld => ?_)
      clear hK K
      (try simp only [Act.put, setIfInBounds_toArray, set_cons_zero, set_cons_succ])
      refine t1 (i := 12) (h := fun K hK => ?_)
      go_simp
      obtain ⟨wq29, hwq29⟩ : ∃ w', w' = wq23.alloc (.cells #[Value.slice AX X.length cX] 36) := ⟨_, rfl⟩
      rw [← hwq29]
      have bq29 := al hwq29
      have gq29 := an hwq29
      clear hwq29
      have FB_q30 := Lib.hid ((FB_q24.out).trans ((bq29).mono (FB_q24.out).size))
      have FL_q31 := Lib.hid (((bq29).block _ (Array.getElem?_eq_some_iff.1 (FL_q25.out)).1).trans (FL_q25.out))
      have FQ_q32 := Lib.hid ((FQ_q26.out).trans ((bq29).mono (FQ_q26.out).size))
      have FO_q33 := Lib.hid (own_below (FO_q27.out) (bq29) (Nat.le_refl _))
      have FF_q34 := Lib.hid (((bq29).block _ (Array.getElem?_eq_some_iff.1 (FF_q28.out)).1).trans (FF_q28.out))
      have FX_q35 := Lib.hid (((FX_q23.out).below (bq29)).more (bq29).size)
      clear FB_q24 FL_q25 FQ_q26 FO_q27 FF_q28 FX_q23
      obtain ⟨gnq36, hgq36⟩ : ∃ b, wq23.heap.size = b := ⟨_, rfl⟩
      have FN_q36 := Lib.hid gq29
      rw [hgq36] at FN_q36 ⊢
      clear hgq36 gq29 bq29
      refine hK.out _ _ (HSX.out _ FB_q30.out) (fun hHeld => ?_)
      clear hK K
      (try simp only [Act.put, setIfInBounds_toArray, set_cons_zero, set_cons_succ])
      refine t1 (i := 13) (h := fun K hK => ?_)
      refine step_append_o rfl _ _ 23 rfl wq11.heap.size 36 i0 (.slice none 0 0) 1 24 Tryz.underlying23 HI.out HZ0.out HZ1.out HZ2.out rfl (by decide) _ _ _ rfl FO_q33.out ⟨gnq36, 0, none⟩ 1 1 [.slice AX X.length cX] rfl rfl (World.news_of_block FN_q36.out) (by simp [Value.oneCell']) (by have := HR9.out; unfold maxLen; omega) (by have := HR9.out; omega) FQ_q32.out.size ?_
      intro v7 wq37 hown7 hgrow7 _
      obtain ⟨A7, c7, rfl, bq37, oq37, rq37⟩ := rule_out KBq14.out FQ_q32.out rfl FO_q33.out KRq14.out FX_q35.out NEq23.out KCq23.out hown7 hgrow7
      have FB_q37 := Lib.hid bq37; have FO_q37 := Lib.hid oq37; have KRq37 := Lib.hid rq37
      clear bq37 oq37 rq37 hown7 hgrow7
      refine hK.out _ _ (HSX.out _ FB_q37.out) (fun hHeld => ?_)
      clear hK K
      (try simp only [Act.put, setIfInBounds_toArray, set_cons_zero, set_cons_succ])
      refine t1 (i := 14) (h := fun K hK => ?_)
      go_simp
      refine hK.out _ _ hHeld (fun hHeld => ?_)
      clear hK K
      (try simp only [Act.put, setIfInBounds_toArray, set_cons_zero, set_cons_succ])
      refine t1 (i := 15) (h := fun K hK => ?_)
      go_simp
      refine hK.out _ _ hHeld (fun hHeld => ?_)
      clear hK K
      (try simp only [Act.put, setIfInBounds_toArray, set_cons_zero, set_cons_succ])
      refine wpAnyH_done (by kernel_rfl) ?_ _
      go_wp2
      go_ret2
      exact ⟨HBU.out.trans (FB_q37.out.mono HBU.out.size), A7, c7, _, by rw [show (R ++ [X]).length = R.length + 1 by simp]; rfl, own_base FO_q37.out HBU.out.size, KRq37.out⟩
    refine AllReadyH.cons rfl (fun K hK => ?_) ?_
    · go_simp
      obtain ⟨wq38, hwq38⟩ : ∃ w', w' = wq11.alloc (.cells #[.slice AI NI cI] 36) := ⟨_, rfl⟩
      rw [← hwq38]
      have bq38 := al hwq38
      have gq38 := an hwq38
      clear hwq38
      have FB_q39 := Lib.hid ((FB_q12.out).trans ((bq38).mono (FB_q12.out).size))
      have FL_q40 := Lib.hid (((bq38).block _ (Array.getElem?_eq_some_iff.1 (FL_q13.out)).1).trans (FL_q13.out))
      clear FB_q12 FL_q13
      obtain ⟨gfq41, hgq41⟩ : ∃ b, wq11.heap.size = b := ⟨_, rfl⟩
      have FF_q41 := Lib.hid gq38
      rw [hgq41] at FF_q41 ⊢
      clear hgq41 gq38 bq38
      refine hK.out _ _ (HSX.out _ FB_q39.out) (fun hHeld => ?_)
      clear hK K
      (try simp only [Act.put, setIfInBounds_toArray, set_cons_zero, set_cons_succ])
      refine t1 (i := 4) (h := fun K hK => ?_)
      go_simp
      have KBq42 := Lib.hid FB_q39.out
      refine (HWO.out wq38 glq13 FB_q39.out FL_q40.out).mono ?_
      rintro e wq42 ⟨A4, c4, vs4, rfl, oq42, rq42, belq42⟩
      dsimp only
      have FB_q43 := Lib.hid ((FB_q39.out).trans ((belq42).mono (FB_q39.out).size))
      have FL_q44 := Lib.hid (((belq42).block _ (Array.getElem?_eq_some_iff.1 (FL_q40.out)).1).trans (FL_q40.out))
      have FF_q45 := Lib.hid (((belq42).block _ (Array.getElem?_eq_some_iff.1 (FF_q41.out)).1).trans (FF_q41.out))
      clear FB_q39 FL_q40 FF_q41
      have FQ_q42 := Lib.hid belq42; have FO_q42 := Lib.hid oq42; have KRq42 := Lib.hid rq42
      clear oq42 rq42 belq42
      refine hK.out _ _ (HSX.out _ FB_q43.out) (fun hHeld => ?_)
      clear hK K
      (try simp only [Act.put, setIfInBounds_toArray, set_cons_zero, set_cons_succ])
      refine t1 (i := 11) (h := fun K hK => ?_)
      go_simp
      have KOq46 := Lib.hid FO_q42.out
      refine (HFO.out wq42 gfq41 FB_q43.out FF_q45.out).mono ?_
      rintro e wq46 ⟨AX, cX, rfl, oq46, belq46⟩
      dsimp only
      have FB_q47 := Lib.hid ((FB_q43.out).trans ((belq46).mono (FB_q43.out).size))
      have FL_q48 := Lib.hid (((belq46).block _ (Array.getElem?_eq_some_iff.1 (FL_q44.out)).1).trans (FL_q44.out))
      have FF_q49 := Lib.hid (((belq46).block _ (Array.getElem?_eq_some_iff.1 (FF_q45.out)).1).trans (FF_q45.out))
      have FQ_q50 := Lib.hid ((FQ_q42.out).trans ((belq46).mono (FQ_q42.out).size))
      have FO_q51 := Lib.hid (own_below (FO_q42.out) (belq46) (Nat.le_refl _))
      clear FB_q43 FL_q44 FF_q45 FQ_q42 FO_q42
      have FX_q46 := Lib.hid (RdI.of_own oq46); have KCq46 := Lib.hid (own_cap oq46).1; have NEq46 := Lib.hid (own_ord KOq46.out oq46 (Nat.le_refl _))
      clear oq46 belq46 KOq46
      refine hK.out _ _ (HSX.out _ FB_q47.out) (fun hHeld => ?_)
      clear hK K
      (try simp only [Act.put, setIfInBounds_toArray, set_cons_zero, set_cons_succ])
      refine t1 (i := 12) (h := fun K hK => ?_)
      go_simp
      obtain ⟨wq52, hwq52⟩ : ∃ w', w' = wq46.alloc (.cells #[Value.slice AX X.length cX] 36) := ⟨_, rfl⟩
      rw [← hwq52]
      have bq52 := al hwq52
      have gq52 := an hwq52
      clear hwq52
      have FB_q53 := Lib.hid ((FB_q47.out).trans ((bq52).mono (FB_q47.out).size))
      have FL_q54 := Lib.hid (((bq52).block _ (Array.getElem?_eq_some_iff.1 (FL_q48.out)).1).trans (FL_q48.out))
      have FF_q55 := Lib.hid (((bq52).block _ (Array.getElem?_eq_some_iff.1 (FF_q49.out)).1).trans (FF_q49.out))
      have FQ_q56 := Lib.hid ((FQ_q50.out).trans ((bq52).mono (FQ_q50.out).size))
      have FO_q57 := Lib.hid (own_below (FO_q51.out) (bq52) (Nat.le_refl _))
      have FX_q58 := Lib.hid (((FX_q46.out).below (bq52)).more (bq52).size)
      clear FB_q47 FL_q48 FF_q49 FQ_q50 FO_q51 FX_q46
      obtain ⟨gnq59, hgq59⟩ : ∃ b, wq46.heap.size = b := ⟨_, rfl⟩
      have FN_q59 := Lib.hid gq52
      rw [hgq59] at FN_q59 ⊢
      clear hgq59 gq52 bq52
      refine hK.out _ _ (HSX.out _ FB_q53.out) (fun hHeld => ?_)
      clear hK K
      (try simp only [Act.put, setIfInBounds_toArray, set_cons_zero, set_cons_succ])
      refine t1 (i := 13) (h := fun K hK => ?_)
      refine step_append_o rfl _ _ 23 rfl wq38.heap.size 36 i0 (.slice none 0 0) 1 24 Tryz.underlying23 HI.out HZ0.out HZ1.out HZ2.out rfl (by decide) _ _ _ rfl FO_q57.out ⟨gnq59, 0, none⟩ 1 1 [.slice AX X.length cX] rfl rfl (World.news_of_block FN_q59.out) (by simp [Value.oneCell']) (by have := HR9.out; unfold maxLen; omega) (by have := HR9.out; omega) FQ_q56.out.size ?_
      intro v7 wq60 hown7 hgrow7 _
      obtain ⟨A7, c7, rfl, bq60, oq60, rq60⟩ := rule_out KBq42.out FQ_q56.out rfl FO_q57.out KRq42.out FX_q58.out NEq46.out KCq46.out hown7 hgrow7
      have FB_q60 := Lib.hid bq60; have FO_q60 := Lib.hid oq60; have KRq60 := Lib.hid rq60
      clear bq60 oq60 rq60 hown7 hgrow7
      refine hK.out _ _ (HSX.out _ FB_q60.out) (fun hHeld => ?_)
      clear hK K
      (try simp only [Act.put, setIfInBounds_toArray, set_cons_zero, set_cons_succ])
      refine t1 (i := 14) (h := fun K hK => ?_)
      go_simp
      refine hK.out _ _ hHeld (fun hHeld => ?_)
      clear hK K
      (try simp only [Act.put, setIfInBounds_toArray, set_cons_zero, set_cons_succ])
      refine t1 (i := 15) (h := fun K hK => ?_)
      go_simp
      refine hK.out _ _ hHeld (fun hHeld => ?_)
      clear hK K
      (try simp only [Act.put, setIfInBounds_toArray, set_cons_zero, set_cons_succ])
      refine wpAnyH_done (by kernel_rfl) ?_ _
      go_wp2
      go_ret2
      exact ⟨HBU.out.trans (FB_q60.out.mono HBU.out.size), A7, c7, _, by rw [show (R ++ [X]).length = R.length + 1 by simp]; rfl, own_base FO_q60.out HBU.out.size, KRq60.out⟩
    exact AllReadyH.nil
  refine AllReadyH.cons rfl (fun K hK => ?_) ?_
  · go_simp
    obtain ⟨wq61, hwq61⟩ : ∃ w', w' = wq1.alloc (.cells #[.slice AI NI cI] 36) := ⟨_, rfl⟩
    rw [← hwq61]
    have bq61 := al hwq61
    have gq61 := an hwq61
    clear hwq61
    have FB_q62 := Lib.hid ((FB_q2.out).trans ((bq61).mono (FB_q2.out).size))
    clear FB_q2
    obtain ⟨gfq63, hgq63⟩ : ∃ b, wq1.heap.size = b := ⟨_, rfl⟩
    have FF_q63 := Lib.hid gq61
    rw [hgq63] at FF_q63 ⊢
    clear hgq63 gq61 bq61
    refine hK.out _ _ (HSX.out _ FB_q62.out) (fun hHeld => ?_)
    clear hK K
    (try simp only [Act.put, setIfInBounds_toArray, set_cons_zero, set_cons_succ])
    refine t1 (i := 3) (h := fun K hK => ?_)
    go_simp
    obtain ⟨wq64, hwq64⟩ : ∃ w', w' = wq61.alloc (.cells #[Value.int .i64 ((ii : Nat) : Int)] 2) := ⟨_, rfl⟩
    rw [← hwq64]
    have bq64 := al hwq64
    have gq64 := an hwq64
    clear hwq64
    have FB_q65 := Lib.hid ((FB_q62.out).trans ((bq64).mono (FB_q62.out).size))
    have FF_q66 := Lib.hid (((bq64).block _ (Array.getElem?_eq_some_iff.1 (FF_q63.out)).1).trans (FF_q63.out))
    clear FB_q62 FF_q63
    obtain ⟨glq67, hgq67⟩ : ∃ b, wq61.heap.size = b := ⟨_, rfl⟩
    have FL_q67 := Lib.hid gq64
    rw [hgq67] at FL_q67 ⊢
    clear hgq67 gq64 bq64
    refine hK.out _ _ (HSX.out _ FB_q65.out) (fun hHeld => ?_)
    clear hK K
    (try simp only [Act.put, setIfInBounds_toArray, set_cons_zero, set_cons_succ])
    refine t1 (i := 4) (h := fun K hK => ?_)
    go_simp
    have KBq68 := Lib.hid FB_q65.out
    refine (HWO.out wq64 glq67 FB_q65.out FL_q67.out).mono ?_
    rintro e wq68 ⟨A4, c4, vs4, rfl, oq68, rq68, belq68⟩
    dsimp only
    have FB_q69 := Lib.hid ((FB_q65.out).trans ((belq68).mono (FB_q65.out).size))
    have FF_q70 := Lib.hid (((belq68).block _ (Array.getElem?_eq_some_iff.1 (FF_q66.out)).1).trans (FF_q66.out))
    have FL_q71 := Lib.hid (((belq68).block _ (Array.getElem?_eq_some_iff.1 (FL_q67.out)).1).trans (FL_q67.out))
    clear FB_q65 FF_q66 FL_q67
    have FQ_q68 := Lib.hid belq68; have FO_q68 := Lib.hid oq68; have KRq68 := Lib.hid rq68
    clear oq68 rq68 belq68
    refine hK.out _ _ (HSX.out _ FB_q69.out) (fun hHeld => ?_)
    clear hK K
    (try simp only [Act.put, setIfInBounds_toArray, set_cons_zero, set_cons_succ])
    refine t1 (i := 11) (h := fun K hK => ?_)
    go_simp
    have KOq72 := Lib.hid FO_q68.out
    refine (HFO.out wq68 gfq63 FB_q69.out FF_q70.out).mono ?_
    rintro e wq72 ⟨AX, cX, rfl, oq72, belq72⟩
    dsimp only
    have FB_q73 := Lib.hid ((FB_q69.out).trans ((belq72).mono (FB_q69.out).size))
    have FF_q74 := Lib.hid (((belq72).block _ (Array.getElem?_eq_some_iff.1 (FF_q70.out)).1).trans (FF_q70.out))
    have FL_q75 := Lib.hid (((belq72).block _ (Array.getElem?_eq_some_iff.1 (FL_q71.out)).1).trans (FL_q71.out))
    have FQ_q76 := Lib.hid ((FQ_q68.out).trans ((belq72).mono (FQ_q68.out).size))
    have FO_q77 := Lib.hid (own_below (FO_q68.out) (belq72) (Nat.le_refl _))
    clear FB_q69 FF_q70 FL_q71 FQ_q68 FO_q68
    have FX_q72 := Lib.hid (RdI.of_own oq72); have KCq72 := Lib.hid (own_cap oq72).1; have NEq72 := Lib.hid (own_ord KOq72.out oq72 (Nat.le_refl _))
    clear oq72 belq72 KOq72
    refine hK.out _ _ (HSX.out _ FB_q73.out) (fun hHeld => ?_)
    clear hK K
    (try simp only [Act.put, setIfInBounds_toArray, set_cons_zero, set_cons_succ])
    refine t1 (i := 12) (h := fun K hK => ?_)
    go_simp
    obtain ⟨wq78, hwq78⟩ : ∃ w', w' = wq72.alloc (.cells #[Value.slice AX X.length cX] 36) := ⟨_, rfl⟩
    rw [← hwq78]
    have bq78 := al hwq78
    have gq78 := an hwq78
    clear hwq78
    have FB_q79 := Lib.hid ((FB_q73.out).trans ((bq78).mono (FB_q73.out).size))
    have FF_q80 := Lib.hid (((bq78).block _ (Array.getElem?_eq_some_iff.1 (FF_q74.out)).1).trans (FF_q74.out))
    have FL_q81 := Lib.hid (((bq78).block _ (Array.getElem?_eq_some_iff.1 (FL_q75.out)).1).trans (FL_q75.out))
    have FQ_q82 := Lib.hid ((FQ_q76.out).trans ((bq78).mono (FQ_q76.out).size))
    have FO_q83 := Lib.hid (own_below (FO_q77.out) (bq78) (Nat.le_refl _))
    have FX_q84 := Lib.hid (((FX_q72.out).below (bq78)).more (bq78).size)
    clear FB_q73 FF_q74 FL_q75 FQ_q76 FO_q77 FX_q72
    obtain ⟨gnq85, hgq85⟩ : ∃ b, wq72.heap.size = b := ⟨_, rfl⟩
    have FN_q85 := Lib.hid gq78
    rw [hgq85] at FN_q85 ⊢
    clear hgq85 gq78 bq78
    refine hK.out _ _ (HSX.out _ FB_q79.out) (fun hHeld => ?_)
    clear hK K
    (try simp only [Act.put, setIfInBounds_toArray, set_cons_zero, set_cons_succ])
    refine t1 (i := 13) (h := fun K hK => ?_)
    refine step_append_o rfl _ _ 23 rfl wq64.heap.size 36 i0 (.slice none 0 0) 1 24 Tryz.underlying23 HI.out HZ0.out HZ1.out HZ2.out rfl (by decide) _ _ _ rfl FO_q83.out ⟨gnq85, 0, none⟩ 1 1 [.slice AX X.length cX] rfl rfl (World.news_of_block FN_q85.out) (by simp [Value.oneCell']) (by have := HR9.out; unfold maxLen; omega) (by have := HR9.out; omega) FQ_q82.out.size ?_
    intro v7 wq86 hown7 hgrow7 _
    obtain ⟨A7, c7, rfl, bq86, oq86, rq86⟩ := rule_out KBq68.out FQ_q82.out rfl FO_q83.out KRq68.out FX_q84.out NEq72.out KCq72.out hown7 hgrow7
    have FB_q86 := Lib.hid bq86; have FO_q86 := Lib.hid oq86; have KRq86 := Lib.hid rq86
    clear bq86 oq86 rq86 hown7 hgrow7
    refine hK.out _ _ (HSX.out _ FB_q86.out) (fun hHeld => ?_)
    clear hK K
    (try simp only [Act.put, setIfInBounds_toArray, set_cons_zero, set_cons_succ])
    refine t1 (i := 14) (h := fun K hK => ?_)
    go_simp
    refine hK.out _ _ hHeld (fun hHeld => ?_)
    clear hK K
    (try simp only [Act.put, setIfInBounds_toArray, set_cons_zero, set_cons_succ])
    refine t1 (i := 15) (h := fun K hK => ?_)
    go_simp
    refine hK.out _ _ hHeld (fun hHeld => ?_)
    clear hK K
    (try simp only [Act.put, setIfInBounds_toArray, set_cons_zero, set_cons_succ])
    refine wpAnyH_done (by kernel_rfl) ?_ _
    go_wp2
    go_ret2
    exact ⟨HBU.out.trans (FB_q86.out.mono HBU.out.size), A7, c7, _, by rw [show (R ++ [X]).length = R.length + 1 by simp]; rfl, own_base FO_q86.out HBU.out.size, KRq86.out⟩
  exact AllReadyH.nil
end Go.Proofs.YthbkcpacgnmcfaaGreatDoor
