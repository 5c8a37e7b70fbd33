/- The program's rules with one premise that append a formula (weak, par). Made by mkck.py. -/
import Derived.Test.YthbkcpacgnmcfaaGreatDoorQRule
import Derived.Test.YthbkcpacgnmcfaaGreatDoorQSubA
namespace Go.Proofs.YthbkcpacgnmcfaaGreatDoor
set_option linter.unusedSimpArgs false
set_option linter.unusedVariables false
open Go.ChangeAt Go.ChangeShapes Go.RowKit Go.WideShapes
open List (setIfInBounds_toArray set_cons_zero set_cons_succ getElem_toArray getElem_cons_succ getElem_cons_zero)

set_option linter.unusedSimpArgs false in
set_option maxRecDepth 100000 in
set_option maxHeartbeats 8000000 in
theorem weak_any (x y z : Bool) (r a b i j : Int) (A : Option Addr) (n c : Nat) (P : List (List Int)) (B : Option Addr) (m d : Nat) (F : List Int) (w : World) (h : RdQ w w.heap.size A n P) (hf : RdI w w.heap.size B m F) (hn : n ≤ 10) (_hq : ∀ q ∈ P, 0 < q.length ∧ q.length ≤ 24) (hF : 0 < F.length ∧ F.length ≤ 24) :
    Calls Tryz.prog 122 #[.agg #[.bool x, .bool y, .bool z], .slice A n c, Value.agg #[Value.int .i64 r, Value.int .i64 a, Value.int .i64 b, Value.int .i64 i, Value.int .i64 j, Value.slice B m d]] w (GivesD w (some (woL P [] ++ [(18 :: F)]))) := by
  obtain ⟨i0, hi0, hz0, hz1, hz2⟩ := info_parts_s
  have HI := Lib.hid hi0; have HZ0 := Lib.hid hz0; have HZ1 := Lib.hid hz1; have HZ2 := Lib.hid hz2
  have hl := h.len
  subst hl
  have hl2 := hf.len
  subst hl2
  obtain ⟨u, hu0⟩ : ∃ u, u = (w.alloc (.cells #[Value.bool x, Value.bool y, Value.bool z] 103)).alloc (.cells #[Value.int .i64 r, Value.int .i64 a, Value.int .i64 b, Value.int .i64 i, Value.int .i64 j, Value.slice B F.length d] 43) := ⟨_, rfl⟩
  obtain ⟨hb, p0, p1, hsz⟩ := two_any w (.cells #[Value.bool x, Value.bool y, Value.bool z] 103) (.cells #[Value.int .i64 r, Value.int .i64 a, Value.int .i64 b, Value.int .i64 i, Value.int .i64 j, Value.slice B F.length d] 43)
  rw [← hu0] at hb p0 p1 hsz
  have HU0 := Lib.hid hu0; have HBU := Lib.hid hb; have HP1 := Lib.hid p1; have HP := Lib.hid ((h.below hb).more hb.size)
  have HRF := Lib.hid ((hf.below hb).more hb.size)
  have HSX : Hid (∀ wx, Below u.heap.size u wx → wx.cell? ⟨w.heap.size + 1, 5, none⟩ = some (.slice B F.length d)) := Lib.hid fun wx hx => by
    have q := (hx.block (w.heap.size + 1) (by omega)).trans p1
    exact cell_of_row _ _ 5 _ _ (0, 0) q
  have K0 := Lib.hid (HSX.out u (Below.refl _ _))
  have hwo := fun (wx : World) (hx : Below u.heap.size u wx) => without_any A P.length c P none 0 0 [] wx ((HP.out.below hx).more hx.size) ⟨rfl, fun h => absurd h (by omega)⟩ (by omega) (by omega)
  have hfo := fun (wx : World) (g : Nat) (hx : Below u.heap.size u wx) (hg : wx.heap[g]? = some (.cells #[.slice B F.length d] 36 (0, 0))) => formOf1_any 18 g B d (F) wx hg ((HRF.out.below hx).more hx.size) (by omega)
  obtain ⟨X, hX⟩ : ∃ X, (18 :: F) = X := ⟨_, rfl⟩
  obtain ⟨R, hR⟩ : ∃ R, woL P [] = R := ⟨_, rfl⟩
  have hR9 : R.length ≤ 10 := by rw [← hR]; exact Nat.le_trans (woK_len _ _ _) hn
  rw [hX] at hfo ⊢
  rw [hR] at hwo ⊢
  have HWO := Lib.hid hwo; have HFO := Lib.hid hfo; have HR9 := Lib.hid hR9
  clear hu0 hb p0 p1 hwo hfo hX hR hR9 h _hq hi0 hz0 hz1 hz2 hf
  go_enter Tryz.func122, Tryz.ntmps122
  go_upto_region 1 with (fail)
  rw [← HU0.out]
  have FB_0 := Lib.hid (Below.refl u.heap.size u)
  refine wp_region_held_drew (S := fun wx => wx.cell? ⟨w.heap.size + 1, 5, none⟩ = some (.slice B F.length d)) (by kernel_rfl) K0.out (fun hHeld => ?_)
  obtain ⟨wq1, hwq1⟩ : ∃ w', w' = u.drew := ⟨_, rfl⟩
  rw [← hwq1] at hHeld ⊢
  have bq1 : Below u.heap.size u wq1 := by rw [hwq1]; exact (Below.refl _ _).drew
  clear hwq1
  have FB_q2 := Lib.hid ((FB_0.out).trans ((bq1).mono (FB_0.out).size))
  clear FB_0
  refine tk (i := 0) (h := ?_)
  (try simp only [Act.put, setIfInBounds_toArray, set_cons_zero, set_cons_succ])
  refine tk (i := 2) (h := ?_)
  (try simp only [Act.put, setIfInBounds_toArray, set_cons_zero, set_cons_succ])
  refine tk (i := 3) (h := ?_)
  (try simp only [Act.put, setIfInBounds_toArray, set_cons_zero, set_cons_succ])
  refine wpAnyH_ready (rs := [1, 4]) (by kernel_rfl) (by simp) ?_
  refine AllReadyH.cons rfl (fun K hK => ?_) ?_
  · go_simp
    have KBq6 := Lib.hid FB_q2.out
    refine (HWO.out wq1 FB_q2.out).mono ?_
    rintro e wq6 ⟨A4, c4, vs4, rfl, oq6, rq6, belq6⟩
    dsimp only
    have FB_q7 := Lib.hid ((FB_q2.out).trans ((belq6).mono (FB_q2.out).size))
    clear FB_q2
    have FQ_q6 := Lib.hid belq6; have FO_q6 := Lib.hid oq6; have KRq6 := Lib.hid rq6
    clear oq6 rq6 belq6
    refine hK.out _ _ (HSX.out _ FB_q7.out) (fun hHeld => ?_)
    clear hK K
    (try simp only [Act.put, setIfInBounds_toArray, set_cons_zero, set_cons_succ])
    refine t1 (i := 4) (h := fun K hK => ?_)
    go_simp
    obtain ⟨wq8, hwq8⟩ : ∃ w', w' = wq6.alloc (.cells #[.slice B F.length d] 36) := ⟨_, rfl⟩
    rw [← hwq8]
    have bq8 := al hwq8
    have gq8 := an hwq8
    clear hwq8
    have FB_q9 := Lib.hid ((FB_q7.out).trans ((bq8).mono (FB_q7.out).size))
    have FQ_q10 := Lib.hid ((FQ_q6.out).trans ((bq8).mono (FQ_q6.out).size))
    have FO_q11 := Lib.hid (own_below (FO_q6.out) (bq8) (Nat.le_refl _))
    clear FB_q7 FQ_q6 FO_q6
    obtain ⟨gfq12, hgq12⟩ : ∃ b, wq6.heap.size = b := ⟨_, rfl⟩
    have FF_q12 := Lib.hid gq8
    rw [hgq12] at FF_q12 ⊢
    clear hgq12 gq8 bq8
    refine hK.out _ _ (HSX.out _ FB_q9.out) (fun hHeld => ?_)
    clear hK K
    (try simp only [Act.put, setIfInBounds_toArray, set_cons_zero, set_cons_succ])
    refine t1 (i := 5) (h := fun K hK => ?_)
    go_simp
    have KOq13 := Lib.hid FO_q11.out
    refine (HFO.out wq8 gfq12 FB_q9.out FF_q12.out).mono ?_
    rintro e wq13 ⟨AX, cX, rfl, oq13, belq13⟩
    dsimp only
    have FB_q14 := Lib.hid ((FB_q9.out).trans ((belq13).mono (FB_q9.out).size))
    have FQ_q15 := Lib.hid ((FQ_q10.out).trans ((belq13).mono (FQ_q10.out).size))
    have FO_q16 := Lib.hid (own_below (FO_q11.out) (belq13) (Nat.le_refl _))
    have FF_q17 := Lib.hid (((belq13).block _ (Array.getElem?_eq_some_iff.1 (FF_q12.out)).1).trans (FF_q12.out))
    clear FB_q9 FQ_q10 FO_q11 FF_q12
    have FX_q13 := Lib.hid (RdI.of_own oq13); have KCq13 := Lib.hid (own_cap oq13).1; have NEq13 := Lib.hid (own_ord KOq13.out oq13 (Nat.le_refl _))
    clear oq13 belq13 KOq13
    refine hK.out _ _ (HSX.out _ FB_q14.out) (fun hHeld => ?_)
    clear hK K
    (try simp only [Act.put, setIfInBounds_toArray, set_cons_zero, set_cons_succ])
    refine t1 (i := 6) (h := fun K hK => ?_)
    go_simp
    obtain ⟨wq18, hwq18⟩ : ∃ w', w' = wq13.alloc (.cells #[Value.slice AX X.length cX] 36) := ⟨_, rfl⟩
    rw [← hwq18]
    have bq18 := al hwq18
    have gq18 := an hwq18
    clear hwq18
    have FB_q19 := Lib.hid ((FB_q14.out).trans ((bq18).mono (FB_q14.out).size))
    have FQ_q20 := Lib.hid ((FQ_q15.out).trans ((bq18).mono (FQ_q15.out).size))
    have FO_q21 := Lib.hid (own_below (FO_q16.out) (bq18) (Nat.le_refl _))
    have FF_q22 := Lib.hid (((bq18).block _ (Array.getElem?_eq_some_iff.1 (FF_q17.out)).1).trans (FF_q17.out))
    have FX_q23 := Lib.hid (((FX_q13.out).below (bq18)).more (bq18).size)
    clear FB_q14 FQ_q15 FO_q16 FF_q17 FX_q13
    obtain ⟨gnq24, hgq24⟩ : ∃ b, wq13.heap.size = b := ⟨_, rfl⟩
    have FN_q24 := Lib.hid gq18
    rw [hgq24] at FN_q24 ⊢
    clear hgq24 gq18 bq18
    refine hK.out _ _ (HSX.out _ FB_q19.out) (fun hHeld => ?_)
    clear hK K
    (try simp only [Act.put, setIfInBounds_toArray, set_cons_zero, set_cons_succ])
    refine t1 (i := 7) (h := fun K hK => ?_)
    refine step_append_o rfl _ _ 23 rfl wq1.heap.size 36 i0 (.slice none 0 0) 1 24 Tryz.underlying23 HI.out HZ0.out HZ1.out HZ2.out rfl (by decide) _ _ _ rfl FO_q21.out ⟨gnq24, 0, none⟩ 1 1 [.slice AX X.length cX] rfl rfl (World.news_of_block FN_q24.out) (by simp [Value.oneCell']) (by have := HR9.out; unfold maxLen; omega) (by have := HR9.out; omega) FQ_q20.out.size ?_
    intro v7 wq25 hown7 hgrow7 _
    obtain ⟨A7, c7, rfl, bq25, oq25, rq25⟩ := rule_out KBq6.out FQ_q20.out rfl FO_q21.out KRq6.out FX_q23.out NEq13.out KCq13.out hown7 hgrow7
    have FB_q25 := Lib.hid bq25; have FO_q25 := Lib.hid oq25; have KRq25 := Lib.hid rq25
    clear bq25 oq25 rq25 hown7 hgrow7
    refine hK.out _ _ (HSX.out _ FB_q25.out) (fun hHeld => ?_)
    clear hK K
    (try simp only [Act.put, setIfInBounds_toArray, set_cons_zero, set_cons_succ])
    refine t1 (i := 8) (h := fun K hK => ?_)
    go_simp
    refine hK.out _ _ hHeld (fun hHeld => ?_)
    clear hK K
    (try simp only [Act.put, setIfInBounds_toArray, set_cons_zero, set_cons_succ])
    refine t1 (i := 9) (h := fun K hK => ?_)
    go_simp
    refine hK.out _ _ hHeld (fun hHeld => ?_)
    clear hK K
    (try simp only [Act.put, setIfInBounds_toArray, set_cons_zero, set_cons_succ])
    refine wpAnyH_done (by kernel_rfl) ?_ _
    go_wp2
    go_ret2
    exact ⟨HBU.out.trans (FB_q25.out.mono HBU.out.size), A7, c7, _, by rw [show (R ++ [X]).length = R.length + 1 by simp]; rfl, own_base FO_q25.out HBU.out.size, KRq25.out⟩
  refine AllReadyH.cons rfl (fun K hK => ?_) ?_
  · go_simp
    obtain ⟨wq26, hwq26⟩ : ∃ w', w' = wq1.alloc (.cells #[.slice B F.length d] 36) := ⟨_, rfl⟩
    rw [← hwq26]
    have bq26 := al hwq26
    have gq26 := an hwq26
    clear hwq26
    have FB_q27 := Lib.hid ((FB_q2.out).trans ((bq26).mono (FB_q2.out).size))
    clear FB_q2
    obtain ⟨gfq28, hgq28⟩ : ∃ b, wq1.heap.size = b := ⟨_, rfl⟩
    have FF_q28 := Lib.hid gq26
    rw [hgq28] at FF_q28 ⊢
    clear hgq28 gq26 bq26
    refine hK.out _ _ (HSX.out _ FB_q27.out) (fun hHeld => ?_)
    clear hK K
    (try simp only [Act.put, setIfInBounds_toArray, set_cons_zero, set_cons_succ])
    refine t1 (i := 1) (h := fun K hK => ?_)
    go_simp
    have KBq29 := Lib.hid FB_q27.out
    refine (HWO.out wq26 FB_q27.out).mono ?_
    rintro e wq29 ⟨A4, c4, vs4, rfl, oq29, rq29, belq29⟩
    dsimp only
    have FB_q30 := Lib.hid ((FB_q27.out).trans ((belq29).mono (FB_q27.out).size))
    have FF_q31 := Lib.hid (((belq29).block _ (Array.getElem?_eq_some_iff.1 (FF_q28.out)).1).trans (FF_q28.out))
    clear FB_q27 FF_q28
    have FQ_q29 := Lib.hid belq29; have FO_q29 := Lib.hid oq29; have KRq29 := Lib.hid rq29
    clear oq29 rq29 belq29
    refine hK.out _ _ (HSX.out _ FB_q30.out) (fun hHeld => ?_)
    clear hK K
    (try simp only [Act.put, setIfInBounds_toArray, set_cons_zero, set_cons_succ])
    refine t1 (i := 5) (h := fun K hK => ?_)
    go_simp
    have KOq32 := Lib.hid FO_q29.out
    refine (HFO.out wq29 gfq28 FB_q30.out FF_q31.out).mono ?_
    rintro e wq32 ⟨AX, cX, rfl, oq32, belq32⟩
    dsimp only
    have FB_q33 := Lib.hid ((FB_q30.out).trans ((belq32).mono (FB_q30.out).size))
    have FF_q34 := Lib.hid (((belq32).block _ (Array.getElem?_eq_some_iff.1 (FF_q31.out)).1).trans (FF_q31.out))
    have FQ_q35 := Lib.hid ((FQ_q29.out).trans ((belq32).mono (FQ_q29.out).size))
    have FO_q36 := Lib.hid (own_below (FO_q29.out) (belq32) (Nat.le_refl _))
    clear FB_q30 FF_q31 FQ_q29 FO_q29
    have FX_q32 := Lib.hid (RdI.of_own oq32); have KCq32 := Lib.hid (own_cap oq32).1; have NEq32 := Lib.hid (own_ord KOq32.out oq32 (Nat.le_refl _))
    clear oq32 belq32 KOq32
    refine hK.out _ _ (HSX.out _ FB_q33.out) (fun hHeld => ?_)
    clear hK K
    (try simp only [Act.put, setIfInBounds_toArray, set_cons_zero, set_cons_succ])
    refine t1 (i := 6) (h := fun K hK => ?_)
    go_simp
    obtain ⟨wq37, hwq37⟩ : ∃ w', w' = wq32.alloc (.cells #[Value.slice AX X.length cX] 36) := ⟨_, rfl⟩
    rw [← hwq37]
    have bq37 := al hwq37
    have gq37 := an hwq37
    clear hwq37
    have FB_q38 := Lib.hid ((FB_q33.out).trans ((bq37).mono (FB_q33.out).size))
    have FF_q39 := Lib.hid (((bq37).block _ (Array.getElem?_eq_some_iff.1 (FF_q34.out)).1).trans (FF_q34.out))
    have FQ_q40 := Lib.hid ((FQ_q35.out).trans ((bq37).mono (FQ_q35.out).size))
    have FO_q41 := Lib.hid (own_below (FO_q36.out) (bq37) (Nat.le_refl _))
    have FX_q42 := Lib.hid (((FX_q32.out).below (bq37)).more (bq37).size)
    clear FB_q33 FF_q34 FQ_q35 FO_q36 FX_q32
    obtain ⟨gnq43, hgq43⟩ : ∃ b, wq32.heap.size = b := ⟨_, rfl⟩
    have FN_q43 := Lib.hid gq37
    rw [hgq43] at FN_q43 ⊢
    clear hgq43 gq37 bq37
    refine hK.out _ _ (HSX.out _ FB_q38.out) (fun hHeld => ?_)
    clear hK K
    (try simp only [Act.put, setIfInBounds_toArray, set_cons_zero, set_cons_succ])
    refine t1 (i := 7) (h := fun K hK => ?_)
    refine step_append_o rfl _ _ 23 rfl wq26.heap.size 36 i0 (.slice none 0 0) 1 24 Tryz.underlying23 HI.out HZ0.out HZ1.out HZ2.out rfl (by decide) _ _ _ rfl FO_q41.out ⟨gnq43, 0, none⟩ 1 1 [.slice AX X.length cX] rfl rfl (World.news_of_block FN_q43.out) (by simp [Value.oneCell']) (by have := HR9.out; unfold maxLen; omega) (by have := HR9.out; omega) FQ_q40.out.size ?_
    intro v7 wq44 hown7 hgrow7 _
    obtain ⟨A7, c7, rfl, bq44, oq44, rq44⟩ := rule_out KBq29.out FQ_q40.out rfl FO_q41.out KRq29.out FX_q42.out NEq32.out KCq32.out hown7 hgrow7
    have FB_q44 := Lib.hid bq44; have FO_q44 := Lib.hid oq44; have KRq44 := Lib.hid rq44
    clear bq44 oq44 rq44 hown7 hgrow7
    refine hK.out _ _ (HSX.out _ FB_q44.out) (fun hHeld => ?_)
    clear hK K
    (try simp only [Act.put, setIfInBounds_toArray, set_cons_zero, set_cons_succ])
    refine t1 (i := 8) (h := fun K hK => ?_)
    go_simp
    refine hK.out _ _ hHeld (fun hHeld => ?_)
    clear hK K
    (try simp only [Act.put, setIfInBounds_toArray, set_cons_zero, set_cons_succ])
    refine t1 (i := 9) (h := fun K hK => ?_)
    go_simp
    refine hK.out _ _ hHeld (fun hHeld => ?_)
    clear hK K
    (try simp only [Act.put, setIfInBounds_toArray, set_cons_zero, set_cons_succ])
    refine wpAnyH_done (by kernel_rfl) ?_ _
    go_wp2
    go_ret2
    exact ⟨HBU.out.trans (FB_q44.out.mono HBU.out.size), A7, c7, _, by rw [show (R ++ [X]).length = R.length + 1 by simp]; rfl, own_base FO_q44.out HBU.out.size, KRq44.out⟩
  exact AllReadyH.nil

set_option linter.unusedSimpArgs false in
set_option maxRecDepth 100000 in
set_option maxHeartbeats 8000000 in
theorem par_any (x y z : Bool) (r a b : Int) (ii : Nat) (jj : Nat) (A : Option Addr) (n c : Nat) (P : List (List Int)) (B : Option Addr) (m d : Nat) (F : List Int) (w : World) (h : RdQ w w.heap.size A n P) (_hf : RdI w w.heap.size B m F) (hn : n ≤ 10) (hq : ∀ q ∈ P, 0 < q.length ∧ q.length ≤ 24) (hii : ii < n) (hjj : jj < n) (hij : ii ≠ jj) :
    Calls Tryz.prog 112 #[.agg #[.bool x, .bool y, .bool z], .slice A n c, Value.agg #[Value.int .i64 r, Value.int .i64 a, Value.int .i64 b, Value.int .i64 ((ii : Nat):Int), Value.int .i64 ((jj : Nat) : Int), Value.slice B m d]] w (GivesD w (some (woL P [((ii : Nat) : Int), ((jj : Nat) : Int)] ++ [(12 :: (P.getD ii [] ++ P.getD jj []))]))) := by
  obtain ⟨i0, hi0, hz0, hz1, hz2⟩ := info_parts_s
  have HI := Lib.hid hi0; have HZ0 := Lib.hid hz0; have HZ1 := Lib.hid hz1; have HZ2 := Lib.hid hz2
  have hl := h.len
  subst hl
  obtain ⟨u, hu0⟩ : ∃ u, u = (w.alloc (.cells #[Value.bool x, Value.bool y, Value.bool z] 95)).alloc (.cells #[Value.int .i64 r, Value.int .i64 a, Value.int .i64 b, Value.int .i64 ((ii : Nat) : Int), Value.int .i64 ((jj : Nat) : Int), Value.slice B m d] 43) := ⟨_, rfl⟩
  obtain ⟨hb, p0, p1, hsz⟩ := two_any w (.cells #[Value.bool x, Value.bool y, Value.bool z] 95) (.cells #[Value.int .i64 r, Value.int .i64 a, Value.int .i64 b, Value.int .i64 ((ii : Nat) : Int), Value.int .i64 ((jj : Nat) : Int), Value.slice B m d] 43)
  rw [← hu0] at hb p0 p1 hsz
  have HU0 := Lib.hid hu0; have HBU := Lib.hid hb; have HP1 := Lib.hid p1; have HP := Lib.hid ((h.below hb).more hb.size)
  obtain ⟨bp, op, rfl, hbp, hcp⟩ := h.2 (by omega)
  obtain ⟨AI, cI, kI, mI, rI⟩ := hcp ii (by omega)
  have HRI := Lib.hid ((rI.below hb).more hb.size)
  have hlI : 0 < (P.getD ii []).length ∧ (P.getD ii []).length ≤ 24 := hq _ (getD_mem (by omega))
  obtain ⟨AJ, cJ, kJ, mJ, rJ⟩ := hcp jj (by omega)
  have HRJ := Lib.hid ((rJ.below hb).more hb.size)
  have hlJ : 0 < (P.getD jj []).length ∧ (P.getD jj []).length ≤ 24 := hq _ (getD_mem (by omega))
  have HSX : Hid (∀ wx, Below u.heap.size u wx → wx.cell? ⟨w.heap.size + 1, 3, none⟩ = some (.int .i64 ((ii : Nat) : Int)) ∧ wx.cell? ⟨w.heap.size + 1, 4, none⟩ = some (.int .i64 ((jj : Nat) : Int)) ∧ wx.cell? ⟨bp, op + ii, none⟩ = some (.slice AI (P.getD ii []).length cI) ∧ wx.cell? ⟨bp, op + jj, none⟩ = some (.slice AJ (P.getD jj []).length cJ)) := Lib.hid fun wx hx => by
    have q := (hx.block (w.heap.size + 1) (by omega)).trans p1
    exact ⟨cell_of_row _ _ 3 _ _ (0, 0) q, cell_of_row _ _ 4 _ _ (0, 0) q, ((hb.trans (hx.mono hb.size)).cell (p := ⟨bp, op + ii, none⟩) hbp).trans kI, ((hb.trans (hx.mono hb.size)).cell (p := ⟨bp, op + jj, none⟩) hbp).trans kJ⟩
  have K0 := Lib.hid (HSX.out u (Below.refl _ _))
  have hwo := fun (wx : World) (g : Nat) (hx : Below u.heap.size u wx) (hg : wx.heap[g]? = some (.cells #[Value.int .i64 ((ii : Nat) : Int), Value.int .i64 ((jj : Nat) : Int)] 2 (0, 0))) => without_any (some ⟨bp, op, none⟩) P.length c P (some ⟨g, 0, none⟩) 2 2 [((ii : Nat) : Int), ((jj : Nat) : Int)] wx ((HP.out.below hx).more hx.size) (rd_lit2 hg) (by omega) (by omega)
  have hfo := fun (wx : World) (g : Nat) (hx : Below u.heap.size u wx) (hg : wx.heap[g]? = some (.cells #[.slice AI (P.getD ii []).length cI, .slice AJ (P.getD jj []).length cJ] 36 (0, 0))) => formOf2_any 12 g AI AJ cI cJ (P.getD ii []) (P.getD jj []) wx hg ((HRI.out.below hx).more hx.size) ((HRJ.out.below hx).more hx.size) (by omega) (by omega)
  obtain ⟨X, hX⟩ : ∃ X, (12 :: (P.getD ii [] ++ P.getD jj [])) = X := ⟨_, rfl⟩
  obtain ⟨R, hR⟩ : ∃ R, woL P [((ii : Nat) : Int), ((jj : Nat) : Int)] = R := ⟨_, rfl⟩
  have hR9 : R.length ≤ 10 := by rw [← hR]; exact Nat.le_trans (woK_len _ _ _) hn
  rw [hX] at hfo ⊢
  rw [hR] at hwo ⊢
  have HWO := Lib.hid hwo; have HFO := Lib.hid hfo; have HR9 := Lib.hid hR9
  have hai : ((ii : Nat) : Int) < (P.length : Int) := by omega
  have haj : ((jj : Nat) : Int) < (P.length : Int) := by omega
  have hne : (((ii : Nat) : Int) == ((jj : Nat) : Int)) = false := by simp; omega
  have k3 := cell_of_row _ _ 3 _ _ (0, 0) HP1.out; have k4 := cell_of_row _ _ 4 _ _ (0, 0) HP1.out
  clear hu0 hb p0 p1 hwo hfo hX hR hR9 h hq hi0 hz0 hz1 hz2 kI rI hlI mI kJ rJ hlJ mJ hcp
  generalize (P.getD ii []).length = NI at *
  generalize (P.getD jj []).length = NJ at *
  go_enter Tryz.func112, Tryz.ntmps112
  go_upto_region 1 with (fail)
  rw [← HU0.out]
  go_upto_region 3 with (fail)
  clear k3 k4 hne
  have FB_0 := Lib.hid (Below.refl u.heap.size u)
  refine wp_region_held_drew (S := fun wx => wx.cell? ⟨w.heap.size + 1, 3, none⟩ = some (.int .i64 ((ii : Nat) : Int)) ∧ wx.cell? ⟨w.heap.size + 1, 4, none⟩ = some (.int .i64 ((jj : Nat) : Int)) ∧ wx.cell? ⟨bp, op + ii, none⟩ = some (.slice AI NI cI) ∧ wx.cell? ⟨bp, op + jj, none⟩ = some (.slice AJ NJ cJ)) (by kernel_rfl) K0.out (fun hHeld => ?_)
  obtain ⟨wq1, hwq1⟩ : ∃ w', w' = u.drew := ⟨_, rfl⟩
  rw [← hwq1] at hHeld ⊢
  have bq1 : Below u.heap.size u wq1 := by rw [hwq1]; exact (Below.refl _ _).drew
  clear hwq1
  have FB_q2 := Lib.hid ((FB_0.out).trans ((bq1).mono (FB_0.out).size))
  clear FB_0
  refine tk (i := 0) (h := ?_)
  (try simp only [Act.put, setIfInBounds_toArray, set_cons_zero, set_cons_succ])
  refine tk (i := 1) (h := ?_)
  (try simp only [Act.put, setIfInBounds_toArray, set_cons_zero, set_cons_succ])
  refine tk (i := 3) (h := ?_)
  (try simp only [Act.put, setIfInBounds_toArray, set_cons_zero, set_cons_succ])
  refine tk (i := 7) (h := ?_)
  (try simp only [Act.put, setIfInBounds_toArray, set_cons_zero, set_cons_succ])
  refine tk (i := 8) (h := ?_)
  (try simp only [Act.put, setIfInBounds_toArray, set_cons_zero, set_cons_succ])
  refine tk (i := 12) (h := ?_)
  (try simp only [Act.put, setIfInBounds_toArray, set_cons_zero, set_cons_succ])
  refine tk (i := 13) (h := ?_)
  (try simp only [Act.put, setIfInBounds_toArray, set_cons_zero, set_cons_succ])
  refine tk (i := 2) (h := ?_)
  (try simp only [Act.put, setIfInBounds_toArray, set_cons_zero, set_cons_succ])
  refine tk (i := 4) (h := ?_)
  (try simp only [Act.put, setIfInBounds_toArray, set_cons_zero, set_cons_succ])
  refine tk (i := 9) (h := ?_)
  (try simp only [Act.put, setIfInBounds_toArray, set_cons_zero, set_cons_succ])
  refine tk (i := 14) (h := ?_)
  (try simp only [Act.put, setIfInBounds_toArray, set_cons_zero, set_cons_succ])
  refine tk (i := 10) (h := ?_)
  (try simp only [Act.put, setIfInBounds_toArray, set_cons_zero, set_cons_succ])
  refine tk (i := 15) (h := ?_)
  (try simp only [Act.put, setIfInBounds_toArray, set_cons_zero, set_cons_succ])
  refine tk (i := 11) (h := ?_)
  (try simp only [Act.put, setIfInBounds_toArray, set_cons_zero, set_cons_succ])
  refine tk (i := 16) (h := ?_)
  (try simp only [Act.put, setIfInBounds_toArray, set_cons_zero, set_cons_succ])
  refine wpAnyH_ready (rs := [5, 17]) (by kernel_rfl) (by simp) ?_
  refine AllReadyH.cons rfl (fun K hK => ?_) ?_
  · go_simp
    obtain ⟨wq18, hwq18⟩ : ∃ w', w' = wq1.alloc (.cells #[Value.int .i64 ((ii : Nat) : Int), Value.int .i64 ((jj : Nat) : Int)] 2) := ⟨_, rfl⟩
    rw [← hwq18]
    have bq18 := al hwq18
    have gq18 := an hwq18
    clear hwq18
    have FB_q19 := Lib.hid ((FB_q2.out).trans ((bq18).mono (FB_q2.out).size))
    clear FB_q2
    obtain ⟨glq20, hgq20⟩ : ∃ b, wq1.heap.size = b := ⟨_, rfl⟩
    have FL_q20 := Lib.hid gq18
    rw [hgq20] at FL_q20 ⊢
    clear hgq20 gq18 bq18
    refine hK.out _ _ (HSX.out _ FB_q19.out) (fun hHeld => ?_)
    clear hK K
    (try simp only [Act.put, setIfInBounds_toArray, set_cons_zero, set_cons_succ])
    refine wpAnyH_ready (rs := [6, 17]) (by kernel_rfl) (by simp) ?_
    refine AllReadyH.cons rfl (fun K hK => ?_) ?_
    · go_simp
      have KBq21 := Lib.hid FB_q19.out
      refine (HWO.out wq18 glq20 FB_q19.out FL_q20.out).mono ?_
      rintro e wq21 ⟨A4, c4, vs4, rfl, oq21, rq21, belq21⟩
      dsimp only
      have FB_q22 := Lib.hid ((FB_q19.out).trans ((belq21).mono (FB_q19.out).size))
      have FL_q23 := Lib.hid (((belq21).block _ (Array.getElem?_eq_some_iff.1 (FL_q20.out)).1).trans (FL_q20.out))
      clear FB_q19 FL_q20
      have FQ_q21 := Lib.hid belq21; have FO_q21 := Lib.hid oq21; have KRq21 := Lib.hid rq21
      clear oq21 rq21 belq21
      refine hK.out _ _ (HSX.out _ FB_q22.out) (fun hHeld => ?_)
      clear hK K
      (try simp only [Act.put, setIfInBounds_toArray, set_cons_zero, set_cons_succ])
      refine t1 (i := 17) (h := fun K hK => ?_)
      go_simp
      obtain ⟨wq24, hwq24⟩ : ∃ w', w' = wq21.alloc (.cells #[.slice AI NI cI, .slice AJ NJ cJ] 36) := ⟨_, rfl⟩
      rw [← hwq24]
      have bq24 := al hwq24
      have gq24 := an hwq24
      clear hwq24
      have FB_q25 := Lib.hid ((FB_q22.out).trans ((bq24).mono (FB_q22.out).size))
      have FL_q26 := Lib.hid (((bq24).block _ (Array.getElem?_eq_some_iff.1 (FL_q23.out)).1).trans (FL_q23.out))
      have FQ_q27 := Lib.hid ((FQ_q21.out).trans ((bq24).mono (FQ_q21.out).size))
      have FO_q28 := Lib.hid (own_below (FO_q21.out) (bq24) (Nat.le_refl _))
      clear FB_q22 FL_q23 FQ_q21 FO_q21
      obtain ⟨gfq29, hgq29⟩ : ∃ b, wq21.heap.size = b := ⟨_, rfl⟩
      have FF_q29 := Lib.hid gq24
      rw [hgq29] at FF_q29 ⊢
      clear hgq29 gq24 bq24
      refine hK.out _ _ (HSX.out _ FB_q25.out) (fun hHeld => ?_)
      clear hK K
      (try simp only [Act.put, setIfInBounds_toArray, set_cons_zero, set_cons_succ])
      refine t1 (i := 18) (h := fun K hK => ?_)
      go_simp
      have KOq30 := Lib.hid FO_q28.out
      refine (HFO.out wq24 gfq29 FB_q25.out FF_q29.out).mono ?_
      rintro e wq30 ⟨AX, cX, rfl, oq30, belq30⟩
      dsimp only
      have FB_q31 := Lib.hid ((FB_q25.out).trans ((belq30).mono (FB_q25.out).size))
      have FL_q32 := Lib.hid (((belq30).block _ (Array.getElem?_eq_some_iff.1 (FL_q26.out)).1).trans (FL_q26.out))
      have FQ_q33 := Lib.hid ((FQ_q27.out).trans ((belq30).mono (FQ_q27.out).size))
      have FO_q34 := Lib.hid (own_below (FO_q28.out) (belq30) (Nat.le_refl _))
      have FF_q35 := Lib.hid (((belq30).block _ (Array.getElem?_eq_some_iff.1 (FF_q29.out)).1).trans (FF_q29.out))
      clear FB_q25 FL_q26 FQ_q27 FO_q28 FF_q29
      have FX_q30 := Lib.hid (RdI.of_own oq30); have KCq30 := Lib.hid (own_cap oq30).1; have NEq30 := Lib.hid (own_ord KOq30.out oq30 (Nat.le_refl _))
      clear oq30 belq30 KOq30
      refine hK.out _ _ (HSX.out _ FB_q31.out) (fun hHeld => ?_)
      clear hK K
      (try simp only [Act.put, setIfInBounds_toArray, set_cons_zero, set_cons_succ])
      refine t1 (i := 19) (h := fun K hK => ?_)
      go_simp
      obtain ⟨wq36, hwq36⟩ : ∃ w', w' = wq30.alloc (.cells #[Value.slice AX X.length cX] 36) := ⟨_, rfl⟩
      rw [← hwq36]
      have bq36 := al hwq36
      have gq36 := an hwq36
      clear hwq36
      have FB_q37 := Lib.hid ((FB_q31.out).trans ((bq36).mono (FB_q31.out).size))
      have FL_q38 := Lib.hid (((bq36).block _ (Array.getElem?_eq_some_iff.1 (FL_q32.out)).1).trans (FL_q32.out))
      have FQ_q39 := Lib.hid ((FQ_q33.out).trans ((bq36).mono (FQ_q33.out).size))
      have FO_q40 := Lib.hid (own_below (FO_q34.out) (bq36) (Nat.le_refl _))
      have FF_q41 := Lib.hid (((bq36).block _ (Array.getElem?_eq_some_iff.1 (FF_q35.out)).1).trans (FF_q35.out))
      have FX_q42 := Lib.hid (((FX_q30.out).below (bq36)).more (bq36).size)
      clear FB_q31 FL_q32 FQ_q33 FO_q34 FF_q35 FX_q30
      obtain ⟨gnq43, hgq43⟩ : ∃ b, wq30.heap.size = b := ⟨_, rfl⟩
      have FN_q43 := Lib.hid gq36
      rw [hgq43] at FN_q43 ⊢
      clear hgq43 gq36 bq36
      refine hK.out _ _ (HSX.out _ FB_q37.out) (fun hHeld => ?_)
      clear hK K
      (try simp only [Act.put, setIfInBounds_toArray, set_cons_zero, set_cons_succ])
      refine t1 (i := 20) (h := fun K hK => ?_)
      refine step_append_o rfl _ _ 23 rfl wq18.heap.size 36 i0 (.slice none 0 0) 1 24 Tryz.underlying23 HI.out HZ0.out HZ1.out HZ2.out rfl (by decide) _ _ _ rfl FO_q40.out ⟨gnq43, 0, none⟩ 1 1 [.slice AX X.length cX] rfl rfl (World.news_of_block FN_q43.out) (by simp [Value.oneCell']) (by have := HR9.out; unfold maxLen; omega) (by have := HR9.out; omega) FQ_q39.out.size ?_
      intro v7 wq44 hown7 hgrow7 _
      obtain ⟨A7, c7, rfl, bq44, oq44, rq44⟩ := rule_out KBq21.out FQ_q39.out rfl FO_q40.out KRq21.out FX_q42.out NEq30.out KCq30.out hown7 hgrow7
      have FB_q44 := Lib.hid bq44; have FO_q44 := Lib.hid oq44; have KRq44 := Lib.hid rq44
      clear bq44 oq44 rq44 hown7 hgrow7
      refine hK.out _ _ (HSX.out _ FB_q44.out) (fun hHeld => ?_)
      clear hK K
      (try simp only [Act.put, setIfInBounds_toArray, set_cons_zero, set_cons_succ])
      refine t1 (i := 21) (h := fun K hK => ?_)
      go_simp
      refine hK.out _ _ hHeld (fun hHeld => ?_)
      clear hK K
      (try simp only [Act.put, setIfInBounds_toArray, set_cons_zero, set_cons_succ])
      refine t1 (i := 22) (h := fun K hK => ?_)
      go_simp
      refine hK.out _ _ hHeld (fun hHeld => ?_)
      clear hK K
      (try simp only [Act.put, setIfInBounds_toArray, set_cons_zero, set_cons_succ])
      refine wpAnyH_done (by kernel_rfl) ?_ _
      go_wp2
      go_ret2
      exact ⟨HBU.out.trans (FB_q44.out.mono HBU.out.size), A7, c7, _, by rw [show (R ++ [X]).length = R.length + 1 by simp]; rfl, own_base FO_q44.out HBU.out.size, KRq44.out⟩
    refine AllReadyH.cons rfl (fun K hK => ?_) ?_
    · go_simp
      obtain ⟨wq45, hwq45⟩ : ∃ w', w' = wq18.alloc (.cells #[.slice AI NI cI, .slice AJ NJ cJ] 36) := ⟨_, rfl⟩
      rw [← hwq45]
      have bq45 := al hwq45
      have gq45 := an hwq45
      clear hwq45
      have FB_q46 := Lib.hid ((FB_q19.out).trans ((bq45).mono (FB_q19.out).size))
      have FL_q47 := Lib.hid (((bq45).block _ (Array.getElem?_eq_some_iff.1 (FL_q20.out)).1).trans (FL_q20.out))
      clear FB_q19 FL_q20
      obtain ⟨gfq48, hgq48⟩ : ∃ b, wq18.heap.size = b := ⟨_, rfl⟩
      have FF_q48 := Lib.hid gq45
      rw [hgq48] at FF_q48 ⊢
      clear hgq48 gq45 bq45
      refine hK.out _ _ (HSX.out _ FB_q46.out) (fun hHeld => ?_)
      clear hK K
      (try simp only [Act.put, setIfInBounds_toArray, set_cons_zero, set_cons_succ])
      refine t1 (i := 6) (h := fun K hK => ?_)
      go_simp
      have KBq49 := Lib.hid FB_q46.out
      refine (HWO.out wq45 glq20 FB_q46.out FL_q47.out).mono ?_
      rintro e wq49 ⟨A4, c4, vs4, rfl, oq49, rq49, belq49⟩
      dsimp only
      have FB_q50 := Lib.hid ((FB_q46.out).trans ((belq49).mono (FB_q46.out).size))
      have FL_q51 := Lib.hid (((belq49).block _ (Array.getElem?_eq_some_iff.1 (FL_q47.out)).1).trans (FL_q47.out))
      have FF_q52 := Lib.hid (((belq49).block _ (Array.getElem?_eq_some_iff.1 (FF_q48.out)).1).trans (FF_q48.out))
      clear FB_q46 FL_q47 FF_q48
      have FQ_q49 := Lib.hid belq49; have FO_q49 := Lib.hid oq49; have KRq49 := Lib.hid rq49
      clear oq49 rq49 belq49
      refine hK.out _ _ (HSX.out _ FB_q50.out) (fun hHeld => ?_)
      clear hK K
      (try simp only [Act.put, setIfInBounds_toArray, set_cons_zero, set_cons_succ])
      refine t1 (i := 18) (h := fun K hK => ?_)
      go_simp
      have KOq53 := Lib.hid FO_q49.out
      refine (HFO.out wq49 gfq48 FB_q50.out FF_q52.out).mono ?_
      rintro e wq53 ⟨AX, cX, rfl, oq53, belq53⟩
      dsimp only
      have FB_q54 := Lib.hid ((FB_q50.out).trans ((belq53).mono (FB_q50.out).size))
      have FL_q55 := Lib.hid (((belq53).block _ (Array.getElem?_eq_some_iff.1 (FL_q51.out)).1).trans (FL_q51.out))
      have FF_q56 := Lib.hid (((belq53).block _ (Array.getElem?_eq_some_iff.1 (FF_q52.out)).1).trans (FF_q52.out))
      have FQ_q57 := Lib.hid ((FQ_q49.out).trans ((belq53).mono (FQ_q49.out).size))
      have FO_q58 := Lib.hid (own_below (FO_q49.out) (belq53) (Nat.le_refl _))
      clear FB_q50 FL_q51 FF_q52 FQ_q49 FO_q49
      have FX_q53 := Lib.hid (RdI.of_own oq53); have KCq53 := Lib.hid (own_cap oq53).1; have NEq53 := Lib.hid (own_ord KOq53.out oq53 (Nat.le_refl _))
      clear oq53 belq53 KOq53
      refine hK.out _ _ (HSX.out _ FB_q54.out) (fun hHeld => ?_)
      clear hK K
      (try simp only [Act.put, setIfInBounds_toArray, set_cons_zero, set_cons_succ])
      refine t1 (i := 19) (h := fun K hK => ?_)
      go_simp
      obtain ⟨wq59, hwq59⟩ : ∃ w', w' = wq53.alloc (.cells #[Value.slice AX X.length cX] 36) := ⟨_, rfl⟩
      rw [← hwq59]
      have bq59 := al hwq59
      have gq59 := an hwq59
      clear hwq59
      have FB_q60 := Lib.hid ((FB_q54.out).trans ((bq59).mono (FB_q54.out).size))
      have FL_q61 := Lib.hid (((bq59).block _ (Array.getElem?_eq_some_iff.1 (FL_q55.out)).1).trans (FL_q55.out))
      have FF_q62 := Lib.hid (((bq59).block _ (Array.getElem?_eq_some_iff.1 (FF_q56.out)).1).trans (FF_q56.out))
      have FQ_q63 := Lib.hid ((FQ_q57.out).trans ((bq59).mono (FQ_q57.out).size))
      have FO_q64 := Lib.hid (own_below (FO_q58.out) (bq59) (Nat.le_refl _))
      have FX_q65 := Lib.hid (((FX_q53.out).below (bq59)).more (bq59).size)
      clear FB_q54 FL_q55 FF_q56 FQ_q57 FO_q58 FX_q53
      obtain ⟨gnq66, hgq66⟩ : ∃ b, wq53.heap.size = b := ⟨_, rfl⟩
      have FN_q66 := Lib.hid gq59
      rw [hgq66] at FN_q66 ⊢
      clear hgq66 gq59 bq59
      refine hK.out _ _ (HSX.out _ FB_q60.out) (fun hHeld => ?_)
      clear hK K
      (try simp only [Act.put, setIfInBounds_toArray, set_cons_zero, set_cons_succ])
      refine t1 (i := 20) (h := fun K hK => ?_)
      refine step_append_o rfl _ _ 23 rfl wq45.heap.size 36 i0 (.slice none 0 0) 1 24 Tryz.underlying23 HI.out HZ0.out HZ1.out HZ2.out rfl (by decide) _ _ _ rfl FO_q64.out ⟨gnq66, 0, none⟩ 1 1 [.slice AX X.length cX] rfl rfl (World.news_of_block FN_q66.out) (by simp [Value.oneCell']) (by have := HR9.out; unfold maxLen; omega) (by have := HR9.out; omega) FQ_q63.out.size ?_
      intro v7 wq67 hown7 hgrow7 _
      obtain ⟨A7, c7, rfl, bq67, oq67, rq67⟩ := rule_out KBq49.out FQ_q63.out rfl FO_q64.out KRq49.out FX_q65.out NEq53.out KCq53.out hown7 hgrow7
      have FB_q67 := Lib.hid bq67; have FO_q67 := Lib.hid oq67; have KRq67 := Lib.hid rq67
      clear bq67 oq67 rq67 hown7 hgrow7
      refine hK.out _ _ (HSX.out _ FB_q67.out) (fun hHeld => ?_)
      clear hK K
      (try simp only [Act.put, setIfInBounds_toArray, set_cons_zero, set_cons_succ])
      refine t1 (i := 21) (h := fun K hK => ?_)
      go_simp
      refine hK.out _ _ hHeld (fun hHeld => ?_)
      clear hK K
      (try simp only [Act.put, setIfInBounds_toArray, set_cons_zero, set_cons_succ])
      refine t1 (i := 22) (h := fun K hK => ?_)
      go_simp
      refine hK.out _ _ hHeld (fun hHeld => ?_)
      clear hK K
      (try simp only [Act.put, setIfInBounds_toArray, set_cons_zero, set_cons_succ])
      refine wpAnyH_done (by kernel_rfl) ?_ _
      go_wp2
      go_ret2
      exact ⟨HBU.out.trans (FB_q67.out.mono HBU.out.size), A7, c7, _, by rw [show (R ++ [X]).length = R.length + 1 by simp]; rfl, own_base FO_q67.out HBU.out.size, KRq67.out⟩
    exact AllReadyH.nil
  refine AllReadyH.cons rfl (fun K hK => ?_) ?_
  · go_simp
    obtain ⟨wq68, hwq68⟩ : ∃ w', w' = wq1.alloc (.cells #[.slice AI NI cI, .slice AJ NJ cJ] 36) := ⟨_, rfl⟩
    rw [← hwq68]
    have bq68 := al hwq68
    have gq68 := an hwq68
    clear hwq68
    have FB_q69 := Lib.hid ((FB_q2.out).trans ((bq68).mono (FB_q2.out).size))
    clear FB_q2
    obtain ⟨gfq70, hgq70⟩ : ∃ b, wq1.heap.size = b := ⟨_, rfl⟩
    have FF_q70 := Lib.hid gq68
    rw [hgq70] at FF_q70 ⊢
    clear hgq70 gq68 bq68
    refine hK.out _ _ (HSX.out _ FB_q69.out) (fun hHeld => ?_)
    clear hK K
    (try simp only [Act.put, setIfInBounds_toArray, set_cons_zero, set_cons_succ])
    refine t1 (i := 5) (h := fun K hK => ?_)
    go_simp
    obtain ⟨wq71, hwq71⟩ : ∃ w', w' = wq68.alloc (.cells #[Value.int .i64 ((ii : Nat) : Int), Value.int .i64 ((jj : Nat) : Int)] 2) := ⟨_, rfl⟩
    rw [← hwq71]
    have bq71 := al hwq71
    have gq71 := an hwq71
    clear hwq71
    have FB_q72 := Lib.hid ((FB_q69.out).trans ((bq71).mono (FB_q69.out).size))
    have FF_q73 := Lib.hid (((bq71).block _ (Array.getElem?_eq_some_iff.1 (FF_q70.out)).1).trans (FF_q70.out))
    clear FB_q69 FF_q70
    obtain ⟨glq74, hgq74⟩ : ∃ b, wq68.heap.size = b := ⟨_, rfl⟩
    have FL_q74 := Lib.hid gq71
    rw [hgq74] at FL_q74 ⊢
    clear hgq74 gq71 bq71
    refine hK.out _ _ (HSX.out _ FB_q72.out) (fun hHeld => ?_)
    clear hK K
    (try simp only [Act.put, setIfInBounds_toArray, set_cons_zero, set_cons_succ])
    refine t1 (i := 6) (h := fun K hK => ?_)
    go_simp
    have KBq75 := Lib.hid FB_q72.out
    refine (HWO.out wq71 glq74 FB_q72.out FL_q74.out).mono ?_
    rintro e wq75 ⟨A4, c4, vs4, rfl, oq75, rq75, belq75⟩
    dsimp only
    have FB_q76 := Lib.hid ((FB_q72.out).trans ((belq75).mono (FB_q72.out).size))
    have FF_q77 := Lib.hid (((belq75).block _ (Array.getElem?_eq_some_iff.1 (FF_q73.out)).1).trans (FF_q73.out))
    have FL_q78 := Lib.hid (((belq75).block _ (Array.getElem?_eq_some_iff.1 (FL_q74.out)).1).trans (FL_q74.out))
    clear FB_q72 FF_q73 FL_q74
    have FQ_q75 := Lib.hid belq75; have FO_q75 := Lib.hid oq75; have KRq75 := Lib.hid rq75
    clear oq75 rq75 belq75
    refine hK.out _ _ (HSX.out _ FB_q76.out) (fun hHeld => ?_)
    clear hK K
    (try simp only [Act.put, setIfInBounds_toArray, set_cons_zero, set_cons_succ])
    refine t1 (i := 18) (h := fun K hK => ?_)
    go_simp
    have KOq79 := Lib.hid FO_q75.out
    refine (HFO.out wq75 gfq70 FB_q76.out FF_q77.out).mono ?_
    rintro e wq79 ⟨AX, cX, rfl, oq79, belq79⟩
    dsimp only
    have FB_q80 := Lib.hid ((FB_q76.out).trans ((belq79).mono (FB_q76.out).size))
    have FF_q81 := Lib.hid (((belq79).block _ (Array.getElem?_eq_some_iff.1 (FF_q77.out)).1).trans (FF_q77.out))
    have FL_q82 := Lib.hid (((belq79).block _ (Array.getElem?_eq_some_iff.1 (FL_q78.out)).1).trans (FL_q78.out))
    have FQ_q83 := Lib.hid ((FQ_q75.out).trans ((belq79).mono (FQ_q75.out).size))
    have FO_q84 := Lib.hid (own_below (FO_q75.out) (belq79) (Nat.le_refl _))
    clear FB_q76 FF_q77 FL_q78 FQ_q75 FO_q75
    have FX_q79 := Lib.hid (RdI.of_own oq79); have KCq79 := Lib.hid (own_cap oq79).1; have NEq79 := Lib.hid (own_ord KOq79.out oq79 (Nat.le_refl _))
    clear oq79 belq79 KOq79
    refine hK.out _ _ (HSX.out _ FB_q80.out) (fun hHeld => ?_)
    clear hK K
    (try simp only [Act.put, setIfInBounds_toArray, set_cons_zero, set_cons_succ])
    refine t1 (i := 19) (h := fun K hK => ?_)
    go_simp
    obtain ⟨wq85, hwq85⟩ : ∃ w', w' = wq79.alloc (.cells #[Value.slice AX X.length cX] 36) := ⟨_, rfl⟩
    rw [← hwq85]
    have bq85 := al hwq85
    have gq85 := an hwq85
    clear hwq85
    have FB_q86 := Lib.hid ((FB_q80.out).trans ((bq85).mono (FB_q80.out).size))
    have FF_q87 := Lib.hid (((bq85).block _ (Array.getElem?_eq_some_iff.1 (FF_q81.out)).1).trans (FF_q81.out))
    have FL_q88 := Lib.hid (((bq85).block _ (Array.getElem?_eq_some_iff.1 (FL_q82.out)).1).trans (FL_q82.out))
    have FQ_q89 := Lib.hid ((FQ_q83.out).trans ((bq85).mono (FQ_q83.out).size))
    have FO_q90 := Lib.hid (own_below (FO_q84.out) (bq85) (Nat.le_refl _))
    have FX_q91 := Lib.hid (((FX_q79.out).below (bq85)).more (bq85).size)
    clear FB_q80 FF_q81 FL_q82 FQ_q83 FO_q84 FX_q79
    obtain ⟨gnq92, hgq92⟩ : ∃ b, wq79.heap.size = b := ⟨_, rfl⟩
    have FN_q92 := Lib.hid gq85
    rw [hgq92] at FN_q92 ⊢
    clear hgq92 gq85 bq85
    refine hK.out _ _ (HSX.out _ FB_q86.out) (fun hHeld => ?_)
    clear hK K
    (try simp only [Act.put, setIfInBounds_toArray, set_cons_zero, set_cons_succ])
    refine t1 (i := 20) (h := fun K hK => ?_)
    refine step_append_o rfl _ _ 23 rfl wq71.heap.size 36 i0 (.slice none 0 0) 1 24 Tryz.underlying23 HI.out HZ0.out HZ1.out HZ2.out rfl (by decide) _ _ _ rfl FO_q90.out ⟨gnq92, 0, none⟩ 1 1 [.slice AX X.length cX] rfl rfl (World.news_of_block FN_q92.out) (by simp [Value.oneCell']) (by have := HR9.out; unfold maxLen; omega) (by have := HR9.out; omega) FQ_q89.out.size ?_
    intro v7 wq93 hown7 hgrow7 _
    obtain ⟨A7, c7, rfl, bq93, oq93, rq93⟩ := rule_out KBq75.out FQ_q89.out rfl FO_q90.out KRq75.out FX_q91.out NEq79.out KCq79.out hown7 hgrow7
    have FB_q93 := Lib.hid bq93; have FO_q93 := Lib.hid oq93; have KRq93 := Lib.hid rq93
    clear bq93 oq93 rq93 hown7 hgrow7
    refine hK.out _ _ (HSX.out _ FB_q93.out) (fun hHeld => ?_)
    clear hK K
    (try simp only [Act.put, setIfInBounds_toArray, set_cons_zero, set_cons_succ])
    refine t1 (i := 21) (h := fun K hK => ?_)
    go_simp
    refine hK.out _ _ hHeld (fun hHeld => ?_)
    clear hK K
    (try simp only [Act.put, setIfInBounds_toArray, set_cons_zero, set_cons_succ])
    refine t1 (i := 22) (h := fun K hK => ?_)
    go_simp
    refine hK.out _ _ hHeld (fun hHeld => ?_)
    clear hK K
    (try simp only [Act.put, setIfInBounds_toArray, set_cons_zero, set_cons_succ])
    refine wpAnyH_done (by kernel_rfl) ?_ _
    go_wp2
    go_ret2
    exact ⟨HBU.out.trans (FB_q93.out.mono HBU.out.size), A7, c7, _, by rw [show (R ++ [X]).length = R.length + 1 by simp]; rfl, own_base FO_q93.out HBU.out.size, KRq93.out⟩
  exact AllReadyH.nil
end Go.Proofs.YthbkcpacgnmcfaaGreatDoor
