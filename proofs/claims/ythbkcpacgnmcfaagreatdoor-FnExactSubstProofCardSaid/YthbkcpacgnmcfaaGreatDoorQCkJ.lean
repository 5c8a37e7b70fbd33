/- The program's rules with two premises (with). Made by mkckb.py. The program's rules without premises (ax, one). Made by mkckk.py. -/
import Derived.Test.YthbkcpacgnmcfaaGreatDoorQCkF
import Derived.Test.YthbkcpacgnmcfaaGreatDoorSeqV
import Derived.Test.YthbkcpacgnmcfaaGreatDoorQClone
import Derived.Test.YthbkcpacgnmcfaaGreatDoorQSubA
import Derived.Test.YthbkcpacgnmcfaaGreatDoorQRule
namespace Go.Proofs.YthbkcpacgnmcfaaGreatDoor
set_option linter.unusedSimpArgs false
set_option linter.unusedVariables false
section
open Go.ChangeAt Go.ChangeShapes Go.RowKit Go.WideShapes
open List (setIfInBounds_toArray set_cons_zero set_cons_succ getElem_toArray getElem_cons_succ getElem_cons_zero)

def withR (P Q : List (List Int)) (ii jj : Nat) : Option (List (List Int)) := if woL P [((ii : Nat) : Int)] = woL Q [((jj : Nat) : Int)] then some (woL P [((ii : Nat) : Int)] ++ [(16 :: (P.getD ii [] ++ Q.getD jj []))]) else none
theorem woL_le {P : List (List Int)} {L : List Int} (h : ∀ q ∈ P, 0 < q.length ∧ q.length ≤ 24) : ∀ q ∈ woL P L, q.length ≤ 24 := by
  intro q hq
  obtain ⟨i, _, rfl⟩ := List.mem_map.1 hq
  by_cases hi : i < P.length
  · exact (h _ (getD_mem hi)).2
  · rw [List.getD, List.getElem?_eq_none (by omega)]; exact Nat.zero_le _
set_option linter.unusedSimpArgs false in
set_option maxRecDepth 100000 in
set_option maxHeartbeats 8000000 in
theorem withRule_any (x y z : Bool) (r a b : Int) (ii jj : Nat) (A : Option Addr) (n c : Nat) (P : List (List Int)) (A2 : Option Addr) (n2 c2 : Nat) (Q : List (List Int)) (B : Option Addr) (m d : Nat) (w : World) (h : RdQ w w.heap.size A n P) (h2 : RdQ w w.heap.size A2 n2 Q) (hn : n ≤ 10) (hn2 : n2 ≤ 10) (hq : ∀ q ∈ P, 0 < q.length ∧ q.length ≤ 24) (hq2 : ∀ q ∈ Q, 0 < q.length ∧ q.length ≤ 24) (hii : ii < n) (hjj : jj < n2) :
    Calls Tryz.prog 115 #[.agg #[.bool x, .bool y, .bool z], .slice A n c, .slice A2 n2 c2, Value.agg #[Value.int .i64 r, Value.int .i64 a, Value.int .i64 b, Value.int .i64 ((ii : Nat) : Int), Value.int .i64 ((jj : Nat) : Int), Value.slice B m d]] w (GivesD w (withR P Q ii jj)) := by
  obtain ⟨i0, hi0, hz0, hz1, hz2⟩ := info_parts_s
  have HI := Lib.hid hi0; have HZ0 := Lib.hid hz0; have HZ1 := Lib.hid hz1; have HZ2 := Lib.hid hz2
  have hl := h.len
  subst hl
  have hl2 := h2.len
  subst hl2
  obtain ⟨u, hu0⟩ : ∃ u, u = (w.alloc (.cells #[Value.bool x, Value.bool y, Value.bool z] 98)).alloc (.cells #[Value.int .i64 r, Value.int .i64 a, Value.int .i64 b, Value.int .i64 ((ii : Nat) : Int), Value.int .i64 ((jj : Nat) : Int), Value.slice B m d] 43) := ⟨_, rfl⟩
  obtain ⟨hb, p0, p1, hsz⟩ := two_any w (.cells #[Value.bool x, Value.bool y, Value.bool z] 98) (.cells #[Value.int .i64 r, Value.int .i64 a, Value.int .i64 b, Value.int .i64 ((ii : Nat) : Int), Value.int .i64 ((jj : Nat) : Int), Value.slice B m d] 43)
  rw [← hu0] at hb p0 p1 hsz
  have HU0 := Lib.hid hu0; have HBU := Lib.hid hb; have HP1 := Lib.hid p1; have HP := Lib.hid ((h.below hb).more hb.size); have HQ := Lib.hid ((h2.below hb).more hb.size)
  obtain ⟨bp, op, rfl, hbp, hcp⟩ := h.2 (by omega)
  obtain ⟨bq, oq, rfl, hbq, hcq⟩ := h2.2 (by omega)
  obtain ⟨AI, cI, kI, mI, rI⟩ := hcp ii (by omega)
  obtain ⟨AJ, cJ, kJ, mJ, rJ⟩ := hcq jj (by omega)
  have HRI := Lib.hid ((rI.below hb).more hb.size); have HRJ := Lib.hid ((rJ.below hb).more hb.size)
  have hlI : 0 < (P.getD ii []).length ∧ (P.getD ii []).length ≤ 24 := hq _ (getD_mem (by omega))
  have hlJ : 0 < (Q.getD jj []).length ∧ (Q.getD jj []).length ≤ 24 := hq2 _ (getD_mem (by omega))
  have HSX : Hid (∀ wx, Below u.heap.size u wx → wx.cell? ⟨w.heap.size + 1, 3, none⟩ = some (.int .i64 ((ii : Nat) : Int)) ∧ wx.cell? ⟨w.heap.size + 1, 4, none⟩ = some (.int .i64 ((jj : Nat) : Int)) ∧ wx.cell? ⟨bp, op + ii, none⟩ = some (.slice AI (P.getD ii []).length cI) ∧ wx.cell? ⟨bq, oq + jj, none⟩ = some (.slice AJ (Q.getD jj []).length cJ)) := Lib.hid fun wx hx => by
    have q := (hx.block (w.heap.size + 1) (by omega)).trans p1
    exact ⟨cell_of_row _ _ 3 _ _ (0, 0) q, cell_of_row _ _ 4 _ _ (0, 0) q, ((hb.trans (hx.mono hb.size)).cell (p := ⟨bp, op + ii, none⟩) hbp).trans kI, ((hb.trans (hx.mono hb.size)).cell (p := ⟨bq, oq + jj, none⟩) hbq).trans kJ⟩
  have K0 := Lib.hid (HSX.out u (Below.refl _ _))
  have hwo1 := fun (wx : World) (g : Nat) (hx : Below u.heap.size u wx) (hg : wx.heap[g]? = some (.cells #[Value.int .i64 ((ii : Nat) : Int)] 2 (0, 0))) => without_any (some ⟨bp, op, none⟩) P.length c P (some ⟨g, 0, none⟩) 1 1 [((ii : Nat) : Int)] wx ((HP.out.below hx).more hx.size) (rd_lit hg) (by omega) (by omega)
  obtain ⟨R1, hR1⟩ : ∃ R, woL P [((ii : Nat) : Int)] = R := ⟨_, rfl⟩
  have hR19 : R1.length ≤ 10 := by rw [← hR1]; exact Nat.le_trans (woK_len _ _ _) hn
  rw [hR1] at hwo1
  have HWO1 := Lib.hid hwo1; have HR19 := Lib.hid hR19
  have hwo2 := fun (wx : World) (g : Nat) (hx : Below u.heap.size u wx) (hg : wx.heap[g]? = some (.cells #[Value.int .i64 ((jj : Nat) : Int)] 2 (0, 0))) => without_any (some ⟨bq, oq, none⟩) Q.length c2 Q (some ⟨g, 0, none⟩) 1 1 [((jj : Nat) : Int)] wx ((HQ.out.below hx).more hx.size) (rd_lit hg) (by omega) (by omega)
  obtain ⟨R2, hR2⟩ : ∃ R, woL Q [((jj : Nat) : Int)] = R := ⟨_, rfl⟩
  have hR29 : R2.length ≤ 10 := by rw [← hR2]; exact Nat.le_trans (woK_len _ _ _) hn2
  rw [hR2] at hwo2
  have HWO2 := Lib.hid hwo2; have HR29 := Lib.hid hR29
  have hfo := fun (wx : World) (g : Nat) (hx : Below u.heap.size u wx) (hg : wx.heap[g]? = some (.cells #[.slice AI (P.getD ii []).length cI, .slice AJ (Q.getD jj []).length cJ] 36 (0, 0))) => formOf2_any 16 g AI AJ cI cJ (P.getD ii []) (Q.getD jj []) wx hg ((HRI.out.below hx).more hx.size) ((HRJ.out.below hx).more hx.size) (by omega) (by omega)
  obtain ⟨X, hX⟩ : ∃ X, (16 :: (P.getD ii [] ++ Q.getD jj [])) = X := ⟨_, rfl⟩
  rw [hX] at hfo
  have HFO := Lib.hid hfo
  have hai : ((ii : Nat) : Int) < (P.length : Int) := by omega
  have haj : ((jj : Nat) : Int) < (Q.length : Int) := by omega
  have hq1 : ∀ q ∈ R1, q.length ≤ 1048576 := fun q hm => by rw [← hR1] at hm; have := woL_le hq _ hm; omega
  have hq22 : ∀ q ∈ R2, q.length ≤ 1048576 := fun q hm => by rw [← hR2] at hm; have := woL_le hq2 _ hm; omega
  obtain ⟨w1, hw1⟩ : ∃ w1, w1 = u.alloc (.cells #[Value.int .i64 ((ii : Nat) : Int)] 2) := ⟨_, rfl⟩
  have hb1 := al hw1
  have hg1 := an hw1
  have HC1 := Lib.hid (hwo1 w1 u.heap.size hb1 hg1); have HB1 := Lib.hid hb1; have HW1 := Lib.hid hw1
  have hcr : withR P Q ii jj = if R1 = R2 then some (R1 ++ [X]) else none := by unfold withR; rw [hR1, hR2, hX]
  have HQ1 := Lib.hid hq1; have HQ2 := Lib.hid hq22; have HCR := Lib.hid hcr
  clear hu0 hb p0 p1 hwo1 hwo2 hR1 hR2 hR19 hR29 h h2 hcp hcq hi0 hz0 hz1 hz2 kI kJ rI rJ hq hq2 hsz hfo hX hlI hlJ mI mJ hq1 hq22 hw1 hb1 hg1 hcr
  generalize (P.getD ii []).length = NI at *
  generalize (Q.getD jj []).length = NJ at *
  go_enter Tryz.func115, Tryz.ntmps115
  go_upto_region 1 with (fail)
  rw [← HU0.out]
  obtain ⟨k3, k4, k5, k6⟩ := HSX.out u (Below.refl _ _)
  go_wp2_with (fail)
  rw [← HW1.out]
  refine HC1.out.mono ?_
  rintro e w2 ⟨A14, c14, vs14, rfl, o1, r1, bel1⟩
  have FO1 := Lib.hid o1; have KR1 := Lib.hid r1; have FQ1 := Lib.hid bel1; have HBU2 := Lib.hid (HB1.out.trans (bel1.mono HB1.out.size))
  clear o1 r1 bel1 k3 k4 k5 k6
  obtain ⟨w3, hw3⟩ : ∃ w3, w3 = w2.alloc (.cells #[Value.int .i64 ((jj : Nat) : Int)] 2) := ⟨_, rfl⟩
  have hb3 := al hw3
  have hg3 := an hw3
  have HBU3 := Lib.hid (HBU2.out.trans (hb3.mono HBU2.out.size))
  have HC2 := Lib.hid (HWO2.out w3 w2.heap.size HBU3.out hg3); have HW3 := Lib.hid hw3; have HB3 := Lib.hid hb3
  obtain ⟨k3, k4, k5, k6⟩ := HSX.out w2 HBU2.out
  clear hw3 hb3 hg3
  go_wp2_with (fail)
  rw [← HW3.out]
  refine HC2.out.mono ?_
  rintro e w4 ⟨A24, c24, vs24, rfl, o2, r2, bel2⟩
  have HB24 := Lib.hid (HB3.out.trans (bel2.mono HB3.out.size))
  have FO14 := Lib.hid (own_below FO1.out HB24.out (Nat.le_refl _)); have FQ14 := Lib.hid (FQ1.out.trans (HB24.out.mono FQ1.out.size))
  have HBU4 := Lib.hid (HBU3.out.trans (bel2.mono HBU3.out.size))
  have HEQ := Lib.hid (equalFunc_any A14 A24 R1.length R2.length c14 c24 R1 R2 w4 _ _ ((RdV.below KR1.out FQ14.out).rd FO14.out) ((RdV.below r2 bel2).rd o2) (by have := HR19.out; omega) (by have := HR29.out; omega) HQ1.out HQ2.out)
  clear o2 r2 bel2 k3 k4 k5 k6
  go_wp2_with (fail)
  refine HEQ.out.mono ?_
  rintro e w5 ⟨rfl, m5, hw5⟩
  have b45 : Below w4.heap.size w4 w5 := by rw [hw5]; exact below_drewN (Below.refl _ _) m5
  have FB_0 := Lib.hid (HBU4.out.trans (b45.mono HBU4.out.size)); have FQ_0 := Lib.hid (FQ14.out.trans (b45.mono FQ14.out.size)); have FO_0 := Lib.hid (own_below FO14.out b45 (Nat.le_refl _))
  clear hw5 b45
  by_cases hm : R1 = R2
  · have hd : decide (R1 = R2) = true := decide_eq_true hm
    have HN := Lib.hid (HCR.out.trans (if_pos hm))
    rw [hd]
    clear hm hd
    go_upto_region 4 with (fail)
    refine wp_region_held_drew (S := fun wx => wx.cell? ⟨w.heap.size + 1, 3, none⟩ = some (.int .i64 ((ii : Nat) : Int)) ∧ wx.cell? ⟨w.heap.size + 1, 4, none⟩ = some (.int .i64 ((jj : Nat) : Int)) ∧ wx.cell? ⟨bp, op + ii, none⟩ = some (.slice AI NI cI) ∧ wx.cell? ⟨bq, oq + jj, none⟩ = some (.slice AJ NJ cJ)) (by kernel_rfl) (HSX.out w5 FB_0.out) (fun hHeld => ?_)
    obtain ⟨wq1, hwq1⟩ : ∃ w', w' = w5.drew := ⟨_, rfl⟩
    rw [← hwq1] at hHeld ⊢
    have bq1 : Below w5.heap.size w5 wq1 := by rw [hwq1]; exact (Below.refl _ _).drew
    clear hwq1
    have FB_q2 := Lib.hid ((FB_0.out).trans ((bq1).mono (FB_0.out).size))
    have FQ_q3 := Lib.hid ((FQ_0.out).trans ((bq1).mono (FQ_0.out).size))
    have FO_q4 := Lib.hid (own_below (FO_0.out) (bq1) (Nat.le_refl _))
    clear FB_0 FQ_0 FO_0
    refine tk (i := 0) (h := ?_)
    (try simp only [Act.put, setIfInBounds_toArray, set_cons_zero, set_cons_succ])
    refine tk (i := 1) (h := ?_)
    (try simp only [Act.put, setIfInBounds_toArray, set_cons_zero, set_cons_succ])
    refine tk (i := 2) (h := ?_)
    (try simp only [Act.put, setIfInBounds_toArray, set_cons_zero, set_cons_succ])
    refine tk (i := 6) (h := ?_)
    (try simp only [Act.put, setIfInBounds_toArray, set_cons_zero, set_cons_succ])
    refine tk (i := 7) (h := ?_)
    (try simp only [Act.put, setIfInBounds_toArray, set_cons_zero, set_cons_succ])
    refine tk (i := 3) (h := ?_)
    (try simp only [Act.put, setIfInBounds_toArray, set_cons_zero, set_cons_succ])
    refine tk (i := 8) (h := ?_)
    (try simp only [Act.put, setIfInBounds_toArray, set_cons_zero, set_cons_succ])
    refine tk (i := 4) (h := ?_)
    (try simp only [Act.put, setIfInBounds_toArray, set_cons_zero, set_cons_succ])
    refine tk (i := 9) (h := ?_)
    (try simp only [Act.put, setIfInBounds_toArray, set_cons_zero, set_cons_succ])
    refine tk (i := 5) (h := ?_)
    (try simp only [Act.put, setIfInBounds_toArray, set_cons_zero, set_cons_succ])
    refine tk (i := 10) (h := ?_)
    (try simp only [Act.put, setIfInBounds_toArray, set_cons_zero, set_cons_succ])
    refine t1 (i := 11) (h := fun K hK => ?_)
    go_simp
    obtain ⟨wq16, hwq16⟩ : ∃ w', w' = wq1.alloc (.cells #[Value.slice AI NI cI, Value.slice AJ NJ cJ] 36) := ⟨_, rfl⟩
    rw [← hwq16]
    have bq16 := al hwq16
    have gq16 := an hwq16
    clear hwq16
    have FB_q17 := Lib.hid ((FB_q2.out).trans ((bq16).mono (FB_q2.out).size))
    have FQ_q18 := Lib.hid ((FQ_q3.out).trans ((bq16).mono (FQ_q3.out).size))
    have FO_q19 := Lib.hid (own_below (FO_q4.out) (bq16) (Nat.le_refl _))
    clear FB_q2 FQ_q3 FO_q4
    obtain ⟨ggq20, hgq20⟩ : ∃ b, wq1.heap.size = b := ⟨_, rfl⟩
    have FG_q20 := Lib.hid gq16
    rw [hgq20] at FG_q20 ⊢
    clear hgq20 gq16 bq16
    refine hK.out _ _ (HSX.out _ FB_q17.out) (fun hHeld => ?_)
    clear hK K
    (try simp only [Act.put, setIfInBounds_toArray, set_cons_zero, set_cons_succ])
    refine t1 (i := 12) (h := fun K hK => ?_)
    go_simp
    have KOq21 := Lib.hid FO_q19.out
    refine (HFO.out wq16 ggq20 FB_q17.out FG_q20.out).mono ?_
    rintro e wq21 ⟨AX, cX, rfl, oq21, belq21⟩
    dsimp only
    have FB_q22 := Lib.hid ((FB_q17.out).trans ((belq21).mono (FB_q17.out).size))
    have FQ_q23 := Lib.hid ((FQ_q18.out).trans ((belq21).mono (FQ_q18.out).size))
    have FO_q24 := Lib.hid (own_below (FO_q19.out) (belq21) (Nat.le_refl _))
    have FG_q25 := Lib.hid (((belq21).block _ (Array.getElem?_eq_some_iff.1 (FG_q20.out)).1).trans (FG_q20.out))
    clear FB_q17 FQ_q18 FO_q19 FG_q20
    have FX_q21 := Lib.hid (RdI.of_own oq21); have KCq21 := Lib.hid (own_cap oq21).1; have NEq21 := Lib.hid (own_ord KOq21.out oq21 (Nat.le_refl _))
    clear oq21 belq21 KOq21
    refine hK.out _ _ (HSX.out _ FB_q22.out) (fun hHeld => ?_)
    clear hK K
    (try simp only [Act.put, setIfInBounds_toArray, set_cons_zero, set_cons_succ])
    refine t1 (i := 13) (h := fun K hK => ?_)
    go_simp
    obtain ⟨wq26, hwq26⟩ : ∃ w', w' = wq21.alloc (.cells #[Value.slice AX X.length cX] 36) := ⟨_, rfl⟩
    rw [← hwq26]
    have bq26 := al hwq26
    have gq26 := an hwq26
    clear hwq26
    have FB_q27 := Lib.hid ((FB_q22.out).trans ((bq26).mono (FB_q22.out).size))
    have FQ_q28 := Lib.hid ((FQ_q23.out).trans ((bq26).mono (FQ_q23.out).size))
    have FO_q29 := Lib.hid (own_below (FO_q24.out) (bq26) (Nat.le_refl _))
    have FG_q30 := Lib.hid (((bq26).block _ (Array.getElem?_eq_some_iff.1 (FG_q25.out)).1).trans (FG_q25.out))
    have FX_q31 := Lib.hid (((FX_q21.out).below (bq26)).more (bq26).size)
    clear FB_q22 FQ_q23 FO_q24 FG_q25 FX_q21
    obtain ⟨gnq32, hgq32⟩ : ∃ b, wq21.heap.size = b := ⟨_, rfl⟩
    have FN_q32 := Lib.hid gq26
    rw [hgq32] at FN_q32 ⊢
    clear hgq32 gq26 bq26
    refine hK.out _ _ (HSX.out _ FB_q27.out) (fun hHeld => ?_)
    clear hK K
    (try simp only [Act.put, setIfInBounds_toArray, set_cons_zero, set_cons_succ])
    refine t1 (i := 14) (h := fun K hK => ?_)
    refine step_append_o rfl _ _ 23 rfl w1.heap.size 36 i0 (.slice none 0 0) 1 24 Tryz.underlying23 HI.out HZ0.out HZ1.out HZ2.out rfl (by decide) _ _ _ rfl FO_q29.out ⟨gnq32, 0, none⟩ 1 1 [.slice AX X.length cX] rfl rfl (World.news_of_block FN_q32.out) (by simp [Value.oneCell']) (by have := HR19.out; unfold maxLen; omega) (by have := HR19.out; omega) FQ_q28.out.size ?_
    intro v7 wq33 hown7 hgrow7 _
    obtain ⟨A7, c7, rfl, bq33, oq33, rq33⟩ := rule_out HB1.out FQ_q28.out rfl FO_q29.out KR1.out FX_q31.out NEq21.out KCq21.out hown7 hgrow7
    have FB_q33 := Lib.hid bq33; have FO_q33 := Lib.hid oq33; have KRq33 := Lib.hid rq33
    clear bq33 oq33 rq33 hown7 hgrow7
    refine hK.out _ _ (HSX.out _ FB_q33.out) (fun hHeld => ?_)
    clear hK K
    (try simp only [Act.put, setIfInBounds_toArray, set_cons_zero, set_cons_succ])
    refine t1 (i := 15) (h := fun K hK => ?_)
    go_simp
    refine hK.out _ _ hHeld (fun hHeld => ?_)
    clear hK K
    (try simp only [Act.put, setIfInBounds_toArray, set_cons_zero, set_cons_succ])
    refine t1 (i := 16) (h := fun K hK => ?_)
    go_simp
    refine hK.out _ _ hHeld (fun hHeld => ?_)
    clear hK K
    (try simp only [Act.put, setIfInBounds_toArray, set_cons_zero, set_cons_succ])
    refine wpAnyH_done (by kernel_rfl) ?_ _
    go_wp2
    go_ret2
    rw [HN.out]
    exact ⟨HBU.out.trans (FB_q33.out.mono HBU.out.size), A7, c7, _, by rw [show (R1 ++ [X]).length = R1.length + 1 by simp]; rfl, own_base FO_q33.out HBU.out.size, KRq33.out⟩
  · have hd : decide (R1 = R2) = false := decide_eq_false hm
    have HN := Lib.hid (HCR.out.trans (if_neg hm))
    rw [hd]
    clear hm hd
    go_wp2
    go_ret2
    rw [HN.out]
    exact ⟨HBU.out.trans (FB_0.out.mono HBU.out.size), 6, by decide, rfl⟩
end
section
open Go.ChangeAt Go.ChangeShapes Go.RowKit Go.WideShapes
open List (setIfInBounds_toArray set_cons_zero set_cons_succ getElem_toArray getElem_cons_succ getElem_cons_zero)

theorem lit2_own (w : World) (v0 v1 : Value) : (w.alloc (.cells #[v0, v1] 36)).ownsRow w.heap.size 36 1 (.slice (some ⟨w.heap.size, 0, none⟩) 2 2) 2 [v0, v1] :=
  ⟨rfl, .inr ⟨w.heap.size, 2, #[v0, v1], rfl, Nat.le_refl _, heap_alloc_new _ _, Nat.le_refl _, by decide, rfl, rfl⟩⟩
theorem lit1_own (w : World) (v0 : Value) : (w.alloc (.cells #[v0] 36)).ownsRow w.heap.size 36 1 (.slice (some ⟨w.heap.size, 0, none⟩) 1 1) 1 [v0] :=
  ⟨rfl, .inr ⟨w.heap.size, 1, #[v0], rfl, Nat.le_refl _, heap_alloc_new _ _, Nat.le_refl _, by decide, rfl, rfl⟩⟩
set_option linter.unusedSimpArgs false in
set_option maxRecDepth 100000 in
set_option maxHeartbeats 8000000 in
theorem ax_any (x y z : Bool) (r a b i j : Int) (B : Option Addr) (m d : Nat) (F : List Int) (w : World) (hf : RdI w w.heap.size B m F) (hmd : m ≤ d) (ht : Arit w) (hu : Dual w) :
    Calls Tryz.prog 100 #[.agg #[.bool x, .bool y, .bool z], Value.agg #[Value.int .i64 r, Value.int .i64 a, Value.int .i64 b, Value.int .i64 i, Value.int .i64 j, Value.slice B m d]] w (GivesV w [F, dualL F]) := by
  have hl := hf.len
  subst hl
  obtain ⟨u, hu0⟩ : ∃ u, u = (w.alloc (.cells #[Value.bool x, Value.bool y, Value.bool z] 92)).alloc (.cells #[Value.int .i64 r, Value.int .i64 a, Value.int .i64 b, Value.int .i64 i, Value.int .i64 j, Value.slice B F.length d] 43) := ⟨_, rfl⟩
  obtain ⟨hb, p0, p1, hsz⟩ := two_any w (.cells #[Value.bool x, Value.bool y, Value.bool z] 92) (.cells #[Value.int .i64 r, Value.int .i64 a, Value.int .i64 b, Value.int .i64 i, Value.int .i64 j, Value.slice B F.length d] 43)
  rw [← hu0] at hb p0 p1 hsz
  have HU0 := Lib.hid hu0; have HBU := Lib.hid hb; have HRF := Lib.hid ((hf.below hb).more hb.size)
  have HSX : Hid (∀ wx, Below u.heap.size u wx → wx.cell? ⟨w.heap.size + 1, 5, none⟩ = some (.slice B F.length d)) := Lib.hid fun wx hx => cell_of_row _ _ 5 _ _ (0, 0) ((hx.block (w.heap.size + 1) (by omega)).trans p1)
  have K0 := Lib.hid (HSX.out u (Below.refl _ _))
  have hdu := fun (wx : World) (hx : Below u.heap.size u wx) => dualOf_impl B F.length d F wx ((HRF.out.below hx).more hx.size) (ht.below (HBU.out.trans (hx.mono HBU.out.size)) ht.lt) (hu.below (HBU.out.trans (hx.mono HBU.out.size)) hu.lt) hmd
  obtain ⟨D, hD⟩ : ∃ D, dualL F = D := ⟨_, rfl⟩
  rw [hD] at hdu ⊢
  have HDU := Lib.hid hdu
  clear hu0 hb p0 p1 hsz hf hdu hD ht hu
  go_enter Tryz.func100, Tryz.ntmps100
  go_upto_region 1 with (fail)
  rw [← HU0.out]
  have FB_0 := Lib.hid (Below.refl u.heap.size u)
  refine wp_region_held_drew (S := fun wx => wx.cell? ⟨w.heap.size + 1, 5, none⟩ = some (.slice B F.length d)) (by kernel_rfl) K0.out (fun hHeld => ?_)
  obtain ⟨wq1, hwq1⟩ : ∃ w', w' = u.drew := ⟨_, rfl⟩
  rw [← hwq1] at hHeld ⊢
  have bq1 : Below u.heap.size u wq1 := by rw [hwq1]; exact (Below.refl _ _).drew
  clear hwq1
  have FB_q2 := Lib.hid ((FB_0.out).trans ((bq1).mono (FB_0.out).size))
  clear FB_0
  refine tk (i := 0) (h := ?_)
  (try simp only [Act.put, setIfInBounds_toArray, set_cons_zero, set_cons_succ])
  refine tk (i := 2) (h := ?_)
  (try simp only [Act.put, setIfInBounds_toArray, set_cons_zero, set_cons_succ])
  refine tk (i := 1) (h := ?_)
  (try simp only [Act.put, setIfInBounds_toArray, set_cons_zero, set_cons_succ])
  refine tk (i := 3) (h := ?_)
  (try simp only [Act.put, setIfInBounds_toArray, set_cons_zero, set_cons_succ])
  refine t1 (i := 4) (h := fun K hK => ?_)
  go_simp
  refine (HDU.out wq1 FB_q2.out).mono ?_
  rintro e wq7 ⟨AD, cD, rfl, oq7, belq7⟩
  dsimp only
  have FB_q8 := Lib.hid ((FB_q2.out).trans ((belq7).mono (FB_q2.out).size))
  clear FB_q2
  have FD_q7 := Lib.hid (RdI.of_own oq7); have KCq7 := Lib.hid (own_cap oq7).1
  clear oq7 belq7
  refine hK.out _ _ (HSX.out _ FB_q8.out) (fun hHeld => ?_)
  clear hK K
  (try simp only [Act.put, setIfInBounds_toArray, set_cons_zero, set_cons_succ])
  refine t1 (i := 5) (h := fun K hK => ?_)
  go_simp
  obtain ⟨wq9, hwq9⟩ : ∃ w', w' = wq7.alloc (.cells #[Value.slice B F.length d, Value.slice AD D.length cD] 36) := ⟨_, rfl⟩
  rw [← hwq9]
  have bq9 := al hwq9
  have FO_q9 := Lib.hid (show wq9.ownsRow wq7.heap.size 36 1 (.slice (some ⟨wq7.heap.size, 0, none⟩) 2 2) 2 [Value.slice B F.length d, Value.slice AD D.length cD] by rw [hwq9]; exact lit2_own _ _ _)
  have HWN := Lib.hid (FB_q8.out.size)
  clear hwq9
  have FB_q10 := Lib.hid ((FB_q8.out).trans ((bq9).mono (FB_q8.out).size))
  have FD_q11 := Lib.hid (((FD_q7.out).below (bq9)).more (bq9).size)
  clear FB_q8 FD_q7
  refine hK.out _ _ (HSX.out _ FB_q10.out) (fun hHeld => ?_)
  clear hK K
  (try simp only [Act.put, setIfInBounds_toArray, set_cons_zero, set_cons_succ])
  refine t1 (i := 6) (h := fun K hK => ?_)
  go_simp
  refine hK.out _ _ hHeld (fun hHeld => ?_)
  clear hK K
  (try simp only [Act.put, setIfInBounds_toArray, set_cons_zero, set_cons_succ])
  refine wpAnyH_done (by kernel_rfl) ?_ _
  go_wp2
  go_ret
  exact ⟨_, _, [Value.slice B F.length d, Value.slice AD D.length cD], rfl, own_base FO_q9.out (Nat.le_trans HBU.out.size HWN.out), RdV.app (RdV.single ((HRF.out.below FB_q10.out).more FB_q10.out.size) hmd) (RdV.single FD_q11.out KCq7.out), HBU.out.trans (FB_q10.out.mono HBU.out.size)⟩

set_option maxRecDepth 100000 in
set_option maxHeartbeats 4000000 in
theorem one_any (x y z : Bool) (r a b i j : Int) (B : Option Addr) (m d : Nat) (w : World) :
    Calls Tryz.prog 113 #[.agg #[.bool x, .bool y, .bool z], Value.agg #[Value.int .i64 r, Value.int .i64 a, Value.int .i64 b, Value.int .i64 i, Value.int .i64 j, Value.slice B m d]] w (GivesV w [[13]]) := by
  obtain ⟨u, hu0⟩ : ∃ u, u = (w.alloc (.cells #[Value.bool x, Value.bool y, Value.bool z] 96)).alloc (.cells #[Value.int .i64 r, Value.int .i64 a, Value.int .i64 b, Value.int .i64 i, Value.int .i64 j, Value.slice B m d] 43) := ⟨_, rfl⟩
  obtain ⟨hb, _, _, _⟩ := two_any w (.cells #[Value.bool x, Value.bool y, Value.bool z] 96) (.cells #[Value.int .i64 r, Value.int .i64 a, Value.int .i64 b, Value.int .i64 i, Value.int .i64 j, Value.slice B m d] 43)
  rw [← hu0] at hb
  obtain ⟨X, hX⟩ : ∃ X, ([13] : List Int) = X := ⟨_, rfl⟩
  have hfo := fun (wx : World) => formOf_nil 13 wx
  rw [hX] at hfo ⊢
  have HU0 := Lib.hid hu0; have HBU := Lib.hid hb; have HFO := Lib.hid hfo
  clear hu0 hb hfo hX
  go_enter Tryz.func113, Tryz.ntmps113
  go_upto_region 1 with (fail)
  rw [← HU0.out]
  go_wp2_with (fail)
  refine (HFO.out u).mono ?_
  rintro e w2 ⟨AX, cX, rfl, o2, bel2⟩
  obtain ⟨w3, hw3⟩ : ∃ w3, w3 = w2.alloc (.cells #[Value.slice AX X.length cX] 36) := ⟨_, rfl⟩
  have b3 := al hw3
  have HO3 := Lib.hid (show w3.ownsRow w2.heap.size 36 1 (.slice (some ⟨w2.heap.size, 0, none⟩) 1 1) 1 [Value.slice AX X.length cX] by rw [hw3]; exact lit1_own _ _)
  have HX3 := Lib.hid (((RdI.of_own o2).below b3).more b3.size)
  have HC3 := Lib.hid (own_cap o2).1
  have HB2 := Lib.hid (HBU.out.trans (bel2.mono HBU.out.size))
  have HB3 := Lib.hid (HB2.out.trans (b3.mono HB2.out.size))
  have HW3 := Lib.hid hw3
  clear hw3 b3 o2 bel2
  go_wp2
  rw [← HW3.out]
  go_ret
  exact ⟨_, _, [Value.slice AX X.length cX], rfl, own_base HO3.out HB2.out.size, RdV.single HX3.out HC3.out, HB3.out⟩
end
end Go.Proofs.YthbkcpacgnmcfaaGreatDoor
