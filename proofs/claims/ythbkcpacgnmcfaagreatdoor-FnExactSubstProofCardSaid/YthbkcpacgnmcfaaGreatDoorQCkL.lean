/- The program's rule con; par and con at one place twice. Made by mkckl.py. Steps that came in, opened (FrameP, over a frame without the steps' words). -/
import Derived.Test.YthbkcpacgnmcfaaGreatDoorQRule
import Derived.Test.YthbkcpacgnmcfaaGreatDoorQJoinS
import Derived.Test.YthbkcpacgnmcfaaGreatDoorQCkO
import Derived.Deep.QuietTactic
import Derived.Test.YthbkcpacgnmcfaaGreatDoorQSubA
import Derived.Test.YthbkcpacgnmcfaaGreatDoorQMath
import Derived.Test.YthbkcpacgnmcfaaGreatDoorQSpD
import Derived.Lay
import Derived.Stop.Joined
import Derived.MakeChecks
import Derived.Deep.RegionWith
import Derived.Deep.DeepCutAuto
import Derived.Test.YthbkcpacgnmcfaaGreatDoorQStepRow
import Derived.Deep.Slices
namespace Go.Proofs.YthbkcpacgnmcfaaGreatDoor
set_option linter.unusedSimpArgs false
set_option linter.unusedVariables false
section
open Go.ChangeAt Go.ChangeShapes Go.RowKit Go.WideShapes
open List (setIfInBounds_toArray set_cons_zero set_cons_succ getElem_toArray getElem_cons_succ getElem_cons_zero)

def conR (P : List (List Int)) (ii jj : Nat) : Option (List (List Int)) := if ii = jj then none else if P.getD ii [] = P.getD jj [] ∧ opOf (P.getD ii []) = 18 then some (woL P [((ii : Nat) : Int), ((jj : Nat) : Int)] ++ [P.getD ii []]) else none
theorem rd_ord {w w2 : World} {A : Option Addr} {n c base n2 : Nat} {X : List Int} {v2 : Value} {vs : List Value} {t : TypeId} (h : RdI w w.heap.size A n X) (hp : 0 < n) (own : w2.ownsRow base t 1 v2 n2 vs) (hb : w.heap.size ≤ base) : (Value.slice A n c).ownBlock = none ∨ (Value.slice A n c).ownBlock ≠ v2.ownBlock := by
  obtain ⟨b, off, rfl, hbb, _⟩ := h.2 hp
  right
  intro e
  have := (own.lt b e.symm).1
  omega
set_option linter.unusedSimpArgs false in
set_option maxRecDepth 100000 in
set_option maxHeartbeats 8000000 in
theorem con_any (x y z : Bool) (r a b : Int) (ii jj : Nat) (A : Option Addr) (n c : Nat) (P : List (List Int)) (B : Option Addr) (m d : Nat) (w : World) (h : RdQ w w.heap.size A n P) (hn : n ≤ 10) (hq : ∀ q ∈ P, 0 < q.length ∧ q.length ≤ 24) (hii : ii < n) (hjj : jj < n) (hij : ¬ ii = jj) (ht : Arit w) :
    Calls Tryz.prog 123 #[.agg #[.bool x, .bool y, .bool z], .slice A n c, Value.agg #[Value.int .i64 r, Value.int .i64 a, Value.int .i64 b, Value.int .i64 ((ii : Nat) : Int), Value.int .i64 ((jj : Nat) : Int), Value.slice B m d]] w (GivesD w (conR P ii jj)) := by
  obtain ⟨i0, hi0, hz0, hz1, hz2⟩ := info_parts_s
  have HI := Lib.hid hi0; have HZ0 := Lib.hid hz0; have HZ1 := Lib.hid hz1; have HZ2 := Lib.hid hz2
  have hl := h.len
  subst hl
  obtain ⟨u, hu0⟩ : ∃ u, u = (w.alloc (.cells #[Value.bool x, Value.bool y, Value.bool z] 104)).alloc (.cells #[Value.int .i64 r, Value.int .i64 a, Value.int .i64 b, Value.int .i64 ((ii : Nat) : Int), Value.int .i64 ((jj : Nat) : Int), Value.slice B m d] 43) := ⟨_, rfl⟩
  obtain ⟨hb, p0, p1, hsz⟩ := two_any w (.cells #[Value.bool x, Value.bool y, Value.bool z] 104) (.cells #[Value.int .i64 r, Value.int .i64 a, Value.int .i64 b, Value.int .i64 ((ii : Nat) : Int), Value.int .i64 ((jj : Nat) : Int), Value.slice B m d] 43)
  rw [← hu0] at hb p0 p1 hsz
  have HU0 := Lib.hid hu0; have HBU := Lib.hid hb; have HP := Lib.hid ((h.below hb).more hb.size)
  obtain ⟨bp, op, rfl, hbp, hcp⟩ := h.2 (by omega)
  obtain ⟨AI, cI, kI, mI, rI⟩ := hcp ii (by omega)
  have HRI := Lib.hid ((rI.below hb).more hb.size)
  have hlI : 0 < (P.getD ii []).length ∧ (P.getD ii []).length ≤ 24 := hq _ (getD_mem (by omega))
  obtain ⟨AJ, cJ, kJ, mJ, rJ⟩ := hcp jj (by omega)
  have HRJ := Lib.hid ((rJ.below hb).more hb.size)
  have hlJ : 0 < (P.getD jj []).length ∧ (P.getD jj []).length ≤ 24 := hq _ (getD_mem (by omega))
  have HSX : Hid (∀ wx, Below u.heap.size u wx → wx.cell? ⟨w.heap.size + 1, 3, none⟩ = some (.int .i64 ((ii : Nat) : Int)) ∧ wx.cell? ⟨w.heap.size + 1, 4, none⟩ = some (.int .i64 ((jj : Nat) : Int)) ∧ wx.cell? ⟨bp, op + ii, none⟩ = some (.slice AI (P.getD ii []).length cI) ∧ wx.cell? ⟨bp, op + jj, none⟩ = some (.slice AJ (P.getD jj []).length cJ)) := Lib.hid fun wx hx => by
    have q := (hx.block (w.heap.size + 1) (by omega)).trans p1
    exact ⟨cell_of_row _ _ 3 _ _ (0, 0) q, cell_of_row _ _ 4 _ _ (0, 0) q, ((hb.trans (hx.mono hb.size)).cell (p := ⟨bp, op + ii, none⟩) hbp).trans kI, ((hb.trans (hx.mono hb.size)).cell (p := ⟨bp, op + jj, none⟩) hbp).trans kJ⟩
  have hwo := fun (wx : World) (g : Nat) (hx : Below u.heap.size u wx) (hg : wx.heap[g]? = some (.cells #[Value.int .i64 ((ii : Nat) : Int), Value.int .i64 ((jj : Nat) : Int)] 2 (0, 0))) => without_any (some ⟨bp, op, none⟩) P.length c P (some ⟨g, 0, none⟩) 2 2 [((ii : Nat) : Int), ((jj : Nat) : Int)] wx ((HP.out.below hx).more hx.size) (rd_lit2 hg) (by omega) (by omega)
  obtain ⟨R, hR⟩ : ∃ R, woL P [((ii : Nat) : Int), ((jj : Nat) : Int)] = R := ⟨_, rfl⟩
  have hR9 : R.length ≤ 10 := by rw [← hR]; exact Nat.le_trans (woK_len _ _ _) hn
  rw [hR] at hwo
  have HWO := Lib.hid hwo; have HR9 := Lib.hid hR9
  have HEQ := Lib.hid (fun t : Nat => equal_d AI AJ (P.getD ii []).length (P.getD jj []).length cI cJ (P.getD ii []) (P.getD jj []) (u.drewN t) _ _ ((HRI.out.below (below_drewN (Below.refl _ _) t))) ((HRJ.out.below (below_drewN (Below.refl _ _) t))) (by omega) (by omega))
  unfold SameD at HEQ
  have HOP := Lib.hid (fun t : Nat => (operatorOf_impl AI (P.getD ii []).length cI (P.getD ii []) (u.drewN t) ((HRI.out.below (below_drewN (Below.refl _ _) t)).more (below_drewN (Below.refl u.heap.size u) t).size) (ht.below (HBU.out.trans (below_drewN (Below.refl _ _) t |>.mono HBU.out.size)) ht.lt) mI).mono fun _ _ ⟨he, hw⟩ => (⟨he, hw.symm⟩ : _ ∧ _))
  have hpI := hlI.1
  have hlt : conR P ii jj = if P.getD ii [] = P.getD jj [] ∧ opOf (P.getD ii []) = 18 then some (R ++ [P.getD ii []]) else none := by unfold conR; rw [if_neg hij, hR]
  have HLT := Lib.hid hlt
  have hai : ((ii : Nat) : Int) < (P.length : Int) := by omega
  have haj : ((jj : Nat) : Int) < (P.length : Int) := by omega
  have hne : (((ii : Nat) : Int) == ((jj : Nat) : Int)) = false := by simp; omega
  have HNX := Lib.hid (fun (w2 : World) (base n2 : Nat) (v2 : Value) (vs : List Value) (own : w2.ownsRow base 36 1 v2 n2 vs) (hbs : u.heap.size ≤ base) => rd_ord (c := cI) HRI.out hpI own hbs)
  clear hu0 hb p0 p1 hsz hwo hR hR9 h hcp kI kJ rI rJ hlI hlJ hq hi0 hz0 hz1 hz2 hlt ht hpI mJ hij
  obtain ⟨e3, e4, e5, e6⟩ := HSX.out u (Below.refl _ _)
  obtain ⟨PI, hPI⟩ : ∃ p, P.getD ii [] = p := ⟨_, rfl⟩
  obtain ⟨PJ, hPJ⟩ : ∃ p, P.getD jj [] = p := ⟨_, rfl⟩
  rw [hPI] at HSX HRI HEQ HOP HLT HNX mI e5
  rw [hPJ] at HSX HRJ HEQ HLT e6
  clear hPI hPJ
  by_cases hE : PI = PJ
  · by_cases hO : opOf PI = 18
    · rw [if_pos ⟨hE, hO⟩] at HLT
      have hd : decide (PI = PJ) = true := decide_eq_true hE
      have ho : (opOf PI != 18) = false := by rw [hO]; rfl
      simp only [hd] at HEQ
      clear hE hO
      go_enter Tryz.func123, Tryz.ntmps123
      go_upto_region 1 with (fail)
      rw [← HU0.out]
      go_upto_region 3 with (fail)
      go_quiet (first | (go_at_call 102; refine Calls.quiet_of (HEQ.out _)) | (go_at_call 120; refine Calls.quiet_of_same (HOP.out _)))
      have bq := below_drewN (Below.refl u.heap.size u) nq
      obtain ⟨w1, hw1⟩ : ∃ w1, w1 = u.drewN nq := ⟨_, rfl⟩
      rw [← hw1] at bq ⊢
      have FB_0 := Lib.hid bq
      clear bq hw1 e3 e4 e5 e6
      go_upto_region 5 with (fail)
      refine wp_region_held_drew (S := fun wx => wx.cell? ⟨w.heap.size + 1, 3, none⟩ = some (.int .i64 ((ii : Nat) : Int)) ∧ wx.cell? ⟨w.heap.size + 1, 4, none⟩ = some (.int .i64 ((jj : Nat) : Int)) ∧ wx.cell? ⟨bp, op + ii, none⟩ = some (.slice AI PI.length cI) ∧ wx.cell? ⟨bp, op + jj, none⟩ = some (.slice AJ PJ.length cJ)) (by kernel_rfl) (HSX.out w1 FB_0.out) (fun hHeld => ?_)
      obtain ⟨wq1, hwq1⟩ : ∃ w', w' = w1.drew := ⟨_, rfl⟩
      rw [← hwq1] at hHeld ⊢
      have bq1 : Below w1.heap.size w1 wq1 := by rw [hwq1]; exact (Below.refl _ _).drew
      clear hwq1
      have FB_q2 := Lib.hid ((FB_0.out).trans ((bq1).mono (FB_0.out).size))
      clear FB_0
      refine tk (i := 0) (h := ?_)
      (try simp only [Act.put, setIfInBounds_toArray, set_cons_zero, set_cons_succ])
      refine tk (i := 1) (h := ?_)
      (try simp only [Act.put, setIfInBounds_toArray, set_cons_zero, set_cons_succ])
      refine tk (i := 3) (h := ?_)
      (try simp only [Act.put, setIfInBounds_toArray, set_cons_zero, set_cons_succ])
      refine tk (i := 7) (h := ?_)
      (try simp only [Act.put, setIfInBounds_toArray, set_cons_zero, set_cons_succ])
      refine tk (i := 8) (h := ?_)
      (try simp only [Act.put, setIfInBounds_toArray, set_cons_zero, set_cons_succ])
      refine tk (i := 2) (h := ?_)
      (try simp only [Act.put, setIfInBounds_toArray, set_cons_zero, set_cons_succ])
      refine tk (i := 4) (h := ?_)
      (try simp only [Act.put, setIfInBounds_toArray, set_cons_zero, set_cons_succ])
      refine tk (i := 9) (h := ?_)
      (try simp only [Act.put, setIfInBounds_toArray, set_cons_zero, set_cons_succ])
      refine tk (i := 10) (h := ?_)
      (try simp only [Act.put, setIfInBounds_toArray, set_cons_zero, set_cons_succ])
      refine tk (i := 11) (h := ?_)
      (try simp only [Act.put, setIfInBounds_toArray, set_cons_zero, set_cons_succ])
      refine wpAnyH_ready (rs := [5, 12]) (by kernel_rfl) (by simp) ?_
      refine AllReadyH.cons rfl (fun K hK => ?_) ?_
      · go_simp
        obtain ⟨wq13, hwq13⟩ : ∃ w', w' = wq1.alloc (.cells #[Value.int .i64 ((ii : Nat) : Int), Value.int .i64 ((jj : Nat) : Int)] 2) := ⟨_, rfl⟩
        rw [← hwq13]
        have bq13 := al hwq13
        have gq13 := an hwq13
        clear hwq13
        have FB_q14 := Lib.hid ((FB_q2.out).trans ((bq13).mono (FB_q2.out).size))
        clear FB_q2
        obtain ⟨glq15, hgq15⟩ : ∃ b, wq1.heap.size = b := ⟨_, rfl⟩
        have FL_q15 := Lib.hid gq13
        rw [hgq15] at FL_q15 ⊢
        clear hgq15 gq13 bq13
        refine hK.out _ _ (HSX.out _ FB_q14.out) (fun hHeld => ?_)
        clear hK K
        (try simp only [Act.put, setIfInBounds_toArray, set_cons_zero, set_cons_succ])
        refine wpAnyH_ready (rs := [6, 12]) (by kernel_rfl) (by simp) ?_
        refine AllReadyH.cons rfl (fun K hK => ?_) ?_
        · go_simp
          have KBq16 := Lib.hid FB_q14.out
          refine (HWO.out wq13 glq15 FB_q14.out FL_q15.out).mono ?_
          rintro e wq16 ⟨A4, c4, vs4, rfl, oq16, rq16, belq16⟩
          dsimp only
          have FB_q17 := Lib.hid ((FB_q14.out).trans ((belq16).mono (FB_q14.out).size))
          have FL_q18 := Lib.hid (((belq16).block _ (Array.getElem?_eq_some_iff.1 (FL_q15.out)).1).trans (FL_q15.out))
          clear FB_q14 FL_q15
          have FQ_q16 := Lib.hid belq16; have FO_q16 := Lib.hid oq16; have KRq16 := Lib.hid rq16
          clear oq16 rq16 belq16
          refine hK.out _ _ (HSX.out _ FB_q17.out) (fun hHeld => ?_)
          clear hK K
          (try simp only [Act.put, setIfInBounds_toArray, set_cons_zero, set_cons_succ])
          refine t1 (i := 12) (h := fun K hK => ?_)
          go_simp
          obtain ⟨wq19, hwq19⟩ : ∃ w', w' = wq16.alloc (.cells #[Value.slice AI PI.length cI] 36) := ⟨_, rfl⟩
          rw [← hwq19]
          have bq19 := al hwq19
          have gq19 := an hwq19
          clear hwq19
          have FB_q20 := Lib.hid ((FB_q17.out).trans ((bq19).mono (FB_q17.out).size))
          have FL_q21 := Lib.hid (((bq19).block _ (Array.getElem?_eq_some_iff.1 (FL_q18.out)).1).trans (FL_q18.out))
          have FQ_q22 := Lib.hid ((FQ_q16.out).trans ((bq19).mono (FQ_q16.out).size))
          have FO_q23 := Lib.hid (own_below (FO_q16.out) (bq19) (Nat.le_refl _))
          clear FB_q17 FL_q18 FQ_q16 FO_q16
          obtain ⟨gnq24, hgq24⟩ : ∃ b, wq16.heap.size = b := ⟨_, rfl⟩
          have FN_q24 := Lib.hid gq19
          rw [hgq24] at FN_q24 ⊢
          clear hgq24 gq19 bq19
          refine hK.out _ _ (HSX.out _ FB_q20.out) (fun hHeld => ?_)
          clear hK K
          (try simp only [Act.put, setIfInBounds_toArray, set_cons_zero, set_cons_succ])
          refine t1 (i := 13) (h := fun K hK => ?_)
          refine step_append_o rfl _ _ 23 rfl wq13.heap.size 36 i0 (.slice none 0 0) 1 24 Tryz.underlying23 HI.out HZ0.out HZ1.out HZ2.out rfl (by decide) _ _ _ rfl FO_q23.out ⟨gnq24, 0, none⟩ 1 1 [.slice AI PI.length cI] rfl rfl (World.news_of_block FN_q24.out) (by simp [Value.oneCell']) (by have := HR9.out; unfold maxLen; omega) (by have := HR9.out; omega) FQ_q22.out.size ?_
          intro v7 wq25 hown7 hgrow7 _
          obtain ⟨A7, c7, rfl, bq25, oq25, rq25⟩ := rule_out KBq16.out FQ_q22.out rfl FO_q23.out KRq16.out ((HRI.out.below FB_q20.out).more FB_q20.out.size) (HNX.out _ _ _ _ _ FO_q23.out KBq16.out.size) mI hown7 hgrow7
          have FB_q25 := Lib.hid bq25; have FO_q25 := Lib.hid oq25; have KRq25 := Lib.hid rq25
          clear bq25 oq25 rq25 hown7 hgrow7
          refine hK.out _ _ (HSX.out _ FB_q25.out) (fun hHeld => ?_)
          clear hK K
          (try simp only [Act.put, setIfInBounds_toArray, set_cons_zero, set_cons_succ])
          refine t1 (i := 14) (h := fun K hK => ?_)
          go_simp
          refine hK.out _ _ hHeld (fun hHeld => ?_)
          clear hK K
          (try simp only [Act.put, setIfInBounds_toArray, set_cons_zero, set_cons_succ])
          refine t1 (i := 15) (h := fun K hK => ?_)
          go_simp
          refine hK.out _ _ hHeld (fun hHeld => ?_)
          clear hK K
          (try simp only [Act.put, setIfInBounds_toArray, set_cons_zero, set_cons_succ])
          refine wpAnyH_done (by kernel_rfl) ?_ _
          go_wp2
          go_ret2
          rw [HLT.out]
          exact ⟨HBU.out.trans (FB_q25.out.mono HBU.out.size), A7, c7, _, by rw [show (R ++ [PI]).length = R.length + 1 by simp]; rfl, own_base FO_q25.out HBU.out.size, KRq25.out⟩
        refine AllReadyH.cons rfl (fun K hK => ?_) ?_
        · go_simp
          obtain ⟨wq26, hwq26⟩ : ∃ w', w' = wq13.alloc (.cells #[Value.slice AI PI.length cI] 36) := ⟨_, rfl⟩
          rw [← hwq26]
          have bq26 := al hwq26
          have gq26 := an hwq26
          clear hwq26
          have FB_q27 := Lib.hid ((FB_q14.out).trans ((bq26).mono (FB_q14.out).size))
          have FL_q28 := Lib.hid (((bq26).block _ (Array.getElem?_eq_some_iff.1 (FL_q15.out)).1).trans (FL_q15.out))
          clear FB_q14 FL_q15
          obtain ⟨gnq29, hgq29⟩ : ∃ b, wq13.heap.size = b := ⟨_, rfl⟩
          have FN_q29 := Lib.hid gq26
          rw [hgq29] at FN_q29 ⊢
          clear hgq29 gq26 bq26
          refine hK.out _ _ (HSX.out _ FB_q27.out) (fun hHeld => ?_)
          clear hK K
          (try simp only [Act.put, setIfInBounds_toArray, set_cons_zero, set_cons_succ])
          refine t1 (i := 6) (h := fun K hK => ?_)
          go_simp
          have KBq30 := Lib.hid FB_q27.out
          refine (HWO.out wq26 glq15 FB_q27.out FL_q28.out).mono ?_
          rintro e wq30 ⟨A4, c4, vs4, rfl, oq30, rq30, belq30⟩
          dsimp only
          have FB_q31 := Lib.hid ((FB_q27.out).trans ((belq30).mono (FB_q27.out).size))
          have FL_q32 := Lib.hid (((belq30).block _ (Array.getElem?_eq_some_iff.1 (FL_q28.out)).1).trans (FL_q28.out))
          have FN_q33 := Lib.hid (((belq30).block _ (Array.getElem?_eq_some_iff.1 (FN_q29.out)).1).trans (FN_q29.out))
          clear FB_q27 FL_q28 FN_q29
          have FQ_q30 := Lib.hid belq30; have FO_q30 := Lib.hid oq30; have KRq30 := Lib.hid rq30
          clear oq30 rq30 belq30
          refine hK.out _ _ (HSX.out _ FB_q31.out) (fun hHeld => ?_)
          clear hK K
          (try simp only [Act.put, setIfInBounds_toArray, set_cons_zero, set_cons_succ])
          refine t1 (i := 13) (h := fun K hK => ?_)
          refine step_append_o rfl _ _ 23 rfl wq26.heap.size 36 i0 (.slice none 0 0) 1 24 Tryz.underlying23 HI.out HZ0.out HZ1.out HZ2.out rfl (by decide) _ _ _ rfl FO_q30.out ⟨gnq29, 0, none⟩ 1 1 [.slice AI PI.length cI] rfl rfl (World.news_of_block FN_q33.out) (by simp [Value.oneCell']) (by have := HR9.out; unfold maxLen; omega) (by have := HR9.out; omega) FQ_q30.out.size ?_
          intro v7 wq34 hown7 hgrow7 _
          obtain ⟨A7, c7, rfl, bq34, oq34, rq34⟩ := rule_out KBq30.out FQ_q30.out rfl FO_q30.out KRq30.out ((HRI.out.below FB_q31.out).more FB_q31.out.size) (HNX.out _ _ _ _ _ FO_q30.out KBq30.out.size) mI hown7 hgrow7
          have FB_q34 := Lib.hid bq34; have FO_q34 := Lib.hid oq34; have KRq34 := Lib.hid rq34
          clear bq34 oq34 rq34 hown7 hgrow7
          refine hK.out _ _ (HSX.out _ FB_q34.out) (fun hHeld => ?_)
          clear hK K
          (try simp only [Act.put, setIfInBounds_toArray, set_cons_zero, set_cons_succ])
          refine t1 (i := 14) (h := fun K hK => ?_)
          go_simp
          refine hK.out _ _ hHeld (fun hHeld => ?_)
          clear hK K
          (try simp only [Act.put, setIfInBounds_toArray, set_cons_zero, set_cons_succ])
          refine t1 (i := 15) (h := fun K hK => ?_)
          go_simp
          refine hK.out _ _ hHeld (fun hHeld => ?_)
          clear hK K
          (try simp only [Act.put, setIfInBounds_toArray, set_cons_zero, set_cons_succ])
          refine wpAnyH_done (by kernel_rfl) ?_ _
          go_wp2
          go_ret2
          rw [HLT.out]
          exact ⟨HBU.out.trans (FB_q34.out.mono HBU.out.size), A7, c7, _, by rw [show (R ++ [PI]).length = R.length + 1 by simp]; rfl, own_base FO_q34.out HBU.out.size, KRq34.out⟩
        exact AllReadyH.nil
      refine AllReadyH.cons rfl (fun K hK => ?_) ?_
      · go_simp
        obtain ⟨wq35, hwq35⟩ : ∃ w', w' = wq1.alloc (.cells #[Value.slice AI PI.length cI] 36) := ⟨_, rfl⟩
        rw [← hwq35]
        have bq35 := al hwq35
        have gq35 := an hwq35
        clear hwq35
        have FB_q36 := Lib.hid ((FB_q2.out).trans ((bq35).mono (FB_q2.out).size))
        clear FB_q2
        obtain ⟨gnq37, hgq37⟩ : ∃ b, wq1.heap.size = b := ⟨_, rfl⟩
        have FN_q37 := Lib.hid gq35
        rw [hgq37] at FN_q37 ⊢
        clear hgq37 gq35 bq35
        refine hK.out _ _ (HSX.out _ FB_q36.out) (fun hHeld => ?_)
        clear hK K
        (try simp only [Act.put, setIfInBounds_toArray, set_cons_zero, set_cons_succ])
        refine t1 (i := 5) (h := fun K hK => ?_)
        go_simp
        obtain ⟨wq38, hwq38⟩ : ∃ w', w' = wq35.alloc (.cells #[Value.int .i64 ((ii : Nat) : Int), Value.int .i64 ((jj : Nat) : Int)] 2) := ⟨_, rfl⟩
        rw [← hwq38]
        have bq38 := al hwq38
        have gq38 := an hwq38
        clear hwq38
        have FB_q39 := Lib.hid ((FB_q36.out).trans ((bq38).mono (FB_q36.out).size))
        have FN_q40 := Lib.hid (((bq38).block _ (Array.getElem?_eq_some_iff.1 (FN_q37.out)).1).trans (FN_q37.out))
        clear FB_q36 FN_q37
        obtain ⟨glq41, hgq41⟩ : ∃ b, wq35.heap.size = b := ⟨_, rfl⟩
        have FL_q41 := Lib.hid gq38
        rw [hgq41] at FL_q41 ⊢
        clear hgq41 gq38 bq38
        refine hK.out _ _ (HSX.out _ FB_q39.out) (fun hHeld => ?_)
        clear hK K
        (try simp only [Act.put, setIfInBounds_toArray, set_cons_zero, set_cons_succ])
        refine t1 (i := 6) (h := fun K hK => ?_)
        go_simp
        have KBq42 := Lib.hid FB_q39.out
        refine (HWO.out wq38 glq41 FB_q39.out FL_q41.out).mono ?_
        rintro e wq42 ⟨A4, c4, vs4, rfl, oq42, rq42, belq42⟩
        dsimp only
        have FB_q43 := Lib.hid ((FB_q39.out).trans ((belq42).mono (FB_q39.out).size))
        have FN_q44 := Lib.hid (((belq42).block _ (Array.getElem?_eq_some_iff.1 (FN_q40.out)).1).trans (FN_q40.out))
        have FL_q45 := Lib.hid (((belq42).block _ (Array.getElem?_eq_some_iff.1 (FL_q41.out)).1).trans (FL_q41.out))
        clear FB_q39 FN_q40 FL_q41
        have FQ_q42 := Lib.hid belq42; have FO_q42 := Lib.hid oq42; have KRq42 := Lib.hid rq42
        clear oq42 rq42 belq42
        refine hK.out _ _ (HSX.out _ FB_q43.out) (fun hHeld => ?_)
        clear hK K
        (try simp only [Act.put, setIfInBounds_toArray, set_cons_zero, set_cons_succ])
        refine t1 (i := 13) (h := fun K hK => ?_)
        refine step_append_o rfl _ _ 23 rfl wq38.heap.size 36 i0 (.slice none 0 0) 1 24 Tryz.underlying23 HI.out HZ0.out HZ1.out HZ2.out rfl (by decide) _ _ _ rfl FO_q42.out ⟨gnq37, 0, none⟩ 1 1 [.slice AI PI.length cI] rfl rfl (World.news_of_block FN_q44.out) (by simp [Value.oneCell']) (by have := HR9.out; unfold maxLen; omega) (by have := HR9.out; omega) FQ_q42.out.size ?_
        intro v7 wq46 hown7 hgrow7 _
        obtain ⟨A7, c7, rfl, bq46, oq46, rq46⟩ := rule_out KBq42.out FQ_q42.out rfl FO_q42.out KRq42.out ((HRI.out.below FB_q43.out).more FB_q43.out.size) (HNX.out _ _ _ _ _ FO_q42.out KBq42.out.size) mI hown7 hgrow7
        have FB_q46 := Lib.hid bq46; have FO_q46 := Lib.hid oq46; have KRq46 := Lib.hid rq46
        clear bq46 oq46 rq46 hown7 hgrow7
        refine hK.out _ _ (HSX.out _ FB_q46.out) (fun hHeld => ?_)
        clear hK K
        (try simp only [Act.put, setIfInBounds_toArray, set_cons_zero, set_cons_succ])
        refine t1 (i := 14) (h := fun K hK => ?_)
        go_simp
        refine hK.out _ _ hHeld (fun hHeld => ?_)
        clear hK K
        (try simp only [Act.put, setIfInBounds_toArray, set_cons_zero, set_cons_succ])
        refine t1 (i := 15) (h := fun K hK => ?_)
        go_simp
        refine hK.out _ _ hHeld (fun hHeld => ?_)
        clear hK K
        (try simp only [Act.put, setIfInBounds_toArray, set_cons_zero, set_cons_succ])
        refine wpAnyH_done (by kernel_rfl) ?_ _
        go_wp2
        go_ret2
        rw [HLT.out]
        exact ⟨HBU.out.trans (FB_q46.out.mono HBU.out.size), A7, c7, _, by rw [show (R ++ [PI]).length = R.length + 1 by simp]; rfl, own_base FO_q46.out HBU.out.size, KRq46.out⟩
      exact AllReadyH.nil
    · rw [if_neg (fun hh => hO hh.2)] at HLT
      have hd : decide (PI = PJ) = true := decide_eq_true hE
      have ho : (opOf PI != 18) = true := by simpa using hO
      simp only [hd] at HEQ
      clear hE hO
      go_enter Tryz.func123, Tryz.ntmps123
      go_upto_region 1 with (fail)
      rw [← HU0.out]
      go_upto_region 3 with (fail)
      go_quiet (first | (go_at_call 102; refine Calls.quiet_of (HEQ.out _)) | (go_at_call 120; refine Calls.quiet_of_same (HOP.out _)))
      have bq := below_drewN (Below.refl u.heap.size u) nq
      obtain ⟨w1, hw1⟩ : ∃ w1, w1 = u.drewN nq := ⟨_, rfl⟩
      rw [← hw1] at bq ⊢
      have FB_0 := Lib.hid bq
      clear bq hw1 e3 e4 e5 e6
      go_wp2
      go_ret2
      rw [HLT.out]
      exact ⟨HBU.out.trans (FB_0.out.mono HBU.out.size), 5, by decide, rfl⟩
  · rw [if_neg (fun hh => hE hh.1)] at HLT
    have hd : decide (PI = PJ) = false := decide_eq_false hE
    simp only [hd] at HEQ
    clear hE
    go_enter Tryz.func123, Tryz.ntmps123
    go_upto_region 1 with (fail)
    rw [← HU0.out]
    go_upto_region 3 with (fail)
    go_quiet (first | (go_at_call 102; refine Calls.quiet_of (HEQ.out _)) | (go_at_call 120; refine Calls.quiet_of_same (HOP.out _)))
    have bq := below_drewN (Below.refl u.heap.size u) nq
    obtain ⟨w1, hw1⟩ : ∃ w1, w1 = u.drewN nq := ⟨_, rfl⟩
    rw [← hw1] at bq ⊢
    have FB_0 := Lib.hid bq
    clear bq hw1 e3 e4 e5 e6
    go_wp2
    go_ret2
    rw [HLT.out]
    exact ⟨HBU.out.trans (FB_0.out.mono HBU.out.size), 5, by decide, rfl⟩

set_option maxRecDepth 100000 in
set_option maxHeartbeats 1000000 in
/-- par at one place twice. -/
theorem par_same (x y z : Bool) (r a b i : Int) (v : Value) (B : Option Addr) (m d : Nat) (w : World) :
    Calls Tryz.prog 112 #[.agg #[.bool x, .bool y, .bool z], v, Value.agg #[Value.int .i64 r, Value.int .i64 a, Value.int .i64 b, Value.int .i64 i, Value.int .i64 i, Value.slice B m d]] w (GivesD w none) := by
  obtain ⟨u, hu0⟩ : ∃ u, u = (w.alloc (.cells #[Value.bool x, Value.bool y, Value.bool z] 95)).alloc (.cells #[Value.int .i64 r, Value.int .i64 a, Value.int .i64 b, Value.int .i64 i, Value.int .i64 i, Value.slice B m d] 43) := ⟨_, rfl⟩
  obtain ⟨hb, _, p1, _⟩ := two_any w (.cells #[Value.bool x, Value.bool y, Value.bool z] 95) (.cells #[Value.int .i64 r, Value.int .i64 a, Value.int .i64 b, Value.int .i64 i, Value.int .i64 i, Value.slice B m d] 43)
  rw [← hu0] at hb p1
  have k3 := cell_of_row _ _ 3 _ _ (0, 0) p1; have k4 := cell_of_row _ _ 4 _ _ (0, 0) p1
  have HU0 := Lib.hid hu0; have HBU := Lib.hid hb
  have he : (i == i) = true := by simp
  clear hu0 hb p1
  go_enter Tryz.func112, Tryz.ntmps112
  go_upto_region 1 with (fail)
  rw [← HU0.out]
  go_wp2
  go_ret2
  exact ⟨HBU.out, 4, by decide, rfl⟩

set_option maxRecDepth 100000 in
set_option maxHeartbeats 1000000 in
/-- con at one place twice. -/
theorem con_same (x y z : Bool) (r a b i : Int) (v : Value) (B : Option Addr) (m d : Nat) (w : World) :
    Calls Tryz.prog 123 #[.agg #[.bool x, .bool y, .bool z], v, Value.agg #[Value.int .i64 r, Value.int .i64 a, Value.int .i64 b, Value.int .i64 i, Value.int .i64 i, Value.slice B m d]] w (GivesD w none) := by
  obtain ⟨u, hu0⟩ : ∃ u, u = (w.alloc (.cells #[Value.bool x, Value.bool y, Value.bool z] 104)).alloc (.cells #[Value.int .i64 r, Value.int .i64 a, Value.int .i64 b, Value.int .i64 i, Value.int .i64 i, Value.slice B m d] 43) := ⟨_, rfl⟩
  obtain ⟨hb, _, p1, _⟩ := two_any w (.cells #[Value.bool x, Value.bool y, Value.bool z] 104) (.cells #[Value.int .i64 r, Value.int .i64 a, Value.int .i64 b, Value.int .i64 i, Value.int .i64 i, Value.slice B m d] 43)
  rw [← hu0] at hb p1
  have k3 := cell_of_row _ _ 3 _ _ (0, 0) p1; have k4 := cell_of_row _ _ 4 _ _ (0, 0) p1
  have HU0 := Lib.hid hu0; have HBU := Lib.hid hb
  have he : (i == i) = true := by simp
  clear hu0 hb p1
  go_enter Tryz.func123, Tryz.ntmps123
  go_upto_region 1 with (fail)
  rw [← HU0.out]
  go_wp2
  go_ret2
  exact ⟨HBU.out, 4, by decide, rfl⟩
end
section
open Go.ChangeShapes Go.WideShapes Go.ChangeAt Go.RowKit

theorem list_six {α : Type} {l : List α} (h : l.length = 6) : ∃ c0 c1 c2 c3 c4 c5, l = [c0, c1, c2, c3, c4, c5] := by
  match l, h with
  | [c0, c1, c2, c3, c4, c5], _ => exact ⟨c0, c1, c2, c3, c4, c5, rfl⟩
theorem trod_six {H : Type} {enc : TypeId × Value → H} {P : Program} {w : World} {base fuel : Nat} {spare : Nat → Bool} {held : Bool} {t : TypeId} {f0 f1 f2 f3 f4 f5 : Field} {cs : List Value} {x : DataW H × List MemPlace} (hs : P.underlying t = some (.struct #[f0, f1, f2, f3, f4, f5]))
    (o0 : f0.offset = 0) (o1 : f1.offset = 1) (o2 : f2.offset = 2) (o3 : f3.offset = 3) (o4 : f4.offset = 4) (o5 : f5.offset = 5) (k0 : P.cellsOf f0.type = 1) (k1 : P.cellsOf f1.type = 1) (k2 : P.cellsOf f2.type = 1) (k3 : P.cellsOf f3.type = 1) (k4 : P.cellsOf f4.type = 1) (k5 : P.cellsOf f5.type = 1)
    (hC : P.cellsOf t = 6) (h : DataW.trod enc P w base spare held fuel t cs = some x) :
    ∃ (v0 v1 v2 v3 v4 v5 : Value) (n : Nat) (y0 y1 y2 y3 y4 y5 : DataW H × List MemPlace), cs = [v0, v1, v2, v3, v4, v5] ∧ DataW.trod enc P w base spare held n f0.type [v0] = some y0 ∧ DataW.trod enc P w base spare held n f1.type [v1] = some y1 ∧
      DataW.trod enc P w base spare held n f2.type [v2] = some y2 ∧ DataW.trod enc P w base spare held n f3.type [v3] = some y3 ∧ DataW.trod enc P w base spare held n f4.type [v4] = some y4 ∧ DataW.trod enc P w base spare held n f5.type [v5] = some y5 := by
  obtain ⟨xs, n, _, _, hcl, hlen, hx⟩ := DataW.trod_struct hs h
  obtain ⟨c0, c1, c2, c3, c4, c5, rfl⟩ := list_six (hcl.trans hC)
  match xs, hlen with
  | [y0, y1, y2, y3, y4, y5], _ =>
    exact ⟨c0, c1, c2, c3, c4, c5, n, y0, y1, y2, y3, y4, y5, rfl, by simpa [o0, k0] using hx 0 f0 rfl, by simpa [o1, k1] using hx 1 f1 rfl, by simpa [o2, k2] using hx 2 f2 rfl,
      by simpa [o3, k3] using hx 3 f3 rfl, by simpa [o4, k4] using hx 4 f4 rfl, by simpa [o5, k5] using hx 5 f5 rfl⟩

set_option maxRecDepth 100000 in
/-- The six cells of a step that came in. -/
theorem cells_step {H : Type} {enc : TypeId × Value → H} {W : World} {fuel : Nat} {cs : List Value} {x : DataW H × List MemPlace} (h : DataW.trod enc Tryz.prog W 0 (fun _ => true) true fuel 38 cs = some x) :
    ∃ (s : Stp) (A : Option Addr) (c : Nat), cs = stC s A c ∧ s.f.length ≤ c ∧ s.f.length ≤ maxLen ∧ RdI W W.heap.size A s.f.length s.f := by
  have e := trod_six (P := Tryz.prog) (w := W) (enc := enc) (base := 0) (spare := fun _ => true) (held := true) (cs := cs) (x := x) (fuel := fuel) Tryz.underlying38 (by kernel_rfl) (by kernel_rfl) (by kernel_rfl) (by kernel_rfl) (by kernel_rfl) (by kernel_rfl) (by kernel_rfl) (by kernel_rfl) (by kernel_rfl) (by kernel_rfl) (by kernel_rfl) (by kernel_rfl) (by kernel_rfl)
  obtain ⟨v0, v1, v2, v3, v4, v5, n, y0, y1, y2, y3, y4, y5, rfl, h0, h1, h2, h3, h4, h5⟩ := e h
  obtain ⟨r, e0, _, _⟩ := DataW.trod_int Tryz.underlying2 h0
  obtain ⟨a, e1, _, _⟩ := DataW.trod_int Tryz.underlying2 h1
  obtain ⟨b, e2, _, _⟩ := DataW.trod_int Tryz.underlying2 h2
  obtain ⟨i, e3, _, _⟩ := DataW.trod_int Tryz.underlying2 h3
  obtain ⟨j, e4, _, _⟩ := DataW.trod_int Tryz.underlying2 h4
  obtain rfl : v0 = _ := List.singleton_inj.1 e0
  obtain rfl : v1 = _ := List.singleton_inj.1 e1
  obtain rfl : v2 = _ := List.singleton_inj.1 e2
  obtain rfl : v3 = _ := List.singleton_inj.1 e3
  obtain rfl : v4 = _ := List.singleton_inj.1 e4
  have hsl : ∃ A l c, v5 = .slice A l c ∧ l ≤ maxLen := by
    rcases open_ints Tryz.underlying36 Tryz.underlying2 (by kernel_rfl) h5 with ⟨hcs, _⟩ | ⟨x, l, c, zs, hcs, _, hl, hm, _⟩
    · exact ⟨none, 0, 0, List.singleton_inj.1 hcs, Nat.zero_le _⟩
    · exact ⟨some x, l, c, List.singleton_inj.1 hcs, by omega⟩
  obtain ⟨A, l, c, rfl, hl⟩ := hsl
  obtain ⟨f, hrd, hlc, _⟩ := open_i64s (d := y5.1) (p := y5.2) ⟨n, by simpa [Value.cells] using h5⟩
  have hfl := hrd.len
  subst hfl
  exact ⟨⟨r, a, b, i, j, f⟩, A, c, rfl, hlc, hl, hrd⟩
instance : Inhabited Stp := ⟨Stp.nil⟩
theorem adds {b off : Nat} {m : Nat} : (⟨b, off, none⟩ : Addr).add m = ⟨b, off + m, none⟩ := by
  unfold Addr.add
  split <;> simp_all

/-- A slice of steps that came in. -/
theorem open_steps {H : Type} {enc : TypeId × Value → H} {W : World} {a : Option Addr} {len cap : Nat} {d : DataW H} {p : List MemPlace}
    (h : DataW.Trod enc Tryz.prog W 0 (fun _ => true) true 22 (.slice a len cap) d p) : ∃ ss, RdP W W.heap.size a len ss ∧ len ≤ cap ∧ len ≤ maxLen ∧ ∀ q ∈ fsP ss, q.length ≤ maxLen := by
  obtain ⟨fuel, hf⟩ := h
  have c6 : Tryz.prog.cellsOf 38 = 6 := by kernel_rfl
  rcases DataW.trod_slice Tryz.underlying22 hf with ⟨hcs, _⟩ | ⟨x, l, c, elems, rest, n, _, hcs, _, _, hl, hm, hlen, hel, _⟩
  · simp [Value.cells] at hcs
    obtain ⟨rfl, rfl, rfl⟩ := hcs
    exact ⟨[], ⟨rfl, fun hn => absurd hn (by omega)⟩, Nat.le_refl _, Nat.zero_le _, fun q hq => by cases hq⟩
  · simp [Value.cells] at hcs
    obtain ⟨rfl, rfl, rfl⟩ := hcs
    rw [c6] at hel
    have each : ∀ i, i < len → ∃ y : Stp × Option Addr × Nat, (∀ t, t < 6 → W.cell? ((x.add (i * 6)).add t) = (stC y.1 y.2.1 y.2.2)[t]?) ∧ y.1.f.length ≤ y.2.2 ∧ y.1.f.length ≤ maxLen ∧ RdI W W.heap.size y.2.1 y.1.f.length y.1.f := by
      intro i hi
      have he := hel i hi
      rw [List.getElem?_eq_getElem (by omega)] at he
      obtain ⟨cs, hc, ht⟩ := Option.bind_eq_some_iff.1 he
      obtain ⟨s, A, c, rfl, h1, h2, h3⟩ := cells_step ht
      obtain ⟨_, hcl, hcc⟩ := World.cells?_some hc
      exact ⟨(s, A, c), fun t ht => hcc t ht, h1, h2, h3⟩
    obtain ⟨y, hy⟩ := Go.Deep.choose_lt each
    obtain ⟨b, off, spot⟩ := x
    refine ⟨(List.range len).map fun i => (y i).1, ⟨by simp, fun hn => ?_⟩, hl, by omega, fun q hq => ?_⟩
    · have h0 := (hy 0 hn).1 0 (by omega)
      have hs : spot = none := by
        have : W.cell? ((⟨b, off, spot⟩ : Addr).add (0 * 6) |>.add 0) = some (.int .i64 (y 0).1.r) := h0
        simpa [Addr.add] using World.cell?_spot this
      subst hs
      have hlt : b < W.heap.size := by
        have : W.cell? ((⟨b, off, none⟩ : Addr).add (0 * 6) |>.add 0) = some (.int .i64 (y 0).1.r) := h0
        have := World.block_lt_of_cell? W _ this
        rw [adds, adds] at this
        exact this
      refine ⟨b, off, rfl, hlt, fun k hk => ?_⟩
      obtain ⟨g1, g2, _, g4⟩ := hy k hk
      have e : ((List.range len).map fun i => (y i).1).getD k Stp.nil = (y k).1 := by simp [List.getD, hk]
      rw [e]
      have gt : ∀ t, t < 6 → W.cell? ⟨b, off + k * 6 + t, none⟩ = (stC (y k).1 (y k).2.1 (y k).2.2)[t]? := fun t ht => by
        have := g1 t ht
        rw [adds, adds] at this
        exact this
      exact ⟨_, _, gt 0 (by omega), gt 1 (by omega), gt 2 (by omega), gt 3 (by omega), gt 4 (by omega), gt 5 (by omega), g2, g4⟩
    · obtain ⟨s, hs, rfl⟩ := List.mem_map.1 hq
      obtain ⟨i, hi, rfl⟩ := List.mem_map.1 hs
      exact (hy i (List.mem_range.1 hi)).2.2.1
end
end Go.Proofs.YthbkcpacgnmcfaaGreatDoor
