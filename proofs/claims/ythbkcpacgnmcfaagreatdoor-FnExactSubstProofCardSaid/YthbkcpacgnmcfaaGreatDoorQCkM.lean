/- The program's rule swap; slices.Clone at rows of headers. Made by mkckm.py. The rules' methods of the program, by the rule's number. Made by mkckr.py. -/
import Derived.Test.YthbkcpacgnmcfaaGreatDoorQRule
import Derived.Test.YthbkcpacgnmcfaaGreatDoorQSubA
import Derived.Test.YthbkcpacgnmcfaaGreatDoorQCkO
import Derived.Test.YthbkcpacgnmcfaaGreatDoorCkD
import Derived.Test.YthbkcpacgnmcfaaGreatDoorCkE
import Derived.Test.YthbkcpacgnmcfaaGreatDoorQCkF
import Derived.Test.YthbkcpacgnmcfaaGreatDoorCkH
import Derived.Test.YthbkcpacgnmcfaaGreatDoorCkI
import Derived.Test.YthbkcpacgnmcfaaGreatDoorQCkJ
import Derived.Test.YthbkcpacgnmcfaaGreatDoorQCkL
namespace Go.Proofs.YthbkcpacgnmcfaaGreatDoor
set_option linter.unusedSimpArgs false
set_option linter.unusedVariables false
section
open Go.ChangeAt Go.ChangeShapes Go.RowKit Go.WideShapes
open List (setIfInBounds_toArray set_cons_zero set_cons_succ getElem_toArray getElem_cons_succ getElem_cons_zero)

theorem RdV.set {w : World} {vs : List Value} {R : List (List Int)} {k c : Nat} {A : Option Addr} {q : List Int} (h : RdV w vs R) (hk : k < R.length) (hq : RdI w w.heap.size A q.length q) (hc : q.length ≤ c) : RdV w (vs.set k (.slice A q.length c)) (R.set k q) := by
  refine ⟨by rw [List.length_set, List.length_set, h.len], fun i hi => ?_⟩
  rw [List.length_set] at hi
  by_cases e : i = k
  · subst e
    rw [getD_set_eq hk, List.getElem?_set_self (by have := h.len; omega)]
    exact ⟨A, c, rfl, hc, hq⟩
  · rw [getD_set_ne e, List.getElem?_set_ne (fun e' => e e'.symm)]
    exact h.part i hi
/-- What reads in u reads behind it. -/
theorem RdV.keep {u w1 w2 : World} {vs : List Value} {R : List (List Int)} (h : RdV u vs R) (_hb : Below u.heap.size u w1) (hb2 : Below u.heap.size u w2) : RdV w2 vs R := h.below hb2
/-- Two places exchanged. -/
def swpL (P : List (List Int)) (ii jj : Nat) : List (List Int) := (P.set ii (P.getD jj [])).set jj (P.getD ii [])

set_option maxHeartbeats 1000000 in
/-- slices.Clone of a row that is not empty. -/
theorem cloneQ_any (A : Option Addr) (n c : Nat) (P : List (List Int)) (w : World) (h : RdQ w w.heap.size A n P) (hn : n ≤ 100) (hn0 : 0 < n) :
    Calls Tryz.prog 125 #[.slice A n c] w fun e w' => ∃ g c1 vs, e = .returned (.slice (some ⟨g, 0, none⟩) n c1) ∧ w'.ownsRow w.heap.size 36 1 (.slice (some ⟨g, 0, none⟩) n c1) n vs ∧ RdV w vs P ∧ Below w.heap.size w w' := by
  obtain ⟨i0, hi0, hz0, hz1, hz2⟩ := info_parts_s
  have hl := h.len
  subst hl
  obtain ⟨b, off, rfl, hbb, _⟩ := h.2 hn0
  obtain ⟨vs, hr, hc⟩ := RdV.of_q h
  have hnil : ∀ wx : World, (binOp .eql 23 (.slice (some ⟨b, off, none⟩) P.length c) (.slice none 0 0)).run Tryz.prog wx = .ok (.bool false) wx := fun wx => Lib.run_eql_slice_nil wx 23 36 _ _ _ _ _ Tryz.underlying23
  have hb0 : Below w.heap.size w (w.alloc (.cells #[] 36)) := (Below.refl _ _).alloc (Nat.le_refl _) _
  have H0 := Lib.hid (World.ownsRow_made (e := 36) (base := w.heap.size) (size := 1) w #[] 0 (Nat.le_refl _) (by simp [maxLen]) rfl)
  have HN : Hid (∀ j u, vs[j]? = some u → (w.alloc (.cells #[] 36)).cell? ((⟨b, off, none⟩ : Addr).add j) = some u) := Lib.hid (fun j u hj => (hb0.cell (p := (⟨b, off, none⟩ : Addr).add j) (by rw [add_block]; exact hbb)).trans (hc j u hj))
  have HB0 := Lib.hid hb0; have HL := Lib.hid hr.len; have HR := Lib.hid hr; have HV := Lib.hid hr.one
  have HI := Lib.hid hi0; have HZ0 := Lib.hid hz0; have HZ1 := Lib.hid hz1; have HZ2 := Lib.hid hz2
  clear hb0 hc hr hi0 hz0 hz1 hz2 h
  go_enter Tryz.func125, Tryz.ntmps125
  go_wp2_with (at_builtin; refine wpList_append_own _ rfl _ _ 23 rfl w.heap.size 36 i0 (.slice none 0 0) 1 24 Tryz.underlying23 HI.out HZ0.out HZ1.out HZ2.out rfl (by decide) _ _ _ rfl H0.out ⟨b, off, none⟩ P.length c vs rfl (by rw [HL.out, Nat.mul_one]) HN.out HV.out (by unfold maxLen; omega) (by omega) HB0.out.size ?_; intro v2 w2 hown2 hgrow2 _)
  obtain ⟨A2, c2, rfl, b2, o2⟩ := rowv_more HB0.out HB0.out.size H0.out hown2 hgrow2
  rw [Nat.zero_add, List.nil_append] at o2
  obtain ⟨g, cap, hv', _, _⟩ := o2.form (by omega)
  injection hv' with e1 e2 e3
  subst e1
  have HB2 := Lib.hid b2; have HO2 := Lib.hid o2
  have HZ : Hid (0 + P.length = P.length) := Lib.hid (Nat.zero_add _)
  clear b2 o2 hown2 hgrow2
  go_ret
  exact ⟨g, c2, vs, by rw [← HZ.out]; first | rfl | (simp), HO2.out, HR.out, HB2.out⟩

set_option linter.unusedSimpArgs false in
set_option maxRecDepth 100000 in
set_option maxHeartbeats 8000000 in
theorem swap_any (x y z : Bool) (r a b : Int) (ii jj : Nat) (A : Option Addr) (n c : Nat) (P : List (List Int)) (B : Option Addr) (m d : Nat) (w : World) (h : RdQ w w.heap.size A n P) (hn : n ≤ 10) (hij : ii < jj) (hjj : jj < n) :
    Calls Tryz.prog 124 #[.agg #[.bool x, .bool y, .bool z], .slice A n c, Value.agg #[Value.int .i64 r, Value.int .i64 a, Value.int .i64 b, Value.int .i64 ((ii : Nat) : Int), Value.int .i64 ((jj : Nat) : Int), Value.slice B m d]] w (GivesD w (some (swpL P ii jj))) := by
  have hl := h.len
  subst hl
  obtain ⟨u, hu0⟩ : ∃ u, u = (w.alloc (.cells #[Value.bool x, Value.bool y, Value.bool z] 105)).alloc (.cells #[Value.int .i64 r, Value.int .i64 a, Value.int .i64 b, Value.int .i64 ((ii : Nat) : Int), Value.int .i64 ((jj : Nat) : Int), Value.slice B m d] 43) := ⟨_, rfl⟩
  obtain ⟨hb, p0, p1, hsz⟩ := two_any w (.cells #[Value.bool x, Value.bool y, Value.bool z] 105) (.cells #[Value.int .i64 r, Value.int .i64 a, Value.int .i64 b, Value.int .i64 ((ii : Nat) : Int), Value.int .i64 ((jj : Nat) : Int), Value.slice B m d] 43)
  rw [← hu0] at hb p0 p1 hsz
  have HU0 := Lib.hid hu0; have HBU := Lib.hid hb
  have hCL := cloneQ_any A P.length c P u ((h.below hb).more hb.size) (by omega) (by omega)
  have HSX : Hid (∀ wx, Below u.heap.size u wx → wx.cell? ⟨w.heap.size + 1, 3, none⟩ = some (.int .i64 ((ii : Nat) : Int)) ∧ wx.cell? ⟨w.heap.size + 1, 4, none⟩ = some (.int .i64 ((jj : Nat) : Int))) := Lib.hid fun wx hx => by
    have q := (hx.block (w.heap.size + 1) (by omega)).trans p1
    exact ⟨cell_of_row _ _ 3 _ _ (0, 0) q, cell_of_row _ _ 4 _ _ (0, 0) q⟩
  have HCL := Lib.hid hCL
  have hai : ((ii : Nat) : Int) < (P.length : Int) := by omega
  have haj : ((jj : Nat) : Int) < (P.length : Int) := by omega
  have hge : decide (((jj : Nat) : Int) ≤ ((ii : Nat) : Int)) = false := decide_eq_false (by omega)
  have HGS : Hid (w.heap.size + 1 < u.heap.size) := Lib.hid (by omega)
  obtain ⟨e3, e4⟩ := HSX.out u (Below.refl _ _)
  clear hu0 hb p0 p1 hsz hCL h hn
  go_enter Tryz.func124, Tryz.ntmps124
  go_upto_region 1 with (fail)
  rw [← HU0.out]
  go_wp2_with (fail)
  refine HCL.out.mono ?_
  rintro e w1 ⟨g, cc, vs, rfl, o1, r1, b1⟩
  obtain ⟨AI, cI, vI, mI, rI⟩ := r1.part ii (by omega)
  obtain ⟨AJ, cJ, vJ, mJ, rJ⟩ := r1.part jj (by omega)
  have HGE := Lib.hid (o1.lt g rfl).1
  have HO1 := Lib.hid o1; have HR1 := Lib.hid r1; have HB1 := Lib.hid b1; have HI := Lib.hid rI; have HJ := Lib.hid rJ; have HVI := Lib.hid vI; have HVJ := Lib.hid vJ
  obtain ⟨NI, hNI⟩ : ∃ N, (P.getD ii []).length = N := ⟨_, rfl⟩
  obtain ⟨NJ, hNJ⟩ : ∃ N, (P.getD jj []).length = N := ⟨_, rfl⟩
  rw [hNI] at HI HVI mI
  rw [hNJ] at HJ HVJ mJ
  have HNI := Lib.hid hNI; have HNJ := Lib.hid hNJ
  clear o1 r1 b1 rI rJ vI vJ e3 e4 hge hNI hNJ
  go_upto_region 4 with (fail)
  have FB_0 := Lib.hid HB1.out; have FO_0 := Lib.hid HO1.out
  refine wp_region_held_drew (S := fun wx => wx.cell? ⟨w.heap.size + 1, 3, none⟩ = some (.int .i64 ((ii : Nat) : Int)) ∧ wx.cell? ⟨w.heap.size + 1, 4, none⟩ = some (.int .i64 ((jj : Nat) : Int))) (by kernel_rfl) (HSX.out w1 FB_0.out) (fun hHeld => ?_)
  obtain ⟨wq1, hwq1⟩ : ∃ w', w' = w1.drew := ⟨_, rfl⟩
  rw [← hwq1] at hHeld ⊢
  have bq1 : Below w1.heap.size w1 wq1 := by rw [hwq1]; exact (Below.refl _ _).drew
  clear hwq1
  have FB_q2 := Lib.hid ((FB_0.out).trans ((bq1).mono (FB_0.out).size))
  have FO_q3 := Lib.hid (own_below (FO_0.out) (bq1) (Nat.le_refl _))
  clear FB_0 FO_0
  refine tk (i := 0) (h := ?_)
  (try simp only [Act.put, setIfInBounds_toArray, set_cons_zero, set_cons_succ])
  refine tk (i := 1) (h := ?_)
  (try simp only [Act.put, setIfInBounds_toArray, set_cons_zero, set_cons_succ])
  refine tk (i := 3) (h := ?_)
  (try simp only [Act.put, setIfInBounds_toArray, set_cons_zero, set_cons_succ])
  refine tk (i := 4) (h := ?_)
  (try simp only [Act.put, setIfInBounds_toArray, set_cons_zero, set_cons_succ])
  refine tk (i := 6) (h := ?_)
  (try simp only [Act.put, setIfInBounds_toArray, set_cons_zero, set_cons_succ])
  refine tk (i := 7) (h := ?_)
  (try simp only [Act.put, setIfInBounds_toArray, set_cons_zero, set_cons_succ])
  refine tk (i := 11) (h := ?_)
  (try simp only [Act.put, setIfInBounds_toArray, set_cons_zero, set_cons_succ])
  refine tk (i := 12) (h := ?_)
  (try simp only [Act.put, setIfInBounds_toArray, set_cons_zero, set_cons_succ])
  refine tk (i := 2) (h := ?_)
  (try simp only [Act.put, setIfInBounds_toArray, set_cons_zero, set_cons_succ])
  refine tk (i := 5) (h := ?_)
  (try simp only [Act.put, setIfInBounds_toArray, set_cons_zero, set_cons_succ])
  refine tk (i := 8) (h := ?_)
  (try simp only [Act.put, setIfInBounds_toArray, set_cons_zero, set_cons_succ])
  refine tk (i := 13) (h := ?_)
  (try simp only [Act.put, setIfInBounds_toArray, set_cons_zero, set_cons_succ])
  refine tk (i := 9) (h := ?_)
  (try simp only [Act.put, setIfInBounds_toArray, set_cons_zero, set_cons_succ])
  refine tk (i := 14) (h := ?_)
  (try simp only [Act.put, setIfInBounds_toArray, set_cons_zero, set_cons_succ])
  refine wpAnyH_ready (rs := [10, 15]) (by kernel_rfl) (by simp) ?_
  refine AllReadyH.cons rfl (fun K hK => ?_) ?_
  · have c1 : wq1.cell? ⟨g, ii, none⟩ = _ := (FO_q3.out.cellAt ii (by omega)).trans HVI.out
    have c2 : wq1.cell? ⟨g, jj, none⟩ = _ := (FO_q3.out.cellAt jj (by omega)).trans HVJ.out
    go_simp
    refine hK.out _ _ (hHeld) (fun hHeld => ?_)
    clear hK K
    (try simp only [Act.put, setIfInBounds_toArray, set_cons_zero, set_cons_succ])
    refine t1 (i := 15) (h := fun K hK => ?_)
    have c1 : wq1.cell? ⟨g, ii, none⟩ = _ := (FO_q3.out.cellAt ii (by omega)).trans HVI.out
    have c2 : wq1.cell? ⟨g, jj, none⟩ = _ := (FO_q3.out.cellAt jj (by omega)).trans HVJ.out
    go_simp
    refine hK.out _ _ (hHeld) (fun hHeld => ?_)
    clear hK K
    (try simp only [Act.put, setIfInBounds_toArray, set_cons_zero, set_cons_succ])
    refine tk (i := 16) (h := ?_)
    (try simp only [Act.put, setIfInBounds_toArray, set_cons_zero, set_cons_succ])
    refine t1 (i := 17) (h := fun K hK => ?_)
    have f1 := FO_q3.out.frozenAt ii
    have c3 : wq1.cell? ⟨g, ii, none⟩ = _ := (FO_q3.out.cellAt ii (by omega)).trans HVI.out
    go_simp
    obtain ⟨wq19, hwq19⟩ : ∃ w', w' = wq1.setCell ⟨g, ii, none⟩ (.slice AJ NJ cJ) := ⟨_, rfl⟩
    rw [← hwq19]
    have FB_q19 := Lib.hid (show Below u.heap.size u wq19 by rw [hwq19]; exact FB_q2.out.setCell (p := ⟨g, ii, none⟩) HGE.out _)
    have FO_q19 := Lib.hid (show wq19.ownsRow u.heap.size 36 1 (.slice (some ⟨g, 0, none⟩) P.length cc) P.length (vs.set ii (.slice AJ NJ cJ)) by rw [hwq19]; exact (FO_q3.out.stored ii _).1)
    clear hwq19 f1 c3
    refine hK.out _ _ (HSX.out _ FB_q19.out) (fun hHeld => ?_)
    clear hK K
    (try simp only [Act.put, setIfInBounds_toArray, set_cons_zero, set_cons_succ])
    refine tk (i := 18) (h := ?_)
    (try simp only [Act.put, setIfInBounds_toArray, set_cons_zero, set_cons_succ])
    refine t1 (i := 19) (h := fun K hK => ?_)
    have f1 := FO_q19.out.frozenAt jj
    have c3 : wq19.cell? ⟨g, jj, none⟩ = some (.slice AJ NJ cJ) := (FO_q19.out.cellAt jj (by omega)).trans (by rw [List.getElem?_set_ne (by omega)]; exact HVJ.out)
    go_simp
    obtain ⟨wq21, hwq21⟩ : ∃ w', w' = wq19.setCell ⟨g, jj, none⟩ (.slice AI NI cI) := ⟨_, rfl⟩
    rw [← hwq21]
    have FB_q21 := Lib.hid (show Below u.heap.size u wq21 by rw [hwq21]; exact FB_q19.out.setCell (p := ⟨g, jj, none⟩) HGE.out _)
    have FO_q21 := Lib.hid (show wq21.ownsRow u.heap.size 36 1 (.slice (some ⟨g, 0, none⟩) P.length cc) P.length ((vs.set ii (.slice AJ NJ cJ)).set jj (.slice AI NI cI)) by rw [hwq21]; exact (FO_q19.out.stored jj _).1)
    clear hwq21 f1 c3
    refine hK.out _ _ (HSX.out _ FB_q21.out) (fun hHeld => ?_)
    clear hK K
    (try simp only [Act.put, setIfInBounds_toArray, set_cons_zero, set_cons_succ])
    refine wpAnyH_done (by kernel_rfl) ?_ _
    have hre := ((HR1.out.set (k := ii) (q := P.getD jj []) (A := AJ) (c := cJ) (by omega) (by rw [HNJ.out]; exact HJ.out) (by rw [HNJ.out]; exact mJ)).set (k := jj) (q := P.getD ii []) (A := AI) (c := cI) (by rw [List.length_set]; omega) (by rw [HNI.out]; exact HI.out) (by rw [HNI.out]; exact mI))
    rw [HNI.out, HNJ.out] at hre
    have HRE := Lib.hid hre
    clear hre
    have HLN : Hid ((swpL P ii jj).length = P.length) := Lib.hid (by unfold swpL; rw [List.length_set, List.length_set])
    have HRZ := Lib.hid (HRE.out.keep HB1.out FB_q21.out)
    go_wp2
    go_ret2
    exact ⟨HBU.out.trans (FB_q21.out.mono HBU.out.size), some ⟨g, 0, none⟩, cc, _, by rw [HLN.out]; rfl, by rw [HLN.out]; exact own_base FO_q21.out HBU.out.size, HRZ.out⟩
  refine AllReadyH.cons rfl (fun K hK => ?_) ?_
  · have c1 : wq1.cell? ⟨g, ii, none⟩ = _ := (FO_q3.out.cellAt ii (by omega)).trans HVI.out
    have c2 : wq1.cell? ⟨g, jj, none⟩ = _ := (FO_q3.out.cellAt jj (by omega)).trans HVJ.out
    go_simp
    refine hK.out _ _ (hHeld) (fun hHeld => ?_)
    clear hK K
    (try simp only [Act.put, setIfInBounds_toArray, set_cons_zero, set_cons_succ])
    refine t1 (i := 10) (h := fun K hK => ?_)
    have c1 : wq1.cell? ⟨g, ii, none⟩ = _ := (FO_q3.out.cellAt ii (by omega)).trans HVI.out
    have c2 : wq1.cell? ⟨g, jj, none⟩ = _ := (FO_q3.out.cellAt jj (by omega)).trans HVJ.out
    go_simp
    refine hK.out _ _ (hHeld) (fun hHeld => ?_)
    clear hK K
    (try simp only [Act.put, setIfInBounds_toArray, set_cons_zero, set_cons_succ])
    refine tk (i := 16) (h := ?_)
    (try simp only [Act.put, setIfInBounds_toArray, set_cons_zero, set_cons_succ])
    refine t1 (i := 17) (h := fun K hK => ?_)
    have f1 := FO_q3.out.frozenAt ii
    have c3 : wq1.cell? ⟨g, ii, none⟩ = _ := (FO_q3.out.cellAt ii (by omega)).trans HVI.out
    go_simp
    obtain ⟨wq23, hwq23⟩ : ∃ w', w' = wq1.setCell ⟨g, ii, none⟩ (.slice AJ NJ cJ) := ⟨_, rfl⟩
    rw [← hwq23]
    have FB_q23 := Lib.hid (show Below u.heap.size u wq23 by rw [hwq23]; exact FB_q2.out.setCell (p := ⟨g, ii, none⟩) HGE.out _)
    have FO_q23 := Lib.hid (show wq23.ownsRow u.heap.size 36 1 (.slice (some ⟨g, 0, none⟩) P.length cc) P.length (vs.set ii (.slice AJ NJ cJ)) by rw [hwq23]; exact (FO_q3.out.stored ii _).1)
    clear hwq23 f1 c3
    refine hK.out _ _ (HSX.out _ FB_q23.out) (fun hHeld => ?_)
    clear hK K
    (try simp only [Act.put, setIfInBounds_toArray, set_cons_zero, set_cons_succ])
    refine tk (i := 18) (h := ?_)
    (try simp only [Act.put, setIfInBounds_toArray, set_cons_zero, set_cons_succ])
    refine t1 (i := 19) (h := fun K hK => ?_)
    have f1 := FO_q23.out.frozenAt jj
    have c3 : wq23.cell? ⟨g, jj, none⟩ = some (.slice AJ NJ cJ) := (FO_q23.out.cellAt jj (by omega)).trans (by rw [List.getElem?_set_ne (by omega)]; exact HVJ.out)
    go_simp
    obtain ⟨wq25, hwq25⟩ : ∃ w', w' = wq23.setCell ⟨g, jj, none⟩ (.slice AI NI cI) := ⟨_, rfl⟩
    rw [← hwq25]
    have FB_q25 := Lib.hid (show Below u.heap.size u wq25 by rw [hwq25]; exact FB_q23.out.setCell (p := ⟨g, jj, none⟩) HGE.out _)
    have FO_q25 := Lib.hid (show wq25.ownsRow u.heap.size 36 1 (.slice (some ⟨g, 0, none⟩) P.length cc) P.length ((vs.set ii (.slice AJ NJ cJ)).set jj (.slice AI NI cI)) by rw [hwq25]; exact (FO_q23.out.stored jj _).1)
    clear hwq25 f1 c3
    refine hK.out _ _ (HSX.out _ FB_q25.out) (fun hHeld => ?_)
    clear hK K
    (try simp only [Act.put, setIfInBounds_toArray, set_cons_zero, set_cons_succ])
    refine wpAnyH_done (by kernel_rfl) ?_ _
    have hre := ((HR1.out.set (k := ii) (q := P.getD jj []) (A := AJ) (c := cJ) (by omega) (by rw [HNJ.out]; exact HJ.out) (by rw [HNJ.out]; exact mJ)).set (k := jj) (q := P.getD ii []) (A := AI) (c := cI) (by rw [List.length_set]; omega) (by rw [HNI.out]; exact HI.out) (by rw [HNI.out]; exact mI))
    rw [HNI.out, HNJ.out] at hre
    have HRE := Lib.hid hre
    clear hre
    have HLN : Hid ((swpL P ii jj).length = P.length) := Lib.hid (by unfold swpL; rw [List.length_set, List.length_set])
    have HRZ := Lib.hid (HRE.out.keep HB1.out FB_q25.out)
    go_wp2
    go_ret2
    exact ⟨HBU.out.trans (FB_q25.out.mono HBU.out.size), some ⟨g, 0, none⟩, cc, _, by rw [HLN.out]; rfl, by rw [HLN.out]; exact own_base FO_q25.out HBU.out.size, HRZ.out⟩
  exact AllReadyH.nil

set_option maxRecDepth 100000 in
set_option maxHeartbeats 1000000 in
theorem swap_no (x y z : Bool) (r a b i j : Int) (v : Value) (B : Option Addr) (m d : Nat) (w : World) (hij : j ≤ i) :
    Calls Tryz.prog 124 #[.agg #[.bool x, .bool y, .bool z], v, Value.agg #[Value.int .i64 r, Value.int .i64 a, Value.int .i64 b, Value.int .i64 i, Value.int .i64 j, Value.slice B m d]] w (GivesD w none) := by
  obtain ⟨u, hu0⟩ : ∃ u, u = (w.alloc (.cells #[Value.bool x, Value.bool y, Value.bool z] 105)).alloc (.cells #[Value.int .i64 r, Value.int .i64 a, Value.int .i64 b, Value.int .i64 i, Value.int .i64 j, Value.slice B m d] 43) := ⟨_, rfl⟩
  obtain ⟨hb, _, p1, _⟩ := two_any w (.cells #[Value.bool x, Value.bool y, Value.bool z] 105) (.cells #[Value.int .i64 r, Value.int .i64 a, Value.int .i64 b, Value.int .i64 i, Value.int .i64 j, Value.slice B m d] 43)
  rw [← hu0] at hb p1
  have k3 := cell_of_row _ _ 3 _ _ (0, 0) p1; have k4 := cell_of_row _ _ 4 _ _ (0, 0) p1
  have HU0 := Lib.hid hu0; have HBU := Lib.hid hb
  have he : decide (j ≤ i) = true := decide_eq_true hij
  clear hu0 hb p1 hij
  go_enter Tryz.func124, Tryz.ntmps124
  go_upto_region 1 with (fail)
  rw [← HU0.out]
  go_wp2
  go_ret2
  exact ⟨HBU.out, 4, by decide, rfl⟩
end
section
open Go.ChangeAt Go.ChangeShapes Go.RowKit Go.WideShapes

def deF (r : Int) : FuncId := if r = 4 then 112 else if r = 6 then 114 else if r = 8 then 117 else if r = 9 then 118 else if r = 10 then 119 else if r = 11 then 121 else if r = 12 then 122 else if r = 13 then 123 else if r = 14 then 124 else 0
def coF (r : Int) : FuncId := if r = 2 then 101 else if r = 3 then 108 else if r = 7 then 115 else 0
def beF (r : Int) : FuncId := if r = 1 then 100 else if r = 5 then 113 else 0
theorem m_derive : ∀ r : Int, 1 ≤ r → r ≤ 14 → ruP r = 1 → ∀ w : World, (method 251 (ruT r) (.agg #[Value.bool (ruI r), Value.bool (ruJ r), Value.bool (ruF r)]) "loop.example/g00872/impl.derive").run Tryz.prog w = .ok (deF r, (.agg #[Value.bool (ruI r), Value.bool (ruJ r), Value.bool (ruF r)])) w :=
  ru_cases (by intro h w; first | (exact absurd h (by decide)) | kernel_rfl) (by intro h w; first | (exact absurd h (by decide)) | kernel_rfl) (by intro h w; first | (exact absurd h (by decide)) | kernel_rfl) (by intro h w; first | (exact absurd h (by decide)) | kernel_rfl) (by intro h w; first | (exact absurd h (by decide)) | kernel_rfl) (by intro h w; first | (exact absurd h (by decide)) | kernel_rfl) (by intro h w; first | (exact absurd h (by decide)) | kernel_rfl) (by intro h w; first | (exact absurd h (by decide)) | kernel_rfl) (by intro h w; first | (exact absurd h (by decide)) | kernel_rfl) (by intro h w; first | (exact absurd h (by decide)) | kernel_rfl) (by intro h w; first | (exact absurd h (by decide)) | kernel_rfl) (by intro h w; first | (exact absurd h (by decide)) | kernel_rfl) (by intro h w; first | (exact absurd h (by decide)) | kernel_rfl) (by intro h w; first | (exact absurd h (by decide)) | kernel_rfl)
theorem m_combine : ∀ r : Int, 1 ≤ r → r ≤ 14 → ruP r = 2 → ∀ w : World, (method 251 (ruT r) (.agg #[Value.bool (ruI r), Value.bool (ruJ r), Value.bool (ruF r)]) "loop.example/g00872/impl.combine").run Tryz.prog w = .ok (coF r, (.agg #[Value.bool (ruI r), Value.bool (ruJ r), Value.bool (ruF r)])) w :=
  ru_cases (by intro h w; first | (exact absurd h (by decide)) | kernel_rfl) (by intro h w; first | (exact absurd h (by decide)) | kernel_rfl) (by intro h w; first | (exact absurd h (by decide)) | kernel_rfl) (by intro h w; first | (exact absurd h (by decide)) | kernel_rfl) (by intro h w; first | (exact absurd h (by decide)) | kernel_rfl) (by intro h w; first | (exact absurd h (by decide)) | kernel_rfl) (by intro h w; first | (exact absurd h (by decide)) | kernel_rfl) (by intro h w; first | (exact absurd h (by decide)) | kernel_rfl) (by intro h w; first | (exact absurd h (by decide)) | kernel_rfl) (by intro h w; first | (exact absurd h (by decide)) | kernel_rfl) (by intro h w; first | (exact absurd h (by decide)) | kernel_rfl) (by intro h w; first | (exact absurd h (by decide)) | kernel_rfl) (by intro h w; first | (exact absurd h (by decide)) | kernel_rfl) (by intro h w; first | (exact absurd h (by decide)) | kernel_rfl)
theorem m_begin : ∀ r : Int, 1 ≤ r → r ≤ 14 → ruP r = 0 → ∀ w : World, (method 251 (ruT r) (.agg #[Value.bool (ruI r), Value.bool (ruJ r), Value.bool (ruF r)]) "loop.example/g00872/impl.begin").run Tryz.prog w = .ok (beF r, (.agg #[Value.bool (ruI r), Value.bool (ruJ r), Value.bool (ruF r)])) w :=
  ru_cases (by intro h w; first | (exact absurd h (by decide)) | kernel_rfl) (by intro h w; first | (exact absurd h (by decide)) | kernel_rfl) (by intro h w; first | (exact absurd h (by decide)) | kernel_rfl) (by intro h w; first | (exact absurd h (by decide)) | kernel_rfl) (by intro h w; first | (exact absurd h (by decide)) | kernel_rfl) (by intro h w; first | (exact absurd h (by decide)) | kernel_rfl) (by intro h w; first | (exact absurd h (by decide)) | kernel_rfl) (by intro h w; first | (exact absurd h (by decide)) | kernel_rfl) (by intro h w; first | (exact absurd h (by decide)) | kernel_rfl) (by intro h w; first | (exact absurd h (by decide)) | kernel_rfl) (by intro h w; first | (exact absurd h (by decide)) | kernel_rfl) (by intro h w; first | (exact absurd h (by decide)) | kernel_rfl) (by intro h w; first | (exact absurd h (by decide)) | kernel_rfl) (by intro h w; first | (exact absurd h (by decide)) | kernel_rfl)
/-- The conclusion of a rule with one premise. -/
def unR (r i j : Int) (F : List Int) (P : List (List Int)) : Option (List (List Int)) :=
  if r = 4 then (if i.toNat = j.toNat then none else some (woL P [((i.toNat : Nat) : Int), ((j.toNat : Nat) : Int)] ++ [(12 :: (P.getD i.toNat [] ++ P.getD j.toNat []))]))
  else if r = 6 then some (woL P [] ++ [[14]])
  else if r = 8 then some (woL P [((i.toNat : Nat) : Int)] ++ [(15 :: (P.getD i.toNat [] ++ F))])
  else if r = 9 then some (woL P [((i.toNat : Nat) : Int)] ++ [(15 :: (F ++ P.getD i.toNat []))])
  else if r = 10 then promR P i.toNat
  else if r = 11 then some (woL P [((i.toNat : Nat) : Int)] ++ [(18 :: P.getD i.toNat [])])
  else if r = 12 then some (woL P [] ++ [(18 :: F)])
  else if r = 13 then conR P i.toNat j.toNat
  else if r = 14 then (if j.toNat ≤ i.toNat then none else some (swpL P i.toNat j.toNat))
  else none
/-- .. with two premises. -/
def biR (r i j : Int) (P Q : List (List Int)) : Option (List (List Int)) :=
  if r = 2 then cutR P Q i.toNat j.toNat
  else if r = 3 then some ((woL P [((i.toNat : Nat) : Int)] ++ woL Q [((j.toNat : Nat) : Int)]) ++ [(11 :: (P.getD i.toNat [] ++ Q.getD j.toNat []))])
  else if r = 7 then withR P Q i.toNat j.toNat
  else none
theorem inp_parts {r i j : Int} {F : List Int} {P Q : List (List Int)} (h : inpV r i j F P Q = true) : validQ P = true ∧ validQ Q = true ∧ (ruF r = true → validB F = true) ∧ (ruI r = true → ∃ ii : Nat, i = (ii : Int) ∧ ii < P.length) ∧ (ruJ r = true → ∃ jj : Nat, j = (jj : Int) ∧ jj < Q.length) := by
  unfold inpV fitV posV posB at h
  simp only [Bool.and_eq_true, Bool.or_eq_true, Bool.not_eq_true', decide_eq_true_eq] at h
  obtain ⟨⟨h1, h2⟩, ⟨⟨h3, _⟩, _⟩, h5, h6⟩ := h
  refine ⟨h1, h2, fun e => ?_, fun e => ?_, fun e => ?_⟩
  · rw [e] at h3; exact h3
  · rw [e] at h5
    rcases h5 with h5 | h5
    · cases h5
    · exact ⟨i.toNat, by omega, by omega⟩
  · rw [e] at h6
    rcases h6 with h6 | h6
    · cases h6
    · exact ⟨j.toNat, by omega, by omega⟩
theorem q_lens {P : List (List Int)} (h : validQ P = true) : P.length ≤ 10 ∧ ∀ q ∈ P, 0 < q.length ∧ q.length ≤ 24 :=
  ⟨by have := validQ_len h; omega, fun q hq => by have := valid_len (validQ_mem h hq); omega⟩

set_option maxRecDepth 100000 in
theorem derive_any (r a b i j : Int) (h1 : 1 ≤ r) (h14 : r ≤ 14) (hp : ruP r = 1) (A : Option Addr) (n c : Nat) (P : List (List Int)) (B : Option Addr) (m d : Nat) (F : List Int) (w : World) (h : RdQ w w.heap.size A n P) (hf : RdI w w.heap.size B m F) (hv : inpV r i j F P P = true) (ht : Arit w) :
    Calls Tryz.prog (deF r) #[.agg #[Value.bool (ruI r), Value.bool (ruJ r), Value.bool (ruF r)], .slice A n c, Value.agg #[Value.int .i64 r, Value.int .i64 a, Value.int .i64 b, Value.int .i64 i, Value.int .i64 j, Value.slice B m d]] w (GivesD w (unR r i j F P)) := by
  have hl := h.len
  obtain ⟨hvp, _, hF, hI, hJ⟩ := inp_parts hv
  obtain ⟨hn, hq⟩ := q_lens hvp
  clear hv
  revert hJ
  revert hI
  revert hF
  revert hp
  revert h14
  revert h1
  revert r
  refine ru_cases ?_ ?_ ?_ ?_ ?_ ?_ ?_ ?_ ?_ ?_ ?_ ?_ ?_ ?_
  · intro hp; exact absurd hp (by decide)
  · intro hp; exact absurd hp (by decide)
  · intro hp; exact absurd hp (by decide)
  · intro _ hF hI hJ
    obtain ⟨ii, rfl, hii⟩ := hI (by decide)
    obtain ⟨jj, rfl, hjj⟩ := hJ (by decide)
    show Calls _ _ _ _ (GivesD w (if ii = jj then none else _))
    by_cases e : ii = jj
    · subst e; rw [if_pos rfl]; exact par_same _ _ _ _ _ _ _ _ B m d w
    · rw [if_neg e]; exact par_any _ _ _ _ _ _ ii jj A n c P B m d F w h hf (by omega) hq (by omega) (by omega) e
  · intro hp; exact absurd hp (by decide)
  · intro _ hF hI hJ
    exact bot_any _ _ _ _ _ _ _ _ A n c P B m d w h (by omega)
  · intro hp; exact absurd hp (by decide)
  · intro _ hF hI hJ
    obtain ⟨ii, rfl, hii⟩ := hI (by decide)
    have hFl := valid_len (hF (by decide))
    exact plusL_any _ _ _ _ _ _ _ ii A n c P B m d F w h hf (by omega) hq (by omega) ⟨by omega, by omega⟩
  · intro _ hF hI hJ
    obtain ⟨ii, rfl, hii⟩ := hI (by decide)
    have hFl := valid_len (hF (by decide))
    exact plusR_any _ _ _ _ _ _ _ ii A n c P B m d F w h hf (by omega) hq (by omega) ⟨by omega, by omega⟩
  · intro _ hF hI hJ
    obtain ⟨ii, rfl, hii⟩ := hI (by decide)
    exact prom_any _ _ _ _ _ _ _ ii A n c P B m d w h (by omega) hq (by omega) ht
  · intro _ hF hI hJ
    obtain ⟨ii, rfl, hii⟩ := hI (by decide)
    exact der_any _ _ _ _ _ _ _ ii A n c P B m d F w h hf (by omega) hq (by omega)
  · intro _ hF hI hJ
    have hFl := valid_len (hF (by decide))
    exact weak_any _ _ _ _ _ _ _ _ A n c P B m d F w h hf (by omega) hq ⟨by omega, by omega⟩
  · intro _ hF hI hJ
    obtain ⟨ii, rfl, hii⟩ := hI (by decide)
    obtain ⟨jj, rfl, hjj⟩ := hJ (by decide)
    show Calls _ _ _ _ (GivesD w (conR P ii jj))
    by_cases e : ii = jj
    · subst e; rw [show conR P ii ii = none from if_pos rfl]; exact con_same _ _ _ _ _ _ _ _ B m d w
    · exact con_any _ _ _ _ _ _ ii jj A n c P B m d w h (by omega) hq (by omega) (by omega) e ht
  · intro _ hF hI hJ
    obtain ⟨ii, rfl, hii⟩ := hI (by decide)
    obtain ⟨jj, rfl, hjj⟩ := hJ (by decide)
    show Calls _ _ _ _ (GivesD w (if jj ≤ ii then none else _))
    by_cases e : jj ≤ ii
    · rw [if_pos e]; exact swap_no _ _ _ _ _ _ _ _ _ B m d w (by omega)
    · rw [if_neg e]; exact swap_any _ _ _ _ _ _ ii jj A n c P B m d w h (by omega) (by omega) (by omega)

set_option maxRecDepth 100000 in
theorem combine_any (r a b i j : Int) (h1 : 1 ≤ r) (h14 : r ≤ 14) (hp : ruP r = 2) (A : Option Addr) (n c : Nat) (P : List (List Int)) (A2 : Option Addr) (n2 c2 : Nat) (Q : List (List Int)) (B : Option Addr) (m d : Nat) (F : List Int) (w : World) (h : RdQ w w.heap.size A n P) (h2 : RdQ w w.heap.size A2 n2 Q) (hv : inpV r i j F P Q = true) (ht : Arit w) (hu : Dual w) :
    Calls Tryz.prog (coF r) #[.agg #[Value.bool (ruI r), Value.bool (ruJ r), Value.bool (ruF r)], .slice A n c, .slice A2 n2 c2, Value.agg #[Value.int .i64 r, Value.int .i64 a, Value.int .i64 b, Value.int .i64 i, Value.int .i64 j, Value.slice B m d]] w (GivesD w (biR r i j P Q)) := by
  have hl := h.len
  have hl2 := h2.len
  obtain ⟨hvp, hvq, hF0, hI, hJ⟩ := inp_parts hv
  clear hF0
  obtain ⟨hn, hq⟩ := q_lens hvp
  obtain ⟨hn2, hq2⟩ := q_lens hvq
  clear hv
  revert hJ
  revert hI
  revert hp
  revert h14
  revert h1
  revert r
  refine ru_cases ?_ ?_ ?_ ?_ ?_ ?_ ?_ ?_ ?_ ?_ ?_ ?_ ?_ ?_
  · intro hp; exact absurd hp (by decide)
  · intro _ hI hJ
    obtain ⟨ii, rfl, hii⟩ := hI (by decide)
    obtain ⟨jj, rfl, hjj⟩ := hJ (by decide)
    exact cut_any _ _ _ _ _ _ ii jj A n c P A2 n2 c2 Q B m d w h h2 (by omega) (by omega) hq hq2 (by omega) (by omega) ht hu
  · intro _ hI hJ
    obtain ⟨ii, rfl, hii⟩ := hI (by decide)
    obtain ⟨jj, rfl, hjj⟩ := hJ (by decide)
    exact tensor_any _ _ _ _ _ _ ii jj A n c P A2 n2 c2 Q B m d w h h2 (by omega) (by omega) hq hq2 (by omega) (by omega)
  · intro hp; exact absurd hp (by decide)
  · intro hp; exact absurd hp (by decide)
  · intro hp; exact absurd hp (by decide)
  · intro _ hI hJ
    obtain ⟨ii, rfl, hii⟩ := hI (by decide)
    obtain ⟨jj, rfl, hjj⟩ := hJ (by decide)
    exact withRule_any _ _ _ _ _ _ ii jj A n c P A2 n2 c2 Q B m d w h h2 (by omega) (by omega) hq hq2 (by omega) (by omega)
  · intro hp; exact absurd hp (by decide)
  · intro hp; exact absurd hp (by decide)
  · intro hp; exact absurd hp (by decide)
  · intro hp; exact absurd hp (by decide)
  · intro hp; exact absurd hp (by decide)
  · intro hp; exact absurd hp (by decide)
  · intro hp; exact absurd hp (by decide)

/-- .. without premises. -/
def beR (r : Int) (F : List Int) : List (List Int) := if r = 1 then [F, dualL F] else [[13]]
set_option maxRecDepth 100000 in
theorem begin_any (r a b i j : Int) (h1 : 1 ≤ r) (h14 : r ≤ 14) (hp : ruP r = 0) (B : Option Addr) (m d : Nat) (F : List Int) (w : World) (hf : RdI w w.heap.size B m F) (hmd : m ≤ d) (ht : Arit w) (hu : Dual w) :
    Calls Tryz.prog (beF r) #[.agg #[Value.bool (ruI r), Value.bool (ruJ r), Value.bool (ruF r)], Value.agg #[Value.int .i64 r, Value.int .i64 a, Value.int .i64 b, Value.int .i64 i, Value.int .i64 j, Value.slice B m d]] w (GivesV w (beR r F)) := by
  revert hp
  revert h14
  revert h1
  revert r
  refine ru_cases ?_ ?_ ?_ ?_ ?_ ?_ ?_ ?_ ?_ ?_ ?_ ?_ ?_ ?_
  · intro _; exact ax_any _ _ _ _ _ _ _ _ B m d F w hf hmd ht hu
  · intro hp; exact absurd hp (by decide)
  · intro hp; exact absurd hp (by decide)
  · intro hp; exact absurd hp (by decide)
  · intro _; exact one_any _ _ _ _ _ _ _ _ B m d w
  · intro hp; exact absurd hp (by decide)
  · intro hp; exact absurd hp (by decide)
  · intro hp; exact absurd hp (by decide)
  · intro hp; exact absurd hp (by decide)
  · intro hp; exact absurd hp (by decide)
  · intro hp; exact absurd hp (by decide)
  · intro hp; exact absurd hp (by decide)
  · intro hp; exact absurd hp (by decide)
  · intro hp; exact absurd hp (by decide)
end
end Go.Proofs.YthbkcpacgnmcfaaGreatDoor
