/- The program's rules with two premises (cut). Made by mkckb.py. -/
import Derived.Test.YthbkcpacgnmcfaaGreatDoorQCkF
import Derived.Test.YthbkcpacgnmcfaaGreatDoorQJoinS
import Derived.Test.YthbkcpacgnmcfaaGreatDoorQClone
import Derived.Test.YthbkcpacgnmcfaaGreatDoorQSubA
namespace Go.Proofs.YthbkcpacgnmcfaaGreatDoor
set_option linter.unusedSimpArgs false
set_option linter.unusedVariables false
open Go.ChangeAt Go.ChangeShapes Go.RowKit Go.WideShapes
open List (setIfInBounds_toArray set_cons_zero set_cons_succ getElem_toArray getElem_cons_succ getElem_cons_zero)

def cutR (P Q : List (List Int)) (ii jj : Nat) : Option (List (List Int)) := if Q.getD jj [] = dualL (P.getD ii []) then some (woL P [((ii : Nat) : Int)] ++ woL Q [((jj : Nat) : Int)]) else none
theorem equal_b (A B : Option Addr) (n m c d : Nat) (zs ys : List Int) (w : World) (h : RdI w w.heap.size A n zs) (h' : RdI w w.heap.size B m ys) (hn : n ≤ 1048576) (hm : m ≤ 1048576) :
    Calls Tryz.prog 102 #[.slice A n c, .slice B m d] w fun e w' => e = .returned (.bool (decide (zs = ys))) ∧ Below w.heap.size w w' :=
  (equal_d A B n m c d zs ys w _ _ h h' hn hm).mono fun _ _ ⟨h1, m, h2⟩ => ⟨h1, by rw [h2]; exact below_drewN (Below.refl _ _) m⟩
set_option linter.unusedSimpArgs false in
set_option maxRecDepth 100000 in
set_option maxHeartbeats 8000000 in
theorem cut_any (x y z : Bool) (r a b : Int) (ii jj : Nat) (A : Option Addr) (n c : Nat) (P : List (List Int)) (A2 : Option Addr) (n2 c2 : Nat) (Q : List (List Int)) (B : Option Addr) (m d : Nat) (w : World) (h : RdQ w w.heap.size A n P) (h2 : RdQ w w.heap.size A2 n2 Q) (hn : n ≤ 10) (hn2 : n2 ≤ 10) (hq : ∀ q ∈ P, 0 < q.length ∧ q.length ≤ 24) (hq2 : ∀ q ∈ Q, 0 < q.length ∧ q.length ≤ 24) (hii : ii < n) (hjj : jj < n2) (ht : Arit w) (hu : Dual w) :
    Calls Tryz.prog 101 #[.agg #[.bool x, .bool y, .bool z], .slice A n c, .slice A2 n2 c2, Value.agg #[Value.int .i64 r, Value.int .i64 a, Value.int .i64 b, Value.int .i64 ((ii : Nat) : Int), Value.int .i64 ((jj : Nat) : Int), Value.slice B m d]] w (GivesD w (cutR P Q ii jj)) := by
  obtain ⟨i0, hi0, hz0, hz1, hz2⟩ := info_parts_s
  have HI := Lib.hid hi0; have HZ0 := Lib.hid hz0; have HZ1 := Lib.hid hz1; have HZ2 := Lib.hid hz2
  have hl := h.len
  subst hl
  have hl2 := h2.len
  subst hl2
  obtain ⟨u, hu0⟩ : ∃ u, u = (w.alloc (.cells #[Value.bool x, Value.bool y, Value.bool z] 93)).alloc (.cells #[Value.int .i64 r, Value.int .i64 a, Value.int .i64 b, Value.int .i64 ((ii : Nat) : Int), Value.int .i64 ((jj : Nat) : Int), Value.slice B m d] 43) := ⟨_, rfl⟩
  obtain ⟨hb, p0, p1, hsz⟩ := two_any w (.cells #[Value.bool x, Value.bool y, Value.bool z] 93) (.cells #[Value.int .i64 r, Value.int .i64 a, Value.int .i64 b, Value.int .i64 ((ii : Nat) : Int), Value.int .i64 ((jj : Nat) : Int), Value.slice B m d] 43)
  rw [← hu0] at hb p0 p1 hsz
  have HU0 := Lib.hid hu0; have HBU := Lib.hid hb; have HP1 := Lib.hid p1; have HP := Lib.hid ((h.below hb).more hb.size); have HQ := Lib.hid ((h2.below hb).more hb.size)
  obtain ⟨bp, op, rfl, hbp, hcp⟩ := h.2 (by omega)
  obtain ⟨bq, oq, rfl, hbq, hcq⟩ := h2.2 (by omega)
  obtain ⟨AI, cI, kI, mI, rI⟩ := hcp ii (by omega)
  obtain ⟨AJ, cJ, kJ, mJ, rJ⟩ := hcq jj (by omega)
  have HRI := Lib.hid ((rI.below hb).more hb.size); have HRJ := Lib.hid ((rJ.below hb).more hb.size)
  have hlI : 0 < (P.getD ii []).length ∧ (P.getD ii []).length ≤ 24 := hq _ (getD_mem (by omega))
  have hlJ : 0 < (Q.getD jj []).length ∧ (Q.getD jj []).length ≤ 24 := hq2 _ (getD_mem (by omega))
  have HSX : Hid (∀ wx, Below u.heap.size u wx → wx.cell? ⟨w.heap.size + 1, 3, none⟩ = some (.int .i64 ((ii : Nat) : Int)) ∧ wx.cell? ⟨w.heap.size + 1, 4, none⟩ = some (.int .i64 ((jj : Nat) : Int)) ∧ wx.cell? ⟨bp, op + ii, none⟩ = some (.slice AI (P.getD ii []).length cI) ∧ wx.cell? ⟨bq, oq + jj, none⟩ = some (.slice AJ (Q.getD jj []).length cJ)) := Lib.hid fun wx hx => by
    have q := (hx.block (w.heap.size + 1) (by omega)).trans p1
    exact ⟨cell_of_row _ _ 3 _ _ (0, 0) q, cell_of_row _ _ 4 _ _ (0, 0) q, ((hb.trans (hx.mono hb.size)).cell (p := ⟨bp, op + ii, none⟩) hbp).trans kI, ((hb.trans (hx.mono hb.size)).cell (p := ⟨bq, oq + jj, none⟩) hbq).trans kJ⟩
  have K0 := Lib.hid (HSX.out u (Below.refl _ _))
  have hwo1 := fun (wx : World) (g : Nat) (hx : Below u.heap.size u wx) (hg : wx.heap[g]? = some (.cells #[Value.int .i64 ((ii : Nat) : Int)] 2 (0, 0))) => without_any (some ⟨bp, op, none⟩) P.length c P (some ⟨g, 0, none⟩) 1 1 [((ii : Nat) : Int)] wx ((HP.out.below hx).more hx.size) (rd_lit hg) (by omega) (by omega)
  obtain ⟨R1, hR1⟩ : ∃ R, woL P [((ii : Nat) : Int)] = R := ⟨_, rfl⟩
  have hR19 : R1.length ≤ 10 := by rw [← hR1]; exact Nat.le_trans (woK_len _ _ _) hn
  rw [hR1] at hwo1
  have HWO1 := Lib.hid hwo1; have HR19 := Lib.hid hR19
  have hwo2 := fun (wx : World) (g : Nat) (hx : Below u.heap.size u wx) (hg : wx.heap[g]? = some (.cells #[Value.int .i64 ((jj : Nat) : Int)] 2 (0, 0))) => without_any (some ⟨bq, oq, none⟩) Q.length c2 Q (some ⟨g, 0, none⟩) 1 1 [((jj : Nat) : Int)] wx ((HQ.out.below hx).more hx.size) (rd_lit hg) (by omega) (by omega)
  obtain ⟨R2, hR2⟩ : ∃ R, woL Q [((jj : Nat) : Int)] = R := ⟨_, rfl⟩
  have hR29 : R2.length ≤ 10 := by rw [← hR2]; exact Nat.le_trans (woK_len _ _ _) hn2
  rw [hR2] at hwo2
  have HWO2 := Lib.hid hwo2; have HR29 := Lib.hid hR29
  have hai : ((ii : Nat) : Int) < (P.length : Int) := by omega
  have haj : ((jj : Nat) : Int) < (Q.length : Int) := by omega
  have hdu := fun (wx : World) (hx : Below u.heap.size u wx) => dualOf_impl AI (P.getD ii []).length cI (P.getD ii []) wx ((HRI.out.below hx).more hx.size) (ht.below (HBU.out.trans (hx.mono HBU.out.size)) ht.lt) (hu.below (HBU.out.trans (hx.mono HBU.out.size)) hu.lt) mI
  obtain ⟨D, hD⟩ : ∃ D, dualL (P.getD ii []) = D := ⟨_, rfl⟩
  have hD9 : D.length ≤ 24 := by rw [← hD]; exact dualL_len _
  rw [hD] at hdu
  have HDU := Lib.hid hdu
  have heq := fun (wx : World) (AD : Option Addr) (cD : Nat) (hx : Below u.heap.size u wx) (hd : RdI wx wx.heap.size AD D.length D) => equal_b AJ AD (Q.getD jj []).length D.length cJ cD (Q.getD jj []) D wx ((HRJ.out.below hx).more hx.size) hd (by omega) (by omega)
  by_cases hm : Q.getD jj [] = D
  · have hcr : cutR P Q ii jj = some (R1 ++ R2) := by unfold cutR; rw [hD, if_pos hm, hR1, hR2]
    rw [hcr]
    simp only [decide_eq_true hm] at heq
    have HEQ := Lib.hid heq
    clear hcr hu0 hb p0 p1 hwo1 hwo2 hR1 hR2 hR19 hR29 h h2 hcp hcq hi0 hz0 hz1 hz2 kI kJ rI rJ hq hq2 hdu hD hD9 heq hlI hlJ mI mJ ht hu hm
    generalize (P.getD ii []).length = NI at *
    generalize (Q.getD jj []).length = NJ at *
    go_enter Tryz.func101, Tryz.ntmps101
    go_upto_region 1 with (fail)
    rw [← HU0.out]
    have FB_0 := Lib.hid (Below.refl u.heap.size u)
    refine wp_region_held_drew (S := fun wx => wx.cell? ⟨w.heap.size + 1, 3, none⟩ = some (.int .i64 ((ii : Nat) : Int)) ∧ wx.cell? ⟨w.heap.size + 1, 4, none⟩ = some (.int .i64 ((jj : Nat) : Int)) ∧ wx.cell? ⟨bp, op + ii, none⟩ = some (.slice AI NI cI) ∧ wx.cell? ⟨bq, oq + jj, none⟩ = some (.slice AJ NJ cJ)) (by kernel_rfl) K0.out (fun hHeld => ?_)
    obtain ⟨wq1, hwq1⟩ : ∃ w', w' = u.drew := ⟨_, rfl⟩
    rw [← hwq1] at hHeld ⊢
    have bq1 : Below u.heap.size u wq1 := by rw [hwq1]; exact (Below.refl _ _).drew
    clear hwq1
    have FB_q2 := Lib.hid ((FB_0.out).trans ((bq1).mono (FB_0.out).size))
    clear FB_0
    refine tk (i := 0) (h := ?_)
    (try simp only [Act.put, setIfInBounds_toArray, set_cons_zero, set_cons_succ])
    refine tk (i := 1) (h := ?_)
    (try simp only [Act.put, setIfInBounds_toArray, set_cons_zero, set_cons_succ])
    refine tk (i := 5) (h := ?_)
    (try simp only [Act.put, setIfInBounds_toArray, set_cons_zero, set_cons_succ])
    refine tk (i := 6) (h := ?_)
    (try simp only [Act.put, setIfInBounds_toArray, set_cons_zero, set_cons_succ])
    refine tk (i := 2) (h := ?_)
    (try simp only [Act.put, setIfInBounds_toArray, set_cons_zero, set_cons_succ])
    refine tk (i := 7) (h := ?_)
    (try simp only [Act.put, setIfInBounds_toArray, set_cons_zero, set_cons_succ])
    refine tk (i := 3) (h := ?_)
    (try simp only [Act.put, setIfInBounds_toArray, set_cons_zero, set_cons_succ])
    refine tk (i := 8) (h := ?_)
    (try simp only [Act.put, setIfInBounds_toArray, set_cons_zero, set_cons_succ])
    refine tk (i := 4) (h := ?_)
    (try simp only [Act.put, setIfInBounds_toArray, set_cons_zero, set_cons_succ])
    refine tk (i := 9) (h := ?_)
    (try simp only [Act.put, setIfInBounds_toArray, set_cons_zero, set_cons_succ])
    refine t1 (i := 10) (h := fun K hK => ?_)
    go_simp
    refine (HDU.out wq1 FB_q2.out).mono ?_
    rintro e wq13 ⟨AD, cD, rfl, oq13, belq13⟩
    dsimp only
    have FB_q14 := Lib.hid ((FB_q2.out).trans ((belq13).mono (FB_q2.out).size))
    clear FB_q2
    have FD_q13 := Lib.hid (RdI.of_own oq13)
    clear oq13 belq13
    refine hK.out _ _ (HSX.out _ FB_q14.out) (fun hHeld => ?_)
    clear hK K
    (try simp only [Act.put, setIfInBounds_toArray, set_cons_zero, set_cons_succ])
    refine t1 (i := 11) (h := fun K hK => ?_)
    go_simp
    refine (HEQ.out wq13 AD cD FB_q14.out FD_q13.out).mono ?_
    rintro e wq15 ⟨rfl, belq15⟩
    dsimp only
    have FB_q16 := Lib.hid ((FB_q14.out).trans ((belq15).mono (FB_q14.out).size))
    have FD_q17 := Lib.hid (((FD_q13.out).below (belq15)).more (belq15).size)
    clear FB_q14 FD_q13
    clear belq15
    refine hK.out _ _ (HSX.out _ FB_q16.out) (fun hHeld => ?_)
    clear hK K
    (try simp only [Act.put, setIfInBounds_toArray, set_cons_zero, set_cons_succ])
    refine tk (i := 12) (h := ?_)
    (try simp only [Act.put, setIfInBounds_toArray, set_cons_zero, set_cons_succ])
    refine wpAnyH_done (by kernel_rfl) ?_ _
    go_upto_region 3 with (fail)
    refine wp_region_held_drew (S := fun wx => wx.cell? ⟨w.heap.size + 1, 3, none⟩ = some (.int .i64 ((ii : Nat) : Int)) ∧ wx.cell? ⟨w.heap.size + 1, 4, none⟩ = some (.int .i64 ((jj : Nat) : Int)) ∧ wx.cell? ⟨bp, op + ii, none⟩ = some (.slice AI NI cI) ∧ wx.cell? ⟨bq, oq + jj, none⟩ = some (.slice AJ NJ cJ)) (by kernel_rfl) (HSX.out wq15 FB_q16.out) (fun hHeld => ?_)
    obtain ⟨wsq191, hwsq191⟩ : ∃ w', w' = wq15.drew := ⟨_, rfl⟩
    rw [← hwsq191] at hHeld ⊢
    have bsq191 : Below wq15.heap.size wq15 wsq191 := by rw [hwsq191]; exact (Below.refl _ _).drew
    clear hwsq191
    have FB_sq192 := Lib.hid ((FB_q16.out).trans ((bsq191).mono (FB_q16.out).size))
    clear FB_q16
    refine tk (i := 0) (h := ?_)
    (try simp only [Act.put, setIfInBounds_toArray, set_cons_zero, set_cons_succ])
    refine tk (i := 1) (h := ?_)
    (try simp only [Act.put, setIfInBounds_toArray, set_cons_zero, set_cons_succ])
    refine tk (i := 5) (h := ?_)
    (try simp only [Act.put, setIfInBounds_toArray, set_cons_zero, set_cons_succ])
    refine tk (i := 6) (h := ?_)
    (try simp only [Act.put, setIfInBounds_toArray, set_cons_zero, set_cons_succ])
    refine tk (i := 2) (h := ?_)
    (try simp only [Act.put, setIfInBounds_toArray, set_cons_zero, set_cons_succ])
    refine tk (i := 7) (h := ?_)
    (try simp only [Act.put, setIfInBounds_toArray, set_cons_zero, set_cons_succ])
    refine wpAnyH_ready (rs := [3, 8]) (by kernel_rfl) (by simp) ?_
    refine AllReadyH.cons rfl (fun K hK => ?_) ?_
    · go_simp
      obtain ⟨wsq199, hwsq199⟩ : ∃ w', w' = wsq191.alloc (.cells #[Value.int .i64 ((ii : Nat) : Int)] 2) := ⟨_, rfl⟩
      rw [← hwsq199]
      have bsq199 := al hwsq199
      have gsq199 := an hwsq199
      clear hwsq199
      have FB_sq1910 := Lib.hid ((FB_sq192.out).trans ((bsq199).mono (FB_sq192.out).size))
      clear FB_sq192
      obtain ⟨glsq1911, hgsq1911⟩ : ∃ b, wsq191.heap.size = b := ⟨_, rfl⟩
      have FL_sq1911 := Lib.hid gsq199
      rw [hgsq1911] at FL_sq1911 ⊢
      clear hgsq1911 gsq199 bsq199
      refine hK.out _ _ (HSX.out _ FB_sq1910.out) (fun hHeld => ?_)
      clear hK K
      (try simp only [Act.put, setIfInBounds_toArray, set_cons_zero, set_cons_succ])
      refine wpAnyH_ready (rs := [4, 8]) (by kernel_rfl) (by simp) ?_
      refine AllReadyH.cons rfl (fun K hK => ?_) ?_
      · go_simp
        have KB1sq1912 := Lib.hid FB_sq1910.out
        refine (HWO1.out wsq199 glsq1911 FB_sq1910.out FL_sq1911.out).mono ?_
        rintro e wsq1912 ⟨A14, c14, vs14, rfl, osq1912, rsq1912, belsq1912⟩
        dsimp only
        have FB_sq1913 := Lib.hid ((FB_sq1910.out).trans ((belsq1912).mono (FB_sq1910.out).size))
        have FL_sq1914 := Lib.hid (((belsq1912).block _ (Array.getElem?_eq_some_iff.1 (FL_sq1911.out)).1).trans (FL_sq1911.out))
        clear FB_sq1910 FL_sq1911
        have FQ1_sq1912 := Lib.hid belsq1912; have FO1_sq1912 := Lib.hid osq1912; have KR1sq1912 := Lib.hid rsq1912
        clear osq1912 rsq1912 belsq1912
        refine hK.out _ _ (HSX.out _ FB_sq1913.out) (fun hHeld => ?_)
        clear hK K
        (try simp only [Act.put, setIfInBounds_toArray, set_cons_zero, set_cons_succ])
        refine t1 (i := 8) (h := fun K hK => ?_)
        go_simp
        obtain ⟨wsq1915, hwsq1915⟩ : ∃ w', w' = wsq1912.alloc (.cells #[Value.int .i64 ((jj : Nat) : Int)] 2) := ⟨_, rfl⟩
        rw [← hwsq1915]
        have bsq1915 := al hwsq1915
        have gsq1915 := an hwsq1915
        clear hwsq1915
        have FB_sq1916 := Lib.hid ((FB_sq1913.out).trans ((bsq1915).mono (FB_sq1913.out).size))
        have FL_sq1917 := Lib.hid (((bsq1915).block _ (Array.getElem?_eq_some_iff.1 (FL_sq1914.out)).1).trans (FL_sq1914.out))
        have FQ1_sq1918 := Lib.hid ((FQ1_sq1912.out).trans ((bsq1915).mono (FQ1_sq1912.out).size))
        have FO1_sq1919 := Lib.hid (own_below (FO1_sq1912.out) (bsq1915) (Nat.le_refl _))
        clear FB_sq1913 FL_sq1914 FQ1_sq1912 FO1_sq1912
        obtain ⟨gksq1920, hgsq1920⟩ : ∃ b, wsq1912.heap.size = b := ⟨_, rfl⟩
        have FK_sq1920 := Lib.hid gsq1915
        rw [hgsq1920] at FK_sq1920 ⊢
        clear hgsq1920 gsq1915 bsq1915
        refine hK.out _ _ (HSX.out _ FB_sq1916.out) (fun hHeld => ?_)
        clear hK K
        (try simp only [Act.put, setIfInBounds_toArray, set_cons_zero, set_cons_succ])
        refine t1 (i := 9) (h := fun K hK => ?_)
        go_simp
        have KB2sq1921 := Lib.hid FB_sq1916.out
        refine (HWO2.out wsq1915 gksq1920 FB_sq1916.out FK_sq1920.out).mono ?_
        rintro e wsq1921 ⟨A24, c24, vs24, rfl, osq1921, rsq1921, belsq1921⟩
        dsimp only
        have FB_sq1922 := Lib.hid ((FB_sq1916.out).trans ((belsq1921).mono (FB_sq1916.out).size))
        have FL_sq1923 := Lib.hid (((belsq1921).block _ (Array.getElem?_eq_some_iff.1 (FL_sq1917.out)).1).trans (FL_sq1917.out))
        have FQ1_sq1924 := Lib.hid ((FQ1_sq1918.out).trans ((belsq1921).mono (FQ1_sq1918.out).size))
        have FO1_sq1925 := Lib.hid (own_below (FO1_sq1919.out) (belsq1921) (Nat.le_refl _))
        have FK_sq1926 := Lib.hid (((belsq1921).block _ (Array.getElem?_eq_some_iff.1 (FK_sq1920.out)).1).trans (FK_sq1920.out))
        clear FB_sq1916 FL_sq1917 FQ1_sq1918 FO1_sq1919 FK_sq1920
        have FQ2_sq1921 := Lib.hid belsq1921; have FO2_sq1921 := Lib.hid osq1921; have KR2sq1921 := Lib.hid rsq1921
        clear osq1921 rsq1921 belsq1921
        refine hK.out _ _ (HSX.out _ FB_sq1922.out) (fun hHeld => ?_)
        clear hK K
        (try simp only [Act.put, setIfInBounds_toArray, set_cons_zero, set_cons_succ])
        refine t1 (i := 10) (h := fun K hK => ?_)
        go_simp
        obtain ⟨wsq1927, hwsq1927⟩ : ∃ w', w' = wsq1921.alloc (.cells #[Value.slice A14 R1.length c14, Value.slice A24 R2.length c24] 23) := ⟨_, rfl⟩
        rw [← hwsq1927]
        have bsq1927 := al hwsq1927
        have gsq1927 := an hwsq1927
        clear hwsq1927
        have FB_sq1928 := Lib.hid ((FB_sq1922.out).trans ((bsq1927).mono (FB_sq1922.out).size))
        have FL_sq1929 := Lib.hid (((bsq1927).block _ (Array.getElem?_eq_some_iff.1 (FL_sq1923.out)).1).trans (FL_sq1923.out))
        have FQ1_sq1930 := Lib.hid ((FQ1_sq1924.out).trans ((bsq1927).mono (FQ1_sq1924.out).size))
        have FO1_sq1931 := Lib.hid (own_below (FO1_sq1925.out) (bsq1927) (Nat.le_refl _))
        have FK_sq1932 := Lib.hid (((bsq1927).block _ (Array.getElem?_eq_some_iff.1 (FK_sq1926.out)).1).trans (FK_sq1926.out))
        have FQ2_sq1933 := Lib.hid ((FQ2_sq1921.out).trans ((bsq1927).mono (FQ2_sq1921.out).size))
        have FO2_sq1934 := Lib.hid (own_below (FO2_sq1921.out) (bsq1927) (Nat.le_refl _))
        clear FB_sq1922 FL_sq1923 FQ1_sq1924 FO1_sq1925 FK_sq1926 FQ2_sq1921 FO2_sq1921
        obtain ⟨gfsq1935, hgsq1935⟩ : ∃ b, wsq1921.heap.size = b := ⟨_, rfl⟩
        have FF_sq1935 := Lib.hid gsq1927
        rw [hgsq1935] at FF_sq1935 ⊢
        clear hgsq1935 gsq1927 bsq1927
        refine hK.out _ _ (HSX.out _ FB_sq1928.out) (fun hHeld => ?_)
        clear hK K
        (try simp only [Act.put, setIfInBounds_toArray, set_cons_zero, set_cons_succ])
        refine t1 (i := 11) (h := fun K hK => ?_)
        go_simp
        have KBsq1936 := Lib.hid FB_sq1928.out
        have KRZsq1936 := Lib.hid (RdV.app (RdV.below KR1sq1912.out FQ1_sq1930.out) (RdV.below KR2sq1921.out FQ2_sq1933.out))
        refine (concatQ_any gfsq1935 2 A14 A24 R1.length R2.length c14 c24 _ _ vs14 vs24 wsq1927 FF_sq1935.out FO1_sq1931.out FO2_sq1934.out KR1sq1912.out.one KR2sq1921.out.one (by have := HR19.out; omega) (by have := HR29.out; omega)).mono ?_
        rintro e wsq1936 ⟨A4, c4, rfl, osq1936, belsq1936⟩
        dsimp only
        have FB_sq1937 := Lib.hid ((FB_sq1928.out).trans ((belsq1936).mono (FB_sq1928.out).size))
        have FL_sq1938 := Lib.hid (((belsq1936).block _ (Array.getElem?_eq_some_iff.1 (FL_sq1929.out)).1).trans (FL_sq1929.out))
        have FQ1_sq1939 := Lib.hid ((FQ1_sq1930.out).trans ((belsq1936).mono (FQ1_sq1930.out).size))
        have FO1_sq1940 := Lib.hid (own_below (FO1_sq1931.out) (belsq1936) (Nat.le_refl _))
        have FK_sq1941 := Lib.hid (((belsq1936).block _ (Array.getElem?_eq_some_iff.1 (FK_sq1932.out)).1).trans (FK_sq1932.out))
        have FQ2_sq1942 := Lib.hid ((FQ2_sq1933.out).trans ((belsq1936).mono (FQ2_sq1933.out).size))
        have FO2_sq1943 := Lib.hid (own_below (FO2_sq1934.out) (belsq1936) (Nat.le_refl _))
        have FF_sq1944 := Lib.hid (((belsq1936).block _ (Array.getElem?_eq_some_iff.1 (FF_sq1935.out)).1).trans (FF_sq1935.out))
        clear FB_sq1928 FL_sq1929 FQ1_sq1930 FO1_sq1931 FK_sq1932 FQ2_sq1933 FO2_sq1934 FF_sq1935
        have FQ_sq1936 := Lib.hid belsq1936; have FO_sq1936 := Lib.hid osq1936
        clear osq1936 belsq1936
        refine hK.out _ _ (HSX.out _ FB_sq1937.out) (fun hHeld => ?_)
        clear hK K
        (try simp only [Act.put, setIfInBounds_toArray, set_cons_zero, set_cons_succ])
        refine t1 (i := 12) (h := fun K hK => ?_)
        go_simp
        refine hK.out _ _ hHeld (fun hHeld => ?_)
        clear hK K
        (try simp only [Act.put, setIfInBounds_toArray, set_cons_zero, set_cons_succ])
        refine t1 (i := 13) (h := fun K hK => ?_)
        go_simp
        refine hK.out _ _ hHeld (fun hHeld => ?_)
        clear hK K
        (try simp only [Act.put, setIfInBounds_toArray, set_cons_zero, set_cons_succ])
        refine wpAnyH_done (by kernel_rfl) ?_ _
        go_wp2
        go_ret2
        exact ⟨HBU.out.trans (FB_sq1937.out.mono HBU.out.size), A4, c4, vs14 ++ vs24, by rw [List.length_append]; rfl, by rw [List.length_append]; exact own_base FO_sq1936.out (Nat.le_trans HBU.out.size KBsq1936.out.size), RdV.below KRZsq1936.out FQ_sq1936.out⟩
      refine AllReadyH.cons rfl (fun K hK => ?_) ?_
      · go_simp
        obtain ⟨wsq1945, hwsq1945⟩ : ∃ w', w' = wsq199.alloc (.cells #[Value.int .i64 ((jj : Nat) : Int)] 2) := ⟨_, rfl⟩
        rw [← hwsq1945]
        have bsq1945 := al hwsq1945
        have gsq1945 := an hwsq1945
        clear hwsq1945
        have FB_sq1946 := Lib.hid ((FB_sq1910.out).trans ((bsq1945).mono (FB_sq1910.out).size))
        have FL_sq1947 := Lib.hid (((bsq1945).block _ (Array.getElem?_eq_some_iff.1 (FL_sq1911.out)).1).trans (FL_sq1911.out))
        clear FB_sq1910 FL_sq1911
        obtain ⟨gksq1948, hgsq1948⟩ : ∃ b, wsq199.heap.size = b := ⟨_, rfl⟩
        have FK_sq1948 := Lib.hid gsq1945
        rw [hgsq1948] at FK_sq1948 ⊢
        clear hgsq1948 gsq1945 bsq1945
        refine hK.out _ _ (HSX.out _ FB_sq1946.out) (fun hHeld => ?_)
        clear hK K
        (try simp only [Act.put, setIfInBounds_toArray, set_cons_zero, set_cons_succ])
        refine t1 (i := 4) (h := fun K hK => ?_)
        go_simp
        have KB1sq1949 := Lib.hid FB_sq1946.out
        refine (HWO1.out wsq1945 glsq1911 FB_sq1946.out FL_sq1947.out).mono ?_
        rintro e wsq1949 ⟨A14, c14, vs14, rfl, osq1949, rsq1949, belsq1949⟩
        dsimp only
        have FB_sq1950 := Lib.hid ((FB_sq1946.out).trans ((belsq1949).mono (FB_sq1946.out).size))
        have FL_sq1951 := Lib.hid (((belsq1949).block _ (Array.getElem?_eq_some_iff.1 (FL_sq1947.out)).1).trans (FL_sq1947.out))
        have FK_sq1952 := Lib.hid (((belsq1949).block _ (Array.getElem?_eq_some_iff.1 (FK_sq1948.out)).1).trans (FK_sq1948.out))
        clear FB_sq1946 FL_sq1947 FK_sq1948
        have FQ1_sq1949 := Lib.hid belsq1949; have FO1_sq1949 := Lib.hid osq1949; have KR1sq1949 := Lib.hid rsq1949
        clear osq1949 rsq1949 belsq1949
        refine hK.out _ _ (HSX.out _ FB_sq1950.out) (fun hHeld => ?_)
        clear hK K
        (try simp only [Act.put, setIfInBounds_toArray, set_cons_zero, set_cons_succ])
        refine t1 (i := 9) (h := fun K hK => ?_)
        go_simp
        have KB2sq1953 := Lib.hid FB_sq1950.out
        refine (HWO2.out wsq1949 gksq1948 FB_sq1950.out FK_sq1952.out).mono ?_
        rintro e wsq1953 ⟨A24, c24, vs24, rfl, osq1953, rsq1953, belsq1953⟩
        dsimp only
        have FB_sq1954 := Lib.hid ((FB_sq1950.out).trans ((belsq1953).mono (FB_sq1950.out).size))
        have FL_sq1955 := Lib.hid (((belsq1953).block _ (Array.getElem?_eq_some_iff.1 (FL_sq1951.out)).1).trans (FL_sq1951.out))
        have FK_sq1956 := Lib.hid (((belsq1953).block _ (Array.getElem?_eq_some_iff.1 (FK_sq1952.out)).1).trans (FK_sq1952.out))
        have FQ1_sq1957 := Lib.hid ((FQ1_sq1949.out).trans ((belsq1953).mono (FQ1_sq1949.out).size))
        have FO1_sq1958 := Lib.hid (own_below (FO1_sq1949.out) (belsq1953) (Nat.le_refl _))
        clear FB_sq1950 FL_sq1951 FK_sq1952 FQ1_sq1949 FO1_sq1949
        have FQ2_sq1953 := Lib.hid belsq1953; have FO2_sq1953 := Lib.hid osq1953; have KR2sq1953 := Lib.hid rsq1953
        clear osq1953 rsq1953 belsq1953
        refine hK.out _ _ (HSX.out _ FB_sq1954.out) (fun hHeld => ?_)
        clear hK K
        (try simp only [Act.put, setIfInBounds_toArray, set_cons_zero, set_cons_succ])
        refine t1 (i := 10) (h := fun K hK => ?_)
        go_simp
        obtain ⟨wsq1959, hwsq1959⟩ : ∃ w', w' = wsq1953.alloc (.cells #[Value.slice A14 R1.length c14, Value.slice A24 R2.length c24] 23) := ⟨_, rfl⟩
        rw [← hwsq1959]
        have bsq1959 := al hwsq1959
        have gsq1959 := an hwsq1959
        clear hwsq1959
        have FB_sq1960 := Lib.hid ((FB_sq1954.out).trans ((bsq1959).mono (FB_sq1954.out).size))
        have FL_sq1961 := Lib.hid (((bsq1959).block _ (Array.getElem?_eq_some_iff.1 (FL_sq1955.out)).1).trans (FL_sq1955.out))
        have FK_sq1962 := Lib.hid (((bsq1959).block _ (Array.getElem?_eq_some_iff.1 (FK_sq1956.out)).1).trans (FK_sq1956.out))
        have FQ1_sq1963 := Lib.hid ((FQ1_sq1957.out).trans ((bsq1959).mono (FQ1_sq1957.out).size))
        have FO1_sq1964 := Lib.hid (own_below (FO1_sq1958.out) (bsq1959) (Nat.le_refl _))
        have FQ2_sq1965 := Lib.hid ((FQ2_sq1953.out).trans ((bsq1959).mono (FQ2_sq1953.out).size))
        have FO2_sq1966 := Lib.hid (own_below (FO2_sq1953.out) (bsq1959) (Nat.le_refl _))
        clear FB_sq1954 FL_sq1955 FK_sq1956 FQ1_sq1957 FO1_sq1958 FQ2_sq1953 FO2_sq1953
        obtain ⟨gfsq1967, hgsq1967⟩ : ∃ b, wsq1953.heap.size = b := ⟨_, rfl⟩
        have FF_sq1967 := Lib.hid gsq1959
        rw [hgsq1967] at FF_sq1967 ⊢
        clear hgsq1967 gsq1959 bsq1959
        refine hK.out _ _ (HSX.out _ FB_sq1960.out) (fun hHeld => ?_)
        clear hK K
        (try simp only [Act.put, setIfInBounds_toArray, set_cons_zero, set_cons_succ])
        refine t1 (i := 11) (h := fun K hK => ?_)
        go_simp
        have KBsq1968 := Lib.hid FB_sq1960.out
        have KRZsq1968 := Lib.hid (RdV.app (RdV.below KR1sq1949.out FQ1_sq1963.out) (RdV.below KR2sq1953.out FQ2_sq1965.out))
        refine (concatQ_any gfsq1967 2 A14 A24 R1.length R2.length c14 c24 _ _ vs14 vs24 wsq1959 FF_sq1967.out FO1_sq1964.out FO2_sq1966.out KR1sq1949.out.one KR2sq1953.out.one (by have := HR19.out; omega) (by have := HR29.out; omega)).mono ?_
        rintro e wsq1968 ⟨A4, c4, rfl, osq1968, belsq1968⟩
        dsimp only
        have FB_sq1969 := Lib.hid ((FB_sq1960.out).trans ((belsq1968).mono (FB_sq1960.out).size))
        have FL_sq1970 := Lib.hid (((belsq1968).block _ (Array.getElem?_eq_some_iff.1 (FL_sq1961.out)).1).trans (FL_sq1961.out))
        have FK_sq1971 := Lib.hid (((belsq1968).block _ (Array.getElem?_eq_some_iff.1 (FK_sq1962.out)).1).trans (FK_sq1962.out))
        have FQ1_sq1972 := Lib.hid ((FQ1_sq1963.out).trans ((belsq1968).mono (FQ1_sq1963.out).size))
        have FO1_sq1973 := Lib.hid (own_below (FO1_sq1964.out) (belsq1968) (Nat.le_refl _))
        have FQ2_sq1974 := Lib.hid ((FQ2_sq1965.out).trans ((belsq1968).mono (FQ2_sq1965.out).size))
        have FO2_sq1975 := Lib.hid (own_below (FO2_sq1966.out) (belsq1968) (Nat.le_refl _))
        have FF_sq1976 := Lib.hid (((belsq1968).block _ (Array.getElem?_eq_some_iff.1 (FF_sq1967.out)).1).trans (FF_sq1967.out))
        clear FB_sq1960 FL_sq1961 FK_sq1962 FQ1_sq1963 FO1_sq1964 FQ2_sq1965 FO2_sq1966 FF_sq1967
        have FQ_sq1968 := Lib.hid belsq1968; have FO_sq1968 := Lib.hid osq1968
        clear osq1968 belsq1968
        refine hK.out _ _ (HSX.out _ FB_sq1969.out) (fun hHeld => ?_)
        clear hK K
        (try simp only [Act.put, setIfInBounds_toArray, set_cons_zero, set_cons_succ])
        refine t1 (i := 12) (h := fun K hK => ?_)
        go_simp
        refine hK.out _ _ hHeld (fun hHeld => ?_)
        clear hK K
        (try simp only [Act.put, setIfInBounds_toArray, set_cons_zero, set_cons_succ])
        refine t1 (i := 13) (h := fun K hK => ?_)
        go_simp
        refine hK.out _ _ hHeld (fun hHeld => ?_)
        clear hK K
        (try simp only [Act.put, setIfInBounds_toArray, set_cons_zero, set_cons_succ])
        refine wpAnyH_done (by kernel_rfl) ?_ _
        go_wp2
        go_ret2
        exact ⟨HBU.out.trans (FB_sq1969.out.mono HBU.out.size), A4, c4, vs14 ++ vs24, by rw [List.length_append]; rfl, by rw [List.length_append]; exact own_base FO_sq1968.out (Nat.le_trans HBU.out.size KBsq1968.out.size), RdV.below KRZsq1968.out FQ_sq1968.out⟩
      exact AllReadyH.nil
    refine AllReadyH.cons rfl (fun K hK => ?_) ?_
    · go_simp
      obtain ⟨wsq1977, hwsq1977⟩ : ∃ w', w' = wsq191.alloc (.cells #[Value.int .i64 ((jj : Nat) : Int)] 2) := ⟨_, rfl⟩
      rw [← hwsq1977]
      have bsq1977 := al hwsq1977
      have gsq1977 := an hwsq1977
      clear hwsq1977
      have FB_sq1978 := Lib.hid ((FB_sq192.out).trans ((bsq1977).mono (FB_sq192.out).size))
      clear FB_sq192
      obtain ⟨gksq1979, hgsq1979⟩ : ∃ b, wsq191.heap.size = b := ⟨_, rfl⟩
      have FK_sq1979 := Lib.hid gsq1977
      rw [hgsq1979] at FK_sq1979 ⊢
      clear hgsq1979 gsq1977 bsq1977
      refine hK.out _ _ (HSX.out _ FB_sq1978.out) (fun hHeld => ?_)
      clear hK K
      (try simp only [Act.put, setIfInBounds_toArray, set_cons_zero, set_cons_succ])
      refine t1 (i := 3) (h := fun K hK => ?_)
      go_simp
      obtain ⟨wsq1980, hwsq1980⟩ : ∃ w', w' = wsq1977.alloc (.cells #[Value.int .i64 ((ii : Nat) : Int)] 2) := ⟨_, rfl⟩
      rw [← hwsq1980]
      have bsq1980 := al hwsq1980
      have gsq1980 := an hwsq1980
      clear hwsq1980
      have FB_sq1981 := Lib.hid ((FB_sq1978.out).trans ((bsq1980).mono (FB_sq1978.out).size))
      have FK_sq1982 := Lib.hid (((bsq1980).block _ (Array.getElem?_eq_some_iff.1 (FK_sq1979.out)).1).trans (FK_sq1979.out))
      clear FB_sq1978 FK_sq1979
      obtain ⟨glsq1983, hgsq1983⟩ : ∃ b, wsq1977.heap.size = b := ⟨_, rfl⟩
      have FL_sq1983 := Lib.hid gsq1980
      rw [hgsq1983] at FL_sq1983 ⊢
      clear hgsq1983 gsq1980 bsq1980
      refine hK.out _ _ (HSX.out _ FB_sq1981.out) (fun hHeld => ?_)
      clear hK K
      (try simp only [Act.put, setIfInBounds_toArray, set_cons_zero, set_cons_succ])
      refine t1 (i := 4) (h := fun K hK => ?_)
      go_simp
      have KB1sq1984 := Lib.hid FB_sq1981.out
      refine (HWO1.out wsq1980 glsq1983 FB_sq1981.out FL_sq1983.out).mono ?_
      rintro e wsq1984 ⟨A14, c14, vs14, rfl, osq1984, rsq1984, belsq1984⟩
      dsimp only
      have FB_sq1985 := Lib.hid ((FB_sq1981.out).trans ((belsq1984).mono (FB_sq1981.out).size))
      have FK_sq1986 := Lib.hid (((belsq1984).block _ (Array.getElem?_eq_some_iff.1 (FK_sq1982.out)).1).trans (FK_sq1982.out))
      have FL_sq1987 := Lib.hid (((belsq1984).block _ (Array.getElem?_eq_some_iff.1 (FL_sq1983.out)).1).trans (FL_sq1983.out))
      clear FB_sq1981 FK_sq1982 FL_sq1983
      have FQ1_sq1984 := Lib.hid belsq1984; have FO1_sq1984 := Lib.hid osq1984; have KR1sq1984 := Lib.hid rsq1984
      clear osq1984 rsq1984 belsq1984
      refine hK.out _ _ (HSX.out _ FB_sq1985.out) (fun hHeld => ?_)
      clear hK K
      (try simp only [Act.put, setIfInBounds_toArray, set_cons_zero, set_cons_succ])
      refine t1 (i := 9) (h := fun K hK => ?_)
      go_simp
      have KB2sq1988 := Lib.hid FB_sq1985.out
      refine (HWO2.out wsq1984 gksq1979 FB_sq1985.out FK_sq1986.out).mono ?_
      rintro e wsq1988 ⟨A24, c24, vs24, rfl, osq1988, rsq1988, belsq1988⟩
      dsimp only
      have FB_sq1989 := Lib.hid ((FB_sq1985.out).trans ((belsq1988).mono (FB_sq1985.out).size))
      have FK_sq1990 := Lib.hid (((belsq1988).block _ (Array.getElem?_eq_some_iff.1 (FK_sq1986.out)).1).trans (FK_sq1986.out))
      have FL_sq1991 := Lib.hid (((belsq1988).block _ (Array.getElem?_eq_some_iff.1 (FL_sq1987.out)).1).trans (FL_sq1987.out))
      have FQ1_sq1992 := Lib.hid ((FQ1_sq1984.out).trans ((belsq1988).mono (FQ1_sq1984.out).size))
      have FO1_sq1993 := Lib.hid (own_below (FO1_sq1984.out) (belsq1988) (Nat.le_refl _))
      clear FB_sq1985 FK_sq1986 FL_sq1987 FQ1_sq1984 FO1_sq1984
      have FQ2_sq1988 := Lib.hid belsq1988; have FO2_sq1988 := Lib.hid osq1988; have KR2sq1988 := Lib.hid rsq1988
      clear osq1988 rsq1988 belsq1988
      refine hK.out _ _ (HSX.out _ FB_sq1989.out) (fun hHeld => ?_)
      clear hK K
      (try simp only [Act.put, setIfInBounds_toArray, set_cons_zero, set_cons_succ])
      refine t1 (i := 10) (h := fun K hK => ?_)
      go_simp
      obtain ⟨wsq1994, hwsq1994⟩ : ∃ w', w' = wsq1988.alloc (.cells #[Value.slice A14 R1.length c14, Value.slice A24 R2.length c24] 23) := ⟨_, rfl⟩
      rw [← hwsq1994]
      have bsq1994 := al hwsq1994
      have gsq1994 := an hwsq1994
      clear hwsq1994
      have FB_sq1995 := Lib.hid ((FB_sq1989.out).trans ((bsq1994).mono (FB_sq1989.out).size))
      have FK_sq1996 := Lib.hid (((bsq1994).block _ (Array.getElem?_eq_some_iff.1 (FK_sq1990.out)).1).trans (FK_sq1990.out))
      have FL_sq1997 := Lib.hid (((bsq1994).block _ (Array.getElem?_eq_some_iff.1 (FL_sq1991.out)).1).trans (FL_sq1991.out))
      have FQ1_sq1998 := Lib.hid ((FQ1_sq1992.out).trans ((bsq1994).mono (FQ1_sq1992.out).size))
      have FO1_sq1999 := Lib.hid (own_below (FO1_sq1993.out) (bsq1994) (Nat.le_refl _))
      have FQ2_sq19100 := Lib.hid ((FQ2_sq1988.out).trans ((bsq1994).mono (FQ2_sq1988.out).size))
      have FO2_sq19101 := Lib.hid (own_below (FO2_sq1988.out) (bsq1994) (Nat.le_refl _))
      clear FB_sq1989 FK_sq1990 FL_sq1991 FQ1_sq1992 FO1_sq1993 FQ2_sq1988 FO2_sq1988
      obtain ⟨gfsq19102, hgsq19102⟩ : ∃ b, wsq1988.heap.size = b := ⟨_, rfl⟩
      have FF_sq19102 := Lib.hid gsq1994
      rw [hgsq19102] at FF_sq19102 ⊢
      clear hgsq19102 gsq1994 bsq1994
      refine hK.out _ _ (HSX.out _ FB_sq1995.out) (fun hHeld => ?_)
      clear hK K
      (try simp only [Act.put, setIfInBounds_toArray, set_cons_zero, set_cons_succ])
      refine t1 (i := 11) (h := fun K hK => ?_)
      go_simp
      have KBsq19103 := Lib.hid FB_sq1995.out
      have KRZsq19103 := Lib.hid (RdV.app (RdV.below KR1sq1984.out FQ1_sq1998.out) (RdV.below KR2sq1988.out FQ2_sq19100.out))
      refine (concatQ_any gfsq19102 2 A14 A24 R1.length R2.length c14 c24 _ _ vs14 vs24 wsq1994 FF_sq19102.out FO1_sq1999.out FO2_sq19101.out KR1sq1984.out.one KR2sq1988.out.one (by have := HR19.out; omega) (by have := HR29.out; omega)).mono ?_
      rintro e wsq19103 ⟨A4, c4, rfl, osq19103, belsq19103⟩
      dsimp only
      have FB_sq19104 := Lib.hid ((FB_sq1995.out).trans ((belsq19103).mono (FB_sq1995.out).size))
      have FK_sq19105 := Lib.hid (((belsq19103).block _ (Array.getElem?_eq_some_iff.1 (FK_sq1996.out)).1).trans (FK_sq1996.out))
      have FL_sq19106 := Lib.hid (((belsq19103).block _ (Array.getElem?_eq_some_iff.1 (FL_sq1997.out)).1).trans (FL_sq1997.out))
      have FQ1_sq19107 := Lib.hid ((FQ1_sq1998.out).trans ((belsq19103).mono (FQ1_sq1998.out).size))
      have FO1_sq19108 := Lib.hid (own_below (FO1_sq1999.out) (belsq19103) (Nat.le_refl _))
      have FQ2_sq19109 := Lib.hid ((FQ2_sq19100.out).trans ((belsq19103).mono (FQ2_sq19100.out).size))
      have FO2_sq19110 := Lib.hid (own_below (FO2_sq19101.out) (belsq19103) (Nat.le_refl _))
      have FF_sq19111 := Lib.hid (((belsq19103).block _ (Array.getElem?_eq_some_iff.1 (FF_sq19102.out)).1).trans (FF_sq19102.out))
      clear FB_sq1995 FK_sq1996 FL_sq1997 FQ1_sq1998 FO1_sq1999 FQ2_sq19100 FO2_sq19101 FF_sq19102
      have FQ_sq19103 := Lib.hid belsq19103; have FO_sq19103 := Lib.hid osq19103
      clear osq19103 belsq19103
      refine hK.out _ _ (HSX.out _ FB_sq19104.out) (fun hHeld => ?_)
      clear hK K
      (try simp only [Act.put, setIfInBounds_toArray, set_cons_zero, set_cons_succ])
      refine t1 (i := 12) (h := fun K hK => ?_)
      go_simp
      refine hK.out _ _ hHeld (fun hHeld => ?_)
      clear hK K
      (try simp only [Act.put, setIfInBounds_toArray, set_cons_zero, set_cons_succ])
      refine t1 (i := 13) (h := fun K hK => ?_)
      go_simp
      refine hK.out _ _ hHeld (fun hHeld => ?_)
      clear hK K
      (try simp only [Act.put, setIfInBounds_toArray, set_cons_zero, set_cons_succ])
      refine wpAnyH_done (by kernel_rfl) ?_ _
      go_wp2
      go_ret2
      exact ⟨HBU.out.trans (FB_sq19104.out.mono HBU.out.size), A4, c4, vs14 ++ vs24, by rw [List.length_append]; rfl, by rw [List.length_append]; exact own_base FO_sq19103.out (Nat.le_trans HBU.out.size KBsq19103.out.size), RdV.below KRZsq19103.out FQ_sq19103.out⟩
    exact AllReadyH.nil
  · have hcr : cutR P Q ii jj = none := by unfold cutR; rw [hD, if_neg hm]
    rw [hcr]
    simp only [decide_eq_false hm] at heq
    have HEQ := Lib.hid heq
    clear hcr hu0 hb p0 p1 hwo1 hwo2 hR1 hR2 hR19 hR29 h h2 hcp hcq hi0 hz0 hz1 hz2 kI kJ rI rJ hq hq2 hdu hD hD9 heq hlI hlJ mI mJ ht hu hm
    generalize (P.getD ii []).length = NI at *
    generalize (Q.getD jj []).length = NJ at *
    go_enter Tryz.func101, Tryz.ntmps101
    go_upto_region 1 with (fail)
    rw [← HU0.out]
    have FB_0 := Lib.hid (Below.refl u.heap.size u)
    refine wp_region_held_drew (S := fun wx => wx.cell? ⟨w.heap.size + 1, 3, none⟩ = some (.int .i64 ((ii : Nat) : Int)) ∧ wx.cell? ⟨w.heap.size + 1, 4, none⟩ = some (.int .i64 ((jj : Nat) : Int)) ∧ wx.cell? ⟨bp, op + ii, none⟩ = some (.slice AI NI cI) ∧ wx.cell? ⟨bq, oq + jj, none⟩ = some (.slice AJ NJ cJ)) (by kernel_rfl) K0.out (fun hHeld => ?_)
    obtain ⟨wn1, hwn1⟩ : ∃ w', w' = u.drew := ⟨_, rfl⟩
    rw [← hwn1] at hHeld ⊢
    have bn1 : Below u.heap.size u wn1 := by rw [hwn1]; exact (Below.refl _ _).drew
    clear hwn1
    have FB_n2 := Lib.hid ((FB_0.out).trans ((bn1).mono (FB_0.out).size))
    clear FB_0
    refine tk (i := 0) (h := ?_)
    (try simp only [Act.put, setIfInBounds_toArray, set_cons_zero, set_cons_succ])
    refine tk (i := 1) (h := ?_)
    (try simp only [Act.put, setIfInBounds_toArray, set_cons_zero, set_cons_succ])
    refine tk (i := 5) (h := ?_)
    (try simp only [Act.put, setIfInBounds_toArray, set_cons_zero, set_cons_succ])
    refine tk (i := 6) (h := ?_)
    (try simp only [Act.put, setIfInBounds_toArray, set_cons_zero, set_cons_succ])
    refine tk (i := 2) (h := ?_)
    (try simp only [Act.put, setIfInBounds_toArray, set_cons_zero, set_cons_succ])
    refine tk (i := 7) (h := ?_)
    (try simp only [Act.put, setIfInBounds_toArray, set_cons_zero, set_cons_succ])
    refine tk (i := 3) (h := ?_)
    (try simp only [Act.put, setIfInBounds_toArray, set_cons_zero, set_cons_succ])
    refine tk (i := 8) (h := ?_)
    (try simp only [Act.put, setIfInBounds_toArray, set_cons_zero, set_cons_succ])
    refine tk (i := 4) (h := ?_)
    (try simp only [Act.put, setIfInBounds_toArray, set_cons_zero, set_cons_succ])
    refine tk (i := 9) (h := ?_)
    (try simp only [Act.put, setIfInBounds_toArray, set_cons_zero, set_cons_succ])
    refine t1 (i := 10) (h := fun K hK => ?_)
    go_simp
    refine (HDU.out wn1 FB_n2.out).mono ?_
    rintro e wn13 ⟨AD, cD, rfl, on13, beln13⟩
    dsimp only
    have FB_n14 := Lib.hid ((FB_n2.out).trans ((beln13).mono (FB_n2.out).size))
    clear FB_n2
    have FD_n13 := Lib.hid (RdI.of_own on13)
    clear on13 beln13
    refine hK.out _ _ (HSX.out _ FB_n14.out) (fun hHeld => ?_)
    clear hK K
    (try simp only [Act.put, setIfInBounds_toArray, set_cons_zero, set_cons_succ])
    refine t1 (i := 11) (h := fun K hK => ?_)
    go_simp
    refine (HEQ.out wn13 AD cD FB_n14.out FD_n13.out).mono ?_
    rintro e wn15 ⟨rfl, beln15⟩
    dsimp only
    have FB_n16 := Lib.hid ((FB_n14.out).trans ((beln15).mono (FB_n14.out).size))
    have FD_n17 := Lib.hid (((FD_n13.out).below (beln15)).more (beln15).size)
    clear FB_n14 FD_n13
    clear beln15
    refine hK.out _ _ (HSX.out _ FB_n16.out) (fun hHeld => ?_)
    clear hK K
    (try simp only [Act.put, setIfInBounds_toArray, set_cons_zero, set_cons_succ])
    refine tk (i := 12) (h := ?_)
    (try simp only [Act.put, setIfInBounds_toArray, set_cons_zero, set_cons_succ])
    refine wpAnyH_done (by kernel_rfl) ?_ _
    go_wp2
    go_ret2
    exact ⟨HBU.out.trans (FB_n16.out.mono HBU.out.size), 5, by decide, rfl⟩
end Go.Proofs.YthbkcpacgnmcfaaGreatDoor
