/- The program's LinkNet at kind 4. Made by mklk.py. -/
import Derived.Test.YtdcommmefehlgaaDoorPgU
import Derived.Test.YtdcommmefehlgaaDoorTk
namespace Go.Proofs.YtdcommmefehlgaaDoor
set_option linter.unusedSimpArgs false
set_option linter.unusedVariables false
open Go.ChangeAt Go.ChangeShapes Go.RowKit Go.WideShapes
open List (setIfInBounds_toArray set_cons_zero set_cons_succ getElem_toArray getElem_cons_succ getElem_cons_zero)

set_option maxRecDepth 100000 in
set_option maxHeartbeats 8000000 in
theorem lk_ok4 (h : NH) (N : Nt) (w : World) (r : RdN w w.heap.size h N) (hn : N.w.length ≤ 1048576) (hl : N.l.length ≤ 1048576) (hc : N.c.length ≤ 1048576) (sm : SmallN N) (ht : Arit w) (hu : Dual w) (ii jj ia ib : Nat) (LS : List Int) (hv : valN N = true) (hi : inW N.c.length (ii : Nat) = true) (hj : inW N.c.length (jj : Nat) = true) (he : (((ii : Nat) : Int) == ((jj : Nat) : Int)) = false) (hii : ii < N.c.length) (hjj : jj < N.c.length) (ea : N.c.getD ii 0 = (ia : Nat)) (eb : N.c.getD jj 0 = (ib : Nat)) (hia : ia < N.w.length) (hib : ib < N.w.length) (hLS : lessL N.c (ii : Nat) (jj : Nat) = LS) (b : Bool) (hX : valN ⟨N.w ++ [12 :: (N.w.getD ia [] ++ N.w.getD ib [])], N.l ++ [⟨4, ia, ib, N.w.length⟩], LS ++ [(N.w.length : Int)]⟩ = b) :
    Calls Tryd.prog 17 #[.agg #[.slice h.A N.w.length h.c, .slice h.L N.l.length h.d, .slice h.C N.c.length h.e], .int .i64 4, .int .i64 (ii : Nat), .int .i64 (jj : Nat)] w (GivesNB w (pickN b ⟨N.w ++ [12 :: (N.w.getD ia [] ++ N.w.getD ib [])], N.l ++ [⟨4, ia, ib, N.w.length⟩], LS ++ [(N.w.length : Int)]⟩) b) := by
  obtain ⟨w0, hw0⟩ : ∃ w0, w0 = (w.alloc (.cells #[.slice h.A N.w.length h.c, .slice h.L N.l.length h.d, .slice h.C N.c.length h.e] 30)).alloc (.cells #[.slice none 0 0, .slice none 0 0, .slice none 0 0] 30) := ⟨_, rfl⟩
  obtain ⟨hb, g0, g1, hsz⟩ := two_any' w (.cells #[.slice h.A N.w.length h.c, .slice h.L N.l.length h.d, .slice h.C N.c.length h.e] 30) (.cells #[.slice none 0 0, .slice none 0 0, .slice none 0 0] 30)
  rw [← hw0] at hb g0 g1 hsz
  have hs0 : w.heap.size + 2 ≤ w0.heap.size := by omega
  have HKF : Hid (∀ wx, Below w0.heap.size w0 wx → wx.cell? ⟨w.heap.size, 0, none⟩ = some (.slice h.A N.w.length h.c) ∧ wx.cell? ⟨w.heap.size, 1, none⟩ = some (.slice h.L N.l.length h.d) ∧ wx.cell? ⟨w.heap.size, 2, none⟩ = some (.slice h.C N.c.length h.e)) := Lib.hid fun wx hx => three_cells ((hx.block _ (by omega)).trans g0)
  have HKR : Hid (∀ wx, Below w0.heap.size w0 wx → wx.heap[w.heap.size + 1]? = some (.cells #[.slice none 0 0, .slice none 0 0, .slice none 0 0] 30 (0, 0))) := Lib.hid fun wx hx => (hx.block _ (by omega)).trans g1
  have HV := Lib.hid (validNet_impl h N w0 ((r.below hb).more hb.size) sm (ht.below hb ht.lt) (hu.below hb hu.lt))
  have HTD := Lib.hid (fun (w' : World) (hw : Below w0.heap.size w0 w') => And.intro ((ht.below hb ht.lt).below hw (ht.below hb ht.lt).lt) ((hu.below hb hu.lt).below hw (hu.below hb hu.lt).lt))
  have HRD := Lib.hid (fun (w' : World) (hw : Below w0.heap.size w0 w') => show RdN w' w'.heap.size h N from (r.below (hb.trans (hw.mono hb.size))).more (Nat.le_trans hb.size hw.size))
  have HB0 := Lib.hid hb
  obtain ⟨y0, y1, y2⟩ := HKF.out _ (Below.refl _ w0)
  rw [hv] at HV
  have HK := Lib.hid (fun w' => joins_any 4 w')
  rw [show kindB 4 = true from rfl] at HK
  have HCI := Lib.hid (fun w' => isConclusion_any h.A h.L h.C N.w.length h.c N.l.length h.d N.c.length h.e ((ii : Nat) : Int) w' (by unfold maxLen; omega))
  rw [hi] at HCI
  have HJ := Lib.hid (fun w' => isConclusion_any h.A h.L h.C N.w.length h.c N.l.length h.d N.c.length h.e ((jj : Nat) : Int) w' (by unfold maxLen; omega))
  rw [hj] at HJ
  obtain ⟨hs1, hs2⟩ := valN_size hv
  have hcl := valN_conc_le hv
  have HOW := Lib.hid (fun (w' : World) (hw : Below w0.heap.size w0 w') => copyOfNet_any h N w' (HRD.out w' hw) hv)
  have HLE := Lib.hid (fun (w' : World) (B : Option Addr) (d : Nat) (hw : Below w0.heap.size w0 w') (rb : RdI w' w'.heap.size B 2 [(ii : Nat), (jj : Nat)]) => withoutI_any h.C N.c.length h.e N.c B d (ii : Nat) (jj : Nat) w' (HRD.out w' hw).2.2 rb hc)
  rw [hLS] at HLE
  obtain ⟨ls', hls'⟩ : ∃ l, N.l ++ [(⟨4, ia, ib, N.w.length⟩ : Lk)] = l := ⟨_, rfl⟩
  rw [hls'] at hX ⊢
  have HLE' := Lib.hid hls'
  have HSL : Hid (ls'.length ≤ 1048576) := Lib.hid (by rw [← hls', List.length_append]; simp; omega)
  have HX := Lib.hid hX
  obtain ⟨i4, hi4, hz40, hz41, hz42⟩ := info_parts_link
  have HI4 := Lib.hid hi4; have HZ40 := Lib.hid hz40; have HZ41 := Lib.hid hz41; have HZ42 := Lib.hid hz42
  clear hi4 hz40 hz41 hz42 hls'
  have hlsl : LS.length ≤ N.c.length := by rw [← hLS]; exact lessU_len _ _ _ _
  obtain ⟨bc, offc, hC, hbc, hcc⟩ := r.2.2.2 (by omega)
  have c1 := hcc ii hii
  have c2 := hcc jj hjj
  rw [ea] at c1
  rw [eb] at c2
  have HC1 := Lib.hid (fun (w' : World) (hw : Below w0.heap.size w0 w') => (((hb.trans (hw.mono hb.size)).cell (p := ⟨bc, offc + ii, none⟩) hbc).trans c1))
  have HC2 := Lib.hid (fun (w' : World) (hw : Below w0.heap.size w0 w') => (((hb.trans (hw.mono hb.size)).cell (p := ⟨bc, offc + jj, none⟩) hbc).trans c2))
  have HCC := Lib.hid hC
  obtain ⟨bw, offw, hA, hbw, hcw⟩ := r.1.2 (by omega)
  obtain ⟨Aa, ca, ka, _, ra⟩ := hcw ia hia
  obtain ⟨Ab, cb, kb, _, rb⟩ := hcw ib hib
  have HVF : ∀ q ∈ N.w, validB q = true := fun q hq => formN_valid (List.all_eq_true.1 (valN_forms hv) q hq)
  have hva := valid_len (HVF _ (getD_mem hia))
  have hvb := valid_len (HVF _ (getD_mem hib))
  have HTT0 : total N.w ≤ 24 * N.w.length := total_valid (List.all_eq_true.2 HVF)
  have HFO := Lib.hid (fun (wx : World) (g : Nat) (hw : Below w0.heap.size w0 wx) (hg : wx.heap[g]? = some (.cells #[.slice Aa (N.w.getD ia []).length ca, .slice Ab (N.w.getD ib []).length cb] 24 (0, 0))) => show Calls Tryd.prog 62 #[.int .i64 12, .slice (some ⟨g, 0, none⟩) 2 2] wx (Gives wx (12 :: (N.w.getD ia [] ++ N.w.getD ib []))) from by
    have hfo := formOf_any 12 g 2 2 [.slice Aa (N.w.getD ia []).length ca, .slice Ab (N.w.getD ib []).length cb] [N.w.getD ia [], N.w.getD ib []] wx rfl (by omega) (by omega) (fun i hi => by
      rcases i with _ | _ | i
      · exact cell_of_row _ _ 0 _ _ (0, 0) hg
      · exact cell_of_row _ _ 1 _ _ (0, 0) hg
      · omega) (Array.getElem?_eq_some_iff.1 hg).1 (fun i hi => by
      rcases i with _ | _ | i
      · exact Part.of_rd ((ra.below (hb.trans (hw.mono hb.size))).more (Nat.le_trans hb.size hw.size)) hva.1
      · exact Part.of_rd ((rb.below (hb.trans (hw.mono hb.size))).more (Nat.le_trans hb.size hw.size)) hvb.1
      · omega) (by simp only [List.flatten_cons, List.flatten_nil, List.append_nil, List.length_append]; omega) (by simp only [List.flatten_cons, List.flatten_nil, List.append_nil, List.length_append]; omega)
    rw [show [N.w.getD ia [], N.w.getD ib []].flatten = N.w.getD ia [] ++ N.w.getD ib [] by simp] at hfo
    exact hfo)
  have hbw' : bw < w0.heap.size := Nat.lt_of_lt_of_le hbw hb.size
  have wa := (hb.cell (p := ⟨bw, offw + ia, none⟩) hbw).trans ka
  have wb := (hb.cell (p := ⟨bw, offw + ib, none⟩) hbw).trans kb
  have HWA := Lib.hid wa; have HWB := Lib.hid wb; have HAA := Lib.hid hA
  have HLD : Hid ((12 :: (N.w.getD ia [] ++ N.w.getD ib [])).length ≤ 100) := Lib.hid (by rw [List.length_cons, List.length_append]; omega)
  clear hva hvb hA hcw ka kb ra rb wa wb HVF
  generalize N.w.getD ia [] = P at *
  generalize N.w.getD ib [] = Q at *
  generalize 12 :: (P ++ Q) = DP at *
  obtain ⟨ws', hws'⟩ : ∃ l, N.w ++ [DP] = l := ⟨_, rfl⟩
  obtain ⟨cs', hcs'⟩ : ∃ l, LS ++ [(N.w.length : Int)] = l := ⟨_, rfl⟩
  have HWE := Lib.hid hws'; have HCE := Lib.hid hcs'
  have HWL : Hid (ws'.length = N.w.length + 1) := Lib.hid (by rw [← hws']; simp)
  have HSW : Hid (ws'.length ≤ 1048576) := Lib.hid (by rw [HWL.out]; omega)
  have HTT : Hid (total ws' ≤ 1048576) := Lib.hid (by
    rw [← hws']
    have e : total (N.w ++ [DP]) = total N.w + DP.length := by simp [total]
    rw [e]
    have := HLD.out
    omega)
  have HSC : Hid (cs'.length ≤ 1048576) := Lib.hid (by rw [← hcs', List.length_append]; simp; omega)
  have HX' := HX.out
  rw [hws', hcs'] at HX'
  rw [hws', hcs']
  have HX2 := Lib.hid HX'
  obtain ⟨i1, hi1, hz10, hz11, hz12⟩ := info_parts info_i64
  have HI1 := Lib.hid hi1; have HZ10 := Lib.hid hz10; have HZ11 := Lib.hid hz11; have HZ12 := Lib.hid hz12
  obtain ⟨i0, hi0, hz0, hz1, hz2⟩ := info_parts_s
  have HI := Lib.hid hi0; have HZ0 := Lib.hid hz0; have HZ1 := Lib.hid hz1; have HZ2 := Lib.hid hz2
  have HHI := HI
  have hai : ((ia : Nat) : Int) < (N.w.length : Int) := by omega
  have hbi : ((ib : Nat) : Int) < (N.w.length : Int) := by omega
  have HLO2 := Lib.hid (fun (wx : World) => (linkOperator_any 4 wx).mono (R' := fun e w' => e = .returned (.int .i64 12) ∧ Below wx.heap.size wx w') fun e w' ⟨he, hw⟩ => ⟨he, by rw [← hw]; exact Below.refl _ _⟩)
  clear HX HX' HTT0 hi0 hz0 hz1 hz2 hi1 hz10 hz11 hz12 hws' hcs'
  clear hb g0 g1 hsz r hv hi hj ea eb hLS hX hC hcc c1 c2
  go_enter Tryd.func17, Tryd.ntmps17
  go_wp2_with (fail)
  rw [← hw0]
  clear hw0
  refine (HK.out _).mono ?_
  rintro e w1 ⟨rfl, rfl⟩
  go_wp2_with (fail)
  refine HV.out.mono ?_
  rintro e u0 ⟨rfl, bel⟩
  have B0 := Lib.hid bel
  clear bel y0 y1 y2
  obtain ⟨y0, y1, y2⟩ := HKF.out _ B0.out
  go_wp2_with (fail)
  refine (HCI.out u0).mono ?_
  rintro e u01 ⟨rfl, bel⟩
  have B01 := Lib.hid (B0.out.trans (bel.mono B0.out.size))
  clear bel y0 y1 y2
  obtain ⟨y0, y1, y2⟩ := HKF.out _ B01.out
  go_wp2_with (fail)
  refine (HJ.out u01).mono ?_
  rintro e u1 ⟨rfl, bel⟩
  have B1 := Lib.hid (B01.out.trans (bel.mono B01.out.size))
  clear bel y0 y1 y2
  -- a, b, c
  have HKX : Hid (∀ wx, Below w0.heap.size w0 wx → wx.cell? ⟨w.heap.size, 0, none⟩ = some (.slice h.A N.w.length h.c) ∧ wx.cell? ⟨w.heap.size, 2, none⟩ = some (.slice (some ⟨bc, offc, none⟩) N.c.length h.e) ∧ wx.cell? ⟨bc, offc + ii, none⟩ = some (.int .i64 (ia : Nat)) ∧ wx.cell? ⟨bc, offc + jj, none⟩ = some (.int .i64 (ib : Nat))) := Lib.hid fun wx hx => by
    obtain ⟨k0, _, k2⟩ := HKF.out _ hx
    rw [HCC.out] at k2
    exact ⟨k0, k2, HC1.out _ hx, HC2.out _ hx⟩
  go_upto_region 3 with (fail)
  obtain ⟨z0, z1, z2, z3⟩ := HKX.out _ B1.out
  go_quiet (fail)
  have bq := below_drewN (Below.refl u1.heap.size u1) nq
  obtain ⟨v1, hq⟩ : ∃ x, x = u1.drewN nq := ⟨_, rfl⟩
  rw [← hq] at bq ⊢
  have BV := Lib.hid (B1.out.trans (bq.mono B1.out.size))
  clear bq hq z0 z1 z2 z3
  obtain ⟨y0, y1, y2⟩ := HKF.out _ BV.out
  go_wp2_with (fail)
  refine (HOW.out _ BV.out).mono ?_
  rintro e u2 ⟨h2, rfl, own2, bel2⟩
  obtain ⟨u3, hu3⟩ : ∃ u3, u3 = u2.alloc (.cells #[.slice h2.A N.w.length h2.c, .slice h2.L N.l.length h2.d, .slice h2.C N.c.length h2.e] 30) := ⟨_, rfl⟩
  have bx := al hu3
  have p3 := an hu3
  have s3 : u2.heap.size < u3.heap.size := by rw [hu3]; simp
  have s1 := BV.out.size
  have s2 := bel2.size
  have B3 := Lib.hid (BV.out.trans ((bel2.trans (bx.mono s2)).mono s1))
  have O3 := (own2.below bx).size
  have F3 := own2.far_ge (Nat.le_refl _)
  have hb3 := bel2.trans (bx.mono s2)
  obtain ⟨bo, hbo⟩ : ∃ bo, u2.heap.size = bo := ⟨_, rfl⟩
  rw [hbo] at p3 s2 s3 F3
  have PS3 := Lib.hid (show PlSt v1 u3 u3 bo h2 N h2 N from { own := O3, far := fun _ _ f => f, keep := fun _ _ _ _ => rfl, box := p3, bel := hb3, size := Nat.le_refl _, sxl := s3, sxf := F3, sxb := s2 })
  have HU3 := Lib.hid hu3; have HBO := Lib.hid hbo
  clear bx own2 bel2 y0 y1 y2 p3 O3 F3 hb3 hu3 hbo
  go_upto_region 5 with (fail)
  (try rw [← HU3.out, HBO.out])
  obtain ⟨y0, y1, y2⟩ := HKF.out _ B3.out
  obtain ⟨k0, k1, k2⟩ := three_cells PS3.out.box
  go_wp2_with (fail)
  obtain ⟨u4, hu4⟩ : ∃ x, x = u3.alloc (.cells #[.int .i64 (ii : Nat), .int .i64 (jj : Nat)] 2) := ⟨_, rfl⟩
  have b34 := al hu4
  have p4 := an hu4
  rw [← hu4]
  have B4 := Lib.hid (B3.out.trans (b34.mono B3.out.size))
  refine (HLE.out u4 (some ⟨u3.heap.size, 0, none⟩) 2 B4.out (rd_pair p4)).mono ?_
  rintro e u5 ⟨C5, c5, rfl, own5, bel5⟩
  have PS4 := PS3.out.below b34
  have PS6 := Lib.hid (PS4.setC bel5 own5)
  have p5 := (bel5.block bo (Nat.lt_of_lt_of_le s3 b34.size)).trans PS4.box
  have b5 := B4.out.trans (bel5.mono B4.out.size)
  have B6 := Lib.hid (b5.setCell (p := ⟨bo, 2, none⟩) (by show w0.heap.size ≤ bo; omega) (.slice C5 LS.length c5))
  clear y0 y1 y2 k0 k1 k2 hu4 b34 p4 PS4 own5 bel5 B4 b5
  obtain ⟨k0, k1, k2⟩ := three_cells p5
  have k3 := frozen_of_row _ _ 2 _ _ p5
  clear p5
  go_upto_region 6 with (fail)
  clear k0 k1 k2 k3
  generalize u5.setCell ⟨bo, 2, none⟩ (.slice C5 LS.length c5) = u6 at *
  go_cut [] (fun wx => LkSt v1 u3 w0 bo h2 N ⟨N.w, ls', LS⟩ wx)
  case first =>
    have FB_0 := Lib.hid (Below.refl u6.heap.size u6)
    have FX_0 := Lib.hid PS6.out.box
    have FO_0 := Lib.hid PS6.out.own.l
    have HOL := Lib.hid PS6.out.own.l
    have HSB : Hid (bo < u6.heap.size) := Lib.hid (Nat.lt_of_lt_of_le s3 PS6.out.size)
    have HFS := Lib.hid (PS6.out.far bo PS6.out.sxl PS6.out.sxf).l
    have HLO := Lib.hid PS6.out.bel.size
    have HBOL : Hid (w0.heap.size ≤ bo) := Lib.hid (by omega)
    have HSX : Hid (∀ wx : World, Below u6.heap.size u6 wx → wx.cell? ⟨w.heap.size, 2, none⟩ = some (.slice h.C N.c.length h.e)) := Lib.hid fun wx hx => (HKF.out wx (B6.out.trans (hx.mono B6.out.size))).2.2
    have HLK := Lib.hid (fun wx : World => show Calls Tryd.prog 61 #[.int .i64 4, .int .i64 (ia : Nat), .int .i64 (ib : Nat), .int .i64 (N.w.length : Nat)] wx (fun e w' => e = .returned (.agg #[.int .i64 4, .int .i64 (ia : Nat), .int .i64 (ib : Nat), .int .i64 (N.w.length : Nat)]) ∧ Below wx.heap.size wx w') from linkOf_any 4 ia ib N.w.length wx)
    refine wp_region_held_drew (S := fun wx => wx.cell? ⟨w.heap.size, 2, none⟩ = some (.slice h.C N.c.length h.e)) (by kernel_rfl) (HSX.out _ (Below.refl _ _).drew) (fun hHeld => ?_)
    obtain ⟨wq1, hwq1⟩ : ∃ w', w' = u6.drew := ⟨_, rfl⟩
    rw [← hwq1] at hHeld ⊢
    have bq1 : Below u6.heap.size u6 wq1 := by rw [hwq1]; exact (Below.refl _ _).drew
    clear hwq1
    have FB_q2 := Lib.hid ((FB_0.out).trans ((bq1).mono (FB_0.out).size))
    have FX_q3 := Lib.hid (((bq1).block _ (Array.getElem?_eq_some_iff.1 (FX_0.out)).1).trans (FX_0.out))
    have FO_q4 := Lib.hid (own_below (FO_0.out) (bq1) (Nat.le_refl _))
    clear FB_0 FX_0 FO_0
    refine tk (i := 0) (h := ?_)
    (try simp only [Act.put, setIfInBounds_toArray, set_cons_zero, set_cons_succ, getElem_toArray, getElem_cons_succ, getElem_cons_zero])
    refine tk (i := 2) (h := ?_)
    (try simp only [Act.put, setIfInBounds_toArray, set_cons_zero, set_cons_succ, getElem_toArray, getElem_cons_succ, getElem_cons_zero])
    refine tk (i := 3) (h := ?_)
    (try simp only [Act.put, setIfInBounds_toArray, set_cons_zero, set_cons_succ, getElem_toArray, getElem_cons_succ, getElem_cons_zero])
    refine tk (i := 4) (h := ?_)
    (try simp only [Act.put, setIfInBounds_toArray, set_cons_zero, set_cons_succ, getElem_toArray, getElem_cons_succ, getElem_cons_zero])
    refine tk (i := 5) (h := ?_)
    (try simp only [Act.put, setIfInBounds_toArray, set_cons_zero, set_cons_succ, getElem_toArray, getElem_cons_succ, getElem_cons_zero])
    refine wpAnyH_ready (rs := [1, 6]) (by kernel_rfl) (by simp) ?_
    refine AllReadyH.cons rfl (fun K hK => ?_) ?_
    · have cq := cell_of_row _ _ 1 _ _ (0, 0) FX_q3.out
      go_simp
      clear cq
      refine hK.out _ _ (hHeld) (fun hHeld => ?_)
      clear hK K
      (try simp only [Act.put, setIfInBounds_toArray, set_cons_zero, set_cons_succ, getElem_toArray, getElem_cons_succ, getElem_cons_zero])
      refine t1 (i := 6) (h := fun K hK => ?_)
      go_simp
      refine (HLK.out wq1).mono ?_
      rintro e wq10 ⟨rfl, belq10⟩
      dsimp only
      have FB_q11 := Lib.hid ((FB_q2.out).trans ((belq10).mono (FB_q2.out).size))
      have FX_q12 := Lib.hid (((belq10).block _ (Array.getElem?_eq_some_iff.1 (FX_q3.out)).1).trans (FX_q3.out))
      have FO_q13 := Lib.hid (own_below (FO_q4.out) (belq10) (Nat.le_refl _))
      clear FB_q2 FX_q3 FO_q4
      clear belq10
      refine hK.out _ _ (HSX.out _ FB_q11.out) (fun hHeld => ?_)
      clear hK K
      (try simp only [Act.put, setIfInBounds_toArray, set_cons_zero, set_cons_succ, getElem_toArray, getElem_cons_succ, getElem_cons_zero])
      refine t1 (i := 7) (h := fun K hK => ?_)
      go_simp
      obtain ⟨wq14, hwq14⟩ : ∃ w', w' = wq10.alloc (.cells #[.int .i64 4, .int .i64 (ia : Nat), .int .i64 (ib : Nat), .int .i64 (N.w.length : Nat)] 72) := ⟨_, rfl⟩
      rw [← hwq14]
      have bq14 := al hwq14
      have gq14 := an hwq14
      clear hwq14
      have FB_q15 := Lib.hid ((FB_q11.out).trans ((bq14).mono (FB_q11.out).size))
      have FX_q16 := Lib.hid (((bq14).block _ (Array.getElem?_eq_some_iff.1 (FX_q12.out)).1).trans (FX_q12.out))
      have FO_q17 := Lib.hid (own_below (FO_q13.out) (bq14) (Nat.le_refl _))
      clear FB_q11 FX_q12 FO_q13
      obtain ⟨gnq18, hgq18⟩ : ∃ b, wq10.heap.size = b := ⟨_, rfl⟩
      have FN_q18 := Lib.hid gq14
      rw [hgq18] at FN_q18 ⊢
      clear hgq18 gq14 bq14
      refine hK.out _ _ (HSX.out _ FB_q15.out) (fun hHeld => ?_)
      clear hK K
      (try simp only [Act.put, setIfInBounds_toArray, set_cons_zero, set_cons_succ, getElem_toArray, getElem_cons_succ, getElem_cons_zero])
      refine t1 (i := 8) (h := fun K hK => ?_)
      refine step_at rfl _ _ 28 rfl v1.heap.size 72 i4 (.agg #[.int .i64 0, .int .i64 0, .int .i64 0, .int .i64 0]) 4 32 Tryd.underlying28 HI4.out HZ40.out HZ41.out HZ42.out rfl (by decide) _ _ _ rfl FO_q17.out ⟨gnq18, 0, none⟩ 1 1 [.int .i64 4, .int .i64 (ia : Nat), .int .i64 (ib : Nat), .int .i64 (N.w.length : Nat)] rfl rfl (World.news_of_block FN_q18.out) (by simp [Value.oneCell']) (by simp only [maxLen]; omega) (by (try dsimp only); omega) (Nat.le_trans HLO.out FB_q15.out.size) ?_
      intro v7 w7 own7 gr7 at7
      have own8 : w7.ownsRow v1.heap.size 72 4 v7 ls'.length ((flL ls').map (Value.int .i64)) := by rw [← HLE'.out, flL_app, List.map_append, List.length_append]; exact own7
      obtain ⟨L7, d7, rfl⟩ := own_shape4 own8
      have HP7 := Lib.hid (PS6.out.pushL FB_q15.out own8 gr7 at7)
      have q7 := (gr7.block bo (Nat.lt_of_lt_of_le HSB.out FB_q15.out.size) (fun e => HFS.out e.symm)).trans FX_q16.out
      have HQ7 := Lib.hid q7
      have HK7 := Lib.hid (HKF.out w7 ((B6.out.trans (FB_q15.out.mono B6.out.size)).grown gr7 (Nat.le_trans B6.out.size FB_q15.out.size) (fun q hq => Nat.le_trans BV.out.size (HOL.out.lt q hq).1))).2.2
      have HB8 := Lib.hid (((B6.out.trans (FB_q15.out.mono B6.out.size)).grown gr7 (Nat.le_trans B6.out.size FB_q15.out.size) (fun q hq => Nat.le_trans BV.out.size (HOL.out.lt q hq).1)).setCell (p := ⟨bo, 1, none⟩) HBOL.out (.slice L7 ls'.length d7))
      clear own7 own8 gr7 at7 q7
      refine hK.out _ _ (HK7.out) (fun hHeld => ?_)
      clear hK K
      (try simp only [Act.put, setIfInBounds_toArray, set_cons_zero, set_cons_succ, getElem_toArray, getElem_cons_succ, getElem_cons_zero])
      refine tk (i := 9) (h := ?_)
      (try simp only [Act.put, setIfInBounds_toArray, set_cons_zero, set_cons_succ, getElem_toArray, getElem_cons_succ, getElem_cons_zero])
      refine t1 (i := 10) (h := fun K hK => ?_)
      obtain ⟨a0, a1, a2⟩ := three_cells HQ7.out
      have f2 := frozen_of_row _ _ 1 _ _ HQ7.out
      go_simp
      clear a0 a1 a2 f2
      refine hK.out _ _ (farW_cell (i := 1) (u := .slice L7 _ d7) HK7.out (by have := HBOL.out; omega)) (fun hHeld => ?_)
      clear hK K
      (try simp only [Act.put, setIfInBounds_toArray, set_cons_zero, set_cons_succ, getElem_toArray, getElem_cons_succ, getElem_cons_zero])
      refine wpAnyH_done (by kernel_rfl) ?_ _
      have PS8 : PlSt v1 u3 (w7.setCell ⟨bo, 1, none⟩ (.slice L7 ls'.length d7)) bo h2 N ⟨h2.A, h2.c, h2.hs, L7, d7, C5, c5⟩ ⟨N.w, ls', LS⟩ := HP7.out
      go_wp2_with (fail)
      go_meet
      exact ⟨_, PS8, HB8.out⟩
    refine AllReadyH.cons rfl (fun K hK => ?_) ?_
    · go_simp
      refine (HLK.out wq1).mono ?_
      rintro e wq20 ⟨rfl, belq20⟩
      dsimp only
      have FB_q21 := Lib.hid ((FB_q2.out).trans ((belq20).mono (FB_q2.out).size))
      have FX_q22 := Lib.hid (((belq20).block _ (Array.getElem?_eq_some_iff.1 (FX_q3.out)).1).trans (FX_q3.out))
      have FO_q23 := Lib.hid (own_below (FO_q4.out) (belq20) (Nat.le_refl _))
      clear FB_q2 FX_q3 FO_q4
      clear belq20
      refine hK.out _ _ (HSX.out _ FB_q21.out) (fun hHeld => ?_)
      clear hK K
      (try simp only [Act.put, setIfInBounds_toArray, set_cons_zero, set_cons_succ, getElem_toArray, getElem_cons_succ, getElem_cons_zero])
      refine wpAnyH_ready (rs := [1, 7]) (by kernel_rfl) (by simp) ?_
      refine AllReadyH.cons rfl (fun K hK => ?_) ?_
      · have cq := cell_of_row _ _ 1 _ _ (0, 0) FX_q22.out
        go_simp
        clear cq
        refine hK.out _ _ (hHeld) (fun hHeld => ?_)
        clear hK K
        (try simp only [Act.put, setIfInBounds_toArray, set_cons_zero, set_cons_succ, getElem_toArray, getElem_cons_succ, getElem_cons_zero])
        refine t1 (i := 7) (h := fun K hK => ?_)
        go_simp
        obtain ⟨wq24, hwq24⟩ : ∃ w', w' = wq20.alloc (.cells #[.int .i64 4, .int .i64 (ia : Nat), .int .i64 (ib : Nat), .int .i64 (N.w.length : Nat)] 72) := ⟨_, rfl⟩
        rw [← hwq24]
        have bq24 := al hwq24
        have gq24 := an hwq24
        clear hwq24
        have FB_q25 := Lib.hid ((FB_q21.out).trans ((bq24).mono (FB_q21.out).size))
        have FX_q26 := Lib.hid (((bq24).block _ (Array.getElem?_eq_some_iff.1 (FX_q22.out)).1).trans (FX_q22.out))
        have FO_q27 := Lib.hid (own_below (FO_q23.out) (bq24) (Nat.le_refl _))
        clear FB_q21 FX_q22 FO_q23
        obtain ⟨gnq28, hgq28⟩ : ∃ b, wq20.heap.size = b := ⟨_, rfl⟩
        have FN_q28 := Lib.hid gq24
        rw [hgq28] at FN_q28 ⊢
        clear hgq28 gq24 bq24
        refine hK.out _ _ (HSX.out _ FB_q25.out) (fun hHeld => ?_)
        clear hK K
        (try simp only [Act.put, setIfInBounds_toArray, set_cons_zero, set_cons_succ, getElem_toArray, getElem_cons_succ, getElem_cons_zero])
        refine t1 (i := 8) (h := fun K hK => ?_)
        refine step_at rfl _ _ 28 rfl v1.heap.size 72 i4 (.agg #[.int .i64 0, .int .i64 0, .int .i64 0, .int .i64 0]) 4 32 Tryd.underlying28 HI4.out HZ40.out HZ41.out HZ42.out rfl (by decide) _ _ _ rfl FO_q27.out ⟨gnq28, 0, none⟩ 1 1 [.int .i64 4, .int .i64 (ia : Nat), .int .i64 (ib : Nat), .int .i64 (N.w.length : Nat)] rfl rfl (World.news_of_block FN_q28.out) (by simp [Value.oneCell']) (by simp only [maxLen]; omega) (by (try dsimp only); omega) (Nat.le_trans HLO.out FB_q25.out.size) ?_
        intro v7 w7 own7 gr7 at7
        have own8 : w7.ownsRow v1.heap.size 72 4 v7 ls'.length ((flL ls').map (Value.int .i64)) := by rw [← HLE'.out, flL_app, List.map_append, List.length_append]; exact own7
        obtain ⟨L7, d7, rfl⟩ := own_shape4 own8
        have HP7 := Lib.hid (PS6.out.pushL FB_q25.out own8 gr7 at7)
        have q7 := (gr7.block bo (Nat.lt_of_lt_of_le HSB.out FB_q25.out.size) (fun e => HFS.out e.symm)).trans FX_q26.out
        have HQ7 := Lib.hid q7
        have HK7 := Lib.hid (HKF.out w7 ((B6.out.trans (FB_q25.out.mono B6.out.size)).grown gr7 (Nat.le_trans B6.out.size FB_q25.out.size) (fun q hq => Nat.le_trans BV.out.size (HOL.out.lt q hq).1))).2.2
        have HB8 := Lib.hid (((B6.out.trans (FB_q25.out.mono B6.out.size)).grown gr7 (Nat.le_trans B6.out.size FB_q25.out.size) (fun q hq => Nat.le_trans BV.out.size (HOL.out.lt q hq).1)).setCell (p := ⟨bo, 1, none⟩) HBOL.out (.slice L7 ls'.length d7))
        clear own7 own8 gr7 at7 q7
        refine hK.out _ _ (HK7.out) (fun hHeld => ?_)
        clear hK K
        (try simp only [Act.put, setIfInBounds_toArray, set_cons_zero, set_cons_succ, getElem_toArray, getElem_cons_succ, getElem_cons_zero])
        refine tk (i := 9) (h := ?_)
        (try simp only [Act.put, setIfInBounds_toArray, set_cons_zero, set_cons_succ, getElem_toArray, getElem_cons_succ, getElem_cons_zero])
        refine t1 (i := 10) (h := fun K hK => ?_)
        obtain ⟨a0, a1, a2⟩ := three_cells HQ7.out
        have f2 := frozen_of_row _ _ 1 _ _ HQ7.out
        go_simp
        clear a0 a1 a2 f2
        refine hK.out _ _ (farW_cell (i := 1) (u := .slice L7 _ d7) HK7.out (by have := HBOL.out; omega)) (fun hHeld => ?_)
        clear hK K
        (try simp only [Act.put, setIfInBounds_toArray, set_cons_zero, set_cons_succ, getElem_toArray, getElem_cons_succ, getElem_cons_zero])
        refine wpAnyH_done (by kernel_rfl) ?_ _
        have PS8 : PlSt v1 u3 (w7.setCell ⟨bo, 1, none⟩ (.slice L7 ls'.length d7)) bo h2 N ⟨h2.A, h2.c, h2.hs, L7, d7, C5, c5⟩ ⟨N.w, ls', LS⟩ := HP7.out
        go_wp2_with (fail)
        go_meet
        exact ⟨_, PS8, HB8.out⟩
      refine AllReadyH.cons rfl (fun K hK => ?_) ?_
      · go_simp
        obtain ⟨wq30, hwq30⟩ : ∃ w', w' = wq20.alloc (.cells #[.int .i64 4, .int .i64 (ia : Nat), .int .i64 (ib : Nat), .int .i64 (N.w.length : Nat)] 72) := ⟨_, rfl⟩
        rw [← hwq30]
        have bq30 := al hwq30
        have gq30 := an hwq30
        clear hwq30
        have FB_q31 := Lib.hid ((FB_q21.out).trans ((bq30).mono (FB_q21.out).size))
        have FX_q32 := Lib.hid (((bq30).block _ (Array.getElem?_eq_some_iff.1 (FX_q22.out)).1).trans (FX_q22.out))
        have FO_q33 := Lib.hid (own_below (FO_q23.out) (bq30) (Nat.le_refl _))
        clear FB_q21 FX_q22 FO_q23
        obtain ⟨gnq34, hgq34⟩ : ∃ b, wq20.heap.size = b := ⟨_, rfl⟩
        have FN_q34 := Lib.hid gq30
        rw [hgq34] at FN_q34 ⊢
        clear hgq34 gq30 bq30
        refine hK.out _ _ (HSX.out _ FB_q31.out) (fun hHeld => ?_)
        clear hK K
        (try simp only [Act.put, setIfInBounds_toArray, set_cons_zero, set_cons_succ, getElem_toArray, getElem_cons_succ, getElem_cons_zero])
        refine t1 (i := 1) (h := fun K hK => ?_)
        have cq := cell_of_row _ _ 1 _ _ (0, 0) FX_q32.out
        go_simp
        clear cq
        refine hK.out _ _ (hHeld) (fun hHeld => ?_)
        clear hK K
        (try simp only [Act.put, setIfInBounds_toArray, set_cons_zero, set_cons_succ, getElem_toArray, getElem_cons_succ, getElem_cons_zero])
        refine t1 (i := 8) (h := fun K hK => ?_)
        refine step_at rfl _ _ 28 rfl v1.heap.size 72 i4 (.agg #[.int .i64 0, .int .i64 0, .int .i64 0, .int .i64 0]) 4 32 Tryd.underlying28 HI4.out HZ40.out HZ41.out HZ42.out rfl (by decide) _ _ _ rfl FO_q33.out ⟨gnq34, 0, none⟩ 1 1 [.int .i64 4, .int .i64 (ia : Nat), .int .i64 (ib : Nat), .int .i64 (N.w.length : Nat)] rfl rfl (World.news_of_block FN_q34.out) (by simp [Value.oneCell']) (by simp only [maxLen]; omega) (by (try dsimp only); omega) (Nat.le_trans HLO.out FB_q31.out.size) ?_
        intro v7 w7 own7 gr7 at7
        have own8 : w7.ownsRow v1.heap.size 72 4 v7 ls'.length ((flL ls').map (Value.int .i64)) := by rw [← HLE'.out, flL_app, List.map_append, List.length_append]; exact own7
        obtain ⟨L7, d7, rfl⟩ := own_shape4 own8
        have HP7 := Lib.hid (PS6.out.pushL FB_q31.out own8 gr7 at7)
        have q7 := (gr7.block bo (Nat.lt_of_lt_of_le HSB.out FB_q31.out.size) (fun e => HFS.out e.symm)).trans FX_q32.out
        have HQ7 := Lib.hid q7
        have HK7 := Lib.hid (HKF.out w7 ((B6.out.trans (FB_q31.out.mono B6.out.size)).grown gr7 (Nat.le_trans B6.out.size FB_q31.out.size) (fun q hq => Nat.le_trans BV.out.size (HOL.out.lt q hq).1))).2.2
        have HB8 := Lib.hid (((B6.out.trans (FB_q31.out.mono B6.out.size)).grown gr7 (Nat.le_trans B6.out.size FB_q31.out.size) (fun q hq => Nat.le_trans BV.out.size (HOL.out.lt q hq).1)).setCell (p := ⟨bo, 1, none⟩) HBOL.out (.slice L7 ls'.length d7))
        clear own7 own8 gr7 at7 q7
        refine hK.out _ _ (HK7.out) (fun hHeld => ?_)
        clear hK K
        (try simp only [Act.put, setIfInBounds_toArray, set_cons_zero, set_cons_succ, getElem_toArray, getElem_cons_succ, getElem_cons_zero])
        refine tk (i := 9) (h := ?_)
        (try simp only [Act.put, setIfInBounds_toArray, set_cons_zero, set_cons_succ, getElem_toArray, getElem_cons_succ, getElem_cons_zero])
        refine t1 (i := 10) (h := fun K hK => ?_)
        obtain ⟨a0, a1, a2⟩ := three_cells HQ7.out
        have f2 := frozen_of_row _ _ 1 _ _ HQ7.out
        go_simp
        clear a0 a1 a2 f2
        refine hK.out _ _ (farW_cell (i := 1) (u := .slice L7 _ d7) HK7.out (by have := HBOL.out; omega)) (fun hHeld => ?_)
        clear hK K
        (try simp only [Act.put, setIfInBounds_toArray, set_cons_zero, set_cons_succ, getElem_toArray, getElem_cons_succ, getElem_cons_zero])
        refine wpAnyH_done (by kernel_rfl) ?_ _
        have PS8 : PlSt v1 u3 (w7.setCell ⟨bo, 1, none⟩ (.slice L7 ls'.length d7)) bo h2 N ⟨h2.A, h2.c, h2.hs, L7, d7, C5, c5⟩ ⟨N.w, ls', LS⟩ := HP7.out
        go_wp2_with (fail)
        go_meet
        exact ⟨_, PS8, HB8.out⟩
      exact AllReadyH.nil
    exact AllReadyH.nil
  case rest =>
    obtain ⟨h8, PC, BC⟩ := hcut
    have PS8 := Lib.hid PC; have B8 := Lib.hid BC
    clear PC BC PS6 B6
    have HSW8 : Hid (∀ wx : World, Below w0.heap.size w0 wx → wx.cell? ⟨w.heap.size, 0, none⟩ = some (.slice (some ⟨bw, offw, none⟩) N.w.length h.c) ∧ wx.cell? ⟨bw, offw + ia, none⟩ = some (.slice Aa P.length ca) ∧ wx.cell? ⟨bw, offw + ib, none⟩ = some (.slice Ab Q.length cb)) := Lib.hid fun wx hx => by
      obtain ⟨k0, _, _⟩ := HKF.out _ hx
      rw [HAA.out] at k0
      exact ⟨k0, (hx.cell (p := ⟨bw, offw + ia, none⟩) hbw').trans HWA.out, (hx.cell (p := ⟨bw, offw + ib, none⟩) hbw').trans HWB.out⟩
    obtain ⟨k0, k1, k2⟩ := three_cells PS8.out.box
    go_upto_region 8 with (fail)
    clear k0 k1 k2
    go_cut [] (fun wx => LkSt v1 u3 w0 bo h2 N ⟨ws', ls', LS⟩ wx)
    case first =>
      have FB_0 := Lib.hid (Below.refl wc.heap.size wc)
      have FX_0 := Lib.hid PS8.out.box
      have HOQ := Lib.hid PS8.out.own.q.outer
      have HSB : Hid (bo < wc.heap.size) := Lib.hid (Nat.lt_of_lt_of_le s3 PS8.out.size)
      have HFA := Lib.hid (PS8.out.far bo PS8.out.sxl PS8.out.sxf).a
      have HLO8 := Lib.hid PS8.out.bel.size
      have HBOL : Hid (w0.heap.size ≤ bo) := Lib.hid (by omega)
      have HSX : Hid (∀ wx : World, Below wc.heap.size wc wx → wx.cell? ⟨w.heap.size, 0, none⟩ = some (.slice (some ⟨bw, offw, none⟩) N.w.length h.c) ∧ wx.cell? ⟨bw, offw + ia, none⟩ = some (.slice Aa P.length ca) ∧ wx.cell? ⟨bw, offw + ib, none⟩ = some (.slice Ab Q.length cb)) := Lib.hid fun wx hx => HSW8.out wx (B8.out.trans (hx.mono B8.out.size))
      have HS9 : Hid (∀ (wx : World) (g cap : Nat), (wx.cell? ⟨w.heap.size, 0, none⟩ = some (.slice (some ⟨bw, offw, none⟩) N.w.length h.c) ∧ wx.cell? ⟨bw, offw + ia, none⟩ = some (.slice Aa P.length ca) ∧ wx.cell? ⟨bw, offw + ib, none⟩ = some (.slice Ab Q.length cb)) → ((wx.setCell ⟨bo, 0, none⟩ (.slice (some ⟨g, 0, none⟩) (N.w.length + 1) cap)).cell? ⟨w.heap.size, 0, none⟩ = some (.slice (some ⟨bw, offw, none⟩) N.w.length h.c) ∧ (wx.setCell ⟨bo, 0, none⟩ (.slice (some ⟨g, 0, none⟩) (N.w.length + 1) cap)).cell? ⟨bw, offw + ia, none⟩ = some (.slice Aa P.length ca) ∧ (wx.setCell ⟨bo, 0, none⟩ (.slice (some ⟨g, 0, none⟩) (N.w.length + 1) cap)).cell? ⟨bw, offw + ib, none⟩ = some (.slice Ab Q.length cb))) := Lib.hid fun wx g cap hk => by
        have := HBOL.out
        have n1 : bo ≠ w.heap.size := by omega
        have n2 : bo ≠ bw := by omega
        exact ⟨farW_cell hk.1 n1, farW_cell hk.2.1 n2, farW_cell hk.2.2 n2⟩
      refine wp_region_held_drew (S := fun wx => wx.cell? ⟨w.heap.size, 0, none⟩ = some (.slice (some ⟨bw, offw, none⟩) N.w.length h.c) ∧ wx.cell? ⟨bw, offw + ia, none⟩ = some (.slice Aa P.length ca) ∧ wx.cell? ⟨bw, offw + ib, none⟩ = some (.slice Ab Q.length cb)) (by kernel_rfl) (HSX.out _ (Below.refl _ _).drew) (fun hHeld => ?_)
      obtain ⟨wp1, hwp1⟩ : ∃ w', w' = wc.drew := ⟨_, rfl⟩
      rw [← hwp1] at hHeld ⊢
      have bp1 : Below wc.heap.size wc wp1 := by rw [hwp1]; exact (Below.refl _ _).drew
      clear hwp1
      have FB_p2 := Lib.hid ((FB_0.out).trans ((bp1).mono (FB_0.out).size))
      have FX_p3 := Lib.hid (((bp1).block _ (Array.getElem?_eq_some_iff.1 (FX_0.out)).1).trans (FX_0.out))
      clear FB_0 FX_0
      refine tk (i := 0) (h := ?_)
      (try simp only [Act.put, setIfInBounds_toArray, set_cons_zero, set_cons_succ, getElem_toArray, getElem_cons_succ, getElem_cons_zero])
      refine tk (i := 2) (h := ?_)
      (try simp only [Act.put, setIfInBounds_toArray, set_cons_zero, set_cons_succ, getElem_toArray, getElem_cons_succ, getElem_cons_zero])
      refine tk (i := 4) (h := ?_)
      (try simp only [Act.put, setIfInBounds_toArray, set_cons_zero, set_cons_succ, getElem_toArray, getElem_cons_succ, getElem_cons_zero])
      refine tk (i := 6) (h := ?_)
      (try simp only [Act.put, setIfInBounds_toArray, set_cons_zero, set_cons_succ, getElem_toArray, getElem_cons_succ, getElem_cons_zero])
      refine tk (i := 9) (h := ?_)
      (try simp only [Act.put, setIfInBounds_toArray, set_cons_zero, set_cons_succ, getElem_toArray, getElem_cons_succ, getElem_cons_zero])
      refine tk (i := 11) (h := ?_)
      (try simp only [Act.put, setIfInBounds_toArray, set_cons_zero, set_cons_succ, getElem_toArray, getElem_cons_succ, getElem_cons_zero])
      refine tk (i := 5) (h := ?_)
      (try simp only [Act.put, setIfInBounds_toArray, set_cons_zero, set_cons_succ, getElem_toArray, getElem_cons_succ, getElem_cons_zero])
      refine tk (i := 10) (h := ?_)
      (try simp only [Act.put, setIfInBounds_toArray, set_cons_zero, set_cons_succ, getElem_toArray, getElem_cons_succ, getElem_cons_zero])
      refine tk (i := 7) (h := ?_)
      (try simp only [Act.put, setIfInBounds_toArray, set_cons_zero, set_cons_succ, getElem_toArray, getElem_cons_succ, getElem_cons_zero])
      refine tk (i := 12) (h := ?_)
      (try simp only [Act.put, setIfInBounds_toArray, set_cons_zero, set_cons_succ, getElem_toArray, getElem_cons_succ, getElem_cons_zero])
      refine tk (i := 8) (h := ?_)
      (try simp only [Act.put, setIfInBounds_toArray, set_cons_zero, set_cons_succ, getElem_toArray, getElem_cons_succ, getElem_cons_zero])
      refine tk (i := 13) (h := ?_)
      (try simp only [Act.put, setIfInBounds_toArray, set_cons_zero, set_cons_succ, getElem_toArray, getElem_cons_succ, getElem_cons_zero])
      refine wpAnyH_ready (rs := [1, 3, 14]) (by kernel_rfl) (by simp) ?_
      refine AllReadyH.cons rfl (fun K hK => ?_) ?_
      · have cq := cell_of_row _ _ 0 _ _ (0, 0) FX_p3.out
        go_simp
        clear cq
        refine hK.out _ _ (hHeld) (fun hHeld => ?_)
        clear hK K
        (try simp only [Act.put, setIfInBounds_toArray, set_cons_zero, set_cons_succ, getElem_toArray, getElem_cons_succ, getElem_cons_zero])
        refine wpAnyH_ready (rs := [3, 14]) (by kernel_rfl) (by simp) ?_
        refine AllReadyH.cons rfl (fun K hK => ?_) ?_
        · go_simp
          refine (HLO2.out wp1).mono ?_
          rintro e wp16 ⟨rfl, belp16⟩
          dsimp only
          have FB_p17 := Lib.hid ((FB_p2.out).trans ((belp16).mono (FB_p2.out).size))
          have FX_p18 := Lib.hid (((belp16).block _ (Array.getElem?_eq_some_iff.1 (FX_p3.out)).1).trans (FX_p3.out))
          clear FB_p2 FX_p3
          clear belp16
          refine hK.out _ _ (HSX.out _ FB_p17.out) (fun hHeld => ?_)
          clear hK K
          (try simp only [Act.put, setIfInBounds_toArray, set_cons_zero, set_cons_succ, getElem_toArray, getElem_cons_succ, getElem_cons_zero])
          refine t1 (i := 14) (h := fun K hK => ?_)
          go_simp
          obtain ⟨wp19, hwp19⟩ : ∃ w', w' = wp16.alloc (.cells #[.slice Aa P.length ca, .slice Ab Q.length cb] 24) := ⟨_, rfl⟩
          rw [← hwp19]
          have bp19 := al hwp19
          have gp19 := an hwp19
          clear hwp19
          have FB_p20 := Lib.hid ((FB_p17.out).trans ((bp19).mono (FB_p17.out).size))
          have FX_p21 := Lib.hid (((bp19).block _ (Array.getElem?_eq_some_iff.1 (FX_p18.out)).1).trans (FX_p18.out))
          clear FB_p17 FX_p18
          obtain ⟨gpp22, hgp22⟩ : ∃ b, wp16.heap.size = b := ⟨_, rfl⟩
          have FP_p22 := Lib.hid gp19
          rw [hgp22] at FP_p22 ⊢
          clear hgp22 gp19 bp19
          refine hK.out _ _ (HSX.out _ FB_p20.out) (fun hHeld => ?_)
          clear hK K
          (try simp only [Act.put, setIfInBounds_toArray, set_cons_zero, set_cons_succ, getElem_toArray, getElem_cons_succ, getElem_cons_zero])
          refine t1 (i := 15) (h := fun K hK => ?_)
          go_simp
          have hspp23 := FB_p20.out.size
          refine (HFO.out wp19 gpp22 (B8.out.trans (FB_p20.out.mono B8.out.size)) FP_p22.out).mono ?_
          rintro e wp23 ⟨A6, c6, rfl, ownp23, belp23⟩
          dsimp only
          have FB_p24 := Lib.hid ((FB_p20.out).trans ((belp23).mono (FB_p20.out).size))
          have FX_p25 := Lib.hid (((belp23).block _ (Array.getElem?_eq_some_iff.1 (FX_p21.out)).1).trans (FX_p21.out))
          have FP_p26 := Lib.hid (((belp23).block _ (Array.getElem?_eq_some_iff.1 (FP_p22.out)).1).trans (FP_p22.out))
          clear FB_p20 FX_p21 FP_p22
          obtain ⟨o6, n6, bs6⟩ := push_in (A6 := A6) (c6 := c6) (dq := DP) PS8.out.own.q rfl HLO8.out FB_p24.out
          have O6 := Lib.hid o6; have N6 := Lib.hid n6; have BS6 := Lib.hid bs6
          have OW6 := Lib.hid (own_more ownp23 hspp23)
          have BE6 := Lib.hid FB_p24.out
          clear o6 n6 bs6 ownp23 belp23 hspp23
          refine hK.out _ _ (HSX.out _ FB_p24.out) (fun hHeld => ?_)
          clear hK K
          (try simp only [Act.put, setIfInBounds_toArray, set_cons_zero, set_cons_succ, getElem_toArray, getElem_cons_succ, getElem_cons_zero])
          refine t1 (i := 16) (h := fun K hK => ?_)
          go_simp
          have FB_p27 := Lib.hid ((FB_p24.out).trans (((box_below wp23 (.slice A6 DP.length c6) 24)).mono (FB_p24.out).size))
          have FX_p28 := Lib.hid ((((box_below wp23 (.slice A6 DP.length c6) 24)).block _ (Array.getElem?_eq_some_iff.1 (FX_p25.out)).1).trans (FX_p25.out))
          have FP_p29 := Lib.hid ((((box_below wp23 (.slice A6 DP.length c6) 24)).block _ (Array.getElem?_eq_some_iff.1 (FP_p26.out)).1).trans (FP_p26.out))
          clear FB_p24 FX_p25 FP_p26
          refine hK.out _ _ (HSX.out _ FB_p27.out) (fun hHeld => ?_)
          clear hK K
          (try simp only [Act.put, setIfInBounds_toArray, set_cons_zero, set_cons_succ, getElem_toArray, getElem_cons_succ, getElem_cons_zero])
          refine t1 (i := 17) (h := fun K hK => ?_)
          refine step_append_lies _ rfl _ _ _ rfl _ 24 i0 (.slice none 0 0) 1 24 Tryd.underlying22 HHI.out HZ0.out HZ1.out HZ2.out rfl (by decide) _ _ _ rfl O6.out ⟨wp23.heap.size, 0, none⟩ 1 1 [.slice A6 DP.length c6] rfl rfl N6.out (by simp [Value.oneCell']) (by decide) (by simp only [maxLen]; omega) (by (try dsimp only); omega) BS6.out _ rfl ?_
          intro g cap u9 hown9 hgrow9 hat9 hlt9
          have hp9 := PS8.out.pushW BE6.out OW6.out hown9 hgrow9 hat9
          rw [HWE.out] at hp9
          rw [HWL.out] at hp9
          have HP9 := Lib.hid hp9
          have q9 := (hgrow9.block bo (Nat.lt_of_lt_of_le HSB.out FB_p27.out.size) (fun e => HFA.out e.symm)).trans FX_p28.out
          have HQ9 := Lib.hid q9
          have b9 := (B8.out.trans (FB_p27.out.mono B8.out.size)).grown hgrow9 (Nat.le_trans B8.out.size FB_p27.out.size) (fun q hq => Nat.le_trans BV.out.size (HOQ.out.lt q hq).1)
          have HK9 := Lib.hid (HSW8.out u9 b9)
          have HB9 := Lib.hid (b9.setCell (p := ⟨bo, 0, none⟩) HBOL.out (.slice (some ⟨g, 0, none⟩) (N.w.length + 1) cap))
          clear hown9 hgrow9 hat9 hp9 q9 b9
          refine hK.out _ _ (HK9.out) (fun hHeld => ?_)
          clear hK K
          (try simp only [Act.put, setIfInBounds_toArray, set_cons_zero, set_cons_succ, getElem_toArray, getElem_cons_succ, getElem_cons_zero])
          refine tk (i := 18) (h := ?_)
          (try simp only [Act.put, setIfInBounds_toArray, set_cons_zero, set_cons_succ, getElem_toArray, getElem_cons_succ, getElem_cons_zero])
          refine t1 (i := 19) (h := fun K hK => ?_)
          obtain ⟨a0, a1, a2⟩ := three_cells HQ9.out
          have f2 := frozen_of_row _ _ 0 _ _ HQ9.out
          go_simp
          clear a0 a1 a2 f2
          refine hK.out _ _ (HS9.out u9 g cap HK9.out) (fun hHeld => ?_)
          clear hK K
          (try simp only [Act.put, setIfInBounds_toArray, set_cons_zero, set_cons_succ, getElem_toArray, getElem_cons_succ, getElem_cons_zero])
          refine wpAnyH_done (by kernel_rfl) ?_ _
          go_wp2_with (fail)
          go_meet
          exact ⟨_, HP9.out, HB9.out⟩
        refine AllReadyH.cons rfl (fun K hK => ?_) ?_
        · go_simp
          obtain ⟨wp31, hwp31⟩ : ∃ w', w' = wp1.alloc (.cells #[.slice Aa P.length ca, .slice Ab Q.length cb] 24) := ⟨_, rfl⟩
          rw [← hwp31]
          have bp31 := al hwp31
          have gp31 := an hwp31
          clear hwp31
          have FB_p32 := Lib.hid ((FB_p2.out).trans ((bp31).mono (FB_p2.out).size))
          have FX_p33 := Lib.hid (((bp31).block _ (Array.getElem?_eq_some_iff.1 (FX_p3.out)).1).trans (FX_p3.out))
          clear FB_p2 FX_p3
          obtain ⟨gpp34, hgp34⟩ : ∃ b, wp1.heap.size = b := ⟨_, rfl⟩
          have FP_p34 := Lib.hid gp31
          rw [hgp34] at FP_p34 ⊢
          clear hgp34 gp31 bp31
          refine hK.out _ _ (HSX.out _ FB_p32.out) (fun hHeld => ?_)
          clear hK K
          (try simp only [Act.put, setIfInBounds_toArray, set_cons_zero, set_cons_succ, getElem_toArray, getElem_cons_succ, getElem_cons_zero])
          refine t1 (i := 3) (h := fun K hK => ?_)
          go_simp
          refine (HLO2.out wp31).mono ?_
          rintro e wp35 ⟨rfl, belp35⟩
          dsimp only
          have FB_p36 := Lib.hid ((FB_p32.out).trans ((belp35).mono (FB_p32.out).size))
          have FX_p37 := Lib.hid (((belp35).block _ (Array.getElem?_eq_some_iff.1 (FX_p33.out)).1).trans (FX_p33.out))
          have FP_p38 := Lib.hid (((belp35).block _ (Array.getElem?_eq_some_iff.1 (FP_p34.out)).1).trans (FP_p34.out))
          clear FB_p32 FX_p33 FP_p34
          clear belp35
          refine hK.out _ _ (HSX.out _ FB_p36.out) (fun hHeld => ?_)
          clear hK K
          (try simp only [Act.put, setIfInBounds_toArray, set_cons_zero, set_cons_succ, getElem_toArray, getElem_cons_succ, getElem_cons_zero])
          refine t1 (i := 15) (h := fun K hK => ?_)
          go_simp
          have hspp39 := FB_p36.out.size
          refine (HFO.out wp35 gpp34 (B8.out.trans (FB_p36.out.mono B8.out.size)) FP_p38.out).mono ?_
          rintro e wp39 ⟨A6, c6, rfl, ownp39, belp39⟩
          dsimp only
          have FB_p40 := Lib.hid ((FB_p36.out).trans ((belp39).mono (FB_p36.out).size))
          have FX_p41 := Lib.hid (((belp39).block _ (Array.getElem?_eq_some_iff.1 (FX_p37.out)).1).trans (FX_p37.out))
          have FP_p42 := Lib.hid (((belp39).block _ (Array.getElem?_eq_some_iff.1 (FP_p38.out)).1).trans (FP_p38.out))
          clear FB_p36 FX_p37 FP_p38
          obtain ⟨o6, n6, bs6⟩ := push_in (A6 := A6) (c6 := c6) (dq := DP) PS8.out.own.q rfl HLO8.out FB_p40.out
          have O6 := Lib.hid o6; have N6 := Lib.hid n6; have BS6 := Lib.hid bs6
          have OW6 := Lib.hid (own_more ownp39 hspp39)
          have BE6 := Lib.hid FB_p40.out
          clear o6 n6 bs6 ownp39 belp39 hspp39
          refine hK.out _ _ (HSX.out _ FB_p40.out) (fun hHeld => ?_)
          clear hK K
          (try simp only [Act.put, setIfInBounds_toArray, set_cons_zero, set_cons_succ, getElem_toArray, getElem_cons_succ, getElem_cons_zero])
          refine t1 (i := 16) (h := fun K hK => ?_)
          go_simp
          have FB_p43 := Lib.hid ((FB_p40.out).trans (((box_below wp39 (.slice A6 DP.length c6) 24)).mono (FB_p40.out).size))
          have FX_p44 := Lib.hid ((((box_below wp39 (.slice A6 DP.length c6) 24)).block _ (Array.getElem?_eq_some_iff.1 (FX_p41.out)).1).trans (FX_p41.out))
          have FP_p45 := Lib.hid ((((box_below wp39 (.slice A6 DP.length c6) 24)).block _ (Array.getElem?_eq_some_iff.1 (FP_p42.out)).1).trans (FP_p42.out))
          clear FB_p40 FX_p41 FP_p42
          refine hK.out _ _ (HSX.out _ FB_p43.out) (fun hHeld => ?_)
          clear hK K
          (try simp only [Act.put, setIfInBounds_toArray, set_cons_zero, set_cons_succ, getElem_toArray, getElem_cons_succ, getElem_cons_zero])
          refine t1 (i := 17) (h := fun K hK => ?_)
          refine step_append_lies _ rfl _ _ _ rfl _ 24 i0 (.slice none 0 0) 1 24 Tryd.underlying22 HHI.out HZ0.out HZ1.out HZ2.out rfl (by decide) _ _ _ rfl O6.out ⟨wp39.heap.size, 0, none⟩ 1 1 [.slice A6 DP.length c6] rfl rfl N6.out (by simp [Value.oneCell']) (by decide) (by simp only [maxLen]; omega) (by (try dsimp only); omega) BS6.out _ rfl ?_
          intro g cap u9 hown9 hgrow9 hat9 hlt9
          have hp9 := PS8.out.pushW BE6.out OW6.out hown9 hgrow9 hat9
          rw [HWE.out] at hp9
          rw [HWL.out] at hp9
          have HP9 := Lib.hid hp9
          have q9 := (hgrow9.block bo (Nat.lt_of_lt_of_le HSB.out FB_p43.out.size) (fun e => HFA.out e.symm)).trans FX_p44.out
          have HQ9 := Lib.hid q9
          have b9 := (B8.out.trans (FB_p43.out.mono B8.out.size)).grown hgrow9 (Nat.le_trans B8.out.size FB_p43.out.size) (fun q hq => Nat.le_trans BV.out.size (HOQ.out.lt q hq).1)
          have HK9 := Lib.hid (HSW8.out u9 b9)
          have HB9 := Lib.hid (b9.setCell (p := ⟨bo, 0, none⟩) HBOL.out (.slice (some ⟨g, 0, none⟩) (N.w.length + 1) cap))
          clear hown9 hgrow9 hat9 hp9 q9 b9
          refine hK.out _ _ (HK9.out) (fun hHeld => ?_)
          clear hK K
          (try simp only [Act.put, setIfInBounds_toArray, set_cons_zero, set_cons_succ, getElem_toArray, getElem_cons_succ, getElem_cons_zero])
          refine tk (i := 18) (h := ?_)
          (try simp only [Act.put, setIfInBounds_toArray, set_cons_zero, set_cons_succ, getElem_toArray, getElem_cons_succ, getElem_cons_zero])
          refine t1 (i := 19) (h := fun K hK => ?_)
          obtain ⟨a0, a1, a2⟩ := three_cells HQ9.out
          have f2 := frozen_of_row _ _ 0 _ _ HQ9.out
          go_simp
          clear a0 a1 a2 f2
          refine hK.out _ _ (HS9.out u9 g cap HK9.out) (fun hHeld => ?_)
          clear hK K
          (try simp only [Act.put, setIfInBounds_toArray, set_cons_zero, set_cons_succ, getElem_toArray, getElem_cons_succ, getElem_cons_zero])
          refine wpAnyH_done (by kernel_rfl) ?_ _
          go_wp2_with (fail)
          go_meet
          exact ⟨_, HP9.out, HB9.out⟩
        exact AllReadyH.nil
      refine AllReadyH.cons rfl (fun K hK => ?_) ?_
      · go_simp
        refine (HLO2.out wp1).mono ?_
        rintro e wp47 ⟨rfl, belp47⟩
        dsimp only
        have FB_p48 := Lib.hid ((FB_p2.out).trans ((belp47).mono (FB_p2.out).size))
        have FX_p49 := Lib.hid (((belp47).block _ (Array.getElem?_eq_some_iff.1 (FX_p3.out)).1).trans (FX_p3.out))
        clear FB_p2 FX_p3
        clear belp47
        refine hK.out _ _ (HSX.out _ FB_p48.out) (fun hHeld => ?_)
        clear hK K
        (try simp only [Act.put, setIfInBounds_toArray, set_cons_zero, set_cons_succ, getElem_toArray, getElem_cons_succ, getElem_cons_zero])
        refine wpAnyH_ready (rs := [1, 14]) (by kernel_rfl) (by simp) ?_
        refine AllReadyH.cons rfl (fun K hK => ?_) ?_
        · have cq := cell_of_row _ _ 0 _ _ (0, 0) FX_p49.out
          go_simp
          clear cq
          refine hK.out _ _ (hHeld) (fun hHeld => ?_)
          clear hK K
          (try simp only [Act.put, setIfInBounds_toArray, set_cons_zero, set_cons_succ, getElem_toArray, getElem_cons_succ, getElem_cons_zero])
          refine t1 (i := 14) (h := fun K hK => ?_)
          go_simp
          obtain ⟨wp50, hwp50⟩ : ∃ w', w' = wp47.alloc (.cells #[.slice Aa P.length ca, .slice Ab Q.length cb] 24) := ⟨_, rfl⟩
          rw [← hwp50]
          have bp50 := al hwp50
          have gp50 := an hwp50
          clear hwp50
          have FB_p51 := Lib.hid ((FB_p48.out).trans ((bp50).mono (FB_p48.out).size))
          have FX_p52 := Lib.hid (((bp50).block _ (Array.getElem?_eq_some_iff.1 (FX_p49.out)).1).trans (FX_p49.out))
          clear FB_p48 FX_p49
          obtain ⟨gpp53, hgp53⟩ : ∃ b, wp47.heap.size = b := ⟨_, rfl⟩
          have FP_p53 := Lib.hid gp50
          rw [hgp53] at FP_p53 ⊢
          clear hgp53 gp50 bp50
          refine hK.out _ _ (HSX.out _ FB_p51.out) (fun hHeld => ?_)
          clear hK K
          (try simp only [Act.put, setIfInBounds_toArray, set_cons_zero, set_cons_succ, getElem_toArray, getElem_cons_succ, getElem_cons_zero])
          refine t1 (i := 15) (h := fun K hK => ?_)
          go_simp
          have hspp54 := FB_p51.out.size
          refine (HFO.out wp50 gpp53 (B8.out.trans (FB_p51.out.mono B8.out.size)) FP_p53.out).mono ?_
          rintro e wp54 ⟨A6, c6, rfl, ownp54, belp54⟩
          dsimp only
          have FB_p55 := Lib.hid ((FB_p51.out).trans ((belp54).mono (FB_p51.out).size))
          have FX_p56 := Lib.hid (((belp54).block _ (Array.getElem?_eq_some_iff.1 (FX_p52.out)).1).trans (FX_p52.out))
          have FP_p57 := Lib.hid (((belp54).block _ (Array.getElem?_eq_some_iff.1 (FP_p53.out)).1).trans (FP_p53.out))
          clear FB_p51 FX_p52 FP_p53
          obtain ⟨o6, n6, bs6⟩ := push_in (A6 := A6) (c6 := c6) (dq := DP) PS8.out.own.q rfl HLO8.out FB_p55.out
          have O6 := Lib.hid o6; have N6 := Lib.hid n6; have BS6 := Lib.hid bs6
          have OW6 := Lib.hid (own_more ownp54 hspp54)
          have BE6 := Lib.hid FB_p55.out
          clear o6 n6 bs6 ownp54 belp54 hspp54
          refine hK.out _ _ (HSX.out _ FB_p55.out) (fun hHeld => ?_)
          clear hK K
          (try simp only [Act.put, setIfInBounds_toArray, set_cons_zero, set_cons_succ, getElem_toArray, getElem_cons_succ, getElem_cons_zero])
          refine t1 (i := 16) (h := fun K hK => ?_)
          go_simp
          have FB_p58 := Lib.hid ((FB_p55.out).trans (((box_below wp54 (.slice A6 DP.length c6) 24)).mono (FB_p55.out).size))
          have FX_p59 := Lib.hid ((((box_below wp54 (.slice A6 DP.length c6) 24)).block _ (Array.getElem?_eq_some_iff.1 (FX_p56.out)).1).trans (FX_p56.out))
          have FP_p60 := Lib.hid ((((box_below wp54 (.slice A6 DP.length c6) 24)).block _ (Array.getElem?_eq_some_iff.1 (FP_p57.out)).1).trans (FP_p57.out))
          clear FB_p55 FX_p56 FP_p57
          refine hK.out _ _ (HSX.out _ FB_p58.out) (fun hHeld => ?_)
          clear hK K
          (try simp only [Act.put, setIfInBounds_toArray, set_cons_zero, set_cons_succ, getElem_toArray, getElem_cons_succ, getElem_cons_zero])
          refine t1 (i := 17) (h := fun K hK => ?_)
          refine step_append_lies _ rfl _ _ _ rfl _ 24 i0 (.slice none 0 0) 1 24 Tryd.underlying22 HHI.out HZ0.out HZ1.out HZ2.out rfl (by decide) _ _ _ rfl O6.out ⟨wp54.heap.size, 0, none⟩ 1 1 [.slice A6 DP.length c6] rfl rfl N6.out (by simp [Value.oneCell']) (by decide) (by simp only [maxLen]; omega) (by (try dsimp only); omega) BS6.out _ rfl ?_
          intro g cap u9 hown9 hgrow9 hat9 hlt9
          have hp9 := PS8.out.pushW BE6.out OW6.out hown9 hgrow9 hat9
          rw [HWE.out] at hp9
          rw [HWL.out] at hp9
          have HP9 := Lib.hid hp9
          have q9 := (hgrow9.block bo (Nat.lt_of_lt_of_le HSB.out FB_p58.out.size) (fun e => HFA.out e.symm)).trans FX_p59.out
          have HQ9 := Lib.hid q9
          have b9 := (B8.out.trans (FB_p58.out.mono B8.out.size)).grown hgrow9 (Nat.le_trans B8.out.size FB_p58.out.size) (fun q hq => Nat.le_trans BV.out.size (HOQ.out.lt q hq).1)
          have HK9 := Lib.hid (HSW8.out u9 b9)
          have HB9 := Lib.hid (b9.setCell (p := ⟨bo, 0, none⟩) HBOL.out (.slice (some ⟨g, 0, none⟩) (N.w.length + 1) cap))
          clear hown9 hgrow9 hat9 hp9 q9 b9
          refine hK.out _ _ (HK9.out) (fun hHeld => ?_)
          clear hK K
          (try simp only [Act.put, setIfInBounds_toArray, set_cons_zero, set_cons_succ, getElem_toArray, getElem_cons_succ, getElem_cons_zero])
          refine tk (i := 18) (h := ?_)
          (try simp only [Act.put, setIfInBounds_toArray, set_cons_zero, set_cons_succ, getElem_toArray, getElem_cons_succ, getElem_cons_zero])
          refine t1 (i := 19) (h := fun K hK => ?_)
          obtain ⟨a0, a1, a2⟩ := three_cells HQ9.out
          have f2 := frozen_of_row _ _ 0 _ _ HQ9.out
          go_simp
          clear a0 a1 a2 f2
          refine hK.out _ _ (HS9.out u9 g cap HK9.out) (fun hHeld => ?_)
          clear hK K
          (try simp only [Act.put, setIfInBounds_toArray, set_cons_zero, set_cons_succ, getElem_toArray, getElem_cons_succ, getElem_cons_zero])
          refine wpAnyH_done (by kernel_rfl) ?_ _
          go_wp2_with (fail)
          go_meet
          exact ⟨_, HP9.out, HB9.out⟩
        refine AllReadyH.cons rfl (fun K hK => ?_) ?_
        · go_simp
          obtain ⟨wp62, hwp62⟩ : ∃ w', w' = wp47.alloc (.cells #[.slice Aa P.length ca, .slice Ab Q.length cb] 24) := ⟨_, rfl⟩
          rw [← hwp62]
          have bp62 := al hwp62
          have gp62 := an hwp62
          clear hwp62
          have FB_p63 := Lib.hid ((FB_p48.out).trans ((bp62).mono (FB_p48.out).size))
          have FX_p64 := Lib.hid (((bp62).block _ (Array.getElem?_eq_some_iff.1 (FX_p49.out)).1).trans (FX_p49.out))
          clear FB_p48 FX_p49
          obtain ⟨gpp65, hgp65⟩ : ∃ b, wp47.heap.size = b := ⟨_, rfl⟩
          have FP_p65 := Lib.hid gp62
          rw [hgp65] at FP_p65 ⊢
          clear hgp65 gp62 bp62
          refine hK.out _ _ (HSX.out _ FB_p63.out) (fun hHeld => ?_)
          clear hK K
          (try simp only [Act.put, setIfInBounds_toArray, set_cons_zero, set_cons_succ, getElem_toArray, getElem_cons_succ, getElem_cons_zero])
          refine wpAnyH_ready (rs := [1, 15]) (by kernel_rfl) (by simp) ?_
          refine AllReadyH.cons rfl (fun K hK => ?_) ?_
          · have cq := cell_of_row _ _ 0 _ _ (0, 0) FX_p64.out
            go_simp
            clear cq
            refine hK.out _ _ (hHeld) (fun hHeld => ?_)
            clear hK K
            (try simp only [Act.put, setIfInBounds_toArray, set_cons_zero, set_cons_succ, getElem_toArray, getElem_cons_succ, getElem_cons_zero])
            refine t1 (i := 15) (h := fun K hK => ?_)
            go_simp
            have hspp66 := FB_p63.out.size
            refine (HFO.out wp62 gpp65 (B8.out.trans (FB_p63.out.mono B8.out.size)) FP_p65.out).mono ?_
            rintro e wp66 ⟨A6, c6, rfl, ownp66, belp66⟩
            dsimp only
            have FB_p67 := Lib.hid ((FB_p63.out).trans ((belp66).mono (FB_p63.out).size))
            have FX_p68 := Lib.hid (((belp66).block _ (Array.getElem?_eq_some_iff.1 (FX_p64.out)).1).trans (FX_p64.out))
            have FP_p69 := Lib.hid (((belp66).block _ (Array.getElem?_eq_some_iff.1 (FP_p65.out)).1).trans (FP_p65.out))
            clear FB_p63 FX_p64 FP_p65
            obtain ⟨o6, n6, bs6⟩ := push_in (A6 := A6) (c6 := c6) (dq := DP) PS8.out.own.q rfl HLO8.out FB_p67.out
            have O6 := Lib.hid o6; have N6 := Lib.hid n6; have BS6 := Lib.hid bs6
            have OW6 := Lib.hid (own_more ownp66 hspp66)
            have BE6 := Lib.hid FB_p67.out
            clear o6 n6 bs6 ownp66 belp66 hspp66
            refine hK.out _ _ (HSX.out _ FB_p67.out) (fun hHeld => ?_)
            clear hK K
            (try simp only [Act.put, setIfInBounds_toArray, set_cons_zero, set_cons_succ, getElem_toArray, getElem_cons_succ, getElem_cons_zero])
            refine t1 (i := 16) (h := fun K hK => ?_)
            go_simp
            have FB_p70 := Lib.hid ((FB_p67.out).trans (((box_below wp66 (.slice A6 DP.length c6) 24)).mono (FB_p67.out).size))
            have FX_p71 := Lib.hid ((((box_below wp66 (.slice A6 DP.length c6) 24)).block _ (Array.getElem?_eq_some_iff.1 (FX_p68.out)).1).trans (FX_p68.out))
            have FP_p72 := Lib.hid ((((box_below wp66 (.slice A6 DP.length c6) 24)).block _ (Array.getElem?_eq_some_iff.1 (FP_p69.out)).1).trans (FP_p69.out))
            clear FB_p67 FX_p68 FP_p69
            refine hK.out _ _ (HSX.out _ FB_p70.out) (fun hHeld => ?_)
            clear hK K
            (try simp only [Act.put, setIfInBounds_toArray, set_cons_zero, set_cons_succ, getElem_toArray, getElem_cons_succ, getElem_cons_zero])
            refine t1 (i := 17) (h := fun K hK => ?_)
            refine step_append_lies _ rfl _ _ _ rfl _ 24 i0 (.slice none 0 0) 1 24 Tryd.underlying22 HHI.out HZ0.out HZ1.out HZ2.out rfl (by decide) _ _ _ rfl O6.out ⟨wp66.heap.size, 0, none⟩ 1 1 [.slice A6 DP.length c6] rfl rfl N6.out (by simp [Value.oneCell']) (by decide) (by simp only [maxLen]; omega) (by (try dsimp only); omega) BS6.out _ rfl ?_
            intro g cap u9 hown9 hgrow9 hat9 hlt9
            have hp9 := PS8.out.pushW BE6.out OW6.out hown9 hgrow9 hat9
            rw [HWE.out] at hp9
            rw [HWL.out] at hp9
            have HP9 := Lib.hid hp9
            have q9 := (hgrow9.block bo (Nat.lt_of_lt_of_le HSB.out FB_p70.out.size) (fun e => HFA.out e.symm)).trans FX_p71.out
            have HQ9 := Lib.hid q9
            have b9 := (B8.out.trans (FB_p70.out.mono B8.out.size)).grown hgrow9 (Nat.le_trans B8.out.size FB_p70.out.size) (fun q hq => Nat.le_trans BV.out.size (HOQ.out.lt q hq).1)
            have HK9 := Lib.hid (HSW8.out u9 b9)
            have HB9 := Lib.hid (b9.setCell (p := ⟨bo, 0, none⟩) HBOL.out (.slice (some ⟨g, 0, none⟩) (N.w.length + 1) cap))
            clear hown9 hgrow9 hat9 hp9 q9 b9
            refine hK.out _ _ (HK9.out) (fun hHeld => ?_)
            clear hK K
            (try simp only [Act.put, setIfInBounds_toArray, set_cons_zero, set_cons_succ, getElem_toArray, getElem_cons_succ, getElem_cons_zero])
            refine tk (i := 18) (h := ?_)
            (try simp only [Act.put, setIfInBounds_toArray, set_cons_zero, set_cons_succ, getElem_toArray, getElem_cons_succ, getElem_cons_zero])
            refine t1 (i := 19) (h := fun K hK => ?_)
            obtain ⟨a0, a1, a2⟩ := three_cells HQ9.out
            have f2 := frozen_of_row _ _ 0 _ _ HQ9.out
            go_simp
            clear a0 a1 a2 f2
            refine hK.out _ _ (HS9.out u9 g cap HK9.out) (fun hHeld => ?_)
            clear hK K
            (try simp only [Act.put, setIfInBounds_toArray, set_cons_zero, set_cons_succ, getElem_toArray, getElem_cons_succ, getElem_cons_zero])
            refine wpAnyH_done (by kernel_rfl) ?_ _
            go_wp2_with (fail)
            go_meet
            exact ⟨_, HP9.out, HB9.out⟩
          refine AllReadyH.cons rfl (fun K hK => ?_) ?_
          · go_simp
            have hspp74 := FB_p63.out.size
            refine (HFO.out wp62 gpp65 (B8.out.trans (FB_p63.out.mono B8.out.size)) FP_p65.out).mono ?_
            rintro e wp74 ⟨A6, c6, rfl, ownp74, belp74⟩
            dsimp only
            have FB_p75 := Lib.hid ((FB_p63.out).trans ((belp74).mono (FB_p63.out).size))
            have FX_p76 := Lib.hid (((belp74).block _ (Array.getElem?_eq_some_iff.1 (FX_p64.out)).1).trans (FX_p64.out))
            have FP_p77 := Lib.hid (((belp74).block _ (Array.getElem?_eq_some_iff.1 (FP_p65.out)).1).trans (FP_p65.out))
            clear FB_p63 FX_p64 FP_p65
            obtain ⟨o6, n6, bs6⟩ := push_in (A6 := A6) (c6 := c6) (dq := DP) PS8.out.own.q rfl HLO8.out FB_p75.out
            have O6 := Lib.hid o6; have N6 := Lib.hid n6; have BS6 := Lib.hid bs6
            have OW6 := Lib.hid (own_more ownp74 hspp74)
            have BE6 := Lib.hid FB_p75.out
            clear o6 n6 bs6 ownp74 belp74 hspp74
            refine hK.out _ _ (HSX.out _ FB_p75.out) (fun hHeld => ?_)
            clear hK K
            (try simp only [Act.put, setIfInBounds_toArray, set_cons_zero, set_cons_succ, getElem_toArray, getElem_cons_succ, getElem_cons_zero])
            refine wpAnyH_ready (rs := [1, 16]) (by kernel_rfl) (by simp) ?_
            refine AllReadyH.cons rfl (fun K hK => ?_) ?_
            · have cq := cell_of_row _ _ 0 _ _ (0, 0) FX_p76.out
              go_simp
              clear cq
              refine hK.out _ _ (hHeld) (fun hHeld => ?_)
              clear hK K
              (try simp only [Act.put, setIfInBounds_toArray, set_cons_zero, set_cons_succ, getElem_toArray, getElem_cons_succ, getElem_cons_zero])
              refine t1 (i := 16) (h := fun K hK => ?_)
              go_simp
              have FB_p78 := Lib.hid ((FB_p75.out).trans (((box_below wp74 (.slice A6 DP.length c6) 24)).mono (FB_p75.out).size))
              have FX_p79 := Lib.hid ((((box_below wp74 (.slice A6 DP.length c6) 24)).block _ (Array.getElem?_eq_some_iff.1 (FX_p76.out)).1).trans (FX_p76.out))
              have FP_p80 := Lib.hid ((((box_below wp74 (.slice A6 DP.length c6) 24)).block _ (Array.getElem?_eq_some_iff.1 (FP_p77.out)).1).trans (FP_p77.out))
              clear FB_p75 FX_p76 FP_p77
              refine hK.out _ _ (HSX.out _ FB_p78.out) (fun hHeld => ?_)
              clear hK K
              (try simp only [Act.put, setIfInBounds_toArray, set_cons_zero, set_cons_succ, getElem_toArray, getElem_cons_succ, getElem_cons_zero])
              refine t1 (i := 17) (h := fun K hK => ?_)
              refine step_append_lies _ rfl _ _ _ rfl _ 24 i0 (.slice none 0 0) 1 24 Tryd.underlying22 HHI.out HZ0.out HZ1.out HZ2.out rfl (by decide) _ _ _ rfl O6.out ⟨wp74.heap.size, 0, none⟩ 1 1 [.slice A6 DP.length c6] rfl rfl N6.out (by simp [Value.oneCell']) (by decide) (by simp only [maxLen]; omega) (by (try dsimp only); omega) BS6.out _ rfl ?_
              intro g cap u9 hown9 hgrow9 hat9 hlt9
              have hp9 := PS8.out.pushW BE6.out OW6.out hown9 hgrow9 hat9
              rw [HWE.out] at hp9
              rw [HWL.out] at hp9
              have HP9 := Lib.hid hp9
              have q9 := (hgrow9.block bo (Nat.lt_of_lt_of_le HSB.out FB_p78.out.size) (fun e => HFA.out e.symm)).trans FX_p79.out
              have HQ9 := Lib.hid q9
              have b9 := (B8.out.trans (FB_p78.out.mono B8.out.size)).grown hgrow9 (Nat.le_trans B8.out.size FB_p78.out.size) (fun q hq => Nat.le_trans BV.out.size (HOQ.out.lt q hq).1)
              have HK9 := Lib.hid (HSW8.out u9 b9)
              have HB9 := Lib.hid (b9.setCell (p := ⟨bo, 0, none⟩) HBOL.out (.slice (some ⟨g, 0, none⟩) (N.w.length + 1) cap))
              clear hown9 hgrow9 hat9 hp9 q9 b9
              refine hK.out _ _ (HK9.out) (fun hHeld => ?_)
              clear hK K
              (try simp only [Act.put, setIfInBounds_toArray, set_cons_zero, set_cons_succ, getElem_toArray, getElem_cons_succ, getElem_cons_zero])
              refine tk (i := 18) (h := ?_)
              (try simp only [Act.put, setIfInBounds_toArray, set_cons_zero, set_cons_succ, getElem_toArray, getElem_cons_succ, getElem_cons_zero])
              refine t1 (i := 19) (h := fun K hK => ?_)
              obtain ⟨a0, a1, a2⟩ := three_cells HQ9.out
              have f2 := frozen_of_row _ _ 0 _ _ HQ9.out
              go_simp
              clear a0 a1 a2 f2
              refine hK.out _ _ (HS9.out u9 g cap HK9.out) (fun hHeld => ?_)
              clear hK K
              (try simp only [Act.put, setIfInBounds_toArray, set_cons_zero, set_cons_succ, getElem_toArray, getElem_cons_succ, getElem_cons_zero])
              refine wpAnyH_done (by kernel_rfl) ?_ _
              go_wp2_with (fail)
              go_meet
              exact ⟨_, HP9.out, HB9.out⟩
            refine AllReadyH.cons rfl (fun K hK => ?_) ?_
            · go_simp
              have FB_p82 := Lib.hid ((FB_p75.out).trans (((box_below wp74 (.slice A6 DP.length c6) 24)).mono (FB_p75.out).size))
              have FX_p83 := Lib.hid ((((box_below wp74 (.slice A6 DP.length c6) 24)).block _ (Array.getElem?_eq_some_iff.1 (FX_p76.out)).1).trans (FX_p76.out))
              have FP_p84 := Lib.hid ((((box_below wp74 (.slice A6 DP.length c6) 24)).block _ (Array.getElem?_eq_some_iff.1 (FP_p77.out)).1).trans (FP_p77.out))
              clear FB_p75 FX_p76 FP_p77
              refine hK.out _ _ (HSX.out _ FB_p82.out) (fun hHeld => ?_)
              clear hK K
              (try simp only [Act.put, setIfInBounds_toArray, set_cons_zero, set_cons_succ, getElem_toArray, getElem_cons_succ, getElem_cons_zero])
              refine t1 (i := 1) (h := fun K hK => ?_)
              have cq := cell_of_row _ _ 0 _ _ (0, 0) FX_p83.out
              go_simp
              clear cq
              refine hK.out _ _ (hHeld) (fun hHeld => ?_)
              clear hK K
              (try simp only [Act.put, setIfInBounds_toArray, set_cons_zero, set_cons_succ, getElem_toArray, getElem_cons_succ, getElem_cons_zero])
              refine t1 (i := 17) (h := fun K hK => ?_)
              refine step_append_lies _ rfl _ _ _ rfl _ 24 i0 (.slice none 0 0) 1 24 Tryd.underlying22 HHI.out HZ0.out HZ1.out HZ2.out rfl (by decide) _ _ _ rfl O6.out ⟨wp74.heap.size, 0, none⟩ 1 1 [.slice A6 DP.length c6] rfl rfl N6.out (by simp [Value.oneCell']) (by decide) (by simp only [maxLen]; omega) (by (try dsimp only); omega) BS6.out _ rfl ?_
              intro g cap u9 hown9 hgrow9 hat9 hlt9
              have hp9 := PS8.out.pushW BE6.out OW6.out hown9 hgrow9 hat9
              rw [HWE.out] at hp9
              rw [HWL.out] at hp9
              have HP9 := Lib.hid hp9
              have q9 := (hgrow9.block bo (Nat.lt_of_lt_of_le HSB.out FB_p82.out.size) (fun e => HFA.out e.symm)).trans FX_p83.out
              have HQ9 := Lib.hid q9
              have b9 := (B8.out.trans (FB_p82.out.mono B8.out.size)).grown hgrow9 (Nat.le_trans B8.out.size FB_p82.out.size) (fun q hq => Nat.le_trans BV.out.size (HOQ.out.lt q hq).1)
              have HK9 := Lib.hid (HSW8.out u9 b9)
              have HB9 := Lib.hid (b9.setCell (p := ⟨bo, 0, none⟩) HBOL.out (.slice (some ⟨g, 0, none⟩) (N.w.length + 1) cap))
              clear hown9 hgrow9 hat9 hp9 q9 b9
              refine hK.out _ _ (HK9.out) (fun hHeld => ?_)
              clear hK K
              (try simp only [Act.put, setIfInBounds_toArray, set_cons_zero, set_cons_succ, getElem_toArray, getElem_cons_succ, getElem_cons_zero])
              refine tk (i := 18) (h := ?_)
              (try simp only [Act.put, setIfInBounds_toArray, set_cons_zero, set_cons_succ, getElem_toArray, getElem_cons_succ, getElem_cons_zero])
              refine t1 (i := 19) (h := fun K hK => ?_)
              obtain ⟨a0, a1, a2⟩ := three_cells HQ9.out
              have f2 := frozen_of_row _ _ 0 _ _ HQ9.out
              go_simp
              clear a0 a1 a2 f2
              refine hK.out _ _ (HS9.out u9 g cap HK9.out) (fun hHeld => ?_)
              clear hK K
              (try simp only [Act.put, setIfInBounds_toArray, set_cons_zero, set_cons_succ, getElem_toArray, getElem_cons_succ, getElem_cons_zero])
              refine wpAnyH_done (by kernel_rfl) ?_ _
              go_wp2_with (fail)
              go_meet
              exact ⟨_, HP9.out, HB9.out⟩
            exact AllReadyH.nil
          exact AllReadyH.nil
        exact AllReadyH.nil
      refine AllReadyH.cons rfl (fun K hK => ?_) ?_
      · go_simp
        obtain ⟨wp86, hwp86⟩ : ∃ w', w' = wp1.alloc (.cells #[.slice Aa P.length ca, .slice Ab Q.length cb] 24) := ⟨_, rfl⟩
        rw [← hwp86]
        have bp86 := al hwp86
        have gp86 := an hwp86
        clear hwp86
        have FB_p87 := Lib.hid ((FB_p2.out).trans ((bp86).mono (FB_p2.out).size))
        have FX_p88 := Lib.hid (((bp86).block _ (Array.getElem?_eq_some_iff.1 (FX_p3.out)).1).trans (FX_p3.out))
        clear FB_p2 FX_p3
        obtain ⟨gpp89, hgp89⟩ : ∃ b, wp1.heap.size = b := ⟨_, rfl⟩
        have FP_p89 := Lib.hid gp86
        rw [hgp89] at FP_p89 ⊢
        clear hgp89 gp86 bp86
        refine hK.out _ _ (HSX.out _ FB_p87.out) (fun hHeld => ?_)
        clear hK K
        (try simp only [Act.put, setIfInBounds_toArray, set_cons_zero, set_cons_succ, getElem_toArray, getElem_cons_succ, getElem_cons_zero])
        refine wpAnyH_ready (rs := [1, 3]) (by kernel_rfl) (by simp) ?_
        refine AllReadyH.cons rfl (fun K hK => ?_) ?_
        · have cq := cell_of_row _ _ 0 _ _ (0, 0) FX_p88.out
          go_simp
          clear cq
          refine hK.out _ _ (hHeld) (fun hHeld => ?_)
          clear hK K
          (try simp only [Act.put, setIfInBounds_toArray, set_cons_zero, set_cons_succ, getElem_toArray, getElem_cons_succ, getElem_cons_zero])
          refine t1 (i := 3) (h := fun K hK => ?_)
          go_simp
          refine (HLO2.out wp86).mono ?_
          rintro e wp90 ⟨rfl, belp90⟩
          dsimp only
          have FB_p91 := Lib.hid ((FB_p87.out).trans ((belp90).mono (FB_p87.out).size))
          have FX_p92 := Lib.hid (((belp90).block _ (Array.getElem?_eq_some_iff.1 (FX_p88.out)).1).trans (FX_p88.out))
          have FP_p93 := Lib.hid (((belp90).block _ (Array.getElem?_eq_some_iff.1 (FP_p89.out)).1).trans (FP_p89.out))
          clear FB_p87 FX_p88 FP_p89
          clear belp90
          refine hK.out _ _ (HSX.out _ FB_p91.out) (fun hHeld => ?_)
          clear hK K
          (try simp only [Act.put, setIfInBounds_toArray, set_cons_zero, set_cons_succ, getElem_toArray, getElem_cons_succ, getElem_cons_zero])
          refine t1 (i := 15) (h := fun K hK => ?_)
          go_simp
          have hspp94 := FB_p91.out.size
          refine (HFO.out wp90 gpp89 (B8.out.trans (FB_p91.out.mono B8.out.size)) FP_p93.out).mono ?_
          rintro e wp94 ⟨A6, c6, rfl, ownp94, belp94⟩
          dsimp only
          have FB_p95 := Lib.hid ((FB_p91.out).trans ((belp94).mono (FB_p91.out).size))
          have FX_p96 := Lib.hid (((belp94).block _ (Array.getElem?_eq_some_iff.1 (FX_p92.out)).1).trans (FX_p92.out))
          have FP_p97 := Lib.hid (((belp94).block _ (Array.getElem?_eq_some_iff.1 (FP_p93.out)).1).trans (FP_p93.out))
          clear FB_p91 FX_p92 FP_p93
          obtain ⟨o6, n6, bs6⟩ := push_in (A6 := A6) (c6 := c6) (dq := DP) PS8.out.own.q rfl HLO8.out FB_p95.out
          have O6 := Lib.hid o6; have N6 := Lib.hid n6; have BS6 := Lib.hid bs6
          have OW6 := Lib.hid (own_more ownp94 hspp94)
          have BE6 := Lib.hid FB_p95.out
          clear o6 n6 bs6 ownp94 belp94 hspp94
          refine hK.out _ _ (HSX.out _ FB_p95.out) (fun hHeld => ?_)
          clear hK K
          (try simp only [Act.put, setIfInBounds_toArray, set_cons_zero, set_cons_succ, getElem_toArray, getElem_cons_succ, getElem_cons_zero])
          refine t1 (i := 16) (h := fun K hK => ?_)
          go_simp
          have FB_p98 := Lib.hid ((FB_p95.out).trans (((box_below wp94 (.slice A6 DP.length c6) 24)).mono (FB_p95.out).size))
          have FX_p99 := Lib.hid ((((box_below wp94 (.slice A6 DP.length c6) 24)).block _ (Array.getElem?_eq_some_iff.1 (FX_p96.out)).1).trans (FX_p96.out))
          have FP_p100 := Lib.hid ((((box_below wp94 (.slice A6 DP.length c6) 24)).block _ (Array.getElem?_eq_some_iff.1 (FP_p97.out)).1).trans (FP_p97.out))
          clear FB_p95 FX_p96 FP_p97
          refine hK.out _ _ (HSX.out _ FB_p98.out) (fun hHeld => ?_)
          clear hK K
          (try simp only [Act.put, setIfInBounds_toArray, set_cons_zero, set_cons_succ, getElem_toArray, getElem_cons_succ, getElem_cons_zero])
          refine t1 (i := 17) (h := fun K hK => ?_)
          refine step_append_lies _ rfl _ _ _ rfl _ 24 i0 (.slice none 0 0) 1 24 Tryd.underlying22 HHI.out HZ0.out HZ1.out HZ2.out rfl (by decide) _ _ _ rfl O6.out ⟨wp94.heap.size, 0, none⟩ 1 1 [.slice A6 DP.length c6] rfl rfl N6.out (by simp [Value.oneCell']) (by decide) (by simp only [maxLen]; omega) (by (try dsimp only); omega) BS6.out _ rfl ?_
          intro g cap u9 hown9 hgrow9 hat9 hlt9
          have hp9 := PS8.out.pushW BE6.out OW6.out hown9 hgrow9 hat9
          rw [HWE.out] at hp9
          rw [HWL.out] at hp9
          have HP9 := Lib.hid hp9
          have q9 := (hgrow9.block bo (Nat.lt_of_lt_of_le HSB.out FB_p98.out.size) (fun e => HFA.out e.symm)).trans FX_p99.out
          have HQ9 := Lib.hid q9
          have b9 := (B8.out.trans (FB_p98.out.mono B8.out.size)).grown hgrow9 (Nat.le_trans B8.out.size FB_p98.out.size) (fun q hq => Nat.le_trans BV.out.size (HOQ.out.lt q hq).1)
          have HK9 := Lib.hid (HSW8.out u9 b9)
          have HB9 := Lib.hid (b9.setCell (p := ⟨bo, 0, none⟩) HBOL.out (.slice (some ⟨g, 0, none⟩) (N.w.length + 1) cap))
          clear hown9 hgrow9 hat9 hp9 q9 b9
          refine hK.out _ _ (HK9.out) (fun hHeld => ?_)
          clear hK K
          (try simp only [Act.put, setIfInBounds_toArray, set_cons_zero, set_cons_succ, getElem_toArray, getElem_cons_succ, getElem_cons_zero])
          refine tk (i := 18) (h := ?_)
          (try simp only [Act.put, setIfInBounds_toArray, set_cons_zero, set_cons_succ, getElem_toArray, getElem_cons_succ, getElem_cons_zero])
          refine t1 (i := 19) (h := fun K hK => ?_)
          obtain ⟨a0, a1, a2⟩ := three_cells HQ9.out
          have f2 := frozen_of_row _ _ 0 _ _ HQ9.out
          go_simp
          clear a0 a1 a2 f2
          refine hK.out _ _ (HS9.out u9 g cap HK9.out) (fun hHeld => ?_)
          clear hK K
          (try simp only [Act.put, setIfInBounds_toArray, set_cons_zero, set_cons_succ, getElem_toArray, getElem_cons_succ, getElem_cons_zero])
          refine wpAnyH_done (by kernel_rfl) ?_ _
          go_wp2_with (fail)
          go_meet
          exact ⟨_, HP9.out, HB9.out⟩
        refine AllReadyH.cons rfl (fun K hK => ?_) ?_
        · go_simp
          refine (HLO2.out wp86).mono ?_
          rintro e wp102 ⟨rfl, belp102⟩
          dsimp only
          have FB_p103 := Lib.hid ((FB_p87.out).trans ((belp102).mono (FB_p87.out).size))
          have FX_p104 := Lib.hid (((belp102).block _ (Array.getElem?_eq_some_iff.1 (FX_p88.out)).1).trans (FX_p88.out))
          have FP_p105 := Lib.hid (((belp102).block _ (Array.getElem?_eq_some_iff.1 (FP_p89.out)).1).trans (FP_p89.out))
          clear FB_p87 FX_p88 FP_p89
          clear belp102
          refine hK.out _ _ (HSX.out _ FB_p103.out) (fun hHeld => ?_)
          clear hK K
          (try simp only [Act.put, setIfInBounds_toArray, set_cons_zero, set_cons_succ, getElem_toArray, getElem_cons_succ, getElem_cons_zero])
          refine wpAnyH_ready (rs := [1, 15]) (by kernel_rfl) (by simp) ?_
          refine AllReadyH.cons rfl (fun K hK => ?_) ?_
          · have cq := cell_of_row _ _ 0 _ _ (0, 0) FX_p104.out
            go_simp
            clear cq
            refine hK.out _ _ (hHeld) (fun hHeld => ?_)
            clear hK K
            (try simp only [Act.put, setIfInBounds_toArray, set_cons_zero, set_cons_succ, getElem_toArray, getElem_cons_succ, getElem_cons_zero])
            refine t1 (i := 15) (h := fun K hK => ?_)
            go_simp
            have hspp106 := FB_p103.out.size
            refine (HFO.out wp102 gpp89 (B8.out.trans (FB_p103.out.mono B8.out.size)) FP_p105.out).mono ?_
            rintro e wp106 ⟨A6, c6, rfl, ownp106, belp106⟩
            dsimp only
            have FB_p107 := Lib.hid ((FB_p103.out).trans ((belp106).mono (FB_p103.out).size))
            have FX_p108 := Lib.hid (((belp106).block _ (Array.getElem?_eq_some_iff.1 (FX_p104.out)).1).trans (FX_p104.out))
            have FP_p109 := Lib.hid (((belp106).block _ (Array.getElem?_eq_some_iff.1 (FP_p105.out)).1).trans (FP_p105.out))
            clear FB_p103 FX_p104 FP_p105
            obtain ⟨o6, n6, bs6⟩ := push_in (A6 := A6) (c6 := c6) (dq := DP) PS8.out.own.q rfl HLO8.out FB_p107.out
            have O6 := Lib.hid o6; have N6 := Lib.hid n6; have BS6 := Lib.hid bs6
            have OW6 := Lib.hid (own_more ownp106 hspp106)
            have BE6 := Lib.hid FB_p107.out
            clear o6 n6 bs6 ownp106 belp106 hspp106
            refine hK.out _ _ (HSX.out _ FB_p107.out) (fun hHeld => ?_)
            clear hK K
            (try simp only [Act.put, setIfInBounds_toArray, set_cons_zero, set_cons_succ, getElem_toArray, getElem_cons_succ, getElem_cons_zero])
            refine t1 (i := 16) (h := fun K hK => ?_)
            go_simp
            have FB_p110 := Lib.hid ((FB_p107.out).trans (((box_below wp106 (.slice A6 DP.length c6) 24)).mono (FB_p107.out).size))
            have FX_p111 := Lib.hid ((((box_below wp106 (.slice A6 DP.length c6) 24)).block _ (Array.getElem?_eq_some_iff.1 (FX_p108.out)).1).trans (FX_p108.out))
            have FP_p112 := Lib.hid ((((box_below wp106 (.slice A6 DP.length c6) 24)).block _ (Array.getElem?_eq_some_iff.1 (FP_p109.out)).1).trans (FP_p109.out))
            clear FB_p107 FX_p108 FP_p109
            refine hK.out _ _ (HSX.out _ FB_p110.out) (fun hHeld => ?_)
            clear hK K
            (try simp only [Act.put, setIfInBounds_toArray, set_cons_zero, set_cons_succ, getElem_toArray, getElem_cons_succ, getElem_cons_zero])
            refine t1 (i := 17) (h := fun K hK => ?_)
            refine step_append_lies _ rfl _ _ _ rfl _ 24 i0 (.slice none 0 0) 1 24 Tryd.underlying22 HHI.out HZ0.out HZ1.out HZ2.out rfl (by decide) _ _ _ rfl O6.out ⟨wp106.heap.size, 0, none⟩ 1 1 [.slice A6 DP.length c6] rfl rfl N6.out (by simp [Value.oneCell']) (by decide) (by simp only [maxLen]; omega) (by (try dsimp only); omega) BS6.out _ rfl ?_
            intro g cap u9 hown9 hgrow9 hat9 hlt9
            have hp9 := PS8.out.pushW BE6.out OW6.out hown9 hgrow9 hat9
            rw [HWE.out] at hp9
            rw [HWL.out] at hp9
            have HP9 := Lib.hid hp9
            have q9 := (hgrow9.block bo (Nat.lt_of_lt_of_le HSB.out FB_p110.out.size) (fun e => HFA.out e.symm)).trans FX_p111.out
            have HQ9 := Lib.hid q9
            have b9 := (B8.out.trans (FB_p110.out.mono B8.out.size)).grown hgrow9 (Nat.le_trans B8.out.size FB_p110.out.size) (fun q hq => Nat.le_trans BV.out.size (HOQ.out.lt q hq).1)
            have HK9 := Lib.hid (HSW8.out u9 b9)
            have HB9 := Lib.hid (b9.setCell (p := ⟨bo, 0, none⟩) HBOL.out (.slice (some ⟨g, 0, none⟩) (N.w.length + 1) cap))
            clear hown9 hgrow9 hat9 hp9 q9 b9
            refine hK.out _ _ (HK9.out) (fun hHeld => ?_)
            clear hK K
            (try simp only [Act.put, setIfInBounds_toArray, set_cons_zero, set_cons_succ, getElem_toArray, getElem_cons_succ, getElem_cons_zero])
            refine tk (i := 18) (h := ?_)
            (try simp only [Act.put, setIfInBounds_toArray, set_cons_zero, set_cons_succ, getElem_toArray, getElem_cons_succ, getElem_cons_zero])
            refine t1 (i := 19) (h := fun K hK => ?_)
            obtain ⟨a0, a1, a2⟩ := three_cells HQ9.out
            have f2 := frozen_of_row _ _ 0 _ _ HQ9.out
            go_simp
            clear a0 a1 a2 f2
            refine hK.out _ _ (HS9.out u9 g cap HK9.out) (fun hHeld => ?_)
            clear hK K
            (try simp only [Act.put, setIfInBounds_toArray, set_cons_zero, set_cons_succ, getElem_toArray, getElem_cons_succ, getElem_cons_zero])
            refine wpAnyH_done (by kernel_rfl) ?_ _
            go_wp2_with (fail)
            go_meet
            exact ⟨_, HP9.out, HB9.out⟩
          refine AllReadyH.cons rfl (fun K hK => ?_) ?_
          · go_simp
            have hspp114 := FB_p103.out.size
            refine (HFO.out wp102 gpp89 (B8.out.trans (FB_p103.out.mono B8.out.size)) FP_p105.out).mono ?_
            rintro e wp114 ⟨A6, c6, rfl, ownp114, belp114⟩
            dsimp only
            have FB_p115 := Lib.hid ((FB_p103.out).trans ((belp114).mono (FB_p103.out).size))
            have FX_p116 := Lib.hid (((belp114).block _ (Array.getElem?_eq_some_iff.1 (FX_p104.out)).1).trans (FX_p104.out))
            have FP_p117 := Lib.hid (((belp114).block _ (Array.getElem?_eq_some_iff.1 (FP_p105.out)).1).trans (FP_p105.out))
            clear FB_p103 FX_p104 FP_p105
            obtain ⟨o6, n6, bs6⟩ := push_in (A6 := A6) (c6 := c6) (dq := DP) PS8.out.own.q rfl HLO8.out FB_p115.out
            have O6 := Lib.hid o6; have N6 := Lib.hid n6; have BS6 := Lib.hid bs6
            have OW6 := Lib.hid (own_more ownp114 hspp114)
            have BE6 := Lib.hid FB_p115.out
            clear o6 n6 bs6 ownp114 belp114 hspp114
            refine hK.out _ _ (HSX.out _ FB_p115.out) (fun hHeld => ?_)
            clear hK K
            (try simp only [Act.put, setIfInBounds_toArray, set_cons_zero, set_cons_succ, getElem_toArray, getElem_cons_succ, getElem_cons_zero])
            refine wpAnyH_ready (rs := [1, 16]) (by kernel_rfl) (by simp) ?_
            refine AllReadyH.cons rfl (fun K hK => ?_) ?_
            · have cq := cell_of_row _ _ 0 _ _ (0, 0) FX_p116.out
              go_simp
              clear cq
              refine hK.out _ _ (hHeld) (fun hHeld => ?_)
              clear hK K
              (try simp only [Act.put, setIfInBounds_toArray, set_cons_zero, set_cons_succ, getElem_toArray, getElem_cons_succ, getElem_cons_zero])
              refine t1 (i := 16) (h := fun K hK => ?_)
              go_simp
              have FB_p118 := Lib.hid ((FB_p115.out).trans (((box_below wp114 (.slice A6 DP.length c6) 24)).mono (FB_p115.out).size))
              have FX_p119 := Lib.hid ((((box_below wp114 (.slice A6 DP.length c6) 24)).block _ (Array.getElem?_eq_some_iff.1 (FX_p116.out)).1).trans (FX_p116.out))
              have FP_p120 := Lib.hid ((((box_below wp114 (.slice A6 DP.length c6) 24)).block _ (Array.getElem?_eq_some_iff.1 (FP_p117.out)).1).trans (FP_p117.out))
              clear FB_p115 FX_p116 FP_p117
              refine hK.out _ _ (HSX.out _ FB_p118.out) (fun hHeld => ?_)
              clear hK K
              (try simp only [Act.put, setIfInBounds_toArray, set_cons_zero, set_cons_succ, getElem_toArray, getElem_cons_succ, getElem_cons_zero])
              refine t1 (i := 17) (h := fun K hK => ?_)
              refine step_append_lies _ rfl _ _ _ rfl _ 24 i0 (.slice none 0 0) 1 24 Tryd.underlying22 HHI.out HZ0.out HZ1.out HZ2.out rfl (by decide) _ _ _ rfl O6.out ⟨wp114.heap.size, 0, none⟩ 1 1 [.slice A6 DP.length c6] rfl rfl N6.out (by simp [Value.oneCell']) (by decide) (by simp only [maxLen]; omega) (by (try dsimp only); omega) BS6.out _ rfl ?_
              intro g cap u9 hown9 hgrow9 hat9 hlt9
              have hp9 := PS8.out.pushW BE6.out OW6.out hown9 hgrow9 hat9
              rw [HWE.out] at hp9
              rw [HWL.out] at hp9
              have HP9 := Lib.hid hp9
              have q9 := (hgrow9.block bo (Nat.lt_of_lt_of_le HSB.out FB_p118.out.size) (fun e => HFA.out e.symm)).trans FX_p119.out
              have HQ9 := Lib.hid q9
              have b9 := (B8.out.trans (FB_p118.out.mono B8.out.size)).grown hgrow9 (Nat.le_trans B8.out.size FB_p118.out.size) (fun q hq => Nat.le_trans BV.out.size (HOQ.out.lt q hq).1)
              have HK9 := Lib.hid (HSW8.out u9 b9)
              have HB9 := Lib.hid (b9.setCell (p := ⟨bo, 0, none⟩) HBOL.out (.slice (some ⟨g, 0, none⟩) (N.w.length + 1) cap))
              clear hown9 hgrow9 hat9 hp9 q9 b9
              refine hK.out _ _ (HK9.out) (fun hHeld => ?_)
              clear hK K
              (try simp only [Act.put, setIfInBounds_toArray, set_cons_zero, set_cons_succ, getElem_toArray, getElem_cons_succ, getElem_cons_zero])
              refine tk (i := 18) (h := ?_)
              (try simp only [Act.put, setIfInBounds_toArray, set_cons_zero, set_cons_succ, getElem_toArray, getElem_cons_succ, getElem_cons_zero])
              refine t1 (i := 19) (h := fun K hK => ?_)
              obtain ⟨a0, a1, a2⟩ := three_cells HQ9.out
              have f2 := frozen_of_row _ _ 0 _ _ HQ9.out
              go_simp
              clear a0 a1 a2 f2
              refine hK.out _ _ (HS9.out u9 g cap HK9.out) (fun hHeld => ?_)
              clear hK K
              (try simp only [Act.put, setIfInBounds_toArray, set_cons_zero, set_cons_succ, getElem_toArray, getElem_cons_succ, getElem_cons_zero])
              refine wpAnyH_done (by kernel_rfl) ?_ _
              go_wp2_with (fail)
              go_meet
              exact ⟨_, HP9.out, HB9.out⟩
            refine AllReadyH.cons rfl (fun K hK => ?_) ?_
            · go_simp
              have FB_p122 := Lib.hid ((FB_p115.out).trans (((box_below wp114 (.slice A6 DP.length c6) 24)).mono (FB_p115.out).size))
              have FX_p123 := Lib.hid ((((box_below wp114 (.slice A6 DP.length c6) 24)).block _ (Array.getElem?_eq_some_iff.1 (FX_p116.out)).1).trans (FX_p116.out))
              have FP_p124 := Lib.hid ((((box_below wp114 (.slice A6 DP.length c6) 24)).block _ (Array.getElem?_eq_some_iff.1 (FP_p117.out)).1).trans (FP_p117.out))
              clear FB_p115 FX_p116 FP_p117
              refine hK.out _ _ (HSX.out _ FB_p122.out) (fun hHeld => ?_)
              clear hK K
              (try simp only [Act.put, setIfInBounds_toArray, set_cons_zero, set_cons_succ, getElem_toArray, getElem_cons_succ, getElem_cons_zero])
              refine t1 (i := 1) (h := fun K hK => ?_)
              have cq := cell_of_row _ _ 0 _ _ (0, 0) FX_p123.out
              go_simp
              clear cq
              refine hK.out _ _ (hHeld) (fun hHeld => ?_)
              clear hK K
              (try simp only [Act.put, setIfInBounds_toArray, set_cons_zero, set_cons_succ, getElem_toArray, getElem_cons_succ, getElem_cons_zero])
              refine t1 (i := 17) (h := fun K hK => ?_)
              refine step_append_lies _ rfl _ _ _ rfl _ 24 i0 (.slice none 0 0) 1 24 Tryd.underlying22 HHI.out HZ0.out HZ1.out HZ2.out rfl (by decide) _ _ _ rfl O6.out ⟨wp114.heap.size, 0, none⟩ 1 1 [.slice A6 DP.length c6] rfl rfl N6.out (by simp [Value.oneCell']) (by decide) (by simp only [maxLen]; omega) (by (try dsimp only); omega) BS6.out _ rfl ?_
              intro g cap u9 hown9 hgrow9 hat9 hlt9
              have hp9 := PS8.out.pushW BE6.out OW6.out hown9 hgrow9 hat9
              rw [HWE.out] at hp9
              rw [HWL.out] at hp9
              have HP9 := Lib.hid hp9
              have q9 := (hgrow9.block bo (Nat.lt_of_lt_of_le HSB.out FB_p122.out.size) (fun e => HFA.out e.symm)).trans FX_p123.out
              have HQ9 := Lib.hid q9
              have b9 := (B8.out.trans (FB_p122.out.mono B8.out.size)).grown hgrow9 (Nat.le_trans B8.out.size FB_p122.out.size) (fun q hq => Nat.le_trans BV.out.size (HOQ.out.lt q hq).1)
              have HK9 := Lib.hid (HSW8.out u9 b9)
              have HB9 := Lib.hid (b9.setCell (p := ⟨bo, 0, none⟩) HBOL.out (.slice (some ⟨g, 0, none⟩) (N.w.length + 1) cap))
              clear hown9 hgrow9 hat9 hp9 q9 b9
              refine hK.out _ _ (HK9.out) (fun hHeld => ?_)
              clear hK K
              (try simp only [Act.put, setIfInBounds_toArray, set_cons_zero, set_cons_succ, getElem_toArray, getElem_cons_succ, getElem_cons_zero])
              refine tk (i := 18) (h := ?_)
              (try simp only [Act.put, setIfInBounds_toArray, set_cons_zero, set_cons_succ, getElem_toArray, getElem_cons_succ, getElem_cons_zero])
              refine t1 (i := 19) (h := fun K hK => ?_)
              obtain ⟨a0, a1, a2⟩ := three_cells HQ9.out
              have f2 := frozen_of_row _ _ 0 _ _ HQ9.out
              go_simp
              clear a0 a1 a2 f2
              refine hK.out _ _ (HS9.out u9 g cap HK9.out) (fun hHeld => ?_)
              clear hK K
              (try simp only [Act.put, setIfInBounds_toArray, set_cons_zero, set_cons_succ, getElem_toArray, getElem_cons_succ, getElem_cons_zero])
              refine wpAnyH_done (by kernel_rfl) ?_ _
              go_wp2_with (fail)
              go_meet
              exact ⟨_, HP9.out, HB9.out⟩
            exact AllReadyH.nil
          exact AllReadyH.nil
        exact AllReadyH.nil
      exact AllReadyH.nil
    case rest =>
      obtain ⟨h10, PC, BC⟩ := hcut
      have PS10 := Lib.hid PC; have B10 := Lib.hid BC
      clear PC BC PS8 B8
      skip
      have hxo := PS10.out.own.c
      have HO10 := Lib.hid (hxo.alloc (.cells #[.int .i64 N.w.length] 2))
      have bxa : Below wc.heap.size wc (wc.alloc (.cells #[.int .i64 N.w.length] 2)) := (Below.refl _ _).alloc (Nat.le_refl _) _
      have BXC := Lib.hid bxa
      have hsb := Nat.lt_of_lt_of_le s3 PS10.out.size
      have HZC := Lib.hid ((bxa.block bo hsb).trans PS10.out.box)
      have HFC := Lib.hid (PS10.out.far bo PS10.out.sxl PS10.out.sxf).c
      have hlo10 := PS10.out.bel.size
      clear bxa hxo
      obtain ⟨k0, k1, k2⟩ := three_cells PS10.out.box
      go_wp2_with (at_builtin; refine wpList_append_own_at _ rfl _ _ 24 rfl v1.heap.size 2 i1 (.int .i64 0) 1 8 Tryd.underlying24 HI1.out HZ10.out HZ11.out HZ12.out rfl (by decide) _ _ _ rfl HO10.out ⟨wc.heap.size, 0, none⟩ 1 1 [.int .i64 N.w.length] rfl rfl (cell_one_new _ _ _) (by simp [Value.oneCell']) ?c3 ?c4 ?c5 ?_)
      case c3 => simp only [maxLen]; omega
      case c4 => omega
      case c5 => have := BXC.out.size; omega
      intro v11 u11 own11 gr11 _ at11
      have own11' : u11.ownsRow v1.heap.size 2 1 v11 cs'.length (cs'.map (Value.int .i64)) := by rw [← HCE.out, List.map_append, List.length_append]; exact own11
      obtain ⟨C11, c11, rfl⟩ := own_shape own11'
      have hsz11 : (wc.alloc (.cells #[.int .i64 N.w.length] 2)).heap.size = wc.heap.size + 1 := World.size_alloc _ _
      have HP11 := Lib.hid (PS10.out.pushC BXC.out own11' gr11 (by rw [hsz11]; exact at11))
      have p11 := (gr11.block bo (by rw [hsz11]; omega) (fun e => HFC.out e.symm)).trans HZC.out
      have HB11 := Lib.hid (((B10.out.trans (BXC.out.mono B10.out.size)).grown gr11 (by have := B10.out.size; have := BXC.out.size; omega) (fun q hq => Nat.le_trans BV.out.size (PS10.out.own.c.lt q hq).1)).setCell (p := ⟨bo, 2, none⟩) (show w0.heap.size ≤ bo by omega) (.slice C11 cs'.length c11))
      clear k0 k1 k2
      obtain ⟨k0, k1, k2⟩ := three_cells p11
      have k3 := frozen_of_row _ _ 2 _ _ p11
      clear own11 own11' gr11 at11 p11 hsz11 hsb hlo10 HZC HFC BXC HO10
      go_upto_region 10 with (fail)
      clear k0 k1 k2 k3
      have PS12 := Lib.hid (show PlSt v1 u3 (u11.setCell ⟨bo, 2, none⟩ (.slice C11 cs'.length c11)) bo h2 N ⟨h10.A, h10.c, h10.hs, h10.L, h10.d, C11, c11⟩ ⟨ws', ls', cs'⟩ from HP11.out)
      clear HP11
      generalize u11.setCell ⟨bo, 2, none⟩ (.slice C11 cs'.length c11) = u12 at *
      obtain ⟨k0, k1, k2⟩ := three_cells PS12.out.box
      have HSM : Hid (SmallN ⟨ws', ls', cs'⟩) := Lib.hid ⟨HSW.out, HTT.out, HSL.out, HSC.out⟩
      cases b with
      | false =>
        have HV8 := Lib.hid (checked_no ⟨h10.A, h10.c, h10.hs, h10.L, h10.d, C11, c11⟩ ⟨ws', ls', cs'⟩ u12 PS12.out.own.rd HSM.out (HTD.out u12 HB11.out).1 (HTD.out u12 HB11.out).2 HX2.out)
        go_wp2_with (fail)
        refine HV8.out.mono ?_
        rintro e u13 ⟨rfl, bel13⟩
        have B13 := Lib.hid (HB11.out.trans (bel13.mono HB11.out.size))
        clear bel13 k0 k1 k2
        have q1 := HKR.out _ B13.out
        obtain ⟨a0, a1, a2⟩ := three_cells q1
        have f0 := frozen_of_row _ _ 0 _ _ q1; have f1 := frozen_of_row _ _ 1 _ _ q1; have f2 := frozen_of_row _ _ 2 _ _ q1
        have Q1 := Lib.hid q1
        clear q1
        go_wp2
        (try simp only [Exit.inBlock, Exit.then])
        refine bodyPost_ret (results_cell_row_tmp rfl _ _ (w.heap.size + 1) _ _ (0, 0) _ rfl (set3_at Q1.out _ _ _) Tryd.underlying30 rfl (by kernel_rfl)) rfl ?_
        exact givesNB_of (own_done HB0.out B13.out (OwnN.nil u13 w0.heap.size u13.heap.size) hs0)
      | true =>
        have HV8 := Lib.hid (checked_yes ⟨h10.A, h10.c, h10.hs, h10.L, h10.d, C11, c11⟩ ⟨ws', ls', cs'⟩ u12 PS12.out.own.rd HSM.out (HTD.out u12 HB11.out).1 (HTD.out u12 HB11.out).2 HX2.out)
        go_wp2_with (fail)
        refine HV8.out.mono ?_
        rintro e u13 ⟨rfl, bel13⟩
        have B13 := Lib.hid (HB11.out.trans (bel13.mono HB11.out.size))
        have O13 := Lib.hid ((PS12.out.own.below bel13).size.more BV.out.size (Nat.le_refl _))
        clear bel13 k0 k1 k2
        have q1 := HKR.out _ B13.out
        obtain ⟨a0, a1, a2⟩ := three_cells q1
        have f0 := frozen_of_row _ _ 0 _ _ q1; have f1 := frozen_of_row _ _ 1 _ _ q1; have f2 := frozen_of_row _ _ 2 _ _ q1
        have Q1 := Lib.hid q1
        clear q1
        go_wp2
        (try simp only [Exit.inBlock, Exit.then])
        refine bodyPost_ret (results_cell_row_tmp rfl _ _ (w.heap.size + 1) _ _ (0, 0) _ rfl (set3_at Q1.out _ _ _) Tryd.underlying30 rfl (by kernel_rfl)) rfl ?_
        exact givesNB_of (own_done HB0.out B13.out O13.out hs0)
end Go.Proofs.YtdcommmefehlgaaDoor
