/- The program's placed: the walk. -/
import Derived.Test.YtdcommmefehlgaaDoorQPgL
namespace Go.Proofs.YtdcommmefehlgaaDoor
set_option linter.unusedSimpArgs false
set_option linter.unusedVariables false
set_option linter.unusedSimpArgs false
set_option linter.unusedVariables false
open Go.ChangeAt Go.ChangeShapes Go.RowKit Go.WideShapes

set_option maxRecDepth 100000 in
set_option maxHeartbeats 4000000 in
theorem placed_any (wb w : World) (hT : NH) (T : Nt) (h : NH) (N : Nt) (AP AR : Option Addr) (cP cR : Nat) (P R : List Int) (o : OwnN w wb.heap.size w.heap.size hT T) (hb : Below wb.heap.size wb w) (r : RdN wb wb.heap.size h N)
    (rp : RdI w w.heap.size AP P.length P) (fp : 0 < P.length → ∀ b off, AP = some ⟨b, off, none⟩ → FarN hT T b) (rr : RdI w w.heap.size AR R.length R) (fr : 0 < R.length → ∀ b off, AR = some ⟨b, off, none⟩ → FarN hT T b)
    (hv : valN N = true) (hPl : P.length = N.w.length) (hP : P.all (inW T.w.length) = true) (hRl : R.length = N.l.length) (hR : R.all (inW T.l.length) = true) (ht1 : T.w.length ≤ 1000) (ht2 : T.l.length ≤ 1000) (ht3 : T.c.length ≤ 1000) :
    Calls Tryd.prog 44 #[.agg #[.slice hT.A T.w.length hT.c, .slice hT.L T.l.length hT.d, .slice hT.C T.c.length hT.e], .agg #[.slice h.A N.w.length h.c, .slice h.L N.l.length h.d, .slice h.C N.c.length h.e], .slice AP P.length cP, .slice AR R.length cR] w fun e w' =>
      ∃ h', e = .returned (.agg #[.slice h'.A (plN P R N T).w.length h'.c, .slice h'.L (plN P R N T).l.length h'.d, .slice h'.C (plN P R N T).c.length h'.e]) ∧ OwnN w' wb.heap.size w'.heap.size h' (plN P R N T) ∧ Below wb.heap.size wb w' ∧ w.heap.size ≤ w'.heap.size ∧ ∀ b, b < w.heap.size → FarN hT T b → FarN h' (plN P R N T) b ∧ w'.heap[b]? = w.heap[b]? := by
  obtain ⟨i0, hi0, hz0, hz1, hz2⟩ := info_parts info_i64
  obtain ⟨A2, c2, hsx, L2, d2, C2, e2⟩ := hT
  dsimp only at *
  have HI := Lib.hid hi0; have HZ0 := Lib.hid hz0; have HZ1 := Lib.hid hz1; have HZ2 := Lib.hid hz2
  obtain ⟨w0, hw0⟩ : ∃ w0, w0 = ((w.alloc (.cells #[.slice A2 T.w.length c2, .slice L2 T.l.length d2, .slice C2 T.c.length e2] 30)).alloc (.cells #[.slice h.A N.w.length h.c, .slice h.L N.l.length h.d, .slice h.C N.c.length h.e] 30)).alloc (.cells #[.slice none 0 0, .slice none 0 0, .slice none 0 0] 30) := ⟨_, rfl⟩
  obtain ⟨hbw, g0, g1, g2, hsz⟩ := three_any' w (.cells #[.slice A2 T.w.length c2, .slice L2 T.l.length d2, .slice C2 T.c.length e2] 30) (.cells #[.slice h.A N.w.length h.c, .slice h.L N.l.length h.d, .slice h.C N.c.length h.e] 30) (.cells #[.slice none 0 0, .slice none 0 0, .slice none 0 0] 30)
  rw [← hw0] at hbw g0 g1 g2 hsz
  have hfb : ∀ b, w.heap.size ≤ b → FarN ⟨A2, c2, hsx, L2, d2, C2, e2⟩ T b := fun b hb => o.far_ge hb
  have st0 : PlSt wb w0 w0 w.heap.size ⟨A2, c2, hsx, L2, d2, C2, e2⟩ T ⟨A2, c2, hsx, L2, d2, C2, e2⟩ T := {
    own := (o.below hbw).more (Nat.le_refl _) hbw.size
    far := fun _ _ f => f
    keep := fun _ _ _ _ => rfl
    box := g0
    bel := hb.trans (hbw.mono hb.size)
    size := Nat.le_refl _
    sxl := by omega
    sxf := hfb _ (Nat.le_refl _)
    sxb := hb.size }
  obtain ⟨hs1, hs2⟩ := valN_size hv
  have hcl := valN_conc_le hv
  have HVF : Hid (∀ q ∈ N.w, validB q = true) := Lib.hid fun q hq => formN_valid (List.all_eq_true.1 (valN_forms hv) q hq)
  have HPW := Lib.hid (fun t (ht : t < P.length) => all_at (d := 0) hP ht)
  have HRW := Lib.hid (fun t (ht : t < R.length) => all_at (d := 0) hR ht)
  have HFT := Lib.hid (fun t (ht : t < N.l.length) => all_at (d := Lk.nil) (valN_fits hv) ht)
  have HCW := Lib.hid (fun t (ht : t < N.c.length) => all_at (d := 0) (valN_concl hv) ht)
  have HRD := Lib.hid r; have HRP := Lib.hid rp; have HRR := Lib.hid rr; have HFP := Lib.hid fp; have HFR := Lib.hid fr
  have HBW := Lib.hid hbw
  have HNB : Hid (w.heap.size + 1 < w0.heap.size ∧ w.heap.size + 1 + 1 < w0.heap.size ∧ FarN ⟨A2, c2, hsx, L2, d2, C2, e2⟩ T (w.heap.size + 1) ∧ FarN ⟨A2, c2, hsx, L2, d2, C2, e2⟩ T (w.heap.size + 1 + 1)) := Lib.hid ⟨by omega, by omega, hfb _ (by omega), hfb _ (by omega)⟩
  have HG1 := Lib.hid g1; have HG2 := Lib.hid g2
  have HST := Lib.hid st0
  have hPn : P.length ≤ N.w.length := Nat.le_of_eq hPl
  have hPn2 : N.w.length ≤ P.length := Nat.le_of_eq hPl.symm
  have hRn : R.length ≤ N.l.length := Nat.le_of_eq hRl
  have hRn2 : N.l.length ≤ R.length := Nat.le_of_eq hRl.symm
  have HKN := Lib.hid (fun (wr : World) (hx : NH) (M : Nt) (p : PlSt wb w0 wr w.heap.size ⟨A2, c2, hsx, L2, d2, C2, e2⟩ T hx M) => three_cells ((p.keep (w.heap.size + 1) HNB.out.1 HNB.out.2.2.1 (by omega)).trans g1))
  obtain ⟨y0, y1, y2⟩ := HKN.out w0 _ T st0
  have HSZ : Hid (w.heap.size < w0.heap.size) := Lib.hid (by omega)
  clear hi0 hz0 hz1 hz2 hbw g0 g1 g2 hsz hfb st0 r rp rr fp fr hv hPl hRl hP hR o hb
  go_enter Tryd.func44, Tryd.ntmps44
  go_upto_region 1 with (fail)
  rw [← hw0]
  clear hw0
  go_wp2
  -- the wires
  go_loopw [18] (fun i wx => ∃ (k : Nat) (hs' : Nat → Option Addr × Nat), k ≤ N.w.length ∧ i = .int .i64 k ∧ PlSt wb w0 wx w.heap.size ⟨A2, c2, hsx, L2, d2, C2, e2⟩ T ⟨A2, c2, hs', L2, d2, C2, e2⟩ ⟨plS [] P N.w k T.w, T.l, T.c⟩) (fun i _ => N.w.length - (intOf i).toNat)
  case atStart => exact ⟨0, hsx, Nat.zero_le _, rfl, HST.out⟩
  case round =>
    obtain ⟨k, hs', hk, rfl, hS⟩ := hrel
    clear HST y0 y1 y2
    by_cases hlt : k < N.w.length
    · obtain ⟨y0, y1, y2⟩ := HKN.out _ _ _ hS
      obtain ⟨bp, offp, rfl, hbp, hcp⟩ := HRP.out.2 (by omega)
      have hfarp := HFP.out (by omega) bp offp rfl
      have cp := (hS.cell (off := offp + k) (Nat.lt_of_lt_of_le hbp HBW.out.size) hfarp (by omega)).trans ((HBW.out.cell (p := ⟨bp, offp + k, none⟩) hbp).trans (hcp k (by omega)))
      have hpw := HPW.out k (by omega)
      obtain ⟨z, hz⟩ : ∃ z, P.getD k 0 = z := ⟨_, rfl⟩
      have hst := plS_step (d := ([] : List Int)) (R := P) (xs := N.w) (k := k) (T := T.w)
      rw [hz] at cp hpw hst
      obtain ⟨_, hip, ez⟩ := inW_yes hpw
      obtain ⟨bw, offw, hA, hbw, hcw⟩ := HRD.out.1.2 (by omega)
      obtain ⟨Aq, cq, kq, _, rq⟩ := hcw k hlt
      have kw := (hS.bel.cell (p := ⟨bw, offw + k, none⟩) hbw).trans kq
      have hvq := valid_len (HVF.out _ (getD_mem hlt))
      have HCI := Lib.hid (clone_any (.slice Aq (N.w.getD k []).length cq) (N.w.getD k []) wr.drew (Part.of_rd ((rq.below hS.bel).more hS.bel.size) hvq.1) (by omega))
      have hlen := plS_len (d := ([] : List Int)) (R := P) (xs := N.w) (T := T.w) k
      obtain ⟨g, cap, hgv, hglo, hglt⟩ := hS.own.q.outer.form (show 0 < (plS [] P N.w k T.w).length by omega)
      obtain ⟨rfl, rfl⟩ : A2 = some ⟨g, 0, none⟩ ∧ c2 = cap := by injection hgv with a b c'; exact ⟨a, c'⟩
      generalize N.w.getD k [] = q at *
      generalize z.toNat = ip at *
      subst ez
      have hip2 : ip < (plS [] P N.w k T.w).length := by omega
      have hgx : w.heap.size ≠ g := hS.ne rfl (show 0 < (plS [] P N.w k T.w).length by omega) hS.sxl hS.sxf
      have hgp : bp ≠ g := hS.ne rfl (show 0 < (plS [] P N.w k T.w).length by omega) (Nat.lt_of_lt_of_le hbp HBW.out.size) hfarp
      obtain ⟨gf, gc⟩ := hS.own.q.at rfl hip2
      have hbox := hS.box
      dsimp only at hbox
      rw [hlen] at hbox
      have K0 : Hid (wr.cell? ⟨w.heap.size, 0, none⟩ = some (.slice (some ⟨g, 0, none⟩) T.w.length c2) ∧ wr.cell? ⟨bp, offp + k, none⟩ = some (.int .i64 (ip : Nat))) := Lib.hid ⟨cell_of_row _ _ 0 _ _ (0, 0) hbox, cp⟩
      have hsxw : w.heap.size < wr.heap.size := Nat.lt_of_lt_of_le HSZ.out hS.size
      have hbpw : bp < wr.heap.size := Nat.lt_of_lt_of_le (Nat.lt_of_lt_of_le hbp HBW.out.size) hS.size
      have HS := Lib.hid hS; have GF := Lib.hid gf; have GC := Lib.hid gc; have HSTP := Lib.hid hst; have HAA := Lib.hid hA; have HFPP := Lib.hid hfarp
      have tok1 : True := trivial
      have hkp : k < P.length := by omega
      clear hS gf gc hst cp kq rq hcp hcw hpw hz hgv hvq hlen hbox hfarp
      rw [hA]
      clear hA
      go_wp2_with (fail)
      go_region_held3 (fun wx => wx.cell? ⟨w.heap.size, 0, none⟩ = some (.slice (some ⟨g, 0, none⟩) T.w.length c2) ∧ wx.cell? ⟨bp, offp + k, none⟩ = some (.int .i64 (ip : Nat)))
        (first | exact K0.out | exact K4.out | exact K5.out)
        (first
          | (have _t := tok1
             go_at_call 81
             refine HCI.out.mono ?_
             rintro e u4 ⟨A4, c4, rfl, own4, bel4'⟩
             have bel4 := undrew bel4'
             have s5 := HS.out.storeW (g := g) (k := ip) rfl hip2 hglo own4 bel4
             have kc4 := (bel4.cell (p := ⟨g, ip, none⟩) hglt).trans GC.out
             have kf4 := (bel4.frozen (p := ⟨g, ip, none⟩) hglt).trans GF.out
             have k41 := (bel4.cell (p := ⟨w.heap.size, 0, none⟩) hsxw).trans K0.out.1
             have k42 := (bel4.cell (p := ⟨bp, offp + k, none⟩) hbpw).trans K0.out.2
             have K4 := Lib.hid (And.intro k41 k42)
             have K5 := Lib.hid (And.intro (farW_cell (i := ip) (u := .slice A4 q.length c4) k41 hgx.symm) (farW_cell (i := ip) (u := .slice A4 q.length c4) k42 hgp.symm))
             have S5 := Lib.hid s5
             clear s5 k41 k42 own4 bel4 bel4' tok1))
      all_goals
        rw [← HSTP.out] at S5
        go_wp2
        go_roundw
        case rel => first | exact ⟨k + 1, _, by omega, by go_num, S5.out⟩ | exact ⟨k + 1, _, by omega, by go_num, S5.out.drew⟩
        case measure => simp [intOf]; omega
    · have hkl : k = N.w.length := by omega
      subst hkl
      have S3 := Lib.hid (show PlSt wb w0 wr w.heap.size ⟨A2, c2, hsx, L2, d2, C2, e2⟩ T ⟨A2, c2, hs', L2, d2, C2, e2⟩ ⟨plS [] P N.w N.w.length T.w, plS Lk.nil R (N.l.map (mapL P)) 0 T.l, T.c⟩ from hS)
      clear hS
      obtain ⟨y0, y1, y2⟩ := HKN.out _ _ _ S3.out
      obtain ⟨WS, hWS⟩ : ∃ x, plS [] P N.w N.w.length T.w = x := ⟨_, rfl⟩
      have HWS := Lib.hid hWS
      rw [hWS] at S3
      clear hWS
      go_wp2
      go_loopw [36] (fun i wx => ∃ k : Nat, k ≤ N.l.length ∧ i = .int .i64 k ∧ PlSt wb w0 wx w.heap.size ⟨A2, c2, hsx, L2, d2, C2, e2⟩ T ⟨A2, c2, hs', L2, d2, C2, e2⟩ ⟨WS, plS Lk.nil R (N.l.map (mapL P)) k T.l, T.c⟩) (fun i _ => N.l.length - (intOf i).toNat)
      case atStart => exact ⟨0, Nat.zero_le _, rfl, S3.out⟩
      case round =>
        obtain ⟨k, hk, rfl, hS⟩ := hrel
        clear S3 y0 y1 y2
        by_cases hlt : k < N.l.length
        · obtain ⟨y0, y1, y2⟩ := HKN.out _ _ _ hS
          obtain ⟨br, offr, rfl, hbr, hcr⟩ := HRR.out.2 (by omega)
          have hfarr := HFR.out (by omega) br offr rfl
          have cr := (hS.cell (off := offr + k) (Nat.lt_of_lt_of_le hbr HBW.out.size) hfarr (by omega)).trans ((HBW.out.cell (p := ⟨br, offr + k, none⟩) hbr).trans (hcr k (by omega)))
          have hrw := HRW.out k (by omega)
          obtain ⟨z, hz⟩ : ∃ z, R.getD k 0 = z := ⟨_, rfl⟩
          have hst := plS_step (d := Lk.nil) (R := R) (xs := N.l.map (mapL P)) (k := k) (T := T.l)
          rw [hz] at cr hrw hst
          obtain ⟨_, hir, er⟩ := inW_yes hrw
          obtain ⟨b0, off0, hL, hb0, hcells⟩ := HRD.out.2.1.at (show 0 < N.l.length by omega)
          obtain ⟨x0, x1, x2, x3⟩ := hcells k hlt
          have hfit := HFT.out k hlt
          have hmp : (N.l.map (mapL P)).getD k Lk.nil = mapL P (N.l.getD k Lk.nil) := by simp [List.getD, hlt]
          rw [hmp] at hst
          obtain ⟨⟨lk, la, lb, lc⟩, hl⟩ : ∃ l, N.l.getD k Lk.nil = l := ⟨_, rfl⟩
          rw [hl] at x0 x1 x2 x3 hfit hst
          dsimp only at x0 x1 x2 x3
          replace x0 := (hS.bel.cell (p := ⟨b0, off0 + k * 4, none⟩) hb0).trans x0
          replace x1 := (hS.bel.cell (p := ⟨b0, off0 + k * 4 + 1, none⟩) hb0).trans x1
          replace x2 := (hS.bel.cell (p := ⟨b0, off0 + k * 4 + 2, none⟩) hb0).trans x2
          replace x3 := (hS.bel.cell (p := ⟨b0, off0 + k * 4 + 3, none⟩) hb0).trans x3
          obtain ⟨wa, wbb, wc, _⟩ := fitsN_yes hfit
          obtain ⟨_, hia, ea⟩ := inW_yes wa
          obtain ⟨_, hib, eb⟩ := inW_yes wbb
          obtain ⟨_, hic, ec⟩ := inW_yes wc
          dsimp only at hia hib hic ea eb ec
          obtain ⟨bp, offp, rfl, hbp, hcp⟩ := HRP.out.2 (by omega)
          have hfarp := HFP.out (by omega) bp offp rfl
          have hcell := fun t (ht : t < P.length) => (hS.cell (off := offp + t) (Nat.lt_of_lt_of_le hbp HBW.out.size) hfarp (by omega)).trans ((HBW.out.cell (p := ⟨bp, offp + t, none⟩) hbp).trans (hcp t ht))
          have ca := hcell la.toNat (by omega)
          have cb := hcell lb.toNat (by omega)
          have cc := hcell lc.toNat (by omega)
          have HMP : mapL P ⟨lk, la, lb, lc⟩ = lnk lk (P.getD la.toNat 0) (P.getD lb.toNat 0) (P.getD lc.toNat 0) := rfl
          rw [HMP] at hst
          generalize z.toNat = ir at *
          generalize P.getD la.toNat 0 = pa at *
          generalize P.getD lb.toNat 0 = pb at *
          generalize P.getD lc.toNat 0 = pc at *
          generalize la.toNat = ia at *
          generalize lb.toNat = ib at *
          generalize lc.toNat = ic at *
          subst er ea eb ec
          have hlen := plS_len (d := Lk.nil) (R := R) (xs := N.l.map (mapL P)) (T := T.l) k
          obtain ⟨g, cap, hgv, hglo, hglt⟩ := hS.own.l.form (show 0 < (plS Lk.nil R (N.l.map (mapL P)) k T.l).length by omega)
          obtain ⟨rfl, rfl⟩ : L2 = some ⟨g, 0, none⟩ ∧ d2 = cap := by injection hgv with a b c'; exact ⟨a, c'⟩
          have hiap : ia < P.length := by omega
          have hibp : ib < P.length := by omega
          have hicp : ic < P.length := by omega
          have hkr : k < R.length := by omega
          have hsx' : w.heap.size < wr.heap.size := Nat.lt_of_lt_of_le HSZ.out hS.size
          have hbox := hS.box
          dsimp only at hbox
          rw [hlen] at hbox
          have kb := cell_of_row _ _ 1 _ _ (0, 0) hbox
          obtain ⟨bl, z0, z1, z2, z3, zs⟩ := lnk_any wr ⟨lk, ia, ib, ic⟩ 72
          dsimp only at bl z0 z1 z2 z3
          obtain ⟨u, hu⟩ : ∃ u, u = wr.alloc (.cells #[.int .i64 lk, .int .i64 ia, .int .i64 ib, .int .i64 ic] 72) := ⟨_, rfl⟩
          rw [← hu] at bl z0 z1 z2 z3 zs
          have SU := hS.below bl
          have kbu := (bl.cell (p := ⟨w.heap.size, 1, none⟩) hsx').trans kb
          have hbrw : br < wr.heap.size := Nat.lt_of_lt_of_le (Nat.lt_of_lt_of_le hbr HBW.out.size) hS.size
          have hbpw : bp < wr.heap.size := Nat.lt_of_lt_of_le (Nat.lt_of_lt_of_le hbp HBW.out.size) hS.size
          have cru := (bl.cell (p := ⟨br, offr + k, none⟩) hbrw).trans cr
          have cau := (bl.cell (p := ⟨bp, offp + ia, none⟩) hbpw).trans ca
          have cbu := (bl.cell (p := ⟨bp, offp + ib, none⟩) hbpw).trans cb
          have ccu := (bl.cell (p := ⟨bp, offp + ic, none⟩) hbpw).trans cc
          have hgx : w.heap.size ≠ g := hS.neL rfl (show 0 < (plS Lk.nil R (N.l.map (mapL P)) k T.l).length by omega) hS.sxl hS.sxf
          have hgr : br ≠ g := hS.neL rfl (show 0 < (plS Lk.nil R (N.l.map (mapL P)) k T.l).length by omega) (Nat.lt_of_lt_of_le hbr HBW.out.size) hfarr
          have hgp : bp ≠ g := hS.neL rfl (show 0 < (plS Lk.nil R (N.l.map (mapL P)) k T.l).length by omega) (Nat.lt_of_lt_of_le hbp HBW.out.size) hfarp
          have hgl : wr.heap.size ≠ g := fun e => by omega
          have K0 : Hid (u.cell? ⟨w.heap.size, 1, none⟩ = some (.slice (some ⟨g, 0, none⟩) T.l.length d2) ∧ u.cell? ⟨br, offr + k, none⟩ = some (.int .i64 (ir : Nat)) ∧ u.cell? ⟨wr.heap.size, 0, none⟩ = some (.int .i64 lk) ∧ u.cell? ⟨wr.heap.size, 1, none⟩ = some (.int .i64 (ia : Nat)) ∧ u.cell? ⟨wr.heap.size, 2, none⟩ = some (.int .i64 (ib : Nat)) ∧ u.cell? ⟨wr.heap.size, 3, none⟩ = some (.int .i64 (ic : Nat)) ∧ u.cell? ⟨bp, offp + ia, none⟩ = some (.int .i64 pa) ∧ u.cell? ⟨bp, offp + ib, none⟩ = some (.int .i64 pb) ∧ u.cell? ⟨bp, offp + ic, none⟩ = some (.int .i64 pc)) := Lib.hid ⟨kbu, cru, z0, z1, z2, z3, cau, cbu, ccu⟩
          have HSU := Lib.hid SU; have HUU := Lib.hid hu
          have HBB : Hid (w.heap.size < u.heap.size ∧ br < u.heap.size ∧ wr.heap.size < u.heap.size ∧ bp < u.heap.size) := Lib.hid ⟨by omega, by omega, by omega, by omega⟩
          have HLEN := Lib.hid hlen
          have hlo := linkOf_any lk pa pb pc u.drew
          obtain ⟨⟨mk, ma, mb, mc⟩, hm⟩ : ∃ l, lnk lk pa pb pc = l := ⟨_, rfl⟩
          rw [hm] at hlo hst
          dsimp only at hlo
          have HLO := Lib.hid hlo
          have HSTL := Lib.hid hst; have HLL := Lib.hid hL
          have hirt : ir < T.l.length := hir
          clear hS hcr hcells hfit hl hrw hz hcp wa wbb wc hgv hbox kb bl z0 z1 z2 z3 zs hu SU kbu cru cau cbu ccu ca cb cc cr hcell hst hlen hmp hfarr hfarp hlo hm
          have tok1 : True := trivial
          rw [HLL.out]
          go_upto_region 9 with (fail)
          rw [← HUU.out]
          clear x0 x1 x2 x3 y0 y1 y2
          generalize wr.heap.size = bl at *
          go_region_held3 (fun wx => wx.cell? ⟨w.heap.size, 1, none⟩ = some (.slice (some ⟨g, 0, none⟩) T.l.length d2) ∧ wx.cell? ⟨br, offr + k, none⟩ = some (.int .i64 (ir : Nat)) ∧ wx.cell? ⟨bl, 0, none⟩ = some (.int .i64 lk) ∧ wx.cell? ⟨bl, 1, none⟩ = some (.int .i64 (ia : Nat)) ∧ wx.cell? ⟨bl, 2, none⟩ = some (.int .i64 (ib : Nat)) ∧ wx.cell? ⟨bl, 3, none⟩ = some (.int .i64 (ic : Nat)) ∧ wx.cell? ⟨bp, offp + ia, none⟩ = some (.int .i64 pa) ∧ wx.cell? ⟨bp, offp + ib, none⟩ = some (.int .i64 pb) ∧ wx.cell? ⟨bp, offp + ic, none⟩ = some (.int .i64 pc))
            (first | exact K0.out | exact K4.out | exact K5.out)
            (first
              | (have _t := tok1
                 go_at_call 61
                 refine HLO.out.mono ?_
                 rintro e u4 ⟨rfl, bel4'⟩
                 have bel4 := undrew bel4'
                 have S4 := HSU.out.below bel4
                 have hO4 := S4.own.l
                 have cl := fun t (ht : t < 4) => hO4.cellAt (g := g) (ir * 4 + t) (by show ir * 4 + t < (plS Lk.nil R (N.l.map (mapL P)) k T.l).length * 4; rw [HLEN.out]; omega)
                 have hml : (List.map (Value.int .i64) (flL (plS Lk.nil R (N.l.map (mapL P)) k T.l))).length = T.l.length * 4 := by rw [List.length_map, flL_len, HLEN.out]
                 have fr := fun t => hO4.frozenAt (g := g) (ir * 4 + t)
                 obtain ⟨d0, e0⟩ : ∃ x, u4.cell? ⟨g, ir * 4, none⟩ = some x := ⟨_, (cl 0 (by omega)).trans (List.getElem?_eq_getElem (show ir * 4 + 0 < _ by rw [hml]; omega))⟩
                 obtain ⟨d1, e1⟩ : ∃ x, u4.cell? ⟨g, ir * 4 + 1, none⟩ = some x := ⟨_, (cl 1 (by omega)).trans (List.getElem?_eq_getElem (show ir * 4 + 1 < _ by rw [hml]; omega))⟩
                 obtain ⟨d2', e2'⟩ : ∃ x, u4.cell? ⟨g, ir * 4 + 2, none⟩ = some x := ⟨_, (cl 2 (by omega)).trans (List.getElem?_eq_getElem (show ir * 4 + 2 < _ by rw [hml]; omega))⟩
                 obtain ⟨d3, e3'⟩ : ∃ x, u4.cell? ⟨g, ir * 4 + 3, none⟩ = some x := ⟨_, (cl 3 (by omega)).trans (List.getElem?_eq_getElem (show ir * 4 + 3 < _ by rw [hml]; omega))⟩
                 have fr0 : u4.frozen? ⟨g, ir * 4, none⟩ = false := fr 0
                 have fr1 := fr 1; have fr2 := fr 2; have fr3 := fr 3
                 have s5 := S4.storeL (g := g) (k := ir) (l := ⟨mk, ma, mb, mc⟩) rfl (by show ir < (plS Lk.nil R (N.l.map (mapL P)) k T.l).length; rw [HLEN.out]; exact hirt) hglo
                 have k1 := (bel4.cell (p := ⟨w.heap.size, 1, none⟩) HBB.out.1).trans K0.out.1
                 have k2 := (bel4.cell (p := ⟨br, offr + k, none⟩) HBB.out.2.1).trans K0.out.2.1
                 have k3 := (bel4.cell (p := ⟨bl, 0, none⟩) HBB.out.2.2.1).trans K0.out.2.2.1
                 have k4 := (bel4.cell (p := ⟨bl, 1, none⟩) HBB.out.2.2.1).trans K0.out.2.2.2.1
                 have k5 := (bel4.cell (p := ⟨bl, 2, none⟩) HBB.out.2.2.1).trans K0.out.2.2.2.2.1
                 have k6 := (bel4.cell (p := ⟨bl, 3, none⟩) HBB.out.2.2.1).trans K0.out.2.2.2.2.2.1
                 have k7 := (bel4.cell (p := ⟨bp, offp + ia, none⟩) HBB.out.2.2.2).trans K0.out.2.2.2.2.2.2.1
                 have k8 := (bel4.cell (p := ⟨bp, offp + ib, none⟩) HBB.out.2.2.2).trans K0.out.2.2.2.2.2.2.2.1
                 have k9 := (bel4.cell (p := ⟨bp, offp + ic, none⟩) HBB.out.2.2.2).trans K0.out.2.2.2.2.2.2.2.2
                 have K4 := Lib.hid (And.intro k1 (And.intro k2 (And.intro k3 (And.intro k4 (And.intro k5 (And.intro k6 (And.intro k7 (And.intro k8 k9))))))))
                 have ff : ∀ {b j : Nat}, g ≠ b → (fourW u4 g (ir * 4) (.int .i64 mk) (.int .i64 ma) (.int .i64 mb) (.int .i64 mc)).cell? ⟨b, j, none⟩ = u4.cell? ⟨b, j, none⟩ := fun h => four_far h
                 have K5 := Lib.hid (And.intro ((ff hgx.symm).trans k1) (And.intro ((ff hgr.symm).trans k2) (And.intro ((ff hgl.symm).trans k3) (And.intro ((ff hgl.symm).trans k4) (And.intro ((ff hgl.symm).trans k5) (And.intro ((ff hgl.symm).trans k6) (And.intro ((ff hgp.symm).trans k7) (And.intro ((ff hgp.symm).trans k8) ((ff hgp.symm).trans k9)))))))))
                 clear ff
                 have S5 := Lib.hid s5
                 clear cl fr s5 k1 k2 k3 k4 k5 k6 k7 k8 k9 S4 hO4 bel4 bel4' hml tok1))
          all_goals
            (try dsimp only at S5)
            rw [← HSTL.out] at S5
            go_wp2
            go_roundw
            case rel => first | exact ⟨k + 1, by omega, by go_num, S5.out⟩ | exact ⟨k + 1, by omega, by go_num, S5.out.drew⟩
            case measure => simp [intOf]; omega
        · have hkl : k = N.l.length := by omega
          subst hkl
          have HWS2 := HWS.out
          have S4 := Lib.hid (show PlSt wb w0 wr w.heap.size ⟨A2, c2, hsx, L2, d2, C2, e2⟩ T ⟨A2, c2, hs', L2, d2, C2, e2⟩ ⟨WS, plS Lk.nil R (N.l.map (mapL P)) N.l.length T.l, T.c ++ (N.c.take 0).map fun x => P.getD x.toNat 0⟩ from by rw [List.take_zero, List.map_nil, List.append_nil]; exact hS)
          clear hS
          obtain ⟨y0, y1, y2⟩ := HKN.out _ _ _ S4.out
          obtain ⟨LS, hLS⟩ : ∃ x, plS Lk.nil R (N.l.map (mapL P)) N.l.length T.l = x := ⟨_, rfl⟩
          have HLS := Lib.hid hLS
          rw [hLS] at S4
          clear hLS HWS2
          go_wp2
          go_loopw [70] (fun i wx => ∃ (k : Nat) (C3 : Option Addr) (e3 : Nat), k ≤ N.c.length ∧ i = .int .i64 k ∧ PlSt wb w0 wx w.heap.size ⟨A2, c2, hsx, L2, d2, C2, e2⟩ T ⟨A2, c2, hs', L2, d2, C3, e3⟩ ⟨WS, LS, T.c ++ (N.c.take k).map fun x => P.getD x.toNat 0⟩) (fun i _ => N.c.length - (intOf i).toNat)
          case atStart => exact ⟨0, C2, e2, Nat.zero_le _, rfl, S4.out⟩
          case round =>
            obtain ⟨k, C3, e3, hk, rfl, hS⟩ := hrel
            clear S4 y0 y1 y2
            by_cases hlt : k < N.c.length
            · obtain ⟨y0, y1, y2⟩ := HKN.out _ _ _ hS
              obtain ⟨bc, offc, hC, hbc, hcc⟩ := HRD.out.2.2.2 (show 0 < N.c.length by omega)
              have kc := (hS.bel.cell (p := ⟨bc, offc + k, none⟩) hbc).trans (hcc k hlt)
              have hcw := HCW.out k hlt
              have hnx : (T.c ++ (N.c.take k).map fun x => P.getD x.toNat 0) ++ [P.getD (N.c.getD k 0).toNat 0] = T.c ++ (N.c.take (k + 1)).map fun x => P.getD x.toNat 0 := by
                rw [takeL_succ (d := 0) hlt, List.map_append, List.append_assoc]; rfl
              obtain ⟨z, hz⟩ : ∃ z, N.c.getD k 0 = z := ⟨_, rfl⟩
              rw [hz] at kc hcw hnx
              obtain ⟨_, hic, ez⟩ := inW_yes hcw
              obtain ⟨bp, offp, rfl, hbp, hcp⟩ := HRP.out.2 (by omega)
              have hfarp := HFP.out (by omega) bp offp rfl
              have cp := (hS.cell (off := offp + z.toNat) (Nat.lt_of_lt_of_le hbp HBW.out.size) hfarp (by omega)).trans ((HBW.out.cell (p := ⟨bp, offp + z.toNat, none⟩) hbp).trans (hcp z.toNat (by omega)))
              generalize P.getD z.toNat 0 = pv at *
              generalize z.toNat = ic at *
              subst ez
              obtain ⟨cs, hcs⟩ : ∃ cs, (T.c ++ (N.c.take k).map fun x => P.getD x.toNat 0) = cs := ⟨_, rfl⟩
              have hcsl : cs.length ≤ 2000 := by rw [← hcs, List.length_append, List.length_map, List.length_take]; omega
              obtain ⟨cs2, hcs2⟩ : ∃ cs2, T.c ++ (N.c.take (k + 1)).map (fun x => P.getD x.toNat 0) = cs2 := ⟨_, rfl⟩
              rw [hcs] at hS hnx
              rw [hcs2] at hnx
              have HCS2 := Lib.hid hcs2
              have hbox := hS.box
              dsimp only at hbox
              have hbpw : bp < wr.heap.size := Nat.lt_of_lt_of_le (Nat.lt_of_lt_of_le hbp HBW.out.size) hS.size
              have hsxw : w.heap.size < wr.heap.size := Nat.lt_of_lt_of_le HSZ.out hS.size
              have hfc : (Value.slice C3 cs.length e3).ownBlock ≠ some bp := (hS.far bp (Nat.lt_of_lt_of_le hbp HBW.out.size) hfarp).c
              have hfs : (Value.slice C3 cs.length e3).ownBlock ≠ some w.heap.size := (hS.far _ hS.sxl hS.sxf).c
              have HSX := Lib.hid (fun (wx : World) (hx : Below wr.heap.size wr wx) => show wx.cell? ⟨bp, offp + ic, none⟩ = some (.int .i64 pv) from (hx.cell (p := ⟨bp, offp + ic, none⟩) hbpw).trans cp)
              have HS := Lib.hid hS
              have FB_0 := Lib.hid (Below.refl wr.heap.size wr)
              have FX_0 := Lib.hid hbox
              have FO_0 := Lib.hid hS.own.c
              have HLO := Lib.hid hS.bel.size
              have HNX := Lib.hid hnx; have HFC := Lib.hid hfc; have HFS := Lib.hid hfs; have HPW2 := Lib.hid hbpw; have HSW2 := Lib.hid hsxw
              have hicp : ic < P.length := by omega
              clear hS hcp hcc hcw hz hfarp hbox hfc hfs cp hcs hcs2 hnx hbpw hsxw
              rw [hC]
              go_upto_region 14 with (fail)
              clear y0 y1 y2 kc hC
              refine wp_region_held_drew (S := fun wx => wx.cell? ⟨bp, offp + ic, none⟩ = some (.int .i64 pv)) (by kernel_rfl) (HSX.out _ (Below.refl _ _).drew) (fun hHeld => ?_)
              obtain ⟨wq1, hwq1⟩ : ∃ w', w' = wr.drew := ⟨_, rfl⟩
              rw [← hwq1] at hHeld ⊢
              have bq1 : Below wr.heap.size wr wq1 := by rw [hwq1]; exact (Below.refl _ _).drew
              clear hwq1
              have FB_q2 := Lib.hid ((FB_0.out).trans ((bq1).mono (FB_0.out).size))
              have FX_q3 := Lib.hid (((bq1).block _ (Array.getElem?_eq_some_iff.1 (FX_0.out)).1).trans (FX_0.out))
              have FO_q4 := Lib.hid (own_below (FO_0.out) (bq1) (Nat.le_refl _))
              clear FB_0 FX_0 FO_0
              refine wpAnyH_take (i := 0) (v := ?vq5) rfl (by kernel_rfl) (by kernel_rfl) (by kernel_rfl) (fun _ _ _ h => h) (Or.inl ⟨by rfl, ?yq5⟩) (by assumption) ?_
              case yq5 => (intro w hSw; (try dsimp only at hSw); go_simp; all_goals (with_reducible rfl))
              (try simp only [Act.put, List.setIfInBounds_toArray, List.set_cons_zero, List.set_cons_succ, List.getElem_toArray, List.getElem_cons_succ, List.getElem_cons_zero])
              refine wpAnyH_take (i := 2) (v := ?vq6) rfl (by kernel_rfl) (by kernel_rfl) (by kernel_rfl) (fun _ _ _ h => h) (Or.inl ⟨by rfl, ?yq6⟩) (by assumption) ?_
              case yq6 => (intro w hSw; (try dsimp only at hSw); go_simp; all_goals (with_reducible rfl))
              (try simp only [Act.put, List.setIfInBounds_toArray, List.set_cons_zero, List.set_cons_succ, List.getElem_toArray, List.getElem_cons_succ, List.getElem_cons_zero])
              refine wpAnyH_take (i := 3) (v := ?vq7) rfl (by kernel_rfl) (by kernel_rfl) (by kernel_rfl) (fun _ _ _ h => h) (Or.inl ⟨by rfl, ?yq7⟩) (by assumption) ?_
              case yq7 => (intro w hSw; (try dsimp only at hSw); go_simp; all_goals (with_reducible rfl))
              (try simp only [Act.put, List.setIfInBounds_toArray, List.set_cons_zero, List.set_cons_succ, List.getElem_toArray, List.getElem_cons_succ, List.getElem_cons_zero])
              refine wpAnyH_take (i := 4) (v := ?vq8) rfl (by kernel_rfl) (by kernel_rfl) (by kernel_rfl) (fun _ _ _ h => h) (Or.inl ⟨by rfl, ?yq8⟩) (by assumption) ?_
              case yq8 => (intro w hSw; (try dsimp only at hSw); go_simp; all_goals (with_reducible rfl))
              (try simp only [Act.put, List.setIfInBounds_toArray, List.set_cons_zero, List.set_cons_succ, List.getElem_toArray, List.getElem_cons_succ, List.getElem_cons_zero])
              refine wpAnyH_take (i := 5) (v := ?vq9) rfl (by kernel_rfl) (by kernel_rfl) (by kernel_rfl) (fun _ _ _ h => h) (Or.inl ⟨by rfl, ?yq9⟩) (by assumption) ?_
              case yq9 => (intro w hSw; (try dsimp only at hSw); go_simp; all_goals (with_reducible rfl))
              (try simp only [Act.put, List.setIfInBounds_toArray, List.set_cons_zero, List.set_cons_succ, List.getElem_toArray, List.getElem_cons_succ, List.getElem_cons_zero])
              refine wpAnyH_ready (rs := [1, 6]) (by kernel_rfl) (by simp) ?_
              refine AllReadyH.cons rfl (fun K hK => ?_) ?_
              · have cq := cell_of_row _ _ 2 _ _ (0, 0) FX_q3.out
                go_simp
                clear cq
                refine hK.out _ _ (hHeld) (fun hHeld => ?_)
                clear hK K
                (try simp only [Act.put, List.setIfInBounds_toArray, List.set_cons_zero, List.set_cons_succ, List.getElem_toArray, List.getElem_cons_succ, List.getElem_cons_zero])
                refine wpAnyH_ready (rs := [6]) (by kernel_rfl) (by simp) ?_
                refine AllReadyH.cons rfl (fun K hK => ?_) ?_
                · go_simp
                  obtain ⟨wq10, hwq10⟩ : ∃ w', w' = wq1.alloc (.cells #[Value.int .i64 pv] 2) := ⟨_, rfl⟩
                  rw [← hwq10]
                  have bq10 : Below wq1.heap.size wq1 wq10 := by rw [hwq10]; exact (Below.refl _ _).alloc (Nat.le_refl _) _
                  have gq10 : wq10.heap[wq1.heap.size]? = some (.cells #[Value.int .i64 pv] 2 (0, 0)) := by rw [hwq10]; exact heap_alloc_new _ _
                  clear hwq10
                  have FB_q11 := Lib.hid ((FB_q2.out).trans ((bq10).mono (FB_q2.out).size))
                  have FX_q12 := Lib.hid (((bq10).block _ (Array.getElem?_eq_some_iff.1 (FX_q3.out)).1).trans (FX_q3.out))
                  have FO_q13 := Lib.hid (own_below (FO_q4.out) (bq10) (Nat.le_refl _))
                  clear FB_q2 FX_q3 FO_q4
                  obtain ⟨gnq14, hgq14⟩ : ∃ b, wq1.heap.size = b := ⟨_, rfl⟩
                  have FN_q14 := Lib.hid gq10
                  rw [hgq14] at FN_q14 ⊢
                  clear hgq14 gq10 bq10
                  refine hK.out _ _ (HSX.out _ FB_q11.out) (fun hHeld => ?_)
                  clear hK K
                  (try simp only [Act.put, List.setIfInBounds_toArray, List.set_cons_zero, List.set_cons_succ, List.getElem_toArray, List.getElem_cons_succ, List.getElem_cons_zero])
                  refine wpAnyH_ready (rs := [7]) (by kernel_rfl) (by simp) ?_
                  refine AllReadyH.cons rfl (fun K hK => ?_) ?_
                  · refine step_at rfl _ _ 24 rfl wb.heap.size 2 i0 (.int .i64 0) 1 8 Tryd.underlying24 HI.out HZ0.out HZ1.out HZ2.out rfl (by decide) _ _ _ rfl FO_q13.out ⟨gnq14, 0, none⟩ 1 1 [.int .i64 pv] rfl rfl (World.news_of_block FN_q14.out) (by simp [Value.oneCell']) (by show cs.length + 1 ≤ maxLen; unfold maxLen; omega) (by show (cs.length + 1) * 8 ≤ 140737488355328; omega) (Nat.le_trans HLO.out FB_q11.out.size) ?_
                    intro v7 w7 own7 gr7 at7
                    have own8 : w7.ownsRow wb.heap.size 2 1 v7 cs2.length (cs2.map (Value.int .i64)) := by rw [← HNX.out, List.map_append, List.length_append]; exact own7
                    obtain ⟨C7, e7, rfl⟩ := own_shape own8
                    have HP7 := Lib.hid (HS.out.pushC FB_q11.out own8 gr7 at7)
                    have q7 := (gr7.block w.heap.size (Nat.lt_of_lt_of_le HSW2.out FB_q11.out.size) (fun e => HFS.out e.symm)).trans FX_q12.out
                    have HQ7 := Lib.hid q7
                    have kp7 : Hid (w7.cell? ⟨bp, offp + ic, none⟩ = some (.int .i64 pv)) := Lib.hid (by have h5 := HSX.out _ FB_q11.out; unfold World.cell? at h5 ⊢; rw [gr7.block bp (Nat.lt_of_lt_of_le HPW2.out FB_q11.out.size) (fun e => HFC.out e.symm)]; exact h5)
                    clear own7 own8 gr7 at7 q7
                    refine hK.out _ _ (kp7.out) (fun hHeld => ?_)
                    clear hK K
                    (try simp only [Act.put, List.setIfInBounds_toArray, List.set_cons_zero, List.set_cons_succ, List.getElem_toArray, List.getElem_cons_succ, List.getElem_cons_zero])
                    refine wpAnyH_take (i := 8) (v := ?vq16) rfl (by kernel_rfl) (by kernel_rfl) (by kernel_rfl) (fun _ _ _ h => h) (Or.inl ⟨by rfl, ?yq16⟩) (by assumption) ?_
                    case yq16 => (intro w hSw; (try dsimp only at hSw); go_simp; all_goals (with_reducible rfl))
                    (try simp only [Act.put, List.setIfInBounds_toArray, List.set_cons_zero, List.set_cons_succ, List.getElem_toArray, List.getElem_cons_succ, List.getElem_cons_zero])
                    refine wpAnyH_ready (rs := [9]) (by kernel_rfl) (by simp) ?_
                    refine AllReadyH.cons rfl (fun K hK => ?_) ?_
                    · obtain ⟨a0, a1, a2⟩ := three_cells HQ7.out
                      have f2 := frozen_of_row _ _ 2 _ _ HQ7.out
                      go_simp
                      clear a0 a1 a2 f2
                      refine hK.out _ _ (farW_cell (i := 2) (u := .slice C7 _ e7) kp7.out (by have := HSW2.out; have := HPW2.out; omega)) (fun hHeld => ?_)
                      clear hK K
                      (try simp only [Act.put, List.setIfInBounds_toArray, List.set_cons_zero, List.set_cons_succ, List.getElem_toArray, List.getElem_cons_succ, List.getElem_cons_zero])
                      refine wpAnyH_done (by kernel_rfl) ?_ _
                      go_wp2
                      go_roundw
                      case rel => first | exact ⟨k + 1, C7, e7, by omega, by go_num, by rw [HCS2.out]; exact HP7.out⟩ | exact ⟨k + 1, C7, e7, by omega, by go_num, by rw [HCS2.out]; exact HP7.out.drew⟩
                      case measure => simp [intOf]; omega
                    exact AllReadyH.nil
                  exact AllReadyH.nil
                exact AllReadyH.nil
              refine AllReadyH.cons rfl (fun K hK => ?_) ?_
              · go_simp
                obtain ⟨wq17, hwq17⟩ : ∃ w', w' = wq1.alloc (.cells #[Value.int .i64 pv] 2) := ⟨_, rfl⟩
                rw [← hwq17]
                have bq17 : Below wq1.heap.size wq1 wq17 := by rw [hwq17]; exact (Below.refl _ _).alloc (Nat.le_refl _) _
                have gq17 : wq17.heap[wq1.heap.size]? = some (.cells #[Value.int .i64 pv] 2 (0, 0)) := by rw [hwq17]; exact heap_alloc_new _ _
                clear hwq17
                have FB_q18 := Lib.hid ((FB_q2.out).trans ((bq17).mono (FB_q2.out).size))
                have FX_q19 := Lib.hid (((bq17).block _ (Array.getElem?_eq_some_iff.1 (FX_q3.out)).1).trans (FX_q3.out))
                have FO_q20 := Lib.hid (own_below (FO_q4.out) (bq17) (Nat.le_refl _))
                clear FB_q2 FX_q3 FO_q4
                obtain ⟨gnq21, hgq21⟩ : ∃ b, wq1.heap.size = b := ⟨_, rfl⟩
                have FN_q21 := Lib.hid gq17
                rw [hgq21] at FN_q21 ⊢
                clear hgq21 gq17 bq17
                refine hK.out _ _ (HSX.out _ FB_q18.out) (fun hHeld => ?_)
                clear hK K
                (try simp only [Act.put, List.setIfInBounds_toArray, List.set_cons_zero, List.set_cons_succ, List.getElem_toArray, List.getElem_cons_succ, List.getElem_cons_zero])
                refine wpAnyH_ready (rs := [1]) (by kernel_rfl) (by simp) ?_
                refine AllReadyH.cons rfl (fun K hK => ?_) ?_
                · have cq := cell_of_row _ _ 2 _ _ (0, 0) FX_q19.out
                  go_simp
                  clear cq
                  refine hK.out _ _ (hHeld) (fun hHeld => ?_)
                  clear hK K
                  (try simp only [Act.put, List.setIfInBounds_toArray, List.set_cons_zero, List.set_cons_succ, List.getElem_toArray, List.getElem_cons_succ, List.getElem_cons_zero])
                  refine wpAnyH_ready (rs := [7]) (by kernel_rfl) (by simp) ?_
                  refine AllReadyH.cons rfl (fun K hK => ?_) ?_
                  · refine step_at rfl _ _ 24 rfl wb.heap.size 2 i0 (.int .i64 0) 1 8 Tryd.underlying24 HI.out HZ0.out HZ1.out HZ2.out rfl (by decide) _ _ _ rfl FO_q20.out ⟨gnq21, 0, none⟩ 1 1 [.int .i64 pv] rfl rfl (World.news_of_block FN_q21.out) (by simp [Value.oneCell']) (by show cs.length + 1 ≤ maxLen; unfold maxLen; omega) (by show (cs.length + 1) * 8 ≤ 140737488355328; omega) (Nat.le_trans HLO.out FB_q18.out.size) ?_
                    intro v7 w7 own7 gr7 at7
                    have own8 : w7.ownsRow wb.heap.size 2 1 v7 cs2.length (cs2.map (Value.int .i64)) := by rw [← HNX.out, List.map_append, List.length_append]; exact own7
                    obtain ⟨C7, e7, rfl⟩ := own_shape own8
                    have HP7 := Lib.hid (HS.out.pushC FB_q18.out own8 gr7 at7)
                    have q7 := (gr7.block w.heap.size (Nat.lt_of_lt_of_le HSW2.out FB_q18.out.size) (fun e => HFS.out e.symm)).trans FX_q19.out
                    have HQ7 := Lib.hid q7
                    have kp7 : Hid (w7.cell? ⟨bp, offp + ic, none⟩ = some (.int .i64 pv)) := Lib.hid (by have h5 := HSX.out _ FB_q18.out; unfold World.cell? at h5 ⊢; rw [gr7.block bp (Nat.lt_of_lt_of_le HPW2.out FB_q18.out.size) (fun e => HFC.out e.symm)]; exact h5)
                    clear own7 own8 gr7 at7 q7
                    refine hK.out _ _ (kp7.out) (fun hHeld => ?_)
                    clear hK K
                    (try simp only [Act.put, List.setIfInBounds_toArray, List.set_cons_zero, List.set_cons_succ, List.getElem_toArray, List.getElem_cons_succ, List.getElem_cons_zero])
                    refine wpAnyH_take (i := 8) (v := ?vq23) rfl (by kernel_rfl) (by kernel_rfl) (by kernel_rfl) (fun _ _ _ h => h) (Or.inl ⟨by rfl, ?yq23⟩) (by assumption) ?_
                    case yq23 => (intro w hSw; (try dsimp only at hSw); go_simp; all_goals (with_reducible rfl))
                    (try simp only [Act.put, List.setIfInBounds_toArray, List.set_cons_zero, List.set_cons_succ, List.getElem_toArray, List.getElem_cons_succ, List.getElem_cons_zero])
                    refine wpAnyH_ready (rs := [9]) (by kernel_rfl) (by simp) ?_
                    refine AllReadyH.cons rfl (fun K hK => ?_) ?_
                    · obtain ⟨a0, a1, a2⟩ := three_cells HQ7.out
                      have f2 := frozen_of_row _ _ 2 _ _ HQ7.out
                      go_simp
                      clear a0 a1 a2 f2
                      refine hK.out _ _ (farW_cell (i := 2) (u := .slice C7 _ e7) kp7.out (by have := HSW2.out; have := HPW2.out; omega)) (fun hHeld => ?_)
                      clear hK K
                      (try simp only [Act.put, List.setIfInBounds_toArray, List.set_cons_zero, List.set_cons_succ, List.getElem_toArray, List.getElem_cons_succ, List.getElem_cons_zero])
                      refine wpAnyH_done (by kernel_rfl) ?_ _
                      go_wp2
                      go_roundw
                      case rel => first | exact ⟨k + 1, C7, e7, by omega, by go_num, by rw [HCS2.out]; exact HP7.out⟩ | exact ⟨k + 1, C7, e7, by omega, by go_num, by rw [HCS2.out]; exact HP7.out.drew⟩
                      case measure => simp [intOf]; omega
                    exact AllReadyH.nil
                  exact AllReadyH.nil
                exact AllReadyH.nil
              exact AllReadyH.nil
            · have hkl : k = N.c.length := by omega
              subst hkl
              rw [List.take_length] at hS
              have hM : (⟨WS, LS, T.c ++ N.c.map fun x => P.getD x.toNat 0⟩ : Nt) = plN P R N T := by unfold plN; rw [HWS.out, HLS.out]
              rw [hM] at hS
              have hz2 := (hS.keep (w.heap.size + 1 + 1) HNB.out.2.1 HNB.out.2.2.2 (by omega)).trans HG2.out
              have hbox := hS.box
              dsimp only at hbox
              obtain ⟨a0, a1, a2⟩ := three_cells hbox
              obtain ⟨b0, b1, b2⟩ := three_cells hz2
              have f0 := frozen_of_row _ _ 0 _ _ hz2; have f1 := frozen_of_row _ _ 1 _ _ hz2; have f2 := frozen_of_row _ _ 2 _ _ hz2
              have HF := Lib.hid (placed_out (u0 := .slice A2 (plN P R N T).w.length c2) (u1 := .slice L2 (plN P R N T).l.length d2) (u2 := .slice C3 (plN P R N T).c.length e3) hS HBW.out HNB.out.2.1 HNB.out.2.2.2 (by omega))
              have H7 := Lib.hid (set3_at hz2 (.slice A2 (plN P R N T).w.length c2) (.slice L2 (plN P R N T).l.length d2) (.slice C3 (plN P R N T).c.length e3))
              clear hS hz2 hbox hM
              go_wp2
              (try simp only [Exit.inBlock, Exit.then])
              refine bodyPost_ret (results_cell_row rfl _ _ (w.heap.size + 1 + 1) _ _ (0, 0) _ rfl H7.out Tryd.underlying30 rfl (by kernel_rfl)) rfl ?_
              exact HF.out
end Go.Proofs.YtdcommmefehlgaaDoor
