/- The model's GraphOfNet. Made by mkgns.py. -/
import Derived.Test.YtlcapifgpcimpaaDoorSmF
import Derived.Test.YtlcapifgpcimpaaDoorNetY
import Derived.Test.YtlcapifgpcimpaaDoorGnP
import Derived.Deep.RegionHeldLaw
import Derived.Deep.DeepCutAuto
import Derived.BigQuiet
namespace Go.Proofs.YtlcapifgpcimpaaDoor
set_option linter.unusedSimpArgs false
set_option linter.unusedVariables false
open Go.ChangeAt Go.ChangeShapes Go.RowKit Go.WideShapes

theorem from_lxG {N : Nt} (hv : valN N = true) (x : Int) : firstN (srcB x) N.l = lxN outL N x := first_ext fun l hl => srcB_is (fitsN_kind ((List.all_eq_true.1 (valN_fits hv)) l hl))
theorem to_lxG {N : Nt} (x : Int) : firstN (tgtB x) N.l = lxN inL N x := first_ext fun l _ => tgtB_is l x
/-- The edges of the wires below k. -/
def msU (N : Nt) (k : Nat) : List Ed := gnU N (arcsU N k) (arcsU N k).length
theorem msU_is (N : Nt) (k : Nat) : msU N k = (arcsU N k).map (edA N) := by unfold msU gnU; rw [List.take_length]
theorem msU_zero (N : Nt) : msU N 0 = [] := rfl
theorem msU_yes {N : Nt} {k : Nat} (h : ¬ lxN inL N (k : Int) = -1) : msU N (k + 1) = msU N k ++ [edA N (arcA N k)] := by rw [msU_is, msU_is, arcsU_yes h, List.map_append]; rfl
theorem msU_no {N : Nt} {k : Nat} (h : lxN inL N (k : Int) = -1) : msU N (k + 1) = msU N k := by rw [msU_is, msU_is, arcsU_no h]
theorem msU_len (N : Nt) (k : Nat) : (msU N k).length ≤ k := Nat.le_trans (gnU_len N _ _) (arcsU_len N k)
set_option maxRecDepth 100000 in
set_option maxHeartbeats 1000000 in
theorem sGraphOfNet_any (h : NH) (N : Nt) (w : World) (r : RdN w w.heap.size h N) (hn : N.w.length ≤ 1048576) (hl : N.l.length ≤ 1048576) (hc : N.c.length ≤ 1048576) :
    Calls Tryd.prog 8 #[.agg #[.slice h.A N.w.length h.c, .slice h.L N.l.length h.d, .slice h.C N.c.length h.e]] w (GivesGB w (gnV N) (valN N)) := by
  obtain ⟨i3, hi3, hz3, hs3, hb3⟩ := info_partsE
  have HI := Lib.hid hi3; have HZ0 := Lib.hid hz3; have HZ1 := Lib.hid hs3; have HZ2 := Lib.hid hb3
  obtain ⟨w2, hw2⟩ : ∃ w2, w2 = (w.alloc (.cells #[.slice h.A N.w.length h.c, .slice h.L N.l.length h.d, .slice h.C N.c.length h.e] 35)).alloc (.cells #[.int .i64 0, .slice none 0 0] 30) := ⟨_, rfl⟩
  obtain ⟨hb, p0, p1, hsz⟩ := two_boxN w (.cells #[.slice h.A N.w.length h.c, .slice h.L N.l.length h.d, .slice h.C N.c.length h.e] 35) (.cells #[.int .i64 0, .slice none 0 0] 30)
  rw [← hw2] at hb p0 p1 hsz
  have HK := Lib.hid (fun (wx : World) (hx : Below w2.heap.size w2 wx) => And.intro (three_cells ((hx.block w.heap.size (by omega)).trans p0)) ((hx.block (w.heap.size + 1) (by omega)).trans p1))
  have HV := Lib.hid (sValidNet_any h N w2 ((r.below hb).more hb.size) hn hl hc)
  have HR := Lib.hid (fun (wx : World) (hx : Below w2.heap.size w2 wx) => show RdN wx wx.heap.size h N from (r.below (hb.trans (hx.mono hb.size))).more (Nat.le_trans hb.size hx.size))
  have HB := Lib.hid hb
  have HS2 : Hid (w2.heap.size = w.heap.size + 1 + 1) := Lib.hid hsz
  obtain ⟨y0, y1, y2⟩ := (HK.out _ (Below.refl _ _)).1
  clear hb p0 p1 hsz hi3 hz3 hs3 hb3
  cases hv : valN N with
  | false =>
    rw [hv] at HV
    rw [gnV_no hv]
    clear hv r
    go_enter Tryd.func8, Tryd.ntmps8
    go_wp2_with (fail)
    rw [← hw2]
    clear hw2
    refine HV.out.mono ?_
    rintro e w3 ⟨rfl, bel3⟩
    have q1 := (HK.out _ bel3).2
    obtain ⟨a0, a1⟩ := twE_cells q1
    have f0 := frozen_of_row _ _ 0 _ _ q1; have f1 := frozen_of_row _ _ 1 _ _ q1
    have HQ := Lib.hid (set2E_at q1 (.int .i64 0) (.slice none 0 0))
    have B3 := Lib.hid (HB.out.trans (bel3.mono HB.out.size))
    clear bel3 q1 y0 y1 y2
    go_wp2
    (try simp only [Exit.inBlock, Exit.then])
    refine bodyPost_ret (resCT rfl _ _ (w.heap.size + 1) _ _ (0, 0) _ rfl HQ.out Tryd.underlying30 rfl (by kernel_rfl)) rfl ?_
    exact givesGB_nil ((B3.out.setCell (p := ⟨w.heap.size + 1, 0, none⟩) (by show w.heap.size ≤ w.heap.size + 1; omega) _).setCell (p := ⟨w.heap.size + 1, 1, none⟩) (by show w.heap.size ≤ w.heap.size + 1; omega) _)
  | true =>
    rw [hv] at HV
    have HVV : Hid (gnV N = ⟨N.l.length, msU N N.w.length⟩) := Lib.hid (gnV_yes hv)
    have HTO := Lib.hid (fun (x : Int) (wx : World) (hx : Below w2.heap.size w2 wx) => smTo_any h.A h.L h.C N.w.length h.c h.d N.c.length h.e N.l x wx (HR.out _ hx).2.1 hl)
    have HFR := Lib.hid (fun (x : Int) (wx : World) (hx : Below w2.heap.size w2 wx) => smFrom_any h.A h.L h.C N.w.length h.c h.d N.c.length h.e N.l x wx (HR.out _ hx).2.1 hl)
    have HFE := Lib.hid (fun x => from_lxG hv x)
    obtain ⟨hwl, hll⟩ := valN_size hv
    rw [HVV.out]
    clear hv r hn hl hc
    go_enter Tryd.func8, Tryd.ntmps8
    go_wp2_with (fail)
    rw [← hw2]
    clear hw2
    refine HV.out.mono ?_
    rintro e w3 ⟨rfl, bel3⟩
    have B3 := Lib.hid bel3
    clear bel3 y0 y1 y2 HV
    obtain ⟨y0, y1, y2⟩ := (HK.out _ B3.out).1
    go_upto_region 4 with (fail)
    obtain ⟨w4, hw4⟩ : ∃ w4, w4 = w3.alloc (.cells #[.int .i64 N.l.length, .slice none 0 0] 30) := ⟨_, rfl⟩
    have HST0 : Hid (GrSt w3 w4 ⟨none, 0⟩ ⟨N.l.length, msU N 0⟩) := Lib.hid (by rw [hw4]; exact GrSt.start w3 _)
    rw [← hw4]
    have HL3 : Hid (w.heap.size + 1 < w3.heap.size) := Lib.hid (by have := HS2.out; have := B3.out.size; omega)
    have HSX : Hid (∀ wx : World, Below w3.heap.size w3 wx → wx.cell? ⟨w.heap.size, 0, none⟩ = some (.slice h.A N.w.length h.c) ∧ wx.cell? ⟨w.heap.size, 1, none⟩ = some (.slice h.L N.l.length h.d) ∧ wx.cell? ⟨w.heap.size, 2, none⟩ = some (.slice h.C N.c.length h.e)) := Lib.hid fun wx hx => (HK.out _ (B3.out.trans (hx.mono B3.out.size))).1
    clear hw4 y0 y1 y2
    go_wp2
    go_loopw [5] (fun i wr => ∃ (k : Nat) (hh : GH), k ≤ N.w.length ∧ i = .int .i64 k ∧ GrSt w3 wr hh ⟨N.l.length, msU N k⟩) (fun i _ => N.w.length - (intOf i).toNat)
    case atStart => exact ⟨0, ⟨none, 0⟩, Nat.zero_le _, rfl, HST0.out⟩
    case round =>
      obtain ⟨k, hh, hk, rfl, hST⟩ := hrel
      clear HST0
      have HBR := Lib.hid (B3.out.trans (hST.bel.mono B3.out.size))
      have HSR := Lib.hid hST
      clear hST
      obtain ⟨y0, y1, y2⟩ := HSX.out _ HSR.out.bel
      by_cases hlt : k < N.w.length
      · have HT := HTO.out (k : Int) _ HBR.out
        rw [to_lxG (N := N)] at HT
        have HTT := Lib.hid HT
        have HYE := Lib.hid (fun e => msU_yes (N := N) (k := k) e)
        have HNO := Lib.hid (fun e => msU_no (N := N) (k := k) e)
        have HAR : Hid (arcA N k = ⟨(k : Int), lxN outL N (k : Int), lxN inL N (k : Int)⟩) := Lib.hid rfl
        have hin := lxN_in inL N (k : Int)
        clear HT
        generalize lxN inL N (k : Int) = q at *
        by_cases hq : 0 ≤ q
        · obtain ⟨qn, rfl⟩ : ∃ qn : Nat, q = qn := ⟨q.toNat, by omega⟩
          have hqn : qn < N.l.length := by omega
          have hqi : (qn : Int) < (N.l.length : Int) := by omega
          have hd : decide ((qn : Int) < 0) = false := decide_eq_false (by omega)
          have HS := Lib.hid (HYE.out (by omega))
          have HLEN : Hid ((msU N k).length ≤ 1000000) := Lib.hid (by have := msU_len N k; omega)
          clear hin hq HYE HNO
          go_wp2_with (fail)
          refine HTT.out.mono ?_
          rintro e w5 ⟨rfl, bel5⟩
          have B5 := Lib.hid (HBR.out.trans (bel5.mono HBR.out.size))
          have HST := Lib.hid (HSR.out.below bel5)
          clear bel5 y0 y1 y2 HTT HBR HSR
          obtain ⟨y0, y1, y2⟩ := HSX.out _ HST.out.bel
          have HF0 := Lib.hid (fun (wx : World) (hx : Below w5.heap.size w5 wx) => HFR.out (k : Int) wx (B5.out.trans (hx.mono B5.out.size)))
          rw [HFE.out] at HF0
          obtain ⟨bL, oL, hLe, hbL, hcL⟩ := (HR.out _ B5.out).2.1.at (show 0 < N.l.length by omega)
          have k0 := (hcL qn hqn).1
          rw [hLe] at y1
          clear hcL hbL hLe
          obtain ⟨⟨kk, ka, kb, kc⟩, hkk⟩ : ∃ l, N.l.getD qn Lk.nil = l := ⟨_, rfl⟩
          rw [hkk] at k0
          dsimp only at k0
          by_cases hk4 : kk = 4
          · have hd4 : (kk == 4) = true := by simpa using hk4
            have HEX : Hid (msU N (k + 1) = msU N k ++ [⟨lxN outL N (k : Int), qn, qn⟩]) := Lib.hid (by rw [HS.out, HAR.out]; unfold edA; simp only [Int.toNat_natCast]; rw [hkk, if_pos hk4])
            clear hk4 hkk HS HAR
            generalize lxN outL N (k : Int) = p at *
            generalize msU N k = ms at *
            go_upto_region 12 with (fail)
            clear y0 y1 y2 k0
            have HS0 : Hid (∀ wx : World, Below w5.heap.size w5 wx → wx.cell? ⟨w.heap.size, 0, none⟩ = some (.slice h.A N.w.length h.c) ∧ wx.cell? ⟨w.heap.size, 1, none⟩ = some (.slice h.L N.l.length h.d) ∧ wx.cell? ⟨w.heap.size, 2, none⟩ = some (.slice h.C N.c.length h.e)) := Lib.hid fun wx hx => HSX.out wx (HST.out.bel.trans (hx.mono HST.out.bel.size))
            have FB_0 := Lib.hid (Below.refl w5.heap.size w5)
            refine wp_region_held_drew (S := fun wx => wx.cell? ⟨w.heap.size, 0, none⟩ = some (.slice h.A N.w.length h.c) ∧ wx.cell? ⟨w.heap.size, 1, none⟩ = some (.slice h.L N.l.length h.d) ∧ wx.cell? ⟨w.heap.size, 2, none⟩ = some (.slice h.C N.c.length h.e)) (by kernel_rfl) (HS0.out _ (Below.refl _ _).drew) (fun hHeld => ?_)
            obtain ⟨wq1, hwq1⟩ : ∃ w', w' = w5.drew := ⟨_, rfl⟩
            rw [← hwq1] at hHeld ⊢
            have bq1 : Below w5.heap.size w5 wq1 := by rw [hwq1]; exact (Below.refl _ _).drew
            clear hwq1
            have FB_q2 := Lib.hid ((FB_0.out).trans ((bq1).mono (FB_0.out).size))
            clear FB_0
            refine wpAnyH_take (i := 0) (v := ?vq3) rfl (by kernel_rfl) (by kernel_rfl) (by kernel_rfl) (fun _ _ _ h => h) (Or.inl ⟨by rfl, ?yq3⟩) (by assumption) ?_
            case yq3 => (intro w hSw; (try dsimp only at hSw); go_simp; all_goals (with_reducible rfl))
            (try simp only [Act.put, List.setIfInBounds_toArray, List.set_cons_zero, List.set_cons_succ, List.getElem_toArray, List.getElem_cons_succ, List.getElem_cons_zero])
            refine wpAnyH_take (i := 2) (v := ?vq4) rfl (by kernel_rfl) (by kernel_rfl) (by kernel_rfl) (fun _ _ _ h => h) (Or.inl ⟨by rfl, ?yq4⟩) (by assumption) ?_
            case yq4 => (intro w hSw; (try dsimp only at hSw); go_simp; all_goals (with_reducible rfl))
            (try simp only [Act.put, List.setIfInBounds_toArray, List.set_cons_zero, List.set_cons_succ, List.getElem_toArray, List.getElem_cons_succ, List.getElem_cons_zero])
            refine wpAnyH_take (i := 3) (v := ?vq5) rfl (by kernel_rfl) (by kernel_rfl) (by kernel_rfl) (fun _ _ _ h => h) (Or.inl ⟨by rfl, ?yq5⟩) (by assumption) ?_
            case yq5 => (intro w hSw; (try dsimp only at hSw); go_simp; all_goals (with_reducible rfl))
            (try simp only [Act.put, List.setIfInBounds_toArray, List.set_cons_zero, List.set_cons_succ, List.getElem_toArray, List.getElem_cons_succ, List.getElem_cons_zero])
            refine wpAnyH_take (i := 5) (v := ?vq6) rfl (by kernel_rfl) (by kernel_rfl) (by kernel_rfl) (fun _ _ _ h => h) (Or.inl ⟨by rfl, ?yq6⟩) (by assumption) ?_
            case yq6 => (intro w hSw; (try dsimp only at hSw); go_simp; all_goals (with_reducible rfl))
            (try simp only [Act.put, List.setIfInBounds_toArray, List.set_cons_zero, List.set_cons_succ, List.getElem_toArray, List.getElem_cons_succ, List.getElem_cons_zero])
            refine wpAnyH_take (i := 6) (v := ?vq7) rfl (by kernel_rfl) (by kernel_rfl) (by kernel_rfl) (fun _ _ _ h => h) (Or.inl ⟨by rfl, ?yq7⟩) (by assumption) ?_
            case yq7 => (intro w hSw; (try dsimp only at hSw); go_simp; all_goals (with_reducible rfl))
            (try simp only [Act.put, List.setIfInBounds_toArray, List.set_cons_zero, List.set_cons_succ, List.getElem_toArray, List.getElem_cons_succ, List.getElem_cons_zero])
            refine wpAnyH_ready (rs := [1, 4]) (by kernel_rfl) (by simp) ?_
            refine AllReadyH.cons rfl (fun K hK => ?_) ?_
            · have hx9 := (twE_cells (HST.out.below FB_q2.out).box).2
              (try dsimp only at hx9)
              go_simp
              clear hx9
              refine hK.out _ _ (hHeld) (fun hHeld => ?_)
              clear hK K
              (try simp only [Act.put, List.setIfInBounds_toArray, List.set_cons_zero, List.set_cons_succ, List.getElem_toArray, List.getElem_cons_succ, List.getElem_cons_zero])
              refine wpAnyH_ready (rs := [4]) (by kernel_rfl) (by simp) ?_
              refine AllReadyH.cons rfl (fun K hK => ?_) ?_
              · go_simp
                refine (HF0.out _ FB_q2.out).mono ?_
                rintro e wq8 ⟨rfl, belq8⟩
                dsimp only
                have FB_q9 := Lib.hid ((FB_q2.out).trans ((belq8).mono (FB_q2.out).size))
                clear FB_q2
                clear belq8
                refine hK.out _ _ (HS0.out _ FB_q9.out) (fun hHeld => ?_)
                clear hK K
                (try simp only [Act.put, List.setIfInBounds_toArray, List.set_cons_zero, List.set_cons_succ, List.getElem_toArray, List.getElem_cons_succ, List.getElem_cons_zero])
                refine wpAnyH_take (i := 7) (v := ?vq10) rfl (by kernel_rfl) (by kernel_rfl) (by kernel_rfl) (fun _ _ _ h => h) (Or.inl ⟨by rfl, ?yq10⟩) (by assumption) ?_
                case yq10 => (intro w hSw; (try dsimp only at hSw); go_simp; all_goals (with_reducible rfl))
                (try simp only [Act.put, List.setIfInBounds_toArray, List.set_cons_zero, List.set_cons_succ, List.getElem_toArray, List.getElem_cons_succ, List.getElem_cons_zero])
                refine wpAnyH_ready (rs := [8]) (by kernel_rfl) (by simp) ?_
                refine AllReadyH.cons rfl (fun K hK => ?_) ?_
                · go_simp
                  obtain ⟨wq11, hwq11⟩ : ∃ w', w' = wq8.alloc (.cells #[.int .i64 p, .int .i64 qn, .int .i64 qn] 52) := ⟨_, rfl⟩
                  rw [← hwq11]
                  have bq11 : Below wq8.heap.size wq8 wq11 := by rw [hwq11]; exact (Below.refl _ _).alloc (Nat.le_refl _) _
                  have hn9 := thE_new wq8 (.int .i64 p) (.int .i64 qn) (.int .i64 qn) 52
                  rw [← hwq11] at hn9
                  have HNW := Lib.hid hn9
                  clear hwq11 hn9
                  have FB_q12 := Lib.hid ((FB_q9.out).trans ((bq11).mono (FB_q9.out).size))
                  clear FB_q9
                  clear bq11
                  refine hK.out _ _ (HS0.out _ FB_q12.out) (fun hHeld => ?_)
                  clear hK K
                  (try simp only [Act.put, List.setIfInBounds_toArray, List.set_cons_zero, List.set_cons_succ, List.getElem_toArray, List.getElem_cons_succ, List.getElem_cons_zero])
                  refine wpAnyH_ready (rs := [9]) (by kernel_rfl) (by simp) ?_
                  refine AllReadyH.cons rfl (fun K hK => ?_) ?_
                  · have OW := (HST.out.below FB_q12.out).own
                    have hlt9 := (HST.out.below FB_q12.out).lt
                    have hle9 := HLEN.out
                    (try dsimp only at OW)
                    refine stepE rfl _ _ 28 rfl (w3.heap.size + 1) 52 i3 (.agg #[.int .i64 0, .int .i64 0, .int .i64 0]) 3 24 Tryd.underlying28 HI.out HZ0.out HZ1.out HZ2.out rfl (by decide) _ _ _ rfl OW ⟨wq8.heap.size, 0, none⟩ 1 1 [.int .i64 p, .int .i64 qn, .int .i64 qn] rfl rfl HNW.out (by intro u hu; simp at hu; rcases hu with rfl | rfl | rfl <;> rfl) (by simp only [maxLen]; omega) (by omega) (by omega) ?_
                    intro v9 w9 own9 gr9
                    obtain ⟨A9, c9, rfl, hbx9, hbl9, hst9⟩ := (HST.out.below FB_q12.out).grown (x := ⟨p, qn, qn⟩) own9 gr9
                    have HBX9 := Lib.hid hbx9; have HBL9 := Lib.hid hbl9; have HST9 := Lib.hid hst9
                    clear hbx9 hbl9 hst9 own9 gr9 OW hlt9 hle9
                    refine hK.out _ _ (HSX.out _ HBL9.out) (fun hHeld => ?_)
                    clear hK K
                    (try simp only [Act.put, List.setIfInBounds_toArray, List.set_cons_zero, List.set_cons_succ, List.getElem_toArray, List.getElem_cons_succ, List.getElem_cons_zero])
                    refine wpAnyH_take (i := 10) (v := ?vq13) rfl (by kernel_rfl) (by kernel_rfl) (by kernel_rfl) (fun _ _ _ h => h) (Or.inl ⟨by rfl, ?yq13⟩) (by assumption) ?_
                    case yq13 => (intro w hSw; (try dsimp only at hSw); go_simp; all_goals (with_reducible rfl))
                    (try simp only [Act.put, List.setIfInBounds_toArray, List.set_cons_zero, List.set_cons_succ, List.getElem_toArray, List.getElem_cons_succ, List.getElem_cons_zero])
                    refine wpAnyH_ready (rs := [11]) (by kernel_rfl) (by simp) ?_
                    refine AllReadyH.cons rfl (fun K hK => ?_) ?_
                    · obtain ⟨a0, a1⟩ := twE_cells HBX9.out
                      have f1 := frozen_of_row _ _ 1 _ _ HBX9.out
                      (try dsimp only at a0 a1)
                      go_simp
                      clear a0 a1 f1
                      refine hK.out _ _ (HSX.out _ HST9.out.bel) (fun hHeld => ?_)
                      clear hK K
                      (try simp only [Act.put, List.setIfInBounds_toArray, List.set_cons_zero, List.set_cons_succ, List.getElem_toArray, List.getElem_cons_succ, List.getElem_cons_zero])
                      refine wpAnyH_done (by kernel_rfl) ?_ _
                      have HST10 : Hid (GrSt w3 (w9.setCell ⟨w3.heap.size, 1, none⟩ (.slice A9 (ms.length + 1) c9)) ⟨A9, c9⟩ ⟨N.l.length, msU N (k + 1)⟩) := Lib.hid (by rw [HEX.out]; exact HST9.out)
                      go_wp2
                      go_roundw
                      case rel => exact ⟨k + 1, ⟨A9, c9⟩, by omega, by go_num, HST10.out⟩
                      case measure => simp [intOf]; omega
                    exact AllReadyH.nil
                  exact AllReadyH.nil
                exact AllReadyH.nil
              exact AllReadyH.nil
            refine AllReadyH.cons rfl (fun K hK => ?_) ?_
            · go_simp
              refine (HF0.out _ FB_q2.out).mono ?_
              rintro e wq14 ⟨rfl, belq14⟩
              dsimp only
              have FB_q15 := Lib.hid ((FB_q2.out).trans ((belq14).mono (FB_q2.out).size))
              clear FB_q2
              clear belq14
              refine hK.out _ _ (HS0.out _ FB_q15.out) (fun hHeld => ?_)
              clear hK K
              (try simp only [Act.put, List.setIfInBounds_toArray, List.set_cons_zero, List.set_cons_succ, List.getElem_toArray, List.getElem_cons_succ, List.getElem_cons_zero])
              refine wpAnyH_take (i := 7) (v := ?vq16) rfl (by kernel_rfl) (by kernel_rfl) (by kernel_rfl) (fun _ _ _ h => h) (Or.inl ⟨by rfl, ?yq16⟩) (by assumption) ?_
              case yq16 => (intro w hSw; (try dsimp only at hSw); go_simp; all_goals (with_reducible rfl))
              (try simp only [Act.put, List.setIfInBounds_toArray, List.set_cons_zero, List.set_cons_succ, List.getElem_toArray, List.getElem_cons_succ, List.getElem_cons_zero])
              refine wpAnyH_ready (rs := [1, 8]) (by kernel_rfl) (by simp) ?_
              refine AllReadyH.cons rfl (fun K hK => ?_) ?_
              · have hx9 := (twE_cells (HST.out.below FB_q15.out).box).2
                (try dsimp only at hx9)
                go_simp
                clear hx9
                refine hK.out _ _ (hHeld) (fun hHeld => ?_)
                clear hK K
                (try simp only [Act.put, List.setIfInBounds_toArray, List.set_cons_zero, List.set_cons_succ, List.getElem_toArray, List.getElem_cons_succ, List.getElem_cons_zero])
                refine wpAnyH_ready (rs := [8]) (by kernel_rfl) (by simp) ?_
                refine AllReadyH.cons rfl (fun K hK => ?_) ?_
                · go_simp
                  obtain ⟨wq17, hwq17⟩ : ∃ w', w' = wq14.alloc (.cells #[.int .i64 p, .int .i64 qn, .int .i64 qn] 52) := ⟨_, rfl⟩
                  rw [← hwq17]
                  have bq17 : Below wq14.heap.size wq14 wq17 := by rw [hwq17]; exact (Below.refl _ _).alloc (Nat.le_refl _) _
                  have hn9 := thE_new wq14 (.int .i64 p) (.int .i64 qn) (.int .i64 qn) 52
                  rw [← hwq17] at hn9
                  have HNW := Lib.hid hn9
                  clear hwq17 hn9
                  have FB_q18 := Lib.hid ((FB_q15.out).trans ((bq17).mono (FB_q15.out).size))
                  clear FB_q15
                  clear bq17
                  refine hK.out _ _ (HS0.out _ FB_q18.out) (fun hHeld => ?_)
                  clear hK K
                  (try simp only [Act.put, List.setIfInBounds_toArray, List.set_cons_zero, List.set_cons_succ, List.getElem_toArray, List.getElem_cons_succ, List.getElem_cons_zero])
                  refine wpAnyH_ready (rs := [9]) (by kernel_rfl) (by simp) ?_
                  refine AllReadyH.cons rfl (fun K hK => ?_) ?_
                  · have OW := (HST.out.below FB_q18.out).own
                    have hlt9 := (HST.out.below FB_q18.out).lt
                    have hle9 := HLEN.out
                    (try dsimp only at OW)
                    refine stepE rfl _ _ 28 rfl (w3.heap.size + 1) 52 i3 (.agg #[.int .i64 0, .int .i64 0, .int .i64 0]) 3 24 Tryd.underlying28 HI.out HZ0.out HZ1.out HZ2.out rfl (by decide) _ _ _ rfl OW ⟨wq14.heap.size, 0, none⟩ 1 1 [.int .i64 p, .int .i64 qn, .int .i64 qn] rfl rfl HNW.out (by intro u hu; simp at hu; rcases hu with rfl | rfl | rfl <;> rfl) (by simp only [maxLen]; omega) (by omega) (by omega) ?_
                    intro v9 w9 own9 gr9
                    obtain ⟨A9, c9, rfl, hbx9, hbl9, hst9⟩ := (HST.out.below FB_q18.out).grown (x := ⟨p, qn, qn⟩) own9 gr9
                    have HBX9 := Lib.hid hbx9; have HBL9 := Lib.hid hbl9; have HST9 := Lib.hid hst9
                    clear hbx9 hbl9 hst9 own9 gr9 OW hlt9 hle9
                    refine hK.out _ _ (HSX.out _ HBL9.out) (fun hHeld => ?_)
                    clear hK K
                    (try simp only [Act.put, List.setIfInBounds_toArray, List.set_cons_zero, List.set_cons_succ, List.getElem_toArray, List.getElem_cons_succ, List.getElem_cons_zero])
                    refine wpAnyH_take (i := 10) (v := ?vq19) rfl (by kernel_rfl) (by kernel_rfl) (by kernel_rfl) (fun _ _ _ h => h) (Or.inl ⟨by rfl, ?yq19⟩) (by assumption) ?_
                    case yq19 => (intro w hSw; (try dsimp only at hSw); go_simp; all_goals (with_reducible rfl))
                    (try simp only [Act.put, List.setIfInBounds_toArray, List.set_cons_zero, List.set_cons_succ, List.getElem_toArray, List.getElem_cons_succ, List.getElem_cons_zero])
                    refine wpAnyH_ready (rs := [11]) (by kernel_rfl) (by simp) ?_
                    refine AllReadyH.cons rfl (fun K hK => ?_) ?_
                    · obtain ⟨a0, a1⟩ := twE_cells HBX9.out
                      have f1 := frozen_of_row _ _ 1 _ _ HBX9.out
                      (try dsimp only at a0 a1)
                      go_simp
                      clear a0 a1 f1
                      refine hK.out _ _ (HSX.out _ HST9.out.bel) (fun hHeld => ?_)
                      clear hK K
                      (try simp only [Act.put, List.setIfInBounds_toArray, List.set_cons_zero, List.set_cons_succ, List.getElem_toArray, List.getElem_cons_succ, List.getElem_cons_zero])
                      refine wpAnyH_done (by kernel_rfl) ?_ _
                      have HST10 : Hid (GrSt w3 (w9.setCell ⟨w3.heap.size, 1, none⟩ (.slice A9 (ms.length + 1) c9)) ⟨A9, c9⟩ ⟨N.l.length, msU N (k + 1)⟩) := Lib.hid (by rw [HEX.out]; exact HST9.out)
                      go_wp2
                      go_roundw
                      case rel => exact ⟨k + 1, ⟨A9, c9⟩, by omega, by go_num, HST10.out⟩
                      case measure => simp [intOf]; omega
                    exact AllReadyH.nil
                  exact AllReadyH.nil
                exact AllReadyH.nil
              refine AllReadyH.cons rfl (fun K hK => ?_) ?_
              · go_simp
                obtain ⟨wq20, hwq20⟩ : ∃ w', w' = wq14.alloc (.cells #[.int .i64 p, .int .i64 qn, .int .i64 qn] 52) := ⟨_, rfl⟩
                rw [← hwq20]
                have bq20 : Below wq14.heap.size wq14 wq20 := by rw [hwq20]; exact (Below.refl _ _).alloc (Nat.le_refl _) _
                have hn9 := thE_new wq14 (.int .i64 p) (.int .i64 qn) (.int .i64 qn) 52
                rw [← hwq20] at hn9
                have HNW := Lib.hid hn9
                clear hwq20 hn9
                have FB_q21 := Lib.hid ((FB_q15.out).trans ((bq20).mono (FB_q15.out).size))
                clear FB_q15
                clear bq20
                refine hK.out _ _ (HS0.out _ FB_q21.out) (fun hHeld => ?_)
                clear hK K
                (try simp only [Act.put, List.setIfInBounds_toArray, List.set_cons_zero, List.set_cons_succ, List.getElem_toArray, List.getElem_cons_succ, List.getElem_cons_zero])
                refine wpAnyH_ready (rs := [1]) (by kernel_rfl) (by simp) ?_
                refine AllReadyH.cons rfl (fun K hK => ?_) ?_
                · have hx9 := (twE_cells (HST.out.below FB_q21.out).box).2
                  (try dsimp only at hx9)
                  go_simp
                  clear hx9
                  refine hK.out _ _ (hHeld) (fun hHeld => ?_)
                  clear hK K
                  (try simp only [Act.put, List.setIfInBounds_toArray, List.set_cons_zero, List.set_cons_succ, List.getElem_toArray, List.getElem_cons_succ, List.getElem_cons_zero])
                  refine wpAnyH_ready (rs := [9]) (by kernel_rfl) (by simp) ?_
                  refine AllReadyH.cons rfl (fun K hK => ?_) ?_
                  · have OW := (HST.out.below FB_q21.out).own
                    have hlt9 := (HST.out.below FB_q21.out).lt
                    have hle9 := HLEN.out
                    (try dsimp only at OW)
                    refine stepE rfl _ _ 28 rfl (w3.heap.size + 1) 52 i3 (.agg #[.int .i64 0, .int .i64 0, .int .i64 0]) 3 24 Tryd.underlying28 HI.out HZ0.out HZ1.out HZ2.out rfl (by decide) _ _ _ rfl OW ⟨wq14.heap.size, 0, none⟩ 1 1 [.int .i64 p, .int .i64 qn, .int .i64 qn] rfl rfl HNW.out (by intro u hu; simp at hu; rcases hu with rfl | rfl | rfl <;> rfl) (by simp only [maxLen]; omega) (by omega) (by omega) ?_
                    intro v9 w9 own9 gr9
                    obtain ⟨A9, c9, rfl, hbx9, hbl9, hst9⟩ := (HST.out.below FB_q21.out).grown (x := ⟨p, qn, qn⟩) own9 gr9
                    have HBX9 := Lib.hid hbx9; have HBL9 := Lib.hid hbl9; have HST9 := Lib.hid hst9
                    clear hbx9 hbl9 hst9 own9 gr9 OW hlt9 hle9
                    refine hK.out _ _ (HSX.out _ HBL9.out) (fun hHeld => ?_)
                    clear hK K
                    (try simp only [Act.put, List.setIfInBounds_toArray, List.set_cons_zero, List.set_cons_succ, List.getElem_toArray, List.getElem_cons_succ, List.getElem_cons_zero])
                    refine wpAnyH_take (i := 10) (v := ?vq22) rfl (by kernel_rfl) (by kernel_rfl) (by kernel_rfl) (fun _ _ _ h => h) (Or.inl ⟨by rfl, ?yq22⟩) (by assumption) ?_
                    case yq22 => (intro w hSw; (try dsimp only at hSw); go_simp; all_goals (with_reducible rfl))
                    (try simp only [Act.put, List.setIfInBounds_toArray, List.set_cons_zero, List.set_cons_succ, List.getElem_toArray, List.getElem_cons_succ, List.getElem_cons_zero])
                    refine wpAnyH_ready (rs := [11]) (by kernel_rfl) (by simp) ?_
                    refine AllReadyH.cons rfl (fun K hK => ?_) ?_
                    · obtain ⟨a0, a1⟩ := twE_cells HBX9.out
                      have f1 := frozen_of_row _ _ 1 _ _ HBX9.out
                      (try dsimp only at a0 a1)
                      go_simp
                      clear a0 a1 f1
                      refine hK.out _ _ (HSX.out _ HST9.out.bel) (fun hHeld => ?_)
                      clear hK K
                      (try simp only [Act.put, List.setIfInBounds_toArray, List.set_cons_zero, List.set_cons_succ, List.getElem_toArray, List.getElem_cons_succ, List.getElem_cons_zero])
                      refine wpAnyH_done (by kernel_rfl) ?_ _
                      have HST10 : Hid (GrSt w3 (w9.setCell ⟨w3.heap.size, 1, none⟩ (.slice A9 (ms.length + 1) c9)) ⟨A9, c9⟩ ⟨N.l.length, msU N (k + 1)⟩) := Lib.hid (by rw [HEX.out]; exact HST9.out)
                      go_wp2
                      go_roundw
                      case rel => exact ⟨k + 1, ⟨A9, c9⟩, by omega, by go_num, HST10.out⟩
                      case measure => simp [intOf]; omega
                    exact AllReadyH.nil
                  exact AllReadyH.nil
                exact AllReadyH.nil
              exact AllReadyH.nil
            exact AllReadyH.nil
          · have hd4 : (kk == 4) = false := by simpa using hk4
            have HEX : Hid (msU N (k + 1) = msU N k ++ [⟨lxN outL N (k : Int), qn, -1⟩]) := Lib.hid (by rw [HS.out, HAR.out]; unfold edA; simp only [Int.toNat_natCast]; rw [hkk, if_neg hk4])
            clear hk4 hkk HS HAR
            generalize lxN outL N (k : Int) = p at *
            generalize msU N k = ms at *
            go_upto_region 12 with (fail)
            clear y0 y1 y2 k0
            have HS0 : Hid (∀ wx : World, Below w5.heap.size w5 wx → wx.cell? ⟨w.heap.size, 0, none⟩ = some (.slice h.A N.w.length h.c) ∧ wx.cell? ⟨w.heap.size, 1, none⟩ = some (.slice h.L N.l.length h.d) ∧ wx.cell? ⟨w.heap.size, 2, none⟩ = some (.slice h.C N.c.length h.e)) := Lib.hid fun wx hx => HSX.out wx (HST.out.bel.trans (hx.mono HST.out.bel.size))
            have FB_0 := Lib.hid (Below.refl w5.heap.size w5)
            refine wp_region_held_drew (S := fun wx => wx.cell? ⟨w.heap.size, 0, none⟩ = some (.slice h.A N.w.length h.c) ∧ wx.cell? ⟨w.heap.size, 1, none⟩ = some (.slice h.L N.l.length h.d) ∧ wx.cell? ⟨w.heap.size, 2, none⟩ = some (.slice h.C N.c.length h.e)) (by kernel_rfl) (HS0.out _ (Below.refl _ _).drew) (fun hHeld => ?_)
            obtain ⟨ws1, hws1⟩ : ∃ w', w' = w5.drew := ⟨_, rfl⟩
            rw [← hws1] at hHeld ⊢
            have bs1 : Below w5.heap.size w5 ws1 := by rw [hws1]; exact (Below.refl _ _).drew
            clear hws1
            have FB_s2 := Lib.hid ((FB_0.out).trans ((bs1).mono (FB_0.out).size))
            clear FB_0
            refine wpAnyH_take (i := 0) (v := ?vs3) rfl (by kernel_rfl) (by kernel_rfl) (by kernel_rfl) (fun _ _ _ h => h) (Or.inl ⟨by rfl, ?ys3⟩) (by assumption) ?_
            case ys3 => (intro w hSw; (try dsimp only at hSw); go_simp; all_goals (with_reducible rfl))
            (try simp only [Act.put, List.setIfInBounds_toArray, List.set_cons_zero, List.set_cons_succ, List.getElem_toArray, List.getElem_cons_succ, List.getElem_cons_zero])
            refine wpAnyH_take (i := 2) (v := ?vs4) rfl (by kernel_rfl) (by kernel_rfl) (by kernel_rfl) (fun _ _ _ h => h) (Or.inl ⟨by rfl, ?ys4⟩) (by assumption) ?_
            case ys4 => (intro w hSw; (try dsimp only at hSw); go_simp; all_goals (with_reducible rfl))
            (try simp only [Act.put, List.setIfInBounds_toArray, List.set_cons_zero, List.set_cons_succ, List.getElem_toArray, List.getElem_cons_succ, List.getElem_cons_zero])
            refine wpAnyH_take (i := 3) (v := ?vs5) rfl (by kernel_rfl) (by kernel_rfl) (by kernel_rfl) (fun _ _ _ h => h) (Or.inl ⟨by rfl, ?ys5⟩) (by assumption) ?_
            case ys5 => (intro w hSw; (try dsimp only at hSw); go_simp; all_goals (with_reducible rfl))
            (try simp only [Act.put, List.setIfInBounds_toArray, List.set_cons_zero, List.set_cons_succ, List.getElem_toArray, List.getElem_cons_succ, List.getElem_cons_zero])
            refine wpAnyH_take (i := 5) (v := ?vs6) rfl (by kernel_rfl) (by kernel_rfl) (by kernel_rfl) (fun _ _ _ h => h) (Or.inl ⟨by rfl, ?ys6⟩) (by assumption) ?_
            case ys6 => (intro w hSw; (try dsimp only at hSw); go_simp; all_goals (with_reducible rfl))
            (try simp only [Act.put, List.setIfInBounds_toArray, List.set_cons_zero, List.set_cons_succ, List.getElem_toArray, List.getElem_cons_succ, List.getElem_cons_zero])
            refine wpAnyH_take (i := 6) (v := ?vs7) rfl (by kernel_rfl) (by kernel_rfl) (by kernel_rfl) (fun _ _ _ h => h) (Or.inl ⟨by rfl, ?ys7⟩) (by assumption) ?_
            case ys7 => (intro w hSw; (try dsimp only at hSw); go_simp; all_goals (with_reducible rfl))
            (try simp only [Act.put, List.setIfInBounds_toArray, List.set_cons_zero, List.set_cons_succ, List.getElem_toArray, List.getElem_cons_succ, List.getElem_cons_zero])
            refine wpAnyH_ready (rs := [1, 4]) (by kernel_rfl) (by simp) ?_
            refine AllReadyH.cons rfl (fun K hK => ?_) ?_
            · have hx9 := (twE_cells (HST.out.below FB_s2.out).box).2
              (try dsimp only at hx9)
              go_simp
              clear hx9
              refine hK.out _ _ (hHeld) (fun hHeld => ?_)
              clear hK K
              (try simp only [Act.put, List.setIfInBounds_toArray, List.set_cons_zero, List.set_cons_succ, List.getElem_toArray, List.getElem_cons_succ, List.getElem_cons_zero])
              refine wpAnyH_ready (rs := [4]) (by kernel_rfl) (by simp) ?_
              refine AllReadyH.cons rfl (fun K hK => ?_) ?_
              · go_simp
                refine (HF0.out _ FB_s2.out).mono ?_
                rintro e ws8 ⟨rfl, bels8⟩
                dsimp only
                have FB_s9 := Lib.hid ((FB_s2.out).trans ((bels8).mono (FB_s2.out).size))
                clear FB_s2
                clear bels8
                refine hK.out _ _ (HS0.out _ FB_s9.out) (fun hHeld => ?_)
                clear hK K
                (try simp only [Act.put, List.setIfInBounds_toArray, List.set_cons_zero, List.set_cons_succ, List.getElem_toArray, List.getElem_cons_succ, List.getElem_cons_zero])
                refine wpAnyH_take (i := 7) (v := ?vs10) rfl (by kernel_rfl) (by kernel_rfl) (by kernel_rfl) (fun _ _ _ h => h) (Or.inl ⟨by rfl, ?ys10⟩) (by assumption) ?_
                case ys10 => (intro w hSw; (try dsimp only at hSw); go_simp; all_goals (with_reducible rfl))
                (try simp only [Act.put, List.setIfInBounds_toArray, List.set_cons_zero, List.set_cons_succ, List.getElem_toArray, List.getElem_cons_succ, List.getElem_cons_zero])
                refine wpAnyH_ready (rs := [8]) (by kernel_rfl) (by simp) ?_
                refine AllReadyH.cons rfl (fun K hK => ?_) ?_
                · go_simp
                  obtain ⟨ws11, hws11⟩ : ∃ w', w' = ws8.alloc (.cells #[.int .i64 p, .int .i64 qn, .int .i64 (-1)] 52) := ⟨_, rfl⟩
                  rw [← hws11]
                  have bs11 : Below ws8.heap.size ws8 ws11 := by rw [hws11]; exact (Below.refl _ _).alloc (Nat.le_refl _) _
                  have hn9 := thE_new ws8 (.int .i64 p) (.int .i64 qn) (.int .i64 (-1)) 52
                  rw [← hws11] at hn9
                  have HNW := Lib.hid hn9
                  clear hws11 hn9
                  have FB_s12 := Lib.hid ((FB_s9.out).trans ((bs11).mono (FB_s9.out).size))
                  clear FB_s9
                  clear bs11
                  refine hK.out _ _ (HS0.out _ FB_s12.out) (fun hHeld => ?_)
                  clear hK K
                  (try simp only [Act.put, List.setIfInBounds_toArray, List.set_cons_zero, List.set_cons_succ, List.getElem_toArray, List.getElem_cons_succ, List.getElem_cons_zero])
                  refine wpAnyH_ready (rs := [9]) (by kernel_rfl) (by simp) ?_
                  refine AllReadyH.cons rfl (fun K hK => ?_) ?_
                  · have OW := (HST.out.below FB_s12.out).own
                    have hlt9 := (HST.out.below FB_s12.out).lt
                    have hle9 := HLEN.out
                    (try dsimp only at OW)
                    refine stepE rfl _ _ 28 rfl (w3.heap.size + 1) 52 i3 (.agg #[.int .i64 0, .int .i64 0, .int .i64 0]) 3 24 Tryd.underlying28 HI.out HZ0.out HZ1.out HZ2.out rfl (by decide) _ _ _ rfl OW ⟨ws8.heap.size, 0, none⟩ 1 1 [.int .i64 p, .int .i64 qn, .int .i64 (-1)] rfl rfl HNW.out (by intro u hu; simp at hu; rcases hu with rfl | rfl | rfl <;> rfl) (by simp only [maxLen]; omega) (by omega) (by omega) ?_
                    intro v9 w9 own9 gr9
                    obtain ⟨A9, c9, rfl, hbx9, hbl9, hst9⟩ := (HST.out.below FB_s12.out).grown (x := ⟨p, qn, (-1)⟩) own9 gr9
                    have HBX9 := Lib.hid hbx9; have HBL9 := Lib.hid hbl9; have HST9 := Lib.hid hst9
                    clear hbx9 hbl9 hst9 own9 gr9 OW hlt9 hle9
                    refine hK.out _ _ (HSX.out _ HBL9.out) (fun hHeld => ?_)
                    clear hK K
                    (try simp only [Act.put, List.setIfInBounds_toArray, List.set_cons_zero, List.set_cons_succ, List.getElem_toArray, List.getElem_cons_succ, List.getElem_cons_zero])
                    refine wpAnyH_take (i := 10) (v := ?vs13) rfl (by kernel_rfl) (by kernel_rfl) (by kernel_rfl) (fun _ _ _ h => h) (Or.inl ⟨by rfl, ?ys13⟩) (by assumption) ?_
                    case ys13 => (intro w hSw; (try dsimp only at hSw); go_simp; all_goals (with_reducible rfl))
                    (try simp only [Act.put, List.setIfInBounds_toArray, List.set_cons_zero, List.set_cons_succ, List.getElem_toArray, List.getElem_cons_succ, List.getElem_cons_zero])
                    refine wpAnyH_ready (rs := [11]) (by kernel_rfl) (by simp) ?_
                    refine AllReadyH.cons rfl (fun K hK => ?_) ?_
                    · obtain ⟨a0, a1⟩ := twE_cells HBX9.out
                      have f1 := frozen_of_row _ _ 1 _ _ HBX9.out
                      (try dsimp only at a0 a1)
                      go_simp
                      clear a0 a1 f1
                      refine hK.out _ _ (HSX.out _ HST9.out.bel) (fun hHeld => ?_)
                      clear hK K
                      (try simp only [Act.put, List.setIfInBounds_toArray, List.set_cons_zero, List.set_cons_succ, List.getElem_toArray, List.getElem_cons_succ, List.getElem_cons_zero])
                      refine wpAnyH_done (by kernel_rfl) ?_ _
                      have HST10 : Hid (GrSt w3 (w9.setCell ⟨w3.heap.size, 1, none⟩ (.slice A9 (ms.length + 1) c9)) ⟨A9, c9⟩ ⟨N.l.length, msU N (k + 1)⟩) := Lib.hid (by rw [HEX.out]; exact HST9.out)
                      go_wp2
                      go_roundw
                      case rel => exact ⟨k + 1, ⟨A9, c9⟩, by omega, by go_num, HST10.out⟩
                      case measure => simp [intOf]; omega
                    exact AllReadyH.nil
                  exact AllReadyH.nil
                exact AllReadyH.nil
              exact AllReadyH.nil
            refine AllReadyH.cons rfl (fun K hK => ?_) ?_
            · go_simp
              refine (HF0.out _ FB_s2.out).mono ?_
              rintro e ws14 ⟨rfl, bels14⟩
              dsimp only
              have FB_s15 := Lib.hid ((FB_s2.out).trans ((bels14).mono (FB_s2.out).size))
              clear FB_s2
              clear bels14
              refine hK.out _ _ (HS0.out _ FB_s15.out) (fun hHeld => ?_)
              clear hK K
              (try simp only [Act.put, List.setIfInBounds_toArray, List.set_cons_zero, List.set_cons_succ, List.getElem_toArray, List.getElem_cons_succ, List.getElem_cons_zero])
              refine wpAnyH_take (i := 7) (v := ?vs16) rfl (by kernel_rfl) (by kernel_rfl) (by kernel_rfl) (fun _ _ _ h => h) (Or.inl ⟨by rfl, ?ys16⟩) (by assumption) ?_
              case ys16 => (intro w hSw; (try dsimp only at hSw); go_simp; all_goals (with_reducible rfl))
              (try simp only [Act.put, List.setIfInBounds_toArray, List.set_cons_zero, List.set_cons_succ, List.getElem_toArray, List.getElem_cons_succ, List.getElem_cons_zero])
              refine wpAnyH_ready (rs := [1, 8]) (by kernel_rfl) (by simp) ?_
              refine AllReadyH.cons rfl (fun K hK => ?_) ?_
              · have hx9 := (twE_cells (HST.out.below FB_s15.out).box).2
                (try dsimp only at hx9)
                go_simp
                clear hx9
                refine hK.out _ _ (hHeld) (fun hHeld => ?_)
                clear hK K
                (try simp only [Act.put, List.setIfInBounds_toArray, List.set_cons_zero, List.set_cons_succ, List.getElem_toArray, List.getElem_cons_succ, List.getElem_cons_zero])
                refine wpAnyH_ready (rs := [8]) (by kernel_rfl) (by simp) ?_
                refine AllReadyH.cons rfl (fun K hK => ?_) ?_
                · go_simp
                  obtain ⟨ws17, hws17⟩ : ∃ w', w' = ws14.alloc (.cells #[.int .i64 p, .int .i64 qn, .int .i64 (-1)] 52) := ⟨_, rfl⟩
                  rw [← hws17]
                  have bs17 : Below ws14.heap.size ws14 ws17 := by rw [hws17]; exact (Below.refl _ _).alloc (Nat.le_refl _) _
                  have hn9 := thE_new ws14 (.int .i64 p) (.int .i64 qn) (.int .i64 (-1)) 52
                  rw [← hws17] at hn9
                  have HNW := Lib.hid hn9
                  clear hws17 hn9
                  have FB_s18 := Lib.hid ((FB_s15.out).trans ((bs17).mono (FB_s15.out).size))
                  clear FB_s15
                  clear bs17
                  refine hK.out _ _ (HS0.out _ FB_s18.out) (fun hHeld => ?_)
                  clear hK K
                  (try simp only [Act.put, List.setIfInBounds_toArray, List.set_cons_zero, List.set_cons_succ, List.getElem_toArray, List.getElem_cons_succ, List.getElem_cons_zero])
                  refine wpAnyH_ready (rs := [9]) (by kernel_rfl) (by simp) ?_
                  refine AllReadyH.cons rfl (fun K hK => ?_) ?_
                  · have OW := (HST.out.below FB_s18.out).own
                    have hlt9 := (HST.out.below FB_s18.out).lt
                    have hle9 := HLEN.out
                    (try dsimp only at OW)
                    refine stepE rfl _ _ 28 rfl (w3.heap.size + 1) 52 i3 (.agg #[.int .i64 0, .int .i64 0, .int .i64 0]) 3 24 Tryd.underlying28 HI.out HZ0.out HZ1.out HZ2.out rfl (by decide) _ _ _ rfl OW ⟨ws14.heap.size, 0, none⟩ 1 1 [.int .i64 p, .int .i64 qn, .int .i64 (-1)] rfl rfl HNW.out (by intro u hu; simp at hu; rcases hu with rfl | rfl | rfl <;> rfl) (by simp only [maxLen]; omega) (by omega) (by omega) ?_
                    intro v9 w9 own9 gr9
                    obtain ⟨A9, c9, rfl, hbx9, hbl9, hst9⟩ := (HST.out.below FB_s18.out).grown (x := ⟨p, qn, (-1)⟩) own9 gr9
                    have HBX9 := Lib.hid hbx9; have HBL9 := Lib.hid hbl9; have HST9 := Lib.hid hst9
                    clear hbx9 hbl9 hst9 own9 gr9 OW hlt9 hle9
                    refine hK.out _ _ (HSX.out _ HBL9.out) (fun hHeld => ?_)
                    clear hK K
                    (try simp only [Act.put, List.setIfInBounds_toArray, List.set_cons_zero, List.set_cons_succ, List.getElem_toArray, List.getElem_cons_succ, List.getElem_cons_zero])
                    refine wpAnyH_take (i := 10) (v := ?vs19) rfl (by kernel_rfl) (by kernel_rfl) (by kernel_rfl) (fun _ _ _ h => h) (Or.inl ⟨by rfl, ?ys19⟩) (by assumption) ?_
                    case ys19 => (intro w hSw; (try dsimp only at hSw); go_simp; all_goals (with_reducible rfl))
                    (try simp only [Act.put, List.setIfInBounds_toArray, List.set_cons_zero, List.set_cons_succ, List.getElem_toArray, List.getElem_cons_succ, List.getElem_cons_zero])
                    refine wpAnyH_ready (rs := [11]) (by kernel_rfl) (by simp) ?_
                    refine AllReadyH.cons rfl (fun K hK => ?_) ?_
                    · obtain ⟨a0, a1⟩ := twE_cells HBX9.out
                      have f1 := frozen_of_row _ _ 1 _ _ HBX9.out
                      (try dsimp only at a0 a1)
                      go_simp
                      clear a0 a1 f1
                      refine hK.out _ _ (HSX.out _ HST9.out.bel) (fun hHeld => ?_)
                      clear hK K
                      (try simp only [Act.put, List.setIfInBounds_toArray, List.set_cons_zero, List.set_cons_succ, List.getElem_toArray, List.getElem_cons_succ, List.getElem_cons_zero])
                      refine wpAnyH_done (by kernel_rfl) ?_ _
                      have HST10 : Hid (GrSt w3 (w9.setCell ⟨w3.heap.size, 1, none⟩ (.slice A9 (ms.length + 1) c9)) ⟨A9, c9⟩ ⟨N.l.length, msU N (k + 1)⟩) := Lib.hid (by rw [HEX.out]; exact HST9.out)
                      go_wp2
                      go_roundw
                      case rel => exact ⟨k + 1, ⟨A9, c9⟩, by omega, by go_num, HST10.out⟩
                      case measure => simp [intOf]; omega
                    exact AllReadyH.nil
                  exact AllReadyH.nil
                exact AllReadyH.nil
              refine AllReadyH.cons rfl (fun K hK => ?_) ?_
              · go_simp
                obtain ⟨ws20, hws20⟩ : ∃ w', w' = ws14.alloc (.cells #[.int .i64 p, .int .i64 qn, .int .i64 (-1)] 52) := ⟨_, rfl⟩
                rw [← hws20]
                have bs20 : Below ws14.heap.size ws14 ws20 := by rw [hws20]; exact (Below.refl _ _).alloc (Nat.le_refl _) _
                have hn9 := thE_new ws14 (.int .i64 p) (.int .i64 qn) (.int .i64 (-1)) 52
                rw [← hws20] at hn9
                have HNW := Lib.hid hn9
                clear hws20 hn9
                have FB_s21 := Lib.hid ((FB_s15.out).trans ((bs20).mono (FB_s15.out).size))
                clear FB_s15
                clear bs20
                refine hK.out _ _ (HS0.out _ FB_s21.out) (fun hHeld => ?_)
                clear hK K
                (try simp only [Act.put, List.setIfInBounds_toArray, List.set_cons_zero, List.set_cons_succ, List.getElem_toArray, List.getElem_cons_succ, List.getElem_cons_zero])
                refine wpAnyH_ready (rs := [1]) (by kernel_rfl) (by simp) ?_
                refine AllReadyH.cons rfl (fun K hK => ?_) ?_
                · have hx9 := (twE_cells (HST.out.below FB_s21.out).box).2
                  (try dsimp only at hx9)
                  go_simp
                  clear hx9
                  refine hK.out _ _ (hHeld) (fun hHeld => ?_)
                  clear hK K
                  (try simp only [Act.put, List.setIfInBounds_toArray, List.set_cons_zero, List.set_cons_succ, List.getElem_toArray, List.getElem_cons_succ, List.getElem_cons_zero])
                  refine wpAnyH_ready (rs := [9]) (by kernel_rfl) (by simp) ?_
                  refine AllReadyH.cons rfl (fun K hK => ?_) ?_
                  · have OW := (HST.out.below FB_s21.out).own
                    have hlt9 := (HST.out.below FB_s21.out).lt
                    have hle9 := HLEN.out
                    (try dsimp only at OW)
                    refine stepE rfl _ _ 28 rfl (w3.heap.size + 1) 52 i3 (.agg #[.int .i64 0, .int .i64 0, .int .i64 0]) 3 24 Tryd.underlying28 HI.out HZ0.out HZ1.out HZ2.out rfl (by decide) _ _ _ rfl OW ⟨ws14.heap.size, 0, none⟩ 1 1 [.int .i64 p, .int .i64 qn, .int .i64 (-1)] rfl rfl HNW.out (by intro u hu; simp at hu; rcases hu with rfl | rfl | rfl <;> rfl) (by simp only [maxLen]; omega) (by omega) (by omega) ?_
                    intro v9 w9 own9 gr9
                    obtain ⟨A9, c9, rfl, hbx9, hbl9, hst9⟩ := (HST.out.below FB_s21.out).grown (x := ⟨p, qn, (-1)⟩) own9 gr9
                    have HBX9 := Lib.hid hbx9; have HBL9 := Lib.hid hbl9; have HST9 := Lib.hid hst9
                    clear hbx9 hbl9 hst9 own9 gr9 OW hlt9 hle9
                    refine hK.out _ _ (HSX.out _ HBL9.out) (fun hHeld => ?_)
                    clear hK K
                    (try simp only [Act.put, List.setIfInBounds_toArray, List.set_cons_zero, List.set_cons_succ, List.getElem_toArray, List.getElem_cons_succ, List.getElem_cons_zero])
                    refine wpAnyH_take (i := 10) (v := ?vs22) rfl (by kernel_rfl) (by kernel_rfl) (by kernel_rfl) (fun _ _ _ h => h) (Or.inl ⟨by rfl, ?ys22⟩) (by assumption) ?_
                    case ys22 => (intro w hSw; (try dsimp only at hSw); go_simp; all_goals (with_reducible rfl))
                    (try simp only [Act.put, List.setIfInBounds_toArray, List.set_cons_zero, List.set_cons_succ, List.getElem_toArray, List.getElem_cons_succ, List.getElem_cons_zero])
                    refine wpAnyH_ready (rs := [11]) (by kernel_rfl) (by simp) ?_
                    refine AllReadyH.cons rfl (fun K hK => ?_) ?_
                    · obtain ⟨a0, a1⟩ := twE_cells HBX9.out
                      have f1 := frozen_of_row _ _ 1 _ _ HBX9.out
                      (try dsimp only at a0 a1)
                      go_simp
                      clear a0 a1 f1
                      refine hK.out _ _ (HSX.out _ HST9.out.bel) (fun hHeld => ?_)
                      clear hK K
                      (try simp only [Act.put, List.setIfInBounds_toArray, List.set_cons_zero, List.set_cons_succ, List.getElem_toArray, List.getElem_cons_succ, List.getElem_cons_zero])
                      refine wpAnyH_done (by kernel_rfl) ?_ _
                      have HST10 : Hid (GrSt w3 (w9.setCell ⟨w3.heap.size, 1, none⟩ (.slice A9 (ms.length + 1) c9)) ⟨A9, c9⟩ ⟨N.l.length, msU N (k + 1)⟩) := Lib.hid (by rw [HEX.out]; exact HST9.out)
                      go_wp2
                      go_roundw
                      case rel => exact ⟨k + 1, ⟨A9, c9⟩, by omega, by go_num, HST10.out⟩
                      case measure => simp [intOf]; omega
                    exact AllReadyH.nil
                  exact AllReadyH.nil
                exact AllReadyH.nil
              exact AllReadyH.nil
            exact AllReadyH.nil
        · have hd : decide (q < 0) = true := decide_eq_true (by omega)
          have HS := Lib.hid (HNO.out (by omega))
          have HST2 : Hid (∀ w5 : World, Below wr.heap.size wr w5 → GrSt w3 w5 hh ⟨N.l.length, msU N (k + 1)⟩) := Lib.hid fun w5 hx => by rw [HS.out]; exact HSR.out.below hx
          clear hin hq HYE HNO HS
          go_wp2_with (fail)
          refine HTT.out.mono ?_
          rintro e w5 ⟨rfl, bel5⟩
          have HS5 := Lib.hid (HST2.out _ bel5)
          clear bel5
          go_wp2
          go_roundw
          case rel => exact ⟨k + 1, hh, by omega, by go_num, HS5.out⟩
          case measure => simp [intOf]; omega
      · have hkl : k = N.w.length := by omega
        subst hkl
        have hbx := HSR.out.box
        have hrb := (HK.out _ HBR.out).2
        obtain ⟨v0, v1⟩ := twE_cells hbx
        obtain ⟨z0, z1⟩ := twE_cells hrb
        have f0 := frozen_of_row _ _ 0 _ _ hrb; have f1 := frozen_of_row _ _ 1 _ _ hrb
        dsimp only at v0 v1
        have HF := Lib.hid (set2E_at hrb (.int .i64 N.l.length) (.slice hh.A (msU N N.w.length).length hh.c))
        have HO : Hid (OwnG wr (w3.heap.size + 1) wr.heap.size hh ⟨N.l.length, msU N N.w.length⟩) := Lib.hid (OwnG.of_own HSR.out.own)
        have HBB := Lib.hid (HB.out.trans (HBR.out.mono HB.out.size))
        clear hbx hrb
        go_wp2
        (try simp only [Exit.inBlock, Exit.then])
        refine bodyPost_ret (resCT rfl _ _ (w.heap.size + 1) _ _ (0, 0) _ rfl HF.out Tryd.underlying30 rfl (by kernel_rfl)) rfl ?_
        exact ⟨hh, rfl, ((HO.out.set (by have := HL3.out; omega) _).set (by have := HL3.out; omega) _).more (by have := HL3.out; omega) (by simp), (HBB.out.setCell (p := ⟨w.heap.size + 1, 0, none⟩) (by show w.heap.size ≤ w.heap.size + 1; omega) _).setCell (p := ⟨w.heap.size + 1, 1, none⟩) (by show w.heap.size ≤ w.heap.size + 1; omega) _⟩
end Go.Proofs.YtlcapifgpcimpaaDoor
