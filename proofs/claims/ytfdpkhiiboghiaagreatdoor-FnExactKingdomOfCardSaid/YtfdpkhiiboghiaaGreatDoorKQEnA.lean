/- The model: l15Closed. The net of a closed set of links of a valid net is valid. The model: StuckLinks, l13Correct, CorrectByParsing. Made by mkpbd.py. -/
import Derived.Test.YtfdpkhiiboghiaaGreatDoorKQPaH
import Derived.Test.YtfdpkhiiboghiaaGreatDoorKSrC
import Derived.Test.YtfdpkhiiboghiaaGreatDoorKQEmA
import Derived.Deep.RegionHeldLaw
import Derived.Deep.DeepCutAuto
import Derived.BigQuiet
import Derived.Test.YtfdpkhiiboghiaaGreatDoorKQSqM
import Derived.Test.YtfdpkhiiboghiaaGreatDoorKQPbB
import Derived.Maps.AppendAt
namespace Go.Proofs.YtfdpkhiiboghiaaGreatDoor
set_option linter.unusedSimpArgs false
set_option linter.unusedVariables false
section
set_option linter.unusedSimpArgs false
set_option linter.unusedVariables false
open Go.ChangeAt Go.ChangeShapes Go.RowKit Go.WideShapes

theorem ccM_q {N : Nt} {ks : List Int} {k : Nat} (hk : k < ks.length) (h : inQ N.l.length ks k = false) : ccM N ks = false := by
  unfold ccM
  have : (List.range ks.length).all (inQ N.l.length ks) = false := by
    rw [List.all_eq_false]; exact ⟨k, List.mem_range.2 hk, by rw [h]; decide⟩
  rw [this]; rfl
theorem ccM_k {N : Nt} {ks : List Int} {k : Nat} (hk : k < ks.length) (h : inKB N (kS ks) (ks.getD k 0) = false) : ccM N ks = false := by
  unfold ccM; rw [all_bad (d := (0 : Int)) hk h]; simp
theorem ccM_y {N : Nt} {ks : List Int} (h1 : (List.range ks.length).all (inQ N.l.length ks) = true) (h2 : ks.all (inKB N (kS ks)) = true) : ccM N ks = decide (0 < ks.length) := by
  unfold ccM; rw [h1, h2, Bool.true_and, Bool.true_and]
theorem range_step {p : Nat → Bool} {k : Nat} (h : (List.range k).all p = true) (hp : p k = true) : (List.range (k + 1)).all p = true := by
  rw [List.range_succ, List.all_append, h]; simp [hp]
set_option maxRecDepth 100000 in
set_option maxHeartbeats 1000000 in
theorem sClosed_any (h : NH) (N : Nt) (A : Option Addr) (n c : Nat) (ks : List Int) (w : World) (hv : valN N = true) (r : RdN w w.heap.size h N) (rk : RdI w w.heap.size A n ks) (hkl : n ≤ 1048576) :
    Calls Tryz.prog 99 #[.agg #[.slice h.A N.w.length h.c, .slice h.L N.l.length h.d, .slice h.C N.c.length h.e], .slice A n c] w fun e w' => e = .returned (.bool (ccM N ks)) ∧ Below w.heap.size w w' := by
  have hkn := rk.1
  subst hkn
  obtain ⟨h48, h48l⟩ := valN_size hv
  obtain ⟨w0, hw0⟩ : ∃ w0, w0 = w.alloc (.cells #[.slice h.A N.w.length h.c, .slice h.L N.l.length h.d, .slice h.C N.c.length h.e] 30) := ⟨_, rfl⟩
  obtain ⟨hb, g0, hsz⟩ := box3_any w (.slice h.A N.w.length h.c) (.slice h.L N.l.length h.d) (.slice h.C N.c.length h.e) 30
  rw [← hw0] at hb g0 hsz
  have hs0 : w.heap.size < w0.heap.size := by omega
  have HKF := Lib.hid (fun (wx : World) (hx : Below w0.heap.size w0 wx) => three_cells ((hx.block w.heap.size (by omega)).trans g0))
  have HR := Lib.hid (fun (wx : World) (hx : Below w0.heap.size w0 wx) => show RdN wx wx.heap.size h N from (r.below (hb.trans (hx.mono hb.size))).more (Nat.le_trans hb.size hx.size))
  have HRK := Lib.hid (fun (wx : World) (hx : Below w0.heap.size w0 wx) => show RdI wx wx.heap.size A ks.length ks from (rk.below (hb.trans (hx.mono hb.size))).more (Nat.le_trans hb.size hx.size))
  have HIR := Lib.hid (fun (x : Int) (wx : World) (n : Nat) => quiet_sm (w := wx) (n := n) (inRange_any x 0 ((N.l.length : Int) - 1) (wx.drewN n)))
  have hwl : IntKind.i64.wrap ((N.l.length : Int) - 1) = (N.l.length : Int) - 1 := IntWalk.i64_in _ (by omega)
  have HFR := Lib.hid (fun (wx : World) (hx : Below w0.heap.size w0 wx) (x : Int) (h1 : inW N.w.length x = true) => show Calls Tryz.prog 77 #[.agg #[.slice h.A N.w.length h.c, .slice h.L N.l.length h.d, .slice h.C N.c.length h.e], .int .i64 x] wx fun e w' => e = .returned (.int .i64 (frN N x : Nat)) ∧ Below wx.heap.size wx w' from by
    have := smFrom_any h.A h.L h.C N.w.length h.c h.d N.c.length h.e N.l x wx (HR.out wx hx).2.1 (by omega)
    rw [from_lxQ hv, (fr_lt hv h1).1] at this
    exact this)
  have HHA := Lib.hid (fun (wx : World) (hx : Below w0.heap.size w0 wx) (k : Nat) => show Calls Tryz.prog 87 #[.slice A ks.length c, .int .i64 k] wx fun e w' => e = .returned (.bool (kS ks k)) ∧ w' = wx from sHasQ_any A ks.length c ks (k : Int) wx hkl (HRK.out wx hx))
  have HLF := Lib.hid (fun (k : Nat) (hk : k < N.l.length) (x : Int) (hx : x ∈ inL (N.l.getD k Lk.nil)) => in_in hv hk hx)
  have HB0 := Lib.hid hb
  obtain ⟨y0, y1, y2⟩ := HKF.out _ (Below.refl _ w0)
  clear hb g0 hsz r rk hv
  go_enter Tryz.func99, Tryz.ntmps99
  go_upto_region 1 with (fail)
  rw [← hw0]
  clear hw0
  clear y0 y1 y2
  go_wp2
  go_loopw [5] (fun i wx => ∃ k : Nat, k ≤ ks.length ∧ i = .int .i64 k ∧ (List.range k).all (inQ N.l.length ks) = true ∧ Below w0.heap.size w0 wx) (fun i _ => ks.length - (intOf i).toNat)
  case atStart => exact ⟨0, Nat.zero_le _, rfl, rfl, Below.refl _ _⟩
  case round =>
    obtain ⟨k, hk, rfl, hall, hB⟩ := hrel
    by_cases hlt : k < ks.length
    · obtain ⟨y0, y1, y2⟩ := HKF.out _ hB
      obtain ⟨b, off, hAe, hbb, hcells⟩ := (HRK.out _ hB).2 (by omega)
      have x0 := hcells k hlt
      have hki : (k : Int) < (ks.length : Int) := by omega
      have HIX := Lib.hid (fun n => HIR.out (ks.getD k 0) wr n)
      have HBN := Lib.hid (fun n => below_drewN hB n)
      have HST := Lib.hid (fun (e : inQ N.l.length ks k = true) => range_step hall e)
      have HBD := Lib.hid (fun (e : inQ N.l.length ks k = false) => ccM_q hlt e)
      have HQ : Hid (inQ N.l.length ks k = (inW N.l.length (ks.getD k 0) && !(decide (0 < k) && decide (ks.getD k 0 ≤ ks.getD (k - 1) 0)))) := Lib.hid rfl
      have HIW : Hid (inW N.l.length (ks.getD k 0) = decide (0 ≤ ks.getD k 0 ∧ ks.getD k 0 ≤ (N.l.length : Int) - 1)) := Lib.hid rfl
      rw [← HIW.out] at HIX
      clear hall
      cases hin : inW N.l.length (ks.getD k 0) with
      | false =>
        rw [hin] at HIX
        have HE := Lib.hid (HBD.out (by rw [HQ.out, hin]; rfl)).symm
        generalize ks.getD k 0 = x at *
        clear hcells hin
        subst hAe
        go_upto_region 4 with (fail)
        go_quiet (first | (go_at_call 86; exact HIX.out _))
        have HBQ := Lib.hid (HB0.out.trans ((HBN.out nq).mono HB0.out.size))
        clear x0 y0 y1 y2
        go_wp2
        go_ret
        exact ⟨ret_bool HE.out, HBQ.out⟩
      | true =>
        rw [hin] at HIX
        by_cases hk0 : k = 0
        · have d1 : decide (0 < (k : Int)) = false := decide_eq_false (by omega)
          have d3 : decide (0 < k) = false := decide_eq_false (by omega)
          have HS2 := Lib.hid (HST.out (by rw [HQ.out, hin, decide_eq_false (by omega)]; rfl))
          generalize ks.getD k 0 = x at *
          clear hcells hin hk0
          subst hAe
          go_upto_region 4 with (fail)
          go_quiet (first | (go_at_call 86; exact HIX.out _))
          have HBQ := Lib.hid (HBN.out nq)
          clear x0 y0 y1 y2
          go_wp2
          go_roundw
          case rel => exact ⟨k + 1, by omega, by go_num, HS2.out, HBQ.out⟩
          case measure => simp [intOf]; omega
        · have d1 : decide (0 < (k : Int)) = true := decide_eq_true (by omega)
          have d3 : decide (0 < k) = true := decide_eq_true (by omega)
          have x1 := hcells (k - 1) (by omega)
          have hwk : IntKind.i64.wrap ((k : Int) - 1) = ((k - 1 : Nat) : Int) := by rw [IntWalk.i64_in _ (by omega)]; omega
          have hk1 : ((k - 1 : Nat) : Int) < (ks.length : Int) := by omega
          by_cases hle : ks.getD k 0 ≤ ks.getD (k - 1) 0
          · have d2 : decide (ks.getD k 0 ≤ ks.getD (k - 1) 0) = true := decide_eq_true hle
            have HE := Lib.hid (HBD.out (by rw [HQ.out, hin, decide_eq_true (show 0 < k by omega), d2]; rfl)).symm
            generalize ks.getD k 0 = x at *
            generalize ks.getD (k - 1) 0 = y at *
            generalize k - 1 = k1 at *
            clear hcells hin hle
            subst hAe
            go_upto_region 4 with (fail)
            go_quiet (first | (go_at_call 86; exact HIX.out _))
            have HBQ := Lib.hid (HB0.out.trans ((HBN.out nq).mono HB0.out.size))
            clear x0 x1 y0 y1 y2
            go_wp2
            go_ret
            exact ⟨ret_bool HE.out, HBQ.out⟩
          · have d2 : decide (ks.getD k 0 ≤ ks.getD (k - 1) 0) = false := decide_eq_false hle
            have HS2 := Lib.hid (HST.out (by rw [HQ.out, hin, decide_eq_true (show 0 < k by omega), d2]; rfl))
            generalize ks.getD k 0 = x at *
            generalize ks.getD (k - 1) 0 = y at *
            obtain ⟨k1, hk1e⟩ : ∃ k1, k - 1 = k1 := ⟨_, rfl⟩
            rw [hk1e] at hwk hk1 x1
            clear hcells hin hle hk1e
            subst hAe
            go_upto_region 4 with (fail)
            go_quiet (first | (go_at_call 86; exact HIX.out _))
            have HBQ := Lib.hid (HBN.out nq)
            clear x0 x1 y0 y1 y2
            go_wp2
            go_roundw
            case rel => exact ⟨k + 1, by omega, by go_num, HS2.out, HBQ.out⟩
            case measure => simp [intOf]; omega
    · have hkk : k = ks.length := by omega
      subst hkk
      have HALL := Lib.hid hall
      have HINR : Hid (∀ j, j < ks.length → inW N.l.length (ks.getD j 0) = true) := Lib.hid fun j hj => by
        have := List.all_eq_true.1 hall j (List.mem_range.2 hj)
        unfold inQ at this
        rw [Bool.and_eq_true] at this
        exact this.1
      have HB := Lib.hid hB
      clear hall hB
      go_wp2
      go_loopw [6] (fun i wx => ∃ k : Nat, k ≤ ks.length ∧ i = .int .i64 k ∧ (ks.take k).all (inKB N (kS ks)) = true ∧ Below w0.heap.size w0 wx) (fun i _ => ks.length - (intOf i).toNat)
      case atStart => exact ⟨0, Nat.zero_le _, rfl, rfl, HB.out⟩
      case round =>
        rename World => wy
        obtain ⟨k, hk, rfl, hall, hB⟩ := hrel
        by_cases hlt : k < ks.length
        · obtain ⟨y0, y1, y2⟩ := HKF.out _ hB
          obtain ⟨b, off, hAe, hbb, hcells⟩ := (HRK.out _ hB).2 (by omega)
          have x0 := hcells k hlt
          have hin := HINR.out k hlt
          obtain ⟨_, hj, hje⟩ := inW_yes hin
          obtain ⟨bL, oL, hLe, hbL, hcL⟩ := (HR.out _ hB).2.1.at (by omega)
          obtain ⟨l0, l1, l2, l3⟩ := hcL _ hj
          have HST := Lib.hid (fun (e : inKB N (kS ks) (ks.getD k 0) = true) => all_step (d := (0 : Int)) hlt hall e)
          have HBD := Lib.hid (fun (e : inKB N (kS ks) (ks.getD k 0) = false) => ccM_k hlt e)
          have HKB : Hid (inKB N (kS ks) (ks.getD k 0) = (inL (N.l.getD (ks.getD k 0).toNat Lk.nil)).all fun y => kS ks (frN N y)) := Lib.hid rfl
          have HXI := Lib.hid (HLF.out _ hj)
          have HBH := Lib.hid hB
          generalize inKB N (kS ks) (ks.getD k 0) = res at *
          generalize (ks.getD k 0).toNat = j at *
          rw [hje] at x0
          have hji : (j : Int) < (N.l.length : Int) := by omega
          generalize N.l.getD j Lk.nil = l at *
          obtain ⟨lk, la, lb, lc⟩ := l
          dsimp only at l0 l1 l2 l3
          rw [hLe] at y1
          clear hcells hcL hin hje hall hB hLe
          subst hAe
          go_upto_region 9 with (fail)
          have HAL : Hid (Below wy.heap.size wy (wy.alloc (.cells #[.int .i64 0, .int .i64 0, .int .i64 0, .int .i64 0] 103))) := Lib.hid ((Below.refl _ _).alloc (Nat.le_refl _) _)
          have hyl := HBH.out.size
          have v1 := (HAL.out.cell (p := ⟨w.heap.size, 1, none⟩) (by show w.heap.size < _; omega)).trans y1
          have v0 := (HAL.out.cell (p := ⟨b, off + k, none⟩) hbb).trans x0
          have m0 := (HAL.out.cell (p := ⟨bL, oL + j * 4, none⟩) hbL).trans l0
          have m1 := (HAL.out.cell (p := ⟨bL, oL + j * 4 + 1, none⟩) hbL).trans l1
          have m2 := (HAL.out.cell (p := ⟨bL, oL + j * 4 + 2, none⟩) hbL).trans l2
          have m3 := (HAL.out.cell (p := ⟨bL, oL + j * 4 + 3, none⟩) hbL).trans l3
          go_region
          clear v0 v1 m0 m1 m2 m3 HAL
          obtain ⟨u4, hu4⟩ : ∃ u, u = (wy.alloc (.cells #[.int .i64 lk, .int .i64 la, .int .i64 lb, .int .i64 lc] 103)).drew := ⟨_, rfl⟩
          rw [← hu4]
          have hb4 : Below wy.heap.size wy u4 := by rw [hu4]; exact ((Below.refl _ _).alloc (Nat.le_refl _) _).drew
          have hg4 : u4.heap[wy.heap.size]? = some (.cells #[.int .i64 lk, .int .i64 la, .int .i64 lb, .int .i64 lc] 103 (0, 0)) := by rw [hu4]; exact heap_alloc_new _ _
          have hl4 := (Array.getElem?_eq_some_iff.1 hg4).1
          have B4 := Lib.hid (HBH.out.trans (hb4.mono HBH.out.size))
          have HZ := Lib.hid (fun (wx : World) (hx : Below u4.heap.size u4 wx) => four_cellsQ ((hx.block _ hl4).trans hg4))
          clear hu4 hb4 hg4 hl4 x0 l0 l1 l2 l3 y0 y1 y2
          obtain ⟨z0, z1, z2, z3⟩ := HZ.out u4 (Below.refl _ _)
          by_cases h1 : lk = 1
          · have d1 : (lk != 1) = false := by simp [h1]
            have HS2 := Lib.hid (HST.out (by rw [HKB.out]; unfold inL; rw [if_pos h1]; rfl))
            clear h1
            go_wp2
            go_roundw
            case rel => exact ⟨k + 1, by omega, by go_num, HS2.out, B4.out⟩
            case measure => simp [intOf]; omega
          · have d1 : (lk != 1) = true := by simp [h1]
            have hil : inL ⟨lk, la, lb, lc⟩ = [la, lb] := by unfold inL; rw [if_neg h1]
            rw [hil] at HXI HKB
            have ia := HXI.out la (by simp)
            have ib := HXI.out lb (by simp)
            have HFA := Lib.hid (HFR.out u4 B4.out la ia)
            have HFB := Lib.hid (fun wx hx => HFR.out wx hx lb ib)
            have HK2 : Hid (res = (kS ks (frN N la) && kS ks (frN N lb))) := Lib.hid (by rw [HKB.out]; simp)
            clear h1 hil HXI HKB ia ib
            generalize frN N la = fa at *
            generalize frN N lb = fb at *
            obtain ⟨y0, y1, y2⟩ := HKF.out _ B4.out
            go_wp2_with (fail)
            refine HFA.out.mono ?_
            rintro e w5 ⟨rfl, bel5⟩
            have B5 := Lib.hid (B4.out.trans (bel5.mono B4.out.size))
            have HB5 := Lib.hid bel5
            have HHX := Lib.hid (HHA.out w5 B5.out fa)
            clear bel5 y0 y1 y2 z0 z1 z2 z3
            cases hp : kS ks fa with
            | false =>
              rw [hp] at HHX
              have HE := Lib.hid (HBD.out (by rw [HK2.out, hp]; rfl)).symm
              clear hp
              go_wp2_with (fail)
              refine HHX.out.mono ?_
              rintro e w6 ⟨rfl, hw6⟩
              subst hw6
              have HBB := Lib.hid (HB0.out.trans (B5.out.mono HB0.out.size))
              go_wp2
              go_ret
              exact ⟨ret_bool HE.out, HBB.out⟩
            | true =>
              rw [hp] at HHX
              have HK3 : Hid (res = kS ks fb) := Lib.hid (by rw [HK2.out, hp]; rfl)
              clear hp
              go_wp2_with (fail)
              refine HHX.out.mono ?_
              rintro e w6 ⟨rfl, hw6⟩
              subst hw6
              obtain ⟨y0, y1, y2⟩ := HKF.out _ B5.out
              obtain ⟨z0, z1, z2, z3⟩ := HZ.out _ HB5.out
              go_wp2_with (fail)
              refine (HFB.out _ B5.out).mono ?_
              rintro e w7 ⟨rfl, bel7⟩
              have B7 := Lib.hid (B5.out.trans (bel7.mono B5.out.size))
              have HHY := Lib.hid (HHA.out w7 B7.out fb)
              clear bel7 y0 y1 y2 z0 z1 z2 z3
              cases hq : kS ks fb with
              | false =>
                rw [hq] at HHY
                have HE := Lib.hid (HBD.out (by rw [HK3.out, hq])).symm
                clear hq
                go_wp2_with (fail)
                refine HHY.out.mono ?_
                rintro e w8 ⟨rfl, hw8⟩
                subst hw8
                have HBB := Lib.hid (HB0.out.trans (B7.out.mono HB0.out.size))
                go_wp2
                go_ret
                exact ⟨ret_bool HE.out, HBB.out⟩
              | true =>
                rw [hq] at HHY
                have HS2 := Lib.hid (HST.out (by rw [HK3.out, hq]))
                clear hq
                go_wp2_with (fail)
                refine HHY.out.mono ?_
                rintro e w8 ⟨rfl, hw8⟩
                subst hw8
                go_wp2
                go_roundw
                case rel => exact ⟨k + 1, by omega, by go_num, HS2.out, B7.out⟩
                case measure => simp [intOf]; omega
        · have hkk : k = ks.length := by omega
          subst hkk
          rw [List.take_length] at hall
          have HE := Lib.hid (ccM_y HALL.out hall).symm
          have HBB := Lib.hid (HB0.out.trans (hB.mono HB0.out.size))
          clear hall hB
          go_wp2
          go_ret
          exact ⟨ret_bool HE.out, HBB.out⟩
end
section
set_option linter.unusedSimpArgs false
set_option linter.unusedVariables false
open Go.ChangeAt Go.ChangeShapes Go.RowKit Go.WideShapes

theorem getD_lt {L : List Int} {i : Nat} (h : i < L.length) : L.getD i 0 = L[i] := by simp [List.getD, h]
/-- A kept wire keeps its place among the kept ones. -/
theorem nm_at {N : Nt} {K : Nat → Bool} {x : Int} (hx : inW N.w.length x = true) (h : K (frN N x) = true) : inW (kpW N K N.w.length).length (nmW N K x) = true ∧ (kpW N K N.w.length).getD (nmW N K x).toNat 0 = x := by
  have hm := kpW_mem.2 ⟨hx, h⟩
  have hi := kpW_idx hx h
  have hl := List.idxOf_lt_length_iff.2 hm
  rw [← hi, Int.toNat_natCast]
  refine ⟨decide_eq_true (by omega), ?_⟩
  rw [getD_lt hl]
  exact List.getElem_idxOf hl
theorem nm_inj {N : Nt} {K : Nat → Bool} {x y : Int} (hx : inW N.w.length x = true) (h : K (frN N x) = true) (hy : inW N.w.length y = true) (h2 : K (frN N y) = true) (e : nmW N K x = nmW N K y) : x = y := by
  rw [← (nm_at hx h).2, e]; exact (nm_at hy h2).2
theorem cut_wAt {N : Nt} {K : Nat → Bool} {x : Int} (hx : inW N.w.length x = true) (h : K (frN N x) = true) : wAt (cutW N K N.w.length) (nmW N K x) = wAt N.w x := by
  obtain ⟨h1, h2⟩ := nm_at hx h
  obtain ⟨_, h3, _⟩ := inW_yes h1
  unfold wAt cutW
  have : ((kpW N K N.w.length).map fun x => N.w.getD x.toNat []).getD (nmW N K x).toNat [] = N.w.getD ((kpW N K N.w.length).getD (nmW N K x).toNat 0).toNat [] := by
    simp [List.getD, h3]
  rw [this, h2]
/-- How often a new wire stands in a list of kept wires. -/
theorem conc_map {N : Nt} {K : Nat → Bool} {i : Nat} {x : Int} (hx : inW N.w.length x = true) (h : K (frN N x) = true) (hi : nmW N K x = (i : Int)) : ∀ {L : List Int}, (∀ y ∈ L, inW N.w.length y = true ∧ K (frN N y) = true) → concN (L.map (nmW N K)) i = concN L x.toNat
  | [], _ => rfl
  | y :: L, hL => by
    have ih := conc_map hx h hi (L := L) fun z hz => hL z (by simp [hz])
    have hy := hL y (by simp)
    simp only [concN, List.map_cons, List.sum_cons] at ih ⊢
    rw [ih]
    congr 1
    unfold one
    have h0 : 0 ≤ nmW N K y := by unfold nmW; omega
    by_cases e : y = x
    · subst e; rw [if_pos (by omega), if_pos rfl]
    · rw [if_neg (fun q => e (nm_inj hy.1 hy.2 hx h (by omega))), if_neg (fun q => e (by have := (inW_yes hy.1).2.2; have := (inW_yes hx).2.2; omega))]
theorem sum_filter (K : Nat → Bool) (f : Nat → Int) (n : Nat) : (((List.range n).filter K).map f).sum = ((List.range n).map fun k => if K k = true then f k else 0).sum := by
  induction n with
  | zero => rfl
  | succ n ih =>
    rw [List.range_succ, List.filter_append, List.map_append, List.map_append, List.sum_append, List.sum_append, ih]
    cases h : K n <;> simp [h]
theorem sum_range (ls : List Lk) (f : Lk → Int) : (ls.map f).sum = ((List.range ls.length).map fun k => f (ls.getD k Lk.nil)).sum := by
  congr 1
  refine List.ext_getElem (by simp) fun i h1 h2 => ?_
  have : i < ls.length := by simpa using h1
  simp [List.getD, this]
theorem cutL_sum (N : Nt) (K : Nat → Bool) (f : Lk → Int) : ((cutL N K N.l.length).map f).sum = ((List.range N.l.length).map fun k => if K k = true then f (rnL N K (N.l.getD k Lk.nil)) else 0).sum := by
  unfold cutL selU
  rw [List.map_map, List.map_map]
  exact sum_filter K _ _
theorem outL_rn (N : Nt) (K : Nat → Bool) {l : Lk} (h : l.k = 1 ∨ l.k = 2 ∨ l.k = 3 ∨ l.k = 4) : outL (rnL N K l) = (outL l).map (nmW N K) := by
  unfold outL rnL
  by_cases h1 : l.k = 1
  · rw [if_pos h1, if_pos h1]; rfl
  · by_cases h2 : l.k = 2
    · rw [if_neg h1, if_neg h1, if_pos h2, if_pos h2]; rfl
    · rw [if_neg h1, if_neg h1, if_neg h2, if_neg h2]
      dsimp only
      rw [if_pos (by omega)]; rfl
theorem inL_rn (N : Nt) (K : Nat → Bool) (l : Lk) : inL (rnL N K l) = (inL l).map (nmW N K) := by
  unfold inL rnL
  by_cases h1 : l.k = 1
  · rw [if_pos h1, if_pos h1]; rfl
  · rw [if_neg h1, if_neg h1]; rfl
theorem conc_none {L : List Int} {x : Nat} (h0 : ∀ y ∈ L, 0 ≤ y) (h : ¬ (x : Int) ∈ L) : concN L x = 0 := by
  refine Decidable.byContradiction fun e => h (conc_some h0 ?_)
  have := (concN_le L x).1
  omega
theorem conc_once {L : List Int} {x : Nat} (h0 : ∀ y ∈ L, 0 ≤ y) (hn : L.Nodup) (h : (x : Int) ∈ L) : concN L x = 1 := by
  induction L with
  | nil => cases h
  | cons y L ih =>
    rw [List.nodup_cons] at hn
    have e : concN (y :: L) x = one (y.toNat = x) + concN L x := by simp [concN]
    rw [e]
    have hy := h0 y (by simp)
    rcases List.mem_cons.1 h with q | q
    · rw [conc_none (fun z hz => h0 z (by simp [hz])) (by rw [q]; exact hn.1)]
      unfold one; rw [if_pos (by omega)]; rfl
    · rw [ih (fun z hz => h0 z (by simp [hz])) hn.2 q]
      unfold one; rw [if_neg (fun e2 => hn.1 (by rw [show y = (x : Int) by omega]; exact q))]; rfl
theorem rn_fits {N : Nt} (hv : valN N = true) {K : Nat → Bool} (hK : ClK N K) {k : Nat} (hk : k < N.l.length) (h : K k = true) : fitsN (cutW N K N.w.length) (rnL N K (N.l.getD k Lk.nil)) = true := by
  have hf := link_fits hv hk
  obtain ⟨h1, h2, h3, h4⟩ := fitsN_yes hf
  have hkind := fitsN_kind hf
  have hO : ∀ x ∈ outL (N.l.getD k Lk.nil), K (frN N x) = true := fun x hx => by rw [fr_out hv hk hx]; exact h
  have hI := hK k hk h
  have hlen : (cutW N K N.w.length).length = (kpW N K N.w.length).length := cutW_len _ _ _
  have ka : K (frN N (N.l.getD k Lk.nil).a) = true := by
    by_cases e : (N.l.getD k Lk.nil).k = 1
    · exact hO _ (by unfold outL; rw [if_pos e]; simp)
    · exact hI _ (by unfold inL; rw [if_neg e]; simp)
  have kb : K (frN N (N.l.getD k Lk.nil).b) = true := by
    by_cases e : (N.l.getD k Lk.nil).k = 1
    · exact hO _ (by unfold outL; rw [if_pos e]; simp)
    · exact hI _ (by unfold inL; rw [if_neg e]; simp)
  have na := (nm_at h1 ka).1
  have nb := (nm_at h2 kb).1
  have wa := cut_wAt h1 ka
  have wb := cut_wAt h2 kb
  have kc : (N.l.getD k Lk.nil).k = 3 ∨ (N.l.getD k Lk.nil).k = 4 → K (frN N (N.l.getD k Lk.nil).c) = true := fun e => hO _ (by unfold outL; rw [if_neg (by omega), if_neg (by omega)]; simp)
  unfold fitsN rightN rnL at *
  rw [hlen]
  dsimp only at *
  rw [na, nb, Bool.true_and, Bool.true_and, wa, wb]
  by_cases e : (N.l.getD k Lk.nil).k = 1 ∨ (N.l.getD k Lk.nil).k = 2
  · rw [if_pos e] at h4
    rw [if_neg (by omega), if_pos e]
    rw [Bool.and_eq_true] at h4
    rw [h4.2]
    have : inW (kpW N K N.w.length).length 0 = true := decide_eq_true (by have := (inW_yes na).2.1; omega)
    rw [this]; rfl
  · rw [if_neg e] at h4
    have e2 : (N.l.getD k Lk.nil).k = 3 ∨ (N.l.getD k Lk.nil).k = 4 := by omega
    have wc := cut_wAt h3 (kc e2)
    rw [if_pos e2, if_neg e, wc, (nm_at h3 (kc e2)).1]
    exact h4
/-- The net of a closed set of links is valid, if its conclusions are the border, in any order. -/
theorem cut_valid {N : Nt} (hv : valN N = true) {K : Nat → Bool} (hK : ClK N K) {cs : List Int} (hcs : ∀ x, x ∈ cs ↔ (inW N.w.length x = true ∧ bdB N K x = true)) (hn : cs.Nodup) : valN (cutN N K cs) = true := by
  obtain ⟨hw48, hl48⟩ := valN_size hv
  have hckp : ∀ x ∈ cs, inW N.w.length x = true ∧ K (frN N x) = true := fun x hx => by
    obtain ⟨q1, q2⟩ := (hcs x).1 hx
    unfold bdB at q2
    rw [Bool.and_eq_true] at q2
    exact ⟨q1, q2.1⟩
  refine valN_yes (N := cutN N K cs) ⟨?_, ?_⟩ ?_ ?_ ?_ fun i hi => ?_
  · show (cutW N K N.w.length).length ≤ 48
    rw [cutW_len]; have := kpW_len N K N.w.length; omega
  · show (cutL N K N.l.length).length ≤ 48
    have := cutL_len N K N.l.length; omega
  · show (cutW N K N.w.length).all formN = true
    rw [List.all_eq_true]
    intro q hq
    obtain ⟨x, hx, rfl⟩ := List.mem_map.1 hq
    obtain ⟨j, hj, _, rfl⟩ := selU_mem.1 hx
    rw [Int.toNat_natCast]
    exact all_at (valN_forms hv) hj
  · show (cutL N K N.l.length).all (fitsN (cutW N K N.w.length)) = true
    rw [List.all_eq_true]
    intro q hq
    obtain ⟨x, hx, rfl⟩ := List.mem_map.1 hq
    obtain ⟨j, hj, hK2, rfl⟩ := selU_mem.1 hx
    rw [Int.toNat_natCast]
    exact rn_fits hv hK hj hK2
  · show (cs.map (nmW N K)).all (inW (cutW N K N.w.length).length) = true
    rw [List.all_eq_true, cutW_len]
    intro q hq
    obtain ⟨x, hx, rfl⟩ := List.mem_map.1 hq
    exact (nm_at (hckp x hx).1 (hckp x hx).2).1
  · have hi : i < (kpW N K N.w.length).length := by
      have : i < (cutW N K N.w.length).length := hi
      rwa [cutW_len] at this
    have hm := getL_mem (d := (0 : Int)) hi
    obtain ⟨x, hxe⟩ : ∃ x, (kpW N K N.w.length).getD i 0 = x := ⟨_, rfl⟩
    rw [hxe] at hm
    obtain ⟨hx, hKx⟩ := kpW_mem.1 hm
    have hnm : nmW N K x = (i : Int) := by
      rw [← kpW_idx hx hKx, ← hxe]
      have hnd : (kpW N K N.w.length).Nodup := strict_nodup (selU_lt _ _)
      have : (kpW N K N.w.length).idxOf ((kpW N K N.w.length).getD i 0) = i := by
        rw [getD_lt hi]; exact hnd.idxOf_getElem i hi
      rw [this]
    obtain ⟨hx0, hx1, hx2⟩ := inW_yes hx
    have hO : ∀ k, k < N.l.length → K k = true → ∀ y ∈ outL (N.l.getD k Lk.nil), inW N.w.length y = true ∧ K (frN N y) = true := fun k hk hK2 y hy => ⟨out_in hv hk hy, by rw [fr_out hv hk hy]; exact hK2⟩
    have hI : ∀ k, k < N.l.length → K k = true → ∀ y ∈ inL (N.l.getD k Lk.nil), inW N.w.length y = true ∧ K (frN N y) = true := fun k hk hK2 y hy => ⟨in_in hv hk hy, hK k hk hK2 y hy⟩
    have hval := valN_at hv hx1
    have hvm : ((List.range N.l.length).map fun k => concN (outL (N.l.getD k Lk.nil)) x.toNat).sum = 1 := by
      have : madeN N.l x.toNat = _ := sum_range N.l fun l => mk1 l x.toNat
      rw [← hval.1, this]
      congr 1
      exact List.map_congr_left fun k _ => (mk1_is _ _).symm
    have hvu : ((List.range N.l.length).map fun k => concN (inL (N.l.getD k Lk.nil)) x.toNat).sum = 1 - concN N.c x.toNat := by
      have : usedN N.l x.toNat = _ := sum_range N.l fun l => us1 l x.toNat
      have h2 := hval.2
      rw [this] at h2
      rw [show (1 : Int) - concN N.c x.toNat = ((List.range N.l.length).map fun k => us1 (N.l.getD k Lk.nil) x.toNat).sum by omega]
      congr 1
      exact List.map_congr_left fun k _ => (us1_is _ _).symm
    have hc0 : ∀ y ∈ cs, 0 ≤ y := fun y hy => (inW_yes (hckp y hy).1).1
    constructor
    · show ((cutL N K N.l.length).map fun l => mk1 l i).sum = 1
      rw [cutL_sum, ← hvm]
      refine sum_same2 fun k hk => ?_
      cases hK2 : K k with
      | true =>
        rw [if_pos rfl, mk1_is, outL_rn N K (fitsN_kind (link_fits hv hk))]
        exact conc_map hx hKx hnm (hO k hk hK2)
      | false =>
        rw [if_neg (by decide)]
        symm
        refine conc_none (fun y hy => (inW_yes (out_in hv hk hy)).1) fun hy => ?_
        rw [← hx2] at hy
        have := fr_out hv hk hy
        rw [this, hK2] at hKx; cases hKx
    · show ((cutL N K N.l.length).map fun l => us1 l i).sum + concN (cs.map (nmW N K)) i = 1
      rw [cutL_sum, conc_map hx hKx hnm hckp]
      by_cases hb : x ∈ cs
      · have hb2 := ((hcs x).1 hb).2
        unfold bdB at hb2
        rw [Bool.and_eq_true, Bool.not_eq_true'] at hb2
        rw [conc_once hc0 hn (by rw [← hx2]; exact hb)]
        have : ((List.range N.l.length).map fun k => if K k = true then us1 (rnL N K (N.l.getD k Lk.nil)) i else 0).sum = 0 := sum_zero_of fun k hk => by
          cases hK2 : K k with
          | false => rfl
          | true =>
            rw [if_pos rfl, us1_is, inL_rn, conc_map hx hKx hnm (hI k hk hK2)]
            refine conc_none (fun y hy => (inW_yes (in_in hv hk hy)).1) fun hy => ?_
            have hl := lxN_yes (oneP_in hv) hx1 hk hy
            rw [← hx2] at hl
            have ht := hb2.2
            unfold toK at ht
            rw [hl, decide_eq_true (by omega), Int.toNat_natCast, hK2] at ht; cases ht
        rw [this]; rfl
      · have hto : toK N K x = true := by
          cases ht : toK N K x with
          | true => rfl
          | false => exact absurd ((hcs x).2 ⟨hx, by unfold bdB; rw [hKx, ht]; rfl⟩) hb
        unfold toK at hto
        rw [Bool.and_eq_true, decide_eq_true_eq] at hto
        rw [conc_none hc0 (by rw [← hx2]; exact hb), Int.add_zero]
        have hnc : concN N.c x.toNat = 0 := conc_none (fun y hy => (inW_yes (conc_wires hv hy)).1) fun hy => by
          have := (concl_iff hv hx1).1 hy
          rw [← hx2] at this
          omega
        rw [hnc] at hvu
        rw [show (1 : Int) = 1 - 0 by rfl, ← hvu]
        refine sum_same2 fun k hk => ?_
        cases hK2 : K k with
        | true => rw [if_pos rfl, us1_is, inL_rn]; exact conc_map hx hKx hnm (hI k hk hK2)
        | false =>
          rw [if_neg (by decide)]
          symm
          refine conc_none (fun y hy => (inW_yes (in_in hv hk hy)).1) fun hy => ?_
          have hl := lxN_yes (oneP_in hv) hx1 hk hy
          rw [← hx2] at hl
          rw [hl, Int.toNat_natCast, hK2] at hto; cases hto.2
theorem sbN_valid {N : Nt} (hv : valN N = true) {K : Nat → Bool} (hK : ClK N K) : valN (sbN N K) = true :=
  cut_valid hv hK (fun x => by
    unfold bdL
    rw [selU_mem]
    constructor
    · rintro ⟨j, h1, h2, rfl⟩; exact ⟨decide_eq_true (by omega), h2⟩
    · rintro ⟨h1, h2⟩
      obtain ⟨_, h3, e⟩ := inW_yes h1
      exact ⟨x.toNat, h3, by rw [← e]; exact h2, e⟩) (strict_nodup (selU_lt _ _))
end
section
set_option linter.unusedSimpArgs false
set_option linter.unusedVariables false
open Go.ChangeAt Go.ChangeShapes Go.RowKit Go.WideShapes

theorem ordF_isF {N : Nt} {last : Bool} : ∀ (n : Nat) (fs : List Int), isF N fs = true → isF N (ordF N last n fs) = true
  | 0, fs, h => h
  | n + 1, fs, h => by
    unfold ordF
    by_cases e : allQ N fs = []
    · rw [if_pos e]; exact h
    · rw [if_neg e]
      exact ordF_isF n _ (isF_snoc h (allQ_ok (pkF_mem e)))
theorem ord_isF (N : Nt) (last : Bool) : isF N (ordN N last) = true := ordF_isF _ [] rfl
/-- What the model asks of the order's end. -/
theorem cb_is {N : Nt} (hv : valN N = true) : cbV N = ((paU N (ordN N false) N.w.length).all (fun x => decide (x = 0)) && (decide ((ordN N false).length = N.l.length) && decide (0 < (ordN N false).length))) := by
  have h1 := one_part hv (isF_ok (ord_isF N false))
  unfold cbV
  rw [hv, Bool.true_and, Bool.eq_iff_iff]
  simp only [Bool.and_eq_true, decide_eq_true_eq, List.all_eq_true]
  rw [h1]
  refine and_congr_left fun _ => ?_
  constructor
  · intro h x hx
    obtain ⟨k, hk, rfl⟩ := List.mem_map.1 hx
    exact h k (List.mem_range.1 hk)
  · intro h x hx
    exact h _ (List.mem_map.2 ⟨x, List.mem_range.2 hx, rfl⟩)
set_option maxRecDepth 100000 in
set_option maxHeartbeats 2000000 in
theorem sCorrect_any (h : NH) (N : Nt) (w : World) (hv : valN N = true) (r : RdN w w.heap.size h N) :
    Calls Tryz.prog 59 #[.agg #[.slice h.A N.w.length h.c, .slice h.L N.l.length h.d, .slice h.C N.c.length h.e]] w fun e w' => e = .returned (.bool (cbV N)) ∧ Below w.heap.size w w' := by
  obtain ⟨h48, h48l⟩ := valN_size hv
  obtain ⟨w0, hw0⟩ : ∃ w0, w0 = w.alloc (.cells #[.slice h.A N.w.length h.c, .slice h.L N.l.length h.d, .slice h.C N.c.length h.e] 30) := ⟨_, rfl⟩
  obtain ⟨hb, hh, hsz⟩ := box3_any w (.slice h.A N.w.length h.c) (.slice h.L N.l.length h.d) (.slice h.C N.c.length h.e) 30
  rw [← hw0] at hb hh hsz
  have hs0 : w.heap.size + 1 ≤ w0.heap.size := by omega
  have HK : Hid (∀ w', Below w0.heap.size w0 w' → w'.cell? ⟨w.heap.size, 0, none⟩ = some (.slice h.A N.w.length h.c) ∧ w'.cell? ⟨w.heap.size, 1, none⟩ = some (.slice h.L N.l.length h.d) ∧ w'.cell? ⟨w.heap.size, 2, none⟩ = some (.slice h.C N.c.length h.e)) := Lib.hid fun w' hw => three_cells ((hw.block _ (by omega)).trans hh)
  have HR := Lib.hid (fun (w' : World) (hw : Below w0.heap.size w0 w') => ((r.below (hb.trans (hw.mono hb.size))).more (Nat.le_trans hb.size hw.size)))
  have HB0 := Lib.hid hb
  have HOR := Lib.hid (sOrder_any h N false w0 hv (HR.out _ (Below.refl _ _)))
  have HPA := Lib.hid (fun (A : Option Addr) (c : Nat) (wx : World) (hx : Below w0.heap.size w0 wx) rF => sParts_any h N (ordN N false) A c wx hv (ord_isF N false) (HR.out _ hx) rF)
  have HCB := Lib.hid (cb_is hv)
  have hol := (isF_ok (ord_isF N false)).len
  obtain ⟨y0, y1, y2⟩ := three_cells hh
  clear hb hh hsz r hv
  generalize cbV N = res at *
  go_enter Tryz.func59, Tryz.ntmps59
  go_wp2_with (fail)
  rw [← hw0]
  clear hw0
  refine HOR.out.mono ?_
  rintro e w1 ⟨A1, c1, rfl, own1, bel1⟩
  have B1 := Lib.hid bel1
  have R1 := Lib.hid (RdI.of_own own1)
  clear own1 bel1 y0 y1 y2
  obtain ⟨y0, y1, y2⟩ := HK.out _ B1.out
  go_wp2_with (fail)
  refine (HPA.out A1 c1 w1 B1.out R1.out).mono ?_
  rintro e w2 ⟨A2, c2, rfl, own2, bel2⟩
  have B2 := Lib.hid (B1.out.trans (bel2.mono B1.out.size))
  have R2 := Lib.hid (RdI.of_own own2)
  have HB2 := Lib.hid (HB0.out.trans (B2.out.mono HB0.out.size))
  clear own2 bel2 y0 y1 y2 R1 HPA HOR
  have hln : (paU N (ordN N false) N.w.length).length = N.w.length := paU_len _ _ _
  obtain ⟨P, hP⟩ : ∃ P, paU N (ordN N false) N.w.length = P := ⟨_, rfl⟩
  rw [hP] at R2 HCB hln ⊢
  obtain ⟨m, hm⟩ : ∃ m, (ordN N false).length = m := ⟨_, rfl⟩
  rw [hm] at HCB hol ⊢
  have HLN : Hid (P.length ≤ 48) := Lib.hid (by omega)
  have hp48 := HLN.out
  clear hP hm hln
  go_wp2
  go_loopw [5] (fun i wr => ∃ k : Nat, k ≤ P.length ∧ i = .int .i64 k ∧ (∀ j, j < k → P.getD j 0 = 0) ∧ w2 = wr) (fun i _ => P.length - (intOf i).toNat)
  case atStart => exact ⟨0, Nat.zero_le _, rfl, fun j hj => absurd hj (by omega), rfl⟩
  case round =>
    obtain ⟨k, hk, rfl, hno, rfl⟩ := hrel
    have HNO := Lib.hid hno
    clear hno
    by_cases hlt : k < P.length
    · obtain ⟨b, off, rfl, _, hc⟩ := R2.out.2 (by omega)
      have x0 := hc k hlt
      have HM := Lib.hid (getL_mem (d := (0 : Int)) hlt)
      have HST : Hid (P.getD k 0 = 0 → ∀ j, j < k + 1 → P.getD j 0 = 0) := Lib.hid fun e j hj => by
        by_cases e2 : j < k
        · exact HNO.out j e2
        · obtain rfl : j = k := by omega
          exact e
      generalize P.getD k 0 = z at *
      clear hc
      by_cases hz : z = 0
      · have d1 : (z != 0) = false := by simp [hz]
        have HS := Lib.hid (HST.out hz)
        clear hz
        go_wp2
        go_roundw
        case rel => exact ⟨k + 1, by omega, by go_num, HS.out, by first | rfl | trivial⟩
        case measure => simp [intOf]; omega
      · have d1 : (z != 0) = true := by simp [hz]
        have HE : Hid (false = res) := Lib.hid (by
          rw [HCB.out]
          have : P.all (fun x => decide (x = 0)) = false := by
            rw [List.all_eq_false]
            exact ⟨z, HM.out, by simpa using hz⟩
          rw [this]; rfl)
        clear hz
        go_wp2
        go_ret
        exact ⟨ret_bool HE.out, HB2.out⟩
    · have hkl : k = P.length := by omega
      have hall : P.all (fun x => decide (x = 0)) = true := by
        rw [List.all_eq_true]
        intro x hx
        obtain ⟨j, hj, rfl⟩ := List.getElem_of_mem hx
        have := HNO.out j (by omega)
        rw [List.getD_eq_getElem?_getD, List.getElem?_eq_getElem hj] at this
        exact decide_eq_true this
      have HC2 : Hid (res = (decide (m = N.l.length) && decide (0 < m))) := Lib.hid (by rw [HCB.out, hall, Bool.true_and])
      obtain ⟨y0, y1, y2⟩ := HK.out _ B2.out
      clear hall
      subst hkl
      by_cases hm1 : m = N.l.length
      · have d1 : ((m : Int) == (N.l.length : Int)) = true := by simp [hm1]
        by_cases hm2 : 0 < m
        · have HE : Hid (true = res) := Lib.hid (by rw [HC2.out, decide_eq_true hm1, decide_eq_true hm2]; rfl)
          have d2 : decide ((0 : Int) < (m : Int)) = true := decide_eq_true (by omega)
          clear hm1
          go_wp2
          go_ret
          exact ⟨ret_bool HE.out, HB2.out⟩
        · have HE : Hid (false = res) := Lib.hid (by rw [HC2.out, decide_eq_true hm1, decide_eq_false hm2]; rfl)
          have d2 : decide ((0 : Int) < (m : Int)) = false := decide_eq_false (by omega)
          have d3 : decide (0 < m) = false := decide_eq_false hm2
          clear hm1
          go_wp2
          go_ret
          exact ⟨ret_bool HE.out, HB2.out⟩
      · have d1 : ((m : Int) == (N.l.length : Int)) = false := by simp; omega
        have HE : Hid (false = res) := Lib.hid (by rw [HC2.out, decide_eq_false hm1]; rfl)
        clear hm1
        go_wp2
        go_ret
        exact ⟨ret_bool HE.out, HB2.out⟩
set_option maxRecDepth 100000 in
set_option maxHeartbeats 2000000 in
theorem sParsing_any (h : NH) (N : Nt) (w : World) (r : RdN w w.heap.size h N) (hn : N.w.length ≤ 1048576) (hl : N.l.length ≤ 1048576) (hc : N.c.length ≤ 1048576) :
    Calls Tryz.prog 118 #[.agg #[.slice h.A N.w.length h.c, .slice h.L N.l.length h.d, .slice h.C N.c.length h.e]] w fun e w' => e = .returned (.bool (cbV N)) ∧ Below w.heap.size w w' := by
  obtain ⟨w0, hw0⟩ : ∃ w0, w0 = w.alloc (.cells #[.slice h.A N.w.length h.c, .slice h.L N.l.length h.d, .slice h.C N.c.length h.e] 30) := ⟨_, rfl⟩
  obtain ⟨hb, hh, hsz⟩ := box3_any w (.slice h.A N.w.length h.c) (.slice h.L N.l.length h.d) (.slice h.C N.c.length h.e) 30
  rw [← hw0] at hb hh hsz
  have hs0 : w.heap.size + 1 ≤ w0.heap.size := by omega
  have HK : Hid (∀ w', Below w0.heap.size w0 w' → w'.cell? ⟨w.heap.size, 0, none⟩ = some (.slice h.A N.w.length h.c) ∧ w'.cell? ⟨w.heap.size, 1, none⟩ = some (.slice h.L N.l.length h.d) ∧ w'.cell? ⟨w.heap.size, 2, none⟩ = some (.slice h.C N.c.length h.e)) := Lib.hid fun w' hw => three_cells ((hw.block _ (by omega)).trans hh)
  have HR := Lib.hid (fun (w' : World) (hw : Below w0.heap.size w0 w') => ((r.below (hb.trans (hw.mono hb.size))).more (Nat.le_trans hb.size hw.size)))
  have HB0 := Lib.hid hb
  have HV := Lib.hid (sValidNet_any h N w0 (HR.out _ (Below.refl _ _)) hn hl hc)
  have HCO := Lib.hid (fun (w' : World) (hw : Below w0.heap.size w0 w') (hv : valN N = true) => sCorrect_any h N w' hv (HR.out _ hw))
  obtain ⟨y0, y1, y2⟩ := three_cells hh
  clear hb hh hsz r
  cases hv : valN N with
  | false =>
    rw [hv] at HV
    have HE : Hid (false = cbV N) := Lib.hid (by unfold cbV; rw [hv]; rfl)
    clear hv HCO
    go_enter Tryz.func118, Tryz.ntmps118
    go_wp2_with (fail)
    rw [← hw0]
    clear hw0
    refine HV.out.mono ?_
    rintro e w1 ⟨rfl, bel1⟩
    have HB1 := Lib.hid (HB0.out.trans (bel1.mono HB0.out.size))
    clear bel1 y0 y1 y2
    go_wp2
    go_ret
    exact ⟨ret_bool HE.out, HB1.out⟩
  | true =>
    rw [hv] at HV
    have HVV := Lib.hid hv
    clear hv
    go_enter Tryz.func118, Tryz.ntmps118
    go_wp2_with (fail)
    rw [← hw0]
    clear hw0
    refine HV.out.mono ?_
    rintro e w1 ⟨rfl, bel1⟩
    have B1 := Lib.hid bel1
    clear bel1 y0 y1 y2
    obtain ⟨y0, y1, y2⟩ := HK.out _ B1.out
    go_wp2_with (fail)
    refine (HCO.out w1 B1.out HVV.out).mono ?_
    rintro e w2 ⟨rfl, bel2⟩
    have HB2 := Lib.hid (HB0.out.trans ((B1.out.trans (bel2.mono B1.out.size)).mono HB0.out.size))
    clear bel2
    go_wp2
    go_ret
    exact ⟨rfl, HB2.out⟩
end
end Go.Proofs.YtfdpkhiiboghiaaGreatDoor
