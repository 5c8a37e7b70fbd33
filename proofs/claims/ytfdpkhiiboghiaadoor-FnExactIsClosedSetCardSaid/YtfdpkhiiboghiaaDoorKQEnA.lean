/- The model: l15Closed. The net of a closed set of links of a valid net is valid. The model: the parts of the links after some have been fired. Made by mkpba.py out of PbA.src. The model: l11Has, l13Parts, l13Ready, l13All. The model: l13All, l13Order, FiringOrder, LastFiringOrder, StuckLinks, CorrectByParsing. Made by mkpbc.py. The model: StuckLinks, l13Correct, CorrectByParsing. Made by mkpbd.py. The model: l15Border, l15Sub, IsClosedSet, SubNet, BorderOf, IsSubnetSet. Made by mkenb.py. The program's net with producers and consumers: wiredNetOf, isInBorder, isClosed. -/
import Derived.Test.YtfdpkhiiboghiaaDoorKQPaD
import Derived.Test.YtfdpkhiiboghiaaDoorKQLxP
import Derived.Deep.RegionHeldLaw
import Derived.Deep.DeepCutAuto
import Derived.BigQuiet
import Derived.Test.YtfdpkhiiboghiaaDoorKQPaM
import Derived.Deep.LoopGhost
import Derived.Maps.AppendAt
namespace Go.Proofs.YtfdpkhiiboghiaaDoor
set_option linter.unusedSimpArgs false
set_option linter.unusedVariables false
section
set_option linter.unusedSimpArgs false
set_option linter.unusedVariables false
open Go.ChangeAt Go.ChangeShapes Go.RowKit Go.WideShapes

theorem ccM_q {N : Nt} {ks : List Int} {k : Nat} (hk : k < ks.length) (h : inQ N.l.length ks k = false) : ccM N ks = false := by
  unfold ccM
  have : (List.range ks.length).all (inQ N.l.length ks) = false := by
    rw [List.all_eq_false]; exact ⟨k, List.mem_range.2 hk, by rw [h]; decide⟩
  rw [this]; rfl
theorem ccM_k {N : Nt} {ks : List Int} {k : Nat} (hk : k < ks.length) (h : inKB N (kS ks) (ks.getD k 0) = false) : ccM N ks = false := by
  unfold ccM; rw [all_bad (d := (0 : Int)) hk h]; simp
theorem ccM_y {N : Nt} {ks : List Int} (h1 : (List.range ks.length).all (inQ N.l.length ks) = true) (h2 : ks.all (inKB N (kS ks)) = true) : ccM N ks = decide (0 < ks.length) := by
  unfold ccM; rw [h1, h2, Bool.true_and, Bool.true_and]
theorem range_step {p : Nat → Bool} {k : Nat} (h : (List.range k).all p = true) (hp : p k = true) : (List.range (k + 1)).all p = true := by
  rw [List.range_succ, List.all_append, h]; simp [hp]
set_option maxRecDepth 100000 in
set_option maxHeartbeats 1000000 in
theorem sClosed_any (h : NH) (N : Nt) (A : Option Addr) (n c : Nat) (ks : List Int) (w : World) (hv : valN N = true) (r : RdN w w.heap.size h N) (rk : RdI w w.heap.size A n ks) (hkl : n ≤ 1048576) :
    Calls Tryd.prog 15 #[.agg #[.slice h.A N.w.length h.c, .slice h.L N.l.length h.d, .slice h.C N.c.length h.e], .slice A n c] w fun e w' => e = .returned (.bool (ccM N ks)) ∧ Below w.heap.size w w' := by
  have hkn := rk.1
  subst hkn
  obtain ⟨h48, h48l⟩ := valN_size hv
  obtain ⟨w0, hw0⟩ : ∃ w0, w0 = w.alloc (.cells #[.slice h.A N.w.length h.c, .slice h.L N.l.length h.d, .slice h.C N.c.length h.e] 31) := ⟨_, rfl⟩
  obtain ⟨hb, g0, hsz⟩ := box3_any w (.slice h.A N.w.length h.c) (.slice h.L N.l.length h.d) (.slice h.C N.c.length h.e) 31
  rw [← hw0] at hb g0 hsz
  have hs0 : w.heap.size < w0.heap.size := by omega
  have HKF := Lib.hid (fun (wx : World) (hx : Below w0.heap.size w0 wx) => three_cells ((hx.block w.heap.size (by omega)).trans g0))
  have HR := Lib.hid (fun (wx : World) (hx : Below w0.heap.size w0 wx) => show RdN wx wx.heap.size h N from (r.below (hb.trans (hx.mono hb.size))).more (Nat.le_trans hb.size hx.size))
  have HRK := Lib.hid (fun (wx : World) (hx : Below w0.heap.size w0 wx) => show RdI wx wx.heap.size A ks.length ks from (rk.below (hb.trans (hx.mono hb.size))).more (Nat.le_trans hb.size hx.size))
  have HIR := Lib.hid (fun (x : Int) (wx : World) (n : Nat) => quiet_sm (w := wx) (n := n) (inRange_any x 0 ((N.l.length : Int) - 1) (wx.drewN n)))
  have hwl : IntKind.i64.wrap ((N.l.length : Int) - 1) = (N.l.length : Int) - 1 := IntWalk.i64_in _ (by omega)
  have HFR := Lib.hid (fun (wx : World) (hx : Below w0.heap.size w0 wx) (x : Int) (h1 : inW N.w.length x = true) => show Calls Tryd.prog 26 #[.agg #[.slice h.A N.w.length h.c, .slice h.L N.l.length h.d, .slice h.C N.c.length h.e], .int .i64 x] wx fun e w' => e = .returned (.int .i64 (frN N x : Nat)) ∧ Below wx.heap.size wx w' from by
    have := smFrom_any h.A h.L h.C N.w.length h.c h.d N.c.length h.e N.l x wx (HR.out wx hx).2.1 (by omega)
    rw [from_lxQ hv, (fr_lt hv h1).1] at this
    exact this)
  have HHA := Lib.hid (fun (wx : World) (hx : Below w0.heap.size w0 wx) (k : Nat) => show Calls Tryd.prog 25 #[.slice A ks.length c, .int .i64 k] wx fun e w' => e = .returned (.bool (kS ks k)) ∧ w' = wx from sHasQ_any A ks.length c ks (k : Int) wx hkl (HRK.out wx hx))
  have HLF := Lib.hid (fun (k : Nat) (hk : k < N.l.length) (x : Int) (hx : x ∈ inL (N.l.getD k Lk.nil)) => in_in hv hk hx)
  have HB0 := Lib.hid hb
  obtain ⟨y0, y1, y2⟩ := HKF.out _ (Below.refl _ w0)
  clear hb g0 hsz r rk hv
  go_enter Tryd.func15, Tryd.ntmps15
  go_upto_region 1 with (fail)
  rw [← hw0]
  clear hw0
  clear y0 y1 y2
  go_wp2
  go_loopw [5] (fun i wx => ∃ k : Nat, k ≤ ks.length ∧ i = .int .i64 k ∧ (List.range k).all (inQ N.l.length ks) = true ∧ Below w0.heap.size w0 wx) (fun i _ => ks.length - (intOf i).toNat)
  case atStart => exact ⟨0, Nat.zero_le _, rfl, rfl, Below.refl _ _⟩
  case round =>
    obtain ⟨k, hk, rfl, hall, hB⟩ := hrel
    by_cases hlt : k < ks.length
    · obtain ⟨y0, y1, y2⟩ := HKF.out _ hB
      obtain ⟨b, off, hAe, hbb, hcells⟩ := (HRK.out _ hB).2 (by omega)
      have x0 := hcells k hlt
      have hki : (k : Int) < (ks.length : Int) := by omega
      have HIX := Lib.hid (fun n => HIR.out (ks.getD k 0) wr n)
      have HBN := Lib.hid (fun n => below_drewN hB n)
      have HST := Lib.hid (fun (e : inQ N.l.length ks k = true) => range_step hall e)
      have HBD := Lib.hid (fun (e : inQ N.l.length ks k = false) => ccM_q hlt e)
      have HQ : Hid (inQ N.l.length ks k = (inW N.l.length (ks.getD k 0) && !(decide (0 < k) && decide (ks.getD k 0 ≤ ks.getD (k - 1) 0)))) := Lib.hid rfl
      have HIW : Hid (inW N.l.length (ks.getD k 0) = decide (0 ≤ ks.getD k 0 ∧ ks.getD k 0 ≤ (N.l.length : Int) - 1)) := Lib.hid rfl
      rw [← HIW.out] at HIX
      clear hall
      cases hin : inW N.l.length (ks.getD k 0) with
      | false =>
        rw [hin] at HIX
        have HE := Lib.hid (HBD.out (by rw [HQ.out, hin]; rfl)).symm
        generalize ks.getD k 0 = x at *
        clear hcells hin
        subst hAe
        go_upto_region 4 with (fail)
        go_quiet (first | (go_at_call 24; exact HIX.out _))
        have HBQ := Lib.hid (HB0.out.trans ((HBN.out nq).mono HB0.out.size))
        clear x0 y0 y1 y2
        go_wp2
        go_ret
        exact ⟨ret_bool HE.out, HBQ.out⟩
      | true =>
        rw [hin] at HIX
        by_cases hk0 : k = 0
        · have d1 : decide (0 < (k : Int)) = false := decide_eq_false (by omega)
          have d3 : decide (0 < k) = false := decide_eq_false (by omega)
          have HS2 := Lib.hid (HST.out (by rw [HQ.out, hin, decide_eq_false (by omega)]; rfl))
          generalize ks.getD k 0 = x at *
          clear hcells hin hk0
          subst hAe
          go_upto_region 4 with (fail)
          go_quiet (first | (go_at_call 24; exact HIX.out _))
          have HBQ := Lib.hid (HBN.out nq)
          clear x0 y0 y1 y2
          go_wp2
          go_roundw
          case rel => exact ⟨k + 1, by omega, by go_num, HS2.out, HBQ.out⟩
          case measure => simp [intOf]; omega
        · have d1 : decide (0 < (k : Int)) = true := decide_eq_true (by omega)
          have d3 : decide (0 < k) = true := decide_eq_true (by omega)
          have x1 := hcells (k - 1) (by omega)
          have hwk : IntKind.i64.wrap ((k : Int) - 1) = ((k - 1 : Nat) : Int) := by rw [IntWalk.i64_in _ (by omega)]; omega
          have hk1 : ((k - 1 : Nat) : Int) < (ks.length : Int) := by omega
          by_cases hle : ks.getD k 0 ≤ ks.getD (k - 1) 0
          · have d2 : decide (ks.getD k 0 ≤ ks.getD (k - 1) 0) = true := decide_eq_true hle
            have HE := Lib.hid (HBD.out (by rw [HQ.out, hin, decide_eq_true (show 0 < k by omega), d2]; rfl)).symm
            generalize ks.getD k 0 = x at *
            generalize ks.getD (k - 1) 0 = y at *
            generalize k - 1 = k1 at *
            clear hcells hin hle
            subst hAe
            go_upto_region 4 with (fail)
            go_quiet (first | (go_at_call 24; exact HIX.out _))
            have HBQ := Lib.hid (HB0.out.trans ((HBN.out nq).mono HB0.out.size))
            clear x0 x1 y0 y1 y2
            go_wp2
            go_ret
            exact ⟨ret_bool HE.out, HBQ.out⟩
          · have d2 : decide (ks.getD k 0 ≤ ks.getD (k - 1) 0) = false := decide_eq_false hle
            have HS2 := Lib.hid (HST.out (by rw [HQ.out, hin, decide_eq_true (show 0 < k by omega), d2]; rfl))
            generalize ks.getD k 0 = x at *
            generalize ks.getD (k - 1) 0 = y at *
            obtain ⟨k1, hk1e⟩ : ∃ k1, k - 1 = k1 := ⟨_, rfl⟩
            rw [hk1e] at hwk hk1 x1
            clear hcells hin hle hk1e
            subst hAe
            go_upto_region 4 with (fail)
            go_quiet (first | (go_at_call 24; exact HIX.out _))
            have HBQ := Lib.hid (HBN.out nq)
            clear x0 x1 y0 y1 y2
            go_wp2
            go_roundw
            case rel => exact ⟨k + 1, by omega, by go_num, HS2.out, HBQ.out⟩
            case measure => simp [intOf]; omega
    · have hkk : k = ks.length := by omega
      subst hkk
      have HALL := Lib.hid hall
      have HINR : Hid (∀ j, j < ks.length → inW N.l.length (ks.getD j 0) = true) := Lib.hid fun j hj => by
        have := List.all_eq_true.1 hall j (List.mem_range.2 hj)
        unfold inQ at this
        rw [Bool.and_eq_true] at this
        exact this.1
      have HB := Lib.hid hB
      clear hall hB
      go_wp2
      go_loopw [6] (fun i wx => ∃ k : Nat, k ≤ ks.length ∧ i = .int .i64 k ∧ (ks.take k).all (inKB N (kS ks)) = true ∧ Below w0.heap.size w0 wx) (fun i _ => ks.length - (intOf i).toNat)
      case atStart => exact ⟨0, Nat.zero_le _, rfl, rfl, HB.out⟩
      case round =>
        rename World => wy
        obtain ⟨k, hk, rfl, hall, hB⟩ := hrel
        by_cases hlt : k < ks.length
        · obtain ⟨y0, y1, y2⟩ := HKF.out _ hB
          obtain ⟨b, off, hAe, hbb, hcells⟩ := (HRK.out _ hB).2 (by omega)
          have x0 := hcells k hlt
          have hin := HINR.out k hlt
          obtain ⟨_, hj, hje⟩ := inW_yes hin
          obtain ⟨bL, oL, hLe, hbL, hcL⟩ := (HR.out _ hB).2.1.at (by omega)
          obtain ⟨l0, l1, l2, l3⟩ := hcL _ hj
          have HST := Lib.hid (fun (e : inKB N (kS ks) (ks.getD k 0) = true) => all_step (d := (0 : Int)) hlt hall e)
          have HBD := Lib.hid (fun (e : inKB N (kS ks) (ks.getD k 0) = false) => ccM_k hlt e)
          have HKB : Hid (inKB N (kS ks) (ks.getD k 0) = (inL (N.l.getD (ks.getD k 0).toNat Lk.nil)).all fun y => kS ks (frN N y)) := Lib.hid rfl
          have HXI := Lib.hid (HLF.out _ hj)
          have HBH := Lib.hid hB
          generalize inKB N (kS ks) (ks.getD k 0) = res at *
          generalize (ks.getD k 0).toNat = j at *
          rw [hje] at x0
          have hji : (j : Int) < (N.l.length : Int) := by omega
          generalize N.l.getD j Lk.nil = l at *
          obtain ⟨lk, la, lb, lc⟩ := l
          dsimp only at l0 l1 l2 l3
          rw [hLe] at y1
          clear hcells hcL hin hje hall hB hLe
          subst hAe
          go_upto_region 9 with (fail)
          have HAL : Hid (Below wy.heap.size wy (wy.alloc (.cells #[.int .i64 0, .int .i64 0, .int .i64 0, .int .i64 0] 53))) := Lib.hid ((Below.refl _ _).alloc (Nat.le_refl _) _)
          have hyl := HBH.out.size
          have v1 := (HAL.out.cell (p := ⟨w.heap.size, 1, none⟩) (by show w.heap.size < _; omega)).trans y1
          have v0 := (HAL.out.cell (p := ⟨b, off + k, none⟩) hbb).trans x0
          have m0 := (HAL.out.cell (p := ⟨bL, oL + j * 4, none⟩) hbL).trans l0
          have m1 := (HAL.out.cell (p := ⟨bL, oL + j * 4 + 1, none⟩) hbL).trans l1
          have m2 := (HAL.out.cell (p := ⟨bL, oL + j * 4 + 2, none⟩) hbL).trans l2
          have m3 := (HAL.out.cell (p := ⟨bL, oL + j * 4 + 3, none⟩) hbL).trans l3
          go_region
          clear v0 v1 m0 m1 m2 m3 HAL
          obtain ⟨u4, hu4⟩ : ∃ u, u = (wy.alloc (.cells #[.int .i64 lk, .int .i64 la, .int .i64 lb, .int .i64 lc] 53)).drew := ⟨_, rfl⟩
          rw [← hu4]
          have hb4 : Below wy.heap.size wy u4 := by rw [hu4]; exact ((Below.refl _ _).alloc (Nat.le_refl _) _).drew
          have hg4 : u4.heap[wy.heap.size]? = some (.cells #[.int .i64 lk, .int .i64 la, .int .i64 lb, .int .i64 lc] 53 (0, 0)) := by rw [hu4]; exact heap_alloc_new _ _
          have hl4 := (Array.getElem?_eq_some_iff.1 hg4).1
          have B4 := Lib.hid (HBH.out.trans (hb4.mono HBH.out.size))
          have HZ := Lib.hid (fun (wx : World) (hx : Below u4.heap.size u4 wx) => four_cellsQ ((hx.block _ hl4).trans hg4))
          clear hu4 hb4 hg4 hl4 x0 l0 l1 l2 l3 y0 y1 y2
          obtain ⟨z0, z1, z2, z3⟩ := HZ.out u4 (Below.refl _ _)
          by_cases h1 : lk = 1
          · have d1 : (lk != 1) = false := by simp [h1]
            have HS2 := Lib.hid (HST.out (by rw [HKB.out]; unfold inL; rw [if_pos h1]; rfl))
            clear h1
            go_wp2
            go_roundw
            case rel => exact ⟨k + 1, by omega, by go_num, HS2.out, B4.out⟩
            case measure => simp [intOf]; omega
          · have d1 : (lk != 1) = true := by simp [h1]
            have hil : inL ⟨lk, la, lb, lc⟩ = [la, lb] := by unfold inL; rw [if_neg h1]
            rw [hil] at HXI HKB
            have ia := HXI.out la (by simp)
            have ib := HXI.out lb (by simp)
            have HFA := Lib.hid (HFR.out u4 B4.out la ia)
            have HFB := Lib.hid (fun wx hx => HFR.out wx hx lb ib)
            have HK2 : Hid (res = (kS ks (frN N la) && kS ks (frN N lb))) := Lib.hid (by rw [HKB.out]; simp)
            clear h1 hil HXI HKB ia ib
            generalize frN N la = fa at *
            generalize frN N lb = fb at *
            obtain ⟨y0, y1, y2⟩ := HKF.out _ B4.out
            go_wp2_with (fail)
            refine HFA.out.mono ?_
            rintro e w5 ⟨rfl, bel5⟩
            have B5 := Lib.hid (B4.out.trans (bel5.mono B4.out.size))
            have HB5 := Lib.hid bel5
            have HHX := Lib.hid (HHA.out w5 B5.out fa)
            clear bel5 y0 y1 y2 z0 z1 z2 z3
            cases hp : kS ks fa with
            | false =>
              rw [hp] at HHX
              have HE := Lib.hid (HBD.out (by rw [HK2.out, hp]; rfl)).symm
              clear hp
              go_wp2_with (fail)
              refine HHX.out.mono ?_
              rintro e w6 ⟨rfl, hw6⟩
              subst hw6
              have HBB := Lib.hid (HB0.out.trans (B5.out.mono HB0.out.size))
              go_wp2
              go_ret
              exact ⟨ret_bool HE.out, HBB.out⟩
            | true =>
              rw [hp] at HHX
              have HK3 : Hid (res = kS ks fb) := Lib.hid (by rw [HK2.out, hp]; rfl)
              clear hp
              go_wp2_with (fail)
              refine HHX.out.mono ?_
              rintro e w6 ⟨rfl, hw6⟩
              subst hw6
              obtain ⟨y0, y1, y2⟩ := HKF.out _ B5.out
              obtain ⟨z0, z1, z2, z3⟩ := HZ.out _ HB5.out
              go_wp2_with (fail)
              refine (HFB.out _ B5.out).mono ?_
              rintro e w7 ⟨rfl, bel7⟩
              have B7 := Lib.hid (B5.out.trans (bel7.mono B5.out.size))
              have HHY := Lib.hid (HHA.out w7 B7.out fb)
              clear bel7 y0 y1 y2 z0 z1 z2 z3
              cases hq : kS ks fb with
              | false =>
                rw [hq] at HHY
                have HE := Lib.hid (HBD.out (by rw [HK3.out, hq])).symm
                clear hq
                go_wp2_with (fail)
                refine HHY.out.mono ?_
                rintro e w8 ⟨rfl, hw8⟩
                subst hw8
                have HBB := Lib.hid (HB0.out.trans (B7.out.mono HB0.out.size))
                go_wp2
                go_ret
                exact ⟨ret_bool HE.out, HBB.out⟩
              | true =>
                rw [hq] at HHY
                have HS2 := Lib.hid (HST.out (by rw [HK3.out, hq]))
                clear hq
                go_wp2_with (fail)
                refine HHY.out.mono ?_
                rintro e w8 ⟨rfl, hw8⟩
                subst hw8
                go_wp2
                go_roundw
                case rel => exact ⟨k + 1, by omega, by go_num, HS2.out, B7.out⟩
                case measure => simp [intOf]; omega
        · have hkk : k = ks.length := by omega
          subst hkk
          rw [List.take_length] at hall
          have HE := Lib.hid (ccM_y HALL.out hall).symm
          have HBB := Lib.hid (HB0.out.trans (hB.mono HB0.out.size))
          clear hall hB
          go_wp2
          go_ret
          exact ⟨ret_bool HE.out, HBB.out⟩
end
section
set_option linter.unusedSimpArgs false
set_option linter.unusedVariables false
open Go.ChangeAt Go.ChangeShapes Go.RowKit Go.WideShapes
end
section
set_option linter.unusedSimpArgs false
set_option linter.unusedVariables false
open Go.ChangeAt Go.ChangeShapes Go.RowKit Go.WideShapes

/-- Two parts renamed. -/
def rn2 (P : List Int) (x a b : Int) : List Int := P.map fun p => if p = a ∨ p = b then x else p
theorem rn2_len (P : List Int) (x a b : Int) : (rn2 P x a b).length = P.length := by simp [rn2]
/-- A row of which the first j elements have been renamed. -/
def Ren2 (P : List Int) (x a b : Int) (j : Nat) (Q : List Int) : Prop := Q.length = P.length ∧ (∀ i, i < j → i < P.length → Q.getD i 0 = (rn2 P x a b).getD i 0) ∧ ∀ i, j ≤ i → i < P.length → Q.getD i 0 = P.getD i 0
theorem Ren2.zero (P : List Int) (x a b : Int) : Ren2 P x a b 0 P := ⟨rfl, fun i hi => absurd hi (by omega), fun _ _ _ => rfl⟩
theorem Ren2.done {P Q : List Int} {x a b : Int} (h : Ren2 P x a b P.length Q) : Q = rn2 P x a b := by
  obtain ⟨h1, h2, _⟩ := h
  have hr := rn2_len P x a b
  refine List.ext_getElem? fun i => ?_
  by_cases hi : i < P.length
  · have e := h2 i hi hi
    have q1 : i < Q.length := by omega
    have q2 : i < (rn2 P x a b).length := by omega
    simp only [List.getD, List.getElem?_eq_getElem q1, List.getElem?_eq_getElem q2, Option.getD_some] at e
    rw [List.getElem?_eq_getElem q1, List.getElem?_eq_getElem q2, e]
  · rw [List.getElem?_eq_none (by omega), List.getElem?_eq_none (by omega)]
end
section
set_option linter.unusedSimpArgs false
set_option linter.unusedVariables false
open Go.ChangeAt Go.ChangeShapes Go.RowKit Go.WideShapes
end
section
set_option linter.unusedSimpArgs false
set_option linter.unusedVariables false
open Go.ChangeAt Go.ChangeShapes Go.RowKit Go.WideShapes
end
section
set_option linter.unusedSimpArgs false
set_option linter.unusedVariables false
open Go.ChangeAt Go.ChangeShapes Go.RowKit Go.WideShapes
end
section
set_option linter.unusedSimpArgs false
set_option linter.unusedVariables false
open Go.ChangeAt Go.ChangeShapes Go.RowKit Go.WideShapes

set_option maxRecDepth 100000 in
set_option maxHeartbeats 1000000 in
theorem sIsClosedSet_any (h : NH) (N : Nt) (A : Option Addr) (n c : Nat) (ks : List Int) (w : World) (r : RdN w w.heap.size h N) (rk : RdI w w.heap.size A n ks) (hkl : n ≤ 1048576) (hn : N.w.length ≤ 1048576) (hl : N.l.length ≤ 1048576) (hc : N.c.length ≤ 1048576) :
    Calls Tryd.prog 5 #[.agg #[.slice h.A N.w.length h.c, .slice h.L N.l.length h.d, .slice h.C N.c.length h.e], .slice A n c] w fun e w' => e = .returned (.bool (csB N ks)) ∧ Below w.heap.size w w' := by
  have hkn := rk.1
  subst hkn
  obtain ⟨w0, hw0⟩ : ∃ w0, w0 = w.alloc (.cells #[.slice h.A N.w.length h.c, .slice h.L N.l.length h.d, .slice h.C N.c.length h.e] 31) := ⟨_, rfl⟩
  obtain ⟨hb, g0, hsz⟩ := box3_any w (.slice h.A N.w.length h.c) (.slice h.L N.l.length h.d) (.slice h.C N.c.length h.e) 31
  rw [← hw0] at hb g0 hsz
  have HKF := Lib.hid (fun (wx : World) (hx : Below w0.heap.size w0 wx) => three_cells ((hx.block w.heap.size (by omega)).trans g0))
  have HR := Lib.hid (fun (wx : World) (hx : Below w0.heap.size w0 wx) => show RdN wx wx.heap.size h N from (r.below (hb.trans (hx.mono hb.size))).more (Nat.le_trans hb.size hx.size))
  have HRK := Lib.hid (fun (wx : World) (hx : Below w0.heap.size w0 wx) => show RdI wx wx.heap.size A ks.length ks from (rk.below (hb.trans (hx.mono hb.size))).more (Nat.le_trans hb.size hx.size))
  have HB0 := Lib.hid hb
  obtain ⟨y0, y1, y2⟩ := HKF.out _ (Below.refl _ w0)
  have HV := Lib.hid (sValidNet_any h N w0 ((r.below hb).more hb.size) hn hl hc)
  have HC := Lib.hid (fun (wx : World) (hx : Below w0.heap.size w0 wx) (hv : valN N = true) => sClosed_any h N A ks.length c ks wx hv (HR.out wx hx) (HRK.out wx hx) hkl)
  clear hb g0 hsz r rk hn hl hc
  cases hv : valN N with
  | false =>
    rw [hv] at HV
    have HE : Hid (false = csB N ks) := Lib.hid (by unfold csB; rw [hv]; rfl)
    clear hv
    go_enter Tryd.func5, Tryd.ntmps5
    go_upto_region 1 with (fail)
    rw [← hw0]
    clear hw0
    go_wp2_with (fail)
    refine HV.out.mono ?_
    rintro e w1 ⟨rfl, bel1⟩
    have B1 := Lib.hid (HB0.out.trans (bel1.mono HB0.out.size))
    clear bel1 y0 y1 y2
    go_wp2
    go_ret
    exact ⟨ret_bool HE.out, B1.out⟩
  | true =>
    rw [hv] at HV
    have HE := Lib.hid (ccM_is hv ks)
    have HCX := Lib.hid (fun wx hx => HC.out wx hx hv)
    clear hv
    go_enter Tryd.func5, Tryd.ntmps5
    go_upto_region 1 with (fail)
    rw [← hw0]
    clear hw0
    go_wp2_with (fail)
    refine HV.out.mono ?_
    rintro e w1 ⟨rfl, bel1⟩
    have B1 := Lib.hid bel1
    clear bel1 y0 y1 y2
    obtain ⟨y0, y1, y2⟩ := HKF.out _ B1.out
    go_wp2_with (fail)
    refine (HCX.out w1 B1.out).mono ?_
    rintro e w2 ⟨rfl, bel2⟩
    have B2 := Lib.hid (HB0.out.trans ((B1.out.trans (bel2.mono B1.out.size)).mono HB0.out.size))
    clear bel2 y0 y1 y2
    go_wp2
    go_ret
    exact ⟨ret_bool HE.out, B2.out⟩
end
section
set_option linter.unusedSimpArgs false
set_option linter.unusedVariables false
open Go.ChangeAt Go.ChangeShapes Go.RowKit Go.WideShapes

theorem five_cells {w : World} {b : Nat} {a0 a1 a2 a3 a4 : Value} {t : TypeId} (h : w.heap[b]? = some (.cells #[a0, a1, a2, a3, a4] t (0, 0))) : w.cell? ⟨b, 0, none⟩ = some a0 ∧ w.cell? ⟨b, 1, none⟩ = some a1 ∧ w.cell? ⟨b, 2, none⟩ = some a2 ∧ w.cell? ⟨b, 3, none⟩ = some a3 ∧ w.cell? ⟨b, 4, none⟩ = some a4 :=
  ⟨cell_of_row _ _ 0 _ _ (0, 0) h, cell_of_row _ _ 1 _ _ (0, 0) h, cell_of_row _ _ 2 _ _ (0, 0) h, cell_of_row _ _ 3 _ _ (0, 0) h, cell_of_row _ _ 4 _ _ (0, 0) h⟩
theorem set5_at {w : World} {b : Nat} {c0 c1 c2 c3 c4 : Value} {t : TypeId} (h : w.heap[b]? = some (.cells #[c0, c1, c2, c3, c4] t (0, 0))) (v0 v1 v2 v3 v4 : Value) :
    (((((w.setCell ⟨b, 0, none⟩ v0).setCell ⟨b, 1, none⟩ v1).setCell ⟨b, 2, none⟩ v2).setCell ⟨b, 3, none⟩ v3).setCell ⟨b, 4, none⟩ v4).heap[b]? = some (.cells #[v0, v1, v2, v3, v4] t (0, 0)) := by
  have h0 := heap_setCell_same w b 0 _ t v0 h
  have h1 := heap_setCell_same _ b 1 _ t v1 h0
  have h2 := heap_setCell_same _ b 2 _ t v2 h1
  have h3 := heap_setCell_same _ b 3 _ t v3 h2
  have h4 := heap_setCell_same _ b 4 _ t v4 h3
  simpa using h4
theorem set5_below {w0 w : World} {B b : Nat} (h : Below B w0 w) (hb : B ≤ b) (v0 v1 v2 v3 v4 : Value) : Below B w0 (((((w.setCell ⟨b, 0, none⟩ v0).setCell ⟨b, 1, none⟩ v1).setCell ⟨b, 2, none⟩ v2).setCell ⟨b, 3, none⟩ v3).setCell ⟨b, 4, none⟩ v4) :=
  ((((h.setCell (p := ⟨b, 0, none⟩) hb _).setCell (p := ⟨b, 1, none⟩) hb _).setCell (p := ⟨b, 2, none⟩) hb _).setCell (p := ⟨b, 3, none⟩) hb _).setCell (p := ⟨b, 4, none⟩) hb _
theorem set5_heap {w : World} {g k : Nat} (h : k ≠ g) (v0 v1 v2 v3 v4 : Value) : (((((w.setCell ⟨g, 0, none⟩ v0).setCell ⟨g, 1, none⟩ v1).setCell ⟨g, 2, none⟩ v2).setCell ⟨g, 3, none⟩ v3).setCell ⟨g, 4, none⟩ v4).heap[k]? = w.heap[k]? :=
  (Below.heap_setCell _ _ _ _ (by show k ≠ g; exact h)).trans ((Below.heap_setCell _ _ _ _ (by show k ≠ g; exact h)).trans ((Below.heap_setCell _ _ _ _ (by show k ≠ g; exact h)).trans ((Below.heap_setCell _ _ _ _ (by show k ≠ g; exact h)).trans (Below.heap_setCell _ _ _ _ (by show k ≠ g; exact h)))))
/-- A net with the producer and the consumer of each wire. -/
structure RdWr (w : World) (h : NH) (N : Nt) (P Q : Option Addr) : Prop where
  n : RdN w w.heap.size h N
  p : RdI w w.heap.size P N.w.length (lxL outL N)
  q : RdI w w.heap.size Q N.w.length (lxL inL N)
theorem RdWr.below {w w' : World} {h : NH} {N : Nt} {P Q : Option Addr} (r : RdWr w h N P Q) (hb : Below w.heap.size w w') : RdWr w' h N P Q :=
  ⟨(r.n.below hb).more hb.size, (r.p.below hb).more hb.size, (r.q.below hb).more hb.size⟩
/-- A row lies at or above block B. -/
def FarI (n : Nat) (A : Option Addr) (B : Nat) : Prop := 0 < n → ∀ b off, A = some ⟨b, off, none⟩ → B ≤ b
theorem farI_own {w : World} {c n lo : Nat} {A : Option Addr} {xs : List Value} (h : w.ownsRow lo 2 1 (.slice A n c) n xs) : FarI n A lo := fun hn b off e => by
  obtain ⟨g, cap, hv, hlo, hhi⟩ := h.form hn
  injection hv with e1 e2 e3
  rw [e1] at e
  injection e with e
  injection e with e4
  omega
theorem rdi_but {w u : World} {B n lo g : Nat} {A : Option Addr} {xs : List Int} (r : RdI w B A n xs) (hf : FarI n A lo) (hg : g < lo) (hu : ∀ k, k ≠ g → u.heap[k]? = w.heap[k]?) : RdI u B A n xs :=
  ⟨r.1, fun hn => by
    obtain ⟨b, off, e, hb, hc⟩ := r.2 hn
    have := hf hn b off e
    have hk := hu b (by omega)
    refine ⟨b, off, e, hb, fun j hj => ?_⟩
    refine (World.cell?_of_block hk).trans ?_
    exact hc j hj⟩
theorem results_cell_tt {P : Program} {fn : Func} {p q u : Tmp} {ty : TypeId} (h : fn.results = #[.cell p ty, .tmp q, .tmp u]) (tmps : Array Value) (w : World) (g : Nat) (t : TypeId) (cs : Array Value) (fr : Nat × Nat) (d : TypeDesc)
    (hp : tmps.getD p undef = .pointer (some ⟨g, 0, none⟩)) (hg : w.heap[g]? = some (.cells cs t fr))
    (hu : P.underlying ty = some d) (hd : (match d with | .struct _ | .array _ _ => true | _ => false) = true) (hi : (P.info? ty).map (·.size) = some cs.size) :
    (results fn tmps).run P w = .ok (.tuple #[.agg cs, tmps.getD q undef, tmps.getD u undef]) w := by
  have e : (results fn tmps).run P w = ((asAddr (tmps.getD p undef)).run P w).andThen fun a w₁ => ((loadVar ty a).run P w₁).andThen fun x w₂ => .ok (.tuple #[x, tmps.getD q undef, tmps.getD u undef]) w₂ := by
    simp only [results, h]
    simp [Sem.run_bind, Result.andThen]
  have hp' : tmps[p]?.getD undef = .pointer (some ⟨g, 0, none⟩) := by simpa using hp
  rw [e]
  simp [hp', asAddr, run_loadVar_row w g t ty cs fr d hg hu hd hi, Result.andThen]
def GivesWr (w : World) (h : NH) (N : Nt) (e : Ending) (w' : World) : Prop :=
  ∃ (P Q : Option Addr) (c d : Nat), e = .returned (.agg #[.slice h.A N.w.length h.c, .slice h.L N.l.length h.d, .slice h.C N.c.length h.e, .slice P N.w.length c, .slice Q N.w.length d]) ∧ RdWr w' h N P Q ∧ FarI N.w.length P w.heap.size ∧ FarI N.w.length Q w.heap.size ∧ Below w.heap.size w w'
theorem rdi_far {w u : World} {c n lo : Nat} {A : Option Addr} {xs : List Int} (h : w.ownsRow lo 2 1 (.slice A n c) n (xs.map (Value.int .i64))) (hx : xs.length = n) (hf : ∀ b, lo ≤ b → b < w.heap.size → u.heap[b]? = w.heap[b]?) (hs : w.heap.size ≤ u.heap.size) : RdI u u.heap.size A n xs := by
  refine ⟨hx, fun hn => ?_⟩
  obtain ⟨b, cap, hv, hlo, hhi⟩ := h.form hn
  injection hv with e1 e2 e3
  subst e1
  refine ⟨b, 0, rfl, Nat.lt_of_lt_of_le hhi hs, fun j hj => ?_⟩
  refine (World.cell?_of_block (hf b hlo hhi)).trans ?_
  have := h.cellAt (g := b) j (by omega)
  rw [Nat.zero_add, this, List.getElem?_map]
  simp [List.getD, show j < xs.length by omega]
set_option maxRecDepth 100000 in
set_option maxHeartbeats 1000000 in
theorem wiredNetOf_any (h : NH) (N : Nt) (w : World) (hv : valN N = true) (r : RdN w w.heap.size h N) :
    Calls Tryd.prog 30 #[.agg #[.slice h.A N.w.length h.c, .slice h.L N.l.length h.d, .slice h.C N.c.length h.e]] w (GivesWr w h N) := by
  obtain ⟨w0, hw0⟩ : ∃ w0, w0 = (w.alloc (.cells #[.slice h.A N.w.length h.c, .slice h.L N.l.length h.d, .slice h.C N.c.length h.e] 31)).alloc (.cells #[.slice none 0 0, .slice none 0 0, .slice none 0 0, .slice none 0 0, .slice none 0 0] 44) := ⟨_, rfl⟩
  obtain ⟨hb, g0, g1, hsz⟩ := two_any' w (.cells #[.slice h.A N.w.length h.c, .slice h.L N.l.length h.d, .slice h.C N.c.length h.e] 31) (.cells #[.slice none 0 0, .slice none 0 0, .slice none 0 0, .slice none 0 0, .slice none 0 0] 44)
  rw [← hw0] at hb g0 g1 hsz
  have hs0 : w.heap.size + 2 ≤ w0.heap.size := by omega
  have HKF := Lib.hid (fun (wx : World) (hx : Below w0.heap.size w0 wx) => three_cells ((hx.block w.heap.size (by omega)).trans g0))
  have HKS := Lib.hid (fun (wx : World) (hx : Below w0.heap.size w0 wx) (v0 v1 v2 v3 v4 : Value) => three_cells ((set5_heap (w := wx) (g := w.heap.size + 1) (k := w.heap.size) (by omega) v0 v1 v2 v3 v4).trans ((hx.block w.heap.size (by omega)).trans g0)))
  have HK2 := Lib.hid (fun (wx : World) (hx : Below w0.heap.size w0 wx) => (hx.block (w.heap.size + 1) (by omega)).trans g1)
  have HO := Lib.hid (fun (wx : World) (hx : Below w0.heap.size w0 wx) => linksOut_any h N wx hv ((r.below (hb.trans (hx.mono hb.size))).more (Nat.le_trans hb.size hx.size)))
  have HIN := Lib.hid (fun (wx : World) (hx : Below w0.heap.size w0 wx) => linksIn_any h N wx hv ((r.below (hb.trans (hx.mono hb.size))).more (Nat.le_trans hb.size hx.size)))
  have BD : Hid (Below w0.heap.size w0 w0.drew) := Lib.hid ((Below.refl w0.heap.size w0).drew)
  have K0 := Lib.hid (HKF.out _ (Below.refl _ w0))
  have HB0 := Lib.hid hb
  have HRN := Lib.hid r
  have HWO := Lib.hid (lxL_len outL N); have HWI := Lib.hid (lxL_len inL N)
  obtain ⟨y0, y1, y2⟩ := HKF.out _ (Below.refl _ w0)
  have tok1 : True := trivial
  clear hb g0 g1 hsz r hv
  go_enter Tryd.func30, Tryd.ntmps30
  go_upto_region 1 with (fail)
  rw [← hw0]
  clear hw0
  go_region_held3 (fun wx => wx.cell? ⟨w.heap.size, 0, none⟩ = some (.slice h.A N.w.length h.c) ∧ wx.cell? ⟨w.heap.size, 1, none⟩ = some (.slice h.L N.l.length h.d) ∧ wx.cell? ⟨w.heap.size, 2, none⟩ = some (.slice h.C N.c.length h.e))
    (first | with_reducible exact HKS.out _ B2.out _ _ _ _ _ | with_reducible exact K0.out | with_reducible exact HKF.out _ BD.out | with_reducible exact HKF.out _ B1.out | with_reducible exact HKF.out _ B2.out)
    (first
      | (have _t := tok1; go_at_call 44; refine (HO.out w0.drew BD.out).mono ?_; rintro e u1 ⟨AF, cF, rfl, ownF, belF⟩; have B1 := Lib.hid (BD.out.trans (belF.mono BD.out.size)); have O1 := Lib.hid (ownF.mono BD.out.size); have tok2 : True := trivial; rw [HWO.out]; clear ownF belF tok1)
      | (have _t := tok2; go_at_call 44; refine (HIN.out u1 B1.out).mono ?_; rintro e u2 ⟨AG, cG, rfl, ownG, belG⟩; have B2 := Lib.hid (B1.out.trans (belG.mono B1.out.size)); have O2 := Lib.hid (ownG.mono B1.out.size); have O1b := Lib.hid (own_below O1.out belG (Nat.le_refl _)); have Q1 := Lib.hid (HK2.out _ B2.out); obtain ⟨a0, a1, a2, a3, a4⟩ := five_cells Q1.out; have f0 := frozen_of_row _ _ 0 _ _ Q1.out; have f1 := frozen_of_row _ _ 1 _ _ Q1.out; have f2 := frozen_of_row _ _ 2 _ _ Q1.out; have f3 := frozen_of_row _ _ 3 _ _ Q1.out; have f4 := frozen_of_row _ _ 4 _ _ Q1.out; rw [HWI.out]; clear ownG belG tok2))
  all_goals
    clear a0 a1 a2 a3 a4 f0 f1 f2 f3 f4 y0 y1 y2
    go_wp2
    (try simp only [Exit.inBlock, Exit.then])
    refine bodyPost_ret (results_cell_row rfl _ _ (w.heap.size + 1) _ _ (0, 0) _ rfl (set5_at Q1.out _ _ _ _ _) Tryd.underlying44 rfl (by kernel_rfl)) rfl ?_
    have o1 := O1b.out
    have o2 := O2.out
    rw [HWO.out] at o1
    rw [HWI.out] at o2
    refine ⟨AF, AG, cF, cG, rfl, ⟨?_, ?_, ?_⟩, fun hn b off e => Nat.le_trans HB0.out.size (farI_own o1 hn b off e), fun hn b off e => Nat.le_trans HB0.out.size (farI_own o2 hn b off e), set5_below (HB0.out.trans (B2.out.mono HB0.out.size)) (by omega) _ _ _ _ _⟩
    · refine (HRN.out.below (set5_below (HB0.out.trans (B2.out.mono HB0.out.size)) (by omega) _ _ _ _ _)).more ?_
      exact (set5_below (HB0.out.trans (B2.out.mono HB0.out.size)) (by omega) _ _ _ _ _).size
    · exact rdi_far o1 HWO.out (fun b h1 h2 => set5_heap (show b ≠ w.heap.size + 1 by omega) _ _ _ _ _) (by simp)
    · exact rdi_far o2 HWI.out (fun b h1 h2 => set5_heap (show b ≠ w.heap.size + 1 by omega) _ _ _ _ _) (by simp)
end
end Go.Proofs.YtfdpkhiiboghiaaDoor
