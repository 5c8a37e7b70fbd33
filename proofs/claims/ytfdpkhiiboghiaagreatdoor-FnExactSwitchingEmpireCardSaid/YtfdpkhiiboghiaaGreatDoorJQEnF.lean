/- The model: SwitchingEmpire. The program's net with producers and consumers: wiredNetOf, isInBorder, isClosed. The program: is a set of links closed? The program: closedSet. The program's border of a set of links. Made by mkemd.py. The program: the subnet of a closed set; SubNet, BorderOf, IsSubnetSet. The program: the subnet sets with a wire in their border; SubnetCount. slices.Clone and slices.IndexFunc at arcs; the closure that leaves arcs out. -/
import Derived.Test.YtfdpkhiiboghiaaGreatDoorJQPbC
import Derived.Test.YtfdpkhiiboghiaaGreatDoorJQEmR
import Derived.Test.YtfdpkhiiboghiaaGreatDoorJQPgL
import Derived.Test.YtfdpkhiiboghiaaGreatDoorJQSwQ
import Derived.Maps.AppendAt
import Derived.Deep.RegionHeldLaw
import Derived.Deep.DeepCutAuto
import Derived.BigQuiet
import Derived.Test.YtfdpkhiiboghiaaGreatDoorJQEmA
import Derived.Test.YtfdpkhiiboghiaaGreatDoorJQPaC
import Derived.Test.YtfdpkhiiboghiaaGreatDoorJQDual
import Derived.Test.YtfdpkhiiboghiaaGreatDoorJQPaF
import Derived.Lib.SliceRun
namespace Go.Proofs.YtfdpkhiiboghiaaGreatDoor
set_option linter.unusedSimpArgs false
set_option linter.unusedVariables false
section
set_option linter.unusedSimpArgs false
set_option linter.unusedVariables false
open Go.ChangeAt Go.ChangeShapes Go.RowKit Go.WideShapes

theorem isSw_bitsE {N : Nt} (hv : valN N = true) (y : Int) : isSw N (swU y (prkN N).length) = true := by
  unfold isSw
  rw [hv, swU_len, decide_eq_true rfl]
  refine List.all_eq_true.2 fun c hc => ?_
  exact decide_eq_true (swU_in y _ c hc)
theorem arcs_inE {N : Nt} {s : List Int} (hv : valN N = true) : ArcsIn N.l.length (mgU N s N.w.length) := fun a ha => by
  unfold mgU at ha
  obtain ⟨x, hx, rfl⟩ := List.mem_map.1 ha
  obtain ⟨hr, hp⟩ := List.mem_filter.1 hx
  have hxl : x < N.w.length := List.mem_range.1 hr
  have h1 := (Bool.and_eq_true _ _ ▸ hp).1
  have h2 := of_decide_eq_true h1
  have hf := fr_lt hv (x := (x : Int)) (decide_eq_true (by omega))
  have h5 := lxN_in inL N (x : Int)
  constructor
  · show inW N.l.length (lxN outL N (x : Int)) = true
    rw [hf.1]; exact decide_eq_true (by have := hf.2; omega)
  · show inW N.l.length (lxN inL N (x : Int)) = true
    exact decide_eq_true (by omega)
theorem seL_init (N : Nt) (x : Int) : mlS N.l.length (2 ^ N.l.length - 1) = seL N x 0 := by
  rw [seL_zero]; unfold mlS; exact selU_ext fun j hj => by rw [Nat.testBit_two_pow_sub_one]; exact decide_eq_true hj
theorem arT_yes {ar : List Ac} {x : Int} {k : Nat} (h : k < ar.length) (e : (ar.getD k Ac.nil).w ≠ x) : arW (ar.take (k + 1)) x = arW (ar.take k) x ++ [ar.getD k Ac.nil] := by
  unfold arW; rw [takeL_succ (d := Ac.nil) h, List.filter_append]
  congr 1
  generalize ar.getD k Ac.nil = a at *
  simp [e]
theorem arT_no {ar : List Ac} {x : Int} {k : Nat} (h : k < ar.length) (e : (ar.getD k Ac.nil).w = x) : arW (ar.take (k + 1)) x = arW (ar.take k) x := by
  unfold arW; rw [takeL_succ (d := Ac.nil) h, List.filter_append]
  generalize ar.getD k Ac.nil = a at *
  simp [e]
def flT (E : List Int) (p : Nat → Bool) (k : Nat) : List Int := (E.take k).filter fun i => p i.toNat
theorem flT_yes {E : List Int} {p : Nat → Bool} {k j : Nat} (h : k < E.length) (e : E.getD k 0 = (j : Int)) (hp : p j = true) : flT E p (k + 1) = flT E p k ++ [(j : Int)] := by
  unfold flT; rw [takeL_succ (d := (0 : Int)) h, List.filter_append, e]
  congr 1
  simp [hp]
theorem flT_no {E : List Int} {p : Nat → Bool} {k j : Nat} (h : k < E.length) (e : E.getD k 0 = (j : Int)) (hp : p j = false) : flT E p (k + 1) = flT E p k := by
  unfold flT; rw [takeL_succ (d := (0 : Int)) h, List.filter_append, e]
  simp [hp]
theorem flT_len (E : List Int) (p : Nat → Bool) (k : Nat) : (flT E p k).length ≤ E.length := by
  unfold flT; refine Nat.le_trans (List.length_filter_le _ _) ?_; rw [List.length_take]; omega
theorem seL_at {N : Nt} {x : Int} {y k : Nat} (h : k < (seL N x y).length) : ∃ j : Nat, j < N.l.length ∧ (seL N x y).getD k 0 = (j : Int) := by
  obtain ⟨j, h1, _, h2⟩ := selU_mem.1 (getL_mem (d := (0 : Int)) h)
  exact ⟨j, h1, h2⟩
set_option maxRecDepth 100000 in
set_option maxHeartbeats 2000000 in
theorem sSwitchingEmpire_any (h : NH) (N : Nt) (x : Int) (w : World) (r : RdN w w.heap.size h N) (hn : N.w.length ≤ 1048576) (hl : N.l.length ≤ 1048576) (hc : N.c.length ≤ 1048576) :
    Calls Tryz.prog 34 #[.agg #[.slice h.A N.w.length h.c, .slice h.L N.l.length h.d, .slice h.C N.c.length h.e], .int .i64 x] w (GivesB w (seV N x) (kgB N x)) := by
  obtain ⟨w0, hw0⟩ : ∃ w0, w0 = w.alloc (.cells #[.slice h.A N.w.length h.c, .slice h.L N.l.length h.d, .slice h.C N.c.length h.e] 30) := ⟨_, rfl⟩
  obtain ⟨hb, g0, hsz⟩ := box3_any w (.slice h.A N.w.length h.c) (.slice h.L N.l.length h.d) (.slice h.C N.c.length h.e) 30
  rw [← hw0] at hb g0 hsz
  have HKF := Lib.hid (fun (wx : World) (hx : Below w0.heap.size w0 wx) => three_cells ((hx.block w.heap.size (by omega)).trans g0))
  have HR := Lib.hid (fun (wx : World) (hx : Below w0.heap.size w0 wx) => show RdN wx wx.heap.size h N from (r.below (hb.trans (hx.mono hb.size))).more (Nat.le_trans hb.size hx.size))
  have HSM := Lib.hid (sSmall_any h N x w0 (HR.out _ (Below.refl _ _)) hn hl hc)
  have HB0 := Lib.hid hb
  obtain ⟨y0, y1, y2⟩ := HKF.out _ (Below.refl _ w0)
  clear hb g0 hsz r hn hc
  cases hkg : kgB N x with
  | false =>
    have HE : Hid (seV N x = []) := Lib.hid (by unfold seV; rw [hkg, if_neg (by decide)])
    rw [hkg] at HSM
    clear hkg
    rw [HE.out]
    go_enter Tryz.func34, Tryz.ntmps34
    go_upto_region 1 with (fail)
    rw [← hw0]
    clear hw0
    go_wp2_with (fail)
    refine HSM.out.mono ?_
    rintro e w1 ⟨rfl, bel1⟩
    have HG := Lib.hid (givesB_made HB0.out bel1)
    clear bel1 y0 y1 y2
    go_wp2
    go_ret2
    exact HG.out
  | true =>
    obtain ⟨hv, _, h10, hx⟩ := kgB_yes hkg
    obtain ⟨h48, h48l⟩ := valN_size hv
    have hfr := fr_lt hv hx
    have hpl : (prkN N).length ≤ 10 := Nat.le_trans (prkN_len N) h10
    have hpw := pow_le10 h10
    have hpp := pow_le10 hpl
    have hsh := shl_i64e h10
    have hsp := shl_i64e hpl
    have hp1 : 1 ≤ 2 ^ N.l.length := Nat.one_le_two_pow
    have hcu : IntKind.u64.wrap (N.l.length : Int) = (N.l.length : Int) := by rw [IntKind.wrap_u64]; omega
    have hcp : IntKind.u64.wrap ((prkN N).length : Int) = ((prkN N).length : Int) := by rw [IntKind.wrap_u64]; omega
    obtain ⟨i0, hi0, hz0, hz1, hz2⟩ := info_parts info_i64
    obtain ⟨i3, hi3, hz3, hs3, hb3⟩ := info_parts info_arc
    have HI := Lib.hid hi0; have HZ0 := Lib.hid hz0; have HZ1 := Lib.hid hz1; have HZ2 := Lib.hid hz2
    have HJ := Lib.hid hi3; have HY0 := Lib.hid hz3; have HY1 := Lib.hid hs3; have HY2 := Lib.hid hb3
    have HPA := Lib.hid (fun (wx : World) (hw : Below w0.heap.size w0 wx) => sPars_any h N wx (HR.out wx hw) hl)
    have HST := Lib.hid (fun (wx : World) => sSet_any N.l.length (2 ^ N.l.length - 1) wx (by omega) (by omega))
    rw [seL_init N x] at HST
    have HBI := Lib.hid (fun (y : Nat) (wx : World) (hy : y < 1048576) => sBits_any (prkN N).length y wx (by omega) hy)
    have HAR := Lib.hid (fun (y : Nat) (wx : World) (hw : Below w0.heap.size w0 wx) (S : Option Addr) (c : Nat) (rS : RdI wx wx.heap.size S (swU (y : Int) (prkN N).length).length (swU (y : Int) (prkN N).length)) => sArcs_any h N (swU (y : Int) (prkN N).length) S c wx (isSw_bitsE hv y) (HR.out wx hw) rS)
    have HRO := Lib.hid (fun (y : Nat) (B : Option Addr) (d : Nat) (wx : World) (rA : RdA wx wx.heap.size B (swA N x y).length (swA N x y)) => show Calls Tryz.prog 76 #[.int .i64 N.l.length, .slice B (swA N x y).length d] wx (GivesB wx (rtA N.l.length (swA N x y)) (runR N.l.length (swA N x y) (swA N x y).length).2) from sRoots_any N.l.length (swA N x y) B d wx (by omega) (by have := arW_len (mgU N (swU (y : Int) (prkN N).length) N.w.length) x; have := mgU_len N (swU (y : Int) (prkN N).length) N.w.length; unfold swA; omega) (arW_in (arcs_inE hv) x) rA)
    have HFR := Lib.hid (fun (wx : World) (hw : Below w0.heap.size w0 wx) => show Calls Tryz.prog 77 #[.agg #[.slice h.A N.w.length h.c, .slice h.L N.l.length h.d, .slice h.C N.c.length h.e], .int .i64 x] wx fun e w' => e = .returned (.int .i64 (frN N x : Nat)) ∧ Below wx.heap.size wx w' from by
      have := smFrom_any h.A h.L h.C N.w.length h.c h.d N.c.length h.e N.l x wx (HR.out wx hw).2.1 (by omega)
      rw [from_lxQ hv, hfr.1] at this
      exact this)
    have HAX : Hid (∀ y : Nat, arW (mgU N (swU (y : Int) (prkN N).length) N.w.length) x = swA N x y) := Lib.hid fun y => rfl
    have HRL := Lib.hid (fun y : Nat => rtA_len N.l.length (swA N x y))
    have HML := Lib.hid (fun y : Nat => mgU_len N (swU (y : Int) (prkN N).length) N.w.length)
    have HEL := Lib.hid (seL_len N x)
    have HEA := Lib.hid (fun (y k : Nat) (hk : k < (seL N x y).length) => seL_at hk)
    have HEM : Hid (∀ y j, emW N x y j = decide ((rtA N.l.length (swA N x y)).getD j 0 = (rtA N.l.length (swA N x y)).getD (frN N x) 0)) := Lib.hid fun y j => rfl
    have HES : Hid (∀ y, flT (seL N x y) (emW N x y) (seL N x y).length = seL N x (y + 1)) := Lib.hid fun y => by unfold flT; rw [List.take_length, ← seL_succ]
    have HE : Hid (seV N x = seL N x (2 ^ (prkN N).length)) := Lib.hid (by unfold seV; rw [hkg, if_pos rfl])
    have hfl := hfr.2
    rw [hkg] at HSM
    clear hkg hx hv hfr hi0 hz0 hz1 hz2 hi3 hz3 hs3 hb3
    obtain ⟨M, hM⟩ : ∃ M, 2 ^ N.l.length = M := ⟨_, rfl⟩
    obtain ⟨P, hP⟩ : ∃ P, 2 ^ (prkN N).length = P := ⟨_, rfl⟩
    rw [hM] at hpw hsh HST hp1
    rw [hP] at hpp hsp HE
    have hsub : IntKind.i64.wrap ((M : Int) - 1) = ((M - 1 : Nat) : Int) := by rw [IntWalk.i64_in _ (by omega)]; omega
    clear hM hP
    generalize frN N x = f at *
    go_enter Tryz.func34, Tryz.ntmps34
    go_upto_region 1 with (fail)
    rw [← hw0]
    clear hw0
    go_wp2_with (fail)
    refine HSM.out.mono ?_
    rintro e w1 ⟨rfl, bel1⟩
    have B1 := Lib.hid bel1
    clear bel1 y0 y1 y2
    obtain ⟨y0, y1, y2⟩ := HKF.out _ B1.out
    go_wp2_with (fail)
    refine (HPA.out w1 B1.out).mono ?_
    rintro e w2 ⟨A2, c2, rfl, own2, bel2⟩
    have B2 := Lib.hid (B1.out.trans (bel2.mono B1.out.size))
    clear own2 bel2 y0 y1 y2
    obtain ⟨y0, y1, y2⟩ := HKF.out _ B2.out
    go_wp2_with (fail)
    refine (HST.out w2).mono ?_
    rintro e w3 ⟨A3, c3, rfl, own3, bel3⟩
    have B3 := Lib.hid (B2.out.trans (bel3.mono B2.out.size))
    have O3 := Lib.hid (own3.mono B2.out.size)
    clear own3 bel3 y0 y1 y2
    go_wp2
    go_loopw [7, 8] (fun v i wx => ∃ y : Nat, y ≤ P ∧ i = .int .i64 y ∧ ∃ A c, v = .slice A (seL N x y).length c ∧ wx.ownsRow w0.heap.size 2 1 (.slice A (seL N x y).length c) (seL N x y).length ((seL N x y).map (Value.int .i64)) ∧ Below w0.heap.size w0 wx) (fun _ i _ => P - (intOf i).toNat)
    case atStart => exact ⟨0, Nat.zero_le _, rfl, A3, c3, rfl, O3.out, B3.out⟩
    case round =>
      obtain ⟨y, hy, rfl, A, c, rfl, hO, hB⟩ := hrel
      clear O3 B3
      by_cases hlt : y < P
      · have hyi : (y : Int) < (P : Int) := by omega
        have HOE := Lib.hid hO; have HB := Lib.hid hB
        have HBIy := Lib.hid (fun wx => HBI.out y wx (by omega))
        have HARy := Lib.hid (fun wx hw => HAR.out y wx hw)
        have HROy := Lib.hid (fun B d wx rA => HRO.out y B d wx rA)
        have HMLy := Lib.hid (HML.out y)
        have HAXy := Lib.hid (HAX.out y)
        have HRLy := Lib.hid (HRL.out y)
        have HELy := Lib.hid (HEL.out y)
        have HEAy := Lib.hid (HEA.out y)
        have HEMy := Lib.hid (HEM.out y)
        have HESy := Lib.hid (HES.out y)
        obtain ⟨w4, hw4⟩ : ∃ u, u = wr.alloc (.cells #[] 85) := ⟨_, rfl⟩
        have hb4 : Below wr.heap.size wr w4 := by rw [hw4]; exact (Below.refl _ _).alloc (Nat.le_refl _) _
        have ho4 : w4.ownsRow wr.heap.size 85 3 (.slice (some ⟨wr.heap.size, 0, none⟩) 0 0) 0 ((flA []).map (Value.int .i64)) := by rw [hw4]; exact World.ownsRow_made wr #[] 0 (Nat.le_refl _) (by simp [maxLen]) rfl
        have hs4 : wr.heap.size < w4.heap.size := by rw [hw4]; simp
        have B4 := Lib.hid (hB.trans (hb4.mono hB.size)); have BW4 := Lib.hid hb4; have O4 := Lib.hid ho4; have HS4 := Lib.hid hs4
        have HW4 := Lib.hid hw4
        have K4 := Lib.hid (HKF.out _ B4.out)
        have BD : Hid (Below w0.heap.size w0 w4.drew) := Lib.hid B4.out.drew
        have BWD : Hid (Below wr.heap.size wr w4.drew) := Lib.hid BW4.out.drew
        have BFD : Hid (Below w4.heap.size w4 w4.drew) := Lib.hid (Below.refl _ w4).drew
        clear hO hB hw4 hb4 ho4 hs4
        go_upto_region 9 with (fail)
        rw [← HW4.out]
        go_region_held3 (fun wx => wx.cell? ⟨w.heap.size, 0, none⟩ = some (.slice h.A N.w.length h.c) ∧ wx.cell? ⟨w.heap.size, 1, none⟩ = some (.slice h.L N.l.length h.d) ∧ wx.cell? ⟨w.heap.size, 2, none⟩ = some (.slice h.C N.c.length h.e))
          (first | with_reducible exact K4.out | with_reducible exact HKF.out _ BD.out | with_reducible exact HKF.out _ C1.out | with_reducible exact HKF.out _ C2.out)
          (first
            | (go_at_call 75; refine (HBIy.out w4.drew).mono ?_; rintro e u1 ⟨A1, c1, rfl, own1, bel1⟩; have C1 := Lib.hid (BD.out.trans (bel1.mono BD.out.size)); have D1 := Lib.hid (BWD.out.trans (bel1.mono BWD.out.size)); have F1 := Lib.hid (BFD.out.trans (bel1.mono BFD.out.size)); have R1 := Lib.hid (RdI.of_own own1); clear own1 bel1)
            | (go_at_call 74; refine (HARy.out u1 C1.out A1 c1 R1.out).mono ?_; rintro e u2 ⟨A2, c2, rfl, own2, bel2⟩; have C2 := Lib.hid (C1.out.trans (bel2.mono C1.out.size)); have D2 := Lib.hid (D1.out.trans (bel2.mono D1.out.size)); have F2 := Lib.hid (F1.out.trans (bel2.mono F1.out.size)); have O2 := Lib.hid own2; clear own2 bel2))
        all_goals
          have OK2 := Lib.hid (own_below O4.out F2.out (Nat.le_refl _))
          have OE2 := Lib.hid (own_below HOE.out D2.out (Nat.le_refl _))
          have HUS := Lib.hid (show wr.heap.size < u1.heap.size from Nat.lt_of_lt_of_le HS4.out F1.out.size)
          clear F1 F2 D1 R1 C1 BFD BWD BD K4 O4 BW4 B4
          obtain ⟨AR, hAR⟩ : ∃ L, mgU N (swU (y : Int) (prkN N).length) N.w.length = L := ⟨_, rfl⟩
          rw [hAR] at O2 HMLy HAXy ⊢
          clear hAR
          have NE0 : Hid (∀ g, (Value.slice A2 AR.length c2).ownBlock = some g → (Value.slice (some ⟨wr.heap.size, 0, none⟩) 0 0).ownBlock ≠ some g) := Lib.hid fun g hg e => by
            have h1 := (O2.out.lt g hg).1
            have h2 : wr.heap.size = g := Option.some.inj e
            have h3 := HUS.out
            omega
          have hmll := HMLy.out
          go_wp2
          go_loopw [9, 11] (fun v i wx => ∃ k : Nat, k ≤ AR.length ∧ i = .int .i64 k ∧ wx.ownsRow wr.heap.size 85 3 v (arW (AR.take k) x).length ((flA (arW (AR.take k) x)).map (Value.int .i64)) ∧ wx.ownsRow u1.heap.size 85 3 (.slice A2 AR.length c2) AR.length ((flA AR).map (Value.int .i64)) ∧ (∀ g, (Value.slice A2 AR.length c2).ownBlock = some g → v.ownBlock ≠ some g) ∧ Below wr.heap.size wr wx) (fun _ i _ => AR.length - (intOf i).toNat)
          case atStart => exact ⟨0, Nat.zero_le _, rfl, OK2.out, O2.out, NE0.out, D2.out⟩
          case round =>
            rename World => wy
            obtain ⟨k, hk, rfl, hOK, hOA, hne, hBW⟩ := hrel
            clear OK2 O2 NE0 D2 C2 OE2
            have HOK := Lib.hid hOK; have HOA := Lib.hid hOA; have HNE := Lib.hid hne; have HBW := Lib.hid hBW
            clear hOK hOA hne hBW
            by_cases hka : k < AR.length
            · obtain ⟨b, off, hAe, hbb, hcells⟩ := (RdA.of_own HOA.out).at (by omega)
              obtain ⟨x0, x1, x2⟩ := hcells k hka
              have hki : (k : Int) < (AR.length : Int) := by omega
              have HYS := Lib.hid (fun e => arT_yes (x := x) hka e)
              have HNO := Lib.hid (fun e => arT_no (x := x) hka e)
              have hkl : (arW (AR.take k) x).length ≤ 48 := by
                have h1 := arW_len (AR.take k) x
                rw [List.length_take] at h1
                omega
              obtain ⟨⟨aw, af, at'⟩, ha⟩ : ∃ a, AR.getD k Ac.nil = a := ⟨_, rfl⟩
              rw [ha] at x0 x1 x2 HYS HNO
              dsimp only at x0 x1 x2 HYS HNO
              clear hcells ha
              subst hAe
              by_cases he : aw = x
              · have hd : (aw != x) = false := by simp [he]
                have HS := Lib.hid (HNO.out he)
                clear he HYS HNO
                go_wp2
                go_roundw
                case rel => exact ⟨k + 1, by omega, by go_num, by rw [HS.out]; exact HOK.out, HOA.out, HNE.out, HBW.out⟩
                case measure => simp [intOf]; omega
              · have hd : (aw != x) = true := by simp [he]
                have HS := Lib.hid (HYS.out he)
                clear he HYS HNO
                have hsy := HBW.out.size
                have hsl : wr.heap.size ≤ (wy.alloc (.cells #[.int .i64 aw, .int .i64 af, .int .i64 at'] 85)).heap.size := by simp; omega
                have HSL := Lib.hid hsl
                have BA : Hid (Below wy.heap.size wy (wy.alloc (.cells #[.int .i64 aw, .int .i64 af, .int .i64 at'] 85))) := Lib.hid ((Below.refl _ _).alloc (Nat.le_refl _) _)
                clear hsl
                obtain ⟨kk, hkk⟩ : ∃ q, (arW (AR.take k) x).length = q := ⟨_, rfl⟩
                rw [hkk] at HOK hkl
                have HKK := Lib.hid hkk
                (try rw [hkk])
                clear hkk
                go_wp2_with (at_builtin; refine wpList_append_lies _ rfl _ _ 82 rfl wr.heap.size 85 i3 (.agg #[.int .i64 0, .int .i64 0, .int .i64 0]) 3 24 Tryz.underlying82 HJ.out HY0.out HY1.out HY2.out rfl (by decide) _ _ _ rfl (HOK.out.alloc _) ⟨wy.heap.size, 0, none⟩ 1 1 [.int .i64 aw, .int .i64 af, .int .i64 at'] rfl rfl (three_new _ _ _ _ _) (by simp [Value.oneCell']) (by decide) (by simp only [maxLen]; omega) (by omega) HSL.out _ rfl ?_; intro g cap w7 hown7 hgrow7 hat7 hlt7)
                have HB7 := Lib.hid ((HBW.out.alloc hsy (.cells #[.int .i64 aw, .int .i64 af, .int .i64 at'] 85)).grown hgrow7 (by simp; omega) (fun q hq => (HOK.out.lt q hq).1))
                have OA7 := Lib.hid (own_same (own_below HOA.out BA.out (Nat.le_refl _)) (fun q hq => hgrow7.block q (by have := (HOA.out.lt q hq).2; simp; omega) (fun e => HNE.out q hq e.symm)))
                have NE7 : Hid (∀ q, (Value.slice (some ⟨b, off, none⟩) AR.length c2).ownBlock = some q → (Value.slice (some ⟨g, 0, none⟩) (kk + 1) cap).ownBlock ≠ some q) := Lib.hid fun q hq e => by
                  have e' : g = q := Option.some.inj (show some g = some q from e)
                  rcases hat7 with z | z
                  · exact HNE.out q hq (by rw [← e']; exact z)
                  · have := (HOA.out.lt q hq).2
                    simp at z
                    omega
                have OK7 : Hid (w7.ownsRow wr.heap.size 85 3 (.slice (some ⟨g, 0, none⟩) (kk + 1) cap) (arW (AR.take (k + 1)) x).length ((flA (arW (AR.take (k + 1)) x)).map (Value.int .i64))) := Lib.hid (by
                  rw [HS.out, List.length_append, HKK.out, flA_app, List.map_append]; exact hown7)
                clear hown7 hgrow7 hat7 hlt7 BA
                go_wp2
                go_roundw
                case rel => exact ⟨k + 1, by omega, by go_num, OK7.out, OA7.out, NE7.out, HB7.out⟩
                case measure => simp [intOf]; omega
            · have hkl : k = AR.length := by omega
              subst hkl
              rw [List.take_length, HAXy.out] at HOK
              obtain ⟨B, cB, rfl⟩ := own_shape3 HOK.out
              have RK := Lib.hid (RdA.of_own HOK.out)
              have BY := Lib.hid (HB.out.trans (HBW.out.mono HB.out.size))
              have OEy := Lib.hid (own_below HOE.out HBW.out (Nat.le_refl _))
              obtain ⟨y0, y1, y2⟩ := HKF.out _ BY.out
              have HRX := Lib.hid (HROy.out B cB wy RK.out)
              clear HOK HOA HNE RK HBW
              go_wp2_with (fail)
              refine HRX.out.mono ?_
              rintro e w5 ⟨A5, c5, rfl, own5, bel5⟩
              have B5 := Lib.hid (BY.out.trans (bel5.mono BY.out.size))
              have RE5 := Lib.hid (RdI.of_own (own_below OEy.out bel5 (Nat.le_refl _)))
              have RR5 := Lib.hid (RdI.of_own own5)
              clear own5 bel5 y0 y1 y2 HRX OEy BY
              obtain ⟨RT, hRT⟩ : ∃ L, rtA N.l.length (swA N x y) = L := ⟨_, rfl⟩
              rw [hRT] at RR5 HEMy HRLy ⊢
              have hrl := HRLy.out
              rw [hrl] at RR5 ⊢
              clear hRT
              obtain ⟨w6, hw6⟩ : ∃ u, u = w5.alloc (.cells #[] 2) := ⟨_, rfl⟩
              have ho6 : w6.ownsRow w5.heap.size 2 1 (.slice (some ⟨w5.heap.size, 0, none⟩) 0 0) (flT (seL N x y) (emW N x y) 0).length ((flT (seL N x y) (emW N x y) 0).map (Value.int .i64)) := by rw [hw6]; exact World.ownsRow_made w5 #[] 0 (Nat.le_refl _) (by simp [maxLen]) rfl
              have hb6 : Below w5.heap.size w5 w6 := by rw [hw6]; exact (Below.refl _ _).alloc (Nat.le_refl _) _
              have O6 := Lib.hid ho6; have B6 := Lib.hid hb6; have HW6 := Lib.hid hw6
              clear ho6 hb6 hw6
              have hel := HELy.out
              have HFLL := Lib.hid (flT_len (seL N x y) (emW N x y))
              have HFY := Lib.hid (fun k j (h1 : k < (seL N x y).length) (h2 : (seL N x y).getD k 0 = ((j : Nat) : Int)) (h3 : emW N x y j = true) => flT_yes h1 h2 h3)
              have HFN := Lib.hid (fun k j (h1 : k < (seL N x y).length) (h2 : (seL N x y).getD k 0 = ((j : Nat) : Int)) (h3 : emW N x y j = false) => flT_no h1 h2 h3)
              generalize emW N x y = pE at *
              obtain ⟨E, hEE⟩ : ∃ L, seL N x y = L := ⟨_, rfl⟩
              rw [hEE] at RE5 HEAy HESy O6 HFLL HFY HFN hel ⊢
              clear hEE HELy
              go_upto_region 17 with (fail)
              rw [← HW6.out]
              go_wp2
              go_loopw [14, 15] (fun v i wx => ∃ k : Nat, k ≤ E.length ∧ i = .int .i64 k ∧ wx.ownsRow w5.heap.size 2 1 v (flT E pE k).length ((flT E pE k).map (Value.int .i64)) ∧ Below w5.heap.size w5 wx) (fun _ i _ => E.length - (intOf i).toNat)
              case atStart => exact ⟨0, Nat.zero_le _, rfl, O6.out, B6.out⟩
              case round =>
                rename World => wz
                obtain ⟨k, hk, rfl, hO, hB⟩ := hrel
                clear O6 B6
                have HO := Lib.hid hO; have HBz := Lib.hid hB
                clear hO hB
                by_cases hke : k < E.length
                · have BZ := Lib.hid (B5.out.trans (HBz.out.mono B5.out.size))
                  obtain ⟨j, hj, hje⟩ := HEAy.out k hke
                  obtain ⟨be, oe, hAe, hbe, hce⟩ := (RE5.out).2 (by omega)
                  obtain ⟨bq, oq, hAq, hbq, hcq⟩ := (RR5.out).2 (by omega)
                  have hki : (k : Int) < (E.length : Int) := by omega
                  have hji : (j : Int) < (N.l.length : Int) := by omega
                  have hfi : (f : Int) < (N.l.length : Int) := by omega
                  have e0 := hce k hke; have q0 := hcq j hj; have q1 := hcq f hfl
                  rw [hje] at e0
                  have HKZ := Lib.hid (fun (wx : World) (hx : Below wz.heap.size wz wx) => show wx.cell? ⟨w.heap.size, 0, none⟩ = some (.slice h.A N.w.length h.c) ∧ wx.cell? ⟨w.heap.size, 1, none⟩ = some (.slice h.L N.l.length h.d) ∧ wx.cell? ⟨w.heap.size, 2, none⟩ = some (.slice h.C N.c.length h.e) ∧ wx.cell? ⟨be, oe + k, none⟩ = some (.int .i64 j) ∧ wx.cell? ⟨bq, oq + j, none⟩ = some (.int .i64 (RT.getD j 0)) ∧ wx.cell? ⟨bq, oq + f, none⟩ = some (.int .i64 (RT.getD f 0)) from by
                    obtain ⟨a0, a1, a2⟩ := HKF.out _ (BZ.out.trans (hx.mono BZ.out.size))
                    have hz := HBz.out.trans (hx.mono HBz.out.size)
                    exact ⟨a0, a1, a2, (hz.cell (p := ⟨be, oe + k, none⟩) hbe).trans e0, (hz.cell (p := ⟨bq, oq + j, none⟩) hbq).trans q0, (hz.cell (p := ⟨bq, oq + f, none⟩) hbq).trans q1⟩)
                  have KZ := Lib.hid (HKZ.out wz (Below.refl _ _))
                  have ZD : Hid (Below wz.heap.size wz wz.drew) := Lib.hid (Below.refl _ wz).drew
                  have HFX := Lib.hid (HFR.out wz.drew (BZ.out.trans (ZD.out.mono BZ.out.size)))
                  have HYS := Lib.hid (HFY.out k j hke hje)
                  have HNO := Lib.hid (HFN.out k j hke hje)
                  have HPE := Lib.hid (HEMy.out j)
                  have hfll := HFLL.out k
                  generalize RT.getD j 0 = rj at *
                  generalize RT.getD f 0 = rf at *
                  clear hce hcq e0 q0 q1 hje
                  subst hAe
                  subst hAq
                  have KD := Lib.hid (HKZ.out _ ZD.out)
                  go_upto_region 20 with (fail)
                  go_region_held3 (fun wx => wx.cell? ⟨w.heap.size, 0, none⟩ = some (.slice h.A N.w.length h.c) ∧ wx.cell? ⟨w.heap.size, 1, none⟩ = some (.slice h.L N.l.length h.d) ∧ wx.cell? ⟨w.heap.size, 2, none⟩ = some (.slice h.C N.c.length h.e) ∧ wx.cell? ⟨be, oe + k, none⟩ = some (.int .i64 j) ∧ wx.cell? ⟨bq, oq + j, none⟩ = some (.int .i64 rj) ∧ wx.cell? ⟨bq, oq + f, none⟩ = some (.int .i64 rf))
                    (first | with_reducible exact KZ.out | with_reducible exact KD.out | with_reducible exact HKZ.out _ Z1.out)
                    (first
                      | (go_at_call 77; refine HFX.out.mono ?_; rintro e u3 ⟨rfl, bel3⟩; have Z1 := Lib.hid (ZD.out.trans (bel3.mono ZD.out.size)); clear bel3))
                  all_goals
                    have e0 := (HKZ.out _ Z1.out).2.2.2.1
                    have ZZ := Lib.hid (HBz.out.trans (Z1.out.mono HBz.out.size))
                    have OZ := Lib.hid (own_below HO.out Z1.out (Nat.le_refl _))
                    have hsz1 := ZZ.out.size
                    clear Z1 ZD KD KZ
                    by_cases he : rj = rf
                    · have hd : (rj == rf) = true := by simp [he]
                      have HS := Lib.hid (HYS.out (by rw [HPE.out]; exact decide_eq_true he))
                      clear he HYS HNO HPE
                      go_wp2_with (at_builtin; refine wpList_append_own _ rfl _ _ 24 rfl w5.heap.size 2 i0 (.int .i64 0) 1 8 Tryz.underlying24 HI.out HZ0.out HZ1.out HZ2.out rfl (by decide) _ _ _ rfl (OZ.out.alloc _) ⟨u3.heap.size, 0, none⟩ 1 1 [.int .i64 j] rfl rfl ?c1 ?c2 ?c3 ?c4 ?c5 ?_)
                      case c1 => exact cell_one_new _ _ _
                      case c2 => intro u hu; simp at hu; subst hu; rfl
                      case c3 => unfold maxLen; omega
                      case c4 => omega
                      case c5 => simp; omega
                      intro v' w7 hown' hgrow _
                      have hb2 := Lib.hid ((ZZ.out.alloc hsz1 (.cells #[.int .i64 j] 2)).grown hgrow (by simp; omega) (fun q hq => (OZ.out.lt q hq).1))
                      have hown2 : w7.ownsRow w5.heap.size 2 1 v' (flT E pE (k + 1)).length ((flT E pE (k + 1)).map (Value.int .i64)) := by
                        rw [HS.out, List.length_append, List.map_append]; exact hown'
                      have hown1 := Lib.hid hown2
                      clear hown' hgrow hown2 hsz1
                      go_wp2
                      go_roundw
                      case rel => exact ⟨k + 1, by omega, by go_num, hown1.out, hb2.out⟩
                      case measure => simp [intOf]; omega
                    · have hd : (rj == rf) = false := by simp [he]
                      have HS := Lib.hid (HNO.out (by rw [HPE.out]; exact decide_eq_false he))
                      clear he HYS HNO HPE
                      go_wp2
                      go_roundw
                      case rel => exact ⟨k + 1, by omega, by go_num, by rw [HS.out]; exact OZ.out, ZZ.out⟩
                      case measure => simp [intOf]; omega
                · have hkl : k = E.length := by omega
                  subst hkl
                  rw [HESy.out] at HO
                  obtain ⟨A7, c7, rfl⟩ := own_shape HO.out
                  have O7 := Lib.hid (HO.out.mono B5.out.size)
                  have B7 := Lib.hid (B5.out.trans (HBz.out.mono B5.out.size))
                  clear HO HBz
                  go_wp2
                  go_roundw
                  case rel => exact ⟨y + 1, by omega, by go_num, A7, c7, rfl, O7.out, B7.out⟩
                  case measure => simp [intOf]; omega
      · have hyy : y = P := by omega
        subst hyy
        have HG : Hid (GivesB w (seV N x) true (.returned (.tuple #[.slice A (seV N x).length c, .bool true])) wr) := Lib.hid (by rw [HE.out]; exact ⟨A, c, rfl, hO.mono HB0.out.size, HB0.out.trans (hB.mono HB0.out.size)⟩)
        rw [← HE.out]
        clear hO hB
        generalize (seV N x).length = ql at *
        go_wp2
        go_ret2
        exact HG.out
end
section
set_option linter.unusedSimpArgs false
set_option linter.unusedVariables false
open Go.ChangeAt Go.ChangeShapes Go.RowKit Go.WideShapes

/-- A net with the producer and the consumer of each wire. -/
structure RdWr (w : World) (h : NH) (N : Nt) (P Q : Option Addr) : Prop where
  n : RdN w w.heap.size h N
  p : RdI w w.heap.size P N.w.length (lxL outL N)
  q : RdI w w.heap.size Q N.w.length (lxL inL N)
theorem RdWr.below {w w' : World} {h : NH} {N : Nt} {P Q : Option Addr} (r : RdWr w h N P Q) (hb : Below w.heap.size w w') : RdWr w' h N P Q :=
  ⟨(r.n.below hb).more hb.size, (r.p.below hb).more hb.size, (r.q.below hb).more hb.size⟩
end
section
set_option linter.unusedSimpArgs false
set_option linter.unusedVariables false
open Go.ChangeAt Go.ChangeShapes Go.RowKit Go.WideShapes
end
section
set_option linter.unusedSimpArgs false
set_option linter.unusedVariables false
open Go.ChangeAt Go.ChangeShapes Go.RowKit Go.WideShapes
end
section
set_option linter.unusedSimpArgs false
set_option linter.unusedVariables false
open Go.ChangeAt Go.ChangeShapes Go.RowKit Go.WideShapes
end
section
set_option linter.unusedSimpArgs false
set_option linter.unusedVariables false
open Go.ChangeAt Go.ChangeShapes Go.RowKit Go.WideShapes
end
section
set_option linter.unusedSimpArgs false
set_option linter.unusedVariables false
open Go.ChangeAt Go.ChangeShapes Go.RowKit Go.WideShapes

set_option maxRecDepth 100000 in
set_option maxHeartbeats 1000000 in
theorem hasKingdom_any (h : NH) (N : Nt) (x : Int) (w : World) (r : RdN w w.heap.size h N) (sm : SmallN N) (ht : Arit w) (hu : Dual w) :
    Calls Tryz.prog 63 #[.agg #[.slice h.A N.w.length h.c, .slice h.L N.l.length h.d, .slice h.C N.c.length h.e], .int .i64 x] w fun e w' => e = .returned (.bool (kgB N x)) ∧ Below w.heap.size w w' := by
  obtain ⟨w0, hw0⟩ : ∃ w0, w0 = w.alloc (.cells #[.slice h.A N.w.length h.c, .slice h.L N.l.length h.d, .slice h.C N.c.length h.e] 30) := ⟨_, rfl⟩
  obtain ⟨hb, g0, hsz⟩ := box3_any w (.slice h.A N.w.length h.c) (.slice h.L N.l.length h.d) (.slice h.C N.c.length h.e) 30
  rw [← hw0] at hb g0 hsz
  have HKF := Lib.hid (fun (wx : World) (hx : Below w0.heap.size w0 wx) => three_cells ((hx.block w.heap.size (by omega)).trans g0))
  have HCO := Lib.hid (parsing_impl h N w0 ((r.below hb).more hb.size) sm (ht.below hb ht.lt) (hu.below hb hu.lt))
  have HIW := Lib.hid (fun (wx : World) => isWire_any h.A h.L h.C N.w.length h.c N.l.length h.d N.c.length h.e x wx (Nat.le_trans sm.w (by unfold maxLen; omega)))
  have HKG : Hid (kgB N x = (cbV N && (decide (N.l.length ≤ 10) && inW N.w.length x))) := Lib.hid rfl
  have HB0 := Lib.hid hb
  obtain ⟨y0, y1, y2⟩ := HKF.out _ (Below.refl _ w0)
  have hll := sm.l
  clear hb g0 hsz r sm ht hu
  by_cases h10 : N.l.length ≤ 10
  · have d1 : decide ((N.l.length : Int) ≤ 10) = true := decide_eq_true (by omega)
    have d2 : decide (N.l.length ≤ 10) = true := decide_eq_true h10
    rw [d2, Bool.true_and] at HKG
    clear h10
    generalize cbV N = p at *
    generalize inW N.w.length x = q at *
    cases p with
    | false =>
      have HE := Lib.hid (HKG.out.symm)
      go_enter Tryz.func63, Tryz.ntmps63
      go_upto_region 1 with (fail)
      rw [← hw0]
      clear hw0
      go_wp2_with (fail)
      refine HCO.out.mono ?_
      rintro e w1 ⟨rfl, bel1⟩
      have B1 := Lib.hid (HB0.out.trans (bel1.mono HB0.out.size))
      clear bel1 y0 y1 y2
      go_wp2
      go_ret
      exact ⟨ret_bool HE.out, B1.out⟩
    | true =>
      have HE := Lib.hid (HKG.out.symm)
      go_enter Tryz.func63, Tryz.ntmps63
      go_upto_region 1 with (fail)
      rw [← hw0]
      clear hw0
      go_wp2_with (fail)
      refine HCO.out.mono ?_
      rintro e w1 ⟨rfl, bel1⟩
      have B1 := Lib.hid bel1
      clear bel1 y0 y1 y2
      obtain ⟨y0, y1, y2⟩ := HKF.out _ B1.out
      go_wp2_with (fail)
      refine (HIW.out w1).mono ?_
      rintro e w2 ⟨rfl, bel2⟩
      have B2 := Lib.hid (HB0.out.trans ((B1.out.trans (bel2.mono B1.out.size)).mono HB0.out.size))
      clear bel2 y0 y1 y2
      go_wp2
      go_ret
      exact ⟨ret_bool HE.out, B2.out⟩
  · have d1 : decide ((N.l.length : Int) ≤ 10) = false := decide_eq_false (by omega)
    have d2 : decide (N.l.length ≤ 10) = false := decide_eq_false h10
    have HE : Hid (false = kgB N x) := Lib.hid (by rw [HKG.out, d2]; simp)
    clear h10
    go_enter Tryz.func63, Tryz.ntmps63
    go_upto_region 1 with (fail)
    rw [← hw0]
    clear hw0
    go_wp2
    go_ret
    exact ⟨ret_bool HE.out, HB0.out⟩
end
section
set_option linter.unusedSimpArgs false
set_option linter.unusedVariables false
open Go.ChangeAt Go.ChangeShapes Go.RowKit Go.WideShapes

/-- The arc's wire is among the row's numbers. -/
def outB (X : List Int) (a : Ac) : Bool := decide (a.w ∈ X)
/-- What the closure wants: its box with the row of numbers. -/
structure OutS (w : World) (bx : Nat) (A : Option Addr) (c : Nat) (X : List Int) : Prop where
  lt : bx < w.heap.size
  box : w.cell? ⟨bx, 0, none⟩ = some (.slice A X.length c)
  rd : RdI w w.heap.size A X.length X
theorem OutS.below {w w' : World} {bx c : Nat} {A : Option Addr} {X : List Int} (h : OutS w bx A c X) (hb : Below w.heap.size w w') : OutS w' bx A c X :=
  ⟨Nat.lt_of_lt_of_le h.lt hb.size, (hb.cell (p := ⟨bx, 0, none⟩) h.lt).trans h.box, (h.rd.below hb).more hb.size⟩
set_option maxRecDepth 100000 in
set_option maxHeartbeats 1000000 in
theorem leftOut_any (bx : Nat) (A : Option Addr) (c : Nat) (X : List Int) (a : Ac) (w : World) (h : OutS w bx A c X) (hX : X.length ≤ 1048576) :
    Calls Tryz.prog 132 #[.agg #[.int .i64 a.w, .int .i64 a.f, .int .i64 a.t], .pointer (some ⟨bx, 0, none⟩)] w fun e w' => e = .returned (.bool (outB X a)) ∧ Below w.heap.size w w' := by
  obtain ⟨aw, af, at'⟩ := a
  obtain ⟨w1, hw1⟩ : ∃ u, u = w.alloc (.cells #[.int .i64 aw, .int .i64 af, .int .i64 at'] 85) := ⟨_, rfl⟩
  have hb : Below w.heap.size w w1 := by rw [hw1]; exact (Below.refl _ _).alloc (Nat.le_refl _) _
  have hg : w1.heap[w.heap.size]? = some (.cells #[.int .i64 aw, .int .i64 af, .int .i64 at'] 85 (0, 0)) := by rw [hw1]; exact heap_alloc_new _ _
  have h1 := h.below hb
  have hbox := h1.box
  have x0 := cell_of_row _ _ 0 _ _ (0, 0) hg
  have HC := Lib.hid (containsI_any A X.length c X aw w1 h1.rd hX)
  have HB := Lib.hid hb
  have HE : Hid (decide (aw ∈ X) = outB X ⟨aw, af, at'⟩) := Lib.hid rfl
  simp only [List.getElem?_toArray, List.getElem?_cons_zero] at x0
  clear hb hg h1 h
  dsimp only
  go_enter Tryz.func132, Tryz.ntmps132
  go_upto_region 1 with (fail)
  rw [← hw1]
  clear hw1
  go_wp2_with (fail)
  refine HC.out.mono ?_
  rintro e w2 ⟨rfl, rfl⟩
  go_wp2
  go_ret
  exact ⟨ret_bool HE.out, HB.out⟩

set_option maxRecDepth 100000 in
set_option maxHeartbeats 1000000 in
theorem indexArc_any (bx : Nat) (A : Option Addr) (c : Nat) (X : List Int) (hX : X.length ≤ 1048576) (B : Option Addr) (d : Nat) (ar : List Ac) (w : World) (h : OutS w bx A c X) (r : RdA w w.heap.size B ar.length ar) (hl : ar.length ≤ 1048576) :
    Calls Tryz.prog 131 #[.slice B ar.length d, .func (.func 132) #[] #[.pointer (some ⟨bx, 0, none⟩)]] w fun e w' =>
      ((e = .returned (.int .i64 (-1)) ∧ (∀ m, m < ar.length → outB X (ar.getD m Ac.nil) = false)) ∨ ∃ k : Nat, e = .returned (.int .i64 k) ∧ k < ar.length ∧ (∀ m, m < k → outB X (ar.getD m Ac.nil) = false) ∧ outB X (ar.getD k Ac.nil) = true) ∧ Below w.heap.size w w' := by
  have HC := Lib.hid (fun (wx : World) (hx : Below w.heap.size w wx) (a : Ac) => leftOut_any bx A c X a wx (h.below hx) hX)
  have HR := Lib.hid (fun (wx : World) (hx : Below w.heap.size w wx) => show RdA wx wx.heap.size B ar.length ar from (r.below hx).more hx.size)
  clear r h
  go_enter Tryz.func131, Tryz.ntmps131
  go_wp2
  go_loopw [8] (fun i wr => ∃ k : Nat, k ≤ ar.length ∧ i = .int .i64 k ∧ (∀ m, m < k → outB X (ar.getD m Ac.nil) = false) ∧ Below w.heap.size w wr) (fun i _ => ar.length - (intOf i).toNat)
  case atStart => exact ⟨0, Nat.zero_le _, rfl, fun m hm => absurd hm (by omega), Below.refl _ _⟩
  case round =>
    obtain ⟨k, hk, rfl, hpl, hB⟩ := hrel
    have HB := Lib.hid hB
    have HPL := Lib.hid hpl
    by_cases hlt : k < ar.length
    · obtain ⟨b, off, hA, hbb, hcells⟩ := (HR.out _ hB).at (show 0 < ar.length by omega)
      obtain ⟨x0, x1, x2⟩ := hcells k hlt
      have hc := HC.out _ hB (ar.getD k Ac.nil)
      obtain ⟨p, hp⟩ : ∃ p, outB X (ar.getD k Ac.nil) = p := ⟨_, rfl⟩
      have HP := Lib.hid hp
      rw [hp] at hc
      have HCC := Lib.hid hc
      clear hcells hB hpl hp hc
      obtain ⟨⟨aw, af, at'⟩, ha⟩ : ∃ a, ar.getD k Ac.nil = a := ⟨_, rfl⟩
      rw [ha] at x0 x1 x2 HCC
      dsimp only at x0 x1 x2 HCC
      clear ha
      subst hA
      cases p with
      | true =>
        go_wp2_with (fail)
        refine HCC.out.mono ?_
        rintro e w1 ⟨rfl, bel⟩
        have HB1 := Lib.hid (HB.out.trans (bel.mono HB.out.size))
        clear bel x0 x1 x2
        go_wp2
        go_ret
        exact ⟨.inr ⟨k, rfl, hlt, HPL.out, HP.out⟩, HB1.out⟩
      | false =>
        go_wp2_with (fail)
        refine HCC.out.mono ?_
        rintro e w1 ⟨rfl, bel⟩
        have HB1 := Lib.hid (HB.out.trans (bel.mono HB.out.size))
        clear bel x0 x1 x2
        go_wp2
        go_roundw
        case rel => exact ⟨k + 1, by omega, by go_num, fun m hm => by by_cases e : m = k; (subst e; exact HP.out); exact HPL.out m (by omega), HB1.out⟩
        case measure => simp [intOf]; omega
    · have hkl : k = ar.length := by omega
      subst hkl
      clear hB hpl
      go_wp2
      go_ret
      exact ⟨.inl ⟨rfl, HPL.out⟩, HB.out⟩
end
end Go.Proofs.YtfdpkhiiboghiaaGreatDoor
