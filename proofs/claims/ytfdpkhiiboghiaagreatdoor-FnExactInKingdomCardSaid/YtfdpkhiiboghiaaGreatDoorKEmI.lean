/- The program: allLinks, combinedSubnets, KingdomOf, EmpireOf, InKingdom. Made by mkemi.py. -/
import Derived.Test.YtfdpkhiiboghiaaGreatDoorKEmH
import Derived.Deep.RegionHeldLaw
import Derived.Deep.DeepCutAuto
import Derived.BigQuiet
namespace Go.Proofs.YtfdpkhiiboghiaaGreatDoor
set_option linter.unusedSimpArgs false
set_option linter.unusedVariables false
set_option linter.unusedSimpArgs false
set_option linter.unusedVariables false
open Go.ChangeAt Go.ChangeShapes Go.RowKit Go.WideShapes

theorem givesB_none {w w' : World} (hb : Below w.heap.size w w') : GivesB w [] false (.returned (.tuple #[.slice none 0 0, .bool false])) w' := ⟨none, 0, rfl, World.ownsRow_nil _ _ _ _, hb⟩
set_option maxRecDepth 100000 in
set_option maxHeartbeats 1000000 in
theorem allLinks_any (h : NH) (N : Nt) (S : Nat) (w : World) (hl : N.l.length ≤ 1048576) (hS : orS (markL 0 N.l.length) = S) :
    Calls Tryz.prog 68 #[.agg #[.slice h.A N.w.length h.c, .slice h.L N.l.length h.d, .slice h.C N.c.length h.e]] w fun e w' => e = .returned (.int .u64 ((S : Nat) : Int)) ∧ Below w.heap.size w w' := by
  obtain ⟨w0, hw0⟩ : ∃ w0, w0 = w.alloc (.cells #[.slice h.A N.w.length h.c, .slice h.L N.l.length h.d, .slice h.C N.c.length h.e] 30) := ⟨_, rfl⟩
  obtain ⟨hb, g0, hsz⟩ := box3_any w (.slice h.A N.w.length h.c) (.slice h.L N.l.length h.d) (.slice h.C N.c.length h.e) 30
  rw [← hw0] at hb g0 hsz
  have HKF := Lib.hid (fun (wx : World) (hx : Below w0.heap.size w0 wx) => three_cells ((hx.block w.heap.size (by omega)).trans g0))
  have HNF := Lib.hid (numbersFrom_any 0 N.l.length w0 (by omega) (by omega))
  have HMI : Hid (∀ x ∈ markL 0 N.l.length, -1 ≤ x ∧ x ≤ 1048576) := Lib.hid fun x hx => by
    unfold markL at hx
    obtain ⟨i, hi, rfl⟩ := List.mem_map.1 hx
    have := List.mem_range.1 hi
    omega
  have HML : Hid ((markL 0 N.l.length).length = N.l.length) := Lib.hid (by unfold markL; simp)
  have HB0 := Lib.hid hb
  obtain ⟨y0, y1, y2⟩ := HKF.out _ (Below.refl _ w0)
  have HSE := Lib.hid hS
  clear hb g0 hsz hS
  go_enter Tryz.func68, Tryz.ntmps68
  go_upto_region 1 with (fail)
  rw [← hw0]
  clear hw0
  go_wp2_with (fail)
  refine HNF.out.mono ?_
  rintro e w1 ⟨A1, c1, rfl, own1, bel1⟩
  have B1 := Lib.hid (HB0.out.trans (bel1.mono HB0.out.size))
  have HSO := Lib.hid (setOf_any A1 c1 (markL 0 N.l.length) w1 (RdI.of_own own1) (by have := HML.out; omega) HMI.out)
  clear own1 bel1 y0 y1 y2
  generalize markL 0 N.l.length = ks at *
  go_wp2_with (fail)
  refine HSO.out.mono ?_
  rintro e w2 ⟨rfl, rfl⟩
  go_wp2
  go_ret
  exact ⟨ret_u64 HSE.out, B1.out⟩
/-- What combining gives. -/
def cbAndV (N : Nt) (x : Int) (S : Nat) : List Int := if kgB N x = true then lkS (andU S (setsL N x) (setsL N x).length) else []
set_option maxRecDepth 100000 in
set_option maxHeartbeats 1000000 in
theorem combAnd_any (h : NH) (N : Nt) (x : Int) (S : Nat) (w : World) (hS : S < 18446744073709551616) (r : RdN w w.heap.size h N) (sm : SmallN N) (ht : Arit w) (hu : Dual w) (hT : Tz w) :
    Calls Tryz.prog 67 #[.agg #[.slice h.A N.w.length h.c, .slice h.L N.l.length h.d, .slice h.C N.c.length h.e], .int .i64 x, .int .u64 S, .func (.func 69) #[] #[]] w (GivesB w (cbAndV N x S) (kgB N x)) := by
  obtain ⟨w0, hw0⟩ : ∃ w0, w0 = w.alloc (.cells #[.slice h.A N.w.length h.c, .slice h.L N.l.length h.d, .slice h.C N.c.length h.e] 30) := ⟨_, rfl⟩
  obtain ⟨hb, g0, hsz⟩ := box3_any w (.slice h.A N.w.length h.c) (.slice h.L N.l.length h.d) (.slice h.C N.c.length h.e) 30
  rw [← hw0] at hb g0 hsz
  have HKF := Lib.hid (fun (wx : World) (hx : Below w0.heap.size w0 wx) => three_cells ((hx.block w.heap.size (by omega)).trans g0))
  have HR := Lib.hid (fun (wx : World) (hx : Below w0.heap.size w0 wx) => show RdN wx wx.heap.size h N from (r.below (hb.trans (hx.mono hb.size))).more (Nat.le_trans hb.size hx.size))
  have HTZ := Lib.hid (fun (wx : World) (hx : Below w0.heap.size w0 wx) => show Tz wx from (hT.below hb hT.lt).below hx (Nat.lt_of_lt_of_le hT.lt hb.size))
  have HT := Lib.hid (fun (wx : World) (hx : Below w0.heap.size w0 wx) => show Arit wx from (ht.below hb ht.lt).below hx (Nat.lt_of_lt_of_le ht.lt hb.size))
  have HU := Lib.hid (fun (wx : World) (hx : Below w0.heap.size w0 wx) => show Dual wx from (hu.below hb hu.lt).below hx (Nat.lt_of_lt_of_le hu.lt hb.size))
  have HB0 := Lib.hid hb
  obtain ⟨y0, y1, y2⟩ := HKF.out _ (Below.refl _ w0)
  have HKG := Lib.hid (hasKingdom_any h N x w0 (HR.out _ (Below.refl _ _)) sm (HT.out _ (Below.refl _ _)) (HU.out _ (Below.refl _ _)))
  clear hb g0 hsz r sm ht hu hT
  cases hkg : kgB N x with
  | false =>
    rw [hkg] at HKG
    have HE : Hid (cbAndV N x S = []) := Lib.hid (by unfold cbAndV; rw [if_neg (by rw [hkg]; decide)])
    rw [HE.out]
    clear hkg
    go_enter Tryz.func67, Tryz.ntmps67
    go_upto_region 1 with (fail)
    rw [← hw0]
    clear hw0
    go_wp2_with (fail)
    refine HKG.out.mono ?_
    rintro e w1 ⟨rfl, bel1⟩
    have HG := Lib.hid (givesB_none (HB0.out.trans (bel1.mono HB0.out.size)))
    clear bel1 y0 y1 y2
    go_wp2
    go_ret2
    exact HG.out
  | true =>
    rw [hkg] at HKG
    obtain ⟨hv, _, h10, hx⟩ := kgB_yes hkg
    have HE : Hid (cbAndV N x S = lkS (andU S (setsL N x) (setsL N x).length)) := Lib.hid (by unfold cbAndV; rw [if_pos hkg])
    have HW := Lib.hid (fun (wx : World) (hx : Below w0.heap.size w0 wx) => wiredNetOf_any h N wx hv (HR.out wx hx))
    have HSS := Lib.hid (fun (P Q : Option Addr) (c d : Nat) (wx : World) (hw : Below w0.heap.size w0 wx) (rr : RdWr wx h N P Q) => subnetSets_any h N P Q c d x wx hv h10 hx rr (HT.out wx hw) (HU.out wx hw) (HTZ.out wx hw))
    have HSL : Hid (∀ s ∈ setsL N x, s < 18446744073709551616) := Lib.hid fun s hs => by
      have h1 : s < 2 ^ N.l.length := setU_lt hs
      have := pow_le10 h10
      omega
    have hsl := setsL_len x h10
    have HOP := Lib.hid (fun (s t : Nat) (wx : World) (h1 : s < 18446744073709551616) (h2 : t < 18446744073709551616) => inter_any s t wx h1 h2)
    have HLT : Hid (∀ k, andU S (setsL N x) k < 18446744073709551616) := Lib.hid (andU_lt hS HSL.out)
    have HLK := Lib.hid (fun (wx : World) (hw : Below w0.heap.size w0 wx) => links_any (andU S (setsL N x) (setsL N x).length) wx (HLT.out _) (HTZ.out wx hw))
    have hS0 : ((S : Nat) : Int) = ((andU S (setsL N x) 0 : Nat) : Int) := rfl
    have HS0 := Lib.hid hS0
    clear hkg hv hx hS0
    obtain ⟨SL, hSL⟩ : ∃ L, setsL N x = L := ⟨_, rfl⟩
    rw [hSL] at HE HSS HSL hsl HLT HLK HS0
    have HSTEP := Lib.hid (fun (k : Nat) (hk : k < SL.length) => andU_succ (S := S) hk)
    have HVE : Hid (∀ L : List Int, L = lkS (andU S SL SL.length) → cbAndV N x S = L) := Lib.hid fun L e => HE.out.trans e.symm
    clear hSL
    go_enter Tryz.func67, Tryz.ntmps67
    go_upto_region 1 with (fail)
    rw [← hw0]
    clear hw0
    go_wp2_with (fail)
    refine HKG.out.mono ?_
    rintro e w1 ⟨rfl, bel1⟩
    have B1 := Lib.hid bel1
    clear bel1 y0 y1 y2
    obtain ⟨y0, y1, y2⟩ := HKF.out _ B1.out
    go_wp2_with (fail)
    refine (HW.out w1 B1.out).mono ?_
    rintro e w2 ⟨P, Q, cP, cQ, rfl, rw2, fp, fq, bel2⟩
    have B2 := Lib.hid (B1.out.trans (bel2.mono B1.out.size))
    have RW := Lib.hid rw2
    clear rw2 fp fq bel2 y0 y1 y2
    go_wp2_with (fail)
    refine (HSS.out P Q cP cQ w2 B2.out RW.out).mono ?_
    rintro e w3 ⟨A3, c3, rfl, own3, bel3⟩
    have B3 := Lib.hid (B2.out.trans (bel3.mono B2.out.size))
    have O3 := Lib.hid own3
    clear own3 bel3
    go_wp2
    go_loopw [2, 21] (fun v i wx => ∃ k : Nat, k ≤ SL.length ∧ i = .int .i64 k ∧ v = .int .u64 ((andU S SL k : Nat) : Int) ∧ wx = w3) (fun _ i _ => SL.length - (intOf i).toNat)
    case atStart => exact ⟨0, Nat.zero_le _, rfl, by rw [HS0.out], rfl⟩
    case round =>
      obtain ⟨k, hk, rfl, rfl, rfl⟩ := hrel
      by_cases hlt : k < SL.length
      · obtain ⟨g, cap, hv', hlo, hhi⟩ := O3.out.form (by omega)
        have hA : A3 = some ⟨g, 0, none⟩ := by injection hv' with a b c
        subst hA
        have x0 := (O3.out.cellAt (g := g) k (by omega)).trans (clU_at hlt)
        have HOX := Lib.hid (fun wx => HOP.out (andU S SL k) (SL.getD k 0) wx (HLT.out k) (HSL.out _ (getL_mem (d := (0 : Nat)) hlt)))
        have HST := Lib.hid (HSTEP.out k hlt)
        have hki : (k : Int) < (SL.length : Int) := by omega
        clear hv' hlo hhi
        obtain ⟨q, hq⟩ : ∃ q, q = andU S SL k &&& SL.getD k 0 := ⟨_, rfl⟩
        rw [← hq] at HOX HST
        clear hq
        generalize SL.getD k 0 = s at *
        generalize andU S SL k = t at *
        go_wp2_with (fail)
        refine (HOX.out _).mono ?_
        rintro e w4 ⟨rfl, rfl⟩
        go_wp2
        go_roundw
        case rel => exact ⟨k + 1, by omega, by go_num, by rw [HST.out], by first | rfl | trivial⟩
        case measure => simp [intOf]; omega
      · have hkk : k = SL.length := by omega
        subst hkk
        go_wp2_with (fail)
        refine (HLK.out _ B3.out).mono ?_
        rintro e w5 ⟨A5, c5, rfl, own5, bel5⟩
        have HG : Hid (GivesB w (cbAndV N x S) true (.returned (.tuple #[.slice A5 (lkS (andU S SL SL.length)).length c5, .bool true])) w5) := Lib.hid (by
          rw [HVE.out _ rfl]
          exact ⟨A5, c5, rfl, own5.mono (Nat.le_trans HB0.out.size B3.out.size), HB0.out.trans ((B3.out.trans (bel5.mono B3.out.size)).mono HB0.out.size)⟩)
        clear own5 bel5
        generalize (lkS (andU S SL SL.length)).length = q at *
        go_wp2
        go_ret2
        exact HG.out
/-- What combining gives. -/
def cbOrV (N : Nt) (x : Int) (S : Nat) : List Int := if kgB N x = true then lkS (iorU S (setsL N x) (setsL N x).length) else []
set_option maxRecDepth 100000 in
set_option maxHeartbeats 1000000 in
theorem combOr_any (h : NH) (N : Nt) (x : Int) (S : Nat) (w : World) (hS : S < 18446744073709551616) (r : RdN w w.heap.size h N) (sm : SmallN N) (ht : Arit w) (hu : Dual w) (hT : Tz w) :
    Calls Tryz.prog 67 #[.agg #[.slice h.A N.w.length h.c, .slice h.L N.l.length h.d, .slice h.C N.c.length h.e], .int .i64 x, .int .u64 S, .func (.func 71) #[] #[]] w (GivesB w (cbOrV N x S) (kgB N x)) := by
  obtain ⟨w0, hw0⟩ : ∃ w0, w0 = w.alloc (.cells #[.slice h.A N.w.length h.c, .slice h.L N.l.length h.d, .slice h.C N.c.length h.e] 30) := ⟨_, rfl⟩
  obtain ⟨hb, g0, hsz⟩ := box3_any w (.slice h.A N.w.length h.c) (.slice h.L N.l.length h.d) (.slice h.C N.c.length h.e) 30
  rw [← hw0] at hb g0 hsz
  have HKF := Lib.hid (fun (wx : World) (hx : Below w0.heap.size w0 wx) => three_cells ((hx.block w.heap.size (by omega)).trans g0))
  have HR := Lib.hid (fun (wx : World) (hx : Below w0.heap.size w0 wx) => show RdN wx wx.heap.size h N from (r.below (hb.trans (hx.mono hb.size))).more (Nat.le_trans hb.size hx.size))
  have HTZ := Lib.hid (fun (wx : World) (hx : Below w0.heap.size w0 wx) => show Tz wx from (hT.below hb hT.lt).below hx (Nat.lt_of_lt_of_le hT.lt hb.size))
  have HT := Lib.hid (fun (wx : World) (hx : Below w0.heap.size w0 wx) => show Arit wx from (ht.below hb ht.lt).below hx (Nat.lt_of_lt_of_le ht.lt hb.size))
  have HU := Lib.hid (fun (wx : World) (hx : Below w0.heap.size w0 wx) => show Dual wx from (hu.below hb hu.lt).below hx (Nat.lt_of_lt_of_le hu.lt hb.size))
  have HB0 := Lib.hid hb
  obtain ⟨y0, y1, y2⟩ := HKF.out _ (Below.refl _ w0)
  have HKG := Lib.hid (hasKingdom_any h N x w0 (HR.out _ (Below.refl _ _)) sm (HT.out _ (Below.refl _ _)) (HU.out _ (Below.refl _ _)))
  clear hb g0 hsz r sm ht hu hT
  cases hkg : kgB N x with
  | false =>
    rw [hkg] at HKG
    have HE : Hid (cbOrV N x S = []) := Lib.hid (by unfold cbOrV; rw [if_neg (by rw [hkg]; decide)])
    rw [HE.out]
    clear hkg
    go_enter Tryz.func67, Tryz.ntmps67
    go_upto_region 1 with (fail)
    rw [← hw0]
    clear hw0
    go_wp2_with (fail)
    refine HKG.out.mono ?_
    rintro e w1 ⟨rfl, bel1⟩
    have HG := Lib.hid (givesB_none (HB0.out.trans (bel1.mono HB0.out.size)))
    clear bel1 y0 y1 y2
    go_wp2
    go_ret2
    exact HG.out
  | true =>
    rw [hkg] at HKG
    obtain ⟨hv, _, h10, hx⟩ := kgB_yes hkg
    have HE : Hid (cbOrV N x S = lkS (iorU S (setsL N x) (setsL N x).length)) := Lib.hid (by unfold cbOrV; rw [if_pos hkg])
    have HW := Lib.hid (fun (wx : World) (hx : Below w0.heap.size w0 wx) => wiredNetOf_any h N wx hv (HR.out wx hx))
    have HSS := Lib.hid (fun (P Q : Option Addr) (c d : Nat) (wx : World) (hw : Below w0.heap.size w0 wx) (rr : RdWr wx h N P Q) => subnetSets_any h N P Q c d x wx hv h10 hx rr (HT.out wx hw) (HU.out wx hw) (HTZ.out wx hw))
    have HSL : Hid (∀ s ∈ setsL N x, s < 18446744073709551616) := Lib.hid fun s hs => by
      have h1 : s < 2 ^ N.l.length := setU_lt hs
      have := pow_le10 h10
      omega
    have hsl := setsL_len x h10
    have HOP := Lib.hid (fun (s t : Nat) (wx : World) (h1 : s < 18446744073709551616) (h2 : t < 18446744073709551616) => union_any s t wx h1 h2)
    have HLT : Hid (∀ k, iorU S (setsL N x) k < 18446744073709551616) := Lib.hid (iorU_lt hS HSL.out)
    have HLK := Lib.hid (fun (wx : World) (hw : Below w0.heap.size w0 wx) => links_any (iorU S (setsL N x) (setsL N x).length) wx (HLT.out _) (HTZ.out wx hw))
    have hS0 : ((S : Nat) : Int) = ((iorU S (setsL N x) 0 : Nat) : Int) := rfl
    have HS0 := Lib.hid hS0
    clear hkg hv hx hS0
    obtain ⟨SL, hSL⟩ : ∃ L, setsL N x = L := ⟨_, rfl⟩
    rw [hSL] at HE HSS HSL hsl HLT HLK HS0
    have HSTEP := Lib.hid (fun (k : Nat) (hk : k < SL.length) => iorU_succ (S := S) hk)
    have HVE : Hid (∀ L : List Int, L = lkS (iorU S SL SL.length) → cbOrV N x S = L) := Lib.hid fun L e => HE.out.trans e.symm
    clear hSL
    go_enter Tryz.func67, Tryz.ntmps67
    go_upto_region 1 with (fail)
    rw [← hw0]
    clear hw0
    go_wp2_with (fail)
    refine HKG.out.mono ?_
    rintro e w1 ⟨rfl, bel1⟩
    have B1 := Lib.hid bel1
    clear bel1 y0 y1 y2
    obtain ⟨y0, y1, y2⟩ := HKF.out _ B1.out
    go_wp2_with (fail)
    refine (HW.out w1 B1.out).mono ?_
    rintro e w2 ⟨P, Q, cP, cQ, rfl, rw2, fp, fq, bel2⟩
    have B2 := Lib.hid (B1.out.trans (bel2.mono B1.out.size))
    have RW := Lib.hid rw2
    clear rw2 fp fq bel2 y0 y1 y2
    go_wp2_with (fail)
    refine (HSS.out P Q cP cQ w2 B2.out RW.out).mono ?_
    rintro e w3 ⟨A3, c3, rfl, own3, bel3⟩
    have B3 := Lib.hid (B2.out.trans (bel3.mono B2.out.size))
    have O3 := Lib.hid own3
    clear own3 bel3
    go_wp2
    go_loopw [2, 21] (fun v i wx => ∃ k : Nat, k ≤ SL.length ∧ i = .int .i64 k ∧ v = .int .u64 ((iorU S SL k : Nat) : Int) ∧ wx = w3) (fun _ i _ => SL.length - (intOf i).toNat)
    case atStart => exact ⟨0, Nat.zero_le _, rfl, by rw [HS0.out], rfl⟩
    case round =>
      obtain ⟨k, hk, rfl, rfl, rfl⟩ := hrel
      by_cases hlt : k < SL.length
      · obtain ⟨g, cap, hv', hlo, hhi⟩ := O3.out.form (by omega)
        have hA : A3 = some ⟨g, 0, none⟩ := by injection hv' with a b c
        subst hA
        have x0 := (O3.out.cellAt (g := g) k (by omega)).trans (clU_at hlt)
        have HOX := Lib.hid (fun wx => HOP.out (iorU S SL k) (SL.getD k 0) wx (HLT.out k) (HSL.out _ (getL_mem (d := (0 : Nat)) hlt)))
        have HST := Lib.hid (HSTEP.out k hlt)
        have hki : (k : Int) < (SL.length : Int) := by omega
        clear hv' hlo hhi
        obtain ⟨q, hq⟩ : ∃ q, q = iorU S SL k ||| SL.getD k 0 := ⟨_, rfl⟩
        rw [← hq] at HOX HST
        clear hq
        generalize SL.getD k 0 = s at *
        generalize iorU S SL k = t at *
        go_wp2_with (fail)
        refine (HOX.out _).mono ?_
        rintro e w4 ⟨rfl, rfl⟩
        go_wp2
        go_roundw
        case rel => exact ⟨k + 1, by omega, by go_num, by rw [HST.out], by first | rfl | trivial⟩
        case measure => simp [intOf]; omega
      · have hkk : k = SL.length := by omega
        subst hkk
        go_wp2_with (fail)
        refine (HLK.out _ B3.out).mono ?_
        rintro e w5 ⟨A5, c5, rfl, own5, bel5⟩
        have HG : Hid (GivesB w (cbOrV N x S) true (.returned (.tuple #[.slice A5 (lkS (iorU S SL SL.length)).length c5, .bool true])) w5) := Lib.hid (by
          rw [HVE.out _ rfl]
          exact ⟨A5, c5, rfl, own5.mono (Nat.le_trans HB0.out.size B3.out.size), HB0.out.trans ((B3.out.trans (bel5.mono B3.out.size)).mono HB0.out.size)⟩)
        clear own5 bel5
        generalize (lkS (iorU S SL SL.length)).length = q at *
        go_wp2
        go_ret2
        exact HG.out
set_option maxRecDepth 100000 in
set_option maxHeartbeats 1000000 in
theorem empireOf_impl (h : NH) (N : Nt) (x : Int) (w : World) (r : RdN w w.heap.size h N) (sm : SmallN N) (ht : Arit w) (hu : Dual w) (hT : Tz w) :
    Calls Tryz.prog 33 #[.agg #[.slice h.A N.w.length h.c, .slice h.L N.l.length h.d, .slice h.C N.c.length h.e], .int .i64 x] w (GivesB w (emV N x) (kgB N x)) := by
  obtain ⟨w0, hw0⟩ : ∃ w0, w0 = w.alloc (.cells #[.slice h.A N.w.length h.c, .slice h.L N.l.length h.d, .slice h.C N.c.length h.e] 30) := ⟨_, rfl⟩
  obtain ⟨hb, g0, hsz⟩ := box3_any w (.slice h.A N.w.length h.c) (.slice h.L N.l.length h.d) (.slice h.C N.c.length h.e) 30
  rw [← hw0] at hb g0 hsz
  have HKF := Lib.hid (fun (wx : World) (hx : Below w0.heap.size w0 wx) => three_cells ((hx.block w.heap.size (by omega)).trans g0))
  have HR := Lib.hid (fun (wx : World) (hx : Below w0.heap.size w0 wx) => show RdN wx wx.heap.size h N from (r.below (hb.trans (hx.mono hb.size))).more (Nat.le_trans hb.size hx.size))
  have HTZ := Lib.hid (fun (wx : World) (hx : Below w0.heap.size w0 wx) => show Tz wx from (hT.below hb hT.lt).below hx (Nat.lt_of_lt_of_le hT.lt hb.size))
  have HT := Lib.hid (fun (wx : World) (hx : Below w0.heap.size w0 wx) => show Arit wx from (ht.below hb ht.lt).below hx (Nat.lt_of_lt_of_le ht.lt hb.size))
  have HU := Lib.hid (fun (wx : World) (hx : Below w0.heap.size w0 wx) => show Dual wx from (hu.below hb hu.lt).below hx (Nat.lt_of_lt_of_le hu.lt hb.size))
  have HB0 := Lib.hid hb
  obtain ⟨y0, y1, y2⟩ := HKF.out _ (Below.refl _ w0)
  have HSO := Lib.hid (fun (wx : World) => setOf_any none 0 [] wx ⟨rfl, fun hn => absurd hn (by simp)⟩ (by simp) (fun x hx => by cases hx))
  have HCB := Lib.hid (fun (wx : World) (hx : Below w0.heap.size w0 wx) => combOr_any h N x (0) wx (by decide) (HR.out wx hx) sm (HT.out wx hx) (HU.out wx hx) (HTZ.out wx hx))
  have HV : Hid (cbOrV N x (0) = emV N x) := Lib.hid (by
    unfold cbOrV emV
    cases hk : kgB N x with
    | false => rw [if_neg (by decide), if_neg (by decide)]
    | true => rw [if_pos rfl, if_pos rfl]; exact em_prog x (kgB_yes hk).2.2.1)
  rw [HV.out] at HCB
  have K0 := Lib.hid (HKF.out _ (Below.refl _ w0))
  have BD : Hid (Below w0.heap.size w0 w0.drew) := Lib.hid ((Below.refl w0.heap.size w0).drew)
  clear hb g0 hsz r ht hu hT
  generalize kgB N x = p at *
  go_enter Tryz.func33, Tryz.ntmps33
  go_upto_region 1 with (fail)
  rw [← hw0]
  clear hw0 y0 y1 y2
  go_region_held3 (fun wx => wx.cell? ⟨w.heap.size, 0, none⟩ = some (.slice h.A N.w.length h.c) ∧ wx.cell? ⟨w.heap.size, 1, none⟩ = some (.slice h.L N.l.length h.d) ∧ wx.cell? ⟨w.heap.size, 2, none⟩ = some (.slice h.C N.c.length h.e))
    (first | with_reducible exact K0.out | with_reducible exact HKF.out _ BD.out | with_reducible exact HKF.out _ B1.out | with_reducible exact HKF.out _ B2.out)
    (first
      | (go_at_call 70; refine (HSO.out w0.drew).mono ?_; rintro e u1 ⟨rfl, hw1⟩; have B1 : Hid (Below w0.heap.size w0 u1) := Lib.hid (hw1 ▸ BD.out); clear hw1)
      | (go_at_call 67; refine (HCB.out u1 B1.out).mono ?_; rintro e u2 ⟨A2, c2, rfl, own2, bel2⟩; have B2 := Lib.hid (B1.out.trans (bel2.mono B1.out.size)); have O2 := Lib.hid own2; clear own2 bel2))
  all_goals
    have HG : Hid (GivesB w (emV N x) p (.returned (.tuple #[.slice A2 (emV N x).length c2, .bool p])) u2) := Lib.hid ⟨A2, c2, rfl, O2.out.mono (Nat.le_trans HB0.out.size B1.out.size), HB0.out.trans (B2.out.mono HB0.out.size)⟩
    go_wp2
    go_ret2
    exact HG.out
set_option maxRecDepth 100000 in
set_option maxHeartbeats 1000000 in
theorem kingdomOf_impl (h : NH) (N : Nt) (x : Int) (w : World) (r : RdN w w.heap.size h N) (sm : SmallN N) (ht : Arit w) (hu : Dual w) (hT : Tz w) :
    Calls Tryz.prog 31 #[.agg #[.slice h.A N.w.length h.c, .slice h.L N.l.length h.d, .slice h.C N.c.length h.e], .int .i64 x] w (GivesB w (kgV N x) (kgB N x)) := by
  obtain ⟨w0, hw0⟩ : ∃ w0, w0 = w.alloc (.cells #[.slice h.A N.w.length h.c, .slice h.L N.l.length h.d, .slice h.C N.c.length h.e] 30) := ⟨_, rfl⟩
  obtain ⟨hb, g0, hsz⟩ := box3_any w (.slice h.A N.w.length h.c) (.slice h.L N.l.length h.d) (.slice h.C N.c.length h.e) 30
  rw [← hw0] at hb g0 hsz
  have HKF := Lib.hid (fun (wx : World) (hx : Below w0.heap.size w0 wx) => three_cells ((hx.block w.heap.size (by omega)).trans g0))
  have HR := Lib.hid (fun (wx : World) (hx : Below w0.heap.size w0 wx) => show RdN wx wx.heap.size h N from (r.below (hb.trans (hx.mono hb.size))).more (Nat.le_trans hb.size hx.size))
  have HTZ := Lib.hid (fun (wx : World) (hx : Below w0.heap.size w0 wx) => show Tz wx from (hT.below hb hT.lt).below hx (Nat.lt_of_lt_of_le hT.lt hb.size))
  have HT := Lib.hid (fun (wx : World) (hx : Below w0.heap.size w0 wx) => show Arit wx from (ht.below hb ht.lt).below hx (Nat.lt_of_lt_of_le ht.lt hb.size))
  have HU := Lib.hid (fun (wx : World) (hx : Below w0.heap.size w0 wx) => show Dual wx from (hu.below hb hu.lt).below hx (Nat.lt_of_lt_of_le hu.lt hb.size))
  have HB0 := Lib.hid hb
  obtain ⟨y0, y1, y2⟩ := HKF.out _ (Below.refl _ w0)
  have HAL := Lib.hid (fun (wx : World) => allLinks_any h N _ wx (Nat.le_trans sm.l (by decide)) rfl)
  have HCB := Lib.hid (fun (wx : World) (hx : Below w0.heap.size w0 wx) => combAnd_any h N x (orS (markL 0 N.l.length)) wx (orS_lt _) (HR.out wx hx) sm (HT.out wx hx) (HU.out wx hx) (HTZ.out wx hx))
  have HV : Hid (cbAndV N x (orS (markL 0 N.l.length)) = kgV N x) := Lib.hid (by
    unfold cbAndV kgV
    cases hk : kgB N x with
    | false => rw [if_neg (by decide), if_neg (by decide)]
    | true => rw [if_pos rfl, if_pos rfl]; exact kg_prog x (kgB_yes hk).2.2.1)
  rw [HV.out] at HCB
  have K0 := Lib.hid (HKF.out _ (Below.refl _ w0))
  have BD : Hid (Below w0.heap.size w0 w0.drew) := Lib.hid ((Below.refl w0.heap.size w0).drew)
  clear hb g0 hsz r ht hu hT
  generalize kgB N x = p at *
  go_enter Tryz.func31, Tryz.ntmps31
  go_upto_region 1 with (fail)
  rw [← hw0]
  clear hw0 y0 y1 y2
  go_region_held3 (fun wx => wx.cell? ⟨w.heap.size, 0, none⟩ = some (.slice h.A N.w.length h.c) ∧ wx.cell? ⟨w.heap.size, 1, none⟩ = some (.slice h.L N.l.length h.d) ∧ wx.cell? ⟨w.heap.size, 2, none⟩ = some (.slice h.C N.c.length h.e))
    (first | with_reducible exact K0.out | with_reducible exact HKF.out _ BD.out | with_reducible exact HKF.out _ B1.out | with_reducible exact HKF.out _ B2.out)
    (first
      | (go_at_call 68; refine (HAL.out w0.drew).mono ?_; rintro e u1 ⟨rfl, bel1⟩; have B1 := Lib.hid (BD.out.trans (bel1.mono BD.out.size)); clear bel1)
      | (go_at_call 67; refine (HCB.out u1 B1.out).mono ?_; rintro e u2 ⟨A2, c2, rfl, own2, bel2⟩; have B2 := Lib.hid (B1.out.trans (bel2.mono B1.out.size)); have O2 := Lib.hid own2; clear own2 bel2))
  all_goals
    have HG : Hid (GivesB w (kgV N x) p (.returned (.tuple #[.slice A2 (kgV N x).length c2, .bool p])) u2) := Lib.hid ⟨A2, c2, rfl, O2.out.mono (Nat.le_trans HB0.out.size B1.out.size), HB0.out.trans (B2.out.mono HB0.out.size)⟩
    go_wp2
    go_ret2
    exact HG.out
theorem ik_is {N : Nt} {x y : Int} (h : kgB N y = true) : decide (srcN N x ∈ kgV N y) = (inW N.w.length x && kgK N y (frN N x)) := by
  obtain ⟨hv, _, h10, _⟩ := kgB_yes h
  unfold kgV
  rw [if_pos h]
  cases hx : inW N.w.length x with
  | false =>
    rw [lxOut_val hv hx]
    refine decide_eq_false fun hm => ?_
    obtain ⟨j, _, _, e⟩ := selU_mem.1 hm
    omega
  | true =>
    rw [srcN_lx hv, (fr_lt hv hx).1, Bool.true_and, Bool.eq_iff_iff, decide_eq_true_eq, selU_mem]
    constructor
    · rintro ⟨j, _, h2, e⟩; rwa [show frN N x = j by omega]
    · intro h2; exact ⟨_, (fr_lt hv hx).2, h2, rfl⟩
set_option maxRecDepth 100000 in
set_option maxHeartbeats 1000000 in
theorem inKingdom_impl (h : NH) (N : Nt) (x y : Int) (w : World) (r : RdN w w.heap.size h N) (sm : SmallN N) (ht : Arit w) (hu : Dual w) (hT : Tz w) :
    Calls Tryz.prog 37 #[.agg #[.slice h.A N.w.length h.c, .slice h.L N.l.length h.d, .slice h.C N.c.length h.e], .int .i64 x, .int .i64 y] w fun e w' => e = .returned (.bool (ikB N x y)) ∧ Below w.heap.size w w' := by
  obtain ⟨w0, hw0⟩ : ∃ w0, w0 = w.alloc (.cells #[.slice h.A N.w.length h.c, .slice h.L N.l.length h.d, .slice h.C N.c.length h.e] 30) := ⟨_, rfl⟩
  obtain ⟨hb, g0, hsz⟩ := box3_any w (.slice h.A N.w.length h.c) (.slice h.L N.l.length h.d) (.slice h.C N.c.length h.e) 30
  rw [← hw0] at hb g0 hsz
  have HKF := Lib.hid (fun (wx : World) (hx : Below w0.heap.size w0 wx) => three_cells ((hx.block w.heap.size (by omega)).trans g0))
  have HR := Lib.hid (fun (wx : World) (hx : Below w0.heap.size w0 wx) => show RdN wx wx.heap.size h N from (r.below (hb.trans (hx.mono hb.size))).more (Nat.le_trans hb.size hx.size))
  have HTZ := Lib.hid (fun (wx : World) (hx : Below w0.heap.size w0 wx) => show Tz wx from (hT.below hb hT.lt).below hx (Nat.lt_of_lt_of_le hT.lt hb.size))
  have HT := Lib.hid (fun (wx : World) (hx : Below w0.heap.size w0 wx) => show Arit wx from (ht.below hb ht.lt).below hx (Nat.lt_of_lt_of_le ht.lt hb.size))
  have HU := Lib.hid (fun (wx : World) (hx : Below w0.heap.size w0 wx) => show Dual wx from (hu.below hb hu.lt).below hx (Nat.lt_of_lt_of_le hu.lt hb.size))
  have HB0 := Lib.hid hb
  obtain ⟨y0, y1, y2⟩ := HKF.out _ (Below.refl _ w0)
  have HKD := Lib.hid (kingdomOf_impl h N y w0 (HR.out _ (Below.refl _ _)) sm (HT.out _ (Below.refl _ _)) (HU.out _ (Below.refl _ _)) (HTZ.out _ (Below.refl _ _)))
  have HSO := Lib.hid (fun (wx : World) (hx : Below w0.heap.size w0 wx) => sourceOf_impl h N x wx (HR.out wx hx) sm (HT.out wx hx) (HU.out wx hx))
  have HIK : Hid (ikB N x y = (kgB N y && (inW N.w.length x && kgK N y (frN N x)))) := Lib.hid rfl
  have HIS := Lib.hid (fun (e : kgB N y = true) => ik_is (x := x) e)
  have HLN := Lib.hid (kgV_len N y)
  clear hb g0 hsz r sm ht hu hT
  cases hkg : kgB N y with
  | false =>
    rw [hkg] at HKD HIK
    clear hkg
    go_enter Tryz.func37, Tryz.ntmps37
    go_upto_region 1 with (fail)
    rw [← hw0]
    clear hw0
    go_wp2_with (fail)
    refine HKD.out.mono ?_
    rintro e w1 ⟨A1, c1, rfl, own1, bel1⟩
    have B1 := Lib.hid (HB0.out.trans (bel1.mono HB0.out.size))
    clear own1 bel1 y0 y1 y2
    generalize (kgV N y).length = q at *
    go_wp2
    go_ret
    exact ⟨ret_bool (by rw [HIK.out]; rfl), B1.out⟩
  | true =>
    have HE : Hid (decide (srcN N x ∈ kgV N y) = ikB N x y) := Lib.hid (by rw [HIS.out hkg, HIK.out, hkg]; rfl)
    rw [hkg] at HKD
    clear hkg
    go_enter Tryz.func37, Tryz.ntmps37
    go_upto_region 1 with (fail)
    rw [← hw0]
    clear hw0
    go_wp2_with (fail)
    refine HKD.out.mono ?_
    rintro e w1 ⟨A1, c1, rfl, own1, bel1⟩
    have B1 := Lib.hid bel1
    have O1 := Lib.hid own1
    clear own1 bel1 y0 y1 y2
    obtain ⟨y0, y1, y2⟩ := HKF.out _ B1.out
    go_wp2_with (fail)
    refine (HSO.out w1 B1.out).mono ?_
    rintro e w2 ⟨rfl, bel2⟩
    have B2 := Lib.hid (HB0.out.trans ((B1.out.trans (bel2.mono B1.out.size)).mono HB0.out.size))
    have HC := Lib.hid (containsI_any A1 (kgV N y).length c1 (kgV N y) (srcN N x) w2 (RdI.of_own (own_below O1.out bel2 (Nat.le_refl _))) HLN.out)
    rw [HE.out] at HC
    clear bel2 y0 y1 y2
    generalize (kgV N y).length = q at *
    generalize srcN N x = z at *
    go_wp2_with (fail)
    refine HC.out.mono ?_
    rintro e w3 ⟨rfl, rfl⟩
    go_wp2
    go_ret
    exact ⟨rfl, B2.out⟩
end Go.Proofs.YtfdpkhiiboghiaaGreatDoor
