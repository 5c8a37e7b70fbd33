/- The model: l15Count, SubnetCount, KingdomOf, EmpireOf, InKingdom. The program's net with producers and consumers: wiredNetOf, isInBorder, isClosed. -/
import Derived.Test.YtfdpkhiiboghiaaGreatDoorKQEnB
import Derived.Maps.AppendAt
import Derived.Deep.RegionHeldLaw
import Derived.Deep.DeepCutAuto
import Derived.BigQuiet
import Derived.Test.YtfdpkhiiboghiaaGreatDoorKQEmA
namespace Go.Proofs.YtfdpkhiiboghiaaGreatDoor
set_option linter.unusedSimpArgs false
set_option linter.unusedVariables false
section
set_option linter.unusedSimpArgs false
set_option linter.unusedVariables false
open Go.ChangeAt Go.ChangeShapes Go.RowKit Go.WideShapes

/-- How many of the first lists hold a link. -/
def cnQ (L : List (List Int)) (i j : Nat) : Nat := ((L.take j).filter fun q => decide ((i : Int) ∈ q)).length
theorem cnQ_zero (L : List (List Int)) (i : Nat) : cnQ L i 0 = 0 := by unfold cnQ; rw [List.take_zero]; rfl
theorem cnQ_yes {L : List (List Int)} {i j : Nat} (h : j < L.length) (e : decide ((i : Int) ∈ L.getD j []) = true) : cnQ L i (j + 1) = cnQ L i j + 1 := by
  unfold cnQ; rw [takeL_succ (d := ([] : List Int)) h, List.filter_append, List.length_append]
  simp only [List.filter_cons, e, if_true, List.filter_nil, List.length_singleton]
theorem cnQ_no {L : List (List Int)} {i j : Nat} (h : j < L.length) (e : decide ((i : Int) ∈ L.getD j []) = false) : cnQ L i (j + 1) = cnQ L i j := by
  unfold cnQ; rw [takeL_succ (d := ([] : List Int)) h, List.filter_append, List.length_append]
  simp only [List.filter_cons, e, List.filter_nil]; rfl
theorem cnQ_le (L : List (List Int)) (i j : Nat) : cnQ L i j ≤ j := by
  unfold cnQ; refine Nat.le_trans (List.length_filter_le _ _) ?_; rw [List.length_take]; omega
theorem cnQ_is {n i j : Nat} (ss : List Nat) (hi : i < n) : cnQ (ss.map (mlS n)) i j = cnS ss i j := by
  unfold cnQ cnS
  rw [← List.map_take, List.filter_map, List.length_map]
  congr 1
  exact List.filter_congr fun s _ => ml_from hi
/-- The links that at least m of the lists hold. -/
def ctL (n m : Nat) (L : List (List Int)) : List Int := selU (fun i => decide (m ≤ cnQ L i L.length)) n
theorem ct_kg {N : Nt} {x : Int} (h : kgB N x = true) : ctL N.l.length (msL N x).length (msL N x) = kgV N x := by
  unfold ctL kgV msL msU
  rw [if_pos h, List.length_map]
  refine selU_ext fun i hi => ?_
  rw [cnQ_is _ hi]
  exact cnS_all _ i
theorem ct_em {N : Nt} {x : Int} (h : kgB N x = true) : ctL N.l.length 1 (msL N x) = emV N x := by
  unfold ctL emV msL msU
  rw [if_pos h, List.length_map]
  refine selU_ext fun i hi => ?_
  rw [cnQ_is _ hi]
  exact cnS_any _ i
theorem msL_len {N : Nt} (x : Int) (h : N.l.length ≤ 10) : (msL N x).length ≤ 1024 := by
  unfold msL; rw [msU_len]; exact setsL_len x h
theorem msL_in {N : Nt} {x : Int} (h : N.l.length ≤ 10) (q : List Int) (hq : q ∈ msL N x) : q.length ≤ 48 := by
  unfold msL msU at hq
  obtain ⟨s, _, rfl⟩ := List.mem_map.1 hq
  exact Nat.le_trans (selU_len _ _) (by omega)
set_option maxRecDepth 100000 in
set_option maxHeartbeats 1000000 in
theorem sCount_any (h : NH) (N : Nt) (A : Option Addr) (c m : Nat) (L : List (List Int)) (w : World) (hl : N.l.length ≤ 48) (hL : L.length ≤ 1024) (hLi : ∀ q ∈ L, q.length ≤ 48) (hm : m ≤ 1024) (rq : RdQ w w.heap.size A L.length L) :
    Calls Tryz.prog 66 #[.agg #[.slice h.A N.w.length h.c, .slice h.L N.l.length h.d, .slice h.C N.c.length h.e], .slice A L.length c, .int .i64 m] w (Gives w (ctL N.l.length m L)) := by
  obtain ⟨i0, hi0, hz0, hz1, hz2⟩ := info_parts info_i64
  have HI := Lib.hid hi0; have HZ0 := Lib.hid hz0; have HZ1 := Lib.hid hz1; have HZ2 := Lib.hid hz2
  obtain ⟨w0, hw0⟩ : ∃ w0, w0 = w.alloc (.cells #[.slice h.A N.w.length h.c, .slice h.L N.l.length h.d, .slice h.C N.c.length h.e] 30) := ⟨_, rfl⟩
  obtain ⟨hb, g0, hsz⟩ := box3_any w (.slice h.A N.w.length h.c) (.slice h.L N.l.length h.d) (.slice h.C N.c.length h.e) 30
  rw [← hw0] at hb g0 hsz
  have HKF := Lib.hid (fun (wx : World) (hx : Below w0.heap.size w0 wx) => three_cells ((hx.block w.heap.size (by omega)).trans g0))
  have HRQ := Lib.hid (fun (wx : World) (hx : Below w0.heap.size w0 wx) => show RdQ wx wx.heap.size A L.length L from (rq.below (hb.trans (hx.mono hb.size))).more (Nat.le_trans hb.size hx.size))
  obtain ⟨p, hp⟩ : ∃ p : Nat → Bool, p = fun i => decide (m ≤ cnQ L i L.length) := ⟨_, rfl⟩
  have HP : Hid (∀ k, p k = decide (m ≤ cnQ L k L.length)) := Lib.hid fun k => by rw [hp]
  have HE : Hid (ctL N.l.length m L = selU p N.l.length) := Lib.hid (by unfold ctL; rw [hp])
  have HLI := Lib.hid hLi
  have h0 : (w0.alloc (.cells #[] 2)).ownsRow w0.heap.size 2 1 (.slice (some ⟨w0.heap.size, 0, none⟩) 0 0) (selU p 0).length ((selU p 0).map (Value.int .i64)) := World.ownsRow_made w0 #[] 0 (Nat.le_refl _) (by simp [maxLen]) rfl
  have hb1 : Below w0.heap.size w0 (w0.alloc (.cells #[] 2)) := (Below.refl _ _).alloc (Nat.le_refl _) _
  have H0 := Lib.hid h0; have HB1 := Lib.hid hb1; have HB0 := Lib.hid hb
  obtain ⟨y0, y1, y2⟩ := HKF.out _ (Below.refl _ w0)
  clear hi0 hz0 hz1 hz2 h0 hb1 hb g0 hsz hp hLi rq
  rw [HE.out]
  go_enter Tryz.func66, Tryz.ntmps66
  go_upto_region 1 with (fail)
  rw [← hw0]
  clear hw0 y0 y1 y2
  go_wp2
  go_loopw [7, 8] (fun v i wx => ∃ k : Nat, k ≤ N.l.length ∧ i = .int .i64 k ∧ wx.ownsRow w0.heap.size 2 1 v (selU p k).length ((selU p k).map (Value.int .i64)) ∧ Below w0.heap.size w0 wx) (fun _ i _ => N.l.length - (intOf i).toNat)
  case atStart => exact ⟨0, Nat.zero_le _, rfl, H0.out, HB1.out⟩
  case round =>
    obtain ⟨k, hk, rfl, hO, hB⟩ := hrel
    clear H0 HB1
    obtain ⟨y0, y1, y2⟩ := HKF.out _ hB
    by_cases hlt : k < N.l.length
    · have hki : (k : Int) < (N.l.length : Int) := by omega
      have hln := selU_len p k
      have HO := Lib.hid hO; have HB := Lib.hid hB
      have hsz1 := hB.size
      have HC0 : Hid ((0 : Int) = ((cnQ L k 0 : Nat) : Int)) := Lib.hid (by rw [cnQ_zero]; rfl)
      clear hO hB
      go_wp2
      go_loopw [9, 10] (fun cc j wx => ∃ q : Nat, q ≤ L.length ∧ j = .int .i64 q ∧ cc = .int .i64 ((cnQ L k q : Nat) : Int) ∧ wx = wr) (fun _ j _ => L.length - (intOf j).toNat)
      case atStart => exact ⟨0, Nat.zero_le _, rfl, by rw [HC0.out], rfl⟩
      case round =>
        obtain ⟨q, hq, rfl, rfl, rfl⟩ := hrel
        by_cases hq2 : q < L.length
        · obtain ⟨b, off, hAe, hbb, hcells⟩ := (HRQ.out _ HB.out).2 (by omega)
          obtain ⟨A', c', x0, x1, x2⟩ := hcells q hq2
          have hqi : (q : Int) < (L.length : Int) := by omega
          have HHX := Lib.hid (sHasQ_any A' (L.getD q []).length c' (L.getD q []) (k : Int) _ (Nat.le_trans (HLI.out _ (getL_mem (d := ([] : List Int)) hq2)) (by decide)) x2)
          have hcl := cnQ_le L k q
          have HY := Lib.hid (fun (e : decide ((k : Int) ∈ L.getD q []) = true) => cnQ_yes (i := k) hq2 e)
          have HN := Lib.hid (fun (e : decide ((k : Int) ∈ L.getD q []) = false) => cnQ_no (i := k) hq2 e)
          generalize decide ((k : Int) ∈ L.getD q []) = has at *
          generalize (L.getD q []).length = ql at *
          clear hcells x2 HO
          subst hAe
          cases has with
          | false =>
            have HS := Lib.hid (HN.out rfl)
            clear HY HN
            generalize cnQ L k q = cc at *
            go_wp2_with (fail)
            refine HHX.out.mono ?_
            rintro e w4 ⟨rfl, rfl⟩
            go_wp2
            go_roundw
            case rel => exact ⟨q + 1, by omega, by go_num, by rw [HS.out], by first | rfl | trivial⟩
            case measure => simp [intOf]; omega
          | true =>
            have HS := Lib.hid (HY.out rfl)
            clear HY HN
            generalize cnQ L k q = cc at *
            go_wp2_with (fail)
            refine HHX.out.mono ?_
            rintro e w4 ⟨rfl, rfl⟩
            go_wp2
            go_roundw
            case rel => exact ⟨q + 1, by omega, by go_num, by rw [HS.out]; go_num, by first | rfl | trivial⟩
            case measure => simp [intOf]; omega
        · have hqq : q = L.length := by omega
          subst hqq
          have HPK := Lib.hid (HP.out k)
          generalize cnQ L k L.length = cc at *
          by_cases hge : m ≤ cc
          · have d1 : decide ((m : Int) ≤ (cc : Int)) = true := decide_eq_true (by omega)
            have d2 : decide (m ≤ cc) = true := decide_eq_true hge
            have HS := Lib.hid (selU_yes (p := p) (HPK.out.trans (decide_eq_true hge)))
            clear HPK HC0
            go_wp2_with (at_builtin; refine wpList_append_own _ rfl _ _ 24 rfl w0.heap.size 2 i0 (.int .i64 0) 1 8 Tryz.underlying24 HI.out HZ0.out HZ1.out HZ2.out rfl (by decide) _ _ _ rfl (HO.out.alloc _) ⟨wr.heap.size, 0, none⟩ 1 1 [.int .i64 k] rfl rfl ?c1 ?c2 ?c3 ?c4 ?c5 ?_)
            case c1 => exact cell_one_new _ _ _
            case c2 => intro u hu; simp at hu; subst hu; rfl
            case c3 => unfold maxLen; omega
            case c4 => omega
            case c5 => simp; omega
            intro v' w2 hown' hgrow _
            have hb2 := Lib.hid ((HB.out.alloc hsz1 (.cells #[.int .i64 k] 2)).grown hgrow (by simp; omega) (fun q hq => (HO.out.lt q hq).1))
            have hown2 : w2.ownsRow w0.heap.size 2 1 v' (selU p (k + 1)).length ((selU p (k + 1)).map (Value.int .i64)) := by
              rw [HS.out, List.length_append, List.map_append]; exact hown'
            have hown1 := Lib.hid hown2
            clear hown' hgrow hown2 hsz1
            go_wp2
            go_roundw
            case rel => exact ⟨k + 1, by omega, by go_num, hown1.out, hb2.out⟩
            case measure => simp [intOf]; omega
          · have d1 : decide ((m : Int) ≤ (cc : Int)) = false := decide_eq_false (by omega)
            have d2 : decide (m ≤ cc) = false := decide_eq_false hge
            have HS := Lib.hid (selU_no (p := p) (HPK.out.trans (decide_eq_false hge)))
            clear HPK HC0
            go_wp2
            go_roundw
            case rel => exact ⟨k + 1, by omega, by go_num, by rw [HS.out]; exact HO.out, HB.out⟩
            case measure => simp [intOf]; omega
    · have hkl : k = N.l.length := by omega
      subst hkl
      obtain ⟨A3, c3, rfl⟩ := own_shape hO
      have HG : Hid (Gives w (selU p N.l.length) (.returned (.slice A3 (selU p N.l.length).length c3)) wr) := Lib.hid ⟨A3, c3, rfl, hO.mono HB0.out.size, HB0.out.trans (hB.mono HB0.out.size)⟩
      clear hO hB
      generalize (selU p N.l.length).length = ql at *
      go_wp2
      go_ret
      exact HG.out
set_option maxRecDepth 100000 in
set_option maxHeartbeats 1000000 in
theorem sSubnetCount_any (h : NH) (N : Nt) (x : Int) (w : World) (r : RdN w w.heap.size h N) (hn : N.w.length ≤ 1048576) (hl : N.l.length ≤ 1048576) (hc : N.c.length ≤ 1048576) :
    Calls Tryz.prog 28 #[.agg #[.slice h.A N.w.length h.c, .slice h.L N.l.length h.d, .slice h.C N.c.length h.e], .int .i64 x] w fun e w' => e = .returned (.int .i64 (scX N x)) ∧ Below w.heap.size w w' := by
  obtain ⟨w0, hw0⟩ : ∃ w0, w0 = w.alloc (.cells #[.slice h.A N.w.length h.c, .slice h.L N.l.length h.d, .slice h.C N.c.length h.e] 30) := ⟨_, rfl⟩
  obtain ⟨hb, g0, hsz⟩ := box3_any w (.slice h.A N.w.length h.c) (.slice h.L N.l.length h.d) (.slice h.C N.c.length h.e) 30
  rw [← hw0] at hb g0 hsz
  have HKF := Lib.hid (fun (wx : World) (hx : Below w0.heap.size w0 wx) => three_cells ((hx.block w.heap.size (by omega)).trans g0))
  have HR := Lib.hid (fun (wx : World) (hx : Below w0.heap.size w0 wx) => show RdN wx wx.heap.size h N from (r.below (hb.trans (hx.mono hb.size))).more (Nat.le_trans hb.size hx.size))
  have HSM := Lib.hid (sSmall_any h N x w0 (HR.out _ (Below.refl _ _)) hn hl hc)
  have HB0 := Lib.hid hb
  obtain ⟨y0, y1, y2⟩ := HKF.out _ (Below.refl _ w0)
  clear hb g0 hsz r hn hc
  cases hkg : kgB N x with
  | false =>
    have HE : Hid (scX N x = -1) := Lib.hid (by unfold scX; rw [hkg, if_neg (by decide)])
    rw [hkg] at HSM
    clear hkg
    go_enter Tryz.func28, Tryz.ntmps28
    go_upto_region 1 with (fail)
    rw [← hw0]
    clear hw0
    go_wp2_with (fail)
    refine HSM.out.mono ?_
    rintro e w1 ⟨rfl, bel1⟩
    have B1 := Lib.hid (HB0.out.trans (bel1.mono HB0.out.size))
    clear bel1 y0 y1 y2
    go_wp2
    go_ret
    exact ⟨ret_i64 HE.out.symm, B1.out⟩
  | true =>
    obtain ⟨hv, _, h10, hx⟩ := kgB_yes hkg
    have HE : Hid (((msL N x).length : Int) = scX N x) := Lib.hid (by unfold scX msL; rw [hkg, if_pos rfl, msU_len]; rfl)
    have HSS := Lib.hid (fun (wx : World) (hw : Below w0.heap.size w0 wx) => sSets_any h N x wx hv h10 hx (HR.out wx hw))
    rw [hkg] at HSM
    clear hkg
    go_enter Tryz.func28, Tryz.ntmps28
    go_upto_region 1 with (fail)
    rw [← hw0]
    clear hw0
    go_wp2_with (fail)
    refine HSM.out.mono ?_
    rintro e w1 ⟨rfl, bel1⟩
    have B1 := Lib.hid bel1
    clear bel1 y0 y1 y2
    obtain ⟨y0, y1, y2⟩ := HKF.out _ B1.out
    go_wp2_with (fail)
    refine (HSS.out w1 B1.out).mono ?_
    rintro e w2 ⟨hs, A2, c2, rfl, own2, bel2⟩
    have B2 := Lib.hid (HB0.out.trans ((B1.out.trans (bel2.mono B1.out.size)).mono HB0.out.size))
    clear own2 bel2 y0 y1 y2
    generalize (msL N x).length = q at *
    go_wp2
    go_ret
    exact ⟨ret_i64 HE.out, B2.out⟩
theorem givesB_made {w w0 w1 : World} (hb : Below w.heap.size w w0) (h1 : Below w0.heap.size w0 w1) : GivesB w [] false (.returned (.tuple #[.slice (some ⟨w1.heap.size, 0, none⟩) 0 0, .bool false])) (w1.alloc (.cells #[] 2)) :=
  ⟨_, _, rfl, World.ownsRow_made w1 #[] 0 (Nat.le_trans hb.size h1.size) (by simp [maxLen]) rfl, (hb.trans (h1.mono hb.size)).alloc (Nat.le_trans hb.size h1.size) _⟩
set_option maxRecDepth 100000 in
set_option maxHeartbeats 1000000 in
theorem sKingdomOf_any (h : NH) (N : Nt) (x : Int) (w : World) (r : RdN w w.heap.size h N) (hn : N.w.length ≤ 1048576) (hl : N.l.length ≤ 1048576) (hc : N.c.length ≤ 1048576) :
    Calls Tryz.prog 30 #[.agg #[.slice h.A N.w.length h.c, .slice h.L N.l.length h.d, .slice h.C N.c.length h.e], .int .i64 x] w (GivesB w (kgV N x) (kgB N x)) := by
  obtain ⟨w0, hw0⟩ : ∃ w0, w0 = w.alloc (.cells #[.slice h.A N.w.length h.c, .slice h.L N.l.length h.d, .slice h.C N.c.length h.e] 30) := ⟨_, rfl⟩
  obtain ⟨hb, g0, hsz⟩ := box3_any w (.slice h.A N.w.length h.c) (.slice h.L N.l.length h.d) (.slice h.C N.c.length h.e) 30
  rw [← hw0] at hb g0 hsz
  have HKF := Lib.hid (fun (wx : World) (hx : Below w0.heap.size w0 wx) => three_cells ((hx.block w.heap.size (by omega)).trans g0))
  have HR := Lib.hid (fun (wx : World) (hx : Below w0.heap.size w0 wx) => show RdN wx wx.heap.size h N from (r.below (hb.trans (hx.mono hb.size))).more (Nat.le_trans hb.size hx.size))
  have HSM := Lib.hid (sSmall_any h N x w0 (HR.out _ (Below.refl _ _)) hn hl hc)
  have HB0 := Lib.hid hb
  obtain ⟨y0, y1, y2⟩ := HKF.out _ (Below.refl _ w0)
  clear hb g0 hsz r hn hc
  cases hkg : kgB N x with
  | false =>
    have HE : Hid (kgV N x = []) := Lib.hid (by unfold kgV; rw [hkg, if_neg (by decide)])
    rw [hkg] at HSM
    clear hkg
    rw [HE.out]
    go_enter Tryz.func30, Tryz.ntmps30
    go_upto_region 1 with (fail)
    rw [← hw0]
    clear hw0
    go_wp2_with (fail)
    refine HSM.out.mono ?_
    rintro e w1 ⟨rfl, bel1⟩
    have HG := Lib.hid (givesB_made HB0.out bel1)
    clear bel1 y0 y1 y2
    go_wp2
    go_ret2
    exact HG.out
  | true =>
    obtain ⟨hv, _, h10, hx⟩ := kgB_yes hkg
    have HE := Lib.hid (ct_kg hkg)
    have HSS := Lib.hid (fun (wx : World) (hw : Below w0.heap.size w0 wx) => sSets_any h N x wx hv h10 hx (HR.out wx hw))
    have HML := Lib.hid (msL_len x h10)
    have HCT := Lib.hid (fun (A : Option Addr) (c : Nat) (wx : World) (rq : RdQ wx wx.heap.size A (msL N x).length (msL N x)) => sCount_any h N A c (msL N x).length (msL N x) wx (by omega) HML.out (msL_in h10) HML.out rq)
    rw [HE.out] at HCT
    rw [hkg] at HSM
    clear hkg hx h10
    go_enter Tryz.func30, Tryz.ntmps30
    go_upto_region 1 with (fail)
    rw [← hw0]
    clear hw0
    go_wp2_with (fail)
    refine HSM.out.mono ?_
    rintro e w1 ⟨rfl, bel1⟩
    have B1 := Lib.hid bel1
    clear bel1 y0 y1 y2
    obtain ⟨y0, y1, y2⟩ := HKF.out _ B1.out
    go_wp2_with (fail)
    refine (HSS.out w1 B1.out).mono ?_
    rintro e w2 ⟨hs, A2, c2, rfl, own2, bel2⟩
    have B2 := Lib.hid (B1.out.trans (bel2.mono B1.out.size))
    have HCX := Lib.hid (HCT.out A2 c2 w2 (own2.rd rfl))
    clear own2 bel2 y0 y1 y2
    obtain ⟨y0, y1, y2⟩ := HKF.out _ B2.out
    generalize (msL N x).length = q at *
    go_wp2_with (fail)
    refine HCX.out.mono ?_
    rintro e w3 ⟨A3, c3, rfl, own3, bel3⟩
    have HG : Hid (GivesB w (kgV N x) true (.returned (.tuple #[.slice A3 (kgV N x).length c3, .bool true])) w3) := Lib.hid ⟨A3, c3, rfl, own3.mono (Nat.le_trans HB0.out.size B2.out.size), HB0.out.trans ((B2.out.trans (bel3.mono B2.out.size)).mono HB0.out.size)⟩
    clear own3 bel3 y0 y1 y2
    generalize (kgV N x).length = ql at *
    go_wp2
    go_ret2
    exact HG.out
set_option maxRecDepth 100000 in
set_option maxHeartbeats 1000000 in
theorem sEmpireOf_any (h : NH) (N : Nt) (x : Int) (w : World) (r : RdN w w.heap.size h N) (hn : N.w.length ≤ 1048576) (hl : N.l.length ≤ 1048576) (hc : N.c.length ≤ 1048576) :
    Calls Tryz.prog 32 #[.agg #[.slice h.A N.w.length h.c, .slice h.L N.l.length h.d, .slice h.C N.c.length h.e], .int .i64 x] w (GivesB w (emV N x) (kgB N x)) := by
  obtain ⟨w0, hw0⟩ : ∃ w0, w0 = w.alloc (.cells #[.slice h.A N.w.length h.c, .slice h.L N.l.length h.d, .slice h.C N.c.length h.e] 30) := ⟨_, rfl⟩
  obtain ⟨hb, g0, hsz⟩ := box3_any w (.slice h.A N.w.length h.c) (.slice h.L N.l.length h.d) (.slice h.C N.c.length h.e) 30
  rw [← hw0] at hb g0 hsz
  have HKF := Lib.hid (fun (wx : World) (hx : Below w0.heap.size w0 wx) => three_cells ((hx.block w.heap.size (by omega)).trans g0))
  have HR := Lib.hid (fun (wx : World) (hx : Below w0.heap.size w0 wx) => show RdN wx wx.heap.size h N from (r.below (hb.trans (hx.mono hb.size))).more (Nat.le_trans hb.size hx.size))
  have HSM := Lib.hid (sSmall_any h N x w0 (HR.out _ (Below.refl _ _)) hn hl hc)
  have HB0 := Lib.hid hb
  obtain ⟨y0, y1, y2⟩ := HKF.out _ (Below.refl _ w0)
  clear hb g0 hsz r hn hc
  cases hkg : kgB N x with
  | false =>
    have HE : Hid (emV N x = []) := Lib.hid (by unfold emV; rw [hkg, if_neg (by decide)])
    rw [hkg] at HSM
    clear hkg
    rw [HE.out]
    go_enter Tryz.func32, Tryz.ntmps32
    go_upto_region 1 with (fail)
    rw [← hw0]
    clear hw0
    go_wp2_with (fail)
    refine HSM.out.mono ?_
    rintro e w1 ⟨rfl, bel1⟩
    have HG := Lib.hid (givesB_made HB0.out bel1)
    clear bel1 y0 y1 y2
    go_wp2
    go_ret2
    exact HG.out
  | true =>
    obtain ⟨hv, _, h10, hx⟩ := kgB_yes hkg
    have HE := Lib.hid (ct_em hkg)
    have HSS := Lib.hid (fun (wx : World) (hw : Below w0.heap.size w0 wx) => sSets_any h N x wx hv h10 hx (HR.out wx hw))
    have HML := Lib.hid (msL_len x h10)
    have HCT := Lib.hid (fun (A : Option Addr) (c : Nat) (wx : World) (rq : RdQ wx wx.heap.size A (msL N x).length (msL N x)) => sCount_any h N A c 1 (msL N x) wx (by omega) HML.out (msL_in h10) (by decide) rq)
    rw [HE.out] at HCT
    rw [hkg] at HSM
    clear hkg hx h10
    go_enter Tryz.func32, Tryz.ntmps32
    go_upto_region 1 with (fail)
    rw [← hw0]
    clear hw0
    go_wp2_with (fail)
    refine HSM.out.mono ?_
    rintro e w1 ⟨rfl, bel1⟩
    have B1 := Lib.hid bel1
    have K0 := Lib.hid (HKF.out _ B1.out)
    have BD : Hid (Below w0.heap.size w0 w1.drew) := Lib.hid B1.out.drew
    clear bel1 y0 y1 y2
    go_upto_region 3 with (fail)
    go_region_held3 (fun wx => wx.cell? ⟨w.heap.size, 0, none⟩ = some (.slice h.A N.w.length h.c) ∧ wx.cell? ⟨w.heap.size, 1, none⟩ = some (.slice h.L N.l.length h.d) ∧ wx.cell? ⟨w.heap.size, 2, none⟩ = some (.slice h.C N.c.length h.e))
      (first | with_reducible exact K0.out | with_reducible exact HKF.out _ BD.out | with_reducible exact HKF.out _ C1.out | with_reducible exact HKF.out _ C2.out)
      (first
        | (go_at_call 62; refine (HSS.out w1.drew BD.out).mono ?_; rintro e u1 ⟨hs, A2, c2, rfl, own2, bel2⟩; have C1 := Lib.hid (BD.out.trans (bel2.mono BD.out.size)); have HCX := Lib.hid (HCT.out A2 c2 u1 (own2.rd rfl)); clear own2 bel2)
        | (go_at_call 66; refine HCX.out.mono ?_; rintro e u2 ⟨A3, c3, rfl, own3, bel3⟩; have C2 := Lib.hid (C1.out.trans (bel3.mono C1.out.size)); have O3 := Lib.hid own3; clear own3 bel3))
    all_goals
      have HG : Hid (GivesB w (emV N x) true (.returned (.tuple #[.slice A3 (emV N x).length c3, .bool true])) u2) := Lib.hid ⟨A3, c3, rfl, O3.out.mono (Nat.le_trans HB0.out.size C1.out.size), HB0.out.trans (C2.out.mono HB0.out.size)⟩
      clear O3 HCX
      generalize (emV N x).length = ql at *
      go_wp2
      go_ret2
      exact HG.out
theorem sik_is {N : Nt} {x y : Int} (h : kgB N y = true) (hx : inW N.w.length x = true) : decide (((frN N x : Nat) : Int) ∈ kgV N y) = kgK N y (frN N x) := by
  obtain ⟨hv, _, h10, _⟩ := kgB_yes h
  unfold kgV
  rw [if_pos h, Bool.eq_iff_iff, decide_eq_true_eq, selU_mem]
  constructor
  · rintro ⟨j, _, h2, e⟩; rwa [show frN N x = j by omega]
  · intro h2; exact ⟨_, (fr_lt hv hx).2, h2, rfl⟩
set_option maxRecDepth 100000 in
set_option maxHeartbeats 1000000 in
theorem sInKingdom_any (h : NH) (N : Nt) (x y : Int) (w : World) (r : RdN w w.heap.size h N) (hn : N.w.length ≤ 1048576) (hl : N.l.length ≤ 1048576) (hc : N.c.length ≤ 1048576) :
    Calls Tryz.prog 36 #[.agg #[.slice h.A N.w.length h.c, .slice h.L N.l.length h.d, .slice h.C N.c.length h.e], .int .i64 x, .int .i64 y] w fun e w' => e = .returned (.bool (ikB N x y)) ∧ Below w.heap.size w w' := by
  obtain ⟨w0, hw0⟩ : ∃ w0, w0 = w.alloc (.cells #[.slice h.A N.w.length h.c, .slice h.L N.l.length h.d, .slice h.C N.c.length h.e] 30) := ⟨_, rfl⟩
  obtain ⟨hb, g0, hsz⟩ := box3_any w (.slice h.A N.w.length h.c) (.slice h.L N.l.length h.d) (.slice h.C N.c.length h.e) 30
  rw [← hw0] at hb g0 hsz
  have HKF := Lib.hid (fun (wx : World) (hx : Below w0.heap.size w0 wx) => three_cells ((hx.block w.heap.size (by omega)).trans g0))
  have HR := Lib.hid (fun (wx : World) (hx : Below w0.heap.size w0 wx) => show RdN wx wx.heap.size h N from (r.below (hb.trans (hx.mono hb.size))).more (Nat.le_trans hb.size hx.size))
  have HKD := Lib.hid (sKingdomOf_any h N y w0 (HR.out _ (Below.refl _ _)) hn hl hc)
  have HIR := Lib.hid (fun (wx : World) => show Calls Tryz.prog 86 #[.int .i64 x, .int .i64 0, .int .i64 ((N.w.length : Int) - 1)] wx fun e w' => e = .returned (.bool (inW N.w.length x)) ∧ wx = w' from inRange_any x 0 ((N.w.length : Int) - 1) wx)
  have hww : IntKind.i64.wrap ((N.w.length : Int) - 1) = (N.w.length : Int) - 1 := IntWalk.i64_in _ (by omega)
  have HIK : Hid (ikB N x y = (kgB N y && (inW N.w.length x && kgK N y (frN N x)))) := Lib.hid rfl
  have HLN := Lib.hid (kgV_len N y)
  have HB0 := Lib.hid hb
  obtain ⟨y0, y1, y2⟩ := HKF.out _ (Below.refl _ w0)
  clear hb g0 hsz r hn hc
  cases hkg : kgB N y with
  | false =>
    rw [hkg] at HKD HIK
    clear hkg
    go_enter Tryz.func36, Tryz.ntmps36
    go_upto_region 1 with (fail)
    rw [← hw0]
    clear hw0
    go_wp2_with (fail)
    refine HKD.out.mono ?_
    rintro e w1 ⟨A1, c1, rfl, own1, bel1⟩
    have B1 := Lib.hid (HB0.out.trans (bel1.mono HB0.out.size))
    clear own1 bel1 y0 y1 y2
    generalize (kgV N y).length = q at *
    go_wp2
    go_ret
    exact ⟨ret_bool (by rw [HIK.out]; rfl), B1.out⟩
  | true =>
    cases hin : inW N.w.length x with
    | false =>
      rw [hkg] at HKD HIK
      rw [hin] at HIK HIR
      clear hkg hin
      go_enter Tryz.func36, Tryz.ntmps36
      go_upto_region 1 with (fail)
      rw [← hw0]
      clear hw0
      go_wp2_with (fail)
      refine HKD.out.mono ?_
      rintro e w1 ⟨A1, c1, rfl, own1, bel1⟩
      have B1 := Lib.hid bel1
      have BB := Lib.hid (HB0.out.trans (bel1.mono HB0.out.size))
      clear own1 bel1 y0 y1 y2
      obtain ⟨y0, y1, y2⟩ := HKF.out _ B1.out
      generalize (kgV N y).length = q at *
      go_wp2_with (fail)
      refine (HIR.out w1).mono ?_
      rintro e w2 ⟨rfl, rfl⟩
      go_wp2
      go_ret
      exact ⟨ret_bool (by rw [HIK.out]; rfl), BB.out⟩
    | true =>
      have HE : Hid (decide (((frN N x : Nat) : Int) ∈ kgV N y) = ikB N x y) := Lib.hid (by rw [sik_is hkg hin, HIK.out, hkg, hin]; rfl)
      have hv := (kgB_yes hkg).1
      have HFR := Lib.hid (fun (wx : World) (hw : Below w0.heap.size w0 wx) => show Calls Tryz.prog 77 #[.agg #[.slice h.A N.w.length h.c, .slice h.L N.l.length h.d, .slice h.C N.c.length h.e], .int .i64 x] wx fun e w' => e = .returned (.int .i64 (frN N x : Nat)) ∧ Below wx.heap.size wx w' from by
        have := smFrom_any h.A h.L h.C N.w.length h.c h.d N.c.length h.e N.l x wx (HR.out wx hw).2.1 (by omega)
        rw [from_lxQ hv, (fr_lt hv hin).1] at this
        exact this)
      rw [hkg] at HKD
      rw [hin] at HIR
      clear hkg hin hv
      go_enter Tryz.func36, Tryz.ntmps36
      go_upto_region 1 with (fail)
      rw [← hw0]
      clear hw0
      go_wp2_with (fail)
      refine HKD.out.mono ?_
      rintro e w1 ⟨A1, c1, rfl, own1, bel1⟩
      have B1 := Lib.hid bel1
      have O1 := Lib.hid own1
      clear own1 bel1 y0 y1 y2
      obtain ⟨y0, y1, y2⟩ := HKF.out _ B1.out
      go_wp2_with (fail)
      refine (HIR.out w1).mono ?_
      rintro e w2 ⟨rfl, rfl⟩
      go_wp2_with (fail)
      refine (HFR.out w1 B1.out).mono ?_
      rintro e w3 ⟨rfl, bel3⟩
      have B3 := Lib.hid (HB0.out.trans ((B1.out.trans (bel3.mono B1.out.size)).mono HB0.out.size))
      have HC := Lib.hid (sHasQ_any A1 (kgV N y).length c1 (kgV N y) ((frN N x : Nat) : Int) w3 HLN.out (RdI.of_own (own_below O1.out bel3 (Nat.le_refl _))))
      rw [HE.out] at HC
      clear bel3 y0 y1 y2
      generalize (kgV N y).length = q at *
      generalize frN N x = z at *
      go_wp2_with (fail)
      refine HC.out.mono ?_
      rintro e w4 ⟨rfl, rfl⟩
      go_wp2
      go_ret
      exact ⟨rfl, B3.out⟩
end
section
set_option linter.unusedSimpArgs false
set_option linter.unusedVariables false
open Go.ChangeAt Go.ChangeShapes Go.RowKit Go.WideShapes

theorem five_cells {w : World} {b : Nat} {a0 a1 a2 a3 a4 : Value} {t : TypeId} (h : w.heap[b]? = some (.cells #[a0, a1, a2, a3, a4] t (0, 0))) : w.cell? ⟨b, 0, none⟩ = some a0 ∧ w.cell? ⟨b, 1, none⟩ = some a1 ∧ w.cell? ⟨b, 2, none⟩ = some a2 ∧ w.cell? ⟨b, 3, none⟩ = some a3 ∧ w.cell? ⟨b, 4, none⟩ = some a4 :=
  ⟨cell_of_row _ _ 0 _ _ (0, 0) h, cell_of_row _ _ 1 _ _ (0, 0) h, cell_of_row _ _ 2 _ _ (0, 0) h, cell_of_row _ _ 3 _ _ (0, 0) h, cell_of_row _ _ 4 _ _ (0, 0) h⟩
theorem set5_at {w : World} {b : Nat} {c0 c1 c2 c3 c4 : Value} {t : TypeId} (h : w.heap[b]? = some (.cells #[c0, c1, c2, c3, c4] t (0, 0))) (v0 v1 v2 v3 v4 : Value) :
    (((((w.setCell ⟨b, 0, none⟩ v0).setCell ⟨b, 1, none⟩ v1).setCell ⟨b, 2, none⟩ v2).setCell ⟨b, 3, none⟩ v3).setCell ⟨b, 4, none⟩ v4).heap[b]? = some (.cells #[v0, v1, v2, v3, v4] t (0, 0)) := by
  have h0 := heap_setCell_same w b 0 _ t v0 h
  have h1 := heap_setCell_same _ b 1 _ t v1 h0
  have h2 := heap_setCell_same _ b 2 _ t v2 h1
  have h3 := heap_setCell_same _ b 3 _ t v3 h2
  have h4 := heap_setCell_same _ b 4 _ t v4 h3
  simpa using h4
theorem set5_below {w0 w : World} {B b : Nat} (h : Below B w0 w) (hb : B ≤ b) (v0 v1 v2 v3 v4 : Value) : Below B w0 (((((w.setCell ⟨b, 0, none⟩ v0).setCell ⟨b, 1, none⟩ v1).setCell ⟨b, 2, none⟩ v2).setCell ⟨b, 3, none⟩ v3).setCell ⟨b, 4, none⟩ v4) :=
  ((((h.setCell (p := ⟨b, 0, none⟩) hb _).setCell (p := ⟨b, 1, none⟩) hb _).setCell (p := ⟨b, 2, none⟩) hb _).setCell (p := ⟨b, 3, none⟩) hb _).setCell (p := ⟨b, 4, none⟩) hb _
theorem set5_heap {w : World} {g k : Nat} (h : k ≠ g) (v0 v1 v2 v3 v4 : Value) : (((((w.setCell ⟨g, 0, none⟩ v0).setCell ⟨g, 1, none⟩ v1).setCell ⟨g, 2, none⟩ v2).setCell ⟨g, 3, none⟩ v3).setCell ⟨g, 4, none⟩ v4).heap[k]? = w.heap[k]? :=
  (Below.heap_setCell _ _ _ _ (by show k ≠ g; exact h)).trans ((Below.heap_setCell _ _ _ _ (by show k ≠ g; exact h)).trans ((Below.heap_setCell _ _ _ _ (by show k ≠ g; exact h)).trans ((Below.heap_setCell _ _ _ _ (by show k ≠ g; exact h)).trans (Below.heap_setCell _ _ _ _ (by show k ≠ g; exact h)))))
/-- A net with the producer and the consumer of each wire. -/
structure RdWr (w : World) (h : NH) (N : Nt) (P Q : Option Addr) : Prop where
  n : RdN w w.heap.size h N
  p : RdI w w.heap.size P N.w.length (lxL outL N)
  q : RdI w w.heap.size Q N.w.length (lxL inL N)
theorem RdWr.below {w w' : World} {h : NH} {N : Nt} {P Q : Option Addr} (r : RdWr w h N P Q) (hb : Below w.heap.size w w') : RdWr w' h N P Q :=
  ⟨(r.n.below hb).more hb.size, (r.p.below hb).more hb.size, (r.q.below hb).more hb.size⟩
/-- A row lies at or above block B. -/
def FarI (n : Nat) (A : Option Addr) (B : Nat) : Prop := 0 < n → ∀ b off, A = some ⟨b, off, none⟩ → B ≤ b
theorem farI_own {w : World} {c n lo : Nat} {A : Option Addr} {xs : List Value} (h : w.ownsRow lo 2 1 (.slice A n c) n xs) : FarI n A lo := fun hn b off e => by
  obtain ⟨g, cap, hv, hlo, hhi⟩ := h.form hn
  injection hv with e1 e2 e3
  rw [e1] at e
  injection e with e
  injection e with e4
  omega
theorem rdi_but {w u : World} {B n lo g : Nat} {A : Option Addr} {xs : List Int} (r : RdI w B A n xs) (hf : FarI n A lo) (hg : g < lo) (hu : ∀ k, k ≠ g → u.heap[k]? = w.heap[k]?) : RdI u B A n xs :=
  ⟨r.1, fun hn => by
    obtain ⟨b, off, e, hb, hc⟩ := r.2 hn
    have := hf hn b off e
    have hk := hu b (by omega)
    refine ⟨b, off, e, hb, fun j hj => ?_⟩
    refine (World.cell?_of_block hk).trans ?_
    exact hc j hj⟩
theorem results_cell_tt {P : Program} {fn : Func} {p q u : Tmp} {ty : TypeId} (h : fn.results = #[.cell p ty, .tmp q, .tmp u]) (tmps : Array Value) (w : World) (g : Nat) (t : TypeId) (cs : Array Value) (fr : Nat × Nat) (d : TypeDesc)
    (hp : tmps.getD p undef = .pointer (some ⟨g, 0, none⟩)) (hg : w.heap[g]? = some (.cells cs t fr))
    (hu : P.underlying ty = some d) (hd : (match d with | .struct _ | .array _ _ => true | _ => false) = true) (hi : (P.info? ty).map (·.size) = some cs.size) :
    (results fn tmps).run P w = .ok (.tuple #[.agg cs, tmps.getD q undef, tmps.getD u undef]) w := by
  have e : (results fn tmps).run P w = ((asAddr (tmps.getD p undef)).run P w).andThen fun a w₁ => ((loadVar ty a).run P w₁).andThen fun x w₂ => .ok (.tuple #[x, tmps.getD q undef, tmps.getD u undef]) w₂ := by
    simp only [results, h]
    simp [Sem.run_bind, Result.andThen]
  have hp' : tmps[p]?.getD undef = .pointer (some ⟨g, 0, none⟩) := by simpa using hp
  rw [e]
  simp [hp', asAddr, run_loadVar_row w g t ty cs fr d hg hu hd hi, Result.andThen]
def GivesWr (w : World) (h : NH) (N : Nt) (e : Ending) (w' : World) : Prop :=
  ∃ (P Q : Option Addr) (c d : Nat), e = .returned (.agg #[.slice h.A N.w.length h.c, .slice h.L N.l.length h.d, .slice h.C N.c.length h.e, .slice P N.w.length c, .slice Q N.w.length d]) ∧ RdWr w' h N P Q ∧ FarI N.w.length P w.heap.size ∧ FarI N.w.length Q w.heap.size ∧ Below w.heap.size w w'
theorem rdi_far {w u : World} {c n lo : Nat} {A : Option Addr} {xs : List Int} (h : w.ownsRow lo 2 1 (.slice A n c) n (xs.map (Value.int .i64))) (hx : xs.length = n) (hf : ∀ b, lo ≤ b → b < w.heap.size → u.heap[b]? = w.heap[b]?) (hs : w.heap.size ≤ u.heap.size) : RdI u u.heap.size A n xs := by
  refine ⟨hx, fun hn => ?_⟩
  obtain ⟨b, cap, hv, hlo, hhi⟩ := h.form hn
  injection hv with e1 e2 e3
  subst e1
  refine ⟨b, 0, rfl, Nat.lt_of_lt_of_le hhi hs, fun j hj => ?_⟩
  refine (World.cell?_of_block (hf b hlo hhi)).trans ?_
  have := h.cellAt (g := b) j (by omega)
  rw [Nat.zero_add, this, List.getElem?_map]
  simp [List.getD, show j < xs.length by omega]
set_option maxRecDepth 100000 in
set_option maxHeartbeats 1000000 in
theorem wiredNetOf_any (h : NH) (N : Nt) (w : World) (hv : valN N = true) (r : RdN w w.heap.size h N) :
    Calls Tryz.prog 64 #[.agg #[.slice h.A N.w.length h.c, .slice h.L N.l.length h.d, .slice h.C N.c.length h.e]] w (GivesWr w h N) := by
  obtain ⟨w0, hw0⟩ : ∃ w0, w0 = (w.alloc (.cells #[.slice h.A N.w.length h.c, .slice h.L N.l.length h.d, .slice h.C N.c.length h.e] 30)).alloc (.cells #[.slice none 0 0, .slice none 0 0, .slice none 0 0, .slice none 0 0, .slice none 0 0] 58) := ⟨_, rfl⟩
  obtain ⟨hb, g0, g1, hsz⟩ := two_any' w (.cells #[.slice h.A N.w.length h.c, .slice h.L N.l.length h.d, .slice h.C N.c.length h.e] 30) (.cells #[.slice none 0 0, .slice none 0 0, .slice none 0 0, .slice none 0 0, .slice none 0 0] 58)
  rw [← hw0] at hb g0 g1 hsz
  have hs0 : w.heap.size + 2 ≤ w0.heap.size := by omega
  have HKF := Lib.hid (fun (wx : World) (hx : Below w0.heap.size w0 wx) => three_cells ((hx.block w.heap.size (by omega)).trans g0))
  have HKS := Lib.hid (fun (wx : World) (hx : Below w0.heap.size w0 wx) (v0 v1 v2 v3 v4 : Value) => three_cells ((set5_heap (w := wx) (g := w.heap.size + 1) (k := w.heap.size) (by omega) v0 v1 v2 v3 v4).trans ((hx.block w.heap.size (by omega)).trans g0)))
  have HK2 := Lib.hid (fun (wx : World) (hx : Below w0.heap.size w0 wx) => (hx.block (w.heap.size + 1) (by omega)).trans g1)
  have HO := Lib.hid (fun (wx : World) (hx : Below w0.heap.size w0 wx) => linksOut_any h N wx hv ((r.below (hb.trans (hx.mono hb.size))).more (Nat.le_trans hb.size hx.size)))
  have HIN := Lib.hid (fun (wx : World) (hx : Below w0.heap.size w0 wx) => linksIn_any h N wx hv ((r.below (hb.trans (hx.mono hb.size))).more (Nat.le_trans hb.size hx.size)))
  have BD : Hid (Below w0.heap.size w0 w0.drew) := Lib.hid ((Below.refl w0.heap.size w0).drew)
  have K0 := Lib.hid (HKF.out _ (Below.refl _ w0))
  have HB0 := Lib.hid hb
  have HRN := Lib.hid r
  have HWO := Lib.hid (lxL_len outL N); have HWI := Lib.hid (lxL_len inL N)
  obtain ⟨y0, y1, y2⟩ := HKF.out _ (Below.refl _ w0)
  have tok1 : True := trivial
  clear hb g0 g1 hsz r hv
  go_enter Tryz.func64, Tryz.ntmps64
  go_upto_region 1 with (fail)
  rw [← hw0]
  clear hw0
  go_region_held3 (fun wx => wx.cell? ⟨w.heap.size, 0, none⟩ = some (.slice h.A N.w.length h.c) ∧ wx.cell? ⟨w.heap.size, 1, none⟩ = some (.slice h.L N.l.length h.d) ∧ wx.cell? ⟨w.heap.size, 2, none⟩ = some (.slice h.C N.c.length h.e))
    (first | with_reducible exact HKS.out _ B2.out _ _ _ _ _ | with_reducible exact K0.out | with_reducible exact HKF.out _ BD.out | with_reducible exact HKF.out _ B1.out | with_reducible exact HKF.out _ B2.out)
    (first
      | (have _t := tok1; go_at_call 120; refine (HO.out w0.drew BD.out).mono ?_; rintro e u1 ⟨AF, cF, rfl, ownF, belF⟩; have B1 := Lib.hid (BD.out.trans (belF.mono BD.out.size)); have O1 := Lib.hid (ownF.mono BD.out.size); have tok2 : True := trivial; rw [HWO.out]; clear ownF belF tok1)
      | (have _t := tok2; go_at_call 120; refine (HIN.out u1 B1.out).mono ?_; rintro e u2 ⟨AG, cG, rfl, ownG, belG⟩; have B2 := Lib.hid (B1.out.trans (belG.mono B1.out.size)); have O2 := Lib.hid (ownG.mono B1.out.size); have O1b := Lib.hid (own_below O1.out belG (Nat.le_refl _)); have Q1 := Lib.hid (HK2.out _ B2.out); obtain ⟨a0, a1, a2, a3, a4⟩ := five_cells Q1.out; have f0 := frozen_of_row _ _ 0 _ _ Q1.out; have f1 := frozen_of_row _ _ 1 _ _ Q1.out; have f2 := frozen_of_row _ _ 2 _ _ Q1.out; have f3 := frozen_of_row _ _ 3 _ _ Q1.out; have f4 := frozen_of_row _ _ 4 _ _ Q1.out; rw [HWI.out]; clear ownG belG tok2))
  all_goals
    clear a0 a1 a2 a3 a4 f0 f1 f2 f3 f4 y0 y1 y2
    go_wp2
    (try simp only [Exit.inBlock, Exit.then])
    refine bodyPost_ret (results_cell_row rfl _ _ (w.heap.size + 1) _ _ (0, 0) _ rfl (set5_at Q1.out _ _ _ _ _) Tryz.underlying58 rfl (by kernel_rfl)) rfl ?_
    have o1 := O1b.out
    have o2 := O2.out
    rw [HWO.out] at o1
    rw [HWI.out] at o2
    refine ⟨AF, AG, cF, cG, rfl, ⟨?_, ?_, ?_⟩, fun hn b off e => Nat.le_trans HB0.out.size (farI_own o1 hn b off e), fun hn b off e => Nat.le_trans HB0.out.size (farI_own o2 hn b off e), set5_below (HB0.out.trans (B2.out.mono HB0.out.size)) (by omega) _ _ _ _ _⟩
    · refine (HRN.out.below (set5_below (HB0.out.trans (B2.out.mono HB0.out.size)) (by omega) _ _ _ _ _)).more ?_
      exact (set5_below (HB0.out.trans (B2.out.mono HB0.out.size)) (by omega) _ _ _ _ _).size
    · exact rdi_far o1 HWO.out (fun b h1 h2 => set5_heap (show b ≠ w.heap.size + 1 by omega) _ _ _ _ _) (by simp)
    · exact rdi_far o2 HWI.out (fun b h1 h2 => set5_heap (show b ≠ w.heap.size + 1 by omega) _ _ _ _ _) (by simp)
/-- Is a wire an output of a set and no input? -/
def bdS (N : Nt) (s : Nat) (x : Int) : Bool := hasS s (lxN outL N x) && !hasS s (lxN inL N x)
theorem bdS_is {N : Nt} (hv : valN N = true) {s : Nat} {x : Int} (hx : inW N.w.length x = true) : bdS N s x = bdB N s.testBit x := by
  have h48 := (valN_size hv).2
  obtain ⟨h1, h2⟩ := fr_lt hv hx
  have h3 := lxN_q inL N x
  unfold bdS bdB toK
  rw [h1, hasS_nat (by omega)]
  congr 2
  by_cases e : 0 ≤ lxN inL N x
  · rw [decide_eq_true e, Bool.true_and]
    have := hasS_nat (s := s) (k := (lxN inL N x).toNat) (by omega)
    rwa [show (((lxN inL N x).toNat : Nat) : Int) = lxN inL N x by omega] at this
  · rw [decide_eq_false e, hasS_neg (by omega)]; rfl
set_option maxRecDepth 100000 in
set_option maxHeartbeats 1000000 in
theorem isInBorder_any (h : NH) (N : Nt) (P Q : Option Addr) (c d s : Nat) (x : Int) (w : World) (hl : N.l.length ≤ 48) (r : RdWr w h N P Q) (hx : inW N.w.length x = true) (hs : s < 18446744073709551616) :
    Calls Tryz.prog 110 #[.agg #[.slice h.A N.w.length h.c, .slice h.L N.l.length h.d, .slice h.C N.c.length h.e, .slice P N.w.length c, .slice Q N.w.length d], .int .i64 x, .int .u64 s] w fun e w' => e = .returned (.bool (bdS N s x)) ∧ Below w.heap.size w w' := by
  obtain ⟨w0, hw0⟩ : ∃ w0, w0 = w.alloc (.cells #[.slice h.A N.w.length h.c, .slice h.L N.l.length h.d, .slice h.C N.c.length h.e, .slice P N.w.length c, .slice Q N.w.length d] 58) := ⟨_, rfl⟩
  have hb : Below w.heap.size w w0 := by rw [hw0]; exact (Below.refl _ _).alloc (Nat.le_refl _) _
  have hh : w0.heap[w.heap.size]? = some (.cells #[.slice h.A N.w.length h.c, .slice h.L N.l.length h.d, .slice h.C N.c.length h.e, .slice P N.w.length c, .slice Q N.w.length d] 58 (0, 0)) := by rw [hw0]; exact heap_alloc_new _ _
  have hlt : w.heap.size < w0.heap.size := by rw [hw0]; simp
  have HK := Lib.hid (fun (wx : World) (hx : Below w0.heap.size w0 wx) => five_cells ((hx.block _ hlt).trans hh))
  have r0 := r.below hb
  obtain ⟨h0, h1, e⟩ := inW_yes hx
  have HP := Lib.hid (fun (wx : World) (hx : Below w0.heap.size w0 wx) => (r0.p.below hx).2 (by omega))
  have HQ := Lib.hid (fun (wx : World) (hx : Below w0.heap.size w0 wx) => (r0.q.below hx).2 (by omega))
  have HB0 := Lib.hid hb
  generalize x.toNat = k at *
  subst e
  have ep := lxL_at outL N h1
  have eq := lxL_at inL N h1
  have q1 := lxN_q outL N (k : Int)
  have q2 := lxN_q inL N (k : Int)
  have HBS : Hid (bdS N s (k : Int) = (hasS s (lxN outL N (k : Int)) && !hasS s (lxN inL N (k : Int)))) := Lib.hid rfl
  obtain ⟨bp, op, rfl, hbp, cp⟩ := HP.out w0 (Below.refl _ _)
  obtain ⟨bq, oq, rfl, hbq, cq⟩ := HQ.out w0 (Below.refl _ _)
  have xp := cp k h1
  have xq := cq k h1
  rw [ep] at xp
  rw [eq] at xq
  generalize lxN outL N (k : Int) = u at *
  generalize lxN inL N (k : Int) = v at *
  rw [HBS.out]
  have HC1 := Lib.hid (containsS_any s u w0 hs (by omega))
  have HC2 := Lib.hid (fun wx => containsS_any s v wx hs (by omega))
  have HXQ := Lib.hid (fun (wx : World) (hx : Below w0.heap.size w0 wx) => (hx.cell (p := ⟨bq, oq + k, none⟩) hbq).trans xq)
  have hki : (k : Int) < (N.w.length : Int) := by omega
  obtain ⟨y0, y1, y2, y3, y4⟩ := HK.out _ (Below.refl _ w0)
  clear hb hh hlt r r0 hx HP HQ cp cq xq ep eq h0
  cases hp : hasS s u with
  | false =>
    rw [hp] at HC1
    clear hp
    go_enter Tryz.func110, Tryz.ntmps110
    go_upto_region 1 with (fail)
    rw [← hw0]
    clear hw0
    go_wp2_with (fail)
    refine HC1.out.mono ?_
    rintro e w1 ⟨rfl, bel1⟩
    have B1 := Lib.hid (HB0.out.trans (bel1.mono HB0.out.size))
    clear bel1 y0 y1 y2 y3 y4 xp
    go_wp2
    go_ret
    exact ⟨rfl, B1.out⟩
  | true =>
    rw [hp] at HC1
    clear hp
    generalize hasS s v = p at *
    go_enter Tryz.func110, Tryz.ntmps110
    go_upto_region 1 with (fail)
    rw [← hw0]
    clear hw0
    go_wp2_with (fail)
    refine HC1.out.mono ?_
    rintro e w1 ⟨rfl, bel1⟩
    have B1 := Lib.hid bel1
    clear bel1 y0 y1 y2 y3 y4 xp
    obtain ⟨y0, y1, y2, y3, y4⟩ := HK.out _ B1.out
    have xq := HXQ.out _ B1.out
    go_wp2_with (fail)
    refine (HC2.out w1).mono ?_
    rintro e w2 ⟨rfl, bel2⟩
    have B2 := Lib.hid (HB0.out.trans ((B1.out.trans (bel2.mono B1.out.size)).mono HB0.out.size))
    clear bel2 y0 y1 y2 y3 y4 xq
    go_wp2
    go_ret
    exact ⟨rfl, B2.out⟩
end
end Go.Proofs.YtfdpkhiiboghiaaGreatDoor
