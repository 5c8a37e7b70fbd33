/- The model: l15Border, l15Sub, IsClosedSet, SubNet, BorderOf, IsSubnetSet. Made by mkenb.py. The model: l15Small, l15Set, l15Sets, SubnetCount. The model: l15Sets, SubnetCount. -/
import Derived.Test.YtfdpkhiiboghiaaGreatDoorKQEnA
import Derived.Maps.AppendAt
import Derived.Deep.RegionHeldLaw
import Derived.Deep.DeepCutAuto
import Derived.BigQuiet
import Derived.Test.YtfdpkhiiboghiaaGreatDoorKQSeqV
namespace Go.Proofs.YtfdpkhiiboghiaaGreatDoor
set_option linter.unusedSimpArgs false
set_option linter.unusedVariables false
section
set_option linter.unusedSimpArgs false
set_option linter.unusedVariables false
open Go.ChangeAt Go.ChangeShapes Go.RowKit Go.WideShapes

theorem set3_heapQ2 {w : World} {g k : Nat} (h : k ≠ g) (v0 v1 v2 : Value) : (((w.setCell ⟨g, 0, none⟩ v0).setCell ⟨g, 1, none⟩ v1).setCell ⟨g, 2, none⟩ v2).heap[k]? = w.heap[k]? :=
  (Below.heap_setCell _ _ _ _ (by show k ≠ g; exact h)).trans ((Below.heap_setCell _ _ _ _ (by show k ≠ g; exact h)).trans (Below.heap_setCell _ _ _ _ (by show k ≠ g; exact h)))
/-- The border so far. -/
def bdU (N : Nt) (K : Nat → Bool) (k : Nat) : List Int := selU (fun x => bdB N K (x : Int)) k
theorem bdU_end (N : Nt) (K : Nat → Bool) : bdU N K N.w.length = bdL N K := rfl
theorem to_mem {N : Nt} {ks : List Int} (hin : ∀ x ∈ ks, 0 ≤ x) (x : Int) : decide (lxN inL N x ∈ ks) = toK N (kS ks) x := by
  unfold toK kS
  have := lxN_q inL N x
  by_cases e : 0 ≤ lxN inL N x
  · rw [decide_eq_true e, Bool.true_and]
    rw [show (((lxN inL N x).toNat : Nat) : Int) = lxN inL N x by omega]
  · rw [decide_eq_false e, Bool.false_and]
    exact decide_eq_false fun hm => e (hin _ hm)
set_option maxRecDepth 100000 in
set_option maxHeartbeats 1000000 in
theorem sBorder_any (h : NH) (N : Nt) (A : Option Addr) (n c : Nat) (ks : List Int) (w : World) (hv : valN N = true) (r : RdN w w.heap.size h N) (rk : RdI w w.heap.size A n ks) (hkl : n ≤ 1048576) (hpos : ∀ x ∈ ks, 0 ≤ x) :
    Calls Tryz.prog 57 #[.agg #[.slice h.A N.w.length h.c, .slice h.L N.l.length h.d, .slice h.C N.c.length h.e], .slice A n c] w (Gives w (bdL N (kS ks))) := by
  have hkn := rk.1
  subst hkn
  obtain ⟨h48, h48l⟩ := valN_size hv
  obtain ⟨i0, hi0, hz0, hz1, hz2⟩ := info_parts info_i64
  have HI := Lib.hid hi0; have HZ0 := Lib.hid hz0; have HZ1 := Lib.hid hz1; have HZ2 := Lib.hid hz2
  obtain ⟨w0, hw0⟩ : ∃ w0, w0 = w.alloc (.cells #[.slice h.A N.w.length h.c, .slice h.L N.l.length h.d, .slice h.C N.c.length h.e] 30) := ⟨_, rfl⟩
  obtain ⟨hb, g0, hsz⟩ := box3_any w (.slice h.A N.w.length h.c) (.slice h.L N.l.length h.d) (.slice h.C N.c.length h.e) 30
  rw [← hw0] at hb g0 hsz
  have HKF := Lib.hid (fun (wx : World) (hx : Below w0.heap.size w0 wx) => three_cells ((hx.block w.heap.size (by omega)).trans g0))
  have HR := Lib.hid (fun (wx : World) (hx : Below w0.heap.size w0 wx) => show RdN wx wx.heap.size h N from (r.below (hb.trans (hx.mono hb.size))).more (Nat.le_trans hb.size hx.size))
  have HRK := Lib.hid (fun (wx : World) (hx : Below w0.heap.size w0 wx) => show RdI wx wx.heap.size A ks.length ks from (rk.below (hb.trans (hx.mono hb.size))).more (Nat.le_trans hb.size hx.size))
  have HB0 := Lib.hid hb
  obtain ⟨y0, y1, y2⟩ := HKF.out _ (Below.refl _ w0)
  have HFR := Lib.hid (fun (wx : World) (hx : Below w0.heap.size w0 wx) (x : Nat) (h1 : x < N.w.length) => show Calls Tryz.prog 77 #[.agg #[.slice h.A N.w.length h.c, .slice h.L N.l.length h.d, .slice h.C N.c.length h.e], .int .i64 x] wx fun e w' => e = .returned (.int .i64 (frN N (x : Int) : Nat)) ∧ Below wx.heap.size wx w' from by
    have := smFrom_any h.A h.L h.C N.w.length h.c h.d N.c.length h.e N.l (x : Int) wx (HR.out wx hx).2.1 (by omega)
    rw [from_lxQ hv, (fr_lt hv (decide_eq_true (show 0 ≤ (x : Int) ∧ (x : Int) ≤ (N.w.length : Int) - 1 by omega))).1] at this
    exact this)
  have HTO := Lib.hid (fun (wx : World) (hx : Below w0.heap.size w0 wx) (x : Int) => show Calls Tryz.prog 108 #[.agg #[.slice h.A N.w.length h.c, .slice h.L N.l.length h.d, .slice h.C N.c.length h.e], .int .i64 x] wx fun e w' => e = .returned (.int .i64 (lxN inL N x)) ∧ Below wx.heap.size wx w' from by
    have := smTo_any h.A h.L h.C N.w.length h.c h.d N.c.length h.e N.l x wx (HR.out wx hx).2.1 (by omega)
    rw [to_lxQ] at this
    exact this)
  have HHA := Lib.hid (fun (wx : World) (hx : Below w0.heap.size w0 wx) (x : Int) => show Calls Tryz.prog 87 #[.slice A ks.length c, .int .i64 x] wx fun e w' => e = .returned (.bool (decide (x ∈ ks))) ∧ w' = wx from sHasQ_any A ks.length c ks x wx hkl (HRK.out wx hx))
  have HTM := Lib.hid (fun x : Int => to_mem (N := N) hpos x)
  have h0 : (w0.alloc (.cells #[] 2)).ownsRow w0.heap.size 2 1 (.slice (some ⟨w0.heap.size, 0, none⟩) 0 0) (bdU N (kS ks) 0).length ((bdU N (kS ks) 0).map (Value.int .i64)) := World.ownsRow_made w0 #[] 0 (Nat.le_refl _) (by simp [maxLen]) rfl
  have H0 := Lib.hid h0
  have HB1 := Lib.hid ((Below.refl w0.heap.size w0).alloc (Nat.le_refl _) (.cells #[] 2))
  clear hb g0 hsz r rk hv hpos h0 hi0 hz0 hz1 hz2
  go_enter Tryz.func57, Tryz.ntmps57
  go_upto_region 1 with (fail)
  rw [← hw0]
  clear hw0
  clear y0 y1 y2
  go_wp2
  go_loopw [5, 6] (fun v i wx => ∃ k : Nat, k ≤ N.w.length ∧ i = .int .i64 k ∧ wx.ownsRow w0.heap.size 2 1 v (bdU N (kS ks) k).length ((bdU N (kS ks) k).map (Value.int .i64)) ∧ Below w0.heap.size w0 wx) (fun _ i _ => N.w.length - (intOf i).toNat)
  case atStart => exact ⟨0, Nat.zero_le _, rfl, H0.out, HB1.out⟩
  case round =>
    obtain ⟨k, hk, rfl, hO, hB⟩ := hrel
    obtain ⟨y0, y1, y2⟩ := HKF.out _ hB
    by_cases hlt : k < N.w.length
    · have HFX := Lib.hid (HFR.out wr hB k hlt)
      have HBD : Hid (bdB N (kS ks) (k : Int) = (kS ks (frN N (k : Int)) && !toK N (kS ks) (k : Int))) := Lib.hid rfl
      have HY := Lib.hid (fun (e : bdB N (kS ks) (k : Int) = true) => show bdU N (kS ks) (k + 1) = bdU N (kS ks) k ++ [(k : Int)] from selU_yes (p := fun x => bdB N (kS ks) (x : Int)) e)
      have HN := Lib.hid (fun (e : bdB N (kS ks) (k : Int) = false) => show bdU N (kS ks) (k + 1) = bdU N (kS ks) k from selU_no (p := fun x => bdB N (kS ks) (x : Int)) e)
      have hln : (bdU N (kS ks) k).length ≤ 48 := Nat.le_trans (selU_len _ k) (by omega)
      have HO := Lib.hid hO; have HB := Lib.hid hB
      have HTX := Lib.hid (HTM.out (k : Int))
      clear hO hB
      generalize frN N (k : Int) = f at *
      obtain ⟨L, hL⟩ : ∃ L, bdU N (kS ks) k = L := ⟨_, rfl⟩
      rw [hL] at HO HY HN hln
      clear hL
      go_wp2_with (fail)
      refine HFX.out.mono ?_
      rintro e w2 ⟨rfl, bel2⟩
      have B2 := Lib.hid (HB.out.trans (bel2.mono HB.out.size))
      have O2 := Lib.hid (own_below HO.out bel2 (Nat.le_refl _))
      have HX := Lib.hid (HHA.out w2 B2.out (f : Int))
      clear bel2 y0 y1 y2
      cases hp : kS ks f with
      | false =>
        have HP : Hid (decide ((f : Int) ∈ ks) = false) := Lib.hid hp
        rw [HP.out] at HX
        have HS := Lib.hid (HN.out (by rw [HBD.out, hp]; rfl))
        clear hp
        go_wp2_with (fail)
        refine HX.out.mono ?_
        rintro e w3 ⟨rfl, hw3⟩
        subst hw3
        go_wp2
        go_roundw
        case rel => exact ⟨k + 1, by omega, by go_num, by rw [HS.out]; exact O2.out, B2.out⟩
        case measure => simp [intOf]; omega
      | true =>
        have HP : Hid (decide ((f : Int) ∈ ks) = true) := Lib.hid hp
        rw [HP.out] at HX
        have HBE : Hid (bdB N (kS ks) (k : Int) = !toK N (kS ks) (k : Int)) := Lib.hid (by rw [HBD.out, hp]; rfl)
        clear hp
        go_wp2_with (fail)
        refine HX.out.mono ?_
        rintro e w3 ⟨rfl, hw3⟩
        subst hw3
        obtain ⟨y0, y1, y2⟩ := HKF.out _ B2.out
        go_wp2_with (fail)
        refine (HTO.out w3 B2.out (k : Int)).mono ?_
        rintro e w4 ⟨rfl, bel4⟩
        have B4 := Lib.hid (B2.out.trans (bel4.mono B2.out.size))
        have O4 := Lib.hid (own_below O2.out bel4 (Nat.le_refl _))
        have HX2 := Lib.hid (HHA.out w4 B4.out (lxN inL N (k : Int)))
        rw [HTX.out] at HX2
        have hsz4 := B4.out.size
        clear bel4 y0 y1 y2
        generalize lxN inL N (k : Int) = tt at *
        cases hq : toK N (kS ks) (k : Int) with
        | true =>
          rw [hq] at HX2
          have HS := Lib.hid (HN.out (by rw [HBE.out, hq]; rfl))
          clear hq
          go_wp2_with (fail)
          refine HX2.out.mono ?_
          rintro e w5 ⟨rfl, hw5⟩
          subst hw5
          go_wp2
          go_roundw
          case rel => exact ⟨k + 1, by omega, by go_num, by rw [HS.out]; exact O4.out, B4.out⟩
          case measure => simp [intOf]; omega
        | false =>
          rw [hq] at HX2
          have HS := Lib.hid (HY.out (by rw [HBE.out, hq]; rfl))
          clear hq
          go_wp2_with (fail)
          refine HX2.out.mono ?_
          rintro e w5 ⟨rfl, hw5⟩
          subst hw5
          go_wp2_with (at_builtin; refine wpList_append_own _ rfl _ _ 24 rfl w0.heap.size 2 i0 (.int .i64 0) 1 8 Tryz.underlying24 HI.out HZ0.out HZ1.out HZ2.out rfl (by decide) _ _ _ rfl (O4.out.alloc _) ⟨w5.heap.size, 0, none⟩ 1 1 [.int .i64 k] rfl rfl ?c1 ?c2 ?c3 ?c4 ?c5 ?_)
          case c1 => exact cell_one_new _ _ _
          case c2 => intro u hu; simp at hu; subst hu; rfl
          case c3 => unfold maxLen; omega
          case c4 => omega
          case c5 => simp; omega
          intro v' w6 hown' hgrow _
          have hb2 := Lib.hid ((B4.out.alloc hsz4 (.cells #[.int .i64 k] 2)).grown hgrow (by simp; omega) (fun q hq => (O4.out.lt q hq).1))
          have hown2 : w6.ownsRow w0.heap.size 2 1 v' (bdU N (kS ks) (k + 1)).length ((bdU N (kS ks) (k + 1)).map (Value.int .i64)) := by
            rw [HS.out, List.length_append, List.map_append]; exact hown'
          have hown1 := Lib.hid hown2
          clear hown' hgrow hown2 hsz4
          go_wp2
          go_roundw
          case rel => exact ⟨k + 1, by omega, by go_num, hown1.out, hb2.out⟩
          case measure => simp [intOf]; omega
    · have hkk : k = N.w.length := by omega
      subst hkk
      obtain ⟨A3, c3, rfl⟩ := own_shape hO
      have HG : Hid (Gives w (bdL N (kS ks)) (.returned (.slice A3 (bdL N (kS ks)).length c3)) wr) := Lib.hid ⟨A3, c3, rfl, hO.mono HB0.out.size, HB0.out.trans (hB.mono HB0.out.size)⟩
      rw [bdU_end] at *
      clear hO hB
      go_wp2
      go_ret
      exact HG.out
set_option maxRecDepth 100000 in
set_option maxHeartbeats 1000000 in
theorem sSub_any (h : NH) (N : Nt) (A : Option Addr) (n c : Nat) (ks : List Int) (w : World) (hv : valN N = true) (r : RdN w w.heap.size h N) (rk : RdI w w.heap.size A n ks) (hkl : n ≤ 1048576) (hcs : csB N ks = true) :
    Calls Tryz.prog 46 #[.agg #[.slice h.A N.w.length h.c, .slice h.L N.l.length h.d, .slice h.C N.c.length h.e], .slice A n c] w (CopiedN w (sbN N (kS ks))) := by
  have hkn := rk.1
  subst hkn
  obtain ⟨h48, h48l⟩ := valN_size hv
  have hpos : ∀ x ∈ ks, 0 ≤ x := fun x hx => by
    simp only [csB, Bool.and_eq_true] at hcs
    exact (inW_yes (List.all_eq_true.1 hcs.2.1 x hx)).1
  obtain ⟨w0, hw0⟩ : ∃ w0, w0 = (w.alloc (.cells #[.slice h.A N.w.length h.c, .slice h.L N.l.length h.d, .slice h.C N.c.length h.e] 30)).alloc (.cells #[.slice none 0 0, .slice none 0 0, .slice none 0 0] 30) := ⟨_, rfl⟩
  obtain ⟨hb, g0, g1, hsz⟩ := two_any' w (.cells #[.slice h.A N.w.length h.c, .slice h.L N.l.length h.d, .slice h.C N.c.length h.e] 30) (.cells #[.slice none 0 0, .slice none 0 0, .slice none 0 0] 30)
  rw [← hw0] at hb g0 g1 hsz
  have hs0 : w.heap.size + 2 ≤ w0.heap.size := by omega
  have HKF := Lib.hid (fun (wx : World) (hx : Below w0.heap.size w0 wx) => three_cells ((hx.block w.heap.size (by omega)).trans g0))
  have HK2 := Lib.hid (fun (wx : World) (hx : Below w0.heap.size w0 wx) => (hx.block (w.heap.size + 1) (by omega)).trans g1)
  have HR := Lib.hid (fun (wx : World) (hx : Below w0.heap.size w0 wx) => show RdN wx wx.heap.size h N from (r.below (hb.trans (hx.mono hb.size))).more (Nat.le_trans hb.size hx.size))
  have HRK := Lib.hid (fun (wx : World) (hx : Below w0.heap.size w0 wx) => show RdI wx wx.heap.size A ks.length ks from (rk.below (hb.trans (hx.mono hb.size))).more (Nat.le_trans hb.size hx.size))
  have HB0 := Lib.hid hb
  obtain ⟨y0, y1, y2⟩ := HKF.out _ (Below.refl _ w0)
  have HBO := Lib.hid (fun (wx : World) (hx : Below w0.heap.size w0 wx) => sBorder_any h N A ks.length c ks wx hv (HR.out wx hx) (HRK.out wx hx) hkl hpos)
  have hbl := bdL_len N (kS ks)
  have hks48 := (csB_yes hcs).2.2.2.2
  have HCU := Lib.hid (fun (wx : World) (C : Option Addr) (d : Nat) (hx : Below w0.heap.size w0 wx) (rC : RdI wx wx.heap.size C (bdL N (kS ks)).length (bdL N (kS ks))) => show Calls Tryz.prog 100 #[.agg #[.slice h.A N.w.length h.c, .slice h.L N.l.length h.d, .slice h.C N.c.length h.e], .slice A ks.length c, .slice C (bdL N (kS ks)).length d] wx (CopiedN wx (sbN N (kS ks))) from by
    have q := sCut_any h N (kS ks) A C c d ks (bdL N (kS ks)) wx hv (HR.out wx hx) (HRK.out wx hx) rC (by omega) (fun x hx => (bdL_in hx).1) (by omega) (fun k hk => rfl)
    rw [List.filter_eq_self.2 (fun x hx => (bdL_in hx).2)] at q
    exact q)
  have HKS := Lib.hid (fun (wx : World) (hx : Below w0.heap.size w0 wx) (v0 v1 v2 : Value) => three_cells ((set3_heapQ2 (w := wx) (g := w.heap.size + 1) (k := w.heap.size) (by omega) v0 v1 v2).trans ((hx.block w.heap.size (by omega)).trans g0)))
  have K0 := Lib.hid (HKF.out _ (Below.refl _ w0))
  have BD : Hid (Below w0.heap.size w0 w0.drew) := Lib.hid ((Below.refl w0.heap.size w0).drew)
  clear hb g0 g1 hsz r rk hv hpos hcs hbl hks48
  generalize sbN N (kS ks) = M at *
  go_enter Tryz.func46, Tryz.ntmps46
  go_upto_region 1 with (fail)
  rw [← hw0]
  clear hw0
  clear y0 y1 y2
  go_region_held3 (fun wx => wx.cell? ⟨w.heap.size, 0, none⟩ = some (.slice h.A N.w.length h.c) ∧ wx.cell? ⟨w.heap.size, 1, none⟩ = some (.slice h.L N.l.length h.d) ∧ wx.cell? ⟨w.heap.size, 2, none⟩ = some (.slice h.C N.c.length h.e))
    (first | with_reducible exact HKS.out _ B2.out _ _ _ | with_reducible exact K0.out | with_reducible exact HKF.out _ BD.out | with_reducible exact HKF.out _ B1.out | with_reducible exact HKF.out _ B2.out)
    (first
      | (go_at_call 57; refine (HBO.out w0.drew BD.out).mono ?_; rintro e u1 ⟨A1, c1, rfl, own1, bel1⟩; have B1 := Lib.hid (BD.out.trans (bel1.mono BD.out.size)); have R1 := Lib.hid (RdI.of_own own1); clear own1 bel1)
      | (go_at_call 100; refine (HCU.out u1 A1 c1 B1.out R1.out).mono ?_; rintro e u2 ⟨h2, rfl, own2, bel2⟩; have B2 := Lib.hid (B1.out.trans (bel2.mono B1.out.size)); have O2 := Lib.hid (own2.more B1.out.size (Nat.le_refl _)); have Q1 := Lib.hid (HK2.out _ B2.out); obtain ⟨a0, a1, a2⟩ := three_cells Q1.out; have f0 := frozen_of_row _ _ 0 _ _ Q1.out; have f1 := frozen_of_row _ _ 1 _ _ Q1.out; have f2 := frozen_of_row _ _ 2 _ _ Q1.out; clear own2 bel2))
  all_goals
    clear a0 a1 a2 f0 f1 f2
    go_wp2
    (try simp only [Exit.inBlock, Exit.then])
    refine bodyPost_ret (results_cell_row rfl _ _ (w.heap.size + 1) _ _ (0, 0) _ rfl (set3_at Q1.out _ _ _) Tryz.underlying30 rfl (by kernel_rfl)) rfl ?_
    exact nlDone HB0.out B2.out O2.out hs0
end
section
set_option linter.unusedSimpArgs false
set_option linter.unusedVariables false
open Go.ChangeAt Go.ChangeShapes Go.RowKit Go.WideShapes

set_option maxRecDepth 100000 in
set_option maxHeartbeats 1000000 in
theorem sSmall_any (h : NH) (N : Nt) (x : Int) (w : World) (r : RdN w w.heap.size h N) (hn : N.w.length ≤ 1048576) (hl : N.l.length ≤ 1048576) (hc : N.c.length ≤ 1048576) :
    Calls Tryz.prog 61 #[.agg #[.slice h.A N.w.length h.c, .slice h.L N.l.length h.d, .slice h.C N.c.length h.e], .int .i64 x] w fun e w' => e = .returned (.bool (kgB N x)) ∧ Below w.heap.size w w' := by
  obtain ⟨w0, hw0⟩ : ∃ w0, w0 = w.alloc (.cells #[.slice h.A N.w.length h.c, .slice h.L N.l.length h.d, .slice h.C N.c.length h.e] 30) := ⟨_, rfl⟩
  obtain ⟨hb, g0, hsz⟩ := box3_any w (.slice h.A N.w.length h.c) (.slice h.L N.l.length h.d) (.slice h.C N.c.length h.e) 30
  rw [← hw0] at hb g0 hsz
  have HKF := Lib.hid (fun (wx : World) (hx : Below w0.heap.size w0 wx) => three_cells ((hx.block w.heap.size (by omega)).trans g0))
  have HCO := Lib.hid (sParsing_any h N w0 ((r.below hb).more hb.size) hn hl hc)
  have HIR := Lib.hid (fun (wx : World) => show Calls Tryz.prog 86 #[.int .i64 x, .int .i64 0, .int .i64 ((N.w.length : Int) - 1)] wx fun e w' => e = .returned (.bool (inW N.w.length x)) ∧ wx = w' from inRange_any x 0 ((N.w.length : Int) - 1) wx)
  have hww : IntKind.i64.wrap ((N.w.length : Int) - 1) = (N.w.length : Int) - 1 := IntWalk.i64_in _ (by omega)
  have HKG : Hid (kgB N x = (cbV N && (decide (N.l.length ≤ 10) && inW N.w.length x))) := Lib.hid rfl
  have HB0 := Lib.hid hb
  obtain ⟨y0, y1, y2⟩ := HKF.out _ (Below.refl _ w0)
  clear hb g0 hsz r hn hc
  generalize cbV N = p at *
  cases p with
  | false =>
    have HE := Lib.hid (HKG.out.symm)
    rw [Bool.false_and] at HE
    go_enter Tryz.func61, Tryz.ntmps61
    go_upto_region 1 with (fail)
    rw [← hw0]
    clear hw0
    go_wp2_with (fail)
    refine HCO.out.mono ?_
    rintro e w1 ⟨rfl, bel1⟩
    have B1 := Lib.hid (HB0.out.trans (bel1.mono HB0.out.size))
    clear bel1 y0 y1 y2
    go_wp2
    go_ret
    exact ⟨ret_bool HE.out, B1.out⟩
  | true =>
    by_cases h10 : N.l.length ≤ 10
    · have d1 : decide ((N.l.length : Int) ≤ 10) = true := decide_eq_true (by omega)
      have d2 : decide (N.l.length ≤ 10) = true := decide_eq_true h10
      have HE : Hid (inW N.w.length x = kgB N x) := Lib.hid (by rw [HKG.out, d2]; simp)
      clear h10
      generalize inW N.w.length x = q at *
      go_enter Tryz.func61, Tryz.ntmps61
      go_upto_region 1 with (fail)
      rw [← hw0]
      clear hw0
      go_wp2_with (fail)
      refine HCO.out.mono ?_
      rintro e w1 ⟨rfl, bel1⟩
      have B1 := Lib.hid bel1
      clear bel1 y0 y1 y2
      obtain ⟨y0, y1, y2⟩ := HKF.out _ B1.out
      go_wp2_with (fail)
      refine (HIR.out w1).mono ?_
      rintro e w2 ⟨rfl, rfl⟩
      have HBB := Lib.hid (HB0.out.trans (B1.out.mono HB0.out.size))
      go_wp2
      go_ret
      exact ⟨ret_bool HE.out, HBB.out⟩
    · have d1 : decide ((N.l.length : Int) ≤ 10) = false := decide_eq_false (by omega)
      have d2 : decide (N.l.length ≤ 10) = false := decide_eq_false h10
      have HE : Hid (false = kgB N x) := Lib.hid (by rw [HKG.out, d2]; simp)
      clear h10
      go_enter Tryz.func61, Tryz.ntmps61
      go_upto_region 1 with (fail)
      rw [← hw0]
      clear hw0
      go_wp2_with (fail)
      refine HCO.out.mono ?_
      rintro e w1 ⟨rfl, bel1⟩
      have B1 := Lib.hid bel1
      clear bel1 y0 y1 y2
      obtain ⟨y0, y1, y2⟩ := HKF.out _ B1.out
      have HBB := Lib.hid (HB0.out.trans (B1.out.mono HB0.out.size))
      go_wp2
      go_ret
      exact ⟨ret_bool HE.out, HBB.out⟩
/-- A bit of a number, as the model asks it. -/
theorem bit_ask {y i : Nat} (hy : y < 1048576) : (bits .and .i64 ((y : Int) / 2 ^ i) 1 == 1) = y.testBit i := by
  have h1 : bits .and .i64 ((y : Int) / 2 ^ i) 1 = (y : Int) / 2 ^ i % 2 := by
    rw [show (y : Int) / 2 ^ i = ((y / 2 ^ i : Nat) : Int) by rw [Int.natCast_ediv, Int.natCast_pow]; rfl]
    exact bit_i64 _ (Nat.lt_of_le_of_lt (Nat.div_le_self _ _) (by omega))
  rw [h1, show (y : Int) / 2 ^ i % 2 = ((y / 2 ^ i % 2 : Nat) : Int) by rw [Int.natCast_emod, Int.natCast_ediv, Int.natCast_pow]; rfl]
  rw [Bool.eq_iff_iff, beq_iff_eq, Nat.testBit_eq_decide_div_mod_eq, decide_eq_true_eq]
  omega
set_option maxRecDepth 100000 in
set_option maxHeartbeats 1000000 in
theorem sSet_any (n y : Nat) (w : World) (hn : n ≤ 48) (hy : y < 1048576) :
    Calls Tryz.prog 73 #[.int .i64 n, .int .i64 y] w (Gives w (mlS n y)) := by
  obtain ⟨i0, hi0, hz0, hz1, hz2⟩ := info_parts info_i64
  have HI := Lib.hid hi0; have HZ0 := Lib.hid hz0; have HZ1 := Lib.hid hz1; have HZ2 := Lib.hid hz2
  have h0 : (w.alloc (.cells #[] 2)).ownsRow w.heap.size 2 1 (.slice (some ⟨w.heap.size, 0, none⟩) 0 0) (selU y.testBit 0).length ((selU y.testBit 0).map (Value.int .i64)) := World.ownsRow_made w #[] 0 (Nat.le_refl _) (by simp [maxLen]) rfl
  have hb1 : Below w.heap.size w (w.alloc (.cells #[] 2)) := (Below.refl _ _).alloc (Nat.le_refl _) _
  have H0 := Lib.hid h0; have HB1 := Lib.hid hb1
  clear hi0 hz0 hz1 hz2 h0 hb1
  go_enter Tryz.func73, Tryz.ntmps73
  go_wp2
  go_loopw [5, 6] (fun v i wx => ∃ k : Nat, k ≤ n ∧ i = .int .i64 k ∧ wx.ownsRow w.heap.size 2 1 v (selU y.testBit k).length ((selU y.testBit k).map (Value.int .i64)) ∧ Below w.heap.size w wx) (fun _ i _ => n - (intOf i).toNat)
  case atStart => exact ⟨0, Nat.zero_le _, rfl, H0.out, HB1.out⟩
  case round =>
    obtain ⟨k, hk, rfl, hO, hB⟩ := hrel
    clear H0 HB1
    by_cases hlt : k < n
    · have hcn : IntKind.u64.wrap (k : Int) = (k : Int) := by rw [IntKind.wrap_u64]; omega
      have hbit := bit_ask (i := k) hy
      have hln := selU_len y.testBit k
      have HO := Lib.hid hO; have HB := Lib.hid hB
      have hsz1 := hB.size
      clear hO hB
      cases hp : y.testBit k with
      | false =>
        rw [hp] at hbit
        have HS := Lib.hid (selU_no (p := y.testBit) hp)
        clear hp
        go_wp2
        go_roundw
        case rel => exact ⟨k + 1, by omega, by go_num, by rw [HS.out]; exact HO.out, HB.out⟩
        case measure => simp [intOf]; omega
      | true =>
        rw [hp] at hbit
        have HS := Lib.hid (selU_yes (p := y.testBit) hp)
        clear hp
        go_wp2_with (at_builtin; refine wpList_append_own _ rfl _ _ 24 rfl w.heap.size 2 i0 (.int .i64 0) 1 8 Tryz.underlying24 HI.out HZ0.out HZ1.out HZ2.out rfl (by decide) _ _ _ rfl (HO.out.alloc _) ⟨wr.heap.size, 0, none⟩ 1 1 [.int .i64 k] rfl rfl ?c1 ?c2 ?c3 ?c4 ?c5 ?_)
        case c1 => exact cell_one_new _ _ _
        case c2 => intro u hu; simp at hu; subst hu; rfl
        case c3 => unfold maxLen; omega
        case c4 => omega
        case c5 => simp; omega
        intro v' w2 hown' hgrow _
        have hb2 := Lib.hid ((HB.out.alloc hsz1 (.cells #[.int .i64 k] 2)).grown hgrow (by simp; omega) (fun q hq => (HO.out.lt q hq).1))
        have hown2 : w2.ownsRow w.heap.size 2 1 v' (selU y.testBit (k + 1)).length ((selU y.testBit (k + 1)).map (Value.int .i64)) := by
          rw [HS.out, List.length_append, List.map_append]; exact hown'
        have hown1 := Lib.hid hown2
        clear hown' hgrow hown2 hsz1 hbit hcn
        go_wp2
        go_roundw
        case rel => exact ⟨k + 1, by omega, by go_num, hown1.out, hb2.out⟩
        case measure => simp [intOf]; omega
    · have hkl : k = n := by omega
      subst hkl
      obtain ⟨A3, c3, rfl⟩ := own_shape hO
      have HG : Hid (Gives w (mlS k y) (.returned (.slice A3 (selU y.testBit k).length c3)) wr) := Lib.hid ⟨A3, c3, rfl, hO, hB⟩
      clear hO hB
      go_wp2
      go_ret
      exact HG.out
end
section
set_option linter.unusedSimpArgs false
set_option linter.unusedVariables false
open Go.ChangeAt Go.ChangeShapes Go.RowKit Go.WideShapes

/-- The model's sets, as lists. -/
def msU (N : Nt) (x : Int) (k : Nat) : List (List Int) := (setU N x k).map (mlS N.l.length)
def msL (N : Nt) (x : Int) : List (List Int) := msU N x (2 ^ N.l.length)
theorem msU_len (N : Nt) (x : Int) (k : Nat) : (msU N x k).length = (setU N x k).length := by simp [msU]
theorem msU_one (N : Nt) (x : Int) : msU N x 1 = [] := by unfold msU; rw [setU_one]; rfl
theorem msU_yes {N : Nt} {x : Int} {k : Nat} (h : okS N x k = true) : msU N x (k + 1) = msU N x k ++ [mlS N.l.length k] := by unfold msU; rw [setU_yes h, List.map_append]; rfl
theorem msU_no {N : Nt} {x : Int} {k : Nat} (h : okS N x k = false) : msU N x (k + 1) = msU N x k := by unfold msU; rw [setU_no h]
theorem ml_from {n k f : Nat} (hf : f < n) : decide (((f : Nat) : Int) ∈ mlS n k) = k.testBit f := mlS_kS hf
theorem ml_to {N : Nt} {k : Nat} (x : Int) : decide (lxN inL N x ∈ mlS N.l.length k) = toK N k.testBit x := by
  rw [to_mem (fun y hy => (inW_yes (mlS_in hy)).1)]
  exact toK_same (fun j hj => mlS_kS hj) x
theorem shl_i64e {m : Nat} (h : m ≤ 10) : IntKind.i64.wrap ((2 : Int) ^ m) = ((2 ^ m : Nat) : Int) := by
  have h1 := pow_le10 h
  have h2 : ((2 : Int) ^ m) = ((2 ^ m : Nat) : Int) := by simp
  rw [h2]
  generalize 2 ^ m = M at *
  exact IntWalk.i64_in _ (by omega)
set_option maxRecDepth 100000 in
set_option maxHeartbeats 1000000 in
theorem sSets_any (h : NH) (N : Nt) (x : Int) (w : World) (hv : valN N = true) (h10 : N.l.length ≤ 10) (hx : inW N.w.length x = true) (r : RdN w w.heap.size h N) :
    Calls Tryz.prog 62 #[.agg #[.slice h.A N.w.length h.c, .slice h.L N.l.length h.d, .slice h.C N.c.length h.e], .int .i64 x] w (GivesSS w (msL N x)) := by
  obtain ⟨h48, h48l⟩ := valN_size hv
  obtain ⟨i0, hi0, hz0, hz1, hz2⟩ := info_parts_s
  have HI := Lib.hid hi0; have HZ0 := Lib.hid hz0; have HZ1 := Lib.hid hz1; have HZ2 := Lib.hid hz2
  obtain ⟨w0, hw0⟩ : ∃ w0, w0 = w.alloc (.cells #[.slice h.A N.w.length h.c, .slice h.L N.l.length h.d, .slice h.C N.c.length h.e] 30) := ⟨_, rfl⟩
  obtain ⟨hb, g0, hsz⟩ := box3_any w (.slice h.A N.w.length h.c) (.slice h.L N.l.length h.d) (.slice h.C N.c.length h.e) 30
  rw [← hw0] at hb g0 hsz
  have HKF := Lib.hid (fun (wx : World) (hx : Below w0.heap.size w0 wx) => three_cells ((hx.block w.heap.size (by omega)).trans g0))
  have HR := Lib.hid (fun (wx : World) (hx : Below w0.heap.size w0 wx) => show RdN wx wx.heap.size h N from (r.below (hb.trans (hx.mono hb.size))).more (Nat.le_trans hb.size hx.size))
  have hfr := fr_lt hv hx
  have HFR := Lib.hid (fun (wx : World) (hw : Below w0.heap.size w0 wx) => show Calls Tryz.prog 77 #[.agg #[.slice h.A N.w.length h.c, .slice h.L N.l.length h.d, .slice h.C N.c.length h.e], .int .i64 x] wx fun e w' => e = .returned (.int .i64 (frN N x : Nat)) ∧ Below wx.heap.size wx w' from by
    have := smFrom_any h.A h.L h.C N.w.length h.c h.d N.c.length h.e N.l x wx (HR.out wx hw).2.1 (by omega)
    rw [from_lxQ hv, hfr.1] at this
    exact this)
  have HTO := Lib.hid (fun (wx : World) (hw : Below w0.heap.size w0 wx) => show Calls Tryz.prog 108 #[.agg #[.slice h.A N.w.length h.c, .slice h.L N.l.length h.d, .slice h.C N.c.length h.e], .int .i64 x] wx fun e w' => e = .returned (.int .i64 (lxN inL N x)) ∧ Below wx.heap.size wx w' from by
    have := smTo_any h.A h.L h.C N.w.length h.c h.d N.c.length h.e N.l x wx (HR.out wx hw).2.1 (by omega)
    rw [to_lxQ] at this
    exact this)
  have hpw := pow_le10 h10
  have hsh := shl_i64e h10
  have HST := Lib.hid (fun (k : Nat) (wx : World) (hk : k < 1048576) => sSet_any N.l.length k wx (by omega) hk)
  have HML : Hid (∀ k, (mlS N.l.length k).length ≤ 48) := Lib.hid fun k => Nat.le_trans (selU_len _ _) (by omega)
  have HHA := Lib.hid (fun (k : Nat) (y : Int) (wx : World) (A : Option Addr) (c : Nat) (rr : RdI wx wx.heap.size A (mlS N.l.length k).length (mlS N.l.length k)) => show Calls Tryz.prog 87 #[.slice A (mlS N.l.length k).length c, .int .i64 y] wx fun e w' => e = .returned (.bool (decide (y ∈ mlS N.l.length k))) ∧ w' = wx from sHasQ_any A _ c _ y wx (Nat.le_trans (HML.out k) (by decide)) rr)
  have HMF : Hid (∀ k, decide (((frN N x : Nat) : Int) ∈ mlS N.l.length k) = k.testBit (frN N x)) := Lib.hid fun k => ml_from hfr.2
  have HMT : Hid (∀ k, decide (lxN inL N x ∈ mlS N.l.length k) = toK N k.testBit x) := Lib.hid fun k => ml_to x
  have HCL := Lib.hid (fun (k : Nat) (hk : k < 2 ^ N.l.length) (wx : World) (A : Option Addr) (c : Nat) (hw : Below w0.heap.size w0 wx) (rr : RdI wx wx.heap.size A (mlS N.l.length k).length (mlS N.l.length k)) => show Calls Tryz.prog 99 #[.agg #[.slice h.A N.w.length h.c, .slice h.L N.l.length h.d, .slice h.C N.c.length h.e], .slice A (mlS N.l.length k).length c] wx fun e w' => e = .returned (.bool (clS N k)) ∧ Below wx.heap.size wx w' from by
    have q := sClosed_any h N A _ c (mlS N.l.length k) wx hv (HR.out wx hw) rr (Nat.le_trans (HML.out k) (by decide))
    rw [ccM_is hv, (ml_cs hv hk).1] at q
    exact q)
  have HSB := Lib.hid (fun (k : Nat) (hk : k < 2 ^ N.l.length) (e : clS N k = true) (wx : World) (A : Option Addr) (c : Nat) (hw : Below w0.heap.size w0 wx) (rr : RdI wx wx.heap.size A (mlS N.l.length k).length (mlS N.l.length k)) => show Calls Tryz.prog 46 #[.agg #[.slice h.A N.w.length h.c, .slice h.L N.l.length h.d, .slice h.C N.c.length h.e], .slice A (mlS N.l.length k).length c] wx (CopiedN wx (sbN N k.testBit)) from by
    have q := sSub_any h N A _ c (mlS N.l.length k) wx hv (HR.out wx hw) rr (Nat.le_trans (HML.out k) (by decide)) ((ml_cs hv hk).1.trans e)
    rw [(ml_cs hv hk).2] at q
    exact q)
  have HSV : Hid (∀ k, k < 2 ^ N.l.length → clS N k = true → valN (sbN N k.testBit) = true) := Lib.hid fun k hk e => by
    rw [← (ml_cs hv hk).2]
    exact sbN_valid hv (csB_yes ((ml_cs hv hk).1.trans e)).2.2.1
  have HOKD : Hid (∀ k, okS N x k = (k.testBit (frN N x) && !toK N k.testBit x && (clS N k && cbV (sbN N k.testBit)))) := Lib.hid fun k => rfl
  have HEND : Hid (msU N x (2 ^ N.l.length) = msL N x) := Lib.hid rfl
  have HQ0 : Hid (OwnQ (w0.alloc (.cells #[] 24)) w0.heap.size (w0.alloc (.cells #[] 24)).heap.size (.slice (some ⟨w0.heap.size, 0, none⟩) 0 0) (fun _ => (none, 0)) (msU N x 1)) := Lib.hid (by rw [msU_one]; exact OwnQ.made w0 _)
  have HL0 : Hid ((msU N x 1).length = 0) := Lib.hid (by rw [msU_one]; rfl)
  have HB1 := Lib.hid ((Below.refl w0.heap.size w0).alloc (Nat.le_refl _) (.cells #[] 24))
  have HB0 := Lib.hid hb
  have hp1 : 1 ≤ 2 ^ N.l.length := Nat.one_le_two_pow
  have HMU := Lib.hid (fun k : Nat => msU_len N x k)
  obtain ⟨y0, y1, y2⟩ := HKF.out _ (Below.refl _ w0)
  clear hb g0 hsz r hv hx hfr hi0 hz0 hz1 hz2
  obtain ⟨M, hM⟩ : ∃ M, 2 ^ N.l.length = M := ⟨_, rfl⟩
  rw [hM] at hpw hsh HCL HSB HSV HEND hp1
  clear hM
  generalize frN N x = f at *
  go_enter Tryz.func62, Tryz.ntmps62
  go_upto_region 1 with (fail)
  rw [← hw0]
  clear hw0 y0 y1 y2
  go_wp2
  go_loopw [5, 6] (fun v i wx => ∃ k : Nat, 1 ≤ k ∧ k ≤ M ∧ i = .int .i64 k ∧ ∃ hs A2 c2, v = .slice A2 (msU N x k).length c2 ∧ OwnQ wx w0.heap.size wx.heap.size (.slice A2 (msU N x k).length c2) hs (msU N x k) ∧ Below w0.heap.size w0 wx) (fun _ i _ => M - (intOf i).toNat)
  case atStart => exact ⟨1, Nat.le_refl _, hp1, rfl, _, some ⟨w0.heap.size, 0, none⟩, 0, by rw [HL0.out], by rw [HL0.out]; exact HQ0.out, HB1.out⟩
  case round =>
    obtain ⟨k, hk1, hk, rfl, hs, A2, c2, rfl, hO, hB⟩ := hrel
    clear HQ0 HL0 HB1
    obtain ⟨y0, y1, y2⟩ := HKF.out _ hB
    have hcu : IntKind.u64.wrap (N.l.length : Int) = (N.l.length : Int) := by rw [IntKind.wrap_u64]; omega
    by_cases hlt : k < M
    · have HOK := Lib.hid (HOKD.out k)
      have HY := Lib.hid (fun (e : okS N x k = true) => msU_yes e)
      have HN := Lib.hid (fun (e : okS N x k = false) => msU_no e)
      have hln : (msU N x k).length ≤ 1024 := by rw [HMU.out]; exact Nat.le_trans (setU_len _ _ k) (by omega)
      have HSX := Lib.hid (HST.out k wr (by omega))
      have HHX := Lib.hid (HHA.out k)
      have HMF1 := Lib.hid (HMF.out k)
      have HMT1 := Lib.hid (HMT.out k)
      have HCX := Lib.hid (HCL.out k hlt)
      have HBX := Lib.hid (HSB.out k hlt)
      have HVX := Lib.hid (HSV.out k hlt)
      have HO := Lib.hid hO; have HB := Lib.hid hB
      have hki : (k : Int) < (M : Int) := by omega
      clear hO hB
      generalize okS N x k = ok at *
      obtain ⟨L, hL⟩ : ∃ L, msU N x k = L := ⟨_, rfl⟩
      rw [hL] at HO HY HN hln ⊢
      have HLK := Lib.hid hL
      clear hL
      obtain ⟨ml, hml⟩ : ∃ m, mlS N.l.length k = m := ⟨_, rfl⟩
      rw [hml] at HSX HHX HMF1 HMT1 HCX HBX HY
      clear hml
      go_wp2_with (fail)
      refine HSX.out.mono ?_
      rintro e w2 ⟨A3, c3, rfl, own3, bel2⟩
      have B2 := Lib.hid (HB.out.trans (bel2.mono HB.out.size))
      have BB2 := Lib.hid bel2
      have O3 := Lib.hid own3
      clear own3 bel2 y0 y1 y2
      obtain ⟨y0, y1, y2⟩ := HKF.out _ B2.out
      go_wp2_with (fail)
      refine (HFR.out w2 B2.out).mono ?_
      rintro e w3 ⟨rfl, bel3⟩
      have B3 := Lib.hid (B2.out.trans (bel3.mono B2.out.size))
      have BB3 := Lib.hid (BB2.out.trans (bel3.mono BB2.out.size))
      have O3a := Lib.hid (own_below O3.out bel3 (Nat.le_refl _))
      have HH1 := Lib.hid (HHX.out (f : Int) w3 A3 c3 (RdI.of_own O3a.out))
      rw [HMF1.out] at HH1
      clear bel3 y0 y1 y2 O3 BB2
      go_wp2_with (fail)
      refine HH1.out.mono ?_
      rintro e w4 ⟨rfl, hw4⟩
      subst hw4
      cases hp : k.testBit f with
      | false =>
        have HS := Lib.hid (HN.out (by rw [HOK.out, hp]; rfl))
        have Q3 := Lib.hid (HO.out.below BB3.out)
        have Q4 := Lib.hid (Q3.out.more (Nat.le_refl _) BB3.out.size)
        go_wp2
        go_roundw
        case rel => exact ⟨k + 1, by omega, by omega, by go_num, hs, A2, c2, by rw [HS.out], by rw [HS.out]; exact Q4.out, B3.out⟩
        case measure => simp [intOf]; omega
      | true =>
        rw [hp] at HOK
        clear hp
        obtain ⟨y0, y1, y2⟩ := HKF.out _ B3.out
        go_wp2_with (fail)
        refine (HTO.out w4 B3.out).mono ?_
        rintro e w5 ⟨rfl, bel5⟩
        have B5 := Lib.hid (B3.out.trans (bel5.mono B3.out.size))
        have BB5 := Lib.hid (BB3.out.trans (bel5.mono BB3.out.size))
        have O5 := Lib.hid (own_below O3a.out bel5 (Nat.le_refl _))
        have HH2 := Lib.hid (HHX.out (lxN inL N x) w5 A3 c3 (RdI.of_own O5.out))
        rw [HMT1.out] at HH2
        clear bel5 y0 y1 y2 O3a BB3
        generalize lxN inL N x = tt at *
        go_wp2_with (fail)
        refine HH2.out.mono ?_
        rintro e w6 ⟨rfl, hw6⟩
        subst hw6
        cases hq : toK N k.testBit x with
        | true =>
          have HS := Lib.hid (HN.out (by rw [HOK.out, hq]; rfl))
          have Q3 := Lib.hid (HO.out.below BB5.out)
          have Q4 := Lib.hid (Q3.out.more (Nat.le_refl _) BB5.out.size)
          clear hq
          go_wp2
          go_roundw
          case rel => exact ⟨k + 1, by omega, by omega, by go_num, hs, A2, c2, by rw [HS.out], by rw [HS.out]; exact Q4.out, B5.out⟩
          case measure => simp [intOf]; omega
        | false =>
          rw [hq] at HOK
          clear hq
          obtain ⟨y0, y1, y2⟩ := HKF.out _ B5.out
          have HCY := Lib.hid (HCX.out w6 A3 c3 B5.out (RdI.of_own O5.out))
          go_wp2_with (fail)
          refine HCY.out.mono ?_
          rintro e w7 ⟨rfl, bel7⟩
          have B7 := Lib.hid (B5.out.trans (bel7.mono B5.out.size))
          have BB7 := Lib.hid (BB5.out.trans (bel7.mono BB5.out.size))
          have O7 := Lib.hid (own_below O5.out bel7 (Nat.le_refl _))
          clear bel7 y0 y1 y2 O5 BB5
          cases hr : clS N k with
          | false =>
            have HS := Lib.hid (HN.out (by rw [HOK.out, hr]; rfl))
            have Q3 := Lib.hid (HO.out.below BB7.out)
            have Q4 := Lib.hid (Q3.out.more (Nat.le_refl _) BB7.out.size)
            clear hr
            go_wp2
            go_roundw
            case rel => exact ⟨k + 1, by omega, by omega, by go_num, hs, A2, c2, by rw [HS.out], by rw [HS.out]; exact Q4.out, B7.out⟩
            case measure => simp [intOf]; omega
          | true =>
            have HBY := Lib.hid (HBX.out hr w7 A3 c3 B7.out (RdI.of_own O7.out))
            have HVY := Lib.hid (HVX.out hr)
            rw [hr] at HOK
            clear hr
            obtain ⟨y0, y1, y2⟩ := HKF.out _ B7.out
            generalize sbN N k.testBit = SN at *
            go_wp2_with (fail)
            refine HBY.out.mono ?_
            rintro e w8 ⟨h8, rfl, own8, bel8⟩
            have B8 := Lib.hid (B7.out.trans (bel8.mono B7.out.size))
            have BB8 := Lib.hid (BB7.out.trans (bel8.mono BB7.out.size))
            have O8 := Lib.hid (own_below O7.out bel8 (Nat.le_refl _))
            have HCO := Lib.hid (sCorrect_any h8 SN w8 HVY.out own8.rd)
            clear own8 bel8 y0 y1 y2 O7 BB7
            go_wp2_with (fail)
            refine HCO.out.mono ?_
            rintro e w9 ⟨rfl, bel9⟩
            have B9 := Lib.hid (B8.out.trans (bel9.mono B8.out.size))
            have BB9 := Lib.hid (BB8.out.trans (bel9.mono BB8.out.size))
            have O9 := Lib.hid (own_below O8.out bel9 (Nat.le_refl _))
            clear bel9 O8 BB8
            cases ht : cbV SN with
            | false =>
              have HS := Lib.hid (HN.out (by rw [HOK.out, ht]; rfl))
              have Q3 := Lib.hid (HO.out.below BB9.out)
              have Q4 := Lib.hid (Q3.out.more (Nat.le_refl _) BB9.out.size)
              clear ht
              go_wp2
              go_roundw
              case rel => exact ⟨k + 1, by omega, by omega, by go_num, hs, A2, c2, by rw [HS.out], by rw [HS.out]; exact Q4.out, B9.out⟩
              case measure => simp [intOf]; omega
            | true =>
              have HS := Lib.hid (HY.out (by rw [HOK.out, ht]; rfl))
              clear ht
              obtain ⟨o6, n6, bs6⟩ := push_in (A6 := A3) (c6 := c3) (dq := ml) HO.out rfl HB.out.size BB9.out
              have O6 := Lib.hid o6; have N6 := Lib.hid n6; have BS6 := Lib.hid bs6
              clear o6 n6 bs6
              obtain ⟨kk, hkk⟩ : ∃ q, L.length = q := ⟨_, rfl⟩
              rw [hkk] at O6 hln ⊢
              have HKK := Lib.hid hkk
              clear hkk
              go_wp2_with (at_builtin; refine wpList_append_lies _ rfl _ _ _ rfl w0.heap.size 24 i0 (.slice none 0 0) 1 24 Tryz.underlying22 HI.out HZ0.out HZ1.out HZ2.out rfl (by decide) _ _ _ rfl O6.out ⟨w9.heap.size, 0, none⟩ 1 1 [.slice A3 ml.length c3] rfl rfl N6.out (by simp [Value.oneCell']) (by decide) (by simp only [maxLen]; omega) (by omega) BS6.out _ rfl ?_; intro g cap w7 hown7 hgrow7 hat7 hlt7)
              have G0 := push_own (k := kk) (by rw [← HKK.out]; exact HO.out) HKK.out HB.out.size BB9.out O9.out hown7 hgrow7 hat7
              have J1 := Lib.hid G0.1; have J2 := Lib.hid (HB.out.trans G0.2)
              have HLN : Hid ((msU N x (k + 1)).length = kk + 1) := Lib.hid (by rw [HS.out, List.length_append, HKK.out]; rfl)
              clear hown7 hgrow7 hat7 hlt7 G0
              go_wp2
              go_roundw
              case rel => exact ⟨k + 1, by omega, by omega, by go_num, _, _, _, by rw [HLN.out], by rw [HLN.out, HS.out]; exact J1.out, J2.out⟩
              case measure => simp [intOf]; omega
    · have hkk : k = M := by omega
      subst hkk
      rw [HEND.out] at hO
      have HG : Hid (GivesSS w (msL N x) (.returned (.slice A2 (msL N x).length c2)) wr) := Lib.hid ⟨hs, A2, c2, rfl, hO.more HB0.out.size (Nat.le_refl _), HB0.out.trans (hB.mono HB0.out.size)⟩
      rw [← HEND.out] at HG
      clear hO hB
      generalize (msU N x k).length = q at *
      go_wp2
      go_ret
      rw [← HEND.out]
      exact HG.out
end
end Go.Proofs.YtfdpkhiiboghiaaGreatDoor
