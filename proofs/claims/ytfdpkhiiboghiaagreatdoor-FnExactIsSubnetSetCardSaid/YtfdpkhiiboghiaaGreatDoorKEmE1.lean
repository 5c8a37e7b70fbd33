import Derived.Test.YtfdpkhiiboghiaaGreatDoorKQEmC
import Derived.Test.YtfdpkhiiboghiaaGreatDoorKQPaD
import Derived.Test.YtfdpkhiiboghiaaGreatDoorKQDual
import Derived.Deep.RegionHeldLaw
import Derived.Deep.DeepCutAuto
import Derived.BigQuiet
import Derived.Test.YtfdpkhiiboghiaaGreatDoorKQEnB
import Derived.Test.YtfdpkhiiboghiaaGreatDoorKQEnA
import Derived.Maps.AppendAt
/- The program: closedSet. -/
namespace Go.Proofs.YtfdpkhiiboghiaaGreatDoor
set_option linter.unusedSimpArgs false
set_option linter.unusedVariables false
open Go.ChangeAt Go.ChangeShapes Go.RowKit Go.WideShapes

theorem equal_e (A B : Option Addr) (n m c d : Nat) (zs ys : List Int) (w : World) (h : RdI w w.heap.size A n zs) (h' : RdI w w.heap.size B m ys) (hn : n ≤ 1048576) (hm : m ≤ 1048576) :
    Calls Tryz.prog 104 #[.slice A n c, .slice B m d] w fun e w' => e = .returned (.bool (decide (zs = ys))) ∧ Below w.heap.size w w' :=
  (equal_d A B n m c d zs ys w _ _ h h' hn hm).mono fun _ _ ⟨h1, m, h2⟩ => ⟨h1, by rw [h2]; exact below_drewN (Below.refl _ _) m⟩
/-- What closedSet leaves. -/
def GivesCl (w : World) (h : NH) (N : Nt) (ks : List Int) (e : Ending) (w' : World) : Prop :=
  ((csB N ks = true ∧ ∃ (P Q : Option Addr) (c d : Nat), e = .returned (.tuple #[.agg #[.slice h.A N.w.length h.c, .slice h.L N.l.length h.d, .slice h.C N.c.length h.e, .slice P N.w.length c, .slice Q N.w.length d], .int .u64 ((orS ks : Nat) : Int), .bool true]) ∧ RdWr w' h N P Q) ∨
   (csB N ks = false ∧ ∃ (A0 A1 A2 A3 A4 : Option Addr) (n0 n1 n2 n3 n4 c0 c1 c2 c3 c4 z : Nat), e = .returned (.tuple #[.agg #[.slice A0 n0 c0, .slice A1 n1 c1, .slice A2 n2 c2, .slice A3 n3 c3, .slice A4 n4 c4], .int .u64 (z : Int), .bool false]))) ∧ Below w.heap.size w w'
theorem csB_inv {N : Nt} {ks : List Int} (h : valN N = false) : csB N ks = false := by unfold csB; rw [h]; rfl
theorem csB_out {N : Nt} {ks : List Int} {k : Nat} (hk : k < ks.length) (h : inW N.l.length (ks.getD k 0) = false) : csB N ks = false := by
  unfold csB; rw [all_bad (d := (0 : Int)) hk h]; simp
set_option maxRecDepth 100000 in
set_option maxHeartbeats 1000000 in
theorem closedSet_any (h : NH) (N : Nt) (A : Option Addr) (n c : Nat) (ks : List Int) (w : World) (r : RdN w w.heap.size h N) (sm : SmallN N) (rk : RdI w w.heap.size A n ks) (hkl : n ≤ 1048576) (ht : Arit w) (hu : Dual w) (hT : Tz w) :
    Calls Tryz.prog 49 #[.agg #[.slice h.A N.w.length h.c, .slice h.L N.l.length h.d, .slice h.C N.c.length h.e], .slice A n c] w (GivesCl w h N ks) := by
  have hkn := rk.1
  subst hkn
  obtain ⟨w0, hw0⟩ : ∃ w0, w0 = (w.alloc (.cells #[.slice h.A N.w.length h.c, .slice h.L N.l.length h.d, .slice h.C N.c.length h.e] 30)).alloc (.cells #[.slice none 0 0, .slice none 0 0, .slice none 0 0, .slice none 0 0, .slice none 0 0] 58) := ⟨_, rfl⟩
  obtain ⟨hb, g0, g1, hsz⟩ := two_any' w (.cells #[.slice h.A N.w.length h.c, .slice h.L N.l.length h.d, .slice h.C N.c.length h.e] 30) (.cells #[.slice none 0 0, .slice none 0 0, .slice none 0 0, .slice none 0 0, .slice none 0 0] 58)
  rw [← hw0] at hb g0 g1 hsz
  have hs0 : w.heap.size + 2 ≤ w0.heap.size := by omega
  have HKF := Lib.hid (fun (wx : World) (hx : Below w0.heap.size w0 wx) => three_cells ((hx.block w.heap.size (by omega)).trans g0))
  have HK2 := Lib.hid (fun (wx : World) (hx : Below w0.heap.size w0 wx) => (hx.block (w.heap.size + 1) (by omega)).trans g1)
  have HR := Lib.hid (fun (wx : World) (hx : Below w0.heap.size w0 wx) => show RdN wx wx.heap.size h N from (r.below (hb.trans (hx.mono hb.size))).more (Nat.le_trans hb.size hx.size))
  have HRK := Lib.hid (fun (wx : World) (hx : Below w0.heap.size w0 wx) => show RdI wx wx.heap.size A ks.length ks from (rk.below (hb.trans (hx.mono hb.size))).more (Nat.le_trans hb.size hx.size))
  have HV := Lib.hid (validNet_impl h N w0 (HR.out _ (Below.refl _ _)) sm (ht.below hb ht.lt) (hu.below hb hu.lt))
  have HL := Lib.hid (fun (x : Int) (wx : World) => isLink_any h N x wx (Nat.le_trans sm.l (by decide)))
  have HTZ := Lib.hid (fun (wx : World) (hx : Below w.heap.size w wx) => show Tz wx from hT.below hx hT.lt)
  have HB0 := Lib.hid hb
  have HRN := Lib.hid r
  have HRK0 := Lib.hid rk
  obtain ⟨y0, y1, y2⟩ := HKF.out _ (Below.refl _ w0)
  clear hb g0 g1 hsz r rk ht hu hT
  cases hv : valN N with
  | false =>
    rw [hv] at HV
    have HCB := Lib.hid (csB_inv (ks := ks) hv)
    clear hv
    go_enter Tryz.func49, Tryz.ntmps49
    go_upto_region 1 with (fail)
    rw [← hw0]
    clear hw0
    go_wp2_with (fail)
    refine HV.out.mono ?_
    rintro e w1 ⟨rfl, bel1⟩
    have B1 := Lib.hid bel1
    have Q1 := Lib.hid (HK2.out _ B1.out)
    obtain ⟨a0, a1, a2, a3, a4⟩ := five_cells Q1.out
    have f0 := frozen_of_row _ _ 0 _ _ Q1.out; have f1 := frozen_of_row _ _ 1 _ _ Q1.out; have f2 := frozen_of_row _ _ 2 _ _ Q1.out; have f3 := frozen_of_row _ _ 3 _ _ Q1.out; have f4 := frozen_of_row _ _ 4 _ _ Q1.out
    clear bel1 y0 y1 y2
    go_wp2
    (try simp only [Exit.inBlock, Exit.then])
    refine bodyPost_ret (results_cell_tt rfl _ _ (w.heap.size + 1) _ _ (0, 0) _ rfl (set5_at Q1.out _ _ _ _ _) Tryz.underlying58 rfl (by kernel_rfl)) rfl ?_
    exact ⟨.inr ⟨HCB.out, none, none, none, none, none, 0, 0, 0, 0, 0, 0, 0, 0, 0, 0, 0, rfl⟩, set5_below (HB0.out.trans (B1.out.mono HB0.out.size)) (by omega) _ _ _ _ _⟩
  | true =>
    rw [hv] at HV
    obtain ⟨h48, h48l⟩ := valN_size hv
    have HW := Lib.hid (fun (wx : World) (hx : Below w0.heap.size w0 wx) => wiredNetOf_any h N wx hv (HR.out wx hx))
    have HSO := Lib.hid (fun (wx : World) (hx : Below w0.heap.size w0 wx) (hin : ks.all (inW N.l.length) = true) => setOf_any A c ks wx (HRK.out wx hx) hkl (fun x hx => by have := inW_yes (List.all_eq_true.1 hin x hx); omega))
    have HCS := Lib.hid (fun (hin : ks.all (inW N.l.length) = true) => csB_is hv hin)
    have HINS := Lib.hid (fun (hin : ks.all (inW N.l.length) = true) => inS_or (List.all_eq_true.1 hin))
    have HSL : Hid (orS ks < 18446744073709551616) := Lib.hid (orS_lt ks)
    have HIC := Lib.hid (fun (P Q : Option Addr) (c d : Nat) (wx : World) (hr : RdWr wx h N P Q) (hin : inS N.l.length (orS ks)) (hT : Tz wx) => isClosed_any h N P Q c d (orS ks) wx hv hr hin HSL.out hT)
    have HLK := Lib.hid (fun (wx : World) (hT : Tz wx) => links_any (orS ks) wx HSL.out hT)
    have HKLN := Lib.hid (lkS_len (orS ks))
    clear hv
    go_enter Tryz.func49, Tryz.ntmps49
    go_upto_region 1 with (fail)
    rw [← hw0]
    clear hw0
    go_wp2_with (fail)
    refine HV.out.mono ?_
    rintro e w1 ⟨rfl, bel1⟩
    have B1 := Lib.hid bel1
    clear bel1 y0 y1 y2
    go_wp2
    go_loopw [15] (fun i wx => ∃ k : Nat, k ≤ ks.length ∧ i = .int .i64 k ∧ (ks.take k).all (inW N.l.length) = true ∧ Below w0.heap.size w0 wx) (fun i _ => ks.length - (intOf i).toNat)
    case atStart => exact ⟨0, Nat.zero_le _, rfl, rfl, B1.out⟩
    case round =>
      obtain ⟨k, hk, rfl, hall, hB⟩ := hrel
      obtain ⟨y0, y1, y2⟩ := HKF.out _ hB
      by_cases hlt : k < ks.length
      · obtain ⟨b, off, hAe, hbb, hcells⟩ := (HRK.out _ hB).2 (by omega)
        have x0 := hcells k hlt
        have HIL := Lib.hid (HL.out (ks.getD k 0) wr)
        have HST := Lib.hid (fun (e : inW N.l.length (ks.getD k 0) = true) => all_step (d := (0 : Int)) hlt hall e)
        have HBD := Lib.hid (fun (e : inW N.l.length (ks.getD k 0) = false) => csB_out hlt e)
        have HB := Lib.hid hB
        generalize ks.getD k 0 = x at *
        clear hcells hall hB
        subst hAe
        cases hp : inW N.l.length x with
        | true =>
          rw [hp] at HIL
          have HS2 := Lib.hid (HST.out hp)
          clear hp
          go_wp2_with (fail)
          refine HIL.out.mono ?_
          rintro e w3 ⟨rfl, bel3⟩
          have B3 := Lib.hid (HB.out.trans (bel3.mono HB.out.size))
          clear bel3 x0 y0 y1 y2
          go_wp2
          go_roundw
          case rel => exact ⟨k + 1, by omega, by go_num, HS2.out, B3.out⟩
          case measure => simp [intOf]; omega
        | false =>
          rw [hp] at HIL
          have HCB := Lib.hid (HBD.out hp)
          clear hp
          go_wp2_with (fail)
          refine HIL.out.mono ?_
          rintro e w3 ⟨rfl, bel3⟩
          have B3 := Lib.hid (HB.out.trans (bel3.mono HB.out.size))
          have Q1 := Lib.hid (HK2.out _ B3.out)
          obtain ⟨a0, a1, a2, a3, a4⟩ := five_cells Q1.out
          have f0 := frozen_of_row _ _ 0 _ _ Q1.out; have f1 := frozen_of_row _ _ 1 _ _ Q1.out; have f2 := frozen_of_row _ _ 2 _ _ Q1.out; have f3 := frozen_of_row _ _ 3 _ _ Q1.out; have f4 := frozen_of_row _ _ 4 _ _ Q1.out
          clear bel3 x0 y0 y1 y2
          go_wp2
          (try simp only [Exit.inBlock, Exit.then])
          refine bodyPost_ret (results_cell_tt rfl _ _ (w.heap.size + 1) _ _ (0, 0) _ rfl (set5_at Q1.out _ _ _ _ _) Tryz.underlying58 rfl (by kernel_rfl)) rfl ?_
          exact ⟨.inr ⟨HCB.out, none, none, none, none, none, 0, 0, 0, 0, 0, 0, 0, 0, 0, 0, 0, rfl⟩, set5_below (HB0.out.trans (B3.out.mono HB0.out.size)) (by omega) _ _ _ _ _⟩
      · have hkk : k = ks.length := by omega
        subst hkk
        rw [List.take_length] at hall
        have HBB := Lib.hid hB
        have HWR := Lib.hid (HW.out _ hB)
        have HSE := Lib.hid (fun wx hx => HSO.out wx hx hall)
        have HCE := Lib.hid (HCS.out hall)
        have HIN := Lib.hid (HINS.out hall)
        clear hall hB HW HSO HCS HINS
        go_wp2_with (fail)
        refine HWR.out.mono ?_
        rintro e u2 ⟨P, Q, cP, cQ, rfl, rw2, fp, fq, bel2⟩
        have B2 := Lib.hid (HBB.out.trans (bel2.mono HBB.out.size))
        have RW := Lib.hid rw2
        have FP : Hid (FarI N.w.length P w0.heap.size) := Lib.hid fun hn b off e => Nat.le_trans HBB.out.size (fp hn b off e)
        have FQ : Hid (FarI N.w.length Q w0.heap.size) := Lib.hid fun hn b off e => Nat.le_trans HBB.out.size (fq hn b off e)
        clear rw2 fp fq bel2 y0 y1 y2
        go_wp2_with (fail)
        refine (HSE.out u2 B2.out).mono ?_
        rintro e u3 ⟨rfl, rfl⟩
        have Q1 := Lib.hid (HK2.out _ B2.out)
        obtain ⟨a0, a1, a2, a3, a4⟩ := five_cells Q1.out
        have f0 := frozen_of_row _ _ 0 _ _ Q1.out; have f1 := frozen_of_row _ _ 1 _ _ Q1.out; have f2 := frozen_of_row _ _ 2 _ _ Q1.out; have f3 := frozen_of_row _ _ 3 _ _ Q1.out; have f4 := frozen_of_row _ _ 4 _ _ Q1.out
        obtain ⟨u4, hu4⟩ : ∃ u, u = (((((u2.setCell ⟨w.heap.size + 1, 0, none⟩ (.slice h.A N.w.length h.c)).setCell ⟨w.heap.size + 1, 1, none⟩ (.slice h.L N.l.length h.d)).setCell ⟨w.heap.size + 1, 2, none⟩ (.slice h.C N.c.length h.e)).setCell ⟨w.heap.size + 1, 3, none⟩ (.slice P N.w.length cP)).setCell ⟨w.heap.size + 1, 4, none⟩ (.slice Q N.w.length cQ)) := ⟨_, rfl⟩
        have HU4 := Lib.hid hu4
        have Q4 := Lib.hid (set5_at Q1.out (.slice h.A N.w.length h.c) (.slice h.L N.l.length h.d) (.slice h.C N.c.length h.e) (.slice P N.w.length cP) (.slice Q N.w.length cQ))
        rw [← hu4] at Q4
        have hb4 : Below w.heap.size w u4 := by rw [hu4]; exact set5_below (HB0.out.trans (B2.out.mono HB0.out.size)) (by omega) _ _ _ _ _
        have hz4 : u4.heap.size = u2.heap.size := by rw [hu4]; simp
        have hk4 : ∀ k, k ≠ w.heap.size + 1 → u4.heap[k]? = u2.heap[k]? := fun k hk => by rw [hu4]; exact set5_heap hk _ _ _ _ _
        have hz2 := B2.out.size
        have RW4 : Hid (RdWr u4 h N P Q) := Lib.hid ⟨(HRN.out.below hb4).more hb4.size, (rdi_but RW.out.p FP.out (by omega) hk4).more (by omega), (rdi_but RW.out.q FQ.out (by omega) hk4).more (by omega)⟩
        have HRK4 := Lib.hid (fun (wx : World) (hx : Below u4.heap.size u4 wx) => show RdI wx wx.heap.size A ks.length ks from (HRK0.out.below (hb4.trans (hx.mono hb4.size))).more (Nat.le_trans hb4.size hx.size))
        have HB4 := Lib.hid hb4
        have HB5 := Lib.hid (fun (wx : World) (hx : Below u4.heap.size u4 wx) => (hx.block (w.heap.size + 1) (by omega)).trans Q4.out)
        have HQ4 := Lib.hid (fun (wx : World) (hx : Below u4.heap.size u4 wx) => five_cells (HB5.out wx hx))
        have HF4 := Lib.hid (fun (wx : World) (hx : Below u4.heap.size u4 wx) => And.intro (frozen_of_row _ _ 0 _ _ (HB5.out wx hx)) (And.intro (frozen_of_row _ _ 1 _ _ (HB5.out wx hx)) (And.intro (frozen_of_row _ _ 2 _ _ (HB5.out wx hx)) (And.intro (frozen_of_row _ _ 3 _ _ (HB5.out wx hx)) (frozen_of_row _ _ 4 _ _ (HB5.out wx hx))))))
        have HQS := Lib.hid (fun (wx : World) (hx : Below u4.heap.size u4 wx) => five_cells (set5_at (HB5.out wx hx) (.slice h.A N.w.length h.c) (.slice h.L N.l.length h.d) (.slice h.C N.c.length h.e) (.slice P N.w.length cP) (.slice Q N.w.length cQ)))
        have K4 := Lib.hid (HQ4.out _ (Below.refl _ u4))
        have BD : Hid (Below u4.heap.size u4 u4.drew) := Lib.hid ((Below.refl u4.heap.size u4).drew)
        have HEND : Hid (∀ wx : World, Below u4.heap.size u4 wx → RdWr (((((wx.setCell ⟨w.heap.size + 1, 0, none⟩ (.slice h.A N.w.length h.c)).setCell ⟨w.heap.size + 1, 1, none⟩ (.slice h.L N.l.length h.d)).setCell ⟨w.heap.size + 1, 2, none⟩ (.slice h.C N.c.length h.e)).setCell ⟨w.heap.size + 1, 3, none⟩ (.slice P N.w.length cP)).setCell ⟨w.heap.size + 1, 4, none⟩ (.slice Q N.w.length cQ)) h N P Q ∧ Below w.heap.size w (((((wx.setCell ⟨w.heap.size + 1, 0, none⟩ (.slice h.A N.w.length h.c)).setCell ⟨w.heap.size + 1, 1, none⟩ (.slice h.L N.l.length h.d)).setCell ⟨w.heap.size + 1, 2, none⟩ (.slice h.C N.c.length h.e)).setCell ⟨w.heap.size + 1, 3, none⟩ (.slice P N.w.length cP)).setCell ⟨w.heap.size + 1, 4, none⟩ (.slice Q N.w.length cQ))) := Lib.hid fun wx hx => by
          have hbx : Below w.heap.size w (((((wx.setCell ⟨w.heap.size + 1, 0, none⟩ (.slice h.A N.w.length h.c)).setCell ⟨w.heap.size + 1, 1, none⟩ (.slice h.L N.l.length h.d)).setCell ⟨w.heap.size + 1, 2, none⟩ (.slice h.C N.c.length h.e)).setCell ⟨w.heap.size + 1, 3, none⟩ (.slice P N.w.length cP)).setCell ⟨w.heap.size + 1, 4, none⟩ (.slice Q N.w.length cQ)) := set5_below (hb4.trans (hx.mono hb4.size)) (by omega) _ _ _ _ _
          have r2 := RW4.out.below hx
          refine ⟨⟨(HRN.out.below hbx).more hbx.size, (rdi_but r2.p FP.out (by omega) fun k hk => set5_heap hk _ _ _ _ _).more (by simp), (rdi_but r2.q FQ.out (by omega) fun k hk => set5_heap hk _ _ _ _ _).more (by simp)⟩, hbx⟩
        clear hu4 hb4 hk4 hz4 hz2
        go_upto_region 10 with (fail)
        rw [← HU4.out]
        clear a0 a1 a2 a3 a4 f0 f1 f2 f3 f4
        cases hp : decide (ks = lkS (orS ks)) with
        | false =>
          have HCB : Hid (csB N ks = false) := Lib.hid (by rw [HCE.out, hp]; rfl)
          have FB_0 := Lib.hid (Below.refl u4.heap.size u4)
          have HSX := HQ4
          refine wp_region_held_drew (S := fun wx => wx.cell? ⟨w.heap.size + 1, 0, none⟩ = some (.slice h.A N.w.length h.c) ∧ wx.cell? ⟨w.heap.size + 1, 1, none⟩ = some (.slice h.L N.l.length h.d) ∧ wx.cell? ⟨w.heap.size + 1, 2, none⟩ = some (.slice h.C N.c.length h.e) ∧ wx.cell? ⟨w.heap.size + 1, 3, none⟩ = some (.slice P N.w.length cP) ∧ wx.cell? ⟨w.heap.size + 1, 4, none⟩ = some (.slice Q N.w.length cQ)) (by kernel_rfl) (HQ4.out _ (Below.refl _ _).drew) (fun hHeld => ?_)
          obtain ⟨wq1, hwq1⟩ : ∃ w', w' = u4.drew := ⟨_, rfl⟩
          rw [← hwq1] at hHeld ⊢
          have bq1 : Below u4.heap.size u4 wq1 := by rw [hwq1]; exact (Below.refl _ _).drew
          clear hwq1
          have FB_q2 := Lib.hid ((FB_0.out).trans ((bq1).mono (FB_0.out).size))
          clear FB_0
          refine wpAnyH_take (i := 0) (v := ?vq3) rfl (by kernel_rfl) (by kernel_rfl) (by kernel_rfl) (fun _ _ _ h => h) (Or.inl ⟨by rfl, ?yq3⟩) (by assumption) ?_
          case yq3 => (intro w hSw; (try dsimp only at hSw); go_simp; all_goals (with_reducible rfl))
          (try simp only [Act.put, List.setIfInBounds_toArray, List.set_cons_zero, List.set_cons_succ, List.getElem_toArray, List.getElem_cons_succ, List.getElem_cons_zero])
          refine wpAnyH_take (i := 1) (v := ?vq4) rfl (by kernel_rfl) (by kernel_rfl) (by kernel_rfl) (fun _ _ _ h => h) (Or.inl ⟨by rfl, ?yq4⟩) (by assumption) ?_
          case yq4 => (intro w hSw; (try dsimp only at hSw); go_simp; all_goals (with_reducible rfl))
          (try simp only [Act.put, List.setIfInBounds_toArray, List.set_cons_zero, List.set_cons_succ, List.getElem_toArray, List.getElem_cons_succ, List.getElem_cons_zero])
          refine wpAnyH_take (i := 2) (v := ?vq5) rfl (by kernel_rfl) (by kernel_rfl) (by kernel_rfl) (fun _ _ _ h => h) (Or.inl ⟨by rfl, ?yq5⟩) (by assumption) ?_
          case yq5 => (intro w hSw; (try dsimp only at hSw); go_simp; all_goals (with_reducible rfl))
          (try simp only [Act.put, List.setIfInBounds_toArray, List.set_cons_zero, List.set_cons_succ, List.getElem_toArray, List.getElem_cons_succ, List.getElem_cons_zero])
          refine wpAnyH_take (i := 3) (v := ?vq6) rfl (by kernel_rfl) (by kernel_rfl) (by kernel_rfl) (fun _ _ _ h => h) (Or.inl ⟨by rfl, ?yq6⟩) (by assumption) ?_
          case yq6 => (intro w hSw; (try dsimp only at hSw); go_simp; all_goals (with_reducible rfl))
          (try simp only [Act.put, List.setIfInBounds_toArray, List.set_cons_zero, List.set_cons_succ, List.getElem_toArray, List.getElem_cons_succ, List.getElem_cons_zero])
          refine wpAnyH_ready (rs := [4]) (by kernel_rfl) (by simp) ?_
          refine AllReadyH.cons rfl (fun K hK => ?_) ?_
          · go_simp
            refine (HLK.out wq1 (HTZ.out _ (HB4.out.trans (FB_q2.out.mono HB4.out.size)))).mono ?_
            rintro e wq7 ⟨Aq7, cq7, rfl, ownq7, belq7⟩
            dsimp only
            have FB_q8 := Lib.hid ((FB_q2.out).trans ((belq7).mono (FB_q2.out).size))
            clear FB_q2
            have FR_q9 := Lib.hid (RdI.of_own ownq7)
            clear ownq7 belq7
            refine hK.out _ _ (HSX.out _ FB_q8.out) (fun hHeld => ?_)
            clear hK K
            (try simp only [Act.put, List.setIfInBounds_toArray, List.set_cons_zero, List.set_cons_succ, List.getElem_toArray, List.getElem_cons_succ, List.getElem_cons_zero])
            refine wpAnyH_ready (rs := [5]) (by kernel_rfl) (by simp) ?_
            refine AllReadyH.cons rfl (fun K hK => ?_) ?_
            · go_simp
              refine (equal_e A Aq7 ks.length (lkS (orS ks)).length c cq7 ks (lkS (orS ks)) wq7 (HRK4.out _ FB_q8.out) FR_q9.out hkl (by have := HKLN.out; omega)).mono ?_
              rintro e wq10 ⟨rfl, belq10⟩
              dsimp only
              have FB_q11 := Lib.hid ((FB_q8.out).trans ((belq10).mono (FB_q8.out).size))
              have FR_q12 := Lib.hid (((FR_q9.out).below (belq10)).more (belq10).size)
              clear FB_q8 FR_q9
              rw [hp]
              refine hK.out _ _ (HSX.out _ FB_q11.out) (fun hHeld => ?_)
              clear hK K
              (try simp only [Act.put, List.setIfInBounds_toArray, List.set_cons_zero, List.set_cons_succ, List.getElem_toArray, List.getElem_cons_succ, List.getElem_cons_zero])
              refine wpAnyH_take (i := 6) (v := ?vq13) rfl (by kernel_rfl) (by kernel_rfl) (by kernel_rfl) (fun _ _ _ h => h) (Or.inl ⟨by rfl, ?yq13⟩) (by assumption) ?_
              case yq13 => (intro w hSw; (try dsimp only at hSw); go_simp; all_goals (with_reducible rfl))
              (try simp only [Act.put, List.setIfInBounds_toArray, List.set_cons_zero, List.set_cons_succ, List.getElem_toArray, List.getElem_cons_succ, List.getElem_cons_zero])
              refine wpAnyH_take (i := 7) (v := undef) rfl (by kernel_rfl) (by kernel_rfl) (by kernel_rfl) (fun _ _ _ h => h) (Or.inr ⟨by kernel_rfl, rfl⟩) (by assumption) ?_
              (try simp only [Act.put, List.setIfInBounds_toArray, List.set_cons_zero, List.set_cons_succ, List.getElem_toArray, List.getElem_cons_succ, List.getElem_cons_zero])
              refine wpAnyH_take (i := 8) (v := undef) rfl (by kernel_rfl) (by kernel_rfl) (by kernel_rfl) (fun _ _ _ h => h) (Or.inr ⟨by kernel_rfl, rfl⟩) (by assumption) ?_
              (try simp only [Act.put, List.setIfInBounds_toArray, List.set_cons_zero, List.set_cons_succ, List.getElem_toArray, List.getElem_cons_succ, List.getElem_cons_zero])
              refine wpAnyH_take (i := 9) (v := undef) rfl (by kernel_rfl) (by kernel_rfl) (by kernel_rfl) (fun _ _ _ h => h) (Or.inr ⟨by kernel_rfl, rfl⟩) (by assumption) ?_
              (try simp only [Act.put, List.setIfInBounds_toArray, List.set_cons_zero, List.set_cons_succ, List.getElem_toArray, List.getElem_cons_succ, List.getElem_cons_zero])
              refine wpAnyH_take (i := 10) (v := ?vq14) rfl (by kernel_rfl) (by kernel_rfl) (by kernel_rfl) (fun _ _ _ h => h) (Or.inl ⟨by rfl, ?yq14⟩) (by assumption) ?_
              case yq14 => (intro w hSw; (try dsimp only at hSw); go_simp; all_goals (with_reducible rfl))
              (try simp only [Act.put, List.setIfInBounds_toArray, List.set_cons_zero, List.set_cons_succ, List.getElem_toArray, List.getElem_cons_succ, List.getElem_cons_zero])
              refine wpAnyH_ready (rs := [11]) (by kernel_rfl) (by simp) ?_
              refine AllReadyH.cons rfl (fun K hK => ?_) ?_
              · obtain ⟨a0, a1, a2, a3, a4⟩ := HQ4.out _ FB_q11.out; obtain ⟨f0, f1, f2, f3, f4⟩ := HF4.out _ FB_q11.out
                go_simp
                clear a0 a1 a2 a3 a4 f0 f1 f2 f3 f4
                refine hK.out _ _ (HQS.out _ FB_q11.out) (fun hHeld => ?_)
                clear hK K
                (try simp only [Act.put, List.setIfInBounds_toArray, List.set_cons_zero, List.set_cons_succ, List.getElem_toArray, List.getElem_cons_succ, List.getElem_cons_zero])
                refine wpAnyH_ready (rs := [12]) (by kernel_rfl) (by simp) ?_
                refine AllReadyH.cons rfl (fun K hK => ?_) ?_
                · go_simp
                  refine hK.out _ _ hHeld (fun hHeld => ?_)
                  clear hK K
                  (try simp only [Act.put, List.setIfInBounds_toArray, List.set_cons_zero, List.set_cons_succ, List.getElem_toArray, List.getElem_cons_succ, List.getElem_cons_zero])
                  refine wpAnyH_ready (rs := [13]) (by kernel_rfl) (by simp) ?_
                  refine AllReadyH.cons rfl (fun K hK => ?_) ?_
                  · go_simp
                    refine hK.out _ _ hHeld (fun hHeld => ?_)
                    clear hK K
                    (try simp only [Act.put, List.setIfInBounds_toArray, List.set_cons_zero, List.set_cons_succ, List.getElem_toArray, List.getElem_cons_succ, List.getElem_cons_zero])
                    refine wpAnyH_done (by kernel_rfl) ?_ _
                    have Q7 := Lib.hid (HB5.out _ FB_q11.out)
                    go_wp2
                    (try simp only [Exit.inBlock, Exit.then])
                    refine bodyPost_ret (results_cell_tt rfl _ _ (w.heap.size + 1) _ _ (0, 0) _ rfl (set5_at Q7.out _ _ _ _ _) Tryz.underlying58 rfl (by kernel_rfl)) rfl ?_
                    exact ⟨.inr ⟨HCB.out, _, _, _, _, _, _, _, _, _, _, _, _, _, _, _, _, rfl⟩, (HEND.out _ FB_q11.out).2⟩
                  exact AllReadyH.nil
                exact AllReadyH.nil
              exact AllReadyH.nil
            exact AllReadyH.nil
          exact AllReadyH.nil
        | true =>
          have HCB : Hid (csB N ks = clS N (orS ks)) := Lib.hid (by rw [HCE.out, hp]; rfl)
          obtain ⟨q, hq⟩ : ∃ q, clS N (orS ks) = q := ⟨_, rfl⟩
          rw [hq] at HIC HCB
          clear hq
          go_region_held3 (fun wx => wx.cell? ⟨w.heap.size + 1, 0, none⟩ = some (.slice h.A N.w.length h.c) ∧ wx.cell? ⟨w.heap.size + 1, 1, none⟩ = some (.slice h.L N.l.length h.d) ∧ wx.cell? ⟨w.heap.size + 1, 2, none⟩ = some (.slice h.C N.c.length h.e) ∧ wx.cell? ⟨w.heap.size + 1, 3, none⟩ = some (.slice P N.w.length cP) ∧ wx.cell? ⟨w.heap.size + 1, 4, none⟩ = some (.slice Q N.w.length cQ))
            (first | with_reducible exact HQS.out _ B7.out | with_reducible exact K4.out | with_reducible exact HQ4.out _ BD.out | with_reducible exact HQ4.out _ B5.out | with_reducible exact HQ4.out _ B6.out | with_reducible exact HQ4.out _ B7.out)
            (first
              | (go_at_call 85; refine (HLK.out u4.drew (HTZ.out _ (HB4.out.drew))).mono ?_; rintro e u5 ⟨A5, c5, rfl, own5, bel5⟩; have B5 := Lib.hid (BD.out.trans (bel5.mono BD.out.size)); have R5 := Lib.hid (RdI.of_own own5); clear own5 bel5)
              | (go_at_call 104; refine (equal_e A A5 ks.length (lkS (orS ks)).length c c5 ks (lkS (orS ks)) u5 ((HRK4.out _ B5.out)) R5.out hkl (by have := HKLN.out; omega)).mono ?_; rintro e u6 ⟨rfl, bel6⟩; rw [hp]; have B6 := Lib.hid (B5.out.trans (bel6.mono B5.out.size)); clear bel6)
              | (go_at_call 105; refine (HIC.out P Q cP cQ u6 (RW4.out.below B6.out) HIN.out (HTZ.out _ (HB4.out.trans (B6.out.mono (HB4.out.size))))).mono ?_; rintro e u7 ⟨rfl, bel7⟩; have B7 := Lib.hid (B6.out.trans (bel7.mono B6.out.size)); clear bel7; obtain ⟨a0, a1, a2, a3, a4⟩ := HQ4.out u7 B7.out; obtain ⟨f0, f1, f2, f3, f4⟩ := HF4.out u7 B7.out))
          all_goals
            have Q7 := Lib.hid (HB5.out _ B7.out)
            clear a0 a1 a2 a3 a4 f0 f1 f2 f3 f4
            go_wp2
            (try simp only [Exit.inBlock, Exit.then])
            refine bodyPost_ret (results_cell_tt rfl _ _ (w.heap.size + 1) _ _ (0, 0) _ rfl (set5_at Q7.out _ _ _ _ _) Tryz.underlying58 rfl (by kernel_rfl)) rfl ?_
            cases q with
            | true => exact ⟨.inl ⟨HCB.out, P, Q, cP, cQ, rfl, (HEND.out _ B7.out).1⟩, (HEND.out _ B7.out).2⟩
            | false => exact ⟨.inr ⟨HCB.out, _, _, _, _, _, _, _, _, _, _, _, _, _, _, _, _, rfl⟩, (HEND.out _ B7.out).2⟩
end Go.Proofs.YtfdpkhiiboghiaaGreatDoor


/- The model: l15Border, l15Sub, IsClosedSet, SubNet, BorderOf, IsSubnetSet. Made by mkenb.py. -/
namespace Go.Proofs.YtfdpkhiiboghiaaGreatDoor
set_option linter.unusedSimpArgs false
set_option linter.unusedVariables false
open Go.ChangeAt Go.ChangeShapes Go.RowKit Go.WideShapes

set_option maxRecDepth 100000 in
set_option maxHeartbeats 1000000 in
theorem sIsClosedSet_any (h : NH) (N : Nt) (A : Option Addr) (n c : Nat) (ks : List Int) (w : World) (r : RdN w w.heap.size h N) (rk : RdI w w.heap.size A n ks) (hkl : n ≤ 1048576) (hn : N.w.length ≤ 1048576) (hl : N.l.length ≤ 1048576) (hc : N.c.length ≤ 1048576) :
    Calls Tryz.prog 45 #[.agg #[.slice h.A N.w.length h.c, .slice h.L N.l.length h.d, .slice h.C N.c.length h.e], .slice A n c] w fun e w' => e = .returned (.bool (csB N ks)) ∧ Below w.heap.size w w' := by
  have hkn := rk.1
  subst hkn
  obtain ⟨w0, hw0⟩ : ∃ w0, w0 = w.alloc (.cells #[.slice h.A N.w.length h.c, .slice h.L N.l.length h.d, .slice h.C N.c.length h.e] 30) := ⟨_, rfl⟩
  obtain ⟨hb, g0, hsz⟩ := box3_any w (.slice h.A N.w.length h.c) (.slice h.L N.l.length h.d) (.slice h.C N.c.length h.e) 30
  rw [← hw0] at hb g0 hsz
  have HKF := Lib.hid (fun (wx : World) (hx : Below w0.heap.size w0 wx) => three_cells ((hx.block w.heap.size (by omega)).trans g0))
  have HR := Lib.hid (fun (wx : World) (hx : Below w0.heap.size w0 wx) => show RdN wx wx.heap.size h N from (r.below (hb.trans (hx.mono hb.size))).more (Nat.le_trans hb.size hx.size))
  have HRK := Lib.hid (fun (wx : World) (hx : Below w0.heap.size w0 wx) => show RdI wx wx.heap.size A ks.length ks from (rk.below (hb.trans (hx.mono hb.size))).more (Nat.le_trans hb.size hx.size))
  have HB0 := Lib.hid hb
  obtain ⟨y0, y1, y2⟩ := HKF.out _ (Below.refl _ w0)
  have HV := Lib.hid (sValidNet_any h N w0 ((r.below hb).more hb.size) hn hl hc)
  have HC := Lib.hid (fun (wx : World) (hx : Below w0.heap.size w0 wx) (hv : valN N = true) => sClosed_any h N A ks.length c ks wx hv (HR.out wx hx) (HRK.out wx hx) hkl)
  clear hb g0 hsz r rk hn hl hc
  cases hv : valN N with
  | false =>
    rw [hv] at HV
    have HE : Hid (false = csB N ks) := Lib.hid (by unfold csB; rw [hv]; rfl)
    clear hv
    go_enter Tryz.func45, Tryz.ntmps45
    go_upto_region 1 with (fail)
    rw [← hw0]
    clear hw0
    go_wp2_with (fail)
    refine HV.out.mono ?_
    rintro e w1 ⟨rfl, bel1⟩
    have B1 := Lib.hid (HB0.out.trans (bel1.mono HB0.out.size))
    clear bel1 y0 y1 y2
    go_wp2
    go_ret
    exact ⟨ret_bool HE.out, B1.out⟩
  | true =>
    rw [hv] at HV
    have HE := Lib.hid (ccM_is hv ks)
    have HCX := Lib.hid (fun wx hx => HC.out wx hx hv)
    clear hv
    go_enter Tryz.func45, Tryz.ntmps45
    go_upto_region 1 with (fail)
    rw [← hw0]
    clear hw0
    go_wp2_with (fail)
    refine HV.out.mono ?_
    rintro e w1 ⟨rfl, bel1⟩
    have B1 := Lib.hid bel1
    clear bel1 y0 y1 y2
    obtain ⟨y0, y1, y2⟩ := HKF.out _ B1.out
    go_wp2_with (fail)
    refine (HCX.out w1 B1.out).mono ?_
    rintro e w2 ⟨rfl, bel2⟩
    have B2 := Lib.hid (HB0.out.trans ((B1.out.trans (bel2.mono B1.out.size)).mono HB0.out.size))
    clear bel2 y0 y1 y2
    go_wp2
    go_ret
    exact ⟨ret_bool HE.out, B2.out⟩
theorem cs_pos {N : Nt} {ks : List Int} (h : csB N ks = true) : ∀ x ∈ ks, 0 ≤ x := fun x hx => by
  simp only [csB, Bool.and_eq_true] at h
  exact (inW_yes (List.all_eq_true.1 h.2.1 x hx)).1
set_option maxRecDepth 100000 in
set_option maxHeartbeats 1000000 in
theorem sBorderOf_any (h : NH) (N : Nt) (A : Option Addr) (n c : Nat) (ks : List Int) (w : World) (r : RdN w w.heap.size h N) (rk : RdI w w.heap.size A n ks) (hkl : n ≤ 1048576) (hn : N.w.length ≤ 1048576) (hl : N.l.length ≤ 1048576) (hc : N.c.length ≤ 1048576) :
    Calls Tryz.prog 23 #[.agg #[.slice h.A N.w.length h.c, .slice h.L N.l.length h.d, .slice h.C N.c.length h.e], .slice A n c] w (Gives w (boV N ks)) := by
  have hkn := rk.1
  subst hkn
  obtain ⟨w0, hw0⟩ : ∃ w0, w0 = w.alloc (.cells #[.slice h.A N.w.length h.c, .slice h.L N.l.length h.d, .slice h.C N.c.length h.e] 30) := ⟨_, rfl⟩
  obtain ⟨hb, g0, hsz⟩ := box3_any w (.slice h.A N.w.length h.c) (.slice h.L N.l.length h.d) (.slice h.C N.c.length h.e) 30
  rw [← hw0] at hb g0 hsz
  have HKF := Lib.hid (fun (wx : World) (hx : Below w0.heap.size w0 wx) => three_cells ((hx.block w.heap.size (by omega)).trans g0))
  have HR := Lib.hid (fun (wx : World) (hx : Below w0.heap.size w0 wx) => show RdN wx wx.heap.size h N from (r.below (hb.trans (hx.mono hb.size))).more (Nat.le_trans hb.size hx.size))
  have HRK := Lib.hid (fun (wx : World) (hx : Below w0.heap.size w0 wx) => show RdI wx wx.heap.size A ks.length ks from (rk.below (hb.trans (hx.mono hb.size))).more (Nat.le_trans hb.size hx.size))
  have HB0 := Lib.hid hb
  obtain ⟨y0, y1, y2⟩ := HKF.out _ (Below.refl _ w0)
  have HCL := Lib.hid (sIsClosedSet_any h N A ks.length c ks w0 (HR.out _ (Below.refl _ _)) (HRK.out _ (Below.refl _ _)) hkl hn hl hc)
  have HBO := Lib.hid (fun (wx : World) (hx : Below w0.heap.size w0 wx) (e : csB N ks = true) => sBorder_any h N A ks.length c ks wx (csB_yes e).1 (HR.out wx hx) (HRK.out wx hx) hkl (cs_pos e))
  clear hb g0 hsz r rk hn hl hc
  cases hcs : csB N ks with
  | false =>
    rw [hcs] at HCL
    have HE : Hid (boV N ks = []) := Lib.hid (by unfold boV; rw [if_neg (by rw [hcs]; decide)])
    clear hcs
    go_enter Tryz.func23, Tryz.ntmps23
    go_upto_region 1 with (fail)
    rw [← hw0]
    clear hw0
    go_wp2_with (fail)
    refine HCL.out.mono ?_
    rintro e w1 ⟨rfl, bel1⟩
    have HG : Hid (Gives w (boV N ks) (.returned (.slice (some ⟨w1.heap.size, 0, none⟩) 0 0)) (w1.alloc (.cells #[] 2))) := Lib.hid (by
      rw [HE.out]
      exact ⟨_, 0, rfl, (World.ownsRow_made w1 #[] 0 (Nat.le_refl _) (by simp [maxLen]) rfl).mono (Nat.le_trans HB0.out.size bel1.size), (HB0.out.trans (bel1.mono HB0.out.size)).alloc (Nat.le_trans HB0.out.size bel1.size) _⟩)
    clear bel1 y0 y1 y2
    go_wp2
    go_ret
    exact HG.out
  | true =>
    rw [hcs] at HCL
    have HE : Hid (boV N ks = bdL N (kS ks)) := Lib.hid (by unfold boV; rw [if_pos hcs])
    have HBX := Lib.hid (fun wx hx => HBO.out wx hx hcs)
    rw [← HE.out] at HBX
    clear hcs
    go_enter Tryz.func23, Tryz.ntmps23
    go_upto_region 1 with (fail)
    rw [← hw0]
    clear hw0
    go_wp2_with (fail)
    refine HCL.out.mono ?_
    rintro e w1 ⟨rfl, bel1⟩
    have B1 := Lib.hid bel1
    clear bel1 y0 y1 y2
    obtain ⟨y0, y1, y2⟩ := HKF.out _ B1.out
    go_wp2_with (fail)
    refine (HBX.out w1 B1.out).mono ?_
    rintro e w2 ⟨A2, c2, rfl, own2, bel2⟩
    have HG : Hid (Gives w (boV N ks) (.returned (.slice A2 (boV N ks).length c2)) w2) := Lib.hid ⟨A2, c2, rfl, own2.mono (Nat.le_trans HB0.out.size B1.out.size), HB0.out.trans ((B1.out.trans (bel2.mono B1.out.size)).mono HB0.out.size)⟩
    clear own2 bel2 y0 y1 y2
    generalize (boV N ks).length = q at *
    go_wp2
    go_ret
    exact HG.out
set_option maxRecDepth 100000 in
set_option maxHeartbeats 1000000 in
theorem sSubNet_any (h : NH) (N : Nt) (A : Option Addr) (n c : Nat) (ks : List Int) (w : World) (r : RdN w w.heap.size h N) (rk : RdI w w.heap.size A n ks) (hkl : n ≤ 1048576) (hn : N.w.length ≤ 1048576) (hl : N.l.length ≤ 1048576) (hc : N.c.length ≤ 1048576) :
    Calls Tryz.prog 14 #[.agg #[.slice h.A N.w.length h.c, .slice h.L N.l.length h.d, .slice h.C N.c.length h.e], .slice A n c] w (GivesNB w (snV N ks) (csB N ks)) := by
  have hkn := rk.1
  subst hkn
  obtain ⟨w0, hw0⟩ : ∃ w0, w0 = (w.alloc (.cells #[.slice h.A N.w.length h.c, .slice h.L N.l.length h.d, .slice h.C N.c.length h.e] 30)).alloc (.cells #[.slice none 0 0, .slice none 0 0, .slice none 0 0] 30) := ⟨_, rfl⟩
  obtain ⟨hb, g0, g1, hsz⟩ := two_any' w (.cells #[.slice h.A N.w.length h.c, .slice h.L N.l.length h.d, .slice h.C N.c.length h.e] 30) (.cells #[.slice none 0 0, .slice none 0 0, .slice none 0 0] 30)
  rw [← hw0] at hb g0 g1 hsz
  have hs0 : w.heap.size + 2 ≤ w0.heap.size := by omega
  have HKF := Lib.hid (fun (wx : World) (hx : Below w0.heap.size w0 wx) => three_cells ((hx.block w.heap.size (by omega)).trans g0))
  have HK2 := Lib.hid (fun (wx : World) (hx : Below w0.heap.size w0 wx) => (hx.block (w.heap.size + 1) (by omega)).trans g1)
  have HR := Lib.hid (fun (wx : World) (hx : Below w0.heap.size w0 wx) => show RdN wx wx.heap.size h N from (r.below (hb.trans (hx.mono hb.size))).more (Nat.le_trans hb.size hx.size))
  have HRK := Lib.hid (fun (wx : World) (hx : Below w0.heap.size w0 wx) => show RdI wx wx.heap.size A ks.length ks from (rk.below (hb.trans (hx.mono hb.size))).more (Nat.le_trans hb.size hx.size))
  have HB0 := Lib.hid hb
  obtain ⟨y0, y1, y2⟩ := HKF.out _ (Below.refl _ w0)
  have HCL := Lib.hid (sIsClosedSet_any h N A ks.length c ks w0 (HR.out _ (Below.refl _ _)) (HRK.out _ (Below.refl _ _)) hkl hn hl hc)
  have HBO := Lib.hid (fun (wx : World) (hx : Below w0.heap.size w0 wx) (e : csB N ks = true) => sSub_any h N A ks.length c ks wx (csB_yes e).1 (HR.out wx hx) (HRK.out wx hx) hkl e)
  clear hb g0 g1 hsz r rk hn hl hc
  cases hcs : csB N ks with
  | false =>
    rw [hcs] at HCL
    have HE : Hid (snV N ks = Nt.nil) := Lib.hid (by unfold snV; rw [if_neg (by rw [hcs]; decide)])
    rw [HE.out]
    clear hcs
    go_enter Tryz.func14, Tryz.ntmps14
    go_upto_region 1 with (fail)
    rw [← hw0]
    clear hw0
    go_wp2_with (fail)
    refine HCL.out.mono ?_
    rintro e w1 ⟨rfl, bel1⟩
    have B1 := Lib.hid bel1
    have q1 := HK2.out _ B1.out
    obtain ⟨a0, a1, a2⟩ := three_cells q1
    have f0 := frozen_of_row _ _ 0 _ _ q1; have f1 := frozen_of_row _ _ 1 _ _ q1; have f2 := frozen_of_row _ _ 2 _ _ q1
    have Q1 := Lib.hid q1
    clear bel1 y0 y1 y2 q1
    go_wp2
    (try simp only [Exit.inBlock, Exit.then])
    refine bodyPost_ret (results_cell_row_tmp rfl _ _ (w.heap.size + 1) _ _ (0, 0) _ rfl (set3_at Q1.out _ _ _) Tryz.underlying30 rfl (by kernel_rfl)) rfl ?_
    exact givesNB_of (nlDone (h := NH.nil) (N := Nt.nil) HB0.out B1.out (OwnN.nil w1 w0.heap.size w1.heap.size) hs0)
  | true =>
    rw [hcs] at HCL
    have HE : Hid (snV N ks = sbN N (kS ks)) := Lib.hid (by unfold snV; rw [if_pos hcs])
    have HBX := Lib.hid (fun wx hx => HBO.out wx hx hcs)
    rw [HE.out]
    clear hcs
    generalize sbN N (kS ks) = M at *
    go_enter Tryz.func14, Tryz.ntmps14
    go_upto_region 1 with (fail)
    rw [← hw0]
    clear hw0
    go_wp2_with (fail)
    refine HCL.out.mono ?_
    rintro e w1 ⟨rfl, bel1⟩
    have B1 := Lib.hid bel1
    clear bel1 y0 y1 y2
    obtain ⟨y0, y1, y2⟩ := HKF.out _ B1.out
    go_wp2_with (fail)
    refine (HBX.out w1 B1.out).mono ?_
    rintro e w4 ⟨h4, rfl, own4, bel4⟩
    have B4 := Lib.hid (B1.out.trans (bel4.mono B1.out.size))
    have O4 := Lib.hid (own4.more B1.out.size (Nat.le_refl _))
    have q1 := HK2.out _ B4.out
    obtain ⟨a0, a1, a2⟩ := three_cells q1
    have f0 := frozen_of_row _ _ 0 _ _ q1; have f1 := frozen_of_row _ _ 1 _ _ q1; have f2 := frozen_of_row _ _ 2 _ _ q1
    have Q1 := Lib.hid q1
    clear own4 bel4 q1 y0 y1 y2
    go_wp2
    (try simp only [Exit.inBlock, Exit.then])
    refine bodyPost_ret (results_cell_row_tmp rfl _ _ (w.heap.size + 1) _ _ (0, 0) _ rfl (set3_at Q1.out _ _ _) Tryz.underlying30 rfl (by kernel_rfl)) rfl ?_
    exact givesNB_of (nlDone HB0.out B4.out O4.out hs0)
set_option maxRecDepth 100000 in
set_option maxHeartbeats 1000000 in
theorem sIsSubnetSet_any (h : NH) (N : Nt) (A : Option Addr) (n c : Nat) (ks : List Int) (w : World) (r : RdN w w.heap.size h N) (rk : RdI w w.heap.size A n ks) (hkl : n ≤ 1048576) (hn : N.w.length ≤ 1048576) (hl : N.l.length ≤ 1048576) (hc : N.c.length ≤ 1048576) :
    Calls Tryz.prog 26 #[.agg #[.slice h.A N.w.length h.c, .slice h.L N.l.length h.d, .slice h.C N.c.length h.e], .slice A n c] w fun e w' => e = .returned (.bool (ssB N ks)) ∧ Below w.heap.size w w' := by
  have hkn := rk.1
  subst hkn
  obtain ⟨w0, hw0⟩ : ∃ w0, w0 = w.alloc (.cells #[.slice h.A N.w.length h.c, .slice h.L N.l.length h.d, .slice h.C N.c.length h.e] 30) := ⟨_, rfl⟩
  obtain ⟨hb, g0, hsz⟩ := box3_any w (.slice h.A N.w.length h.c) (.slice h.L N.l.length h.d) (.slice h.C N.c.length h.e) 30
  rw [← hw0] at hb g0 hsz
  have HKF := Lib.hid (fun (wx : World) (hx : Below w0.heap.size w0 wx) => three_cells ((hx.block w.heap.size (by omega)).trans g0))
  have HR := Lib.hid (fun (wx : World) (hx : Below w0.heap.size w0 wx) => show RdN wx wx.heap.size h N from (r.below (hb.trans (hx.mono hb.size))).more (Nat.le_trans hb.size hx.size))
  have HRK := Lib.hid (fun (wx : World) (hx : Below w0.heap.size w0 wx) => show RdI wx wx.heap.size A ks.length ks from (rk.below (hb.trans (hx.mono hb.size))).more (Nat.le_trans hb.size hx.size))
  have HB0 := Lib.hid hb
  obtain ⟨y0, y1, y2⟩ := HKF.out _ (Below.refl _ w0)
  have HCL := Lib.hid (sIsClosedSet_any h N A ks.length c ks w0 (HR.out _ (Below.refl _ _)) (HRK.out _ (Below.refl _ _)) hkl hn hl hc)
  have HBO := Lib.hid (fun (wx : World) (hx : Below w0.heap.size w0 wx) (e : csB N ks = true) => sSub_any h N A ks.length c ks wx (csB_yes e).1 (HR.out wx hx) (HRK.out wx hx) hkl e)
  clear hb g0 hsz r rk hn hl hc
  cases hcs : csB N ks with
  | false =>
    rw [hcs] at HCL
    have HE : Hid (false = ssB N ks) := Lib.hid (by unfold ssB; rw [hcs]; rfl)
    clear hcs
    go_enter Tryz.func26, Tryz.ntmps26
    go_upto_region 1 with (fail)
    rw [← hw0]
    clear hw0
    go_wp2_with (fail)
    refine HCL.out.mono ?_
    rintro e w1 ⟨rfl, bel1⟩
    have B1 := Lib.hid (HB0.out.trans (bel1.mono HB0.out.size))
    clear bel1 y0 y1 y2
    go_wp2
    go_ret
    exact ⟨ret_bool HE.out, B1.out⟩
  | true =>
    rw [hcs] at HCL
    have HE : Hid (cbV (sbN N (kS ks)) = ssB N ks) := Lib.hid (by unfold ssB snV; rw [hcs, if_pos rfl]; rfl)
    have HSV := Lib.hid (sbN_valid (csB_yes hcs).1 (csB_yes hcs).2.2.1)
    have HBX := Lib.hid (fun wx hx => HBO.out wx hx hcs)
    clear hcs
    generalize sbN N (kS ks) = M at *
    go_enter Tryz.func26, Tryz.ntmps26
    go_upto_region 1 with (fail)
    rw [← hw0]
    clear hw0
    go_wp2_with (fail)
    refine HCL.out.mono ?_
    rintro e w1 ⟨rfl, bel1⟩
    have B1 := Lib.hid bel1
    clear bel1 y0 y1 y2
    obtain ⟨y0, y1, y2⟩ := HKF.out _ B1.out
    go_wp2_with (fail)
    refine (HBX.out w1 B1.out).mono ?_
    rintro e w4 ⟨h4, rfl, own4, bel4⟩
    have B4 := Lib.hid (B1.out.trans (bel4.mono B1.out.size))
    have HCO := Lib.hid (sCorrect_any h4 M w4 HSV.out own4.rd)
    clear own4 bel4 y0 y1 y2
    go_wp2_with (fail)
    refine HCO.out.mono ?_
    rintro e w5 ⟨rfl, bel5⟩
    have B5 := Lib.hid (HB0.out.trans ((B4.out.trans (bel5.mono B4.out.size)).mono HB0.out.size))
    clear bel5
    go_wp2
    go_ret
    exact ⟨ret_bool HE.out, B5.out⟩
end Go.Proofs.YtfdpkhiiboghiaaGreatDoor

