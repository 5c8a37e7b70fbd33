import Derived.Test.YtfdpkhiiboghiaaGreatDoorKEmE1
import Derived.Test.YtfdpkhiiboghiaaGreatDoorKQEmC
import Derived.Deep.RegionHeldLaw
import Derived.Deep.DeepCutAuto
import Derived.BigQuiet
import Derived.Test.YtfdpkhiiboghiaaGreatDoorKQNetF
import Derived.Test.YtfdpkhiiboghiaaGreatDoorKQNetZ
import Derived.Test.YtfdpkhiiboghiaaGreatDoorKQSeqV
import Derived.Test.YtfdpkhiiboghiaaGreatDoorKRowH
/- The program: SubNet, BorderOf, IsSubnetSet. Made by mkemg.py. -/
namespace Go.Proofs.YtfdpkhiiboghiaaGreatDoor
set_option linter.unusedSimpArgs false
set_option linter.unusedVariables false
open Go.ChangeAt Go.ChangeShapes Go.RowKit Go.WideShapes

theorem cs_facts {N : Nt} {ks : List Int} (h : csB N ks = true) : valN N = true ∧ inS N.l.length (orS ks) ∧ clS N (orS ks) = true ∧ bdL N (orS ks).testBit = bdL N (kS ks) ∧ sbN N (orS ks).testBit = sbN N (kS ks) := by
  have hv := (csB_yes h).1
  have hall : ks.all (inW N.l.length) = true := by
    simp only [csB, Bool.and_eq_true] at h; exact h.2.1
  have h48 := (valN_size hv).2
  have hk : ∀ k, k < N.l.length → (orS ks).testBit k = kS ks k := fun k hk => orS_kS (n := N.l.length) (by omega) hk
  have h2 := csB_is hv hall
  rw [h] at h2
  have h2 := h2.symm
  rw [Bool.and_eq_true] at h2
  exact ⟨hv, inS_or (List.all_eq_true.1 hall), h2.2, bdL_same hv hk, sbN_same hv hk⟩
set_option maxRecDepth 100000 in
set_option maxHeartbeats 1000000 in
theorem borderOf_impl (h : NH) (N : Nt) (A : Option Addr) (n c : Nat) (ks : List Int) (w : World) (r : RdN w w.heap.size h N) (sm : SmallN N) (rk : RdI w w.heap.size A n ks) (hkl : n ≤ 1048576) (ht : Arit w) (hu : Dual w) (hT : Tz w) :
    Calls Tryz.prog 24 #[.agg #[.slice h.A N.w.length h.c, .slice h.L N.l.length h.d, .slice h.C N.c.length h.e], .slice A n c] w (Gives w (boV N ks)) := by
  obtain ⟨w0, hw0⟩ : ∃ w0, w0 = w.alloc (.cells #[.slice h.A N.w.length h.c, .slice h.L N.l.length h.d, .slice h.C N.c.length h.e] 30) := ⟨_, rfl⟩
  obtain ⟨hb, g0, hsz⟩ := box3_any w (.slice h.A N.w.length h.c) (.slice h.L N.l.length h.d) (.slice h.C N.c.length h.e) 30
  rw [← hw0] at hb g0 hsz
  have HKF := Lib.hid (fun (wx : World) (hx : Below w0.heap.size w0 wx) => three_cells ((hx.block w.heap.size (by omega)).trans g0))
  have HR := Lib.hid (fun (wx : World) (hx : Below w0.heap.size w0 wx) => show RdN wx wx.heap.size h N from (r.below (hb.trans (hx.mono hb.size))).more (Nat.le_trans hb.size hx.size))
  have HCL := Lib.hid (closedSet_any h N A n c ks w0 (HR.out _ (Below.refl _ _)) sm ((rk.below hb).more hb.size) hkl (ht.below hb ht.lt) (hu.below hb hu.lt) (hT.below hb hT.lt))
  have HTZ := Lib.hid (fun (wx : World) (hx : Below w0.heap.size w0 wx) => show Tz wx from (hT.below hb hT.lt).below hx (Nat.lt_of_lt_of_le hT.lt hb.size))
  have HB0 := Lib.hid hb
  have HSL : Hid (orS ks < 18446744073709551616) := Lib.hid (orS_lt ks)
  have HFA := Lib.hid (fun (e : csB N ks = true) => cs_facts e)
  have HBO := Lib.hid (fun (P Q : Option Addr) (c d : Nat) (wx : World) (hr : RdWr wx h N P Q) (hT : Tz wx) (e : csB N ks = true) => border_any h N P Q c d (orS ks) wx (cs_facts e).1 hr (cs_facts e).2.1 HSL.out (cs_facts e).2.2.1 hT)
  obtain ⟨y0, y1, y2⟩ := HKF.out _ (Below.refl _ w0)
  clear hb g0 hsz r rk ht hu hT sm
  go_enter Tryz.func24, Tryz.ntmps24
  go_upto_region 1 with (fail)
  rw [← hw0]
  clear hw0
  go_wp2_with (fail)
  refine HCL.out.mono ?_
  rintro e w1 ⟨hcase, bel1⟩
  have B1 := Lib.hid bel1
  clear bel1 y0 y1 y2
  rcases hcase with ⟨hcs, P, Q, cP, cQ, rfl, rw1⟩ | ⟨hcs, A0, A1, A2, A3, A4, n0, n1, n2, n3, n4, z0, z1, z2, z3, z4, z, rfl⟩
  · have HBE : Hid (boV N ks = bdL N (orS ks).testBit) := Lib.hid (by unfold boV; rw [if_pos hcs, (cs_facts hcs).2.2.2.1])
    have HBX := Lib.hid (fun (wx : World) (hr : RdWr wx h N P Q) (hT : Tz wx) => HBO.out P Q cP cQ wx hr hT hcs)
    obtain ⟨u2, hu2⟩ : ∃ u, u = w1.alloc (.cells #[.slice h.A N.w.length h.c, .slice h.L N.l.length h.d, .slice h.C N.c.length h.e, .slice P N.w.length cP, .slice Q N.w.length cQ] 58) := ⟨_, rfl⟩
    have hb2 : Below w1.heap.size w1 u2 := by rw [hu2]; exact (Below.refl _ _).alloc (Nat.le_refl _) _
    have hg2 : u2.heap[w1.heap.size]? = some (.cells #[.slice h.A N.w.length h.c, .slice h.L N.l.length h.d, .slice h.C N.c.length h.e, .slice P N.w.length cP, .slice Q N.w.length cQ] 58 (0, 0)) := by rw [hu2]; exact heap_alloc_new _ _
    have HU2 := Lib.hid hu2
    have B2 := Lib.hid (B1.out.trans (hb2.mono B1.out.size))
    have RW2 := Lib.hid (rw1.below hb2)
    obtain ⟨a0, a1, a2, a3, a4⟩ := five_cells hg2
    clear hu2 hb2 hg2 rw1 hcs
    go_upto_region 2 with (fail)
    rw [← HU2.out]
    go_wp2_with (fail)
    refine (HBX.out u2 RW2.out (HTZ.out _ B2.out)).mono ?_
    rintro e w3 ⟨A3, c3, rfl, own3, bel3⟩
    have HG : Hid (Gives w (boV N ks) (.returned (.slice A3 (boV N ks).length c3)) w3) := Lib.hid (by
      rw [HBE.out]
      exact ⟨A3, c3, rfl, own3.mono (Nat.le_trans HB0.out.size B2.out.size), HB0.out.trans ((B2.out.trans (bel3.mono B2.out.size)).mono HB0.out.size)⟩)
    rw [← HBE.out]
    clear own3 bel3 a0 a1 a2 a3 a4
    generalize (boV N ks).length = q at *
    go_wp2
    go_ret
    exact HG.out
  · have HBE : Hid (boV N ks = []) := Lib.hid (by unfold boV; rw [if_neg (by rw [hcs]; decide)])
    obtain ⟨u2, hu2⟩ : ∃ u, u = w1.alloc (.cells #[.slice A0 n0 z0, .slice A1 n1 z1, .slice A2 n2 z2, .slice A3 n3 z3, .slice A4 n4 z4] 58) := ⟨_, rfl⟩
    have hb2 : Below w1.heap.size w1 u2 := by rw [hu2]; exact (Below.refl _ _).alloc (Nat.le_refl _) _
    have hg2 : u2.heap[w1.heap.size]? = some (.cells #[.slice A0 n0 z0, .slice A1 n1 z1, .slice A2 n2 z2, .slice A3 n3 z3, .slice A4 n4 z4] 58 (0, 0)) := by rw [hu2]; exact heap_alloc_new _ _
    have HU2 := Lib.hid hu2
    have B2 := Lib.hid (B1.out.trans (hb2.mono B1.out.size))
    clear hu2 hb2 hg2 hcs
    go_upto_region 2 with (fail)
    rw [← HU2.out]
    have HG : Hid (Gives w (boV N ks) (.returned (.slice none 0 0)) u2) := Lib.hid (by
      rw [HBE.out]
      exact ⟨none, 0, rfl, World.ownsRow_nil _ _ _ _, HB0.out.trans (B2.out.mono HB0.out.size)⟩)
    go_wp2
    go_ret
    exact HG.out
set_option maxRecDepth 100000 in
set_option maxHeartbeats 1000000 in
theorem subNet_impl (h : NH) (N : Nt) (A : Option Addr) (n c : Nat) (ks : List Int) (w : World) (r : RdN w w.heap.size h N) (sm : SmallN N) (rk : RdI w w.heap.size A n ks) (hkl : n ≤ 1048576) (ht : Arit w) (hu : Dual w) (hT : Tz w) :
    Calls Tryz.prog 17 #[.agg #[.slice h.A N.w.length h.c, .slice h.L N.l.length h.d, .slice h.C N.c.length h.e], .slice A n c] w (GivesNB w (snV N ks) (csB N ks)) := by
  obtain ⟨w0, hw0⟩ : ∃ w0, w0 = (w.alloc (.cells #[.slice h.A N.w.length h.c, .slice h.L N.l.length h.d, .slice h.C N.c.length h.e] 30)).alloc (.cells #[.slice none 0 0, .slice none 0 0, .slice none 0 0] 30) := ⟨_, rfl⟩
  obtain ⟨hb, g0, g1, hsz⟩ := two_any' w (.cells #[.slice h.A N.w.length h.c, .slice h.L N.l.length h.d, .slice h.C N.c.length h.e] 30) (.cells #[.slice none 0 0, .slice none 0 0, .slice none 0 0] 30)
  rw [← hw0] at hb g0 g1 hsz
  have hs0 : w.heap.size + 2 ≤ w0.heap.size := by omega
  have HKF := Lib.hid (fun (wx : World) (hx : Below w0.heap.size w0 wx) => three_cells ((hx.block w.heap.size (by omega)).trans g0))
  have HK2 := Lib.hid (fun (wx : World) (hx : Below w0.heap.size w0 wx) => (hx.block (w.heap.size + 1) (by omega)).trans g1)
  have HR := Lib.hid (fun (wx : World) (hx : Below w0.heap.size w0 wx) => show RdN wx wx.heap.size h N from (r.below (hb.trans (hx.mono hb.size))).more (Nat.le_trans hb.size hx.size))
  have HCL := Lib.hid (closedSet_any h N A n c ks w0 (HR.out _ (Below.refl _ _)) sm ((rk.below hb).more hb.size) hkl (ht.below hb ht.lt) (hu.below hb hu.lt) (hT.below hb hT.lt))
  have HTZ := Lib.hid (fun (wx : World) (hx : Below w0.heap.size w0 wx) => show Tz wx from (hT.below hb hT.lt).below hx (Nat.lt_of_lt_of_le hT.lt hb.size))
  have HB0 := Lib.hid hb
  have HSL : Hid (orS ks < 18446744073709551616) := Lib.hid (orS_lt ks)
  have HFA := Lib.hid (fun (e : csB N ks = true) => cs_facts e)
  have HSN := Lib.hid (fun (P Q : Option Addr) (c d : Nat) (wx : World) (hr : RdWr wx h N P Q) (hT : Tz wx) (e : csB N ks = true) => subnet_any h N P Q c d (orS ks) wx (cs_facts e).1 hr (cs_facts e).2.1 HSL.out (cs_facts e).2.2.1 hT)
  obtain ⟨y0, y1, y2⟩ := HKF.out _ (Below.refl _ w0)
  clear hb g0 g1 hsz r rk ht hu hT sm
  go_enter Tryz.func17, Tryz.ntmps17
  go_upto_region 1 with (fail)
  rw [← hw0]
  clear hw0
  go_wp2_with (fail)
  refine HCL.out.mono ?_
  rintro e w1 ⟨hcase, bel1⟩
  have B1 := Lib.hid bel1
  clear bel1 y0 y1 y2
  rcases hcase with ⟨hcs, P, Q, cP, cQ, rfl, rw1⟩ | ⟨hcs, A0, A1, A2, A3, A4, n0, n1, n2, n3, n4, z0, z1, z2, z3, z4, z, rfl⟩
  · have HBE : Hid (snV N ks = sbN N (orS ks).testBit) := Lib.hid (by unfold snV; rw [if_pos hcs, (cs_facts hcs).2.2.2.2])
    have HBX := Lib.hid (fun (wx : World) (hr : RdWr wx h N P Q) (hT : Tz wx) => HSN.out P Q cP cQ wx hr hT hcs)
    have HCS := Lib.hid hcs
    obtain ⟨u2, hu2⟩ : ∃ u, u = w1.alloc (.cells #[.slice h.A N.w.length h.c, .slice h.L N.l.length h.d, .slice h.C N.c.length h.e, .slice P N.w.length cP, .slice Q N.w.length cQ] 58) := ⟨_, rfl⟩
    have hb2 : Below w1.heap.size w1 u2 := by rw [hu2]; exact (Below.refl _ _).alloc (Nat.le_refl _) _
    have hg2 : u2.heap[w1.heap.size]? = some (.cells #[.slice h.A N.w.length h.c, .slice h.L N.l.length h.d, .slice h.C N.c.length h.e, .slice P N.w.length cP, .slice Q N.w.length cQ] 58 (0, 0)) := by rw [hu2]; exact heap_alloc_new _ _
    have HU2 := Lib.hid hu2
    have B2 := Lib.hid (B1.out.trans (hb2.mono B1.out.size))
    have RW2 := Lib.hid (rw1.below hb2)
    obtain ⟨a0, a1, a2, a3, a4⟩ := five_cells hg2
    clear hu2 hb2 hg2 rw1 hcs
    generalize sbN N (orS ks).testBit = M at *
    go_upto_region 2 with (fail)
    rw [← HU2.out]
    go_wp2_with (fail)
    refine (HBX.out u2 RW2.out (HTZ.out _ B2.out)).mono ?_
    rintro e w4 ⟨h4, rfl, own4, bel4⟩
    have B4 := Lib.hid (B2.out.trans (bel4.mono B2.out.size))
    have O4 := Lib.hid (own4.more B2.out.size (Nat.le_refl _))
    have q1 := HK2.out _ B4.out
    clear a0 a1 a2 a3 a4
    obtain ⟨a0, a1, a2⟩ := three_cells q1
    have f0 := frozen_of_row _ _ 0 _ _ q1; have f1 := frozen_of_row _ _ 1 _ _ q1; have f2 := frozen_of_row _ _ 2 _ _ q1
    have Q1 := Lib.hid q1
    clear own4 bel4 q1
    go_wp2
    (try simp only [Exit.inBlock, Exit.then])
    refine bodyPost_ret (results_cell_row_tmp rfl _ _ (w.heap.size + 1) _ _ (0, 0) _ rfl (set3_at Q1.out _ _ _) Tryz.underlying30 rfl (by kernel_rfl)) rfl ?_
    rw [HCS.out, HBE.out]
    exact givesNB_of (nlDone HB0.out B4.out O4.out hs0)
  · have HBE : Hid (snV N ks = Nt.nil) := Lib.hid (by unfold snV; rw [if_neg (by rw [hcs]; decide)])
    have HCS := Lib.hid hcs
    obtain ⟨u2, hu2⟩ : ∃ u, u = w1.alloc (.cells #[.slice A0 n0 z0, .slice A1 n1 z1, .slice A2 n2 z2, .slice A3 n3 z3, .slice A4 n4 z4] 58) := ⟨_, rfl⟩
    have hb2 : Below w1.heap.size w1 u2 := by rw [hu2]; exact (Below.refl _ _).alloc (Nat.le_refl _) _
    have hg2 : u2.heap[w1.heap.size]? = some (.cells #[.slice A0 n0 z0, .slice A1 n1 z1, .slice A2 n2 z2, .slice A3 n3 z3, .slice A4 n4 z4] 58 (0, 0)) := by rw [hu2]; exact heap_alloc_new _ _
    have HU2 := Lib.hid hu2
    have B2 := Lib.hid (B1.out.trans (hb2.mono B1.out.size))
    have q1 := HK2.out _ B2.out
    obtain ⟨a0, a1, a2⟩ := three_cells q1
    have f0 := frozen_of_row _ _ 0 _ _ q1; have f1 := frozen_of_row _ _ 1 _ _ q1; have f2 := frozen_of_row _ _ 2 _ _ q1
    have Q1 := Lib.hid q1
    clear hu2 hb2 hg2 hcs q1
    go_upto_region 2 with (fail)
    rw [← HU2.out]
    go_wp2
    (try simp only [Exit.inBlock, Exit.then])
    refine bodyPost_ret (results_cell_row_tmp rfl _ _ (w.heap.size + 1) _ _ (0, 0) _ rfl (set3_at Q1.out _ _ _) Tryz.underlying30 rfl (by kernel_rfl)) rfl ?_
    rw [HCS.out, HBE.out]
    exact givesNB_of (nlDone (h := NH.nil) (N := Nt.nil) HB0.out B2.out (OwnN.nil u2 w0.heap.size u2.heap.size) hs0)
set_option maxRecDepth 100000 in
set_option maxHeartbeats 1000000 in
theorem isSubnetSet_impl (h : NH) (N : Nt) (A : Option Addr) (n c : Nat) (ks : List Int) (w : World) (r : RdN w w.heap.size h N) (sm : SmallN N) (rk : RdI w w.heap.size A n ks) (hkl : n ≤ 1048576) (ht : Arit w) (hu : Dual w) (hT : Tz w) :
    Calls Tryz.prog 27 #[.agg #[.slice h.A N.w.length h.c, .slice h.L N.l.length h.d, .slice h.C N.c.length h.e], .slice A n c] w fun e w' => e = .returned (.bool (ssB N ks)) ∧ Below w.heap.size w w' := by
  obtain ⟨w0, hw0⟩ : ∃ w0, w0 = w.alloc (.cells #[.slice h.A N.w.length h.c, .slice h.L N.l.length h.d, .slice h.C N.c.length h.e] 30) := ⟨_, rfl⟩
  obtain ⟨hb, g0, hsz⟩ := box3_any w (.slice h.A N.w.length h.c) (.slice h.L N.l.length h.d) (.slice h.C N.c.length h.e) 30
  rw [← hw0] at hb g0 hsz
  have HKF := Lib.hid (fun (wx : World) (hx : Below w0.heap.size w0 wx) => three_cells ((hx.block w.heap.size (by omega)).trans g0))
  have HSN := Lib.hid (subNet_impl h N A n c ks w0 ((r.below hb).more hb.size) sm ((rk.below hb).more hb.size) hkl (ht.below hb ht.lt) (hu.below hb hu.lt) (hT.below hb hT.lt))
  have HSM := Lib.hid (snV_small N ks)
  have HT := Lib.hid (fun (wx : World) (hx : Below w.heap.size w wx) => show Arit wx from ht.below hx ht.lt)
  have HU := Lib.hid (fun (wx : World) (hx : Below w.heap.size w wx) => show Dual wx from hu.below hx hu.lt)
  have HB0 := Lib.hid hb
  have HSS : Hid (ssB N ks = (csB N ks && cbV (snV N ks))) := Lib.hid rfl
  obtain ⟨y0, y1, y2⟩ := HKF.out _ (Below.refl _ w0)
  clear hb g0 hsz r rk ht hu hT sm
  go_enter Tryz.func27, Tryz.ntmps27
  go_upto_region 1 with (fail)
  rw [← hw0]
  clear hw0
  go_wp2_with (fail)
  refine HSN.out.mono ?_
  rintro e w1 ⟨h1, rfl, own1, bel1⟩
  have B1 := Lib.hid (HB0.out.trans (bel1.mono HB0.out.size))
  have RN1 := Lib.hid own1.rd
  clear bel1 own1 y0 y1 y2 HSN
  generalize snV N ks = M at *
  obtain ⟨u2, hu2⟩ : ∃ u, u = w1.alloc (.cells #[.slice h1.A M.w.length h1.c, .slice h1.L M.l.length h1.d, .slice h1.C M.c.length h1.e] 30) := ⟨_, rfl⟩
  have hb2 : Below w1.heap.size w1 u2 := by rw [hu2]; exact (Below.refl _ _).alloc (Nat.le_refl _) _
  have hg2 : u2.heap[w1.heap.size]? = some (.cells #[.slice h1.A M.w.length h1.c, .slice h1.L M.l.length h1.d, .slice h1.C M.c.length h1.e] 30 (0, 0)) := by rw [hu2]; exact heap_alloc_new _ _
  have HU2 := Lib.hid hu2
  have B2 := Lib.hid (B1.out.trans (hb2.mono B1.out.size))
  have HCO := Lib.hid (parsing_impl h1 M u2 ((RN1.out.below hb2).more hb2.size) HSM.out (HT.out _ B2.out) (HU.out _ B2.out))
  obtain ⟨a0, a1, a2⟩ := three_cells hg2
  clear hu2 hb2 hg2
  go_upto_region 2 with (fail)
  rw [← HU2.out]
  generalize csB N ks = p at *
  cases p with
  | false =>
    go_wp2
    go_ret
    exact ⟨ret_bool (by rw [HSS.out]; rfl), B2.out⟩
  | true =>
    go_wp2_with (fail)
    refine HCO.out.mono ?_
    rintro e w3 ⟨rfl, bel3⟩
    have B3 := Lib.hid (B2.out.trans (bel3.mono B2.out.size))
    clear bel3 a0 a1 a2
    go_wp2
    go_ret
    exact ⟨ret_bool (by rw [HSS.out]; rfl), B3.out⟩
end Go.Proofs.YtfdpkhiiboghiaaGreatDoor

/- The law's holding of a net (as in NetD). -/
namespace Go.Proofs.YtfdpkhiiboghiaaGreatDoor
set_option linter.unusedSimpArgs false
set_option linter.unusedVariables false
open Go.ChangeAt Go.ChangeShapes Go.RowKit Go.WideShapes

end Go.Proofs.YtfdpkhiiboghiaaGreatDoor


