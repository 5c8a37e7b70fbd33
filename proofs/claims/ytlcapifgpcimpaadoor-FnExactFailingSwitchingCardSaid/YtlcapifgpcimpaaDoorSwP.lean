/- The program's ParLinks, SwitchingCount, SwitchingOf. -/
import Derived.Test.YtlcapifgpcimpaaDoorSwM
import Derived.Test.YtlcapifgpcimpaaDoorSwS
import Derived.Deep.RegionHeldLaw
import Derived.Deep.DeepCutAuto
import Derived.BigQuiet
namespace Go.Proofs.YtlcapifgpcimpaaDoor
set_option linter.unusedSimpArgs false
set_option linter.unusedVariables false
open Go.ChangeAt Go.ChangeShapes Go.RowKit Go.WideShapes

set_option maxRecDepth 100000 in
set_option maxHeartbeats 2000000 in
theorem parLinks_impl (h : NH) (N : Nt) (w : World) (r : RdN w w.heap.size h N) (sm : SmallN N) (ht : Arit w) (hu : Dual w) :
    Calls Tryd.prog 77 #[.agg #[.slice h.A N.w.length h.c, .slice h.L N.l.length h.d, .slice h.C N.c.length h.e]] w (Gives w (kinN N 4)) := by
  obtain ⟨w0, hw0⟩ : ∃ w0, w0 = w.alloc (.cells #[.slice h.A N.w.length h.c, .slice h.L N.l.length h.d, .slice h.C N.c.length h.e] 35) := ⟨_, rfl⟩
  obtain ⟨hb, hh, hsz⟩ := box3_any w (.slice h.A N.w.length h.c) (.slice h.L N.l.length h.d) (.slice h.C N.c.length h.e) 35
  rw [← hw0] at hb hh hsz
  have HP := Lib.hid (linksOfKind_impl h N 4 w0 ((r.below hb).more hb.size) sm (ht.below hb ht.lt) (hu.below hb hu.lt))
  have HB0 := Lib.hid hb
  obtain ⟨y0, y1, y2⟩ := three_cells hh
  clear hb hh hsz r ht hu sm
  generalize kinN N 4 = V at *
  go_enter Tryd.func77, Tryd.ntmps77
  go_wp2_with (fail)
  rw [← hw0]
  clear hw0
  refine HP.out.mono ?_
  rintro e w2 ⟨A, c, rfl, own2, bel2⟩
  have HG : Hid (Gives w V (.returned (.slice A V.length c)) w2) := Lib.hid ⟨A, c, rfl, own2.mono HB0.out.size, HB0.out.trans (bel2.mono HB0.out.size)⟩
  clear own2 bel2
  go_wp2
  go_ret
  exact HG.out
theorem kin_inv {N : Nt} (hv : valN N = false) : kinN N 4 = [] := by unfold kinN; rw [hv]; rfl
set_option maxRecDepth 100000 in
set_option maxHeartbeats 2000000 in
theorem swCount_impl (h : NH) (N : Nt) (w : World) (r : RdN w w.heap.size h N) (sm : SmallN N) (ht : Arit w) (hu : Dual w) :
    Calls Tryd.prog 50 #[.agg #[.slice h.A N.w.length h.c, .slice h.L N.l.length h.d, .slice h.C N.c.length h.e]] w fun e w' => e = .returned (.int .i64 (scV N)) ∧ Below w.heap.size w w' := by
  obtain ⟨w0, hw0⟩ : ∃ w0, w0 = w.alloc (.cells #[.slice h.A N.w.length h.c, .slice h.L N.l.length h.d, .slice h.C N.c.length h.e] 35) := ⟨_, rfl⟩
  obtain ⟨hb, hh, hsz⟩ := box3_any w (.slice h.A N.w.length h.c) (.slice h.L N.l.length h.d) (.slice h.C N.c.length h.e) 35
  rw [← hw0] at hb hh hsz
  have HK : Hid (∀ w', Below w0.heap.size w0 w' → w'.cell? ⟨w.heap.size, 0, none⟩ = some (.slice h.A N.w.length h.c) ∧ w'.cell? ⟨w.heap.size, 1, none⟩ = some (.slice h.L N.l.length h.d) ∧ w'.cell? ⟨w.heap.size, 2, none⟩ = some (.slice h.C N.c.length h.e)) := Lib.hid fun w' hw => three_cells ((hw.block _ (by omega)).trans hh)
  have HR := Lib.hid (fun (w' : World) (hw : Below w0.heap.size w0 w') => show RdN w' w'.heap.size h N from ((r.below (hb.trans (hw.mono hb.size))).more (Nat.le_trans hb.size hw.size)))
  have HT := Lib.hid (fun (wx : World) (hx : Below w0.heap.size w0 wx) => show Arit wx from (ht.below hb ht.lt).below hx (Nat.lt_of_lt_of_le ht.lt hb.size))
  have HU := Lib.hid (fun (wx : World) (hx : Below w0.heap.size w0 wx) => show Dual wx from (hu.below hb hu.lt).below hx (Nat.lt_of_lt_of_le hu.lt hb.size))
  have HP := Lib.hid (parLinks_impl h N w0 (HR.out _ (Below.refl _ _)) sm (HT.out _ (Below.refl _ _)) (HU.out _ (Below.refl _ _)))
  have HV := Lib.hid (fun (wx : World) (hx : Below w0.heap.size w0 wx) => validNet_impl h N wx (HR.out _ hx) sm (HT.out _ hx) (HU.out _ hx))
  have HB0 := Lib.hid hb
  have hpl := kinN_len N 4
  obtain ⟨y0, y1, y2⟩ := three_cells hh
  clear hb hh hsz r ht hu sm
  cases hv : valN N with
  | false =>
    simp only [hv] at HV
    rw [scV_inv hv]
    clear hv
    go_enter Tryd.func50, Tryd.ntmps50
    go_wp2_with (fail)
    rw [← hw0]
    clear hw0
    refine HP.out.mono ?_
    rintro e w1 ⟨A, c, rfl, own, bel⟩
    have B1 := Lib.hid bel
    clear bel own y0 y1 y2 HP
    obtain ⟨y0, y1, y2⟩ := HK.out _ B1.out
    go_wp2_with (fail)
    refine (HV.out _ B1.out).mono ?_
    rintro e w2 ⟨rfl, bel⟩
    have HG := Lib.hid (HB0.out.trans ((B1.out.trans (bel.mono B1.out.size)).mono HB0.out.size))
    clear bel y0 y1 y2 HV
    go_wp2
    go_ret
    exact ⟨rfl, HG.out⟩
  | true =>
    simp only [hv] at HV
    have hkp := kin_prk hv
    rw [hkp] at HP hpl
    clear hkp
    by_cases hm : 10 < (prkN N).length
    · have hd : decide (10 < ((prkN N).length : Int)) = true := decide_eq_true (by omega)
      rw [scV_many hm]
      clear hm hv
      go_enter Tryd.func50, Tryd.ntmps50
      go_wp2_with (fail)
      rw [← hw0]
      clear hw0
      refine HP.out.mono ?_
      rintro e w1 ⟨A, c, rfl, own, bel⟩
      have B1 := Lib.hid bel
      clear bel own y0 y1 y2 HP
      obtain ⟨y0, y1, y2⟩ := HK.out _ B1.out
      go_wp2_with (fail)
      refine (HV.out _ B1.out).mono ?_
      rintro e w2 ⟨rfl, bel⟩
      have HG := Lib.hid (HB0.out.trans ((B1.out.trans (bel.mono B1.out.size)).mono HB0.out.size))
      clear bel y0 y1 y2 HV
      go_wp2
      go_ret
      exact ⟨rfl, HG.out⟩
    · have hd : decide (10 < ((prkN N).length : Int)) = false := decide_eq_false (by omega)
      have HSH := Lib.hid (shl_int (n := (prkN N).length) (by omega))
      rw [scV_yes hv (by omega)]
      clear hv
      go_enter Tryd.func50, Tryd.ntmps50
      go_wp2_with (fail)
      rw [← hw0]
      clear hw0
      refine HP.out.mono ?_
      rintro e w1 ⟨A, c, rfl, own, bel⟩
      have B1 := Lib.hid bel
      clear bel own y0 y1 y2 HP
      obtain ⟨y0, y1, y2⟩ := HK.out _ B1.out
      go_wp2_with (fail)
      refine (HV.out _ B1.out).mono ?_
      rintro e w2 ⟨rfl, bel⟩
      have HG := Lib.hid (HB0.out.trans ((B1.out.trans (bel.mono B1.out.size)).mono HB0.out.size))
      clear bel y0 y1 y2 HV
      go_wp2
      go_ret
      exact ⟨ret_i64 HSH.out, HG.out⟩
end Go.Proofs.YtlcapifgpcimpaaDoor
