/- The program: SwitchGraph. -/
import Derived.Test.YtkhngbfhgpaghaaDoorSmW
import Derived.Test.YtkhngbfhgpaghaaDoorSwP
import Derived.Test.YtkhngbfhgpaghaaDoorSgG
import Derived.Deep.RegionHeldLaw
import Derived.Deep.DeepCutAuto
import Derived.BigQuiet
namespace Go.Proofs.YtkhngbfhgpaghaaDoor
set_option linter.unusedSimpArgs false
set_option linter.unusedVariables false
open Go.ChangeAt Go.ChangeShapes Go.RowKit Go.WideShapes

theorem givesAB_nil (w w' : World) (h : Below w.heap.size w w') : GivesAB w [] false (.returned (.tuple #[.slice none 0 0, .bool false])) w' := ⟨none, 0, rfl, World.ownsRow_nil _ _ _ _, h⟩
theorem isSw_inv {N : Nt} {s : List Int} (h : valN N = false) : isSw N s = false := by unfold isSw; rw [h]; rfl
theorem isSw_is {N : Nt} {s : List Int} (h : valN N = true) : (decide (s.length = (prkN N).length) && s.all fun c => decide (c = 0 ∨ c = 1)) = isSw N s := by unfold isSw; rw [h]; rfl
set_option maxRecDepth 100000 in
set_option maxHeartbeats 1000000 in
theorem switchGraph_impl (h : NH) (N : Nt) (s : List Int) (S : Option Addr) (sc : Nat) (w : World) (r : RdN w w.heap.size h N) (sm : SmallN N) (hsl : s.length ≤ 1048576) (rS : RdI w w.heap.size S s.length s) (ht : Arit w) (hu : Dual w) :
    Calls Tryd.prog 28 #[.agg #[.slice h.A N.w.length h.c, .slice h.L N.l.length h.d, .slice h.C N.c.length h.e], .slice S s.length sc] w (GivesAB w (sgL N s) (isSw N s)) := by
  obtain ⟨w0, hw0⟩ : ∃ w0, w0 = w.alloc (.cells #[.slice h.A N.w.length h.c, .slice h.L N.l.length h.d, .slice h.C N.c.length h.e] 31) := ⟨_, rfl⟩
  obtain ⟨hb, hh, hsz⟩ := box3_any w (.slice h.A N.w.length h.c) (.slice h.L N.l.length h.d) (.slice h.C N.c.length h.e) 31
  rw [← hw0] at hb hh hsz
  have hs0 : w.heap.size + 1 ≤ w0.heap.size := by omega
  have HK : Hid (∀ w', Below w0.heap.size w0 w' → w'.cell? ⟨w.heap.size, 0, none⟩ = some (.slice h.A N.w.length h.c) ∧ w'.cell? ⟨w.heap.size, 1, none⟩ = some (.slice h.L N.l.length h.d) ∧ w'.cell? ⟨w.heap.size, 2, none⟩ = some (.slice h.C N.c.length h.e)) := Lib.hid fun w' hw => three_cells ((hw.block _ (by omega)).trans hh)
  have HV := Lib.hid (validNet_impl h N w0 ((r.below hb).more hb.size) sm (ht.below hb ht.lt) (hu.below hb hu.lt))
  have HP := Lib.hid (fun (w' : World) (hw : Below w0.heap.size w0 w') => parLinks_impl h N w' ((r.below (hb.trans (hw.mono hb.size))).more (Nat.le_trans hb.size hw.size)) sm (ht.below (hb.trans (hw.mono hb.size)) ht.lt) (hu.below (hb.trans (hw.mono hb.size)) hu.lt))
  have HRS := Lib.hid (fun (w' : World) (hw : Below w0.heap.size w0 w') => show RdI w' w'.heap.size S s.length s from ((rS.below (hb.trans (hw.mono hb.size))).more (Nat.le_trans hb.size hw.size)))
  have HB0 := Lib.hid hb
  cases hv : valN N with
  | false =>
    have hsw := isSw_inv (s := s) hv
    rw [hv] at HV
    rw [hsw, sgL_no hsw]
    obtain ⟨y0, y1, y2⟩ := three_cells hh
    clear hv hsw hb hh hsz r rS ht hu
    go_enter Tryd.func28, Tryd.ntmps28
    go_wp2_with (fail)
    rw [← hw0]
    clear hw0
    refine HV.out.mono ?_
    rintro e w1 ⟨rfl, bel⟩
    have HG := Lib.hid (givesAB_nil w w1 (HB0.out.trans (bel.mono HB0.out.size)))
    clear bel y0 y1 y2 HV
    go_wp2
    go_ret2
    exact HG.out
  | true =>
    rw [hv] at HV
    have HSW := Lib.hid (fun (w' : World) (hw : Below w0.heap.size w0 w') => isSwitching_any S sc s (prkN N).length w' hsl (HRS.out _ hw))
    rw [isSw_is hv] at HSW
    have HKP := Lib.hid (kin_prk hv)
    have HSB := Lib.hid (fun (w' : World) (hw : Below w0.heap.size w0 w') => switchableOf_any h N w' hv ((r.below (hb.trans (hw.mono hb.size))).more (Nat.le_trans hb.size hw.size)) sm (ht.below (hb.trans (hw.mono hb.size)) ht.lt) (hu.below (hb.trans (hw.mono hb.size)) hu.lt))
    obtain ⟨y0, y1, y2⟩ := three_cells hh
    clear hb hh hsz r rS ht hu
    cases hsw : isSw N s with
    | false =>
      rw [hsw] at HSW
      rw [sgL_no hsw]
      rw [HKP.out] at HP
      clear hv hsw
      go_enter Tryd.func28, Tryd.ntmps28
      go_wp2_with (fail)
      rw [← hw0]
      clear hw0
      refine HV.out.mono ?_
      rintro e w1 ⟨rfl, bel⟩
      have B1 := Lib.hid bel
      clear bel y0 y1 y2 HV
      obtain ⟨y0, y1, y2⟩ := HK.out _ B1.out
      go_wp2_with (fail)
      refine (HP.out _ B1.out).mono ?_
      rintro e w2 ⟨A, c, rfl, own2, bel2⟩
      have B2 := Lib.hid (B1.out.trans (bel2.mono B1.out.size))
      clear bel2 own2 y0 y1 y2
      go_wp2_with (fail)
      refine (HSW.out _ B2.out).mono ?_
      rintro e w3 ⟨rfl, rfl⟩
      have HG := Lib.hid (givesAB_nil w w3 (HB0.out.trans (B2.out.mono HB0.out.size)))
      go_wp2
      go_ret2
      exact HG.out
    | true =>
      rw [hsw] at HSW
      rw [sgL_yes hsw]
      rw [HKP.out] at HP
      have HGR := Lib.hid (graph_same hsw)
      have HG0 := Lib.hid (fun A P c d (w' : World) rA rP rS => graph_any N s A P S c d sc w' hsw rA rP rS)
      rw [HGR.out] at HG0
      clear hv hsw
      go_enter Tryd.func28, Tryd.ntmps28
      go_wp2_with (fail)
      rw [← hw0]
      clear hw0
      refine HV.out.mono ?_
      rintro e w1 ⟨rfl, bel⟩
      have B1 := Lib.hid bel
      clear bel y0 y1 y2 HV
      obtain ⟨y0, y1, y2⟩ := HK.out _ B1.out
      go_wp2_with (fail)
      refine (HP.out _ B1.out).mono ?_
      rintro e w2 ⟨A, c, rfl, own2, bel2⟩
      have B2 := Lib.hid (B1.out.trans (bel2.mono B1.out.size))
      clear bel2 own2 y0 y1 y2
      go_wp2_with (fail)
      refine (HSW.out _ B2.out).mono ?_
      rintro e w3 ⟨rfl, rfl⟩
      obtain ⟨y0, y1, y2⟩ := HK.out _ B2.out
      go_wp2_with (fail)
      refine (HSB.out _ B2.out).mono ?_
      rintro e w4 ⟨A4, c4, P4, d4, rfl, rA, rP, bel4⟩
      have B4 := Lib.hid (B2.out.trans (bel4.mono B2.out.size))
      have RA := Lib.hid rA; have RP := Lib.hid rP
      clear bel4 y0 y1 y2 rA rP
      go_wp2_with (fail)
      refine (HG0.out _ _ _ _ _ RA.out RP.out (HRS.out _ B4.out)).mono ?_
      rintro e w5 ⟨A5, c5, rfl, own5, bel5⟩
      have HG : Hid (GivesAB w (mgU N s N.w.length) true (.returned (.tuple #[.slice A5 (mgU N s N.w.length).length c5, .bool true])) w5) := Lib.hid ⟨A5, c5, rfl, own5.mono (Nat.le_trans HB0.out.size B4.out.size), HB0.out.trans ((B4.out.trans (bel5.mono B4.out.size)).mono HB0.out.size)⟩
      clear own5 bel5
      go_wp2
      go_ret2
      exact HG.out
end Go.Proofs.YtkhngbfhgpaghaaDoor
