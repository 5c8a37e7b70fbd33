/- The model: is the row a switching? and SwitchGraph. -/
import Derived.Test.YtkhngbfhgpaghaaDoorSmA
import Derived.Test.YtkhngbfhgpaghaaDoorSwI
import Derived.Deep.RegionHeldLaw
import Derived.Deep.DeepCutAuto
import Derived.BigQuiet
namespace Go.Proofs.YtkhngbfhgpaghaaDoor
set_option linter.unusedSimpArgs false
set_option linter.unusedVariables false
open Go.ChangeAt Go.ChangeShapes Go.RowKit Go.WideShapes

set_option maxRecDepth 100000 in
set_option maxHeartbeats 1000000 in
theorem sSwitching_any (h : NH) (N : Nt) (s : List Int) (S : Option Addr) (sc : Nat) (w : World) (r : RdN w w.heap.size h N) (hsl : s.length ≤ 1048576) (rS : RdI w w.heap.size S s.length s) (hn : N.w.length ≤ 1048576) (hl : N.l.length ≤ 1048576) (hc : N.c.length ≤ 1048576) :
    Calls Tryd.prog 60 #[.agg #[.slice h.A N.w.length h.c, .slice h.L N.l.length h.d, .slice h.C N.c.length h.e], .slice S s.length sc] w fun e w' => e = .returned (.bool (isSw N s)) ∧ Below w.heap.size w w' := by
  have hpl := prkN_len N
  obtain ⟨w0, hw0⟩ : ∃ w0, w0 = w.alloc (.cells #[.slice h.A N.w.length h.c, .slice h.L N.l.length h.d, .slice h.C N.c.length h.e] 31) := ⟨_, rfl⟩
  obtain ⟨hb, hh, hsz⟩ := box3_any w (.slice h.A N.w.length h.c) (.slice h.L N.l.length h.d) (.slice h.C N.c.length h.e) 31
  rw [← hw0] at hb hh hsz
  have hs0 : w.heap.size + 1 ≤ w0.heap.size := by omega
  have HK : Hid (∀ w', Below w0.heap.size w0 w' → w'.cell? ⟨w.heap.size, 0, none⟩ = some (.slice h.A N.w.length h.c) ∧ w'.cell? ⟨w.heap.size, 1, none⟩ = some (.slice h.L N.l.length h.d) ∧ w'.cell? ⟨w.heap.size, 2, none⟩ = some (.slice h.C N.c.length h.e)) := Lib.hid fun w' hw => three_cells ((hw.block _ (by omega)).trans hh)
  have HV := Lib.hid (sValidNet_any h N w0 ((r.below hb).more hb.size) hn hl hc)
  have HP := Lib.hid (fun (w' : World) (hw : Below w0.heap.size w0 w') => sPars_any h N w' ((r.below (hb.trans (hw.mono hb.size))).more (Nat.le_trans hb.size hw.size)) hl)
  have HRS := Lib.hid (fun (w' : World) (hw : Below w0.heap.size w0 w') => show RdI w' w'.heap.size S s.length s from ((rS.below (hb.trans (hw.mono hb.size))).more (Nat.le_trans hb.size hw.size)))
  have HB0 := Lib.hid hb
  obtain ⟨y0, y1, y2⟩ := three_cells hh
  clear hb hh hsz r rS
  cases hv : valN N with
  | false =>
    have HE : Hid (false = isSw N s) := Lib.hid (by unfold isSw; rw [hv]; rfl)
    rw [hv] at HV
    clear hv
    go_enter Tryd.func60, Tryd.ntmps60
    go_wp2_with (fail)
    rw [← hw0]
    clear hw0
    refine HV.out.mono ?_
    rintro e w1 ⟨rfl, bel⟩
    have HG := Lib.hid (HB0.out.trans (bel.mono HB0.out.size))
    clear bel y0 y1 y2 HV
    go_wp2
    go_ret
    exact ⟨ret_bool HE.out, HG.out⟩
  | true =>
    rw [hv] at HV
    by_cases hm : s.length = (prkN N).length
    · have hd : ((s.length : Int) != ((prkN N).length : Int)) = false := by simp [hm]
      have HALL : Hid ((∀ m, m < s.length → s.getD m 0 = 0 ∨ s.getD m 0 = 1) → true = isSw N s) := Lib.hid fun hall => by
        unfold isSw
        rw [hv, decide_eq_true hm]
        refine (List.all_eq_true.2 fun c hc => ?_).symm
        obtain ⟨j, hj, rfl⟩ := List.getElem_of_mem hc
        have := hall j hj
        simpa [List.getD, hj] using this
      have HONE : Hid (∀ m, m < s.length → ¬ (s.getD m 0 = 0 ∨ s.getD m 0 = 1) → false = isSw N s) := Lib.hid fun m hm2 hno => by
        cases hq : isSw N s with
        | false => rfl
        | true => exact absurd ((isSw_yes hq).2.2 _ (getL_mem (d := 0) hm2)) hno
      clear hm hv
      go_enter Tryd.func60, Tryd.ntmps60
      go_wp2_with (fail)
      rw [← hw0]
      clear hw0
      refine HV.out.mono ?_
      rintro e w1 ⟨rfl, bel⟩
      have B1 := Lib.hid bel
      clear bel y0 y1 y2 HV
      obtain ⟨y0, y1, y2⟩ := HK.out _ B1.out
      go_wp2_with (fail)
      refine (HP.out _ B1.out).mono ?_
      rintro e w2 ⟨A, c, rfl, own2, bel2⟩
      have B2 := Lib.hid (B1.out.trans (bel2.mono B1.out.size))
      clear bel2 own2 y0 y1 y2 HP
      go_wp2
      go_loopw [5] (fun i wr => ∃ k : Nat, k ≤ s.length ∧ i = .int .i64 k ∧ (∀ m, m < k → s.getD m 0 = 0 ∨ s.getD m 0 = 1) ∧ wr = w2) (fun i _ => s.length - (intOf i).toNat)
      case atStart => exact ⟨0, Nat.zero_le _, rfl, fun m hm => absurd hm (by omega), rfl⟩
      case round =>
        obtain ⟨k, hk, rfl, hpl, rfl⟩ := hrel
        have HQ := Lib.hid hpl
        clear hpl
        by_cases hlt : k < s.length
        · obtain ⟨b, off, hA, hbb, hcells⟩ := (HRS.out _ B2.out).2 (show 0 < s.length by omega)
          have x0 := hcells k hlt
          have HO1 := Lib.hid (HONE.out k hlt)
          have HPP : Hid ((s.getD k 0 = 0 ∨ s.getD k 0 = 1) → ∀ m, m < k + 1 → s.getD m 0 = 0 ∨ s.getD m 0 = 1) := Lib.hid fun e m hm => by
            by_cases e2 : m < k
            · exact HQ.out m e2
            · obtain rfl : m = k := by omega
              exact e
          generalize s.getD k 0 = z at *
          subst hA
          clear hcells
          have HIR := Lib.hid (fun (wx : World) => inRange_any z 0 1 wx)
          have HBB := Lib.hid (HB0.out.trans (B2.out.mono HB0.out.size))
          by_cases hz : z = 0 ∨ z = 1
          · have HN := Lib.hid (HPP.out hz)
            rw [show decide (0 ≤ z ∧ z ≤ 1) = true from decide_eq_true (by omega)] at HIR
            clear hz
            go_wp2_with (fail)
            refine (HIR.out _).mono ?_
            rintro e w3 ⟨rfl, rfl⟩
            go_wp2
            go_roundw
            case rel => exact ⟨k + 1, by omega, by go_num, HN.out, by first | rfl | trivial⟩
            case measure => simp [intOf]; omega
          · have HE := Lib.hid (HO1.out hz)
            rw [show decide (0 ≤ z ∧ z ≤ 1) = false from decide_eq_false (by omega)] at HIR
            clear hz
            go_wp2_with (fail)
            refine (HIR.out _).mono ?_
            rintro e w3 ⟨rfl, rfl⟩
            go_wp2
            go_ret
            exact ⟨ret_bool HE.out, HBB.out⟩
        · have hkl : k = s.length := by omega
          subst hkl
          have HE := Lib.hid (HALL.out HQ.out)
          have HBB := Lib.hid (HB0.out.trans (B2.out.mono HB0.out.size))
          go_wp2
          go_ret
          exact ⟨ret_bool HE.out, HBB.out⟩
    · have hd : ((s.length : Int) != ((prkN N).length : Int)) = true := by simp; omega
      have HE : Hid (false = isSw N s) := Lib.hid (by unfold isSw; rw [hv]; simp [hm])
      clear hm hv
      go_enter Tryd.func60, Tryd.ntmps60
      go_wp2_with (fail)
      rw [← hw0]
      clear hw0
      refine HV.out.mono ?_
      rintro e w1 ⟨rfl, bel⟩
      have B1 := Lib.hid bel
      clear bel y0 y1 y2 HV
      obtain ⟨y0, y1, y2⟩ := HK.out _ B1.out
      go_wp2_with (fail)
      refine (HP.out _ B1.out).mono ?_
      rintro e w2 ⟨A, c, rfl, own2, bel2⟩
      have HG := Lib.hid (HB0.out.trans ((B1.out.trans (bel2.mono B1.out.size)).mono HB0.out.size))
      clear bel2 own2 y0 y1 y2
      go_wp2
      go_ret
      exact ⟨ret_bool HE.out, HG.out⟩
/-- SwitchGraph's answer. -/
def sgL (N : Nt) (s : List Int) : List Ac := if isSw N s then mgU N s N.w.length else []
theorem sgL_yes {N : Nt} {s : List Int} (h : isSw N s = true) : sgL N s = mgU N s N.w.length := by unfold sgL; rw [if_pos h]
theorem sgL_no {N : Nt} {s : List Int} (h : isSw N s = false) : sgL N s = [] := by unfold sgL; rw [h]; rfl
/-- What a function leaves that hands back a row of arcs and a bool. -/
def GivesAB (w : World) (ar : List Ac) (b : Bool) (e : Ending) (w' : World) : Prop :=
  ∃ A c, e = .returned (.tuple #[.slice A ar.length c, .bool b]) ∧ w'.ownsRow w.heap.size 77 3 (.slice A ar.length c) ar.length ((flA ar).map (Value.int .i64)) ∧ Below w.heap.size w w'
set_option maxRecDepth 100000 in
set_option maxHeartbeats 1000000 in
theorem sSwGraph_any (h : NH) (N : Nt) (s : List Int) (S : Option Addr) (sc : Nat) (w : World) (r : RdN w w.heap.size h N) (hsl : s.length ≤ 1048576) (rS : RdI w w.heap.size S s.length s) (hn : N.w.length ≤ 1048576) (hl : N.l.length ≤ 1048576) (hc : N.c.length ≤ 1048576) :
    Calls Tryd.prog 26 #[.agg #[.slice h.A N.w.length h.c, .slice h.L N.l.length h.d, .slice h.C N.c.length h.e], .slice S s.length sc] w (GivesAB w (sgL N s) (isSw N s)) := by
  obtain ⟨w0, hw0⟩ : ∃ w0, w0 = w.alloc (.cells #[.slice h.A N.w.length h.c, .slice h.L N.l.length h.d, .slice h.C N.c.length h.e] 31) := ⟨_, rfl⟩
  obtain ⟨hb, hh, hsz⟩ := box3_any w (.slice h.A N.w.length h.c) (.slice h.L N.l.length h.d) (.slice h.C N.c.length h.e) 31
  rw [← hw0] at hb hh hsz
  have hs0 : w.heap.size + 1 ≤ w0.heap.size := by omega
  have HK : Hid (∀ w', Below w0.heap.size w0 w' → w'.cell? ⟨w.heap.size, 0, none⟩ = some (.slice h.A N.w.length h.c) ∧ w'.cell? ⟨w.heap.size, 1, none⟩ = some (.slice h.L N.l.length h.d) ∧ w'.cell? ⟨w.heap.size, 2, none⟩ = some (.slice h.C N.c.length h.e)) := Lib.hid fun w' hw => three_cells ((hw.block _ (by omega)).trans hh)
  have HS := Lib.hid (sSwitching_any h N s S sc w0 ((r.below hb).more hb.size) hsl ((rS.below hb).more hb.size) hn hl hc)
  have HR := Lib.hid (fun (w' : World) (hw : Below w0.heap.size w0 w') => ((r.below (hb.trans (hw.mono hb.size))).more (Nat.le_trans hb.size hw.size)))
  have HRS := Lib.hid (fun (w' : World) (hw : Below w0.heap.size w0 w') => show RdI w' w'.heap.size S s.length s from ((rS.below (hb.trans (hw.mono hb.size))).more (Nat.le_trans hb.size hw.size)))
  have HB0 := Lib.hid hb
  obtain ⟨y0, y1, y2⟩ := three_cells hh
  clear hb hh hsz r rS
  cases hsw : isSw N s with
  | false =>
    rw [hsw] at HS
    rw [sgL_no hsw]
    clear hsw
    go_enter Tryd.func26, Tryd.ntmps26
    go_wp2_with (fail)
    rw [← hw0]
    clear hw0
    refine HS.out.mono ?_
    rintro e w1 ⟨rfl, bel⟩
    have hb1 := HB0.out.trans (bel.mono HB0.out.size)
    have HG : Hid (GivesAB w [] false (.returned (.tuple #[.slice (some ⟨w1.heap.size, 0, none⟩) 0 0, .bool false])) (w1.alloc (.cells #[] 77))) := Lib.hid
      ⟨_, 0, rfl, (World.ownsRow_made w1 #[] 0 (Nat.le_refl _) (by simp [maxLen]) rfl).mono hb1.size, hb1.trans (((Below.refl _ w1).alloc (Nat.le_refl _) _).mono hb1.size)⟩
    clear bel y0 y1 y2 HS hb1
    go_wp2
    go_ret2
    exact HG.out
  | true =>
    rw [hsw] at HS
    rw [sgL_yes hsw]
    have HAA := Lib.hid (fun (w' : World) (hw : Below w0.heap.size w0 w') => sArcs_any h N s S sc w' hsw (HR.out _ hw) (HRS.out _ hw))
    clear hsw
    go_enter Tryd.func26, Tryd.ntmps26
    go_wp2_with (fail)
    rw [← hw0]
    clear hw0
    refine HS.out.mono ?_
    rintro e w1 ⟨rfl, bel⟩
    have B1 := Lib.hid bel
    clear bel y0 y1 y2 HS
    obtain ⟨y0, y1, y2⟩ := HK.out _ B1.out
    go_wp2_with (fail)
    refine (HAA.out _ B1.out).mono ?_
    rintro e w2 ⟨A, c, rfl, own2, bel2⟩
    have HG : Hid (GivesAB w (mgU N s N.w.length) true (.returned (.tuple #[.slice A (mgU N s N.w.length).length c, .bool true])) w2) := Lib.hid ⟨A, c, rfl, own2.mono (Nat.le_trans HB0.out.size B1.out.size), HB0.out.trans ((B1.out.trans (bel2.mono B1.out.size)).mono HB0.out.size)⟩
    clear own2 bel2
    go_wp2
    go_ret2
    exact HG.out
end Go.Proofs.YtkhngbfhgpaghaaDoor
