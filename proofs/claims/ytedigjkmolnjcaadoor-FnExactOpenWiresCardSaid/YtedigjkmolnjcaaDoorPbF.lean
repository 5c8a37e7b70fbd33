/- The model: ReadyLinks, PartsAfter, OpenWires. Made by mkpbf.py. -/
import Derived.Test.YtedigjkmolnjcaaDoorPbE
import Derived.Test.YtedigjkmolnjcaaDoorPbC
import Derived.Deep.RegionHeldLaw
import Derived.Deep.DeepCutAuto
import Derived.BigQuiet
namespace Go.Proofs.YtedigjkmolnjcaaDoor
set_option linter.unusedSimpArgs false
set_option linter.unusedVariables false
open Go.ChangeAt Go.ChangeShapes Go.RowKit Go.WideShapes

theorem opU_yes {N : Nt} {fs : List Int} {k : Nat} (h : opnQ N (qN N fs) (k : Int) = true) : opU N fs (k + 1) = opU N fs k ++ [(k : Int)] := by
  unfold opU
  rw [List.range_succ, List.map_append, List.filter_append]
  simp only [List.map_cons, List.map_nil, List.filter_cons, List.filter_nil, h, if_true]
theorem opU_no {N : Nt} {fs : List Int} {k : Nat} (h : opnQ N (qN N fs) (k : Int) = false) : opU N fs (k + 1) = opU N fs k := by
  unfold opU
  rw [List.range_succ, List.map_append, List.filter_append]
  simp only [List.map_cons, List.map_nil, List.filter_cons, List.filter_nil, h]
  simp
theorem opU_len (N : Nt) (fs : List Int) (k : Nat) : (opU N fs k).length ≤ k := by
  unfold opU
  exact Nat.le_trans (List.length_filter_le _ _) (by simp)
theorem has_is {N : Nt} {fs : List Int} {Q : Nat → Int} (h : QOk N fs Q) (k : Nat) : fs.contains (k : Int) = decide (Q k ≠ -1) := by
  rw [Bool.eq_iff_iff, List.contains_iff_mem, decide_eq_true_eq]; exact (h.mem k).symm
set_option maxRecDepth 100000 in
set_option maxHeartbeats 2000000 in
theorem sReadyLinks_any (h : NH) (N : Nt) (fs : List Int) (FA : Option Addr) (fc : Nat) (w : World) (r : RdN w w.heap.size h N) (hn : N.w.length ≤ 1048576) (hl : N.l.length ≤ 1048576) (hc : N.c.length ≤ 1048576) (hfl : fs.length ≤ 1048576) (hcap : fs.length ≤ fc) (rF : RdI w w.heap.size FA fs.length fs) :
    Calls Tryd.prog 18 #[.agg #[.slice h.A N.w.length h.c, .slice h.L N.l.length h.d, .slice h.C N.c.length h.e], .slice FA fs.length fc] w (GivesB w (rlV N fs) (ifB N fs)) := by
  obtain ⟨w0, hw0⟩ : ∃ w0, w0 = w.alloc (.cells #[.slice h.A N.w.length h.c, .slice h.L N.l.length h.d, .slice h.C N.c.length h.e] 31) := ⟨_, rfl⟩
  obtain ⟨hb, hh, hsz⟩ := box3_any w (.slice h.A N.w.length h.c) (.slice h.L N.l.length h.d) (.slice h.C N.c.length h.e) 31
  rw [← hw0] at hb hh hsz
  have hs0 : w.heap.size + 1 ≤ w0.heap.size := by omega
  have HK : Hid (∀ w', Below w0.heap.size w0 w' → w'.cell? ⟨w.heap.size, 0, none⟩ = some (.slice h.A N.w.length h.c) ∧ w'.cell? ⟨w.heap.size, 1, none⟩ = some (.slice h.L N.l.length h.d) ∧ w'.cell? ⟨w.heap.size, 2, none⟩ = some (.slice h.C N.c.length h.e)) := Lib.hid fun w' hw => three_cells ((hw.block _ (by omega)).trans hh)
  have HR := Lib.hid (fun (w' : World) (hw : Below w0.heap.size w0 w') => ((r.below (hb.trans (hw.mono hb.size))).more (Nat.le_trans hb.size hw.size)))
  have HB0 := Lib.hid hb
  have HRF := Lib.hid (fun (w' : World) (hw : Below w0.heap.size w0 w') => show RdI w' w'.heap.size FA fs.length fs from ((rF.below (hb.trans (hw.mono hb.size))).more (Nat.le_trans hb.size hw.size)))
  have HIF := Lib.hid (sIsFir_any h N fs FA fc w0 (HR.out _ (Below.refl _ _)) hn hl hc hfl hcap (HRF.out _ (Below.refl _ _)))
  obtain ⟨y0, y1, y2⟩ := three_cells hh
  clear hb hh hsz r rF
  cases hi : ifB N fs with
  | false =>
    rw [hi] at HIF
    have HII := Lib.hid hi
    clear hi
    go_enter Tryd.func18, Tryd.ntmps18
    go_wp2_with (fail)
    rw [← hw0]
    clear hw0
    refine HIF.out.mono ?_
    rintro e w1 ⟨rfl, bel1⟩
    have HB1 := Lib.hid (HB0.out.trans (bel1.mono HB0.out.size))
    have HG : Hid (GivesB w (rlV N fs) false (.returned (.tuple #[.slice (some ⟨w1.heap.size, 0, none⟩) 0 0, .bool false])) (w1.alloc (.cells #[] 2))) := Lib.hid (by
      rw [show rlV N fs = [] from if_neg (by rw [HII.out]; decide)]
      exact ⟨_, 0, rfl, (World.ownsRow_made w1 #[] 0 (Nat.le_refl _) (by simp [maxLen]) rfl).mono HB1.out.size, HB1.out.alloc HB1.out.size _⟩)
    clear bel1 y0 y1 y2
    go_wp2
    go_ret2
    exact HG.out
  | true =>
    rw [hi] at HIF
    have hv : valN N = true := (Bool.and_eq_true _ _ ▸ hi : valN N = true ∧ isF N fs = true).1
    have hF : isF N fs = true := (Bool.and_eq_true _ _ ▸ hi : valN N = true ∧ isF N fs = true).2
    have HVV := Lib.hid hv; have HFF := Lib.hid hF
    have HVS : Hid (rlV N fs = allQ N fs) := Lib.hid (if_pos hi)
    obtain ⟨h48, h48l⟩ := valN_size hv
    clear hi hv hF
    go_enter Tryd.func18, Tryd.ntmps18
    go_wp2_with (fail)
    rw [← hw0]
    clear hw0
    refine HIF.out.mono ?_
    rintro e w1 ⟨rfl, bel1⟩
    have B1 := Lib.hid bel1
    have HB1 := Lib.hid (HB0.out.trans (bel1.mono HB0.out.size))
    clear bel1 y0 y1 y2
    obtain ⟨y0, y1, y2⟩ := HK.out _ B1.out
    go_wp2_with (fail)
    refine (sAll_any h N fs FA fc w1 HVV.out HFF.out (HR.out _ B1.out) (HRF.out _ B1.out)).mono ?_
    rintro e w2 ⟨A2, c2, rfl, own2, bel2⟩
    have HG : Hid (GivesB w (rlV N fs) true (.returned (.tuple #[.slice A2 (allQ N fs).length c2, .bool true])) w2) := Lib.hid (by
      rw [HVS.out]
      exact ⟨A2, c2, rfl, own2.mono HB1.out.size, HB1.out.trans (bel2.mono HB1.out.size)⟩)
    clear own2 bel2
    generalize (allQ N fs).length = q at *
    go_wp2
    go_ret2
    exact HG.out
set_option maxRecDepth 100000 in
set_option maxHeartbeats 2000000 in
theorem sPartsAfter_any (h : NH) (N : Nt) (fs : List Int) (FA : Option Addr) (fc : Nat) (w : World) (r : RdN w w.heap.size h N) (hn : N.w.length ≤ 1048576) (hl : N.l.length ≤ 1048576) (hc : N.c.length ≤ 1048576) (hfl : fs.length ≤ 1048576) (hcap : fs.length ≤ fc) (rF : RdI w w.heap.size FA fs.length fs) :
    Calls Tryd.prog 23 #[.agg #[.slice h.A N.w.length h.c, .slice h.L N.l.length h.d, .slice h.C N.c.length h.e], .slice FA fs.length fc] w (GivesB w (paV N fs) (ifB N fs)) := by
  obtain ⟨w0, hw0⟩ : ∃ w0, w0 = w.alloc (.cells #[.slice h.A N.w.length h.c, .slice h.L N.l.length h.d, .slice h.C N.c.length h.e] 31) := ⟨_, rfl⟩
  obtain ⟨hb, hh, hsz⟩ := box3_any w (.slice h.A N.w.length h.c) (.slice h.L N.l.length h.d) (.slice h.C N.c.length h.e) 31
  rw [← hw0] at hb hh hsz
  have hs0 : w.heap.size + 1 ≤ w0.heap.size := by omega
  have HK : Hid (∀ w', Below w0.heap.size w0 w' → w'.cell? ⟨w.heap.size, 0, none⟩ = some (.slice h.A N.w.length h.c) ∧ w'.cell? ⟨w.heap.size, 1, none⟩ = some (.slice h.L N.l.length h.d) ∧ w'.cell? ⟨w.heap.size, 2, none⟩ = some (.slice h.C N.c.length h.e)) := Lib.hid fun w' hw => three_cells ((hw.block _ (by omega)).trans hh)
  have HR := Lib.hid (fun (w' : World) (hw : Below w0.heap.size w0 w') => ((r.below (hb.trans (hw.mono hb.size))).more (Nat.le_trans hb.size hw.size)))
  have HB0 := Lib.hid hb
  have HRF := Lib.hid (fun (w' : World) (hw : Below w0.heap.size w0 w') => show RdI w' w'.heap.size FA fs.length fs from ((rF.below (hb.trans (hw.mono hb.size))).more (Nat.le_trans hb.size hw.size)))
  have HIF := Lib.hid (sIsFir_any h N fs FA fc w0 (HR.out _ (Below.refl _ _)) hn hl hc hfl hcap (HRF.out _ (Below.refl _ _)))
  obtain ⟨y0, y1, y2⟩ := three_cells hh
  clear hb hh hsz r rF
  cases hi : ifB N fs with
  | false =>
    rw [hi] at HIF
    have HII := Lib.hid hi
    clear hi
    go_enter Tryd.func23, Tryd.ntmps23
    go_wp2_with (fail)
    rw [← hw0]
    clear hw0
    refine HIF.out.mono ?_
    rintro e w1 ⟨rfl, bel1⟩
    have HB1 := Lib.hid (HB0.out.trans (bel1.mono HB0.out.size))
    have HG : Hid (GivesB w (paV N fs) false (.returned (.tuple #[.slice (some ⟨w1.heap.size, 0, none⟩) 0 0, .bool false])) (w1.alloc (.cells #[] 2))) := Lib.hid (by
      rw [show paV N fs = [] from if_neg (by rw [HII.out]; decide)]
      exact ⟨_, 0, rfl, (World.ownsRow_made w1 #[] 0 (Nat.le_refl _) (by simp [maxLen]) rfl).mono HB1.out.size, HB1.out.alloc HB1.out.size _⟩)
    clear bel1 y0 y1 y2
    go_wp2
    go_ret2
    exact HG.out
  | true =>
    rw [hi] at HIF
    have hv : valN N = true := (Bool.and_eq_true _ _ ▸ hi : valN N = true ∧ isF N fs = true).1
    have hF : isF N fs = true := (Bool.and_eq_true _ _ ▸ hi : valN N = true ∧ isF N fs = true).2
    have HVV := Lib.hid hv; have HFF := Lib.hid hF
    have HVS : Hid (paV N fs = paU N fs N.w.length) := Lib.hid (if_pos hi)
    obtain ⟨h48, h48l⟩ := valN_size hv
    clear hi hv hF
    go_enter Tryd.func23, Tryd.ntmps23
    go_wp2_with (fail)
    rw [← hw0]
    clear hw0
    refine HIF.out.mono ?_
    rintro e w1 ⟨rfl, bel1⟩
    have B1 := Lib.hid bel1
    have HB1 := Lib.hid (HB0.out.trans (bel1.mono HB0.out.size))
    clear bel1 y0 y1 y2
    obtain ⟨y0, y1, y2⟩ := HK.out _ B1.out
    go_wp2_with (fail)
    refine (sParts_any h N fs FA fc w1 HVV.out HFF.out (HR.out _ B1.out) (HRF.out _ B1.out)).mono ?_
    rintro e w2 ⟨A2, c2, rfl, own2, bel2⟩
    have HG : Hid (GivesB w (paV N fs) true (.returned (.tuple #[.slice A2 (paU N fs N.w.length).length c2, .bool true])) w2) := Lib.hid (by
      rw [HVS.out]
      exact ⟨A2, c2, rfl, own2.mono HB1.out.size, HB1.out.trans (bel2.mono HB1.out.size)⟩)
    clear own2 bel2
    generalize (paU N fs N.w.length).length = q at *
    go_wp2
    go_ret2
    exact HG.out
set_option maxRecDepth 100000 in
set_option maxHeartbeats 2000000 in
theorem sOpenWires_any (h : NH) (N : Nt) (fs : List Int) (FA : Option Addr) (fc : Nat) (w : World) (r : RdN w w.heap.size h N) (hn : N.w.length ≤ 1048576) (hl : N.l.length ≤ 1048576) (hc : N.c.length ≤ 1048576) (hfl : fs.length ≤ 1048576) (hcap : fs.length ≤ fc) (rF : RdI w w.heap.size FA fs.length fs) :
    Calls Tryd.prog 25 #[.agg #[.slice h.A N.w.length h.c, .slice h.L N.l.length h.d, .slice h.C N.c.length h.e], .slice FA fs.length fc] w (GivesB w (owV N fs) (ifB N fs)) := by
  obtain ⟨i0, hi0, hz0, hz1, hz2⟩ := info_parts info_i64
  have HI := Lib.hid hi0; have HZ0 := Lib.hid hz0; have HZ1 := Lib.hid hz1; have HZ2 := Lib.hid hz2
  obtain ⟨w0, hw0⟩ : ∃ w0, w0 = w.alloc (.cells #[.slice h.A N.w.length h.c, .slice h.L N.l.length h.d, .slice h.C N.c.length h.e] 31) := ⟨_, rfl⟩
  obtain ⟨hb, hh, hsz⟩ := box3_any w (.slice h.A N.w.length h.c) (.slice h.L N.l.length h.d) (.slice h.C N.c.length h.e) 31
  rw [← hw0] at hb hh hsz
  have hs0 : w.heap.size + 1 ≤ w0.heap.size := by omega
  have HK : Hid (∀ w', Below w0.heap.size w0 w' → w'.cell? ⟨w.heap.size, 0, none⟩ = some (.slice h.A N.w.length h.c) ∧ w'.cell? ⟨w.heap.size, 1, none⟩ = some (.slice h.L N.l.length h.d) ∧ w'.cell? ⟨w.heap.size, 2, none⟩ = some (.slice h.C N.c.length h.e)) := Lib.hid fun w' hw => three_cells ((hw.block _ (by omega)).trans hh)
  have HR := Lib.hid (fun (w' : World) (hw : Below w0.heap.size w0 w') => ((r.below (hb.trans (hw.mono hb.size))).more (Nat.le_trans hb.size hw.size)))
  have HB0 := Lib.hid hb
  have HFR := Lib.hid (fun (x : Int) (w' : World) (hw : Below w0.heap.size w0 w') => smFrom_any h.A h.L h.C N.w.length h.c h.d N.c.length h.e N.l x w' (HR.out _ hw).2.1 hl)
  have HTO := Lib.hid (fun (x : Int) (w' : World) (hw : Below w0.heap.size w0 w') => smTo_any h.A h.L h.C N.w.length h.c h.d N.c.length h.e N.l x w' (HR.out _ hw).2.1 hl)
  clear hi0 hz0 hz1 hz2
  have HRF := Lib.hid (fun (w' : World) (hw : Below w0.heap.size w0 w') => show RdI w' w'.heap.size FA fs.length fs from ((rF.below (hb.trans (hw.mono hb.size))).more (Nat.le_trans hb.size hw.size)))
  have HIF := Lib.hid (sIsFir_any h N fs FA fc w0 (HR.out _ (Below.refl _ _)) hn hl hc hfl hcap (HRF.out _ (Below.refl _ _)))
  obtain ⟨y0, y1, y2⟩ := three_cells hh
  clear hb hh hsz r rF
  cases hi : ifB N fs with
  | false =>
    rw [hi] at HIF
    have HII := Lib.hid hi
    clear hi
    go_enter Tryd.func25, Tryd.ntmps25
    go_wp2_with (fail)
    rw [← hw0]
    clear hw0
    refine HIF.out.mono ?_
    rintro e w1 ⟨rfl, bel1⟩
    have HB1 := Lib.hid (HB0.out.trans (bel1.mono HB0.out.size))
    have HG : Hid (GivesB w (owV N fs) false (.returned (.tuple #[.slice (some ⟨w1.heap.size, 0, none⟩) 0 0, .bool false])) (w1.alloc (.cells #[] 2))) := Lib.hid (by
      rw [show owV N fs = [] from if_neg (by rw [HII.out]; decide)]
      exact ⟨_, 0, rfl, (World.ownsRow_made w1 #[] 0 (Nat.le_refl _) (by simp [maxLen]) rfl).mono HB1.out.size, HB1.out.alloc HB1.out.size _⟩)
    clear bel1 y0 y1 y2
    go_wp2
    go_ret2
    exact HG.out
  | true =>
    rw [hi] at HIF
    have hv : valN N = true := (Bool.and_eq_true _ _ ▸ hi : valN N = true ∧ isF N fs = true).1
    have hF : isF N fs = true := (Bool.and_eq_true _ _ ▸ hi : valN N = true ∧ isF N fs = true).2
    have HVV := Lib.hid hv; have HFF := Lib.hid hF
    have HVS : Hid (owV N fs = opU N fs N.w.length) := Lib.hid (if_pos hi)
    obtain ⟨h48, h48l⟩ := valN_size hv
    clear hi hv hF
    go_enter Tryd.func25, Tryd.ntmps25
    go_wp2_with (fail)
    rw [← hw0]
    clear hw0
    refine HIF.out.mono ?_
    rintro e w1 ⟨rfl, bel1⟩
    have B1 := Lib.hid bel1
    have HB1 := Lib.hid (HB0.out.trans (bel1.mono HB0.out.size))
    clear bel1 y0 y1 y2
    obtain ⟨y0, y1, y2⟩ := HK.out _ B1.out
    have hok := isF_ok HFF.out
    have HHI := Lib.hid (fun k => has_is hok k)
    have h0 : (w1.alloc (.cells #[] 2)).ownsRow w1.heap.size 2 1 (.slice (some ⟨w1.heap.size, 0, none⟩) 0 0) (opU N fs 0).length ((opU N fs 0).map (Value.int .i64)) := World.ownsRow_made w1 #[] 0 (Nat.le_refl _) (by simp [maxLen]) rfl
    have hb1 : Below w1.heap.size w1 (w1.alloc (.cells #[] 2)) := (Below.refl _ _).alloc (Nat.le_refl _) _
    have H0 := Lib.hid h0; have H1 := Lib.hid hb1
    have hs1 := B1.out.size
    clear h0 hb1 hok
    go_wp2
    clear y0 y1 y2
    go_loopw [6, 7] (fun v i wx => ∃ k : Nat, k ≤ N.w.length ∧ i = .int .i64 k ∧ wx.ownsRow w1.heap.size 2 1 v (opU N fs k).length ((opU N fs k).map (Value.int .i64)) ∧ Below w1.heap.size w1 wx) (fun _ i _ => N.w.length - (intOf i).toNat)
    case atStart => exact ⟨0, Nat.zero_le _, rfl, H0.out, H1.out⟩
    case round =>
      obtain ⟨k, hk, rfl, hO, hB⟩ := hrel
      clear H0 H1
      have hB0 := B1.out.trans (hB.mono hs1)
      obtain ⟨y0, y1, y2⟩ := HK.out _ hB0
      have HO := Lib.hid hO; have HB := Lib.hid hB; have HBZ := Lib.hid hB0
      clear hO hB hB0
      by_cases hlt : k < N.w.length
      · have hin : inW N.w.length (k : Int) = true := decide_eq_true (by omega)
        obtain ⟨hfr, hfl2⟩ := fr_lt HVV.out hin
        have hln := opU_len N fs k
        have HYE := Lib.hid (fun e => opU_yes (N := N) (fs := fs) (k := k) e)
        have HNO := Lib.hid (fun e => opU_no (N := N) (fs := fs) (k := k) e)
        have HT := Lib.hid (HTO.out (k : Int) _ HBZ.out)
        rw [to_lxP (N := N)] at HT
        have HF := Lib.hid (fun (wx : World) (hx : Below wr.heap.size wr wx) => HFR.out (k : Int) wx (HBZ.out.trans (hx.mono HBZ.out.size)))
        rw [from_lxP HVV.out, hfr] at HF
        have HH := Lib.hid (fun (x : Int) (wx : World) (hx : Below wr.heap.size wr wx) => sHasP_any FA fs.length fc fs x wx hfl (HRF.out _ (HBZ.out.trans (hx.mono HBZ.out.size))))
        have HCF := Lib.hid (HHI.out (frN N (k : Int)))
        have HCT := Lib.hid (fun (j : Nat) => HHI.out j)
        have HOPE : Hid (opnQ N (qN N fs) (k : Int) = (decide (qN N fs (frN N (k : Int)) ≠ -1) && !(decide (lxN inL N (k : Int) ≠ -1) && decide (qN N fs (lxN inL N (k : Int)).toNat ≠ -1)))) := Lib.hid rfl
        rw [← HCF.out] at HOPE
        have hlxc := lxN_cases inL N (k : Int)
        generalize opnQ N (qN N fs) (k : Int) = op at *
        generalize frN N (k : Int) = f at *
        have HKX := Lib.hid (fun (wx : World) (hx : Below wr.heap.size wr wx) => HK.out wx (HBZ.out.trans (hx.mono HBZ.out.size)))
        have HKEEP : Hid (∀ wx, Below wr.heap.size wr wx → op = false → wx.ownsRow w1.heap.size 2 1 _ (opU N fs (k + 1)).length ((opU N fs (k + 1)).map (Value.int .i64))) := Lib.hid fun wx hx e => by rw [HNO.out e]; exact own_below HO.out hx (Nat.le_refl _)
        clear hfr hin
        -- the consumer, then the first question
        rcases hlxc with ⟨j, _, _, ej⟩ | ⟨_, ej⟩
        · rw [ej] at HT HOPE
          have HCJ := Lib.hid (HCT.out j)
          rw [Int.toNat_natCast, ← HCJ.out, show decide ((j : Int) ≠ -1) = true by simp, Bool.true_and] at HOPE
          have HHF := Lib.hid (fun wx hx => HH.out (f : Int) wx hx)
          have HHJ := Lib.hid (fun wx hx => HH.out (j : Int) wx hx)
          clear ej
          generalize fs.contains (f : Int) = cf at *
          generalize fs.contains (j : Int) = cj at *
          cases cf with
          | false =>
            have HE : Hid (op = false) := Lib.hid (by rw [HOPE.out]; rfl)
            go_wp2_with (fail)
            refine HT.out.mono ?_
            rintro e w2 ⟨rfl, bel2⟩
            have B2 := Lib.hid bel2
            clear bel2 y0 y1 y2
            obtain ⟨y0, y1, y2⟩ := HKX.out _ B2.out
            go_wp2_with (fail)
            refine (HF.out w2 B2.out).mono ?_
            rintro e w3 ⟨rfl, bel3⟩
            have B3 := Lib.hid (B2.out.trans (bel3.mono B2.out.size))
            clear bel3 y0 y1 y2
            go_wp2_with (fail)
            refine (HHF.out w3 B3.out).mono ?_
            rintro e wz ⟨rfl, rfl⟩
            have HO3 := Lib.hid (HKEEP.out _ B3.out HE.out)
            have HB3 := Lib.hid (HB.out.trans (B3.out.mono HB.out.size))
            go_wp2
            go_roundw
            case rel => exact ⟨k + 1, by omega, by go_num, HO3.out, HB3.out⟩
            case measure => simp [intOf]; omega
          | true =>
            cases cj with
            | true =>
              have HE : Hid (op = false) := Lib.hid (by rw [HOPE.out]; rfl)
              go_wp2_with (fail)
              refine HT.out.mono ?_
              rintro e w2 ⟨rfl, bel2⟩
              have B2 := Lib.hid bel2
              clear bel2 y0 y1 y2
              obtain ⟨y0, y1, y2⟩ := HKX.out _ B2.out
              go_wp2_with (fail)
              refine (HF.out w2 B2.out).mono ?_
              rintro e w3 ⟨rfl, bel3⟩
              have B3 := Lib.hid (B2.out.trans (bel3.mono B2.out.size))
              clear bel3 y0 y1 y2
              go_wp2_with (fail)
              refine (HHF.out w3 B3.out).mono ?_
              rintro e wz ⟨rfl, rfl⟩
              go_wp2_with (fail)
              refine (HHJ.out _ B3.out).mono ?_
              rintro e wz ⟨rfl, rfl⟩
              have HO3 := Lib.hid (HKEEP.out _ B3.out HE.out)
              have HB3 := Lib.hid (HB.out.trans (B3.out.mono HB.out.size))
              go_wp2
              go_roundw
              case rel => exact ⟨k + 1, by omega, by go_num, HO3.out, HB3.out⟩
              case measure => simp [intOf]; omega
            | false =>
              have HE : Hid (op = true) := Lib.hid (by rw [HOPE.out]; rfl)
              go_wp2_with (fail)
              refine HT.out.mono ?_
              rintro e w2 ⟨rfl, bel2⟩
              have B2 := Lib.hid bel2
              clear bel2 y0 y1 y2
              obtain ⟨y0, y1, y2⟩ := HKX.out _ B2.out
              go_wp2_with (fail)
              refine (HF.out w2 B2.out).mono ?_
              rintro e w3 ⟨rfl, bel3⟩
              have B3 := Lib.hid (B2.out.trans (bel3.mono B2.out.size))
              clear bel3 y0 y1 y2
              go_wp2_with (fail)
              refine (HHF.out w3 B3.out).mono ?_
              rintro e wz ⟨rfl, rfl⟩
              go_wp2_with (fail)
              refine (HHJ.out _ B3.out).mono ?_
              rintro e wz ⟨rfl, rfl⟩
              have HS := Lib.hid (HYE.out HE.out)
              have HLN : Hid ((opU N fs (k + 1)).length = (opU N fs k).length + 1) := Lib.hid (by rw [HS.out]; simp)
              have HB3 := Lib.hid (HB.out.trans (B3.out.mono HB.out.size))
              have HO3 := Lib.hid (own_below HO.out B3.out (Nat.le_refl _))
              have hsz9 := HB3.out.size
              go_wp2_with (at_builtin; refine wpList_append_own _ rfl _ _ 24 rfl w1.heap.size 2 i0 (.int .i64 0) 1 8 Tryd.underlying24 HI.out HZ0.out HZ1.out HZ2.out rfl (by decide) _ _ _ rfl (HO3.out.alloc _) ⟨_, 0, none⟩ 1 1 [.int .i64 k] rfl rfl ?c1 ?c2 ?c3 ?c4 ?c5 ?_)
              case c1 => exact cell_one_new _ _ _
              case c2 => intro u hu; simp at hu; subst hu; rfl
              case c3 => unfold maxLen; omega
              case c4 => omega
              case c5 => simp; omega
              intro v' w9 hown' hgrow _
              have hb2 := Lib.hid ((HB3.out.alloc hsz9 (.cells #[.int .i64 k] 2)).grown hgrow (by simp; omega) (fun q hq => (HO3.out.lt q hq).1))
              have hown2 : w9.ownsRow w1.heap.size 2 1 v' (opU N fs (k + 1)).length ((opU N fs (k + 1)).map (Value.int .i64)) := by
                rw [HLN.out, HS.out, List.map_append]; exact hown'
              have hown1 := Lib.hid hown2
              clear hown' hgrow hown2 hsz9
              go_wp2
              go_roundw
              case rel => exact ⟨k + 1, by omega, by go_num, hown1.out, hb2.out⟩
              case measure => simp [intOf]; omega
        · rw [ej] at HT HOPE
          rw [show decide ((-1 : Int) ≠ -1) = false from rfl, Bool.false_and] at HOPE
          have HHF := Lib.hid (fun wx hx => HH.out (f : Int) wx hx)
          clear ej
          generalize fs.contains (f : Int) = cf at *
          cases cf with
          | false =>
            have HE : Hid (op = false) := Lib.hid (by rw [HOPE.out]; rfl)
            go_wp2_with (fail)
            refine HT.out.mono ?_
            rintro e w2 ⟨rfl, bel2⟩
            have B2 := Lib.hid bel2
            clear bel2 y0 y1 y2
            obtain ⟨y0, y1, y2⟩ := HKX.out _ B2.out
            go_wp2_with (fail)
            refine (HF.out w2 B2.out).mono ?_
            rintro e w3 ⟨rfl, bel3⟩
            have B3 := Lib.hid (B2.out.trans (bel3.mono B2.out.size))
            clear bel3 y0 y1 y2
            go_wp2_with (fail)
            refine (HHF.out w3 B3.out).mono ?_
            rintro e wz ⟨rfl, rfl⟩
            have HO3 := Lib.hid (HKEEP.out _ B3.out HE.out)
            have HB3 := Lib.hid (HB.out.trans (B3.out.mono HB.out.size))
            go_wp2
            go_roundw
            case rel => exact ⟨k + 1, by omega, by go_num, HO3.out, HB3.out⟩
            case measure => simp [intOf]; omega
          | true =>
            have HE : Hid (op = true) := Lib.hid (by rw [HOPE.out]; rfl)
            go_wp2_with (fail)
            refine HT.out.mono ?_
            rintro e w2 ⟨rfl, bel2⟩
            have B2 := Lib.hid bel2
            clear bel2 y0 y1 y2
            obtain ⟨y0, y1, y2⟩ := HKX.out _ B2.out
            go_wp2_with (fail)
            refine (HF.out w2 B2.out).mono ?_
            rintro e w3 ⟨rfl, bel3⟩
            have B3 := Lib.hid (B2.out.trans (bel3.mono B2.out.size))
            clear bel3 y0 y1 y2
            go_wp2_with (fail)
            refine (HHF.out w3 B3.out).mono ?_
            rintro e wz ⟨rfl, rfl⟩
            have HS := Lib.hid (HYE.out HE.out)
            have HLN : Hid ((opU N fs (k + 1)).length = (opU N fs k).length + 1) := Lib.hid (by rw [HS.out]; simp)
            have HB3 := Lib.hid (HB.out.trans (B3.out.mono HB.out.size))
            have HO3 := Lib.hid (own_below HO.out B3.out (Nat.le_refl _))
            have hsz9 := HB3.out.size
            go_wp2_with (at_builtin; refine wpList_append_own _ rfl _ _ 24 rfl w1.heap.size 2 i0 (.int .i64 0) 1 8 Tryd.underlying24 HI.out HZ0.out HZ1.out HZ2.out rfl (by decide) _ _ _ rfl (HO3.out.alloc _) ⟨_, 0, none⟩ 1 1 [.int .i64 k] rfl rfl ?c1 ?c2 ?c3 ?c4 ?c5 ?_)
            case c1 => exact cell_one_new _ _ _
            case c2 => intro u hu; simp at hu; subst hu; rfl
            case c3 => unfold maxLen; omega
            case c4 => omega
            case c5 => simp; omega
            intro v' w9 hown' hgrow _
            have hb2 := Lib.hid ((HB3.out.alloc hsz9 (.cells #[.int .i64 k] 2)).grown hgrow (by simp; omega) (fun q hq => (HO3.out.lt q hq).1))
            have hown2 : w9.ownsRow w1.heap.size 2 1 v' (opU N fs (k + 1)).length ((opU N fs (k + 1)).map (Value.int .i64)) := by
              rw [HLN.out, HS.out, List.map_append]; exact hown'
            have hown1 := Lib.hid hown2
            clear hown' hgrow hown2 hsz9
            go_wp2
            go_roundw
            case rel => exact ⟨k + 1, by omega, by go_num, hown1.out, hb2.out⟩
            case measure => simp [intOf]; omega
      · have hkn : k = N.w.length := by omega
        have ho1 := HO.out
        rw [hkn] at ho1
        obtain ⟨A, c, rfl⟩ := own_shapeL ho1
        have HG : Hid (GivesB w (owV N fs) true (.returned (.tuple #[.slice A (opU N fs N.w.length).length c, .bool true])) wr) := Lib.hid (by
          rw [HVS.out]
          exact ⟨A, c, rfl, ho1.mono HB1.out.size, HB1.out.trans (HB.out.mono HB1.out.size)⟩)
        subst hkn
        clear ho1 HO HB HVS
        generalize (opU N fs N.w.length).length = ql at *
        go_wp2
        go_ret2
        exact HG.out
end Go.Proofs.YtedigjkmolnjcaaDoor
