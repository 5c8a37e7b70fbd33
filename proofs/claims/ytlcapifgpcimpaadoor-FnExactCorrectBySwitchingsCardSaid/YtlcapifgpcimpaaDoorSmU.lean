/- The model: FailingSwitching, CorrectBySwitchings. -/
import Derived.Test.YtlcapifgpcimpaaDoorSmT
import Derived.Test.YtlcapifgpcimpaaDoorSwQ
import Derived.Deep.RegionHeldLaw
import Derived.Deep.DeepCutAuto
import Derived.BigQuiet
namespace Go.Proofs.YtlcapifgpcimpaaDoor
set_option linter.unusedSimpArgs false
set_option linter.unusedVariables false
open Go.ChangeAt Go.ChangeShapes Go.RowKit Go.WideShapes


theorem isSw_bits {N : Nt} (hv : valN N = true) (y : Int) : isSw N (swU y (prkN N).length) = true := by
  unfold isSw
  rw [hv, swU_len, decide_eq_true rfl]
  refine List.all_eq_true.2 fun c hc => ?_
  exact decide_eq_true (swU_in y _ c hc)
/-- The fault of a switching. -/
def fxN (N : Nt) (y : Nat) : Int := ftV N.l.length (mgU N (swU (y : Int) (prkN N).length) N.w.length)
/-- The first switching with a fault, from y on, of m. -/
def fsQ (N : Nt) (m : Nat) : Int × Int := match (List.range m).find? (fun y => decide (¬ fxN N y = 0)) with
  | some y => ((y : Int), fxN N y)
  | none => (-1, 0)
def fsP (N : Nt) : Int × Int := if scV N < 0 then (-1, -1) else fsQ N (scV N).toNat
theorem find_at {p : Nat → Bool} {m y : Nat} (hy : y < m) (hno : ∀ j, j < y → p j = false) (hp : p y = true) : (List.range m).find? p = some y := by
  rw [List.find?_eq_some_iff_getElem]
  refine ⟨hp, y, by simpa using hy, by simp, fun j hj => ?_⟩
  simp [hno j hj]
theorem find_none {p : Nat → Bool} {m : Nat} (hno : ∀ j, j < m → p j = false) : (List.range m).find? p = none := by
  rw [List.find?_eq_none]
  intro x hx
  rw [hno x (List.mem_range.1 hx)]
  simp
theorem fsQ_at {N : Nt} {m y : Nat} (hy : y < m) (hno : ∀ j, j < y → fxN N j = 0) (hp : ¬ fxN N y = 0) : fsQ N m = ((y : Int), fxN N y) := by
  unfold fsQ
  rw [find_at (p := fun y => decide (¬ fxN N y = 0)) hy (fun j hj => decide_eq_false (by rw [hno j hj]; simp)) (decide_eq_true hp)]
theorem fsQ_none {N : Nt} {m : Nat} (hno : ∀ j, j < m → fxN N j = 0) : fsQ N m = (-1, 0) := by
  unfold fsQ
  rw [find_none (p := fun y => decide (¬ fxN N y = 0)) (fun j hj => decide_eq_false (by rw [hno j hj]; simp))]
theorem scV_le (N : Nt) : -1 ≤ scV N ∧ scV N ≤ 1024 := by
  unfold scV
  by_cases h : valN N = true ∧ (prkN N).length ≤ 10
  · rw [if_pos h]
    have h2 : 2 ^ (prkN N).length ≤ 1024 := Nat.le_trans (Nat.pow_le_pow_right (by decide) h.2) (by decide)
    generalize 2 ^ (prkN N).length = z at *
    omega
  · rw [if_neg h]; omega
theorem scV_val {N : Nt} (h : ¬ scV N < 0) : valN N = true := by
  cases hv : valN N with
  | true => rfl
  | false => rw [scV_inv hv] at h; omega
theorem ret_ints {a b c d : Int} (h1 : a = c) (h2 : b = d) : Ending.returned (.tuple #[.int .i64 a, .int .i64 b]) = Ending.returned (.tuple #[.int .i64 c, .int .i64 d]) := by rw [h1, h2]
set_option maxRecDepth 100000 in
set_option maxHeartbeats 1000000 in
theorem sFailing_any (h : NH) (N : Nt) (w : World) (r : RdN w w.heap.size h N) (hn : N.w.length ≤ 1048576) (hl : N.l.length ≤ 1048576) (hc : N.c.length ≤ 1048576) :
    Calls Tryd.prog 18 #[.agg #[.slice h.A N.w.length h.c, .slice h.L N.l.length h.d, .slice h.C N.c.length h.e]] w fun e w' => e = .returned (.tuple #[.int .i64 (fsP N).1, .int .i64 (fsP N).2]) ∧ Below w.heap.size w w' := by
  obtain ⟨w0, hw0⟩ : ∃ w0, w0 = w.alloc (.cells #[.slice h.A N.w.length h.c, .slice h.L N.l.length h.d, .slice h.C N.c.length h.e] 35) := ⟨_, rfl⟩
  obtain ⟨hb, hh, hsz⟩ := box3_any w (.slice h.A N.w.length h.c) (.slice h.L N.l.length h.d) (.slice h.C N.c.length h.e) 35
  rw [← hw0] at hb hh hsz
  have hs0 : w.heap.size + 1 ≤ w0.heap.size := by omega
  have HK : Hid (∀ w', Below w0.heap.size w0 w' → w'.cell? ⟨w.heap.size, 0, none⟩ = some (.slice h.A N.w.length h.c) ∧ w'.cell? ⟨w.heap.size, 1, none⟩ = some (.slice h.L N.l.length h.d) ∧ w'.cell? ⟨w.heap.size, 2, none⟩ = some (.slice h.C N.c.length h.e)) := Lib.hid fun w' hw => three_cells ((hw.block _ (by omega)).trans hh)
  have HC := Lib.hid (sSwCount_any h N w0 ((r.below hb).more hb.size) hn hl hc)
  have HR := Lib.hid (fun (w' : World) (hw : Below w0.heap.size w0 w') => ((r.below (hb.trans (hw.mono hb.size))).more (Nat.le_trans hb.size hw.size)))
  have HB0 := Lib.hid hb
  obtain ⟨hsl, hsu⟩ := scV_le N
  obtain ⟨y0, y1, y2⟩ := three_cells hh
  clear hb hh hsz r
  by_cases hneg : scV N < 0
  · have hd : decide (scV N < 0) = true := decide_eq_true hneg
    have HE1 : Hid (fsP N = (-1, -1)) := Lib.hid (by unfold fsP; rw [if_pos hneg])
    clear hneg
    generalize scV N = C at *
    generalize fsP N = FP at *
    go_enter Tryd.func18, Tryd.ntmps18
    go_wp2_with (fail)
    rw [← hw0]
    clear hw0
    refine HC.out.mono ?_
    rintro e w1 ⟨rfl, bel⟩
    have HG := Lib.hid (HB0.out.trans (bel.mono HB0.out.size))
    clear bel y0 y1 y2 HC
    go_wp2
    go_ret2
    exact ⟨by rw [HE1.out]; rfl, HG.out⟩
  · have hd : decide (scV N < 0) = false := decide_eq_false hneg
    have hv := scV_val hneg
    have HFP : Hid (fsP N = fsQ N (scV N).toNat) := Lib.hid (by unfold fsP; rw [if_neg hneg])
    have h48 := valN_size hv
    have hpl := prkN_len N
    have HPA := Lib.hid (fun (w' : World) (hw : Below w0.heap.size w0 w') => sPars_any h N w' (HR.out _ hw) hl)
    have HBI := Lib.hid (fun (y : Nat) (hy : y < 1048576) (w' : World) => sBits_any (prkN N).length y w' (by omega) hy)
    have HFA := Lib.hid (fun (y : Nat) (A : Option Addr) (c : Nat) (w' : World) (hw : Below w0.heap.size w0 w') rS => sFault_any h N (swU (y : Int) (prkN N).length) A c w' (isSw_bits hv _) (HR.out _ hw) rS)
    have HFX : Hid (∀ y : Nat, ftM N.l.length (mgU N (swU (y : Int) (prkN N).length) N.w.length) = fxN N y) := Lib.hid fun y => (ft_same (arcs_in hv)).symm
    have HSL : Hid (∀ y : Nat, (swU (y : Int) (prkN N).length).length = (prkN N).length) := Lib.hid fun y => swU_len _ _
    obtain ⟨C, hC⟩ : ∃ C : Nat, scV N = (C : Int) := ⟨(scV N).toNat, by omega⟩
    rw [hC] at HC hd hsu HFP
    rw [Int.toNat_natCast] at HFP
    have HAT := Lib.hid (fun y hy hno hp => fsQ_at (N := N) (m := C) (y := y) hy hno hp)
    have HNO := Lib.hid (fun hno => fsQ_none (N := N) (m := C) hno)
    clear hC hneg hv h48 hsl
    generalize fsP N = FP at *
    go_enter Tryd.func18, Tryd.ntmps18
    go_wp2_with (fail)
    rw [← hw0]
    clear hw0
    refine HC.out.mono ?_
    rintro e w1 ⟨rfl, bel⟩
    have B1 := Lib.hid bel
    clear bel y0 y1 y2 HC
    go_wp2
    go_loopw [5] (fun i wr => ∃ k : Nat, k ≤ C ∧ i = .int .i64 k ∧ (∀ j, j < k → fxN N j = 0) ∧ Below w0.heap.size w0 wr) (fun i _ => C - (intOf i).toNat)
    case atStart => exact ⟨0, Nat.zero_le _, rfl, fun j hj => absurd hj (by omega), B1.out⟩
    case round =>
      obtain ⟨k, hk, rfl, hno, hB⟩ := hrel
      have HB := Lib.hid hB
      have HN := Lib.hid hno
      clear hno
      by_cases hlt : k < C
      · obtain ⟨y0, y1, y2⟩ := HK.out _ hB
        have HF2 := Lib.hid (fun A c w' hw rS => HFA.out k A c w' hw rS)
        have HB2 := Lib.hid (HBI.out k (by omega))
        rw [HFX.out, HSL.out] at HF2
        have HST : Hid (fxN N k = 0 → ∀ j, j < k + 1 → fxN N j = 0) := Lib.hid fun e j hj => by
          by_cases q : j < k
          · exact HN.out j q
          · obtain rfl : j = k := by omega
            exact e
        have HEQ := Lib.hid (fun hp => HAT.out k hlt HN.out hp)
        have HL2 := Lib.hid (HSL.out k)
        generalize fxN N k = FX at *
        generalize swU (k : Int) (prkN N).length = sw at *
        clear hB HFA
        go_wp2_with (fail)
        go_cut [6] (fun v wx => v = .int .i64 FX ∧ Below w0.heap.size w0 wx)
        case first =>
          go_region_with (first
            | (go_at_call 49; refine (HPA.out _ HB.out.drew).mono ?_; rintro e w3 ⟨A3, c3, rfl, own3, bel3⟩; have B3 := Lib.hid (HB.out.drew.trans (bel3.mono HB.out.drew.size)); have z1' := HK.out _ B3.out; obtain ⟨z0, z1, z2⟩ := z1'; clear own3 bel3 HPA)
            | (go_at_call 48; refine (HB2.out _).mono ?_; rintro e w4 ⟨A4, c4, rfl, own4, bel4⟩; have B4 := Lib.hid (B3.out.trans (bel4.mono B3.out.size)); have R4 := Lib.hid (RdI.of_own own4); have z2' := HK.out _ B4.out; obtain ⟨v0, v1, v2⟩ := z2'; rw [HL2.out] at R4 ⊢; clear own4 bel4)
            | (go_at_call 47; refine (HF2.out _ _ _ B4.out (by simpa only [HL2.out] using R4.out)).mono ?_; rintro e w5 ⟨rfl, bel5⟩; have B5 := Lib.hid (B4.out.trans (bel5.mono B4.out.size)); clear bel5))
          all_goals (try go_wp2_with (fail))
          all_goals go_meet
          all_goals exact ⟨rfl, B5.out⟩
        case rest =>
          obtain ⟨rfl, hBc⟩ := hcut
          have HBC := Lib.hid hBc
          have HBB := Lib.hid (HB0.out.trans (hBc.mono HB0.out.size))
          clear hBc y0 y1 y2 HPA
          by_cases hz : FX = 0
          · have hdz : (FX != 0) = false := by simp [hz]
            have HP2 := Lib.hid (HST.out hz)
            clear hz
            go_wp2
            go_roundw
            case rel => exact ⟨k + 1, by omega, by go_num, HP2.out, HBC.out⟩
            case measure => simp [intOf]; omega
          · have hdz : (FX != 0) = true := by simp [hz]
            have HE : Hid (FP = ((k : Int), FX)) := Lib.hid (HFP.out.trans (HEQ.out hz))
            clear hz
            go_wp2
            go_ret2
            exact ⟨by rw [HE.out]; rfl, HBB.out⟩
      · have hkc : k = C := by omega
        subst hkc
        have HE : Hid (FP = (-1, 0)) := Lib.hid (HFP.out.trans (HNO.out HN.out))
        have HBB := Lib.hid (HB0.out.trans (hB.mono HB0.out.size))
        go_wp2
        go_ret2
        exact ⟨by rw [HE.out]; rfl, HBB.out⟩
set_option maxRecDepth 100000 in
set_option maxHeartbeats 1000000 in
theorem sCorrect_any (h : NH) (N : Nt) (w : World) (r : RdN w w.heap.size h N) (hn : N.w.length ≤ 1048576) (hl : N.l.length ≤ 1048576) (hc : N.c.length ≤ 1048576) :
    Calls Tryd.prog 20 #[.agg #[.slice h.A N.w.length h.c, .slice h.L N.l.length h.d, .slice h.C N.c.length h.e]] w fun e w' => e = .returned (.bool ((fsP N).2 == 0)) ∧ Below w.heap.size w w' := by
  obtain ⟨w0, hw0⟩ : ∃ w0, w0 = w.alloc (.cells #[.slice h.A N.w.length h.c, .slice h.L N.l.length h.d, .slice h.C N.c.length h.e] 35) := ⟨_, rfl⟩
  obtain ⟨hb, hh, hsz⟩ := box3_any w (.slice h.A N.w.length h.c) (.slice h.L N.l.length h.d) (.slice h.C N.c.length h.e) 35
  rw [← hw0] at hb hh hsz
  have hs0 : w.heap.size + 1 ≤ w0.heap.size := by omega
  have HK : Hid (∀ w', Below w0.heap.size w0 w' → w'.cell? ⟨w.heap.size, 0, none⟩ = some (.slice h.A N.w.length h.c) ∧ w'.cell? ⟨w.heap.size, 1, none⟩ = some (.slice h.L N.l.length h.d) ∧ w'.cell? ⟨w.heap.size, 2, none⟩ = some (.slice h.C N.c.length h.e)) := Lib.hid fun w' hw => three_cells ((hw.block _ (by omega)).trans hh)
  have HC := Lib.hid (sFailing_any h N w0 ((r.below hb).more hb.size) hn hl hc)
  have HB0 := Lib.hid hb
  obtain ⟨y0, y1, y2⟩ := three_cells hh
  clear hb hh hsz r
  generalize fsP N = FP at *
  go_enter Tryd.func20, Tryd.ntmps20
  go_wp2_with (fail)
  rw [← hw0]
  clear hw0
  refine HC.out.mono ?_
  rintro e w1 ⟨rfl, bel⟩
  have HG := Lib.hid (HB0.out.trans (bel.mono HB0.out.size))
  clear bel y0 y1 y2 HC
  go_wp2
  go_ret
  exact ⟨rfl, HG.out⟩
end Go.Proofs.YtlcapifgpcimpaaDoor
