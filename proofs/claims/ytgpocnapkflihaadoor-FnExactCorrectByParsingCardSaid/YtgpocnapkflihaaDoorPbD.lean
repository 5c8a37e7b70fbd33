/- The model: StuckLinks, l13Correct, CorrectByParsing. Made by mkpbd.py. -/
import Derived.Test.YtgpocnapkflihaaDoorPbC
import Derived.Deep.RegionHeldLaw
import Derived.Deep.DeepCutAuto
import Derived.Maps.AppendAt
import Derived.BigQuiet
namespace Go.Proofs.YtgpocnapkflihaaDoor
set_option linter.unusedSimpArgs false
set_option linter.unusedVariables false
open Go.ChangeAt Go.ChangeShapes Go.RowKit Go.WideShapes

theorem stU_yes {N : Nt} {fs : List Int} {k : Nat} (h : fs.contains (k : Int) = false) : stU N fs (k + 1) = stU N fs k ++ [(k : Int)] := by
  unfold stU
  rw [List.range_succ, List.map_append, List.filter_append]
  simp only [List.map_cons, List.map_nil, List.filter_cons, List.filter_nil, h, Bool.not_false, if_true]
theorem stU_no {N : Nt} {fs : List Int} {k : Nat} (h : fs.contains (k : Int) = true) : stU N fs (k + 1) = stU N fs k := by
  unfold stU
  rw [List.range_succ, List.map_append, List.filter_append]
  simp only [List.map_cons, List.map_nil, List.filter_cons, List.filter_nil, h, Bool.not_true]
  simp
theorem stU_len (N : Nt) (fs : List Int) (k : Nat) : (stU N fs k).length ≤ k := by
  unfold stU
  exact Nat.le_trans (List.length_filter_le _ _) (by simp)
theorem ordF_isF {N : Nt} {last : Bool} : ∀ (n : Nat) (fs : List Int), isF N fs = true → isF N (ordF N last n fs) = true
  | 0, fs, h => h
  | n + 1, fs, h => by
    unfold ordF
    by_cases e : allQ N fs = []
    · rw [if_pos e]; exact h
    · rw [if_neg e]
      exact ordF_isF n _ (isF_snoc h (allQ_ok (pkF_mem e)))
theorem ord_isF (N : Nt) (last : Bool) : isF N (ordN N last) = true := ordF_isF _ [] rfl
/-- What the model asks of the order's end. -/
theorem cb_is {N : Nt} (hv : valN N = true) : cbV N = ((paU N (ordN N false) N.w.length).all (fun x => decide (x = 0)) && (decide ((ordN N false).length = N.l.length) && decide (0 < (ordN N false).length))) := by
  have h1 := one_part hv (isF_ok (ord_isF N false))
  unfold cbV
  rw [hv, Bool.true_and, Bool.eq_iff_iff]
  simp only [Bool.and_eq_true, decide_eq_true_eq, List.all_eq_true]
  rw [h1]
  refine and_congr_left fun _ => ?_
  constructor
  · intro h x hx
    obtain ⟨k, hk, rfl⟩ := List.mem_map.1 hx
    exact h k (List.mem_range.1 hk)
  · intro h x hx
    exact h _ (List.mem_map.2 ⟨x, List.mem_range.2 hx, rfl⟩)
set_option maxRecDepth 100000 in
set_option maxHeartbeats 2000000 in
theorem sCorrect_any (h : NH) (N : Nt) (w : World) (hv : valN N = true) (r : RdN w w.heap.size h N) :
    Calls Tryd.prog 26 #[.agg #[.slice h.A N.w.length h.c, .slice h.L N.l.length h.d, .slice h.C N.c.length h.e]] w fun e w' => e = .returned (.bool (cbV N)) ∧ Below w.heap.size w w' := by
  obtain ⟨h48, h48l⟩ := valN_size hv
  obtain ⟨w0, hw0⟩ : ∃ w0, w0 = w.alloc (.cells #[.slice h.A N.w.length h.c, .slice h.L N.l.length h.d, .slice h.C N.c.length h.e] 31) := ⟨_, rfl⟩
  obtain ⟨hb, hh, hsz⟩ := box3_any w (.slice h.A N.w.length h.c) (.slice h.L N.l.length h.d) (.slice h.C N.c.length h.e) 31
  rw [← hw0] at hb hh hsz
  have hs0 : w.heap.size + 1 ≤ w0.heap.size := by omega
  have HK : Hid (∀ w', Below w0.heap.size w0 w' → w'.cell? ⟨w.heap.size, 0, none⟩ = some (.slice h.A N.w.length h.c) ∧ w'.cell? ⟨w.heap.size, 1, none⟩ = some (.slice h.L N.l.length h.d) ∧ w'.cell? ⟨w.heap.size, 2, none⟩ = some (.slice h.C N.c.length h.e)) := Lib.hid fun w' hw => three_cells ((hw.block _ (by omega)).trans hh)
  have HR := Lib.hid (fun (w' : World) (hw : Below w0.heap.size w0 w') => ((r.below (hb.trans (hw.mono hb.size))).more (Nat.le_trans hb.size hw.size)))
  have HB0 := Lib.hid hb
  have HOR := Lib.hid (sOrder_any h N false w0 hv (HR.out _ (Below.refl _ _)))
  have HPA := Lib.hid (fun (A : Option Addr) (c : Nat) (wx : World) (hx : Below w0.heap.size w0 wx) rF => sParts_any h N (ordN N false) A c wx hv (ord_isF N false) (HR.out _ hx) rF)
  have HCB := Lib.hid (cb_is hv)
  have hol := (isF_ok (ord_isF N false)).len
  obtain ⟨y0, y1, y2⟩ := three_cells hh
  clear hb hh hsz r hv
  generalize cbV N = res at *
  go_enter Tryd.func26, Tryd.ntmps26
  go_wp2_with (fail)
  rw [← hw0]
  clear hw0
  refine HOR.out.mono ?_
  rintro e w1 ⟨A1, c1, rfl, own1, bel1⟩
  have B1 := Lib.hid bel1
  have R1 := Lib.hid (RdI.of_own own1)
  clear own1 bel1 y0 y1 y2
  obtain ⟨y0, y1, y2⟩ := HK.out _ B1.out
  go_wp2_with (fail)
  refine (HPA.out A1 c1 w1 B1.out R1.out).mono ?_
  rintro e w2 ⟨A2, c2, rfl, own2, bel2⟩
  have B2 := Lib.hid (B1.out.trans (bel2.mono B1.out.size))
  have R2 := Lib.hid (RdI.of_own own2)
  have HB2 := Lib.hid (HB0.out.trans (B2.out.mono HB0.out.size))
  clear own2 bel2 y0 y1 y2 R1 HPA HOR
  have hln : (paU N (ordN N false) N.w.length).length = N.w.length := paU_len _ _ _
  obtain ⟨P, hP⟩ : ∃ P, paU N (ordN N false) N.w.length = P := ⟨_, rfl⟩
  rw [hP] at R2 HCB hln ⊢
  obtain ⟨m, hm⟩ : ∃ m, (ordN N false).length = m := ⟨_, rfl⟩
  rw [hm] at HCB hol ⊢
  have HLN : Hid (P.length ≤ 48) := Lib.hid (by omega)
  have hp48 := HLN.out
  clear hP hm hln
  go_wp2
  go_loopw [5] (fun i wr => ∃ k : Nat, k ≤ P.length ∧ i = .int .i64 k ∧ (∀ j, j < k → P.getD j 0 = 0) ∧ w2 = wr) (fun i _ => P.length - (intOf i).toNat)
  case atStart => exact ⟨0, Nat.zero_le _, rfl, fun j hj => absurd hj (by omega), rfl⟩
  case round =>
    obtain ⟨k, hk, rfl, hno, rfl⟩ := hrel
    have HNO := Lib.hid hno
    clear hno
    by_cases hlt : k < P.length
    · obtain ⟨b, off, rfl, _, hc⟩ := R2.out.2 (by omega)
      have x0 := hc k hlt
      have HM := Lib.hid (getL_mem (d := (0 : Int)) hlt)
      have HST : Hid (P.getD k 0 = 0 → ∀ j, j < k + 1 → P.getD j 0 = 0) := Lib.hid fun e j hj => by
        by_cases e2 : j < k
        · exact HNO.out j e2
        · obtain rfl : j = k := by omega
          exact e
      generalize P.getD k 0 = z at *
      clear hc
      by_cases hz : z = 0
      · have d1 : (z != 0) = false := by simp [hz]
        have HS := Lib.hid (HST.out hz)
        clear hz
        go_wp2
        go_roundw
        case rel => exact ⟨k + 1, by omega, by go_num, HS.out, by first | rfl | trivial⟩
        case measure => simp [intOf]; omega
      · have d1 : (z != 0) = true := by simp [hz]
        have HE : Hid (false = res) := Lib.hid (by
          rw [HCB.out]
          have : P.all (fun x => decide (x = 0)) = false := by
            rw [List.all_eq_false]
            exact ⟨z, HM.out, by simpa using hz⟩
          rw [this]; rfl)
        clear hz
        go_wp2
        go_ret
        exact ⟨ret_bool HE.out, HB2.out⟩
    · have hkl : k = P.length := by omega
      have hall : P.all (fun x => decide (x = 0)) = true := by
        rw [List.all_eq_true]
        intro x hx
        obtain ⟨j, hj, rfl⟩ := List.getElem_of_mem hx
        have := HNO.out j (by omega)
        rw [List.getD_eq_getElem?_getD, List.getElem?_eq_getElem hj] at this
        exact decide_eq_true this
      have HC2 : Hid (res = (decide (m = N.l.length) && decide (0 < m))) := Lib.hid (by rw [HCB.out, hall, Bool.true_and])
      obtain ⟨y0, y1, y2⟩ := HK.out _ B2.out
      clear hall
      subst hkl
      by_cases hm1 : m = N.l.length
      · have d1 : ((m : Int) == (N.l.length : Int)) = true := by simp [hm1]
        by_cases hm2 : 0 < m
        · have HE : Hid (true = res) := Lib.hid (by rw [HC2.out, decide_eq_true hm1, decide_eq_true hm2]; rfl)
          have d2 : decide ((0 : Int) < (m : Int)) = true := decide_eq_true (by omega)
          clear hm1
          go_wp2
          go_ret
          exact ⟨ret_bool HE.out, HB2.out⟩
        · have HE : Hid (false = res) := Lib.hid (by rw [HC2.out, decide_eq_true hm1, decide_eq_false hm2]; rfl)
          have d2 : decide ((0 : Int) < (m : Int)) = false := decide_eq_false (by omega)
          have d3 : decide (0 < m) = false := decide_eq_false hm2
          clear hm1
          go_wp2
          go_ret
          exact ⟨ret_bool HE.out, HB2.out⟩
      · have d1 : ((m : Int) == (N.l.length : Int)) = false := by simp; omega
        have HE : Hid (false = res) := Lib.hid (by rw [HC2.out, decide_eq_false hm1]; rfl)
        clear hm1
        go_wp2
        go_ret
        exact ⟨ret_bool HE.out, HB2.out⟩
set_option maxRecDepth 100000 in
set_option maxHeartbeats 2000000 in
theorem sParsing_any (h : NH) (N : Nt) (w : World) (r : RdN w w.heap.size h N) (hn : N.w.length ≤ 1048576) (hl : N.l.length ≤ 1048576) (hc : N.c.length ≤ 1048576) :
    Calls Tryd.prog 8 #[.agg #[.slice h.A N.w.length h.c, .slice h.L N.l.length h.d, .slice h.C N.c.length h.e]] w fun e w' => e = .returned (.bool (cbV N)) ∧ Below w.heap.size w w' := by
  obtain ⟨w0, hw0⟩ : ∃ w0, w0 = w.alloc (.cells #[.slice h.A N.w.length h.c, .slice h.L N.l.length h.d, .slice h.C N.c.length h.e] 31) := ⟨_, rfl⟩
  obtain ⟨hb, hh, hsz⟩ := box3_any w (.slice h.A N.w.length h.c) (.slice h.L N.l.length h.d) (.slice h.C N.c.length h.e) 31
  rw [← hw0] at hb hh hsz
  have hs0 : w.heap.size + 1 ≤ w0.heap.size := by omega
  have HK : Hid (∀ w', Below w0.heap.size w0 w' → w'.cell? ⟨w.heap.size, 0, none⟩ = some (.slice h.A N.w.length h.c) ∧ w'.cell? ⟨w.heap.size, 1, none⟩ = some (.slice h.L N.l.length h.d) ∧ w'.cell? ⟨w.heap.size, 2, none⟩ = some (.slice h.C N.c.length h.e)) := Lib.hid fun w' hw => three_cells ((hw.block _ (by omega)).trans hh)
  have HR := Lib.hid (fun (w' : World) (hw : Below w0.heap.size w0 w') => ((r.below (hb.trans (hw.mono hb.size))).more (Nat.le_trans hb.size hw.size)))
  have HB0 := Lib.hid hb
  have HV := Lib.hid (sValidNet_any h N w0 (HR.out _ (Below.refl _ _)) hn hl hc)
  have HCO := Lib.hid (fun (w' : World) (hw : Below w0.heap.size w0 w') (hv : valN N = true) => sCorrect_any h N w' hv (HR.out _ hw))
  obtain ⟨y0, y1, y2⟩ := three_cells hh
  clear hb hh hsz r
  cases hv : valN N with
  | false =>
    rw [hv] at HV
    have HE : Hid (false = cbV N) := Lib.hid (by unfold cbV; rw [hv]; rfl)
    clear hv HCO
    go_enter Tryd.func8, Tryd.ntmps8
    go_wp2_with (fail)
    rw [← hw0]
    clear hw0
    refine HV.out.mono ?_
    rintro e w1 ⟨rfl, bel1⟩
    have HB1 := Lib.hid (HB0.out.trans (bel1.mono HB0.out.size))
    clear bel1 y0 y1 y2
    go_wp2
    go_ret
    exact ⟨ret_bool HE.out, HB1.out⟩
  | true =>
    rw [hv] at HV
    have HVV := Lib.hid hv
    clear hv
    go_enter Tryd.func8, Tryd.ntmps8
    go_wp2_with (fail)
    rw [← hw0]
    clear hw0
    refine HV.out.mono ?_
    rintro e w1 ⟨rfl, bel1⟩
    have B1 := Lib.hid bel1
    clear bel1 y0 y1 y2
    obtain ⟨y0, y1, y2⟩ := HK.out _ B1.out
    go_wp2_with (fail)
    refine (HCO.out w1 B1.out HVV.out).mono ?_
    rintro e w2 ⟨rfl, bel2⟩
    have HB2 := Lib.hid (HB0.out.trans ((B1.out.trans (bel2.mono B1.out.size)).mono HB0.out.size))
    clear bel2
    go_wp2
    go_ret
    exact ⟨rfl, HB2.out⟩
end Go.Proofs.YtgpocnapkflihaaDoor
