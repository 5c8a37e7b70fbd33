/- The model: StuckLinks, l13Correct, CorrectByParsing. Made by mkpbd.py. -/
import Derived.Test.YtedigjkmolnjcaaDoorPbC
import Derived.Deep.RegionHeldLaw
import Derived.Deep.DeepCutAuto
import Derived.Maps.AppendAt
import Derived.BigQuiet
namespace Go.Proofs.YtedigjkmolnjcaaDoor
set_option linter.unusedSimpArgs false
set_option linter.unusedVariables false
open Go.ChangeAt Go.ChangeShapes Go.RowKit Go.WideShapes

theorem stU_yes {N : Nt} {fs : List Int} {k : Nat} (h : fs.contains (k : Int) = false) : stU N fs (k + 1) = stU N fs k ++ [(k : Int)] := by
  unfold stU
  rw [List.range_succ, List.map_append, List.filter_append]
  simp only [List.map_cons, List.map_nil, List.filter_cons, List.filter_nil, h, Bool.not_false, if_true]
theorem stU_no {N : Nt} {fs : List Int} {k : Nat} (h : fs.contains (k : Int) = true) : stU N fs (k + 1) = stU N fs k := by
  unfold stU
  rw [List.range_succ, List.map_append, List.filter_append]
  simp only [List.map_cons, List.map_nil, List.filter_cons, List.filter_nil, h, Bool.not_true]
  simp
theorem stU_len (N : Nt) (fs : List Int) (k : Nat) : (stU N fs k).length ≤ k := by
  unfold stU
  exact Nat.le_trans (List.length_filter_le _ _) (by simp)
theorem ordF_isF {N : Nt} {last : Bool} : ∀ (n : Nat) (fs : List Int), isF N fs = true → isF N (ordF N last n fs) = true
  | 0, fs, h => h
  | n + 1, fs, h => by
    unfold ordF
    by_cases e : allQ N fs = []
    · rw [if_pos e]; exact h
    · rw [if_neg e]
      exact ordF_isF n _ (isF_snoc h (allQ_ok (pkF_mem e)))
theorem ord_isF (N : Nt) (last : Bool) : isF N (ordN N last) = true := ordF_isF _ [] rfl
set_option maxRecDepth 100000 in
set_option maxHeartbeats 2000000 in
theorem sStuck_any (h : NH) (N : Nt) (w : World) (r : RdN w w.heap.size h N) (hn : N.w.length ≤ 1048576) (hl : N.l.length ≤ 1048576) (hc : N.c.length ≤ 1048576) :
    Calls Tryd.prog 31 #[.agg #[.slice h.A N.w.length h.c, .slice h.L N.l.length h.d, .slice h.C N.c.length h.e]] w (Gives w (stV N)) := by
  obtain ⟨i0, hi0, hz0, hz1, hz2⟩ := info_parts info_i64
  have HI := Lib.hid hi0; have HZ0 := Lib.hid hz0; have HZ1 := Lib.hid hz1; have HZ2 := Lib.hid hz2
  obtain ⟨w0, hw0⟩ : ∃ w0, w0 = w.alloc (.cells #[.slice h.A N.w.length h.c, .slice h.L N.l.length h.d, .slice h.C N.c.length h.e] 31) := ⟨_, rfl⟩
  obtain ⟨hb, hh, hsz⟩ := box3_any w (.slice h.A N.w.length h.c) (.slice h.L N.l.length h.d) (.slice h.C N.c.length h.e) 31
  rw [← hw0] at hb hh hsz
  have hs0 : w.heap.size + 1 ≤ w0.heap.size := by omega
  have HK : Hid (∀ w', Below w0.heap.size w0 w' → w'.cell? ⟨w.heap.size, 0, none⟩ = some (.slice h.A N.w.length h.c) ∧ w'.cell? ⟨w.heap.size, 1, none⟩ = some (.slice h.L N.l.length h.d) ∧ w'.cell? ⟨w.heap.size, 2, none⟩ = some (.slice h.C N.c.length h.e)) := Lib.hid fun w' hw => three_cells ((hw.block _ (by omega)).trans hh)
  have HR := Lib.hid (fun (w' : World) (hw : Below w0.heap.size w0 w') => ((r.below (hb.trans (hw.mono hb.size))).more (Nat.le_trans hb.size hw.size)))
  have HB0 := Lib.hid hb
  have hg0 : w0.heap.size = w.heap.size + 1 := by omega
  have hb1 : Below w0.heap.size w0 (w0.alloc (.cells #[] 2)) := (Below.refl _ _).alloc (Nat.le_refl _) _
  have hz1' : (w0.alloc (.cells #[] 2)).heap.size = w0.heap.size + 1 := by simp
  have h0 : (w0.alloc (.cells #[] 2)).ownsRow w0.heap.size 2 1 (.slice (some ⟨w0.heap.size, 0, none⟩) 0 0) 0 (([] : List Int).map (Value.int .i64)) := World.ownsRow_made w0 #[] 0 (Nat.le_refl _) (by simp [maxLen]) rfl
  obtain ⟨w1, hw1⟩ : ∃ w1, w1 = w0.alloc (.cells #[] 2) := ⟨_, rfl⟩
  rw [← hw1] at hb1 h0 hz1'
  have HV := Lib.hid (sValidNet_any h N w1 (HR.out _ hb1) hn hl hc)
  have HOR := Lib.hid (fun (w' : World) (hw : Below w0.heap.size w0 w') (hv : valN N = true) => sOrder_any h N false w' hv (HR.out _ hw))
  have H0 := Lib.hid h0; have HB1 := Lib.hid hb1; have HW1 := Lib.hid hw1; have HS1 := Lib.hid hz1'
  obtain ⟨y0, y1, y2⟩ := HK.out _ hb1
  clear hb hh hsz r hi0 hz0 hz1 hz2 h0 hb1 hg0 hw1 hz1'
  cases hv : valN N with
  | false =>
    rw [hv] at HV
    have HVV := Lib.hid hv
    clear hv HOR
    go_enter Tryd.func31, Tryd.ntmps31
    go_upto_region 1 with (fail)
    rw [← hw0]
    clear hw0
    go_upto_region 2 with (fail)
    rw [← HW1.out]
    go_wp2_with (fail)
    refine HV.out.mono ?_
    rintro e w2 ⟨rfl, bel2⟩
    have HG : Hid (Gives w (stV N) (.returned (.slice (some ⟨w0.heap.size, 0, none⟩) 0 0)) w2) := Lib.hid (by
      rw [show stV N = [] from if_neg (by rw [HVV.out]; decide)]
      exact ⟨_, 0, rfl, (own_below H0.out bel2 (Nat.le_refl _)).mono HB0.out.size, HB0.out.trans ((HB1.out.trans (bel2.mono HB1.out.size)).mono HB0.out.size)⟩)
    clear bel2 y0 y1 y2
    go_wp2
    go_ret
    exact HG.out
  | true =>
    rw [hv] at HV
    have HVV := Lib.hid hv
    have h48l := (valN_size hv).2
    clear hv
    go_enter Tryd.func31, Tryd.ntmps31
    go_upto_region 1 with (fail)
    rw [← hw0]
    clear hw0
    go_upto_region 2 with (fail)
    rw [← HW1.out]
    go_wp2_with (fail)
    refine HV.out.mono ?_
    rintro e w2 ⟨rfl, bel2⟩
    have B2 := Lib.hid (HB1.out.trans (bel2.mono HB1.out.size))
    have H02 := Lib.hid (own_below H0.out bel2 (Nat.le_refl _))
    have hs12 := bel2.size
    clear bel2 y0 y1 y2
    obtain ⟨y0, y1, y2⟩ := HK.out _ B2.out
    go_wp2_with (fail)
    refine (HOR.out w2 B2.out HVV.out).mono ?_
    rintro e w3 ⟨A2, c2, rfl, own2, bel3⟩
    have B3 := Lib.hid (B2.out.trans (bel3.mono B2.out.size))
    have H03 := Lib.hid (own_below H02.out bel3 (Nat.le_refl _))
    have O2 := Lib.hid own2
    have HLT := Lib.hid (fun q (e : Value.ownBlock (.slice A2 (ordN N false).length c2) = some q) => own2.lt q e)
    have hol := (isF_ok (ord_isF N false)).len
    have HF0 : Hid (∀ q, Value.ownBlock (.slice (some ⟨w0.heap.size, 0, none⟩) 0 0) = some q → q < w2.heap.size ∨ w3.heap.size ≤ q) := Lib.hid fun q e => .inl (by have := (H0.out.lt q e).2; omega)
    clear own2 bel3 y0 y1 y2 H02 hs12
    obtain ⟨fs, hfs⟩ : ∃ fs, ordN N false = fs := ⟨_, rfl⟩
    have HVS : Hid (stV N = stU N fs N.l.length) := Lib.hid (by rw [← hfs]; exact if_pos HVV.out)
    rw [hfs] at O2 HLT hol ⊢
    clear hfs
    go_wp2
    go_loopw [3, 5] (fun v i wx => ∃ k : Nat, k ≤ N.l.length ∧ i = .int .i64 k ∧ wx.ownsRow w0.heap.size 2 1 v (stU N fs k).length ((stU N fs k).map (Value.int .i64)) ∧ Below w0.heap.size w0 wx ∧ wx.ownsRow w2.heap.size 2 1 (.slice A2 fs.length c2) fs.length (fs.map (Value.int .i64)) ∧ (∀ q, v.ownBlock = some q → q < w2.heap.size ∨ w3.heap.size ≤ q) ∧ w3.heap.size ≤ wx.heap.size) (fun _ i _ => N.l.length - (intOf i).toNat)
    case atStart => exact ⟨0, Nat.zero_le _, rfl, H03.out, B3.out, O2.out, HF0.out, Nat.le_refl _⟩
    case round =>
      obtain ⟨k, hk, rfl, hO, hB, hP, hF, hZ⟩ := hrel
      clear H03 B3 O2 HF0
      obtain ⟨y0, y1, y2⟩ := HK.out _ hB
      have HO := Lib.hid hO; have HB := Lib.hid hB; have HP := Lib.hid hP; have HF := Lib.hid hF; have HZ := Lib.hid hZ
      clear hO hB hP hF hZ
      by_cases hlt : k < N.l.length
      · have hln := stU_len N fs k
        have HYE := Lib.hid (fun e => stU_yes (N := N) (fs := fs) (k := k) e)
        have HNO := Lib.hid (fun e => stU_no (N := N) (fs := fs) (k := k) e)
        have HHAS := Lib.hid (sHasP_any A2 fs.length c2 fs (k : Int) wr (by omega) (RdI.of_own HP.out))
        generalize fs.contains (k : Int) = ct at *
        cases ct with
        | true =>
          have HS := Lib.hid (HNO.out rfl)
          go_wp2_with (fail)
          refine HHAS.out.mono ?_
          rintro e wz ⟨rfl, rfl⟩
          have ho1 := HO.out
          rw [← HS.out] at ho1
          have HO1 := Lib.hid ho1
          clear ho1
          go_wp2
          go_roundw
          case rel => exact ⟨k + 1, by omega, by go_num, HO1.out, HB.out, HP.out, HF.out, HZ.out⟩
          case measure => simp [intOf]; omega
        | false =>
          have HS := Lib.hid (HYE.out rfl)
          have HLN : Hid ((stU N fs (k + 1)).length = (stU N fs k).length + 1) := Lib.hid (by rw [HS.out]; simp)
          have hsz9 := HB.out.size
          go_wp2_with (fail)
          refine HHAS.out.mono ?_
          rintro e wz ⟨rfl, rfl⟩
          go_wp2_with (at_builtin; refine wpList_append_own_at _ rfl _ _ 24 rfl w0.heap.size 2 i0 (.int .i64 0) 1 8 Tryd.underlying24 HI.out HZ0.out HZ1.out HZ2.out rfl (by decide) _ _ _ rfl (HO.out.alloc _) ⟨_, 0, none⟩ 1 1 [.int .i64 k] rfl rfl ?c1 ?c2 ?c3 ?c4 ?c5 ?_)
          case c1 => exact cell_one_new _ _ _
          case c2 => intro u hu; simp at hu; subst hu; rfl
          case c3 => unfold maxLen; omega
          case c4 => omega
          case c5 => simp; omega
          intro v' w9 hown' hgrow _ hat
          have hb2 := Lib.hid ((HB.out.alloc hsz9 (.cells #[.int .i64 k] 2)).grown hgrow (by simp; omega) (fun q hq => (HO.out.lt q hq).1))
          have hown2 : w9.ownsRow w0.heap.size 2 1 v' (stU N fs (k + 1)).length ((stU N fs (k + 1)).map (Value.int .i64)) := by
            rw [HLN.out, HS.out, List.map_append]; exact hown'
          have hown1 := Lib.hid hown2
          have hs3 := HZ.out
          have hal := @World.size_alloc
          have HP9 := Lib.hid (own_same HP.out fun q e => by
            have hq := HLT.out q e
            rw [hgrow.block q (by simp; omega) (fun e2 => by rcases HF.out q e2.symm with h | h <;> omega)]
            exact ((Below.refl _ _).alloc (Nat.le_refl _) _).block q (by omega))
          have HF9 : Hid (∀ q, v'.ownBlock = some q → q < w2.heap.size ∨ w3.heap.size ≤ q) := Lib.hid fun q e => by
            rcases hat with h | h
            · exact HF.out q (h ▸ e)
            · rw [h] at e; injection e with e; exact .inr (by omega)
          have HZ9 : Hid (w3.heap.size ≤ w9.heap.size) := Lib.hid (by have := hgrow.size; simp at this; omega)
          clear hown' hgrow hown2 hsz9 hat hs3 hal
          go_wp2
          go_roundw
          case rel => exact ⟨k + 1, by omega, by go_num, hown1.out, hb2.out, HP9.out, HF9.out, HZ9.out⟩
          case measure => simp [intOf]; omega
      · have hkn : k = N.l.length := by omega
        have ho1 := HO.out
        rw [hkn] at ho1
        obtain ⟨A, c, rfl⟩ := own_shapeL ho1
        have HG : Hid (Gives w (stV N) (.returned (.slice A (stU N fs N.l.length).length c)) wr) := Lib.hid (by
          rw [HVS.out]
          exact ⟨A, c, rfl, ho1.mono HB0.out.size, HB0.out.trans (HB.out.mono HB0.out.size)⟩)
        subst hkn
        clear ho1 HO HB HP HVS
        generalize (stU N fs N.l.length).length = ql at *
        go_wp2
        go_ret
        exact HG.out
/-- What the model asks of the order's end. -/
theorem cb_is {N : Nt} (hv : valN N = true) : cbV N = ((paU N (ordN N false) N.w.length).all (fun x => decide (x = 0)) && (decide ((ordN N false).length = N.l.length) && decide (0 < (ordN N false).length))) := by
  have h1 := one_part hv (isF_ok (ord_isF N false))
  unfold cbV
  rw [hv, Bool.true_and, Bool.eq_iff_iff]
  simp only [Bool.and_eq_true, decide_eq_true_eq, List.all_eq_true]
  rw [h1]
  refine and_congr_left fun _ => ?_
  constructor
  · intro h x hx
    obtain ⟨k, hk, rfl⟩ := List.mem_map.1 hx
    exact h k (List.mem_range.1 hk)
  · intro h x hx
    exact h _ (List.mem_map.2 ⟨x, List.mem_range.2 hx, rfl⟩)
set_option maxRecDepth 100000 in
set_option maxHeartbeats 2000000 in
theorem sCorrect_any (h : NH) (N : Nt) (w : World) (hv : valN N = true) (r : RdN w w.heap.size h N) :
    Calls Tryd.prog 65 #[.agg #[.slice h.A N.w.length h.c, .slice h.L N.l.length h.d, .slice h.C N.c.length h.e]] w fun e w' => e = .returned (.bool (cbV N)) ∧ Below w.heap.size w w' := by
  obtain ⟨h48, h48l⟩ := valN_size hv
  obtain ⟨w0, hw0⟩ : ∃ w0, w0 = w.alloc (.cells #[.slice h.A N.w.length h.c, .slice h.L N.l.length h.d, .slice h.C N.c.length h.e] 31) := ⟨_, rfl⟩
  obtain ⟨hb, hh, hsz⟩ := box3_any w (.slice h.A N.w.length h.c) (.slice h.L N.l.length h.d) (.slice h.C N.c.length h.e) 31
  rw [← hw0] at hb hh hsz
  have hs0 : w.heap.size + 1 ≤ w0.heap.size := by omega
  have HK : Hid (∀ w', Below w0.heap.size w0 w' → w'.cell? ⟨w.heap.size, 0, none⟩ = some (.slice h.A N.w.length h.c) ∧ w'.cell? ⟨w.heap.size, 1, none⟩ = some (.slice h.L N.l.length h.d) ∧ w'.cell? ⟨w.heap.size, 2, none⟩ = some (.slice h.C N.c.length h.e)) := Lib.hid fun w' hw => three_cells ((hw.block _ (by omega)).trans hh)
  have HR := Lib.hid (fun (w' : World) (hw : Below w0.heap.size w0 w') => ((r.below (hb.trans (hw.mono hb.size))).more (Nat.le_trans hb.size hw.size)))
  have HB0 := Lib.hid hb
  have HOR := Lib.hid (sOrder_any h N false w0 hv (HR.out _ (Below.refl _ _)))
  have HPA := Lib.hid (fun (A : Option Addr) (c : Nat) (wx : World) (hx : Below w0.heap.size w0 wx) rF => sParts_any h N (ordN N false) A c wx hv (ord_isF N false) (HR.out _ hx) rF)
  have HCB := Lib.hid (cb_is hv)
  have hol := (isF_ok (ord_isF N false)).len
  obtain ⟨y0, y1, y2⟩ := three_cells hh
  clear hb hh hsz r hv
  generalize cbV N = res at *
  go_enter Tryd.func65, Tryd.ntmps65
  go_wp2_with (fail)
  rw [← hw0]
  clear hw0
  refine HOR.out.mono ?_
  rintro e w1 ⟨A1, c1, rfl, own1, bel1⟩
  have B1 := Lib.hid bel1
  have R1 := Lib.hid (RdI.of_own own1)
  clear own1 bel1 y0 y1 y2
  obtain ⟨y0, y1, y2⟩ := HK.out _ B1.out
  go_wp2_with (fail)
  refine (HPA.out A1 c1 w1 B1.out R1.out).mono ?_
  rintro e w2 ⟨A2, c2, rfl, own2, bel2⟩
  have B2 := Lib.hid (B1.out.trans (bel2.mono B1.out.size))
  have R2 := Lib.hid (RdI.of_own own2)
  have HB2 := Lib.hid (HB0.out.trans (B2.out.mono HB0.out.size))
  clear own2 bel2 y0 y1 y2 R1 HPA HOR
  have hln : (paU N (ordN N false) N.w.length).length = N.w.length := paU_len _ _ _
  obtain ⟨P, hP⟩ : ∃ P, paU N (ordN N false) N.w.length = P := ⟨_, rfl⟩
  rw [hP] at R2 HCB hln ⊢
  obtain ⟨m, hm⟩ : ∃ m, (ordN N false).length = m := ⟨_, rfl⟩
  rw [hm] at HCB hol ⊢
  have HLN : Hid (P.length ≤ 48) := Lib.hid (by omega)
  have hp48 := HLN.out
  clear hP hm hln
  go_wp2
  go_loopw [5] (fun i wr => ∃ k : Nat, k ≤ P.length ∧ i = .int .i64 k ∧ (∀ j, j < k → P.getD j 0 = 0) ∧ w2 = wr) (fun i _ => P.length - (intOf i).toNat)
  case atStart => exact ⟨0, Nat.zero_le _, rfl, fun j hj => absurd hj (by omega), rfl⟩
  case round =>
    obtain ⟨k, hk, rfl, hno, rfl⟩ := hrel
    have HNO := Lib.hid hno
    clear hno
    by_cases hlt : k < P.length
    · obtain ⟨b, off, rfl, _, hc⟩ := R2.out.2 (by omega)
      have x0 := hc k hlt
      have HM := Lib.hid (getL_mem (d := (0 : Int)) hlt)
      have HST : Hid (P.getD k 0 = 0 → ∀ j, j < k + 1 → P.getD j 0 = 0) := Lib.hid fun e j hj => by
        by_cases e2 : j < k
        · exact HNO.out j e2
        · obtain rfl : j = k := by omega
          exact e
      generalize P.getD k 0 = z at *
      clear hc
      by_cases hz : z = 0
      · have d1 : (z != 0) = false := by simp [hz]
        have HS := Lib.hid (HST.out hz)
        clear hz
        go_wp2
        go_roundw
        case rel => exact ⟨k + 1, by omega, by go_num, HS.out, by first | rfl | trivial⟩
        case measure => simp [intOf]; omega
      · have d1 : (z != 0) = true := by simp [hz]
        have HE : Hid (false = res) := Lib.hid (by
          rw [HCB.out]
          have : P.all (fun x => decide (x = 0)) = false := by
            rw [List.all_eq_false]
            exact ⟨z, HM.out, by simpa using hz⟩
          rw [this]; rfl)
        clear hz
        go_wp2
        go_ret
        exact ⟨ret_bool HE.out, HB2.out⟩
    · have hkl : k = P.length := by omega
      have hall : P.all (fun x => decide (x = 0)) = true := by
        rw [List.all_eq_true]
        intro x hx
        obtain ⟨j, hj, rfl⟩ := List.getElem_of_mem hx
        have := HNO.out j (by omega)
        rw [List.getD_eq_getElem?_getD, List.getElem?_eq_getElem hj] at this
        exact decide_eq_true this
      have HC2 : Hid (res = (decide (m = N.l.length) && decide (0 < m))) := Lib.hid (by rw [HCB.out, hall, Bool.true_and])
      obtain ⟨y0, y1, y2⟩ := HK.out _ B2.out
      clear hall
      subst hkl
      by_cases hm1 : m = N.l.length
      · have d1 : ((m : Int) == (N.l.length : Int)) = true := by simp [hm1]
        by_cases hm2 : 0 < m
        · have HE : Hid (true = res) := Lib.hid (by rw [HC2.out, decide_eq_true hm1, decide_eq_true hm2]; rfl)
          have d2 : decide ((0 : Int) < (m : Int)) = true := decide_eq_true (by omega)
          clear hm1
          go_wp2
          go_ret
          exact ⟨ret_bool HE.out, HB2.out⟩
        · have HE : Hid (false = res) := Lib.hid (by rw [HC2.out, decide_eq_true hm1, decide_eq_false hm2]; rfl)
          have d2 : decide ((0 : Int) < (m : Int)) = false := decide_eq_false (by omega)
          have d3 : decide (0 < m) = false := decide_eq_false hm2
          clear hm1
          go_wp2
          go_ret
          exact ⟨ret_bool HE.out, HB2.out⟩
      · have d1 : ((m : Int) == (N.l.length : Int)) = false := by simp; omega
        have HE : Hid (false = res) := Lib.hid (by rw [HC2.out, decide_eq_false hm1]; rfl)
        clear hm1
        go_wp2
        go_ret
        exact ⟨ret_bool HE.out, HB2.out⟩
set_option maxRecDepth 100000 in
set_option maxHeartbeats 2000000 in
theorem sParsing_any (h : NH) (N : Nt) (w : World) (r : RdN w w.heap.size h N) (hn : N.w.length ≤ 1048576) (hl : N.l.length ≤ 1048576) (hc : N.c.length ≤ 1048576) :
    Calls Tryd.prog 33 #[.agg #[.slice h.A N.w.length h.c, .slice h.L N.l.length h.d, .slice h.C N.c.length h.e]] w fun e w' => e = .returned (.bool (cbV N)) ∧ Below w.heap.size w w' := by
  obtain ⟨w0, hw0⟩ : ∃ w0, w0 = w.alloc (.cells #[.slice h.A N.w.length h.c, .slice h.L N.l.length h.d, .slice h.C N.c.length h.e] 31) := ⟨_, rfl⟩
  obtain ⟨hb, hh, hsz⟩ := box3_any w (.slice h.A N.w.length h.c) (.slice h.L N.l.length h.d) (.slice h.C N.c.length h.e) 31
  rw [← hw0] at hb hh hsz
  have hs0 : w.heap.size + 1 ≤ w0.heap.size := by omega
  have HK : Hid (∀ w', Below w0.heap.size w0 w' → w'.cell? ⟨w.heap.size, 0, none⟩ = some (.slice h.A N.w.length h.c) ∧ w'.cell? ⟨w.heap.size, 1, none⟩ = some (.slice h.L N.l.length h.d) ∧ w'.cell? ⟨w.heap.size, 2, none⟩ = some (.slice h.C N.c.length h.e)) := Lib.hid fun w' hw => three_cells ((hw.block _ (by omega)).trans hh)
  have HR := Lib.hid (fun (w' : World) (hw : Below w0.heap.size w0 w') => ((r.below (hb.trans (hw.mono hb.size))).more (Nat.le_trans hb.size hw.size)))
  have HB0 := Lib.hid hb
  have HV := Lib.hid (sValidNet_any h N w0 (HR.out _ (Below.refl _ _)) hn hl hc)
  have HCO := Lib.hid (fun (w' : World) (hw : Below w0.heap.size w0 w') (hv : valN N = true) => sCorrect_any h N w' hv (HR.out _ hw))
  obtain ⟨y0, y1, y2⟩ := three_cells hh
  clear hb hh hsz r
  cases hv : valN N with
  | false =>
    rw [hv] at HV
    have HE : Hid (false = cbV N) := Lib.hid (by unfold cbV; rw [hv]; rfl)
    clear hv HCO
    go_enter Tryd.func33, Tryd.ntmps33
    go_wp2_with (fail)
    rw [← hw0]
    clear hw0
    refine HV.out.mono ?_
    rintro e w1 ⟨rfl, bel1⟩
    have HB1 := Lib.hid (HB0.out.trans (bel1.mono HB0.out.size))
    clear bel1 y0 y1 y2
    go_wp2
    go_ret
    exact ⟨ret_bool HE.out, HB1.out⟩
  | true =>
    rw [hv] at HV
    have HVV := Lib.hid hv
    clear hv
    go_enter Tryd.func33, Tryd.ntmps33
    go_wp2_with (fail)
    rw [← hw0]
    clear hw0
    refine HV.out.mono ?_
    rintro e w1 ⟨rfl, bel1⟩
    have B1 := Lib.hid bel1
    clear bel1 y0 y1 y2
    obtain ⟨y0, y1, y2⟩ := HK.out _ B1.out
    go_wp2_with (fail)
    refine (HCO.out w1 B1.out HVV.out).mono ?_
    rintro e w2 ⟨rfl, bel2⟩
    have HB2 := Lib.hid (HB0.out.trans ((B1.out.trans (bel2.mono B1.out.size)).mono HB0.out.size))
    clear bel2
    go_wp2
    go_ret
    exact ⟨rfl, HB2.out⟩
end Go.Proofs.YtedigjkmolnjcaaDoor
