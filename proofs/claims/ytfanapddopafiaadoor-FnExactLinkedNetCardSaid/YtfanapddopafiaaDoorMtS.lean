/- The model's IsMates. -/
import Derived.Test.YtfanapddopafiaaDoorMtM
import Derived.Test.YtfanapddopafiaaDoorQNetK
import Derived.Deep.AppendLies
import Derived.BigQuiet
namespace Go.Proofs.YtfanapddopafiaaDoor
set_option linter.unusedSimpArgs false
set_option linter.unusedVariables false
open Go.ChangeAt Go.ChangeShapes Go.RowKit Go.WideShapes

set_option maxRecDepth 100000 in
set_option maxHeartbeats 1000000 in
theorem sLeavesQ_any (A : Option Addr) (n c : Nat) (qs : List (List Int)) (w : World) (h : RdQ w w.heap.size A n qs) (hn : n ≤ 10) (hf : ∀ k, k < qs.length → formN (qs.getD k []) = true) :
    Calls Tryd.prog 91 #[.agg #[.slice A n c]] w (Gives w (lvQ qs)) := by
  have hl := h.len
  subst hl
  obtain ⟨i0, hi0, hz0, hz1, hz2⟩ := info_parts info_i64
  have HI := Lib.hid hi0; have HZ0 := Lib.hid hz0; have HZ1 := Lib.hid hz1; have HZ2 := Lib.hid hz2
  obtain ⟨w0, hw0⟩ : ∃ w0, w0 = w.alloc (.cells #[.slice A qs.length c] 47) := ⟨_, rfl⟩
  have hb := box_below w (.slice A qs.length c) 47
  have p0 : (w.alloc (.cells #[.slice A qs.length c] 47)).heap[w.heap.size]? = some (.cells #[.slice A qs.length c] 47 (0, 0)) := heap_alloc_new _ _
  have hsz : (w.alloc (.cells #[.slice A qs.length c] 47)).heap.size = w.heap.size + 1 := by simp
  rw [← hw0] at hb p0 hsz
  have hs0 : w.heap.size + 1 ≤ w0.heap.size := by omega
  have HK : Hid (∀ wx : World, Below w0.heap.size w0 wx → wx.cell? ⟨w.heap.size, 0, none⟩ = some (.slice A qs.length c)) := Lib.hid fun wx hx => cell_of_row _ _ 0 _ _ (0, 0) ((hx.block w.heap.size (by omega)).trans p0)
  have HR := Lib.hid (fun (wx : World) (hx : Below w0.heap.size w0 wx) => show RdQ wx wx.heap.size A qs.length qs from ((h.below (hb.trans (hx.mono hb.size))).more (Nat.le_trans hb.size hx.size)))
  have HB0 := Lib.hid hb
  have HF := Lib.hid hf
  have h0 : (w0.alloc (.cells #[] 2)).ownsRow w0.heap.size 2 1 (.slice (some ⟨w.heap.size + 1, 0, none⟩) 0 0) (lvK qs 0).length ((lvK qs 0).map (Value.int .i64)) := by rw [← hsz]; exact World.ownsRow_made w0 #[] 0 (Nat.le_refl _) (by simp [maxLen]) rfl
  have hb1 : Below w0.heap.size w0 (w0.alloc (.cells #[] 2)) := (Below.refl _ _).alloc (Nat.le_refl _) _
  have H0 := Lib.hid h0; have HB1 := Lib.hid hb1
  clear hb p0 hsz h hf hi0 hz0 hz1 hz2 h0 hb1
  go_enter Tryd.func91, Tryd.ntmps91
  go_wp2
  rw [← hw0]
  clear hw0
  go_loopw [3, 4] (fun v i wr => ∃ k : Nat, k ≤ qs.length ∧ i = .int .i64 k ∧ wr.ownsRow w0.heap.size 2 1 v (lvK qs k).length ((lvK qs k).map (Value.int .i64)) ∧ Below w0.heap.size w0 wr) (fun _ i _ => qs.length - (intOf i).toNat)
  case atStart => exact ⟨0, Nat.zero_le _, rfl, H0.out, HB1.out⟩
  case round =>
    obtain ⟨k, hk, rfl, hown, hB⟩ := hrel
    clear H0 HB1
    have y0 := HK.out _ hB
    by_cases hlt : k < qs.length
    · obtain ⟨b, off, hA, hbb, hcells⟩ := (HR.out _ hB).2 (by omega)
      obtain ⟨A', c', hcell, hcc, hrd⟩ := hcells k hlt
      have hfk := HF.out k hlt
      have hul := lvK_len qs k
      have hll := leavesL_len (qs.getD k [])
      have HX := Lib.hid (leavesL_pos hfk)
      have HSU := Lib.hid (lvK_succ (qs := qs) hlt)
      have HL := Lib.hid (sLeavesOf_any A' (qs.getD k []).length c' (qs.getD k []) wr hrd)
      have HO := Lib.hid hown; have HB := Lib.hid hB
      rw [hA] at y0
      generalize qs.getD k [] = q at *
      have hsz2 := hB.size
      clear hown hB hcells hA hrd hfk
      go_wp2_with (fail)
      refine HL.out.mono ?_
      rintro e w4 ⟨A2, c2, rfl, own2, bel2⟩
      obtain ⟨g2, cap2, hv2, hg2, _⟩ := own2.form HX.out
      have hA2 : A2 = some ⟨g2, 0, none⟩ ∧ c2 = cap2 := by injection hv2 with a b c'; exact ⟨a, c'⟩
      obtain ⟨rfl, rfl⟩ := hA2
      have HB4 := Lib.hid (HB.out.trans (bel2.mono HB.out.size))
      have HO4 := Lib.hid (own_below HO.out bel2 (Nat.le_refl _))
      have OW2 := Lib.hid own2
      have hsz4 := bel2.size
      have HS4 : Hid (w0.heap.size ≤ w4.heap.size) := Lib.hid (by omega)
      obtain ⟨H4, hH4⟩ : ∃ q, w4.heap.size = q := ⟨_, rfl⟩
      have HH4 := Lib.hid hH4
      clear own2 bel2 hcell hv2 hH4 y0
      go_wp2_with (at_builtin; refine wpList_append_lies _ rfl _ _ 24 rfl w0.heap.size 2 i0 (.int .i64 0) 1 8 Tryd.underlying24 HI.out HZ0.out HZ1.out HZ2.out rfl (by decide) _ _ _ rfl HO4.out ⟨g2, 0, none⟩ (leavesL q).length c2 ((leavesL q).map (Value.int .i64)) rfl (by simp) (fun j u hu => OW2.out.cells rfl j u hu) (ints_one _) HX.out (by simp only [maxLen]; omega) (by omega) HS4.out H4 HH4.out ?_)
      intro g5 cap5 w5 own5 grow5 at5 lt5
      have bel5 := Lib.hid (HB4.out.grown grow5 HS4.out (fun q hq => (HO4.out.lt q hq).1))
      have HLS := Lib.hid (show (lvK qs (k + 1)).length = (lvK qs k).length + (leavesL q).length by rw [HSU.out, List.length_append])
      have O5 : Hid (w5.ownsRow w0.heap.size 2 1 (.slice (some ⟨g5, 0, none⟩) ((lvK qs k).length + (leavesL q).length) cap5) (lvK qs (k + 1)).length ((lvK qs (k + 1)).map (Value.int .i64))) := Lib.hid (by
        rw [HLS.out, HSU.out, List.map_append]; exact own5)
      clear own5 grow5 at5 lt5
      go_wp2
      go_roundw
      case rel => exact ⟨k + 1, by omega, by go_num, O5.out, bel5.out⟩
      case measure => simp [intOf]; omega
    · have hkl : k = qs.length := by omega
      subst hkl
      have HG := Lib.hid (gives_of hown rfl (show lvK qs qs.length = lvQ qs from rfl) (Nat.le_trans (Nat.le_succ _) hs0) (HB0.out.trans (hB.mono HB0.out.size)))
      clear hown hB
      go_wp2
      go_ret
      exact HG.out

set_option maxRecDepth 100000 in
set_option maxHeartbeats 2000000 in
theorem sIsMates_any (A B : Option Addr) (n c m d : Nat) (qs : List (List Int)) (M : List Int) (w : World) (h : RdQ w w.heap.size A n qs) (hM : RdI w w.heap.size B m M) (hn : n ≤ 1048576) (hnc : n ≤ c) (hm : m ≤ 1048576) :
    Calls Tryd.prog 56 #[.agg #[.slice A n c], .slice B m d] w fun e w' => e = .returned (.bool (imB qs M)) ∧ Below w.heap.size w w' := by
  have hl := h.len
  subst hl
  have hl2 := hM.len
  subst hl2
  obtain ⟨w0, hw0⟩ : ∃ w0, w0 = w.alloc (.cells #[.slice A qs.length c] 47) := ⟨_, rfl⟩
  have hb := box_below w (.slice A qs.length c) 47
  have p0 : (w.alloc (.cells #[.slice A qs.length c] 47)).heap[w.heap.size]? = some (.cells #[.slice A qs.length c] 47 (0, 0)) := heap_alloc_new _ _
  have hsz : (w.alloc (.cells #[.slice A qs.length c] 47)).heap.size = w.heap.size + 1 := by simp
  rw [← hw0] at hb p0 hsz
  have HK : Hid (∀ wx : World, Below w0.heap.size w0 wx → wx.cell? ⟨w.heap.size, 0, none⟩ = some (.slice A qs.length c)) := Lib.hid fun wx hx => cell_of_row _ _ 0 _ _ (0, 0) ((hx.block w.heap.size (by omega)).trans p0)
  have HR := Lib.hid (fun (wx : World) (hx : Below w0.heap.size w0 wx) => show RdQ wx wx.heap.size A qs.length qs from ((h.below (hb.trans (hx.mono hb.size))).more (Nat.le_trans hb.size hx.size)))
  have HM := Lib.hid (fun (wx : World) (hx : Below w0.heap.size w0 wx) => show RdI wx wx.heap.size B M.length M from ((hM.below (hb.trans (hx.mono hb.size))).more (Nat.le_trans hb.size hx.size)))
  have hV := sValidSeq_any A qs.length c qs w0 (HR.out _ (Below.refl _ _)) hn hnc
  have HB0 := Lib.hid hb
  have y0 := HK.out _ (Below.refl _ w0)
  clear hb p0 hsz h hM
  cases hv : validQ qs with
  | false =>
    rw [hv] at hV
    have HE := Lib.hid (imB_no (M := M) hv)
    have HV := Lib.hid hV
    clear hV hv
    go_enter Tryd.func56, Tryd.ntmps56
    go_upto_region 1 with (fail)
    rw [← hw0]
    clear hw0
    go_wp2_with (fail)
    refine HV.out.mono ?_
    rintro e w1 ⟨rfl, bel⟩
    have HG := Lib.hid (HB0.out.trans (bel.mono HB0.out.size))
    clear bel y0
    go_wp2
    go_ret
    exact ⟨ret_bool HE.out.symm, HG.out⟩
  | true =>
    rw [hv] at hV
    have HV := Lib.hid hV
    have HVT := Lib.hid hv
    have h10 := validQ_len hv
    clear hV hv
    go_enter Tryd.func56, Tryd.ntmps56
    go_upto_region 1 with (fail)
    rw [← hw0]
    clear hw0
    go_wp2_with (fail)
    refine HV.out.mono ?_
    rintro e w1 ⟨rfl, bel⟩
    have HB1 := Lib.hid bel
    clear bel y0
    go_wp2
    go_loopw [5] (fun i wr => ∃ k : Nat, k ≤ qs.length ∧ i = .int .i64 k ∧ (∀ j, j < k → formN (qs.getD j []) = true) ∧ Below w0.heap.size w0 wr) (fun i _ => qs.length - (intOf i).toNat)
    case atStart => exact ⟨0, Nat.zero_le _, rfl, fun j hj => absurd hj (by omega), HB1.out⟩
    case round =>
      obtain ⟨k, hk, rfl, hno, hB⟩ := hrel
      clear HB1
      have y0 := HK.out _ hB
      by_cases hlt : k < qs.length
      · obtain ⟨b, off, hA, hbb, hcells⟩ := (HR.out _ hB).2 (by omega)
        obtain ⟨A', c', hcell, hcc, hrd⟩ := hcells k hlt
        have HFM := Lib.hid (sForm_any A' (qs.getD k []).length c' (qs.getD k []) wr hrd)
        have HBD := Lib.hid (fun e => imB_bad (qs := qs) (M := M) hlt e)
        have HNO := Lib.hid hno; have HB := Lib.hid hB
        have HGD : Hid (formN (qs.getD k []) = true → ∀ j, j < k + 1 → formN (qs.getD j []) = true) := Lib.hid (fun h1 j hj => by by_cases e : j = k; (subst e; exact h1); exact HNO.out j (by omega))
        rw [hA] at y0
        generalize hq : qs.getD k [] = q at *
        clear hno hB hcells hA hrd hq
        cases hf : formN q with
        | false =>
          have HE := Lib.hid (HBD.out hf)
          rw [hf] at HFM
          clear hf
          go_wp2_with (fail)
          refine HFM.out.mono ?_
          rintro e w4 ⟨rfl, bel4⟩
          have HG := Lib.hid (HB0.out.trans ((HB.out.trans (bel4.mono HB.out.size)).mono HB0.out.size))
          clear bel4 y0 hcell
          go_wp2
          go_ret
          exact ⟨ret_bool HE.out.symm, HG.out⟩
        | true =>
          have HG := Lib.hid (HGD.out hf)
          rw [hf] at HFM
          clear hf
          go_wp2_with (fail)
          refine HFM.out.mono ?_
          rintro e w4 ⟨rfl, bel4⟩
          have HB4 := Lib.hid (HB.out.trans (bel4.mono HB.out.size))
          clear bel4 y0 hcell
          go_wp2
          go_roundw
          case rel => exact ⟨k + 1, by omega, by go_num, HG.out, HB4.out⟩
          case measure => simp [intOf]; omega
      · have hkl : k = qs.length := by omega
        subst hkl
        have HIS := Lib.hid (imB_is (M := M) HVT.out hno)
        have HL := Lib.hid (sLeavesQ_any A qs.length c qs wr (HR.out _ hB) h10 hno)
        have HB := Lib.hid hB
        have HLF := Lib.hid (fun x (hx : x ∈ lvQ qs) => lvQ_leaf hx)
        have HQL := Lib.hid (lvK_len qs qs.length)
        clear hno hB
        go_wp2_with (fail)
        refine HL.out.mono ?_
        rintro e w4 ⟨A2, c2, rfl, own2, bel2⟩
        have HB4 := Lib.hid (HB.out.trans (bel2.mono HB.out.size))
        have HX := Lib.hid (RdI.of_own own2)
        have hxl : (lvQ qs).length ≤ 240 := by have := HQL.out; unfold lvQ; omega
        clear own2 bel2 y0
        generalize lvQ qs = X at *
        by_cases hlen : M.length = X.length
        · have hd : ((M.length : Int) != (X.length : Int)) = false := by rw [hlen]; simp
          have HLN := Lib.hid hlen
          clear hlen
          go_wp2
          go_loopw [7] (fun i wx => ∃ k : Nat, k ≤ M.length ∧ i = .int .i64 k ∧ (∀ j, j < k → mt1 M X j = true) ∧ Below w4.heap.size w4 wx) (fun i _ => M.length - (intOf i).toNat)
          case atStart => exact ⟨0, Nat.zero_le _, rfl, fun j hj => absurd hj (by omega), Below.refl _ _⟩
          case round =>
            obtain ⟨k, hk, rfl, hno, hB⟩ := hrel
            by_cases hlt : k < M.length
            · have hB5 := HB4.out.trans (hB.mono HB4.out.size)
              obtain ⟨bm, offm, hBm, hbm, hcm⟩ := (HM.out _ hB5).2 (by omega)
              have hx5 := (HX.out.below hB).more hB.size
              obtain ⟨bx, offx, hXx, hbx, hcx⟩ := hx5.2 (by have := HLN.out; omega)
              have km := hcm k hlt
              have kx := hcx k (by have := HLN.out; omega)
              have HNO := Lib.hid hno; have HB := Lib.hid hB; have HCM := Lib.hid hcm; have HCX := Lib.hid hcx
              have HGB := Lib.hid (HB0.out.trans (hB5.mono HB0.out.size))
              have HGD : Hid (mt1 M X k = true → ∀ j, j < k + 1 → mt1 M X j = true) := Lib.hid (fun h1 j hj => by by_cases e : j = k; (subst e; exact h1); exact HNO.out j (by omega))
              have HBA := Lib.hid (fun e => matesB_bad (M := M) (X := X) hlt e)
              have hlx : leafB (X.getD k 0) = true := HLF.out _ (getL_mem (by have := HLN.out; omega))
              have hneg := leaf_neg hlx
              have HO1 := Lib.hid (fun e => mt1_out (M := M) (X := X) (j := k) e)
              have HO2 := Lib.hid (fun e => mt1_back (M := M) (X := X) (j := k) e)
              have HO3 := Lib.hid (fun e => mt1_sign (M := M) (X := X) (j := k) e)
              have HO4 := Lib.hid (fun e1 e2 e3 => mt1_yes (M := M) (X := X) (j := k) e1 e2 e3)
              obtain ⟨z, hz⟩ : ∃ z, M.getD k 0 = z := ⟨_, rfl⟩
              rw [hz] at km HO1 HO2 HO3 HO4
              obtain ⟨y, hy⟩ : ∃ y, X.getD k 0 = y := ⟨_, rfl⟩
              rw [hy] at kx hneg HO3 HO4
              have hkx : (k : Int) < (X.length : Int) := by have := HLN.out; omega
              clear hno hB hB5 hcm hcx hx5 hz hy hlx
              subst hBm
              rw [hXx]
              clear hXx
              have HIR := Lib.hid (fun wx => show Calls Tryd.prog 81 #[.int .i64 z, .int .i64 0, .int .i64 ((M.length : Int) - 1)] wx fun e w' => e = .returned (.bool (inW M.length z)) ∧ w' = wx from (inRange_any z 0 ((M.length : Int) - 1) wx).mono fun _ _ q => ⟨q.1, q.2.symm⟩)
              cases hin : inW M.length z with
              | false =>
                have HE := Lib.hid (HIS.out.trans (HBA.out (HO1.out hin)))
                rw [hin] at HIR
                clear hin
                go_upto_region 15 with (fail)
                go_quiet (first | (go_at_call 81; exact Calls.quiet_of_same (HIR.out _)))
                go_wp2
                go_ret
                exact ⟨ret_bool HE.out.symm, below_drewN HGB.out nq⟩
              | true =>
                rw [hin] at HIR
                obtain ⟨_, hiz, ez⟩ := inW_yes hin
                have km2 := HCM.out z.toNat hiz
                have kx2 := HCX.out z.toNat (by have := HLN.out; omega)
                have hiz2 : (z.toNat : Int) < (M.length : Int) := by omega
                have hiz3 : (z.toNat : Int) < (X.length : Int) := by have := HLN.out; omega
                have HO4' := Lib.hid (HO4.out hin)
                generalize z.toNat = iz at *
                subst ez
                clear hin HO1 HO4 hiz
                by_cases h2 : M.getD iz 0 = (k : Int)
                · rw [h2] at km2
                  by_cases h3 : X.getD iz 0 = - y
                  · have HG := Lib.hid (HGD.out (HO4'.out h2 h3))
                    rw [h3] at kx2
                    clear h2 h3
                    go_upto_region 15 with (fail)
                    go_quiet (first | (go_at_call 81; exact Calls.quiet_of_same (HIR.out _)))
                    go_wp2
                    go_roundw
                    case rel => exact ⟨k + 1, by omega, by go_num, HG.out, below_drewN HB.out nq⟩
                    case measure => simp [intOf]; omega
                  · have HE := Lib.hid (HIS.out.trans (HBA.out (HO3.out h3)))
                    have hd3 : (X.getD iz 0 != - y) = true := by simpa using h3
                    generalize X.getD iz 0 = t at *
                    clear h2 h3
                    go_upto_region 15 with (fail)
                    go_quiet (first | (go_at_call 81; exact Calls.quiet_of_same (HIR.out _)))
                    go_wp2
                    go_ret
                    exact ⟨ret_bool HE.out.symm, below_drewN HGB.out nq⟩
                · have HE := Lib.hid (HIS.out.trans (HBA.out (HO2.out h2)))
                  have hd2 : (M.getD iz 0 != (k : Int)) = true := by simpa using h2
                  generalize M.getD iz 0 = t at *
                  clear h2
                  go_upto_region 15 with (fail)
                  go_quiet (first | (go_at_call 81; exact Calls.quiet_of_same (HIR.out _)))
                  go_wp2
                  go_ret
                  exact ⟨ret_bool HE.out.symm, below_drewN HGB.out nq⟩
            · have hkl : k = M.length := by omega
              subst hkl
              have HE := Lib.hid (HIS.out.trans (matesB_yes HLN.out hno))
              have HGB := Lib.hid (HB0.out.trans ((HB4.out.trans (hB.mono HB4.out.size)).mono HB0.out.size))
              clear hno hB
              go_wp2
              go_ret
              exact ⟨ret_bool HE.out.symm, HGB.out⟩
        · have hd : ((M.length : Int) != (X.length : Int)) = true := by simp; omega
          have HE := Lib.hid (HIS.out.trans (matesB_len hlen))
          have HGB := Lib.hid (HB0.out.trans (HB4.out.mono HB0.out.size))
          clear hlen
          go_wp2
          go_ret
          exact ⟨ret_bool HE.out.symm, HGB.out⟩
end Go.Proofs.YtfanapddopafiaaDoor
