/- The program's IsMates. -/
import Derived.Test.YtfanapddopafiaaDoorMtM
import Derived.Test.YtfanapddopafiaaDoorQNetK
import Derived.Deep.AppendLies
import Derived.BigQuiet
namespace Go.Proofs.YtfanapddopafiaaDoor
set_option linter.unusedSimpArgs false
set_option linter.unusedVariables false
open Go.ChangeAt Go.ChangeShapes Go.RowKit Go.WideShapes

theorem own_shape1x {w : World} {base n : Nat} {e : TypeId} {v : Value} {xs : List Value} (h : w.ownsRow base e 1 v n xs) : ∃ A c, v = .slice A n c ∧ n ≤ c := by
  rcases h.2 with ⟨rfl, rfl⟩ | ⟨g, cap, cur, rfl, _, _, hn, _⟩
  · exact ⟨_, _, rfl, Nat.le_refl _⟩
  · exact ⟨_, _, rfl, hn⟩
set_option maxRecDepth 100000 in
set_option maxHeartbeats 2000000 in
theorem areMates_any (A B : Option Addr) (c d : Nat) (M X : List Int) (w : World) (hM : RdI w w.heap.size B M.length M) (hX : RdI w w.heap.size A X.length X) (hm : M.length ≤ 1048576) (hxl : X.length ≤ 240) (hlf : ∀ x ∈ X, leafB x = true) :
    Calls Tryd.prog 94 #[.slice B M.length d, .slice A X.length c] w fun e w' => e = .returned (.bool (matesB M X)) ∧ Below w.heap.size w w' := by
  have HM := Lib.hid (fun (wx : World) (hx : Below w.heap.size w wx) => hM.below hx)
  have HX := Lib.hid (fun (wx : World) (hx : Below w.heap.size w wx) => hX.below hx)
  have HLF := Lib.hid hlf
  clear hM hX hlf
  go_enter Tryd.func94, Tryd.ntmps94
  by_cases hlen : M.length = X.length
  · have hd : ((M.length : Int) != (X.length : Int)) = false := by rw [hlen]; simp
    have HLN := Lib.hid hlen
    clear hlen
    go_wp2
    go_loopw [16] (fun i wx => ∃ k : Nat, k ≤ M.length ∧ i = .int .i64 k ∧ (∀ j, j < k → mt1 M X j = true) ∧ Below w.heap.size w wx) (fun i _ => M.length - (intOf i).toNat)
    case atStart => exact ⟨0, Nat.zero_le _, rfl, fun j hj => absurd hj (by omega), Below.refl _ _⟩
    case round =>
      obtain ⟨k, hk, rfl, hno, hB⟩ := hrel
      by_cases hlt : k < M.length
      · obtain ⟨bm, offm, hBm, hbm, hcm⟩ := (HM.out _ hB).2 (by omega)
        obtain ⟨bx, offx, hXx, hbx, hcx⟩ := (HX.out _ hB).2 (by have := HLN.out; omega)
        have km := hcm k hlt
        have kx := hcx k (by have := HLN.out; omega)
        have HNO := Lib.hid hno; have HB := Lib.hid hB; have HCM := Lib.hid hcm; have HCX := Lib.hid hcx
        have HGD : Hid (mt1 M X k = true → ∀ j, j < k + 1 → mt1 M X j = true) := Lib.hid (fun h1 j hj => by by_cases e : j = k; (subst e; exact h1); exact HNO.out j (by omega))
        have HBA := Lib.hid (fun e => matesB_bad (M := M) (X := X) hlt e)
        have hlx : leafB (X.getD k 0) = true := HLF.out _ (getL_mem (by have := HLN.out; omega))
        have hneg := leaf_neg hlx
        have HO1 := Lib.hid (fun e => mt1_out (M := M) (X := X) (j := k) e)
        have HO2 := Lib.hid (fun e => mt1_back (M := M) (X := X) (j := k) e)
        have HO3 := Lib.hid (fun e => mt1_sign (M := M) (X := X) (j := k) e)
        have HO4 := Lib.hid (fun e1 e2 e3 => mt1_yes (M := M) (X := X) (j := k) e1 e2 e3)
        obtain ⟨z, hz⟩ : ∃ z, M.getD k 0 = z := ⟨_, rfl⟩
        rw [hz] at km HO1 HO2 HO3 HO4
        obtain ⟨y, hy⟩ : ∃ y, X.getD k 0 = y := ⟨_, rfl⟩
        rw [hy] at kx hneg HO3 HO4
        have hkx : (k : Int) < (X.length : Int) := by have := HLN.out; omega
        clear hno hB hcm hcx hz hy hlx
        subst hBm
        rw [hXx]
        clear hXx
        cases hin : inW M.length z with
        | false =>
          have HE := Lib.hid (HBA.out (HO1.out hin))
          have hni := of_decide_eq_false (show decide (0 ≤ z ∧ z ≤ (M.length : Int) - 1) = false from hin)
          have hnx : ¬ (0 ≤ z ∧ z ≤ (X.length : Int) - 1) := by have := HLN.out; omega
          clear hin hni
          by_cases hz0 : z < 0
          · have d0 : decide (z < 0) = true := decide_eq_true hz0
            go_upto_region 7 with (fail)
            go_quiet (fail)
            go_wp2
            go_ret
            exact ⟨ret_bool HE.out.symm, below_drewN HB.out nq⟩
          · have d0 : decide (z < 0) = false := decide_eq_false hz0
            have d1 : decide ((X.length : Int) ≤ z) = true := decide_eq_true (by omega)
            clear hnx
            go_upto_region 7 with (fail)
            go_quiet (fail)
            go_wp2
            go_ret
            exact ⟨ret_bool HE.out.symm, below_drewN HB.out nq⟩
        | true =>
          obtain ⟨hz0, hiz, ez⟩ := inW_yes hin
          have km2 := HCM.out z.toNat hiz
          have kx2 := HCX.out z.toNat (by have := HLN.out; omega)
          have hiz2 : (z.toNat : Int) < (M.length : Int) := by omega
          have hiz3 : (z.toNat : Int) < (X.length : Int) := by have := HLN.out; omega
          have HO4' := Lib.hid (HO4.out hin)
          generalize z.toNat = iz at *
          subst ez
          have d0 : decide ((iz : Int) < 0) = false := decide_eq_false (by omega)
          have d1 : decide ((X.length : Int) ≤ (iz : Int)) = false := decide_eq_false (by omega)
          have d1n : decide (X.length ≤ iz) = false := decide_eq_false (by omega)
          clear hin HO1 HO4 hiz hz0
          by_cases h2 : M.getD iz 0 = (k : Int)
          · rw [h2] at km2
            by_cases h3 : X.getD iz 0 = - y
            · have HG := Lib.hid (HGD.out (HO4'.out h2 h3))
              rw [h3] at kx2
              clear h2 h3
              go_upto_region 7 with (fail)
              go_quiet (fail)
              go_wp2
              go_roundw
              case rel => exact ⟨k + 1, by omega, by go_num, HG.out, below_drewN HB.out nq⟩
              case measure => simp [intOf]; omega
            · have HE := Lib.hid (HBA.out (HO3.out h3))
              have hd3 : (X.getD iz 0 != - y) = true := by simpa using h3
              generalize X.getD iz 0 = t at *
              clear h2 h3
              go_upto_region 7 with (fail)
              go_quiet (fail)
              go_wp2
              go_ret
              exact ⟨ret_bool HE.out.symm, below_drewN HB.out nq⟩
          · have HE := Lib.hid (HBA.out (HO2.out h2))
            have hd2 : (M.getD iz 0 != (k : Int)) = true := by simpa using h2
            generalize M.getD iz 0 = t at *
            clear h2
            go_upto_region 7 with (fail)
            go_quiet (fail)
            go_wp2
            go_ret
            exact ⟨ret_bool HE.out.symm, below_drewN HB.out nq⟩
      · have hkl : k = M.length := by omega
        subst hkl
        have HE := Lib.hid (matesB_yes HLN.out hno)
        have HB := Lib.hid hB
        clear hno hB
        go_wp2
        go_ret
        exact ⟨ret_bool HE.out.symm, HB.out⟩
  · have hd : ((M.length : Int) != (X.length : Int)) = true := by simp; omega
    have HE := Lib.hid (matesB_len hlen)
    clear hlen
    go_wp2
    go_ret
    exact ⟨ret_bool HE.out.symm, Below.refl _ _⟩

set_option maxRecDepth 100000 in
set_option maxHeartbeats 2000000 in
theorem isMates_impl (A B : Option Addr) (n c m d : Nat) (qs : List (List Int)) (M : List Int) (w : World) (h : RdQ w w.heap.size A n qs) (hM : RdI w w.heap.size B m M) (hn : n ≤ 1048576) (hm : m ≤ 1048576) (ht : Arit w) :
    Calls Tryd.prog 59 #[.agg #[.slice A n c], .slice B m d] w fun e w' => e = .returned (.bool (imB qs M)) ∧ Below w.heap.size w w' := by
  have hl := h.len
  subst hl
  have hl2 := hM.len
  subst hl2
  obtain ⟨i0, hi0, hz0, hz1, hz2⟩ := info_parts info_i64
  have HI := Lib.hid hi0; have HZ0 := Lib.hid hz0; have HZ1 := Lib.hid hz1; have HZ2 := Lib.hid hz2
  obtain ⟨w0, hw0⟩ : ∃ w0, w0 = w.alloc (.cells #[.slice A qs.length c] 47) := ⟨_, rfl⟩
  have hb := box_below w (.slice A qs.length c) 47
  have p0 : (w.alloc (.cells #[.slice A qs.length c] 47)).heap[w.heap.size]? = some (.cells #[.slice A qs.length c] 47 (0, 0)) := heap_alloc_new _ _
  have hsz : (w.alloc (.cells #[.slice A qs.length c] 47)).heap.size = w.heap.size + 1 := by simp
  rw [← hw0] at hb p0 hsz
  have HK : Hid (∀ wx : World, Below w0.heap.size w0 wx → wx.cell? ⟨w.heap.size, 0, none⟩ = some (.slice A qs.length c)) := Lib.hid fun wx hx => cell_of_row _ _ 0 _ _ (0, 0) ((hx.block w.heap.size (by omega)).trans p0)
  have HR := Lib.hid (fun (wx : World) (hx : Below w0.heap.size w0 wx) => show RdQ wx wx.heap.size A qs.length qs from ((h.below (hb.trans (hx.mono hb.size))).more (Nat.le_trans hb.size hx.size)))
  have HM := Lib.hid (fun (wx : World) (hx : Below w0.heap.size w0 wx) => show RdI wx wx.heap.size B M.length M from ((hM.below (hb.trans (hx.mono hb.size))).more (Nat.le_trans hb.size hx.size)))
  have HT := Lib.hid (fun (wx : World) (hx : Below w0.heap.size w0 wx) => show Arit wx from (ht.below hb ht.lt).below hx (Nat.lt_of_lt_of_le ht.lt hb.size))
  have hV := validSeq_impl A qs.length c qs w0 (HR.out _ (Below.refl _ _)) (by simp only [maxLen]; omega) (HT.out _ (Below.refl _ _))
  have HB0 := Lib.hid hb
  have y0 := HK.out _ (Below.refl _ w0)
  clear hb p0 hsz h hM ht hi0 hz0 hz1 hz2
  cases hv : validQ qs with
  | false =>
    rw [hv] at hV
    have HE := Lib.hid (imB_no (M := M) hv)
    have HV := Lib.hid hV
    clear hV hv
    go_enter Tryd.func59, Tryd.ntmps59
    go_upto_region 1 with (fail)
    rw [← hw0]
    clear hw0
    go_wp2_with (fail)
    refine HV.out.mono ?_
    rintro e w1 ⟨rfl, bel⟩
    have HG := Lib.hid (HB0.out.trans (bel.mono HB0.out.size))
    clear bel y0
    go_wp2
    go_ret
    exact ⟨ret_bool HE.out.symm, HG.out⟩
  | true =>
    rw [hv] at hV
    have HV := Lib.hid hV
    have HVT := Lib.hid hv
    have h10 := validQ_len hv
    clear hV hv
    go_enter Tryd.func59, Tryd.ntmps59
    go_upto_region 1 with (fail)
    rw [← hw0]
    clear hw0
    go_wp2_with (fail)
    refine HV.out.mono ?_
    rintro e w1 ⟨rfl, bel⟩
    have HB1 := Lib.hid bel
    clear bel y0
    have y0 := HK.out _ HB1.out
    go_wp2
    clear y0
    go_loopw [5, 14] (fun v i wr => ∃ k : Nat, k ≤ qs.length ∧ i = .int .i64 k ∧ (∀ j, j < k → formN (qs.getD j []) = true) ∧ wr.ownsRow w0.heap.size 2 1 v (lvK qs k).length ((lvK qs k).map (Value.int .i64)) ∧ Below w0.heap.size w0 wr) (fun _ i _ => qs.length - (intOf i).toNat)
    case atStart => exact ⟨0, Nat.zero_le _, rfl, fun j hj => absurd hj (by omega), ⟨by simp [lvK], .inl ⟨rfl, rfl⟩⟩, HB1.out⟩
    case round =>
      obtain ⟨k, hk, rfl, hno, hown, hB⟩ := hrel
      clear HB1
      by_cases hlt : k < qs.length
      · obtain ⟨b, off, hA, hbb, hcells⟩ := (HR.out _ hB).2 (by omega)
        obtain ⟨A', c', hcell, hcc, hrd⟩ := hcells k hlt
        have HFM := Lib.hid (isWireForm_any A' (qs.getD k []).length c' (qs.getD k []) wr hrd (HT.out _ hB) hcc)
        have HBD := Lib.hid (fun e => imB_bad (qs := qs) (M := M) hlt e)
        have HNO := Lib.hid hno; have HB := Lib.hid hB; have HO := Lib.hid hown
        have HGD : Hid (formN (qs.getD k []) = true → ∀ j, j < k + 1 → formN (qs.getD j []) = true) := Lib.hid (fun h1 j hj => by by_cases e : j = k; (subst e; exact h1); exact HNO.out j (by omega))
        have hul := lvK_len qs k
        have hll := leavesL_len (qs.getD k [])
        have HPS := Lib.hid (fun e => leavesL_pos (f := qs.getD k []) e)
        have HSU := Lib.hid (lvK_succ (qs := qs) hlt)
        have HL := Lib.hid (leavesOf_impl A' (qs.getD k []).length c' (qs.getD k []) wr hrd (HT.out _ hB) hcc)
        rw [hA]
        have hsz2 := hB.size
        generalize hq : qs.getD k [] = q at *
        clear hno hB hcells hrd hown hq hA
        cases hf : formN q with
        | false =>
          have HE := Lib.hid (HBD.out hf)
          rw [hf] at HFM
          have HG := Lib.hid (HB0.out.trans (HB.out.mono HB0.out.size))
          clear hf
          go_wp2_with (fail)
          refine HFM.out.mono ?_
          rintro e w4 ⟨rfl, rfl⟩
          go_wp2
          go_ret
          exact ⟨ret_bool HE.out.symm, HG.out⟩
        | true =>
          have HG := Lib.hid (HGD.out hf)
          have HX := Lib.hid (HPS.out hf)
          rw [hf] at HFM
          clear hf
          go_wp2_with (fail)
          refine HFM.out.mono ?_
          rintro e w3 ⟨rfl, rfl⟩
          go_wp2_with (fail)
          refine HL.out.mono ?_
          rintro e w4 ⟨A2, c2, rfl, own2, bel2⟩
          obtain ⟨g2, cap2, hv2, hg2, _⟩ := own2.form HX.out
          have hA2 : A2 = some ⟨g2, 0, none⟩ ∧ c2 = cap2 := by injection hv2 with a b c'; exact ⟨a, c'⟩
          obtain ⟨rfl, rfl⟩ := hA2
          have HB4 := Lib.hid (HB.out.trans (bel2.mono HB.out.size))
          have HO4 := Lib.hid (own_below HO.out bel2 (Nat.le_refl _))
          have OW2 := Lib.hid own2
          have hsz4 := bel2.size
          have HS4 : Hid (w0.heap.size ≤ w4.heap.size) := Lib.hid (by omega)
          obtain ⟨H4, hH4⟩ : ∃ q, w4.heap.size = q := ⟨_, rfl⟩
          have HH4 := Lib.hid hH4
          clear own2 bel2 hcell hv2 hH4
          go_wp2_with (at_builtin; refine wpList_append_lies _ rfl _ _ 24 rfl w0.heap.size 2 i0 (.int .i64 0) 1 8 Tryd.underlying24 HI.out HZ0.out HZ1.out HZ2.out rfl (by decide) _ _ _ rfl HO4.out ⟨g2, 0, none⟩ (leavesL q).length c2 ((leavesL q).map (Value.int .i64)) rfl (by simp) (fun j u hu => OW2.out.cells rfl j u hu) (ints_one _) HX.out (by simp only [maxLen]; omega) (by omega) HS4.out H4 HH4.out ?_)
          intro g5 cap5 w5 own5 grow5 at5 lt5
          have bel5 := Lib.hid (HB4.out.grown grow5 HS4.out (fun q hq => (HO4.out.lt q hq).1))
          have HLS := Lib.hid (show (lvK qs (k + 1)).length = (lvK qs k).length + (leavesL q).length by rw [HSU.out, List.length_append])
          have O5 : Hid (w5.ownsRow w0.heap.size 2 1 (.slice (some ⟨g5, 0, none⟩) ((lvK qs k).length + (leavesL q).length) cap5) (lvK qs (k + 1)).length ((lvK qs (k + 1)).map (Value.int .i64))) := Lib.hid (by
            rw [HLS.out, HSU.out, List.map_append]; exact own5)
          clear own5 grow5 at5 lt5
          go_wp2
          go_roundw
          case rel => exact ⟨k + 1, by omega, by go_num, HG.out, O5.out, bel5.out⟩
          case measure => simp [intOf]; omega
      · have hkl : k = qs.length := by omega
        subst hkl
        have HIS := Lib.hid (imB_is (M := M) HVT.out hno)
        have HB := Lib.hid hB
        have HQL := Lib.hid (lvK_len qs qs.length)
        obtain ⟨A2, c2, rfl, _⟩ := own_shape1x hown
        have HAM := Lib.hid (areMates_any A2 B c2 d M (lvQ qs) wr (HM.out _ hB) (RdI.of_own (show wr.ownsRow w0.heap.size 2 1 (.slice A2 (lvQ qs).length c2) (lvQ qs).length ((lvQ qs).map (Value.int .i64)) from hown)) hm (by have := HQL.out; unfold lvQ; omega) (fun x hx => lvQ_leaf hx))
        rw [show lvK qs qs.length = lvQ qs from rfl]
        clear hno hB hown
        go_wp2_with (fail)
        refine HAM.out.mono ?_
        rintro e w4 ⟨rfl, bel⟩
        have HG := Lib.hid (HB0.out.trans ((HB.out.trans (bel.mono HB.out.size)).mono HB0.out.size))
        clear bel
        go_wp2
        go_ret
        exact ⟨ret_bool HIS.out.symm, HG.out⟩
end Go.Proofs.YtfanapddopafiaaDoor
