/- The program's ComposedBindings. -/
import Derived.Test.YtoniekjchabjlaaDoorBndE
import Derived.Test.YtoniekjchabjlaaDoorSubG
namespace Go.Proofs.YtoniekjchabjlaaDoor
open Go.ChangeAt Go.ChangeShapes Go.RowKit Go.WideShapes

theorem cbF_sub {ps : List (List Int)} {k : Nat} (hk : k < 8) : sub1 ps ((k : Int) + 1) = cbF ps k := by
  have hl : leafB ((k : Int) + 1) = true := decide_eq_true (by omega)
  have he : elt ps ((k : Int) + 1) = ps.getD k [] := by unfold elt; rw [show ((k : Int) + 1).natAbs - 1 = k by omega]
  unfold sub1 cbF
  rw [he]
  by_cases h0 : (ps.getD k []).length = 0
  · rw [if_neg (by omega), if_pos h0]
  · rw [if_pos ⟨hl, by omega⟩, if_pos (by omega), if_neg h0]
theorem cbF_valid {ps : List (List Int)} (h : bndB ps = true) {k : Nat} (hk : k < 8) : validB (cbF ps k) = true := by
  unfold cbF
  by_cases h0 : (ps.getD k []).length = 0
  · rw [if_pos h0]; exact atom_valid ⟨k, hk⟩
  · rw [if_neg h0]; exact elB_valid (bnd_at h k) (by omega)

set_option maxRecDepth 100000 in
set_option maxHeartbeats 8000000 in
theorem composed_impl (A : Option Addr) (n c : Nat) (ps : List (List Int)) (B : Option Addr) (m d : Nat) (bs : List (List Int)) (w : World) (h : RdQ w w.heap.size A n ps) (h' : RdQ w w.heap.size B m bs) (hn : n ≤ 1048576) (hm : m ≤ 1048576) (ht : Arit w) (hu : Dual w) :
    Calls Tryd.prog 22 #[.slice A n c, .slice B m d] w (GivesSSB w (cbL ps bs) (cbB ps bs)) := by
  have HC := Lib.hid (bindingOf_any A n c ps w h hn ht)
  cases hba : bndB ps with
  | false =>
    have hs := cbB_no1 (bs := bs) hba
    rw [cbL_no hs, hs]
    have HBF := Lib.hid hba
    clear h h' hs hba
    go_enter Tryd.func22, Tryd.ntmps22
    go_wp2_with (fail)
    refine HC.out.mono ?_
    rintro e w1 ⟨cs, rfl, o1, b1⟩
    obtain ⟨hg, w2, hw2, hg2, o2, b2, hs2⟩ := bnd_var b1 o1
    have HG := Lib.hid hg; have HO1 := Lib.hid o1; have HB2 := Lib.hid b2; have HW2 := Lib.hid hw2
    rw [HBF.out]
    clear hg hw2 hg2 o2 b2 hs2 o1 b1
    go_wp2_with (refine wpList_store_row rfl _ _ _ rfl w1.heap.size _ rfl rfl _ _ HG.out (by rw [HO1.out.size]; exact size_bnd) HO1.out.size.symm HO1.out.one ?_; rw [← HW2.out])
    go_ret2
    exact givesSSB_nil _ _ HB2.out
  | true =>
    cases hbb : bndB bs with
    | false =>
      have hs := cbB_no2 (ps := ps) hbb
      rw [cbL_no hs, hs]
      have HBT := Lib.hid hba; have HBF := Lib.hid hbb
      have H' := Lib.hid h'
      clear h h' hs hba hbb
      go_enter Tryd.func22, Tryd.ntmps22
      go_wp2_with (fail)
      refine HC.out.mono ?_
      rintro e w1 ⟨cs, rfl, o1, b1⟩
      obtain ⟨hg, w2, hw2, hg2, o2, b2, hs2⟩ := bnd_var b1 o1
      have HG := Lib.hid hg; have HO1 := Lib.hid o1; have HB2 := Lib.hid b2; have HW2 := Lib.hid hw2
      have HV := Lib.hid (isBinding_impl B m d bs w2 ((H'.out.below b2).more b2.size) hm (ht.below b2 ht.lt))
      rw [HBT.out]
      clear hg hw2 hg2 o2 b2 hs2 o1 b1
      go_wp2_with (first
        | (refine wpList_store_row rfl _ _ _ rfl w1.heap.size _ rfl rfl _ _ HG.out (by rw [HO1.out.size]; exact size_bnd) HO1.out.size.symm HO1.out.one ?_; rw [← HW2.out])
        | (go_at_call 17; refine HV.out.mono ?_; rintro e w3 ⟨rfl, bel3⟩; rw [HBF.out]; have HB3 := Lib.hid (HB2.out.trans (bel3.mono HB2.out.size)); clear bel3))
      go_ret2
      exact givesSSB_nil _ _ HB3.out
    | true =>
      obtain ⟨i0, hi0, hz0, hz1, hz2⟩ := info_parts_s
      have hna := h.len
      have hnb := h'.len
      have h8a := bnd_len hba
      have h8b := bnd_len hbb
      obtain rfl : n = 8 := by omega
      obtain rfl : m = 8 := by omega
      have HBT := Lib.hid hba; have HBS := Lib.hid hbb
      have H := Lib.hid h; have H' := Lib.hid h'
      have hok := bnd_at hba
      rw [← bndQ_yes hba] at hok
      have HOK := Lib.hid hok
      have HQQ := Lib.hid (bndQ_yes hba)
      clear h h' hna hnb h8a h8b hba hbb hok
      go_enter Tryd.func22, Tryd.ntmps22
      go_wp2_with (fail)
      refine HC.out.mono ?_
      rintro e w1 ⟨cs, rfl, o1, b1⟩
      obtain ⟨hg, w2, hw2, hg2, o2, b2, hs2⟩ := bnd_var b1 o1
      have HG := Lib.hid hg; have HO1 := Lib.hid o1; have HB2 := Lib.hid b2; have HW2 := Lib.hid hw2; have HG2 := Lib.hid hg2
      have HV := Lib.hid (isBinding_impl B 8 d bs w2 ((H'.out.below b2).more b2.size) (by omega) (ht.below b2 ht.lt))
      have HO2 := Lib.hid o2
      have HS2 := Lib.hid hs2
      rw [HBT.out]
      clear hg hw2 hg2 o2 b2 hs2 o1 b1
      go_wp2_with (first
        | (refine wpList_store_row rfl _ _ _ rfl w1.heap.size _ rfl rfl _ _ HG.out (by rw [HO1.out.size]; exact size_bnd) HO1.out.size.symm HO1.out.one ?_; rw [← HW2.out])
        | (go_at_call 17; fail))
      refine HV.out.mono ?_
      rintro e w3 ⟨rfl, bel3⟩
      rw [HBS.out]
      have HB3 := Lib.hid (HB2.out.trans (bel3.mono HB2.out.size))
      have HG3 : Hid (w3.heap[w1.heap.size]? = _) := Lib.hid ((bel3.block _ (by have := HS2.out; omega)).trans HG2.out)
      have hg13 : w1.heap.size < w3.heap.size := by have := HS2.out; have := bel3.size; omega
      have HO3 := Lib.hid (HO2.out.below bel3)
      clear bel3 HO2 HG2 HB2 HW2 HG HV
      have b2 : i0.bytes * 8 ≤ 281474976710656 := by rw [hz2]; omega
      have b3 : 8 ≤ maxLen := by unfold maxLen; omega
      go_wp2_with (at_make; refine wpList_make_full _ rfl _ _ _ rfl w3.heap.size 24 i0 (.slice none 0 0) 1 Tryd.underlying25 hi0 hz0 hz1 _ _ _ _ 8 rfl rfl rfl rfl b2 b3 (Nat.le_refl _) ?_; intro w4 hown hg)
      have hbel : Below w3.heap.size w3 w4 := (Below.refl _ _).grown hg (Nat.le_refl _) (by intro k hk; cases hk)
      have hown0 : w4.ownsRow w3.heap.size 24 1 (.slice (some ⟨w3.heap.size, 0, none⟩) 8 8) 8 (List.replicate 8 (.slice none 0 0)) := by
        rw [← toList_madeCells_one]; simpa [Value.cells] using hown
      have hlt1 : w3.heap.size < w4.heap.size := (hown0.lt _ rfl).2
      have HO4 : Hid (OwnQ w4 w3.heap.size w4.heap.size (.slice (some ⟨w3.heap.size, 0, none⟩) 8 8) (fun _ => (none, 0)) (cbS ps bs 0)) := Lib.hid (by
        rw [cbS_zero]; exact OwnQ.fresh hown0 _ (fun _ => rfl) _ hlt1)
      have HB4 := Lib.hid hbel
      clear hg hown hown0 hlt1 b2 b3 hi0 hz0 hz1 hz2 hbel
      have hs3 := HB3.out.size
      go_loopw [27] (fun i wr => ∃ (k : Nat) (hs : Nat → Option Addr × Nat), k ≤ 8 ∧ i = .int .i64 k ∧ OwnQ wr w3.heap.size wr.heap.size (.slice (some ⟨w3.heap.size, 0, none⟩) 8 8) hs (cbS ps bs k) ∧ Below w3.heap.size w3 wr ∧ ∀ j, j < k → (cbE ps bs j).length ≤ 24) (fun i _ => 8 - (intOf i).toNat)
      case atStart => exact ⟨0, _, by omega, rfl, HO4.out, HB4.out, fun j hj => absurd hj (by omega)⟩
      case round =>
        obtain ⟨k, hs, hk, rfl, hown, hb, hal⟩ := hrel
        have hsz := hb.size
        have HO := Lib.hid hown; have HB := Lib.hid hb; have HAL := Lib.hid hal
        have HBW := Lib.hid (HB3.out.trans (hb.mono hs3))
        have HG3r : Hid (wr.heap[w1.heap.size]? = _) := Lib.hid ((hb.block _ hg13).trans HG3.out)
        have HV3 := Lib.hid (HO3.out.below hb)
        have hgg : w3.heap.size < wr.heap.size := hown.top0 _ rfl
        clear hown hb hal
        by_cases hlt : k < 8
        · have hlt' : (k : Int) < 8 := by omega
          have hd8 : decide ((k : Int) < 8) = true := decide_eq_true hlt'
          have hw1 : IntKind.i64.wrap ((k : Int) + 1) = (k : Int) + 1 := IntWalk.i64_in _ (by omega)
          have hga : ∃ b off, A = some ⟨b, off, none⟩ ∧ b < w.heap.size ∧ ∃ A' c', w.cell? ⟨b, off + k, none⟩ = some (.slice A' (ps.getD k []).length c') := by
            obtain ⟨b, off, e, hbb, hc⟩ := H.out.2 (by omega)
            obtain ⟨A', c', h1, h2, h3⟩ := hc k hlt
            exact ⟨b, off, e, hbb, A', c', h1⟩
          have hgb : ∃ b off, B = some ⟨b, off, none⟩ ∧ b < w.heap.size ∧ ∃ A' c', w.cell? ⟨b, off + k, none⟩ = some (.slice A' (bs.getD k []).length c') := by
            obtain ⟨b, off, e, hbb, hc⟩ := H'.out.2 (by omega)
            obtain ⟨A', c', h1, h2, h3⟩ := hc k hlt
            exact ⟨b, off, e, hbb, A', c', h1⟩
          obtain ⟨ba, oa, rfl, hba, Aa, ca, hca⟩ := hga
          obtain ⟨bb, ob, rfl, hbb, Ab, cb, hcb⟩ := hgb
          have ha := (HBW.out.cell (p := ⟨ba, oa + k, none⟩) hba).trans hca
          have hbc := (HBW.out.cell (p := ⟨bb, ob + k, none⟩) hbb).trans hcb
          have HE : Hid (cbE ps bs k = if (ps.getD k []).length = 0 ∧ (bs.getD k []).length = 0 then [] else sbL bs (cbF ps k)) := Lib.hid rfl
          have HSET := Lib.hid (cbS_set ps bs hlt)
          have HSAME := Lib.hid (@cbS_same ps bs k)
          have HLONG := Lib.hid (fun hh => cbB_long (ps := ps) (bs := bs) hlt hh)
          have HLN := Lib.hid (cbS_len ps bs k)
          have HFV := Lib.hid (cbF_valid HBT.out hlt)
          have hF := forSymbol_any cs (bndQ ps) ((k : Int) + 1) wr HV3.out HOK.out (ht.below HBW.out ht.lt) (hu.below HBW.out hu.lt)
          rw [HQQ.out, cbF_sub hlt] at hF
          have HF := Lib.hid hF
          clear hca hcb hF
          generalize (ps.getD k []).length = EL at *
          generalize (bs.getD k []).length = FL at *
          by_cases hboth : EL = 0 ∧ FL = 0
          · have hl0 : ((EL : Int) == 0) = true := beq_iff_eq.2 (by omega)
            have hf0 : ((FL : Int) == 0) = true := beq_iff_eq.2 (by omega)
            have HEN : Hid (cbE ps bs k = []) := Lib.hid (by rw [HE.out, if_pos hboth])
            clear HF
            go_wp2
            go_roundw
            case rel => exact ⟨k + 1, hs, by omega, by go_num, by rw [HSAME.out HEN.out]; exact HO.out, HB.out, fun j hj => by
              rcases Nat.lt_or_ge j k with h1 | h1
              · exact HAL.out j h1
              · obtain rfl : j = k := by omega
                rw [HEN.out]; exact Nat.zero_le _⟩
            case measure => simp [intOf]; omega
          · have hcase : (((EL : Int) == 0) = false) ∨ (((EL : Int) == 0) = true ∧ ((FL : Int) == 0) = false) := by
              by_cases h0 : EL = 0
              · exact Or.inr ⟨beq_iff_eq.2 (by omega), beq_eq_false_iff_ne.2 (by omega)⟩
              · exact Or.inl (beq_eq_false_iff_ne.2 (by omega))
            have HEN : Hid (cbE ps bs k = sbL bs (cbF ps k)) := Lib.hid (by rw [HE.out, if_neg hboth])
            have HSF : Hid (sfB (cbF ps k) bs = decide ((cbE ps bs k).length ≤ 24)) := Lib.hid (by rw [HEN.out]; exact sfB_is HFV.out HBS.out)
            have HSY : Hid (sfB (cbF ps k) bs = true → sfL (cbF ps k) bs = cbE ps bs k) := Lib.hid (fun h => by rw [sfL_yes h, HEN.out])
            have HSN : Hid (sfB (cbF ps k) bs = false → sfL (cbF ps k) bs = []) := Lib.hid (fun h => sfL_no h)
            have HSUB := Lib.hid (fun A5 c5 (w5 : World) (h5 : RdI w5 w5.heap.size A5 (cbF ps k).length (cbF ps k)) (hc5 : (cbF ps k).length ≤ c5) (B5 : Below w.heap.size w w5) => substForm_impl A5 (cbF ps k).length c5 (cbF ps k) (some ⟨bb, ob, none⟩) 8 d bs w5 h5 ((H'.out.below B5).more B5.size) hc5 (by omega) (ht.below B5 ht.lt) (hu.below B5 hu.lt))
            clear HE hboth HFV
            obtain ⟨F, hFF⟩ : ∃ F, F = cbF ps k := ⟨_, rfl⟩
            obtain ⟨R, hRR⟩ : ∃ R, R = cbE ps bs k := ⟨_, rfl⟩
            rw [← hFF] at HF HSF HSY HSN HSUB
            rw [← hRR] at HSF HSY HSET HLONG
            have HRR := Lib.hid hRR
            clear hFF hRR HEN
            by_cases hx : R.length ≤ 24
            · have e1 : sfB F bs = true := by rw [HSF.out]; exact decide_eq_true hx
              have e2 := HSY.out e1
              rw [e1, e2] at HSUB
              clear e1 e2 HSF HSY HSN HLONG
              obtain ⟨hf, ho⟩ := HO.out.at HLN.out hlt
              obtain ⟨o, hoo⟩ : ∃ o, hv hs (cbS ps bs k) k = o := ⟨_, rfl⟩
              rw [hoo] at ho
              have HF0 := Lib.hid hf; have HO0 := Lib.hid ho
              clear hf ho hoo
              rcases hcase with hl0 | ⟨hl0, hf0⟩
              · go_wp2_with (first
                | (refine wpList_load_row rfl _ _ rfl w1.heap.size rfl _ _ _ _ HG3r.out Tryd.underlying62 rfl (by rw [HV3.out.size]; exact size_bnd) ?_)
                | (go_at_call 59; refine HF.out.mono ?_; rintro e w5 ⟨A5, c5, rfl, rd5, cc5, bel5⟩; have HR5 := Lib.hid rd5; have HC5 := Lib.hid cc5; have HB5 := Lib.hid bel5; have HBW5 := Lib.hid (HBW.out.trans (bel5.mono HBW.out.size)); clear rd5 cc5 bel5))
                refine (HSUB.out A5 c5 w5 HR5.out HC5.out HBW5.out).mono ?_
                rintro e w6 ⟨A6, c6, rfl, o6, bel6⟩
                have bel56 := HB5.out.trans (bel6.mono HB5.out.size)
                obtain ⟨hF, hFb⟩ := HO.out.fill HLN.out hlt rfl HB.out (own_base o6 HB5.out.size) bel56
                rw [HSET.out] at hF
                have hf := (bel56.frozen (p := ⟨w3.heap.size, k, none⟩) hgg).trans HF0.out
                have ho := (bel56.cell (p := ⟨w3.heap.size, k, none⟩) hgg).trans HO0.out
                have HFo := Lib.hid hF; have HFB := Lib.hid hFb
                clear hF hFb o6 bel6 bel56
                go_wp2
                go_roundw
                case rel => exact ⟨k + 1, _, by omega, by go_num, HFo.out, HFB.out, fun j hj => by
                  rcases Nat.lt_or_ge j k with h1 | h1
                  · exact HAL.out j h1
                  · obtain rfl : j = k := by omega
                    rw [← HRR.out]; exact hx⟩
                case measure => simp [intOf]; omega
              · go_wp2_with (first
                | (refine wpList_load_row rfl _ _ rfl w1.heap.size rfl _ _ _ _ HG3r.out Tryd.underlying62 rfl (by rw [HV3.out.size]; exact size_bnd) ?_)
                | (go_at_call 59; refine HF.out.mono ?_; rintro e w5 ⟨A5, c5, rfl, rd5, cc5, bel5⟩; have HR5 := Lib.hid rd5; have HC5 := Lib.hid cc5; have HB5 := Lib.hid bel5; have HBW5 := Lib.hid (HBW.out.trans (bel5.mono HBW.out.size)); clear rd5 cc5 bel5))
                refine (HSUB.out A5 c5 w5 HR5.out HC5.out HBW5.out).mono ?_
                rintro e w6 ⟨A6, c6, rfl, o6, bel6⟩
                have bel56 := HB5.out.trans (bel6.mono HB5.out.size)
                obtain ⟨hF, hFb⟩ := HO.out.fill HLN.out hlt rfl HB.out (own_base o6 HB5.out.size) bel56
                rw [HSET.out] at hF
                have hf := (bel56.frozen (p := ⟨w3.heap.size, k, none⟩) hgg).trans HF0.out
                have ho := (bel56.cell (p := ⟨w3.heap.size, k, none⟩) hgg).trans HO0.out
                have HFo := Lib.hid hF; have HFB := Lib.hid hFb
                clear hF hFb o6 bel6 bel56
                go_wp2
                go_roundw
                case rel => exact ⟨k + 1, _, by omega, by go_num, HFo.out, HFB.out, fun j hj => by
                  rcases Nat.lt_or_ge j k with h1 | h1
                  · exact HAL.out j h1
                  · obtain rfl : j = k := by omega
                    rw [← HRR.out]; exact hx⟩
                case measure => simp [intOf]; omega
            · have e1 : sfB F bs = false := by rw [HSF.out]; exact decide_eq_false hx
              have e2 := HSN.out e1
              have HNO := Lib.hid (HLONG.out hx)
              rw [e1, e2] at HSUB
              clear e1 e2 HSF HSY HSN HLONG
              rcases hcase with hl0 | ⟨hl0, hf0⟩
              · go_wp2_with (first
                | (refine wpList_load_row rfl _ _ rfl w1.heap.size rfl _ _ _ _ HG3r.out Tryd.underlying62 rfl (by rw [HV3.out.size]; exact size_bnd) ?_)
                | (go_at_call 59; refine HF.out.mono ?_; rintro e w5 ⟨A5, c5, rfl, rd5, cc5, bel5⟩; have HR5 := Lib.hid rd5; have HC5 := Lib.hid cc5; have HB5 := Lib.hid bel5; have HBW5 := Lib.hid (HBW.out.trans (bel5.mono HBW.out.size)); clear rd5 cc5 bel5))
                refine (HSUB.out A5 c5 w5 HR5.out HC5.out HBW5.out).mono ?_
                rintro e w6 ⟨A6, c6, rfl, o6, bel6⟩
                have HB6 := Lib.hid (HBW5.out.trans (bel6.mono HBW5.out.size))
                clear o6 bel6
                go_wp2
                go_ret2
                rw [cbL_no HNO.out, HNO.out]
                exact givesSSB_nil _ _ HB6.out
              · go_wp2_with (first
                | (refine wpList_load_row rfl _ _ rfl w1.heap.size rfl _ _ _ _ HG3r.out Tryd.underlying62 rfl (by rw [HV3.out.size]; exact size_bnd) ?_)
                | (go_at_call 59; refine HF.out.mono ?_; rintro e w5 ⟨A5, c5, rfl, rd5, cc5, bel5⟩; have HR5 := Lib.hid rd5; have HC5 := Lib.hid cc5; have HB5 := Lib.hid bel5; have HBW5 := Lib.hid (HBW.out.trans (bel5.mono HBW.out.size)); clear rd5 cc5 bel5))
                refine (HSUB.out A5 c5 w5 HR5.out HC5.out HBW5.out).mono ?_
                rintro e w6 ⟨A6, c6, rfl, o6, bel6⟩
                have HB6 := Lib.hid (HBW5.out.trans (bel6.mono HBW5.out.size))
                clear o6 bel6
                go_wp2
                go_ret2
                rw [cbL_no HNO.out, HNO.out]
                exact givesSSB_nil _ _ HB6.out
        · have hk8 : k = 8 := by omega
          subst hk8
          have hyes := cbB_yes HBT.out HBS.out HAL.out
          have HY1 := Lib.hid hyes; have HY2 := Lib.hid (cbL_yes hyes); have HL8 := Lib.hid (cbS_len ps bs 8)
          clear hyes
          go_wp2
          go_ret2
          exact givesSSB_mk HL8.out (HO.out.more hs3 (Nat.le_refl _)) HBW.out HY2.out.symm HY1.out.symm
end Go.Proofs.YtoniekjchabjlaaDoor
