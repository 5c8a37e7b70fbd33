/- SeqText of the program and of the model. -/
import Derived.Test.YtjhagklpnpabeaaDoorSeqV
import Derived.Test.YtjhagklpnpabeaaDoorText

namespace Go.Proofs.YtjhagklpnpabeaaDoor
open Go.ChangeShapes Go.WideShapes Go.ChangeAt Go.RowKit

/-- The texts behind the first, each behind a comma and a space. -/
noncomputable def tailT : List (List Int) → List Int
  | [] => []
  | q :: qs => [44, 32] ++ (textL q ++ tailT qs)
/-- The text of a list of formulas. -/
noncomputable def seqL : List (List Int) → List Int
  | [] => []
  | q :: qs => textL q ++ tailT qs
theorem tailT_app (xs : List (List Int)) (q : List Int) : tailT (xs ++ [q]) = tailT xs ++ ([44, 32] ++ textL q) := by
  induction xs with
  | nil => simp [tailT]
  | cons x xs ih => rw [List.cons_append, tailT, tailT, ih]; simp
theorem seqL_one (q : List Int) : seqL [q] = textL q := by simp [seqL, tailT]
theorem seqL_app {xs : List (List Int)} (h : xs ≠ []) (q : List Int) : seqL (xs ++ [q]) = (seqL xs ++ [44, 32]) ++ textL q := by
  cases xs with
  | nil => exact absurd rfl h
  | cons x xs => rw [List.cons_append, seqL, seqL, tailT_app]; simp
theorem tailT_len (xs : List (List Int)) : (tailT xs).length ≤ 73 * xs.length := by
  induction xs with
  | nil => simp [tailT]
  | cons x xs ih =>
    have := textL_len x
    simp only [tailT, List.length_append, List.length_cons, List.length_nil]
    omega
theorem seqL_len (xs : List (List Int)) : (seqL xs).length ≤ 73 * xs.length := by
  cases xs with
  | nil => simp [seqL]
  | cons x xs =>
    have := textL_len x
    have := tailT_len xs
    simp only [seqL, List.length_append, List.length_cons]
    omega
/-- The text of a sequent. -/
noncomputable def seqT (qs : List (List Int)) : ByteArray := if validQ qs = true then mkB (seqL qs) else ⟨#[]⟩
theorem seqT_no {qs : List (List Int)} (h : validQ qs = false) : seqT qs = ⟨#[]⟩ := by unfold seqT; rw [h]; rfl
theorem seqT_yes {qs : List (List Int)} (h : validQ qs = true) : seqT qs = mkB (seqL qs) := by unfold seqT; rw [if_pos h]
theorem str_eq {a b : ByteArray} (h : a = b) : Value.string a = .string b := by rw [h]
theorem mkB_nil : mkB [] = ⟨#[]⟩ := rfl
theorem take_getD {qs : List (List Int)} {k : Nat} (h : k < qs.length) : qs.take k ++ [qs.getD k []] = qs.take (k + 1) := by
  rw [List.take_succ_eq_append_getElem h]
  simp [List.getD, h]
theorem seqL_take {qs : List (List Int)} {k : Nat} (hk : k < qs.length) (h0 : 0 < k) : seqL (qs.take (k + 1)) = (seqL (qs.take k) ++ [44, 32]) ++ textL (qs.getD k []) := by
  rw [← take_getD hk, seqL_app (fun e => by have h1 := congrArg List.length e; rw [List.length_take, List.length_nil] at h1; omega)]

set_option maxHeartbeats 2000000 in
theorem sSeqText_any (A : Option Addr) (n c : Nat) (qs : List (List Int)) (w : World) (h : RdQ w w.heap.size A n qs) (hn : n ≤ 1048576) (hnc : n ≤ c) :
    Calls Tryd.prog 23 #[.agg #[.slice A n c]] w fun e w' => e = .returned (.string (seqT qs)) ∧ Below w.heap.size w w' := by
  have hl := h.len
  subst hl
  have hb := box_below w (.slice A qs.length c) 24
  have hc1 : (w.alloc (.cells #[Value.slice A qs.length c] 24)).cell? ⟨w.heap.size, 0, none⟩ = some (.slice A qs.length c) := by simp
  have hs1 : w.heap.size < (w.alloc (.cells #[Value.slice A qs.length c] 24)).heap.size := by simp
  have h1 := (h.below hb).more hb.size
  have HB := Lib.hid hb
  clear h hb
  go_enter Tryd.func23, Tryd.ntmps23
  go_wp2
  generalize w.alloc (.cells #[Value.slice A qs.length c] 24) = w1 at *
  go_loopw [3, 4] (fun s i wr => ∃ k : Nat, k ≤ qs.length ∧ i = .int .i64 k ∧ s = .string (mkB (seqL (qs.take k))) ∧ (validQ qs = false → k = 0) ∧ Below w1.heap.size w1 wr) (fun _ i _ => qs.length - (intOf i).toNat)
  case atStart => exact ⟨0, Nat.zero_le _, rfl, by simp [seqL, mkB], fun _ => rfl, Below.refl _ _⟩
  case round =>
    obtain ⟨k, hk, rfl, rfl, hk0, hbl⟩ := hrel
    have hcr := (hbl.cell (p := ⟨w.heap.size, 0, none⟩) hs1).trans hc1
    by_cases hlt : k < qs.length
    · have hr := (h1.below hbl).more hbl.size
      have HV := Lib.hid (sValidSeq_any A qs.length c qs wr hr hn hnc)
      cases hv : validQ qs with
      | false =>
        obtain rfl := hk0 hv
        rw [hv] at HV
        have HE : Hid (mkB (seqL (qs.take 0)) = seqT qs) := Lib.hid (by rw [seqT_no hv]; rfl)
        have HBL := Lib.hid hbl
        generalize mkB (seqL (qs.take 0)) = S0 at *
        clear hbl h1 hr hk0
        go_wp2_with (fail)
        refine HV.out.mono ?_
        rintro e w2 ⟨rfl, bel2⟩
        have HB2 := Lib.hid ((HB.out.trans (HBL.out.mono HB.out.size)).trans (bel2.mono (by have := HB.out.size; have := HBL.out.size; omega)))
        clear bel2
        go_wp2
        go_ret
        exact ⟨ret_str HE.out, HB2.out⟩
      | true =>
        rw [hv] at HV
        have h10 := validQ_len hv
        obtain ⟨b, off, rfl, hbb, hcells⟩ := h1.2 (by omega)
        obtain ⟨A', c', hcell, hcc, hrd⟩ := hcells k hlt
        have hsl := seqL_len (qs.take k)
        rw [List.length_take] at hsl
        have htl := textL_len (qs.getD k [])
        have HST : Hid (0 < k → seqL (qs.take (k + 1)) = (seqL (qs.take k) ++ [44, 32]) ++ textL (qs.getD k [])) := Lib.hid (seqL_take hlt)
        have HS0 : Hid (k = 0 → seqL (qs.take k) = [] ∧ seqL (qs.take (k + 1)) = textL (qs.getD k [])) := Lib.hid (by
          rintro rfl
          refine ⟨by simp [seqL], ?_⟩
          rw [← take_getD hlt, List.take_zero, List.nil_append, seqL_one])
        have HBL := Lib.hid hbl
        have HRD := Lib.hid hrd
        have HF := Lib.hid (fun (wx : World) (hx : RdI wx wx.heap.size A' (qs.getD k []).length (qs.getD k [])) => sFormText_any A' (qs.getD k []).length c' (qs.getD k []) wx hx)
        generalize hM : (qs.getD k []).length = M at *
        generalize textL (qs.getD k []) = t at *
        generalize hS1 : seqL (qs.take (k + 1)) = s1 at *
        have HS1 : Hid (mkB s1 = mkB (seqL (qs.take (k + 1)))) := Lib.hid (by rw [hS1])
        clear hS1
        generalize seqL (qs.take k) = s0 at *
        have HMM := Lib.hid hM
        clear hcells hrd h1 hr hM hk0
        by_cases h0 : k = 0
        · obtain ⟨rfl, rfl⟩ := HS0.out h0
          have hadd := add_run [] s1 (mkB []) (mkB s1) (mkB s1) rfl rfl rfl (by simp; omega)
          subst h0
          generalize mkB s1 = T1 at *
          generalize mkB [] = T0 at *
          clear htl hsl
          go_wp2_with (fail)
          refine HV.out.mono ?_
          rintro e w2 ⟨rfl, bel2⟩
          have b2 := HBL.out.trans (bel2.mono HBL.out.size)
          have hcr2 := (b2.cell (p := ⟨w.heap.size, 0, none⟩) hs1).trans hc1
          have hcell2 : w2.cell? ⟨b, off, none⟩ = some (.slice A' M c') := by simpa using (b2.cell (p := ⟨b, off + 0, none⟩) hbb).trans hcell
          have HF2 := Lib.hid (HF.out w2 ((HRD.out.below b2).more b2.size))
          have HB2 := Lib.hid b2
          clear bel2 b2 HF HRD hcell hcr
          go_wp2_with (fail)
          refine HF2.out.mono ?_
          rintro e w3 ⟨rfl, bel3⟩
          have HB3 := Lib.hid (HB2.out.trans (bel3.mono HB2.out.size))
          clear bel3
          go_wp2
          go_roundw
          case rel => exact ⟨0 + 1, by omega, by go_num, str_eq HS1.out, fun h => Bool.noConfusion h, HB3.out⟩
          case measure => simp [intOf]; omega
        · have e1 := HST.out (by omega)
          subst e1
          have hgt : (0 : Int) < (k : Int) := by omega
          have hadd1 := add_run s0 [44, 32] (mkB s0) ⟨#[44, 32]⟩ (mkB (s0 ++ [44, 32])) rfl rfl rfl (by simp; omega)
          have hadd2 := add_run (s0 ++ [44, 32]) t (mkB (s0 ++ [44, 32])) (mkB t) (mkB ((s0 ++ [44, 32]) ++ t)) rfl rfl rfl (by simp; omega)
          generalize mkB ((s0 ++ [44, 32]) ++ t) = T3 at *
          generalize mkB (s0 ++ [44, 32]) = T2 at *
          generalize mkB s0 = T0 at *
          generalize mkB t = T1 at *
          clear htl hsl HS0 HST
          go_wp2_with (fail)
          refine HV.out.mono ?_
          rintro e w2 ⟨rfl, bel2⟩
          have b2 := HBL.out.trans (bel2.mono HBL.out.size)
          have hcr2 := (b2.cell (p := ⟨w.heap.size, 0, none⟩) hs1).trans hc1
          have hcell2 := (b2.cell (p := ⟨b, off + k, none⟩) hbb).trans hcell
          have HF2 := Lib.hid (HF.out w2 ((HRD.out.below b2).more b2.size))
          have HB2 := Lib.hid b2
          clear bel2 b2 HF HRD hcell hcr
          go_wp2_with (fail)
          refine HF2.out.mono ?_
          rintro e w3 ⟨rfl, bel3⟩
          have HB3 := Lib.hid (HB2.out.trans (bel3.mono HB2.out.size))
          clear bel3
          go_wp2
          go_roundw
          case rel => exact ⟨k + 1, by omega, by go_num, str_eq HS1.out, fun h => Bool.noConfusion h, HB3.out⟩
          case measure => simp [intOf]; omega
    · have hkl : k = qs.length := by omega
      subst hkl
      have HE : Hid (mkB (seqL (qs.take qs.length)) = seqT qs) := Lib.hid (by
        cases hv : validQ qs with
        | true => rw [seqT_yes hv, List.take_of_length_le (Nat.le_refl _)]
        | false =>
          have e : qs = [] := List.length_eq_zero_iff.1 (hk0 hv)
          rw [seqT_no hv, e]; rfl)
      have HBL := Lib.hid (HB.out.trans (hbl.mono HB.out.size))
      generalize mkB (seqL (qs.take qs.length)) = S0 at *
      clear hbl h1 hk0
      go_wp2
      go_ret
      exact ⟨ret_str HE.out, HBL.out⟩
end Go.Proofs.YtjhagklpnpabeaaDoor
