/- The model's ComposedBindings. -/
import Derived.Test.YtoniekjchabjlaaDoorSubE
namespace Go.Proofs.YtoniekjchabjlaaDoor
open Go.ChangeAt Go.ChangeShapes Go.RowKit Go.WideShapes

def cbF (ps : List (List Int)) (k : Nat) : List Int := if (ps.getD k []).length = 0 then [(k : Int) + 1] else ps.getD k []
/-- The element of a composed binding. -/
def cbE (ps bs : List (List Int)) (k : Nat) : List Int := if (ps.getD k []).length = 0 ∧ (bs.getD k []).length = 0 then [] else sbL bs (cbF ps k)
def cbS (ps bs : List (List Int)) (k : Nat) : List (List Int) := (List.range 8).map fun i => if i < k then cbE ps bs i else []
def cbB (ps bs : List (List Int)) : Bool := bndB ps && (bndB bs && (List.range 8).all fun i => decide ((cbE ps bs i).length ≤ 24))
def cbL (ps bs : List (List Int)) : List (List Int) := if cbB ps bs = true then cbS ps bs 8 else []
theorem cbS_zero (ps bs : List (List Int)) : cbS ps bs 0 = List.replicate 8 [] := rfl
theorem cbS_len (ps bs : List (List Int)) (k : Nat) : (cbS ps bs k).length = 8 := by simp [cbS]
theorem cbS_set (ps bs : List (List Int)) {k : Nat} (_hk : k < 8) : (cbS ps bs k).set k (cbE ps bs k) = cbS ps bs (k + 1) := by
  apply List.ext_getElem
  · simp [cbS]
  · intro i h1 h2
    rw [List.getElem_set]
    simp only [cbS, List.getElem_map, List.getElem_range]
    by_cases e : k = i
    · subst e; rw [if_pos rfl, if_pos (by omega)]
    · rw [if_neg e]
      by_cases h : i < k
      · rw [if_pos h, if_pos (by omega)]
      · rw [if_neg h, if_neg (by omega)]
theorem cbS_same (ps bs : List (List Int)) {k : Nat} (h : cbE ps bs k = []) : cbS ps bs (k + 1) = cbS ps bs k := by
  unfold cbS
  refine List.map_congr_left fun i _ => ?_
  by_cases e : i = k
  · subst e; rw [if_pos (by omega), if_neg (by omega), h]
  · by_cases h' : i < k
    · rw [if_pos h', if_pos (by omega)]
    · rw [if_neg h', if_neg (by omega)]
theorem cbB_no1 {ps bs : List (List Int)} (h : bndB ps = false) : cbB ps bs = false := by unfold cbB; rw [h]; rfl
theorem cbB_no2 {ps bs : List (List Int)} (h : bndB bs = false) : cbB ps bs = false := by unfold cbB; rw [h, Bool.false_and, Bool.and_false]
theorem cbB_long {ps bs : List (List Int)} {k : Nat} (hk : k < 8) (h : ¬ (cbE ps bs k).length ≤ 24) : cbB ps bs = false := by
  unfold cbB
  rw [List.all_eq_false.2 ⟨k, List.mem_range.2 hk, by simp only [decide_eq_true_eq]; exact h⟩, Bool.and_false, Bool.and_false]
theorem cbB_yes {ps bs : List (List Int)} (h : bndB ps = true) (h' : bndB bs = true) (ha : ∀ i, i < 8 → (cbE ps bs i).length ≤ 24) : cbB ps bs = true := by
  unfold cbB
  rw [h, h', Bool.true_and, Bool.true_and]
  exact List.all_eq_true.2 fun i hi => decide_eq_true (ha i (List.mem_range.1 hi))
theorem cbL_no {ps bs : List (List Int)} (h : cbB ps bs = false) : cbL ps bs = [] := by unfold cbL; rw [h]; rfl
theorem cbL_yes {ps bs : List (List Int)} (h : cbB ps bs = true) : cbL ps bs = cbS ps bs 8 := by unfold cbL; rw [if_pos h]
theorem atom_valid : ∀ k : Fin 8, validB [((k.1 : Nat) : Int) + 1] = true := by decide
theorem cbL_small (ps bs : List (List Int)) : (cbL ps bs).length ≤ 1048576 ∧ total (cbL ps bs) ≤ 1048576 := by
  cases h : cbB ps bs with
  | false => rw [cbL_no h]; exact ⟨Nat.zero_le _, by simp [total]⟩
  | true =>
    have hl := cbS_len ps bs 8
    rw [cbL_yes h]
    refine ⟨by omega, ?_⟩
    have ha : ∀ q ∈ cbS ps bs 8, q.length ≤ 24 := by
      intro q hq
      obtain ⟨i, hi, rfl⟩ := List.mem_map.1 hq
      have hi' := List.mem_range.1 hi
      unfold cbB at h
      simp only [Bool.and_eq_true] at h
      rw [if_pos hi']
      exact of_decide_eq_true (List.all_eq_true.1 h.2.2 i hi)
    have := total_small ha
    omega
theorem givesSSB_mk {w w' : World} {V V' : List (List Int)} {b b' : Bool} {hs : Nat → Option Addr × Nat} {A : Option Addr} {c n : Nat} (h1 : V.length = n) (own : OwnQ w' w.heap.size w'.heap.size (.slice A n c) hs V) (bel : Below w.heap.size w w') (hV : V = V') (hb : b = b') :
    GivesSSB w V' b' (.returned (.tuple #[.slice A n c, .bool b])) w' := by
  subst hV; subst hb; subst h1
  exact ⟨hs, A, c, rfl, own, bel⟩
theorem givesSSB_nil (w w' : World) (h : Below w.heap.size w w') : GivesSSB w [] false (.returned (.tuple #[.slice none 0 0, .bool false])) w' := ⟨fun _ => (none, 0), none, 0, rfl, OwnQ.nil w' _ _ _, h⟩

set_option maxRecDepth 100000 in
set_option maxHeartbeats 8000000 in
theorem sComposed_any (A : Option Addr) (n c : Nat) (ps : List (List Int)) (B : Option Addr) (m d : Nat) (bs : List (List Int)) (w : World) (h : RdQ w w.heap.size A n ps) (h' : RdQ w w.heap.size B m bs) (hn : n ≤ 1048576) (hm : m ≤ 1048576) :
    Calls Tryd.prog 23 #[.slice A n c, .slice B m d] w (GivesSSB w (cbL ps bs) (cbB ps bs)) := by
  have HA := Lib.hid (sIsBinding_any A n c ps w h hn)
  have HBD := Lib.hid (fun w2 (bel : Below w.heap.size w w2) => sIsBinding_any B m d bs w2 ((h'.below bel).more bel.size) hm)
  cases hba : bndB ps with
  | false =>
    have hs := cbB_no1 (bs := bs) hba
    rw [cbL_no hs, hs]
    rw [hba] at HA
    clear h h' hs hba HBD
    go_enter Tryd.func23, Tryd.ntmps23
    go_wp2_with (fail)
    refine HA.out.mono ?_
    rintro e w2 ⟨rfl, bel2⟩
    have HB2 := Lib.hid bel2
    clear bel2
    go_wp2
    go_ret2
    exact givesSSB_nil _ _ HB2.out
  | true =>
    rw [hba] at HA
    cases hbb : bndB bs with
    | false =>
      have hs := cbB_no2 (ps := ps) hbb
      rw [cbL_no hs, hs]
      rw [hbb] at HBD
      clear h h' hs hba
      go_enter Tryd.func23, Tryd.ntmps23
      go_wp2_with (fail)
      refine HA.out.mono ?_
      rintro e w2 ⟨rfl, bel2⟩
      have HB2 := Lib.hid bel2
      clear bel2
      go_wp2_with (fail)
      refine (HBD.out w2 HB2.out).mono ?_
      rintro e w3 ⟨rfl, bel3⟩
      have HB3 := Lib.hid (HB2.out.trans (bel3.mono HB2.out.size))
      clear bel3
      go_wp2
      go_ret2
      exact givesSSB_nil _ _ HB3.out
    | true =>
      rw [hbb] at HBD
      have hna := h.len
      have hnb := h'.len
      have h8a := bnd_len hba
      have h8b := bnd_len hbb
      obtain rfl : n = 8 := by omega
      obtain rfl : m = 8 := by omega
      have HAN := Lib.hid hba; have HBN := Lib.hid hbb
      have H := Lib.hid h; have H' := Lib.hid h'
      clear h h' hna hnb h8a h8b hba hbb
      go_enter Tryd.func23, Tryd.ntmps23
      go_wp2_with (fail)
      refine HA.out.mono ?_
      rintro e w2 ⟨rfl, bel2⟩
      have HB2 := Lib.hid bel2
      clear bel2
      go_wp2_with (fail)
      refine (HBD.out w2 HB2.out).mono ?_
      rintro e w3 ⟨rfl, bel3⟩
      have HB3 := Lib.hid (HB2.out.trans (bel3.mono HB2.out.size))
      clear bel3 HB2
      have hs3 := HB3.out.size
      go_wp2_with (fail)
      refine (emptyBinding_any w3).mono ?_
      rintro e w4 ⟨hs0, g0, c0, rfl, own4, bel4⟩
      rw [← cbS_zero ps bs] at own4
      have HO4 := Lib.hid own4; have HB4 := Lib.hid bel4
      clear own4 bel4
      go_wp2_with (fail)
      go_loopw [7] (fun i wr => ∃ (k : Nat) (hs : Nat → Option Addr × Nat), k ≤ 8 ∧ i = .int .i64 k ∧ OwnQ wr w3.heap.size wr.heap.size (.slice (some ⟨g0, 0, none⟩) 8 c0) hs (cbS ps bs k) ∧ Below w3.heap.size w3 wr ∧ ∀ j, j < k → (cbE ps bs j).length ≤ 24) (fun i _ => 8 - (intOf i).toNat)
      case atStart => exact ⟨0, hs0, by omega, rfl, HO4.out, HB4.out, fun j hj => absurd hj (by omega)⟩
      case round =>
        obtain ⟨k, hs, hk, rfl, hown, hb, hal⟩ := hrel
        have hsz := hb.size
        have HO := Lib.hid hown; have HB := Lib.hid hb; have HAL := Lib.hid hal
        have HBW := Lib.hid (HB3.out.trans (hb.mono hs3))
        clear hown hb hal
        by_cases hlt : k < 8
        · have hlt' : (k : Int) < 8 := by omega
          have hd8 : decide ((k : Int) < 8) = true := decide_eq_true hlt'
          have hga : ∃ b off, A = some ⟨b, off, none⟩ ∧ b < w.heap.size ∧ ∃ A' c', w.cell? ⟨b, off + k, none⟩ = some (.slice A' (ps.getD k []).length c') ∧ (ps.getD k []).length ≤ c' ∧ RdI w w.heap.size A' (ps.getD k []).length (ps.getD k []) := by
            obtain ⟨b, off, e, hbb, hc⟩ := H.out.2 (by omega)
            obtain ⟨A', c', h1, h2, h3⟩ := hc k hlt
            exact ⟨b, off, e, hbb, A', c', h1, h2, h3⟩
          have hgb : ∃ b off, B = some ⟨b, off, none⟩ ∧ b < w.heap.size ∧ ∃ A' c', w.cell? ⟨b, off + k, none⟩ = some (.slice A' (bs.getD k []).length c') := by
            obtain ⟨b, off, e, hbb, hc⟩ := H'.out.2 (by omega)
            obtain ⟨A', c', h1, h2, h3⟩ := hc k hlt
            exact ⟨b, off, e, hbb, A', c', h1⟩
          obtain ⟨ba, oa, rfl, hba, Aa, ca, hca, hcc, hrd⟩ := hga
          obtain ⟨bb, ob, rfl, hbb, Ab, cb, hcb⟩ := hgb
          have ha := (HBW.out.cell (p := ⟨ba, oa + k, none⟩) hba).trans hca
          have hbc := (HBW.out.cell (p := ⟨bb, ob + k, none⟩) hbb).trans hcb
          have HRD := Lib.hid ((hrd.below HBW.out).more HBW.out.size)
          have hok := bnd_at HAN.out k
          have HE : Hid (cbE ps bs k = if (ps.getD k []).length = 0 ∧ (bs.getD k []).length = 0 then [] else sbL bs (cbF ps k)) := Lib.hid rfl
          have HF : Hid (cbF ps k = if (ps.getD k []).length = 0 then [(k : Int) + 1] else ps.getD k []) := Lib.hid rfl
          have HSET := Lib.hid (cbS_set ps bs hlt)
          have HSAME := Lib.hid (@cbS_same ps bs k)
          have HLONG := Lib.hid (fun hh => cbB_long (ps := ps) (bs := bs) hlt hh)
          have HLN := Lib.hid (cbS_len ps bs k)
          clear hca hcb hrd
          generalize ps.getD k [] = E at *
          generalize (bs.getD k []).length = FL at *
          have hE24 := elB_len hok
          by_cases hE0 : E.length = 0
          · have hl0 : ((E.length : Int) == 0) = true := beq_iff_eq.2 (by omega)
            by_cases hF0 : FL = 0
            · have hf0 : ((FL : Int) == 0) = true := beq_iff_eq.2 (by omega)
              have HEN : Hid (cbE ps bs k = []) := Lib.hid (by rw [HE.out, if_pos ⟨hE0, hF0⟩])
              go_wp2
              go_roundw
              case rel => exact ⟨k + 1, hs, by omega, by go_num, by rw [HSAME.out HEN.out]; exact HO.out, HB.out, fun j hj => by
                rcases Nat.lt_or_ge j k with h1 | h1
                · exact HAL.out j h1
                · obtain rfl : j = k := by omega
                  rw [HEN.out]; exact Nat.zero_le _⟩
              case measure => simp [intOf]; omega
            · have hf0 : ((FL : Int) == 0) = false := beq_eq_false_iff_ne.2 (by omega)
              have HEN : Hid (cbE ps bs k = sbL bs [(k : Int) + 1]) := Lib.hid (by rw [HE.out, if_neg (fun h => hF0 h.2), HF.out, if_pos hE0])
              have hwk : IntKind.i64.wrap ((k : Int) + 1) = (k : Int) + 1 := IntWalk.i64_in _ (by omega)
              have bx := (Below.refl wr.heap.size wr).alloc (Nat.le_refl _) (.cells #[Value.int .i64 ((k : Int) + 1)] 2)
              have rx : RdI (wr.alloc (.cells #[Value.int .i64 ((k : Int) + 1)] 2)) (wr.alloc (.cells #[Value.int .i64 ((k : Int) + 1)] 2)).heap.size (some ⟨wr.heap.size, 0, none⟩) 1 [(k : Int) + 1] :=
                ⟨rfl, fun _ => ⟨wr.heap.size, 0, rfl, by simp, fun j hj => by
                  have e : j = 0 := by omega
                  subst e
                  simp⟩⟩
              obtain ⟨wx, hwx⟩ : ∃ wx, wx = wr.alloc (.cells #[Value.int .i64 ((k : Int) + 1)] 2) := ⟨_, rfl⟩
              rw [← hwx] at bx rx
              have hbx := HBW.out.trans (bx.mono HBW.out.size)
              have HS := Lib.hid (sSubst_any (some ⟨wr.heap.size, 0, none⟩) 1 1 [(k : Int) + 1] (some ⟨bb, ob, none⟩) 8 d bs wx rx (atom_valid ⟨k, hlt⟩) ((H'.out.below hbx).more hbx.size) HBN.out)
              rw [← HEN.out] at HS
              have HBX := Lib.hid bx
              clear bx rx hbx
              clear HE HF HSAME hok HRD
              generalize hR : cbE ps bs k = R at *
              have HR := Lib.hid hR
              clear hR
              go_wp2_with (fail)
              rw [← hwx]
              clear hwx
              refine HS.out.mono ?_
              rintro e w5 ⟨A5, c5, rfl, own5, bel5⟩
              have hs5 := bel5.size
              have bw5 := HBX.out.trans (bel5.mono HBX.out.size)
              obtain ⟨hF, hFb⟩ := HO.out.fill HLN.out hlt rfl HB.out (own5.mono HBX.out.size) bw5
              rw [HSET.out] at hF
              have hO5 := HO.out.below bw5
              obtain ⟨hf, ho⟩ := hO5.at HLN.out hlt
              obtain ⟨o, hoo⟩ : ∃ o, hv hs (cbS ps bs k) k = o := ⟨_, rfl⟩
              rw [hoo] at ho
              have HFF := Lib.hid hF; have HFB := Lib.hid hFb
              clear hF hFb hoo hO5 own5 bel5 bw5
              by_cases h24 : R.length ≤ 24
              · have hd : decide (24 < (R.length : Int)) = false := decide_eq_false (by omega)
                go_wp2
                go_roundw
                case rel => exact ⟨k + 1, _, by omega, by go_num, HFF.out, HFB.out, fun j hj => by
                  rcases Nat.lt_or_ge j k with h1 | h1
                  · exact HAL.out j h1
                  · obtain rfl : j = k := by omega
                    exact HR.out ▸ h24⟩
                case measure => simp [intOf]; omega
              · have hd : decide (24 < (R.length : Int)) = true := decide_eq_true (by omega)
                have HNO := Lib.hid (HLONG.out h24)
                have HBZ := Lib.hid (HB3.out.trans (HFB.out.mono hs3))
                go_wp2
                go_ret2
                rw [cbL_no HNO.out, HNO.out]
                exact givesSSB_nil _ _ HBZ.out
          · have hl0 : ((E.length : Int) == 0) = false := beq_eq_false_iff_ne.2 (by omega)
            have hvE := elB_valid hok (by omega)
            have HEN : Hid (cbE ps bs k = sbL bs E) := Lib.hid (by rw [HE.out, if_neg (fun h => hE0 h.1), HF.out, if_neg hE0])
            have HS := Lib.hid (sSubst_any Aa E.length ca E (some ⟨bb, ob, none⟩) 8 d bs wr HRD.out hvE ((H'.out.below HBW.out).more HBW.out.size) HBN.out)
            rw [← HEN.out] at HS
            obtain ⟨wx, hwx⟩ : ∃ wx, wx = wr := ⟨_, rfl⟩
            have HBX : Hid (Below wr.heap.size wr wx) := Lib.hid (by rw [hwx]; exact Below.refl _ _)
            rw [← hwx] at HS
            clear HE HF HSAME hok HRD
            generalize hR : cbE ps bs k = R at *
            have HR := Lib.hid hR
            clear hR
            subst hwx
            go_wp2_with (fail)
            refine HS.out.mono ?_
            rintro e w5 ⟨A5, c5, rfl, own5, bel5⟩
            have hs5 := bel5.size
            have bw5 := HBX.out.trans (bel5.mono HBX.out.size)
            obtain ⟨hF, hFb⟩ := HO.out.fill HLN.out hlt rfl HB.out (own5.mono HBX.out.size) bw5
            rw [HSET.out] at hF
            have hO5 := HO.out.below bw5
            obtain ⟨hf, ho⟩ := hO5.at HLN.out hlt
            obtain ⟨o, hoo⟩ : ∃ o, hv hs (cbS ps bs k) k = o := ⟨_, rfl⟩
            rw [hoo] at ho
            have HFF := Lib.hid hF; have HFB := Lib.hid hFb
            clear hF hFb hoo hO5 own5 bel5 bw5
            by_cases h24 : R.length ≤ 24
            · have hd : decide (24 < (R.length : Int)) = false := decide_eq_false (by omega)
              go_wp2
              go_roundw
              case rel => exact ⟨k + 1, _, by omega, by go_num, HFF.out, HFB.out, fun j hj => by
                rcases Nat.lt_or_ge j k with h1 | h1
                · exact HAL.out j h1
                · obtain rfl : j = k := by omega
                  exact HR.out ▸ h24⟩
              case measure => simp [intOf]; omega
            · have hd : decide (24 < (R.length : Int)) = true := decide_eq_true (by omega)
              have HNO := Lib.hid (HLONG.out h24)
              have HBZ := Lib.hid (HB3.out.trans (HFB.out.mono hs3))
              go_wp2
              go_ret2
              rw [cbL_no HNO.out, HNO.out]
              exact givesSSB_nil _ _ HBZ.out
        · have hk8 : k = 8 := by omega
          subst hk8
          have hcy := cbB_yes HAN.out HBN.out HAL.out
          have HG := Lib.hid (And.intro (cbL_yes hcy) hcy)
          have HLN := Lib.hid (cbS_len ps bs 8)
          clear hcy
          go_wp2
          go_ret2
          exact givesSSB_mk HLN.out (HO.out.more hs3 (Nat.le_refl _)) HBW.out HG.out.1.symm HG.out.2.symm
end Go.Proofs.YtoniekjchabjlaaDoor
