/- Substitution in proofs: its mathematics; SubstProof of the model. slices.Clone of steps; checkedProof, SubstProof of the program. The law of SubstProof: small facts. -/
import Derived.Test.YthbkcpacgnmcfaaGreatDoorQCmD
import Derived.Test.YthbkcpacgnmcfaaGreatDoorCmN
import Derived.Test.YthbkcpacgnmcfaaGreatDoorQBndC
import Derived.Test.YthbkcpacgnmcfaaGreatDoorQCkZ
import Derived.Test.YthbkcpacgnmcfaaGreatDoorQSubA
import Derived.Test.YthbkcpacgnmcfaaGreatDoorQSpD
namespace Go.Proofs.YthbkcpacgnmcfaaGreatDoor
set_option linter.unusedSimpArgs false
set_option linter.unusedVariables false
section
open Go.ChangeAt Go.ChangeShapes Go.RowKit Go.WideShapes

/-- A step with its formula substituted. -/
def sfP (ps : List (List Int)) (s : Stp) : Stp := { s with f := sbL ps s.f }
def spB (ss : List Stp) (ps : List (List Int)) : Bool := ckB ss && (bndB ps && ckB (ss.map (sfP ps)))
def spL (ss : List Stp) (ps : List (List Int)) : List Stp := if spB ss ps = true then ss.map (sfP ps) else []
theorem spB_no1 {ss : List Stp} {ps : List (List Int)} (h : ckB ss = false) : spB ss ps = false := by unfold spB; rw [h]; rfl
theorem spB_no2 {ss : List Stp} {ps : List (List Int)} (h : bndB ps = false) : spB ss ps = false := by unfold spB; rw [h, Bool.false_and, Bool.and_false]
theorem spB_is {ss : List Stp} {ps : List (List Int)} (h : ckB ss = true) (h2 : bndB ps = true) : spB ss ps = ckB (ss.map (sfP ps)) := by unfold spB; rw [h, h2]; rfl
theorem spL_no {ss : List Stp} {ps : List (List Int)} (h : spB ss ps = false) : spL ss ps = [] := by unfold spL; rw [h]; rfl
theorem spL_yes {ss : List Stp} {ps : List (List Int)} (h : spB ss ps = true) : spL ss ps = ss.map (sfP ps) := by unfold spL; rw [if_pos h]
theorem sqK_at {ss : List Stp} {n k : Nat} (h : (sqK ss n).isSome = true) (hk : k < n) : ∃ L R, sqK ss k = some L ∧ seqOf L (ss.getD k Stp.nil) = some R := by
  cases h1 : sqK ss k with
  | none => rw [sqK_none h1 n (by omega)] at h; cases h
  | some L =>
    cases h2 : seqOf L (ss.getD k Stp.nil) with
    | none => rw [sqK_stop h1 h2 hk] at h; cases h
    | some R => exact ⟨L, R, rfl, h2⟩
theorem fit_form {x y z : Bool} {i j : Int} {F : List Int} (h : fitV x y z i j F = true) : F = [] ∨ validB F = true := by
  unfold fitV at h
  simp only [Bool.and_eq_true] at h
  cases z with
  | true => exact .inr (by simpa using h.1.1)
  | false => exact .inl (List.eq_nil_of_length_eq_zero (by simpa using h.1.1))
theorem sr_form {r i j : Int} {F : List Int} {P Q R : List (List Int)} (h : srV r i j F P Q = some R) : F = [] ∨ validB F = true := by
  have f : ∀ P Q : List (List Int), inpV r i j F P Q = true → F = [] ∨ validB F = true := fun P Q h => by
    unfold inpV at h
    simp only [Bool.and_eq_true] at h
    exact fit_form h.2.1
  unfold srV at h
  split at h
  · split at h
    · exact f _ _ (by assumption)
    · cases h
  · split at h
    · split at h
      · exact f _ _ (by assumption)
      · cases h
    · split at h
      · exact f _ _ (by assumption)
      · cases h
/-- The formulas of a valid proof. -/
theorem ck_forms {ss : List Stp} (h : ckB ss = true) : 0 < ss.length ∧ ss.length ≤ 40 ∧ ∀ k, k < ss.length → (ss.getD k Stp.nil).f = [] ∨ validB (ss.getD k Stp.nil).f = true := by
  unfold ckB at h
  simp only [Bool.and_eq_true, decide_eq_true_eq] at h
  refine ⟨h.1.1, h.1.2, fun k hk => ?_⟩
  obtain ⟨L, R, _, h2⟩ := sqK_at h.2.1 hk
  unfold seqOf raV at h2
  split at h2
  · obtain ⟨P, Q, _, _, h3⟩ := both_some h2
    exact sr_form h3
  · cases h2
theorem form_len {F : List Int} (h : F = [] ∨ validB F = true) : F.length ≤ 24 := by
  rcases h with rfl | h
  · simp
  · have := valid_len h; omega
theorem fs_len {ss : List Stp} (h : ∀ k, k < ss.length → (ss.getD k Stp.nil).f.length ≤ 1000) : ∀ q ∈ fsP ss, q.length ≤ 1000 := by
  intro q hq
  obtain ⟨s, hs, rfl⟩ := List.mem_map.1 hq
  obtain ⟨k, hk, e⟩ := List.mem_iff_getElem.1 hs
  have := h k hk
  rw [List.getD_eq_getElem?_getD, List.getElem?_eq_getElem hk, e] at this
  exact this
/-- The first k steps substituted. -/
def mp (ps : List (List Int)) (ss : List Stp) (k : Nat) : List Stp := (ss.take k).map (sfP ps) ++ ss.drop k
theorem mp_zero (ps : List (List Int)) (ss : List Stp) : mp ps ss 0 = ss := by simp [mp]
theorem mp_all (ps : List (List Int)) (ss : List Stp) : mp ps ss ss.length = ss.map (sfP ps) := by simp [mp]
theorem mp_len (ps : List (List Int)) (ss : List Stp) (k : Nat) : (mp ps ss k).length = ss.length := by unfold mp; rw [List.length_append, List.length_map, List.length_take, List.length_drop]; omega
theorem mp_get {ps : List (List Int)} {ss : List Stp} {k : Nat} (hk : k < ss.length) : (mp ps ss k).getD k Stp.nil = ss.getD k Stp.nil := by
  unfold mp
  have hl : ((ss.take k).map (sfP ps)).length = k := by rw [List.length_map, List.length_take]; omega
  rw [List.getD_eq_getElem?_getD, List.getElem?_append_right (by omega), hl, Nat.sub_self, List.getElem?_drop, Nat.add_zero, ← List.getD_eq_getElem?_getD]
theorem mp_set {ps : List (List Int)} {ss : List Stp} {k : Nat} (hk : k < ss.length) : (mp ps ss k).set k (sfP ps (ss.getD k Stp.nil)) = mp ps ss (k + 1) := by
  unfold mp
  have hl : ((ss.take k).map (sfP ps)).length = k := by rw [List.length_map, List.length_take]; omega
  have hd : ss.drop k = ss.getD k Stp.nil :: ss.drop (k + 1) := by
    rw [List.drop_eq_getElem_cons hk, List.getD_eq_getElem?_getD, List.getElem?_eq_getElem hk]; rfl
  rw [takeP_succ (d := Stp.nil) hk, List.map_append, List.append_assoc, List.set_append_right _ _ (by omega), hl, Nat.sub_self, hd]
  rfl
theorem mp_same {ps : List (List Int)} {ss : List Stp} {k : Nat} (hk : k < ss.length) (h : sfP ps (ss.getD k Stp.nil) = ss.getD k Stp.nil) : mp ps ss (k + 1) = mp ps ss k := by
  rw [← mp_set hk, h, ← mp_get (ps := ps) hk]
  apply List.ext_getElem?
  intro i
  have hl := mp_len ps ss k
  by_cases e : k = i
  · subst e
    rw [List.getElem?_set_self (by omega), List.getD_eq_getElem?_getD, List.getElem?_eq_getElem (by omega)]; rfl
  · rw [List.getElem?_set_ne e]
theorem bnd_len2 {ps : List (List Int)} (hb : bndB ps = true) {F : List Int} (h : F.length ≤ 24) : (sbL ps F).length ≤ 576 := by
  have h1 := sbL_len' (qs := bndQ ps) (bndQ_ok ps) F
  rw [bndQ_yes hb] at h1
  omega
theorem sub_lens {ps : List (List Int)} {ss : List Stp} (hb : bndB ps = true) (hF : ∀ k, k < ss.length → (ss.getD k Stp.nil).f = [] ∨ validB (ss.getD k Stp.nil).f = true) : ∀ q ∈ fsP (ss.map (sfP ps)), q.length ≤ 576 := by
  intro q hq
  obtain ⟨s, hs, rfl⟩ := List.mem_map.1 hq
  obtain ⟨t, ht, rfl⟩ := List.mem_map.1 hs
  obtain ⟨k, hk, e⟩ := List.mem_iff_getElem.1 ht
  have h9 := hF k hk
  rw [List.getD_eq_getElem?_getD, List.getElem?_eq_getElem hk, e] at h9
  exact bnd_len2 hb (form_len h9)
theorem givesPB_no {w w' : World} {ss : List Stp} {b : Bool} (hs : ss = []) (hb : b = false) (bel : Below w.heap.size w w') : GivesPB w ss b (.returned (.tuple #[.slice none 0 0, .bool false])) w' := by
  subst hs; subst hb
  exact ⟨fun _ => (none, 0), none, 0, rfl, OwnP.nil _ _ _ _, bel⟩
theorem givesPB_mk {w w' : World} {ss : List Stp} {b b' : Bool} {hs : Nat → Option Addr × Nat} {A : Option Addr} {n c : Nat} (hn : n = ss.length) (hb : b' = b) (o : OwnP w' w.heap.size w'.heap.size (.slice A n c) hs ss n) (bel : Below w.heap.size w w') : GivesPB w ss b (.returned (.tuple #[.slice A n c, .bool b'])) w' := by
  subst hn; subst hb
  exact ⟨hs, A, c, rfl, o, bel⟩

set_option maxRecDepth 100000 in
set_option maxHeartbeats 8000000 in
theorem sSubstProof_any (A : Option Addr) (n c : Nat) (ss : List Stp) (B : Option Addr) (m d : Nat) (ps : List (List Int)) (w : World) (h : RdP w w.heap.size A n ss) (h' : RdQ w w.heap.size B m ps) (hn : n ≤ 1048576) (hm : m ≤ 1048576) (hq : ∀ q ∈ fsP ss, q.length ≤ 1048576) :
    Calls Tryz.prog 6 #[.slice A n c, .slice B m d] w (GivesPB w (spL ss ps) (spB ss ps)) := by
  have hl := h.len
  subst hl
  have HVP := Lib.hid (sValidProof_any A ss.length c ss w h hn hq)
  cases hck : ckB ss with
  | false =>
    have HS := Lib.hid (spB_no1 (ps := ps) hck)
    rw [hck] at HVP
    clear hck h h' hq
    go_enter Tryz.func6, Tryz.ntmps6
    go_wp2_with (fail)
    refine HVP.out.mono ?_
    rintro e w1 ⟨rfl, b1⟩
    have HB1 := Lib.hid b1
    clear b1
    go_wp2
    go_ret2
    exact givesPB_no (spL_no HS.out) HS.out HB1.out
  | true =>
    rw [hck] at HVP
    obtain ⟨hn0, hn40, hF⟩ := ck_forms hck
    have HCK := Lib.hid hck; have HF := Lib.hid hF
    have HIB := Lib.hid (fun (wx : World) (hx : Below w.heap.size w wx) => sIsBinding_any B m d ps wx ((h'.below hx).more hx.size) hm)
    have HCP := Lib.hid (fun (wx : World) (hx : Below w.heap.size w wx) => sCopySteps_any A ss.length c ss wx ((h.below hx).more hx.size) (by omega) (fs_len fun k hk => by have := form_len (hF k hk); omega))
    have HRB := Lib.hid h'
    clear hF h h' hq hck
    cases hbd : bndB ps with
    | false =>
      have HS := Lib.hid (spB_no2 (ss := ss) hbd)
      rw [hbd] at HIB
      clear hbd
      go_enter Tryz.func6, Tryz.ntmps6
      go_wp2_with (fail)
      refine HVP.out.mono ?_
      rintro e w1 ⟨rfl, b1⟩
      have HB1 := Lib.hid b1
      clear b1
      go_wp2_with (fail)
      refine (HIB.out w1 HB1.out).mono ?_
      rintro e w2 ⟨rfl, b2⟩
      have HB2 := Lib.hid (HB1.out.trans (b2.mono HB1.out.size))
      clear b2
      go_wp2
      go_ret2
      exact givesPB_no (spL_no HS.out) HS.out HB2.out
    | true =>
      have HS := Lib.hid (spB_is HCK.out hbd)
      rw [hbd] at HIB
      have HBD := Lib.hid hbd
      clear hbd
      go_enter Tryz.func6, Tryz.ntmps6
      go_wp2_with (fail)
      refine HVP.out.mono ?_
      rintro e w1 ⟨rfl, b1⟩
      have HB1 := Lib.hid b1
      clear b1
      go_wp2_with (fail)
      refine (HIB.out w1 HB1.out).mono ?_
      rintro e w2 ⟨rfl, b2⟩
      have HB2 := Lib.hid (HB1.out.trans (b2.mono HB1.out.size))
      clear b2
      go_wp2_with (fail)
      refine (HCP.out w2 HB2.out).mono ?_
      rintro e w3 ⟨hs3, A3, c3, rfl, own3, b3⟩
      obtain ⟨g3, cap3, hA3, hg3, hg3'⟩ := own3.outer.form (by omega)
      injection hA3 with hA3 _ hc3
      subst hA3
      have HB3 := Lib.hid (HB2.out.trans (b3.mono HB2.out.size))
      have HO3 := Lib.hid (own3.more HB2.out.size (Nat.le_refl _))
      clear b3 own3 hg3 hg3' hc3
      go_wp2_with (fail)
      go_loopw [7] (fun i wr => ∃ (k : Nat) (hs : Nat → Option Addr × Nat), k ≤ ss.length ∧ i = .int .i64 k ∧ OwnP wr w.heap.size wr.heap.size (.slice (some ⟨g3, 0, none⟩) ss.length c3) hs (mp ps ss k) ss.length ∧ Below w.heap.size w wr) (fun i _ => ss.length - (intOf i).toNat)
      case atStart => exact ⟨0, hs3, Nat.zero_le _, rfl, by rw [mp_zero]; exact HO3.out, HB3.out⟩
      case round =>
        obtain ⟨k, hs, hk, rfl, hown, hb⟩ := hrel
        have HO := Lib.hid hown; have HB := Lib.hid hb
        clear HO3 HB3
        by_cases hlt : k < ss.length
        · have hat5 := (HO.out.at (mp_len ps ss k) hlt 5 (by decide))
          rw [mp_get hlt] at hat5
          have hF9 := HF.out k hlt
          have HGF := Lib.hid (hown.inner k hlt)
          have hfv : fv hs (mp ps ss k) k = .slice (hs k).1 (ss.getD k Stp.nil).f.length (hs k).2 := by unfold fv; rw [mp_get hlt]
          rw [hfv, mp_get hlt] at HGF
          have HSET := Lib.hid (mp_set (ps := ps) hlt)
          have HSAME := Lib.hid (mp_same (ps := ps) hlt)
          have HGET := Lib.hid (mp_get (ps := ps) hlt)
          obtain ⟨s, hs9⟩ : ∃ s, ss.getD k Stp.nil = s := ⟨_, rfl⟩
          rw [hs9] at hat5 hF9 HGF HSET HSAME HGET
          clear hfv hs9 hown hb
          obtain ⟨sr, sa, sb, si, sj, sf⟩ := s
          dsimp only at hF9 HGF
          obtain ⟨fz5, c5⟩ := hat5
          have c5' : wr.cell? ⟨g3, k * 6 + 5, none⟩ = some (.slice (hs k).1 sf.length (hs k).2) := c5
          clear c5
          obtain ⟨Af, hAf⟩ : ∃ x, (hs k).1 = x := ⟨_, rfl⟩
          obtain ⟨cf, hcf⟩ : ∃ x, (hs k).2 = x := ⟨_, rfl⟩
          rw [hAf, hcf] at c5' HGF
          clear hAf hcf
          rcases hF9 with rfl | hF9
          · have HNX := Lib.hid (HSAME.out rfl)
            go_wp2
            go_roundw
            case rel => exact ⟨k + 1, hs, by omega, by go_num, by rw [HNX.out]; exact HO.out, HB.out⟩
            case measure => simp [intOf]; omega
          · have hlf := valid_len hF9
            have hpos : 0 < sf.length := by omega
            have HSU := Lib.hid (sSubst_any Af sf.length cf sf B m d ps wr (RdI.of_own HGF.out) hF9 ((HRB.out.below HB.out).more HB.out.size) HBD.out)
            obtain ⟨Y, hY⟩ : ∃ Y, sbL ps sf = Y := ⟨_, rfl⟩
            have HY := Lib.hid hY
            rw [hY] at HSU
            clear hY hF9 hlf
            go_wp2_with (fail)
            refine HSU.out.mono ?_
            rintro e w5 ⟨A5, c5, rfl, own5, b5⟩
            have hat' := (HO.out.below b5).at (mp_len ps ss k) hlt 5 (by decide)
            obtain ⟨fz', cz'⟩ := hat'
            have HST := Lib.hid ((HO.out.below b5).storeF (K' := ss.length) (hi' := w5.heap.size) (mp_len ps ss k) hlt (Nat.le_refl _) (fun i hi => .inr hi) (own_base own5 HB.out.size) (fun b hb => own5.lt b hb) b5.size)
            have HB5 := Lib.hid ((HB.out.trans (b5.mono HB.out.size)).setCell (p := ⟨g3, k * 6 + 5, none⟩) (by exact (HO.out.outer.lt g3 rfl).1) (.slice A5 Y.length c5))
            clear own5 b5 c5' fz5 HSU
            go_wp2
            go_roundw
            case rel => exact ⟨k + 1, _, by omega, by go_num, by
              have h9 := HST.out
              rw [HGET.out] at h9
              rw [← HSET.out]
              have e9 : sfP ps ⟨sr, sa, sb, si, sj, sf⟩ = { (⟨sr, sa, sb, si, sj, sf⟩ : Stp) with f := Y } := by unfold sfP; rw [HY.out]
              rw [e9]
              simpa using h9, HB5.out⟩
            case measure => simp [intOf]; omega
        · have hkl : k = ss.length := by omega
          subst hkl
          clear hown hb
          have HO4 := HO.out
          rw [mp_all] at HO4
          have HO5 := Lib.hid HO4
          have HLM : Hid ((ss.map (sfP ps)).length = ss.length) := Lib.hid (by rw [List.length_map])
          have HV2 := Lib.hid (sValidProof_any (some ⟨g3, 0, none⟩) ss.length c3 (ss.map (sfP ps)) wr (HO4.rd HLM.out) (by omega) (fun q hq => by have := sub_lens HBD.out HF.out q hq; omega))
          clear HO4
          rw [← HS.out] at HV2
          obtain ⟨vb, hvb⟩ : ∃ vb, spB ss ps = vb := ⟨_, rfl⟩
          rw [hvb] at HV2
          have HVB := Lib.hid hvb
          clear hvb
          have hd9 : decide ((ss.length : Int) < (ss.length : Int)) = false := decide_eq_false (by omega)
          go_wp2_with (fail)
          refine HV2.out.mono ?_
          rintro e w6 ⟨rfl, b6⟩
          have HB6 := Lib.hid (HB.out.trans (b6.mono HB.out.size))
          have HO6 := Lib.hid ((HO5.out.below b6).more (Nat.le_refl _) b6.size)
          clear b6
          cases vb with
          | false =>
            go_wp2
            go_ret2
            exact givesPB_no (spL_no HVB.out) HVB.out HB6.out
          | true =>
            go_wp2
            go_ret2
            exact givesPB_mk (by rw [spL_yes HVB.out, HLM.out]) HVB.out.symm (by rw [spL_yes HVB.out]; exact HO6.out) HB6.out
end
section
open Go.ChangeAt Go.ChangeShapes Go.RowKit Go.WideShapes

theorem heads {w : World} {B b off n : Nat} {ss : List Stp} (h : ∀ k, k < n → ∃ A' c', AtP w B b (off + k * 6) (ss.getD k Stp.nil) A' c') : ∃ f : Nat → Option Addr × Nat, ∀ k, k < n → AtP w B b (off + k * 6) (ss.getD k Stp.nil) (f k).1 (f k).2 := by
  have h2 : ∀ k, ∃ x : Option Addr × Nat, k < n → AtP w B b (off + k * 6) (ss.getD k Stp.nil) x.1 x.2 := fun k => by
    by_cases hk : k < n
    · obtain ⟨A, c, h3⟩ := h k hk
      exact ⟨(A, c), fun _ => h3⟩
    · exact ⟨(none, 0), fun h => absurd h hk⟩
  exact Classical.skolem.1 h2
theorem head_at {w : World} {B b off n : Nat} {ss : List Stp} {f : Nat → Option Addr × Nat} (hl : ss.length = n) (h : ∀ k, k < n → AtP w B b (off + k * 6) (ss.getD k Stp.nil) (f k).1 (f k).2) : ∀ j u, (rowP f ss)[j]? = some u → w.cell? ((⟨b, off, none⟩ : Addr).add j) = some u := by
  intro j u hu
  have hj : j < ss.length * 6 := by
    rcases Nat.lt_or_ge j (ss.length * 6) with h9 | h9
    · exact h9
    · rw [rowP_out h9] at hu; cases hu
  have e : j = j / 6 * 6 + j % 6 := by omega
  rw [e, rowP_at (by omega) (by omega)] at hu
  obtain ⟨h0, h1, h2, h3, h4, h5, _⟩ := h (j / 6) (by omega)
  rw [add_off, ← hu]
  have c : j % 6 = 0 ∨ j % 6 = 1 ∨ j % 6 = 2 ∨ j % 6 = 3 ∨ j % 6 = 4 ∨ j % 6 = 5 := by omega
  rcases c with c | c | c | c | c | c
  · rw [c, show off + j = off + j / 6 * 6 by omega]; exact h0
  · rw [c, show off + j = off + j / 6 * 6 + 1 by omega]; exact h1
  · rw [c, show off + j = off + j / 6 * 6 + 2 by omega]; exact h2
  · rw [c, show off + j = off + j / 6 * 6 + 3 by omega]; exact h3
  · rw [c, show off + j = off + j / 6 * 6 + 4 by omega]; exact h4
  · rw [c, show off + j = off + j / 6 * 6 + 5 by omega]; exact h5
theorem row_one (f : Nat → Option Addr × Nat) (ss : List Stp) : ∀ u ∈ rowP f ss, u.oneCell' = true := by
  intro u hu
  unfold rowP at hu
  obtain ⟨x, hx, rfl⟩ := List.mem_map.1 hu
  have c : x % 6 = 0 ∨ x % 6 = 1 ∨ x % 6 = 2 ∨ x % 6 = 3 ∨ x % 6 = 4 ∨ x % 6 = 5 := by omega
  rcases c with c | c | c | c | c | c <;> rw [c] <;> rfl
/-- The row copied, the formulas shared. -/
def GivesP0 (w : World) (ss : List Stp) (e : Ending) (w' : World) : Prop :=
  ∃ f g c, e = .returned (.slice (some ⟨g, 0, none⟩) ss.length c) ∧ OwnP w' w.heap.size w'.heap.size (.slice (some ⟨g, 0, none⟩) ss.length c) f ss 0 ∧ Below w.heap.size w w'
theorem own0 {w : World} {lo n g c : Nat} {f : Nat → Option Addr × Nat} {ss : List Stp} (hl : ss.length = n) (o : w.ownsRow lo 43 6 (.slice (some ⟨g, 0, none⟩) n c) n (rowP f ss)) : OwnP w lo w.heap.size (.slice (some ⟨g, 0, none⟩) n c) f ss 0 where
  kle := Nat.zero_le _
  outer := by rw [hl]; exact o
  inner i hi := by simp at hi
  apart i _ hi := by simp at hi
  apart0 i hi := by simp at hi
  top0 k e := (o.lt k e).2
  top i _ hi := by simp at hi

set_option maxRecDepth 100000 in
set_option maxHeartbeats 4000000 in
theorem cloneP_any (A : Option Addr) (n c : Nat) (ss : List Stp) (w : World) (h : RdP w w.heap.size A n ss) (hn0 : 0 < n) (hn : n ≤ 100) :
    Calls Tryz.prog 25 #[.slice A n c] w (GivesP0 w ss) := by
  obtain ⟨i0, hi0, hz0, hz1, hz2⟩ := info_parts_step
  have hl := h.len
  subst hl
  obtain ⟨b, off, rfl, hbb, hat⟩ := h.2 hn0
  obtain ⟨f, hf⟩ := heads hat
  obtain ⟨u, hu⟩ : ∃ u, u = w.alloc (.cells #[] 43) := ⟨_, rfl⟩
  have hbu : Below w.heap.size w u := by rw [hu]; exact box_any w _
  have hou : u.ownsRow w.heap.size 43 6 (.slice (some ⟨w.heap.size, 0, none⟩) 0 0) 0 [] := by rw [hu]; exact made_p (Nat.le_refl _)
  have HC : Hid (∀ j v, (rowP f ss)[j]? = some v → u.cell? ((⟨b, off, none⟩ : Addr).add j) = some v) := Lib.hid fun j v hv => by
    have e := head_at rfl hf j v hv
    rw [add_off] at e ⊢
    rw [← e]; exact hbu.cell hbb
  have HU := Lib.hid hu; have HBU := Lib.hid hbu; have HOU := Lib.hid hou
  have hsz := hbu.size
  have hnil : ∀ wx : World, (binOp .eql 26 (.slice (some ⟨b, off, none⟩) ss.length c) (.slice none 0 0)).run Tryz.prog wx = .ok (.bool false) wx := fun wx => Lib.run_eql_slice_nil wx 26 43 _ _ _ _ _ Tryz.underlying26
  clear hu hbu hou hat hf h
  go_enter Tryz.func25, Tryz.ntmps25
  go_wp2_with (at_builtin; rw [← HU.out]; refine wpList_append_own _ rfl _ _ 26 rfl w.heap.size 43 i0 (Value.agg #[Value.int .i64 0, Value.int .i64 0, Value.int .i64 0, Value.int .i64 0, Value.int .i64 0, Value.slice none 0 0]) 6 64 Tryz.underlying26 hi0 hz0 hz1 hz2 rfl (by decide) _ _ _ rfl HOU.out ⟨b, off, none⟩ ss.length c (rowP f ss) rfl (rowP_len f ss) HC.out (row_one f ss) (by unfold maxLen; omega) (by omega) hsz ?_; intro v7 w7 hown7 hgrow7 hiff7; rw [Nat.zero_add, List.nil_append] at hown7; obtain ⟨g7, c7, rfl⟩ := own_some hown7 (fun e => by have := (hiff7.1 e).1; cases this); have HO7 := Lib.hid hown7; have HB7 := Lib.hid (HBU.out.grown hgrow7 hsz (fun b hb => (HOU.out.lt b hb).1)); clear hown7 hgrow7 hiff7)
  go_ret
  exact ⟨f, g7, c7, rfl, own0 rfl HO7.out, HB7.out⟩
/-- A list handed back if it is a proof. -/
theorem checked_any (A : Option Addr) (n c : Nat) (ss : List Stp) (w : World) (h : RdP w w.heap.size A n ss) (hn : n ≤ 1048576) (ht : Arit w) (hu : Dual w) :
    Calls Tryz.prog 27 #[.slice A n c] w fun e w' => e = .returned (if ckB ss = true then .tuple #[.slice A n c, .bool true] else .tuple #[.slice none 0 0, .bool false]) ∧ Below w.heap.size w w' := by
  have HV := Lib.hid (validProof_any A n c ss w h hn ht hu)
  clear h ht hu
  cases hck : ckB ss with
  | false =>
    rw [hck] at HV
    rw [if_neg (by decide)]
    clear hck
    go_enter Tryz.func27, Tryz.ntmps27
    go_wp2_with (fail)
    refine HV.out.mono ?_
    rintro e w1 ⟨rfl, b1⟩
    have HB := Lib.hid b1
    clear b1
    go_wp2
    go_ret2
    exact ⟨rfl, HB.out⟩
  | true =>
    rw [hck] at HV
    rw [if_pos rfl]
    clear hck
    go_enter Tryz.func27, Tryz.ntmps27
    go_wp2_with (fail)
    refine HV.out.mono ?_
    rintro e w1 ⟨rfl, b1⟩
    have HB := Lib.hid b1
    clear b1
    go_wp2
    go_ret2
    exact ⟨rfl, HB.out⟩

set_option maxRecDepth 100000 in
set_option maxHeartbeats 8000000 in
theorem substProof_impl (A : Option Addr) (n c : Nat) (ss : List Stp) (B : Option Addr) (m d : Nat) (ps : List (List Int)) (w : World) (h : RdP w w.heap.size A n ss) (h' : RdQ w w.heap.size B m ps) (hn : n ≤ 1048576) (hm : m ≤ 1048576) (ht : Arit w) (hu : Dual w) :
    Calls Tryz.prog 9 #[.slice A n c, .slice B m d] w (GivesPB w (spL ss ps) (spB ss ps)) := by
  have hl := h.len
  subst hl
  have HBO := Lib.hid (bindingOf_any B m d ps w h' hm ht)
  have HVP := Lib.hid (fun (wx : World) (hx : Below w.heap.size w wx) => validProof_any A ss.length c ss wx ((h.below hx).more hx.size) hn (ht.below hx ht.lt) (hu.below hx hu.lt))
  obtain ⟨bd, hbd⟩ : ∃ bd, bndB ps = bd := ⟨_, rfl⟩
  have HBD := Lib.hid hbd
  unfold GivesB8 at HBO
  rw [hbd] at HBO
  have HST := Lib.hid h; have HT := Lib.hid ht; have HU := Lib.hid hu
  have hbq : bd = true → bndQ ps = ps := fun e => bndQ_yes (hbd.trans e)
  have HBQ := Lib.hid hbq
  have HBOK := Lib.hid (bndQ_ok ps)
  clear hbd h h' ht hu hbq
  go_enter Tryz.func9, Tryz.ntmps9
  go_wp2_with (fail)
  refine HBO.out.mono ?_
  rintro e w1 ⟨cs, rfl, o1, b1⟩
  obtain ⟨hg, w2, hw2, hg2, o2, b2, hs2⟩ := bnd_var b1 o1
  have HG := Lib.hid hg; have HO1 := Lib.hid o1; have HB2 := Lib.hid b2; have HW2 := Lib.hid hw2; have HG2 := Lib.hid hg2; have HO2 := Lib.hid o2
  have HLT1 : Hid (w1.heap.size < w2.heap.size) := Lib.hid (by omega)
  have HS1 := Lib.hid b1.size
  clear hg hw2 hg2 o2 b2 hs2 o1 b1 HBO
  cases bd with
  | false =>
    have HS := Lib.hid (spB_no2 (ss := ss) HBD.out)
    go_wp2_with (refine wpList_store_row rfl _ _ _ rfl w1.heap.size _ rfl rfl _ _ HG.out (by rw [HO1.out.size]; exact size_bnd) HO1.out.size.symm HO1.out.one ?_; rw [← HW2.out])
    go_wp2
    go_ret2
    exact givesPB_no (spL_no HS.out) HS.out HB2.out
  | true =>
    have HQ := Lib.hid (HBQ.out rfl)
    go_wp2_with (refine wpList_store_row rfl _ _ _ rfl w1.heap.size _ rfl rfl _ _ HG.out (by rw [HO1.out.size]; exact size_bnd) HO1.out.size.symm HO1.out.one ?_; rw [← HW2.out])
    go_wp2_with (fail)
    refine (HVP.out w2 HB2.out).mono ?_
    rintro e w3 ⟨rfl, b3⟩
    have HB3 := Lib.hid (HB2.out.trans (b3.mono HB2.out.size))
    have HG3 := Lib.hid ((b3.block _ HLT1.out).trans HG2.out)
    have HO3 := Lib.hid (BndV.below HO2.out b3)
    have HLT3 := Lib.hid (Nat.lt_of_lt_of_le HLT1.out b3.size)
    clear b3
    cases hck : ckB ss with
    | false =>
      have HS := Lib.hid (spB_no1 (ps := ps) hck)
      clear hck
      go_wp2
      go_ret2
      exact givesPB_no (spL_no HS.out) HS.out HB3.out
    | true =>
      obtain ⟨hn0, hn40, hF⟩ := ck_forms hck
      have HSB := Lib.hid (spB_is hck HBD.out)
      have HF := Lib.hid hF
      have HCL := Lib.hid (cloneP_any A ss.length c ss w3 ((HST.out.below HB3.out).more HB3.out.size) hn0 (by omega))
      clear hck hF HVP
      go_wp2_with (fail)
      refine HCL.out.mono ?_
      rintro e w4 ⟨f4, g4, c4, rfl, own4, b4⟩
      have HB4 := Lib.hid (HB3.out.trans (b4.mono HB3.out.size))
      have HB34 := Lib.hid b4
      have HLG : Hid (w3.heap.size ≤ g4) := Lib.hid (own4.outer.lt g4 rfl).1
      have HO4 := Lib.hid (own4.more HB3.out.size (Nat.le_refl _))
      obtain ⟨gb, hgb⟩ : ∃ gb, w1.heap.size = gb := ⟨_, rfl⟩
      rw [hgb] at HG3 HLT3 HS1
      clear own4 b4 HCL HO2 HG2 HLT1 HG HW2
      go_wp2_with (fail)
      try rw [hgb]
      clear hgb
      go_loopw [27] (fun i wr => ∃ (k : Nat) (hs : Nat → Option Addr × Nat), k ≤ ss.length ∧ i = .int .i64 k ∧ OwnP wr w.heap.size wr.heap.size (.slice (some ⟨g4, 0, none⟩) ss.length c4) hs (mp ps ss k) k ∧ Below w.heap.size w wr ∧ Below w3.heap.size w3 wr) (fun i _ => ss.length - (intOf i).toNat)
      case atStart => exact ⟨0, f4, Nat.zero_le _, rfl, by rw [mp_zero]; exact HO4.out, HB4.out, HB34.out⟩
      case round =>
        obtain ⟨k, hs, hk, rfl, hown, hb, hb3⟩ := hrel
        have HO := Lib.hid hown; have HB := Lib.hid hb; have HB39 := Lib.hid hb3
        have hgc := (hb3.block gb HLT3.out).trans HG3.out
        have hbv := BndV.below HO3.out hb3
        clear HO4 HB4 HB34 hb3
        by_cases hlt : k < ss.length
        · obtain ⟨b, off, rfl, hbb, hcells⟩ := HST.out.2 (by omega)
          obtain ⟨A', c', hat⟩ := hcells k hlt
          obtain ⟨x0, x1, x2, x3, x4, x5, hx6, hx7⟩ := hat.keep (fun _ hp => hb.cell hp) hbb
          have hF9 := form_len (HF.out k hlt)
          have HSET := Lib.hid (mp_set (ps := ps) hlt)
          have HGET := Lib.hid (mp_get (ps := ps) hlt)
          have hrd := hx7.more hb.size
          obtain ⟨s, hs9⟩ : ∃ s, ss.getD k Stp.nil = s := ⟨_, rfl⟩
          rw [hs9] at x0 x1 x2 x3 x4 x5 hF9 hrd HSET HGET
          clear hcells hat hx6 hx7 hown hb hs9
          obtain ⟨sr, sa, sb, si, sj, sf⟩ := s
          dsimp only at x0 x1 x2 x3 x4 x5 hF9 hrd
          obtain ⟨u, hu⟩ : ∃ u, u = wr.alloc (.cells #[Value.int .i64 sr, Value.int .i64 sa, Value.int .i64 sb, Value.int .i64 si, Value.int .i64 sj, Value.slice A' (sf.length) c'] 43) := ⟨_, rfl⟩
          have bu : Below wr.heap.size wr u := by rw [hu]; exact box_any wr _
          have gu := an hu
          have hgl : gb < wr.heap.size := (Array.getElem?_eq_some_iff.1 hgc).1
          have HGU := Lib.hid ((bu.block gb hgl).trans hgc)
          have HVS := Lib.hid hbv.size
          have HIN := Lib.hid (inForm_any cs (bndQ ps) A' sf.length c' sf u (BndV.below hbv bu) HBOK.out ((hrd.below bu).more bu.size) (by omega) (HT.out.below (HB.out.trans (bu.mono HB.out.size)) HT.out.lt) (HU.out.below (HB.out.trans (bu.mono HB.out.size)) HU.out.lt))
          rw [HQ.out] at HIN
          obtain ⟨Y, hY⟩ : ∃ Y, sbL ps sf = Y := ⟨_, rfl⟩
          have HY := Lib.hid hY
          rw [hY] at HIN
          have HUU := Lib.hid hu; have HBU := Lib.hid bu
          have HOU := Lib.hid (HO.out.below bu)
          have y5 := cell_of_row _ _ 5 _ _ (0, 0) gu
          clear hu bu gu hgc hbv hrd hY
          go_upto_region 8 with (fail)
          rw [← HUU.out]
          clear x0 x1 x2 x3 x4 x5
          go_wp2_with (refine wpList_load_row rfl _ _ rfl gb rfl _ _ _ _ HGU.out Tryz.underlying48 rfl (by rw [HVS.out]; exact size_bnd) ?_)
          refine HIN.out.mono ?_
          rintro e w5 ⟨A5, c5, rfl, own5, b5⟩
          have HO5 := Lib.hid (HOU.out.below b5)
          obtain ⟨fz', cz'⟩ := HO5.out.at (mp_len ps ss k) hlt 5 (by decide)
          have HST5 := Lib.hid (HO5.out.storeF (K' := k + 1) (hi' := w5.heap.size) (mp_len ps ss k) hlt (by omega) (fun i hi => by omega) (own_base own5 (Nat.le_trans HB.out.size HBU.out.size)) (fun b hb => ⟨Nat.le_trans HBU.out.size (own5.lt b hb).1, (own5.lt b hb).2⟩) (Nat.le_trans HBU.out.size b5.size))
          have HB5 := Lib.hid ((HB.out.trans ((HBU.out.trans (b5.mono HBU.out.size)).mono HB.out.size)).setCell (p := ⟨g4, k * 6 + 5, none⟩) (by exact (HO.out.outer.lt g4 rfl).1) (.slice A5 Y.length c5))
          have HB35 := Lib.hid ((HB39.out.trans ((HBU.out.trans (b5.mono HBU.out.size)).mono HB39.out.size)).setCell (p := ⟨g4, k * 6 + 5, none⟩) (by exact HLG.out) (.slice A5 Y.length c5))
          clear own5 b5 HIN y5
          go_wp2
          go_roundw
          case rel => exact ⟨k + 1, _, by omega, by go_num, by
            have h9 := HST5.out
            rw [HGET.out] at h9
            rw [← HSET.out]
            have e9 : sfP ps ⟨sr, sa, sb, si, sj, sf⟩ = { (⟨sr, sa, sb, si, sj, sf⟩ : Stp) with f := Y } := by unfold sfP; rw [HY.out]
            rw [e9]
            simpa using h9, HB5.out, HB35.out⟩
          case measure => simp [intOf]; omega
        · have hkl : k = ss.length := by omega
          subst hkl
          clear hown hb hgc hbv
          have HO5 := HO.out
          rw [mp_all] at HO5
          have HLM : Hid ((ss.map (sfP ps)).length = ss.length) := Lib.hid (by rw [List.length_map])
          have HCH := Lib.hid (checked_any (some ⟨g4, 0, none⟩) ss.length c4 (ss.map (sfP ps)) wr (HO5.rd HLM.out) (by omega) (HT.out.below HB.out HT.out.lt) (HU.out.below HB.out HU.out.lt))
          have HO6 := Lib.hid HO5
          clear HO5
          obtain ⟨vb, hvb⟩ : ∃ vb, spB ss ps = vb := ⟨_, rfl⟩
          rw [← HSB.out, hvb] at HCH
          have HVB := Lib.hid hvb
          clear hvb
          have hd9 : decide ((ss.length : Int) < (ss.length : Int)) = false := decide_eq_false (by omega)
          cases vb with
          | false =>
            rw [if_neg (by decide)] at HCH
            go_wp2_with (fail)
            refine HCH.out.mono ?_
            rintro e w6 ⟨rfl, b6⟩
            have HB6 := Lib.hid (HB.out.trans (b6.mono HB.out.size))
            clear b6
            go_wp2
            go_ret2
            exact givesPB_no (spL_no HVB.out) HVB.out HB6.out
          | true =>
            rw [if_pos rfl] at HCH
            go_wp2_with (fail)
            refine HCH.out.mono ?_
            rintro e w6 ⟨rfl, b6⟩
            have HB6 := Lib.hid (HB.out.trans (b6.mono HB.out.size))
            have HO7 := Lib.hid ((HO6.out.below b6).more (Nat.le_refl _) b6.size)
            clear b6
            go_wp2
            go_ret2
            exact givesPB_mk (by rw [spL_yes HVB.out, HLM.out]) HVB.out.symm (by rw [spL_yes HVB.out]; exact HO7.out) HB6.out
end
section
open Go.ChangeAt Go.ChangeShapes Go.RowKit Go.WideShapes

theorem totP_is : ∀ (ss : List Stp), totP ss = 5 * ss.length + total (fsP ss)
  | [] => rfl
  | s :: ss => by
    have := totP_is ss
    simp only [totP, fsP, total, List.map_cons, List.sum_cons, List.length_cons] at this ⊢
    omega
theorem totP_small {ss : List Stp} {n : Nat} (hl : ss.length = n) (hn : n ≤ 1048576) (ht : total (fsP ss) ≤ 1048576) : totP ss ≤ 8388608 := by rw [totP_is]; omega
theorem spL_small (ss : List Stp) (ps : List (List Int)) : (spL ss ps).length ≤ 1048576 ∧ total (fsP (spL ss ps)) ≤ 1048576 := by
  cases h : spB ss ps with
  | false => rw [spL_no h]; exact ⟨Nat.zero_le _, by simp [total, fsP]⟩
  | true =>
    have hv : ckB (ss.map (sfP ps)) = true := by
      unfold spB at h
      simp only [Bool.and_eq_true] at h
      exact h.2.2
    obtain ⟨_, hl, hf⟩ := ck_forms hv
    rw [spL_yes h]
    have ht := total_small (qs := fsP (ss.map (sfP ps))) fun q hq => by
      obtain ⟨k, hk, rfl⟩ := List.getElem_of_mem hq
      have hk' : k < (ss.map (sfP ps)).length := by rw [← fsP_len]; exact hk
      have e : (fsP (ss.map (sfP ps)))[k] = ((ss.map (sfP ps)).getD k Stp.nil).f := by
        rw [← fsP_getD _ k hk']; simp [List.getD, hk]
      rw [e]
      rcases hf k hk' with h0 | h0
      · rw [h0]; exact Nat.zero_le _
      · exact (valid_len h0).2.1
    rw [fsP_len] at ht
    omega
theorem toP_x (A : Option Addr) (n c : Nat) (ss : List Stp) (w : World) (h : RdP w w.heap.size A n ss) (hn : n ≤ 1048576) (hq : ∀ q ∈ fsP ss, q.length ≤ 1048576) :
    Calls Tryz.prog 7 #[.slice A n c] w fun e w' => ∃ hs g, e = .returned (.slice (some ⟨g, 0, none⟩) n n) ∧ OwnP w' w.heap.size w'.heap.size (.slice (some ⟨g, 0, none⟩) n n) hs ss n ∧ Below w.heap.size w w' :=
  (toStepsP_any A n c ss w h hn hq).mono fun _ _ ⟨hs, he, ho, hb⟩ => ⟨hs, _, he, ho, hb⟩
theorem markP_x (A : Option Addr) (n c : Nat) (hs : Nat → Option Addr × Nat) (ss : List Stp) (k : Int) (w : World) (lo hi : Nat) (h : OwnP w lo hi (.slice A n c) hs ss n) (hn : ss.length = n) (hn1 : n ≤ 1048576) (ht : total (fsP ss) ≤ 1048576) (hk0 : 0 ≤ k) (hk1 : k ≤ 536870912) :
    Calls Tryz.prog 12 #[.slice A n c, .int .i64 k] w fun e w' => e = .returned (.int .i64 (k + totP ss)) ∧ OwnP w' lo hi (.slice A n c) hs (mkP k ss) n ∧ Kept lo hi w w' :=
  markStepS_any A n c hs ss k w lo hi h hn hn1 (totP_small hn hn1 ht) (fun _ hq => Nat.le_trans (mem_total hq) ht) hk0 hk1
theorem heldP_x (A : Option Addr) (n c : Nat) (ss : List Stp) (k : Int) (w : World) (h : RdP w w.heap.size A n (mkP k ss)) (hn1 : n ≤ 1048576) (ht : total (fsP ss) ≤ 1048576) (hk0 : 0 ≤ k) (hk1 : k ≤ 536870912) :
    Calls Tryz.prog 14 #[.slice A n c, .int .i64 k] w fun e w' => e = .returned (.int .i64 (k + totP ss)) ∧ Below w.heap.size w w' := by
  have hl := h.len
  rw [mkP_len] at hl
  exact (heldStepS_any A n c ss k w h hn1 (totP_small hl hn1 ht) (fun _ hq => Nat.le_trans (mem_total hq) ht) hk0 hk1).mono fun _ _ ⟨he, hw⟩ => ⟨he, hw ▸ Below.refl _ _⟩
end
end Go.Proofs.YthbkcpacgnmcfaaGreatDoor
