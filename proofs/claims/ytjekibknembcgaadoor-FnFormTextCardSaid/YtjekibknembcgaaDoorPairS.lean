/- The parser of the model: a pair; ParseForm. -/
import Derived.Test.YtjekibknembcgaaDoorFormS
namespace Go.Proofs.YtjekibknembcgaaDoor
open Go.RowKit

set_option maxRecDepth 100000 in
set_option maxHeartbeats 8000000 in
theorem forms_pair (s : ByteArray) (pb n : Nat) (xs r : List Int) (w : World) (hs : s.size ≤ 200) (ih : FormSOk s pb n) (hx : xs <:+ bl s) (h : QS s pb w (pos s xs) (-1)) (he : skS xs = 40 :: r) (hn : xs.length < n + 1) :
    Calls Tryd.prog 74 #[.pointer (some ⟨pb, 0, none⟩)] w (FormSaid s pb w (pairP n r)) := by
  have hpb := h.lt
  obtain ⟨p, hp, hplt, hps, hsr, hrl, hcb, hP⟩ := forms_first hx h he
  have HZ := Lib.hid hps
  have HIH := Lib.hid ih
  have HSR := Lib.hid hsr
  have hsz := pz_suf n r
  have hrs := hsr.length_le
  rw [bl_len] at hrs
  generalize hQ : pairP n r = RES
  have HQ := Lib.hid hQ
  generalize hR : pz n r = R at hsz
  have HR := Lib.hid hR
  clear h hx he hp hps hsr hcb ih hR hQ
  go_enter Tryd.func74, Tryd.ntmps74
  go_wp2_with (fail)
  refine hP.mono ?_
  rintro e w1 ⟨rfl, hqs, hbut⟩
  have c1 := hqs.c1
  have f1 := hqs.f1
  have hbig := hqs.big
  obtain ⟨hmv, hbm⟩ := hqs.next hbut (by omega)
  have HN := Lib.hid hbm
  clear hqs hbut hP hbm
  have hih := HIH.out r _ HSR.out (by rw [HZ.out]; exact hmv) (by omega)
  rw [HR.out] at hih
  clear hmv
  go_wp2_with (fail)
  refine hih.mono ?_
  rcases hsz with ⟨a, r1, rfl, ha1, ha2, ha3, ha4⟩ | ⟨r1, rfl, _⟩
  rotate_left
  · rintro e w2 ⟨hb2, A2, c2, rfl, p2, hq2⟩
    have q2 := hq2.c2
    have HB2 := Lib.hid (HN.out.on hb2)
    have HQ2 := Lib.hid hq2
    have HE : Hid (RES = .no r1) := Lib.hid (by rw [← HQ.out]; exact pairP_no HR.out)
    clear hb2 hq2 hih
    go_wp2
    go_ret
    exact FormSaid.mkno HE.out HB2.out HQ2.out
  rintro e w2 ⟨hb2, A2, c2, rfl, o2, hq2⟩
  have q2 := hq2.c2
  have HB2 := Lib.hid (HN.out.on hb2)
  have HQ2 := Lib.hid hq2
  have HO2 := Lib.hid (own_more o2 HN.out.size)
  have HA4 := Lib.hid ha4
  have HSR1 := Lib.hid (ha3.trans HSR.out)
  have hop := sop_any s pb r1 w2 HSR1.out hq2
  have hszo := opP_suf r1
  generalize hRo : opP r1 = Ro at hop hszo
  have HRO := Lib.hid hRo
  clear hb2 hq2 hih o2 ha3 ha4 hRo
  go_wp2_with (fail)
  refine hop.mono ?_
  rcases hszo with ⟨op, r2, rfl, lo2, so2, hov⟩ | ⟨r2, rfl, _⟩
  rotate_left
  · rintro e w3 ⟨hb3, rfl, p3, hq3⟩
    have q3 := hq3.c2
    have HB3 := Lib.hid (HB2.out.on hb3)
    have HQ3 := Lib.hid hq3
    have HE : Hid (RES = .no r2) := Lib.hid (by rw [← HQ.out]; exact pairP_op HR.out HRO.out)
    clear hb3 hq3 hop
    go_wp2
    go_ret
    exact FormSaid.mkno HE.out HB3.out HQ3.out
  rintro e w3 ⟨hb3, rfl, hq3⟩
  simp only [List.getD_cons_zero]
  have q3 := hq3.c2
  have HB3 := Lib.hid (HB2.out.on hb3)
  have HO3 := Lib.hid (own_but HO2.out hb3 (Nat.le_refl _) hpb)
  have HSR2 := Lib.hid (so2.trans HSR1.out)
  have hszb := pz_suf n r2
  generalize hRb : pz n r2 = Rb at hszb
  have HRB := Lib.hid hRb
  have hihb := HIH.out r2 _ HSR2.out hq3 (by omega)
  rw [HRB.out] at hihb
  clear hb3 hq3 hop so2 hRb
  go_wp2_with (fail)
  refine hihb.mono ?_
  rcases hszb with ⟨b, r3, rfl, hb1, hb2, hb3, hb4⟩ | ⟨r3, rfl, _⟩
  rotate_left
  · rintro e w4 ⟨hbb4, A4, c4, rfl, p4, hq4⟩
    have q4 := hq4.c2
    have HB4 := Lib.hid (HB3.out.on hbb4)
    have HQ4 := Lib.hid hq4
    have HE : Hid (RES = .no r3) := Lib.hid (by rw [← HQ.out]; exact pairP_no2 HR.out HRO.out HRB.out)
    clear hbb4 hq4 hihb
    go_wp2
    go_ret
    exact FormSaid.mkno HE.out HB4.out HQ4.out
  rintro e w4 ⟨hbb4, A4, c4, rfl, o4, hq4⟩
  have q4 := hq4.c2
  have HB4 := Lib.hid (HB3.out.on hbb4)
  have HOA4 := Lib.hid (own_but HO3.out hbb4 (Nat.le_refl _) hpb)
  have HOB4 := Lib.hid (own_more o4 HB3.out.size)
  have HSR3 := Lib.hid (hb3.trans HSR2.out)
  have HEND : Hid (RES = endP op a b r3) := Lib.hid (by rw [← HQ.out]; exact pairP_end HR.out HRO.out HRB.out)
  have HQ4 := Lib.hid hq4
  clear hbb4 hq4 hihb o4 hb3 hb4
  cases hx3 : skS r3 with
  | nil =>
    have HE : Hid (RES = .no []) := Lib.hid (HEND.out.trans (endP_nil hx3))
    have hpk := peek_end s pb r3 (-1) w4 HSR3.out HQ4.out hx3
    have HPZ := Lib.hid (pos_nil s)
    clear hx3
    go_wp2_with (fail)
    refine hpk.mono ?_
    rintro e w5 ⟨rfl, hq5, hb5⟩
    have c15 := hq5.c1
    have HB5 := Lib.hid (HB4.out.on hb5)
    have HFL := Lib.hid (fail_first s pb s.size (s.size : Int) _ hq5)
    clear hq5 hb5 hpk
    go_wp2_with (fail)
    refine HFL.out.mono ?_
    rintro e w6 ⟨rfl, hq6, hb6⟩
    have HB6 := Lib.hid (HB5.out.on hb6)
    have HQ6 := Lib.hid hq6
    clear hb6 hq6
    go_wp2
    go_ret
    exact FormSaid.mkno HE.out HB6.out (by rw [HPZ.out]; exact HQ6.out)
  | cons c3 r4 =>
    have hsuf3 : (c3 :: r4) <:+ bl s := (hx3 ▸ skS_suf r3 : (c3 :: r4) <:+ r3).trans HSR3.out
    obtain ⟨_, hplt4⟩ := pos_cons hsuf3
    have hps4 := pos_succ hsuf3
    have hpk := peek_c s pb r3 c3 r4 (-1) w4 HSR3.out HQ4.out hx3
    obtain ⟨p4, hp4⟩ : ∃ p4, pos s (c3 :: r4) = p4 := ⟨_, rfl⟩
    rw [hp4] at hpk hplt4 hps4
    have HP4 := Lib.hid hp4; have HPS4 := Lib.hid hps4
    by_cases h41 : c3 = 41
    · subst h41
      have HE : Hid (RES = .ok (putP op a b) r4) := Lib.hid (HEND.out.trans (endP_yes hx3))
      clear hx3 hsuf3 hp4 hps4
      go_wp2_with (fail)
      refine hpk.mono ?_
      rintro e w5 ⟨rfl, hq5, hb5⟩
      have c15 := hq5.c1
      have f15 := hq5.f1
      have hbig5 := hq5.big
      obtain ⟨hmv5, hbm5⟩ := hq5.next (HB4.out.on hb5) (by omega)
      have hon5 : But w4.heap.size pb w4 (w5.setCell ⟨pb, 1, none⟩ (.int .i64 ((p4 : Int) + 1))) := hb5.setCell (p := ⟨pb, 1, none⟩) (.inl rfl) _
      have HOA6 := Lib.hid (own_but HOA4.out hon5 (Nat.le_refl _) hpb)
      have HOB6 := Lib.hid (own_but HOB4.out hon5 (Nat.le_refl _) hpb)
      have HM6 := Lib.hid hmv5; have HB6 := Lib.hid hbm5
      clear hq5 hb5 hpk hmv5 hbm5 hon5
      by_cases hneg : op < 0
      · have hopn : op = -1 := by omega
        subst hopn
        have hdu := sdualS_any A2 c2 a _ (RdI.of_own HOA6.out) HA4.out (by omega)
        have HDU := Lib.hid hdu
        clear hdu
        go_wp2_with (fail)
        refine HDU.out.mono ?_
        rintro e w7 ⟨A7, c7, rfl, o7, bel7⟩
        have hlm : (a.map duZ).length = a.length := by simp
        have ob7 := own_below HOB6.out bel7 (Nat.le_refl _)
        have hjo := sjoined_any 12 A7 (a.map duZ).length c7 (a.map duZ) A4 b.length c4 b w7 (RdI.of_own o7) (RdI.of_own ob7) (by omega) (by omega) (by omega) (by omega)
        rw [hlm] at hjo
        have HJO := Lib.hid hjo
        have HB7 := Lib.hid (HB6.out.on (But.of_below bel7))
        have HM7 := Lib.hid (HM6.out.below bel7)
        have HPUT : Hid (putP (-1) a b = 12 :: (a.map duZ ++ b)) := Lib.hid (by unfold putP; rw [if_pos (by decide)])
        have HLJ : Hid ((12 :: (a.map duZ ++ b)).length = (putP (-1) a b).length) := Lib.hid (by rw [HPUT.out])
        clear o7 bel7 ob7 hjo hlm
        go_wp2_with (fail)
        refine HJO.out.mono ?_
        rintro e w8 ⟨A8, c8, rfl, o8, bel8⟩
        have hfin := FormSaid.mkok (A := A8) (c := c8) HE.out (HB7.out.on (But.of_below bel8)) (by rw [HPUT.out]; exact own_more o8 HB7.out.size) (by rw [HPS4.out]; exact HM7.out.below bel8)
        rw [HPUT.out] at hfin
        generalize 12 :: (a.map duZ ++ b) = J at hfin ⊢
        have HFIN := Lib.hid hfin
        clear hfin o8 bel8
        go_wp2
        go_ret
        exact HFIN.out
      · have hdn : decide (op < 0) = false := decide_eq_false hneg
        have hjo := sjoined_any op A2 a.length c2 a A4 b.length c4 b _ (RdI.of_own HOA6.out) (RdI.of_own HOB6.out) (by omega) (by omega) (by omega) (by omega)
        have HJO := Lib.hid hjo
        have HPUT : Hid (putP op a b = op :: (a ++ b)) := Lib.hid (by unfold putP; rw [if_neg hneg])
        clear hjo hneg
        go_wp2_with (fail)
        refine HJO.out.mono ?_
        rintro e w8 ⟨A8, c8, rfl, o8, bel8⟩
        have hfin := FormSaid.mkok (A := A8) (c := c8) HE.out (HB6.out.on (But.of_below bel8)) (by rw [HPUT.out]; exact own_more o8 HB6.out.size) (by rw [HPS4.out]; exact HM6.out.below bel8)
        rw [HPUT.out] at hfin
        generalize op :: (a ++ b) = J at hfin ⊢
        have HFIN := Lib.hid hfin
        clear hfin o8 bel8
        go_wp2
        go_ret
        exact HFIN.out
    · have HE : Hid (RES = .no (c3 :: r4)) := Lib.hid (HEND.out.trans (endP_other hx3 h41))
      have e41 : (c3 != 41) = true := by simpa using h41
      clear hx3 hsuf3 hp4 hps4 h41
      go_wp2_with (fail)
      refine hpk.mono ?_
      rintro e w5 ⟨rfl, hq5, hb5⟩
      have c15 := hq5.c1
      have HB5 := Lib.hid (HB4.out.on hb5)
      have HFL := Lib.hid (fail_first s pb p4 (p4 : Int) _ hq5)
      clear hq5 hb5 hpk
      go_wp2_with (fail)
      refine HFL.out.mono ?_
      rintro e w6 ⟨rfl, hq6, hb6⟩
      have HB6 := Lib.hid (HB5.out.on hb6)
      have HQ6 := Lib.hid hq6
      clear hb6 hq6
      go_wp2
      go_ret
      exact FormSaid.mkno HE.out HB6.out (by rw [HP4.out]; exact HQ6.out)

/-- The model reads a formula as 'pz' does. -/
theorem forms_any (s : ByteArray) (pb : Nat) (hs : s.size ≤ 200) : ∀ n, FormSOk s pb n
  | 0 => fun xs w _ _ hn => absurd hn (by omega)
  | n + 1 => fun xs w hx h hn => by
    have ih := forms_any s pb hs n
    cases he : skS xs with
    | nil =>
      have e : pz (n + 1) xs = .no [] := by rw [pz, he]
      rw [e]; exact forms_end s pb xs w hx h he
    | cons c r =>
      by_cases h126 : c = 126
      · subst h126
        have e : pz (n + 1) xs = (match pz n r with
          | .ok f r' => .ok (f.map duZ) r'
          | .no r' => .no r') := by rw [pz, he]; rfl
        rw [e]; exact forms_not s pb n xs r w hs ih hx h he hn
      · by_cases h33 : c = 33
        · subst h33
          have e : pz (n + 1) xs = (match pz n r with
            | .ok f r' => .ok (17 :: f) r'
            | .no r' => .no r') := by rw [pz, he]; rfl
          rw [e]; exact forms_exp33 s pb n xs r w hs ih hx h he hn
        · by_cases h63 : c = 63
          · subst h63
            have e : pz (n + 1) xs = (match pz n r with
              | .ok f r' => .ok (18 :: f) r'
              | .no r' => .no r') := by rw [pz, he]; rfl
            rw [e]; exact forms_exp63 s pb n xs r w hs ih hx h he hn
          · by_cases h40 : c = 40
            · subst h40
              have e : pz (n + 1) xs = pairP n r := by rw [pz, he]; rfl
              rw [e]; exact forms_pair s pb n xs r w hs ih hx h he hn
            · by_cases hat : 65 ≤ c ∧ c ≤ 72
              · have e : pz (n + 1) xs = .ok [c - 64] r := by
                  rw [pz, he]
                  show (if c = 126 then _ else _) = _
                  rw [if_neg h126, if_neg (by omega), if_pos hat]
                rw [e]; exact forms_atom s pb xs r c w hx h he hat
              · by_cases hu : c = 49 ∨ c = 95
                · have e : pz (n + 1) xs = .ok [syZ c] r := by
                    rw [pz, he]
                    rcases hu with rfl | rfl <;> rfl
                  rw [e]; exact forms_unit s pb xs r c w hx h he hu
                · have e : pz (n + 1) xs = .no (c :: r) := by
                    rw [pz, he]
                    show (if c = 126 then _ else _) = _
                    rw [if_neg h126, if_neg (by omega), if_neg hat, if_neg (by omega), if_neg (by omega), if_neg h40]
                  rw [e]; exact forms_other s pb xs r c w hx h he hat (by omega) (by omega) h33 h63 h126 h40
end Go.Proofs.YtjekibknembcgaaDoor
