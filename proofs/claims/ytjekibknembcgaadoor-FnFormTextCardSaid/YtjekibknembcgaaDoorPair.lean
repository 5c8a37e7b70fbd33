/- The parser of the program: a pair of operands. -/
import Derived.Test.YtjekibknembcgaaDoorForm
import Derived.Deep.RegionWith
namespace Go.Proofs.YtjekibknembcgaaDoor
open Go.RowKit

theorem own_put {w : World} {B g N c : Nat} {S T : List Int} {z y : Int} (h : w.ownsRow B 2 1 (.slice (some ⟨g, 0, none⟩) N c) N ((S ++ [z] ++ T).map (Value.int .i64))) (hg : B ≤ g) (hs : B ≤ w.heap.size) :
    (w.setCell ⟨g, S.length, none⟩ (.int .i64 y)).ownsRow B 2 1 (.slice (some ⟨g, 0, none⟩) N c) N ((S ++ [y] ++ T).map (Value.int .i64)) ∧ Below B w (w.setCell ⟨g, S.length, none⟩ (.int .i64 y)) ∧
    w.cell? ⟨g, S.length, none⟩ = some (.int .i64 z) ∧ w.frozen? ⟨g, S.length, none⟩ = false := by
  have hl : (S ++ [z] ++ T).length = N := by have := h.1; simpa using this
  have hst := h.stored S.length (.int .i64 y)
  have hset : ((S ++ [z] ++ T).map (Value.int .i64)).set S.length (.int .i64 y) = (S ++ [y] ++ T).map (Value.int .i64) := by
    rw [← List.map_set]; congr 1
    rw [List.append_assoc, List.set_append_right _ _ (Nat.le_refl _), Nat.sub_self, List.append_assoc]; rfl
  rw [hset] at hst
  refine ⟨hst.1, (Below.refl B w).grown hst.2 hs (fun k hk => by injection hk with hk; omega), ?_, h.frozenAt _⟩
  rw [h.cellAt S.length (by simp at hl; omega)]
  simp

theorem PS.drew {s : ByteArray} {B pb : Nat} {w : World} {xs S : List Int} (h : PS s B pb w xs S) : PS s B pb w.drew xs S :=
  ⟨h.lt, h.size, h.glob, h.arit, h.dual, h.suf, h.c0, h.c1, h.f1, h.f2, h.c2, h.big⟩
theorem opP_nil {xs : List Int} (h : skS xs = []) : opP xs = .no [] := by unfold opP; rw [h]
theorem opP_other {xs r : List Int} {c : Int} (h : skS xs = c :: r) (h0 : 0 ≤ c ∧ c ≤ 255) (hc : chB pairsB c = false) : opP xs = .no (c :: r) := by
  rw [ch_pair c h0.1 h0.2] at hc
  simp only [Bool.or_eq_false_iff, beq_eq_false_iff_ne] at hc
  unfold opP
  rw [h]
  show (if c = 42 then _ else _) = _
  rw [if_neg (by omega), if_neg (by omega), if_neg (by omega), if_neg (by omega), if_neg (by omega)]
theorem opP_sign {xs r : List Int} {c : Int} (h : skS xs = c :: r) (hc : c = 42 ∨ c = 124 ∨ c = 43 ∨ c = 38) : opP xs = .ok [syZ c] r := by
  unfold opP
  rw [h]
  rcases hc with rfl | rfl | rfl | rfl <;> rfl
theorem opP_dash {xs r : List Int} (h : skS xs = 45 :: 62 :: r) : opP xs = .ok [-1] r := by unfold opP; rw [h]; rfl
theorem opP_dashEnd {xs : List Int} (h : skS xs = [45]) : opP xs = .no [] := by unfold opP; rw [h]; rfl
theorem opP_dashNo {xs r : List Int} {c : Int} (h : skS xs = 45 :: c :: r) (hc : c ≠ 62) : opP xs = .no (c :: r) := by
  unfold opP; rw [h]
  show (match c :: r with | 62 :: r' => PR.ok [-1] r' | r => PR.no r) = _
  split
  · rename_i h'; injection h' with h1 h2; exact absurd h1 hc
  · rfl
theorem endP_nil {op : Int} {a b xs : List Int} (h : skS xs = []) : endP op a b xs = .no [] := by unfold endP; rw [h]
theorem endP_yes {op : Int} {a b xs r : List Int} (h : skS xs = 41 :: r) : endP op a b xs = .ok (putP op a b) r := by unfold endP; rw [h]; rfl
theorem endP_other {op : Int} {a b xs r : List Int} {c : Int} (h : skS xs = c :: r) (hc : c ≠ 41) : endP op a b xs = .no (c :: r) := by
  unfold endP; rw [h]
  split
  · rename_i h'; injection h' with h1 h2; exact absurd h1 hc
  · rfl

theorem pairP_no {n : Nat} {xs r : List Int} (h : pz n xs = .no r) : pairP n xs = .no r := by unfold pairP; rw [h]
theorem pairP_op {n : Nat} {xs a r1 r : List Int} (h : pz n xs = .ok a r1) (h1 : opP r1 = .no r) : pairP n xs = .no r := by unfold pairP; rw [h]; simp only [h1]
theorem pairP_no2 {n : Nat} {xs a r1 r2 r o : List Int} (h : pz n xs = .ok a r1) (h1 : opP r1 = .ok o r2) (h2 : pz n r2 = .no r) : pairP n xs = .no r := by unfold pairP; rw [h]; simp only [h1, h2]
theorem pairP_end {n : Nat} {xs a r1 r2 b r3 : List Int} {op : Int} (h : pz n xs = .ok a r1) (h1 : opP r1 = .ok [op] r2) (h2 : pz n r2 = .ok b r3) : pairP n xs = endP op a b r3 := by unfold pairP; rw [h]; simp only [h1, h2]; rfl
theorem Parsed.mkno {s : ByteArray} {B pb : Nat} {S r : List Int} {w w' : World} {RES : PR} (h : RES = .no r) (hb : But B pb w w') : Parsed s B pb S w RES (.panicked (misV s r)) w' := by subst h; exact ⟨hb, rfl⟩
theorem Parsed.mkok {s : ByteArray} {B pb : Nat} {S f r : List Int} {w w' : World} {RES : PR} (h : RES = .ok f r) (hb : But B pb w w') (hp : PS s B pb w' r (S ++ f)) : Parsed s B pb S w RES (.returned (.tuple #[])) w' := by subst h; exact ⟨hb, rfl, hp⟩

/-- The byte behind the spaces. -/
theorem head_byte {s : ByteArray} {xs r : List Int} {c : Int} (h : xs <:+ bl s) (hx : skS xs = c :: r) : (0 ≤ c ∧ c ≤ 255) ∧ r.length < xs.length ∧ r <:+ xs := by
  have hsuf : (c :: r) <:+ xs := hx ▸ skS_suf xs
  have hrl := hsuf.length_le
  rw [List.length_cons] at hrl
  exact ⟨bl_byte s c ((hsuf.trans h).subset (by simp)), by omega, (List.suffix_cons c r).trans hsuf⟩

set_option maxRecDepth 100000 in
set_option maxHeartbeats 8000000 in
theorem pair_step (s : ByteArray) (B pb n : Nat) (ih : FormOk s B pb n) : PairOk s B pb n := by
  intro xs S w h hn hbig
  obtain ⟨i0, hi0, hz0, hz1, hz2⟩ := info_parts info_i64
  have HI := Lib.hid hi0; have HZ0 := Lib.hid hz0; have HZ1 := Lib.hid hz1; have HZ2 := Lib.hid hz2
  have HIH := Lib.hid ih
  obtain ⟨A0, c0, hc2, hown⟩ := h.c2
  have HP1 := Lib.hid h; have HO := Lib.hid hown
  have hSl : S.length ≤ 1000 := by omega
  have hsz := pz_suf n xs
  generalize hQ : pairP n xs = RES
  have HQ := Lib.hid hQ
  generalize hR : pz n xs = R at hsz
  have HR := Lib.hid hR
  clear hi0 hz0 hz1 hz2 ih h hown hR hQ
  go_enter Tryd.func112, Tryd.ntmps112
  go_wp2_with (at_builtin; refine wpList_append_own _ rfl _ _ 24 rfl B 2 i0 (.int .i64 0) 1 8 Tryd.underlying24 HI.out HZ0.out HZ1.out HZ2.out rfl (by decide) _ _ _ rfl (HO.out.alloc _) ⟨w.heap.size, 0, none⟩ 1 1 [.int .i64 0] rfl rfl ?c1 ?c2 ?c3 ?c4 ?c5 ?_)
  case c1 => exact cell_one_new _ _ _
  case c2 => intro u hu; simp at hu; subst hu; rfl
  case c3 => unfold maxLen; omega
  case c4 => omega
  case c5 => have := HP1.out.size; simp; omega
  intro v' w1 hown' hgrow _
  obtain ⟨A2, c2, rfl, HP2, HB2, hc22, hf22⟩ := push_own HP1 HO hc2 hown' hgrow
  clear hown' hgrow hc2
  go_wp2_with (fail)
  refine (HIH.out xs (S ++ [0]) _ HP2.out hn (by simp; omega)).mono ?_
  rw [HR.out]
  rcases hsz with ⟨a, r1, rfl, ha1, ha2, ha3, ha4⟩ | ⟨r1, rfl, _⟩
  rotate_left
  · rintro e w3 ⟨hb3, rfl⟩
    have HB3 := Lib.hid (HB2.out.trans hb3)
    clear hb3
    go_wp2
    exact ⟨rfl, Parsed.mkno (by rw [← HQ.out]; exact pairP_no HR.out) HB3.out⟩
  rintro e w3 ⟨hb3, rfl, hps3⟩
  have HB3 := Lib.hid (HB2.out.trans hb3)
  have HP3 := Lib.hid hps3
  have hA4 := Lib.hid ha4
  clear hb3 hps3 hc22 hf22 ha4
  cases hx : skS r1 with
  | nil =>
    have HE : Hid (RES = .no []) := Lib.hid (by rw [← HQ.out]; exact pairP_op HR.out (opP_nil hx))
    have HC := Lib.hid (oneOf_end s pairsB B pb r1 _ _ HP3.out hx)
    clear hx
    go_wp2_with (go_at_call 111; refine HC.out.mono ?_; rintro e w' ⟨rfl, hb⟩)
    exact ⟨rfl, Parsed.mkno HE.out (HB3.out.trans hb)⟩
  | cons c r2 =>
    obtain ⟨hcb, hr2, hs2⟩ := head_byte HP3.out.suf hx
    cases hch : chB pairsB c with
    | false =>
      have HE : Hid (RES = .no (c :: r2)) := Lib.hid (by rw [← HQ.out]; exact pairP_op HR.out (opP_other hx hcb hch))
      have HC := Lib.hid (oneOf_no s pairsB B pb r1 _ c r2 _ HP3.out hx hch)
      clear hx hch hcb
      go_wp2_with (go_at_call 111; refine HC.out.mono ?_; rintro e w' ⟨rfl, hb⟩)
      exact ⟨rfl, Parsed.mkno HE.out (HB3.out.trans hb)⟩
    | true =>
      have HC := Lib.hid (oneOf_ok s pairsB B pb r1 _ c r2 _ HP3.out hx hch)
      rw [ch_pair c hcb.1 hcb.2] at hch
      simp only [Bool.or_eq_true, beq_iff_eq] at hch
      by_cases h45 : c = 45
      · subst h45
        cases r2 with
        | nil =>
          have HE : Hid (RES = .no []) := Lib.hid (by rw [← HQ.out]; exact pairP_op HR.out (opP_dashEnd hx))
          clear hx hch hcb
          go_wp2_with (fail)
          refine HC.out.mono ?_
          rintro e w4 ⟨rfl, hps4, hb4⟩
          have HB4 := Lib.hid (HB3.out.trans hb4)
          have HD := Lib.hid (arrowHead_end s B pb _ _ hps4)
          clear hb4 hps4
          go_wp2_with (go_at_call 128; refine HD.out.mono ?_; rintro e w' ⟨rfl, hb⟩)
          exact ⟨rfl, Parsed.mkno HE.out (HB4.out.trans hb)⟩
        | cons d r2 =>
          by_cases h62 : d = 62
          · subst h62
            have HOP : Hid (opP r1 = .ok [-1] r2) := Lib.hid (opP_dash hx)
            have hr22 : r2.length < n := by simp only [List.length_cons] at hr2; omega
            have hr2b : r2.length + 2 ≤ r1.length := by simp only [List.length_cons] at hr2; omega
            clear hx hch hcb hr2 hs2
            go_wp2_with (fail)
            refine HC.out.mono ?_
            rintro e w4 ⟨rfl, hps4, hb4⟩
            have HB4 := Lib.hid (HB3.out.trans hb4)
            have HD := Lib.hid (arrowHead_ok s B pb r2 _ _ hps4)
            clear hb4 hps4
            go_wp2_with (fail)
            refine HD.out.mono ?_
            rintro e w5 ⟨rfl, hps5, hb5⟩
            have HB5 := Lib.hid (HB4.out.trans hb5)
            have HP5 := Lib.hid hps5
            obtain ⟨A5, c5, hc52, hown5⟩ := hps5.c2
            have hLN : (S ++ [0] ++ a).length = S.length + 1 + a.length := by simp; omega
            obtain ⟨g, cap, hv5, hg1, hg2⟩ := hown5.form (by omega)
            have hA : A5 = some ⟨g, 0, none⟩ ∧ c5 = cap := by injection hv5 with a b c'; exact ⟨a, c'⟩
            obtain ⟨rfl, rfl⟩ := hA
            have hcap := (own_cap hown5).1
            rw [hLN] at hc52 hown5 hcap
            have HO5 := Lib.hid hown5
            have hf52 := hps5.f2
            have hne : ¬ c5 = S.length + 1 := by omega
            clear hown5 hps5 hb5 hv5 hf52
            have HDu := Lib.hid (dualise_any B g (S.length + 1) (S.length + 1 + a.length) c5 a.length (c5 - (S.length + 1)) (S ++ [0] ++ a) w5 HO5.out rfl (by omega) (by omega) (fun x hx => hA4.out x (by
              have e : (S ++ [0] ++ a).drop (S.length + 1) = a := List.drop_left' (by simp)
              rw [e] at hx; exact hx)) HP5.out.dual (by have := HP5.out.glob.2; have := HP5.out.lt; omega))
            go_wp2_with (fail)
            refine HDu.out.mono ?_
            rintro e w6 ⟨rfl, o6, gr6⟩
            have e6 : (S ++ [0] ++ a).take (S.length + 1) ++ ((S ++ [0] ++ a).drop (S.length + 1)).map duZ = S ++ [0] ++ a.map duZ := by
              rw [List.take_left' (by simp), List.drop_left' (by simp)]
            have l6 : (S ++ [0] ++ a.map duZ).length = S.length + 1 + a.length := by simp; omega
            have l7 : (S ++ [12] ++ a.map duZ).length = S.length + 1 + a.length := by simp; omega
            rw [e6] at o6
            have bel6 : Below B w5 w6 := (Below.refl B w5).grown gr6 HP5.out.size (fun k hk => by injection hk with hk; omega)
            have hs6 : B ≤ w6.heap.size := Nat.le_trans HP5.out.size bel6.size
            obtain ⟨o7, bel7, hcz, hfz⟩ := own_put (y := 12) o6 hg1 hs6
            have hP6 := HP5.out.turn bel6 ⟨_, _, by rw [l6]; exact hc52, by rw [l6]; exact o6⟩
            have hc62 : w6.cell? ⟨pb, 2, none⟩ = some (.slice (some ⟨g, 0, none⟩) (S.length + 1 + a.length) c5) := (bel6.cell (p := ⟨pb, 2, none⟩) HP5.out.lt).trans hc52
            have HP7 := Lib.hid (hP6.turn bel7 ⟨_, _, by rw [l7]; exact hc62, by rw [l7]; exact o7⟩)
            have HB7 := Lib.hid ((HB5.out.trans (But.of_below bel6)).trans (But.of_below bel7))
            have HLM : Hid (S.length + 1 + a.length = S.length + 1 + a.length) := Lib.hid rfl
            clear o6 gr6 bel6 o7 bel7 hP6 e6 l6 l7 hs6 hc52
            go_wp2_with (fail)
            have hsz2 := pz_suf n r2
            generalize hR2 : pz n r2 = R2 at hsz2
            have HR2 := Lib.hid hR2
            clear hR2
            refine (HIH.out r2 (S ++ [12] ++ a.map duZ) _ HP7.out hr22 (by simp; omega)).mono ?_
            rw [HR2.out]
            rcases hsz2 with ⟨b, r3, rfl, hb1, hb2, hb3', hb4⟩ | ⟨r3, rfl, _⟩
            rotate_left
            · rintro e w8 ⟨hb8, rfl⟩
              have HB8 := Lib.hid (HB7.out.trans hb8)
              have HE : Hid (RES = .no r3) := Lib.hid (by rw [← HQ.out]; exact pairP_no2 HR.out HOP.out HR2.out)
              clear hb8
              go_wp2
              exact ⟨rfl, Parsed.mkno HE.out HB8.out⟩
            rintro e w8 ⟨hb8, rfl, hps8⟩
            have HB8 := Lib.hid (HB7.out.trans hb8)
            have HP8 := Lib.hid hps8
            have HEND : Hid (RES = endP (-1) a b r3) := Lib.hid (by rw [← HQ.out]; exact pairP_end HR.out HOP.out HR2.out)
            have HPUT : Hid (S ++ [12] ++ a.map duZ ++ b = S ++ putP (-1) a b) := Lib.hid (by simp [putP])
            clear hb8 hps8 hb4
            cases hx3 : skS r3 with
            | nil =>
              have HE : Hid (RES = .no []) := Lib.hid (HEND.out.trans (endP_nil hx3))
              have HL := Lib.hid (oneOf_end s lastB B pb r3 _ _ HP8.out hx3)
              clear hx3
              go_wp2_with (go_at_call 111; refine HL.out.mono ?_; rintro e w' ⟨rfl, hb⟩)
              exact ⟨rfl, Parsed.mkno HE.out (HB8.out.trans hb)⟩
            | cons c3 r4 =>
              obtain ⟨hcb3, hr4, hs4⟩ := head_byte HP8.out.suf hx3
              by_cases h41 : c3 = 41
              · subst h41
                have HE : Hid (RES = .ok (putP (-1) a b) r4) := Lib.hid (HEND.out.trans (endP_yes hx3))
                have HL := Lib.hid (oneOf_ok s lastB B pb r3 _ 41 r4 _ HP8.out hx3 (by rw [ch_last 41 (by omega) (by omega)]; rfl))
                clear hx3 hs4
                go_wp2_with (fail)
                refine HL.out.mono ?_
                rintro e w9 ⟨rfl, hps9, hb9⟩
                rw [HPUT.out] at hps9
                have HP9 := Lib.hid hps9
                have HB9 := Lib.hid (HB8.out.trans hb9)
                clear hps9 hb9
                go_wp2
                go_end0
                exact Parsed.mkok HE.out HB9.out HP9.out
              · have HE : Hid (RES = .no (c3 :: r4)) := Lib.hid (HEND.out.trans (endP_other hx3 h41))
                have HL := Lib.hid (oneOf_no s lastB B pb r3 _ c3 r4 _ HP8.out hx3 (by rw [ch_last c3 hcb3.1 hcb3.2]; simpa using h41))
                clear hx3 hs4
                go_wp2_with (go_at_call 111; refine HL.out.mono ?_; rintro e w' ⟨rfl, hb⟩)
                exact ⟨rfl, Parsed.mkno HE.out (HB8.out.trans hb)⟩
          · have HE : Hid (RES = .no (d :: r2)) := Lib.hid (by rw [← HQ.out]; exact pairP_op HR.out (opP_dashNo hx h62))
            clear hx hch hcb
            go_wp2_with (fail)
            refine HC.out.mono ?_
            rintro e w4 ⟨rfl, hps4, hb4⟩
            have HB4 := Lib.hid (HB3.out.trans hb4)
            have HD := Lib.hid (arrowHead_no s B pb d r2 _ _ hps4 h62)
            clear hb4 hps4
            go_wp2_with (go_at_call 128; refine HD.out.mono ?_; rintro e w' ⟨rfl, hb⟩)
            exact ⟨rfl, Parsed.mkno HE.out (HB4.out.trans hb)⟩
      · have hc4 : c = 42 ∨ c = 124 ∨ c = 43 ∨ c = 38 := by omega
        have HOP : Hid (opP r1 = .ok [syZ c] r2) := Lib.hid (opP_sign hx hc4)
        have hr22 : r2.length < n := by omega
        have hr2b : r2.length + 1 ≤ r1.length := by omega
        have HSY := Lib.hid (fun w => symbolOf_any c w (by omega))
        have hop : 11 ≤ syZ c ∧ syZ c ≤ 16 := by rcases hc4 with rfl | rfl | rfl | rfl <;> decide
        have h45' : (c == 45) = false := by simpa using h45
        generalize syZ c = op at HSY hop HOP
        clear hx hch hcb hr2 hs2 hc4 h45
        go_wp2_with (fail)
        refine HC.out.mono ?_
        rintro e w5 ⟨rfl, hps5, hb5⟩
        have HB5 := Lib.hid (HB3.out.trans hb5)
        have HP5 := Lib.hid hps5
        obtain ⟨A5, c5, hc52, hown5⟩ := hps5.c2
        have hLN : (S ++ [0] ++ a).length = S.length + 1 + a.length := by simp; omega
        obtain ⟨g, cap, hv5, hg1, hg2⟩ := hown5.form (by omega)
        have hA : A5 = some ⟨g, 0, none⟩ ∧ c5 = cap := by injection hv5 with a b c'; exact ⟨a, c'⟩
        obtain ⟨rfl, rfl⟩ := hA
        rw [hLN] at hc52 hown5
        have l7 : (S ++ [op] ++ a).length = S.length + 1 + a.length := by simp; omega
        obtain ⟨o7, bel7, hcz, hfz⟩ := own_put (y := op) hown5 hg1 hps5.size
        have HP7 := Lib.hid (hps5.turn bel7 ⟨_, _, by rw [l7]; exact hc52, by rw [l7]; exact o7⟩)
        have HB7 := Lib.hid (HB5.out.trans (But.of_below bel7))
        clear o7 bel7 hps5 hb5 hv5 hown5 l7
        go_wp2
        go_region_with (go_at_call 113; refine (HSY.out _).mono ?_; rintro e w' ⟨rfl, rfl⟩)
        all_goals
          go_wp2_with (fail)
          have hsz2 := pz_suf n r2
          generalize hR2 : pz n r2 = R2 at hsz2
          have HR2 := Lib.hid hR2
          clear hR2
          refine (HIH.out r2 (S ++ [op] ++ a) _ (PS.drew HP7.out) hr22 (by simp; omega)).mono ?_
          rw [HR2.out]
          rcases hsz2 with ⟨b, r3, rfl, hb1, hb2, hb3', hb4⟩ | ⟨r3, rfl, _⟩
          rotate_left
          · rintro e w8 ⟨hb8, rfl⟩
            have HB8 := Lib.hid ((But.drew HB7.out).trans hb8)
            have HE : Hid (RES = .no r3) := Lib.hid (by rw [← HQ.out]; exact pairP_no2 HR.out HOP.out HR2.out)
            clear hb8
            go_wp2
            exact ⟨rfl, Parsed.mkno HE.out HB8.out⟩
          rintro e w8 ⟨hb8, rfl, hps8⟩
          have HB8 := Lib.hid ((But.drew HB7.out).trans hb8)
          have HP8 := Lib.hid hps8
          have HEND : Hid (RES = endP op a b r3) := Lib.hid (by rw [← HQ.out]; exact pairP_end HR.out HOP.out HR2.out)
          have HPUT : Hid (S ++ [op] ++ a ++ b = S ++ putP op a b) := Lib.hid (by unfold putP; rw [if_neg (by omega)]; simp)
          clear hb8 hps8 hb4
          cases hx3 : skS r3 with
          | nil =>
            have HE : Hid (RES = .no []) := Lib.hid (HEND.out.trans (endP_nil hx3))
            have HL := Lib.hid (oneOf_end s lastB B pb r3 _ _ HP8.out hx3)
            clear hx3
            go_wp2_with (go_at_call 111; refine HL.out.mono ?_; rintro e w' ⟨rfl, hb⟩)
            exact ⟨rfl, Parsed.mkno HE.out (HB8.out.trans hb)⟩
          | cons c3 r4 =>
            obtain ⟨hcb3, hr4, hs4⟩ := head_byte HP8.out.suf hx3
            by_cases h41 : c3 = 41
            · subst h41
              have HE : Hid (RES = .ok (putP op a b) r4) := Lib.hid (HEND.out.trans (endP_yes hx3))
              have HL := Lib.hid (oneOf_ok s lastB B pb r3 _ 41 r4 _ HP8.out hx3 (by rw [ch_last 41 (by omega) (by omega)]; rfl))
              clear hx3 hs4
              go_wp2_with (fail)
              refine HL.out.mono ?_
              rintro e w9 ⟨rfl, hps9, hb9⟩
              rw [HPUT.out] at hps9
              have HP9 := Lib.hid hps9
              have HB9 := Lib.hid (HB8.out.trans hb9)
              clear hps9 hb9
              go_wp2
              go_end0
              exact Parsed.mkok HE.out HB9.out HP9.out
            · have HE : Hid (RES = .no (c3 :: r4)) := Lib.hid (HEND.out.trans (endP_other hx3 h41))
              have HL := Lib.hid (oneOf_no s lastB B pb r3 _ c3 r4 _ HP8.out hx3 (by rw [ch_last c3 hcb3.1 hcb3.2]; simpa using h41))
              clear hx3 hs4
              go_wp2_with (go_at_call 111; refine HL.out.mono ?_; rintro e w' ⟨rfl, hb⟩)
              exact ⟨rfl, Parsed.mkno HE.out (HB8.out.trans hb)⟩
/-- The parser reads a formula as 'pz' does. -/
theorem formula_any (s : ByteArray) (B pb : Nat) : ∀ n, FormOk s B pb n
  | 0 => fun xs S w _ hn _ => absurd hn (by omega)
  | n + 1 => formula_step s B pb n (formula_any s B pb n) (pair_step s B pb n (formula_any s B pb n))
end Go.Proofs.YtjekibknembcgaaDoor
