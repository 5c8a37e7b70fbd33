/- The parser of the program: a formula. -/
import Derived.Test.YtjekibknembcgaaDoorPars
namespace Go.Proofs.YtjekibknembcgaaDoor
open Go.RowKit

/-- The parser's row of symbols has turned. -/
theorem PS.turn {s : ByteArray} {B pb : Nat} {w w1 : World} {xs S T : List Int} (h : PS s B pb w xs S) (hb : Below B w w1)
    (hc : ∃ A c, w.cell? ⟨pb, 2, none⟩ = some (.slice A T.length c) ∧ w1.ownsRow B 2 1 (.slice A T.length c) T.length (T.map (Value.int .i64))) : PS s B pb w1 xs T := by
  have hl := h.lt
  have hl2 : Below pb w w1 := hb.mono (by omega)
  obtain ⟨A, c, h1, h2⟩ := hc
  exact ⟨h.lt, Nat.le_trans h.size hb.size, h.glob, h.arit.below hl2 h.glob.1, h.dual.below hl2 h.glob.2, h.suf, (hb.cell (p := ⟨pb, 0, none⟩) h.lt).trans h.c0, (hb.cell (p := ⟨pb, 1, none⟩) h.lt).trans h.c1,
    (hb.frozen (p := ⟨pb, 1, none⟩) h.lt).trans h.f1, (hb.frozen (p := ⟨pb, 2, none⟩) h.lt).trans h.f2, ⟨A, c, (hb.cell (p := ⟨pb, 2, none⟩) h.lt).trans h1, h2⟩, h.big⟩
/-- .. another row lies there. -/
theorem PS.put {s : ByteArray} {B pb : Nat} {w w1 : World} {xs S T : List Int} {A : Option Addr} {c : Nat} (h : PS s B pb w xs S) (hb : Below B w w1)
    (ho : w1.ownsRow B 2 1 (.slice A T.length c) T.length (T.map (Value.int .i64))) : PS s B pb (w1.setCell ⟨pb, 2, none⟩ (.slice A T.length c)) xs T ∧ But B pb w (w1.setCell ⟨pb, 2, none⟩ (.slice A T.length c)) := by
  have hl := h.lt
  have hB : But B pb w (w1.setCell ⟨pb, 2, none⟩ (.slice A T.length c)) := (But.of_below hb).setCell (p := ⟨pb, 2, none⟩) (.inl rfl) _
  have hl2 : Below pb w (w1.setCell ⟨pb, 2, none⟩ (.slice A T.length c)) := hB.below (by omega)
  obtain ⟨A0, c0, h1, _⟩ := h.c2
  refine ⟨⟨h.lt, Nat.le_trans h.size hB.size, h.glob, h.arit.below hl2 h.glob.1, h.dual.below hl2 h.glob.2, h.suf, ?_, ?_, ?_, ?_, ⟨A, c, cell_set_same ((hb.cell (p := ⟨pb, 2, none⟩) h.lt).trans h1), ownsRow_setCell_below ho h.lt _⟩, h.big⟩, hB⟩
  · rw [World.cell?_setCell_other _ _ _ _ (by simp)]; exact (hb.cell (p := ⟨pb, 0, none⟩) h.lt).trans h.c0
  · rw [World.cell?_setCell_other _ _ _ _ (by simp)]; exact (hb.cell (p := ⟨pb, 1, none⟩) h.lt).trans h.c1
  · rw [World.frozen?_setCell]; exact (hb.frozen (p := ⟨pb, 1, none⟩) h.lt).trans h.f1
  · rw [World.frozen?_setCell]; exact (hb.frozen (p := ⟨pb, 2, none⟩) h.lt).trans h.f2

/-- What reading leaves. -/
def Parsed (s : ByteArray) (B pb : Nat) (S : List Int) (w : World) (res : PR) (e : Ending) (w' : World) : Prop :=
  But B pb w w' ∧ match res with
    | .ok f r => e = .returned (.tuple #[]) ∧ PS s B pb w' r (S ++ f)
    | .no r => e = .panicked (misV s r)
theorem Parsed.from {s : ByteArray} {B pb : Nat} {S : List Int} {w w1 : World} {res : PR} {e : Ending} {w' : World} (h : Parsed s B pb S w1 res e w') (hb : But B pb w w1) : Parsed s B pb S w res e w' := ⟨hb.trans h.1, h.2⟩

/-- What is asked of the reading of a formula, n calls deep. -/
def FormOk (s : ByteArray) (B pb n : Nat) : Prop := ∀ (xs S : List Int) (w : World), PS s B pb w xs S → xs.length < n → S.length + xs.length ≤ 1000 →
  Calls Tryd.prog 94 #[.pointer (some ⟨pb, 0, none⟩)] w (Parsed s B pb S w (pz n xs))

/-- A pair, behind its parenthesis. -/
def pairP (n : Nat) (r : List Int) : PR := match pz n r with
        | .no r' => .no r'
        | .ok a r1 => match opP r1 with
          | .no r' => .no r'
          | .ok op r2 => match pz n r2 with
            | .no r' => .no r'
            | .ok b r3 => endP (op.getD 0 0) a b r3
def PairOk (s : ByteArray) (B pb n : Nat) : Prop := ∀ (xs S : List Int) (w : World), PS s B pb w xs S → xs.length < n → S.length + 1 + xs.length ≤ 1000 →
  Calls Tryd.prog 112 #[.pointer (some ⟨pb, 0, none⟩)] w (Parsed s B pb S w (pairP n xs))

theorem pz_zero_not {n : Nat} {xs : List Int} (h : xs.length < n) : ∃ m, n = m + 1 := ⟨n - 1, by omega⟩

theorem push_own {s : ByteArray} {B pb : Nat} {w w1 : World} {xs S : List Int} {A0 : Option Addr} {c0 : Nat} {o : Obj} {v' : Value} {z : Int} (HP : Hid (PS s B pb w xs S)) (HO : Hid (w.ownsRow B 2 1 (.slice A0 S.length c0) S.length (S.map (Value.int .i64))))
    (hc2 : w.cell? ⟨pb, 2, none⟩ = some (.slice A0 S.length c0))
    (hown : w1.ownsRow B 2 1 v' (S.length + 1) (S.map (Value.int .i64) ++ [.int .i64 z])) (hg : (w.alloc o).grownBy w1 (Value.slice A0 S.length c0).ownBlock) :
    ∃ A c, v' = .slice A (S.length + 1) c ∧ Hid (PS s B pb (w1.setCell ⟨pb, 2, none⟩ (.slice A (S.length + 1) c)) xs (S ++ [z])) ∧ Hid (But B pb w (w1.setCell ⟨pb, 2, none⟩ (.slice A (S.length + 1) c))) ∧ w1.cell? ⟨pb, 2, none⟩ = some (.slice A0 S.length c0) ∧ w1.frozen? ⟨pb, 2, none⟩ = false := by
  have h := HP.out
  have ho := HO.out
  have hbel : Below B w w1 := ((Below.refl B w).alloc h.size o).grown hg (by simp; have := h.size; omega) (fun k hk => (ho.lt k hk).1)
  obtain ⟨A, c, rfl⟩ := own_shape hown
  have hl : (S ++ [z]).length = S.length + 1 := by simp
  have hm : S.map (Value.int .i64) ++ [.int .i64 z] = (S ++ [z]).map (Value.int .i64) := by simp
  rw [hm, ← hl] at hown
  have hput := h.put hbel hown
  rw [hl] at hput
  exact ⟨A, c, rfl, hput.1, hput.2, (hbel.cell (p := ⟨pb, 2, none⟩) h.lt).trans hc2, (hbel.frozen (p := ⟨pb, 2, none⟩) h.lt).trans h.f2⟩

set_option maxHeartbeats 4000000 in
/-- A sign that is a symbol by itself. -/
theorem formula_leaf (s : ByteArray) (B pb : Nat) (xs S : List Int) (c : Int) (r : List Int) (w : World) (h : PS s B pb w xs S) (hx : skS xs = c :: r) (hcb : 0 ≤ c ∧ c ≤ 255) (hbig : S.length ≤ 1000)
    (hc : 65 ≤ c ∧ c ≤ 72 ∨ c = 49 ∨ c = 95) :
    Calls Tryd.prog 94 #[.pointer (some ⟨pb, 0, none⟩)] w (Parsed s B pb S w (.ok [syZ c] r)) := by
  obtain ⟨i0, hi0, hz0, hz1, hz2⟩ := info_parts info_i64
  have hch : chB startsB c = true := by
    rw [ch_start c hcb.1 hcb.2]
    rcases hc with ⟨h1, h2⟩ | rfl | rfl
    · simp [h1, h2]
    · decide
    · decide
  have h126 : (c == 126) = false := by simp; omega
  have h40 : (c == 40) = false := by simp; omega
  have hsy : arZ (syZ c) = 0 := by
    rcases hc with ⟨h1, h2⟩ | rfl | rfl
    · unfold syZ; rw [if_pos ⟨h1, h2⟩]; exact arZ_leaf (leaf_iff.2 (by omega))
    · decide
    · decide
  have hC := oneOf_ok s startsB B pb xs S c r w h hx hch
  have hSy := fun w => symbolOf_any c w (by omega)
  generalize syZ c = z at hsy hSy
  have HSY := Lib.hid hSy
  have HI := Lib.hid hi0; have HZ0 := Lib.hid hz0; have HZ1 := Lib.hid hz1; have HZ2 := Lib.hid hz2
  obtain ⟨A00, c00, hc20, _⟩ := h.c2
  clear hSy hx hch hcb h hi0 hz0 hz1 hz2 hc
  go_enter Tryd.func94, Tryd.ntmps94
  go_wp2_with (go_at_call 111; refine hC.mono ?_; rintro e w1 ⟨rfl, hps1, hb1⟩)
  obtain ⟨A0, c0, hc2, hown⟩ := hps1.c2
  have HP1 := Lib.hid hps1; have HB1 := Lib.hid hb1; have HO := Lib.hid hown
  clear hps1 hb1 hown hC hc20
  go_wp2_with (first | (go_at_call 113; refine (HSY.out _).mono ?_; rintro e w' ⟨rfl, rfl⟩) | (at_builtin; refine wpList_append_own _ rfl _ _ 24 rfl B 2 i0 (.int .i64 0) 1 8 Tryd.underlying24 HI.out HZ0.out HZ1.out HZ2.out rfl (by decide) _ _ _ rfl (HO.out.alloc _) ⟨w1.heap.size, 0, none⟩ 1 1 [.int .i64 z] rfl rfl ?c1 ?c2 ?c3 ?c4 ?c5 ?_))
  case c1 => exact cell_one_new _ _ _
  case c2 => intro u hu; simp at hu; subst hu; rfl
  case c3 => unfold maxLen; omega
  case c4 => omega
  case c5 => have := HP1.out.size; simp; omega
  intro v' w2 hown' hgrow _
  obtain ⟨A2, c2, rfl, HP2, HB2, hc22, hf22⟩ := push_own HP1 HO hc2 hown' hgrow
  have hAr2 := HP2.out.arit
  clear hown' hgrow
  go_wp2_with (go_at_call 65; refine (arityOf_any z _ HP2.out.arit).mono ?_; rintro e w' ⟨rfl, rfl⟩)
  refine wp_loop_rounds 1 ?_
  rw [rounds_succ]
  go_wp2
  go_end0
  exact ⟨HB1.out.trans HB2.out, rfl, HP2.out⟩

set_option maxHeartbeats 4000000 in
/-- An exponential. -/
theorem formula_exp (s : ByteArray) (B pb n : Nat) (xs S : List Int) (c : Int) (r : List Int) (w : World) (h : PS s B pb w xs S) (ih : FormOk s B pb n) (hx : skS xs = c :: r) (hcb : 0 ≤ c ∧ c ≤ 255) (hbig : S.length + 1 + r.length ≤ 1000) (hrn : r.length < n)
    (hc : c = 33 ∨ c = 63) :
    Calls Tryd.prog 94 #[.pointer (some ⟨pb, 0, none⟩)] w (Parsed s B pb S w (match pz n r with
      | .ok f r' => .ok (syZ c :: f) r'
      | .no r' => .no r')) := by
  obtain ⟨i0, hi0, hz0, hz1, hz2⟩ := info_parts info_i64
  have hch : chB startsB c = true := by
    rw [ch_start c hcb.1 hcb.2]
    rcases hc with rfl | rfl <;> decide
  have h126 : (c == 126) = false := by simp; omega
  have h40 : (c == 40) = false := by simp; omega
  have hsy : arZ (syZ c) = 1 := by rcases hc with rfl | rfl <;> decide
  have hC := oneOf_ok s startsB B pb xs S c r w h hx hch
  have hSy := fun w => symbolOf_any c w (by omega)
  have HIH := Lib.hid ih
  generalize syZ c = z at hsy hSy ⊢
  have HSY := Lib.hid hSy
  have HI := Lib.hid hi0; have HZ0 := Lib.hid hz0; have HZ1 := Lib.hid hz1; have HZ2 := Lib.hid hz2
  obtain ⟨A00, c00, hc20, _⟩ := h.c2
  generalize hR : pz n r = R
  have HR := Lib.hid hR
  clear hSy hx hch hcb h hi0 hz0 hz1 hz2 hc ih hR
  go_enter Tryd.func94, Tryd.ntmps94
  go_wp2_with (go_at_call 111; refine hC.mono ?_; rintro e w1 ⟨rfl, hps1, hb1⟩)
  obtain ⟨A0, c0, hc2, hown⟩ := hps1.c2
  have HP1 := Lib.hid hps1; have HB1 := Lib.hid hb1; have HO := Lib.hid hown
  clear hps1 hb1 hown hC hc20
  go_wp2_with (first | (go_at_call 113; refine (HSY.out _).mono ?_; rintro e w' ⟨rfl, rfl⟩) | (at_builtin; refine wpList_append_own _ rfl _ _ 24 rfl B 2 i0 (.int .i64 0) 1 8 Tryd.underlying24 HI.out HZ0.out HZ1.out HZ2.out rfl (by decide) _ _ _ rfl (HO.out.alloc _) ⟨w1.heap.size, 0, none⟩ 1 1 [.int .i64 z] rfl rfl ?c1 ?c2 ?c3 ?c4 ?c5 ?_))
  case c1 => exact cell_one_new _ _ _
  case c2 => intro u hu; simp at hu; subst hu; rfl
  case c3 => unfold maxLen; omega
  case c4 => omega
  case c5 => have := HP1.out.size; simp; omega
  intro v' w2 hown' hgrow _
  obtain ⟨A2, c2, rfl, HP2, HB2, hc22, hf22⟩ := push_own HP1 HO hc2 hown' hgrow
  clear hown' hgrow
  go_wp2_with (go_at_call 65; refine (arityOf_any z _ HP2.out.arit).mono ?_; rintro e w' ⟨rfl, rfl⟩)
  refine wp_loop_rounds 2 ?_
  rw [rounds_succ]
  go_wp2_with (fail)
  refine (HIH.out r (S ++ [z]) _ HP2.out hrn (by simp; omega)).mono ?_
  rw [HR.out]
  cases R with
  | ok f r' =>
    rintro e w3 ⟨hb3, rfl, hps3⟩
    have HB3 := Lib.hid ((HB1.out.trans HB2.out).trans hb3)
    rw [List.append_assoc] at hps3
    have HP3 := Lib.hid hps3
    clear hb3 hps3
    go_wp2_with (fail)
    rw [rounds_succ]
    go_wp2
    go_end0
    exact ⟨HB3.out, rfl, HP3.out⟩
  | no r' =>
    rintro e w3 ⟨hb3, rfl⟩
    have HB3 := Lib.hid ((HB1.out.trans HB2.out).trans hb3)
    go_wp2
    exact ⟨rfl, HB3.out, rfl⟩

set_option maxHeartbeats 4000000 in
theorem formula_step (s : ByteArray) (B pb n : Nat) (ih : FormOk s B pb n) (hp : PairOk s B pb n) : FormOk s B pb (n + 1) := by
  intro xs S w h hn hbig
  have HIH := Lib.hid ih; have HPR := Lib.hid hp
  clear ih hp
  obtain ⟨A0, c0, hc2, hown⟩ := h.c2
  have HO := Lib.hid hown
  clear hown
  cases hx : skS xs with
  | nil =>
    have e : pz (n + 1) xs = .no [] := by rw [pz, hx]
    rw [e]
    have hC := oneOf_end s startsB B pb xs S w h hx
    go_enter Tryd.func94, Tryd.ntmps94
    go_wp2_with (go_at_call 111; refine hC.mono ?_; rintro e w' ⟨rfl, hb⟩)
    exact ⟨rfl, hb, rfl⟩
  | cons c r =>
    have hsuf : (c :: r) <:+ xs := hx ▸ skS_suf xs
    have hrl := hsuf.length_le
    rw [List.length_cons] at hrl
    have hcb := bl_byte s c ((hsuf.trans h.suf).subset (by simp))
    by_cases hch : chB startsB c = true
    · have hcc := hch
      rw [ch_start c hcb.1 hcb.2] at hcc
      simp only [Bool.or_eq_true, Bool.and_eq_true, beq_iff_eq, decide_eq_true_eq] at hcc
      by_cases h126 : c = 126
      · subst h126
        have e : pz (n + 1) xs = (match pz n r with
          | .ok f r' => .ok (f.map duZ) r'
          | .no r' => .no r') := by rw [pz, hx]; rfl
        rw [e]
        have hC := oneOf_ok s startsB B pb xs S 126 r w h hx hch
        have hsz := pz_suf n r
        generalize hR : pz n r = R at hsz ⊢
        have HR := Lib.hid hR
        clear hR hcb hch hcc e hsuf
        go_enter Tryd.func94, Tryd.ntmps94
        go_wp2_with (go_at_call 111; refine hC.mono ?_; rintro e w1 ⟨rfl, hps1, hb1⟩)
        go_wp2_with (fail)
        refine (HIH.out r S _ hps1 (by omega) (by omega)).mono ?_
        rw [HR.out]
        rcases hsz with ⟨f, r', rfl, hf1, hf2, hf3, hf4⟩ | ⟨r', rfl, hf3⟩
        · rintro e w2 ⟨hb2, rfl, hps2⟩
          obtain ⟨A2, c2, hc22, hown2⟩ := hps2.c2
          have hLN : (S ++ f).length = S.length + f.length := List.length_append
          obtain ⟨g, cap, hv2, hg1, hg2⟩ := hown2.form (by omega)
          have hA : A2 = some ⟨g, 0, none⟩ ∧ c2 = cap := by injection hv2 with a b c'; exact ⟨a, c'⟩
          obtain ⟨rfl, rfl⟩ := hA
          have hcap := (own_cap hown2).1
          rw [hLN] at hc22 hown2 hcap
          have HO2 := Lib.hid hown2
          have HP2 := Lib.hid hps2
          have HB2 := Lib.hid (hb1.trans hb2)
          have hf2' := hps2.f2
          have hne : ¬ c2 = S.length := by omega
          clear hown2 hps2 hb1 hb2 hv2 hps1
          have HD := Lib.hid (dualise_any B g S.length (S.length + f.length) c2 f.length (c2 - S.length) (S ++ f) w2 HO2.out rfl (by omega) (by omega) (fun x hx => hf4 x (by simpa using hx)) HP2.out.dual (by have := HP2.out.glob.2; have := HP2.out.lt; omega))
          go_wp2_with (fail)
          refine HD.out.mono ?_
          rintro e w3 ⟨rfl, o3, gr3⟩
          have e3 : (S ++ f).take S.length ++ ((S ++ f).drop S.length).map duZ = S ++ f.map duZ := by simp
          have l3 : (S ++ f.map duZ).length = S.length + f.length := by simp
          rw [e3, ← l3] at o3
          rw [← l3] at hc22
          have bel3 : Below B w2 w3 := (Below.refl B w2).grown gr3 HP2.out.size (fun k hk => by injection hk with hk; omega)
          have HP3 := Lib.hid (HP2.out.turn bel3 ⟨_, _, hc22, o3⟩)
          have HB3 := Lib.hid (HB2.out.trans (But.of_below bel3))
          clear o3 gr3 bel3 e3 l3
          go_wp2
          go_end0
          exact ⟨HB3.out, rfl, HP3.out⟩
        · rintro e w2 ⟨hb2, rfl⟩
          go_wp2
          exact ⟨rfl, hb1.trans hb2, rfl⟩
      · by_cases h40 : c = 40
        · subst h40
          have e : pz (n + 1) xs = pairP n r := by rw [pz, hx]; rfl
          rw [e]
          have hC := oneOf_ok s startsB B pb xs S 40 r w h hx hch
          generalize hR : pairP n r = R
          have HR := Lib.hid hR
          clear hR hcb hch hcc e hsuf h126
          go_enter Tryd.func94, Tryd.ntmps94
          go_wp2_with (go_at_call 111; refine hC.mono ?_; rintro e w1 ⟨rfl, hps1, hb1⟩)
          go_wp2_with (fail)
          refine (HPR.out r S _ hps1 (by omega) (by omega)).mono ?_
          rw [HR.out]
          have HB1 := Lib.hid hb1
          clear hb1 hps1 hC h hc2
          cases R with
          | ok f r' =>
            rintro e w2 ⟨hb2, rfl, hps2⟩
            have HB2 := Lib.hid (HB1.out.trans hb2)
            have HP2 := Lib.hid hps2
            clear hb2 hps2
            go_wp2
            go_end0
            exact ⟨HB2.out, rfl, HP2.out⟩
          | no r' =>
            rintro e w2 ⟨hb2, rfl⟩
            go_wp2
            exact ⟨rfl, HB1.out.trans hb2, rfl⟩
        · by_cases hexp : c = 33 ∨ c = 63
          · have e : pz (n + 1) xs = (match pz n r with
              | .ok f r' => .ok (syZ c :: f) r'
              | .no r' => .no r') := by
              rw [pz, hx]
              rcases hexp with rfl | rfl <;> rfl
            rw [e]
            exact formula_exp s B pb n xs S c r w h HIH.out hx hcb (by omega) (by omega) hexp
          · have e : pz (n + 1) xs = .ok [syZ c] r := by
              rw [pz, hx]
              show (if c = 126 then _ else _) = _
              rw [if_neg h126, if_neg hexp]
              unfold syZ
              by_cases hat : 65 ≤ c ∧ c ≤ 72
              · rw [if_pos hat, if_pos hat]
              · rw [if_neg hat, if_neg hat]
                have : c = 49 ∨ c = 95 := by omega
                rcases this with rfl | rfl <;> rfl
            rw [e]
            exact formula_leaf s B pb xs S c r w h hx hcb (by omega) (by omega)
    · have hch' : chB startsB c = false := by simpa using hch
      have e : pz (n + 1) xs = .no (c :: r) := by
        rw [ch_start c hcb.1 hcb.2] at hch'
        simp only [Bool.or_eq_false_iff, Bool.and_eq_false_iff, beq_eq_false_iff_ne, decide_eq_false_iff_not] at hch'
        rw [pz, hx]
        show (if c = 126 then _ else _) = _
        rw [if_neg (by omega), if_neg (by omega), if_neg (by omega), if_neg (by omega), if_neg (by omega), if_neg (by omega)]
      rw [e]
      have hC := oneOf_no s startsB B pb xs S c r w h hx hch'
      clear hcb hch hch' e hsuf hrl
      go_enter Tryd.func94, Tryd.ntmps94
      go_wp2_with (go_at_call 111; refine hC.mono ?_; rintro e w' ⟨rfl, hb⟩)
      exact ⟨rfl, hb, rfl⟩
end Go.Proofs.YtjekibknembcgaaDoor
