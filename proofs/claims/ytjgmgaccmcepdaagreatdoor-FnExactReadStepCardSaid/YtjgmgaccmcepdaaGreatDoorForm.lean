/- The parser of the program: a formula. The parser of the program: a pair of operands. The parser of the program: the whole text, the panic caught; ParseForm. -/
import Derived.Test.YtjgmgaccmcepdaaGreatDoorPars
import Derived.Deep.RegionWith
import Derived.Tactics
import Derived.Tactics2
import Derived.Defers
import Derived.Recover
import Derived.Laws.Pointers
namespace Go.Proofs.YtjgmgaccmcepdaaGreatDoor
open Go.RowKit

/-- The parser's row of symbols has turned. -/
theorem PS.turn {s : ByteArray} {B pb : Nat} {w w1 : World} {xs S T : List Int} (h : PS s B pb w xs S) (hb : Below B w w1)
    (hc : ∃ A c, w.cell? ⟨pb, 2, none⟩ = some (.slice A T.length c) ∧ w1.ownsRow B 2 1 (.slice A T.length c) T.length (T.map (Value.int .i64))) : PS s B pb w1 xs T := by
  have hl := h.lt
  have hl2 : Below pb w w1 := hb.mono (by omega)
  obtain ⟨A, c, h1, h2⟩ := hc
  exact ⟨h.lt, Nat.le_trans h.size hb.size, h.glob, h.arit.below hl2 h.glob.1, h.dual.below hl2 h.glob.2, h.suf, (hb.cell (p := ⟨pb, 0, none⟩) h.lt).trans h.c0, (hb.cell (p := ⟨pb, 1, none⟩) h.lt).trans h.c1,
    (hb.frozen (p := ⟨pb, 1, none⟩) h.lt).trans h.f1, (hb.frozen (p := ⟨pb, 2, none⟩) h.lt).trans h.f2, ⟨A, c, (hb.cell (p := ⟨pb, 2, none⟩) h.lt).trans h1, h2⟩, h.big⟩
/-- .. another row lies there. -/
theorem PS.put {s : ByteArray} {B pb : Nat} {w w1 : World} {xs S T : List Int} {A : Option Addr} {c : Nat} (h : PS s B pb w xs S) (hb : Below B w w1)
    (ho : w1.ownsRow B 2 1 (.slice A T.length c) T.length (T.map (Value.int .i64))) : PS s B pb (w1.setCell ⟨pb, 2, none⟩ (.slice A T.length c)) xs T ∧ But B pb w (w1.setCell ⟨pb, 2, none⟩ (.slice A T.length c)) := by
  have hl := h.lt
  have hB : But B pb w (w1.setCell ⟨pb, 2, none⟩ (.slice A T.length c)) := (But.of_below hb).setCell (p := ⟨pb, 2, none⟩) (.inl rfl) _
  have hl2 : Below pb w (w1.setCell ⟨pb, 2, none⟩ (.slice A T.length c)) := hB.below (by omega)
  obtain ⟨A0, c0, h1, _⟩ := h.c2
  refine ⟨⟨h.lt, Nat.le_trans h.size hB.size, h.glob, h.arit.below hl2 h.glob.1, h.dual.below hl2 h.glob.2, h.suf, ?_, ?_, ?_, ?_, ⟨A, c, cell_set_same ((hb.cell (p := ⟨pb, 2, none⟩) h.lt).trans h1), ownsRow_setCell_below ho h.lt _⟩, h.big⟩, hB⟩
  · rw [World.cell?_setCell_other _ _ _ _ (by simp)]; exact (hb.cell (p := ⟨pb, 0, none⟩) h.lt).trans h.c0
  · rw [World.cell?_setCell_other _ _ _ _ (by simp)]; exact (hb.cell (p := ⟨pb, 1, none⟩) h.lt).trans h.c1
  · rw [World.frozen?_setCell]; exact (hb.frozen (p := ⟨pb, 1, none⟩) h.lt).trans h.f1
  · rw [World.frozen?_setCell]; exact (hb.frozen (p := ⟨pb, 2, none⟩) h.lt).trans h.f2

/-- What reading leaves. -/
def Parsed (s : ByteArray) (B pb : Nat) (S : List Int) (w : World) (res : PR) (e : Ending) (w' : World) : Prop :=
  But B pb w w' ∧ match res with
    | .ok f r => e = .returned (.tuple #[]) ∧ PS s B pb w' r (S ++ f)
    | .no r => e = .panicked (misV s r)
theorem Parsed.from {s : ByteArray} {B pb : Nat} {S : List Int} {w w1 : World} {res : PR} {e : Ending} {w' : World} (h : Parsed s B pb S w1 res e w') (hb : But B pb w w1) : Parsed s B pb S w res e w' := ⟨hb.trans h.1, h.2⟩

/-- What is asked of the reading of a formula, n calls deep. -/
def FormOk (s : ByteArray) (B pb n : Nat) : Prop := ∀ (xs S : List Int) (w : World), PS s B pb w xs S → xs.length < n → S.length + xs.length ≤ 1000 →
  Calls Tryz.prog 234 #[.pointer (some ⟨pb, 0, none⟩)] w (Parsed s B pb S w (pz n xs))

/-- A pair, behind its parenthesis. -/
def pairP (n : Nat) (r : List Int) : PR := match pz n r with
        | .no r' => .no r'
        | .ok a r1 => match opP r1 with
          | .no r' => .no r'
          | .ok op r2 => match pz n r2 with
            | .no r' => .no r'
            | .ok b r3 => endP (op.getD 0 0) a b r3
def PairOk (s : ByteArray) (B pb n : Nat) : Prop := ∀ (xs S : List Int) (w : World), PS s B pb w xs S → xs.length < n → S.length + 1 + xs.length ≤ 1000 →
  Calls Tryz.prog 240 #[.pointer (some ⟨pb, 0, none⟩)] w (Parsed s B pb S w (pairP n xs))

theorem pz_zero_not {n : Nat} {xs : List Int} (h : xs.length < n) : ∃ m, n = m + 1 := ⟨n - 1, by omega⟩

theorem push_own_p {s : ByteArray} {B pb : Nat} {w w1 : World} {xs S : List Int} {A0 : Option Addr} {c0 : Nat} {o : Obj} {v' : Value} {z : Int} (HP : Hid (PS s B pb w xs S)) (HO : Hid (w.ownsRow B 2 1 (.slice A0 S.length c0) S.length (S.map (Value.int .i64))))
    (hc2 : w.cell? ⟨pb, 2, none⟩ = some (.slice A0 S.length c0))
    (hown : w1.ownsRow B 2 1 v' (S.length + 1) (S.map (Value.int .i64) ++ [.int .i64 z])) (hg : (w.alloc o).grownBy w1 (Value.slice A0 S.length c0).ownBlock) :
    ∃ A c, v' = .slice A (S.length + 1) c ∧ Hid (PS s B pb (w1.setCell ⟨pb, 2, none⟩ (.slice A (S.length + 1) c)) xs (S ++ [z])) ∧ Hid (But B pb w (w1.setCell ⟨pb, 2, none⟩ (.slice A (S.length + 1) c))) ∧ w1.cell? ⟨pb, 2, none⟩ = some (.slice A0 S.length c0) ∧ w1.frozen? ⟨pb, 2, none⟩ = false := by
  have h := HP.out
  have ho := HO.out
  have hbel : Below B w w1 := ((Below.refl B w).alloc h.size o).grown hg (by simp; have := h.size; omega) (fun k hk => (ho.lt k hk).1)
  obtain ⟨A, c, rfl⟩ := own_shape hown
  have hl : (S ++ [z]).length = S.length + 1 := by simp
  have hm : S.map (Value.int .i64) ++ [.int .i64 z] = (S ++ [z]).map (Value.int .i64) := by simp
  rw [hm, ← hl] at hown
  have hput := h.put hbel hown
  rw [hl] at hput
  exact ⟨A, c, rfl, hput.1, hput.2, (hbel.cell (p := ⟨pb, 2, none⟩) h.lt).trans hc2, (hbel.frozen (p := ⟨pb, 2, none⟩) h.lt).trans h.f2⟩

set_option maxHeartbeats 4000000 in
/-- A sign that is a symbol by itself. -/
theorem formula_leaf (s : ByteArray) (B pb : Nat) (xs S : List Int) (c : Int) (r : List Int) (w : World) (h : PS s B pb w xs S) (hx : skS xs = c :: r) (hcb : 0 ≤ c ∧ c ≤ 255) (hbig : S.length ≤ 1000)
    (hc : 65 ≤ c ∧ c ≤ 72 ∨ c = 49 ∨ c = 95) :
    Calls Tryz.prog 234 #[.pointer (some ⟨pb, 0, none⟩)] w (Parsed s B pb S w (.ok [syZ c] r)) := by
  obtain ⟨i0, hi0, hz0, hz1, hz2⟩ := info_parts info_i64
  have hch : chB startsB c = true := by
    rw [ch_start c hcb.1 hcb.2]
    rcases hc with ⟨h1, h2⟩ | rfl | rfl
    · simp [h1, h2]
    · decide
    · decide
  have h126 : (c == 126) = false := by simp; omega
  have h40 : (c == 40) = false := by simp; omega
  have hsy : arZ (syZ c) = 0 := by
    rcases hc with ⟨h1, h2⟩ | rfl | rfl
    · unfold syZ; rw [if_pos ⟨h1, h2⟩]; exact arZ_leaf (leaf_iff.2 (by omega))
    · decide
    · decide
  have hC := oneOf_ok s startsB B pb xs S c r w h hx hch
  have hSy := fun w => symbolOf_any c w (by omega)
  generalize syZ c = z at hsy hSy
  have HSY := Lib.hid hSy
  have HI := Lib.hid hi0; have HZ0 := Lib.hid hz0; have HZ1 := Lib.hid hz1; have HZ2 := Lib.hid hz2
  obtain ⟨A00, c00, hc20, _⟩ := h.c2
  clear hSy hx hch hcb h hi0 hz0 hz1 hz2 hc
  go_enter Tryz.func234, Tryz.ntmps234
  go_wp2_with (go_at_call 239; refine hC.mono ?_; rintro e w1 ⟨rfl, hps1, hb1⟩)
  obtain ⟨A0, c0, hc2, hown⟩ := hps1.c2
  have HP1 := Lib.hid hps1; have HB1 := Lib.hid hb1; have HO := Lib.hid hown
  clear hps1 hb1 hown hC hc20
  go_wp2_with (first | (go_at_call 241; refine (HSY.out _).mono ?_; rintro e w' ⟨rfl, rfl⟩) | (at_builtin; refine wpList_append_own _ rfl _ _ 28 rfl B 2 i0 (.int .i64 0) 1 8 Tryz.underlying28 HI.out HZ0.out HZ1.out HZ2.out rfl (by decide) _ _ _ rfl (HO.out.alloc _) ⟨w1.heap.size, 0, none⟩ 1 1 [.int .i64 z] rfl rfl ?c1 ?c2 ?c3 ?c4 ?c5 ?_))
  case c1 => exact cell_one_new _ _ _
  case c2 => intro u hu; simp at hu; subst hu; rfl
  case c3 => unfold maxLen; omega
  case c4 => omega
  case c5 => have := HP1.out.size; simp; omega
  intro v' w2 hown' hgrow _
  obtain ⟨A2, c2, rfl, HP2, HB2, hc22, hf22⟩ := push_own_p HP1 HO hc2 hown' hgrow
  have hAr2 := HP2.out.arit
  clear hown' hgrow
  go_wp2_with (go_at_call 198; refine (arityOf_any z _ HP2.out.arit).mono ?_; rintro e w' ⟨rfl, rfl⟩)
  refine wp_loop_rounds 1 ?_
  rw [rounds_succ]
  go_wp2
  go_end0
  exact ⟨HB1.out.trans HB2.out, rfl, HP2.out⟩

set_option maxHeartbeats 4000000 in
/-- An exponential. -/
theorem formula_exp (s : ByteArray) (B pb n : Nat) (xs S : List Int) (c : Int) (r : List Int) (w : World) (h : PS s B pb w xs S) (ih : FormOk s B pb n) (hx : skS xs = c :: r) (hcb : 0 ≤ c ∧ c ≤ 255) (hbig : S.length + 1 + r.length ≤ 1000) (hrn : r.length < n)
    (hc : c = 33 ∨ c = 63) :
    Calls Tryz.prog 234 #[.pointer (some ⟨pb, 0, none⟩)] w (Parsed s B pb S w (match pz n r with
      | .ok f r' => .ok (syZ c :: f) r'
      | .no r' => .no r')) := by
  obtain ⟨i0, hi0, hz0, hz1, hz2⟩ := info_parts info_i64
  have hch : chB startsB c = true := by
    rw [ch_start c hcb.1 hcb.2]
    rcases hc with rfl | rfl <;> decide
  have h126 : (c == 126) = false := by simp; omega
  have h40 : (c == 40) = false := by simp; omega
  have hsy : arZ (syZ c) = 1 := by rcases hc with rfl | rfl <;> decide
  have hC := oneOf_ok s startsB B pb xs S c r w h hx hch
  have hSy := fun w => symbolOf_any c w (by omega)
  have HIH := Lib.hid ih
  generalize syZ c = z at hsy hSy ⊢
  have HSY := Lib.hid hSy
  have HI := Lib.hid hi0; have HZ0 := Lib.hid hz0; have HZ1 := Lib.hid hz1; have HZ2 := Lib.hid hz2
  obtain ⟨A00, c00, hc20, _⟩ := h.c2
  generalize hR : pz n r = R
  have HR := Lib.hid hR
  clear hSy hx hch hcb h hi0 hz0 hz1 hz2 hc ih hR
  go_enter Tryz.func234, Tryz.ntmps234
  go_wp2_with (go_at_call 239; refine hC.mono ?_; rintro e w1 ⟨rfl, hps1, hb1⟩)
  obtain ⟨A0, c0, hc2, hown⟩ := hps1.c2
  have HP1 := Lib.hid hps1; have HB1 := Lib.hid hb1; have HO := Lib.hid hown
  clear hps1 hb1 hown hC hc20
  go_wp2_with (first | (go_at_call 241; refine (HSY.out _).mono ?_; rintro e w' ⟨rfl, rfl⟩) | (at_builtin; refine wpList_append_own _ rfl _ _ 28 rfl B 2 i0 (.int .i64 0) 1 8 Tryz.underlying28 HI.out HZ0.out HZ1.out HZ2.out rfl (by decide) _ _ _ rfl (HO.out.alloc _) ⟨w1.heap.size, 0, none⟩ 1 1 [.int .i64 z] rfl rfl ?c1 ?c2 ?c3 ?c4 ?c5 ?_))
  case c1 => exact cell_one_new _ _ _
  case c2 => intro u hu; simp at hu; subst hu; rfl
  case c3 => unfold maxLen; omega
  case c4 => omega
  case c5 => have := HP1.out.size; simp; omega
  intro v' w2 hown' hgrow _
  obtain ⟨A2, c2, rfl, HP2, HB2, hc22, hf22⟩ := push_own_p HP1 HO hc2 hown' hgrow
  clear hown' hgrow
  go_wp2_with (go_at_call 198; refine (arityOf_any z _ HP2.out.arit).mono ?_; rintro e w' ⟨rfl, rfl⟩)
  refine wp_loop_rounds 2 ?_
  rw [rounds_succ]
  go_wp2_with (fail)
  refine (HIH.out r (S ++ [z]) _ HP2.out hrn (by simp; omega)).mono ?_
  rw [HR.out]
  cases R with
  | ok f r' =>
    rintro e w3 ⟨hb3, rfl, hps3⟩
    have HB3 := Lib.hid ((HB1.out.trans HB2.out).trans hb3)
    rw [List.append_assoc] at hps3
    have HP3 := Lib.hid hps3
    clear hb3 hps3
    go_wp2_with (fail)
    rw [rounds_succ]
    go_wp2
    go_end0
    exact ⟨HB3.out, rfl, HP3.out⟩
  | no r' =>
    rintro e w3 ⟨hb3, rfl⟩
    have HB3 := Lib.hid ((HB1.out.trans HB2.out).trans hb3)
    go_wp2
    exact ⟨rfl, HB3.out, rfl⟩

set_option maxHeartbeats 4000000 in
theorem formula_step (s : ByteArray) (B pb n : Nat) (ih : FormOk s B pb n) (hp : PairOk s B pb n) : FormOk s B pb (n + 1) := by
  intro xs S w h hn hbig
  have HIH := Lib.hid ih; have HPR := Lib.hid hp
  clear ih hp
  obtain ⟨A0, c0, hc2, hown⟩ := h.c2
  have HO := Lib.hid hown
  clear hown
  cases hx : skS xs with
  | nil =>
    have e : pz (n + 1) xs = .no [] := by rw [pz, hx]
    rw [e]
    have hC := oneOf_end s startsB B pb xs S w h hx
    go_enter Tryz.func234, Tryz.ntmps234
    go_wp2_with (go_at_call 239; refine hC.mono ?_; rintro e w' ⟨rfl, hb⟩)
    exact ⟨rfl, hb, rfl⟩
  | cons c r =>
    have hsuf : (c :: r) <:+ xs := hx ▸ skS_suf xs
    have hrl := hsuf.length_le
    rw [List.length_cons] at hrl
    have hcb := bl_byte s c ((hsuf.trans h.suf).subset (by simp))
    by_cases hch : chB startsB c = true
    · have hcc := hch
      rw [ch_start c hcb.1 hcb.2] at hcc
      simp only [Bool.or_eq_true, Bool.and_eq_true, beq_iff_eq, decide_eq_true_eq] at hcc
      by_cases h126 : c = 126
      · subst h126
        have e : pz (n + 1) xs = (match pz n r with
          | .ok f r' => .ok (f.map duZ) r'
          | .no r' => .no r') := by rw [pz, hx]; rfl
        rw [e]
        have hC := oneOf_ok s startsB B pb xs S 126 r w h hx hch
        have hsz := pz_suf n r
        generalize hR : pz n r = R at hsz ⊢
        have HR := Lib.hid hR
        clear hR hcb hch hcc e hsuf
        go_enter Tryz.func234, Tryz.ntmps234
        go_wp2_with (go_at_call 239; refine hC.mono ?_; rintro e w1 ⟨rfl, hps1, hb1⟩)
        go_wp2_with (fail)
        refine (HIH.out r S _ hps1 (by omega) (by omega)).mono ?_
        rw [HR.out]
        rcases hsz with ⟨f, r', rfl, hf1, hf2, hf3, hf4⟩ | ⟨r', rfl, hf3⟩
        · rintro e w2 ⟨hb2, rfl, hps2⟩
          obtain ⟨A2, c2, hc22, hown2⟩ := hps2.c2
          have hLN : (S ++ f).length = S.length + f.length := List.length_append
          obtain ⟨g, cap, hv2, hg1, hg2⟩ := hown2.form (by omega)
          have hA : A2 = some ⟨g, 0, none⟩ ∧ c2 = cap := by injection hv2 with a b c'; exact ⟨a, c'⟩
          obtain ⟨rfl, rfl⟩ := hA
          have hcap := (own_cap hown2).1
          rw [hLN] at hc22 hown2 hcap
          have HO2 := Lib.hid hown2
          have HP2 := Lib.hid hps2
          have HB2 := Lib.hid (hb1.trans hb2)
          have hf2' := hps2.f2
          have hne : ¬ c2 = S.length := by omega
          clear hown2 hps2 hb1 hb2 hv2 hps1
          have HD := Lib.hid (dualise_any B g S.length (S.length + f.length) c2 f.length (c2 - S.length) (S ++ f) w2 HO2.out rfl (by omega) (by omega) (fun x hx => hf4 x (by simpa using hx)) HP2.out.dual (by have := HP2.out.glob.2; have := HP2.out.lt; omega))
          go_wp2_with (fail)
          refine HD.out.mono ?_
          rintro e w3 ⟨rfl, o3, gr3⟩
          have e3 : (S ++ f).take S.length ++ ((S ++ f).drop S.length).map duZ = S ++ f.map duZ := by simp
          have l3 : (S ++ f.map duZ).length = S.length + f.length := by simp
          rw [e3, ← l3] at o3
          rw [← l3] at hc22
          have bel3 : Below B w2 w3 := (Below.refl B w2).grown gr3 HP2.out.size (fun k hk => by injection hk with hk; omega)
          have HP3 := Lib.hid (HP2.out.turn bel3 ⟨_, _, hc22, o3⟩)
          have HB3 := Lib.hid (HB2.out.trans (But.of_below bel3))
          clear o3 gr3 bel3 e3 l3
          go_wp2
          go_end0
          exact ⟨HB3.out, rfl, HP3.out⟩
        · rintro e w2 ⟨hb2, rfl⟩
          go_wp2
          exact ⟨rfl, hb1.trans hb2, rfl⟩
      · by_cases h40 : c = 40
        · subst h40
          have e : pz (n + 1) xs = pairP n r := by rw [pz, hx]; rfl
          rw [e]
          have hC := oneOf_ok s startsB B pb xs S 40 r w h hx hch
          generalize hR : pairP n r = R
          have HR := Lib.hid hR
          clear hR hcb hch hcc e hsuf h126
          go_enter Tryz.func234, Tryz.ntmps234
          go_wp2_with (go_at_call 239; refine hC.mono ?_; rintro e w1 ⟨rfl, hps1, hb1⟩)
          go_wp2_with (fail)
          refine (HPR.out r S _ hps1 (by omega) (by omega)).mono ?_
          rw [HR.out]
          have HB1 := Lib.hid hb1
          clear hb1 hps1 hC h hc2
          cases R with
          | ok f r' =>
            rintro e w2 ⟨hb2, rfl, hps2⟩
            have HB2 := Lib.hid (HB1.out.trans hb2)
            have HP2 := Lib.hid hps2
            clear hb2 hps2
            go_wp2
            go_end0
            exact ⟨HB2.out, rfl, HP2.out⟩
          | no r' =>
            rintro e w2 ⟨hb2, rfl⟩
            go_wp2
            exact ⟨rfl, HB1.out.trans hb2, rfl⟩
        · by_cases hexp : c = 33 ∨ c = 63
          · have e : pz (n + 1) xs = (match pz n r with
              | .ok f r' => .ok (syZ c :: f) r'
              | .no r' => .no r') := by
              rw [pz, hx]
              rcases hexp with rfl | rfl <;> rfl
            rw [e]
            exact formula_exp s B pb n xs S c r w h HIH.out hx hcb (by omega) (by omega) hexp
          · have e : pz (n + 1) xs = .ok [syZ c] r := by
              rw [pz, hx]
              show (if c = 126 then _ else _) = _
              rw [if_neg h126, if_neg hexp]
              unfold syZ
              by_cases hat : 65 ≤ c ∧ c ≤ 72
              · rw [if_pos hat, if_pos hat]
              · rw [if_neg hat, if_neg hat]
                have : c = 49 ∨ c = 95 := by omega
                rcases this with rfl | rfl <;> rfl
            rw [e]
            exact formula_leaf s B pb xs S c r w h hx hcb (by omega) (by omega)
    · have hch' : chB startsB c = false := by simpa using hch
      have e : pz (n + 1) xs = .no (c :: r) := by
        rw [ch_start c hcb.1 hcb.2] at hch'
        simp only [Bool.or_eq_false_iff, Bool.and_eq_false_iff, beq_eq_false_iff_ne, decide_eq_false_iff_not] at hch'
        rw [pz, hx]
        show (if c = 126 then _ else _) = _
        rw [if_neg (by omega), if_neg (by omega), if_neg (by omega), if_neg (by omega), if_neg (by omega), if_neg (by omega)]
      rw [e]
      have hC := oneOf_no s startsB B pb xs S c r w h hx hch'
      clear hcb hch hch' e hsuf hrl
      go_enter Tryz.func234, Tryz.ntmps234
      go_wp2_with (go_at_call 239; refine hC.mono ?_; rintro e w' ⟨rfl, hb⟩)
      exact ⟨rfl, hb, rfl⟩

theorem own_put {w : World} {B g N c : Nat} {S T : List Int} {z y : Int} (h : w.ownsRow B 2 1 (.slice (some ⟨g, 0, none⟩) N c) N ((S ++ [z] ++ T).map (Value.int .i64))) (hg : B ≤ g) (hs : B ≤ w.heap.size) :
    (w.setCell ⟨g, S.length, none⟩ (.int .i64 y)).ownsRow B 2 1 (.slice (some ⟨g, 0, none⟩) N c) N ((S ++ [y] ++ T).map (Value.int .i64)) ∧ Below B w (w.setCell ⟨g, S.length, none⟩ (.int .i64 y)) ∧
    w.cell? ⟨g, S.length, none⟩ = some (.int .i64 z) ∧ w.frozen? ⟨g, S.length, none⟩ = false := by
  have hl : (S ++ [z] ++ T).length = N := by have := h.1; simpa using this
  have hst := h.stored S.length (.int .i64 y)
  have hset : ((S ++ [z] ++ T).map (Value.int .i64)).set S.length (.int .i64 y) = (S ++ [y] ++ T).map (Value.int .i64) := by
    rw [← List.map_set]; congr 1
    rw [List.append_assoc, List.set_append_right _ _ (Nat.le_refl _), Nat.sub_self, List.append_assoc]; rfl
  rw [hset] at hst
  refine ⟨hst.1, (Below.refl B w).grown hst.2 hs (fun k hk => by injection hk with hk; omega), ?_, h.frozenAt _⟩
  rw [h.cellAt S.length (by simp at hl; omega)]
  simp

theorem PS.drew {s : ByteArray} {B pb : Nat} {w : World} {xs S : List Int} (h : PS s B pb w xs S) : PS s B pb w.drew xs S :=
  ⟨h.lt, h.size, h.glob, h.arit, h.dual, h.suf, h.c0, h.c1, h.f1, h.f2, h.c2, h.big⟩
theorem opP_nil {xs : List Int} (h : skS xs = []) : opP xs = .no [] := by unfold opP; rw [h]
theorem opP_other {xs r : List Int} {c : Int} (h : skS xs = c :: r) (h0 : 0 ≤ c ∧ c ≤ 255) (hc : chB pairsB c = false) : opP xs = .no (c :: r) := by
  rw [ch_pair c h0.1 h0.2] at hc
  simp only [Bool.or_eq_false_iff, beq_eq_false_iff_ne] at hc
  unfold opP
  rw [h]
  show (if c = 42 then _ else _) = _
  rw [if_neg (by omega), if_neg (by omega), if_neg (by omega), if_neg (by omega), if_neg (by omega)]
theorem opP_sign {xs r : List Int} {c : Int} (h : skS xs = c :: r) (hc : c = 42 ∨ c = 124 ∨ c = 43 ∨ c = 38) : opP xs = .ok [syZ c] r := by
  unfold opP
  rw [h]
  rcases hc with rfl | rfl | rfl | rfl <;> rfl
theorem opP_dash {xs r : List Int} (h : skS xs = 45 :: 62 :: r) : opP xs = .ok [-1] r := by unfold opP; rw [h]; rfl
theorem opP_dashEnd {xs : List Int} (h : skS xs = [45]) : opP xs = .no [] := by unfold opP; rw [h]; rfl
theorem opP_dashNo {xs r : List Int} {c : Int} (h : skS xs = 45 :: c :: r) (hc : c ≠ 62) : opP xs = .no (c :: r) := by
  unfold opP; rw [h]
  show (match c :: r with | 62 :: r' => PR.ok [-1] r' | r => PR.no r) = _
  split
  · rename_i h'; injection h' with h1 h2; exact absurd h1 hc
  · rfl
theorem endP_nil {op : Int} {a b xs : List Int} (h : skS xs = []) : endP op a b xs = .no [] := by unfold endP; rw [h]
theorem endP_yes {op : Int} {a b xs r : List Int} (h : skS xs = 41 :: r) : endP op a b xs = .ok (putP op a b) r := by unfold endP; rw [h]; rfl
theorem endP_other {op : Int} {a b xs r : List Int} {c : Int} (h : skS xs = c :: r) (hc : c ≠ 41) : endP op a b xs = .no (c :: r) := by
  unfold endP; rw [h]
  split
  · rename_i h'; injection h' with h1 h2; exact absurd h1 hc
  · rfl

theorem pairP_no {n : Nat} {xs r : List Int} (h : pz n xs = .no r) : pairP n xs = .no r := by unfold pairP; rw [h]
theorem pairP_op {n : Nat} {xs a r1 r : List Int} (h : pz n xs = .ok a r1) (h1 : opP r1 = .no r) : pairP n xs = .no r := by unfold pairP; rw [h]; simp only [h1]
theorem pairP_no2 {n : Nat} {xs a r1 r2 r o : List Int} (h : pz n xs = .ok a r1) (h1 : opP r1 = .ok o r2) (h2 : pz n r2 = .no r) : pairP n xs = .no r := by unfold pairP; rw [h]; simp only [h1, h2]
theorem pairP_end {n : Nat} {xs a r1 r2 b r3 : List Int} {op : Int} (h : pz n xs = .ok a r1) (h1 : opP r1 = .ok [op] r2) (h2 : pz n r2 = .ok b r3) : pairP n xs = endP op a b r3 := by unfold pairP; rw [h]; simp only [h1, h2]; rfl
theorem Parsed.mkno {s : ByteArray} {B pb : Nat} {S r : List Int} {w w' : World} {RES : PR} (h : RES = .no r) (hb : But B pb w w') : Parsed s B pb S w RES (.panicked (misV s r)) w' := by subst h; exact ⟨hb, rfl⟩
theorem Parsed.mkok {s : ByteArray} {B pb : Nat} {S f r : List Int} {w w' : World} {RES : PR} (h : RES = .ok f r) (hb : But B pb w w') (hp : PS s B pb w' r (S ++ f)) : Parsed s B pb S w RES (.returned (.tuple #[])) w' := by subst h; exact ⟨hb, rfl, hp⟩

/-- The byte behind the spaces. -/
theorem head_byte {s : ByteArray} {xs r : List Int} {c : Int} (h : xs <:+ bl s) (hx : skS xs = c :: r) : (0 ≤ c ∧ c ≤ 255) ∧ r.length < xs.length ∧ r <:+ xs := by
  have hsuf : (c :: r) <:+ xs := hx ▸ skS_suf xs
  have hrl := hsuf.length_le
  rw [List.length_cons] at hrl
  exact ⟨bl_byte s c ((hsuf.trans h).subset (by simp)), by omega, (List.suffix_cons c r).trans hsuf⟩

set_option maxRecDepth 100000 in
set_option maxHeartbeats 8000000 in
theorem pair_step (s : ByteArray) (B pb n : Nat) (ih : FormOk s B pb n) : PairOk s B pb n := by
  intro xs S w h hn hbig
  obtain ⟨i0, hi0, hz0, hz1, hz2⟩ := info_parts info_i64
  have HI := Lib.hid hi0; have HZ0 := Lib.hid hz0; have HZ1 := Lib.hid hz1; have HZ2 := Lib.hid hz2
  have HIH := Lib.hid ih
  obtain ⟨A0, c0, hc2, hown⟩ := h.c2
  have HP1 := Lib.hid h; have HO := Lib.hid hown
  have hSl : S.length ≤ 1000 := by omega
  have hsz := pz_suf n xs
  generalize hQ : pairP n xs = RES
  have HQ := Lib.hid hQ
  generalize hR : pz n xs = R at hsz
  have HR := Lib.hid hR
  clear hi0 hz0 hz1 hz2 ih h hown hR hQ
  go_enter Tryz.func240, Tryz.ntmps240
  go_wp2_with (at_builtin; refine wpList_append_own _ rfl _ _ 28 rfl B 2 i0 (.int .i64 0) 1 8 Tryz.underlying28 HI.out HZ0.out HZ1.out HZ2.out rfl (by decide) _ _ _ rfl (HO.out.alloc _) ⟨w.heap.size, 0, none⟩ 1 1 [.int .i64 0] rfl rfl ?c1 ?c2 ?c3 ?c4 ?c5 ?_)
  case c1 => exact cell_one_new _ _ _
  case c2 => intro u hu; simp at hu; subst hu; rfl
  case c3 => unfold maxLen; omega
  case c4 => omega
  case c5 => have := HP1.out.size; simp; omega
  intro v' w1 hown' hgrow _
  obtain ⟨A2, c2, rfl, HP2, HB2, hc22, hf22⟩ := push_own_p HP1 HO hc2 hown' hgrow
  clear hown' hgrow hc2
  go_wp2_with (fail)
  refine (HIH.out xs (S ++ [0]) _ HP2.out hn (by simp; omega)).mono ?_
  rw [HR.out]
  rcases hsz with ⟨a, r1, rfl, ha1, ha2, ha3, ha4⟩ | ⟨r1, rfl, _⟩
  rotate_left
  · rintro e w3 ⟨hb3, rfl⟩
    have HB3 := Lib.hid (HB2.out.trans hb3)
    clear hb3
    go_wp2
    exact ⟨rfl, Parsed.mkno (by rw [← HQ.out]; exact pairP_no HR.out) HB3.out⟩
  rintro e w3 ⟨hb3, rfl, hps3⟩
  have HB3 := Lib.hid (HB2.out.trans hb3)
  have HP3 := Lib.hid hps3
  have hA4 := Lib.hid ha4
  clear hb3 hps3 hc22 hf22 ha4
  cases hx : skS r1 with
  | nil =>
    have HE : Hid (RES = .no []) := Lib.hid (by rw [← HQ.out]; exact pairP_op HR.out (opP_nil hx))
    have HC := Lib.hid (oneOf_end s pairsB B pb r1 _ _ HP3.out hx)
    clear hx
    go_wp2_with (go_at_call 239; refine HC.out.mono ?_; rintro e w' ⟨rfl, hb⟩)
    exact ⟨rfl, Parsed.mkno HE.out (HB3.out.trans hb)⟩
  | cons c r2 =>
    obtain ⟨hcb, hr2, hs2⟩ := head_byte HP3.out.suf hx
    cases hch : chB pairsB c with
    | false =>
      have HE : Hid (RES = .no (c :: r2)) := Lib.hid (by rw [← HQ.out]; exact pairP_op HR.out (opP_other hx hcb hch))
      have HC := Lib.hid (oneOf_no s pairsB B pb r1 _ c r2 _ HP3.out hx hch)
      clear hx hch hcb
      go_wp2_with (go_at_call 239; refine HC.out.mono ?_; rintro e w' ⟨rfl, hb⟩)
      exact ⟨rfl, Parsed.mkno HE.out (HB3.out.trans hb)⟩
    | true =>
      have HC := Lib.hid (oneOf_ok s pairsB B pb r1 _ c r2 _ HP3.out hx hch)
      rw [ch_pair c hcb.1 hcb.2] at hch
      simp only [Bool.or_eq_true, beq_iff_eq] at hch
      by_cases h45 : c = 45
      · subst h45
        cases r2 with
        | nil =>
          have HE : Hid (RES = .no []) := Lib.hid (by rw [← HQ.out]; exact pairP_op HR.out (opP_dashEnd hx))
          clear hx hch hcb
          go_wp2_with (fail)
          refine HC.out.mono ?_
          rintro e w4 ⟨rfl, hps4, hb4⟩
          have HB4 := Lib.hid (HB3.out.trans hb4)
          have HD := Lib.hid (arrowHead_end s B pb _ _ hps4)
          clear hb4 hps4
          go_wp2_with (go_at_call 242; refine HD.out.mono ?_; rintro e w' ⟨rfl, hb⟩)
          exact ⟨rfl, Parsed.mkno HE.out (HB4.out.trans hb)⟩
        | cons d r2 =>
          by_cases h62 : d = 62
          · subst h62
            have HOP : Hid (opP r1 = .ok [-1] r2) := Lib.hid (opP_dash hx)
            have hr22 : r2.length < n := by simp only [List.length_cons] at hr2; omega
            have hr2b : r2.length + 2 ≤ r1.length := by simp only [List.length_cons] at hr2; omega
            clear hx hch hcb hr2 hs2
            go_wp2_with (fail)
            refine HC.out.mono ?_
            rintro e w4 ⟨rfl, hps4, hb4⟩
            have HB4 := Lib.hid (HB3.out.trans hb4)
            have HD := Lib.hid (arrowHead_ok s B pb r2 _ _ hps4)
            clear hb4 hps4
            go_wp2_with (fail)
            refine HD.out.mono ?_
            rintro e w5 ⟨rfl, hps5, hb5⟩
            have HB5 := Lib.hid (HB4.out.trans hb5)
            have HP5 := Lib.hid hps5
            obtain ⟨A5, c5, hc52, hown5⟩ := hps5.c2
            have hLN : (S ++ [0] ++ a).length = S.length + 1 + a.length := by simp; omega
            obtain ⟨g, cap, hv5, hg1, hg2⟩ := hown5.form (by omega)
            have hA : A5 = some ⟨g, 0, none⟩ ∧ c5 = cap := by injection hv5 with a b c'; exact ⟨a, c'⟩
            obtain ⟨rfl, rfl⟩ := hA
            have hcap := (own_cap hown5).1
            rw [hLN] at hc52 hown5 hcap
            have HO5 := Lib.hid hown5
            have hf52 := hps5.f2
            have hne : ¬ c5 = S.length + 1 := by omega
            clear hown5 hps5 hb5 hv5 hf52
            have HDu := Lib.hid (dualise_any B g (S.length + 1) (S.length + 1 + a.length) c5 a.length (c5 - (S.length + 1)) (S ++ [0] ++ a) w5 HO5.out rfl (by omega) (by omega) (fun x hx => hA4.out x (by
              have e : (S ++ [0] ++ a).drop (S.length + 1) = a := List.drop_left' (by simp)
              rw [e] at hx; exact hx)) HP5.out.dual (by have := HP5.out.glob.2; have := HP5.out.lt; omega))
            go_wp2_with (fail)
            refine HDu.out.mono ?_
            rintro e w6 ⟨rfl, o6, gr6⟩
            have e6 : (S ++ [0] ++ a).take (S.length + 1) ++ ((S ++ [0] ++ a).drop (S.length + 1)).map duZ = S ++ [0] ++ a.map duZ := by
              rw [List.take_left' (by simp), List.drop_left' (by simp)]
            have l6 : (S ++ [0] ++ a.map duZ).length = S.length + 1 + a.length := by simp; omega
            have l7 : (S ++ [12] ++ a.map duZ).length = S.length + 1 + a.length := by simp; omega
            rw [e6] at o6
            have bel6 : Below B w5 w6 := (Below.refl B w5).grown gr6 HP5.out.size (fun k hk => by injection hk with hk; omega)
            have hs6 : B ≤ w6.heap.size := Nat.le_trans HP5.out.size bel6.size
            obtain ⟨o7, bel7, hcz, hfz⟩ := own_put (y := 12) o6 hg1 hs6
            have hP6 := HP5.out.turn bel6 ⟨_, _, by rw [l6]; exact hc52, by rw [l6]; exact o6⟩
            have hc62 : w6.cell? ⟨pb, 2, none⟩ = some (.slice (some ⟨g, 0, none⟩) (S.length + 1 + a.length) c5) := (bel6.cell (p := ⟨pb, 2, none⟩) HP5.out.lt).trans hc52
            have HP7 := Lib.hid (hP6.turn bel7 ⟨_, _, by rw [l7]; exact hc62, by rw [l7]; exact o7⟩)
            have HB7 := Lib.hid ((HB5.out.trans (But.of_below bel6)).trans (But.of_below bel7))
            have HLM : Hid (S.length + 1 + a.length = S.length + 1 + a.length) := Lib.hid rfl
            clear o6 gr6 bel6 o7 bel7 hP6 e6 l6 l7 hs6 hc52
            go_wp2_with (fail)
            have hsz2 := pz_suf n r2
            generalize hR2 : pz n r2 = R2 at hsz2
            have HR2 := Lib.hid hR2
            clear hR2
            refine (HIH.out r2 (S ++ [12] ++ a.map duZ) _ HP7.out hr22 (by simp; omega)).mono ?_
            rw [HR2.out]
            rcases hsz2 with ⟨b, r3, rfl, hb1, hb2, hb3', hb4⟩ | ⟨r3, rfl, _⟩
            rotate_left
            · rintro e w8 ⟨hb8, rfl⟩
              have HB8 := Lib.hid (HB7.out.trans hb8)
              have HE : Hid (RES = .no r3) := Lib.hid (by rw [← HQ.out]; exact pairP_no2 HR.out HOP.out HR2.out)
              clear hb8
              go_wp2
              exact ⟨rfl, Parsed.mkno HE.out HB8.out⟩
            rintro e w8 ⟨hb8, rfl, hps8⟩
            have HB8 := Lib.hid (HB7.out.trans hb8)
            have HP8 := Lib.hid hps8
            have HEND : Hid (RES = endP (-1) a b r3) := Lib.hid (by rw [← HQ.out]; exact pairP_end HR.out HOP.out HR2.out)
            have HPUT : Hid (S ++ [12] ++ a.map duZ ++ b = S ++ putP (-1) a b) := Lib.hid (by simp [putP])
            clear hb8 hps8 hb4
            cases hx3 : skS r3 with
            | nil =>
              have HE : Hid (RES = .no []) := Lib.hid (HEND.out.trans (endP_nil hx3))
              have HL := Lib.hid (oneOf_end s lastB B pb r3 _ _ HP8.out hx3)
              clear hx3
              go_wp2_with (go_at_call 239; refine HL.out.mono ?_; rintro e w' ⟨rfl, hb⟩)
              exact ⟨rfl, Parsed.mkno HE.out (HB8.out.trans hb)⟩
            | cons c3 r4 =>
              obtain ⟨hcb3, hr4, hs4⟩ := head_byte HP8.out.suf hx3
              by_cases h41 : c3 = 41
              · subst h41
                have HE : Hid (RES = .ok (putP (-1) a b) r4) := Lib.hid (HEND.out.trans (endP_yes hx3))
                have HL := Lib.hid (oneOf_ok s lastB B pb r3 _ 41 r4 _ HP8.out hx3 (by rw [ch_last 41 (by omega) (by omega)]; rfl))
                clear hx3 hs4
                go_wp2_with (fail)
                refine HL.out.mono ?_
                rintro e w9 ⟨rfl, hps9, hb9⟩
                rw [HPUT.out] at hps9
                have HP9 := Lib.hid hps9
                have HB9 := Lib.hid (HB8.out.trans hb9)
                clear hps9 hb9
                go_wp2
                go_end0
                exact Parsed.mkok HE.out HB9.out HP9.out
              · have HE : Hid (RES = .no (c3 :: r4)) := Lib.hid (HEND.out.trans (endP_other hx3 h41))
                have HL := Lib.hid (oneOf_no s lastB B pb r3 _ c3 r4 _ HP8.out hx3 (by rw [ch_last c3 hcb3.1 hcb3.2]; simpa using h41))
                clear hx3 hs4
                go_wp2_with (go_at_call 239; refine HL.out.mono ?_; rintro e w' ⟨rfl, hb⟩)
                exact ⟨rfl, Parsed.mkno HE.out (HB8.out.trans hb)⟩
          · have HE : Hid (RES = .no (d :: r2)) := Lib.hid (by rw [← HQ.out]; exact pairP_op HR.out (opP_dashNo hx h62))
            clear hx hch hcb
            go_wp2_with (fail)
            refine HC.out.mono ?_
            rintro e w4 ⟨rfl, hps4, hb4⟩
            have HB4 := Lib.hid (HB3.out.trans hb4)
            have HD := Lib.hid (arrowHead_no s B pb d r2 _ _ hps4 h62)
            clear hb4 hps4
            go_wp2_with (go_at_call 242; refine HD.out.mono ?_; rintro e w' ⟨rfl, hb⟩)
            exact ⟨rfl, Parsed.mkno HE.out (HB4.out.trans hb)⟩
      · have hc4 : c = 42 ∨ c = 124 ∨ c = 43 ∨ c = 38 := by omega
        have HOP : Hid (opP r1 = .ok [syZ c] r2) := Lib.hid (opP_sign hx hc4)
        have hr22 : r2.length < n := by omega
        have hr2b : r2.length + 1 ≤ r1.length := by omega
        have HSY := Lib.hid (fun w => symbolOf_any c w (by omega))
        have hop : 11 ≤ syZ c ∧ syZ c ≤ 16 := by rcases hc4 with rfl | rfl | rfl | rfl <;> decide
        have h45' : (c == 45) = false := by simpa using h45
        generalize syZ c = op at HSY hop HOP
        clear hx hch hcb hr2 hs2 hc4 h45
        go_wp2_with (fail)
        refine HC.out.mono ?_
        rintro e w5 ⟨rfl, hps5, hb5⟩
        have HB5 := Lib.hid (HB3.out.trans hb5)
        have HP5 := Lib.hid hps5
        obtain ⟨A5, c5, hc52, hown5⟩ := hps5.c2
        have hLN : (S ++ [0] ++ a).length = S.length + 1 + a.length := by simp; omega
        obtain ⟨g, cap, hv5, hg1, hg2⟩ := hown5.form (by omega)
        have hA : A5 = some ⟨g, 0, none⟩ ∧ c5 = cap := by injection hv5 with a b c'; exact ⟨a, c'⟩
        obtain ⟨rfl, rfl⟩ := hA
        rw [hLN] at hc52 hown5
        have l7 : (S ++ [op] ++ a).length = S.length + 1 + a.length := by simp; omega
        obtain ⟨o7, bel7, hcz, hfz⟩ := own_put (y := op) hown5 hg1 hps5.size
        have HP7 := Lib.hid (hps5.turn bel7 ⟨_, _, by rw [l7]; exact hc52, by rw [l7]; exact o7⟩)
        have HB7 := Lib.hid (HB5.out.trans (But.of_below bel7))
        clear o7 bel7 hps5 hb5 hv5 hown5 l7
        go_wp2
        go_region_with (go_at_call 241; refine (HSY.out _).mono ?_; rintro e w' ⟨rfl, rfl⟩)
        all_goals
          go_wp2_with (fail)
          have hsz2 := pz_suf n r2
          generalize hR2 : pz n r2 = R2 at hsz2
          have HR2 := Lib.hid hR2
          clear hR2
          refine (HIH.out r2 (S ++ [op] ++ a) _ (PS.drew HP7.out) hr22 (by simp; omega)).mono ?_
          rw [HR2.out]
          rcases hsz2 with ⟨b, r3, rfl, hb1, hb2, hb3', hb4⟩ | ⟨r3, rfl, _⟩
          rotate_left
          · rintro e w8 ⟨hb8, rfl⟩
            have HB8 := Lib.hid ((But.drew HB7.out).trans hb8)
            have HE : Hid (RES = .no r3) := Lib.hid (by rw [← HQ.out]; exact pairP_no2 HR.out HOP.out HR2.out)
            clear hb8
            go_wp2
            exact ⟨rfl, Parsed.mkno HE.out HB8.out⟩
          rintro e w8 ⟨hb8, rfl, hps8⟩
          have HB8 := Lib.hid ((But.drew HB7.out).trans hb8)
          have HP8 := Lib.hid hps8
          have HEND : Hid (RES = endP op a b r3) := Lib.hid (by rw [← HQ.out]; exact pairP_end HR.out HOP.out HR2.out)
          have HPUT : Hid (S ++ [op] ++ a ++ b = S ++ putP op a b) := Lib.hid (by unfold putP; rw [if_neg (by omega)]; simp)
          clear hb8 hps8 hb4
          cases hx3 : skS r3 with
          | nil =>
            have HE : Hid (RES = .no []) := Lib.hid (HEND.out.trans (endP_nil hx3))
            have HL := Lib.hid (oneOf_end s lastB B pb r3 _ _ HP8.out hx3)
            clear hx3
            go_wp2_with (go_at_call 239; refine HL.out.mono ?_; rintro e w' ⟨rfl, hb⟩)
            exact ⟨rfl, Parsed.mkno HE.out (HB8.out.trans hb)⟩
          | cons c3 r4 =>
            obtain ⟨hcb3, hr4, hs4⟩ := head_byte HP8.out.suf hx3
            by_cases h41 : c3 = 41
            · subst h41
              have HE : Hid (RES = .ok (putP op a b) r4) := Lib.hid (HEND.out.trans (endP_yes hx3))
              have HL := Lib.hid (oneOf_ok s lastB B pb r3 _ 41 r4 _ HP8.out hx3 (by rw [ch_last 41 (by omega) (by omega)]; rfl))
              clear hx3 hs4
              go_wp2_with (fail)
              refine HL.out.mono ?_
              rintro e w9 ⟨rfl, hps9, hb9⟩
              rw [HPUT.out] at hps9
              have HP9 := Lib.hid hps9
              have HB9 := Lib.hid (HB8.out.trans hb9)
              clear hps9 hb9
              go_wp2
              go_end0
              exact Parsed.mkok HE.out HB9.out HP9.out
            · have HE : Hid (RES = .no (c3 :: r4)) := Lib.hid (HEND.out.trans (endP_other hx3 h41))
              have HL := Lib.hid (oneOf_no s lastB B pb r3 _ c3 r4 _ HP8.out hx3 (by rw [ch_last c3 hcb3.1 hcb3.2]; simpa using h41))
              clear hx3 hs4
              go_wp2_with (go_at_call 239; refine HL.out.mono ?_; rintro e w' ⟨rfl, hb⟩)
              exact ⟨rfl, Parsed.mkno HE.out (HB8.out.trans hb)⟩
/-- The parser reads a formula as 'pz' does. -/
theorem formula_any (s : ByteArray) (B pb : Nat) : ∀ n, FormOk s B pb n
  | 0 => fun xs S w _ hn _ => absurd hn (by omega)
  | n + 1 => formula_step s B pb n (formula_any s B pb n) (pair_step s B pb n (formula_any s B pb n))

theorem assert_mis (k : Int) (w : World) : (Instr.typeAssert (.iface 279 (.int .i64 k)) 20 279 true).run Tryz.prog w = .ok (.tuple #[.int .i64 k, .bool true]) w := by
  simp [Instr.typeAssert, run_underlying Tryz.underlying279, go_sem]
theorem info_mis : (Tryz.prog.info? 279).map (·.zero) = some (some (.int .i64 0)) := by kernel_rfl
theorem assert_nil (w : World) : (Instr.typeAssert .nilIface 20 279 true).run Tryz.prog w = .ok (.tuple #[.int .i64 0, .bool false]) w := by
  obtain ⟨j, hj, hz⟩ := Option.map_eq_some_iff.1 info_mis
  simp [Instr.typeAssert, run_underlying Tryz.underlying279, zeroValue, hj, hz, typeInfo, go_sem]

set_option maxRecDepth 100000 in
theorem catch_mis (p : Addr) (x k : Int) (older : List PanicEntry) (w : World) (hc : w.cell? p = some (.int .i64 x)) (hz : w.frozen? p = false) :
    CallsD Tryz.prog 233 #[.pointer (some p)] (.panicking ({ v := .iface 279 (.int .i64 k), recovered := false } :: older)) w fun e u' w' =>
      e = .returned (.tuple #[]) ∧ u' = .panicking ({ v := .iface 279 (.int .i64 k), recovered := true } :: older) ∧ w' = w.setCell p (.int .i64 k) := by
  refine callsD_of_wpS Tryz.func233 rfl fun c₀ cs hu => ?_
  apply wpS_seq
  apply wpS_region
  simp [wpOpsS, go_sem, recoverD, hu, Tryz.ntmps233, Exit.thenS, assert_mis]
  apply wpS_seq
  apply wpS_region
  simp [wpOpsS, go_sem, Exit.thenS]
  refine wpS_cond (t := true) (by simp [Act.eval, Array.replicate]) ?_
  simp only [if_true]
  apply wpS_region
  simp [wpOpsS, go_sem, hc, hz, bodyPostS, results, Tryz.results233]

set_option maxRecDepth 100000 in
theorem catch_idle (p : Addr) (w : World) :
    CallsD Tryz.prog 233 #[.pointer (some p)] .returning w fun e u' w' => e = .returned (.tuple #[]) ∧ u' = .returning ∧ w' = w := by
  refine callsD_of_wpS Tryz.func233 rfl fun c₀ cs hu => ?_
  apply wpS_seq
  apply wpS_region
  simp [wpOpsS, go_sem, recoverD, hu, Tryz.ntmps233, Exit.thenS, assert_nil]
  apply wpS_seq
  apply wpS_region
  simp [wpOpsS, go_sem, Exit.thenS]
  refine wpS_cond (t := false) (by simp [Act.eval, Array.replicate]) ?_
  simp only [Bool.false_eq_true, if_false]
  refine wpS_of_wp (wp_skip ?_)
  cases c₀
  simp_all [bodyPostS, results, Tryz.results233]

/-- What the reading of a whole text leaves: -1 and the symbols in the parser's field; or the index of the byte that does not fit. -/
def WholeZ (L : List Int) : Int := match pz (L.length + 1) L with
  | .no r => ((L.length - r.length : Nat) : Int)
  | .ok _ r => match skS r with
    | [] => -1
    | r' => ((L.length - r'.length : Nat) : Int)
def Wholed (s : ByteArray) (B pb : Nat) (w : World) (e : Ending) (w' : World) : Prop :=
  e = .returned (.int .i64 (WholeZ (bl s))) ∧ But B pb w w' ∧ (WholeZ (bl s) = -1 → ∃ f r A c, pz ((bl s).length + 1) (bl s) = .ok f r ∧ skS r = [] ∧ w'.cell? ⟨pb, 2, none⟩ = some (.slice A f.length c) ∧ w'.ownsRow B 2 1 (.slice A f.length c) f.length (f.map (Value.int .i64)))

theorem But.mono {B B' pb : Nat} {w w' : World} (h : But B pb w w') (hB : B' ≤ B) : But B' pb w w' := ⟨h.os, h.tape, h.output, h.size, fun k hk hn => h.block k (by omega) hn⟩
theorem wholeZ_no {L r : List Int} (h : pz (L.length + 1) L = .no r) : WholeZ L = ((L.length - r.length : Nat) : Int) := by unfold WholeZ; rw [h]
theorem wholeZ_ok {L f r : List Int} (h : pz (L.length + 1) L = .ok f r) (h' : skS r = []) : WholeZ L = -1 := by unfold WholeZ; rw [h]; simp only [h']
theorem wholeZ_more {L f r r' : List Int} {c : Int} (h : pz (L.length + 1) L = .ok f r) (h' : skS r = c :: r') : WholeZ L = ((L.length - (c :: r').length : Nat) : Int) := by unfold WholeZ; rw [h]; simp only [h']

/-- The world in which the named result has its variable. -/
theorem whole_start {s : ByteArray} {pb : Nat} {w : World} (h : PS s w.heap.size pb w (bl s) []) (hnil : w.cell? ⟨pb, 2, none⟩ = some (.slice none 0 0)) (o : Obj) : PS s (w.heap.size + 1) pb (w.alloc o) (bl s) [] ∧ But w.heap.size pb w (w.alloc o) := by
  have hb : Below w.heap.size w (w.alloc o) := (Below.refl _ _).alloc (Nat.le_refl _) o
  have hlt := h.lt
  refine ⟨⟨by omega, by simp, h.glob, h.arit.below hb (by have := h.glob.1; omega), h.dual.below hb (by have := h.glob.2; omega), h.suf, (hb.cell (p := ⟨pb, 0, none⟩) hlt).trans h.c0, (hb.cell (p := ⟨pb, 1, none⟩) hlt).trans h.c1,
    (hb.frozen (p := ⟨pb, 1, none⟩) hlt).trans h.f1, (hb.frozen (p := ⟨pb, 2, none⟩) hlt).trans h.f2, ⟨none, 0, (hb.cell (p := ⟨pb, 2, none⟩) hlt).trans hnil, World.ownsRow_nil _ _ _ _⟩, h.big⟩, But.of_below hb⟩

set_option maxRecDepth 100000 in
set_option maxHeartbeats 2000000 in
theorem whole_any (s : ByteArray) (pb : Nat) (w : World) (h : PS s w.heap.size pb w (bl s) []) (hnil : w.cell? ⟨pb, 2, none⟩ = some (.slice none 0 0)) (hs : s.size ≤ 200) :
    Calls Tryz.prog 220 #[.pointer (some ⟨pb, 0, none⟩)] w (Wholed s w.heap.size pb w) := by
  have hmf : ∀ (fn : Fn) (first cap : Array Value) (w : World), (Instr.makeFunc fn first cap).run Tryz.prog w = .ok (.func fn first cap) w := fun _ _ _ _ => rfl
  have hst := whole_start h hnil (.cells #[.int .i64 0] 2)
  have hq0 : (w.alloc (.cells #[.int .i64 0] 2)).cell? ⟨w.heap.size, 0, none⟩ = some (.int .i64 0) := by simp
  have hf0 : (w.alloc (.cells #[.int .i64 0] 2)).frozen? ⟨w.heap.size, 0, none⟩ = false := by simp [go_sem]
  have hne : w.heap.size ≠ pb := by have := h.lt; omega
  have hF := Lib.hid (formula_any s (w.heap.size + 1) pb ((bl s).length + 1) (bl s) [] _ hst.1 (by omega) (by rw [bl_len]; simp; omega))
  have HST := Lib.hid hst.2
  have HQ0 := Lib.hid hq0; have HF0 := Lib.hid hf0
  have hsz := pz_suf ((bl s).length + 1) (bl s)
  generalize hR : pz ((bl s).length + 1) (bl s) = R at hsz
  have HR := Lib.hid hR
  clear h hnil hst hq0 hf0 hR
  go_enter_defers Tryz.func220, Tryz.ntmps220
  go_wp2_with (fail)
  refine hF.out.mono ?_
  rw [HR.out]
  rcases hsz with ⟨f, r, rfl, hf1, hf2, hf3, hf4⟩ | ⟨r, rfl, hr⟩
  rotate_left
  · rintro e w2 ⟨hb2, rfl⟩
    have hq2 := (hb2.cell (p := ⟨w.heap.size, 0, none⟩) (by simp) hne).trans HQ0.out
    have hf2 := (hb2.frozen (p := ⟨w.heap.size, 0, none⟩) (by simp) hne).trans HF0.out
    have HB2 := Lib.hid (HST.out.trans (hb2.mono (Nat.le_succ _)))
    have HZ := Lib.hid (wholeZ_no HR.out)
    clear hb2
    go_wp2
    refine leaves_cons (f := 233) (args := #[.pointer (some ⟨w.heap.size, 0, none⟩)]) (by simp) (by simp [go_sem]) ?_
    refine (catch_mis ⟨w.heap.size, 0, none⟩ 0 ((s.size - r.length : Nat) : Int) [] w2 hq2 hf2).mono ?_
    rintro e u' w'' ⟨rfl, rfl, rfl⟩
    simp [Leaves, settle, results, Tryz.results220, go_sem, hq2]
    exact ⟨by rw [HZ.out, bl_len], HB2.out.setCell (.inr (Nat.le_refl _)) _, fun hz => absurd hz (by rw [HZ.out]; omega)⟩
  · rintro e w2 ⟨hb2, rfl, hps2⟩
    have HB2 := Lib.hid (HST.out.trans (hb2.mono (Nat.le_succ _)))
    have HN2 := Lib.hid hb2
    have hS := skipSpaces_any s (w.heap.size + 1) pb r _ w2 hps2
    rw [List.nil_append] at hS
    clear hb2 hps2
    go_wp2_with (fail)
    refine hS.mono ?_
    rintro e w3 ⟨rfl, hps3, hb3⟩
    have hb23 := HN2.out.trans hb3
    have hq3 := (hb23.cell (p := ⟨w.heap.size, 0, none⟩) (by simp) hne).trans HQ0.out
    have hf3 := (hb23.frozen (p := ⟨w.heap.size, 0, none⟩) (by simp) hne).trans HF0.out
    have HB3 := Lib.hid (HB2.out.trans (hb3.mono (Nat.le_succ _)))
    have c0 := hps3.c0
    have c1 := hps3.c1
    have hbig := hps3.big
    clear hb23 hb3 hS
    cases hx : skS r with
    | nil =>
      rw [hx] at hps3 c1
      simp only [List.length_nil, Nat.sub_zero] at c1
      have HP3 := Lib.hid hps3
      have HX := Lib.hid hx
      have HZ := Lib.hid (wholeZ_ok HR.out hx)
      clear hps3 hx
      go_wp2
      go_quiet (fail)
      go_wp2
      refine leaves_cons (f := 233) (args := #[.pointer (some ⟨w.heap.size, 0, none⟩)]) (by simp) (by simp [go_sem]) ?_
      refine (catch_idle ⟨w.heap.size, 0, none⟩ _).mono ?_
      rintro e u' w'' ⟨rfl, rfl, rfl⟩
      simp [Leaves, settle, results, Tryz.results220, go_sem, hq3]
      obtain ⟨A, cp, hA1, hA2⟩ := HP3.out.c2
      refine ⟨by rw [HZ.out], (HB3.out.drewN _).setCell (.inr (Nat.le_refl _)) _, fun _ => ⟨f, r, A, cp, HR.out, HX.out, ?_, own_more (ownsRow_setCell_below (w := w3.drewN _) hA2 (Nat.lt_succ_self _) _) (Nat.le_succ _)⟩⟩
      rw [World.cell?_setCell_other _ _ _ _ (fun hh => hne (by injection hh))]
      exact hA1
    | cons c r' =>
      rw [hx] at hps3 c1
      have hle := hps3.suf.length_le
      rw [bl_len, List.length_cons] at hle
      simp only [List.length_cons] at c1
      have HP3 := Lib.hid hps3
      have HZ := Lib.hid (wholeZ_more HR.out hx)
      obtain ⟨p, hp⟩ : ∃ p : Nat, s.size - (r'.length + 1) = p := ⟨_, rfl⟩
      rw [hp] at c1
      have hplt : p < s.size := by omega
      have HPP := Lib.hid hp
      clear hps3 hx hle hp
      go_wp2
      go_quiet (fail)
      go_wp2_with (go_at_call 236; refine (stop_any s (w.heap.size + 1) pb (c :: r') _ _ (HP3.out.drewN _)).mono ?_; rintro e w' ⟨rfl, rfl⟩)
      refine leaves_cons (f := 233) (args := #[.pointer (some ⟨w.heap.size, 0, none⟩)]) (by simp) (by simp [go_sem]) ?_
      refine (catch_mis ⟨w.heap.size, 0, none⟩ 0 ((s.size - (c :: r').length : Nat) : Int) [] (w3.drewN _) (by simpa using hq3) (by simpa using hf3)).mono ?_
      rintro e u' w'' ⟨rfl, rfl, rfl⟩
      simp [Leaves, settle, results, Tryz.results220, go_sem, hq3]
      exact ⟨by rw [HZ.out, bl_len]; rfl, (HB3.out.drewN _).setCell (.inr (Nat.le_refl _)) _, fun hz => absurd hz (by rw [HZ.out]; omega)⟩

theorem pfL_no {L : List Int} (hL : L.length ≤ 200) (hz : WholeZ L ≠ -1) : pfL L = [] ∧ pfZ L = WholeZ L := by
  unfold pfL pfZ WholeZ at *
  rw [if_pos hL, if_pos hL]
  rcases pz_suf (L.length + 1) L with ⟨f, r, e, _, _, hs, _⟩ | ⟨r, e, hs⟩
  · rw [e] at hz ⊢
    simp only at hz ⊢
    cases hx : skS r with
    | nil => rw [hx] at hz; exact absurd rfl hz
    | cons c r' =>
      have := ((hx ▸ skS_suf r : (c :: r') <:+ r).trans hs).length_le
      exact ⟨rfl, by simp only; omega⟩
  · rw [e]
    have := hs.length_le
    exact ⟨rfl, by simp only; omega⟩
theorem pfL_ok {L f r : List Int} (hL : L.length ≤ 200) (h : pz (L.length + 1) L = .ok f r) (hx : skS r = []) : pfL L = (if f.length ≤ 24 then f else []) ∧ pfZ L = (if f.length ≤ 24 then -1 else (L.length : Int)) := by
  unfold pfL pfZ
  rw [if_pos hL, if_pos hL, h]
  simp only [hx, and_self]
theorem pfL_big {L : List Int} (hL : ¬ L.length ≤ 200) : pfL L = [] ∧ pfZ L = 0 := by
  unfold pfL pfZ
  rw [if_neg hL, if_neg hL]; exact ⟨rfl, rfl⟩
theorem pfL_len (L : List Int) : (pfL L).length ≤ 24 := by
  by_cases hL : L.length ≤ 200
  · by_cases hz : WholeZ L = -1
    · rcases pz_suf (L.length + 1) L with ⟨f, r, e, _⟩ | ⟨r, e, hs⟩
      · cases hx : skS r with
        | nil =>
          rw [(pfL_ok hL e hx).1]
          split
          · assumption
          · simp
        | cons c r' =>
          rw [wholeZ_more e hx] at hz; omega
      · rw [wholeZ_no e] at hz; omega
    · rw [(pfL_no hL hz).1]; simp
  · rw [(pfL_big hL).1]; simp

/-- What a function leaves that hands back a list in memory of its own and a number. -/
def GivesZ (w : World) (xs : List Int) (z : Int) (e : Ending) (w' : World) : Prop :=
  ∃ A c, e = .returned (.tuple #[.slice A xs.length c, .int .i64 z]) ∧ w'.ownsRow w.heap.size 2 1 (.slice A xs.length c) xs.length (xs.map (Value.int .i64)) ∧ Below w.heap.size w w'

/-- The parser as ParseForm makes it. -/
theorem parse_start (s : ByteArray) (w : World) (hs : s.size ≤ 1048576) (ht : Arit w) (hu : Dual w) :
    PS s (w.alloc (.cells #[.string s, .int .i64 0, .slice none 0 0] 259)).heap.size w.heap.size (w.alloc (.cells #[.string s, .int .i64 0, .slice none 0 0] 259)) (bl s) [] ∧
    But (w.alloc (.cells #[.string s, .int .i64 0, .slice none 0 0] 259)).heap.size w.heap.size w (w.alloc (.cells #[.string s, .int .i64 0, .slice none 0 0] 259)) := by
  have hb : Below w.heap.size w (w.alloc (.cells #[.string s, .int .i64 0, .slice none 0 0] 259)) := (Below.refl _ _).alloc (Nat.le_refl _) _
  have h0 : s.size - (bl s).length = 0 := by rw [bl_len]; omega
  refine ⟨⟨by simp, Nat.le_refl _, ⟨ht.lt, hu.lt⟩, ht.below hb ht.lt, hu.below hb hu.lt, List.suffix_refl _, by simp, by rw [h0]; simp, by simp [go_sem], by simp [go_sem], ⟨none, 0, by simp, World.ownsRow_nil _ _ _ _⟩, hs⟩, ?_⟩
  refine ⟨hb.os, hb.tape, hb.output, hb.size, fun k hk hn => hb.block k ?_⟩
  simp at hk
  omega

set_option maxRecDepth 100000 in
set_option maxHeartbeats 2000000 in
theorem parseForm_impl (s : ByteArray) (w : World) (hs : s.size ≤ 1048576) (ht : Arit w) (hu : Dual w) :
    Calls Tryz.prog 197 #[.string s] w (GivesZ w (pfL (bl s)) (pfZ (bl s))) := by
  by_cases h200 : s.size ≤ 200
  · have hd : decide (200 < (s.size : Int)) = false := decide_eq_false (by omega)
    obtain ⟨hps, hbu⟩ := parse_start s w (by omega) ht hu
    have HPS := Lib.hid hps; have HBU := Lib.hid hbu
    clear hps hbu ht hu
    go_enter Tryz.func197, Tryz.ntmps197
    go_wp2_with (fail)
    refine (whole_any s w.heap.size _ (by simpa using (HPS.out)) (by simp) h200).mono ?_
    have hmem : But (w.alloc (.cells #[.string s, .int .i64 0, .slice none 0 0] 259)).heap.size w.heap.size w (w.alloc (.cells #[.string s, .int .i64 0, .slice none 0 0] 259)) := HBU.out
    have HM := Lib.hid hmem
    clear hmem
    by_cases hz : WholeZ (bl s) = -1
    · rintro e w2 ⟨rfl, hb2, hrest⟩
      obtain ⟨f, r, A, c, hf, hr, hc2, hown⟩ := hrest hz
      obtain ⟨e1, e2⟩ := pfL_ok (L := bl s) (by rw [bl_len]; exact h200) hf hr
      rw [bl_len] at e2
      have HE1 := Lib.hid e1; have HE2 := Lib.hid e2
      have HB := Lib.hid ((HM.out.trans hb2).below (by simp))
      have hcap := (own_cap hown).1
      have HO := Lib.hid (own_more (base := w.heap.size) hown (by simp))
      rw [hz]
      have hfl : f.length ≤ 1000 := by
        rcases pz_suf ((bl s).length + 1) (bl s) with ⟨f', r', e', _, hl, _⟩ | ⟨r', e', _⟩
        · rw [hf] at e'; cases e'; rw [bl_len] at hl; omega
        · rw [hf] at e'; cases e'
      clear hb2 hrest hf hr e1 e2 hown hz HPS HBU
      by_cases h24 : f.length ≤ 24
      · have hd2 : decide (24 < (f.length : Int)) = false := decide_eq_false (by omega)
        have HL : Hid (pfL (bl s) = f) := Lib.hid (by rw [HE1.out, if_pos h24])
        have HZ : Hid (pfZ (bl s) = -1) := Lib.hid (by rw [HE2.out, if_pos h24])
        clear HE1 HE2
        go_wp2
        go_ret2
        refine ⟨A, c, ?_, by rw [HL.out]; exact HO.out, HB.out⟩
        rw [HL.out, HZ.out]; rfl
      · have hd2 : decide (24 < (f.length : Int)) = true := decide_eq_true (by omega)
        have HL : Hid (pfL (bl s) = []) := Lib.hid (by rw [HE1.out, if_neg h24])
        have HZ : Hid (pfZ (bl s) = (s.size : Int)) := Lib.hid (by rw [HE2.out, if_neg h24])
        clear HE1 HE2
        go_wp2
        go_ret2
        refine ⟨none, 0, ?_, by rw [HL.out]; exact World.ownsRow_nil _ _ _ _, HB.out⟩
        rw [HL.out, HZ.out]; rfl
    · rintro e w2 ⟨rfl, hb2, _⟩
      obtain ⟨e1, e2⟩ := pfL_no (L := bl s) (by rw [bl_len]; exact h200) hz
      have HL := Lib.hid e1; have HZ := Lib.hid e2
      have hz0 : 0 ≤ WholeZ (bl s) := by
        rcases pz_suf ((bl s).length + 1) (bl s) with ⟨f, r, e, _⟩ | ⟨r, e, _⟩
        · cases hx : skS r with
          | nil => exact absurd (wholeZ_ok e hx) hz
          | cons c r' => rw [wholeZ_more e hx]; omega
        · rw [wholeZ_no e]; omega
      have HB := Lib.hid ((HM.out.trans hb2).below (by simp))
      generalize WholeZ (bl s) = z at hz0 HZ ⊢
      have hd2 : decide (0 ≤ z) = true := decide_eq_true hz0
      clear hb2 e1 e2 HPS HBU hz0 hz
      go_wp2
      go_ret2
      refine ⟨none, 0, ?_, by rw [HL.out]; exact World.ownsRow_nil _ _ _ _, HB.out⟩
      rw [HL.out, HZ.out]; rfl
  · have hd : decide (200 < (s.size : Int)) = true := decide_eq_true (by omega)
    obtain ⟨e1, e2⟩ := pfL_big (L := bl s) (by rw [bl_len]; exact h200)
    rw [e1, e2]
    go_enter Tryz.func197, Tryz.ntmps197
    go_wp2
    go_ret2
    exact ⟨_, _, rfl, World.ownsRow_nil _ _ _ _, Below.refl _ _⟩
end Go.Proofs.YtjgmgaccmcepdaaGreatDoor
