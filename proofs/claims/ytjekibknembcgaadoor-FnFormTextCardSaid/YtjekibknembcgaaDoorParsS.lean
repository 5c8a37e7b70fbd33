/- The parser of the model: its state in memory; spaces, the next byte, the operator; the dual of any list of symbols. -/
import Derived.Test.YtjekibknembcgaaDoorWhole
import Derived.Test.YtjekibknembcgaaDoorJoinS
namespace Go.Proofs.YtjekibknembcgaaDoor
open Go.RowKit

/-- The model's parser: the index p, the first misfit bad (-1: none). -/
structure QS (s : ByteArray) (pb : Nat) (w : World) (p : Nat) (bad : Int) : Prop where
  lt : pb < w.heap.size
  c0 : w.cell? ⟨pb, 0, none⟩ = some (.string s)
  c1 : w.cell? ⟨pb, 1, none⟩ = some (.int .i64 (p : Int))
  c2 : w.cell? ⟨pb, 2, none⟩ = some (.int .i64 bad)
  f1 : w.frozen? ⟨pb, 1, none⟩ = false
  f2 : w.frozen? ⟨pb, 2, none⟩ = false
  big : s.size ≤ 1048576
  hp : p ≤ s.size + 1
section
variable {s : ByteArray} {pb : Nat} {w w' : World} {p : Nat} {bad : Int}
theorem QS.below (h : QS s pb w p bad) (hb : Below w.heap.size w w') : QS s pb w' p bad :=
  ⟨Nat.lt_of_lt_of_le h.lt hb.size, (hb.cell (p := ⟨pb, 0, none⟩) h.lt).trans h.c0, (hb.cell (p := ⟨pb, 1, none⟩) h.lt).trans h.c1, (hb.cell (p := ⟨pb, 2, none⟩) h.lt).trans h.c2,
    (hb.frozen (p := ⟨pb, 1, none⟩) h.lt).trans h.f1, (hb.frozen (p := ⟨pb, 2, none⟩) h.lt).trans h.f2, h.big, h.hp⟩
theorem QS.drewN (h : QS s pb w p bad) (n : Nat) : QS s pb (w.drewN n) p bad := ⟨h.lt, h.c0, h.c1, h.c2, h.f1, h.f2, h.big, h.hp⟩
theorem QS.at (h : QS s pb w p bad) {q : Nat} (hq : q ≤ s.size + 1) : QS s pb (w.setCell ⟨pb, 1, none⟩ (.int .i64 (q : Int))) q bad := by
  refine ⟨by simpa [World.setCell] using h.lt, ?_, cell_set_same h.c1, ?_, ?_, ?_, h.big, hq⟩
  · rw [World.cell?_setCell_other _ _ _ _ (by simp)]; exact h.c0
  · rw [World.cell?_setCell_other _ _ _ _ (by simp)]; exact h.c2
  · rw [World.frozen?_setCell]; exact h.f1
  · rw [World.frozen?_setCell]; exact h.f2
theorem QS.fail (h : QS s pb w p bad) (b : Int) : QS s pb (w.setCell ⟨pb, 2, none⟩ (.int .i64 b)) p b := by
  refine ⟨by simpa [World.setCell] using h.lt, ?_, ?_, cell_set_same h.c2, ?_, ?_, h.big, h.hp⟩
  · rw [World.cell?_setCell_other _ _ _ _ (by simp)]; exact h.c0
  · rw [World.cell?_setCell_other _ _ _ _ (by simp)]; exact h.c1
  · rw [World.frozen?_setCell]; exact h.f1
  · rw [World.frozen?_setCell]; exact h.f2
end

/-- The index at which a rest begins. -/
def pos (s : ByteArray) (xs : List Int) : Nat := s.size - xs.length
theorem pos_le (s : ByteArray) (xs : List Int) : pos s xs ≤ s.size + 1 := by unfold pos; omega
theorem pos_nil (s : ByteArray) : pos s [] = s.size := by simp [pos]
theorem pos_cons {s : ByteArray} {c : Int} {r : List Int} (h : (c :: r) <:+ bl s) : ((pos s r : Nat) : Int) = ((pos s (c :: r) : Nat) : Int) + 1 ∧ pos s (c :: r) < s.size := by
  have hl := h.length_le
  rw [bl_len, List.length_cons] at hl
  unfold pos; rw [List.length_cons]; omega
theorem pos_idx {s : ByteArray} {c : Int} {r : List Int} (h : (c :: r) <:+ bl s) (w : World) : (Instr.index 9 (.string s) (.int .i64 ((pos s (c :: r) : Nat) : Int))).run Tryd.prog w = .ok (.int .u8 c) w := bl_idx h w

set_option maxHeartbeats 1000000 in
theorem sskip_any (s : ByteArray) (pb : Nat) (xs : List Int) (bad : Int) (w : World) (hx : xs <:+ bl s) (h : QS s pb w (pos s xs) bad) :
    Calls Tryd.prog 75 #[.pointer (some ⟨pb, 0, none⟩)] w fun e w' => e = .returned (.tuple #[]) ∧ QS s pb w' (pos s (skS xs)) bad ∧ But w.heap.size pb w w' := by
  go_enter Tryd.func75, Tryd.ntmps75
  go_wp2
  go_loopg [] xs.length (fun k wr => ∃ ys, ys.length = k ∧ skS ys = skS xs ∧ ys <:+ bl s ∧ QS s pb wr (pos s ys) bad ∧ But w.heap.size pb w wr)
  case atStart => exact ⟨xs, rfl, rfl, hx, h, But.refl _ _ _⟩
  case round =>
    obtain ⟨ys, rfl, hsk, hsuf, hqs, hbut⟩ := hrel
    have c0 := hqs.c0
    have c1 := hqs.c1
    have f1 := hqs.f1
    have hbig := hqs.big
    clear h hx
    cases ys with
    | nil =>
      rw [pos_nil] at c1
      have HK : Hid ([] = skS xs) := Lib.hid hsk
      have HP := Lib.hid hqs; have HB := Lib.hid hbut
      clear hsk hqs hbut hsuf
      go_wp2
      go_quiet (fail)
      go_wp2
      go_end0
      exact ⟨rfl, by rw [← HK.out]; exact HP.out.drewN _, HB.out.drewN _⟩
    | cons c r =>
      have hidx := fun w => pos_idx hsuf w
      obtain ⟨e1, hplt⟩ := pos_cons hsuf
      have hmv := hqs.at (pos_le s r)
      have hbm := hbut.setCell (p := ⟨pb, 1, none⟩) (.inl rfl) (.int .i64 ((pos s r : Nat) : Int))
      rw [e1] at hmv hbm
      have HSR := Lib.hid ((List.suffix_cons c r).trans hsuf)
      have HP := Lib.hid hqs; have HB := Lib.hid hbut; have HM := Lib.hid hmv; have HN := Lib.hid hbm
      by_cases hc : c = 32
      · subst hc
        rw [skS_sp] at hsk
        have HK := Lib.hid hsk
        generalize pos s (32 :: r) = p at *
        clear hsk hqs hbut hmv hbm e1 hsuf
        go_wp2
        go_quiet (fail)
        go_wp2
        go_roundg r.length
        case measure => simp
        case rel => exact ⟨r, rfl, HK.out, HSR.out, HM.out.drewN _, HN.out.drewN _⟩
      · rw [skS_no _ hc] at hsk
        have HK := Lib.hid hsk
        have hce : (c == 32) = false := by simpa using hc
        have HPK : Hid (pos s (skS xs) = pos s (c :: r)) := Lib.hid (by rw [← hsk])
        generalize pos s (c :: r) = p at *
        clear hsk hqs hbut hmv hbm e1 hsuf hc
        go_wp2
        go_quiet (fail)
        go_wp2
        go_end0
        exact ⟨rfl, by rw [HPK.out]; exact HP.out.drewN _, HB.out.drewN _⟩

set_option maxHeartbeats 400000 in
/-- Past the end nothing is passed over. -/
theorem sskip_past (s : ByteArray) (pb p : Nat) (bad : Int) (w : World) (hp : s.size ≤ p) (h : QS s pb w p bad) :
    Calls Tryd.prog 75 #[.pointer (some ⟨pb, 0, none⟩)] w fun e w' => e = .returned (.tuple #[]) ∧ QS s pb w' p bad ∧ But w.heap.size pb w w' := by
  have c0 := h.c0
  have c1 := h.c1
  have hbig := h.big
  have hpp := h.hp
  have HP := Lib.hid h
  have hd : decide (p < s.size) = false := decide_eq_false (by omega)
  clear h
  go_enter Tryd.func75, Tryd.ntmps75
  go_wp2
  refine wp_loop_rounds 1 ?_
  rw [rounds_succ]
  go_wp2
  go_quiet (fail)
  go_wp2
  go_end0
  exact ⟨rfl, HP.out.drewN _, (But.refl _ _ _).drewN _⟩

set_option maxHeartbeats 400000 in
theorem fail_first (s : ByteArray) (pb p : Nat) (k : Int) (w : World) (h : QS s pb w p (-1)) :
    Calls Tryd.prog 76 #[.pointer (some ⟨pb, 0, none⟩), .int .i64 k] w fun e w' => e = .returned (.tuple #[]) ∧ QS s pb w' p k ∧ But w.heap.size pb w w' := by
  have c2 := h.c2
  have f2 := h.f2
  have HQ := Lib.hid (h.fail k)
  have HB := Lib.hid ((But.refl w.heap.size pb w).setCell (p := ⟨pb, 2, none⟩) (.inl rfl) (.int .i64 k))
  clear h
  go_enter Tryd.func76, Tryd.ntmps76
  go_wp2
  go_end0
  exact ⟨rfl, HQ.out, HB.out⟩
set_option maxHeartbeats 400000 in
theorem fail_more (s : ByteArray) (pb p : Nat) (bad k : Int) (w : World) (hb : 0 ≤ bad) (h : QS s pb w p bad) :
    Calls Tryd.prog 76 #[.pointer (some ⟨pb, 0, none⟩), .int .i64 k] w fun e w' => e = .returned (.tuple #[]) ∧ w = w' := by
  have c2 := h.c2
  have hd : decide (bad < 0) = false := decide_eq_false (by omega)
  clear h
  go_enter Tryd.func76, Tryd.ntmps76
  go_wp2
  go_end0
  exact ⟨rfl, rfl⟩

set_option maxHeartbeats 1000000 in
theorem peek_end (s : ByteArray) (pb : Nat) (xs : List Int) (bad : Int) (w : World) (hx : xs <:+ bl s) (h : QS s pb w (pos s xs) bad) (he : skS xs = []) :
    Calls Tryd.prog 104 #[.pointer (some ⟨pb, 0, none⟩)] w fun e w' => e = .returned (.int .u8 0) ∧ QS s pb w' s.size bad ∧ But w.heap.size pb w w' := by
  have hS := sskip_any s pb xs bad w hx h
  rw [he, pos_nil] at hS
  clear h hx he
  go_enter Tryd.func104, Tryd.ntmps104
  go_wp2_with (fail)
  refine hS.mono ?_
  rintro e w1 ⟨rfl, hqs, hbut⟩
  have c0 := hqs.c0
  have c1 := hqs.c1
  have hbig := hqs.big
  have HP := Lib.hid hqs; have HB := Lib.hid hbut
  clear hqs hbut hS
  go_wp2
  go_quiet (fail)
  go_wp2
  go_ret
  exact ⟨rfl, HP.out.drewN _, HB.out.drewN _⟩

set_option maxHeartbeats 1000000 in
theorem peek_c (s : ByteArray) (pb : Nat) (xs : List Int) (c : Int) (r : List Int) (bad : Int) (w : World) (hx : xs <:+ bl s) (h : QS s pb w (pos s xs) bad) (he : skS xs = c :: r) :
    Calls Tryd.prog 104 #[.pointer (some ⟨pb, 0, none⟩)] w fun e w' => e = .returned (.int .u8 c) ∧ QS s pb w' (pos s (c :: r)) bad ∧ But w.heap.size pb w w' := by
  have hS := sskip_any s pb xs bad w hx h
  have hsuf : (c :: r) <:+ bl s := (he ▸ skS_suf xs : (c :: r) <:+ xs).trans hx
  rw [he] at hS
  have hidx := fun w => pos_idx hsuf w
  obtain ⟨e1, hplt⟩ := pos_cons hsuf
  generalize pos s (c :: r) = p at *
  have hd : decide (s.size ≤ p) = false := decide_eq_false (by omega)
  clear h hx he e1 hsuf
  go_enter Tryd.func104, Tryd.ntmps104
  go_wp2_with (fail)
  refine hS.mono ?_
  rintro e w1 ⟨rfl, hqs, hbut⟩
  have c0 := hqs.c0
  have c1 := hqs.c1
  have hbig := hqs.big
  have HP := Lib.hid hqs; have HB := Lib.hid hbut
  clear hqs hbut hS
  go_wp2
  go_quiet (fail)
  go_wp2
  go_quiet (fail)
  go_wp2
  go_ret
  exact ⟨rfl, (HP.out.drewN _).drewN _, (HB.out.drewN _).drewN _⟩

/-- What the reading of an operator leaves in the model. -/
def OpSaid (s : ByteArray) (pb : Nat) (w : World) (res : PR) (e : Ending) (w' : World) : Prop :=
  But w.heap.size pb w w' ∧ match res with
    | .ok o r => e = .returned (.int .i64 (o.getD 0 0)) ∧ QS s pb w' (pos s r) (-1)
    | .no r => e = .returned (.int .i64 0) ∧ ∃ p, QS s pb w' p ((pos s r : Nat) : Int)

theorem But.on {pb : Nat} {a w w' : World} (h : But a.heap.size pb a w) (k : But w.heap.size pb w w') : But a.heap.size pb a w' := h.trans (k.mono h.size)
/-- One more than an index. -/
theorem QS.next {s : ByteArray} {pb : Nat} {w w0 : World} {p : Nat} {bad : Int} (h : QS s pb w p bad) (hb : But w0.heap.size pb w0 w) (hp : p ≤ s.size) :
    QS s pb (w.setCell ⟨pb, 1, none⟩ (.int .i64 ((p : Int) + 1))) (p + 1) bad ∧ But w0.heap.size pb w0 (w.setCell ⟨pb, 1, none⟩ (.int .i64 ((p : Int) + 1))) :=
  ⟨h.at (q := p + 1) (by omega), hb.setCell (p := ⟨pb, 1, none⟩) (.inl rfl) _⟩
theorem pos_succ {s : ByteArray} {c : Int} {r : List Int} (h : (c :: r) <:+ bl s) : pos s r = pos s (c :: r) + 1 := by
  have := pos_cons h; omega

set_option maxHeartbeats 1000000 in
theorem op_end (s : ByteArray) (pb : Nat) (xs : List Int) (w : World) (hx : xs <:+ bl s) (h : QS s pb w (pos s xs) (-1)) (he : skS xs = []) :
    Calls Tryd.prog 106 #[.pointer (some ⟨pb, 0, none⟩)] w (OpSaid s pb w (.no [])) := by
  have hP := peek_end s pb xs (-1) w hx h he
  have HZ := Lib.hid (pos_nil s)
  clear h hx he
  go_enter Tryd.func106, Tryd.ntmps106
  go_wp2_with (fail)
  refine hP.mono ?_
  rintro e w1 ⟨rfl, hqs, hbut⟩
  have c1 := hqs.c1
  have f1 := hqs.f1
  have hbig := hqs.big
  obtain ⟨hmv, hbm⟩ := hqs.next hbut (Nat.le_refl _)
  have HN := Lib.hid hbm
  have HFL := Lib.hid (fail_first s pb (s.size + 1) (s.size : Int) _ hmv)
  clear hqs hbut hP hmv hbm
  go_wp2_with (fail)
  refine HFL.out.mono ?_
  rintro e w2 ⟨rfl, hq2, hb2⟩
  have HQ2 := Lib.hid hq2; have HB2 := Lib.hid (HN.out.on hb2)
  clear hq2 hb2
  go_wp2
  go_ret
  exact ⟨HB2.out, rfl, _, by rw [HZ.out]; exact HQ2.out⟩

set_option maxHeartbeats 1000000 in
/-- A sign that is no operator. -/
theorem op_other (s : ByteArray) (pb : Nat) (xs r : List Int) (c : Int) (w : World) (hx : xs <:+ bl s) (h : QS s pb w (pos s xs) (-1)) (he : skS xs = c :: r) (h1 : c ≠ 42) (h2 : c ≠ 124) (h3 : c ≠ 43) (h4 : c ≠ 38) (h5 : c ≠ 45) :
    Calls Tryd.prog 106 #[.pointer (some ⟨pb, 0, none⟩)] w (OpSaid s pb w (.no (c :: r))) := by
  have hP := peek_c s pb xs c r (-1) w hx h he
  have hsuf : (c :: r) <:+ bl s := (he ▸ skS_suf xs : (c :: r) <:+ xs).trans hx
  obtain ⟨_, hplt⟩ := pos_cons hsuf
  obtain ⟨p, hp⟩ : ∃ p, pos s (c :: r) = p := ⟨_, rfl⟩
  have HZ := Lib.hid hp
  rw [hp] at hP hplt
  have e1 : (c == 42) = false := by simpa using h1
  have e2 : (c == 124) = false := by simpa using h2
  have e3 : (c == 43) = false := by simpa using h3
  have e4 : (c == 38) = false := by simpa using h4
  have e5 : (c == 45) = false := by simpa using h5
  clear h hx he hp h1 h2 h3 h4 h5 hsuf
  go_enter Tryd.func106, Tryd.ntmps106
  go_wp2_with (fail)
  refine hP.mono ?_
  rintro e w1 ⟨rfl, hqs, hbut⟩
  have c1 := hqs.c1
  have f1 := hqs.f1
  have hbig := hqs.big
  obtain ⟨hmv, hbm⟩ := hqs.next hbut (by omega)
  have HN := Lib.hid hbm
  have HFL := Lib.hid (fail_first s pb (p + 1) (p : Int) _ hmv)
  clear hqs hbut hP hmv hbm
  go_wp2_with (fail)
  refine HFL.out.mono ?_
  rintro e w2 ⟨rfl, hq2, hb2⟩
  have HQ2 := Lib.hid hq2; have HB2 := Lib.hid (HN.out.on hb2)
  clear hq2 hb2
  go_wp2
  go_ret
  exact ⟨HB2.out, rfl, _, by rw [HZ.out]; exact HQ2.out⟩

set_option maxHeartbeats 2000000 in
theorem op_sign (s : ByteArray) (pb : Nat) (xs r : List Int) (c : Int) (w : World) (hx : xs <:+ bl s) (h : QS s pb w (pos s xs) (-1)) (he : skS xs = c :: r) (hc : c = 42 ∨ c = 124 ∨ c = 43 ∨ c = 38) :
    Calls Tryd.prog 106 #[.pointer (some ⟨pb, 0, none⟩)] w (OpSaid s pb w (.ok [syZ c] r)) := by
  have hP := peek_c s pb xs c r (-1) w hx h he
  have hsuf : (c :: r) <:+ bl s := (he ▸ skS_suf xs : (c :: r) <:+ xs).trans hx
  obtain ⟨_, hplt⟩ := pos_cons hsuf
  have hps := pos_succ hsuf
  obtain ⟨p, hp⟩ : ∃ p, pos s (c :: r) = p := ⟨_, rfl⟩
  rw [hp] at hP hplt hps
  have HZ := Lib.hid hps
  clear h hx he hp hsuf hps
  rcases hc with rfl | rfl | rfl | rfl
  all_goals
    go_enter Tryd.func106, Tryd.ntmps106
    go_wp2_with (fail)
    refine hP.mono ?_
    rintro e w1 ⟨rfl, hqs, hbut⟩
    have c1 := hqs.c1
    have f1 := hqs.f1
    have hbig := hqs.big
    obtain ⟨hmv, hbm⟩ := hqs.next hbut (by omega)
    have HM := Lib.hid hmv; have HN := Lib.hid hbm
    clear hqs hbut hP hmv hbm
    go_wp2
    go_ret
    exact ⟨HN.out, rfl, by rw [HZ.out]; exact HM.out⟩

set_option maxHeartbeats 2000000 in
theorem op_dash (s : ByteArray) (pb : Nat) (xs r : List Int) (w : World) (hx : xs <:+ bl s) (h : QS s pb w (pos s xs) (-1)) (he : skS xs = 45 :: r) :
    Calls Tryd.prog 106 #[.pointer (some ⟨pb, 0, none⟩)] w (OpSaid s pb w (opP xs)) := by
  have hP := peek_c s pb xs 45 r (-1) w hx h he
  have hsuf : (45 :: r) <:+ bl s := (he ▸ skS_suf xs : (45 :: r) <:+ xs).trans hx
  have hsuf2 := (List.suffix_cons 45 r).trans hsuf
  obtain ⟨_, hplt⟩ := pos_cons hsuf
  have hps := pos_succ hsuf
  cases r with
  | nil =>
    rw [opP_dashEnd he]
    obtain ⟨p, hp⟩ : ∃ p, pos s [45] = p := ⟨_, rfl⟩
    rw [hp] at hP hplt hps
    rw [pos_nil] at hps
    have HZ := Lib.hid (pos_nil s)
    have hd : decide (p + 1 < s.size) = false := decide_eq_false (by omega)
    have hd2 : decide (((p : Int) + 1) < (s.size : Int)) = false := decide_eq_false (by omega)
    have HPS : Hid ((p : Int) + 1 = (s.size : Int)) := Lib.hid (by omega)
    clear h hx he hp hsuf hsuf2 hps
    go_enter Tryd.func106, Tryd.ntmps106
    go_wp2_with (fail)
    refine hP.mono ?_
    rintro e w1 ⟨rfl, hqs, hbut⟩
    have c0 := hqs.c0
    have c1 := hqs.c1
    have f1 := hqs.f1
    have hbig := hqs.big
    obtain ⟨hmv, hbm⟩ := hqs.next hbut (by omega)
    have HM := Lib.hid hmv; have HN := Lib.hid hbm
    clear hqs hbut hP hmv hbm
    go_wp2
    go_quiet (fail)
    have HFL := Lib.hid (fun n => fail_first s pb (p + 1) ((p : Int) + 1) _ (HM.out.drewN n))
    go_wp2_with (fail)
    refine (HFL.out _).mono ?_
    rintro e w2 ⟨rfl, hq2, hb2⟩
    have HQ2 := Lib.hid hq2; have HB2 := Lib.hid ((HN.out.drewN _).on hb2)
    clear hq2 hb2
    go_wp2
    go_ret
    exact ⟨HB2.out, rfl, _, by rw [HZ.out, ← HPS.out]; exact HQ2.out⟩
  | cons d r =>
    obtain ⟨_, hplt2⟩ := pos_cons hsuf2
    have hps2 := pos_succ hsuf2
    have hidx0 := fun w => pos_idx hsuf2 w
    obtain ⟨p, hp⟩ : ∃ p, pos s (45 :: d :: r) = p := ⟨_, rfl⟩
    rw [hp] at hP hplt hps
    rw [hps] at hplt2 hps2 hidx0
    have HZ := Lib.hid hps
    have HZ2 := Lib.hid hps2
    have hidx : ∀ w, (Instr.index 9 (.string s) (.int .i64 ((p : Int) + 1))).run Tryd.prog w = .ok (.int .u8 d) w := hidx0
    have hd : decide (p + 1 < s.size) = true := decide_eq_true (by omega)
    have hd2 : decide (((p : Int) + 1) < (s.size : Int)) = true := decide_eq_true (by omega)
    have HDN : Hid (d ≠ 62 → opP xs = .no (d :: r)) := Lib.hid fun hn => opP_dashNo he hn
    have HDY : Hid (d = 62 → opP xs = .ok [-1] r) := Lib.hid fun hy => opP_dash (by rw [he, hy])
    clear h hx he hp hsuf hsuf2 hps hps2 hidx0
    by_cases h62 : d = 62
    · rw [HDY.out h62]
      subst h62
      go_enter Tryd.func106, Tryd.ntmps106
      go_wp2_with (fail)
      refine hP.mono ?_
      rintro e w1 ⟨rfl, hqs, hbut⟩
      have c0 := hqs.c0
      have c1 := hqs.c1
      have f1 := hqs.f1
      have hbig := hqs.big
      obtain ⟨hmv, hbm⟩ := hqs.next hbut (by omega)
      obtain ⟨hmv2, hbm2⟩ := hmv.next hbm (by omega)
      have e2 : ((p + 1 : Nat) : Int) + 1 = (p : Int) + 1 + 1 := by omega
      rw [e2] at hmv2 hbm2
      have HM := Lib.hid hmv2; have HN := Lib.hid hbm2
      clear hqs hbut hP hmv hbm hmv2 hbm2 e2
      go_wp2
      go_quiet (fail)
      go_wp2
      go_ret
      exact ⟨HN.out.drewN _, rfl, by rw [HZ2.out]; exact HM.out.drewN _⟩
    · rw [HDN.out h62]
      have e62 : (d == 62) = false := by simpa using h62
      clear h62
      go_enter Tryd.func106, Tryd.ntmps106
      go_wp2_with (fail)
      refine hP.mono ?_
      rintro e w1 ⟨rfl, hqs, hbut⟩
      have c0 := hqs.c0
      have c1 := hqs.c1
      have f1 := hqs.f1
      have hbig := hqs.big
      obtain ⟨hmv, hbm⟩ := hqs.next hbut (by omega)
      have HM := Lib.hid hmv; have HN := Lib.hid hbm
      have HFL := Lib.hid (fun n => fail_first s pb (p + 1) ((p : Int) + 1) _ (HM.out.drewN n))
      clear hqs hbut hP hmv hbm
      go_wp2
      go_quiet (fail)
      go_wp2_with (fail)
      refine (HFL.out _).mono ?_
      rintro e w2 ⟨rfl, hq2, hb2⟩
      have HQ2 := Lib.hid hq2; have HB2 := Lib.hid ((HN.out.drewN _).on hb2)
      clear hq2 hb2
      go_wp2
      go_ret
      exact ⟨HB2.out, rfl, _, by rw [HZ.out]; exact HQ2.out⟩

/-- The reading of an operator in the model. -/
theorem sop_any (s : ByteArray) (pb : Nat) (xs : List Int) (w : World) (hx : xs <:+ bl s) (h : QS s pb w (pos s xs) (-1)) :
    Calls Tryd.prog 106 #[.pointer (some ⟨pb, 0, none⟩)] w (OpSaid s pb w (opP xs)) := by
  cases he : skS xs with
  | nil => rw [opP_nil he]; exact op_end s pb xs w hx h he
  | cons c r =>
    by_cases h5 : c = 45
    · subst h5; exact op_dash s pb xs r w hx h he
    · by_cases hc : c = 42 ∨ c = 124 ∨ c = 43 ∨ c = 38
      · rw [opP_sign he hc]; exact op_sign s pb xs r c w hx h he hc
      · have e : opP xs = .no (c :: r) := by
          unfold opP
          rw [he]
          show (if c = 42 then _ else _) = _
          rw [if_neg (by omega), if_neg (by omega), if_neg (by omega), if_neg (by omega), if_neg (by omega)]
        rw [e]
        exact op_other s pb xs r c w hx h he (by omega) (by omega) (by omega) (by omega) h5
end Go.Proofs.YtjekibknembcgaaDoor
