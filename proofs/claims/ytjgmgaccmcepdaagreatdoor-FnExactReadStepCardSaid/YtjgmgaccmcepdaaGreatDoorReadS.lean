/- The parser of the model: its state in memory; spaces, the next byte, the operator; the dual of any list of symbols. The parser of the model: a formula; ParseForm. The parser of the model: a pair; ParseForm. ParseForm of the model. -/
import Derived.Test.YtjgmgaccmcepdaaGreatDoorForm
import Derived.Test.YtjgmgaccmcepdaaGreatDoorJoinS
namespace Go.Proofs.YtjgmgaccmcepdaaGreatDoor
open Go.RowKit

/-- The model's parser: the index p, the first misfit bad (-1: none). -/
structure QS (s : ByteArray) (pb : Nat) (w : World) (p : Nat) (bad : Int) : Prop where
  lt : pb < w.heap.size
  c0 : w.cell? ⟨pb, 0, none⟩ = some (.string s)
  c1 : w.cell? ⟨pb, 1, none⟩ = some (.int .i64 (p : Int))
  c2 : w.cell? ⟨pb, 2, none⟩ = some (.int .i64 bad)
  f1 : w.frozen? ⟨pb, 1, none⟩ = false
  f2 : w.frozen? ⟨pb, 2, none⟩ = false
  big : s.size ≤ 1048576
  hp : p ≤ s.size + 1
section
variable {s : ByteArray} {pb : Nat} {w w' : World} {p : Nat} {bad : Int}
theorem QS.below (h : QS s pb w p bad) (hb : Below w.heap.size w w') : QS s pb w' p bad :=
  ⟨Nat.lt_of_lt_of_le h.lt hb.size, (hb.cell (p := ⟨pb, 0, none⟩) h.lt).trans h.c0, (hb.cell (p := ⟨pb, 1, none⟩) h.lt).trans h.c1, (hb.cell (p := ⟨pb, 2, none⟩) h.lt).trans h.c2,
    (hb.frozen (p := ⟨pb, 1, none⟩) h.lt).trans h.f1, (hb.frozen (p := ⟨pb, 2, none⟩) h.lt).trans h.f2, h.big, h.hp⟩
theorem QS.drewN (h : QS s pb w p bad) (n : Nat) : QS s pb (w.drewN n) p bad := ⟨h.lt, h.c0, h.c1, h.c2, h.f1, h.f2, h.big, h.hp⟩
theorem QS.at (h : QS s pb w p bad) {q : Nat} (hq : q ≤ s.size + 1) : QS s pb (w.setCell ⟨pb, 1, none⟩ (.int .i64 (q : Int))) q bad := by
  refine ⟨by simpa [World.setCell] using h.lt, ?_, cell_set_same h.c1, ?_, ?_, ?_, h.big, hq⟩
  · rw [World.cell?_setCell_other _ _ _ _ (by simp)]; exact h.c0
  · rw [World.cell?_setCell_other _ _ _ _ (by simp)]; exact h.c2
  · rw [World.frozen?_setCell]; exact h.f1
  · rw [World.frozen?_setCell]; exact h.f2
theorem QS.fail (h : QS s pb w p bad) (b : Int) : QS s pb (w.setCell ⟨pb, 2, none⟩ (.int .i64 b)) p b := by
  refine ⟨by simpa [World.setCell] using h.lt, ?_, ?_, cell_set_same h.c2, ?_, ?_, h.big, h.hp⟩
  · rw [World.cell?_setCell_other _ _ _ _ (by simp)]; exact h.c0
  · rw [World.cell?_setCell_other _ _ _ _ (by simp)]; exact h.c1
  · rw [World.frozen?_setCell]; exact h.f1
  · rw [World.frozen?_setCell]; exact h.f2
end

/-- The index at which a rest begins. -/
def pos (s : ByteArray) (xs : List Int) : Nat := s.size - xs.length
theorem pos_le (s : ByteArray) (xs : List Int) : pos s xs ≤ s.size + 1 := by unfold pos; omega
theorem pos_nil (s : ByteArray) : pos s [] = s.size := by simp [pos]
theorem pos_cons {s : ByteArray} {c : Int} {r : List Int} (h : (c :: r) <:+ bl s) : ((pos s r : Nat) : Int) = ((pos s (c :: r) : Nat) : Int) + 1 ∧ pos s (c :: r) < s.size := by
  have hl := h.length_le
  rw [bl_len, List.length_cons] at hl
  unfold pos; rw [List.length_cons]; omega
theorem pos_idx {s : ByteArray} {c : Int} {r : List Int} (h : (c :: r) <:+ bl s) (w : World) : (Instr.index 9 (.string s) (.int .i64 ((pos s (c :: r) : Nat) : Int))).run Tryz.prog w = .ok (.int .u8 c) w := bl_idx h w

set_option maxHeartbeats 1000000 in
theorem sskip_any (s : ByteArray) (pb : Nat) (xs : List Int) (bad : Int) (w : World) (hx : xs <:+ bl s) (h : QS s pb w (pos s xs) bad) :
    Calls Tryz.prog 192 #[.pointer (some ⟨pb, 0, none⟩)] w fun e w' => e = .returned (.tuple #[]) ∧ QS s pb w' (pos s (skS xs)) bad ∧ But w.heap.size pb w w' := by
  go_enter Tryz.func192, Tryz.ntmps192
  go_wp2
  go_loopg [] xs.length (fun k wr => ∃ ys, ys.length = k ∧ skS ys = skS xs ∧ ys <:+ bl s ∧ QS s pb wr (pos s ys) bad ∧ But w.heap.size pb w wr)
  case atStart => exact ⟨xs, rfl, rfl, hx, h, But.refl _ _ _⟩
  case round =>
    obtain ⟨ys, rfl, hsk, hsuf, hqs, hbut⟩ := hrel
    have c0 := hqs.c0
    have c1 := hqs.c1
    have f1 := hqs.f1
    have hbig := hqs.big
    clear h hx
    cases ys with
    | nil =>
      rw [pos_nil] at c1
      have HK : Hid ([] = skS xs) := Lib.hid hsk
      have HP := Lib.hid hqs; have HB := Lib.hid hbut
      clear hsk hqs hbut hsuf
      go_wp2
      go_quiet (fail)
      go_wp2
      go_end0
      exact ⟨rfl, by rw [← HK.out]; exact HP.out.drewN _, HB.out.drewN _⟩
    | cons c r =>
      have hidx := fun w => pos_idx hsuf w
      obtain ⟨e1, hplt⟩ := pos_cons hsuf
      have hmv := hqs.at (pos_le s r)
      have hbm := hbut.setCell (p := ⟨pb, 1, none⟩) (.inl rfl) (.int .i64 ((pos s r : Nat) : Int))
      rw [e1] at hmv hbm
      have HSR := Lib.hid ((List.suffix_cons c r).trans hsuf)
      have HP := Lib.hid hqs; have HB := Lib.hid hbut; have HM := Lib.hid hmv; have HN := Lib.hid hbm
      by_cases hc : c = 32
      · subst hc
        rw [skS_sp] at hsk
        have HK := Lib.hid hsk
        generalize pos s (32 :: r) = p at *
        clear hsk hqs hbut hmv hbm e1 hsuf
        go_wp2
        go_quiet (fail)
        go_wp2
        go_roundg r.length
        case measure => simp
        case rel => exact ⟨r, rfl, HK.out, HSR.out, HM.out.drewN _, HN.out.drewN _⟩
      · rw [skS_no _ hc] at hsk
        have HK := Lib.hid hsk
        have hce : (c == 32) = false := by simpa using hc
        have HPK : Hid (pos s (skS xs) = pos s (c :: r)) := Lib.hid (by rw [← hsk])
        generalize pos s (c :: r) = p at *
        clear hsk hqs hbut hmv hbm e1 hsuf hc
        go_wp2
        go_quiet (fail)
        go_wp2
        go_end0
        exact ⟨rfl, by rw [HPK.out]; exact HP.out.drewN _, HB.out.drewN _⟩

set_option maxHeartbeats 400000 in
/-- Past the end nothing is passed over. -/
theorem sskip_past (s : ByteArray) (pb p : Nat) (bad : Int) (w : World) (hp : s.size ≤ p) (h : QS s pb w p bad) :
    Calls Tryz.prog 192 #[.pointer (some ⟨pb, 0, none⟩)] w fun e w' => e = .returned (.tuple #[]) ∧ QS s pb w' p bad ∧ But w.heap.size pb w w' := by
  have c0 := h.c0
  have c1 := h.c1
  have hbig := h.big
  have hpp := h.hp
  have HP := Lib.hid h
  have hd : decide (p < s.size) = false := decide_eq_false (by omega)
  clear h
  go_enter Tryz.func192, Tryz.ntmps192
  go_wp2
  refine wp_loop_rounds 1 ?_
  rw [rounds_succ]
  go_wp2
  go_quiet (fail)
  go_wp2
  go_end0
  exact ⟨rfl, HP.out.drewN _, (But.refl _ _ _).drewN _⟩

set_option maxHeartbeats 400000 in
theorem fail_first (s : ByteArray) (pb p : Nat) (k : Int) (w : World) (h : QS s pb w p (-1)) :
    Calls Tryz.prog 193 #[.pointer (some ⟨pb, 0, none⟩), .int .i64 k] w fun e w' => e = .returned (.tuple #[]) ∧ QS s pb w' p k ∧ But w.heap.size pb w w' := by
  have c2 := h.c2
  have f2 := h.f2
  have HQ := Lib.hid (h.fail k)
  have HB := Lib.hid ((But.refl w.heap.size pb w).setCell (p := ⟨pb, 2, none⟩) (.inl rfl) (.int .i64 k))
  clear h
  go_enter Tryz.func193, Tryz.ntmps193
  go_wp2
  go_end0
  exact ⟨rfl, HQ.out, HB.out⟩
set_option maxHeartbeats 400000 in
theorem fail_more (s : ByteArray) (pb p : Nat) (bad k : Int) (w : World) (hb : 0 ≤ bad) (h : QS s pb w p bad) :
    Calls Tryz.prog 193 #[.pointer (some ⟨pb, 0, none⟩), .int .i64 k] w fun e w' => e = .returned (.tuple #[]) ∧ w = w' := by
  have c2 := h.c2
  have hd : decide (bad < 0) = false := decide_eq_false (by omega)
  clear h
  go_enter Tryz.func193, Tryz.ntmps193
  go_wp2
  go_end0
  exact ⟨rfl, rfl⟩

set_option maxHeartbeats 1000000 in
theorem peek_end (s : ByteArray) (pb : Nat) (xs : List Int) (bad : Int) (w : World) (hx : xs <:+ bl s) (h : QS s pb w (pos s xs) bad) (he : skS xs = []) :
    Calls Tryz.prog 210 #[.pointer (some ⟨pb, 0, none⟩)] w fun e w' => e = .returned (.int .u8 0) ∧ QS s pb w' s.size bad ∧ But w.heap.size pb w w' := by
  have hS := sskip_any s pb xs bad w hx h
  rw [he, pos_nil] at hS
  clear h hx he
  go_enter Tryz.func210, Tryz.ntmps210
  go_wp2_with (fail)
  refine hS.mono ?_
  rintro e w1 ⟨rfl, hqs, hbut⟩
  have c0 := hqs.c0
  have c1 := hqs.c1
  have hbig := hqs.big
  have HP := Lib.hid hqs; have HB := Lib.hid hbut
  clear hqs hbut hS
  go_wp2
  go_quiet (fail)
  go_wp2
  go_ret
  exact ⟨rfl, HP.out.drewN _, HB.out.drewN _⟩

set_option maxHeartbeats 1000000 in
theorem peek_c (s : ByteArray) (pb : Nat) (xs : List Int) (c : Int) (r : List Int) (bad : Int) (w : World) (hx : xs <:+ bl s) (h : QS s pb w (pos s xs) bad) (he : skS xs = c :: r) :
    Calls Tryz.prog 210 #[.pointer (some ⟨pb, 0, none⟩)] w fun e w' => e = .returned (.int .u8 c) ∧ QS s pb w' (pos s (c :: r)) bad ∧ But w.heap.size pb w w' := by
  have hS := sskip_any s pb xs bad w hx h
  have hsuf : (c :: r) <:+ bl s := (he ▸ skS_suf xs : (c :: r) <:+ xs).trans hx
  rw [he] at hS
  have hidx := fun w => pos_idx hsuf w
  obtain ⟨e1, hplt⟩ := pos_cons hsuf
  generalize pos s (c :: r) = p at *
  have hd : decide (s.size ≤ p) = false := decide_eq_false (by omega)
  clear h hx he e1 hsuf
  go_enter Tryz.func210, Tryz.ntmps210
  go_wp2_with (fail)
  refine hS.mono ?_
  rintro e w1 ⟨rfl, hqs, hbut⟩
  have c0 := hqs.c0
  have c1 := hqs.c1
  have hbig := hqs.big
  have HP := Lib.hid hqs; have HB := Lib.hid hbut
  clear hqs hbut hS
  go_wp2
  go_quiet (fail)
  go_wp2
  go_quiet (fail)
  go_wp2
  go_ret
  exact ⟨rfl, (HP.out.drewN _).drewN _, (HB.out.drewN _).drewN _⟩

/-- What the reading of an operator leaves in the model. -/
def OpSaid (s : ByteArray) (pb : Nat) (w : World) (res : PR) (e : Ending) (w' : World) : Prop :=
  But w.heap.size pb w w' ∧ match res with
    | .ok o r => e = .returned (.int .i64 (o.getD 0 0)) ∧ QS s pb w' (pos s r) (-1)
    | .no r => e = .returned (.int .i64 0) ∧ ∃ p, QS s pb w' p ((pos s r : Nat) : Int)

theorem But.on {pb : Nat} {a w w' : World} (h : But a.heap.size pb a w) (k : But w.heap.size pb w w') : But a.heap.size pb a w' := h.trans (k.mono h.size)
/-- One more than an index. -/
theorem QS.next {s : ByteArray} {pb : Nat} {w w0 : World} {p : Nat} {bad : Int} (h : QS s pb w p bad) (hb : But w0.heap.size pb w0 w) (hp : p ≤ s.size) :
    QS s pb (w.setCell ⟨pb, 1, none⟩ (.int .i64 ((p : Int) + 1))) (p + 1) bad ∧ But w0.heap.size pb w0 (w.setCell ⟨pb, 1, none⟩ (.int .i64 ((p : Int) + 1))) :=
  ⟨h.at (q := p + 1) (by omega), hb.setCell (p := ⟨pb, 1, none⟩) (.inl rfl) _⟩
theorem pos_succ {s : ByteArray} {c : Int} {r : List Int} (h : (c :: r) <:+ bl s) : pos s r = pos s (c :: r) + 1 := by
  have := pos_cons h; omega

set_option maxHeartbeats 1000000 in
theorem op_end (s : ByteArray) (pb : Nat) (xs : List Int) (w : World) (hx : xs <:+ bl s) (h : QS s pb w (pos s xs) (-1)) (he : skS xs = []) :
    Calls Tryz.prog 212 #[.pointer (some ⟨pb, 0, none⟩)] w (OpSaid s pb w (.no [])) := by
  have hP := peek_end s pb xs (-1) w hx h he
  have HZ := Lib.hid (pos_nil s)
  clear h hx he
  go_enter Tryz.func212, Tryz.ntmps212
  go_wp2_with (fail)
  refine hP.mono ?_
  rintro e w1 ⟨rfl, hqs, hbut⟩
  have c1 := hqs.c1
  have f1 := hqs.f1
  have hbig := hqs.big
  obtain ⟨hmv, hbm⟩ := hqs.next hbut (Nat.le_refl _)
  have HN := Lib.hid hbm
  have HFL := Lib.hid (fail_first s pb (s.size + 1) (s.size : Int) _ hmv)
  clear hqs hbut hP hmv hbm
  go_wp2_with (fail)
  refine HFL.out.mono ?_
  rintro e w2 ⟨rfl, hq2, hb2⟩
  have HQ2 := Lib.hid hq2; have HB2 := Lib.hid (HN.out.on hb2)
  clear hq2 hb2
  go_wp2
  go_ret
  exact ⟨HB2.out, rfl, _, by rw [HZ.out]; exact HQ2.out⟩

set_option maxHeartbeats 1000000 in
/-- A sign that is no operator. -/
theorem op_other (s : ByteArray) (pb : Nat) (xs r : List Int) (c : Int) (w : World) (hx : xs <:+ bl s) (h : QS s pb w (pos s xs) (-1)) (he : skS xs = c :: r) (h1 : c ≠ 42) (h2 : c ≠ 124) (h3 : c ≠ 43) (h4 : c ≠ 38) (h5 : c ≠ 45) :
    Calls Tryz.prog 212 #[.pointer (some ⟨pb, 0, none⟩)] w (OpSaid s pb w (.no (c :: r))) := by
  have hP := peek_c s pb xs c r (-1) w hx h he
  have hsuf : (c :: r) <:+ bl s := (he ▸ skS_suf xs : (c :: r) <:+ xs).trans hx
  obtain ⟨_, hplt⟩ := pos_cons hsuf
  obtain ⟨p, hp⟩ : ∃ p, pos s (c :: r) = p := ⟨_, rfl⟩
  have HZ := Lib.hid hp
  rw [hp] at hP hplt
  have e1 : (c == 42) = false := by simpa using h1
  have e2 : (c == 124) = false := by simpa using h2
  have e3 : (c == 43) = false := by simpa using h3
  have e4 : (c == 38) = false := by simpa using h4
  have e5 : (c == 45) = false := by simpa using h5
  clear h hx he hp h1 h2 h3 h4 h5 hsuf
  go_enter Tryz.func212, Tryz.ntmps212
  go_wp2_with (fail)
  refine hP.mono ?_
  rintro e w1 ⟨rfl, hqs, hbut⟩
  have c1 := hqs.c1
  have f1 := hqs.f1
  have hbig := hqs.big
  obtain ⟨hmv, hbm⟩ := hqs.next hbut (by omega)
  have HN := Lib.hid hbm
  have HFL := Lib.hid (fail_first s pb (p + 1) (p : Int) _ hmv)
  clear hqs hbut hP hmv hbm
  go_wp2_with (fail)
  refine HFL.out.mono ?_
  rintro e w2 ⟨rfl, hq2, hb2⟩
  have HQ2 := Lib.hid hq2; have HB2 := Lib.hid (HN.out.on hb2)
  clear hq2 hb2
  go_wp2
  go_ret
  exact ⟨HB2.out, rfl, _, by rw [HZ.out]; exact HQ2.out⟩

set_option maxHeartbeats 2000000 in
theorem op_sign (s : ByteArray) (pb : Nat) (xs r : List Int) (c : Int) (w : World) (hx : xs <:+ bl s) (h : QS s pb w (pos s xs) (-1)) (he : skS xs = c :: r) (hc : c = 42 ∨ c = 124 ∨ c = 43 ∨ c = 38) :
    Calls Tryz.prog 212 #[.pointer (some ⟨pb, 0, none⟩)] w (OpSaid s pb w (.ok [syZ c] r)) := by
  have hP := peek_c s pb xs c r (-1) w hx h he
  have hsuf : (c :: r) <:+ bl s := (he ▸ skS_suf xs : (c :: r) <:+ xs).trans hx
  obtain ⟨_, hplt⟩ := pos_cons hsuf
  have hps := pos_succ hsuf
  obtain ⟨p, hp⟩ : ∃ p, pos s (c :: r) = p := ⟨_, rfl⟩
  rw [hp] at hP hplt hps
  have HZ := Lib.hid hps
  clear h hx he hp hsuf hps
  rcases hc with rfl | rfl | rfl | rfl
  all_goals
    go_enter Tryz.func212, Tryz.ntmps212
    go_wp2_with (fail)
    refine hP.mono ?_
    rintro e w1 ⟨rfl, hqs, hbut⟩
    have c1 := hqs.c1
    have f1 := hqs.f1
    have hbig := hqs.big
    obtain ⟨hmv, hbm⟩ := hqs.next hbut (by omega)
    have HM := Lib.hid hmv; have HN := Lib.hid hbm
    clear hqs hbut hP hmv hbm
    go_wp2
    go_ret
    exact ⟨HN.out, rfl, by rw [HZ.out]; exact HM.out⟩

set_option maxHeartbeats 2000000 in
theorem op_dash (s : ByteArray) (pb : Nat) (xs r : List Int) (w : World) (hx : xs <:+ bl s) (h : QS s pb w (pos s xs) (-1)) (he : skS xs = 45 :: r) :
    Calls Tryz.prog 212 #[.pointer (some ⟨pb, 0, none⟩)] w (OpSaid s pb w (opP xs)) := by
  have hP := peek_c s pb xs 45 r (-1) w hx h he
  have hsuf : (45 :: r) <:+ bl s := (he ▸ skS_suf xs : (45 :: r) <:+ xs).trans hx
  have hsuf2 := (List.suffix_cons 45 r).trans hsuf
  obtain ⟨_, hplt⟩ := pos_cons hsuf
  have hps := pos_succ hsuf
  cases r with
  | nil =>
    rw [opP_dashEnd he]
    obtain ⟨p, hp⟩ : ∃ p, pos s [45] = p := ⟨_, rfl⟩
    rw [hp] at hP hplt hps
    rw [pos_nil] at hps
    have HZ := Lib.hid (pos_nil s)
    have hd : decide (p + 1 < s.size) = false := decide_eq_false (by omega)
    have hd2 : decide (((p : Int) + 1) < (s.size : Int)) = false := decide_eq_false (by omega)
    have HPS : Hid ((p : Int) + 1 = (s.size : Int)) := Lib.hid (by omega)
    clear h hx he hp hsuf hsuf2 hps
    go_enter Tryz.func212, Tryz.ntmps212
    go_wp2_with (fail)
    refine hP.mono ?_
    rintro e w1 ⟨rfl, hqs, hbut⟩
    have c0 := hqs.c0
    have c1 := hqs.c1
    have f1 := hqs.f1
    have hbig := hqs.big
    obtain ⟨hmv, hbm⟩ := hqs.next hbut (by omega)
    have HM := Lib.hid hmv; have HN := Lib.hid hbm
    clear hqs hbut hP hmv hbm
    go_wp2
    go_quiet (fail)
    have HFL := Lib.hid (fun n => fail_first s pb (p + 1) ((p : Int) + 1) _ (HM.out.drewN n))
    go_wp2_with (fail)
    refine (HFL.out _).mono ?_
    rintro e w2 ⟨rfl, hq2, hb2⟩
    have HQ2 := Lib.hid hq2; have HB2 := Lib.hid ((HN.out.drewN _).on hb2)
    clear hq2 hb2
    go_wp2
    go_ret
    exact ⟨HB2.out, rfl, _, by rw [HZ.out, ← HPS.out]; exact HQ2.out⟩
  | cons d r =>
    obtain ⟨_, hplt2⟩ := pos_cons hsuf2
    have hps2 := pos_succ hsuf2
    have hidx0 := fun w => pos_idx hsuf2 w
    obtain ⟨p, hp⟩ : ∃ p, pos s (45 :: d :: r) = p := ⟨_, rfl⟩
    rw [hp] at hP hplt hps
    rw [hps] at hplt2 hps2 hidx0
    have HZ := Lib.hid hps
    have HZ2 := Lib.hid hps2
    have hidx : ∀ w, (Instr.index 9 (.string s) (.int .i64 ((p : Int) + 1))).run Tryz.prog w = .ok (.int .u8 d) w := hidx0
    have hd : decide (p + 1 < s.size) = true := decide_eq_true (by omega)
    have hd2 : decide (((p : Int) + 1) < (s.size : Int)) = true := decide_eq_true (by omega)
    have HDN : Hid (d ≠ 62 → opP xs = .no (d :: r)) := Lib.hid fun hn => opP_dashNo he hn
    have HDY : Hid (d = 62 → opP xs = .ok [-1] r) := Lib.hid fun hy => opP_dash (by rw [he, hy])
    clear h hx he hp hsuf hsuf2 hps hps2 hidx0
    by_cases h62 : d = 62
    · rw [HDY.out h62]
      subst h62
      go_enter Tryz.func212, Tryz.ntmps212
      go_wp2_with (fail)
      refine hP.mono ?_
      rintro e w1 ⟨rfl, hqs, hbut⟩
      have c0 := hqs.c0
      have c1 := hqs.c1
      have f1 := hqs.f1
      have hbig := hqs.big
      obtain ⟨hmv, hbm⟩ := hqs.next hbut (by omega)
      obtain ⟨hmv2, hbm2⟩ := hmv.next hbm (by omega)
      have e2 : ((p + 1 : Nat) : Int) + 1 = (p : Int) + 1 + 1 := by omega
      rw [e2] at hmv2 hbm2
      have HM := Lib.hid hmv2; have HN := Lib.hid hbm2
      clear hqs hbut hP hmv hbm hmv2 hbm2 e2
      go_wp2
      go_quiet (fail)
      go_wp2
      go_ret
      exact ⟨HN.out.drewN _, rfl, by rw [HZ2.out]; exact HM.out.drewN _⟩
    · rw [HDN.out h62]
      have e62 : (d == 62) = false := by simpa using h62
      clear h62
      go_enter Tryz.func212, Tryz.ntmps212
      go_wp2_with (fail)
      refine hP.mono ?_
      rintro e w1 ⟨rfl, hqs, hbut⟩
      have c0 := hqs.c0
      have c1 := hqs.c1
      have f1 := hqs.f1
      have hbig := hqs.big
      obtain ⟨hmv, hbm⟩ := hqs.next hbut (by omega)
      have HM := Lib.hid hmv; have HN := Lib.hid hbm
      have HFL := Lib.hid (fun n => fail_first s pb (p + 1) ((p : Int) + 1) _ (HM.out.drewN n))
      clear hqs hbut hP hmv hbm
      go_wp2
      go_quiet (fail)
      go_wp2_with (fail)
      refine (HFL.out _).mono ?_
      rintro e w2 ⟨rfl, hq2, hb2⟩
      have HQ2 := Lib.hid hq2; have HB2 := Lib.hid ((HN.out.drewN _).on hb2)
      clear hq2 hb2
      go_wp2
      go_ret
      exact ⟨HB2.out, rfl, _, by rw [HZ.out]; exact HQ2.out⟩

/-- The reading of an operator in the model. -/
theorem sop_any (s : ByteArray) (pb : Nat) (xs : List Int) (w : World) (hx : xs <:+ bl s) (h : QS s pb w (pos s xs) (-1)) :
    Calls Tryz.prog 212 #[.pointer (some ⟨pb, 0, none⟩)] w (OpSaid s pb w (opP xs)) := by
  cases he : skS xs with
  | nil => rw [opP_nil he]; exact op_end s pb xs w hx h he
  | cons c r =>
    by_cases h5 : c = 45
    · subst h5; exact op_dash s pb xs r w hx h he
    · by_cases hc : c = 42 ∨ c = 124 ∨ c = 43 ∨ c = 38
      · rw [opP_sign he hc]; exact op_sign s pb xs r c w hx h he hc
      · have e : opP xs = .no (c :: r) := by
          unfold opP
          rw [he]
          show (if c = 42 then _ else _) = _
          rw [if_neg (by omega), if_neg (by omega), if_neg (by omega), if_neg (by omega), if_neg (by omega)]
        rw [e]
        exact op_other s pb xs r c w hx h he (by omega) (by omega) (by omega) (by omega) h5

theorem own_but {w w' : World} {B pb base n size : Nat} {e : TypeId} {v : Value} {xs : List Value} (h : w.ownsRow base e size v n xs) (hb : But B pb w w') (hB : w.heap.size ≤ B) (hp : pb < base) : w'.ownsRow base e size v n xs := by
  obtain ⟨h1, h2⟩ := h
  refine ⟨h1, ?_⟩
  rcases h2 with h2 | ⟨g, cap, cur, hv, hg, hh, r⟩
  · exact .inl h2
  · refine .inr ⟨g, cap, cur, hv, hg, ?_, r⟩
    have hlt : g < w.heap.size := by
      rcases Nat.lt_or_ge g w.heap.size with hlt | hge
      · exact hlt
      · rw [Array.getElem?_eq_none hge] at hh; cases hh
    rw [hb.block g (by omega) (by omega)]; exact hh

set_option maxHeartbeats 1000000 in
theorem sdualS_any (A : Option Addr) (c : Nat) (f : List Int) (w : World) (h : RdI w w.heap.size A f.length f) (hs : ∀ x ∈ f, symB x) (hlen : f.length ≤ 1000) :
    Calls Tryz.prog 110 #[.slice A f.length c] w (Gives w (f.map duZ)) := by
  obtain ⟨i0, hi0, hz0, hz1, hz2⟩ := info_parts info_i64
  have HA : Hid (∀ k, k < f.length → symB (f.getD k 0)) := Lib.hid fun k hk => hs _ (by simp [List.getD, hk])
  go_enter Tryz.func110, Tryz.ntmps110
  go_wp2
  have h0 : (w.alloc (.cells #[] 2)).ownsRow w.heap.size 2 1 (.slice (some ⟨w.heap.size, 0, none⟩) 0 0) 0 (pre (f.map duZ) 0) := by rw [pre_zero]; exact World.ownsRow_made w #[] 0 (Nat.le_refl _) (by simp [maxLen]) rfl
  have hb0 : Below w.heap.size w (w.alloc (.cells #[] 2)) := (Below.refl _ _).alloc (Nat.le_refl _) _
  have H0 := Lib.hid h0; have HB0 := Lib.hid hb0
  clear h0 hb0 hs
  go_loopw [3, 4] (fun v i wr => ∃ k : Nat, k ≤ f.length ∧ i = .int .i64 k ∧ wr.ownsRow w.heap.size 2 1 v k (pre (f.map duZ) k) ∧ Below w.heap.size w wr)
    (fun _ i _ => f.length - (intOf i).toNat)
  case atStart => exact ⟨0, Nat.zero_le _, rfl, H0.out, HB0.out⟩
  case round =>
    obtain ⟨k, hk, rfl, hown, hb⟩ := hrel
    by_cases hlt : k < f.length
    · obtain ⟨b, off, rfl, hbb, hcells⟩ := h.2 (by omega)
      have hc := (hb.cell (p := ⟨b, off + k, none⟩) hbb).trans (hcells k hlt)
      have hcase := HA.out k hlt
      have hstep : pre (f.map duZ) k ++ [.int .i64 (duZ (f.getD k 0))] = pre (f.map duZ) (k + 1) := pre_step (by simpa using hlt) (map_at f duZ k hlt)
      generalize f.getD k 0 = x at hc hcase hstep
      have HS := Lib.hid hstep
      have HCA := Lib.hid hcase
      have hsz := hb.size
      clear hstep hcells hcase
      go_wp2_with (first | (go_at_call 161; refine (dualSymbol_any x _ HCA.out).mono ?_; rintro e w' ⟨rfl, rfl⟩) | (at_builtin; refine wpList_append_own _ rfl _ _ 28 rfl w.heap.size 2 i0 (.int .i64 0) 1 8 Tryz.underlying28 hi0 hz0 hz1 hz2 rfl (by decide) _ _ _ rfl (hown.alloc _) ⟨wr.heap.size, 0, none⟩ 1 1 [.int .i64 (duZ x)] rfl rfl ?c1 ?c2 ?c3 ?c4 ?c5 ?_))
      case c1 => exact cell_one_new _ _ _
      case c2 => intro u hu; simp at hu; subst hu; rfl
      case c3 => unfold maxLen; omega
      case c4 => omega
      case c5 => simp; omega
      intro v' w1 hown' hgrow _
      have hb1 := Lib.hid ((hb.alloc hsz (.cells #[.int .i64 (duZ x)] 2)).grown hgrow (by simp; omega) (fun q hq => (hown.lt q hq).1))
      rw [HS.out] at hown'
      have hown1 := Lib.hid hown'
      clear hown' hgrow hown hb HA
      go_wp2
      go_roundw
      case rel => exact ⟨k + 1, by omega, by go_num, hown1.out, hb1.out⟩
      case measure => simp [intOf]; omega
    · have hkl : k = f.length := by omega
      subst hkl
      obtain ⟨A', cap, rfl⟩ := own_shape hown
      have hown2 : wr.ownsRow w.heap.size 2 1 (.slice A' (f.map duZ).length cap) (f.map duZ).length ((f.map duZ).map (Value.int .i64)) := by
        have e : pre (f.map duZ) f.length = (f.map duZ).map (Value.int .i64) := pre_all (by simp)
        have e2 : (f.map duZ).length = f.length := by simp
        rw [e] at hown; rw [e2]; exact hown
      have HS := Lib.hid hown2; have HB := Lib.hid hb
      have HL : Hid ((f.map duZ).length = f.length) := Lib.hid (by simp)
      clear hown hown2 hb HA
      go_wp2
      go_ret
      exact ⟨_, _, by rw [HL.out]; rfl, HS.out, HB.out⟩

/-- What the reading of a formula leaves in the model. -/
def FormSaid (s : ByteArray) (pb : Nat) (w : World) (res : PR) (e : Ending) (w' : World) : Prop :=
  But w.heap.size pb w w' ∧ match res with
    | .ok f r => ∃ A c, e = .returned (.slice A f.length c) ∧ w'.ownsRow w.heap.size 2 1 (.slice A f.length c) f.length (f.map (Value.int .i64)) ∧ QS s pb w' (pos s r) (-1)
    | .no r => ∃ A c, e = .returned (.slice A 0 c) ∧ ∃ p, QS s pb w' p ((pos s r : Nat) : Int)
theorem FormSaid.mkno {s : ByteArray} {pb p : Nat} {w w' : World} {res : PR} {r : List Int} {A : Option Addr} {c : Nat} (h : res = .no r) (hb : But w.heap.size pb w w') (hq : QS s pb w' p ((pos s r : Nat) : Int)) : FormSaid s pb w res (.returned (.slice A 0 c)) w' := by
  subst h; exact ⟨hb, A, c, rfl, p, hq⟩
theorem FormSaid.mkok {s : ByteArray} {pb : Nat} {w w' : World} {res : PR} {f r : List Int} {A : Option Addr} {c : Nat} (h : res = .ok f r) (hb : But w.heap.size pb w w') (ho : w'.ownsRow w.heap.size 2 1 (.slice A f.length c) f.length (f.map (Value.int .i64)))
    (hq : QS s pb w' (pos s r) (-1)) : FormSaid s pb w res (.returned (.slice A f.length c)) w' := by
  subst h; exact ⟨hb, A, c, rfl, ho, hq⟩
def FormSOk (s : ByteArray) (pb n : Nat) : Prop := ∀ (xs : List Int) (w : World), xs <:+ bl s → QS s pb w (pos s xs) (-1) → xs.length < n →
  Calls Tryz.prog 191 #[.pointer (some ⟨pb, 0, none⟩)] w (FormSaid s pb w (pz n xs))

set_option maxHeartbeats 1000000 in
theorem forms_end (s : ByteArray) (pb : Nat) (xs : List Int) (w : World) (hx : xs <:+ bl s) (h : QS s pb w (pos s xs) (-1)) (he : skS xs = []) :
    Calls Tryz.prog 191 #[.pointer (some ⟨pb, 0, none⟩)] w (FormSaid s pb w (.no [])) := by
  have hP := peek_end s pb xs (-1) w hx h he
  have HZ := Lib.hid (pos_nil s)
  clear h hx he
  go_enter Tryz.func191, Tryz.ntmps191
  go_wp2_with (fail)
  refine hP.mono ?_
  rintro e w1 ⟨rfl, hqs, hbut⟩
  have c1 := hqs.c1
  have f1 := hqs.f1
  have hbig := hqs.big
  obtain ⟨hmv, hbm⟩ := hqs.next hbut (Nat.le_refl _)
  have HN := Lib.hid hbm
  have HFL := Lib.hid (fail_first s pb (s.size + 1) (s.size : Int) _ hmv)
  clear hqs hbut hP hmv hbm
  go_wp2_with (fail)
  refine HFL.out.mono ?_
  rintro e w2 ⟨rfl, hq2, hb2⟩
  have HQ2 := Lib.hid hq2; have HB2 := Lib.hid (HN.out.on hb2)
  clear hq2 hb2
  go_wp2
  go_ret
  exact FormSaid.mkno rfl HB2.out (by rw [HZ.out]; exact HQ2.out)

/-- Behind the first byte: what the walks share. -/
theorem forms_first {s : ByteArray} {pb : Nat} {xs r : List Int} {c : Int} {w : World} (hx : xs <:+ bl s) (h : QS s pb w (pos s xs) (-1)) (he : skS xs = c :: r) :
    ∃ p : Nat, pos s (c :: r) = p ∧ p < s.size ∧ pos s r = p + 1 ∧ r <:+ bl s ∧ r.length < xs.length ∧ (0 ≤ c ∧ c ≤ 255) ∧
      Calls Tryz.prog 210 #[.pointer (some ⟨pb, 0, none⟩)] w fun e w' => e = .returned (.int .u8 c) ∧ QS s pb w' p (-1) ∧ But w.heap.size pb w w' := by
  have hsuf : (c :: r) <:+ bl s := (he ▸ skS_suf xs : (c :: r) <:+ xs).trans hx
  obtain ⟨hcb, hr2, hs2⟩ := head_byte hx he
  exact ⟨_, rfl, (pos_cons hsuf).2, pos_succ hsuf, (List.suffix_cons c r).trans hsuf, hr2, hcb, peek_c s pb xs c r (-1) w hx h he⟩

set_option maxHeartbeats 2000000 in
theorem forms_other (s : ByteArray) (pb : Nat) (xs r : List Int) (c : Int) (w : World) (hx : xs <:+ bl s) (h : QS s pb w (pos s xs) (-1)) (he : skS xs = c :: r) (ha : ¬ (65 ≤ c ∧ c ≤ 72)) (h1 : c ≠ 49) (h2 : c ≠ 95) (h3 : c ≠ 33) (h4 : c ≠ 63) (h5 : c ≠ 126) (h6 : c ≠ 40) :
    Calls Tryz.prog 191 #[.pointer (some ⟨pb, 0, none⟩)] w (FormSaid s pb w (.no (c :: r))) := by
  obtain ⟨p, hp, hplt, hps, hsr, hrl, hcb, hP⟩ := forms_first hx h he
  have HZ := Lib.hid hp
  have e1 : (c == 49) = false := by simpa using h1
  have e2 : (c == 95) = false := by simpa using h2
  have e3 : (c == 33) = false := by simpa using h3
  have e4 : (c == 63) = false := by simpa using h4
  have e5 : (c == 126) = false := by simpa using h5
  have e6 : (c != 40) = true := by simpa using h6
  clear h hx he hp h1 h2 h3 h4 h5 h6 hps hsr hrl
  by_cases h65 : 65 ≤ c
  · have d1 : decide (65 ≤ c) = true := decide_eq_true h65
    have d2 : decide (c < 73) = false := decide_eq_false (by omega)
    clear ha h65
    go_enter Tryz.func191, Tryz.ntmps191
    go_wp2_with (fail)
    refine hP.mono ?_
    rintro e w1 ⟨rfl, hqs, hbut⟩
    have c1 := hqs.c1
    have f1 := hqs.f1
    have hbig := hqs.big
    obtain ⟨hmv, hbm⟩ := hqs.next hbut (by omega)
    have HN := Lib.hid hbm
    clear hqs hbut hP hbm
    have HFL := Lib.hid (fail_first s pb (p + 1) (p : Int) _ hmv)
    clear hmv
    go_wp2_with (fail)
    refine HFL.out.mono ?_
    rintro e w2 ⟨rfl, hq2, hb2⟩
    have HQ2 := Lib.hid hq2; have HB2 := Lib.hid (HN.out.on hb2)
    clear hq2 hb2
    go_wp2
    go_ret
    exact FormSaid.mkno rfl HB2.out (by rw [HZ.out]; exact HQ2.out)
  · have d1 : decide (65 ≤ c) = false := decide_eq_false h65
    clear ha h65
    go_enter Tryz.func191, Tryz.ntmps191
    go_wp2_with (fail)
    refine hP.mono ?_
    rintro e w1 ⟨rfl, hqs, hbut⟩
    have c1 := hqs.c1
    have f1 := hqs.f1
    have hbig := hqs.big
    obtain ⟨hmv, hbm⟩ := hqs.next hbut (by omega)
    have HN := Lib.hid hbm
    clear hqs hbut hP hbm
    have HFL := Lib.hid (fail_first s pb (p + 1) (p : Int) _ hmv)
    clear hmv
    go_wp2_with (fail)
    refine HFL.out.mono ?_
    rintro e w2 ⟨rfl, hq2, hb2⟩
    have HQ2 := Lib.hid hq2; have HB2 := Lib.hid (HN.out.on hb2)
    clear hq2 hb2
    go_wp2
    go_ret
    exact FormSaid.mkno rfl HB2.out (by rw [HZ.out]; exact HQ2.out)

theorem one_lit {s : ByteArray} {pb p q : Nat} {w wm : World} {r : List Int} {z y : Int} (hz : pos s r = p + 1) (hb : But w.heap.size pb w wm) (hm : QS s pb wm (p + 1) (-1)) (hq : q = wm.heap.size) (hzy : z = y) :
    FormSaid s pb w (.ok [y] r) (.returned (.slice (some ⟨q, 0, none⟩) 1 1)) (wm.alloc (.cells #[.int .i64 z] 2)) := by
  subst hq hzy
  have hbel : Below wm.heap.size wm (wm.alloc (.cells #[.int .i64 z] 2)) := (Below.refl _ _).alloc (Nat.le_refl _) _
  exact FormSaid.mkok rfl (hb.on (But.of_below hbel)) (World.ownsRow_lit (base := w.heap.size) (e := 2) (size := 1) wm #[.int .i64 z] 1 hb.size (by simp [maxLen]) rfl) (by rw [hz]; exact hm.below hbel)

set_option maxHeartbeats 2000000 in
theorem forms_atom (s : ByteArray) (pb : Nat) (xs r : List Int) (c : Int) (w : World) (hx : xs <:+ bl s) (h : QS s pb w (pos s xs) (-1)) (he : skS xs = c :: r) (ha : 65 ≤ c ∧ c ≤ 72) :
    Calls Tryz.prog 191 #[.pointer (some ⟨pb, 0, none⟩)] w (FormSaid s pb w (.ok [c - 64] r)) := by
  obtain ⟨p, hp, hplt, hps, hsr, hrl, hcb, hP⟩ := forms_first hx h he
  have HZ := Lib.hid hps
  have d1 : decide (65 ≤ c) = true := decide_eq_true ha.1
  have d2 : decide (c < 73) = true := decide_eq_true (by omega)
  have hc1 : 65 ≤ c := ha.1
  have hc2 : c ≤ 72 := ha.2
  clear h hx he hp hps hsr hrl ha hcb
  go_enter Tryz.func191, Tryz.ntmps191
  go_wp2_with (fail)
  refine hP.mono ?_
  rintro e w1 ⟨rfl, hqs, hbut⟩
  have c1 := hqs.c1
  have f1 := hqs.f1
  have hbig := hqs.big
  obtain ⟨hmv, hbm⟩ := hqs.next hbut (by omega)
  have HN := Lib.hid hbm
  clear hqs hbut hP hbm
  have HM := Lib.hid hmv
  clear hmv
  go_wp2
  go_ret
  exact one_lit HZ.out HN.out HM.out (by simp [World.setCell]) (by omega)

set_option maxHeartbeats 2000000 in
theorem forms_unit (s : ByteArray) (pb : Nat) (xs r : List Int) (c : Int) (w : World) (hx : xs <:+ bl s) (h : QS s pb w (pos s xs) (-1)) (he : skS xs = c :: r) (hc : c = 49 ∨ c = 95) :
    Calls Tryz.prog 191 #[.pointer (some ⟨pb, 0, none⟩)] w (FormSaid s pb w (.ok [syZ c] r)) := by
  obtain ⟨p, hp, hplt, hps, hsr, hrl, hcb, hP⟩ := forms_first hx h he
  have HZ := Lib.hid hps
  clear h hx he hp hps hsr hrl hcb
  rcases hc with rfl | rfl
  all_goals
    go_enter Tryz.func191, Tryz.ntmps191
    go_wp2_with (fail)
    refine hP.mono ?_
    rintro e w1 ⟨rfl, hqs, hbut⟩
    have c1 := hqs.c1
    have f1 := hqs.f1
    have hbig := hqs.big
    obtain ⟨hmv, hbm⟩ := hqs.next hbut (by omega)
    have HN := Lib.hid hbm
    clear hqs hbut hP hbm
    have HM := Lib.hid hmv
    clear hmv
    go_wp2
    go_ret
    exact one_lit HZ.out HN.out HM.out (by simp [World.setCell]) (by decide)

theorem exponential_any (b : Bool) (w : World) : Calls Tryz.prog 211 #[.bool b] w fun e w' => e = .returned (.int .i64 (if b then 17 else 18)) ∧ w = w' := by
  cases b
  all_goals
    go_enter Tryz.func211, Tryz.ntmps211
    go_wp2
    go_ret
    exact ⟨rfl, rfl⟩

/-- A failing part: the model takes the dual of nothing. -/
theorem dual_none {s : ByteArray} {pb p : Nat} {w w2 : World} {A : Option Addr} {c : Nat} {bad : Int} (hb : But w.heap.size pb w w2) (hq : QS s pb w2 p bad) :
    Calls Tryz.prog 110 #[.slice A 0 c] w2 fun e w' => ∃ A' c', e = .returned (.slice A' 0 c') ∧ But w.heap.size pb w w' ∧ QS s pb w' p bad := by
  refine (sdualS_any A c [] w2 (RdI.nil _ _ _) (by simp) (by simp)).mono ?_
  rintro e w' ⟨A', c', rfl, _, hbel⟩
  exact ⟨A', c', rfl, hb.on (But.of_below hbel), hq.below hbel⟩

set_option maxHeartbeats 4000000 in
theorem forms_not (s : ByteArray) (pb n : Nat) (xs r : List Int) (w : World) (hs : s.size ≤ 200) (ih : FormSOk s pb n) (hx : xs <:+ bl s) (h : QS s pb w (pos s xs) (-1)) (he : skS xs = 126 :: r) (hn : xs.length < n + 1) :
    Calls Tryz.prog 191 #[.pointer (some ⟨pb, 0, none⟩)] w (FormSaid s pb w (match pz n r with
          | .ok f r' => .ok (f.map duZ) r'
          | .no r' => .no r')) := by
  obtain ⟨p, hp, hplt, hps, hsr, hrl, hcb, hP⟩ := forms_first hx h he
  have HZ := Lib.hid hps
  have HIH := Lib.hid ih
  have HSR := Lib.hid hsr
  have hsz := pz_suf n r
  have hrs := hsr.length_le
  rw [bl_len] at hrs
  generalize hR : pz n r = R at hsz ⊢
  have HR := Lib.hid hR
  clear h hx he hp hps hsr hcb ih hR
  go_enter Tryz.func191, Tryz.ntmps191
  go_wp2_with (fail)
  refine hP.mono ?_
  rintro e w1 ⟨rfl, hqs, hbut⟩
  have c1 := hqs.c1
  have f1 := hqs.f1
  have hbig := hqs.big
  obtain ⟨hmv, hbm⟩ := hqs.next hbut (by omega)
  have HN := Lib.hid hbm
  clear hqs hbut hP hbm
  have hih := HIH.out r _ HSR.out (by rw [HZ.out]; exact hmv) (by omega)
  rw [HR.out] at hih
  clear hmv
  go_wp2_with (fail)
  refine hih.mono ?_
  rcases hsz with ⟨f, r', rfl, hf1, hf2, hf3, hf4⟩ | ⟨r', rfl, hr⟩
  · rintro e w2 ⟨hb2, A2, c2, rfl, o2, hq2⟩
    have HB2 := Lib.hid (HN.out.on hb2)
    have HQ2 := Lib.hid hq2
    have hd := Lib.hid (sdualS_any A2 c2 f w2 (RdI.of_own o2) hf4 (by omega))
    have HL : Hid ((f.map duZ).length = f.length) := Lib.hid (by simp)
    clear hb2 o2 hq2 hih
    go_wp2_with (fail)
    refine hd.out.mono ?_
    rintro e w3 ⟨A3, c3, rfl, o3, bel3⟩
    have HO3 := Lib.hid (own_more o3 HB2.out.size)
    have HB3 := Lib.hid (HB2.out.on (But.of_below bel3))
    have HQ3 := Lib.hid (HQ2.out.below bel3)
    clear o3 bel3
    have hfin := FormSaid.mkok (res := .ok (f.map duZ) r') rfl HB3.out HO3.out HQ3.out
    rw [HL.out] at hfin
    have HFIN := Lib.hid hfin
    clear hfin
    go_wp2
    go_ret
    exact HFIN.out
  · rintro e w2 ⟨hb2, A2, c2, rfl, p2, hq2⟩
    have hd := Lib.hid (dual_none (A := A2) (c := c2) (HN.out.on hb2) hq2)
    clear hb2 hq2 hih
    go_wp2_with (fail)
    refine hd.out.mono ?_
    rintro e w3 ⟨A3, c3, rfl, hb3, hq3⟩
    have HB3 := Lib.hid hb3; have HQ3 := Lib.hid hq3
    clear hb3 hq3
    go_wp2
    go_ret
    exact FormSaid.mkno rfl HB3.out HQ3.out

/-- What the append behind an exponential leaves. -/
theorem exp_news {s : ByteArray} {pb p : Nat} {w w2 w3 : World} {op : Int} {f r' : List Int} {v3 : Value} (HB2 : Hid (But w.heap.size pb w w2)) (HQ2 : Hid (QS s pb w2 p (-1))) (hp : pos s r' = p)
    (hown : w3.ownsRow w2.heap.size 2 1 v3 (1 + f.length) ([.int .i64 op] ++ f.map (Value.int .i64))) (hgrow : (w2.alloc (.cells #[.int .i64 op] 2)).grownBy w3 (Value.slice (some ⟨w2.heap.size, 0, none⟩) 1 1).ownBlock) :
    ∃ A c, v3 = .slice A (1 + f.length) c ∧ Hid (FormSaid s pb w (.ok (op :: f) r') (.returned (.slice A (1 + f.length) c)) w3) := by
  obtain ⟨A, c, rfl⟩ := own_shape hown
  have hl : (op :: f).length = 1 + f.length := by simp; omega
  have hm : [.int .i64 op] ++ f.map (Value.int .i64) = (op :: f).map (Value.int .i64) := by simp
  have hbel : Below w2.heap.size w2 w3 := ((Below.refl _ _).alloc (Nat.le_refl _) _).grown hgrow (by simp) (fun k hk => by simp [Value.ownBlock] at hk; omega)
  rw [hm, ← hl] at hown
  have := FormSaid.mkok (res := .ok (op :: f) r') rfl (HB2.out.on (But.of_below hbel)) (own_more hown HB2.out.size) (by rw [hp]; exact HQ2.out.below hbel)
  rw [hl] at this
  exact ⟨A, c, rfl, this⟩

set_option maxRecDepth 100000 in
set_option maxHeartbeats 4000000 in
theorem forms_exp33 (s : ByteArray) (pb n : Nat) (xs r : List Int) (w : World) (hs : s.size ≤ 200) (ih : FormSOk s pb n) (hx : xs <:+ bl s) (h : QS s pb w (pos s xs) (-1)) (he : skS xs = 33 :: r) (hn : xs.length < n + 1) :
    Calls Tryz.prog 191 #[.pointer (some ⟨pb, 0, none⟩)] w (FormSaid s pb w (match pz n r with
          | .ok f r' => .ok (17 :: f) r'
          | .no r' => .no r')) := by
  obtain ⟨i0, hi0, hz0, hz1, hz2⟩ := info_parts info_i64
  have HI := Lib.hid hi0; have HZ0 := Lib.hid hz0; have HZ1 := Lib.hid hz1; have HZ2 := Lib.hid hz2
  obtain ⟨p, hp, hplt, hps, hsr, hrl, hcb, hP⟩ := forms_first hx h he
  have HZ := Lib.hid hps
  have HIH := Lib.hid ih
  have HSR := Lib.hid hsr
  have hsz := pz_suf n r
  have hrs := hsr.length_le
  rw [bl_len] at hrs
  generalize hR : pz n r = R at hsz ⊢
  have HR := Lib.hid hR
  clear h hx he hp hps hsr hcb ih hR hi0 hz0 hz1 hz2
  go_enter Tryz.func191, Tryz.ntmps191
  go_wp2_with (fail)
  refine hP.mono ?_
  rintro e w1 ⟨rfl, hqs, hbut⟩
  have c1 := hqs.c1
  have f1 := hqs.f1
  have hbig := hqs.big
  obtain ⟨hmv, hbm⟩ := hqs.next hbut (by omega)
  have HN := Lib.hid hbm
  clear hqs hbut hP hbm
  have hih := HIH.out r _ HSR.out (by rw [HZ.out]; exact hmv) (by omega)
  rw [HR.out] at hih
  clear hmv
  go_wp2_with (fail)
  refine hih.mono ?_
  rcases hsz with ⟨f, r', rfl, hf1, hf2, hf3, hf4⟩ | ⟨r', rfl, hr⟩
  · rintro e w2 ⟨hb2, A2, c2, rfl, o2, hq2⟩
    have q2 := hq2.c2
    have HB2 := Lib.hid (HN.out.on hb2)
    obtain ⟨p2, hp2⟩ : ∃ p2, pos s r' = p2 := ⟨_, rfl⟩
    rw [hp2] at hq2
    have HQ2 := Lib.hid hq2
    have HP2 := Lib.hid hp2
    obtain ⟨b1, off1, rfl, hb1, hc1⟩ := (RdI.of_own o2).2 (by omega)
    have H0 := World.ownsRow_lit (base := w2.heap.size) (e := 2) (size := 1) w2 #[.int .i64 17] 1 (Nat.le_refl _) (by simp [maxLen]) rfl
    have hb0 : Below w2.heap.size w2 (w2.alloc (.cells #[.int .i64 17] 2)) := (Below.refl _ _).alloc (Nat.le_refl _) _
    have HN1 : Hid (∀ j u, (f.map (Value.int .i64))[j]? = some u → (w2.alloc (.cells #[.int .i64 17] 2)).cell? ((⟨b1, off1, none⟩ : Addr).add j) = some u) := Lib.hid (part_news (fun j hj => (hb0.cell (p := ⟨b1, off1 + j, none⟩) hb1).trans (hc1 j hj)))
    have HB0 := Lib.hid hb0.size
    have HL1 : Hid ((f.map (Value.int .i64)).length = f.length * 1) := Lib.hid (by simp)
    have HHO := Lib.hid (ints_one f)
    have HM1 : Hid (1 + f.length ≤ maxLen) := Lib.hid (by unfold maxLen; omega)
    have HS1 : Hid ((1 + f.length) * 8 ≤ 140737488355328) := Lib.hid (by omega)
    have HH0 := Lib.hid H0
    clear hb2 o2 hq2 hih hf4 hb0 hc1 H0 hp2
    go_wp2_with (first | (go_at_call 211; refine (exponential_any _ _).mono ?_; rintro e w' ⟨rfl, rfl⟩) | (at_builtin; refine wpList_append_own _ rfl (.tmp 69) (.tmp 70) 28 rfl w2.heap.size 2 i0 (.int .i64 0) 1 8 Tryz.underlying28 HI.out HZ0.out HZ1.out HZ2.out rfl (by decide) _ _ _ rfl HH0.out ⟨b1, off1, none⟩ f.length c2 (f.map (Value.int .i64)) rfl HL1.out HN1.out HHO.out HM1.out HS1.out HB0.out ?_; intro v3 w3 hown3 hgrow3 _; obtain ⟨A3, c3, rfl, HF⟩ := exp_news HB2 HQ2 HP2.out hown3 hgrow3; clear hown3 hgrow3))
    go_ret
    exact HF.out
  · rintro e w2 ⟨hb2, A2, c2, rfl, p2, hq2⟩
    have q2 := hq2.c2
    have hd := Lib.hid (dual_none (A := A2) (c := c2) (HN.out.on hb2) hq2)
    clear hb2 hq2 hih
    go_wp2_with (fail)
    refine hd.out.mono ?_
    rintro e w3 ⟨A3, c3, rfl, hb3, hq3⟩
    have HB3 := Lib.hid hb3; have HQ3 := Lib.hid hq3
    clear hb3 hq3
    go_wp2
    go_ret
    exact FormSaid.mkno rfl HB3.out HQ3.out

set_option maxRecDepth 100000 in
set_option maxHeartbeats 4000000 in
theorem forms_exp63 (s : ByteArray) (pb n : Nat) (xs r : List Int) (w : World) (hs : s.size ≤ 200) (ih : FormSOk s pb n) (hx : xs <:+ bl s) (h : QS s pb w (pos s xs) (-1)) (he : skS xs = 63 :: r) (hn : xs.length < n + 1) :
    Calls Tryz.prog 191 #[.pointer (some ⟨pb, 0, none⟩)] w (FormSaid s pb w (match pz n r with
          | .ok f r' => .ok (18 :: f) r'
          | .no r' => .no r')) := by
  obtain ⟨i0, hi0, hz0, hz1, hz2⟩ := info_parts info_i64
  have HI := Lib.hid hi0; have HZ0 := Lib.hid hz0; have HZ1 := Lib.hid hz1; have HZ2 := Lib.hid hz2
  obtain ⟨p, hp, hplt, hps, hsr, hrl, hcb, hP⟩ := forms_first hx h he
  have HZ := Lib.hid hps
  have HIH := Lib.hid ih
  have HSR := Lib.hid hsr
  have hsz := pz_suf n r
  have hrs := hsr.length_le
  rw [bl_len] at hrs
  generalize hR : pz n r = R at hsz ⊢
  have HR := Lib.hid hR
  clear h hx he hp hps hsr hcb ih hR hi0 hz0 hz1 hz2
  go_enter Tryz.func191, Tryz.ntmps191
  go_wp2_with (fail)
  refine hP.mono ?_
  rintro e w1 ⟨rfl, hqs, hbut⟩
  have c1 := hqs.c1
  have f1 := hqs.f1
  have hbig := hqs.big
  obtain ⟨hmv, hbm⟩ := hqs.next hbut (by omega)
  have HN := Lib.hid hbm
  clear hqs hbut hP hbm
  have hih := HIH.out r _ HSR.out (by rw [HZ.out]; exact hmv) (by omega)
  rw [HR.out] at hih
  clear hmv
  go_wp2_with (fail)
  refine hih.mono ?_
  rcases hsz with ⟨f, r', rfl, hf1, hf2, hf3, hf4⟩ | ⟨r', rfl, hr⟩
  · rintro e w2 ⟨hb2, A2, c2, rfl, o2, hq2⟩
    have q2 := hq2.c2
    have HB2 := Lib.hid (HN.out.on hb2)
    obtain ⟨p2, hp2⟩ : ∃ p2, pos s r' = p2 := ⟨_, rfl⟩
    rw [hp2] at hq2
    have HQ2 := Lib.hid hq2
    have HP2 := Lib.hid hp2
    obtain ⟨b1, off1, rfl, hb1, hc1⟩ := (RdI.of_own o2).2 (by omega)
    have H0 := World.ownsRow_lit (base := w2.heap.size) (e := 2) (size := 1) w2 #[.int .i64 18] 1 (Nat.le_refl _) (by simp [maxLen]) rfl
    have hb0 : Below w2.heap.size w2 (w2.alloc (.cells #[.int .i64 18] 2)) := (Below.refl _ _).alloc (Nat.le_refl _) _
    have HN1 : Hid (∀ j u, (f.map (Value.int .i64))[j]? = some u → (w2.alloc (.cells #[.int .i64 18] 2)).cell? ((⟨b1, off1, none⟩ : Addr).add j) = some u) := Lib.hid (part_news (fun j hj => (hb0.cell (p := ⟨b1, off1 + j, none⟩) hb1).trans (hc1 j hj)))
    have HB0 := Lib.hid hb0.size
    have HL1 : Hid ((f.map (Value.int .i64)).length = f.length * 1) := Lib.hid (by simp)
    have HHO := Lib.hid (ints_one f)
    have HM1 : Hid (1 + f.length ≤ maxLen) := Lib.hid (by unfold maxLen; omega)
    have HS1 : Hid ((1 + f.length) * 8 ≤ 140737488355328) := Lib.hid (by omega)
    have HH0 := Lib.hid H0
    clear hb2 o2 hq2 hih hf4 hb0 hc1 H0 hp2
    go_wp2_with (first | (go_at_call 211; refine (exponential_any _ _).mono ?_; rintro e w' ⟨rfl, rfl⟩) | (at_builtin; refine wpList_append_own _ rfl (.tmp 69) (.tmp 70) 28 rfl w2.heap.size 2 i0 (.int .i64 0) 1 8 Tryz.underlying28 HI.out HZ0.out HZ1.out HZ2.out rfl (by decide) _ _ _ rfl HH0.out ⟨b1, off1, none⟩ f.length c2 (f.map (Value.int .i64)) rfl HL1.out HN1.out HHO.out HM1.out HS1.out HB0.out ?_; intro v3 w3 hown3 hgrow3 _; obtain ⟨A3, c3, rfl, HF⟩ := exp_news HB2 HQ2 HP2.out hown3 hgrow3; clear hown3 hgrow3))
    go_ret
    exact HF.out
  · rintro e w2 ⟨hb2, A2, c2, rfl, p2, hq2⟩
    have q2 := hq2.c2
    have hd := Lib.hid (dual_none (A := A2) (c := c2) (HN.out.on hb2) hq2)
    clear hb2 hq2 hih
    go_wp2_with (fail)
    refine hd.out.mono ?_
    rintro e w3 ⟨A3, c3, rfl, hb3, hq3⟩
    have HB3 := Lib.hid hb3; have HQ3 := Lib.hid hq3
    clear hb3 hq3
    go_wp2
    go_ret
    exact FormSaid.mkno rfl HB3.out HQ3.out

set_option maxRecDepth 100000 in
set_option maxHeartbeats 8000000 in
theorem forms_pair (s : ByteArray) (pb n : Nat) (xs r : List Int) (w : World) (hs : s.size ≤ 200) (ih : FormSOk s pb n) (hx : xs <:+ bl s) (h : QS s pb w (pos s xs) (-1)) (he : skS xs = 40 :: r) (hn : xs.length < n + 1) :
    Calls Tryz.prog 191 #[.pointer (some ⟨pb, 0, none⟩)] w (FormSaid s pb w (pairP n r)) := by
  have hpb := h.lt
  obtain ⟨p, hp, hplt, hps, hsr, hrl, hcb, hP⟩ := forms_first hx h he
  have HZ := Lib.hid hps
  have HIH := Lib.hid ih
  have HSR := Lib.hid hsr
  have hsz := pz_suf n r
  have hrs := hsr.length_le
  rw [bl_len] at hrs
  generalize hQ : pairP n r = RES
  have HQ := Lib.hid hQ
  generalize hR : pz n r = R at hsz
  have HR := Lib.hid hR
  clear h hx he hp hps hsr hcb ih hR hQ
  go_enter Tryz.func191, Tryz.ntmps191
  go_wp2_with (fail)
  refine hP.mono ?_
  rintro e w1 ⟨rfl, hqs, hbut⟩
  have c1 := hqs.c1
  have f1 := hqs.f1
  have hbig := hqs.big
  obtain ⟨hmv, hbm⟩ := hqs.next hbut (by omega)
  have HN := Lib.hid hbm
  clear hqs hbut hP hbm
  have hih := HIH.out r _ HSR.out (by rw [HZ.out]; exact hmv) (by omega)
  rw [HR.out] at hih
  clear hmv
  go_wp2_with (fail)
  refine hih.mono ?_
  rcases hsz with ⟨a, r1, rfl, ha1, ha2, ha3, ha4⟩ | ⟨r1, rfl, _⟩
  rotate_left
  · rintro e w2 ⟨hb2, A2, c2, rfl, p2, hq2⟩
    have q2 := hq2.c2
    have HB2 := Lib.hid (HN.out.on hb2)
    have HQ2 := Lib.hid hq2
    have HE : Hid (RES = .no r1) := Lib.hid (by rw [← HQ.out]; exact pairP_no HR.out)
    clear hb2 hq2 hih
    go_wp2
    go_ret
    exact FormSaid.mkno HE.out HB2.out HQ2.out
  rintro e w2 ⟨hb2, A2, c2, rfl, o2, hq2⟩
  have q2 := hq2.c2
  have HB2 := Lib.hid (HN.out.on hb2)
  have HQ2 := Lib.hid hq2
  have HO2 := Lib.hid (own_more o2 HN.out.size)
  have HA4 := Lib.hid ha4
  have HSR1 := Lib.hid (ha3.trans HSR.out)
  have hop := sop_any s pb r1 w2 HSR1.out hq2
  have hszo := opP_suf r1
  generalize hRo : opP r1 = Ro at hop hszo
  have HRO := Lib.hid hRo
  clear hb2 hq2 hih o2 ha3 ha4 hRo
  go_wp2_with (fail)
  refine hop.mono ?_
  rcases hszo with ⟨op, r2, rfl, lo2, so2, hov⟩ | ⟨r2, rfl, _⟩
  rotate_left
  · rintro e w3 ⟨hb3, rfl, p3, hq3⟩
    have q3 := hq3.c2
    have HB3 := Lib.hid (HB2.out.on hb3)
    have HQ3 := Lib.hid hq3
    have HE : Hid (RES = .no r2) := Lib.hid (by rw [← HQ.out]; exact pairP_op HR.out HRO.out)
    clear hb3 hq3 hop
    go_wp2
    go_ret
    exact FormSaid.mkno HE.out HB3.out HQ3.out
  rintro e w3 ⟨hb3, rfl, hq3⟩
  simp only [List.getD_cons_zero]
  have q3 := hq3.c2
  have HB3 := Lib.hid (HB2.out.on hb3)
  have HO3 := Lib.hid (own_but HO2.out hb3 (Nat.le_refl _) hpb)
  have HSR2 := Lib.hid (so2.trans HSR1.out)
  have hszb := pz_suf n r2
  generalize hRb : pz n r2 = Rb at hszb
  have HRB := Lib.hid hRb
  have hihb := HIH.out r2 _ HSR2.out hq3 (by omega)
  rw [HRB.out] at hihb
  clear hb3 hq3 hop so2 hRb
  go_wp2_with (fail)
  refine hihb.mono ?_
  rcases hszb with ⟨b, r3, rfl, hb1, hb2, hb3, hb4⟩ | ⟨r3, rfl, _⟩
  rotate_left
  · rintro e w4 ⟨hbb4, A4, c4, rfl, p4, hq4⟩
    have q4 := hq4.c2
    have HB4 := Lib.hid (HB3.out.on hbb4)
    have HQ4 := Lib.hid hq4
    have HE : Hid (RES = .no r3) := Lib.hid (by rw [← HQ.out]; exact pairP_no2 HR.out HRO.out HRB.out)
    clear hbb4 hq4 hihb
    go_wp2
    go_ret
    exact FormSaid.mkno HE.out HB4.out HQ4.out
  rintro e w4 ⟨hbb4, A4, c4, rfl, o4, hq4⟩
  have q4 := hq4.c2
  have HB4 := Lib.hid (HB3.out.on hbb4)
  have HOA4 := Lib.hid (own_but HO3.out hbb4 (Nat.le_refl _) hpb)
  have HOB4 := Lib.hid (own_more o4 HB3.out.size)
  have HSR3 := Lib.hid (hb3.trans HSR2.out)
  have HEND : Hid (RES = endP op a b r3) := Lib.hid (by rw [← HQ.out]; exact pairP_end HR.out HRO.out HRB.out)
  have HQ4 := Lib.hid hq4
  clear hbb4 hq4 hihb o4 hb3 hb4
  cases hx3 : skS r3 with
  | nil =>
    have HE : Hid (RES = .no []) := Lib.hid (HEND.out.trans (endP_nil hx3))
    have hpk := peek_end s pb r3 (-1) w4 HSR3.out HQ4.out hx3
    have HPZ := Lib.hid (pos_nil s)
    clear hx3
    go_wp2_with (fail)
    refine hpk.mono ?_
    rintro e w5 ⟨rfl, hq5, hb5⟩
    have c15 := hq5.c1
    have HB5 := Lib.hid (HB4.out.on hb5)
    have HFL := Lib.hid (fail_first s pb s.size (s.size : Int) _ hq5)
    clear hq5 hb5 hpk
    go_wp2_with (fail)
    refine HFL.out.mono ?_
    rintro e w6 ⟨rfl, hq6, hb6⟩
    have HB6 := Lib.hid (HB5.out.on hb6)
    have HQ6 := Lib.hid hq6
    clear hb6 hq6
    go_wp2
    go_ret
    exact FormSaid.mkno HE.out HB6.out (by rw [HPZ.out]; exact HQ6.out)
  | cons c3 r4 =>
    have hsuf3 : (c3 :: r4) <:+ bl s := (hx3 ▸ skS_suf r3 : (c3 :: r4) <:+ r3).trans HSR3.out
    obtain ⟨_, hplt4⟩ := pos_cons hsuf3
    have hps4 := pos_succ hsuf3
    have hpk := peek_c s pb r3 c3 r4 (-1) w4 HSR3.out HQ4.out hx3
    obtain ⟨p4, hp4⟩ : ∃ p4, pos s (c3 :: r4) = p4 := ⟨_, rfl⟩
    rw [hp4] at hpk hplt4 hps4
    have HP4 := Lib.hid hp4; have HPS4 := Lib.hid hps4
    by_cases h41 : c3 = 41
    · subst h41
      have HE : Hid (RES = .ok (putP op a b) r4) := Lib.hid (HEND.out.trans (endP_yes hx3))
      clear hx3 hsuf3 hp4 hps4
      go_wp2_with (fail)
      refine hpk.mono ?_
      rintro e w5 ⟨rfl, hq5, hb5⟩
      have c15 := hq5.c1
      have f15 := hq5.f1
      have hbig5 := hq5.big
      obtain ⟨hmv5, hbm5⟩ := hq5.next (HB4.out.on hb5) (by omega)
      have hon5 : But w4.heap.size pb w4 (w5.setCell ⟨pb, 1, none⟩ (.int .i64 ((p4 : Int) + 1))) := hb5.setCell (p := ⟨pb, 1, none⟩) (.inl rfl) _
      have HOA6 := Lib.hid (own_but HOA4.out hon5 (Nat.le_refl _) hpb)
      have HOB6 := Lib.hid (own_but HOB4.out hon5 (Nat.le_refl _) hpb)
      have HM6 := Lib.hid hmv5; have HB6 := Lib.hid hbm5
      clear hq5 hb5 hpk hmv5 hbm5 hon5
      by_cases hneg : op < 0
      · have hopn : op = -1 := by omega
        subst hopn
        have hdu := sdualS_any A2 c2 a _ (RdI.of_own HOA6.out) HA4.out (by omega)
        have HDU := Lib.hid hdu
        clear hdu
        go_wp2_with (fail)
        refine HDU.out.mono ?_
        rintro e w7 ⟨A7, c7, rfl, o7, bel7⟩
        have hlm : (a.map duZ).length = a.length := by simp
        have ob7 := own_below HOB6.out bel7 (Nat.le_refl _)
        have hjo := sjoined_any 12 A7 (a.map duZ).length c7 (a.map duZ) A4 b.length c4 b w7 (RdI.of_own o7) (RdI.of_own ob7) (by omega) (by omega) (by omega) (by omega)
        rw [hlm] at hjo
        have HJO := Lib.hid hjo
        have HB7 := Lib.hid (HB6.out.on (But.of_below bel7))
        have HM7 := Lib.hid (HM6.out.below bel7)
        have HPUT : Hid (putP (-1) a b = 12 :: (a.map duZ ++ b)) := Lib.hid (by unfold putP; rw [if_pos (by decide)])
        have HLJ : Hid ((12 :: (a.map duZ ++ b)).length = (putP (-1) a b).length) := Lib.hid (by rw [HPUT.out])
        clear o7 bel7 ob7 hjo hlm
        go_wp2_with (fail)
        refine HJO.out.mono ?_
        rintro e w8 ⟨A8, c8, rfl, o8, bel8⟩
        have hfin := FormSaid.mkok (A := A8) (c := c8) HE.out (HB7.out.on (But.of_below bel8)) (by rw [HPUT.out]; exact own_more o8 HB7.out.size) (by rw [HPS4.out]; exact HM7.out.below bel8)
        rw [HPUT.out] at hfin
        generalize 12 :: (a.map duZ ++ b) = J at hfin ⊢
        have HFIN := Lib.hid hfin
        clear hfin o8 bel8
        go_wp2
        go_ret
        exact HFIN.out
      · have hdn : decide (op < 0) = false := decide_eq_false hneg
        have hjo := sjoined_any op A2 a.length c2 a A4 b.length c4 b _ (RdI.of_own HOA6.out) (RdI.of_own HOB6.out) (by omega) (by omega) (by omega) (by omega)
        have HJO := Lib.hid hjo
        have HPUT : Hid (putP op a b = op :: (a ++ b)) := Lib.hid (by unfold putP; rw [if_neg hneg])
        clear hjo hneg
        go_wp2_with (fail)
        refine HJO.out.mono ?_
        rintro e w8 ⟨A8, c8, rfl, o8, bel8⟩
        have hfin := FormSaid.mkok (A := A8) (c := c8) HE.out (HB6.out.on (But.of_below bel8)) (by rw [HPUT.out]; exact own_more o8 HB6.out.size) (by rw [HPS4.out]; exact HM6.out.below bel8)
        rw [HPUT.out] at hfin
        generalize op :: (a ++ b) = J at hfin ⊢
        have HFIN := Lib.hid hfin
        clear hfin o8 bel8
        go_wp2
        go_ret
        exact HFIN.out
    · have HE : Hid (RES = .no (c3 :: r4)) := Lib.hid (HEND.out.trans (endP_other hx3 h41))
      have e41 : (c3 != 41) = true := by simpa using h41
      clear hx3 hsuf3 hp4 hps4 h41
      go_wp2_with (fail)
      refine hpk.mono ?_
      rintro e w5 ⟨rfl, hq5, hb5⟩
      have c15 := hq5.c1
      have HB5 := Lib.hid (HB4.out.on hb5)
      have HFL := Lib.hid (fail_first s pb p4 (p4 : Int) _ hq5)
      clear hq5 hb5 hpk
      go_wp2_with (fail)
      refine HFL.out.mono ?_
      rintro e w6 ⟨rfl, hq6, hb6⟩
      have HB6 := Lib.hid (HB5.out.on hb6)
      have HQ6 := Lib.hid hq6
      clear hb6 hq6
      go_wp2
      go_ret
      exact FormSaid.mkno HE.out HB6.out (by rw [HP4.out]; exact HQ6.out)

/-- The model reads a formula as 'pz' does. -/
theorem forms_any (s : ByteArray) (pb : Nat) (hs : s.size ≤ 200) : ∀ n, FormSOk s pb n
  | 0 => fun xs w _ _ hn => absurd hn (by omega)
  | n + 1 => fun xs w hx h hn => by
    have ih := forms_any s pb hs n
    cases he : skS xs with
    | nil =>
      have e : pz (n + 1) xs = .no [] := by rw [pz, he]
      rw [e]; exact forms_end s pb xs w hx h he
    | cons c r =>
      by_cases h126 : c = 126
      · subst h126
        have e : pz (n + 1) xs = (match pz n r with
          | .ok f r' => .ok (f.map duZ) r'
          | .no r' => .no r') := by rw [pz, he]; rfl
        rw [e]; exact forms_not s pb n xs r w hs ih hx h he hn
      · by_cases h33 : c = 33
        · subst h33
          have e : pz (n + 1) xs = (match pz n r with
            | .ok f r' => .ok (17 :: f) r'
            | .no r' => .no r') := by rw [pz, he]; rfl
          rw [e]; exact forms_exp33 s pb n xs r w hs ih hx h he hn
        · by_cases h63 : c = 63
          · subst h63
            have e : pz (n + 1) xs = (match pz n r with
              | .ok f r' => .ok (18 :: f) r'
              | .no r' => .no r') := by rw [pz, he]; rfl
            rw [e]; exact forms_exp63 s pb n xs r w hs ih hx h he hn
          · by_cases h40 : c = 40
            · subst h40
              have e : pz (n + 1) xs = pairP n r := by rw [pz, he]; rfl
              rw [e]; exact forms_pair s pb n xs r w hs ih hx h he hn
            · by_cases hat : 65 ≤ c ∧ c ≤ 72
              · have e : pz (n + 1) xs = .ok [c - 64] r := by
                  rw [pz, he]
                  show (if c = 126 then _ else _) = _
                  rw [if_neg h126, if_neg (by omega), if_pos hat]
                rw [e]; exact forms_atom s pb xs r c w hx h he hat
              · by_cases hu : c = 49 ∨ c = 95
                · have e : pz (n + 1) xs = .ok [syZ c] r := by
                    rw [pz, he]
                    rcases hu with rfl | rfl <;> rfl
                  rw [e]; exact forms_unit s pb xs r c w hx h he hu
                · have e : pz (n + 1) xs = .no (c :: r) := by
                    rw [pz, he]
                    show (if c = 126 then _ else _) = _
                    rw [if_neg h126, if_neg (by omega), if_neg hat, if_neg (by omega), if_neg (by omega), if_neg h40]
                  rw [e]; exact forms_other s pb xs r c w hx h he hat (by omega) (by omega) h33 h63 h126 h40

theorem pos_drop (s : ByteArray) {p : Nat} (hp : p ≤ s.size) : pos s ((bl s).drop p) = p := by
  unfold pos; rw [List.length_drop, bl_len]; omega
theorem sskip_some (s : ByteArray) (pb p : Nat) (bad : Int) (w : World) (h : QS s pb w p bad) :
    Calls Tryz.prog 192 #[.pointer (some ⟨pb, 0, none⟩)] w fun e w' => e = .returned (.tuple #[]) ∧ (∃ p', QS s pb w' p' bad) ∧ But w.heap.size pb w w' := by
  by_cases hp : s.size ≤ p
  · exact (sskip_past s pb p bad w hp h).mono fun e w' ⟨h1, h2, h3⟩ => ⟨h1, ⟨_, h2⟩, h3⟩
  · have h' : QS s pb w (pos s ((bl s).drop p)) bad := by rw [pos_drop s (by omega)]; exact h
    exact (sskip_any s pb ((bl s).drop p) bad w (List.drop_suffix _ _) h').mono fun e w' ⟨h1, h2, h3⟩ => ⟨h1, ⟨_, h2⟩, h3⟩

theorem ret_min {a b : Int} (h : a ≤ b) : Ending.returned (.tuple #[.slice none 0 0, .int .i64 (min a b)]) = Ending.returned (.tuple #[.slice none 0 0, .int .i64 a]) := by rw [Int.min_eq_left h]

theorem sparse_start (s : ByteArray) (w : World) (hs : s.size ≤ 1048576) :
    QS s w.heap.size (w.alloc (.cells #[.string s, .int .i64 0, .int .i64 (-1)] 233)) (pos s (bl s)) (-1) ∧
    But (w.alloc (.cells #[.string s, .int .i64 0, .int .i64 (-1)] 233)).heap.size w.heap.size w (w.alloc (.cells #[.string s, .int .i64 0, .int .i64 (-1)] 233)) := by
  have hb : Below w.heap.size w (w.alloc (.cells #[.string s, .int .i64 0, .int .i64 (-1)] 233)) := (Below.refl _ _).alloc (Nat.le_refl _) _
  have h0 : pos s (bl s) = 0 := by unfold pos; rw [bl_len]; omega
  rw [h0]
  refine ⟨⟨by simp, by simp, by simp, by simp, by simp [go_sem], by simp [go_sem], hs, by omega⟩, ?_⟩
  refine ⟨hb.os, hb.tape, hb.output, hb.size, fun k hk hn => hb.block k ?_⟩
  simp at hk
  omega

set_option maxRecDepth 100000 in
set_option maxHeartbeats 4000000 in
theorem sParseForm_any (s : ByteArray) (w : World) (hs : s.size ≤ 1048576) :
    Calls Tryz.prog 166 #[.string s] w (GivesZ w (pfL (bl s)) (pfZ (bl s))) := by
  by_cases h200 : s.size ≤ 200
  · have hd : decide (200 < (s.size : Int)) = false := decide_eq_false (by omega)
    obtain ⟨hqs, hbu⟩ := sparse_start s w (by omega)
    have HF := Lib.hid (forms_any s w.heap.size h200 ((bl s).length + 1) (bl s) _ (List.suffix_refl _) hqs (by omega))
    have HBU := Lib.hid hbu
    have hsz := pz_suf ((bl s).length + 1) (bl s)
    generalize hR : pz ((bl s).length + 1) (bl s) = R at hsz
    have HR := Lib.hid hR
    clear hqs hbu hR
    go_enter Tryz.func166, Tryz.ntmps166
    go_wp2_with (fail)
    refine HF.out.mono ?_
    rw [HR.out]
    rcases hsz with ⟨f, r, rfl, hf1, hf2, hf3, hf4⟩ | ⟨r, rfl, hr⟩
    · rintro e w2 ⟨hb2, A2, c2, rfl, o2, hq2⟩
      have hB2 := HBU.out.trans hb2
      have hsk := sskip_any s w.heap.size r (-1) w2 hf3 hq2
      rw [bl_len] at hf2
      have HPB : Hid (w.heap.size < (w.alloc (.cells #[.string s, .int .i64 0, .int .i64 (-1)] 233)).heap.size) := Lib.hid (by simp)
      have HS2 := Lib.hid hb2.size
      have HB2 := Lib.hid hB2
      have HO2 := Lib.hid o2
      have HSF := Lib.hid hf3
      clear hb2 o2 hq2 hf4 hf3 hB2
      go_wp2_with (fail)
      refine hsk.mono ?_
      rintro e w3 ⟨rfl, hq3, hb3⟩
      have HO3 := Lib.hid (own_more (own_but HO2.out hb3 (Nat.le_refl _) HPB.out) (Nat.le_of_lt HPB.out))
      have HB3 := Lib.hid (HB2.out.trans (hb3.mono HS2.out))
      have hcap := (own_cap HO3.out).1
      have HS3 := Lib.hid (Nat.le_trans HS2.out hb3.size)
      clear hb3 hsk
      cases hx : skS r with
      | nil =>
        rw [hx, pos_nil] at hq3
        have c1 := hq3.c1
        have c2' := hq3.c2
        obtain ⟨e1, e2⟩ := pfL_ok (L := bl s) (by rw [bl_len]; exact h200) HR.out hx
        rw [bl_len] at e2
        have HE1 := Lib.hid e1; have HE2 := Lib.hid e2
        have hlt : decide (s.size < s.size) = false := decide_eq_false (by omega)
        clear hq3 hx e1 e2
        by_cases h24 : f.length ≤ 24
        · have hd2 : decide (24 < (f.length : Int)) = false := decide_eq_false (by omega)
          have HL : Hid (pfL (bl s) = f) := Lib.hid (by rw [HE1.out, if_pos h24])
          have HZ : Hid (pfZ (bl s) = -1) := Lib.hid (by rw [HE2.out, if_pos h24])
          clear HE1 HE2
          go_wp2
          go_ret2
          refine ⟨A2, c2, ?_, by rw [HL.out]; exact HO3.out, HB3.out.below (Nat.le_of_lt HPB.out)⟩
          rw [HL.out, HZ.out]; rfl
        · have hd2 : decide (24 < (f.length : Int)) = true := decide_eq_true (by omega)
          have HL : Hid (pfL (bl s) = []) := Lib.hid (by rw [HE1.out, if_neg h24])
          have HZ : Hid (pfZ (bl s) = (s.size : Int)) := Lib.hid (by rw [HE2.out, if_neg h24])
          clear HE1 HE2
          go_wp2
          go_ret2
          refine ⟨none, 0, ?_, by rw [HL.out]; exact World.ownsRow_nil _ _ _ _, HB3.out.below (Nat.le_of_lt HPB.out)⟩
          rw [HL.out, HZ.out]; rfl
      | cons c r' =>
        rw [hx] at hq3
        have hsuf : (c :: r') <:+ bl s := (hx ▸ skS_suf r : (c :: r') <:+ r).trans HSF.out
        obtain ⟨_, hplt⟩ := pos_cons hsuf
        have hwz := wholeZ_more HR.out hx
        have hwz' : WholeZ (bl s) = ((pos s (c :: r') : Nat) : Int) := by rw [hwz, bl_len]; rfl
        obtain ⟨e1, e2⟩ := pfL_no (L := bl s) (by rw [bl_len]; exact h200) (by rw [hwz']; omega)
        rw [hwz'] at e2
        generalize pos s (c :: r') = p at hq3 hplt e2
        have c1 := hq3.c1
        have HL := Lib.hid e1; have HZ := Lib.hid e2
        have HFL := Lib.hid (fail_first s w.heap.size p (p : Int) _ hq3)
        have hlt : decide (p < s.size) = true := decide_eq_true hplt
        clear hq3 hx e1 e2 hwz hwz' hsuf
        go_wp2_with (fail)
        refine HFL.out.mono ?_
        rintro e w4 ⟨rfl, hq4, hb4⟩
        have c24 := hq4.c2
        have HB4 := Lib.hid (HB3.out.trans (hb4.mono HS3.out))
        go_wp2
        go_quiet (fail)
        go_wp2
        go_ret2
        refine ⟨none, 0, ?_, by rw [HL.out]; exact World.ownsRow_nil _ _ _ _, (HB4.out.drewN _).below (Nat.le_of_lt HPB.out)⟩
        rw [HL.out, HZ.out]
        exact ret_min (by omega)
    · rintro e w2 ⟨hb2, A2, c2, rfl, p2, hq2⟩
      have hB2 := HBU.out.trans hb2
      have hsk := sskip_some s w.heap.size p2 _ w2 hq2
      have hrl := hr.length_le
      rw [bl_len] at hrl
      have hwz := wholeZ_no HR.out
      have hwz' : WholeZ (bl s) = ((pos s r : Nat) : Int) := by rw [hwz, bl_len]; rfl
      obtain ⟨e1, e2⟩ := pfL_no (L := bl s) (by rw [bl_len]; exact h200) (by rw [hwz']; omega)
      rw [hwz'] at e2
      have hple : pos s r ≤ s.size := by unfold pos; omega
      generalize pos s r = bad at hq2 hsk e2 hple
      have HL := Lib.hid e1; have HZ := Lib.hid e2
      have HS2 := Lib.hid hb2.size
      have HB2 := Lib.hid hB2
      have HPB : Hid (w.heap.size ≤ (w.alloc (.cells #[.string s, .int .i64 0, .int .i64 (-1)] 233)).heap.size) := Lib.hid (by simp)
      clear hb2 hq2 hB2 e1 e2 hwz hwz' hrl hr
      go_wp2_with (fail)
      refine hsk.mono ?_
      rintro e w3 ⟨rfl, ⟨p3, hq3⟩, hb3⟩
      have c1 := hq3.c1
      have c2' := hq3.c2
      have c0' := hq3.c0
      have HB3 := Lib.hid (HB2.out.trans (hb3.mono HS2.out))
      have HFL := Lib.hid (fail_more s w.heap.size p3 (bad : Int) (p3 : Int) _ (by omega) hq3)
      clear hb3 hsk hq3
      by_cases hlt3 : p3 < s.size
      · have hlt : decide (p3 < s.size) = true := decide_eq_true hlt3
        go_wp2_with (go_at_call 193; refine HFL.out.mono ?_; rintro e w' ⟨rfl, rfl⟩)
        go_quiet (fail)
        go_wp2
        go_ret2
        refine ⟨none, 0, ?_, by rw [HL.out]; exact World.ownsRow_nil _ _ _ _, (HB3.out.drewN _).below HPB.out⟩
        rw [HL.out, HZ.out]
        exact ret_min (by omega)
      · have hlt : decide (p3 < s.size) = false := decide_eq_false hlt3
        go_wp2
        go_quiet (fail)
        go_wp2
        go_ret2
        refine ⟨none, 0, ?_, by rw [HL.out]; exact World.ownsRow_nil _ _ _ _, (HB3.out.drewN _).below HPB.out⟩
        rw [HL.out, HZ.out]
        exact ret_min (by omega)
  · have hd : decide (200 < (s.size : Int)) = true := decide_eq_true (by omega)
    obtain ⟨e1, e2⟩ := pfL_big (L := bl s) (by rw [bl_len]; exact h200)
    rw [e1, e2]
    go_enter Tryz.func166, Tryz.ntmps166
    go_wp2
    go_ret2
    exact ⟨_, _, rfl, World.ownsRow_nil _ _ _ _, Below.refl _ _⟩
end Go.Proofs.YtjgmgaccmcepdaaGreatDoor
