/- Memory of which one old block alone may have turned: the parser's own. The parser of the program: its state in memory; passing over spaces; the next byte. -/
import Derived.Test.YtjgmgaccmcepdaaGreatDoorDual
import Derived.Test.YtjgmgaccmcepdaaGreatDoorParseM
import Derived.Deep.LoopGhost
import Derived.Lib.Bytealg
import Derived.Laws.StandIn
namespace Go.Proofs.YtjgmgaccmcepdaaGreatDoor
open Go.RowKit

/-- Nothing below B has turned but the block pb. -/
structure But (B pb : Nat) (w w' : World) : Prop where
  os : w'.os = w.os
  tape : w'.tape = w.tape
  output : w'.output = w.output
  size : w.heap.size ≤ w'.heap.size
  block : ∀ k, k < B → k ≠ pb → w'.heap[k]? = w.heap[k]?
section
variable {B pb : Nat} {a w w' : World}
theorem But.refl (B pb : Nat) (w : World) : But B pb w w := ⟨rfl, rfl, rfl, Nat.le_refl _, fun _ _ _ => rfl⟩
theorem But.trans (h : But B pb a w) (k : But B pb w w') : But B pb a w' :=
  ⟨k.os.trans h.os, k.tape.trans h.tape, k.output.trans h.output, Nat.le_trans h.size k.size, fun i hi hn => (k.block i hi hn).trans (h.block i hi hn)⟩
theorem But.of_below (h : Below B w w') : But B pb w w' := ⟨h.os, h.tape, h.output, h.size, fun k hk _ => h.block k hk⟩
theorem But.alloc (h : But B pb a w) (hB : B ≤ w.heap.size) (o : Obj) : But B pb a (w.alloc o) :=
  h.trans (But.of_below ((Below.refl B w).alloc hB o))
theorem But.setCell (h : But B pb a w) {p : Addr} (hp : p.block = pb ∨ B ≤ p.block) (u : Value) : But B pb a (w.setCell p u) :=
  h.trans ⟨rfl, rfl, rfl, by simp [World.setCell], fun k hk hn => Below.heap_setCell _ _ _ _ (by omega)⟩
theorem But.grown (h : But B pb a w) {row : Option Nat} (hg : w.grownBy w' row) (hB : B ≤ w.heap.size) (hr : ∀ k, row = some k → B ≤ k) : But B pb a w' :=
  h.trans (But.of_below ((Below.refl B w).grown hg hB hr))
theorem But.cell (h : But B pb w w') {p : Addr} (hp : p.block < B) (hn : p.block ≠ pb) : w'.cell? p = w.cell? p := World.cell?_of_block (w := w) (h.block p.block hp hn)
theorem But.frozen (h : But B pb w w') {p : Addr} (hp : p.block < B) (hn : p.block ≠ pb) : w'.frozen? p = w.frozen? p := World.frozen?_of_block (w := w) (h.block p.block hp hn)
theorem But.below (h : But B pb w w') (hpb : pb ≤ B) : Below pb w w' := ⟨h.os, h.tape, h.output, h.size, fun k hk => h.block k (by omega) (by omega)⟩
theorem But.drew (h : But B pb a w) : But B pb a w.drew := ⟨h.os, h.tape, h.output, h.size, h.block⟩
theorem cell_set_same {p : Addr} {v u : Value} (h : w.cell? p = some v) : (w.setCell p u).cell? p = some u := by
  first
    | exact World.cell?_setCell_same _ _ _ _ h
    | exact World.cell?_setCell_same _ _ _ h
    | exact World.cell?_setCell_same h
end

/-- The bytes of a text. -/
def bl (s : ByteArray) : List Int := s.data.toList.map fun b => (b.toNat : Int)
theorem bl_len (s : ByteArray) : (bl s).length = s.size := by simp [bl]
theorem suf_drop {s : ByteArray} {xs : List Int} (h : xs <:+ bl s) : (bl s).drop (s.size - xs.length) = xs := by
  rw [← bl_len s]; exact (List.suffix_iff_eq_drop.1 h).symm
/-- The byte at the head of a rest, as the program reads it. -/
theorem bl_idx {s : ByteArray} {c : Int} {r : List Int} (h : (c :: r) <:+ bl s) (w : World) : (Instr.index 9 (.string s) (.int .i64 ((s.size - (r.length + 1) : Nat) : Int))).run Tryz.prog w = .ok (.int .u8 c) w := by
  have hl := h.length_le
  rw [bl_len, List.length_cons] at hl
  have hd := suf_drop h
  rw [List.length_cons] at hd
  have hp : s.size - (r.length + 1) < s.size := by omega
  have hp' : s.size - (r.length + 1) < (bl s).length := by rw [bl_len]; exact hp
  rw [run_index_string w 9 s .i64 _ Tryz.underlying9, dif_pos ⟨by omega, by omega⟩]
  rw [List.drop_eq_getElem_cons hp'] at hd
  injection hd with h1 _
  congr 2
  rw [← h1]
  simp [bl]
  rfl

/-- The parser's state: the rest xs, the symbols S; its block pb; all else that it owns lies from B on. -/
structure PS (s : ByteArray) (B pb : Nat) (w : World) (xs S : List Int) : Prop where
  lt : pb < B
  size : B ≤ w.heap.size
  glob : 1 < pb ∧ 2 < pb
  arit : Arit w
  dual : Dual w
  suf : xs <:+ bl s
  c0 : w.cell? ⟨pb, 0, none⟩ = some (.string s)
  c1 : w.cell? ⟨pb, 1, none⟩ = some (.int .i64 ((s.size - xs.length : Nat) : Int))
  f1 : w.frozen? ⟨pb, 1, none⟩ = false
  f2 : w.frozen? ⟨pb, 2, none⟩ = false
  c2 : ∃ A c, w.cell? ⟨pb, 2, none⟩ = some (.slice A S.length c) ∧ w.ownsRow B 2 1 (.slice A S.length c) S.length (S.map (Value.int .i64))
  big : s.size ≤ 1048576

/-- The parser goes on: the rest is another. -/
theorem PS.move {s : ByteArray} {B pb : Nat} {w : World} {xs ys S : List Int} (h : PS s B pb w xs S) (hy : ys <:+ bl s) : PS s B pb (w.setCell ⟨pb, 1, none⟩ (.int .i64 ((s.size - ys.length : Nat) : Int))) ys S := by
  have hb : But B pb w (w.setCell ⟨pb, 1, none⟩ (.int .i64 ((s.size - ys.length : Nat) : Int))) := (But.refl B pb w).setCell (p := ⟨pb, 1, none⟩) (.inl rfl) _
  have hlt := h.lt
  have hl : Below pb w (w.setCell ⟨pb, 1, none⟩ (.int .i64 ((s.size - ys.length : Nat) : Int))) := hb.below (by omega)
  obtain ⟨A, c, h1, h2⟩ := h.c2
  refine ⟨h.lt, Nat.le_trans h.size hb.size, h.glob, h.arit.below hl h.glob.1, h.dual.below hl h.glob.2, hy, ?_, cell_set_same h.c1, ?_, ?_, ⟨A, c, ?_, ownsRow_setCell_below h2 h.lt _⟩, h.big⟩
  · rw [World.cell?_setCell_other _ _ _ _ (by simp)]; exact h.c0
  · rw [World.frozen?_setCell]; exact h.f1
  · rw [World.frozen?_setCell]; exact h.f2
  · rw [World.cell?_setCell_other _ _ _ _ (by simp)]; exact h1

theorem PS.drewN {s : ByteArray} {B pb : Nat} {w : World} {xs S : List Int} (h : PS s B pb w xs S) (n : Nat) : PS s B pb (w.drewN n) xs S :=
  ⟨h.lt, h.size, h.glob, h.arit, h.dual, h.suf, h.c0, h.c1, h.f1, h.f2, h.c2, h.big⟩
theorem But.drewN {B pb : Nat} {a w : World} (h : But B pb a w) (n : Nat) : But B pb a (w.drewN n) := ⟨h.os, h.tape, h.output, h.size, h.block⟩

set_option maxHeartbeats 1000000 in
theorem skipSpaces_any (s : ByteArray) (B pb : Nat) (xs S : List Int) (w : World) (h : PS s B pb w xs S) :
    Calls Tryz.prog 235 #[.pointer (some ⟨pb, 0, none⟩)] w fun e w' => e = .returned (.tuple #[]) ∧ PS s B pb w' (skS xs) S ∧ But B pb w w' := by
  go_enter Tryz.func235, Tryz.ntmps235
  go_wp2
  go_loopg [] xs.length (fun k wr => ∃ ys, ys.length = k ∧ skS ys = skS xs ∧ PS s B pb wr ys S ∧ But B pb w wr)
  case atStart => exact ⟨xs, rfl, rfl, h, But.refl _ _ _⟩
  case round =>
    obtain ⟨ys, rfl, hsk, hps, hbut⟩ := hrel
    have c0 := hps.c0
    have c1 := hps.c1
    have f1 := hps.f1
    have hbig := hps.big
    clear h
    cases ys with
    | nil =>
      simp only [List.length_nil, Nat.sub_zero] at c1
      have HK : Hid ([] = skS xs) := Lib.hid hsk
      have HP := Lib.hid hps; have HB := Lib.hid hbut
      clear hsk hps hbut
      go_wp2
      go_quiet (fail)
      go_wp2
      go_end0
      exact ⟨rfl, by rw [← HK.out]; exact HP.out.drewN _, HB.out.drewN _⟩
    | cons c r =>
      have hidx := fun w => bl_idx hps.suf w
      simp only [List.length_cons] at c1
      have hle := hps.suf.length_le
      rw [bl_len, List.length_cons] at hle
      have hmv := hps.move ((List.suffix_cons c r).trans hps.suf)
      have hbm := hbut.setCell (p := ⟨pb, 1, none⟩) (.inl rfl) (.int .i64 ((s.size - r.length : Nat) : Int))
      have e1 : ((s.size - r.length : Nat) : Int) = ((s.size - (r.length + 1) : Nat) : Int) + 1 := by omega
      rw [e1] at hmv hbm
      obtain ⟨p, hp⟩ : ∃ p : Nat, s.size - (r.length + 1) = p := ⟨_, rfl⟩
      rw [hp] at c1 hidx hmv hbm
      have hplt : p < s.size := by omega
      have HP := Lib.hid hps; have HB := Lib.hid hbut; have HM := Lib.hid hmv; have HN := Lib.hid hbm
      by_cases hc : c = 32
      · subst hc
        rw [skS_sp] at hsk
        have HK := Lib.hid hsk
        clear hsk hps hbut hmv hbm e1 hle hp
        go_wp2
        go_quiet (fail)
        go_wp2
        go_roundg r.length
        case measure => simp
        case rel => exact ⟨r, rfl, HK.out, HM.out.drewN _, HN.out.drewN _⟩
      · rw [skS_no _ hc] at hsk
        have HK := Lib.hid hsk
        have hce : (c == 32) = false := by simpa using hc
        clear hsk hps hbut hmv hbm e1 hle hp hc
        go_wp2
        go_quiet (fail)
        go_wp2
        go_end0
        exact ⟨rfl, by rw [← HK.out]; exact HP.out.drewN _, HB.out.drewN _⟩

/-- The value with which the parser panics: the index of the first byte of the rest r. -/
def misV (s : ByteArray) (r : List Int) : List PanicEntry := [{ v := .iface 279 (.int .i64 ((s.size - r.length : Nat) : Int)), recovered := false }]

set_option maxHeartbeats 400000 in
theorem stop_any (s : ByteArray) (B pb : Nat) (xs S : List Int) (w : World) (h : PS s B pb w xs S) :
    Calls Tryz.prog 236 #[.pointer (some ⟨pb, 0, none⟩)] w fun e w' => e = .panicked (misV s xs) ∧ w = w' := by
  have c1 := h.c1
  unfold misV
  generalize s.size - xs.length = p at *
  clear h
  go_enter Tryz.func236, Tryz.ntmps236
  go_wp2
  exact ⟨rfl, rfl, rfl⟩

set_option maxRecDepth 100000 in
/-- The library's IndexByte. -/
theorem indexByte_any (C : ByteArray) (c : Int) (w : World) :
    Calls Tryz.prog 146 #[.string C, .int .u8 c] w fun e w' => e = .returned (.int .i64 (Lib.indexByte C.data.toList c.toNat.toUInt8)) ∧ w = w' := by
  go_enter Tryz.func146, Tryz.ntmps146
  go_wp2
  rw [run_callFunc_indexByte Tryz.func208 (by kernel_rfl) (by kernel_rfl) (by kernel_rfl) (by kernel_rfl), Lib.run_indexByteString]
  simp only [Result.andThen]
  rw [Oper.upon_value]
  go_wp2
  go_ret
  exact ⟨rfl, rfl⟩

/-- Is the byte c among the bytes C? -/
def chB (C : ByteArray) (c : Int) : Bool := decide (0 ≤ Lib.indexByte C.data.toList c.toNat.toUInt8)
theorem chB_yes {C : ByteArray} {c : Int} (h : chB C c = true) : decide (Lib.indexByte C.data.toList c.toNat.toUInt8 < 0) = false := by
  have := of_decide_eq_true h; exact decide_eq_false (by omega)
theorem chB_no {C : ByteArray} {c : Int} (h : chB C c = false) : decide (Lib.indexByte C.data.toList c.toNat.toUInt8 < 0) = true := by
  have := of_decide_eq_false h; exact decide_eq_true (by omega)

set_option maxHeartbeats 1000000 in
/-- The next byte is among those that fit. -/
theorem oneOf_ok (s C : ByteArray) (B pb : Nat) (xs S : List Int) (c : Int) (r : List Int) (w : World) (h : PS s B pb w xs S) (hx : skS xs = c :: r) (hc : chB C c = true) :
    Calls Tryz.prog 239 #[.pointer (some ⟨pb, 0, none⟩), .string C] w fun e w' => e = .returned (.int .u8 c) ∧ PS s B pb w' r S ∧ But B pb w w' := by
  have hS := skipSpaces_any s B pb xs S w h
  rw [hx] at hS
  have HX := Lib.hid hc
  have hlt := Lib.hid (chB_yes hc)
  clear h hx hc
  go_enter Tryz.func239, Tryz.ntmps239
  go_wp2_with (fail)
  refine hS.mono ?_
  rintro e w1 ⟨rfl, hps, hbut⟩
  have c0 := hps.c0
  have c1 := hps.c1
  have f1 := hps.f1
  have hbig := hps.big
  have hidx := fun w => bl_idx hps.suf w
  simp only [List.length_cons] at c1
  have hle := hps.suf.length_le
  rw [bl_len, List.length_cons] at hle
  have hmv := hps.move ((List.suffix_cons c r).trans hps.suf)
  have hbm := hbut.setCell (p := ⟨pb, 1, none⟩) (.inl rfl) (.int .i64 ((s.size - r.length : Nat) : Int))
  have e1 : ((s.size - r.length : Nat) : Int) = ((s.size - (r.length + 1) : Nat) : Int) + 1 := by omega
  rw [e1] at hmv hbm
  obtain ⟨p, hp⟩ : ∃ p : Nat, s.size - (r.length + 1) = p := ⟨_, rfl⟩
  rw [hp] at c1 hidx hmv hbm
  have hplt : p < s.size := by omega
  have hne : ((p : Int) == (s.size : Int)) = false := by simp; omega
  have HP := Lib.hid hps; have HB := Lib.hid hbut; have HM := Lib.hid hmv; have HN := Lib.hid hbm
  clear hps hbut hmv hbm e1 hle hp hS
  generalize hi : Lib.indexByte C.data.toList c.toNat.toUInt8 = ix at hlt
  have hll := hlt.out
  have HI : Hid (∀ w, Calls Tryz.prog 146 #[.string C, .int .u8 c] w fun e w' => e = .returned (.int .i64 ix) ∧ w' = w) := Lib.hid fun w => (indexByte_any C c w).mono fun _ _ ⟨h1, h2⟩ => ⟨by rw [h1, hi], h2.symm⟩
  clear hi hlt
  go_wp2
  go_quiet ((go_at_call 146; exact Calls.quiet_of_same (HI.out _)))
  go_wp2
  go_quiet (fail)
  go_wp2
  go_ret
  exact ⟨rfl, (HM.out.drewN _).drewN _, (HN.out.drewN _).drewN _⟩

set_option maxHeartbeats 1000000 in
/-- .. there is none. -/
theorem oneOf_end (s C : ByteArray) (B pb : Nat) (xs S : List Int) (w : World) (h : PS s B pb w xs S) (hx : skS xs = []) :
    Calls Tryz.prog 239 #[.pointer (some ⟨pb, 0, none⟩), .string C] w fun e w' => e = .panicked (misV s []) ∧ But B pb w w' := by
  have hS := skipSpaces_any s B pb xs S w h
  rw [hx] at hS
  clear h hx
  go_enter Tryz.func239, Tryz.ntmps239
  go_wp2_with (fail)
  refine hS.mono ?_
  rintro e w1 ⟨rfl, hps, hbut⟩
  have c0 := hps.c0
  have c1 := hps.c1
  have hbig := hps.big
  simp only [List.length_nil, Nat.sub_zero] at c1
  have HP := Lib.hid hps; have HB := Lib.hid hbut
  clear hps hbut hS
  go_wp2
  go_quiet (fail)
  go_wp2_with (go_at_call 236; refine (stop_any s B pb [] S _ (HP.out.drewN _)).mono ?_; rintro e w' ⟨rfl, rfl⟩)
  exact ⟨rfl, rfl, HB.out.drewN _⟩

set_option maxHeartbeats 1000000 in
/-- .. it does not fit. -/
theorem oneOf_no (s C : ByteArray) (B pb : Nat) (xs S : List Int) (c : Int) (r : List Int) (w : World) (h : PS s B pb w xs S) (hx : skS xs = c :: r) (hc : chB C c = false) :
    Calls Tryz.prog 239 #[.pointer (some ⟨pb, 0, none⟩), .string C] w fun e w' => e = .panicked (misV s (c :: r)) ∧ But B pb w w' := by
  have hS := skipSpaces_any s B pb xs S w h
  rw [hx] at hS
  have hlt := Lib.hid (chB_no hc)
  clear h hx hc
  go_enter Tryz.func239, Tryz.ntmps239
  go_wp2_with (fail)
  refine hS.mono ?_
  rintro e w1 ⟨rfl, hps, hbut⟩
  have c0 := hps.c0
  have c1 := hps.c1
  have hbig := hps.big
  have hidx := fun w => bl_idx hps.suf w
  simp only [List.length_cons] at c1
  have hle := hps.suf.length_le
  rw [bl_len, List.length_cons] at hle
  obtain ⟨p, hp⟩ : ∃ p : Nat, s.size - (r.length + 1) = p := ⟨_, rfl⟩
  rw [hp] at c1 hidx
  have hplt : p < s.size := by omega
  have hne : ((p : Int) == (s.size : Int)) = false := by simp; omega
  have HP := Lib.hid hps; have HB := Lib.hid hbut
  clear hps hbut hle hp hS
  generalize hi : Lib.indexByte C.data.toList c.toNat.toUInt8 = ix at hlt
  have hll := hlt.out
  have HI : Hid (∀ w, Calls Tryz.prog 146 #[.string C, .int .u8 c] w fun e w' => e = .returned (.int .i64 ix) ∧ w' = w) := Lib.hid fun w => (indexByte_any C c w).mono fun _ _ ⟨h1, h2⟩ => ⟨by rw [h1, hi], h2.symm⟩
  clear hi hlt
  go_wp2
  go_quiet ((go_at_call 146; exact Calls.quiet_of_same (HI.out _)))
  go_wp2_with (go_at_call 236; refine (stop_any s B pb (c :: r) S _ (HP.out.drewN _)).mono ?_; rintro e w' ⟨rfl, rfl⟩)
  exact ⟨rfl, rfl, HB.out.drewN _⟩

set_option maxHeartbeats 1000000 in
theorem arrowHead_ok (s : ByteArray) (B pb : Nat) (r S : List Int) (w : World) (h : PS s B pb w (62 :: r) S) :
    Calls Tryz.prog 242 #[.pointer (some ⟨pb, 0, none⟩)] w fun e w' => e = .returned (.tuple #[]) ∧ PS s B pb w' r S ∧ But B pb w w' := by
  have c0 := h.c0
  have c1 := h.c1
  have f1 := h.f1
  have hbig := h.big
  have hidx := fun w => bl_idx h.suf w
  simp only [List.length_cons] at c1
  have hle := h.suf.length_le
  rw [bl_len, List.length_cons] at hle
  have hmv := h.move ((List.suffix_cons 62 r).trans h.suf)
  have hbm := (But.refl B pb w).setCell (p := ⟨pb, 1, none⟩) (.inl rfl) (.int .i64 ((s.size - r.length : Nat) : Int))
  have e1 : ((s.size - r.length : Nat) : Int) = ((s.size - (r.length + 1) : Nat) : Int) + 1 := by omega
  rw [e1] at hmv hbm
  obtain ⟨p, hp⟩ : ∃ p : Nat, s.size - (r.length + 1) = p := ⟨_, rfl⟩
  rw [hp] at c1 hidx hmv hbm
  have hplt : p < s.size := by omega
  have hne : ((p : Int) == (s.size : Int)) = false := by simp; omega
  have HM := Lib.hid hmv; have HN := Lib.hid hbm
  clear hmv hbm e1 hle hp h
  go_enter Tryz.func242, Tryz.ntmps242
  go_wp2
  go_quiet (fail)
  go_wp2
  go_end0
  exact ⟨rfl, HM.out.drewN _, HN.out.drewN _⟩

set_option maxHeartbeats 1000000 in
theorem arrowHead_end (s : ByteArray) (B pb : Nat) (S : List Int) (w : World) (h : PS s B pb w [] S) :
    Calls Tryz.prog 242 #[.pointer (some ⟨pb, 0, none⟩)] w fun e w' => e = .panicked (misV s []) ∧ But B pb w w' := by
  have c0 := h.c0
  have c1 := h.c1
  have hbig := h.big
  simp only [List.length_nil, Nat.sub_zero] at c1
  have HP := Lib.hid h
  clear h
  go_enter Tryz.func242, Tryz.ntmps242
  go_wp2
  go_quiet (fail)
  go_wp2_with (go_at_call 236; refine (stop_any s B pb [] S _ (HP.out.drewN _)).mono ?_; rintro e w' ⟨rfl, rfl⟩)
  exact ⟨rfl, rfl, (But.refl _ _ _).drewN _⟩

set_option maxHeartbeats 1000000 in
theorem arrowHead_no (s : ByteArray) (B pb : Nat) (c : Int) (r S : List Int) (w : World) (h : PS s B pb w (c :: r) S) (hc : c ≠ 62) :
    Calls Tryz.prog 242 #[.pointer (some ⟨pb, 0, none⟩)] w fun e w' => e = .panicked (misV s (c :: r)) ∧ But B pb w w' := by
  have c0 := h.c0
  have c1 := h.c1
  have hbig := h.big
  have hidx := fun w => bl_idx h.suf w
  simp only [List.length_cons] at c1
  have hle := h.suf.length_le
  rw [bl_len, List.length_cons] at hle
  obtain ⟨p, hp⟩ : ∃ p : Nat, s.size - (r.length + 1) = p := ⟨_, rfl⟩
  rw [hp] at c1 hidx
  have hplt : p < s.size := by omega
  have hne : ((p : Int) == (s.size : Int)) = false := by simp; omega
  have hnc : (c != 62) = true := by simpa using hc
  have HP := Lib.hid h
  clear hle hp h hc
  go_enter Tryz.func242, Tryz.ntmps242
  go_wp2
  go_quiet (fail)
  go_wp2_with (go_at_call 236; refine (stop_any s B pb (c :: r) S _ (HP.out.drewN _)).mono ?_; rintro e w' ⟨rfl, rfl⟩)
  exact ⟨rfl, rfl, (But.refl _ _ _).drewN _⟩

/-- The signs of the operators and of the atoms. -/
def opsB : ByteArray := ⟨#[42, 124, 49, 95, 43, 38, 33, 63]⟩
def atomsB : ByteArray := ⟨#[65, 66, 67, 68, 69, 70, 71, 72]⟩
theorem indexByte_at (C : ByteArray) (c ix : Int) (h : Lib.indexByte C.data.toList c.toNat.toUInt8 = ix) (w : World) :
    Calls Tryz.prog 146 #[.string C, .int .u8 c] w fun e w' => e = .returned (.int .i64 ix) ∧ w = w' := by
  rw [← h]; exact indexByte_any C c w

set_option maxHeartbeats 400000 in
theorem symbolOf_op (c ix : Int) (w : World) (h : Lib.indexByte opsB.data.toList c.toNat.toUInt8 = ix) (h0 : 0 ≤ ix) (h1 : ix ≤ 7) :
    Calls Tryz.prog 241 #[.int .u8 c] w fun e w' => e = .returned (.int .i64 (11 + ix)) ∧ w = w' := by
  have H := Lib.hid h
  clear h
  go_enter Tryz.func241, Tryz.ntmps241
  go_wp2_with (go_at_call 146; refine (indexByte_at opsB c ix H.out _).mono ?_; rintro e w' ⟨rfl, rfl⟩)
  go_ret
  exact ⟨rfl, rfl⟩
set_option maxHeartbeats 400000 in
theorem symbolOf_atom (c ix : Int) (w : World) (h : Lib.indexByte opsB.data.toList c.toNat.toUInt8 = -1) (h' : Lib.indexByte atomsB.data.toList c.toNat.toUInt8 = ix) (h0 : 0 ≤ ix) (h1 : ix ≤ 7) :
    Calls Tryz.prog 241 #[.int .u8 c] w fun e w' => e = .returned (.int .i64 (1 + ix)) ∧ w = w' := by
  have H := Lib.hid h; have H' := Lib.hid h'
  clear h h'
  go_enter Tryz.func241, Tryz.ntmps241
  go_wp2_with (fail)
  refine (indexByte_at opsB c (-1) H.out _).mono ?_
  rintro e w' ⟨rfl, rfl⟩
  go_wp2_with (fail)
  refine (indexByte_at atomsB c ix H'.out _).mono ?_
  rintro e w' ⟨rfl, rfl⟩
  go_wp2
  go_ret
  exact ⟨rfl, rfl⟩

/-- The symbol of a sign. -/
def syZ (c : Int) : Int := if 65 ≤ c ∧ c ≤ 72 then c - 64 else if c = 49 then 13 else if c = 95 then 14 else if c = 33 then 17 else if c = 63 then 18 else if c = 42 then 11 else if c = 124 then 12 else if c = 43 then 15 else 16
theorem symbolOf_any (c : Int) (w : World) (h : 65 ≤ c ∧ c ≤ 72 ∨ c = 49 ∨ c = 95 ∨ c = 33 ∨ c = 63 ∨ c = 42 ∨ c = 124 ∨ c = 43 ∨ c = 38) :
    Calls Tryz.prog 241 #[.int .u8 c] w fun e w' => e = .returned (.int .i64 (syZ c)) ∧ w = w' := by
  have : (c = 65 ∨ c = 66 ∨ c = 67 ∨ c = 68 ∨ c = 69 ∨ c = 70 ∨ c = 71 ∨ c = 72) ∨ c = 49 ∨ c = 95 ∨ c = 33 ∨ c = 63 ∨ c = 42 ∨ c = 124 ∨ c = 43 ∨ c = 38 := by omega
  rcases this with (rfl | rfl | rfl | rfl | rfl | rfl | rfl | rfl) | rfl | rfl | rfl | rfl | rfl | rfl | rfl | rfl
  · exact symbolOf_atom 65 0 w (by decide) (by decide) (by decide) (by decide)
  · exact symbolOf_atom 66 1 w (by decide) (by decide) (by decide) (by decide)
  · exact symbolOf_atom 67 2 w (by decide) (by decide) (by decide) (by decide)
  · exact symbolOf_atom 68 3 w (by decide) (by decide) (by decide) (by decide)
  · exact symbolOf_atom 69 4 w (by decide) (by decide) (by decide) (by decide)
  · exact symbolOf_atom 70 5 w (by decide) (by decide) (by decide) (by decide)
  · exact symbolOf_atom 71 6 w (by decide) (by decide) (by decide) (by decide)
  · exact symbolOf_atom 72 7 w (by decide) (by decide) (by decide) (by decide)
  · exact symbolOf_op 49 2 w (by decide) (by decide) (by decide)
  · exact symbolOf_op 95 3 w (by decide) (by decide) (by decide)
  · exact symbolOf_op 33 6 w (by decide) (by decide) (by decide)
  · exact symbolOf_op 63 7 w (by decide) (by decide) (by decide)
  · exact symbolOf_op 42 0 w (by decide) (by decide) (by decide)
  · exact symbolOf_op 124 1 w (by decide) (by decide) (by decide)
  · exact symbolOf_op 43 4 w (by decide) (by decide) (by decide)
  · exact symbolOf_op 38 5 w (by decide) (by decide) (by decide)

/-- The signs at which a formula begins, those that follow a first operand, and the last. -/
def startsB : ByteArray := ⟨#[126, 40, 49, 95, 33, 63, 65, 66, 67, 68, 69, 70, 71, 72]⟩
def pairsB : ByteArray := ⟨#[42, 124, 43, 38, 45]⟩
def lastB : ByteArray := ⟨#[41]⟩
theorem ch_all (C : ByteArray) (f : Int → Bool) (h : ((List.range 256).all fun n => chB C (n : Int) == f (n : Int)) = true) (c : Int) (h0 : 0 ≤ c) (h1 : c ≤ 255) : chB C c = f c := by
  obtain ⟨n, rfl⟩ : ∃ n : Nat, c = n := ⟨c.toNat, by omega⟩
  have := List.all_eq_true.1 h n (List.mem_range.2 (by omega))
  simpa using this
theorem ch_start (c : Int) (h0 : 0 ≤ c) (h1 : c ≤ 255) : chB startsB c = (c == 126 || c == 40 || c == 49 || c == 95 || c == 33 || c == 63 || (decide (65 ≤ c) && decide (c ≤ 72))) :=
  ch_all startsB (fun c => c == 126 || c == 40 || c == 49 || c == 95 || c == 33 || c == 63 || (decide (65 ≤ c) && decide (c ≤ 72))) (by decide +kernel) c h0 h1
theorem ch_pair (c : Int) (h0 : 0 ≤ c) (h1 : c ≤ 255) : chB pairsB c = (c == 42 || c == 124 || c == 43 || c == 38 || c == 45) :=
  ch_all pairsB (fun c => c == 42 || c == 124 || c == 43 || c == 38 || c == 45) (by decide +kernel) c h0 h1
theorem ch_last (c : Int) (h0 : 0 ≤ c) (h1 : c ≤ 255) : chB lastB c = (c == 41) :=
  ch_all lastB (fun c => c == 41) (by decide +kernel) c h0 h1
theorem bl_byte (s : ByteArray) : ∀ c ∈ bl s, 0 ≤ c ∧ c ≤ 255 := by
  intro c hc
  obtain ⟨b, _, rfl⟩ := List.mem_map.1 hc
  have := b.toNat_lt
  omega
end Go.Proofs.YtjgmgaccmcepdaaGreatDoor
