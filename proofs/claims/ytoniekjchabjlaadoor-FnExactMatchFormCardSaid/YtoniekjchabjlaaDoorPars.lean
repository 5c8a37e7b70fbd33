/- Memory of which one old block alone may have turned: the parser's own. The parser of the program: its state in memory; passing over spaces; the next byte. -/
import Derived.Test.YtoniekjchabjlaaDoorDual
import Derived.Test.YtoniekjchabjlaaDoorParseM
import Derived.Deep.LoopGhost
import Derived.Lib.Bytealg
import Derived.Laws.StandIn
namespace Go.Proofs.YtoniekjchabjlaaDoor
open Go.RowKit

/-- Nothing below B has turned but the block pb. -/
structure But (B pb : Nat) (w w' : World) : Prop where
  os : w'.os = w.os
  tape : w'.tape = w.tape
  output : w'.output = w.output
  size : w.heap.size ≤ w'.heap.size
  block : ∀ k, k < B → k ≠ pb → w'.heap[k]? = w.heap[k]?
section
variable {B pb : Nat} {a w w' : World}
theorem But.refl (B pb : Nat) (w : World) : But B pb w w := ⟨rfl, rfl, rfl, Nat.le_refl _, fun _ _ _ => rfl⟩
theorem But.trans (h : But B pb a w) (k : But B pb w w') : But B pb a w' :=
  ⟨k.os.trans h.os, k.tape.trans h.tape, k.output.trans h.output, Nat.le_trans h.size k.size, fun i hi hn => (k.block i hi hn).trans (h.block i hi hn)⟩
theorem But.of_below (h : Below B w w') : But B pb w w' := ⟨h.os, h.tape, h.output, h.size, fun k hk _ => h.block k hk⟩
theorem But.alloc (h : But B pb a w) (hB : B ≤ w.heap.size) (o : Obj) : But B pb a (w.alloc o) :=
  h.trans (But.of_below ((Below.refl B w).alloc hB o))
theorem But.setCell (h : But B pb a w) {p : Addr} (hp : p.block = pb ∨ B ≤ p.block) (u : Value) : But B pb a (w.setCell p u) :=
  h.trans ⟨rfl, rfl, rfl, by simp [World.setCell], fun k hk hn => Below.heap_setCell _ _ _ _ (by omega)⟩
theorem But.grown (h : But B pb a w) {row : Option Nat} (hg : w.grownBy w' row) (hB : B ≤ w.heap.size) (hr : ∀ k, row = some k → B ≤ k) : But B pb a w' :=
  h.trans (But.of_below ((Below.refl B w).grown hg hB hr))
theorem But.cell (h : But B pb w w') {p : Addr} (hp : p.block < B) (hn : p.block ≠ pb) : w'.cell? p = w.cell? p := World.cell?_of_block (w := w) (h.block p.block hp hn)
theorem But.frozen (h : But B pb w w') {p : Addr} (hp : p.block < B) (hn : p.block ≠ pb) : w'.frozen? p = w.frozen? p := World.frozen?_of_block (w := w) (h.block p.block hp hn)
theorem But.below (h : But B pb w w') (hpb : pb ≤ B) : Below pb w w' := ⟨h.os, h.tape, h.output, h.size, fun k hk => h.block k (by omega) (by omega)⟩
theorem But.drew (h : But B pb a w) : But B pb a w.drew := ⟨h.os, h.tape, h.output, h.size, h.block⟩
theorem cell_set_same {p : Addr} {v u : Value} (h : w.cell? p = some v) : (w.setCell p u).cell? p = some u := by
  first
    | exact World.cell?_setCell_same _ _ _ _ h
    | exact World.cell?_setCell_same _ _ _ h
    | exact World.cell?_setCell_same h
end

/-- The bytes of a text. -/
def bl (s : ByteArray) : List Int := s.data.toList.map fun b => (b.toNat : Int)
theorem bl_len (s : ByteArray) : (bl s).length = s.size := by simp [bl]
theorem suf_drop {s : ByteArray} {xs : List Int} (h : xs <:+ bl s) : (bl s).drop (s.size - xs.length) = xs := by
  rw [← bl_len s]; exact (List.suffix_iff_eq_drop.1 h).symm
/-- The byte at the head of a rest, as the program reads it. -/
theorem bl_idx {s : ByteArray} {c : Int} {r : List Int} (h : (c :: r) <:+ bl s) (w : World) : (Instr.index 9 (.string s) (.int .i64 ((s.size - (r.length + 1) : Nat) : Int))).run Tryd.prog w = .ok (.int .u8 c) w := by
  have hl := h.length_le
  rw [bl_len, List.length_cons] at hl
  have hd := suf_drop h
  rw [List.length_cons] at hd
  have hp : s.size - (r.length + 1) < s.size := by omega
  have hp' : s.size - (r.length + 1) < (bl s).length := by rw [bl_len]; exact hp
  rw [run_index_string w 9 s .i64 _ Tryd.underlying9, dif_pos ⟨by omega, by omega⟩]
  rw [List.drop_eq_getElem_cons hp'] at hd
  injection hd with h1 _
  congr 2
  rw [← h1]
  simp [bl]
  rfl

/-- The parser's state: the rest xs, the symbols S; its block pb; all else that it owns lies from B on. -/
structure PS (s : ByteArray) (B pb : Nat) (w : World) (xs S : List Int) : Prop where
  lt : pb < B
  size : B ≤ w.heap.size
  glob : 1 < pb ∧ 0 < pb
  arit : Arit w
  dual : Dual w
  suf : xs <:+ bl s
  c0 : w.cell? ⟨pb, 0, none⟩ = some (.string s)
  c1 : w.cell? ⟨pb, 1, none⟩ = some (.int .i64 ((s.size - xs.length : Nat) : Int))
  f1 : w.frozen? ⟨pb, 1, none⟩ = false
  f2 : w.frozen? ⟨pb, 2, none⟩ = false
  c2 : ∃ A c, w.cell? ⟨pb, 2, none⟩ = some (.slice A S.length c) ∧ w.ownsRow B 2 1 (.slice A S.length c) S.length (S.map (Value.int .i64))
  big : s.size ≤ 1048576

/-- The parser goes on: the rest is another. -/
theorem PS.move {s : ByteArray} {B pb : Nat} {w : World} {xs ys S : List Int} (h : PS s B pb w xs S) (hy : ys <:+ bl s) : PS s B pb (w.setCell ⟨pb, 1, none⟩ (.int .i64 ((s.size - ys.length : Nat) : Int))) ys S := by
  have hb : But B pb w (w.setCell ⟨pb, 1, none⟩ (.int .i64 ((s.size - ys.length : Nat) : Int))) := (But.refl B pb w).setCell (p := ⟨pb, 1, none⟩) (.inl rfl) _
  have hlt := h.lt
  have hl : Below pb w (w.setCell ⟨pb, 1, none⟩ (.int .i64 ((s.size - ys.length : Nat) : Int))) := hb.below (by omega)
  obtain ⟨A, c, h1, h2⟩ := h.c2
  refine ⟨h.lt, Nat.le_trans h.size hb.size, h.glob, h.arit.below hl h.glob.1, h.dual.below hl h.glob.2, hy, ?_, cell_set_same h.c1, ?_, ?_, ⟨A, c, ?_, ownsRow_setCell_below h2 h.lt _⟩, h.big⟩
  · rw [World.cell?_setCell_other _ _ _ _ (by simp)]; exact h.c0
  · rw [World.frozen?_setCell]; exact h.f1
  · rw [World.frozen?_setCell]; exact h.f2
  · rw [World.cell?_setCell_other _ _ _ _ (by simp)]; exact h1

theorem PS.drewN {s : ByteArray} {B pb : Nat} {w : World} {xs S : List Int} (h : PS s B pb w xs S) (n : Nat) : PS s B pb (w.drewN n) xs S :=
  ⟨h.lt, h.size, h.glob, h.arit, h.dual, h.suf, h.c0, h.c1, h.f1, h.f2, h.c2, h.big⟩
theorem But.drewN {B pb : Nat} {a w : World} (h : But B pb a w) (n : Nat) : But B pb a (w.drewN n) := ⟨h.os, h.tape, h.output, h.size, h.block⟩

/-- Is the byte c among the bytes C? -/
def chB (C : ByteArray) (c : Int) : Bool := decide (0 ≤ Lib.indexByte C.data.toList c.toNat.toUInt8)
theorem chB_yes {C : ByteArray} {c : Int} (h : chB C c = true) : decide (Lib.indexByte C.data.toList c.toNat.toUInt8 < 0) = false := by
  have := of_decide_eq_true h; exact decide_eq_false (by omega)
theorem chB_no {C : ByteArray} {c : Int} (h : chB C c = false) : decide (Lib.indexByte C.data.toList c.toNat.toUInt8 < 0) = true := by
  have := of_decide_eq_false h; exact decide_eq_true (by omega)

/-- The signs of the operators and of the atoms. -/
def opsB : ByteArray := ⟨#[42, 124, 49, 95, 43, 38, 33, 63]⟩
def atomsB : ByteArray := ⟨#[65, 66, 67, 68, 69, 70, 71, 72]⟩
/-- The symbol of a sign. -/
def syZ (c : Int) : Int := if 65 ≤ c ∧ c ≤ 72 then c - 64 else if c = 49 then 13 else if c = 95 then 14 else if c = 33 then 17 else if c = 63 then 18 else if c = 42 then 11 else if c = 124 then 12 else if c = 43 then 15 else 16
/-- The signs at which a formula begins, those that follow a first operand, and the last. -/
def startsB : ByteArray := ⟨#[126, 40, 49, 95, 33, 63, 65, 66, 67, 68, 69, 70, 71, 72]⟩
def pairsB : ByteArray := ⟨#[42, 124, 43, 38, 45]⟩
def lastB : ByteArray := ⟨#[41]⟩
theorem ch_all (C : ByteArray) (f : Int → Bool) (h : ((List.range 256).all fun n => chB C (n : Int) == f (n : Int)) = true) (c : Int) (h0 : 0 ≤ c) (h1 : c ≤ 255) : chB C c = f c := by
  obtain ⟨n, rfl⟩ : ∃ n : Nat, c = n := ⟨c.toNat, by omega⟩
  have := List.all_eq_true.1 h n (List.mem_range.2 (by omega))
  simpa using this
theorem ch_start (c : Int) (h0 : 0 ≤ c) (h1 : c ≤ 255) : chB startsB c = (c == 126 || c == 40 || c == 49 || c == 95 || c == 33 || c == 63 || (decide (65 ≤ c) && decide (c ≤ 72))) :=
  ch_all startsB (fun c => c == 126 || c == 40 || c == 49 || c == 95 || c == 33 || c == 63 || (decide (65 ≤ c) && decide (c ≤ 72))) (by decide +kernel) c h0 h1
theorem ch_pair (c : Int) (h0 : 0 ≤ c) (h1 : c ≤ 255) : chB pairsB c = (c == 42 || c == 124 || c == 43 || c == 38 || c == 45) :=
  ch_all pairsB (fun c => c == 42 || c == 124 || c == 43 || c == 38 || c == 45) (by decide +kernel) c h0 h1
theorem ch_last (c : Int) (h0 : 0 ≤ c) (h1 : c ≤ 255) : chB lastB c = (c == 41) :=
  ch_all lastB (fun c => c == 41) (by decide +kernel) c h0 h1
theorem bl_byte (s : ByteArray) : ∀ c ∈ bl s, 0 ≤ c ∧ c ≤ 255 := by
  intro c hc
  obtain ⟨b, _, rfl⟩ := List.mem_map.1 hc
  have := b.toNat_lt
  omega
end Go.Proofs.YtoniekjchabjlaaDoor
