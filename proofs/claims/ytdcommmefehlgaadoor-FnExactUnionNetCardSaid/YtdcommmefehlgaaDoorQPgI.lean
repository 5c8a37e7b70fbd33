/- The program's ConclusionSeq. The laws' bound of LinkNet's answer. ArrowOf: of the program and of the model. Plain mathematics of the liberal notation: how a text is read, as lists of bytes. OperandOf: of the program and of the model. DepthOf: of the program and of the model. Plain mathematics: a formula has a text, and the text with any spaces in it is read as the formula. FormText: of the program and of the model. FormText of the model. Memory of which one old block alone may have turned: the parser's own. The parser of the program: its state in memory; passing over spaces; the next byte. LeavesOf: of the program and of the model. What the dual keeps: validity, depth, fragment, the leaves but for their sign. Plain mathematics. Plain mathematics of the arrow: two formulas joined are one; its dual's first operand. The bytes of a text. The draw of two lists. -/
import Derived.Test.YtdcommmefehlgaaDoorQPgG
import Derived.Test.YtdcommmefehlgaaDoorQPgT
import Derived.Test.YtdcommmefehlgaaDoorQNetO
import Derived.Test.YtdcommmefehlgaaDoorNetT
import Derived.Test.YtdcommmefehlgaaDoorQDual
import Derived.Test.YtdcommmefehlgaaDoorQValid
import Derived.Laws.Runes
import Derived.Laws.IdiomStrings
import Derived.Deep.LoopGhost
import Derived.Lib.Bytealg
import Derived.Laws.StandIn
import Derived.Test.YtdcommmefehlgaaDoorQNetA
import Derived.Test.YtdcommmefehlgaaDoorQBytes
namespace Go.Proofs.YtdcommmefehlgaaDoor
set_option linter.unusedSimpArgs false
set_option linter.unusedVariables false
section
set_option linter.unusedSimpArgs false
set_option linter.unusedVariables false
open Go.ChangeAt Go.ChangeShapes Go.RowKit Go.WideShapes

end
section
open Go.ChangeAt Go.ChangeShapes Go.RowKit Go.WideShapes
theorem lnV_small (N : Nt) (k i j : Int) : SmallN (lnV N k i j) := by
  cases h : lnB N k i j with
  | false => rw [lnV_no h]; exact nil_small
  | true =>
    rw [lnV_yes h]
    refine valN_small ?_
    unfold lnB at h
    simp only [Bool.and_eq_true] at h
    exact h.2.2.2.2.2
end
section
open Go.RowKit
end
section
open Go.RowKit

/-- The text behind its first spaces. -/
def skS : List Int → List Int
  | [] => []
  | c :: r => if c = 32 then skS r else c :: r
/-- What reading leaves: symbols and the rest, or the rest at which it stops. -/
inductive PR where
  | ok (f r : List Int)
  | no (r : List Int)

/-- The operator of two operands: -1 the arrow. -/
def opP (xs : List Int) : PR :=
  match skS xs with
  | [] => .no []
  | c :: r =>
    if c = 42 then .ok [11] r
    else if c = 124 then .ok [12] r
    else if c = 43 then .ok [15] r
    else if c = 38 then .ok [16] r
    else if c = 45 then (match r with
      | 62 :: r' => .ok [-1] r'
      | r => .no r)
    else .no (c :: r)

/-- The two operands put together. -/
def putP (op : Int) (a b : List Int) : List Int := if op < 0 then 12 :: (a.map duZ ++ b) else op :: (a ++ b)

/-- Behind the second operand. -/
def endP (op : Int) (a b r : List Int) : PR :=
  match skS r with
  | 41 :: r' => .ok (putP op a b) r'
  | r => .no r

/-- A formula; n bounds the calls. -/
def pz : Nat → List Int → PR
  | 0, _ => .no []
  | n + 1, xs =>
    match skS xs with
    | [] => .no []
    | c :: r =>
      if c = 126 then (match pz n r with
        | .ok f r' => .ok (f.map duZ) r'
        | .no r' => .no r')
      else if c = 33 ∨ c = 63 then (match pz n r with
        | .ok f r' => .ok ((if c = 33 then 17 else 18) :: f) r'
        | .no r' => .no r')
      else if 65 ≤ c ∧ c ≤ 72 then .ok [c - 64] r
      else if c = 49 then .ok [13] r
      else if c = 95 then .ok [14] r
      else if c = 40 then (match pz n r with
        | .no r' => .no r'
        | .ok a r1 => match opP r1 with
          | .no r' => .no r'
          | .ok op r2 => match pz n r2 with
            | .no r' => .no r'
            | .ok b r3 => endP (op.getD 0 0) a b r3)
      else .no (c :: r)
end
section
open Go.RowKit
end
section
open Go.RowKit
end
section
open Go.RowKit
end
section
open Go.RowKit

/-- Nothing below B has turned but the block pb. -/
structure But (B pb : Nat) (w w' : World) : Prop where
  os : w'.os = w.os
  tape : w'.tape = w.tape
  output : w'.output = w.output
  size : w.heap.size ≤ w'.heap.size
  block : ∀ k, k < B → k ≠ pb → w'.heap[k]? = w.heap[k]?
section
variable {B pb : Nat} {a w w' : World}
theorem But.refl (B pb : Nat) (w : World) : But B pb w w := ⟨rfl, rfl, rfl, Nat.le_refl _, fun _ _ _ => rfl⟩
theorem But.trans (h : But B pb a w) (k : But B pb w w') : But B pb a w' :=
  ⟨k.os.trans h.os, k.tape.trans h.tape, k.output.trans h.output, Nat.le_trans h.size k.size, fun i hi hn => (k.block i hi hn).trans (h.block i hi hn)⟩
theorem But.of_below (h : Below B w w') : But B pb w w' := ⟨h.os, h.tape, h.output, h.size, fun k hk _ => h.block k hk⟩
theorem But.alloc (h : But B pb a w) (hB : B ≤ w.heap.size) (o : Obj) : But B pb a (w.alloc o) :=
  h.trans (But.of_below ((Below.refl B w).alloc hB o))
theorem But.setCell (h : But B pb a w) {p : Addr} (hp : p.block = pb ∨ B ≤ p.block) (u : Value) : But B pb a (w.setCell p u) :=
  h.trans ⟨rfl, rfl, rfl, by simp [World.setCell], fun k hk hn => Below.heap_setCell _ _ _ _ (by omega)⟩
theorem But.grown (h : But B pb a w) {row : Option Nat} (hg : w.grownBy w' row) (hB : B ≤ w.heap.size) (hr : ∀ k, row = some k → B ≤ k) : But B pb a w' :=
  h.trans (But.of_below ((Below.refl B w).grown hg hB hr))
theorem But.cell (h : But B pb w w') {p : Addr} (hp : p.block < B) (hn : p.block ≠ pb) : w'.cell? p = w.cell? p := World.cell?_of_block (w := w) (h.block p.block hp hn)
theorem But.frozen (h : But B pb w w') {p : Addr} (hp : p.block < B) (hn : p.block ≠ pb) : w'.frozen? p = w.frozen? p := World.frozen?_of_block (w := w) (h.block p.block hp hn)
theorem But.below (h : But B pb w w') (hpb : pb ≤ B) : Below pb w w' := ⟨h.os, h.tape, h.output, h.size, fun k hk => h.block k (by omega) (by omega)⟩
theorem But.drew (h : But B pb a w) : But B pb a w.drew := ⟨h.os, h.tape, h.output, h.size, h.block⟩
end

/-- The bytes of a text. -/
def bl (s : ByteArray) : List Int := s.data.toList.map fun b => (b.toNat : Int)
/-- The parser's state: the rest xs, the symbols S; its block pb; all else that it owns lies from B on. -/
structure PS (s : ByteArray) (B pb : Nat) (w : World) (xs S : List Int) : Prop where
  lt : pb < B
  size : B ≤ w.heap.size
  glob : 1 < pb ∧ 0 < pb
  arit : Arit w
  dual : Dual w
  suf : xs <:+ bl s
  c0 : w.cell? ⟨pb, 0, none⟩ = some (.string s)
  c1 : w.cell? ⟨pb, 1, none⟩ = some (.int .i64 ((s.size - xs.length : Nat) : Int))
  f1 : w.frozen? ⟨pb, 1, none⟩ = false
  f2 : w.frozen? ⟨pb, 2, none⟩ = false
  c2 : ∃ A c, w.cell? ⟨pb, 2, none⟩ = some (.slice A S.length c) ∧ w.ownsRow B 2 1 (.slice A S.length c) S.length (S.map (Value.int .i64))
  big : s.size ≤ 1048576

theorem PS.drewN {s : ByteArray} {B pb : Nat} {w : World} {xs S : List Int} (h : PS s B pb w xs S) (n : Nat) : PS s B pb (w.drewN n) xs S :=
  ⟨h.lt, h.size, h.glob, h.arit, h.dual, h.suf, h.c0, h.c1, h.f1, h.f2, h.c2, h.big⟩
theorem But.drewN {B pb : Nat} {a w : World} (h : But B pb a w) (n : Nat) : But B pb a (w.drewN n) := ⟨h.os, h.tape, h.output, h.size, h.block⟩
end
section
open Go.RowKit
end
section
open Go.RowKit
end
section
open Go.RowKit

theorem scan_sym {xs : List Int} {x m a : Int} (ha : 0 ≤ a) (h : scan (x :: xs) m a = a + (x :: xs).length) : 0 ≤ arZ x := by
  rcases arZ_cases x with h' | h' | h' | h'
  · rw [scan_bad _ _ _ h'] at h; simp only [List.length_cons] at h; omega
  all_goals omega
theorem scan_app : ∀ (xs : List Int) (m a : Int), 1 ≤ m → 0 ≤ a → scan xs m a = a + xs.length → ∀ (r : List Int) (k i : Int), 0 ≤ k → scan (xs ++ r) (m + k) i = if k = 0 then i + xs.length else scan r k (i + xs.length)
  | [], m, a, _, _, h => by simp [scan] at h; omega
  | x :: xs, m, a, hm, ha, h => by
    intro r k i hk
    have hx := scan_sym ha h
    have hlo := arZ_lo x
    by_cases h1 : m + arZ x = 1
    · rw [scan_end _ _ _ hx h1, List.length_cons] at h
      have hn : xs = [] := List.eq_nil_of_length_eq_zero (by omega)
      subst hn
      by_cases hk0 : k = 0
      · rw [if_pos hk0, List.cons_append, scan_end _ _ _ hx (by omega)]; simp
      · rw [if_neg hk0, List.cons_append, scan_on _ _ _ hx (by omega)]
        have e : m + k + arZ x - 1 = k := by omega
        rw [e]; simp
    · rw [scan_on _ _ _ hx h1, List.length_cons] at h
      have ih := scan_app xs (m + arZ x - 1) (a + 1) (by omega) (by omega) (by omega) r k (i + 1) hk
      rw [List.cons_append, scan_on _ _ _ hx (by omega)]
      have e : m + k + arZ x - 1 = m + arZ x - 1 + k := by omega
      rw [e, ih]
      have e2 : i + 1 + (xs.length : Int) = i + ((x :: xs).length : Int) := by rw [List.length_cons]; omega
      rw [e2]
end
end Go.Proofs.YtdcommmefehlgaaDoor
