/- Memory of which one old block alone may have turned: the parser's own. -/
import Derived.Test.YtdgejhlpncnenaaDoorDual
namespace Go.Proofs.YtdgejhlpncnenaaDoor
open Go.RowKit

/-- Nothing below B has turned but the block pb. -/
structure But (B pb : Nat) (w w' : World) : Prop where
  os : w'.os = w.os
  tape : w'.tape = w.tape
  output : w'.output = w.output
  size : w.heap.size ≤ w'.heap.size
  block : ∀ k, k < B → k ≠ pb → w'.heap[k]? = w.heap[k]?
section
variable {B pb : Nat} {a w w' : World}
theorem But.refl (B pb : Nat) (w : World) : But B pb w w := ⟨rfl, rfl, rfl, Nat.le_refl _, fun _ _ _ => rfl⟩
theorem But.trans (h : But B pb a w) (k : But B pb w w') : But B pb a w' :=
  ⟨k.os.trans h.os, k.tape.trans h.tape, k.output.trans h.output, Nat.le_trans h.size k.size, fun i hi hn => (k.block i hi hn).trans (h.block i hi hn)⟩
theorem But.of_below (h : Below B w w') : But B pb w w' := ⟨h.os, h.tape, h.output, h.size, fun k hk _ => h.block k hk⟩
theorem But.alloc (h : But B pb a w) (hB : B ≤ w.heap.size) (o : Obj) : But B pb a (w.alloc o) :=
  h.trans (But.of_below ((Below.refl B w).alloc hB o))
theorem But.setCell (h : But B pb a w) {p : Addr} (hp : p.block = pb ∨ B ≤ p.block) (u : Value) : But B pb a (w.setCell p u) :=
  h.trans ⟨rfl, rfl, rfl, by simp [World.setCell], fun k hk hn => Below.heap_setCell _ _ _ _ (by omega)⟩
theorem But.grown (h : But B pb a w) {row : Option Nat} (hg : w.grownBy w' row) (hB : B ≤ w.heap.size) (hr : ∀ k, row = some k → B ≤ k) : But B pb a w' :=
  h.trans (But.of_below ((Below.refl B w).grown hg hB hr))
theorem But.cell (h : But B pb w w') {p : Addr} (hp : p.block < B) (hn : p.block ≠ pb) : w'.cell? p = w.cell? p := World.cell?_of_block (w := w) (h.block p.block hp hn)
theorem But.frozen (h : But B pb w w') {p : Addr} (hp : p.block < B) (hn : p.block ≠ pb) : w'.frozen? p = w.frozen? p := World.frozen?_of_block (w := w) (h.block p.block hp hn)
theorem But.below (h : But B pb w w') (hpb : pb ≤ B) : Below pb w w' := ⟨h.os, h.tape, h.output, h.size, fun k hk => h.block k (by omega) (by omega)⟩
theorem But.drew (h : But B pb a w) : But B pb a w.drew := ⟨h.os, h.tape, h.output, h.size, h.block⟩
theorem cell_set_same {p : Addr} {v u : Value} (h : w.cell? p = some v) : (w.setCell p u).cell? p = some u := by
  first
    | exact World.cell?_setCell_same _ _ _ _ h
    | exact World.cell?_setCell_same _ _ _ h
    | exact World.cell?_setCell_same h
end
end Go.Proofs.YtdgejhlpncnenaaDoor
