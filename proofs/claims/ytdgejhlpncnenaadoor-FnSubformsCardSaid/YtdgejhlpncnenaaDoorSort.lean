/- The order of formulas as slices.SortFunc asks for it. -/
import Derived.Test.YtdgejhlpncnenaaDoorSubM
import Derived.Shelf.SlSortCmp.Whole1
namespace Go.Proofs.YtdgejhlpncnenaaDoor
open Go.Shelf Go.RowKit Go.Lib Go.Sort

/-- A slice that reads as a list, none of whose cells lies in block blk. -/
def Hdr (w : World) (blk : Nat) : Type :=
  { p : (Option Addr × Nat) × List Int // RdI w w.heap.size p.1.1 p.2.length p.2 ∧ (∀ b off s, p.1.1 = some ⟨b, off, s⟩ → b ≠ blk) ∧ p.2.length ≤ 1048576 }
instance (w : World) (blk : Nat) : Inhabited (Hdr w blk) :=
  ⟨⟨((none, 0), []), ⟨rfl, fun h => absurd h (by simp)⟩, (fun _ _ _ h => by cases h), by simp⟩⟩
/-- The list that it reads as. -/
def Hdr.list {w : World} {blk : Nat} (x : Hdr w blk) : List Int := x.1.2
/-- The value in the row. -/
def Hdr.enc {w : World} {blk : Nat} (x : Hdr w blk) : Value := .slice x.1.1.1 x.1.2.length x.1.1.2
/-- The comparison. -/
def Hdr.cmp {w : World} {blk : Nat} (x y : Hdr w blk) : Int := cmpL x.list y.list

theorem Hdr.one {w : World} {blk : Nat} : OneCell (Hdr.enc (w := w) (blk := blk)) := fun _ => rfl
theorem Hdr.swo {w : World} {blk : Nat} : SWO (ltOf (Hdr.cmp (w := w) (blk := blk))) where
  irrefl x := by
    have : cmpL x.list x.list = 0 := cmpL_zero.2 rfl
    exact decide_eq_false (by unfold Hdr.cmp; omega)
  trans x y z h h' := by
    have h1 := of_decide_eq_true h
    have h2 := of_decide_eq_true h'
    exact decide_eq_true (cmpL_trans h1 h2)
  ntrans x y z h h' := by
    have h1 := of_decide_eq_false h
    have h2 := of_decide_eq_false h'
    refine decide_eq_false fun h3 => ?_
    unfold Hdr.cmp at h1 h2 h3
    have n2 := cmpL_neg y.list z.list
    by_cases e : cmpL z.list y.list = 0
    · rw [cmpL_zero.1 e] at h3; exact h1 h3
    · exact h1 (cmpL_trans h3 (by omega))
theorem sorted_far {α : Type} [Inhabited α] (enc : α → Value) (w : World) (blk off m : Nat) (dk : Array α) (os : Array Obj) {p : Addr} (hp : p.block ≠ blk) (hl : p.block < w.heap.size) : (sortWorld enc w blk off m dk os).cell? p = w.cell? p := by
  have hs : (putRow enc (Sort.ahead w m) blk off dk).heap.size = w.heap.size := by simp [putRow, mapBlock, Sort.ahead]
  exact (cell?_grow _ os p (by rw [hs]; exact hl)).trans (cell?_putRow_other enc (Sort.ahead w m) blk off dk p (.inl hp))
theorem Hdr.reads {w : World} {blk : Nat} (x : Hdr w blk) (off m : Nat) (dk : Array (Hdr w blk)) (os : Array Obj) : RdI (sortWorld Hdr.enc w blk off m dk os) w.heap.size x.1.1.1 x.1.2.length x.1.2 := by
  obtain ⟨⟨h1, h2⟩, h3, _⟩ := x.2
  refine ⟨h1, fun hn => ?_⟩
  obtain ⟨b, o, hA, hb, hc⟩ := h2 hn
  refine ⟨b, o, hA, hb, fun j hj => ?_⟩
  rw [sorted_far Hdr.enc w blk off m dk os (p := ⟨b, o + j, none⟩) (h3 _ _ _ hA) hb]
  exact hc j hj
theorem Hdr.lays (w : World) (blk off size : Nat) : CmpLays1 Tryd.prog 39 #[] (Hdr.enc (w := w) (blk := blk)) Hdr.cmp blk off size w := by
  intro m os dk _ x y
  rw [Array.append_empty]
  refine (compareForms_any x.1.1.1 y.1.1.1 _ _ x.1.1.2 y.1.1.2 x.1.2 y.1.2 _ _ _ (x.reads off m dk os) (y.reads off m dk os) x.2.2.2 y.2.2.2).mono ?_
  rintro e w' ⟨rfl, rfl⟩
  exact ⟨rfl, 0, _, alloc_eq_grow _ _⟩
end Go.Proofs.YtdgejhlpncnenaaDoor
