/- slices.SortFunc at formulas. -/
import Derived.Test.YtdgejhlpncnenaaDoorSort
import Derived.Test.YtdgejhlpncnenaaDoorShelf
namespace Go.Proofs.YtdgejhlpncnenaaDoor
open Go.Shelf Go.RowKit Go.Lib Go.Sort

/-- The row holds a permutation of what it held, sorted. -/
theorem sortFunc_any (blk cap : Nat) (w : World) (d : Array (Hdr w blk)) (hH : Holds Hdr.enc w blk 0 d) (hblk : blk < w.heap.size) (hsz : d.size < 4611686018427387904) :
    Calls Tryd.prog 38 #[.slice (some ⟨blk, 0, none⟩) d.size cap, .func (.func 39) #[] #[]] w fun e w' =>
      e = .returned (.tuple #[]) ∧ ∃ d' n os, PermIn 0 d.size d d' ∧ SortedIn (ltOf Hdr.cmp) 0 d.size d' ∧ w' = sortWorld Hdr.enc w blk 0 n d' os := by
  have eg : ∀ args w, (callFunc 39 args).run Tryd.prog w = .ok (.enter 39 args) w := enters_of Tryd.func39 (by kernel_rfl) rfl
  have h := Any.slices_SortFunc Tryd.sortF (Hdr.enc (w := w) (blk := blk)) Hdr.one Hdr.cmp Hdr.swo 39 #[] blk 0 cap d w eg (Hdr.lays w blk 0 d.size) hH hblk hsz
  exact h
end Go.Proofs.YtdgejhlpncnenaaDoor
