/- The program's placed: a net put into another one under given numbers. A net in a box that grows: another row of conclusions, a link more, a wire more. -/
import Derived.Test.YtdcommmefehlgaaDoorQSubA
import Derived.Test.YtdcommmefehlgaaDoorQNetW
import Derived.Test.YtdcommmefehlgaaDoorQPgG
namespace Go.Proofs.YtdcommmefehlgaaDoor
set_option linter.unusedSimpArgs false
set_option linter.unusedVariables false
section
set_option linter.unusedSimpArgs false
set_option linter.unusedVariables false
open Go.ChangeAt Go.ChangeShapes Go.RowKit Go.WideShapes

/-- What placed holds: the target, grown, and its box. -/
structure PlSt (wb w0 wr : World) (sx : Nat) (hT : NH) (T : Nt) (h : NH) (M : Nt) : Prop where
  own : OwnN wr wb.heap.size wr.heap.size h M
  far : ∀ b, b < w0.heap.size → FarN hT T b → FarN h M b
  keep : ∀ b, b < w0.heap.size → FarN hT T b → b ≠ sx → wr.heap[b]? = w0.heap[b]?
  box : wr.heap[sx]? = some (.cells #[.slice h.A M.w.length h.c, .slice h.L M.l.length h.d, .slice h.C M.c.length h.e] 30 (0, 0))
  bel : Below wb.heap.size wb wr
  size : w0.heap.size ≤ wr.heap.size
  sxl : sx < w0.heap.size
  sxf : FarN hT T sx
  sxb : wb.heap.size ≤ sx
section
variable {wb w0 wr w' : World} {sx : Nat} {hT h : NH} {T M : Nt}
theorem PlSt.below (p : PlSt wb w0 wr sx hT T h M) (hb : Below wr.heap.size wr w') : PlSt wb w0 w' sx hT T h M where
  own := (p.own.below hb).more (Nat.le_refl _) hb.size
  far := p.far
  keep b h1 h2 h3 := (hb.block b (Nat.lt_of_lt_of_le h1 p.size)).trans (p.keep b h1 h2 h3)
  box := (hb.block sx (Nat.lt_of_lt_of_le p.sxl p.size)).trans p.box
  bel := p.bel.trans (hb.mono p.bel.size)
  size := Nat.le_trans p.size hb.size
  sxl := p.sxl
  sxf := p.sxf
  sxb := p.sxb
theorem PlSt.drew (p : PlSt wb w0 wr sx hT T h M) : PlSt wb w0 wr.drew sx hT T h M := p.below ((Below.refl _ _).drew)
theorem PlSt.cell (p : PlSt wb w0 wr sx hT T h M) {b off : Nat} (h1 : b < w0.heap.size) (h2 : FarN hT T b) (h3 : b ≠ sx) : wr.cell? ⟨b, off, none⟩ = w0.cell? ⟨b, off, none⟩ := by
  unfold World.cell?
  rw [p.keep b h1 h2 h3]
theorem PlSt.ne (p : PlSt wb w0 wr sx hT T h M) {g : Nat} (hA : h.A = some ⟨g, 0, none⟩) (hl : 0 < M.w.length) {b : Nat} (h1 : b < w0.heap.size) (h2 : FarN hT T b) : b ≠ g := fun e => by
  have := (p.far b h1 h2).a
  rw [hA, e] at this
  obtain ⟨n, hn⟩ : ∃ n, M.w.length = n + 1 := ⟨M.w.length - 1, by omega⟩
  rw [hn] at this
  exact this rfl
theorem PlSt.storeW {g k c' : Nat} {A : Option Addr} {q : List Int} {u : World} (p : PlSt wb w0 wr sx hT T h M) (hA : h.A = some ⟨g, 0, none⟩) (hk : k < M.w.length) (hg : wb.heap.size ≤ g) (own : u.ownsRow wr.heap.size 2 1 (.slice A q.length c') q.length (q.map (Value.int .i64))) (bel : Below wr.heap.size wr u) :
    PlSt wb w0 (u.setCell ⟨g, k, none⟩ (.slice A q.length c')) sx hT T ⟨h.A, h.c, upd h.hs k (A, c'), h.L, h.d, h.C, h.e⟩ ⟨M.w.set k q, M.l, M.c⟩ := by
  obtain ⟨o5, f5⟩ := p.own.storeW hA hk p.bel own bel
  have p4 := p.below bel
  have hsx : sx ≠ g := p.ne hA (by omega) p.sxl p.sxf
  have es : (u.setCell ⟨g, k, none⟩ (.slice A q.length c')).heap.size = u.heap.size := by simp
  exact {
    own := o5
    far := fun b h1 h2 => f5 b (Nat.lt_of_lt_of_le h1 p.size) (p.far b h1 h2)
    keep := fun b h1 h2 h3 => (Below.heap_setCell _ _ _ _ (by show b ≠ g; exact p.ne hA (by omega) h1 h2)).trans (p4.keep b h1 h2 h3)
    box := by
      show _ = some (Obj.cells #[.slice h.A (M.w.set k q).length h.c, .slice h.L M.l.length h.d, .slice h.C M.c.length h.e] 30 (0, 0))
      rw [List.length_set]
      exact (Below.heap_setCell _ _ _ _ (by show sx ≠ g; exact hsx)).trans p4.box
    bel := p4.bel.setCell (p := ⟨g, k, none⟩) hg _
    size := by rw [es]; exact p4.size
    sxl := p.sxl
    sxf := p.sxf
    sxb := p.sxb }
theorem PlSt.neL (p : PlSt wb w0 wr sx hT T h M) {g : Nat} (hL : h.L = some ⟨g, 0, none⟩) (hl : 0 < M.l.length) {b : Nat} (h1 : b < w0.heap.size) (h2 : FarN hT T b) : b ≠ g := fun e => by
  have := (p.far b h1 h2).l
  rw [hL, e] at this
  obtain ⟨n, hn⟩ : ∃ n, M.l.length = n + 1 := ⟨M.l.length - 1, by omega⟩
  rw [hn] at this
  exact this rfl
theorem PlSt.storeL {g k : Nat} {l : Lk} (p : PlSt wb w0 wr sx hT T h M) (hL : h.L = some ⟨g, 0, none⟩) (hk : k < M.l.length) (hg : wb.heap.size ≤ g) :
    PlSt wb w0 (fourW wr g (k * 4) (.int .i64 l.k) (.int .i64 l.a) (.int .i64 l.b) (.int .i64 l.c)) sx hT T h ⟨M.w, M.l.set k l, M.c⟩ := by
  obtain ⟨o5, f5⟩ := p.own.storeL (l := l) hL hk
  have hsx : sx ≠ g := p.neL hL (by omega) p.sxl p.sxf
  have b5 := four_below p.bel hg (.int .i64 l.k) (.int .i64 l.a) (.int .i64 l.b) (.int .i64 l.c) (o := k * 4)
  have es : wr.heap.size ≤ (fourW wr g (k * 4) (.int .i64 l.k) (.int .i64 l.a) (.int .i64 l.b) (.int .i64 l.c)).heap.size := (four_below (Below.refl wr.heap.size wr |>.mono (Nat.zero_le _)) (Nat.zero_le g) _ _ _ _).size
  exact {
    own := o5.size
    far := fun b h1 h2 => f5 b (p.far b h1 h2)
    keep := fun b h1 h2 h3 => (four_heap (p.neL hL (by omega) h1 h2)).trans (p.keep b h1 h2 h3)
    box := by
      show _ = some (Obj.cells #[.slice h.A M.w.length h.c, .slice h.L (M.l.set k l).length h.d, .slice h.C M.c.length h.e] 30 (0, 0))
      rw [List.length_set]
      exact (four_heap hsx).trans p.box
    bel := b5
    size := Nat.le_trans p.size es
    sxl := p.sxl
    sxf := p.sxf
    sxb := p.sxb }
theorem set2_at {w : World} {b : Nat} {a0 a1 a2 : Value} {t : TypeId} (h : w.heap[b]? = some (.cells #[a0, a1, a2] t (0, 0))) (v : Value) : (w.setCell ⟨b, 2, none⟩ v).heap[b]? = some (.cells #[a0, a1, v] t (0, 0)) := by
  have := heap_setCell_same w b 2 _ t v h
  simpa using this
theorem PlSt.pushC {u u' : World} {C : Option Addr} {e : Nat} {cs : List Int} (p : PlSt wb w0 wr sx hT T h M) (hb : Below wr.heap.size wr u) (hc : u'.ownsRow wb.heap.size 2 1 (.slice C cs.length e) cs.length (cs.map (Value.int .i64))) (hg : u.grownBy u' (Value.slice h.C M.c.length h.e).ownBlock)
    (hat : (Value.slice C cs.length e).ownBlock = (Value.slice h.C M.c.length h.e).ownBlock ∨ (Value.slice C cs.length e).ownBlock = some u.heap.size) :
    PlSt wb w0 (u'.setCell ⟨sx, 2, none⟩ (.slice C cs.length e)) sx hT T ⟨h.A, h.c, h.hs, h.L, h.d, C, e⟩ ⟨M.w, M.l, cs⟩ := by
  have o5 := p.own.pushC hb hc hg hat
  have hsb : ∀ b, b < w0.heap.size → FarN hT T b → FarN ⟨h.A, h.c, h.hs, h.L, h.d, C, e⟩ ⟨M.w, M.l, cs⟩ b := fun b h1 h2 => (p.far b h1 h2).pushC hat (Nat.lt_of_lt_of_le h1 (Nat.le_trans p.size hb.size))
  have hk : ∀ b, b < w0.heap.size → FarN hT T b → u'.heap[b]? = wr.heap[b]? := fun b h1 h2 => (hg.block b (Nat.lt_of_lt_of_le h1 (Nat.le_trans p.size hb.size)) (fun e2 => (p.far b h1 h2).c e2.symm)).trans (hb.block b (Nat.lt_of_lt_of_le h1 p.size))
  have hB : Below wb.heap.size wb u' := (p.bel.trans (hb.mono p.bel.size)).grown hg (Nat.le_trans p.bel.size hb.size) (fun q hq => (p.own.c.lt q hq).1)
  have es : (u'.setCell ⟨sx, 2, none⟩ (.slice C cs.length e)).heap.size = u'.heap.size := by simp
  exact {
    own := by
      have := o5.farSet (hsb sx p.sxl p.sxf) 2 (.slice C cs.length e)
      rw [es]; exact this
    far := hsb
    keep := fun b h1 h2 h3 => (Below.heap_setCell _ _ _ _ (by show b ≠ sx; exact h3)).trans ((hk b h1 h2).trans (p.keep b h1 h2 h3))
    box := set2_at ((hk sx p.sxl p.sxf).trans p.box) _
    bel := hB.setCell (p := ⟨sx, 2, none⟩) p.sxb _
    size := by rw [es]; exact Nat.le_trans p.size (Nat.le_trans hb.size hg.size)
    sxl := p.sxl
    sxf := p.sxf
    sxb := p.sxb }
end
theorem placed_out {wb w w0 wr : World} {hT h : NH} {T M : Nt} {b2 : Nat} (p : PlSt wb w0 wr w.heap.size hT T h M) (hbw : Below w.heap.size w w0) (h1 : b2 < w0.heap.size) (h2 : FarN hT T b2) (h3 : w.heap.size < b2) {u0 u1 u2 : Value} :
    ∃ h' : NH, Ending.returned (.agg #[.slice h.A M.w.length h.c, .slice h.L M.l.length h.d, .slice h.C M.c.length h.e]) = .returned (.agg #[.slice h'.A M.w.length h'.c, .slice h'.L M.l.length h'.d, .slice h'.C M.c.length h'.e]) ∧ OwnN (((wr.setCell ⟨b2, 0, none⟩ u0).setCell ⟨b2, 1, none⟩ u1).setCell ⟨b2, 2, none⟩ u2) wb.heap.size (((wr.setCell ⟨b2, 0, none⟩ u0).setCell ⟨b2, 1, none⟩ u1).setCell ⟨b2, 2, none⟩ u2).heap.size h' M ∧ Below wb.heap.size wb (((wr.setCell ⟨b2, 0, none⟩ u0).setCell ⟨b2, 1, none⟩ u1).setCell ⟨b2, 2, none⟩ u2) ∧ w.heap.size ≤ (((wr.setCell ⟨b2, 0, none⟩ u0).setCell ⟨b2, 1, none⟩ u1).setCell ⟨b2, 2, none⟩ u2).heap.size ∧ ∀ b, b < w.heap.size → FarN hT T b → FarN h' M b ∧ (((wr.setCell ⟨b2, 0, none⟩ u0).setCell ⟨b2, 1, none⟩ u1).setCell ⟨b2, 2, none⟩ u2).heap[b]? = w.heap[b]? := by
  have fb := p.far b2 h1 h2
  have es : (((wr.setCell ⟨b2, 0, none⟩ u0).setCell ⟨b2, 1, none⟩ u1).setCell ⟨b2, 2, none⟩ u2).heap.size = wr.heap.size := by simp
  have hge : wb.heap.size ≤ b2 := Nat.le_trans p.sxb (Nat.le_of_lt h3)
  refine ⟨h, rfl, ?_, ?_, ?_, fun b hb hf => ⟨p.far b (Nat.lt_of_lt_of_le hb hbw.size) hf, ?_⟩⟩
  · rw [es]
    exact ((p.own.farSet fb 0 u0).farSet fb 1 u1).farSet fb 2 u2
  · exact ((p.bel.setCell (p := ⟨b2, 0, none⟩) hge u0).setCell (p := ⟨b2, 1, none⟩) hge u1).setCell (p := ⟨b2, 2, none⟩) hge u2
  · rw [es]; exact Nat.le_trans hbw.size p.size
  · have hne : b ≠ b2 := by omega
    exact (Below.heap_setCell _ _ _ _ hne).trans ((Below.heap_setCell _ _ _ _ hne).trans ((Below.heap_setCell _ _ _ _ hne).trans ((p.keep b (Nat.lt_of_lt_of_le hb hbw.size) hf (by omega)).trans (hbw.block b hb))))
end
section
set_option linter.unusedSimpArgs false
set_option linter.unusedVariables false
open Go.ChangeAt Go.ChangeShapes Go.RowKit Go.WideShapes

section
variable {wb w0 wr w' : World} {sx : Nat} {hT h : NH} {T M : Nt}
theorem set0_at {w : World} {b : Nat} {a0 a1 a2 : Value} {t : TypeId} (h : w.heap[b]? = some (.cells #[a0, a1, a2] t (0, 0))) (v : Value) : (w.setCell ⟨b, 0, none⟩ v).heap[b]? = some (.cells #[v, a1, a2] t (0, 0)) := by
  have := heap_setCell_same w b 0 _ t v h
  simpa using this
theorem set1_at {w : World} {b : Nat} {a0 a1 a2 : Value} {t : TypeId} (h : w.heap[b]? = some (.cells #[a0, a1, a2] t (0, 0))) (v : Value) : (w.setCell ⟨b, 1, none⟩ v).heap[b]? = some (.cells #[a0, v, a2] t (0, 0)) := by
  have := heap_setCell_same w b 1 _ t v h
  simpa using this
/-- Another row of conclusions, in memory of its own. -/
theorem PlSt.setC {u : World} {C : Option Addr} {e : Nat} {cs : List Int} (p : PlSt wb w0 wr sx hT T h M) (hb : Below wr.heap.size wr u) (hc : u.ownsRow wr.heap.size 2 1 (.slice C cs.length e) cs.length (cs.map (Value.int .i64))) :
    PlSt wb w0 (u.setCell ⟨sx, 2, none⟩ (.slice C cs.length e)) sx hT T ⟨h.A, h.c, h.hs, h.L, h.d, C, e⟩ ⟨M.w, M.l, cs⟩ := by
  have o5 := p.own.setC hb p.bel.size hc
  have hsb : ∀ b, b < w0.heap.size → FarN hT T b → FarN ⟨h.A, h.c, h.hs, h.L, h.d, C, e⟩ ⟨M.w, M.l, cs⟩ b := fun b h1 h2 => (p.far b h1 h2).setC hc (Nat.lt_of_lt_of_le h1 p.size)
  have hk : ∀ b, b < w0.heap.size → u.heap[b]? = wr.heap[b]? := fun b h1 => hb.block b (Nat.lt_of_lt_of_le h1 p.size)
  have hB : Below wb.heap.size wb u := p.bel.trans (hb.mono p.bel.size)
  have es : (u.setCell ⟨sx, 2, none⟩ (.slice C cs.length e)).heap.size = u.heap.size := by simp
  exact {
    own := by
      have := o5.farSet (hsb sx p.sxl p.sxf) 2 (.slice C cs.length e)
      rw [es]; exact this
    far := hsb
    keep := fun b h1 h2 h3 => (Below.heap_setCell _ _ _ _ (by show b ≠ sx; exact h3)).trans ((hk b h1).trans (p.keep b h1 h2 h3))
    box := set2_at ((hk sx p.sxl).trans p.box) _
    bel := hB.setCell (p := ⟨sx, 2, none⟩) p.sxb _
    size := by rw [es]; exact Nat.le_trans p.size hb.size
    sxl := p.sxl
    sxf := p.sxf
    sxb := p.sxb }
/-- A longer row of links. -/
theorem PlSt.pushL {u u' : World} {L : Option Addr} {d : Nat} {ls : List Lk} (p : PlSt wb w0 wr sx hT T h M) (hb : Below wr.heap.size wr u) (hl : u'.ownsRow wb.heap.size 72 4 (.slice L ls.length d) ls.length ((flL ls).map (Value.int .i64))) (hg : u.grownBy u' (Value.slice h.L M.l.length h.d).ownBlock)
    (hat : (Value.slice L ls.length d).ownBlock = (Value.slice h.L M.l.length h.d).ownBlock ∨ (Value.slice L ls.length d).ownBlock = some u.heap.size) :
    PlSt wb w0 (u'.setCell ⟨sx, 1, none⟩ (.slice L ls.length d)) sx hT T ⟨h.A, h.c, h.hs, L, d, h.C, h.e⟩ ⟨M.w, ls, M.c⟩ := by
  have o5 := p.own.pushL hb hl hg hat
  have hsb : ∀ b, b < w0.heap.size → FarN hT T b → FarN ⟨h.A, h.c, h.hs, L, d, h.C, h.e⟩ ⟨M.w, ls, M.c⟩ b := fun b h1 h2 => (p.far b h1 h2).pushL hat (Nat.lt_of_lt_of_le h1 (Nat.le_trans p.size hb.size))
  have hk : ∀ b, b < w0.heap.size → FarN hT T b → u'.heap[b]? = wr.heap[b]? := fun b h1 h2 => (hg.block b (Nat.lt_of_lt_of_le h1 (Nat.le_trans p.size hb.size)) (fun e2 => (p.far b h1 h2).l e2.symm)).trans (hb.block b (Nat.lt_of_lt_of_le h1 p.size))
  have hB : Below wb.heap.size wb u' := (p.bel.trans (hb.mono p.bel.size)).grown hg (Nat.le_trans p.bel.size hb.size) (fun q hq => (p.own.l.lt q hq).1)
  have es : (u'.setCell ⟨sx, 1, none⟩ (.slice L ls.length d)).heap.size = u'.heap.size := by simp
  exact {
    own := by
      have := o5.farSet (hsb sx p.sxl p.sxf) 1 (.slice L ls.length d)
      rw [es]; exact this
    far := hsb
    keep := fun b h1 h2 h3 => (Below.heap_setCell _ _ _ _ (by show b ≠ sx; exact h3)).trans ((hk b h1 h2).trans (p.keep b h1 h2 h3))
    box := set1_at ((hk sx p.sxl p.sxf).trans p.box) _
    bel := hB.setCell (p := ⟨sx, 1, none⟩) p.sxb _
    size := by rw [es]; exact Nat.le_trans p.size (Nat.le_trans hb.size hg.size)
    sxl := p.sxl
    sxf := p.sxf
    sxb := p.sxb }
/-- A wire more. -/
theorem PlSt.pushW {u u' : World} {A6 : Option Addr} {c6 g cap : Nat} {dq : List Int} (p : PlSt wb w0 wr sx hT T h M) (hb : Below wr.heap.size wr u) (own6 : u.ownsRow wr.heap.size 2 1 (.slice A6 dq.length c6) dq.length (dq.map (Value.int .i64)))
    (hown7 : u'.ownsRow wb.heap.size 24 1 (.slice (some ⟨g, 0, none⟩) (M.w.length + 1) cap) (M.w.length + 1) (rowV h.hs M.w ++ [.slice A6 dq.length c6])) (hgrow7 : (u.alloc (.cells #[.slice A6 dq.length c6] 24)).grownBy u' (Value.slice h.A M.w.length h.c).ownBlock)
    (hat7 : (Value.slice h.A M.w.length h.c).ownBlock = some g ∨ g = (u.alloc (.cells #[.slice A6 dq.length c6] 24)).heap.size) :
    PlSt wb w0 (u'.setCell ⟨sx, 0, none⟩ (.slice (some ⟨g, 0, none⟩) (M.w ++ [dq]).length cap)) sx hT T ⟨some ⟨g, 0, none⟩, cap, upd h.hs M.w.length (A6, c6), h.L, h.d, h.C, h.e⟩ ⟨M.w ++ [dq], M.l, M.c⟩ := by
  obtain ⟨o5, f5⟩ := p.own.pushW p.bel.size hb own6 hown7 hgrow7 hat7
  have hbx := box_below u (.slice A6 dq.length c6) 24
  have hb2 := hb.trans (hbx.mono hb.size)
  have hsb : ∀ b, b < w0.heap.size → FarN hT T b → FarN ⟨some ⟨g, 0, none⟩, cap, upd h.hs M.w.length (A6, c6), h.L, h.d, h.C, h.e⟩ ⟨M.w ++ [dq], M.l, M.c⟩ b := fun b h1 h2 => f5 b (Nat.lt_of_lt_of_le h1 p.size) (p.far b h1 h2)
  have hk : ∀ b, b < w0.heap.size → FarN hT T b → u'.heap[b]? = wr.heap[b]? := fun b h1 h2 => (hgrow7.block b (Nat.lt_of_lt_of_le h1 (Nat.le_trans p.size hb2.size)) (fun e2 => (p.far b h1 h2).a e2.symm)).trans (hb2.block b (Nat.lt_of_lt_of_le h1 p.size))
  have hB : Below wb.heap.size wb u' := (p.bel.trans (hb2.mono p.bel.size)).grown hgrow7 (Nat.le_trans p.bel.size hb2.size) (fun q hq => (p.own.q.outer.lt q hq).1)
  have es : (u'.setCell ⟨sx, 0, none⟩ (.slice (some ⟨g, 0, none⟩) (M.w ++ [dq]).length cap)).heap.size = u'.heap.size := by simp
  exact {
    own := by
      have := o5.farSet (hsb sx p.sxl p.sxf) 0 (.slice (some ⟨g, 0, none⟩) (M.w ++ [dq]).length cap)
      rw [es]; exact this
    far := hsb
    keep := fun b h1 h2 h3 => (Below.heap_setCell _ _ _ _ (by show b ≠ sx; exact h3)).trans ((hk b h1 h2).trans (p.keep b h1 h2 h3))
    box := set0_at ((hk sx p.sxl p.sxf).trans p.box) _
    bel := hB.setCell (p := ⟨sx, 0, none⟩) p.sxb _
    size := by rw [es]; exact Nat.le_trans p.size (Nat.le_trans hb2.size hgrow7.size)
    sxl := p.sxl
    sxf := p.sxf
    sxb := p.sxb }
end
end
end Go.Proofs.YtdcommmefehlgaaDoor
