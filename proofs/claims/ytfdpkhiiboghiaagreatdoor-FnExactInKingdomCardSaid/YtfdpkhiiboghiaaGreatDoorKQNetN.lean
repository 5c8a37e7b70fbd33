/- A net renumbered, of the model. The program's placed: a net put into another one under given numbers. A net in a box that grows: another row of conclusions, a link more, a wire more. Rows of rows put one behind the other; a net in a box that gets many wires. slices.Concat of rows of numbers, empty or not; the program's without at one position. The program's isPermutation: slices.Sort at a row of one's own. The program's outputsOfLinks; positionOf. A region that draws its order, in which one operation (a call that writes, at the end) need not keep what the loads ahead of it rest on. -/
import Derived.Test.YtfdpkhiiboghiaaGreatDoorKQPaH
import Derived.Test.YtfdpkhiiboghiaaGreatDoorKQNetZ
import Derived.Test.YtfdpkhiiboghiaaGreatDoorKQPaD
import Derived.Test.YtfdpkhiiboghiaaGreatDoorKQPgA
import Derived.Test.YtfdpkhiiboghiaaGreatDoorKQSqM
import Derived.Maps.AppendAt
import Derived.Deep.RegionHeldLaw
import Derived.Deep.DeepCutAuto
import Derived.BigQuiet
import Derived.Test.YtfdpkhiiboghiaaGreatDoorShelfI
import Derived.Test.YtfdpkhiiboghiaaGreatDoorKQPgG
import Derived.Lib.OwnBridge
import Derived.Deep.RegionHeld
namespace Go.Proofs.YtfdpkhiiboghiaaGreatDoor
set_option linter.unusedSimpArgs false
set_option linter.unusedVariables false
section
open Go.ChangeAt Go.ChangeShapes Go.RowKit Go.WideShapes

/-- Where the copy stands, while it is renumbered. -/
def RnSt (w0 wx : World) (bo : Nat) (h : NH) (N : Nt) (x y z : Value) : Prop := OwnN wx w0.heap.size wx.heap.size h N ∧ FarN h N bo ∧ wx.heap[bo]? = some (.cells #[x, y, z] 30 (0, 0)) ∧ Below w0.heap.size w0 wx
theorem RnSt.drew {w0 wx : World} {bo : Nat} {h : NH} {N : Nt} {x y z : Value} (r : RnSt w0 wx bo h N x y z) : RnSt w0 wx.drew bo h N x y z := ⟨r.1.same (fun _ _ _ _ => rfl), r.2.1, r.2.2.1, r.2.2.2.drew⟩
end
section
set_option linter.unusedSimpArgs false
set_option linter.unusedVariables false
open Go.ChangeAt Go.ChangeShapes Go.RowKit Go.WideShapes

/-- What placed holds: the target, grown, and its box. -/
structure PlSt (wb w0 wr : World) (sx : Nat) (hT : NH) (T : Nt) (h : NH) (M : Nt) : Prop where
  own : OwnN wr wb.heap.size wr.heap.size h M
  far : ∀ b, b < w0.heap.size → FarN hT T b → FarN h M b
  keep : ∀ b, b < w0.heap.size → FarN hT T b → b ≠ sx → wr.heap[b]? = w0.heap[b]?
  box : wr.heap[sx]? = some (.cells #[.slice h.A M.w.length h.c, .slice h.L M.l.length h.d, .slice h.C M.c.length h.e] 30 (0, 0))
  bel : Below wb.heap.size wb wr
  size : w0.heap.size ≤ wr.heap.size
  sxl : sx < w0.heap.size
  sxf : FarN hT T sx
  sxb : wb.heap.size ≤ sx
section
variable {wb w0 wr w' : World} {sx : Nat} {hT h : NH} {T M : Nt}
theorem PlSt.below (p : PlSt wb w0 wr sx hT T h M) (hb : Below wr.heap.size wr w') : PlSt wb w0 w' sx hT T h M where
  own := (p.own.below hb).more (Nat.le_refl _) hb.size
  far := p.far
  keep b h1 h2 h3 := (hb.block b (Nat.lt_of_lt_of_le h1 p.size)).trans (p.keep b h1 h2 h3)
  box := (hb.block sx (Nat.lt_of_lt_of_le p.sxl p.size)).trans p.box
  bel := p.bel.trans (hb.mono p.bel.size)
  size := Nat.le_trans p.size hb.size
  sxl := p.sxl
  sxf := p.sxf
  sxb := p.sxb
theorem PlSt.drew (p : PlSt wb w0 wr sx hT T h M) : PlSt wb w0 wr.drew sx hT T h M := p.below ((Below.refl _ _).drew)
theorem PlSt.cell (p : PlSt wb w0 wr sx hT T h M) {b off : Nat} (h1 : b < w0.heap.size) (h2 : FarN hT T b) (h3 : b ≠ sx) : wr.cell? ⟨b, off, none⟩ = w0.cell? ⟨b, off, none⟩ := by
  unfold World.cell?
  rw [p.keep b h1 h2 h3]
theorem set2_at {w : World} {b : Nat} {a0 a1 a2 : Value} {t : TypeId} (h : w.heap[b]? = some (.cells #[a0, a1, a2] t (0, 0))) (v : Value) : (w.setCell ⟨b, 2, none⟩ v).heap[b]? = some (.cells #[a0, a1, v] t (0, 0)) := by
  have := heap_setCell_same w b 2 _ t v h
  simpa using this
theorem PlSt.pushC {u u' : World} {C : Option Addr} {e : Nat} {cs : List Int} (p : PlSt wb w0 wr sx hT T h M) (hb : Below wr.heap.size wr u) (hc : u'.ownsRow wb.heap.size 2 1 (.slice C cs.length e) cs.length (cs.map (Value.int .i64))) (hg : u.grownBy u' (Value.slice h.C M.c.length h.e).ownBlock)
    (hat : (Value.slice C cs.length e).ownBlock = (Value.slice h.C M.c.length h.e).ownBlock ∨ (Value.slice C cs.length e).ownBlock = some u.heap.size) :
    PlSt wb w0 (u'.setCell ⟨sx, 2, none⟩ (.slice C cs.length e)) sx hT T ⟨h.A, h.c, h.hs, h.L, h.d, C, e⟩ ⟨M.w, M.l, cs⟩ := by
  have o5 := p.own.pushC hb hc hg hat
  have hsb : ∀ b, b < w0.heap.size → FarN hT T b → FarN ⟨h.A, h.c, h.hs, h.L, h.d, C, e⟩ ⟨M.w, M.l, cs⟩ b := fun b h1 h2 => (p.far b h1 h2).pushC hat (Nat.lt_of_lt_of_le h1 (Nat.le_trans p.size hb.size))
  have hk : ∀ b, b < w0.heap.size → FarN hT T b → u'.heap[b]? = wr.heap[b]? := fun b h1 h2 => (hg.block b (Nat.lt_of_lt_of_le h1 (Nat.le_trans p.size hb.size)) (fun e2 => (p.far b h1 h2).c e2.symm)).trans (hb.block b (Nat.lt_of_lt_of_le h1 p.size))
  have hB : Below wb.heap.size wb u' := (p.bel.trans (hb.mono p.bel.size)).grown hg (Nat.le_trans p.bel.size hb.size) (fun q hq => (p.own.c.lt q hq).1)
  have es : (u'.setCell ⟨sx, 2, none⟩ (.slice C cs.length e)).heap.size = u'.heap.size := by simp
  exact {
    own := by
      have := o5.farSet (hsb sx p.sxl p.sxf) 2 (.slice C cs.length e)
      rw [es]; exact this
    far := hsb
    keep := fun b h1 h2 h3 => (Below.heap_setCell _ _ _ _ (by show b ≠ sx; exact h3)).trans ((hk b h1 h2).trans (p.keep b h1 h2 h3))
    box := set2_at ((hk sx p.sxl p.sxf).trans p.box) _
    bel := hB.setCell (p := ⟨sx, 2, none⟩) p.sxb _
    size := by rw [es]; exact Nat.le_trans p.size (Nat.le_trans hb.size hg.size)
    sxl := p.sxl
    sxf := p.sxf
    sxb := p.sxb }
end
end
section
set_option linter.unusedSimpArgs false
set_option linter.unusedVariables false
open Go.ChangeAt Go.ChangeShapes Go.RowKit Go.WideShapes

section
variable {wb w0 wr w' : World} {sx : Nat} {hT h : NH} {T M : Nt}
theorem set0_at {w : World} {b : Nat} {a0 a1 a2 : Value} {t : TypeId} (h : w.heap[b]? = some (.cells #[a0, a1, a2] t (0, 0))) (v : Value) : (w.setCell ⟨b, 0, none⟩ v).heap[b]? = some (.cells #[v, a1, a2] t (0, 0)) := by
  have := heap_setCell_same w b 0 _ t v h
  simpa using this
theorem set1_at {w : World} {b : Nat} {a0 a1 a2 : Value} {t : TypeId} (h : w.heap[b]? = some (.cells #[a0, a1, a2] t (0, 0))) (v : Value) : (w.setCell ⟨b, 1, none⟩ v).heap[b]? = some (.cells #[a0, v, a2] t (0, 0)) := by
  have := heap_setCell_same w b 1 _ t v h
  simpa using this
/-- Another row of conclusions, in memory of its own. -/
theorem PlSt.setC {u : World} {C : Option Addr} {e : Nat} {cs : List Int} (p : PlSt wb w0 wr sx hT T h M) (hb : Below wr.heap.size wr u) (hc : u.ownsRow wr.heap.size 2 1 (.slice C cs.length e) cs.length (cs.map (Value.int .i64))) :
    PlSt wb w0 (u.setCell ⟨sx, 2, none⟩ (.slice C cs.length e)) sx hT T ⟨h.A, h.c, h.hs, h.L, h.d, C, e⟩ ⟨M.w, M.l, cs⟩ := by
  have o5 := p.own.setC hb p.bel.size hc
  have hsb : ∀ b, b < w0.heap.size → FarN hT T b → FarN ⟨h.A, h.c, h.hs, h.L, h.d, C, e⟩ ⟨M.w, M.l, cs⟩ b := fun b h1 h2 => (p.far b h1 h2).setC hc (Nat.lt_of_lt_of_le h1 p.size)
  have hk : ∀ b, b < w0.heap.size → u.heap[b]? = wr.heap[b]? := fun b h1 => hb.block b (Nat.lt_of_lt_of_le h1 p.size)
  have hB : Below wb.heap.size wb u := p.bel.trans (hb.mono p.bel.size)
  have es : (u.setCell ⟨sx, 2, none⟩ (.slice C cs.length e)).heap.size = u.heap.size := by simp
  exact {
    own := by
      have := o5.farSet (hsb sx p.sxl p.sxf) 2 (.slice C cs.length e)
      rw [es]; exact this
    far := hsb
    keep := fun b h1 h2 h3 => (Below.heap_setCell _ _ _ _ (by show b ≠ sx; exact h3)).trans ((hk b h1).trans (p.keep b h1 h2 h3))
    box := set2_at ((hk sx p.sxl).trans p.box) _
    bel := hB.setCell (p := ⟨sx, 2, none⟩) p.sxb _
    size := by rw [es]; exact Nat.le_trans p.size hb.size
    sxl := p.sxl
    sxf := p.sxf
    sxb := p.sxb }
/-- A longer row of links. -/
theorem PlSt.pushL {u u' : World} {L : Option Addr} {d : Nat} {ls : List Lk} (p : PlSt wb w0 wr sx hT T h M) (hb : Below wr.heap.size wr u) (hl : u'.ownsRow wb.heap.size 103 4 (.slice L ls.length d) ls.length ((flL ls).map (Value.int .i64))) (hg : u.grownBy u' (Value.slice h.L M.l.length h.d).ownBlock)
    (hat : (Value.slice L ls.length d).ownBlock = (Value.slice h.L M.l.length h.d).ownBlock ∨ (Value.slice L ls.length d).ownBlock = some u.heap.size) :
    PlSt wb w0 (u'.setCell ⟨sx, 1, none⟩ (.slice L ls.length d)) sx hT T ⟨h.A, h.c, h.hs, L, d, h.C, h.e⟩ ⟨M.w, ls, M.c⟩ := by
  have o5 := p.own.pushL hb hl hg hat
  have hsb : ∀ b, b < w0.heap.size → FarN hT T b → FarN ⟨h.A, h.c, h.hs, L, d, h.C, h.e⟩ ⟨M.w, ls, M.c⟩ b := fun b h1 h2 => (p.far b h1 h2).pushL hat (Nat.lt_of_lt_of_le h1 (Nat.le_trans p.size hb.size))
  have hk : ∀ b, b < w0.heap.size → FarN hT T b → u'.heap[b]? = wr.heap[b]? := fun b h1 h2 => (hg.block b (Nat.lt_of_lt_of_le h1 (Nat.le_trans p.size hb.size)) (fun e2 => (p.far b h1 h2).l e2.symm)).trans (hb.block b (Nat.lt_of_lt_of_le h1 p.size))
  have hB : Below wb.heap.size wb u' := (p.bel.trans (hb.mono p.bel.size)).grown hg (Nat.le_trans p.bel.size hb.size) (fun q hq => (p.own.l.lt q hq).1)
  have es : (u'.setCell ⟨sx, 1, none⟩ (.slice L ls.length d)).heap.size = u'.heap.size := by simp
  exact {
    own := by
      have := o5.farSet (hsb sx p.sxl p.sxf) 1 (.slice L ls.length d)
      rw [es]; exact this
    far := hsb
    keep := fun b h1 h2 h3 => (Below.heap_setCell _ _ _ _ (by show b ≠ sx; exact h3)).trans ((hk b h1 h2).trans (p.keep b h1 h2 h3))
    box := set1_at ((hk sx p.sxl p.sxf).trans p.box) _
    bel := hB.setCell (p := ⟨sx, 1, none⟩) p.sxb _
    size := by rw [es]; exact Nat.le_trans p.size (Nat.le_trans hb.size hg.size)
    sxl := p.sxl
    sxf := p.sxf
    sxb := p.sxb }
/-- A wire more. -/
theorem PlSt.pushW {u u' : World} {A6 : Option Addr} {c6 g cap : Nat} {dq : List Int} (p : PlSt wb w0 wr sx hT T h M) (hb : Below wr.heap.size wr u) (own6 : u.ownsRow wr.heap.size 2 1 (.slice A6 dq.length c6) dq.length (dq.map (Value.int .i64)))
    (hown7 : u'.ownsRow wb.heap.size 24 1 (.slice (some ⟨g, 0, none⟩) (M.w.length + 1) cap) (M.w.length + 1) (rowV h.hs M.w ++ [.slice A6 dq.length c6])) (hgrow7 : (u.alloc (.cells #[.slice A6 dq.length c6] 24)).grownBy u' (Value.slice h.A M.w.length h.c).ownBlock)
    (hat7 : (Value.slice h.A M.w.length h.c).ownBlock = some g ∨ g = (u.alloc (.cells #[.slice A6 dq.length c6] 24)).heap.size) :
    PlSt wb w0 (u'.setCell ⟨sx, 0, none⟩ (.slice (some ⟨g, 0, none⟩) (M.w ++ [dq]).length cap)) sx hT T ⟨some ⟨g, 0, none⟩, cap, upd h.hs M.w.length (A6, c6), h.L, h.d, h.C, h.e⟩ ⟨M.w ++ [dq], M.l, M.c⟩ := by
  obtain ⟨o5, f5⟩ := p.own.pushW p.bel.size hb own6 hown7 hgrow7 hat7
  have hbx := box_below u (.slice A6 dq.length c6) 24
  have hb2 := hb.trans (hbx.mono hb.size)
  have hsb : ∀ b, b < w0.heap.size → FarN hT T b → FarN ⟨some ⟨g, 0, none⟩, cap, upd h.hs M.w.length (A6, c6), h.L, h.d, h.C, h.e⟩ ⟨M.w ++ [dq], M.l, M.c⟩ b := fun b h1 h2 => f5 b (Nat.lt_of_lt_of_le h1 p.size) (p.far b h1 h2)
  have hk : ∀ b, b < w0.heap.size → FarN hT T b → u'.heap[b]? = wr.heap[b]? := fun b h1 h2 => (hgrow7.block b (Nat.lt_of_lt_of_le h1 (Nat.le_trans p.size hb2.size)) (fun e2 => (p.far b h1 h2).a e2.symm)).trans (hb2.block b (Nat.lt_of_lt_of_le h1 p.size))
  have hB : Below wb.heap.size wb u' := (p.bel.trans (hb2.mono p.bel.size)).grown hgrow7 (Nat.le_trans p.bel.size hb2.size) (fun q hq => (p.own.q.outer.lt q hq).1)
  have es : (u'.setCell ⟨sx, 0, none⟩ (.slice (some ⟨g, 0, none⟩) (M.w ++ [dq]).length cap)).heap.size = u'.heap.size := by simp
  exact {
    own := by
      have := o5.farSet (hsb sx p.sxl p.sxf) 0 (.slice (some ⟨g, 0, none⟩) (M.w ++ [dq]).length cap)
      rw [es]; exact this
    far := hsb
    keep := fun b h1 h2 h3 => (Below.heap_setCell _ _ _ _ (by show b ≠ sx; exact h3)).trans ((hk b h1 h2).trans (p.keep b h1 h2 h3))
    box := set0_at ((hk sx p.sxl p.sxf).trans p.box) _
    bel := hB.setCell (p := ⟨sx, 0, none⟩) p.sxb _
    size := by rw [es]; exact Nat.le_trans p.size (Nat.le_trans hb2.size hgrow7.size)
    sxl := p.sxl
    sxf := p.sxf
    sxb := p.sxb }
end
end
section
set_option linter.unusedSimpArgs false
set_option linter.unusedVariables false
open Go.ChangeAt Go.ChangeShapes Go.RowKit Go.WideShapes Go.Shelf Go.Lib Go.Sort

theorem own_shape1 {w : World} {base n : Nat} {e : TypeId} {v : Value} {xs : List Value} (h : w.ownsRow base e 1 v n xs) : ∃ A c, v = .slice A n c ∧ n ≤ c := by
  rcases h.2 with ⟨rfl, rfl⟩ | ⟨g, cap, cur, rfl, _, _, hn, _⟩
  · exact ⟨_, _, rfl, Nat.le_refl _⟩
  · exact ⟨_, _, rfl, hn⟩
theorem run_append_zero {P : Program} (w : World) (t ty e : TypeId) (i : TypeInfo) (ht : P.underlying t = some (.slice e)) (hi : P.info? e = some i) (A : Option Addr) (n c d : Nat) (hnc : n ≤ c) :
    (Builtin.append_ #[t, t] ty #[.slice A n c, .slice none 0 d]).run P w = .ok (.slice A n c) w := by
  cases A <;> simp [Builtin.append_, run_underlying ht, sizeOf, typeInfo, hi, Builtin.lenOf, Builtin.firstCells, hnc, storeCells]
/-- append of a row, perhaps of none. -/
theorem step_atX {P : Program} {w : World} {ops : Array Oper} {o : Oper} {a : Act} {K : Act → World → Prop} {Q : Exit → Act → World → Prop} {E : Prop} (hgd : o.guard = none) (s x : Operand) (t : TypeId)
    (ho : o.op = .call { callee := .builtin .append, args := #[s, x], argTypes := #[t, t] })
    (lo : Nat) (ty : TypeId) (i : TypeInfo) (z : Value) (bytes : Nat) (ht : P.underlying t = some (.slice ty)) (hi : P.info? ty = some i) (hz : i.zero = some z) (h4 : i.size = 1) (h5 : i.bytes = bytes) (h6 : z.cells.size = 1)
    (v : Value) (n : Nat) (xs : List Value) (hs : a.eval s = v) (own : w.ownsRow lo ty 1 v n xs)
    (X : Option Addr) (m c : Nat) (lo2 : Nat) (ys : List Value) (hx : a.eval x = .slice X m c) (own2 : w.ownsRow lo2 ty 1 (.slice X m c) m ys) (h1 : ∀ u ∈ ys, u.oneCell' = true)
    (h8 : n + m ≤ maxLen) (h9 : (n + m) * bytes ≤ 140737488355328) (hlo : lo ≤ w.heap.size)
    (h : ∀ v' w', w'.ownsRow lo ty 1 v' (n + m) (xs ++ ys) → w.grownBy w' v.ownBlock → (v'.ownBlock = v.ownBlock ∨ v'.ownBlock = some w.heap.size) → K (a.put o.dst v') w') :
    if Region.wanted o (yielded ops a.tmps) = true then Oper.wp P o a w K Q else E := by
  cases hX : X with
  | some ad =>
    subst hX
    have hA : ys.length = m * 1 := own2.1
    refine step_at hgd s x t ho lo ty i z 1 bytes ht hi hz h4 h5 h6 (by omega) v n xs hs own ad m c ys hx (by omega) ?_ h1 h8 h9 hlo h
    intro j u hu
    obtain ⟨g, cap, hv, _⟩ := own2.form (by have := (List.getElem?_eq_some_iff.1 hu).1; omega)
    injection hv with e1 e2 e3
    injection e1 with e1
    subst e1
    exact own2.cells rfl j u hu
  | none =>
    subst hX
    obtain ⟨rfl, rfl⟩ : m = 0 ∧ ys = [] := by
      rcases own2.2 with ⟨h3, h4⟩ | ⟨g, cap, cur, h3, _⟩
      · subst h4
        exact ⟨rfl, List.eq_nil_of_length_eq_zero (by have := own2.1; omega)⟩
      · cases h3
    obtain ⟨A, d, rfl, hnc⟩ := own_shape1 own
    rw [if_pos (show Region.wanted o (yielded ops a.tmps) = true by simp [Region.wanted, hgd])]
    unfold Oper.wp execOp
    simp only [ho, resolve, invoke, builtin, Sem.run_bind, Sem.run_pure, Result.andThen_ok, List.map_toArray, List.map_cons, List.map_nil, hs, hx, run_append_zero w t o.type ty i ht hi A n d c hnc]
    exact h _ _ (by simpa using own) ⟨rfl, rfl, rfl, Nat.le_refl _, fun _ _ _ => rfl⟩ (.inl rfl)
/-- append of a row, perhaps of none, in a region that draws nothing. -/
theorem wpList_atX {P : Program} {w : World} {ops : Array Oper} {rest : List Oper} {o : Oper} {a : Act} {Q : Exit → Act → World → Prop} (hgd : o.guard = none) (s x : Operand) (t : TypeId)
    (ho : o.op = .call { callee := .builtin .append, args := #[s, x], argTypes := #[t, t] })
    (lo : Nat) (ty : TypeId) (i : TypeInfo) (z : Value) (bytes : Nat) (ht : P.underlying t = some (.slice ty)) (hi : P.info? ty = some i) (hz : i.zero = some z) (h4 : i.size = 1) (h5 : i.bytes = bytes) (h6 : z.cells.size = 1)
    (v : Value) (n : Nat) (xs : List Value) (hs : a.eval s = v) (own : w.ownsRow lo ty 1 v n xs)
    (X : Option Addr) (m c : Nat) (lo2 : Nat) (ys : List Value) (hx : a.eval x = .slice X m c) (own2 : w.ownsRow lo2 ty 1 (.slice X m c) m ys) (h1 : ∀ u ∈ ys, u.oneCell' = true)
    (h8 : n + m ≤ maxLen) (h9 : (n + m) * bytes ≤ 140737488355328) (hlo : lo ≤ w.heap.size)
    (h : ∀ v' w', w'.ownsRow lo ty 1 v' (n + m) (xs ++ ys) → w.grownBy w' v.ownBlock → (v'.ownBlock = v.ownBlock ∨ v'.ownBlock = some w.heap.size) → wpList P ops Q rest (a.put o.dst v') w') :
    wpList P ops Q (o :: rest) a w := by
  refine wpList_plain hgd fun K hK => ?_
  have := step_atX (P := P) (ops := ops) (K := K) (Q := Q) (E := True) hgd s x t ho lo ty i z bytes ht hi hz h4 h5 h6 v n xs hs own X m c lo2 ys hx own2 h1 h8 h9 hlo (fun v' w' h1 h2 h3 => hK _ _ (h v' w' h1 h2 h3))
  rw [if_pos (by simp [Region.wanted, hgd])] at this
  exact this
/-- A row of numbers that is to be appended: nil, or at an address. -/
def PartI (w : World) (B : Nat) (v : Value) (zs : List Int) : Prop :=
  (v = .slice none 0 0 ∧ zs = []) ∨ ∃ ad c, v = .slice (some ad) zs.length c ∧ RdI w B (some ad) zs.length zs
theorem PartI.below {w w' : World} {B : Nat} {v : Value} {zs : List Int} (h : PartI w B v zs) (hb : Below B w w') : PartI w' B v zs := by
  rcases h with h | ⟨ad, c, hv, hn⟩
  · exact .inl h
  · exact .inr ⟨ad, c, hv, hn.below hb⟩
theorem PartI.more {w : World} {B B' : Nat} {v : Value} {zs : List Int} (h : PartI w B v zs) (hb : B ≤ B') : PartI w B' v zs := by
  rcases h with h | ⟨ad, c, hv, hn⟩
  · exact .inl h
  · exact .inr ⟨ad, c, hv, hn.more hb⟩
theorem PartI.of_own {w : World} {base c : Nat} {A : Option Addr} {zs : List Int} (h : w.ownsRow base 2 1 (.slice A zs.length c) zs.length (zs.map (Value.int .i64))) : PartI w w.heap.size (.slice A zs.length c) zs := by
  have r := RdI.of_own h
  rcases h.2 with ⟨e, e2⟩ | ⟨g, cap, cur, e, _⟩
  · have hl : zs = [] := List.eq_nil_of_length_eq_zero (by injection e)
    subst hl
    exact .inl ⟨e, rfl⟩
  · injection e with e1 e2 e3
    subst e1
    exact .inr ⟨_, c, rfl, r⟩
theorem sortI_any (g c lo : Nat) (xs : List Int) (w : World) (own : w.ownsRow lo 2 1 (.slice (some ⟨g, 0, none⟩) xs.length c) xs.length (xs.map (Value.int .i64))) (h0 : 0 < xs.length) (hn : xs.length ≤ 1048576) :
    Calls Tryz.prog 160 #[.slice (some ⟨g, 0, none⟩) xs.length c] w fun e w' => e = .returned (.tuple #[]) ∧ w'.ownsRow lo 2 1 (.slice (some ⟨g, 0, none⟩) xs.length c) xs.length ((srtI xs).map (Value.int .i64)) ∧ Below lo w w' := by
  have hg := own.lt g rfl
  have hH : Holds (Value.int .i64) w g 0 xs.toArray := fun j hj => by
    have hj' : j < xs.length := by simpa using hj
    have h1 := own.frozenAt j
    have h2 := own.cellAt j (by omega)
    rw [Nat.zero_add]
    refine ⟨?_, h1⟩
    rw [h2]
    simp [getElem!_pos, hj']
  have hC := AnyM.slices_Sort_int Tryz.sortI g 0 c xs w hH hg.2 (by omega)
  refine (show Calls Tryz.prog 160 _ _ _ from hC).mono ?_
  rintro e w' ⟨he, m, os, rfl⟩
  refine ⟨he, ?_⟩
  have hlen : (srtI xs).length = xs.length := (srtI_perm xs).length_eq
  have ho := ownsRow_putRow (q := m) (k := xs.length) (ys := srtI xs) own hlen (Nat.le_refl _)
  rw [List.take_of_length_le (by omega)] at ho
  have hgl : (putRow (Value.int .i64) (Sort.ahead w m) g 0 (srtI xs).toArray).heap.size = w.heap.size := by simp [putRow, mapBlock, Sort.ahead]
  have hkeep : ∀ k, k ≠ g → k < w.heap.size → (grow (putRow (Value.int .i64) (Sort.ahead w m) g 0 (srtI xs).toArray) os).heap[k]? = w.heap[k]? := by
    intro k hk hkl
    rw [heap_grow_old _ _ (by simp [putRow, mapBlock, Sort.ahead]; exact hkl)]
    have hk' : ¬ g = k := fun e => hk e.symm
    simp [putRow, mapBlock, Sort.ahead, Array.getElem?_modify, hk']
  refine ⟨?_, ⟨rfl, rfl, rfl, ?_, fun k hk => hkeep k (by omega) (by omega)⟩⟩
  · exact own_same ho fun k e => by
      obtain rfl : g = k := by simpa [Value.ownBlock] using e
      exact heap_grow_old _ _ (Nat.lt_of_lt_of_eq hg.2 hgl.symm)
  · show w.heap.size ≤ (grow _ os).heap.size
    rw [size_grow]
    simp [putRow, mapBlock, Sort.ahead]
set_option maxHeartbeats 600000 in
theorem indexP_any (A : Option Addr) (n c : Nat) (L : List Int) (x : Int) (w : World) (h : RdI w w.heap.size A n L) (hn : n ≤ 1048576) :
    Calls Tryz.prog 135 #[.slice A n c, .int .i64 x] w fun e w' => e = .returned (.int .i64 (posI L x)) ∧ w' = w := by
  have hl := h.len
  subst hl
  have H := Lib.hid h
  clear h
  go_enter Tryz.func135, Tryz.ntmps135
  go_wp2
  go_loopw [8] (fun i wr => ∃ k : Nat, k ≤ L.length ∧ i = .int .i64 k ∧ (∀ j, j < k → L.getD j 0 ≠ x) ∧ wr = w) (fun i _ => L.length - (intOf i).toNat)
  case atStart => exact ⟨0, Nat.zero_le _, rfl, fun j hj => absurd hj (by omega), rfl⟩
  case round =>
    obtain ⟨k, hk, rfl, hno, rfl⟩ := hrel
    by_cases hlt : k < L.length
    · obtain ⟨b, off, rfl, hbb, hcells⟩ := H.out.2 (by omega)
      have x0 := hcells k hlt
      have HNO := Lib.hid hno
      by_cases he : L.getD k 0 = x
      · have HE : Hid ((k : Int) = posI L x) := Lib.hid (by
          have hm : x ∈ L := by rw [← he]; exact getL_mem hlt
          unfold posI
          rw [if_pos hm]
          have h1 : L.idxOf x ≤ k := by
            refine Decidable.byContradiction fun e => ?_
            have h2 := List.not_of_lt_findIdx (p := fun y => y == x) (xs := L) (i := k) (show k < L.findIdx (fun y => y == x) by unfold List.idxOf at e; omega)
            simp only [List.getD, List.getElem?_eq_getElem hlt, Option.getD_some] at he
            rw [he] at h2
            simp at h2
          have h3 : ¬ L.idxOf x < k := fun e => by
            have h4 := HNO.out _ e
            have h5 : L.idxOf x < L.length := by omega
            simp only [List.getD, List.getElem?_eq_getElem h5, Option.getD_some] at h4
            exact h4 (List.getElem_idxOf h5)
          omega)
        rw [he] at x0
        have hd : (x == x) = true := by simp
        clear hcells he hno
        go_wp2
        go_ret
        exact ⟨ret_i64 HE.out, rfl⟩
      · have hd : (x == L.getD k 0) = false := by simp; exact fun e => he e.symm
        have hd' : (L.getD k 0 == x) = false := by simp; exact he
        have HS : Hid (∀ j, j < k + 1 → L.getD j 0 ≠ x) := Lib.hid fun j hj => by
          by_cases e : j < k
          · exact HNO.out j e
          · obtain rfl : j = k := by omega
            exact he
        clear hcells he hno
        generalize L.getD k 0 = z at *
        go_wp2
        go_roundw
        case rel => exact ⟨k + 1, by omega, by go_num, HS.out, by first | rfl | trivial⟩
        case measure => simp [intOf]; omega
    · have hkl : k = L.length := by omega
      subst hkl
      have HE : Hid ((-1 : Int) = posI L x) := Lib.hid (by
        unfold posI
        rw [if_neg]
        intro hm
        obtain ⟨j, hj, e⟩ := List.getElem_of_mem hm
        exact hno j hj (by simp [List.getD, hj, e]))
      clear hno
      go_wp2
      go_ret
      exact ⟨ret_i64 HE.out, rfl⟩
theorem posOf_any (A : Option Addr) (n c : Nat) (L : List Int) (x : Int) (w : World) (h : RdI w w.heap.size A n L) (hn : n ≤ 1048576) :
    Calls Tryz.prog 152 #[.slice A n c, .int .i64 x] w fun e w' => e = .returned (.int .i64 (posI L x)) ∧ w = w' := by
  have HI := Lib.hid (indexP_any A n c L x w h hn)
  have hl := h.len
  have hw : IntKind.i64.wrap (posI L x) = posI L x := IntWalk.i64_in _ (by
    have := List.idxOf_le_length (a := x) (l := L)
    unfold posI
    split <;> omega)
  clear h
  generalize posI L x = p at *
  go_enter Tryz.func152, Tryz.ntmps152
  go_wp2_with (fail)
  refine HI.out.mono ?_
  rintro e w1 ⟨rfl, rfl⟩
  go_wp2
  go_ret
  exact ⟨rfl, rfl⟩
set_option maxRecDepth 100000 in
set_option maxHeartbeats 600000 in
theorem outputsOfLinks_any (h : NH) (N : Nt) (K : Nat → Bool) (A : Option Addr) (c : Nat) (w : World) (hv : valN N = true) (rN : RdN w w.heap.size h N) (r : RdI w w.heap.size A (selU K N.l.length).length (selU K N.l.length)) (hne : 0 < (kpW N K N.w.length).length) :
    Calls Tryz.prog 112 #[.agg #[.slice h.A N.w.length h.c, .slice h.L N.l.length h.d, .slice h.C N.c.length h.e], .slice A (selU K N.l.length).length c] w (Gives w (kpW N K N.w.length)) := by
  obtain ⟨h48, h48l⟩ := valN_size hv
  obtain ⟨i0, hi0, hz0, hz1, hz2⟩ := info_parts info_i64
  have HI := Lib.hid hi0; have HZ0 := Lib.hid hz0; have HZ1 := Lib.hid hz1; have HZ2 := Lib.hid hz2
  obtain ⟨w0, hw0⟩ : ∃ w0, w0 = w.alloc (.cells #[.slice h.A N.w.length h.c, .slice h.L N.l.length h.d, .slice h.C N.c.length h.e] 30) := ⟨_, rfl⟩
  obtain ⟨hb, hh, hsz⟩ := box3_any w (.slice h.A N.w.length h.c) (.slice h.L N.l.length h.d) (.slice h.C N.c.length h.e) 30
  rw [← hw0] at hb hh hsz
  have HKB := Lib.hid (fun (wx : World) (hw : Below w0.heap.size w0 wx) => three_cells ((hw.block w.heap.size (by omega)).trans hh))
  have HRL := Lib.hid (fun (wx : World) (hx : Below w0.heap.size w0 wx) => show RdL wx w.heap.size h.L N.l.length N.l from rN.2.1.below (hb.trans (hx.mono hb.size)))
  have HRK := Lib.hid (fun (wx : World) (hx : Below w0.heap.size w0 wx) => show RdI wx w.heap.size A (selU K N.l.length).length (selU K N.l.length) from r.below (hb.trans (hx.mono hb.size)))
  have HB0 := Lib.hid hb
  have HIN : Hid (∀ k, k < (selU K N.l.length).length → inW N.l.length ((selU K N.l.length).getD k 0) = true) := Lib.hid fun k hk => by
    obtain ⟨j, h1, _, e⟩ := selU_mem.1 (getL_mem (d := (0 : Int)) hk)
    rw [e]; exact decide_eq_true (by omega)
  have HSO := Lib.hid (out_sort hv K)
  have hkl := selU_len K N.l.length
  have HLE : Hid ((outU N (selU K N.l.length) (selU K N.l.length).length).length = (kpW N K N.w.length).length) := Lib.hid (by rw [← HSO.out, (srtI_perm _).length_eq])
  clear hb hh hsz rN r
  generalize selU K N.l.length = ks at *
  generalize kpW N K N.w.length = KW at *
  go_enter Tryz.func112, Tryz.ntmps112
  go_upto_region 1 with (fail)
  rw [← hw0]
  clear hw0
  go_wp2
  go_loopw [5, 10] (fun v i wx => ∃ k : Nat, k ≤ ks.length ∧ i = .int .i64 k ∧ wx.ownsRow w0.heap.size 2 1 v (outU N ks k).length ((outU N ks k).map (Value.int .i64)) ∧ Below w0.heap.size w0 wx) (fun _ i _ => ks.length - (intOf i).toNat)
  case atStart => exact ⟨0, Nat.zero_le _, rfl, World.ownsRow_nil _ _ _ _, Below.refl _ _⟩
  case round =>
    obtain ⟨k, hk, rfl, hO, hB⟩ := hrel
    by_cases hlt : k < ks.length
    · obtain ⟨b, off, hAe, hbb, hcells⟩ := (HRK.out wr hB).2 (by omega)
      have x0 := hcells k hlt
      have hin := HIN.out k hlt
      have HSU := Lib.hid (outU_succ (N := N) hlt)
      obtain ⟨_, hj1, hj2⟩ := inW_yes hin
      obtain ⟨b2, off2, hLe, hbb2, hcells2⟩ := (HRL.out wr hB).at (by omega)
      generalize (ks.getD k 0).toNat = j at *
      rw [hj2] at x0
      obtain ⟨l0, l1, l2, l3⟩ := hcells2 j hj1
      obtain ⟨y0, y1, y2⟩ := HKB.out wr hB
      have HOF := Lib.hid (outputsOf_any (N.l.getD j Lk.nil) wr)
      have hol := outL_len (N.l.getD j Lk.nil)
      have hou := outU_len N ks k
      generalize N.l.getD j Lk.nil = l at *
      obtain ⟨lk, la, lb, lc⟩ := l
      dsimp only at l0 l1 l2 l3 HOF
      have hji : (j : Int) < (N.l.length : Int) := by omega
      have HO := Lib.hid hO; have HB := Lib.hid hB
      have hsz := hB.size
      rw [hLe] at y1
      clear hcells hcells2 hin hO hB hj2 hLe
      subst hAe
      generalize outL ⟨lk, la, lb, lc⟩ = X at *
      go_wp2_with (fail)
      refine HOF.out.mono ?_
      rintro e w2 ⟨A2, c2, rfl, own2, bel2⟩
      have O2 := Lib.hid own2
      have HOW := Lib.hid (own_below HO.out bel2 (Nat.le_refl _))
      have HB2 := Lib.hid (HB.out.trans (bel2.mono hsz))
      have hs2 := bel2.size
      clear own2 bel2 x0 l0 l1 l2 l3 y0 y1 y2 HOF
      go_wp2_with (at_builtin; refine wpList_atX rfl _ _ 24 rfl w0.heap.size 2 i0 (.int .i64 0) 8 Tryz.underlying24 HI.out HZ0.out HZ1.out HZ2.out rfl _ _ _ rfl HOW.out A2 X.length c2 wr.heap.size _ rfl O2.out ?c1 ?c2 ?c3 ?c4 ?_)
      case c1 => intro u hu; obtain ⟨z, _, rfl⟩ := List.mem_map.1 hu; rfl
      case c2 => unfold maxLen; omega
      case c3 => omega
      case c4 => omega
      intro v' w3 hown' hgrow _
      have HB3 := Lib.hid (HB2.out.grown hgrow (by omega) (fun q hq => (HOW.out.lt q hq).1))
      have hown2 : w3.ownsRow w0.heap.size 2 1 v' (outU N ks (k + 1)).length ((outU N ks (k + 1)).map (Value.int .i64)) := by
        rw [HSU.out, List.length_append, List.map_append]; exact hown'
      have HO3 := Lib.hid hown2
      clear hown' hgrow hown2 hsz hs2
      go_wp2
      go_roundw
      case rel => exact ⟨k + 1, by omega, by go_num, HO3.out, HB3.out⟩
      case measure => simp [intOf]; omega
    · have hkk : k = ks.length := by omega
      subst hkk
      obtain ⟨A4, c4, rfl⟩ := own_shape hO
      have hlen := HLE.out
      obtain ⟨g, cap, hv', hlo, hhi⟩ := hO.form (by omega)
      have hA : A4 = some ⟨g, 0, none⟩ := by injection hv' with a b c
      subst hA
      have hou := outU_len N ks ks.length
      have HS := Lib.hid (sortI_any g c4 w0.heap.size (outU N ks ks.length) wr hO (by omega) (by omega))
      rw [HSO.out] at HS
      have HB := Lib.hid hB
      have HLL := Lib.hid hlen
      clear hO hB hv' hlo hhi hlen
      generalize outU N ks ks.length = X at *
      go_wp2_with (fail)
      refine HS.out.mono ?_
      rintro e w5 ⟨rfl, own5, bel5⟩
      have HG : Hid (Gives w KW (.returned (.slice (some ⟨g, 0, none⟩) X.length c4)) w5) := Lib.hid (by
        rw [HLL.out] at own5 ⊢
        exact ⟨_, c4, rfl, own5.mono HB0.out.size, HB0.out.trans ((HB.out.trans bel5).mono HB0.out.size)⟩)
      clear own5 bel5
      go_wp2
      go_ret
      exact HG.out
end
section
set_option linter.unusedSimpArgs false
set_option linter.unusedVariables false
section
variable {P : Program} {ops : Array Oper} {Q : Exit → Act → World → Prop} {md : Region.Mode} {S : World → Prop} {c : Nat}

/-- As wpAnyH; but behind operation c nothing is asked of the world. -/
def wpAnyC (P : Program) (md : Region.Mode) (ops : Array Oper) (Q : Exit → Act → World → Prop) (S : World → Prop) (c : Nat) : Nat → Array Bool → Act → World → Prop
  | 0, listed, a, w => Region.ready md ops listed = [] ∧ Q .normal a w
  | fuel + 1, listed, a, w =>
    (Region.ready md ops listed = [] → Q .normal a w) ∧
    ∀ i ∈ Region.ready md ops listed, wpOp P ops Q i (fun a' w' => if i = c then wpAnyH P md ops Q (fun _ => True) fuel (listed.setIfInBounds i true) a' w' else S w' ∧ wpAnyC P md ops Q S c fuel (listed.setIfInBounds i true) a' w') a w
theorem wpAny_of_C : ∀ (fuel : Nat) (listed : Array Bool) (a : Act) (w : World), wpAnyC P md ops Q S c fuel listed a w → wpAny P md ops Q fuel listed a w
  | 0, _, _, _, h => h
  | fuel + 1, _, _, _, h => ⟨h.1, fun i hi => wpOp_mono (fun a' w' h' => by
      by_cases e : i = c
      · rw [if_pos e] at h'
        exact wpAny_of_held fuel _ a' w' h'
      · rw [if_neg e] at h'
        exact wpAny_of_C fuel _ a' w' h'.2) (h.2 i hi)⟩
/-- The operations T wait, each but i for another of T: so none of them comes up before i. -/
def waitsB (md : Region.Mode) (ops : Array Oper) (T : List Nat) (i : Nat) : Bool :=
  T.all fun t => t == i || (match ops[t]? with | some o => o.after.any (fun e => Region.binds md e && T.contains e.on) | none => false)
theorem waits_no {T : List Nat} {i : Nat} {listed : Array Bool} (hw : waitsB md ops T i = true) (hT : ∀ t ∈ T, listed.getD t true = false) {j : Nat} (hj : j ∈ Region.ready md ops listed) (hji : j ≠ i) : j ∉ T := fun hm => by
  have h := List.all_eq_true.1 hw j hm
  obtain ⟨_, oj, hoj, hall⟩ := mem_ready.1 hj
  rw [hoj] at h
  simp only [Bool.or_eq_true, beq_iff_eq] at h
  rcases h with h | h
  · exact hji h
  · obtain ⟨k, hk, he⟩ := Array.any_eq_true.1 h
    simp only [Bool.and_eq_true, List.contains_iff_mem] at he
    have h1 := hall _ (Array.getElem_mem hk) he.1
    have h0 := hT _ he.2
    generalize oj.after[k].on = n at *
    rcases Nat.lt_or_ge n listed.size with h' | h'
    · simp [h'] at h0 h1; rw [h0] at h1; cases h1
    · simp [Array.getElem?_eq_none h'] at h1
theorem wpAnyC_first {T : List Nat} {i : Nat} {oi : Oper} {v : Value} (hi : ops[i]? = some oi) (hsel : ∀ (j : Nat) (o : Oper) cs b, ops[j]? = some o → o.op ≠ .select cs b)
    (hQ : ∀ c a w, Q (.panic c) (a.put oi.dst v) w → Q (.panic c) a w) (hic : i ≠ c) (hc : c ∈ T) (hw : waitsB md ops T i = true) :
    ∀ (fuel : Nat) (listed : Array Bool) (a : Act) (w : World), (∀ t ∈ T, listed.getD t true = false) →
      (∀ j oj, ops[j]? = some oj → j ≠ i → listed.getD j true = false → (∀ e ∈ oj.after, Region.binds md e = true → e.on ≠ i) → oi.apart ops oj = true) →
      i ∈ Region.ready md ops listed → YieldsIf P ops S oi v a → S w →
      wpAnyC P md ops Q S c fuel (listed.setIfInBounds i true) (a.put oi.dst v) w → wpAnyC P md ops Q S c (fuel + 1) listed a w := by
  intro fuel
  induction fuel with
  | zero =>
    intro listed a w _ _ hr hy hS H
    refine ⟨fun h => (by rw [h] at hr; cases hr), fun j hj => ?_⟩
    by_cases hji : j = i
    · subst hji; simp only [if_neg hic]; exact hy.wpOp hi hS ⟨hS, H⟩
    · have := ready_mono hj hji
      rw [H.1] at this
      cases this
  | succ fuel ih =>
    intro listed a w hT hfree hr hy hS H
    refine ⟨fun h => (by rw [h] at hr; cases hr), fun j hj => ?_⟩
    by_cases hji : j = i
    · subst hji; simp only [if_neg hic]; exact hy.wpOp hi hS ⟨hS, H⟩
    · have hjT := waits_no hw hT hj hji
      have hjc : j ≠ c := fun e => hjT (e ▸ hc)
      have h1 := H.2 j (ready_mono hj hji)
      simp only [if_neg hjc] at h1 ⊢
      obtain ⟨hjun, oj, hoj, hall⟩ := mem_ready.1 hj
      have hnot : ∀ e ∈ oj.after, Region.binds md e = true → e.on ≠ i := fun e he hb heq => by
        have h1 := hall e he hb
        have h0 := (mem_ready.1 hr).1
        rw [heq] at h1
        rcases Nat.lt_or_ge i listed.size with h' | h'
        · simp [h'] at h0 h1; rw [h0] at h1; cases h1
        · simp [Array.getElem?_eq_none h'] at h1
      have h2 := wpOp_putIf hoj (hfree j oj hoj hji hjun hnot) (fun cs b => hsel i oi cs b hi) (fun cs b => hsel j oj cs b hoj) hQ hy h1
      have hfree' : ∀ k ok, ops[k]? = some ok → k ≠ i → (listed.setIfInBounds j true).getD k true = false →
          (∀ e ∈ ok.after, Region.binds md e = true → e.on ≠ i) → oi.apart ops ok = true := fun k ok hk hki hun hno => by
        refine hfree k ok hk hki ?_ hno
        by_cases hjk : j = k
        · subst hjk; exact hjun
        · rw [Go.getD_set_ne true hjk] at hun; exact hun
      have hT' : ∀ t ∈ T, (listed.setIfInBounds j true).getD t true = false := fun t ht => by
        rw [Go.getD_set_ne true (fun e => hjT (by rw [e]; exact ht))]
        exact hT t ht
      refine wpOp_mono (fun a' w' h3 => ⟨h3.2.1, ih (listed.setIfInBounds j true) a' w' hT' hfree' (ready_mono hr (Ne.symm hji)) h3.1 h3.2.1 ?_⟩) h2
      rw [Array.setIfInBounds_comm _ _ hji]
      exact h3.2.2
theorem wpAnyC_take (T : List Nat) {i : Nat} {oi : Oper} {v : Value} {fuel : Nat} {listed : Array Bool} {a : Act} {w : World} (hi : ops[i]? = some oi)
    (hs : Region.noSelect ops = true) (hf : Region.free md ops listed i = true) (hr : (Region.ready md ops listed).contains i = true)
    (hT : (!(i == c) && T.contains c && waitsB md ops T i && T.all fun t => !listed.getD t true) = true)
    (hQ : ∀ c a w, Q (.panic c) (a.put oi.dst v) w → Q (.panic c) a w) (hy : YieldsIf P ops S oi v a) (hS : S w)
    (h : wpAnyC P md ops Q S c fuel (listed.setIfInBounds i true) (a.put oi.dst v) w) : wpAnyC P md ops Q S c (fuel + 1) listed a w := by
  simp only [Bool.and_eq_true, Bool.not_eq_true', beq_eq_false_iff_ne, List.contains_iff_mem, List.all_eq_true] at hT
  obtain ⟨⟨⟨h1, h2⟩, h3⟩, h4⟩ := hT
  exact wpAnyC_first hi (Region.noSelect_spec hs) hQ h1 h2 h3 fuel listed a w h4 (Region.free_spec hi hf) (by simpa using hr) hy hS h
/-- One operation alone comes up, not c. -/
theorem wpAnyC_one {i : Nat} {o : Oper} {fuel : Nat} {listed : Array Bool} {a : Act} {w : World} (hr : Region.ready md ops listed = [i]) (hic : (i == c) = false) (ho : ops[i]? = some o)
    (h : ∀ K' : Act → World → Prop, Shut (∀ a w, S w → (S w → wpAnyC P md ops Q S c fuel (listed.setIfInBounds i true) a w) → K' a w) → if Region.wanted o (yielded ops a.tmps) = true then Oper.wp P o a w K' Q else K' (a.put o.dst undef) w) :
    wpAnyC P md ops Q S c (fuel + 1) listed a w := by
  refine ⟨fun e => (by rw [hr] at e; cases e), fun j hj => ?_⟩
  rw [hr] at hj
  obtain rfl := List.mem_singleton.1 hj
  have e : j ≠ c := by simpa using hic
  simp only [if_neg e]
  exact wpOp_step ho (fun K' hK => h K' (fun a w hS hW => hK a w ⟨hS, hW hS⟩))
/-- Operation c comes up, alone. -/
theorem wpAnyC_last {o : Oper} {fuel : Nat} {listed : Array Bool} {a : Act} {w : World} (hr : Region.ready md ops listed = [c]) (ho : ops[c]? = some o)
    (h : ∀ K' : Act → World → Prop, Shut (∀ a w, wpAnyH P md ops Q (fun _ => True) fuel (listed.setIfInBounds c true) a w → K' a w) → if Region.wanted o (yielded ops a.tmps) = true then Oper.wp P o a w K' Q else K' (a.put o.dst undef) w) :
    wpAnyC P md ops Q S c (fuel + 1) listed a w := by
  refine ⟨fun e => (by rw [hr] at e; cases e), fun j hj => ?_⟩
  rw [hr] at hj
  obtain rfl := List.mem_singleton.1 hj
  simp only [if_pos]
  exact wpOp_step ho (fun K' hK => h K' (fun a w hW => hK a w hW))
theorem wp_region_C_drew {id : Nat} {a : Act} {w : World} (hm : P.follows .mixedOrders = true) (hS : S w.drew)
    (h : S w.drew → wpAnyC P .any ops Q S c ops.size (Array.replicate ops.size false) a w.drew) : (Code.region id ops true).wp P Q a w :=
  wp_region_any hm (wpAny_of_C _ _ _ _ (h hS))
end
end
end Go.Proofs.YtfdpkhiiboghiaaGreatDoor
