/- A graph in a box that grows: an edge put at the end of its row. -/
import Derived.Test.YtlcapifgpcimpaaDoorEgM
import Derived.Maps.AppendAt
import Derived.Deep.RegionHeldLaw
import Derived.Deep.DeepCutAuto
import Derived.BigQuiet
namespace Go.Proofs.YtlcapifgpcimpaaDoor
set_option linter.unusedSimpArgs false
set_option linter.unusedVariables false
open Go.ChangeAt Go.ChangeShapes Go.RowKit Go.WideShapes

theorem stepE {P : Program} {w : World} {ops : Array Oper} {o : Oper} {a : Act} {K : Act → World → Prop} {Q : Exit → Act → World → Prop} {E : Prop} (hgd : o.guard = none) (s x : Operand) (t : TypeId)
    (ho : o.op = .call { callee := .builtin .append, args := #[s, x], argTypes := #[t, t] })
    (lo : Nat) (ty : TypeId) (i : TypeInfo) (z : Value) (size bytes : Nat) (ht : P.underlying t = some (.slice ty)) (hi : P.info? ty = some i) (hz : i.zero = some z) (h4 : i.size = size) (h5 : i.bytes = bytes) (h6 : z.cells.size = size) (h7 : 0 < size)
    (v : Value) (n : Nat) (xs : List Value) (hs : a.eval s = v) (own : w.ownsRow lo ty size v n xs)
    (ad : Addr) (m c : Nat) (ys : List Value) (hx : a.eval x = .slice (some ad) m c) (hl : ys.length = m * size) (hy : ∀ j u, ys[j]? = some u → w.cell? (ad.add j) = some u) (h1 : ∀ u ∈ ys, u.oneCell' = true)
    (h8 : n + m ≤ maxLen) (h9 : (n + m) * bytes ≤ 140737488355328) (hlo : lo ≤ w.heap.size)
    (h : ∀ v' w', w'.ownsRow lo ty size v' (n + m) (xs ++ ys) → w.grownBy w' v.ownBlock → K (a.put o.dst v') w') :
    if Region.wanted o (yielded ops a.tmps) = true then Oper.wp P o a w K Q else E := by
  rw [if_pos (show Region.wanted o (yielded ops a.tmps) = true by simp [Region.wanted, hgd])]
  obtain ⟨v', w', hr, k1, k2, _, k3⟩ := run_append_own_at (P := P) w lo t o.type ty i z size bytes ht hi hz h4 h5 h6 h7 v n xs own ad m c ys hl hy h1 h8 h9 hlo
  unfold Oper.wp execOp
  simp only [ho, resolve, invoke, builtin, Sem.run_bind, Sem.run_pure, Result.andThen_ok, List.map_toArray, List.map_cons, List.map_nil, hs, hx, hr]
  exact h v' w' k1 k2
/-- A graph in the box that was made at w1's end, its row in memory of its own behind it. -/
structure GrSt (w1 wr : World) (h : GH) (G : Gr) : Prop where
  box : wr.heap[w1.heap.size]? = some (.cells #[.int .i64 G.n, .slice h.A G.e.length h.c] 30 (0, 0))
  own : wr.ownsRow (w1.heap.size + 1) 52 3 (.slice h.A G.e.length h.c) G.e.length ((flE G.e).map (Value.int .i64))
  bel : Below w1.heap.size w1 wr
section
variable {w1 wr wa w9 w' : World} {h : GH} {G : Gr}
theorem GrSt.lt (s : GrSt w1 wr h G) : w1.heap.size < wr.heap.size := (Array.getElem?_eq_some_iff.1 s.box).1
theorem GrSt.start (w1 : World) (nd : Int) : GrSt w1 (w1.alloc (.cells #[.int .i64 nd, .slice none 0 0] 30)) ⟨none, 0⟩ ⟨nd, []⟩ :=
  ⟨heap_alloc_new _ _, World.ownsRow_nil _ _ _ _, (Below.refl _ _).alloc (Nat.le_refl _) _⟩
theorem GrSt.below (s : GrSt w1 wr h G) (hb : Below wr.heap.size wr w') : GrSt w1 w' h G :=
  ⟨(hb.block _ s.lt).trans s.box, own_same s.own fun k e => hb.block k (s.own.lt k e).2, s.bel.trans (hb.mono s.bel.size)⟩
/-- Behind an append of one edge: the row is known, the box is as it was. -/
theorem GrSt.grown {v : Value} {x : Ed} (s : GrSt w1 wa h G) (own' : w9.ownsRow (w1.heap.size + 1) 52 3 v (G.e.length + 1) ((flE G.e).map (Value.int .i64) ++ [.int .i64 x.a, .int .i64 x.b, .int .i64 x.p])) (hg : wa.grownBy w9 (Value.slice h.A G.e.length h.c).ownBlock) :
    ∃ A c, v = .slice A (G.e.length + 1) c ∧ w9.heap[w1.heap.size]? = some (.cells #[.int .i64 G.n, .slice h.A G.e.length h.c] 30 (0, 0)) ∧ Below w1.heap.size w1 w9 ∧
      GrSt w1 (w9.setCell ⟨w1.heap.size, 1, none⟩ (.slice A (G.e.length + 1) c)) ⟨A, c⟩ ⟨G.n, G.e ++ [x]⟩ := by
  obtain ⟨A, c, rfl⟩ := own_shapeE own'
  have hbox := (hg.block _ s.lt (fun e => by have := (s.own.lt _ e.symm).1; omega)).trans s.box
  have hbel := s.bel.grown hg s.bel.size (fun q hq => by have := (s.own.lt q hq).1; omega)
  refine ⟨A, c, rfl, hbox, hbel, ?_, ?_, hbel.setCell (p := ⟨w1.heap.size, 1, none⟩) (Nat.le_refl _) _⟩
  · have := heap_setCell_same w9 w1.heap.size 1 _ _ (.slice A (G.e.length + 1) c) hbox
    show _ = some (Obj.cells #[.int .i64 G.n, .slice A (G.e ++ [x]).length c] _ _)
    rw [List.length_append]
    simpa using this
  · show World.ownsRow _ _ _ _ (.slice A (G.e ++ [x]).length c) (G.e ++ [x]).length ((flE (G.e ++ [x])).map (Value.int .i64))
    rw [List.length_append, flE_app, List.map_append]
    exact own_same own' fun k e => heap_setCell_other _ _ _ _ (by show k ≠ w1.heap.size; have := (own'.lt k e).1; omega)
end
end Go.Proofs.YtlcapifgpcimpaaDoor
