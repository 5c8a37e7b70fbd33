/- What more is wanted behind the base. -/
import Derived.Test.YtfanapddopafiaaDoorNetX
import Derived.Test.YtfanapddopafiaaDoorNetY
import Derived.Test.YtfanapddopafiaaDoorPgD
import Derived.Test.YtfanapddopafiaaDoorPgE
import Derived.Test.YtfanapddopafiaaDoorPgF
import Derived.Test.YtfanapddopafiaaDoorQCopyS
import Derived.Test.YtfanapddopafiaaDoorQDual
import Derived.Test.YtfanapddopafiaaDoorQEqD
import Derived.Test.YtfanapddopafiaaDoorQMath
import Derived.Test.YtfanapddopafiaaDoorQNetC
import Derived.Test.YtfanapddopafiaaDoorQNetK
import Derived.Test.YtfanapddopafiaaDoorQNetV
import Derived.Test.YtfanapddopafiaaDoorQPgC
import Derived.Test.YtfanapddopafiaaDoorQPgG
import Derived.Test.YtfanapddopafiaaDoorQPgJ
import Derived.Test.YtfanapddopafiaaDoorQPgM
import Derived.Test.YtfanapddopafiaaDoorQSubA
import Derived.Test.YtfanapddopafiaaDoorQValid
import Derived.Test.YtfanapddopafiaaDoorRowH
import Derived.Test.YtfanapddopafiaaDoorSeqV
import Derived.WalkKit
import Derived.Lib.Hide
import Derived.WalkSpells
import Derived.WalkLawsBesides
import Derived.BigQuiet
import Derived.Deep.QuietTactic
import Derived.Deep.AppendLies
import Derived.Deep.Draws
import Derived.Laws.OwnMore
import Derived.WalkSmall
import Derived.Deep.Onto
import Derived.Lib.LaidTab
import Derived.Deep.LoopGhost
import Derived.WalkMore
import Derived.Lib.AppendZerosOnto
import Derived.Lib.SliceRun
import Derived.Lib.Walk
import Derived.Deep.Matrix
import Derived.Deep.DeepCutAuto
import Derived.StillTailTactics
import Derived.ProofKit
import Derived.OpenShut
import Derived.ChangeOld
import Derived.ChangeVars
import Derived.Deep.DeepHandedRow
import Derived.Stop.LaidErr
import Derived.Deep.RegionLaw
import Derived.Deep.RegionWith
import Derived.Deep.RegionHeld3
import Derived.Maps.AppendAt
import Derived.BigRegion
import Derived.Laws.ResultCell
import Derived.Deep.RegionHeldLaw
import Derived.Laws.Tables
import Derived.Laws.CopyOwn
import Derived.Deep.Cut
import Derived.Laws.AppendOwnNone
import Derived.ChangeKeysEq
import Derived.Laws.StructEq
import Derived.Deep.Slices
namespace Go.Proofs.YtfanapddopafiaaDoor
set_option linter.unusedSimpArgs false
set_option linter.unusedVariables false
section
open Go.RowKit

end
section
open Go.ChangeAt Go.ChangeShapes Go.RowKit Go.WideShapes

/-- A part pushed onto a row in a slot. -/
theorem push_own {w5 w6 w7 : World} {lo k c2 c6 g cap : Nat} {A2 A6 : Option Addr} {hs : Nat → Option Addr × Nat} {cur : List (List Int)} {dq : List Int} (own5 : OwnQ w5 lo w5.heap.size (.slice A2 k c2) hs cur) (hlen : cur.length = k) (hlo : lo ≤ w5.heap.size)
    (bel6 : Below w5.heap.size w5 w6) (own6 : w6.ownsRow w5.heap.size 2 1 (.slice A6 dq.length c6) dq.length (dq.map (Value.int .i64)))
    (hown7 : w7.ownsRow lo 24 1 (.slice (some ⟨g, 0, none⟩) (k + 1) cap) (k + 1) (rowV hs cur ++ [.slice A6 dq.length c6])) (hgrow7 : (w6.alloc (.cells #[.slice A6 dq.length c6] 24)).grownBy w7 (Value.slice A2 k c2).ownBlock)
    (hat7 : (Value.slice A2 k c2).ownBlock = some g ∨ g = (w6.alloc (.cells #[.slice A6 dq.length c6] 24)).heap.size) :
    OwnQ w7 lo w7.heap.size (.slice (some ⟨g, 0, none⟩) (k + 1) cap) (upd hs cur.length (A6, c6)) (cur ++ [dq]) ∧ Below lo w5 w7 := by
  have hbx := box_below w6 (.slice A6 dq.length c6) 24
  have hs6 := bel6.size
  have hsx := hbx.size
  have ob : ∀ q, (Value.slice A2 k c2).ownBlock = some q → lo ≤ q := fun q e => (own5.outer.lt q e).1
  have b67 : Below lo w5 w7 := ((bel6.mono hlo).trans (hbx.mono (by omega))).grown hgrow7 (by omega) ob
  have own6a := (own5.below bel6).below hbx
  subst hlen
  exact ⟨OwnQ.push (hi' := w7.heap.size) own6a ((own6.mono hlo).alloc (.cells #[.slice A6 dq.length c6] 24)) (fun q e => (own6.lt q e).1) hown7 hgrow7
    (fun q e => by
      obtain rfl : g = q := by simpa [Value.ownBlock] using e
      rcases hat7 with h | h
      · exact .inl h
      · exact .inr (Nat.le_of_eq h.symm)) (by omega) (Nat.le_refl _), b67⟩
end
section
open Go.ChangeAt Go.ChangeShapes Go.RowKit Go.WideShapes

/-- An append of perhaps nothing, within a region that draws: where the row lies behind it. -/
theorem step_at {P : Program} {w : World} {ops : Array Oper} {o : Oper} {a : Act} {K : Act → World → Prop} {Q : Exit → Act → World → Prop} {E : Prop} (hgd : o.guard = none) (s x : Operand) (t : TypeId)
    (ho : o.op = .call { callee := .builtin .append, args := #[s, x], argTypes := #[t, t] })
    (lo : Nat) (ty : TypeId) (i : TypeInfo) (z : Value) (size bytes : Nat) (ht : P.underlying t = some (.slice ty)) (hi : P.info? ty = some i) (hz : i.zero = some z) (h4 : i.size = size) (h5 : i.bytes = bytes) (h6 : z.cells.size = size) (h7 : 0 < size)
    (v : Value) (n : Nat) (xs : List Value) (hs : a.eval s = v) (own : w.ownsRow lo ty size v n xs)
    (ad : Addr) (m c : Nat) (ys : List Value) (hx : a.eval x = .slice (some ad) m c) (hl : ys.length = m * size) (hy : ∀ j u, ys[j]? = some u → w.cell? (ad.add j) = some u) (h1 : ∀ u ∈ ys, u.oneCell' = true)
    (h8 : n + m ≤ maxLen) (h9 : (n + m) * bytes ≤ 140737488355328) (hlo : lo ≤ w.heap.size)
    (h : ∀ v' w', w'.ownsRow lo ty size v' (n + m) (xs ++ ys) → w.grownBy w' v.ownBlock → (v'.ownBlock = v.ownBlock ∨ v'.ownBlock = some w.heap.size) → K (a.put o.dst v') w') :
    if Region.wanted o (yielded ops a.tmps) = true then Oper.wp P o a w K Q else E := by
  rw [if_pos (show Region.wanted o (yielded ops a.tmps) = true by simp [Region.wanted, hgd])]
  obtain ⟨v', w', hr, k1, k2, _, k3⟩ := run_append_own_at (P := P) w lo t o.type ty i z size bytes ht hi hz h4 h5 h6 h7 v n xs own ad m c ys hl hy h1 h8 h9 hlo
  unfold Oper.wp execOp
  simp only [ho, resolve, invoke, builtin, Sem.run_bind, Sem.run_pure, Result.andThen_ok, List.map_toArray, List.map_cons, List.map_nil, hs, hx, hr]
  exact h v' w' k1 k2 k3
/-- A net made of parts that lie apart. -/
theorem OwnN.mk3 {w : World} {lo hi m0 m1 m2 : Nat} {h : NH} {N : Nt} (hq : OwnQ w m0 m1 (.slice h.A N.w.length h.c) h.hs N.w) (hl : w.ownsRow lo 71 4 (.slice h.L N.l.length h.d) N.l.length ((flL N.l).map (Value.int .i64)))
    (hlb : ∀ b, (Value.slice h.L N.l.length h.d).ownBlock = some b → (b < m0 ∨ m1 ≤ b) ∧ b < m2) (hc : w.ownsRow m2 2 1 (.slice h.C N.c.length h.e) N.c.length (N.c.map (Value.int .i64))) (h0 : lo ≤ m0) (h1 : m1 ≤ m2) (h2 : lo ≤ m2) (h3 : w.heap.size ≤ hi) (h4 : m2 ≤ hi) : OwnN w lo hi h N where
  q := hq.more h0 (by omega)
  l := hl
  c := hc.mono h2
  lt b e := by have := (hlb b e).2; omega
  ct b e := by have := (hc.lt b e).2; omega
  lq b e := by
    have h5 := (hlb b e).1
    refine ⟨fun e2 => ?_, fun i hi e2 => ?_⟩
    · have := hq.top0 b e2; have := (hq.outer.lt b e2).1; omega
    · have := hq.top i b hi e2; have := ((hq.inner i hi).lt b e2).1; omega
  cq b e := by
    have h5 := (hc.lt b e).1
    exact ⟨fun e2 => by have := hq.top0 b e2; omega, fun i hi e2 => by have := hq.top i b hi e2; omega⟩
  lc b e := fun e2 => by have := (hlb b e).2; have := (hc.lt b e2).1; omega
/-- The wires and the links that have been copied. -/
def WL (w0 u : World) (A : Option Addr) (c : Nat) (hs : Nat → Option Addr × Nat) (ws : List (List Int)) (L : Option Addr) (d : Nat) (ls : List Lk) : Prop :=
  ∃ m0 m1, OwnQ u m0 m1 (.slice A ws.length c) hs ws ∧ u.ownsRow w0.heap.size 71 4 (.slice L ls.length d) ls.length ((flL ls).map (Value.int .i64)) ∧ (∀ b, (Value.slice L ls.length d).ownBlock = some b → b < m0 ∨ m1 ≤ b) ∧ w0.heap.size ≤ m0 ∧ m1 ≤ u.heap.size
theorem WL.net {w0 u u' : World} {A L C : Option Addr} {c d e0 : Nat} {hs : Nat → Option Addr × Nat} {ws : List (List Int)} {ls : List Lk} {cs : List Int} (h : WL w0 u A c hs ws L d ls) (hc : u'.ownsRow u.heap.size 2 1 (.slice C cs.length e0) cs.length (cs.map (Value.int .i64))) (hb : Below u.heap.size u u') (h0 : w0.heap.size ≤ u.heap.size) :
    OwnN u' w0.heap.size u'.heap.size ⟨A, c, hs, L, d, C, e0⟩ ⟨ws, ls, cs⟩ := by
  obtain ⟨m0, m1, q, l, lb, h1, h2⟩ := h
  exact OwnN.mk3 (m0 := m0) (m1 := m1) (m2 := u.heap.size) (h := ⟨A, c, hs, L, d, C, e0⟩) (N := ⟨ws, ls, cs⟩) (q.below hb) (own_below l hb (Nat.le_refl _)) (fun b e => ⟨lb b e, (l.lt b e).2⟩) hc h1 h2 h0 (Nat.le_refl _) hb.size
end
section
open Go.ChangeAt Go.ChangeShapes Go.RowKit Go.WideShapes

/-- No part of the net lies in block b. -/
structure FarN (h : NH) (N : Nt) (b : Nat) : Prop where
  a : (Value.slice h.A N.w.length h.c).ownBlock ≠ some b
  i : ∀ i, i < N.w.length → (hv h.hs N.w i).ownBlock ≠ some b
  l : (Value.slice h.L N.l.length h.d).ownBlock ≠ some b
  c : (Value.slice h.C N.c.length h.e).ownBlock ≠ some b
section
variable {w w1 w' : World} {lo hi b : Nat} {h : NH} {N : Nt}
theorem OwnN.far_ge (o : OwnN w lo hi h N) (hb : hi ≤ b) : FarN h N b where
  a e := by have := o.q.top0 b e; omega
  i i hi e := by have := o.q.top i b hi e; omega
  l e := by have := o.lt b e; omega
  c e := by have := o.ct b e; omega
theorem OwnN.size (o : OwnN w lo hi h N) : OwnN w lo w.heap.size h N where
  q := ⟨o.q.outer, o.q.inner, o.q.apart, o.q.apart0, fun k e => (o.q.outer.lt k e).2, fun i k hi e => ((o.q.inner i hi).lt k e).2⟩
  l := o.l
  c := o.c
  lt b e := (o.l.lt b e).2
  ct b e := (o.c.lt b e).2
  lq := o.lq
  cq := o.cq
  lc := o.lc
/-- All blocks of the net are as they were. -/
theorem OwnN.stay (o : OwnN w lo hi h N) (hk : ∀ b, ¬ FarN h N b → w'.heap[b]? = w.heap[b]?) : OwnN w' lo hi h N where
  q := o.q.fine (fun b e => hk b fun f => f.a e) (fun i hi b e => hk b fun f => f.i i hi e)
  l := own_same o.l fun b e => hk b fun f => f.l e
  c := own_same o.c fun b e => hk b fun f => f.c e
  lt := o.lt
  ct := o.ct
  lq := o.lq
  cq := o.cq
  lc := o.lc
theorem OwnN.farSet (o : OwnN w lo hi h N) (f : FarN h N b) (j : Nat) (v : Value) : OwnN (w.setCell ⟨b, j, none⟩ v) lo hi h N :=
  o.stay fun k hk => Below.heap_setCell _ _ _ _ (fun e => hk (by have e' : k = b := e; rw [e']; exact f))
/-- A longer row of conclusions, in the old block or in a new one. -/
theorem OwnN.pushC {C : Option Addr} {e : Nat} {cs : List Int} (o : OwnN w lo w.heap.size h N) (hb : Below w.heap.size w w1) (hc : w'.ownsRow lo 2 1 (.slice C cs.length e) cs.length (cs.map (Value.int .i64))) (hg : w1.grownBy w' (Value.slice h.C N.c.length h.e).ownBlock)
    (hat : (Value.slice C cs.length e).ownBlock = (Value.slice h.C N.c.length h.e).ownBlock ∨ (Value.slice C cs.length e).ownBlock = some w1.heap.size) : OwnN w' lo w'.heap.size ⟨h.A, h.c, h.hs, h.L, h.d, C, e⟩ ⟨N.w, N.l, cs⟩ := by
  have s1 := hb.size
  have hk : ∀ b, b < w.heap.size → (Value.slice h.C N.c.length h.e).ownBlock ≠ some b → w'.heap[b]? = w.heap[b]? := fun b h1 h2 => (hg.block b (by omega) (fun e => h2 e.symm)).trans (hb.block b h1)
  have q' : OwnQ w' lo w.heap.size (.slice h.A N.w.length h.c) h.hs N.w := o.q.fine (fun b e => hk b (o.q.top0 b e) (fun e2 => (o.cq b e2).1 e)) (fun i hi b e => hk b (o.q.top i b hi e) (fun e2 => (o.cq b e2).2 i hi e))
  have l' := own_same o.l fun b e => hk b (o.lt b e) (o.lc b e)
  have s2 : w.heap.size ≤ w'.heap.size := Nat.le_trans s1 hg.size
  exact {
    q := q'.more (Nat.le_refl _) s2
    l := l'
    c := hc
    lt := fun b e => Nat.lt_of_lt_of_le (o.lt b e) s2
    ct := fun b e => (hc.lt b e).2
    lq := o.lq
    cq := fun b e => by
      rcases hat with h2 | h2
      · exact o.cq b (h2 ▸ e)
      · have h3 : w1.heap.size = b := by rw [h2] at e; injection e
        have f := o.far_ge (show w.heap.size ≤ b by omega)
        exact ⟨f.a, f.i⟩
    lc := fun b e e2 => by
      rcases hat with h2 | h2
      · exact o.lc b e (h2 ▸ e2)
      · have h3 : w1.heap.size = b := by rw [h2] at e2; injection e2
        exact (o.far_ge (show w.heap.size ≤ b by omega)).l e }
theorem FarN.pushC {C : Option Addr} {e m : Nat} {cs : List Int} (f : FarN h N b) (hat : (Value.slice C cs.length e).ownBlock = (Value.slice h.C N.c.length h.e).ownBlock ∨ (Value.slice C cs.length e).ownBlock = some m) (hb : b < m) : FarN ⟨h.A, h.c, h.hs, h.L, h.d, C, e⟩ ⟨N.w, N.l, cs⟩ b :=
  ⟨f.a, f.i, f.l, fun e => by
    rcases hat with h2 | h2
    · exact f.c (h2 ▸ e)
    · rw [h2] at e; injection e with e; omega⟩
/-- A longer row of links, in the old block or in a new one. -/
theorem OwnN.pushL {L : Option Addr} {d : Nat} {ls : List Lk} (o : OwnN w lo w.heap.size h N) (hb : Below w.heap.size w w1) (hl : w'.ownsRow lo 71 4 (.slice L ls.length d) ls.length ((flL ls).map (Value.int .i64))) (hg : w1.grownBy w' (Value.slice h.L N.l.length h.d).ownBlock)
    (hat : (Value.slice L ls.length d).ownBlock = (Value.slice h.L N.l.length h.d).ownBlock ∨ (Value.slice L ls.length d).ownBlock = some w1.heap.size) : OwnN w' lo w'.heap.size ⟨h.A, h.c, h.hs, L, d, h.C, h.e⟩ ⟨N.w, ls, N.c⟩ := by
  have s1 := hb.size
  have hk : ∀ b, b < w.heap.size → (Value.slice h.L N.l.length h.d).ownBlock ≠ some b → w'.heap[b]? = w.heap[b]? := fun b h1 h2 => (hg.block b (by omega) (fun e => h2 e.symm)).trans (hb.block b h1)
  have q' : OwnQ w' lo w.heap.size (.slice h.A N.w.length h.c) h.hs N.w := o.q.fine (fun b e => hk b (o.q.top0 b e) (fun e2 => (o.lq b e2).1 e)) (fun i hi b e => hk b (o.q.top i b hi e) (fun e2 => (o.lq b e2).2 i hi e))
  have c' := own_same o.c fun b e => hk b (o.ct b e) (fun e2 => o.lc b e2 e)
  have s2 : w.heap.size ≤ w'.heap.size := Nat.le_trans s1 hg.size
  exact {
    q := q'.more (Nat.le_refl _) s2
    l := hl
    c := c'
    lt := fun b e => (hl.lt b e).2
    ct := fun b e => Nat.lt_of_lt_of_le (o.ct b e) s2
    lq := fun b e => by
      rcases hat with h2 | h2
      · exact o.lq b (h2 ▸ e)
      · have h3 : w1.heap.size = b := by rw [h2] at e; injection e
        have f := o.far_ge (show w.heap.size ≤ b by omega)
        exact ⟨f.a, f.i⟩
    cq := o.cq
    lc := fun b e e2 => by
      rcases hat with h2 | h2
      · exact o.lc b (h2 ▸ e) e2
      · have h3 : w1.heap.size = b := by rw [h2] at e; injection e
        exact (o.far_ge (show w.heap.size ≤ b by omega)).c e2 }
theorem FarN.pushL {L : Option Addr} {d m : Nat} {ls : List Lk} (f : FarN h N b) (hat : (Value.slice L ls.length d).ownBlock = (Value.slice h.L N.l.length h.d).ownBlock ∨ (Value.slice L ls.length d).ownBlock = some m) (hb : b < m) : FarN ⟨h.A, h.c, h.hs, L, d, h.C, h.e⟩ ⟨N.w, ls, N.c⟩ b :=
  ⟨f.a, f.i, fun e => by
    rcases hat with h2 | h2
    · exact f.l (h2 ▸ e)
    · rw [h2] at e; injection e with e; omega, f.c⟩
/-- One wire more. -/
theorem OwnN.pushW {w6 w7 : World} {A6 : Option Addr} {c6 g cap : Nat} {dq : List Int} (o : OwnN w lo w.heap.size h N) (hlo : lo ≤ w.heap.size) (bel6 : Below w.heap.size w w6) (own6 : w6.ownsRow w.heap.size 2 1 (.slice A6 dq.length c6) dq.length (dq.map (Value.int .i64)))
    (hown7 : w7.ownsRow lo 24 1 (.slice (some ⟨g, 0, none⟩) (N.w.length + 1) cap) (N.w.length + 1) (rowV h.hs N.w ++ [.slice A6 dq.length c6])) (hgrow7 : (w6.alloc (.cells #[.slice A6 dq.length c6] 24)).grownBy w7 (Value.slice h.A N.w.length h.c).ownBlock)
    (hat7 : (Value.slice h.A N.w.length h.c).ownBlock = some g ∨ g = (w6.alloc (.cells #[.slice A6 dq.length c6] 24)).heap.size) :
    OwnN w7 lo w7.heap.size ⟨some ⟨g, 0, none⟩, cap, upd h.hs N.w.length (A6, c6), h.L, h.d, h.C, h.e⟩ ⟨N.w ++ [dq], N.l, N.c⟩ ∧ ∀ b, b < w.heap.size → FarN h N b → FarN ⟨some ⟨g, 0, none⟩, cap, upd h.hs N.w.length (A6, c6), h.L, h.d, h.C, h.e⟩ ⟨N.w ++ [dq], N.l, N.c⟩ b := by
  obtain ⟨q7, _⟩ := push_own o.q rfl hlo bel6 own6 hown7 hgrow7 hat7
  have hlen : (N.w ++ [dq]).length = N.w.length + 1 := by simp
  have hbx := box_below w6 (.slice A6 dq.length c6) 24
  have s6 := bel6.size
  have sx := hbx.size
  have s7 := hgrow7.size
  have hk : ∀ b, b < w.heap.size → (Value.slice h.A N.w.length h.c).ownBlock ≠ some b → w7.heap[b]? = w.heap[b]? := fun b h1 h2 =>
    (hgrow7.block b (by omega) (fun e => h2 e.symm)).trans ((hbx.block b (by omega)).trans (bel6.block b h1))
  have gb : ∀ b, b < w.heap.size → (Value.slice h.A N.w.length h.c).ownBlock ≠ some b → (Value.slice (some ⟨g, 0, none⟩) (N.w.length + 1) cap).ownBlock ≠ some b := fun b h1 h2 e => by
    have e' : g = b := by simpa [Value.ownBlock] using e
    rcases hat7 with h3 | h3
    · rw [e'] at h3; exact h2 h3
    · omega
  have ib : ∀ b, b < w.heap.size → (∀ i, i < N.w.length → (hv h.hs N.w i).ownBlock ≠ some b) → ∀ i, i < (N.w ++ [dq]).length → (hv (upd h.hs N.w.length (A6, c6)) (N.w ++ [dq]) i).ownBlock ≠ some b := fun b h1 h2 i hi e => by
    rw [hlen] at hi
    by_cases hn : i < N.w.length
    · refine h2 i hn ?_
      rw [← e]
      unfold hv upd
      rw [if_neg (by omega)]
      congr 2
      simp [List.getD, List.getElem?_append_left hn]
    · obtain rfl : i = N.w.length := by omega
      unfold hv upd at e
      rw [if_pos rfl] at e
      have e3 : (N.w ++ [dq]).getD N.w.length [] = dq := by simp [List.getD]
      rw [e3] at e
      have := (own6.lt b e).1
      omega
  have l' := own_same (w' := w7) o.l fun b e => hk b (o.lt b e) (o.lq b e).1
  have c' := own_same (w' := w7) o.c fun b e => hk b (o.ct b e) (o.cq b e).1
  refine ⟨?_, fun b hb f => ?_⟩
  · exact {
      q := by show OwnQ w7 lo w7.heap.size (.slice (some ⟨g, 0, none⟩) (N.w ++ [dq]).length cap) _ _; rw [hlen]; exact q7
      l := l'
      c := c'
      lt := fun b e => (l'.lt b e).2
      ct := fun b e => (c'.lt b e).2
      lq := fun b e => ⟨by show (Value.slice (some ⟨g, 0, none⟩) (N.w ++ [dq]).length cap).ownBlock ≠ _; rw [hlen]; exact gb b (o.lt b e) (o.lq b e).1, ib b (o.lt b e) (o.lq b e).2⟩
      cq := fun b e => ⟨by show (Value.slice (some ⟨g, 0, none⟩) (N.w ++ [dq]).length cap).ownBlock ≠ _; rw [hlen]; exact gb b (o.ct b e) (o.cq b e).1, ib b (o.ct b e) (o.cq b e).2⟩
      lc := o.lc }
  · exact ⟨by show (Value.slice (some ⟨g, 0, none⟩) (N.w ++ [dq]).length cap).ownBlock ≠ _; rw [hlen]; exact gb b hb f.a, ib b hb f.i, f.l, f.c⟩
end
end
section
set_option linter.unusedSimpArgs false
set_option linter.unusedVariables false
open Go.ChangeAt Go.ChangeShapes Go.RowKit Go.WideShapes

/-- What placed holds: the target, grown, and its box. -/
structure PlSt (wb w0 wr : World) (sx : Nat) (hT : NH) (T : Nt) (h : NH) (M : Nt) : Prop where
  own : OwnN wr wb.heap.size wr.heap.size h M
  far : ∀ b, b < w0.heap.size → FarN hT T b → FarN h M b
  keep : ∀ b, b < w0.heap.size → FarN hT T b → b ≠ sx → wr.heap[b]? = w0.heap[b]?
  box : wr.heap[sx]? = some (.cells #[.slice h.A M.w.length h.c, .slice h.L M.l.length h.d, .slice h.C M.c.length h.e] 31 (0, 0))
  bel : Below wb.heap.size wb wr
  size : w0.heap.size ≤ wr.heap.size
  sxl : sx < w0.heap.size
  sxf : FarN hT T sx
  sxb : wb.heap.size ≤ sx
section
variable {wb w0 wr w' : World} {sx : Nat} {hT h : NH} {T M : Nt}
theorem PlSt.below (p : PlSt wb w0 wr sx hT T h M) (hb : Below wr.heap.size wr w') : PlSt wb w0 w' sx hT T h M where
  own := (p.own.below hb).more (Nat.le_refl _) hb.size
  far := p.far
  keep b h1 h2 h3 := (hb.block b (Nat.lt_of_lt_of_le h1 p.size)).trans (p.keep b h1 h2 h3)
  box := (hb.block sx (Nat.lt_of_lt_of_le p.sxl p.size)).trans p.box
  bel := p.bel.trans (hb.mono p.bel.size)
  size := Nat.le_trans p.size hb.size
  sxl := p.sxl
  sxf := p.sxf
  sxb := p.sxb
theorem PlSt.drew (p : PlSt wb w0 wr sx hT T h M) : PlSt wb w0 wr.drew sx hT T h M := p.below ((Below.refl _ _).drew)
theorem PlSt.cell (p : PlSt wb w0 wr sx hT T h M) {b off : Nat} (h1 : b < w0.heap.size) (h2 : FarN hT T b) (h3 : b ≠ sx) : wr.cell? ⟨b, off, none⟩ = w0.cell? ⟨b, off, none⟩ := by
  unfold World.cell?
  rw [p.keep b h1 h2 h3]
theorem set2_at {w : World} {b : Nat} {a0 a1 a2 : Value} {t : TypeId} (h : w.heap[b]? = some (.cells #[a0, a1, a2] t (0, 0))) (v : Value) : (w.setCell ⟨b, 2, none⟩ v).heap[b]? = some (.cells #[a0, a1, v] t (0, 0)) := by
  have := heap_setCell_same w b 2 _ t v h
  simpa using this
theorem PlSt.pushC {u u' : World} {C : Option Addr} {e : Nat} {cs : List Int} (p : PlSt wb w0 wr sx hT T h M) (hb : Below wr.heap.size wr u) (hc : u'.ownsRow wb.heap.size 2 1 (.slice C cs.length e) cs.length (cs.map (Value.int .i64))) (hg : u.grownBy u' (Value.slice h.C M.c.length h.e).ownBlock)
    (hat : (Value.slice C cs.length e).ownBlock = (Value.slice h.C M.c.length h.e).ownBlock ∨ (Value.slice C cs.length e).ownBlock = some u.heap.size) :
    PlSt wb w0 (u'.setCell ⟨sx, 2, none⟩ (.slice C cs.length e)) sx hT T ⟨h.A, h.c, h.hs, h.L, h.d, C, e⟩ ⟨M.w, M.l, cs⟩ := by
  have o5 := p.own.pushC hb hc hg hat
  have hsb : ∀ b, b < w0.heap.size → FarN hT T b → FarN ⟨h.A, h.c, h.hs, h.L, h.d, C, e⟩ ⟨M.w, M.l, cs⟩ b := fun b h1 h2 => (p.far b h1 h2).pushC hat (Nat.lt_of_lt_of_le h1 (Nat.le_trans p.size hb.size))
  have hk : ∀ b, b < w0.heap.size → FarN hT T b → u'.heap[b]? = wr.heap[b]? := fun b h1 h2 => (hg.block b (Nat.lt_of_lt_of_le h1 (Nat.le_trans p.size hb.size)) (fun e2 => (p.far b h1 h2).c e2.symm)).trans (hb.block b (Nat.lt_of_lt_of_le h1 p.size))
  have hB : Below wb.heap.size wb u' := (p.bel.trans (hb.mono p.bel.size)).grown hg (Nat.le_trans p.bel.size hb.size) (fun q hq => (p.own.c.lt q hq).1)
  have es : (u'.setCell ⟨sx, 2, none⟩ (.slice C cs.length e)).heap.size = u'.heap.size := by simp
  exact {
    own := by
      have := o5.farSet (hsb sx p.sxl p.sxf) 2 (.slice C cs.length e)
      rw [es]; exact this
    far := hsb
    keep := fun b h1 h2 h3 => (Below.heap_setCell _ _ _ _ (by show b ≠ sx; exact h3)).trans ((hk b h1 h2).trans (p.keep b h1 h2 h3))
    box := set2_at ((hk sx p.sxl p.sxf).trans p.box) _
    bel := hB.setCell (p := ⟨sx, 2, none⟩) p.sxb _
    size := by rw [es]; exact Nat.le_trans p.size (Nat.le_trans hb.size hg.size)
    sxl := p.sxl
    sxf := p.sxf
    sxb := p.sxb }
end
end
section
set_option linter.unusedSimpArgs false
set_option linter.unusedVariables false
open Go.ChangeAt Go.ChangeShapes Go.RowKit Go.WideShapes

section
variable {wb w0 wr w' : World} {sx : Nat} {hT h : NH} {T M : Nt}
theorem set0_at {w : World} {b : Nat} {a0 a1 a2 : Value} {t : TypeId} (h : w.heap[b]? = some (.cells #[a0, a1, a2] t (0, 0))) (v : Value) : (w.setCell ⟨b, 0, none⟩ v).heap[b]? = some (.cells #[v, a1, a2] t (0, 0)) := by
  have := heap_setCell_same w b 0 _ t v h
  simpa using this
theorem set1_at {w : World} {b : Nat} {a0 a1 a2 : Value} {t : TypeId} (h : w.heap[b]? = some (.cells #[a0, a1, a2] t (0, 0))) (v : Value) : (w.setCell ⟨b, 1, none⟩ v).heap[b]? = some (.cells #[a0, v, a2] t (0, 0)) := by
  have := heap_setCell_same w b 1 _ t v h
  simpa using this
/-- A longer row of links. -/
theorem PlSt.pushL {u u' : World} {L : Option Addr} {d : Nat} {ls : List Lk} (p : PlSt wb w0 wr sx hT T h M) (hb : Below wr.heap.size wr u) (hl : u'.ownsRow wb.heap.size 71 4 (.slice L ls.length d) ls.length ((flL ls).map (Value.int .i64))) (hg : u.grownBy u' (Value.slice h.L M.l.length h.d).ownBlock)
    (hat : (Value.slice L ls.length d).ownBlock = (Value.slice h.L M.l.length h.d).ownBlock ∨ (Value.slice L ls.length d).ownBlock = some u.heap.size) :
    PlSt wb w0 (u'.setCell ⟨sx, 1, none⟩ (.slice L ls.length d)) sx hT T ⟨h.A, h.c, h.hs, L, d, h.C, h.e⟩ ⟨M.w, ls, M.c⟩ := by
  have o5 := p.own.pushL hb hl hg hat
  have hsb : ∀ b, b < w0.heap.size → FarN hT T b → FarN ⟨h.A, h.c, h.hs, L, d, h.C, h.e⟩ ⟨M.w, ls, M.c⟩ b := fun b h1 h2 => (p.far b h1 h2).pushL hat (Nat.lt_of_lt_of_le h1 (Nat.le_trans p.size hb.size))
  have hk : ∀ b, b < w0.heap.size → FarN hT T b → u'.heap[b]? = wr.heap[b]? := fun b h1 h2 => (hg.block b (Nat.lt_of_lt_of_le h1 (Nat.le_trans p.size hb.size)) (fun e2 => (p.far b h1 h2).l e2.symm)).trans (hb.block b (Nat.lt_of_lt_of_le h1 p.size))
  have hB : Below wb.heap.size wb u' := (p.bel.trans (hb.mono p.bel.size)).grown hg (Nat.le_trans p.bel.size hb.size) (fun q hq => (p.own.l.lt q hq).1)
  have es : (u'.setCell ⟨sx, 1, none⟩ (.slice L ls.length d)).heap.size = u'.heap.size := by simp
  exact {
    own := by
      have := o5.farSet (hsb sx p.sxl p.sxf) 1 (.slice L ls.length d)
      rw [es]; exact this
    far := hsb
    keep := fun b h1 h2 h3 => (Below.heap_setCell _ _ _ _ (by show b ≠ sx; exact h3)).trans ((hk b h1 h2).trans (p.keep b h1 h2 h3))
    box := set1_at ((hk sx p.sxl p.sxf).trans p.box) _
    bel := hB.setCell (p := ⟨sx, 1, none⟩) p.sxb _
    size := by rw [es]; exact Nat.le_trans p.size (Nat.le_trans hb.size hg.size)
    sxl := p.sxl
    sxf := p.sxf
    sxb := p.sxb }
/-- A wire more. -/
theorem PlSt.pushW {u u' : World} {A6 : Option Addr} {c6 g cap : Nat} {dq : List Int} (p : PlSt wb w0 wr sx hT T h M) (hb : Below wr.heap.size wr u) (own6 : u.ownsRow wr.heap.size 2 1 (.slice A6 dq.length c6) dq.length (dq.map (Value.int .i64)))
    (hown7 : u'.ownsRow wb.heap.size 24 1 (.slice (some ⟨g, 0, none⟩) (M.w.length + 1) cap) (M.w.length + 1) (rowV h.hs M.w ++ [.slice A6 dq.length c6])) (hgrow7 : (u.alloc (.cells #[.slice A6 dq.length c6] 24)).grownBy u' (Value.slice h.A M.w.length h.c).ownBlock)
    (hat7 : (Value.slice h.A M.w.length h.c).ownBlock = some g ∨ g = (u.alloc (.cells #[.slice A6 dq.length c6] 24)).heap.size) :
    PlSt wb w0 (u'.setCell ⟨sx, 0, none⟩ (.slice (some ⟨g, 0, none⟩) (M.w ++ [dq]).length cap)) sx hT T ⟨some ⟨g, 0, none⟩, cap, upd h.hs M.w.length (A6, c6), h.L, h.d, h.C, h.e⟩ ⟨M.w ++ [dq], M.l, M.c⟩ := by
  obtain ⟨o5, f5⟩ := p.own.pushW p.bel.size hb own6 hown7 hgrow7 hat7
  have hbx := box_below u (.slice A6 dq.length c6) 24
  have hb2 := hb.trans (hbx.mono hb.size)
  have hsb : ∀ b, b < w0.heap.size → FarN hT T b → FarN ⟨some ⟨g, 0, none⟩, cap, upd h.hs M.w.length (A6, c6), h.L, h.d, h.C, h.e⟩ ⟨M.w ++ [dq], M.l, M.c⟩ b := fun b h1 h2 => f5 b (Nat.lt_of_lt_of_le h1 p.size) (p.far b h1 h2)
  have hk : ∀ b, b < w0.heap.size → FarN hT T b → u'.heap[b]? = wr.heap[b]? := fun b h1 h2 => (hgrow7.block b (Nat.lt_of_lt_of_le h1 (Nat.le_trans p.size hb2.size)) (fun e2 => (p.far b h1 h2).a e2.symm)).trans (hb2.block b (Nat.lt_of_lt_of_le h1 p.size))
  have hB : Below wb.heap.size wb u' := (p.bel.trans (hb2.mono p.bel.size)).grown hgrow7 (Nat.le_trans p.bel.size hb2.size) (fun q hq => (p.own.q.outer.lt q hq).1)
  have es : (u'.setCell ⟨sx, 0, none⟩ (.slice (some ⟨g, 0, none⟩) (M.w ++ [dq]).length cap)).heap.size = u'.heap.size := by simp
  exact {
    own := by
      have := o5.farSet (hsb sx p.sxl p.sxf) 0 (.slice (some ⟨g, 0, none⟩) (M.w ++ [dq]).length cap)
      rw [es]; exact this
    far := hsb
    keep := fun b h1 h2 h3 => (Below.heap_setCell _ _ _ _ (by show b ≠ sx; exact h3)).trans ((hk b h1 h2).trans (p.keep b h1 h2 h3))
    box := set0_at ((hk sx p.sxl p.sxf).trans p.box) _
    bel := hB.setCell (p := ⟨sx, 0, none⟩) p.sxb _
    size := by rw [es]; exact Nat.le_trans p.size (Nat.le_trans hb2.size hgrow7.size)
    sxl := p.sxl
    sxf := p.sxf
    sxb := p.sxb }
end
end
section
set_option linter.unusedSimpArgs false
set_option linter.unusedVariables false
open Go.ChangeAt Go.ChangeShapes Go.RowKit Go.WideShapes

theorem rowV_app (hs hs2 : Nat → Option Addr × Nat) (qs rs : List (List Int)) : rowV (fun i => if i < qs.length then hs i else hs2 (i - qs.length)) (qs ++ rs) = rowV hs qs ++ rowV hs2 rs := by
  apply List.ext_getElem?
  intro i
  by_cases h1 : i < qs.length
  · rw [rowV_at (by simp; omega), List.getElem?_append_left (by rw [rowV_len]; exact h1), rowV_at h1]
    simp [hv, h1, List.getD, List.getElem?_append_left]
  · by_cases h2 : i < (qs ++ rs).length
    · rw [rowV_at h2, List.getElem?_append_right (by rw [rowV_len]; omega), rowV_len, rowV_at (by simp at h2; omega)]
      simp [hv, h1, List.getD, List.getElem?_append_right (Nat.le_of_not_lt h1)]
    · rw [List.getElem?_eq_none (by rw [rowV_len]; omega), List.getElem?_eq_none (by simp [rowV_len] at h2 ⊢; omega)]
theorem hv_app (hs hs2 : Nat → Option Addr × Nat) (qs rs : List (List Int)) (i : Nat) : hv (fun i => if i < qs.length then hs i else hs2 (i - qs.length)) (qs ++ rs) i = if i < qs.length then hv hs qs i else hv hs2 rs (i - qs.length) := by
  by_cases h1 : i < qs.length
  · simp [hv, h1, List.getD, List.getElem?_append_left]
  · simp [hv, h1, List.getD, List.getElem?_append_right (Nat.le_of_not_lt h1)]
theorem getD_app (qs rs : List (List Int)) (i : Nat) : (qs ++ rs).getD i [] = if i < qs.length then qs.getD i [] else rs.getD (i - qs.length) [] := by
  by_cases h1 : i < qs.length
  · simp [h1, List.getD, List.getElem?_append_left]
  · simp [h1, List.getD, List.getElem?_append_right (Nat.le_of_not_lt h1)]
theorem OwnQ.concat {w w' : World} {lo hi hi' : Nat} {v v' : Value} {hs hs2 : Nat → Option Addr × Nat} {qs rs : List (List Int)} (h : OwnQ w lo hi v hs qs)
    (hin : ∀ i, i < rs.length → w.ownsRow lo 2 1 (hv hs2 rs i) (rs.getD i []).length ((rs.getD i []).map (Value.int .i64))) (hge : ∀ i k, i < rs.length → (hv hs2 rs i).ownBlock = some k → hi ≤ k)
    (hap : ∀ i j, i < rs.length → j < rs.length → i ≠ j → (hv hs2 rs i).ownBlock = none ∨ (hv hs2 rs i).ownBlock ≠ (hv hs2 rs j).ownBlock)
    (ho : w'.ownsRow lo 24 1 v' (qs.length + rs.length) (rowV hs qs ++ rowV hs2 rs)) (hg : w.grownBy w' v.ownBlock) (hv' : ∀ b, v'.ownBlock = some b → v.ownBlock = some b ∨ w.heap.size ≤ b) (h2 : w'.heap.size ≤ hi') :
    OwnQ w' lo hi' v' (fun i => if i < qs.length then hs i else hs2 (i - qs.length)) (qs ++ rs) := by
  have hs' := hg.size
  have hblk : ∀ i k, i < (qs ++ rs).length → (hv (fun i => if i < qs.length then hs i else hs2 (i - qs.length)) (qs ++ rs) i).ownBlock = some k → k < w.heap.size ∧ v.ownBlock ≠ some k ∧ (i < qs.length → k < hi) ∧ (¬ i < qs.length → hi ≤ k) := by
    intro i k hi e
    rw [hv_app] at e
    by_cases h1 : i < qs.length
    · rw [if_pos h1] at e
      refine ⟨h.lt h1 e, fun e2 => ?_, fun _ => h.top i k h1 e, fun h => absurd h1 h⟩
      rcases h.apart0 i h1 with h0 | h0
      · rw [h0] at e; cases e
      · exact h0 (e.trans e2.symm)
    · rw [if_neg h1] at e
      have hi2 : i - qs.length < rs.length := by simp at hi; omega
      have hk := hge _ k hi2 e
      exact ⟨((hin _ hi2).lt k e).2, fun e2 => by have := h.top0 k e2; omega, fun h => absurd h h1, fun _ => hk⟩
  refine ⟨by rw [rowV_app, List.length_append]; exact ho, fun i hi => ?_, fun i j hi hj hij => ?_, fun i hi => ?_, fun k e => Nat.lt_of_lt_of_le (ho.lt k e).2 h2, fun i k hi e => ?_⟩
  · have hb := hblk i
    rw [getD_app]
    have hne : (hv (fun i => if i < qs.length then hs i else hs2 (i - qs.length)) (qs ++ rs) i).ownBlock = none ∨ (hv (fun i => if i < qs.length then hs i else hs2 (i - qs.length)) (qs ++ rs) i).ownBlock ≠ v.ownBlock := by
      cases hq : (hv (fun i => if i < qs.length then hs i else hs2 (i - qs.length)) (qs ++ rs) i).ownBlock with
      | none => exact .inl rfl
      | some k => exact .inr (fun e => (hb k hi hq).2.1 e.symm)
    rw [hv_app] at hne ⊢
    by_cases h1 : i < qs.length
    · rw [if_pos h1] at hne ⊢
      rw [if_pos h1]
      exact (h.inner i h1).kept hg hne
    · rw [if_neg h1] at hne ⊢
      rw [if_neg h1]
      exact (hin _ (by simp at hi; omega)).kept hg hne
  · cases hq : (hv (fun i => if i < qs.length then hs i else hs2 (i - qs.length)) (qs ++ rs) i).ownBlock with
    | none => exact .inl rfl
    | some k =>
      right
      intro e
      have a1 := hblk i k hi hq
      have a2 := hblk j k hj e.symm
      rw [hv_app] at hq e
      by_cases h1 : i < qs.length
      · by_cases h3 : j < qs.length
        · rw [if_pos h1] at hq
          rw [if_pos h3] at e
          rcases h.apart i j h1 h3 hij with h0 | h0
          · rw [h0] at hq; cases hq
          · exact h0 (hq.trans e)
        · have := a1.2.2.1 h1; have := a2.2.2.2 h3; omega
      · by_cases h3 : j < qs.length
        · have := a1.2.2.2 h1; have := a2.2.2.1 h3; omega
        · rw [if_neg h1] at hq
          rw [if_neg h3] at e
          rcases hap (i - qs.length) (j - qs.length) (by simp at hi; omega) (by simp at hj; omega) (by omega) with h0 | h0
          · rw [h0] at hq; cases hq
          · exact h0 (hq.trans e)
  · cases hq : (hv (fun i => if i < qs.length then hs i else hs2 (i - qs.length)) (qs ++ rs) i).ownBlock with
    | none => exact .inl rfl
    | some k =>
      right
      intro e
      have a1 := hblk i k hi hq
      rcases hv' k e.symm with h0 | h0
      · exact a1.2.1 h0
      · omega
  · have a1 := hblk i k hi e
    omega

theorem own_shape1 {w : World} {base n : Nat} {e : TypeId} {v : Value} {xs : List Value} (h : w.ownsRow base e 1 v n xs) : ∃ A c, v = .slice A n c ∧ n ≤ c := by
  rcases h.2 with ⟨rfl, rfl⟩ | ⟨g, cap, cur, rfl, _, _, hn, _⟩
  · exact ⟨_, _, rfl, Nat.le_refl _⟩
  · exact ⟨_, _, rfl, hn⟩
theorem run_append_zero {P : Program} (w : World) (t ty e : TypeId) (i : TypeInfo) (ht : P.underlying t = some (.slice e)) (hi : P.info? e = some i) (A : Option Addr) (n c d : Nat) (hnc : n ≤ c) :
    (Builtin.append_ #[t, t] ty #[.slice A n c, .slice none 0 d]).run P w = .ok (.slice A n c) w := by
  cases A <;> simp [Builtin.append_, run_underlying ht, sizeOf, typeInfo, hi, Builtin.lenOf, Builtin.firstCells, hnc, storeCells]
/-- append of a row, perhaps of none. -/
theorem step_atX {P : Program} {w : World} {ops : Array Oper} {o : Oper} {a : Act} {K : Act → World → Prop} {Q : Exit → Act → World → Prop} {E : Prop} (hgd : o.guard = none) (s x : Operand) (t : TypeId)
    (ho : o.op = .call { callee := .builtin .append, args := #[s, x], argTypes := #[t, t] })
    (lo : Nat) (ty : TypeId) (i : TypeInfo) (z : Value) (bytes : Nat) (ht : P.underlying t = some (.slice ty)) (hi : P.info? ty = some i) (hz : i.zero = some z) (h4 : i.size = 1) (h5 : i.bytes = bytes) (h6 : z.cells.size = 1)
    (v : Value) (n : Nat) (xs : List Value) (hs : a.eval s = v) (own : w.ownsRow lo ty 1 v n xs)
    (X : Option Addr) (m c : Nat) (lo2 : Nat) (ys : List Value) (hx : a.eval x = .slice X m c) (own2 : w.ownsRow lo2 ty 1 (.slice X m c) m ys) (h1 : ∀ u ∈ ys, u.oneCell' = true)
    (h8 : n + m ≤ maxLen) (h9 : (n + m) * bytes ≤ 140737488355328) (hlo : lo ≤ w.heap.size)
    (h : ∀ v' w', w'.ownsRow lo ty 1 v' (n + m) (xs ++ ys) → w.grownBy w' v.ownBlock → (v'.ownBlock = v.ownBlock ∨ v'.ownBlock = some w.heap.size) → K (a.put o.dst v') w') :
    if Region.wanted o (yielded ops a.tmps) = true then Oper.wp P o a w K Q else E := by
  cases hX : X with
  | some ad =>
    subst hX
    have hA : ys.length = m * 1 := own2.1
    refine step_at hgd s x t ho lo ty i z 1 bytes ht hi hz h4 h5 h6 (by omega) v n xs hs own ad m c ys hx (by omega) ?_ h1 h8 h9 hlo h
    intro j u hu
    obtain ⟨g, cap, hv, _⟩ := own2.form (by have := (List.getElem?_eq_some_iff.1 hu).1; omega)
    injection hv with e1 e2 e3
    injection e1 with e1
    subst e1
    exact own2.cells rfl j u hu
  | none =>
    subst hX
    obtain ⟨rfl, rfl⟩ : m = 0 ∧ ys = [] := by
      rcases own2.2 with ⟨h3, h4⟩ | ⟨g, cap, cur, h3, _⟩
      · subst h4
        exact ⟨rfl, List.eq_nil_of_length_eq_zero (by have := own2.1; omega)⟩
      · cases h3
    obtain ⟨A, d, rfl, hnc⟩ := own_shape1 own
    rw [if_pos (show Region.wanted o (yielded ops a.tmps) = true by simp [Region.wanted, hgd])]
    unfold Oper.wp execOp
    simp only [ho, resolve, invoke, builtin, Sem.run_bind, Sem.run_pure, Result.andThen_ok, List.map_toArray, List.map_cons, List.map_nil, hs, hx, run_append_zero w t o.type ty i ht hi A n d c hnc]
    exact h _ _ (by simpa using own) ⟨rfl, rfl, rfl, Nat.le_refl _, fun _ _ _ => rfl⟩ (.inl rfl)
theorem OwnN.pushWs {w w6 w7 : World} {lo : Nat} {h : NH} {N : Nt} {A2 A' : Option Addr} {c2 c' : Nat} {hs2 : Nat → Option Addr × Nat} {qs : List (List Int)} (o : OwnN w lo w.heap.size h N) (hlo : lo ≤ w.heap.size) (bel6 : Below w.heap.size w w6)
    (own2 : OwnQ w6 w.heap.size w6.heap.size (.slice A2 qs.length c2) hs2 qs)
    (hown7 : w7.ownsRow lo 24 1 (.slice A' (N.w.length + qs.length) c') (N.w.length + qs.length) (rowV h.hs N.w ++ rowV hs2 qs)) (hgrow7 : w6.grownBy w7 (Value.slice h.A N.w.length h.c).ownBlock)
    (hat7 : (Value.slice A' (N.w.length + qs.length) c').ownBlock = (Value.slice h.A N.w.length h.c).ownBlock ∨ (Value.slice A' (N.w.length + qs.length) c').ownBlock = some w6.heap.size) :
    OwnN w7 lo w7.heap.size ⟨A', c', fun i => if i < N.w.length then h.hs i else hs2 (i - N.w.length), h.L, h.d, h.C, h.e⟩ ⟨N.w ++ qs, N.l, N.c⟩ ∧ ∀ b, b < w.heap.size → FarN h N b → FarN ⟨A', c', fun i => if i < N.w.length then h.hs i else hs2 (i - N.w.length), h.L, h.d, h.C, h.e⟩ ⟨N.w ++ qs, N.l, N.c⟩ b := by
  have s6 := bel6.size
  have s7 := hgrow7.size
  have hlen : (N.w ++ qs).length = N.w.length + qs.length := by simp
  have q7 := OwnQ.concat (hs2 := hs2) (rs := qs) (hi' := w7.heap.size) (o.q.below bel6) (fun i hi => (own2.inner i hi).mono hlo) (fun i k hi e => ((own2.inner i hi).lt k e).1) (fun i j hi hj hij => own2.apart i j hi hj hij) hown7 hgrow7
    (fun b e => by
      rcases hat7 with h | h
      · exact .inl (h.symm.trans e)
      · rw [h] at e
        injection e with e
        exact .inr (by omega)) (Nat.le_refl _)
  have hk : ∀ b, b < w.heap.size → (Value.slice h.A N.w.length h.c).ownBlock ≠ some b → w7.heap[b]? = w.heap[b]? := fun b h1 h2 =>
    (hgrow7.block b (by omega) (fun e => h2 e.symm)).trans (bel6.block b h1)
  have gb : ∀ b, b < w.heap.size → (Value.slice h.A N.w.length h.c).ownBlock ≠ some b → (Value.slice A' (N.w.length + qs.length) c').ownBlock ≠ some b := fun b h1 h2 e => by
    rcases hat7 with h3 | h3
    · exact h2 (h3.symm.trans e)
    · rw [h3] at e
      injection e with e
      omega
  have ib : ∀ b, b < w.heap.size → (∀ i, i < N.w.length → (hv h.hs N.w i).ownBlock ≠ some b) → ∀ i, i < (N.w ++ qs).length → (hv (fun i => if i < N.w.length then h.hs i else hs2 (i - N.w.length)) (N.w ++ qs) i).ownBlock ≠ some b := fun b h1 h2 i hi e => by
    rw [hv_app] at e
    by_cases hn : i < N.w.length
    · rw [if_pos hn] at e
      exact h2 i hn e
    · rw [if_neg hn] at e
      have := ((own2.inner (i - N.w.length) (by omega)).lt b e).1
      omega
  have l' := own_same (w' := w7) o.l fun b e => hk b (o.lt b e) (o.lq b e).1
  have c'' := own_same (w' := w7) o.c fun b e => hk b (o.ct b e) (o.cq b e).1
  refine ⟨?_, fun b hb f => ?_⟩
  · exact {
      q := by show OwnQ w7 lo w7.heap.size (.slice A' (N.w ++ qs).length c') _ _; rw [hlen]; exact q7
      l := l'
      c := c''
      lt := fun b e => (l'.lt b e).2
      ct := fun b e => (c''.lt b e).2
      lq := fun b e => ⟨by show (Value.slice A' (N.w ++ qs).length c').ownBlock ≠ _; rw [hlen]; exact gb b (o.lt b e) (o.lq b e).1, ib b (o.lt b e) (o.lq b e).2⟩
      cq := fun b e => ⟨by show (Value.slice A' (N.w ++ qs).length c').ownBlock ≠ _; rw [hlen]; exact gb b (o.ct b e) (o.cq b e).1, ib b (o.ct b e) (o.cq b e).2⟩
      lc := o.lc }
  · exact ⟨by show (Value.slice A' (N.w ++ qs).length c').ownBlock ≠ _; rw [hlen]; exact gb b hb f.a, ib b hb f.i, f.l, f.c⟩
/-- Many wires more. -/
theorem PlSt.pushWs {wb w0 wr u u' : World} {sx : Nat} {hT h : NH} {T M : Nt} {A2 A' : Option Addr} {c2 c' : Nat} {hs2 : Nat → Option Addr × Nat} {qs : List (List Int)} (p : PlSt wb w0 wr sx hT T h M) (hb : Below wr.heap.size wr u)
    (own2 : OwnQ u wr.heap.size u.heap.size (.slice A2 qs.length c2) hs2 qs)
    (hown7 : u'.ownsRow wb.heap.size 24 1 (.slice A' (M.w.length + qs.length) c') (M.w.length + qs.length) (rowV h.hs M.w ++ rowV hs2 qs)) (hgrow7 : u.grownBy u' (Value.slice h.A M.w.length h.c).ownBlock)
    (hat7 : (Value.slice A' (M.w.length + qs.length) c').ownBlock = (Value.slice h.A M.w.length h.c).ownBlock ∨ (Value.slice A' (M.w.length + qs.length) c').ownBlock = some u.heap.size) :
    PlSt wb w0 (u'.setCell ⟨sx, 0, none⟩ (.slice A' (M.w ++ qs).length c')) sx hT T ⟨A', c', fun i => if i < M.w.length then h.hs i else hs2 (i - M.w.length), h.L, h.d, h.C, h.e⟩ ⟨M.w ++ qs, M.l, M.c⟩ := by
  obtain ⟨o5, f5⟩ := p.own.pushWs p.bel.size hb own2 hown7 hgrow7 hat7
  have hsb : ∀ b, b < w0.heap.size → FarN hT T b → FarN ⟨A', c', fun i => if i < M.w.length then h.hs i else hs2 (i - M.w.length), h.L, h.d, h.C, h.e⟩ ⟨M.w ++ qs, M.l, M.c⟩ b := fun b h1 h2 => f5 b (Nat.lt_of_lt_of_le h1 p.size) (p.far b h1 h2)
  have hk : ∀ b, b < w0.heap.size → FarN hT T b → u'.heap[b]? = wr.heap[b]? := fun b h1 h2 => (hgrow7.block b (Nat.lt_of_lt_of_le h1 (Nat.le_trans p.size hb.size)) (fun e2 => (p.far b h1 h2).a e2.symm)).trans (hb.block b (Nat.lt_of_lt_of_le h1 p.size))
  have hB : Below wb.heap.size wb u' := (p.bel.trans (hb.mono p.bel.size)).grown hgrow7 (Nat.le_trans p.bel.size hb.size) (fun q hq => (p.own.q.outer.lt q hq).1)
  have es : (u'.setCell ⟨sx, 0, none⟩ (.slice A' (M.w ++ qs).length c')).heap.size = u'.heap.size := by simp
  exact {
    own := by
      have := o5.farSet (hsb sx p.sxl p.sxf) 0 (.slice A' (M.w ++ qs).length c')
      rw [es]; exact this
    far := hsb
    keep := fun b h1 h2 h3 => (Below.heap_setCell _ _ _ _ (by show b ≠ sx; exact h3)).trans ((hk b h1 h2).trans (p.keep b h1 h2 h3))
    box := set0_at ((hk sx p.sxl p.sxf).trans p.box) _
    bel := hB.setCell (p := ⟨sx, 0, none⟩) p.sxb _
    size := by rw [es]; exact Nat.le_trans p.size (Nat.le_trans hb.size hgrow7.size)
    sxl := p.sxl
    sxf := p.sxf
    sxb := p.sxb }
end
end Go.Proofs.YtfanapddopafiaaDoor
