/- A net in memory of its own that grows: its parts set and appended to. A net in memory of its own: parts of its rows replaced. Permutations, of the model. A net renumbered, of the model. The program's placed: a net put into another one under given numbers. A net in a box that grows: another row of conclusions, a link more, a wire more. A list without two of its elements, of the model. LinkNet of the model. The program's without at numbers, and joinsConclusions. -/
import Derived.Test.YtgpocnapkflihaaGreatDoorQSubA
import Derived.Test.YtgpocnapkflihaaGreatDoorQNetO
import Derived.Test.YtgpocnapkflihaaGreatDoorQNetV
import Derived.Test.YtgpocnapkflihaaGreatDoorQMath
import Derived.Test.YtgpocnapkflihaaGreatDoorQPgJ
import Derived.Test.YtgpocnapkflihaaGreatDoorQNetK
namespace Go.Proofs.YtgpocnapkflihaaGreatDoor
set_option linter.unusedSimpArgs false
set_option linter.unusedVariables false
section
open Go.ChangeAt Go.ChangeShapes Go.RowKit Go.WideShapes

/-- No part of the net lies in block b. -/
structure FarN (h : NH) (N : Nt) (b : Nat) : Prop where
  a : (Value.slice h.A N.w.length h.c).ownBlock ≠ some b
  i : ∀ i, i < N.w.length → (hv h.hs N.w i).ownBlock ≠ some b
  l : (Value.slice h.L N.l.length h.d).ownBlock ≠ some b
  c : (Value.slice h.C N.c.length h.e).ownBlock ≠ some b
section
variable {w w1 w' : World} {lo hi b : Nat} {h : NH} {N : Nt}
theorem OwnN.far_ge (o : OwnN w lo hi h N) (hb : hi ≤ b) : FarN h N b where
  a e := by have := o.q.top0 b e; omega
  i i hi e := by have := o.q.top i b hi e; omega
  l e := by have := o.lt b e; omega
  c e := by have := o.ct b e; omega
theorem OwnN.size (o : OwnN w lo hi h N) : OwnN w lo w.heap.size h N where
  q := ⟨o.q.outer, o.q.inner, o.q.apart, o.q.apart0, fun k e => (o.q.outer.lt k e).2, fun i k hi e => ((o.q.inner i hi).lt k e).2⟩
  l := o.l
  c := o.c
  lt b e := (o.l.lt b e).2
  ct b e := (o.c.lt b e).2
  lq := o.lq
  cq := o.cq
  lc := o.lc
/-- All blocks of the net are as they were. -/
theorem OwnN.stay (o : OwnN w lo hi h N) (hk : ∀ b, ¬ FarN h N b → w'.heap[b]? = w.heap[b]?) : OwnN w' lo hi h N where
  q := o.q.fine (fun b e => hk b fun f => f.a e) (fun i hi b e => hk b fun f => f.i i hi e)
  l := own_same o.l fun b e => hk b fun f => f.l e
  c := own_same o.c fun b e => hk b fun f => f.c e
  lt := o.lt
  ct := o.ct
  lq := o.lq
  cq := o.cq
  lc := o.lc
theorem OwnN.farSet (o : OwnN w lo hi h N) (f : FarN h N b) (j : Nat) (v : Value) : OwnN (w.setCell ⟨b, j, none⟩ v) lo hi h N :=
  o.stay fun k hk => Below.heap_setCell _ _ _ _ (fun e => hk (by have e' : k = b := e; rw [e']; exact f))
/-- Another row of conclusions. -/
theorem OwnN.setC {C : Option Addr} {e : Nat} {cs : List Int} (o : OwnN w lo w.heap.size h N) (hb : Below w.heap.size w w') (hlo : lo ≤ w.heap.size) (hc : w'.ownsRow w.heap.size 2 1 (.slice C cs.length e) cs.length (cs.map (Value.int .i64))) :
    OwnN w' lo w'.heap.size ⟨h.A, h.c, h.hs, h.L, h.d, C, e⟩ ⟨N.w, N.l, cs⟩ := by
  have o2 := (o.below hb).size
  exact {
    q := o2.q
    l := o2.l
    c := hc.mono hlo
    lt := o2.lt
    ct := fun b e => (hc.lt b e).2
    lq := o2.lq
    cq := fun b e => by
      have h1 := (hc.lt b e).1
      have f := o.far_ge h1
      exact ⟨f.a, f.i⟩
    lc := fun b e e2 => by
      have h1 := (hc.lt b e2).1
      exact (o.far_ge h1).l e }
theorem FarN.setC {C : Option Addr} {e m : Nat} {cs : List Int} (f : FarN h N b) (hc : w'.ownsRow m 2 1 (.slice C cs.length e) cs.length (cs.map (Value.int .i64))) (hb : b < m) : FarN ⟨h.A, h.c, h.hs, h.L, h.d, C, e⟩ ⟨N.w, N.l, cs⟩ b :=
  ⟨f.a, f.i, f.l, fun e => by have := (hc.lt b e).1; omega⟩
/-- A longer row of conclusions, in the old block or in a new one. -/
theorem OwnN.pushC {C : Option Addr} {e : Nat} {cs : List Int} (o : OwnN w lo w.heap.size h N) (hb : Below w.heap.size w w1) (hc : w'.ownsRow lo 2 1 (.slice C cs.length e) cs.length (cs.map (Value.int .i64))) (hg : w1.grownBy w' (Value.slice h.C N.c.length h.e).ownBlock)
    (hat : (Value.slice C cs.length e).ownBlock = (Value.slice h.C N.c.length h.e).ownBlock ∨ (Value.slice C cs.length e).ownBlock = some w1.heap.size) : OwnN w' lo w'.heap.size ⟨h.A, h.c, h.hs, h.L, h.d, C, e⟩ ⟨N.w, N.l, cs⟩ := by
  have s1 := hb.size
  have hk : ∀ b, b < w.heap.size → (Value.slice h.C N.c.length h.e).ownBlock ≠ some b → w'.heap[b]? = w.heap[b]? := fun b h1 h2 => (hg.block b (by omega) (fun e => h2 e.symm)).trans (hb.block b h1)
  have q' : OwnQ w' lo w.heap.size (.slice h.A N.w.length h.c) h.hs N.w := o.q.fine (fun b e => hk b (o.q.top0 b e) (fun e2 => (o.cq b e2).1 e)) (fun i hi b e => hk b (o.q.top i b hi e) (fun e2 => (o.cq b e2).2 i hi e))
  have l' := own_same o.l fun b e => hk b (o.lt b e) (o.lc b e)
  have s2 : w.heap.size ≤ w'.heap.size := Nat.le_trans s1 hg.size
  exact {
    q := q'.more (Nat.le_refl _) s2
    l := l'
    c := hc
    lt := fun b e => Nat.lt_of_lt_of_le (o.lt b e) s2
    ct := fun b e => (hc.lt b e).2
    lq := o.lq
    cq := fun b e => by
      rcases hat with h2 | h2
      · exact o.cq b (h2 ▸ e)
      · have h3 : w1.heap.size = b := by rw [h2] at e; injection e
        have f := o.far_ge (show w.heap.size ≤ b by omega)
        exact ⟨f.a, f.i⟩
    lc := fun b e e2 => by
      rcases hat with h2 | h2
      · exact o.lc b e (h2 ▸ e2)
      · have h3 : w1.heap.size = b := by rw [h2] at e2; injection e2
        exact (o.far_ge (show w.heap.size ≤ b by omega)).l e }
theorem FarN.pushC {C : Option Addr} {e m : Nat} {cs : List Int} (f : FarN h N b) (hat : (Value.slice C cs.length e).ownBlock = (Value.slice h.C N.c.length h.e).ownBlock ∨ (Value.slice C cs.length e).ownBlock = some m) (hb : b < m) : FarN ⟨h.A, h.c, h.hs, h.L, h.d, C, e⟩ ⟨N.w, N.l, cs⟩ b :=
  ⟨f.a, f.i, f.l, fun e => by
    rcases hat with h2 | h2
    · exact f.c (h2 ▸ e)
    · rw [h2] at e; injection e with e; omega⟩
/-- A longer row of links, in the old block or in a new one. -/
theorem OwnN.pushL {L : Option Addr} {d : Nat} {ls : List Lk} (o : OwnN w lo w.heap.size h N) (hb : Below w.heap.size w w1) (hl : w'.ownsRow lo 54 4 (.slice L ls.length d) ls.length ((flL ls).map (Value.int .i64))) (hg : w1.grownBy w' (Value.slice h.L N.l.length h.d).ownBlock)
    (hat : (Value.slice L ls.length d).ownBlock = (Value.slice h.L N.l.length h.d).ownBlock ∨ (Value.slice L ls.length d).ownBlock = some w1.heap.size) : OwnN w' lo w'.heap.size ⟨h.A, h.c, h.hs, L, d, h.C, h.e⟩ ⟨N.w, ls, N.c⟩ := by
  have s1 := hb.size
  have hk : ∀ b, b < w.heap.size → (Value.slice h.L N.l.length h.d).ownBlock ≠ some b → w'.heap[b]? = w.heap[b]? := fun b h1 h2 => (hg.block b (by omega) (fun e => h2 e.symm)).trans (hb.block b h1)
  have q' : OwnQ w' lo w.heap.size (.slice h.A N.w.length h.c) h.hs N.w := o.q.fine (fun b e => hk b (o.q.top0 b e) (fun e2 => (o.lq b e2).1 e)) (fun i hi b e => hk b (o.q.top i b hi e) (fun e2 => (o.lq b e2).2 i hi e))
  have c' := own_same o.c fun b e => hk b (o.ct b e) (fun e2 => o.lc b e2 e)
  have s2 : w.heap.size ≤ w'.heap.size := Nat.le_trans s1 hg.size
  exact {
    q := q'.more (Nat.le_refl _) s2
    l := hl
    c := c'
    lt := fun b e => (hl.lt b e).2
    ct := fun b e => Nat.lt_of_lt_of_le (o.ct b e) s2
    lq := fun b e => by
      rcases hat with h2 | h2
      · exact o.lq b (h2 ▸ e)
      · have h3 : w1.heap.size = b := by rw [h2] at e; injection e
        have f := o.far_ge (show w.heap.size ≤ b by omega)
        exact ⟨f.a, f.i⟩
    cq := o.cq
    lc := fun b e e2 => by
      rcases hat with h2 | h2
      · exact o.lc b (h2 ▸ e) e2
      · have h3 : w1.heap.size = b := by rw [h2] at e; injection e
        exact (o.far_ge (show w.heap.size ≤ b by omega)).c e2 }
theorem FarN.pushL {L : Option Addr} {d m : Nat} {ls : List Lk} (f : FarN h N b) (hat : (Value.slice L ls.length d).ownBlock = (Value.slice h.L N.l.length h.d).ownBlock ∨ (Value.slice L ls.length d).ownBlock = some m) (hb : b < m) : FarN ⟨h.A, h.c, h.hs, L, d, h.C, h.e⟩ ⟨N.w, ls, N.c⟩ b :=
  ⟨f.a, f.i, fun e => by
    rcases hat with h2 | h2
    · exact f.l (h2 ▸ e)
    · rw [h2] at e; injection e with e; omega, f.c⟩
/-- One wire more. -/
theorem OwnN.pushW {w6 w7 : World} {A6 : Option Addr} {c6 g cap : Nat} {dq : List Int} (o : OwnN w lo w.heap.size h N) (hlo : lo ≤ w.heap.size) (bel6 : Below w.heap.size w w6) (own6 : w6.ownsRow w.heap.size 2 1 (.slice A6 dq.length c6) dq.length (dq.map (Value.int .i64)))
    (hown7 : w7.ownsRow lo 24 1 (.slice (some ⟨g, 0, none⟩) (N.w.length + 1) cap) (N.w.length + 1) (rowV h.hs N.w ++ [.slice A6 dq.length c6])) (hgrow7 : (w6.alloc (.cells #[.slice A6 dq.length c6] 24)).grownBy w7 (Value.slice h.A N.w.length h.c).ownBlock)
    (hat7 : (Value.slice h.A N.w.length h.c).ownBlock = some g ∨ g = (w6.alloc (.cells #[.slice A6 dq.length c6] 24)).heap.size) :
    OwnN w7 lo w7.heap.size ⟨some ⟨g, 0, none⟩, cap, upd h.hs N.w.length (A6, c6), h.L, h.d, h.C, h.e⟩ ⟨N.w ++ [dq], N.l, N.c⟩ ∧ ∀ b, b < w.heap.size → FarN h N b → FarN ⟨some ⟨g, 0, none⟩, cap, upd h.hs N.w.length (A6, c6), h.L, h.d, h.C, h.e⟩ ⟨N.w ++ [dq], N.l, N.c⟩ b := by
  obtain ⟨q7, _⟩ := push_own o.q rfl hlo bel6 own6 hown7 hgrow7 hat7
  have hlen : (N.w ++ [dq]).length = N.w.length + 1 := by simp
  have hbx := box_below w6 (.slice A6 dq.length c6) 24
  have s6 := bel6.size
  have sx := hbx.size
  have s7 := hgrow7.size
  have hk : ∀ b, b < w.heap.size → (Value.slice h.A N.w.length h.c).ownBlock ≠ some b → w7.heap[b]? = w.heap[b]? := fun b h1 h2 =>
    (hgrow7.block b (by omega) (fun e => h2 e.symm)).trans ((hbx.block b (by omega)).trans (bel6.block b h1))
  have gb : ∀ b, b < w.heap.size → (Value.slice h.A N.w.length h.c).ownBlock ≠ some b → (Value.slice (some ⟨g, 0, none⟩) (N.w.length + 1) cap).ownBlock ≠ some b := fun b h1 h2 e => by
    have e' : g = b := by simpa [Value.ownBlock] using e
    rcases hat7 with h3 | h3
    · rw [e'] at h3; exact h2 h3
    · omega
  have ib : ∀ b, b < w.heap.size → (∀ i, i < N.w.length → (hv h.hs N.w i).ownBlock ≠ some b) → ∀ i, i < (N.w ++ [dq]).length → (hv (upd h.hs N.w.length (A6, c6)) (N.w ++ [dq]) i).ownBlock ≠ some b := fun b h1 h2 i hi e => by
    rw [hlen] at hi
    by_cases hn : i < N.w.length
    · refine h2 i hn ?_
      rw [← e]
      unfold hv upd
      rw [if_neg (by omega)]
      congr 2
      simp [List.getD, List.getElem?_append_left hn]
    · obtain rfl : i = N.w.length := by omega
      unfold hv upd at e
      rw [if_pos rfl] at e
      have e3 : (N.w ++ [dq]).getD N.w.length [] = dq := by simp [List.getD]
      rw [e3] at e
      have := (own6.lt b e).1
      omega
  have l' := own_same (w' := w7) o.l fun b e => hk b (o.lt b e) (o.lq b e).1
  have c' := own_same (w' := w7) o.c fun b e => hk b (o.ct b e) (o.cq b e).1
  refine ⟨?_, fun b hb f => ?_⟩
  · exact {
      q := by show OwnQ w7 lo w7.heap.size (.slice (some ⟨g, 0, none⟩) (N.w ++ [dq]).length cap) _ _; rw [hlen]; exact q7
      l := l'
      c := c'
      lt := fun b e => (l'.lt b e).2
      ct := fun b e => (c'.lt b e).2
      lq := fun b e => ⟨by show (Value.slice (some ⟨g, 0, none⟩) (N.w ++ [dq]).length cap).ownBlock ≠ _; rw [hlen]; exact gb b (o.lt b e) (o.lq b e).1, ib b (o.lt b e) (o.lq b e).2⟩
      cq := fun b e => ⟨by show (Value.slice (some ⟨g, 0, none⟩) (N.w ++ [dq]).length cap).ownBlock ≠ _; rw [hlen]; exact gb b (o.ct b e) (o.cq b e).1, ib b (o.ct b e) (o.cq b e).2⟩
      lc := o.lc }
  · exact ⟨by show (Value.slice (some ⟨g, 0, none⟩) (N.w ++ [dq]).length cap).ownBlock ≠ _; rw [hlen]; exact gb b hb f.a, ib b hb f.i, f.l, f.c⟩
end
end
section
open Go.ChangeAt Go.ChangeShapes Go.RowKit Go.WideShapes

section
variable {w wr w1 : World} {h : NH} {N : Nt} {g k : Nat}
/-- A wire replaced. -/
theorem OwnN.storeW {A : Option Addr} {c' : Nat} {q : List Int} (o : OwnN wr w.heap.size wr.heap.size h N) (hA : h.A = some ⟨g, 0, none⟩) (hk : k < N.w.length) (hb : Below w.heap.size w wr) (own1 : w1.ownsRow wr.heap.size 2 1 (.slice A q.length c') q.length (q.map (Value.int .i64))) (bel1 : Below wr.heap.size wr w1) :
    OwnN (w1.setCell ⟨g, k, none⟩ (.slice A q.length c')) w.heap.size (w1.setCell ⟨g, k, none⟩ (.slice A q.length c')).heap.size ⟨h.A, h.c, upd h.hs k (A, c'), h.L, h.d, h.C, h.e⟩ ⟨N.w.set k q, N.l, N.c⟩ ∧
      ∀ b, b < wr.heap.size → FarN h N b → FarN ⟨h.A, h.c, upd h.hs k (A, c'), h.L, h.d, h.C, h.e⟩ ⟨N.w.set k q, N.l, N.c⟩ b := by
  obtain ⟨hAd, hcd, hhs, hL, hd, hC, he⟩ := h
  dsimp only at hA
  subst hA
  have oq := o.q
  obtain ⟨q7, _⟩ := OwnQ.fill oq rfl hk rfl hb own1 bel1
  have hlen : (N.w.set k q).length = N.w.length := by simp
  have s1 := bel1.size
  have es : (w1.setCell ⟨g, k, none⟩ (.slice A q.length c')).heap.size = w1.heap.size := by simp
  have hgA : (Value.slice (some ⟨g, 0, none⟩) N.w.length hcd).ownBlock = some g := rfl
  have hkb : ∀ b, b < wr.heap.size → b ≠ g → (w1.setCell ⟨g, k, none⟩ (.slice A q.length c')).heap[b]? = wr.heap[b]? := fun b h1 h2 => (Below.heap_setCell _ _ _ _ h2).trans (bel1.block b h1)
  have l' := own_same (w' := w1.setCell ⟨g, k, none⟩ (.slice A q.length c')) o.l fun b e => hkb b (o.lt b e) (fun e2 => (o.lq b e).1 (by rw [e2]; rfl))
  have c2 := own_same (w' := w1.setCell ⟨g, k, none⟩ (.slice A q.length c')) o.c fun b e => hkb b (o.ct b e) (fun e2 => (o.cq b e).1 (by rw [e2]; rfl))
  have ib : ∀ b, b < wr.heap.size → (∀ i, i < N.w.length → (hv hhs N.w i).ownBlock ≠ some b) → ∀ i, i < (N.w.set k q).length → (hv (upd hhs k (A, c')) (N.w.set k q) i).ownBlock ≠ some b := fun b h1 h2 i hi e => by
    rw [hlen] at hi
    by_cases hn : i = k
    · subst hn
      rw [hv_upd_eq hi] at e
      have := (own1.lt b e).1
      omega
    · rw [hv_upd_ne hn] at e
      exact h2 i hi e
  refine ⟨?_, fun b hb f => ?_⟩
  · exact {
      q := by show OwnQ _ _ _ (.slice (some ⟨g, 0, none⟩) (N.w.set k q).length hcd) _ _; rw [hlen]; exact q7
      l := l'
      c := c2
      lt := fun b e => (l'.lt b e).2
      ct := fun b e => (c2.lt b e).2
      lq := fun b e => ⟨by show (Value.slice (some ⟨g, 0, none⟩) (N.w.set k q).length hcd).ownBlock ≠ _; rw [hlen]; exact (o.lq b e).1, ib b (o.lt b e) (o.lq b e).2⟩
      cq := fun b e => ⟨by show (Value.slice (some ⟨g, 0, none⟩) (N.w.set k q).length hcd).ownBlock ≠ _; rw [hlen]; exact (o.cq b e).1, ib b (o.ct b e) (o.cq b e).2⟩
      lc := o.lc }
  · exact ⟨by show (Value.slice (some ⟨g, 0, none⟩) (N.w.set k q).length hcd).ownBlock ≠ _; rw [hlen]; exact f.a, ib b hb f.i, f.l, f.c⟩
theorem flL_set : ∀ (ls : List Lk) (k : Nat) (l : Lk), k < ls.length → (flL (ls.set k l)).map (Value.int .i64) = put4 ((flL ls).map (Value.int .i64)) (k * 4) (.int .i64 l.k) (.int .i64 l.a) (.int .i64 l.b) (.int .i64 l.c)
  | [], k, l, h => absurd h (by simp)
  | x :: xs, 0, l, _ => by simp [flL, put4]
  | x :: xs, k + 1, l, h => by
    have ih := flL_set xs k l (by simpa using h)
    have e : (k + 1) * 4 = k * 4 + 1 + 1 + 1 + 1 := by omega
    simp only [List.set_cons_succ, flL, List.map_cons, ih, put4, e]
/-- A link replaced. -/
theorem OwnN.storeL {lo hi : Nat} {l : Lk} (o : OwnN w lo hi h N) (hL : h.L = some ⟨g, 0, none⟩) (hk : k < N.l.length) :
    OwnN (fourW w g (k * 4) (.int .i64 l.k) (.int .i64 l.a) (.int .i64 l.b) (.int .i64 l.c)) lo hi h ⟨N.w, N.l.set k l, N.c⟩ ∧ ∀ b, FarN h N b → FarN h ⟨N.w, N.l.set k l, N.c⟩ b := by
  obtain ⟨hAd, hcd, hhs, hLd, hd, hCd, he⟩ := h
  dsimp only at hL
  subst hL
  have hlen : (N.l.set k l).length = N.l.length := by simp
  have hgL : (Value.slice (some ⟨g, 0, none⟩) N.l.length hd).ownBlock = some g := rfl
  obtain ⟨ol, gr⟩ := four_own (o := k * 4) o.l (.int .i64 l.k) (.int .i64 l.a) (.int .i64 l.b) (.int .i64 l.c)
  rw [← flL_set N.l k l hk] at ol
  have hkb : ∀ b, b < w.heap.size → b ≠ g → (fourW w g (k * 4) (.int .i64 l.k) (.int .i64 l.a) (.int .i64 l.b) (.int .i64 l.c)).heap[b]? = w.heap[b]? := fun b h1 h2 => gr.block b h1 fun e => h2 (by injection e)
  refine ⟨?_, fun b f => ?_⟩
  · exact {
      q := o.q.fine (fun b e => hkb b (o.q.outer.lt b e).2 fun e2 => (o.lq g hgL).1 (by rw [← e2]; exact e)) (fun i hi b e => hkb b ((o.q.inner i hi).lt b e).2 fun e2 => (o.lq g hgL).2 i hi (by rw [← e2]; exact e))
      l := by show World.ownsRow _ _ _ _ (.slice (some ⟨g, 0, none⟩) (N.l.set k l).length hd) (N.l.set k l).length _; rw [hlen]; exact ol
      c := own_same o.c fun b e => hkb b (o.c.lt b e).2 fun e2 => o.lc g hgL (by rw [← e2]; exact e)
      lt := fun b e => o.lt b (by rw [← e]; rfl)
      ct := o.ct
      lq := fun b e => o.lq b (by rw [← e]; rfl)
      cq := o.cq
      lc := fun b e e2 => o.lc b (by rw [← e]; rfl) e2 }
  · exact ⟨f.a, f.i, fun e => f.l (by rw [← e]; rfl), f.c⟩
end
end
section
open Go.ChangeAt Go.ChangeShapes Go.RowKit Go.WideShapes
end
section
open Go.ChangeAt Go.ChangeShapes Go.RowKit Go.WideShapes

/-- Where the copy stands, while it is renumbered. -/
def RnSt (w0 wx : World) (bo : Nat) (h : NH) (N : Nt) (x y z : Value) : Prop := OwnN wx w0.heap.size wx.heap.size h N ∧ FarN h N bo ∧ wx.heap[bo]? = some (.cells #[x, y, z] 30 (0, 0)) ∧ Below w0.heap.size w0 wx
theorem RnSt.drew {w0 wx : World} {bo : Nat} {h : NH} {N : Nt} {x y z : Value} (r : RnSt w0 wx bo h N x y z) : RnSt w0 wx.drew bo h N x y z := ⟨r.1.same (fun _ _ _ _ => rfl), r.2.1, r.2.2.1, r.2.2.2.drew⟩
theorem four_heap {u : World} {g o b : Nat} {v0 v1 v2 v3 : Value} (h : b ≠ g) : (fourW u g o v0 v1 v2 v3).heap[b]? = u.heap[b]? := by
  unfold fourW
  exact (Below.heap_setCell _ _ _ _ h).trans ((Below.heap_setCell _ _ _ _ h).trans ((Below.heap_setCell _ _ _ _ h).trans (Below.heap_setCell _ _ _ _ h)))
theorem four_below {w0 u : World} {B g o : Nat} (hb : Below B w0 u) (h : B ≤ g) (v0 v1 v2 v3 : Value) : Below B w0 (fourW u g o v0 v1 v2 v3) :=
  (((hb.setCell (p := ⟨g, o, none⟩) h v0).setCell (p := ⟨g, o + 1, none⟩) h v1).setCell (p := ⟨g, o + 2, none⟩) h v2).setCell (p := ⟨g, o + 3, none⟩) h v3
end
section
set_option linter.unusedSimpArgs false
set_option linter.unusedVariables false
open Go.ChangeAt Go.ChangeShapes Go.RowKit Go.WideShapes

/-- What placed holds: the target, grown, and its box. -/
structure PlSt (wb w0 wr : World) (sx : Nat) (hT : NH) (T : Nt) (h : NH) (M : Nt) : Prop where
  own : OwnN wr wb.heap.size wr.heap.size h M
  far : ∀ b, b < w0.heap.size → FarN hT T b → FarN h M b
  keep : ∀ b, b < w0.heap.size → FarN hT T b → b ≠ sx → wr.heap[b]? = w0.heap[b]?
  box : wr.heap[sx]? = some (.cells #[.slice h.A M.w.length h.c, .slice h.L M.l.length h.d, .slice h.C M.c.length h.e] 30 (0, 0))
  bel : Below wb.heap.size wb wr
  size : w0.heap.size ≤ wr.heap.size
  sxl : sx < w0.heap.size
  sxf : FarN hT T sx
  sxb : wb.heap.size ≤ sx
section
variable {wb w0 wr w' : World} {sx : Nat} {hT h : NH} {T M : Nt}
theorem PlSt.below (p : PlSt wb w0 wr sx hT T h M) (hb : Below wr.heap.size wr w') : PlSt wb w0 w' sx hT T h M where
  own := (p.own.below hb).more (Nat.le_refl _) hb.size
  far := p.far
  keep b h1 h2 h3 := (hb.block b (Nat.lt_of_lt_of_le h1 p.size)).trans (p.keep b h1 h2 h3)
  box := (hb.block sx (Nat.lt_of_lt_of_le p.sxl p.size)).trans p.box
  bel := p.bel.trans (hb.mono p.bel.size)
  size := Nat.le_trans p.size hb.size
  sxl := p.sxl
  sxf := p.sxf
  sxb := p.sxb
theorem PlSt.drew (p : PlSt wb w0 wr sx hT T h M) : PlSt wb w0 wr.drew sx hT T h M := p.below ((Below.refl _ _).drew)
theorem PlSt.cell (p : PlSt wb w0 wr sx hT T h M) {b off : Nat} (h1 : b < w0.heap.size) (h2 : FarN hT T b) (h3 : b ≠ sx) : wr.cell? ⟨b, off, none⟩ = w0.cell? ⟨b, off, none⟩ := by
  unfold World.cell?
  rw [p.keep b h1 h2 h3]
theorem PlSt.ne (p : PlSt wb w0 wr sx hT T h M) {g : Nat} (hA : h.A = some ⟨g, 0, none⟩) (hl : 0 < M.w.length) {b : Nat} (h1 : b < w0.heap.size) (h2 : FarN hT T b) : b ≠ g := fun e => by
  have := (p.far b h1 h2).a
  rw [hA, e] at this
  obtain ⟨n, hn⟩ : ∃ n, M.w.length = n + 1 := ⟨M.w.length - 1, by omega⟩
  rw [hn] at this
  exact this rfl
theorem PlSt.storeW {g k c' : Nat} {A : Option Addr} {q : List Int} {u : World} (p : PlSt wb w0 wr sx hT T h M) (hA : h.A = some ⟨g, 0, none⟩) (hk : k < M.w.length) (hg : wb.heap.size ≤ g) (own : u.ownsRow wr.heap.size 2 1 (.slice A q.length c') q.length (q.map (Value.int .i64))) (bel : Below wr.heap.size wr u) :
    PlSt wb w0 (u.setCell ⟨g, k, none⟩ (.slice A q.length c')) sx hT T ⟨h.A, h.c, upd h.hs k (A, c'), h.L, h.d, h.C, h.e⟩ ⟨M.w.set k q, M.l, M.c⟩ := by
  obtain ⟨o5, f5⟩ := p.own.storeW hA hk p.bel own bel
  have p4 := p.below bel
  have hsx : sx ≠ g := p.ne hA (by omega) p.sxl p.sxf
  have es : (u.setCell ⟨g, k, none⟩ (.slice A q.length c')).heap.size = u.heap.size := by simp
  exact {
    own := o5
    far := fun b h1 h2 => f5 b (Nat.lt_of_lt_of_le h1 p.size) (p.far b h1 h2)
    keep := fun b h1 h2 h3 => (Below.heap_setCell _ _ _ _ (by show b ≠ g; exact p.ne hA (by omega) h1 h2)).trans (p4.keep b h1 h2 h3)
    box := by
      show _ = some (Obj.cells #[.slice h.A (M.w.set k q).length h.c, .slice h.L M.l.length h.d, .slice h.C M.c.length h.e] 30 (0, 0))
      rw [List.length_set]
      exact (Below.heap_setCell _ _ _ _ (by show sx ≠ g; exact hsx)).trans p4.box
    bel := p4.bel.setCell (p := ⟨g, k, none⟩) hg _
    size := by rw [es]; exact p4.size
    sxl := p.sxl
    sxf := p.sxf
    sxb := p.sxb }
theorem PlSt.neL (p : PlSt wb w0 wr sx hT T h M) {g : Nat} (hL : h.L = some ⟨g, 0, none⟩) (hl : 0 < M.l.length) {b : Nat} (h1 : b < w0.heap.size) (h2 : FarN hT T b) : b ≠ g := fun e => by
  have := (p.far b h1 h2).l
  rw [hL, e] at this
  obtain ⟨n, hn⟩ : ∃ n, M.l.length = n + 1 := ⟨M.l.length - 1, by omega⟩
  rw [hn] at this
  exact this rfl
theorem PlSt.storeL {g k : Nat} {l : Lk} (p : PlSt wb w0 wr sx hT T h M) (hL : h.L = some ⟨g, 0, none⟩) (hk : k < M.l.length) (hg : wb.heap.size ≤ g) :
    PlSt wb w0 (fourW wr g (k * 4) (.int .i64 l.k) (.int .i64 l.a) (.int .i64 l.b) (.int .i64 l.c)) sx hT T h ⟨M.w, M.l.set k l, M.c⟩ := by
  obtain ⟨o5, f5⟩ := p.own.storeL (l := l) hL hk
  have hsx : sx ≠ g := p.neL hL (by omega) p.sxl p.sxf
  have b5 := four_below p.bel hg (.int .i64 l.k) (.int .i64 l.a) (.int .i64 l.b) (.int .i64 l.c) (o := k * 4)
  have es : wr.heap.size ≤ (fourW wr g (k * 4) (.int .i64 l.k) (.int .i64 l.a) (.int .i64 l.b) (.int .i64 l.c)).heap.size := (four_below (Below.refl wr.heap.size wr |>.mono (Nat.zero_le _)) (Nat.zero_le g) _ _ _ _).size
  exact {
    own := o5.size
    far := fun b h1 h2 => f5 b (p.far b h1 h2)
    keep := fun b h1 h2 h3 => (four_heap (p.neL hL (by omega) h1 h2)).trans (p.keep b h1 h2 h3)
    box := by
      show _ = some (Obj.cells #[.slice h.A M.w.length h.c, .slice h.L (M.l.set k l).length h.d, .slice h.C M.c.length h.e] 30 (0, 0))
      rw [List.length_set]
      exact (four_heap hsx).trans p.box
    bel := b5
    size := Nat.le_trans p.size es
    sxl := p.sxl
    sxf := p.sxf
    sxb := p.sxb }
theorem set2_at {w : World} {b : Nat} {a0 a1 a2 : Value} {t : TypeId} (h : w.heap[b]? = some (.cells #[a0, a1, a2] t (0, 0))) (v : Value) : (w.setCell ⟨b, 2, none⟩ v).heap[b]? = some (.cells #[a0, a1, v] t (0, 0)) := by
  have := heap_setCell_same w b 2 _ t v h
  simpa using this
theorem PlSt.pushC {u u' : World} {C : Option Addr} {e : Nat} {cs : List Int} (p : PlSt wb w0 wr sx hT T h M) (hb : Below wr.heap.size wr u) (hc : u'.ownsRow wb.heap.size 2 1 (.slice C cs.length e) cs.length (cs.map (Value.int .i64))) (hg : u.grownBy u' (Value.slice h.C M.c.length h.e).ownBlock)
    (hat : (Value.slice C cs.length e).ownBlock = (Value.slice h.C M.c.length h.e).ownBlock ∨ (Value.slice C cs.length e).ownBlock = some u.heap.size) :
    PlSt wb w0 (u'.setCell ⟨sx, 2, none⟩ (.slice C cs.length e)) sx hT T ⟨h.A, h.c, h.hs, h.L, h.d, C, e⟩ ⟨M.w, M.l, cs⟩ := by
  have o5 := p.own.pushC hb hc hg hat
  have hsb : ∀ b, b < w0.heap.size → FarN hT T b → FarN ⟨h.A, h.c, h.hs, h.L, h.d, C, e⟩ ⟨M.w, M.l, cs⟩ b := fun b h1 h2 => (p.far b h1 h2).pushC hat (Nat.lt_of_lt_of_le h1 (Nat.le_trans p.size hb.size))
  have hk : ∀ b, b < w0.heap.size → FarN hT T b → u'.heap[b]? = wr.heap[b]? := fun b h1 h2 => (hg.block b (Nat.lt_of_lt_of_le h1 (Nat.le_trans p.size hb.size)) (fun e2 => (p.far b h1 h2).c e2.symm)).trans (hb.block b (Nat.lt_of_lt_of_le h1 p.size))
  have hB : Below wb.heap.size wb u' := (p.bel.trans (hb.mono p.bel.size)).grown hg (Nat.le_trans p.bel.size hb.size) (fun q hq => (p.own.c.lt q hq).1)
  have es : (u'.setCell ⟨sx, 2, none⟩ (.slice C cs.length e)).heap.size = u'.heap.size := by simp
  exact {
    own := by
      have := o5.farSet (hsb sx p.sxl p.sxf) 2 (.slice C cs.length e)
      rw [es]; exact this
    far := hsb
    keep := fun b h1 h2 h3 => (Below.heap_setCell _ _ _ _ (by show b ≠ sx; exact h3)).trans ((hk b h1 h2).trans (p.keep b h1 h2 h3))
    box := set2_at ((hk sx p.sxl p.sxf).trans p.box) _
    bel := hB.setCell (p := ⟨sx, 2, none⟩) p.sxb _
    size := by rw [es]; exact Nat.le_trans p.size (Nat.le_trans hb.size hg.size)
    sxl := p.sxl
    sxf := p.sxf
    sxb := p.sxb }
end
theorem placed_out {wb w w0 wr : World} {hT h : NH} {T M : Nt} {b2 : Nat} (p : PlSt wb w0 wr w.heap.size hT T h M) (hbw : Below w.heap.size w w0) (h1 : b2 < w0.heap.size) (h2 : FarN hT T b2) (h3 : w.heap.size < b2) {u0 u1 u2 : Value} :
    ∃ h' : NH, Ending.returned (.agg #[.slice h.A M.w.length h.c, .slice h.L M.l.length h.d, .slice h.C M.c.length h.e]) = .returned (.agg #[.slice h'.A M.w.length h'.c, .slice h'.L M.l.length h'.d, .slice h'.C M.c.length h'.e]) ∧ OwnN (((wr.setCell ⟨b2, 0, none⟩ u0).setCell ⟨b2, 1, none⟩ u1).setCell ⟨b2, 2, none⟩ u2) wb.heap.size (((wr.setCell ⟨b2, 0, none⟩ u0).setCell ⟨b2, 1, none⟩ u1).setCell ⟨b2, 2, none⟩ u2).heap.size h' M ∧ Below wb.heap.size wb (((wr.setCell ⟨b2, 0, none⟩ u0).setCell ⟨b2, 1, none⟩ u1).setCell ⟨b2, 2, none⟩ u2) ∧ w.heap.size ≤ (((wr.setCell ⟨b2, 0, none⟩ u0).setCell ⟨b2, 1, none⟩ u1).setCell ⟨b2, 2, none⟩ u2).heap.size ∧ ∀ b, b < w.heap.size → FarN hT T b → FarN h' M b ∧ (((wr.setCell ⟨b2, 0, none⟩ u0).setCell ⟨b2, 1, none⟩ u1).setCell ⟨b2, 2, none⟩ u2).heap[b]? = w.heap[b]? := by
  have fb := p.far b2 h1 h2
  have es : (((wr.setCell ⟨b2, 0, none⟩ u0).setCell ⟨b2, 1, none⟩ u1).setCell ⟨b2, 2, none⟩ u2).heap.size = wr.heap.size := by simp
  have hge : wb.heap.size ≤ b2 := Nat.le_trans p.sxb (Nat.le_of_lt h3)
  refine ⟨h, rfl, ?_, ?_, ?_, fun b hb hf => ⟨p.far b (Nat.lt_of_lt_of_le hb hbw.size) hf, ?_⟩⟩
  · rw [es]
    exact ((p.own.farSet fb 0 u0).farSet fb 1 u1).farSet fb 2 u2
  · exact ((p.bel.setCell (p := ⟨b2, 0, none⟩) hge u0).setCell (p := ⟨b2, 1, none⟩) hge u1).setCell (p := ⟨b2, 2, none⟩) hge u2
  · rw [es]; exact Nat.le_trans hbw.size p.size
  · have hne : b ≠ b2 := by omega
    exact (Below.heap_setCell _ _ _ _ hne).trans ((Below.heap_setCell _ _ _ _ hne).trans ((Below.heap_setCell _ _ _ _ hne).trans ((p.keep b (Nat.lt_of_lt_of_le hb hbw.size) hf (by omega)).trans (hbw.block b hb))))
end
section
set_option linter.unusedSimpArgs false
set_option linter.unusedVariables false
open Go.ChangeAt Go.ChangeShapes Go.RowKit Go.WideShapes

section
variable {wb w0 wr w' : World} {sx : Nat} {hT h : NH} {T M : Nt}
theorem set0_at {w : World} {b : Nat} {a0 a1 a2 : Value} {t : TypeId} (h : w.heap[b]? = some (.cells #[a0, a1, a2] t (0, 0))) (v : Value) : (w.setCell ⟨b, 0, none⟩ v).heap[b]? = some (.cells #[v, a1, a2] t (0, 0)) := by
  have := heap_setCell_same w b 0 _ t v h
  simpa using this
theorem set1_at {w : World} {b : Nat} {a0 a1 a2 : Value} {t : TypeId} (h : w.heap[b]? = some (.cells #[a0, a1, a2] t (0, 0))) (v : Value) : (w.setCell ⟨b, 1, none⟩ v).heap[b]? = some (.cells #[a0, v, a2] t (0, 0)) := by
  have := heap_setCell_same w b 1 _ t v h
  simpa using this
/-- Another row of conclusions, in memory of its own. -/
theorem PlSt.setC {u : World} {C : Option Addr} {e : Nat} {cs : List Int} (p : PlSt wb w0 wr sx hT T h M) (hb : Below wr.heap.size wr u) (hc : u.ownsRow wr.heap.size 2 1 (.slice C cs.length e) cs.length (cs.map (Value.int .i64))) :
    PlSt wb w0 (u.setCell ⟨sx, 2, none⟩ (.slice C cs.length e)) sx hT T ⟨h.A, h.c, h.hs, h.L, h.d, C, e⟩ ⟨M.w, M.l, cs⟩ := by
  have o5 := p.own.setC hb p.bel.size hc
  have hsb : ∀ b, b < w0.heap.size → FarN hT T b → FarN ⟨h.A, h.c, h.hs, h.L, h.d, C, e⟩ ⟨M.w, M.l, cs⟩ b := fun b h1 h2 => (p.far b h1 h2).setC hc (Nat.lt_of_lt_of_le h1 p.size)
  have hk : ∀ b, b < w0.heap.size → u.heap[b]? = wr.heap[b]? := fun b h1 => hb.block b (Nat.lt_of_lt_of_le h1 p.size)
  have hB : Below wb.heap.size wb u := p.bel.trans (hb.mono p.bel.size)
  have es : (u.setCell ⟨sx, 2, none⟩ (.slice C cs.length e)).heap.size = u.heap.size := by simp
  exact {
    own := by
      have := o5.farSet (hsb sx p.sxl p.sxf) 2 (.slice C cs.length e)
      rw [es]; exact this
    far := hsb
    keep := fun b h1 h2 h3 => (Below.heap_setCell _ _ _ _ (by show b ≠ sx; exact h3)).trans ((hk b h1).trans (p.keep b h1 h2 h3))
    box := set2_at ((hk sx p.sxl).trans p.box) _
    bel := hB.setCell (p := ⟨sx, 2, none⟩) p.sxb _
    size := by rw [es]; exact Nat.le_trans p.size hb.size
    sxl := p.sxl
    sxf := p.sxf
    sxb := p.sxb }
/-- A longer row of links. -/
theorem PlSt.pushL {u u' : World} {L : Option Addr} {d : Nat} {ls : List Lk} (p : PlSt wb w0 wr sx hT T h M) (hb : Below wr.heap.size wr u) (hl : u'.ownsRow wb.heap.size 54 4 (.slice L ls.length d) ls.length ((flL ls).map (Value.int .i64))) (hg : u.grownBy u' (Value.slice h.L M.l.length h.d).ownBlock)
    (hat : (Value.slice L ls.length d).ownBlock = (Value.slice h.L M.l.length h.d).ownBlock ∨ (Value.slice L ls.length d).ownBlock = some u.heap.size) :
    PlSt wb w0 (u'.setCell ⟨sx, 1, none⟩ (.slice L ls.length d)) sx hT T ⟨h.A, h.c, h.hs, L, d, h.C, h.e⟩ ⟨M.w, ls, M.c⟩ := by
  have o5 := p.own.pushL hb hl hg hat
  have hsb : ∀ b, b < w0.heap.size → FarN hT T b → FarN ⟨h.A, h.c, h.hs, L, d, h.C, h.e⟩ ⟨M.w, ls, M.c⟩ b := fun b h1 h2 => (p.far b h1 h2).pushL hat (Nat.lt_of_lt_of_le h1 (Nat.le_trans p.size hb.size))
  have hk : ∀ b, b < w0.heap.size → FarN hT T b → u'.heap[b]? = wr.heap[b]? := fun b h1 h2 => (hg.block b (Nat.lt_of_lt_of_le h1 (Nat.le_trans p.size hb.size)) (fun e2 => (p.far b h1 h2).l e2.symm)).trans (hb.block b (Nat.lt_of_lt_of_le h1 p.size))
  have hB : Below wb.heap.size wb u' := (p.bel.trans (hb.mono p.bel.size)).grown hg (Nat.le_trans p.bel.size hb.size) (fun q hq => (p.own.l.lt q hq).1)
  have es : (u'.setCell ⟨sx, 1, none⟩ (.slice L ls.length d)).heap.size = u'.heap.size := by simp
  exact {
    own := by
      have := o5.farSet (hsb sx p.sxl p.sxf) 1 (.slice L ls.length d)
      rw [es]; exact this
    far := hsb
    keep := fun b h1 h2 h3 => (Below.heap_setCell _ _ _ _ (by show b ≠ sx; exact h3)).trans ((hk b h1 h2).trans (p.keep b h1 h2 h3))
    box := set1_at ((hk sx p.sxl p.sxf).trans p.box) _
    bel := hB.setCell (p := ⟨sx, 1, none⟩) p.sxb _
    size := by rw [es]; exact Nat.le_trans p.size (Nat.le_trans hb.size hg.size)
    sxl := p.sxl
    sxf := p.sxf
    sxb := p.sxb }
/-- A wire more. -/
theorem PlSt.pushW {u u' : World} {A6 : Option Addr} {c6 g cap : Nat} {dq : List Int} (p : PlSt wb w0 wr sx hT T h M) (hb : Below wr.heap.size wr u) (own6 : u.ownsRow wr.heap.size 2 1 (.slice A6 dq.length c6) dq.length (dq.map (Value.int .i64)))
    (hown7 : u'.ownsRow wb.heap.size 24 1 (.slice (some ⟨g, 0, none⟩) (M.w.length + 1) cap) (M.w.length + 1) (rowV h.hs M.w ++ [.slice A6 dq.length c6])) (hgrow7 : (u.alloc (.cells #[.slice A6 dq.length c6] 24)).grownBy u' (Value.slice h.A M.w.length h.c).ownBlock)
    (hat7 : (Value.slice h.A M.w.length h.c).ownBlock = some g ∨ g = (u.alloc (.cells #[.slice A6 dq.length c6] 24)).heap.size) :
    PlSt wb w0 (u'.setCell ⟨sx, 0, none⟩ (.slice (some ⟨g, 0, none⟩) (M.w ++ [dq]).length cap)) sx hT T ⟨some ⟨g, 0, none⟩, cap, upd h.hs M.w.length (A6, c6), h.L, h.d, h.C, h.e⟩ ⟨M.w ++ [dq], M.l, M.c⟩ := by
  obtain ⟨o5, f5⟩ := p.own.pushW p.bel.size hb own6 hown7 hgrow7 hat7
  have hbx := box_below u (.slice A6 dq.length c6) 24
  have hb2 := hb.trans (hbx.mono hb.size)
  have hsb : ∀ b, b < w0.heap.size → FarN hT T b → FarN ⟨some ⟨g, 0, none⟩, cap, upd h.hs M.w.length (A6, c6), h.L, h.d, h.C, h.e⟩ ⟨M.w ++ [dq], M.l, M.c⟩ b := fun b h1 h2 => f5 b (Nat.lt_of_lt_of_le h1 p.size) (p.far b h1 h2)
  have hk : ∀ b, b < w0.heap.size → FarN hT T b → u'.heap[b]? = wr.heap[b]? := fun b h1 h2 => (hgrow7.block b (Nat.lt_of_lt_of_le h1 (Nat.le_trans p.size hb2.size)) (fun e2 => (p.far b h1 h2).a e2.symm)).trans (hb2.block b (Nat.lt_of_lt_of_le h1 p.size))
  have hB : Below wb.heap.size wb u' := (p.bel.trans (hb2.mono p.bel.size)).grown hgrow7 (Nat.le_trans p.bel.size hb2.size) (fun q hq => (p.own.q.outer.lt q hq).1)
  have es : (u'.setCell ⟨sx, 0, none⟩ (.slice (some ⟨g, 0, none⟩) (M.w ++ [dq]).length cap)).heap.size = u'.heap.size := by simp
  exact {
    own := by
      have := o5.farSet (hsb sx p.sxl p.sxf) 0 (.slice (some ⟨g, 0, none⟩) (M.w ++ [dq]).length cap)
      rw [es]; exact this
    far := hsb
    keep := fun b h1 h2 h3 => (Below.heap_setCell _ _ _ _ (by show b ≠ sx; exact h3)).trans ((hk b h1 h2).trans (p.keep b h1 h2 h3))
    box := set0_at ((hk sx p.sxl p.sxf).trans p.box) _
    bel := hB.setCell (p := ⟨sx, 0, none⟩) p.sxb _
    size := by rw [es]; exact Nat.le_trans p.size (Nat.le_trans hb2.size hgrow7.size)
    sxl := p.sxl
    sxf := p.sxf
    sxb := p.sxb }
end
end
section
open Go.ChangeAt Go.ChangeShapes Go.RowKit Go.WideShapes

/-- The first k elements but those at i and j. -/
def lessU (cs : List Int) (i j : Int) (k : Nat) : List Int := ((List.range k).filter fun (t : Nat) => (t : Int) != i && (t : Int) != j).map fun t => cs.getD t 0
def lessL (cs : List Int) (i j : Int) : List Int := lessU cs i j cs.length
theorem lessU_yes {cs : List Int} {i j : Int} {k : Nat} (h : ((k : Int) != i && (k : Int) != j) = true) : lessU cs i j (k + 1) = lessU cs i j k ++ [cs.getD k 0] := by
  unfold lessU; rw [List.range_succ, List.filter_append, List.map_append]
  simp only [List.filter_cons, List.filter_nil]
  rw [if_pos h]; rfl
theorem lessU_no {cs : List Int} {i j : Int} {k : Nat} (h : ((k : Int) != i && (k : Int) != j) = false) : lessU cs i j (k + 1) = lessU cs i j k := by
  unfold lessU; rw [List.range_succ, List.filter_append, List.map_append]
  simp only [List.filter_cons, List.filter_nil]
  rw [if_neg (by rw [h]; decide)]; simp
theorem lessU_len (cs : List Int) (i j : Int) (k : Nat) : (lessU cs i j k).length ≤ k := by
  unfold lessU
  rw [List.length_map]
  exact Nat.le_trans (List.length_filter_le _ _) (by simp)
end
section
open Go.ChangeAt Go.ChangeShapes Go.RowKit Go.WideShapes

def kindB (k : Int) : Bool := decide (2 ≤ k ∧ k ≤ 4)
end
section
set_option linter.unusedSimpArgs false
set_option linter.unusedVariables false
open Go.ChangeAt Go.ChangeShapes Go.RowKit Go.WideShapes

set_option maxHeartbeats 4000000 in
theorem withoutI_any (A : Option Addr) (n c : Nat) (cs : List Int) (B : Option Addr) (d : Nat) (i j : Int) (w : World) (r : RdI w w.heap.size A n cs) (r2 : RdI w w.heap.size B 2 [i, j]) (hn : n ≤ 1048576) :
    Calls Tryz.prog 47 #[.slice A n c, .slice B 2 d] w (Gives w (lessL cs i j)) := by
  obtain ⟨i0, hi0, hz0, hz1, hz2⟩ := info_parts info_i64
  have HI := Lib.hid hi0; have HZ0 := Lib.hid hz0; have HZ1 := Lib.hid hz1; have HZ2 := Lib.hid hz2
  have hl := r.len
  subst hl
  have H := Lib.hid r; have H2 := Lib.hid r2
  have HLL : Hid (lessL cs i j = lessU cs i j cs.length) := Lib.hid rfl
  rw [HLL.out]
  clear r r2 hi0 hz0 hz1 hz2
  go_enter Tryz.func47, Tryz.ntmps47
  go_wp2
  go_loopw [5, 10] (fun v t wx => ∃ k : Nat, k ≤ cs.length ∧ t = .int .i64 k ∧ wx.ownsRow w.heap.size 2 1 v (lessU cs i j k).length ((lessU cs i j k).map (Value.int .i64)) ∧ Below w.heap.size w wx) (fun _ t _ => cs.length - (intOf t).toNat)
  case atStart => exact ⟨0, Nat.zero_le _, rfl, World.ownsRow_nil _ _ _ _, Below.refl _ _⟩
  case round =>
    obtain ⟨k, hk, rfl, hO, hB⟩ := hrel
    by_cases hlt : k < cs.length
    · obtain ⟨b, off, rfl, hbb, hcells⟩ := H.out.2 (by omega)
      have hc := (hB.cell (p := ⟨b, off + k, none⟩) hbb).trans (hcells k hlt)
      have HC := containsI_any B 2 d [i, j] (k : Int) wr ((H2.out.below hB).more hB.size) (by omega)
      have hln := lessU_len cs i j k
      have hyes := fun e => lessU_yes (cs := cs) (i := i) (j := j) (k := k) e
      have hno := fun e => lessU_no (cs := cs) (i := i) (j := j) (k := k) e
      obtain ⟨z, hz⟩ : ∃ z, cs.getD k 0 = z := ⟨_, rfl⟩
      rw [hz] at hc hyes
      have hdec : decide ((k : Int) ∈ [i, j]) = !((k : Int) != i && (k : Int) != j) := by
        rw [Bool.eq_iff_iff]
        simp
      rw [hdec] at HC
      cases hb : ((k : Int) != i && (k : Int) != j) with
      | false =>
        rw [hb] at HC
        have HCN := Lib.hid HC
        have HO := hO
        rw [← hno hb] at HO
        have HO2 := Lib.hid HO; have HB := Lib.hid hB
        clear HC hO hB hcells hz hyes hno hb hdec HO
        go_wp2_with (fail)
        refine HCN.out.mono ?_
        rintro e w1 ⟨rfl, rfl⟩
        go_wp2
        go_roundw
        case rel => exact ⟨k + 1, by omega, by go_num, HO2.out, HB.out⟩
        case measure => simp [intOf]; omega
      | true =>
        rw [hb] at HC
        have HCN := Lib.hid HC
        have HS := Lib.hid (hyes hb)
        have HLN : Hid ((lessU cs i j (k + 1)).length = (lessU cs i j k).length + 1) := Lib.hid (by rw [HS.out]; simp)
        have HO1 := Lib.hid hO; have HB := Lib.hid hB
        have hsz1 := hB.size
        clear HC hO hB hcells hz hyes hno hb hdec
        go_wp2_with (fail)
        refine HCN.out.mono ?_
        rintro e w1 ⟨rfl, rfl⟩
        go_wp2_with (at_builtin; refine wpList_append_own _ rfl _ _ 24 rfl w.heap.size 2 i0 (.int .i64 0) 1 8 Tryz.underlying24 HI.out HZ0.out HZ1.out HZ2.out rfl (by decide) _ _ _ rfl (HO1.out.alloc _) ⟨wr.heap.size, 0, none⟩ 1 1 [.int .i64 z] rfl rfl ?c1 ?c2 ?c3 ?c4 ?c5 ?_)
        (try (case c1 => exact cell_one_new _ _ _))
        case c2 => first | rfl | (intro u hu; simp at hu; subst hu; rfl)
        case c3 => unfold maxLen; omega
        case c4 => omega
        case c5 => first | omega | (simp; omega)
        intro v' w2 hown' hgrow _
        have hb2 := Lib.hid ((HB.out.alloc hsz1 (.cells #[.int .i64 z] 2)).grown hgrow (by simp; omega) (fun q hq => (HO1.out.lt q hq).1))
        have hown2 : w2.ownsRow w.heap.size 2 1 v' (lessU cs i j (k + 1)).length ((lessU cs i j (k + 1)).map (Value.int .i64)) := by
          rw [HLN.out, HS.out, List.map_append]; exact hown'
        have hown1 := Lib.hid hown2
        clear hown' hgrow hown2 hsz1
        go_wp2
        go_roundw
        case rel => exact ⟨k + 1, by omega, by go_num, hown1.out, hb2.out⟩
        case measure => simp [intOf]; omega
    · have hkl : k = cs.length := by omega
      subst hkl
      have HG := Lib.hid (gives_own hO (Nat.le_refl _) hB)
      clear hO hB
      go_wp2
      go_ret
      exact HG.out
end
end Go.Proofs.YtgpocnapkflihaaGreatDoor
