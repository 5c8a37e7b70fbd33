/- Rows of rows put one behind the other; a net in a box that gets many wires. slices.Concat of rows of numbers, empty or not; the program's without at one position. The program's isPermutation: slices.Sort at a row of one's own. The program's outputsOfLinks; positionOf. -/
import Derived.Test.YtgpocnapkflihaaGreatDoorQNetR
import Derived.Test.YtgpocnapkflihaaGreatDoorQNetO
import Derived.Maps.AppendAt
import Derived.Test.YtgpocnapkflihaaGreatDoorSqN
import Derived.Deep.RegionHeldLaw
import Derived.Deep.DeepCutAuto
import Derived.BigQuiet
import Derived.Test.YtgpocnapkflihaaGreatDoorShelfI
import Derived.Test.YtgpocnapkflihaaGreatDoorQSubA
import Derived.Test.YtgpocnapkflihaaGreatDoorQPgJ
import Derived.Test.YtgpocnapkflihaaGreatDoorSrI
import Derived.Lib.OwnBridge
namespace Go.Proofs.YtgpocnapkflihaaGreatDoor
set_option linter.unusedSimpArgs false
set_option linter.unusedVariables false
open Go.ChangeAt Go.ChangeShapes Go.RowKit Go.WideShapes Go.Shelf Go.Lib Go.Sort

theorem rowV_app (hs hs2 : Nat → Option Addr × Nat) (qs rs : List (List Int)) : rowV (fun i => if i < qs.length then hs i else hs2 (i - qs.length)) (qs ++ rs) = rowV hs qs ++ rowV hs2 rs := by
  apply List.ext_getElem?
  intro i
  by_cases h1 : i < qs.length
  · rw [rowV_at (by simp; omega), List.getElem?_append_left (by rw [rowV_len]; exact h1), rowV_at h1]
    simp [hv, h1, List.getD, List.getElem?_append_left]
  · by_cases h2 : i < (qs ++ rs).length
    · rw [rowV_at h2, List.getElem?_append_right (by rw [rowV_len]; omega), rowV_len, rowV_at (by simp at h2; omega)]
      simp [hv, h1, List.getD, List.getElem?_append_right (Nat.le_of_not_lt h1)]
    · rw [List.getElem?_eq_none (by rw [rowV_len]; omega), List.getElem?_eq_none (by simp [rowV_len] at h2 ⊢; omega)]
theorem hv_app (hs hs2 : Nat → Option Addr × Nat) (qs rs : List (List Int)) (i : Nat) : hv (fun i => if i < qs.length then hs i else hs2 (i - qs.length)) (qs ++ rs) i = if i < qs.length then hv hs qs i else hv hs2 rs (i - qs.length) := by
  by_cases h1 : i < qs.length
  · simp [hv, h1, List.getD, List.getElem?_append_left]
  · simp [hv, h1, List.getD, List.getElem?_append_right (Nat.le_of_not_lt h1)]
theorem getD_app (qs rs : List (List Int)) (i : Nat) : (qs ++ rs).getD i [] = if i < qs.length then qs.getD i [] else rs.getD (i - qs.length) [] := by
  by_cases h1 : i < qs.length
  · simp [h1, List.getD, List.getElem?_append_left]
  · simp [h1, List.getD, List.getElem?_append_right (Nat.le_of_not_lt h1)]
theorem OwnQ.concat {w w' : World} {lo hi hi' : Nat} {v v' : Value} {hs hs2 : Nat → Option Addr × Nat} {qs rs : List (List Int)} (h : OwnQ w lo hi v hs qs)
    (hin : ∀ i, i < rs.length → w.ownsRow lo 2 1 (hv hs2 rs i) (rs.getD i []).length ((rs.getD i []).map (Value.int .i64))) (hge : ∀ i k, i < rs.length → (hv hs2 rs i).ownBlock = some k → hi ≤ k)
    (hap : ∀ i j, i < rs.length → j < rs.length → i ≠ j → (hv hs2 rs i).ownBlock = none ∨ (hv hs2 rs i).ownBlock ≠ (hv hs2 rs j).ownBlock)
    (ho : w'.ownsRow lo 24 1 v' (qs.length + rs.length) (rowV hs qs ++ rowV hs2 rs)) (hg : w.grownBy w' v.ownBlock) (hv' : ∀ b, v'.ownBlock = some b → v.ownBlock = some b ∨ w.heap.size ≤ b) (h2 : w'.heap.size ≤ hi') :
    OwnQ w' lo hi' v' (fun i => if i < qs.length then hs i else hs2 (i - qs.length)) (qs ++ rs) := by
  have hs' := hg.size
  have hblk : ∀ i k, i < (qs ++ rs).length → (hv (fun i => if i < qs.length then hs i else hs2 (i - qs.length)) (qs ++ rs) i).ownBlock = some k → k < w.heap.size ∧ v.ownBlock ≠ some k ∧ (i < qs.length → k < hi) ∧ (¬ i < qs.length → hi ≤ k) := by
    intro i k hi e
    rw [hv_app] at e
    by_cases h1 : i < qs.length
    · rw [if_pos h1] at e
      refine ⟨h.lt h1 e, fun e2 => ?_, fun _ => h.top i k h1 e, fun h => absurd h1 h⟩
      rcases h.apart0 i h1 with h0 | h0
      · rw [h0] at e; cases e
      · exact h0 (e.trans e2.symm)
    · rw [if_neg h1] at e
      have hi2 : i - qs.length < rs.length := by simp at hi; omega
      have hk := hge _ k hi2 e
      exact ⟨((hin _ hi2).lt k e).2, fun e2 => by have := h.top0 k e2; omega, fun h => absurd h h1, fun _ => hk⟩
  refine ⟨by rw [rowV_app, List.length_append]; exact ho, fun i hi => ?_, fun i j hi hj hij => ?_, fun i hi => ?_, fun k e => Nat.lt_of_lt_of_le (ho.lt k e).2 h2, fun i k hi e => ?_⟩
  · have hb := hblk i
    rw [getD_app]
    have hne : (hv (fun i => if i < qs.length then hs i else hs2 (i - qs.length)) (qs ++ rs) i).ownBlock = none ∨ (hv (fun i => if i < qs.length then hs i else hs2 (i - qs.length)) (qs ++ rs) i).ownBlock ≠ v.ownBlock := by
      cases hq : (hv (fun i => if i < qs.length then hs i else hs2 (i - qs.length)) (qs ++ rs) i).ownBlock with
      | none => exact .inl rfl
      | some k => exact .inr (fun e => (hb k hi hq).2.1 e.symm)
    rw [hv_app] at hne ⊢
    by_cases h1 : i < qs.length
    · rw [if_pos h1] at hne ⊢
      rw [if_pos h1]
      exact (h.inner i h1).kept hg hne
    · rw [if_neg h1] at hne ⊢
      rw [if_neg h1]
      exact (hin _ (by simp at hi; omega)).kept hg hne
  · cases hq : (hv (fun i => if i < qs.length then hs i else hs2 (i - qs.length)) (qs ++ rs) i).ownBlock with
    | none => exact .inl rfl
    | some k =>
      right
      intro e
      have a1 := hblk i k hi hq
      have a2 := hblk j k hj e.symm
      rw [hv_app] at hq e
      by_cases h1 : i < qs.length
      · by_cases h3 : j < qs.length
        · rw [if_pos h1] at hq
          rw [if_pos h3] at e
          rcases h.apart i j h1 h3 hij with h0 | h0
          · rw [h0] at hq; cases hq
          · exact h0 (hq.trans e)
        · have := a1.2.2.1 h1; have := a2.2.2.2 h3; omega
      · by_cases h3 : j < qs.length
        · have := a1.2.2.2 h1; have := a2.2.2.1 h3; omega
        · rw [if_neg h1] at hq
          rw [if_neg h3] at e
          rcases hap (i - qs.length) (j - qs.length) (by simp at hi; omega) (by simp at hj; omega) (by omega) with h0 | h0
          · rw [h0] at hq; cases hq
          · exact h0 (hq.trans e)
  · cases hq : (hv (fun i => if i < qs.length then hs i else hs2 (i - qs.length)) (qs ++ rs) i).ownBlock with
    | none => exact .inl rfl
    | some k =>
      right
      intro e
      have a1 := hblk i k hi hq
      rcases hv' k e.symm with h0 | h0
      · exact a1.2.1 h0
      · omega
  · have a1 := hblk i k hi e
    omega

theorem own_shape1 {w : World} {base n : Nat} {e : TypeId} {v : Value} {xs : List Value} (h : w.ownsRow base e 1 v n xs) : ∃ A c, v = .slice A n c ∧ n ≤ c := by
  rcases h.2 with ⟨rfl, rfl⟩ | ⟨g, cap, cur, rfl, _, _, hn, _⟩
  · exact ⟨_, _, rfl, Nat.le_refl _⟩
  · exact ⟨_, _, rfl, hn⟩
theorem run_append_zero {P : Program} (w : World) (t ty e : TypeId) (i : TypeInfo) (ht : P.underlying t = some (.slice e)) (hi : P.info? e = some i) (A : Option Addr) (n c d : Nat) (hnc : n ≤ c) :
    (Builtin.append_ #[t, t] ty #[.slice A n c, .slice none 0 d]).run P w = .ok (.slice A n c) w := by
  cases A <;> simp [Builtin.append_, run_underlying ht, sizeOf, typeInfo, hi, Builtin.lenOf, Builtin.firstCells, hnc, storeCells]
/-- append of a row, perhaps of none. -/
theorem step_atX {P : Program} {w : World} {ops : Array Oper} {o : Oper} {a : Act} {K : Act → World → Prop} {Q : Exit → Act → World → Prop} {E : Prop} (hgd : o.guard = none) (s x : Operand) (t : TypeId)
    (ho : o.op = .call { callee := .builtin .append, args := #[s, x], argTypes := #[t, t] })
    (lo : Nat) (ty : TypeId) (i : TypeInfo) (z : Value) (bytes : Nat) (ht : P.underlying t = some (.slice ty)) (hi : P.info? ty = some i) (hz : i.zero = some z) (h4 : i.size = 1) (h5 : i.bytes = bytes) (h6 : z.cells.size = 1)
    (v : Value) (n : Nat) (xs : List Value) (hs : a.eval s = v) (own : w.ownsRow lo ty 1 v n xs)
    (X : Option Addr) (m c : Nat) (lo2 : Nat) (ys : List Value) (hx : a.eval x = .slice X m c) (own2 : w.ownsRow lo2 ty 1 (.slice X m c) m ys) (h1 : ∀ u ∈ ys, u.oneCell' = true)
    (h8 : n + m ≤ maxLen) (h9 : (n + m) * bytes ≤ 140737488355328) (hlo : lo ≤ w.heap.size)
    (h : ∀ v' w', w'.ownsRow lo ty 1 v' (n + m) (xs ++ ys) → w.grownBy w' v.ownBlock → (v'.ownBlock = v.ownBlock ∨ v'.ownBlock = some w.heap.size) → K (a.put o.dst v') w') :
    if Region.wanted o (yielded ops a.tmps) = true then Oper.wp P o a w K Q else E := by
  cases hX : X with
  | some ad =>
    subst hX
    have hA : ys.length = m * 1 := own2.1
    refine step_at hgd s x t ho lo ty i z 1 bytes ht hi hz h4 h5 h6 (by omega) v n xs hs own ad m c ys hx (by omega) ?_ h1 h8 h9 hlo h
    intro j u hu
    obtain ⟨g, cap, hv, _⟩ := own2.form (by have := (List.getElem?_eq_some_iff.1 hu).1; omega)
    injection hv with e1 e2 e3
    injection e1 with e1
    subst e1
    exact own2.cells rfl j u hu
  | none =>
    subst hX
    obtain ⟨rfl, rfl⟩ : m = 0 ∧ ys = [] := by
      rcases own2.2 with ⟨h3, h4⟩ | ⟨g, cap, cur, h3, _⟩
      · subst h4
        exact ⟨rfl, List.eq_nil_of_length_eq_zero (by have := own2.1; omega)⟩
      · cases h3
    obtain ⟨A, d, rfl, hnc⟩ := own_shape1 own
    rw [if_pos (show Region.wanted o (yielded ops a.tmps) = true by simp [Region.wanted, hgd])]
    unfold Oper.wp execOp
    simp only [ho, resolve, invoke, builtin, Sem.run_bind, Sem.run_pure, Result.andThen_ok, List.map_toArray, List.map_cons, List.map_nil, hs, hx, run_append_zero w t o.type ty i ht hi A n d c hnc]
    exact h _ _ (by simpa using own) ⟨rfl, rfl, rfl, Nat.le_refl _, fun _ _ _ => rfl⟩ (.inl rfl)
theorem OwnN.pushWs {w w6 w7 : World} {lo : Nat} {h : NH} {N : Nt} {A2 A' : Option Addr} {c2 c' : Nat} {hs2 : Nat → Option Addr × Nat} {qs : List (List Int)} (o : OwnN w lo w.heap.size h N) (hlo : lo ≤ w.heap.size) (bel6 : Below w.heap.size w w6)
    (own2 : OwnQ w6 w.heap.size w6.heap.size (.slice A2 qs.length c2) hs2 qs)
    (hown7 : w7.ownsRow lo 24 1 (.slice A' (N.w.length + qs.length) c') (N.w.length + qs.length) (rowV h.hs N.w ++ rowV hs2 qs)) (hgrow7 : w6.grownBy w7 (Value.slice h.A N.w.length h.c).ownBlock)
    (hat7 : (Value.slice A' (N.w.length + qs.length) c').ownBlock = (Value.slice h.A N.w.length h.c).ownBlock ∨ (Value.slice A' (N.w.length + qs.length) c').ownBlock = some w6.heap.size) :
    OwnN w7 lo w7.heap.size ⟨A', c', fun i => if i < N.w.length then h.hs i else hs2 (i - N.w.length), h.L, h.d, h.C, h.e⟩ ⟨N.w ++ qs, N.l, N.c⟩ ∧ ∀ b, b < w.heap.size → FarN h N b → FarN ⟨A', c', fun i => if i < N.w.length then h.hs i else hs2 (i - N.w.length), h.L, h.d, h.C, h.e⟩ ⟨N.w ++ qs, N.l, N.c⟩ b := by
  have s6 := bel6.size
  have s7 := hgrow7.size
  have hlen : (N.w ++ qs).length = N.w.length + qs.length := by simp
  have q7 := OwnQ.concat (hs2 := hs2) (rs := qs) (hi' := w7.heap.size) (o.q.below bel6) (fun i hi => (own2.inner i hi).mono hlo) (fun i k hi e => ((own2.inner i hi).lt k e).1) (fun i j hi hj hij => own2.apart i j hi hj hij) hown7 hgrow7
    (fun b e => by
      rcases hat7 with h | h
      · exact .inl (h.symm.trans e)
      · rw [h] at e
        injection e with e
        exact .inr (by omega)) (Nat.le_refl _)
  have hk : ∀ b, b < w.heap.size → (Value.slice h.A N.w.length h.c).ownBlock ≠ some b → w7.heap[b]? = w.heap[b]? := fun b h1 h2 =>
    (hgrow7.block b (by omega) (fun e => h2 e.symm)).trans (bel6.block b h1)
  have gb : ∀ b, b < w.heap.size → (Value.slice h.A N.w.length h.c).ownBlock ≠ some b → (Value.slice A' (N.w.length + qs.length) c').ownBlock ≠ some b := fun b h1 h2 e => by
    rcases hat7 with h3 | h3
    · exact h2 (h3.symm.trans e)
    · rw [h3] at e
      injection e with e
      omega
  have ib : ∀ b, b < w.heap.size → (∀ i, i < N.w.length → (hv h.hs N.w i).ownBlock ≠ some b) → ∀ i, i < (N.w ++ qs).length → (hv (fun i => if i < N.w.length then h.hs i else hs2 (i - N.w.length)) (N.w ++ qs) i).ownBlock ≠ some b := fun b h1 h2 i hi e => by
    rw [hv_app] at e
    by_cases hn : i < N.w.length
    · rw [if_pos hn] at e
      exact h2 i hn e
    · rw [if_neg hn] at e
      have := ((own2.inner (i - N.w.length) (by omega)).lt b e).1
      omega
  have l' := own_same (w' := w7) o.l fun b e => hk b (o.lt b e) (o.lq b e).1
  have c'' := own_same (w' := w7) o.c fun b e => hk b (o.ct b e) (o.cq b e).1
  refine ⟨?_, fun b hb f => ?_⟩
  · exact {
      q := by show OwnQ w7 lo w7.heap.size (.slice A' (N.w ++ qs).length c') _ _; rw [hlen]; exact q7
      l := l'
      c := c''
      lt := fun b e => (l'.lt b e).2
      ct := fun b e => (c''.lt b e).2
      lq := fun b e => ⟨by show (Value.slice A' (N.w ++ qs).length c').ownBlock ≠ _; rw [hlen]; exact gb b (o.lt b e) (o.lq b e).1, ib b (o.lt b e) (o.lq b e).2⟩
      cq := fun b e => ⟨by show (Value.slice A' (N.w ++ qs).length c').ownBlock ≠ _; rw [hlen]; exact gb b (o.ct b e) (o.cq b e).1, ib b (o.ct b e) (o.cq b e).2⟩
      lc := o.lc }
  · exact ⟨by show (Value.slice A' (N.w ++ qs).length c').ownBlock ≠ _; rw [hlen]; exact gb b hb f.a, ib b hb f.i, f.l, f.c⟩
/-- Many wires more. -/
theorem PlSt.pushWs {wb w0 wr u u' : World} {sx : Nat} {hT h : NH} {T M : Nt} {A2 A' : Option Addr} {c2 c' : Nat} {hs2 : Nat → Option Addr × Nat} {qs : List (List Int)} (p : PlSt wb w0 wr sx hT T h M) (hb : Below wr.heap.size wr u)
    (own2 : OwnQ u wr.heap.size u.heap.size (.slice A2 qs.length c2) hs2 qs)
    (hown7 : u'.ownsRow wb.heap.size 24 1 (.slice A' (M.w.length + qs.length) c') (M.w.length + qs.length) (rowV h.hs M.w ++ rowV hs2 qs)) (hgrow7 : u.grownBy u' (Value.slice h.A M.w.length h.c).ownBlock)
    (hat7 : (Value.slice A' (M.w.length + qs.length) c').ownBlock = (Value.slice h.A M.w.length h.c).ownBlock ∨ (Value.slice A' (M.w.length + qs.length) c').ownBlock = some u.heap.size) :
    PlSt wb w0 (u'.setCell ⟨sx, 0, none⟩ (.slice A' (M.w ++ qs).length c')) sx hT T ⟨A', c', fun i => if i < M.w.length then h.hs i else hs2 (i - M.w.length), h.L, h.d, h.C, h.e⟩ ⟨M.w ++ qs, M.l, M.c⟩ := by
  obtain ⟨o5, f5⟩ := p.own.pushWs p.bel.size hb own2 hown7 hgrow7 hat7
  have hsb : ∀ b, b < w0.heap.size → FarN hT T b → FarN ⟨A', c', fun i => if i < M.w.length then h.hs i else hs2 (i - M.w.length), h.L, h.d, h.C, h.e⟩ ⟨M.w ++ qs, M.l, M.c⟩ b := fun b h1 h2 => f5 b (Nat.lt_of_lt_of_le h1 p.size) (p.far b h1 h2)
  have hk : ∀ b, b < w0.heap.size → FarN hT T b → u'.heap[b]? = wr.heap[b]? := fun b h1 h2 => (hgrow7.block b (Nat.lt_of_lt_of_le h1 (Nat.le_trans p.size hb.size)) (fun e2 => (p.far b h1 h2).a e2.symm)).trans (hb.block b (Nat.lt_of_lt_of_le h1 p.size))
  have hB : Below wb.heap.size wb u' := (p.bel.trans (hb.mono p.bel.size)).grown hgrow7 (Nat.le_trans p.bel.size hb.size) (fun q hq => (p.own.q.outer.lt q hq).1)
  have es : (u'.setCell ⟨sx, 0, none⟩ (.slice A' (M.w ++ qs).length c')).heap.size = u'.heap.size := by simp
  exact {
    own := by
      have := o5.farSet (hsb sx p.sxl p.sxf) 0 (.slice A' (M.w ++ qs).length c')
      rw [es]; exact this
    far := hsb
    keep := fun b h1 h2 h3 => (Below.heap_setCell _ _ _ _ (by show b ≠ sx; exact h3)).trans ((hk b h1 h2).trans (p.keep b h1 h2 h3))
    box := set0_at ((hk sx p.sxl p.sxf).trans p.box) _
    bel := hB.setCell (p := ⟨sx, 0, none⟩) p.sxb _
    size := by rw [es]; exact Nat.le_trans p.size (Nat.le_trans hb.size hgrow7.size)
    sxl := p.sxl
    sxf := p.sxf
    sxb := p.sxb }
/-- What the model's union holds where ways meet: a net in the box of the answer. -/
def LkSu (v1 u3 w0 : World) (bo : Nat) (h2 : NH) (N M : Nt) (wx : World) : Prop := ∃ h', PlSt v1 u3 wx bo h2 N h' M ∧ Below w0.heap.size w0 wx
/-- append of a row, perhaps of none, in a region that draws nothing. -/
theorem wpList_atX {P : Program} {w : World} {ops : Array Oper} {rest : List Oper} {o : Oper} {a : Act} {Q : Exit → Act → World → Prop} (hgd : o.guard = none) (s x : Operand) (t : TypeId)
    (ho : o.op = .call { callee := .builtin .append, args := #[s, x], argTypes := #[t, t] })
    (lo : Nat) (ty : TypeId) (i : TypeInfo) (z : Value) (bytes : Nat) (ht : P.underlying t = some (.slice ty)) (hi : P.info? ty = some i) (hz : i.zero = some z) (h4 : i.size = 1) (h5 : i.bytes = bytes) (h6 : z.cells.size = 1)
    (v : Value) (n : Nat) (xs : List Value) (hs : a.eval s = v) (own : w.ownsRow lo ty 1 v n xs)
    (X : Option Addr) (m c : Nat) (lo2 : Nat) (ys : List Value) (hx : a.eval x = .slice X m c) (own2 : w.ownsRow lo2 ty 1 (.slice X m c) m ys) (h1 : ∀ u ∈ ys, u.oneCell' = true)
    (h8 : n + m ≤ maxLen) (h9 : (n + m) * bytes ≤ 140737488355328) (hlo : lo ≤ w.heap.size)
    (h : ∀ v' w', w'.ownsRow lo ty 1 v' (n + m) (xs ++ ys) → w.grownBy w' v.ownBlock → (v'.ownBlock = v.ownBlock ∨ v'.ownBlock = some w.heap.size) → wpList P ops Q rest (a.put o.dst v') w') :
    wpList P ops Q (o :: rest) a w := by
  refine wpList_plain hgd fun K hK => ?_
  have := step_atX (P := P) (ops := ops) (K := K) (Q := Q) (E := True) hgd s x t ho lo ty i z bytes ht hi hz h4 h5 h6 v n xs hs own X m c lo2 ys hx own2 h1 h8 h9 hlo (fun v' w' h1 h2 h3 => hK _ _ (h v' w' h1 h2 h3))
  rw [if_pos (by simp [Region.wanted, hgd])] at this
  exact this
/-- A row of numbers that is to be appended: nil, or at an address. -/
def PartI (w : World) (B : Nat) (v : Value) (zs : List Int) : Prop :=
  (v = .slice none 0 0 ∧ zs = []) ∨ ∃ ad c, v = .slice (some ad) zs.length c ∧ RdI w B (some ad) zs.length zs
theorem PartI.below {w w' : World} {B : Nat} {v : Value} {zs : List Int} (h : PartI w B v zs) (hb : Below B w w') : PartI w' B v zs := by
  rcases h with h | ⟨ad, c, hv, hn⟩
  · exact .inl h
  · exact .inr ⟨ad, c, hv, hn.below hb⟩
theorem PartI.more {w : World} {B B' : Nat} {v : Value} {zs : List Int} (h : PartI w B v zs) (hb : B ≤ B') : PartI w B' v zs := by
  rcases h with h | ⟨ad, c, hv, hn⟩
  · exact .inl h
  · exact .inr ⟨ad, c, hv, hn.more hb⟩
theorem PartI.of_own {w : World} {base c : Nat} {A : Option Addr} {zs : List Int} (h : w.ownsRow base 2 1 (.slice A zs.length c) zs.length (zs.map (Value.int .i64))) : PartI w w.heap.size (.slice A zs.length c) zs := by
  have r := RdI.of_own h
  rcases h.2 with ⟨e, e2⟩ | ⟨g, cap, cur, e, _⟩
  · have hl : zs = [] := List.eq_nil_of_length_eq_zero (by injection e)
    subst hl
    exact .inl ⟨e, rfl⟩
  · injection e with e1 e2 e3
    subst e1
    exact .inr ⟨_, c, rfl, r⟩
theorem newsI {w : World} {B : Nat} {ad : Addr} {zs : List Int} (h : RdI w B (some ad) zs.length zs) : ∀ j u, (zs.map (Value.int .i64))[j]? = some u → w.cell? (ad.add j) = some u := by
  by_cases h0 : zs = []
  · subst h0
    intro j u hu
    simp at hu
  · obtain ⟨b, off, e, hb, hc⟩ := h.2 (List.length_pos_iff.2 h0)
    injection e with e
    subst e
    exact part_news hc
theorem catI_none {w : World} {base : Nat} {v : Value} {ls : List (List Int)} {k : Nat} {zs : List Int} (hk : k < ls.length) (hz : ls.getD k [] = zs) (hn : zs = [])
    (hown : w.ownsRow base 2 1 v (catL ls k).length ((catL ls k).map (Value.int .i64))) :
    w.ownsRow base 2 1 v (catL ls (k + 1)).length ((catL ls (k + 1)).map (Value.int .i64)) := by
  have e : catL ls (k + 1) = catL ls k := by rw [catL_step hk, hz, hn, List.append_nil]
  rw [e]; exact hown
def GrewI (w : World) (e : Ending) (w' : World) : Prop :=
  ∃ A c, e = .returned (.slice A 0 c) ∧ w'.ownsRow w.heap.size 2 1 (.slice A 0 c) 0 [] ∧ Below w.heap.size w w'
set_option maxHeartbeats 1000000 in
theorem growI_nil (n : Nat) (w : World) (hm : n ≤ 1000) : Calls Tryz.prog 73 #[.slice none 0 0, .int .i64 n] w (GrewI w) := by
  by_cases hn : n = 0
  · subst hn
    go_enter Tryz.func73, Tryz.ntmps73
    go_wp2_with (fail)
    go_ret
    exact ⟨_, _, rfl, ⟨by simp, .inl ⟨rfl, rfl⟩⟩, Below.refl _ _⟩
  · refine (grow_nil n w (by omega) hm).mono ?_
    rintro e w1 ⟨c1, rfl, hown1, hb1⟩
    exact ⟨_, c1, rfl, hown1, hb1⟩
set_option maxRecDepth 100000 in
set_option maxHeartbeats 2000000 in
theorem concatX_any (g m c : Nat) (vs : List Value) (ls : List (List Int)) (w : World) (hm : ls.length = m) (hmx : m ≤ 1000)
    (hcell : ∀ i, i < m → w.cell? ⟨g, i, none⟩ = some (vs.getD i undef)) (hgB : g < w.heap.size) (hpart : ∀ i, i < m → PartI w w.heap.size (vs.getD i undef) (ls.getD i [])) (htot : ls.flatten.length ≤ 1000) :
    Calls Tryz.prog 44 #[.slice (some ⟨g, 0, none⟩) m c] w (Gives w ls.flatten) := by
  obtain ⟨i0, hi0, hz0, hz1, hz2⟩ := info_parts info_i64
  have HI := Lib.hid hi0; have HZ0 := Lib.hid hz0; have HZ1 := Lib.hid hz1; have HZ2 := Lib.hid hz2
  have HC := Lib.hid hcell; have HP := Lib.hid hpart
  have HM := Lib.hid hm
  have HLE := Lib.hid (catL_le ls)
  have HT := Lib.hid (show (catL ls m).length = ls.flatten.length by rw [← hm, catL_all])
  have HSH : Hid (∀ i, i < m → ∃ A c, vs.getD i undef = .slice A (ls.getD i []).length c) := Lib.hid fun i hi => by
    rcases hpart i hi with ⟨h1, h2⟩ | ⟨ad, c, h1, _⟩
    · exact ⟨none, 0, by rw [h1, h2]; rfl⟩
    · exact ⟨some ad, c, h1⟩
  obtain ⟨T, hT⟩ : ∃ T, ls.flatten.length = T := ⟨_, rfl⟩
  rw [hT] at HT HLE htot
  have HTT := Lib.hid hT
  clear hcell hpart hm hT hi0 hz0 hz1 hz2
  go_enter Tryz.func44, Tryz.ntmps44
  go_wp2
  go_loop [3, 11] (fun v3 v11 => ∃ k : Nat, k ≤ m ∧ v11 = .int .i64 k ∧ v3 = .int .i64 ((catL ls k).length : Nat)) (fun _ v11 => m - (intOf v11).toNat)
  case atStart => exact ⟨0, Nat.zero_le _, rfl, by simp [catL]⟩
  case round =>
    obtain ⟨k, hk, rfl, rfl⟩ := hrel
    by_cases hlt : k < m
    · have hc := HC.out k hlt
      obtain ⟨Ak, ck, hv⟩ := HSH.out k hlt
      rw [hv] at hc
      have hst := catL_len_step (ls := ls) (k := k) (by have := HM.out; omega)
      have h1 := HLE.out k
      have h2 := HLE.out (k + 1)
      have HS := Lib.hid hst
      have hbd : (catL ls k).length + (ls.getD k []).length ≤ 1000 := by omega
      clear hv hst h2
      generalize (ls.getD k []).length = q at hc HS hbd
      generalize (catL ls k).length = p at HS h1 hbd
      have hneg : ¬ ((p : Int) + (q : Int) < 0) := by omega
      go_wp2
      go_round
      case rel => exact ⟨k + 1, by omega, by go_num, by rw [HS.out]; go_num⟩
      case measure => simp [intOf]; omega
    · have hkm : m = k := by omega
      subst hkm
      rw [HT.out]
      go_wp2_with (go_at_call 73; refine (growI_nil T _ htot).mono ?_; rintro e w1 ⟨A1, c1, rfl, hown1, hb1⟩)
      have HO1 := Lib.hid hown1; have HB1 := Lib.hid hb1
      clear hown1 hb1
      go_loopw [6, 27] (fun v i wr => ∃ k : Nat, k ≤ m ∧ i = .int .i64 k ∧ wr.ownsRow w.heap.size 2 1 v (catL ls k).length ((catL ls k).map (Value.int .i64)) ∧ Below w.heap.size w wr) (fun _ i _ => m - (intOf i).toNat)
      case atStart => exact ⟨0, Nat.zero_le _, rfl, by rw [catL_zero]; exact HO1.out, HB1.out⟩
      case round =>
        obtain ⟨k, hk, rfl, hown, hb⟩ := hrel
        by_cases hkm : k < m
        · have hlt : k < ls.length := by have := HM.out; omega
          have hc := (hb.cell (p := ⟨g, k, none⟩) hgB).trans (HC.out k hkm)
          have hsz := hb.size
          obtain ⟨zs, hzs⟩ : ∃ zs, ls.getD k [] = zs := ⟨_, rfl⟩
          rcases (HP.out k hkm).below hb with ⟨hv, hz0⟩ | ⟨ad, ck, hv, hnews⟩
          · rw [hv] at hc
            have hown2 := Lib.hid (catI_none hlt rfl hz0 hown)
            have HB := Lib.hid hb
            have HO := Lib.hid hown
            clear hv hz0 hown hb hzs
            go_wp2_with (at_builtin; refine wpList_append_own_none rfl _ _ 24 rfl w.heap.size 2 i0 1 Tryz.underlying24 HI.out _ _ _ rfl HO.out rfl ?_)
            go_roundw
            case rel => exact ⟨k + 1, by omega, by go_num, hown2.out, HB.out⟩
            case measure => simp [intOf]; omega
          · rw [hzs] at hv hnews
            rw [hv] at hc
            have hst := catL_len_step hlt
            rw [hzs] at hst
            have h2 := HLE.out (k + 1)
            have HZ := Lib.hid hzs
            have HN := Lib.hid (newsI hnews)
            have hbd : (catL ls k).length + zs.length ≤ 1000 := by omega
            clear hv hst h2 hzs hnews
            go_wp2_with (at_builtin; refine wpList_append_own _ rfl _ _ 24 rfl w.heap.size 2 i0 (.int .i64 0) 1 8 Tryz.underlying24 HI.out HZ0.out HZ1.out HZ2.out rfl (by decide) _ _ _ rfl hown ad zs.length ck (zs.map (Value.int .i64)) rfl ?c0 ?c1 ?c2 ?c3 ?c4 ?c5 ?_)
            case c0 => simp
            case c1 => exact HN.out
            case c2 => exact ints_one _
            case c3 => unfold maxLen; omega
            case c4 => omega
            case c5 => exact hsz
            intro v' w2 hown' hgrow _
            have hb2 := Lib.hid (hb.grown hgrow hsz (fun q hq => (hown.lt q hq).1))
            have hown2 := Lib.hid (cat_push hlt HZ.out hown')
            clear hown' hgrow hown hb hc hlt
            go_wp2
            go_roundw
            case rel => exact ⟨k + 1, by omega, by go_num, hown2.out, hb2.out⟩
            case measure => simp [intOf]; omega
        · have hkl : m = k := by omega
          subst hkl
          obtain ⟨A1, c1', rfl⟩ := own_shape hown
          have HG : Hid (Gives w ls.flatten (.returned (.slice A1 (catL ls m).length c1')) wr) := Lib.hid (by
            have e : catL ls m = ls.flatten := by rw [← HM.out, catL_all]
            rw [e] at hown ⊢
            exact ⟨A1, c1', rfl, hown, hb⟩)
          clear hown hb
          go_wp2
          go_ret
          exact HG.out
/-- without, at one position. -/
theorem less_one (r : Nat) : ∀ n, lessU (markL 0 n) (r : Int) (r : Int) n = selU (koX r) n := fun n => by
  have key : ∀ k, k ≤ n → lessU (markL 0 n) (r : Int) (r : Int) k = selU (koX r) k := fun k => by
    induction k with
    | zero => intro _; rfl
    | succ k ih =>
      intro hk
      have hg : (markL 0 n).getD k 0 = (k : Int) := by
        have : k < n := by omega
        simp [markL, List.getD, this]
      by_cases e : k = r
      · rw [lessU_no (by rw [e]; simp), selU_no (by simp [koX, e]), ih (by omega)]
      · rw [lessU_yes (by simp; omega), selU_yes (by simp [koX, e]), ih (by omega), hg]
  exact key n (Nat.le_refl _)
theorem sortI_any (g c lo : Nat) (xs : List Int) (w : World) (own : w.ownsRow lo 2 1 (.slice (some ⟨g, 0, none⟩) xs.length c) xs.length (xs.map (Value.int .i64))) (h0 : 0 < xs.length) (hn : xs.length ≤ 1048576) :
    Calls Tryz.prog 93 #[.slice (some ⟨g, 0, none⟩) xs.length c] w fun e w' => e = .returned (.tuple #[]) ∧ w'.ownsRow lo 2 1 (.slice (some ⟨g, 0, none⟩) xs.length c) xs.length ((srtI xs).map (Value.int .i64)) ∧ Below lo w w' := by
  have hg := own.lt g rfl
  have hH : Holds (Value.int .i64) w g 0 xs.toArray := fun j hj => by
    have hj' : j < xs.length := by simpa using hj
    have h1 := own.frozenAt j
    have h2 := own.cellAt j (by omega)
    rw [Nat.zero_add]
    refine ⟨?_, h1⟩
    rw [h2]
    simp [getElem!_pos, hj']
  have hC := AnyM.slices_Sort_int Tryz.sortI g 0 c xs w hH hg.2 (by omega)
  refine (show Calls Tryz.prog 93 _ _ _ from hC).mono ?_
  rintro e w' ⟨he, m, os, rfl⟩
  refine ⟨he, ?_⟩
  have hlen : (srtI xs).length = xs.length := (srtI_perm xs).length_eq
  have ho := ownsRow_putRow (q := m) (k := xs.length) (ys := srtI xs) own hlen (Nat.le_refl _)
  rw [List.take_of_length_le (by omega)] at ho
  have hgl : (putRow (Value.int .i64) (Sort.ahead w m) g 0 (srtI xs).toArray).heap.size = w.heap.size := by simp [putRow, mapBlock, Sort.ahead]
  have hkeep : ∀ k, k ≠ g → k < w.heap.size → (grow (putRow (Value.int .i64) (Sort.ahead w m) g 0 (srtI xs).toArray) os).heap[k]? = w.heap[k]? := by
    intro k hk hkl
    rw [heap_grow_old _ _ (by simp [putRow, mapBlock, Sort.ahead]; exact hkl)]
    have hk' : ¬ g = k := fun e => hk e.symm
    simp [putRow, mapBlock, Sort.ahead, Array.getElem?_modify, hk']
  refine ⟨?_, ⟨rfl, rfl, rfl, ?_, fun k hk => hkeep k (by omega) (by omega)⟩⟩
  · exact own_same ho fun k e => by
      obtain rfl : g = k := by simpa [Value.ownBlock] using e
      exact heap_grow_old _ _ (Nat.lt_of_lt_of_eq hg.2 hgl.symm)
  · show w.heap.size ≤ (grow _ os).heap.size
    rw [size_grow]
    simp [putRow, mapBlock, Sort.ahead]
set_option maxHeartbeats 600000 in
theorem indexP_any (A : Option Addr) (n c : Nat) (L : List Int) (x : Int) (w : World) (h : RdI w w.heap.size A n L) (hn : n ≤ 1048576) :
    Calls Tryz.prog 59 #[.slice A n c, .int .i64 x] w fun e w' => e = .returned (.int .i64 (posI L x)) ∧ w' = w := by
  have hl := h.len
  subst hl
  have H := Lib.hid h
  clear h
  go_enter Tryz.func59, Tryz.ntmps59
  go_wp2
  go_loopw [8] (fun i wr => ∃ k : Nat, k ≤ L.length ∧ i = .int .i64 k ∧ (∀ j, j < k → L.getD j 0 ≠ x) ∧ wr = w) (fun i _ => L.length - (intOf i).toNat)
  case atStart => exact ⟨0, Nat.zero_le _, rfl, fun j hj => absurd hj (by omega), rfl⟩
  case round =>
    obtain ⟨k, hk, rfl, hno, rfl⟩ := hrel
    by_cases hlt : k < L.length
    · obtain ⟨b, off, rfl, hbb, hcells⟩ := H.out.2 (by omega)
      have x0 := hcells k hlt
      have HNO := Lib.hid hno
      by_cases he : L.getD k 0 = x
      · have HE : Hid ((k : Int) = posI L x) := Lib.hid (by
          have hm : x ∈ L := by rw [← he]; exact getL_mem hlt
          unfold posI
          rw [if_pos hm]
          have h1 : L.idxOf x ≤ k := by
            refine Decidable.byContradiction fun e => ?_
            have h2 := List.not_of_lt_findIdx (p := fun y => y == x) (xs := L) (i := k) (show k < L.findIdx (fun y => y == x) by unfold List.idxOf at e; omega)
            simp only [List.getD, List.getElem?_eq_getElem hlt, Option.getD_some] at he
            rw [he] at h2
            simp at h2
          have h3 : ¬ L.idxOf x < k := fun e => by
            have h4 := HNO.out _ e
            have h5 : L.idxOf x < L.length := by omega
            simp only [List.getD, List.getElem?_eq_getElem h5, Option.getD_some] at h4
            exact h4 (List.getElem_idxOf h5)
          omega)
        rw [he] at x0
        have hd : (x == x) = true := by simp
        clear hcells he hno
        go_wp2
        go_ret
        exact ⟨ret_i64 HE.out, rfl⟩
      · have hd : (x == L.getD k 0) = false := by simp; exact fun e => he e.symm
        have hd' : (L.getD k 0 == x) = false := by simp; exact he
        have HS : Hid (∀ j, j < k + 1 → L.getD j 0 ≠ x) := Lib.hid fun j hj => by
          by_cases e : j < k
          · exact HNO.out j e
          · obtain rfl : j = k := by omega
            exact he
        clear hcells he hno
        generalize L.getD k 0 = z at *
        go_wp2
        go_roundw
        case rel => exact ⟨k + 1, by omega, by go_num, HS.out, by first | rfl | trivial⟩
        case measure => simp [intOf]; omega
    · have hkl : k = L.length := by omega
      subst hkl
      have HE : Hid ((-1 : Int) = posI L x) := Lib.hid (by
        unfold posI
        rw [if_neg]
        intro hm
        obtain ⟨j, hj, e⟩ := List.getElem_of_mem hm
        exact hno j hj (by simp [List.getD, hj, e]))
      clear hno
      go_wp2
      go_ret
      exact ⟨ret_i64 HE.out, rfl⟩
theorem posOf_any (A : Option Addr) (n c : Nat) (L : List Int) (x : Int) (w : World) (h : RdI w w.heap.size A n L) (hn : n ≤ 1048576) :
    Calls Tryz.prog 43 #[.slice A n c, .int .i64 x] w fun e w' => e = .returned (.int .i64 (posI L x)) ∧ w = w' := by
  have HI := Lib.hid (indexP_any A n c L x w h hn)
  have hl := h.len
  have hw : IntKind.i64.wrap (posI L x) = posI L x := IntWalk.i64_in _ (by
    have := List.idxOf_le_length (a := x) (l := L)
    unfold posI
    split <;> omega)
  clear h
  generalize posI L x = p at *
  go_enter Tryz.func43, Tryz.ntmps43
  go_wp2_with (fail)
  refine HI.out.mono ?_
  rintro e w1 ⟨rfl, rfl⟩
  go_wp2
  go_ret
  exact ⟨rfl, rfl⟩
set_option maxRecDepth 100000 in
set_option maxHeartbeats 600000 in
theorem outputsOfLinks_any (h : NH) (N : Nt) (K : Nat → Bool) (A : Option Addr) (c : Nat) (w : World) (hv : valN N = true) (rN : RdN w w.heap.size h N) (r : RdI w w.heap.size A (selU K N.l.length).length (selU K N.l.length)) (hne : 0 < (kpW N K N.w.length).length) :
    Calls Tryz.prog 67 #[.agg #[.slice h.A N.w.length h.c, .slice h.L N.l.length h.d, .slice h.C N.c.length h.e], .slice A (selU K N.l.length).length c] w (Gives w (kpW N K N.w.length)) := by
  obtain ⟨h48, h48l⟩ := valN_size hv
  obtain ⟨i0, hi0, hz0, hz1, hz2⟩ := info_parts info_i64
  have HI := Lib.hid hi0; have HZ0 := Lib.hid hz0; have HZ1 := Lib.hid hz1; have HZ2 := Lib.hid hz2
  obtain ⟨w0, hw0⟩ : ∃ w0, w0 = w.alloc (.cells #[.slice h.A N.w.length h.c, .slice h.L N.l.length h.d, .slice h.C N.c.length h.e] 30) := ⟨_, rfl⟩
  obtain ⟨hb, hh, hsz⟩ := box3_any w (.slice h.A N.w.length h.c) (.slice h.L N.l.length h.d) (.slice h.C N.c.length h.e) 30
  rw [← hw0] at hb hh hsz
  have HKB := Lib.hid (fun (wx : World) (hw : Below w0.heap.size w0 wx) => three_cells ((hw.block w.heap.size (by omega)).trans hh))
  have HRL := Lib.hid (fun (wx : World) (hx : Below w0.heap.size w0 wx) => show RdL wx w.heap.size h.L N.l.length N.l from rN.2.1.below (hb.trans (hx.mono hb.size)))
  have HRK := Lib.hid (fun (wx : World) (hx : Below w0.heap.size w0 wx) => show RdI wx w.heap.size A (selU K N.l.length).length (selU K N.l.length) from r.below (hb.trans (hx.mono hb.size)))
  have HB0 := Lib.hid hb
  have HIN : Hid (∀ k, k < (selU K N.l.length).length → inW N.l.length ((selU K N.l.length).getD k 0) = true) := Lib.hid fun k hk => by
    obtain ⟨j, h1, _, e⟩ := selU_mem.1 (getL_mem (d := (0 : Int)) hk)
    rw [e]; exact decide_eq_true (by omega)
  have HSO := Lib.hid (out_sort hv K)
  have hkl := selU_len K N.l.length
  have HLE : Hid ((outU N (selU K N.l.length) (selU K N.l.length).length).length = (kpW N K N.w.length).length) := Lib.hid (by rw [← HSO.out, (srtI_perm _).length_eq])
  clear hb hh hsz rN r
  generalize selU K N.l.length = ks at *
  generalize kpW N K N.w.length = KW at *
  go_enter Tryz.func67, Tryz.ntmps67
  go_upto_region 1 with (fail)
  rw [← hw0]
  clear hw0
  go_wp2
  go_loopw [5, 10] (fun v i wx => ∃ k : Nat, k ≤ ks.length ∧ i = .int .i64 k ∧ wx.ownsRow w0.heap.size 2 1 v (outU N ks k).length ((outU N ks k).map (Value.int .i64)) ∧ Below w0.heap.size w0 wx) (fun _ i _ => ks.length - (intOf i).toNat)
  case atStart => exact ⟨0, Nat.zero_le _, rfl, World.ownsRow_nil _ _ _ _, Below.refl _ _⟩
  case round =>
    obtain ⟨k, hk, rfl, hO, hB⟩ := hrel
    by_cases hlt : k < ks.length
    · obtain ⟨b, off, hAe, hbb, hcells⟩ := (HRK.out wr hB).2 (by omega)
      have x0 := hcells k hlt
      have hin := HIN.out k hlt
      have HSU := Lib.hid (outU_succ (N := N) hlt)
      obtain ⟨_, hj1, hj2⟩ := inW_yes hin
      obtain ⟨b2, off2, hLe, hbb2, hcells2⟩ := (HRL.out wr hB).at (by omega)
      generalize (ks.getD k 0).toNat = j at *
      rw [hj2] at x0
      obtain ⟨l0, l1, l2, l3⟩ := hcells2 j hj1
      obtain ⟨y0, y1, y2⟩ := HKB.out wr hB
      have HOF := Lib.hid (outputsOf_any (N.l.getD j Lk.nil) wr)
      have hol := outL_len (N.l.getD j Lk.nil)
      have hou := outU_len N ks k
      generalize N.l.getD j Lk.nil = l at *
      obtain ⟨lk, la, lb, lc⟩ := l
      dsimp only at l0 l1 l2 l3 HOF
      have hji : (j : Int) < (N.l.length : Int) := by omega
      have HO := Lib.hid hO; have HB := Lib.hid hB
      have hsz := hB.size
      rw [hLe] at y1
      clear hcells hcells2 hin hO hB hj2 hLe
      subst hAe
      generalize outL ⟨lk, la, lb, lc⟩ = X at *
      go_wp2_with (fail)
      refine HOF.out.mono ?_
      rintro e w2 ⟨A2, c2, rfl, own2, bel2⟩
      have O2 := Lib.hid own2
      have HOW := Lib.hid (own_below HO.out bel2 (Nat.le_refl _))
      have HB2 := Lib.hid (HB.out.trans (bel2.mono hsz))
      have hs2 := bel2.size
      clear own2 bel2 x0 l0 l1 l2 l3 y0 y1 y2 HOF
      go_wp2_with (at_builtin; refine wpList_atX rfl _ _ 24 rfl w0.heap.size 2 i0 (.int .i64 0) 8 Tryz.underlying24 HI.out HZ0.out HZ1.out HZ2.out rfl _ _ _ rfl HOW.out A2 X.length c2 wr.heap.size _ rfl O2.out ?c1 ?c2 ?c3 ?c4 ?_)
      case c1 => intro u hu; obtain ⟨z, _, rfl⟩ := List.mem_map.1 hu; rfl
      case c2 => unfold maxLen; omega
      case c3 => omega
      case c4 => omega
      intro v' w3 hown' hgrow _
      have HB3 := Lib.hid (HB2.out.grown hgrow (by omega) (fun q hq => (HOW.out.lt q hq).1))
      have hown2 : w3.ownsRow w0.heap.size 2 1 v' (outU N ks (k + 1)).length ((outU N ks (k + 1)).map (Value.int .i64)) := by
        rw [HSU.out, List.length_append, List.map_append]; exact hown'
      have HO3 := Lib.hid hown2
      clear hown' hgrow hown2 hsz hs2
      go_wp2
      go_roundw
      case rel => exact ⟨k + 1, by omega, by go_num, HO3.out, HB3.out⟩
      case measure => simp [intOf]; omega
    · have hkk : k = ks.length := by omega
      subst hkk
      obtain ⟨A4, c4, rfl⟩ := own_shape hO
      have hlen := HLE.out
      obtain ⟨g, cap, hv', hlo, hhi⟩ := hO.form (by omega)
      have hA : A4 = some ⟨g, 0, none⟩ := by injection hv' with a b c
      subst hA
      have hou := outU_len N ks ks.length
      have HS := Lib.hid (sortI_any g c4 w0.heap.size (outU N ks ks.length) wr hO (by omega) (by omega))
      rw [HSO.out] at HS
      have HB := Lib.hid hB
      have HLL := Lib.hid hlen
      clear hO hB hv' hlo hhi hlen
      generalize outU N ks ks.length = X at *
      go_wp2_with (fail)
      refine HS.out.mono ?_
      rintro e w5 ⟨rfl, own5, bel5⟩
      have HG : Hid (Gives w KW (.returned (.slice (some ⟨g, 0, none⟩) X.length c4)) w5) := Lib.hid (by
        rw [HLL.out] at own5 ⊢
        exact ⟨_, c4, rfl, own5.mono HB0.out.size, HB0.out.trans ((HB.out.trans bel5).mono HB0.out.size)⟩)
      clear own5 bel5
      go_wp2
      go_ret
      exact HG.out
end Go.Proofs.YtgpocnapkflihaaGreatDoor
