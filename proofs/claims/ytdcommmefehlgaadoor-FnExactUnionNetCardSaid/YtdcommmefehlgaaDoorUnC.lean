/- Rows of rows put one behind the other; a net in a box that gets many wires. -/
import Derived.Test.YtdcommmefehlgaaDoorQPgL
import Derived.Test.YtdcommmefehlgaaDoorQNetO
import Derived.Maps.AppendAt
namespace Go.Proofs.YtdcommmefehlgaaDoor
set_option linter.unusedSimpArgs false
set_option linter.unusedVariables false
open Go.ChangeAt Go.ChangeShapes Go.RowKit Go.WideShapes

theorem rowV_app (hs hs2 : Nat → Option Addr × Nat) (qs rs : List (List Int)) : rowV (fun i => if i < qs.length then hs i else hs2 (i - qs.length)) (qs ++ rs) = rowV hs qs ++ rowV hs2 rs := by
  apply List.ext_getElem?
  intro i
  by_cases h1 : i < qs.length
  · rw [rowV_at (by simp; omega), List.getElem?_append_left (by rw [rowV_len]; exact h1), rowV_at h1]
    simp [hv, h1, List.getD, List.getElem?_append_left]
  · by_cases h2 : i < (qs ++ rs).length
    · rw [rowV_at h2, List.getElem?_append_right (by rw [rowV_len]; omega), rowV_len, rowV_at (by simp at h2; omega)]
      simp [hv, h1, List.getD, List.getElem?_append_right (Nat.le_of_not_lt h1)]
    · rw [List.getElem?_eq_none (by rw [rowV_len]; omega), List.getElem?_eq_none (by simp [rowV_len] at h2 ⊢; omega)]
theorem hv_app (hs hs2 : Nat → Option Addr × Nat) (qs rs : List (List Int)) (i : Nat) : hv (fun i => if i < qs.length then hs i else hs2 (i - qs.length)) (qs ++ rs) i = if i < qs.length then hv hs qs i else hv hs2 rs (i - qs.length) := by
  by_cases h1 : i < qs.length
  · simp [hv, h1, List.getD, List.getElem?_append_left]
  · simp [hv, h1, List.getD, List.getElem?_append_right (Nat.le_of_not_lt h1)]
theorem getD_app (qs rs : List (List Int)) (i : Nat) : (qs ++ rs).getD i [] = if i < qs.length then qs.getD i [] else rs.getD (i - qs.length) [] := by
  by_cases h1 : i < qs.length
  · simp [h1, List.getD, List.getElem?_append_left]
  · simp [h1, List.getD, List.getElem?_append_right (Nat.le_of_not_lt h1)]
theorem OwnQ.concat {w w' : World} {lo hi hi' : Nat} {v v' : Value} {hs hs2 : Nat → Option Addr × Nat} {qs rs : List (List Int)} (h : OwnQ w lo hi v hs qs)
    (hin : ∀ i, i < rs.length → w.ownsRow lo 2 1 (hv hs2 rs i) (rs.getD i []).length ((rs.getD i []).map (Value.int .i64))) (hge : ∀ i k, i < rs.length → (hv hs2 rs i).ownBlock = some k → hi ≤ k)
    (hap : ∀ i j, i < rs.length → j < rs.length → i ≠ j → (hv hs2 rs i).ownBlock = none ∨ (hv hs2 rs i).ownBlock ≠ (hv hs2 rs j).ownBlock)
    (ho : w'.ownsRow lo 24 1 v' (qs.length + rs.length) (rowV hs qs ++ rowV hs2 rs)) (hg : w.grownBy w' v.ownBlock) (hv' : ∀ b, v'.ownBlock = some b → v.ownBlock = some b ∨ w.heap.size ≤ b) (h2 : w'.heap.size ≤ hi') :
    OwnQ w' lo hi' v' (fun i => if i < qs.length then hs i else hs2 (i - qs.length)) (qs ++ rs) := by
  have hs' := hg.size
  have hblk : ∀ i k, i < (qs ++ rs).length → (hv (fun i => if i < qs.length then hs i else hs2 (i - qs.length)) (qs ++ rs) i).ownBlock = some k → k < w.heap.size ∧ v.ownBlock ≠ some k ∧ (i < qs.length → k < hi) ∧ (¬ i < qs.length → hi ≤ k) := by
    intro i k hi e
    rw [hv_app] at e
    by_cases h1 : i < qs.length
    · rw [if_pos h1] at e
      refine ⟨h.lt h1 e, fun e2 => ?_, fun _ => h.top i k h1 e, fun h => absurd h1 h⟩
      rcases h.apart0 i h1 with h0 | h0
      · rw [h0] at e; cases e
      · exact h0 (e.trans e2.symm)
    · rw [if_neg h1] at e
      have hi2 : i - qs.length < rs.length := by simp at hi; omega
      have hk := hge _ k hi2 e
      exact ⟨((hin _ hi2).lt k e).2, fun e2 => by have := h.top0 k e2; omega, fun h => absurd h h1, fun _ => hk⟩
  refine ⟨by rw [rowV_app, List.length_append]; exact ho, fun i hi => ?_, fun i j hi hj hij => ?_, fun i hi => ?_, fun k e => Nat.lt_of_lt_of_le (ho.lt k e).2 h2, fun i k hi e => ?_⟩
  · have hb := hblk i
    rw [getD_app]
    have hne : (hv (fun i => if i < qs.length then hs i else hs2 (i - qs.length)) (qs ++ rs) i).ownBlock = none ∨ (hv (fun i => if i < qs.length then hs i else hs2 (i - qs.length)) (qs ++ rs) i).ownBlock ≠ v.ownBlock := by
      cases hq : (hv (fun i => if i < qs.length then hs i else hs2 (i - qs.length)) (qs ++ rs) i).ownBlock with
      | none => exact .inl rfl
      | some k => exact .inr (fun e => (hb k hi hq).2.1 e.symm)
    rw [hv_app] at hne ⊢
    by_cases h1 : i < qs.length
    · rw [if_pos h1] at hne ⊢
      rw [if_pos h1]
      exact (h.inner i h1).kept hg hne
    · rw [if_neg h1] at hne ⊢
      rw [if_neg h1]
      exact (hin _ (by simp at hi; omega)).kept hg hne
  · cases hq : (hv (fun i => if i < qs.length then hs i else hs2 (i - qs.length)) (qs ++ rs) i).ownBlock with
    | none => exact .inl rfl
    | some k =>
      right
      intro e
      have a1 := hblk i k hi hq
      have a2 := hblk j k hj e.symm
      rw [hv_app] at hq e
      by_cases h1 : i < qs.length
      · by_cases h3 : j < qs.length
        · rw [if_pos h1] at hq
          rw [if_pos h3] at e
          rcases h.apart i j h1 h3 hij with h0 | h0
          · rw [h0] at hq; cases hq
          · exact h0 (hq.trans e)
        · have := a1.2.2.1 h1; have := a2.2.2.2 h3; omega
      · by_cases h3 : j < qs.length
        · have := a1.2.2.2 h1; have := a2.2.2.1 h3; omega
        · rw [if_neg h1] at hq
          rw [if_neg h3] at e
          rcases hap (i - qs.length) (j - qs.length) (by simp at hi; omega) (by simp at hj; omega) (by omega) with h0 | h0
          · rw [h0] at hq; cases hq
          · exact h0 (hq.trans e)
  · cases hq : (hv (fun i => if i < qs.length then hs i else hs2 (i - qs.length)) (qs ++ rs) i).ownBlock with
    | none => exact .inl rfl
    | some k =>
      right
      intro e
      have a1 := hblk i k hi hq
      rcases hv' k e.symm with h0 | h0
      · exact a1.2.1 h0
      · omega
  · have a1 := hblk i k hi e
    omega

theorem own_shape1 {w : World} {base n : Nat} {e : TypeId} {v : Value} {xs : List Value} (h : w.ownsRow base e 1 v n xs) : ∃ A c, v = .slice A n c ∧ n ≤ c := by
  rcases h.2 with ⟨rfl, rfl⟩ | ⟨g, cap, cur, rfl, _, _, hn, _⟩
  · exact ⟨_, _, rfl, Nat.le_refl _⟩
  · exact ⟨_, _, rfl, hn⟩
theorem run_append_zero {P : Program} (w : World) (t ty e : TypeId) (i : TypeInfo) (ht : P.underlying t = some (.slice e)) (hi : P.info? e = some i) (A : Option Addr) (n c d : Nat) (hnc : n ≤ c) :
    (Builtin.append_ #[t, t] ty #[.slice A n c, .slice none 0 d]).run P w = .ok (.slice A n c) w := by
  cases A <;> simp [Builtin.append_, run_underlying ht, sizeOf, typeInfo, hi, Builtin.lenOf, Builtin.firstCells, hnc, storeCells]
/-- append of a row, perhaps of none. -/
theorem step_atX {P : Program} {w : World} {ops : Array Oper} {o : Oper} {a : Act} {K : Act → World → Prop} {Q : Exit → Act → World → Prop} {E : Prop} (hgd : o.guard = none) (s x : Operand) (t : TypeId)
    (ho : o.op = .call { callee := .builtin .append, args := #[s, x], argTypes := #[t, t] })
    (lo : Nat) (ty : TypeId) (i : TypeInfo) (z : Value) (bytes : Nat) (ht : P.underlying t = some (.slice ty)) (hi : P.info? ty = some i) (hz : i.zero = some z) (h4 : i.size = 1) (h5 : i.bytes = bytes) (h6 : z.cells.size = 1)
    (v : Value) (n : Nat) (xs : List Value) (hs : a.eval s = v) (own : w.ownsRow lo ty 1 v n xs)
    (X : Option Addr) (m c : Nat) (lo2 : Nat) (ys : List Value) (hx : a.eval x = .slice X m c) (own2 : w.ownsRow lo2 ty 1 (.slice X m c) m ys) (h1 : ∀ u ∈ ys, u.oneCell' = true)
    (h8 : n + m ≤ maxLen) (h9 : (n + m) * bytes ≤ 140737488355328) (hlo : lo ≤ w.heap.size)
    (h : ∀ v' w', w'.ownsRow lo ty 1 v' (n + m) (xs ++ ys) → w.grownBy w' v.ownBlock → (v'.ownBlock = v.ownBlock ∨ v'.ownBlock = some w.heap.size) → K (a.put o.dst v') w') :
    if Region.wanted o (yielded ops a.tmps) = true then Oper.wp P o a w K Q else E := by
  cases hX : X with
  | some ad =>
    subst hX
    have hA : ys.length = m * 1 := own2.1
    refine step_at hgd s x t ho lo ty i z 1 bytes ht hi hz h4 h5 h6 (by omega) v n xs hs own ad m c ys hx (by omega) ?_ h1 h8 h9 hlo h
    intro j u hu
    obtain ⟨g, cap, hv, _⟩ := own2.form (by have := (List.getElem?_eq_some_iff.1 hu).1; omega)
    injection hv with e1 e2 e3
    injection e1 with e1
    subst e1
    exact own2.cells rfl j u hu
  | none =>
    subst hX
    obtain ⟨rfl, rfl⟩ : m = 0 ∧ ys = [] := by
      rcases own2.2 with ⟨h3, h4⟩ | ⟨g, cap, cur, h3, _⟩
      · subst h4
        exact ⟨rfl, List.eq_nil_of_length_eq_zero (by have := own2.1; omega)⟩
      · cases h3
    obtain ⟨A, d, rfl, hnc⟩ := own_shape1 own
    rw [if_pos (show Region.wanted o (yielded ops a.tmps) = true by simp [Region.wanted, hgd])]
    unfold Oper.wp execOp
    simp only [ho, resolve, invoke, builtin, Sem.run_bind, Sem.run_pure, Result.andThen_ok, List.map_toArray, List.map_cons, List.map_nil, hs, hx, run_append_zero w t o.type ty i ht hi A n d c hnc]
    exact h _ _ (by simpa using own) ⟨rfl, rfl, rfl, Nat.le_refl _, fun _ _ _ => rfl⟩ (.inl rfl)
theorem OwnN.pushWs {w w6 w7 : World} {lo : Nat} {h : NH} {N : Nt} {A2 A' : Option Addr} {c2 c' : Nat} {hs2 : Nat → Option Addr × Nat} {qs : List (List Int)} (o : OwnN w lo w.heap.size h N) (hlo : lo ≤ w.heap.size) (bel6 : Below w.heap.size w w6)
    (own2 : OwnQ w6 w.heap.size w6.heap.size (.slice A2 qs.length c2) hs2 qs)
    (hown7 : w7.ownsRow lo 24 1 (.slice A' (N.w.length + qs.length) c') (N.w.length + qs.length) (rowV h.hs N.w ++ rowV hs2 qs)) (hgrow7 : w6.grownBy w7 (Value.slice h.A N.w.length h.c).ownBlock)
    (hat7 : (Value.slice A' (N.w.length + qs.length) c').ownBlock = (Value.slice h.A N.w.length h.c).ownBlock ∨ (Value.slice A' (N.w.length + qs.length) c').ownBlock = some w6.heap.size) :
    OwnN w7 lo w7.heap.size ⟨A', c', fun i => if i < N.w.length then h.hs i else hs2 (i - N.w.length), h.L, h.d, h.C, h.e⟩ ⟨N.w ++ qs, N.l, N.c⟩ ∧ ∀ b, b < w.heap.size → FarN h N b → FarN ⟨A', c', fun i => if i < N.w.length then h.hs i else hs2 (i - N.w.length), h.L, h.d, h.C, h.e⟩ ⟨N.w ++ qs, N.l, N.c⟩ b := by
  have s6 := bel6.size
  have s7 := hgrow7.size
  have hlen : (N.w ++ qs).length = N.w.length + qs.length := by simp
  have q7 := OwnQ.concat (hs2 := hs2) (rs := qs) (hi' := w7.heap.size) (o.q.below bel6) (fun i hi => (own2.inner i hi).mono hlo) (fun i k hi e => ((own2.inner i hi).lt k e).1) (fun i j hi hj hij => own2.apart i j hi hj hij) hown7 hgrow7
    (fun b e => by
      rcases hat7 with h | h
      · exact .inl (h.symm.trans e)
      · rw [h] at e
        injection e with e
        exact .inr (by omega)) (Nat.le_refl _)
  have hk : ∀ b, b < w.heap.size → (Value.slice h.A N.w.length h.c).ownBlock ≠ some b → w7.heap[b]? = w.heap[b]? := fun b h1 h2 =>
    (hgrow7.block b (by omega) (fun e => h2 e.symm)).trans (bel6.block b h1)
  have gb : ∀ b, b < w.heap.size → (Value.slice h.A N.w.length h.c).ownBlock ≠ some b → (Value.slice A' (N.w.length + qs.length) c').ownBlock ≠ some b := fun b h1 h2 e => by
    rcases hat7 with h3 | h3
    · exact h2 (h3.symm.trans e)
    · rw [h3] at e
      injection e with e
      omega
  have ib : ∀ b, b < w.heap.size → (∀ i, i < N.w.length → (hv h.hs N.w i).ownBlock ≠ some b) → ∀ i, i < (N.w ++ qs).length → (hv (fun i => if i < N.w.length then h.hs i else hs2 (i - N.w.length)) (N.w ++ qs) i).ownBlock ≠ some b := fun b h1 h2 i hi e => by
    rw [hv_app] at e
    by_cases hn : i < N.w.length
    · rw [if_pos hn] at e
      exact h2 i hn e
    · rw [if_neg hn] at e
      have := ((own2.inner (i - N.w.length) (by omega)).lt b e).1
      omega
  have l' := own_same (w' := w7) o.l fun b e => hk b (o.lt b e) (o.lq b e).1
  have c'' := own_same (w' := w7) o.c fun b e => hk b (o.ct b e) (o.cq b e).1
  refine ⟨?_, fun b hb f => ?_⟩
  · exact {
      q := by show OwnQ w7 lo w7.heap.size (.slice A' (N.w ++ qs).length c') _ _; rw [hlen]; exact q7
      l := l'
      c := c''
      lt := fun b e => (l'.lt b e).2
      ct := fun b e => (c''.lt b e).2
      lq := fun b e => ⟨by show (Value.slice A' (N.w ++ qs).length c').ownBlock ≠ _; rw [hlen]; exact gb b (o.lt b e) (o.lq b e).1, ib b (o.lt b e) (o.lq b e).2⟩
      cq := fun b e => ⟨by show (Value.slice A' (N.w ++ qs).length c').ownBlock ≠ _; rw [hlen]; exact gb b (o.ct b e) (o.cq b e).1, ib b (o.ct b e) (o.cq b e).2⟩
      lc := o.lc }
  · exact ⟨by show (Value.slice A' (N.w ++ qs).length c').ownBlock ≠ _; rw [hlen]; exact gb b hb f.a, ib b hb f.i, f.l, f.c⟩
/-- Many wires more. -/
theorem PlSt.pushWs {wb w0 wr u u' : World} {sx : Nat} {hT h : NH} {T M : Nt} {A2 A' : Option Addr} {c2 c' : Nat} {hs2 : Nat → Option Addr × Nat} {qs : List (List Int)} (p : PlSt wb w0 wr sx hT T h M) (hb : Below wr.heap.size wr u)
    (own2 : OwnQ u wr.heap.size u.heap.size (.slice A2 qs.length c2) hs2 qs)
    (hown7 : u'.ownsRow wb.heap.size 24 1 (.slice A' (M.w.length + qs.length) c') (M.w.length + qs.length) (rowV h.hs M.w ++ rowV hs2 qs)) (hgrow7 : u.grownBy u' (Value.slice h.A M.w.length h.c).ownBlock)
    (hat7 : (Value.slice A' (M.w.length + qs.length) c').ownBlock = (Value.slice h.A M.w.length h.c).ownBlock ∨ (Value.slice A' (M.w.length + qs.length) c').ownBlock = some u.heap.size) :
    PlSt wb w0 (u'.setCell ⟨sx, 0, none⟩ (.slice A' (M.w ++ qs).length c')) sx hT T ⟨A', c', fun i => if i < M.w.length then h.hs i else hs2 (i - M.w.length), h.L, h.d, h.C, h.e⟩ ⟨M.w ++ qs, M.l, M.c⟩ := by
  obtain ⟨o5, f5⟩ := p.own.pushWs p.bel.size hb own2 hown7 hgrow7 hat7
  have hsb : ∀ b, b < w0.heap.size → FarN hT T b → FarN ⟨A', c', fun i => if i < M.w.length then h.hs i else hs2 (i - M.w.length), h.L, h.d, h.C, h.e⟩ ⟨M.w ++ qs, M.l, M.c⟩ b := fun b h1 h2 => f5 b (Nat.lt_of_lt_of_le h1 p.size) (p.far b h1 h2)
  have hk : ∀ b, b < w0.heap.size → FarN hT T b → u'.heap[b]? = wr.heap[b]? := fun b h1 h2 => (hgrow7.block b (Nat.lt_of_lt_of_le h1 (Nat.le_trans p.size hb.size)) (fun e2 => (p.far b h1 h2).a e2.symm)).trans (hb.block b (Nat.lt_of_lt_of_le h1 p.size))
  have hB : Below wb.heap.size wb u' := (p.bel.trans (hb.mono p.bel.size)).grown hgrow7 (Nat.le_trans p.bel.size hb.size) (fun q hq => (p.own.q.outer.lt q hq).1)
  have es : (u'.setCell ⟨sx, 0, none⟩ (.slice A' (M.w ++ qs).length c')).heap.size = u'.heap.size := by simp
  exact {
    own := by
      have := o5.farSet (hsb sx p.sxl p.sxf) 0 (.slice A' (M.w ++ qs).length c')
      rw [es]; exact this
    far := hsb
    keep := fun b h1 h2 h3 => (Below.heap_setCell _ _ _ _ (by show b ≠ sx; exact h3)).trans ((hk b h1 h2).trans (p.keep b h1 h2 h3))
    box := set0_at ((hk sx p.sxl p.sxf).trans p.box) _
    bel := hB.setCell (p := ⟨sx, 0, none⟩) p.sxb _
    size := by rw [es]; exact Nat.le_trans p.size (Nat.le_trans hb.size hgrow7.size)
    sxl := p.sxl
    sxf := p.sxf
    sxb := p.sxb }
/-- What the model's union holds where ways meet: a net in the box of the answer. -/
def LkSu (v1 u3 w0 : World) (bo : Nat) (h2 : NH) (N M : Nt) (wx : World) : Prop := ∃ h', PlSt v1 u3 wx bo h2 N h' M ∧ Below w0.heap.size w0 wx
end Go.Proofs.YtdcommmefehlgaaDoor
