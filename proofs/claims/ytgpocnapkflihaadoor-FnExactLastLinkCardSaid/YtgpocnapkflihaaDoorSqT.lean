/- Rows of rows put one behind the other; a net in a box that gets many wires. slices.Concat of rows of numbers, empty or not; the program's without at one position. The program's LastLink. -/
import Derived.Test.YtgpocnapkflihaaDoorQNetR
import Derived.Test.YtgpocnapkflihaaDoorQNetO
import Derived.Maps.AppendAt
import Derived.Test.YtgpocnapkflihaaDoorSqN
import Derived.Deep.RegionHeldLaw
import Derived.Deep.DeepCutAuto
import Derived.BigQuiet
import Derived.Test.YtgpocnapkflihaaDoorSqF
namespace Go.Proofs.YtgpocnapkflihaaDoor
set_option linter.unusedSimpArgs false
set_option linter.unusedVariables false
open Go.ChangeAt Go.ChangeShapes Go.RowKit Go.WideShapes

theorem rowV_app (hs hs2 : Nat → Option Addr × Nat) (qs rs : List (List Int)) : rowV (fun i => if i < qs.length then hs i else hs2 (i - qs.length)) (qs ++ rs) = rowV hs qs ++ rowV hs2 rs := by
  apply List.ext_getElem?
  intro i
  by_cases h1 : i < qs.length
  · rw [rowV_at (by simp; omega), List.getElem?_append_left (by rw [rowV_len]; exact h1), rowV_at h1]
    simp [hv, h1, List.getD, List.getElem?_append_left]
  · by_cases h2 : i < (qs ++ rs).length
    · rw [rowV_at h2, List.getElem?_append_right (by rw [rowV_len]; omega), rowV_len, rowV_at (by simp at h2; omega)]
      simp [hv, h1, List.getD, List.getElem?_append_right (Nat.le_of_not_lt h1)]
    · rw [List.getElem?_eq_none (by rw [rowV_len]; omega), List.getElem?_eq_none (by simp [rowV_len] at h2 ⊢; omega)]
theorem hv_app (hs hs2 : Nat → Option Addr × Nat) (qs rs : List (List Int)) (i : Nat) : hv (fun i => if i < qs.length then hs i else hs2 (i - qs.length)) (qs ++ rs) i = if i < qs.length then hv hs qs i else hv hs2 rs (i - qs.length) := by
  by_cases h1 : i < qs.length
  · simp [hv, h1, List.getD, List.getElem?_append_left]
  · simp [hv, h1, List.getD, List.getElem?_append_right (Nat.le_of_not_lt h1)]
theorem getD_app (qs rs : List (List Int)) (i : Nat) : (qs ++ rs).getD i [] = if i < qs.length then qs.getD i [] else rs.getD (i - qs.length) [] := by
  by_cases h1 : i < qs.length
  · simp [h1, List.getD, List.getElem?_append_left]
  · simp [h1, List.getD, List.getElem?_append_right (Nat.le_of_not_lt h1)]
theorem OwnQ.concat {w w' : World} {lo hi hi' : Nat} {v v' : Value} {hs hs2 : Nat → Option Addr × Nat} {qs rs : List (List Int)} (h : OwnQ w lo hi v hs qs)
    (hin : ∀ i, i < rs.length → w.ownsRow lo 2 1 (hv hs2 rs i) (rs.getD i []).length ((rs.getD i []).map (Value.int .i64))) (hge : ∀ i k, i < rs.length → (hv hs2 rs i).ownBlock = some k → hi ≤ k)
    (hap : ∀ i j, i < rs.length → j < rs.length → i ≠ j → (hv hs2 rs i).ownBlock = none ∨ (hv hs2 rs i).ownBlock ≠ (hv hs2 rs j).ownBlock)
    (ho : w'.ownsRow lo 24 1 v' (qs.length + rs.length) (rowV hs qs ++ rowV hs2 rs)) (hg : w.grownBy w' v.ownBlock) (hv' : ∀ b, v'.ownBlock = some b → v.ownBlock = some b ∨ w.heap.size ≤ b) (h2 : w'.heap.size ≤ hi') :
    OwnQ w' lo hi' v' (fun i => if i < qs.length then hs i else hs2 (i - qs.length)) (qs ++ rs) := by
  have hs' := hg.size
  have hblk : ∀ i k, i < (qs ++ rs).length → (hv (fun i => if i < qs.length then hs i else hs2 (i - qs.length)) (qs ++ rs) i).ownBlock = some k → k < w.heap.size ∧ v.ownBlock ≠ some k ∧ (i < qs.length → k < hi) ∧ (¬ i < qs.length → hi ≤ k) := by
    intro i k hi e
    rw [hv_app] at e
    by_cases h1 : i < qs.length
    · rw [if_pos h1] at e
      refine ⟨h.lt h1 e, fun e2 => ?_, fun _ => h.top i k h1 e, fun h => absurd h1 h⟩
      rcases h.apart0 i h1 with h0 | h0
      · rw [h0] at e; cases e
      · exact h0 (e.trans e2.symm)
    · rw [if_neg h1] at e
      have hi2 : i - qs.length < rs.length := by simp at hi; omega
      have hk := hge _ k hi2 e
      exact ⟨((hin _ hi2).lt k e).2, fun e2 => by have := h.top0 k e2; omega, fun h => absurd h h1, fun _ => hk⟩
  refine ⟨by rw [rowV_app, List.length_append]; exact ho, fun i hi => ?_, fun i j hi hj hij => ?_, fun i hi => ?_, fun k e => Nat.lt_of_lt_of_le (ho.lt k e).2 h2, fun i k hi e => ?_⟩
  · have hb := hblk i
    rw [getD_app]
    have hne : (hv (fun i => if i < qs.length then hs i else hs2 (i - qs.length)) (qs ++ rs) i).ownBlock = none ∨ (hv (fun i => if i < qs.length then hs i else hs2 (i - qs.length)) (qs ++ rs) i).ownBlock ≠ v.ownBlock := by
      cases hq : (hv (fun i => if i < qs.length then hs i else hs2 (i - qs.length)) (qs ++ rs) i).ownBlock with
      | none => exact .inl rfl
      | some k => exact .inr (fun e => (hb k hi hq).2.1 e.symm)
    rw [hv_app] at hne ⊢
    by_cases h1 : i < qs.length
    · rw [if_pos h1] at hne ⊢
      rw [if_pos h1]
      exact (h.inner i h1).kept hg hne
    · rw [if_neg h1] at hne ⊢
      rw [if_neg h1]
      exact (hin _ (by simp at hi; omega)).kept hg hne
  · cases hq : (hv (fun i => if i < qs.length then hs i else hs2 (i - qs.length)) (qs ++ rs) i).ownBlock with
    | none => exact .inl rfl
    | some k =>
      right
      intro e
      have a1 := hblk i k hi hq
      have a2 := hblk j k hj e.symm
      rw [hv_app] at hq e
      by_cases h1 : i < qs.length
      · by_cases h3 : j < qs.length
        · rw [if_pos h1] at hq
          rw [if_pos h3] at e
          rcases h.apart i j h1 h3 hij with h0 | h0
          · rw [h0] at hq; cases hq
          · exact h0 (hq.trans e)
        · have := a1.2.2.1 h1; have := a2.2.2.2 h3; omega
      · by_cases h3 : j < qs.length
        · have := a1.2.2.2 h1; have := a2.2.2.1 h3; omega
        · rw [if_neg h1] at hq
          rw [if_neg h3] at e
          rcases hap (i - qs.length) (j - qs.length) (by simp at hi; omega) (by simp at hj; omega) (by omega) with h0 | h0
          · rw [h0] at hq; cases hq
          · exact h0 (hq.trans e)
  · cases hq : (hv (fun i => if i < qs.length then hs i else hs2 (i - qs.length)) (qs ++ rs) i).ownBlock with
    | none => exact .inl rfl
    | some k =>
      right
      intro e
      have a1 := hblk i k hi hq
      rcases hv' k e.symm with h0 | h0
      · exact a1.2.1 h0
      · omega
  · have a1 := hblk i k hi e
    omega

theorem own_shape1 {w : World} {base n : Nat} {e : TypeId} {v : Value} {xs : List Value} (h : w.ownsRow base e 1 v n xs) : ∃ A c, v = .slice A n c ∧ n ≤ c := by
  rcases h.2 with ⟨rfl, rfl⟩ | ⟨g, cap, cur, rfl, _, _, hn, _⟩
  · exact ⟨_, _, rfl, Nat.le_refl _⟩
  · exact ⟨_, _, rfl, hn⟩
theorem run_append_zero {P : Program} (w : World) (t ty e : TypeId) (i : TypeInfo) (ht : P.underlying t = some (.slice e)) (hi : P.info? e = some i) (A : Option Addr) (n c d : Nat) (hnc : n ≤ c) :
    (Builtin.append_ #[t, t] ty #[.slice A n c, .slice none 0 d]).run P w = .ok (.slice A n c) w := by
  cases A <;> simp [Builtin.append_, run_underlying ht, sizeOf, typeInfo, hi, Builtin.lenOf, Builtin.firstCells, hnc, storeCells]
/-- append of a row, perhaps of none. -/
theorem step_atX {P : Program} {w : World} {ops : Array Oper} {o : Oper} {a : Act} {K : Act → World → Prop} {Q : Exit → Act → World → Prop} {E : Prop} (hgd : o.guard = none) (s x : Operand) (t : TypeId)
    (ho : o.op = .call { callee := .builtin .append, args := #[s, x], argTypes := #[t, t] })
    (lo : Nat) (ty : TypeId) (i : TypeInfo) (z : Value) (bytes : Nat) (ht : P.underlying t = some (.slice ty)) (hi : P.info? ty = some i) (hz : i.zero = some z) (h4 : i.size = 1) (h5 : i.bytes = bytes) (h6 : z.cells.size = 1)
    (v : Value) (n : Nat) (xs : List Value) (hs : a.eval s = v) (own : w.ownsRow lo ty 1 v n xs)
    (X : Option Addr) (m c : Nat) (lo2 : Nat) (ys : List Value) (hx : a.eval x = .slice X m c) (own2 : w.ownsRow lo2 ty 1 (.slice X m c) m ys) (h1 : ∀ u ∈ ys, u.oneCell' = true)
    (h8 : n + m ≤ maxLen) (h9 : (n + m) * bytes ≤ 140737488355328) (hlo : lo ≤ w.heap.size)
    (h : ∀ v' w', w'.ownsRow lo ty 1 v' (n + m) (xs ++ ys) → w.grownBy w' v.ownBlock → (v'.ownBlock = v.ownBlock ∨ v'.ownBlock = some w.heap.size) → K (a.put o.dst v') w') :
    if Region.wanted o (yielded ops a.tmps) = true then Oper.wp P o a w K Q else E := by
  cases hX : X with
  | some ad =>
    subst hX
    have hA : ys.length = m * 1 := own2.1
    refine step_at hgd s x t ho lo ty i z 1 bytes ht hi hz h4 h5 h6 (by omega) v n xs hs own ad m c ys hx (by omega) ?_ h1 h8 h9 hlo h
    intro j u hu
    obtain ⟨g, cap, hv, _⟩ := own2.form (by have := (List.getElem?_eq_some_iff.1 hu).1; omega)
    injection hv with e1 e2 e3
    injection e1 with e1
    subst e1
    exact own2.cells rfl j u hu
  | none =>
    subst hX
    obtain ⟨rfl, rfl⟩ : m = 0 ∧ ys = [] := by
      rcases own2.2 with ⟨h3, h4⟩ | ⟨g, cap, cur, h3, _⟩
      · subst h4
        exact ⟨rfl, List.eq_nil_of_length_eq_zero (by have := own2.1; omega)⟩
      · cases h3
    obtain ⟨A, d, rfl, hnc⟩ := own_shape1 own
    rw [if_pos (show Region.wanted o (yielded ops a.tmps) = true by simp [Region.wanted, hgd])]
    unfold Oper.wp execOp
    simp only [ho, resolve, invoke, builtin, Sem.run_bind, Sem.run_pure, Result.andThen_ok, List.map_toArray, List.map_cons, List.map_nil, hs, hx, run_append_zero w t o.type ty i ht hi A n d c hnc]
    exact h _ _ (by simpa using own) ⟨rfl, rfl, rfl, Nat.le_refl _, fun _ _ _ => rfl⟩ (.inl rfl)
theorem OwnN.pushWs {w w6 w7 : World} {lo : Nat} {h : NH} {N : Nt} {A2 A' : Option Addr} {c2 c' : Nat} {hs2 : Nat → Option Addr × Nat} {qs : List (List Int)} (o : OwnN w lo w.heap.size h N) (hlo : lo ≤ w.heap.size) (bel6 : Below w.heap.size w w6)
    (own2 : OwnQ w6 w.heap.size w6.heap.size (.slice A2 qs.length c2) hs2 qs)
    (hown7 : w7.ownsRow lo 24 1 (.slice A' (N.w.length + qs.length) c') (N.w.length + qs.length) (rowV h.hs N.w ++ rowV hs2 qs)) (hgrow7 : w6.grownBy w7 (Value.slice h.A N.w.length h.c).ownBlock)
    (hat7 : (Value.slice A' (N.w.length + qs.length) c').ownBlock = (Value.slice h.A N.w.length h.c).ownBlock ∨ (Value.slice A' (N.w.length + qs.length) c').ownBlock = some w6.heap.size) :
    OwnN w7 lo w7.heap.size ⟨A', c', fun i => if i < N.w.length then h.hs i else hs2 (i - N.w.length), h.L, h.d, h.C, h.e⟩ ⟨N.w ++ qs, N.l, N.c⟩ ∧ ∀ b, b < w.heap.size → FarN h N b → FarN ⟨A', c', fun i => if i < N.w.length then h.hs i else hs2 (i - N.w.length), h.L, h.d, h.C, h.e⟩ ⟨N.w ++ qs, N.l, N.c⟩ b := by
  have s6 := bel6.size
  have s7 := hgrow7.size
  have hlen : (N.w ++ qs).length = N.w.length + qs.length := by simp
  have q7 := OwnQ.concat (hs2 := hs2) (rs := qs) (hi' := w7.heap.size) (o.q.below bel6) (fun i hi => (own2.inner i hi).mono hlo) (fun i k hi e => ((own2.inner i hi).lt k e).1) (fun i j hi hj hij => own2.apart i j hi hj hij) hown7 hgrow7
    (fun b e => by
      rcases hat7 with h | h
      · exact .inl (h.symm.trans e)
      · rw [h] at e
        injection e with e
        exact .inr (by omega)) (Nat.le_refl _)
  have hk : ∀ b, b < w.heap.size → (Value.slice h.A N.w.length h.c).ownBlock ≠ some b → w7.heap[b]? = w.heap[b]? := fun b h1 h2 =>
    (hgrow7.block b (by omega) (fun e => h2 e.symm)).trans (bel6.block b h1)
  have gb : ∀ b, b < w.heap.size → (Value.slice h.A N.w.length h.c).ownBlock ≠ some b → (Value.slice A' (N.w.length + qs.length) c').ownBlock ≠ some b := fun b h1 h2 e => by
    rcases hat7 with h3 | h3
    · exact h2 (h3.symm.trans e)
    · rw [h3] at e
      injection e with e
      omega
  have ib : ∀ b, b < w.heap.size → (∀ i, i < N.w.length → (hv h.hs N.w i).ownBlock ≠ some b) → ∀ i, i < (N.w ++ qs).length → (hv (fun i => if i < N.w.length then h.hs i else hs2 (i - N.w.length)) (N.w ++ qs) i).ownBlock ≠ some b := fun b h1 h2 i hi e => by
    rw [hv_app] at e
    by_cases hn : i < N.w.length
    · rw [if_pos hn] at e
      exact h2 i hn e
    · rw [if_neg hn] at e
      have := ((own2.inner (i - N.w.length) (by omega)).lt b e).1
      omega
  have l' := own_same (w' := w7) o.l fun b e => hk b (o.lt b e) (o.lq b e).1
  have c'' := own_same (w' := w7) o.c fun b e => hk b (o.ct b e) (o.cq b e).1
  refine ⟨?_, fun b hb f => ?_⟩
  · exact {
      q := by show OwnQ w7 lo w7.heap.size (.slice A' (N.w ++ qs).length c') _ _; rw [hlen]; exact q7
      l := l'
      c := c''
      lt := fun b e => (l'.lt b e).2
      ct := fun b e => (c''.lt b e).2
      lq := fun b e => ⟨by show (Value.slice A' (N.w ++ qs).length c').ownBlock ≠ _; rw [hlen]; exact gb b (o.lt b e) (o.lq b e).1, ib b (o.lt b e) (o.lq b e).2⟩
      cq := fun b e => ⟨by show (Value.slice A' (N.w ++ qs).length c').ownBlock ≠ _; rw [hlen]; exact gb b (o.ct b e) (o.cq b e).1, ib b (o.ct b e) (o.cq b e).2⟩
      lc := o.lc }
  · exact ⟨by show (Value.slice A' (N.w ++ qs).length c').ownBlock ≠ _; rw [hlen]; exact gb b hb f.a, ib b hb f.i, f.l, f.c⟩
/-- Many wires more. -/
theorem PlSt.pushWs {wb w0 wr u u' : World} {sx : Nat} {hT h : NH} {T M : Nt} {A2 A' : Option Addr} {c2 c' : Nat} {hs2 : Nat → Option Addr × Nat} {qs : List (List Int)} (p : PlSt wb w0 wr sx hT T h M) (hb : Below wr.heap.size wr u)
    (own2 : OwnQ u wr.heap.size u.heap.size (.slice A2 qs.length c2) hs2 qs)
    (hown7 : u'.ownsRow wb.heap.size 24 1 (.slice A' (M.w.length + qs.length) c') (M.w.length + qs.length) (rowV h.hs M.w ++ rowV hs2 qs)) (hgrow7 : u.grownBy u' (Value.slice h.A M.w.length h.c).ownBlock)
    (hat7 : (Value.slice A' (M.w.length + qs.length) c').ownBlock = (Value.slice h.A M.w.length h.c).ownBlock ∨ (Value.slice A' (M.w.length + qs.length) c').ownBlock = some u.heap.size) :
    PlSt wb w0 (u'.setCell ⟨sx, 0, none⟩ (.slice A' (M.w ++ qs).length c')) sx hT T ⟨A', c', fun i => if i < M.w.length then h.hs i else hs2 (i - M.w.length), h.L, h.d, h.C, h.e⟩ ⟨M.w ++ qs, M.l, M.c⟩ := by
  obtain ⟨o5, f5⟩ := p.own.pushWs p.bel.size hb own2 hown7 hgrow7 hat7
  have hsb : ∀ b, b < w0.heap.size → FarN hT T b → FarN ⟨A', c', fun i => if i < M.w.length then h.hs i else hs2 (i - M.w.length), h.L, h.d, h.C, h.e⟩ ⟨M.w ++ qs, M.l, M.c⟩ b := fun b h1 h2 => f5 b (Nat.lt_of_lt_of_le h1 p.size) (p.far b h1 h2)
  have hk : ∀ b, b < w0.heap.size → FarN hT T b → u'.heap[b]? = wr.heap[b]? := fun b h1 h2 => (hgrow7.block b (Nat.lt_of_lt_of_le h1 (Nat.le_trans p.size hb.size)) (fun e2 => (p.far b h1 h2).a e2.symm)).trans (hb.block b (Nat.lt_of_lt_of_le h1 p.size))
  have hB : Below wb.heap.size wb u' := (p.bel.trans (hb.mono p.bel.size)).grown hgrow7 (Nat.le_trans p.bel.size hb.size) (fun q hq => (p.own.q.outer.lt q hq).1)
  have es : (u'.setCell ⟨sx, 0, none⟩ (.slice A' (M.w ++ qs).length c')).heap.size = u'.heap.size := by simp
  exact {
    own := by
      have := o5.farSet (hsb sx p.sxl p.sxf) 0 (.slice A' (M.w ++ qs).length c')
      rw [es]; exact this
    far := hsb
    keep := fun b h1 h2 h3 => (Below.heap_setCell _ _ _ _ (by show b ≠ sx; exact h3)).trans ((hk b h1 h2).trans (p.keep b h1 h2 h3))
    box := set0_at ((hk sx p.sxl p.sxf).trans p.box) _
    bel := hB.setCell (p := ⟨sx, 0, none⟩) p.sxb _
    size := by rw [es]; exact Nat.le_trans p.size (Nat.le_trans hb.size hgrow7.size)
    sxl := p.sxl
    sxf := p.sxf
    sxb := p.sxb }
/-- What the model's union holds where ways meet: a net in the box of the answer. -/
def LkSu (v1 u3 w0 : World) (bo : Nat) (h2 : NH) (N M : Nt) (wx : World) : Prop := ∃ h', PlSt v1 u3 wx bo h2 N h' M ∧ Below w0.heap.size w0 wx
/-- append of a row, perhaps of none, in a region that draws nothing. -/
theorem wpList_atX {P : Program} {w : World} {ops : Array Oper} {rest : List Oper} {o : Oper} {a : Act} {Q : Exit → Act → World → Prop} (hgd : o.guard = none) (s x : Operand) (t : TypeId)
    (ho : o.op = .call { callee := .builtin .append, args := #[s, x], argTypes := #[t, t] })
    (lo : Nat) (ty : TypeId) (i : TypeInfo) (z : Value) (bytes : Nat) (ht : P.underlying t = some (.slice ty)) (hi : P.info? ty = some i) (hz : i.zero = some z) (h4 : i.size = 1) (h5 : i.bytes = bytes) (h6 : z.cells.size = 1)
    (v : Value) (n : Nat) (xs : List Value) (hs : a.eval s = v) (own : w.ownsRow lo ty 1 v n xs)
    (X : Option Addr) (m c : Nat) (lo2 : Nat) (ys : List Value) (hx : a.eval x = .slice X m c) (own2 : w.ownsRow lo2 ty 1 (.slice X m c) m ys) (h1 : ∀ u ∈ ys, u.oneCell' = true)
    (h8 : n + m ≤ maxLen) (h9 : (n + m) * bytes ≤ 140737488355328) (hlo : lo ≤ w.heap.size)
    (h : ∀ v' w', w'.ownsRow lo ty 1 v' (n + m) (xs ++ ys) → w.grownBy w' v.ownBlock → (v'.ownBlock = v.ownBlock ∨ v'.ownBlock = some w.heap.size) → wpList P ops Q rest (a.put o.dst v') w') :
    wpList P ops Q (o :: rest) a w := by
  refine wpList_plain hgd fun K hK => ?_
  have := step_atX (P := P) (ops := ops) (K := K) (Q := Q) (E := True) hgd s x t ho lo ty i z bytes ht hi hz h4 h5 h6 v n xs hs own X m c lo2 ys hx own2 h1 h8 h9 hlo (fun v' w' h1 h2 h3 => hK _ _ (h v' w' h1 h2 h3))
  rw [if_pos (by simp [Region.wanted, hgd])] at this
  exact this
/-- A row of numbers that is to be appended: nil, or at an address. -/
def PartI (w : World) (B : Nat) (v : Value) (zs : List Int) : Prop :=
  (v = .slice none 0 0 ∧ zs = []) ∨ ∃ ad c, v = .slice (some ad) zs.length c ∧ RdI w B (some ad) zs.length zs
theorem PartI.below {w w' : World} {B : Nat} {v : Value} {zs : List Int} (h : PartI w B v zs) (hb : Below B w w') : PartI w' B v zs := by
  rcases h with h | ⟨ad, c, hv, hn⟩
  · exact .inl h
  · exact .inr ⟨ad, c, hv, hn.below hb⟩
theorem PartI.more {w : World} {B B' : Nat} {v : Value} {zs : List Int} (h : PartI w B v zs) (hb : B ≤ B') : PartI w B' v zs := by
  rcases h with h | ⟨ad, c, hv, hn⟩
  · exact .inl h
  · exact .inr ⟨ad, c, hv, hn.more hb⟩
theorem PartI.of_own {w : World} {base c : Nat} {A : Option Addr} {zs : List Int} (h : w.ownsRow base 2 1 (.slice A zs.length c) zs.length (zs.map (Value.int .i64))) : PartI w w.heap.size (.slice A zs.length c) zs := by
  have r := RdI.of_own h
  rcases h.2 with ⟨e, e2⟩ | ⟨g, cap, cur, e, _⟩
  · have hl : zs = [] := List.eq_nil_of_length_eq_zero (by injection e)
    subst hl
    exact .inl ⟨e, rfl⟩
  · injection e with e1 e2 e3
    subst e1
    exact .inr ⟨_, c, rfl, r⟩
theorem newsI {w : World} {B : Nat} {ad : Addr} {zs : List Int} (h : RdI w B (some ad) zs.length zs) : ∀ j u, (zs.map (Value.int .i64))[j]? = some u → w.cell? (ad.add j) = some u := by
  by_cases h0 : zs = []
  · subst h0
    intro j u hu
    simp at hu
  · obtain ⟨b, off, e, hb, hc⟩ := h.2 (List.length_pos_iff.2 h0)
    injection e with e
    subst e
    exact part_news hc
theorem catI_none {w : World} {base : Nat} {v : Value} {ls : List (List Int)} {k : Nat} {zs : List Int} (hk : k < ls.length) (hz : ls.getD k [] = zs) (hn : zs = [])
    (hown : w.ownsRow base 2 1 v (catL ls k).length ((catL ls k).map (Value.int .i64))) :
    w.ownsRow base 2 1 v (catL ls (k + 1)).length ((catL ls (k + 1)).map (Value.int .i64)) := by
  have e : catL ls (k + 1) = catL ls k := by rw [catL_step hk, hz, hn, List.append_nil]
  rw [e]; exact hown
def GrewI (w : World) (e : Ending) (w' : World) : Prop :=
  ∃ A c, e = .returned (.slice A 0 c) ∧ w'.ownsRow w.heap.size 2 1 (.slice A 0 c) 0 [] ∧ Below w.heap.size w w'
set_option maxHeartbeats 1000000 in
theorem growI_nil (n : Nat) (w : World) (hm : n ≤ 1000) : Calls Tryd.prog 74 #[.slice none 0 0, .int .i64 n] w (GrewI w) := by
  by_cases hn : n = 0
  · subst hn
    go_enter Tryd.func74, Tryd.ntmps74
    go_wp2_with (fail)
    go_ret
    exact ⟨_, _, rfl, ⟨by simp, .inl ⟨rfl, rfl⟩⟩, Below.refl _ _⟩
  · refine (grow_nil n w (by omega) hm).mono ?_
    rintro e w1 ⟨c1, rfl, hown1, hb1⟩
    exact ⟨_, c1, rfl, hown1, hb1⟩
set_option maxRecDepth 100000 in
set_option maxHeartbeats 2000000 in
theorem concatX_any (g m c : Nat) (vs : List Value) (ls : List (List Int)) (w : World) (hm : ls.length = m) (hmx : m ≤ 1000)
    (hcell : ∀ i, i < m → w.cell? ⟨g, i, none⟩ = some (vs.getD i undef)) (hgB : g < w.heap.size) (hpart : ∀ i, i < m → PartI w w.heap.size (vs.getD i undef) (ls.getD i [])) (htot : ls.flatten.length ≤ 1000) :
    Calls Tryd.prog 47 #[.slice (some ⟨g, 0, none⟩) m c] w (Gives w ls.flatten) := by
  obtain ⟨i0, hi0, hz0, hz1, hz2⟩ := info_parts info_i64
  have HI := Lib.hid hi0; have HZ0 := Lib.hid hz0; have HZ1 := Lib.hid hz1; have HZ2 := Lib.hid hz2
  have HC := Lib.hid hcell; have HP := Lib.hid hpart
  have HM := Lib.hid hm
  have HLE := Lib.hid (catL_le ls)
  have HT := Lib.hid (show (catL ls m).length = ls.flatten.length by rw [← hm, catL_all])
  have HSH : Hid (∀ i, i < m → ∃ A c, vs.getD i undef = .slice A (ls.getD i []).length c) := Lib.hid fun i hi => by
    rcases hpart i hi with ⟨h1, h2⟩ | ⟨ad, c, h1, _⟩
    · exact ⟨none, 0, by rw [h1, h2]; rfl⟩
    · exact ⟨some ad, c, h1⟩
  obtain ⟨T, hT⟩ : ∃ T, ls.flatten.length = T := ⟨_, rfl⟩
  rw [hT] at HT HLE htot
  have HTT := Lib.hid hT
  clear hcell hpart hm hT hi0 hz0 hz1 hz2
  go_enter Tryd.func47, Tryd.ntmps47
  go_wp2
  go_loop [3, 11] (fun v3 v11 => ∃ k : Nat, k ≤ m ∧ v11 = .int .i64 k ∧ v3 = .int .i64 ((catL ls k).length : Nat)) (fun _ v11 => m - (intOf v11).toNat)
  case atStart => exact ⟨0, Nat.zero_le _, rfl, by simp [catL]⟩
  case round =>
    obtain ⟨k, hk, rfl, rfl⟩ := hrel
    by_cases hlt : k < m
    · have hc := HC.out k hlt
      obtain ⟨Ak, ck, hv⟩ := HSH.out k hlt
      rw [hv] at hc
      have hst := catL_len_step (ls := ls) (k := k) (by have := HM.out; omega)
      have h1 := HLE.out k
      have h2 := HLE.out (k + 1)
      have HS := Lib.hid hst
      have hbd : (catL ls k).length + (ls.getD k []).length ≤ 1000 := by omega
      clear hv hst h2
      generalize (ls.getD k []).length = q at hc HS hbd
      generalize (catL ls k).length = p at HS h1 hbd
      have hneg : ¬ ((p : Int) + (q : Int) < 0) := by omega
      go_wp2
      go_round
      case rel => exact ⟨k + 1, by omega, by go_num, by rw [HS.out]; go_num⟩
      case measure => simp [intOf]; omega
    · have hkm : m = k := by omega
      subst hkm
      rw [HT.out]
      go_wp2_with (go_at_call 74; refine (growI_nil T _ htot).mono ?_; rintro e w1 ⟨A1, c1, rfl, hown1, hb1⟩)
      have HO1 := Lib.hid hown1; have HB1 := Lib.hid hb1
      clear hown1 hb1
      go_loopw [6, 27] (fun v i wr => ∃ k : Nat, k ≤ m ∧ i = .int .i64 k ∧ wr.ownsRow w.heap.size 2 1 v (catL ls k).length ((catL ls k).map (Value.int .i64)) ∧ Below w.heap.size w wr) (fun _ i _ => m - (intOf i).toNat)
      case atStart => exact ⟨0, Nat.zero_le _, rfl, by rw [catL_zero]; exact HO1.out, HB1.out⟩
      case round =>
        obtain ⟨k, hk, rfl, hown, hb⟩ := hrel
        by_cases hkm : k < m
        · have hlt : k < ls.length := by have := HM.out; omega
          have hc := (hb.cell (p := ⟨g, k, none⟩) hgB).trans (HC.out k hkm)
          have hsz := hb.size
          obtain ⟨zs, hzs⟩ : ∃ zs, ls.getD k [] = zs := ⟨_, rfl⟩
          rcases (HP.out k hkm).below hb with ⟨hv, hz0⟩ | ⟨ad, ck, hv, hnews⟩
          · rw [hv] at hc
            have hown2 := Lib.hid (catI_none hlt rfl hz0 hown)
            have HB := Lib.hid hb
            have HO := Lib.hid hown
            clear hv hz0 hown hb hzs
            go_wp2_with (at_builtin; refine wpList_append_own_none rfl _ _ 24 rfl w.heap.size 2 i0 1 Tryd.underlying24 HI.out _ _ _ rfl HO.out rfl ?_)
            go_roundw
            case rel => exact ⟨k + 1, by omega, by go_num, hown2.out, HB.out⟩
            case measure => simp [intOf]; omega
          · rw [hzs] at hv hnews
            rw [hv] at hc
            have hst := catL_len_step hlt
            rw [hzs] at hst
            have h2 := HLE.out (k + 1)
            have HZ := Lib.hid hzs
            have HN := Lib.hid (newsI hnews)
            have hbd : (catL ls k).length + zs.length ≤ 1000 := by omega
            clear hv hst h2 hzs hnews
            go_wp2_with (at_builtin; refine wpList_append_own _ rfl _ _ 24 rfl w.heap.size 2 i0 (.int .i64 0) 1 8 Tryd.underlying24 HI.out HZ0.out HZ1.out HZ2.out rfl (by decide) _ _ _ rfl hown ad zs.length ck (zs.map (Value.int .i64)) rfl ?c0 ?c1 ?c2 ?c3 ?c4 ?c5 ?_)
            case c0 => simp
            case c1 => exact HN.out
            case c2 => exact ints_one _
            case c3 => unfold maxLen; omega
            case c4 => omega
            case c5 => exact hsz
            intro v' w2 hown' hgrow _
            have hb2 := Lib.hid (hb.grown hgrow hsz (fun q hq => (hown.lt q hq).1))
            have hown2 := Lib.hid (cat_push hlt HZ.out hown')
            clear hown' hgrow hown hb hc hlt
            go_wp2
            go_roundw
            case rel => exact ⟨k + 1, by omega, by go_num, hown2.out, hb2.out⟩
            case measure => simp [intOf]; omega
        · have hkl : m = k := by omega
          subst hkl
          obtain ⟨A1, c1', rfl⟩ := own_shape hown
          have HG : Hid (Gives w ls.flatten (.returned (.slice A1 (catL ls m).length c1')) wr) := Lib.hid (by
            have e : catL ls m = ls.flatten := by rw [← HM.out, catL_all]
            rw [e] at hown ⊢
            exact ⟨A1, c1', rfl, hown, hb⟩)
          clear hown hb
          go_wp2
          go_ret
          exact HG.out
/-- without, at one position. -/
theorem less_one (r : Nat) : ∀ n, lessU (markL 0 n) (r : Int) (r : Int) n = selU (koX r) n := fun n => by
  have key : ∀ k, k ≤ n → lessU (markL 0 n) (r : Int) (r : Int) k = selU (koX r) k := fun k => by
    induction k with
    | zero => intro _; rfl
    | succ k ih =>
      intro hk
      have hg : (markL 0 n).getD k 0 = (k : Int) := by
        have : k < n := by omega
        simp [markL, List.getD, this]
      by_cases e : k = r
      · rw [lessU_no (by rw [e]; simp), selU_no (by simp [koX, e]), ih (by omega)]
      · rw [lessU_yes (by simp; omega), selU_yes (by simp [koX, e]), ih (by omega), hg]
  exact key n (Nat.le_refl _)
def lsW (N : Nt) : List Int := (tpV N ++ spV N) ++ (if N.l.length = 1 then kinN N 1 else [])
theorem lsV_is (N : Nt) : lsV N = (lsW N).getD 0 (-1) := by
  unfold lsV lsW tpV spV kinN
  cases hv : valN N with
  | false => simp
  | true => simp [lsL, List.append_assoc]
theorem tpV_len (N : Nt) : (tpV N).length ≤ 48 := by
  unfold tpV
  cases hv : valN N with
  | false => simp
  | true =>
    rw [if_pos rfl]
    exact Nat.le_trans (selU_len _ _) (valN_size hv).2
theorem tmV_len (N : Nt) : (tmV N).length ≤ 48 := by
  unfold tmV
  cases hv : valN N with
  | false => simp
  | true =>
    rw [if_pos rfl]
    exact Nat.le_trans (selU_len _ _) (valN_size hv).2
theorem spV_len (N : Nt) : (spV N).length ≤ 48 := by
  unfold spV
  cases hv : valN N with
  | false => simp
  | true =>
    rw [if_pos rfl]
    exact Nat.le_trans (selU_len _ _) (valN_size hv).2
set_option maxRecDepth 100000 in
set_option maxHeartbeats 800000 in
theorem lastLink_impl (h : NH) (N : Nt) (w : World) (r : RdN w w.heap.size h N) (sm : SmallN N) (ht : Arit w) (hu : Dual w) :
    Calls Tryd.prog 21 #[.agg #[.slice h.A N.w.length h.c, .slice h.L N.l.length h.d, .slice h.C N.c.length h.e]] w fun e w' => e = .returned (.int .i64 (lsV N)) ∧ Below w.heap.size w w' := by
  obtain ⟨i0, hi0, hz0, hz1, hz2⟩ := info_parts info_i64
  have HI := Lib.hid hi0; have HZ0 := Lib.hid hz0; have HZ1 := Lib.hid hz1; have HZ2 := Lib.hid hz2
  obtain ⟨w0, hw0⟩ : ∃ w0, w0 = w.alloc (.cells #[.slice h.A N.w.length h.c, .slice h.L N.l.length h.d, .slice h.C N.c.length h.e] 31) := ⟨_, rfl⟩
  obtain ⟨hb, hh, hsz⟩ := box3_any w (.slice h.A N.w.length h.c) (.slice h.L N.l.length h.d) (.slice h.C N.c.length h.e) 31
  rw [← hw0] at hb hh hsz
  have HKX := Lib.hid (fun (wx : World) (hw : Below w0.heap.size w0 wx) => three_cells ((hw.block w.heap.size (by omega)).trans hh))
  have HTP := Lib.hid (fun (wx : World) (hx : Below w0.heap.size w0 wx) => terminalPars_any h N wx ((r.below (hb.trans (hx.mono hb.size))).more (Nat.le_trans hb.size hx.size)) sm ((ht.below hb ht.lt).below hx (Nat.lt_of_lt_of_le ht.lt hb.size)) ((hu.below hb hu.lt).below hx (Nat.lt_of_lt_of_le hu.lt hb.size)))
  have HSP := Lib.hid (fun (wx : World) (hx : Below w0.heap.size w0 wx) => splitting_impl h N wx ((r.below (hb.trans (hx.mono hb.size))).more (Nat.le_trans hb.size hx.size)) sm ((ht.below hb ht.lt).below hx (Nat.lt_of_lt_of_le ht.lt hb.size)) ((hu.below hb hu.lt).below hx (Nat.lt_of_lt_of_le hu.lt hb.size)))
  have HLK := Lib.hid (fun (wx : World) (hx : Below w0.heap.size w0 wx) => linksOfKind_impl h N 1 wx ((r.below (hb.trans (hx.mono hb.size))).more (Nat.le_trans hb.size hx.size)) sm ((ht.below hb ht.lt).below hx (Nat.lt_of_lt_of_le ht.lt hb.size)) ((hu.below hb hu.lt).below hx (Nat.lt_of_lt_of_le hu.lt hb.size)))
  have HB0 := Lib.hid hb
  have BD : Hid (Below w0.heap.size w0 w0.drew) := Lib.hid ((Below.refl w0.heap.size w0).drew)
  have K0 := Lib.hid (HKX.out _ (Below.refl _ w0))
  have HLV := Lib.hid (lsV_is N)
  have HWD : Hid (lsW N = (tpV N ++ spV N) ++ (if N.l.length = 1 then kinN N 1 else [])) := Lib.hid rfl
  have hp1 := tpV_len N
  have hp2 := spV_len N
  have hp3 := kinN_len N 1
  have hll := sm.l
  obtain ⟨y0, y1, y2⟩ := three_cells hh
  have tok1 : True := trivial
  clear hb hh hsz r ht hu sm hi0 hz0 hz1 hz2
  generalize tpV N = T at *
  generalize spV N = S at *
  generalize kinN N 1 = KK at *
  go_enter Tryd.func21, Tryd.ntmps21
  go_upto_region 1 with (fail)
  rw [← hw0]
  clear hw0
  go_cut [3] (fun v wx => ∃ A c, v = .slice A (T ++ S).length c ∧ wx.ownsRow w0.heap.size 2 1 (.slice A (T ++ S).length c) (T ++ S).length ((T ++ S).map (Value.int .i64)) ∧ Below w0.heap.size w0 wx)
  case first =>
    go_region_held3 (fun wx => wx.cell? ⟨w.heap.size, 0, none⟩ = some (.slice h.A N.w.length h.c) ∧ wx.cell? ⟨w.heap.size, 1, none⟩ = some (.slice h.L N.l.length h.d) ∧ wx.cell? ⟨w.heap.size, 2, none⟩ = some (.slice h.C N.c.length h.e))
      (first | exact K0.out | exact HKX.out _ BD.out | exact HKX.out _ B3.out | exact HKX.out _ B4.out | exact HKX.out _ (B4.out.alloc B4.out.size _) | exact HKX.out _ B5.out)
      (first
        | (have _t := tok1; go_at_call 48; refine (HTP.out w0.drew BD.out).mono ?_; rintro e w3 ⟨A3, c3, rfl, own3, bel3⟩; have B3 := Lib.hid (BD.out.trans (bel3.mono BD.out.size)); have O3 := Lib.hid (PartI.of_own own3); have tok2 : True := trivial; clear own3 bel3 tok1)
        | (have _t := tok2; go_at_call 19; refine (HSP.out w3 B3.out).mono ?_; rintro e w4 ⟨A4, c4, rfl, own4, bel4⟩; have B4 := Lib.hid (B3.out.trans (bel4.mono B3.out.size)); have O4 := Lib.hid (PartI.of_own own4); have O34 := Lib.hid ((O3.out.below bel4).more bel4.size); have tok3 : True := trivial; clear own4 bel4 tok2)
        | (have _t := tok3; go_at_call 47; refine (concatX_any w4.heap.size 2 2 [.slice A3 T.length c3, .slice A4 S.length c4] [T, S] _ rfl (by omega) (fun i hi => by match i, hi with | 0, _ => exact cell_of_row _ _ 0 _ _ (0, 0) (heap_alloc_new w4 _) | 1, _ => exact cell_of_row _ _ 1 _ _ (0, 0) (heap_alloc_new w4 _)) (by simp) (fun i hi => by match i, hi with | 0, _ => exact (O34.out.below ((Below.refl _ _).alloc (Nat.le_refl _) _)).more (by simp) | 1, _ => exact (O4.out.below ((Below.refl _ _).alloc (Nat.le_refl _) _)).more (by simp)) (by simp; omega)).mono ?_; rintro e w5 ⟨A5, c5, rfl, own5, bel5⟩; have B5 := Lib.hid ((B4.out.alloc B4.out.size (.cells #[.slice A3 T.length c3, .slice A4 S.length c4] 24)).trans (bel5.mono (Nat.le_trans B4.out.size (by simp)))); have O5 := Lib.hid (own5.mono (Nat.le_trans B4.out.size (show w4.heap.size ≤ _ by simp))); clear own5 bel5 tok3))
    all_goals (try go_wp2_with (fail))
    all_goals go_meet
    all_goals exact ⟨A5, c5, by simp, by simpa using O5.out, B5.out⟩
  case rest =>
  obtain ⟨A5, c5, rfl, own5, bel5⟩ := hcut
  have B5 := Lib.hid bel5
  have O5 := Lib.hid own5
  have htl : (T ++ S).length ≤ 96 := by simp; omega
  clear bel5 own5 y0 y1 y2
  obtain ⟨y0, y1, y2⟩ := HKX.out _ B5.out
  generalize T ++ S = TS at *
  by_cases h1 : N.l.length = 1
  · rw [if_pos h1] at HWD
    have d1 : ((N.l.length : Int) == 1) = true := by simp [h1]
    have HO5 := Lib.hid O5.out
    clear h1
    go_wp2_with (fail)
    refine (HLK.out _ B5.out).mono ?_
    rintro e w6 ⟨A6, c6, rfl, own6, bel6⟩
    have B6 := Lib.hid (B5.out.trans (bel6.mono B5.out.size))
    have O6 := Lib.hid own6
    have HOW := Lib.hid (own_below O5.out bel6 (Nat.le_refl _))
    have hs6 := B6.out.size
    clear own6 bel6 y0 y1 y2
    go_wp2_with (at_builtin; refine wpList_atX rfl _ _ 24 rfl w0.heap.size 2 i0 (.int .i64 0) 8 Tryd.underlying24 HI.out HZ0.out HZ1.out HZ2.out rfl _ _ _ rfl HOW.out A6 KK.length c6 wc.heap.size _ rfl O6.out ?c1 ?c2 ?c3 ?c4 ?_)
    case c1 => intro u hu; obtain ⟨z, _, rfl⟩ := List.mem_map.1 hu; rfl
    case c2 => unfold maxLen; omega
    case c3 => omega
    case c4 => omega
    intro v' w7 hown' hgrow _
    have B7 := Lib.hid (HB0.out.trans ((B6.out.grown hgrow (by omega) (fun q hq => (HOW.out.lt q hq).1)).mono HB0.out.size))
    have hown2 : w7.ownsRow w0.heap.size 2 1 v' (lsW N).length ((lsW N).map (Value.int .i64)) := by
      rw [HWD.out, List.length_append, List.map_append]; exact hown'
    obtain ⟨A7, c7, rfl⟩ := own_shape hown2
    have R7 := Lib.hid (RdI.of_own hown2)
    clear hown' hgrow hown2
    generalize lsW N = LL at *
    by_cases hl0 : LL.length = 0
    · have HE : Hid ((-1 : Int) = lsV N) := Lib.hid (by rw [HLV.out, List.eq_nil_of_length_eq_zero hl0]; rfl)
      have d2 : ((LL.length : Int) == 0) = true := by simp [hl0]
      clear hl0
      go_wp2
      go_ret
      exact ⟨ret_i64 HE.out, B7.out⟩
    · have d2 : ((LL.length : Int) == 0) = false := by simp; exact fun e => hl0 (by rw [e]; rfl)
      obtain ⟨b, off, rfl, hbb, hcc⟩ := R7.out.2 (by omega)
      have x0 := hcc 0 (by omega)
      have HE : Hid (LL.getD 0 0 = lsV N) := Lib.hid (by
        rw [HLV.out]
        cases hL : LL with
        | nil => rw [hL] at hl0; exact absurd rfl hl0
        | cons a b => rfl)
      have hpos : (0 : Int) < (LL.length : Int) := by omega
      have hpos2 : 0 < LL.length := by omega
      rw [Nat.add_zero] at x0
      clear hcc hl0
      generalize LL.getD 0 0 = z at *
      go_wp2
      go_ret
      exact ⟨ret_i64 HE.out, B7.out⟩
  · rw [if_neg h1, List.append_nil] at HWD
    have d1 : ((N.l.length : Int) == 1) = false := by simp; omega
    have B7 := Lib.hid (HB0.out.trans (B5.out.mono HB0.out.size))
    have R7 := Lib.hid (RdI.of_own O5.out)
    rw [HWD.out] at HLV
    clear h1
    by_cases hl0 : TS.length = 0
    · have HE : Hid ((-1 : Int) = lsV N) := Lib.hid (by rw [HLV.out, List.eq_nil_of_length_eq_zero hl0]; rfl)
      have d2 : ((TS.length : Int) == 0) = true := by simp [hl0]
      clear hl0
      go_wp2
      go_ret
      exact ⟨ret_i64 HE.out, B7.out⟩
    · have d2 : ((TS.length : Int) == 0) = false := by simp; exact fun e => hl0 (by rw [e]; rfl)
      obtain ⟨b, off, rfl, hbb, hcc⟩ := R7.out.2 (by omega)
      have x0 := hcc 0 (by omega)
      have HE : Hid (TS.getD 0 0 = lsV N) := Lib.hid (by
        rw [HLV.out]
        cases hL : TS with
        | nil => rw [hL] at hl0; exact absurd rfl hl0
        | cons a b => rfl)
      have hpos : (0 : Int) < (TS.length : Int) := by omega
      have hpos2 : 0 < TS.length := by omega
      rw [Nat.add_zero] at x0
      clear hcc hl0
      generalize TS.getD 0 0 = z at *
      go_wp2
      go_ret
      exact ⟨ret_i64 HE.out, B7.out⟩
end Go.Proofs.YtgpocnapkflihaaDoor
