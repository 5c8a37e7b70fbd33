/- A row of links appended to the links of a net in its box. -/
import Derived.Test.YtfanapddopafiaaDoorLdF
import Derived.Maps.AppendAt
namespace Go.Proofs.YtfanapddopafiaaDoor
set_option linter.unusedSimpArgs false
set_option linter.unusedVariables false
open Go.ChangeAt Go.ChangeShapes Go.RowKit Go.WideShapes

theorem wpList_append_eqn {P : Program} {w : World} {ops : Array Oper} {rest : List Oper} {o : Oper} {a : Act} {Q : Exit → Act → World → Prop} (hgd : o.guard = none) (s x : Operand) (t : TypeId)
    (ho : o.op = .call { callee := .builtin .append, args := #[s, x], argTypes := #[t, t] }) (v u : Value) (hs : a.eval s = v) (hx : a.eval x = u) {v' : Value} {w' : World}
    (hr : (Builtin.append_ #[t, t] o.type #[v, u]).run P w = .ok v' w') (h : wpList P ops Q rest (a.put o.dst v') w') : wpList P ops Q (o :: rest) a w := by
  refine wpList_plain hgd fun K hK => ?_
  unfold Oper.wp
  simp [execOp, ho, resolve, invoke, builtin, hs, hx, hr, Result.andThen]
  exact hK _ _ h
theorem own_cap4 {w : World} {base n c : Nat} {e : TypeId} {A : Option Addr} {xs : List Value} (h : w.ownsRow base e 4 (.slice A n c) n xs) : n ≤ c := by
  rcases h.2 with ⟨hv, rfl⟩ | ⟨g, cap, cur, hv, hb, hh, hn, hc, hs, ht⟩
  · exact Nat.zero_le _
  · injection hv with a1 a2 a3
    subst a3
    exact hn
theorem ints4_one (zs : List Int) : ∀ u ∈ zs.map (Value.int .i64), u.oneCell' = true := fun u hu => by
  obtain ⟨z, _, rfl⟩ := List.mem_map.1 hu
  rfl
theorem PlSt.pushRowL {wb wr : World} {sx : Nat} {h : NH} {M : Nt} {A8 : Option Addr} {c8 : Nat} {JO : List Lk} (p : PlSt wb wr wr sx h M h M) (o8 : wr.ownsRow wb.heap.size 71 4 (.slice A8 JO.length c8) JO.length ((flL JO).map (Value.int .i64))) (hn : M.l.length + JO.length ≤ 1048576) :
    ∃ L9 d9 w9, (Builtin.append_ #[29, 29] 29 #[.slice h.L M.l.length h.d, .slice A8 JO.length c8]).run Tryd.prog wr = .ok (.slice L9 (M.l ++ JO).length d9) w9 ∧
      PlSt wb wr (w9.setCell ⟨sx, 1, none⟩ (.slice L9 (M.l ++ JO).length d9)) sx h M ⟨h.A, h.c, h.hs, L9, d9, h.C, h.e⟩ ⟨M.w, M.l ++ JO, M.c⟩ ∧ w9.heap[sx]? = wr.heap[sx]? := by
  obtain ⟨i5, hi5, hz50, hz51, hz52⟩ := info_parts_link
  have hll : (M.l ++ JO).length = M.l.length + JO.length := List.length_append
  cases A8 with
  | none =>
    have h0 : JO.length = 0 := by
      rcases Nat.eq_zero_or_pos JO.length with e | e
      · exact e
      · obtain ⟨g, cap, hv, _⟩ := o8.form e
        simp at hv
    obtain rfl : JO = [] := List.length_eq_zero_iff.1 h0
    have hr := run_append_zero (P := Tryd.prog) wr 29 29 71 i5 Tryd.underlying29 hi5 h.L M.l.length h.d c8 (own_cap4 p.own.l)
    refine ⟨h.L, h.d, wr, by rw [List.append_nil]; exact hr, ?_, rfl⟩
    exact p.pushL (u := wr) (Below.refl _ _) (by rw [List.append_nil]; exact p.own.l) ⟨rfl, rfl, rfl, Nat.le_refl _, fun _ _ _ => rfl⟩ (.inl (by rw [List.append_nil]))
  | some ad =>
    have hsrc : ∀ j u, ((flL JO).map (Value.int .i64))[j]? = some u → wr.cell? (ad.add j) = some u := fun j u hu => by
      have hj := (List.getElem?_eq_some_iff.1 hu).1
      rw [List.length_map, flL_len] at hj
      obtain ⟨g, cap, hv, _⟩ := o8.form (by omega)
      have a : ad = ⟨g, 0, none⟩ := by simpa using congrArg (fun v => match v with | Value.slice (some q) _ _ => q | _ => ad) hv
      subst a
      have ea : (⟨g, 0, none⟩ : Addr).add j = ⟨g, j, none⟩ := by simp [Addr.add]; omega
      rw [ea, o8.cellAt (g := g) j (by omega)]
      exact hu
    obtain ⟨v', w', hr, hown, hgrow, _, hat⟩ := run_append_own_at (P := Tryd.prog) wr wb.heap.size 29 29 71 i5 (.agg #[.int .i64 0, .int .i64 0, .int .i64 0, .int .i64 0]) 4 32 Tryd.underlying29 hi5 hz50 hz51 hz52 rfl (by decide) _ _ _ p.own.l ad JO.length c8 ((flL JO).map (Value.int .i64)) (by rw [List.length_map, flL_len]) hsrc (ints4_one _) (by unfold maxLen; omega) (by omega) p.bel.size
    rw [← hll] at hown
    obtain ⟨L9, d9, rfl⟩ := own_shape4w hown
    have hown2 : w'.ownsRow wb.heap.size 71 4 (.slice L9 (M.l ++ JO).length d9) (M.l ++ JO).length ((flL (M.l ++ JO)).map (Value.int .i64)) := by rw [flL_appw, List.map_append]; exact hown
    refine ⟨L9, d9, w', hr, p.pushL (u := wr) (Below.refl _ _) hown2 hgrow hat, ?_⟩
    exact hgrow.block sx p.sxl (fun e2 => (p.far sx p.sxl p.sxf).l e2.symm)
end Go.Proofs.YtfanapddopafiaaDoor
