/- A net copied, by the model. SwappedSeq of the program and of the model. The net of an axiom, of the model. -/
import Derived.Test.YtgpocnapkflihaaGreatDoorNetY
import Derived.Test.YtgpocnapkflihaaGreatDoorNetC
import Derived.Test.YtgpocnapkflihaaGreatDoorQCopyS
import Derived.Test.YtgpocnapkflihaaGreatDoorQMath
import Derived.Maps.AppendAt
import Derived.Deep.RegionHeld3
import Derived.BigRegion
import Derived.Laws.ResultCell
import Derived.Deep.RegionHeldLaw
namespace Go.Proofs.YtgpocnapkflihaaGreatDoor
set_option linter.unusedSimpArgs false
set_option linter.unusedVariables false
section
open Go.ChangeAt Go.ChangeShapes Go.RowKit Go.WideShapes

set_option maxHeartbeats 1000000 in
theorem copyInts_nil (A : Option Addr) (c : Nat) (w : World) : Calls Tryz.prog 57 #[.slice A 0 c] w (Gives w []) := by
  obtain ⟨i0, hi0, hz0, hz1, hz2⟩ := info_parts info_i64
  have hb0 : Below w.heap.size w (w.alloc (.cells #[] 2)) := (Below.refl _ _).alloc (Nat.le_refl _) _
  have H0 := Lib.hid (World.ownsRow_made (e := 2) (base := w.heap.size) (size := 1) w #[] 0 (Nat.le_refl _) (by simp [maxLen]) rfl)
  have HB0 := Lib.hid hb0
  have HI := Lib.hid hi0; have HZ0 := Lib.hid hz0; have HZ1 := Lib.hid hz1; have HZ2 := Lib.hid hz2
  clear hb0 hi0 hz0 hz1 hz2
  cases A with
  | none =>
    go_enter Tryz.func57, Tryz.ntmps57
    go_wp2
    go_ret
    exact ⟨_, _, rfl, H0.out, HB0.out⟩
  | some ad =>
    go_enter Tryz.func57, Tryz.ntmps57
    go_wp2_with (at_builtin; refine wpList_append_own _ rfl _ _ 24 rfl w.heap.size 2 i0 (.int .i64 0) 1 8 Tryz.underlying24 HI.out HZ0.out HZ1.out HZ2.out rfl (by decide) _ _ _ rfl H0.out ad 0 c [] rfl rfl (by simp) (by simp) (by simp [maxLen]) (by simp) HB0.out.size ?_; intro v2 w2 hown2 hgrow2 _; obtain ⟨A2, c2, rfl⟩ := own_shape hown2; have HO := Lib.hid hown2; have HB := Lib.hid (HB0.out.grown hgrow2 HB0.out.size (fun q hq => (H0.out.lt q hq).1)); clear hown2 hgrow2)
    go_ret
    exact ⟨_, _, rfl, HO.out, HB.out⟩
theorem copyInts_x (A : Option Addr) (n c : Nat) (zs : List Int) (w : World) (h : RdI w w.heap.size A n zs) (hn : n ≤ 1000) : Calls Tryz.prog 57 #[.slice A n c] w (Gives w zs) := by
  have hl := h.len
  by_cases h0 : n = 0
  · subst h0
    obtain rfl : zs = [] := List.eq_nil_of_length_eq_zero hl
    exact copyInts_nil A c w
  · exact copyInts_any (.slice A n c) zs w (Part.of_rd h (by omega)) (by omega)
/-- An append of perhaps nothing, within a region that draws: where the row lies behind it. -/
theorem step_at {P : Program} {w : World} {ops : Array Oper} {o : Oper} {a : Act} {K : Act → World → Prop} {Q : Exit → Act → World → Prop} {E : Prop} (hgd : o.guard = none) (s x : Operand) (t : TypeId)
    (ho : o.op = .call { callee := .builtin .append, args := #[s, x], argTypes := #[t, t] })
    (lo : Nat) (ty : TypeId) (i : TypeInfo) (z : Value) (size bytes : Nat) (ht : P.underlying t = some (.slice ty)) (hi : P.info? ty = some i) (hz : i.zero = some z) (h4 : i.size = size) (h5 : i.bytes = bytes) (h6 : z.cells.size = size) (h7 : 0 < size)
    (v : Value) (n : Nat) (xs : List Value) (hs : a.eval s = v) (own : w.ownsRow lo ty size v n xs)
    (ad : Addr) (m c : Nat) (ys : List Value) (hx : a.eval x = .slice (some ad) m c) (hl : ys.length = m * size) (hy : ∀ j u, ys[j]? = some u → w.cell? (ad.add j) = some u) (h1 : ∀ u ∈ ys, u.oneCell' = true)
    (h8 : n + m ≤ maxLen) (h9 : (n + m) * bytes ≤ 140737488355328) (hlo : lo ≤ w.heap.size)
    (h : ∀ v' w', w'.ownsRow lo ty size v' (n + m) (xs ++ ys) → w.grownBy w' v.ownBlock → (v'.ownBlock = v.ownBlock ∨ v'.ownBlock = some w.heap.size) → K (a.put o.dst v') w') :
    if Region.wanted o (yielded ops a.tmps) = true then Oper.wp P o a w K Q else E := by
  rw [if_pos (show Region.wanted o (yielded ops a.tmps) = true by simp [Region.wanted, hgd])]
  obtain ⟨v', w', hr, k1, k2, _, k3⟩ := run_append_own_at (P := P) w lo t o.type ty i z size bytes ht hi hz h4 h5 h6 h7 v n xs own ad m c ys hl hy h1 h8 h9 hlo
  unfold Oper.wp execOp
  simp only [ho, resolve, invoke, builtin, Sem.run_bind, Sem.run_pure, Result.andThen_ok, List.map_toArray, List.map_cons, List.map_nil, hs, hx, hr]
  exact h v' w' k1 k2 k3
/-- A net made of parts that lie apart. -/
theorem OwnN.mk3 {w : World} {lo hi m0 m1 m2 : Nat} {h : NH} {N : Nt} (hq : OwnQ w m0 m1 (.slice h.A N.w.length h.c) h.hs N.w) (hl : w.ownsRow lo 54 4 (.slice h.L N.l.length h.d) N.l.length ((flL N.l).map (Value.int .i64)))
    (hlb : ∀ b, (Value.slice h.L N.l.length h.d).ownBlock = some b → (b < m0 ∨ m1 ≤ b) ∧ b < m2) (hc : w.ownsRow m2 2 1 (.slice h.C N.c.length h.e) N.c.length (N.c.map (Value.int .i64))) (h0 : lo ≤ m0) (h1 : m1 ≤ m2) (h2 : lo ≤ m2) (h3 : w.heap.size ≤ hi) (h4 : m2 ≤ hi) : OwnN w lo hi h N where
  q := hq.more h0 (by omega)
  l := hl
  c := hc.mono h2
  lt b e := by have := (hlb b e).2; omega
  ct b e := by have := (hc.lt b e).2; omega
  lq b e := by
    have h5 := (hlb b e).1
    refine ⟨fun e2 => ?_, fun i hi e2 => ?_⟩
    · have := hq.top0 b e2; have := (hq.outer.lt b e2).1; omega
    · have := hq.top i b hi e2; have := ((hq.inner i hi).lt b e2).1; omega
  cq b e := by
    have h5 := (hc.lt b e).1
    exact ⟨fun e2 => by have := hq.top0 b e2; omega, fun i hi e2 => by have := hq.top i b hi e2; omega⟩
  lc b e := fun e2 => by have := (hlb b e).2; have := (hc.lt b e2).1; omega
/-- The wires and the links that have been copied. -/
def WL (w0 u : World) (A : Option Addr) (c : Nat) (hs : Nat → Option Addr × Nat) (ws : List (List Int)) (L : Option Addr) (d : Nat) (ls : List Lk) : Prop :=
  ∃ m0 m1, OwnQ u m0 m1 (.slice A ws.length c) hs ws ∧ u.ownsRow w0.heap.size 54 4 (.slice L ls.length d) ls.length ((flL ls).map (Value.int .i64)) ∧ (∀ b, (Value.slice L ls.length d).ownBlock = some b → b < m0 ∨ m1 ≤ b) ∧ w0.heap.size ≤ m0 ∧ m1 ≤ u.heap.size
theorem WL.net {w0 u u' : World} {A L C : Option Addr} {c d e0 : Nat} {hs : Nat → Option Addr × Nat} {ws : List (List Int)} {ls : List Lk} {cs : List Int} (h : WL w0 u A c hs ws L d ls) (hc : u'.ownsRow u.heap.size 2 1 (.slice C cs.length e0) cs.length (cs.map (Value.int .i64))) (hb : Below u.heap.size u u') (h0 : w0.heap.size ≤ u.heap.size) :
    OwnN u' w0.heap.size u'.heap.size ⟨A, c, hs, L, d, C, e0⟩ ⟨ws, ls, cs⟩ := by
  obtain ⟨m0, m1, q, l, lb, h1, h2⟩ := h
  exact OwnN.mk3 (m0 := m0) (m1 := m1) (m2 := u.heap.size) (h := ⟨A, c, hs, L, d, C, e0⟩) (N := ⟨ws, ls, cs⟩) (q.below hb) (own_below l hb (Nat.le_refl _)) (fun b e => ⟨lb b e, (l.lt b e).2⟩) hc h1 h2 h0 (Nat.le_refl _) hb.size
/-- The links appended behind the wires. -/
theorem WL.mk1 {w0 u1 u3 : World} {A L : Option Addr} {c d : Nat} {hs : Nat → Option Addr × Nat} {ws : List (List Int)} {ls : List Lk} (q : OwnQ u1 w0.heap.size u1.heap.size (.slice A ws.length c) hs ws) (hb : w0.heap.size ≤ u1.heap.size)
    (l : u3.ownsRow u1.heap.size 54 4 (.slice L ls.length d) ls.length ((flL ls).map (Value.int .i64))) (g : Below u1.heap.size u1 u3) : WL w0 u3 A c hs ws L d ls :=
  ⟨w0.heap.size, u1.heap.size, q.below g, l.mono hb, fun b e => .inr (l.lt b e).1, Nat.le_refl _, g.size⟩
theorem WL.mk2 {w0 u1 u3 : World} {A L : Option Addr} {c d E : Nat} {hs : Nat → Option Addr × Nat} {ws : List (List Int)} {ls : List Lk} (hE : E = w0.heap.size) (q : OwnQ u1 (E + 1) u1.heap.size (.slice A ws.length c) hs ws)
    (l : u3.ownsRow w0.heap.size 54 4 (.slice L ls.length d) ls.length ((flL ls).map (Value.int .i64))) (hl : (Value.slice L ls.length d).ownBlock = some E ∨ (Value.slice L ls.length d).ownBlock = some u1.heap.size) (g : u1.grownBy u3 (some E)) : WL w0 u3 A c hs ws L d ls :=
  ⟨E + 1, u1.heap.size, q.same (fun k h1 _ h3 => g.block k h3 (fun e => by injection e with e; omega)), l, fun b e => by
    rcases hl with h | h
    · rw [h] at e; injection e with e; omega
    · rw [h] at e; injection e with e; omega, by omega, g.size⟩
-- OWN
theorem keep3 {u : World} {b : Nat} {v0 v1 v2 : Value} {a0 a1 a2 : Option Value} (h : u.cell? ⟨b, 0, none⟩ = a0 ∧ u.cell? ⟨b, 1, none⟩ = a1 ∧ u.cell? ⟨b, 2, none⟩ = a2) :
    (((u.setCell ⟨b + 1, 0, none⟩ v0).setCell ⟨b + 1, 1, none⟩ v1).setCell ⟨b + 1, 2, none⟩ v2).cell? ⟨b, 0, none⟩ = a0 ∧ (((u.setCell ⟨b + 1, 0, none⟩ v0).setCell ⟨b + 1, 1, none⟩ v1).setCell ⟨b + 1, 2, none⟩ v2).cell? ⟨b, 1, none⟩ = a1 ∧ (((u.setCell ⟨b + 1, 0, none⟩ v0).setCell ⟨b + 1, 1, none⟩ v1).setCell ⟨b + 1, 2, none⟩ v2).cell? ⟨b, 2, none⟩ = a2 := by
  have e : ∀ o, (((u.setCell ⟨b + 1, 0, none⟩ v0).setCell ⟨b + 1, 1, none⟩ v1).setCell ⟨b + 1, 2, none⟩ v2).cell? ⟨b, o, none⟩ = u.cell? ⟨b, o, none⟩ := fun o => by
    rw [World.cell?_setCell_far _ _ _ _ (by show b + 1 ≠ b; omega), World.cell?_setCell_far _ _ _ _ (by show b + 1 ≠ b; omega), World.cell?_setCell_far _ _ _ _ (by show b + 1 ≠ b; omega)]
  rw [e, e, e]; exact h
theorem two_any' (w : World) (o p : Obj) : Below w.heap.size w ((w.alloc o).alloc p) ∧ ((w.alloc o).alloc p).heap[w.heap.size]? = some o ∧ ((w.alloc o).alloc p).heap[w.heap.size + 1]? = some p ∧ ((w.alloc o).alloc p).heap.size = w.heap.size + 1 + 1 := by
  obtain ⟨h0, h1⟩ := two_heap w o p
  exact ⟨((Below.refl _ _).alloc (Nat.le_refl _) _).alloc (by simp) _, h0, h1, by simp⟩
theorem own_shape4 {w : World} {base n : Nat} {e : TypeId} {v : Value} {xs : List Value} (h : w.ownsRow base e 4 v n xs) : ∃ A c, v = .slice A n c := by
  rcases h.2 with ⟨rfl, rfl⟩ | ⟨g, cap, cur, rfl, _⟩
  · exact ⟨_, _, rfl⟩
  · exact ⟨_, _, rfl⟩
theorem news_links {w : World} {B bl offl : Nat} {ls : List Lk} (h : RdL w B (some ⟨bl, offl, none⟩) ls.length ls) : ∀ j u, ((flL ls).map (Value.int .i64))[j]? = some u → w.cell? ((⟨bl, offl, none⟩ : Addr).add j) = some u := fun j u hu => by
  have hl := h.2.1
  by_cases hj : j < ls.length * 4
  · obtain ⟨b, off, e, _, hc⟩ := h.2.2 (by omega)
    injection e with e
    injection e with e1 e2 _
    subst e1 e2
    have ha : (⟨bl, offl, none⟩ : Addr).add j = ⟨bl, offl + j, none⟩ := by unfold Addr.add; split <;> simp_all
    rw [ha, hc j hj]
    rw [← hu]
    simp [List.getD, hl, hj]
  · rw [List.getElem?_eq_none (by rw [List.length_map, hl]; omega)] at hu
    cases hu
theorem empty_own {w u : World} {t : TypeId} {size : Nat} (hb : Below (w.heap.size + 1) (w.alloc (.cells #[] t)) u) : u.ownsRow w.heap.size t size (.slice (some ⟨w.heap.size, 0, none⟩) 0 0) 0 [] :=
  own_below (World.ownsRow_made w #[] 0 (Nat.le_refl _) (by simp [maxLen]) (by simp)) hb (by simp)
theorem own_done {w w0 u : World} {N : Nt} {h : NH} (hb : Below w.heap.size w w0) (b4 : Below w0.heap.size w0 u) (o : OwnN u w0.heap.size u.heap.size h N) (hs : w.heap.size + 2 ≤ w0.heap.size) :
    CopiedN w N (.returned (.agg #[.slice h.A N.w.length h.c, .slice h.L N.l.length h.d, .slice h.C N.c.length h.e])) ((((u.setCell ⟨w.heap.size + 1, 0, none⟩ (.slice h.A N.w.length h.c)).setCell ⟨w.heap.size + 1, 1, none⟩ (.slice h.L N.l.length h.d)).setCell ⟨w.heap.size + 1, 2, none⟩ (.slice h.C N.c.length h.e))) :=
  ⟨h, rfl, (own_setN (own_setN (own_setN o (by omega) _) (by omega) _) (by omega) _).more (by omega) (by simp), set3_below (hb.trans (b4.mono hb.size)) (by omega) _ _ _⟩
end
section
open Go.ChangeShapes Go.WideShapes Go.ChangeAt Go.RowKit

theorem results_cell_row_tmp {P : Program} {fn : Func} {p u : Tmp} {ty : TypeId} (h : fn.results = #[.cell p ty, .tmp u]) (tmps : Array Value) (w : World) (g : Nat) (t : TypeId) (cs : Array Value) (fr : Nat × Nat) (d : TypeDesc)
    (hp : tmps.getD p undef = .pointer (some ⟨g, 0, none⟩)) (hg : w.heap[g]? = some (.cells cs t fr))
    (hu : P.underlying ty = some d) (hd : (match d with | .struct _ | .array _ _ => true | _ => false) = true) (hi : (P.info? ty).map (·.size) = some cs.size) :
    (results fn tmps).run P w = .ok (.tuple #[.agg cs, tmps.getD u undef]) w := by
  have hp' : tmps[p]?.getD undef = .pointer (some ⟨g, 0, none⟩) := by simpa using hp
  rw [results_cell_tmp h]
  simp [hp', asAddr, run_loadVar_row w g t ty cs fr d hg hu hd hi, Result.andThen]
end
section
open Go.ChangeAt Go.ChangeShapes Go.RowKit Go.WideShapes

def axN (f : List Int) : Nt := ⟨[f, f.map duZ], [⟨1, 0, 1, 0⟩], [0, 1]⟩
/-- AxiomNet. -/
def axV (f : List Int) : Nt := if formN f then axN f else Nt.nil
/-- A row written out. -/
theorem own_lit {w : World} {base n size : Nat} {e : TypeId} (cur : Array Value) (hb : base ≤ w.heap.size) (hm : n ≤ maxLen) (hs : cur.size = n * size) : (w.alloc (.cells cur e)).ownsRow base e size (.slice (some ⟨w.heap.size, 0, none⟩) n n) n cur.toList :=
  ⟨by simpa using hs, .inr ⟨w.heap.size, n, cur, rfl, hb, heap_alloc_new w _, Nat.le_refl _, hm, hs, by rw [← hs]; simp [List.take_of_length_le]⟩⟩
/-- Two slices in memory of their own, in a row. -/
theorem OwnQ.two {u1 u2 : World} {lo : Nat} {A1 A2 : Option Addr} {c1 c2 : Nat} {p q : List Int} (o1 : u1.ownsRow lo 2 1 (.slice A1 p.length c1) p.length (p.map (Value.int .i64))) (o2 : u2.ownsRow u1.heap.size 2 1 (.slice A2 q.length c2) q.length (q.map (Value.int .i64))) (hb : Below u1.heap.size u1 u2) (hlo : lo ≤ u1.heap.size) :
    OwnQ (u2.alloc (.cells #[.slice A1 p.length c1, .slice A2 q.length c2] 24)) lo (u2.heap.size + 1) (.slice (some ⟨u2.heap.size, 0, none⟩) 2 2) (fun i => if i = 0 then (A1, c1) else (A2, c2)) [p, q] := by
  have hb2 : Below u2.heap.size u2 (u2.alloc (.cells #[.slice A1 p.length c1, .slice A2 q.length c2] 24)) := (Below.refl _ _).alloc (Nat.le_refl _) _
  have s1 := hb.size
  have e1 := own_below (own_below o1 hb (Nat.le_refl _)) hb2 (Nat.le_refl _)
  have e2 := (own_below o2 hb2 (Nat.le_refl _)).mono hlo
  refine ⟨own_lit #[.slice A1 p.length c1, .slice A2 q.length c2] (by omega) (by simp [maxLen]) rfl, ?_, ?_, ?_, ?_, ?_⟩
  · intro i hi
    match i, hi with
    | 0, _ => exact e1
    | 1, _ => exact e2
  · intro i j hi hj hne
    match i, j, hi, hj with
    | 0, 0, _, _ => exact absurd rfl hne
    | 1, 1, _, _ => exact absurd rfl hne
    | 0, 1, _, _ =>
      by_cases h : (Value.slice A1 p.length c1).ownBlock = none
      · exact .inl h
      · refine .inr fun e => ?_
        obtain ⟨k, hk⟩ := Option.ne_none_iff_exists'.1 h
        have h1 := (o1.lt k hk).2
        have h2 := (o2.lt k (e.symm.trans hk)).1
        omega
    | 1, 0, _, _ =>
      by_cases h : (Value.slice A2 q.length c2).ownBlock = none
      · exact .inl h
      · refine .inr fun e => ?_
        obtain ⟨k, hk⟩ := Option.ne_none_iff_exists'.1 h
        have h1 := (o2.lt k hk).1
        have h2 := (o1.lt k (e.symm.trans hk)).2
        omega
  · intro i hi
    match i, hi with
    | 0, _ =>
      by_cases h : (Value.slice A1 p.length c1).ownBlock = none
      · exact .inl h
      · refine .inr fun e => ?_
        obtain ⟨k, hk⟩ := Option.ne_none_iff_exists'.1 h
        have h1 := (o1.lt k hk).2
        have h2 : k = u2.heap.size := by have := e.symm.trans hk; injection this with this; exact this.symm
        omega
    | 1, _ =>
      by_cases h : (Value.slice A2 q.length c2).ownBlock = none
      · exact .inl h
      · refine .inr fun e => ?_
        obtain ⟨k, hk⟩ := Option.ne_none_iff_exists'.1 h
        have h1 := (o2.lt k hk).2
        have h2 : k = u2.heap.size := by have := e.symm.trans hk; injection this with this; exact this.symm
        omega
  · intro k e
    obtain rfl : u2.heap.size = k := by simpa [Value.ownBlock] using e
    omega
  · intro i k hi e
    match i, hi, e with
    | 0, _, e => have := (o1.lt k e).2; omega
    | 1, _, e => have := (o2.lt k e).2; omega
theorem own_done0 {w w0 u : World} {N : Nt} {h : NH} (hb : Below w.heap.size w w0) (b4 : Below w0.heap.size w0 u) (o : OwnN u w0.heap.size u.heap.size h N) (hs : w.heap.size + 1 ≤ w0.heap.size) :
    CopiedN w N (.returned (.agg #[.slice h.A N.w.length h.c, .slice h.L N.l.length h.d, .slice h.C N.c.length h.e])) ((((u.setCell ⟨w.heap.size, 0, none⟩ (.slice h.A N.w.length h.c)).setCell ⟨w.heap.size, 1, none⟩ (.slice h.L N.l.length h.d)).setCell ⟨w.heap.size, 2, none⟩ (.slice h.C N.c.length h.e))) :=
  ⟨h, rfl, (own_setN (own_setN (own_setN o (by omega) _) (by omega) _) (by omega) _).more (by omega) (by simp), set3_below (hb.trans (b4.mono hb.size)) (by omega) _ _ _⟩
theorem givesNB_of {w w' : World} {N : Nt} {v : Value} {b : Bool} (h : CopiedN w N (.returned v) w') : GivesNB w N b (.returned (.tuple #[v, .bool b])) w' := by
  obtain ⟨x, e, o, bel⟩ := h
  injection e with e
  subst e
  exact ⟨x, rfl, o, bel⟩
end
end Go.Proofs.YtgpocnapkflihaaGreatDoor
