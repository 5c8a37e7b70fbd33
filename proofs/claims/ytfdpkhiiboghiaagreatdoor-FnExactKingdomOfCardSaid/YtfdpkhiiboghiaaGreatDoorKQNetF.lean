/- A net that came in, opened. Laws over nets: sizes, marks. The program's usesFit. The program's formOf. -/
import Derived.Test.YtfdpkhiiboghiaaGreatDoorKQSeqV
import Derived.Test.YtfdpkhiiboghiaaGreatDoorKQFrag
import Derived.Deep.Slices
import Derived.Test.YtfdpkhiiboghiaaGreatDoorKQPgA
import Derived.Test.YtfdpkhiiboghiaaGreatDoorKQNetZ
namespace Go.Proofs.YtfdpkhiiboghiaaGreatDoor
set_option linter.unusedSimpArgs false
set_option linter.unusedVariables false
section
open Go.ChangeShapes Go.WideShapes Go.ChangeAt Go.RowKit

theorem array_three {α : Type} {cs : Array α} (h : cs.size = 3) : ∃ c0 c1 c2, cs = #[c0, c1, c2] := by
  obtain ⟨l⟩ := cs
  match l, h with
  | [c0, c1, c2], _ => exact ⟨c0, c1, c2, rfl⟩
theorem open_agg3 {H : Type} {enc : TypeId × Value → H} {P : Program} {w : World} {base : Nat} {spare : Nat → Bool} {held : Bool} {r : Reach} {b0 : Nat} {t : TypeId} {f0 f1 f2 : Field} {v : Value} {d : DataW H} {p : List MemPlace} (hs : P.underlying t = some (.struct #[f0, f1, f2]))
    (o0 : f0.offset = 0) (o1 : f1.offset = 1) (o2 : f2.offset = 2) (k0 : P.cellsOf f0.type = 1) (k1 : P.cellsOf f1.type = 1) (k2 : P.cellsOf f2.type = 1)
    (hC : P.cellsOf t = 3) (hv : Value.okWide P w r b0 t v) (h : DataW.Trod enc P w base spare held t v d p) :
    ∃ (v0 v1 v2 : Value) (n : Nat) (y0 y1 y2 : DataW H × List MemPlace), v = .agg #[v0, v1, v2] ∧ DataW.trod enc P w base spare held n f0.type [v0] = some y0 ∧ DataW.trod enc P w base spare held n f1.type [v1] = some y1 ∧ DataW.trod enc P w base spare held n f2.type [v2] = some y2 := by
  obtain ⟨cs, rfl, hsz⟩ := okWide_struct hs hv
  obtain ⟨c0, c1, c2, rfl⟩ := array_three (hsz.trans hC)
  obtain ⟨fuel, hf⟩ := h
  obtain ⟨xs, n, _, _, _, hlen, hx⟩ := DataW.trod_struct hs hf
  match xs, hlen with
  | [y0, y1, y2], _ =>
    exact ⟨c0, c1, c2, n, y0, y1, y2, rfl, by simpa [Value.cells, o0, k0] using hx 0 f0 rfl, by simpa [Value.cells, o1, k1] using hx 1 f1 rfl, by simpa [Value.cells, o2, k2] using hx 2 f2 rfl⟩
theorem list_four {α : Type} {l : List α} (h : l.length = 4) : ∃ c0 c1 c2 c3, l = [c0, c1, c2, c3] := by
  match l, h with
  | [c0, c1, c2, c3], _ => exact ⟨c0, c1, c2, c3, rfl⟩
theorem trod_four {H : Type} {enc : TypeId × Value → H} {P : Program} {w : World} {base fuel : Nat} {spare : Nat → Bool} {held : Bool} {t : TypeId} {f0 f1 f2 f3 : Field} {cs : List Value} {x : DataW H × List MemPlace} (hs : P.underlying t = some (.struct #[f0, f1, f2, f3]))
    (o0 : f0.offset = 0) (o1 : f1.offset = 1) (o2 : f2.offset = 2) (o3 : f3.offset = 3) (k0 : P.cellsOf f0.type = 1) (k1 : P.cellsOf f1.type = 1) (k2 : P.cellsOf f2.type = 1) (k3 : P.cellsOf f3.type = 1)
    (hC : P.cellsOf t = 4) (h : DataW.trod enc P w base spare held fuel t cs = some x) :
    ∃ (v0 v1 v2 v3 : Value) (n : Nat) (y0 y1 y2 y3 : DataW H × List MemPlace), cs = [v0, v1, v2, v3] ∧ DataW.trod enc P w base spare held n f0.type [v0] = some y0 ∧ DataW.trod enc P w base spare held n f1.type [v1] = some y1 ∧
      DataW.trod enc P w base spare held n f2.type [v2] = some y2 ∧ DataW.trod enc P w base spare held n f3.type [v3] = some y3 := by
  obtain ⟨xs, n, _, _, hcl, hlen, hx⟩ := DataW.trod_struct hs h
  obtain ⟨c0, c1, c2, c3, rfl⟩ := list_four (hcl.trans hC)
  match xs, hlen with
  | [y0, y1, y2, y3], _ =>
    exact ⟨c0, c1, c2, c3, n, y0, y1, y2, y3, rfl, by simpa [o0, k0] using hx 0 f0 rfl, by simpa [o1, k1] using hx 1 f1 rfl, by simpa [o2, k2] using hx 2 f2 rfl, by simpa [o3, k3] using hx 3 f3 rfl⟩
set_option maxRecDepth 100000 in
/-- The four cells of a link that came in. -/
theorem cells_link {H : Type} {enc : TypeId × Value → H} {W : World} {fuel : Nat} {cs : List Value} {x : DataW H × List MemPlace} (h : DataW.trod enc Tryz.prog W 0 (fun _ => true) true fuel 112 cs = some x) :
    ∃ l : Lk, cs = [.int .i64 l.k, .int .i64 l.a, .int .i64 l.b, .int .i64 l.c] := by
  have e := trod_four (P := Tryz.prog) (w := W) (enc := enc) (base := 0) (spare := fun _ => true) (held := true) (cs := cs) (x := x) (fuel := fuel) Tryz.underlying112 (by kernel_rfl) (by kernel_rfl) (by kernel_rfl) (by kernel_rfl) (by kernel_rfl) (by kernel_rfl) (by kernel_rfl) (by kernel_rfl) (by kernel_rfl)
  obtain ⟨v0, v1, v2, v3, n, y0, y1, y2, y3, rfl, h0, h1, h2, h3⟩ := e h
  obtain ⟨r, e0, _, _⟩ := DataW.trod_int Tryz.underlying2 h0
  obtain ⟨a, e1, _, _⟩ := DataW.trod_int Tryz.underlying2 h1
  obtain ⟨b, e2, _, _⟩ := DataW.trod_int Tryz.underlying2 h2
  obtain ⟨i, e3, _, _⟩ := DataW.trod_int Tryz.underlying2 h3
  obtain rfl : v0 = _ := List.singleton_inj.1 e0
  obtain rfl : v1 = _ := List.singleton_inj.1 e1
  obtain rfl : v2 = _ := List.singleton_inj.1 e2
  obtain rfl : v3 = _ := List.singleton_inj.1 e3
  exact ⟨⟨r, a, b, i⟩, rfl⟩
theorem addN {b off : Nat} {m : Nat} : (⟨b, off, none⟩ : Addr).add m = ⟨b, off + m, none⟩ := by
  unfold Addr.add
  split <;> simp_all
instance : Inhabited Lk := ⟨Lk.nil⟩
/-- The row of links made of its cells. -/
theorem rdl_of {w : World} {B b off : Nat} {ls : List Lk} (hb : b < B) (hc : ∀ i, i < ls.length → w.cell? ⟨b, off + i * 4, none⟩ = some (.int .i64 (ls.getD i Lk.nil).k) ∧ w.cell? ⟨b, off + i * 4 + 1, none⟩ = some (.int .i64 (ls.getD i Lk.nil).a) ∧ w.cell? ⟨b, off + i * 4 + 2, none⟩ = some (.int .i64 (ls.getD i Lk.nil).b) ∧ w.cell? ⟨b, off + i * 4 + 3, none⟩ = some (.int .i64 (ls.getD i Lk.nil).c)) :
    RdL w B (some ⟨b, off, none⟩) ls.length ls := by
  refine ⟨rfl, flL_len ls, fun _ => ⟨b, off, rfl, hb, fun j hj => ?_⟩⟩
  have h4 : j / 4 < ls.length := by omega
  obtain ⟨c0, c1, c2, c3⟩ := hc (j / 4) h4
  obtain ⟨f0, f1, f2, f3⟩ := flL_at ls (j / 4) h4
  have : j = j / 4 * 4 ∨ j = j / 4 * 4 + 1 ∨ j = j / 4 * 4 + 2 ∨ j = j / 4 * 4 + 3 := by omega
  rcases this with e | e | e | e
  · rw [e, f0]; exact c0
  · rw [e, f1, ← Nat.add_assoc]; exact c1
  · rw [e, f2, ← Nat.add_assoc]; exact c2
  · rw [e, f3, ← Nat.add_assoc]; exact c3
/-- A slice of links that came in. -/
theorem open_links {H : Type} {enc : TypeId × Value → H} {W : World} {fuel : Nat} {v : Value} {x : DataW H × List MemPlace}
    (hf : DataW.trod enc Tryz.prog W 0 (fun _ => true) true fuel 23 [v] = some x) : ∃ a n c ls, v = .slice a n c ∧ RdL W W.heap.size a n ls ∧ n ≤ c ∧ n ≤ maxLen := by
  have c4 : Tryz.prog.cellsOf 112 = 4 := by kernel_rfl
  rcases DataW.trod_slice Tryz.underlying23 hf with ⟨hcs, _⟩ | ⟨x, l, c, elems, rest, n, _, hcs, _, _, hl, hm, hlen, hel, _⟩
  · obtain rfl : v = .slice none 0 0 := by simpa using hcs
    exact ⟨none, 0, 0, [], rfl, RdL.nil _ _ _, Nat.le_refl _, Nat.zero_le _⟩
  · obtain rfl : v = .slice (some x) l c := by simpa using hcs
    rw [c4] at hel
    have each : ∀ i, i < l → ∃ y : Lk, ∀ t, t < 4 → W.cell? ((x.add (i * 4)).add t) = [Value.int .i64 y.k, .int .i64 y.a, .int .i64 y.b, .int .i64 y.c][t]? := by
      intro i hi
      have he := hel i hi
      rw [List.getElem?_eq_getElem (by omega)] at he
      obtain ⟨cs, hc, ht⟩ := Option.bind_eq_some_iff.1 he
      obtain ⟨s, rfl⟩ := cells_link ht
      obtain ⟨_, hcl, hcc⟩ := World.cells?_some hc
      exact ⟨s, fun t ht => hcc t ht⟩
    obtain ⟨y, hy⟩ := Go.Deep.choose_lt each
    by_cases hn : 0 < l
    · obtain ⟨b, off, spot⟩ := x
      have h0 := hy 0 hn 0 (by omega)
      have hs : spot = none := by
        have : W.cell? ((⟨b, off, spot⟩ : Addr).add (0 * 4) |>.add 0) = some (.int .i64 (y 0).k) := h0
        simpa [Addr.add] using World.cell?_spot this
      subst hs
      have hlt : b < W.heap.size := by
        have : W.cell? ((⟨b, off, none⟩ : Addr).add (0 * 4) |>.add 0) = some (.int .i64 (y 0).k) := h0
        have := World.block_lt_of_cell? W _ this
        rw [addN, addN] at this
        exact this
      have hle : ((List.range l).map y).length = l := by simp
      have key := rdl_of (w := W) (b := b) (off := off) (ls := (List.range l).map y) hlt (fun k hk => by
        rw [hle] at hk
        have e : ((List.range l).map y).getD k Lk.nil = y k := by simp [List.getD, hk]
        rw [e]
        have gt : ∀ t, t < 4 → W.cell? ⟨b, off + k * 4 + t, none⟩ = [Value.int .i64 (y k).k, .int .i64 (y k).a, .int .i64 (y k).b, .int .i64 (y k).c][t]? := fun t ht => by
          have := hy k hk t ht
          rw [addN, addN] at this
          exact this
        exact ⟨gt 0 (by omega), gt 1 (by omega), gt 2 (by omega), gt 3 (by omega)⟩)
      rw [hle] at key
      exact ⟨_, l, c, _, rfl, key, hl, by omega⟩
    · obtain rfl : l = 0 := by omega
      exact ⟨_, 0, c, [], rfl, RdL.nil _ _ _, hl, Nat.zero_le _⟩
set_option maxRecDepth 100000 in
/-- A net that came in. -/
theorem open_net {H : Type} {enc : TypeId × Value → H} {W : World} {base : Nat} {v : Value} {d : DataW H} {p : List MemPlace} (hv : Value.okWide Tryz.prog W .any base 26 v)
    (h : DataW.Trod enc Tryz.prog W 0 (fun _ => true) true 26 v d p) :
    ∃ (h : NH) (N : Nt), v = .agg #[.slice h.A N.w.length h.c, .slice h.L N.l.length h.d, .slice h.C N.c.length h.e] ∧ RdN W W.heap.size h N ∧ (N.w.length ≤ maxLen ∧ N.l.length ≤ maxLen ∧ N.c.length ≤ maxLen) ∧ ∀ q ∈ N.w, q.length ≤ maxLen := by
  have e := open_agg3 (r := .any) (b0 := base) (v := v) (d := d) (p := p) (P := Tryz.prog) (w := W) (enc := enc) (base := 0) (spare := fun _ => true) (held := true) Tryz.underlying26 (by kernel_rfl) (by kernel_rfl) (by kernel_rfl) (by kernel_rfl) (by kernel_rfl) (by kernel_rfl) (by kernel_rfl)
  obtain ⟨v0, v1, v2, n, y0, y1, y2, rfl, h0, h1, h2⟩ := e hv h
  obtain ⟨a, n0, c, qs, rfl, r0, _, m0, q0, _⟩ := open_rows h0
  obtain ⟨L, n1, d1, ls, rfl, r1, _, m1⟩ := open_links h1
  have hsl : ∃ A l c, v2 = .slice A l c ∧ l ≤ maxLen := by
    rcases open_ints Tryz.underlying24 Tryz.underlying2 (by kernel_rfl) h2 with ⟨hcs, _⟩ | ⟨x, l, c, zs, hcs, _, hl, hm, _⟩
    · exact ⟨none, 0, 0, List.singleton_inj.1 hcs, Nat.zero_le _⟩
    · exact ⟨some x, l, c, List.singleton_inj.1 hcs, by omega⟩
  obtain ⟨C, n2, e2, rfl, m2⟩ := hsl
  obtain ⟨f, r2, _, _⟩ := open_i64s (d := y2.1) (p := y2.2) ⟨n, by simpa [Value.cells] using h2⟩
  have l0 := r0.len; have l1 := r1.len; have l2 := r2.len
  subst l0 l1 l2
  exact ⟨⟨a, c, fun _ => (none, 0), L, d1, C, e2⟩, ⟨qs, ls, f⟩, rfl, ⟨r0, r1, r2⟩, ⟨m0, m1, m2⟩, q0⟩
/-- Too great, or within the laws' bound. -/
theorem sz_casesN (left : Int) (hl : left ≤ 1048576) (N : Nt) : szR left (nsz N) = -1 ∨ ∃ L, szR left (nsz N) = L ∧ 0 ≤ L ∧ L ≤ 1048576 ∧ N.w.length ≤ 1048576 ∧ total N.w ≤ 1048576 ∧ N.l.length ≤ 1048576 ∧ N.c.length ≤ 1048576 := by
  by_cases h : left - (nsz N : Nat) < 0
  · exact .inl (szR_neg h)
  · have hz : nsz N = N.w.length + total N.w + N.l.length + N.c.length := rfl
    exact .inr ⟨left - (nsz N : Nat), szR_pos h, by omega, by omega, by omega, by omega, by omega, by omega⟩
end
section
open Go.ChangeAt Go.ChangeShapes Go.RowKit Go.WideShapes

/-- A net no greater than the laws' bound. -/
structure SmallN (N : Nt) : Prop where
  w : N.w.length ≤ 1048576
  t : total N.w ≤ 1048576
  l : N.l.length ≤ 1048576
  c : N.c.length ≤ 1048576
/-- A net as great as any that came in. -/
structure GreatN (N : Nt) : Prop where
  w : N.w.length ≤ maxLen
  l : N.l.length ≤ maxLen
  c : N.c.length ≤ maxLen
  q : ∀ q ∈ N.w, q.length ≤ maxLen
theorem SmallN.q {N : Nt} (h : SmallN N) : ∀ q ∈ N.w, q.length ≤ 1048576 := fun _ hq => Nat.le_trans (mem_total hq) h.t
theorem SmallN.great {N : Nt} (h : SmallN N) : GreatN N := ⟨Nat.le_trans h.w (by decide), Nat.le_trans h.l (by decide), Nat.le_trans h.c (by decide), fun q hq => Nat.le_trans (h.q q hq) (by decide)⟩
theorem SmallN.tot {N : Nt} (h : SmallN N) : ntot N ≤ 6291456 := by
  have h1 := h.t; have h2 := h.l; have h3 := h.c
  unfold ntot; omega
theorem rd_mrk {w : World} {B : Nat} {h : NH} {k : Int} {N : Nt} (r : RdN w B h (mrkN k N)) : RdN w B h (mrkN k N) := r
end
section
set_option linter.unusedSimpArgs false
set_option linter.unusedVariables false
open Go.ChangeAt Go.ChangeShapes Go.RowKit Go.WideShapes

theorem eqItems_ints {P : Program} {e : TypeId} (he : P.underlying e = some (.int .i64)) (d n : Nat) (xs ys : List Int) (hx : xs.length = n) (hy : ys.length = n) (w : World) : ∀ is : List Nat, (∀ i ∈ is, i < n) →
    (Op.eqItems (d + 1) e 1 (xs.map (Value.int .i64)).toArray (ys.map (Value.int .i64)).toArray is).run P w = .ok (is.all fun i => xs.getD i 0 == ys.getD i 0) w
  | [], _ => by simp [Op.eqItems]
  | i :: is, h => by
    have hi : i < n := h i (by simp)
    have px : (part e (xs.map (Value.int .i64)).toArray (i * 1)).run P w = .ok (.int .i64 (xs.getD i 0)) w := by
      simp [part, isAgg, run_underlying he, List.getD, List.getElem?_eq_getElem (show i < xs.length by omega)]
    have py : (part e (ys.map (Value.int .i64)).toArray (i * 1)).run P w = .ok (.int .i64 (ys.getD i 0)) w := by
      simp [part, isAgg, run_underlying he, List.getD, List.getElem?_eq_getElem (show i < ys.length by omega)]
    have pe := run_equalIn_int w d e .i64 .i64 (xs.getD i 0) (ys.getD i 0) he
    have ih := eqItems_ints he d n xs ys hx hy w is fun j hj => h j (by simp [hj])
    simp only [Op.eqItems, Sem.run_bind, px, py, pe, Result.andThen_ok, List.all_cons]
    cases hb : (xs.getD i 0 == ys.getD i 0)
    · simp
    · simp only [Bool.not_true, Bool.false_eq_true, if_false, Bool.true_and]
      exact ih
theorem eql_counts (f g : Nat → Int) (w : World) : (binOp .eql 162 (.agg (cntA f)) (.agg (cntA g))).run Tryz.prog w = .ok (.bool ((List.range 48).all fun x => f x == g x)) w := by
  obtain ⟨i, hi⟩ := Option.isSome_iff_exists.1 (show (Tryz.prog.info? 3).isSome = true from by kernel_rfl)
  have hc : Tryz.prog.cellsOf 3 = 1 := by kernel_rfl
  have hr : (List.range 48).all (fun x => (cnts 48 f).getD x 0 == (cnts 48 g).getD x 0) = (List.range 48).all fun x => f x == g x := by
    rw [Bool.eq_iff_iff]
    simp only [List.all_eq_true, List.mem_range]
    constructor
    · intro h x hx
      have := h x hx
      rwa [cnts_at hx, cnts_at hx] at this
    · intro h x hx
      rw [cnts_at hx, cnts_at hx]; exact h x hx
  rw [run_eql_struct, run_equalIn_array w 9999 (cntA f) (cntA g) Tryz.underlying162 hi, hc]
  unfold cntA
  rw [eqItems_ints Tryz.underlying3 9998 48 (cnts 48 f) (cnts 48 g) (cnts_len _ _) (cnts_len _ _) w (List.range 48) (fun i h => List.mem_range.1 h), hr]
  rfl
theorem wpList_load_row_g {P : Program} {ops : Array Oper} {rest : List Oper} {o : Oper} {a : Act} {w : World} {Q : Exit → Act → World → Prop} (hw : Region.wanted o (yielded ops a.tmps) = true) (ty : TypeId) (x : Operand) (ho : o.op = .load ty x)
    (g : Nat) (hx : a.eval x = .pointer (some ⟨g, 0, none⟩)) (t : TypeId) (cs : Array Value) (fr : Nat × Nat) (d : TypeDesc) (hg : w.heap[g]? = some (.cells cs t fr))
    (hu : P.underlying ty = some d) (hd : (match d with | .struct _ | .array _ _ => true | _ => false) = true) (hi : (P.info? ty).map (·.size) = some cs.size)
    (h : wpList P ops Q rest (a.put o.dst (.agg cs)) w) : wpList P ops Q (o :: rest) a w := by
  unfold wpList
  rw [if_pos hw]
  exact .inl (wp_load_row ty x ho g hx t cs fr d hg hu hd hi h)
theorem size_cnt : (Tryz.prog.info? 162).map (·.size) = some 48 := by kernel_rfl
/-- What usesFit holds: the net's box and three arrays of counts. -/
structure UsSt (w wr : World) (x y z : Value) (f1 f2 f3 : Nat → Int) : Prop where
  box : wr.heap[w.heap.size]? = some (.cells #[x, y, z] 30 (0, 0))
  a1 : ArrU wr (w.heap.size + 1) f1
  a2 : ArrU wr (w.heap.size + 1 + 1) f2
  a3 : ArrU wr (w.heap.size + 1 + 1 + 1) f3
  bel : Below w.heap.size w wr
section
variable {w wr w' : World} {x y z : Value} {f f1 f2 f3 : Nat → Int}
theorem UsSt.size (h : UsSt w wr x y z f1 f2 f3) : w.heap.size + 1 + 1 + 1 < wr.heap.size := (Array.getElem?_eq_some_iff.1 h.a3).1
theorem UsSt.below (h : UsSt w wr x y z f1 f2 f3) (hb : Below wr.heap.size wr w') : UsSt w w' x y z f1 f2 f3 := by
  have hs := h.size
  exact ⟨(hb.block _ (by omega)).trans h.box, h.a1.keep (hb.block _ (by omega)), h.a2.keep (hb.block _ (by omega)), h.a3.keep (hb.block _ hs), h.bel.trans (hb.mono h.bel.size)⟩
theorem KeptS.into {S : Nat → Prop} (hb : Below w.heap.size w wr) (hk : KeptS S wr w') (hS : ∀ k, S k → w.heap.size ≤ k) : Below w.heap.size w w' :=
  hb.trans ⟨hk.os, hk.tape, hk.output, hk.size, fun k h1 => hk.block k (Nat.lt_of_lt_of_le h1 hb.size) fun e => by have := hS k e; omega⟩
theorem UsSt.k1 (h : UsSt w wr x y z f1 f2 f3) (hk : KeptS (fun k => k = w.heap.size + 1) wr w') (ha : ArrU w' (w.heap.size + 1) f) : UsSt w w' x y z f f2 f3 := by
  have hs := h.size
  exact ⟨(hk.block _ (by omega) (by omega)).trans h.box, ha, h.a2.keep (hk.block _ (by omega) (by omega)), h.a3.keep (hk.block _ hs (by omega)), KeptS.into h.bel hk fun k e => by omega⟩
theorem UsSt.k2 (h : UsSt w wr x y z f1 f2 f3) (hk : KeptS (fun k => k = w.heap.size + 1 + 1) wr w') (ha : ArrU w' (w.heap.size + 1 + 1) f) : UsSt w w' x y z f1 f f3 := by
  have hs := h.size
  exact ⟨(hk.block _ (by omega) (by omega)).trans h.box, h.a1.keep (hk.block _ (by omega) (by omega)), ha, h.a3.keep (hk.block _ hs (by omega)), KeptS.into h.bel hk fun k e => by omega⟩
theorem UsSt.k3 (h : UsSt w wr x y z f1 f2 f3) (hk : KeptS (fun k => k = w.heap.size + 1 + 1 + 1) wr w') (ha : ArrU w' (w.heap.size + 1 + 1 + 1) f) : UsSt w w' x y z f1 f2 f := by
  have hs := h.size
  exact ⟨(hk.block _ (by omega) (by omega)).trans h.box, h.a1.keep (hk.block _ (by omega) (by omega)), h.a2.keep (hk.block _ (by omega) (by omega)), ha, KeptS.into h.bel hk fun k e => by omega⟩
theorem UsSt.ext {g1 g2 g3 : Nat → Int} (h : UsSt w wr x y z f1 f2 f3) (e1 : ∀ x, f1 x = g1 x) (e2 : ∀ x, f2 x = g2 x) (e3 : ∀ x, f3 x = g3 x) : UsSt w wr x y z g1 g2 g3 := by
  obtain rfl : f1 = g1 := funext e1
  obtain rfl : f2 = g2 := funext e2
  obtain rfl : f3 = g3 := funext e3
  exact h
end
theorem usSt_new (w : World) (x y z : Value) : UsSt w ((((w.alloc (.cells #[x, y, z] 30)).alloc (.cells #[Value.int .i64 0, Value.int .i64 0, Value.int .i64 0, Value.int .i64 0, Value.int .i64 0, Value.int .i64 0, Value.int .i64 0, Value.int .i64 0, Value.int .i64 0, Value.int .i64 0, Value.int .i64 0, Value.int .i64 0, Value.int .i64 0, Value.int .i64 0, Value.int .i64 0, Value.int .i64 0, Value.int .i64 0, Value.int .i64 0, Value.int .i64 0, Value.int .i64 0, Value.int .i64 0, Value.int .i64 0, Value.int .i64 0, Value.int .i64 0, Value.int .i64 0, Value.int .i64 0, Value.int .i64 0, Value.int .i64 0, Value.int .i64 0, Value.int .i64 0, Value.int .i64 0, Value.int .i64 0, Value.int .i64 0, Value.int .i64 0, Value.int .i64 0, Value.int .i64 0, Value.int .i64 0, Value.int .i64 0, Value.int .i64 0, Value.int .i64 0, Value.int .i64 0, Value.int .i64 0, Value.int .i64 0, Value.int .i64 0, Value.int .i64 0, Value.int .i64 0, Value.int .i64 0, Value.int .i64 0] 162)).alloc (.cells #[Value.int .i64 0, Value.int .i64 0, Value.int .i64 0, Value.int .i64 0, Value.int .i64 0, Value.int .i64 0, Value.int .i64 0, Value.int .i64 0, Value.int .i64 0, Value.int .i64 0, Value.int .i64 0, Value.int .i64 0, Value.int .i64 0, Value.int .i64 0, Value.int .i64 0, Value.int .i64 0, Value.int .i64 0, Value.int .i64 0, Value.int .i64 0, Value.int .i64 0, Value.int .i64 0, Value.int .i64 0, Value.int .i64 0, Value.int .i64 0, Value.int .i64 0, Value.int .i64 0, Value.int .i64 0, Value.int .i64 0, Value.int .i64 0, Value.int .i64 0, Value.int .i64 0, Value.int .i64 0, Value.int .i64 0, Value.int .i64 0, Value.int .i64 0, Value.int .i64 0, Value.int .i64 0, Value.int .i64 0, Value.int .i64 0, Value.int .i64 0, Value.int .i64 0, Value.int .i64 0, Value.int .i64 0, Value.int .i64 0, Value.int .i64 0, Value.int .i64 0, Value.int .i64 0, Value.int .i64 0] 162)).alloc (.cells #[Value.int .i64 0, Value.int .i64 0, Value.int .i64 0, Value.int .i64 0, Value.int .i64 0, Value.int .i64 0, Value.int .i64 0, Value.int .i64 0, Value.int .i64 0, Value.int .i64 0, Value.int .i64 0, Value.int .i64 0, Value.int .i64 0, Value.int .i64 0, Value.int .i64 0, Value.int .i64 0, Value.int .i64 0, Value.int .i64 0, Value.int .i64 0, Value.int .i64 0, Value.int .i64 0, Value.int .i64 0, Value.int .i64 0, Value.int .i64 0, Value.int .i64 0, Value.int .i64 0, Value.int .i64 0, Value.int .i64 0, Value.int .i64 0, Value.int .i64 0, Value.int .i64 0, Value.int .i64 0, Value.int .i64 0, Value.int .i64 0, Value.int .i64 0, Value.int .i64 0, Value.int .i64 0, Value.int .i64 0, Value.int .i64 0, Value.int .i64 0, Value.int .i64 0, Value.int .i64 0, Value.int .i64 0, Value.int .i64 0, Value.int .i64 0, Value.int .i64 0, Value.int .i64 0, Value.int .i64 0] 162)) x y z (fun _ => 0) (fun _ => 0) (fun _ => 0) := by
  have hz : (#[Value.int .i64 0, Value.int .i64 0, Value.int .i64 0, Value.int .i64 0, Value.int .i64 0, Value.int .i64 0, Value.int .i64 0, Value.int .i64 0, Value.int .i64 0, Value.int .i64 0, Value.int .i64 0, Value.int .i64 0, Value.int .i64 0, Value.int .i64 0, Value.int .i64 0, Value.int .i64 0, Value.int .i64 0, Value.int .i64 0, Value.int .i64 0, Value.int .i64 0, Value.int .i64 0, Value.int .i64 0, Value.int .i64 0, Value.int .i64 0, Value.int .i64 0, Value.int .i64 0, Value.int .i64 0, Value.int .i64 0, Value.int .i64 0, Value.int .i64 0, Value.int .i64 0, Value.int .i64 0, Value.int .i64 0, Value.int .i64 0, Value.int .i64 0, Value.int .i64 0, Value.int .i64 0, Value.int .i64 0, Value.int .i64 0, Value.int .i64 0, Value.int .i64 0, Value.int .i64 0, Value.int .i64 0, Value.int .i64 0, Value.int .i64 0, Value.int .i64 0, Value.int .i64 0, Value.int .i64 0] : Array Value) = cntA fun _ => 0 := by unfold cntA; rw [← cnts_zero]; rfl
  rw [hz]
  obtain ⟨b1, h1, s1⟩ := box3_any w x y z 30
  generalize w.alloc (.cells #[x, y, z] 30) = u1 at *
  have b2 : Below u1.heap.size u1 (u1.alloc (.cells (cntA fun _ => 0) 162)) := (Below.refl _ _).alloc (Nat.le_refl _) _
  have h2 : (u1.alloc (.cells (cntA fun _ => 0) 162)).heap[u1.heap.size]? = some (.cells (cntA fun _ => 0) 162 (0, 0)) := heap_alloc_new _ _
  have s2 : (u1.alloc (.cells (cntA fun _ => 0) 162)).heap.size = u1.heap.size + 1 := by simp
  generalize u1.alloc (.cells (cntA fun _ => 0) 162) = u2 at *
  have b3 : Below u2.heap.size u2 (u2.alloc (.cells (cntA fun _ => 0) 162)) := (Below.refl _ _).alloc (Nat.le_refl _) _
  have h3 : (u2.alloc (.cells (cntA fun _ => 0) 162)).heap[u2.heap.size]? = some (.cells (cntA fun _ => 0) 162 (0, 0)) := heap_alloc_new _ _
  have s3 : (u2.alloc (.cells (cntA fun _ => 0) 162)).heap.size = u2.heap.size + 1 := by simp
  generalize u2.alloc (.cells (cntA fun _ => 0) 162) = u3 at *
  have b4 : Below u3.heap.size u3 (u3.alloc (.cells (cntA fun _ => 0) 162)) := (Below.refl _ _).alloc (Nat.le_refl _) _
  have h4 : (u3.alloc (.cells (cntA fun _ => 0) 162)).heap[u3.heap.size]? = some (.cells (cntA fun _ => 0) 162 (0, 0)) := heap_alloc_new _ _
  generalize u3.alloc (.cells (cntA fun _ => 0) 162) = u4 at *
  rw [s3, s2, s1] at h4
  rw [s2, s1] at h3
  rw [s1] at h2
  exact ⟨((b4.block _ (by omega)).trans ((b3.block _ (by omega)).trans ((b2.block _ (by omega)).trans h1))), (b4.block _ (by omega)).trans ((b3.block _ (by omega)).trans h2), (b4.block _ (by omega)).trans h3, h4, b1.trans ((b2.trans ((b3.trans (b4.mono b3.size)).mono b2.size)).mono b1.size)⟩
set_option maxRecDepth 100000 in
set_option maxHeartbeats 4000000 in
theorem usesFit_any (h : NH) (N : Nt) (w : World) (r : RdN w w.heap.size h N) (h1 : N.w.length ≤ 48) (h2 : N.l.length ≤ 48) (h3 : N.c.length ≤ 1048576) (hl : ∀ l ∈ N.l, inW N.w.length l.a = true ∧ inW N.w.length l.b = true ∧ inW N.w.length l.c = true) (hc : N.c.all (inW N.w.length) = true) :
    Calls Tryz.prog 156 #[.agg #[.slice h.A N.w.length h.c, .slice h.L N.l.length h.d, .slice h.C N.c.length h.e]] w fun e w' => e = .returned (.bool (evenN N)) ∧ Below w.heap.size w w' := by
  have HE := Lib.hid (even_is h1 hl hc)
  obtain ⟨u0, hu0⟩ : ∃ u0, u0 = (((w.alloc (.cells #[.slice h.A N.w.length h.c, .slice h.L N.l.length h.d, .slice h.C N.c.length h.e] 30)).alloc (.cells #[Value.int .i64 0, Value.int .i64 0, Value.int .i64 0, Value.int .i64 0, Value.int .i64 0, Value.int .i64 0, Value.int .i64 0, Value.int .i64 0, Value.int .i64 0, Value.int .i64 0, Value.int .i64 0, Value.int .i64 0, Value.int .i64 0, Value.int .i64 0, Value.int .i64 0, Value.int .i64 0, Value.int .i64 0, Value.int .i64 0, Value.int .i64 0, Value.int .i64 0, Value.int .i64 0, Value.int .i64 0, Value.int .i64 0, Value.int .i64 0, Value.int .i64 0, Value.int .i64 0, Value.int .i64 0, Value.int .i64 0, Value.int .i64 0, Value.int .i64 0, Value.int .i64 0, Value.int .i64 0, Value.int .i64 0, Value.int .i64 0, Value.int .i64 0, Value.int .i64 0, Value.int .i64 0, Value.int .i64 0, Value.int .i64 0, Value.int .i64 0, Value.int .i64 0, Value.int .i64 0, Value.int .i64 0, Value.int .i64 0, Value.int .i64 0, Value.int .i64 0, Value.int .i64 0, Value.int .i64 0] 162)).alloc (.cells #[Value.int .i64 0, Value.int .i64 0, Value.int .i64 0, Value.int .i64 0, Value.int .i64 0, Value.int .i64 0, Value.int .i64 0, Value.int .i64 0, Value.int .i64 0, Value.int .i64 0, Value.int .i64 0, Value.int .i64 0, Value.int .i64 0, Value.int .i64 0, Value.int .i64 0, Value.int .i64 0, Value.int .i64 0, Value.int .i64 0, Value.int .i64 0, Value.int .i64 0, Value.int .i64 0, Value.int .i64 0, Value.int .i64 0, Value.int .i64 0, Value.int .i64 0, Value.int .i64 0, Value.int .i64 0, Value.int .i64 0, Value.int .i64 0, Value.int .i64 0, Value.int .i64 0, Value.int .i64 0, Value.int .i64 0, Value.int .i64 0, Value.int .i64 0, Value.int .i64 0, Value.int .i64 0, Value.int .i64 0, Value.int .i64 0, Value.int .i64 0, Value.int .i64 0, Value.int .i64 0, Value.int .i64 0, Value.int .i64 0, Value.int .i64 0, Value.int .i64 0, Value.int .i64 0, Value.int .i64 0] 162)).alloc (.cells #[Value.int .i64 0, Value.int .i64 0, Value.int .i64 0, Value.int .i64 0, Value.int .i64 0, Value.int .i64 0, Value.int .i64 0, Value.int .i64 0, Value.int .i64 0, Value.int .i64 0, Value.int .i64 0, Value.int .i64 0, Value.int .i64 0, Value.int .i64 0, Value.int .i64 0, Value.int .i64 0, Value.int .i64 0, Value.int .i64 0, Value.int .i64 0, Value.int .i64 0, Value.int .i64 0, Value.int .i64 0, Value.int .i64 0, Value.int .i64 0, Value.int .i64 0, Value.int .i64 0, Value.int .i64 0, Value.int .i64 0, Value.int .i64 0, Value.int .i64 0, Value.int .i64 0, Value.int .i64 0, Value.int .i64 0, Value.int .i64 0, Value.int .i64 0, Value.int .i64 0, Value.int .i64 0, Value.int .i64 0, Value.int .i64 0, Value.int .i64 0, Value.int .i64 0, Value.int .i64 0, Value.int .i64 0, Value.int .i64 0, Value.int .i64 0, Value.int .i64 0, Value.int .i64 0, Value.int .i64 0] 162) := ⟨_, rfl⟩
  have hst := usSt_new w (.slice h.A N.w.length h.c) (.slice h.L N.l.length h.d) (.slice h.C N.c.length h.e)
  rw [← hu0] at hst
  obtain ⟨A, cA, hs, L, d, C, e0⟩ := h
  obtain ⟨ws, ls, cs⟩ := N
  dsimp only at *
  have HU0 := Lib.hid hu0; have HST := Lib.hid hst; have HR := Lib.hid r; have HL := Lib.hid (fun t (ht : t < ls.length) => hl _ (getL_mem (d := Lk.nil) ht)); have HC := Lib.hid hc
  obtain ⟨y0, y1, y2⟩ := three_cells hst.box
  clear hu0 hst r hl hc
  go_enter Tryz.func156, Tryz.ntmps156
  go_upto_region 1 with (fail)
  go_upto_region 2 with (fail)
  rw [← HU0.out]
  have HN0 : Hid (Calls Tryz.prog 123 #[.int .i64 0, .int .i64 ws.length] u0 (Gives u0 (markL 0 ws.length))) := Lib.hid (numbersFrom_any 0 ws.length u0 (by omega) (by omega))
  have HML : Hid ((markL 0 ws.length).length ≤ 1048576) := Lib.hid (by rw [markL_len]; omega)
  have HMI : Hid ((markL 0 ws.length).all (inW 48) = true) := Lib.hid (by
    rw [List.all_eq_true]
    intro z hz
    unfold markL at hz
    obtain ⟨t, ht, rfl⟩ := List.mem_map.1 hz
    have := List.mem_range.1 ht
    unfold inW
    exact decide_eq_true (by omega))
  go_wp2_with (fail)
  refine HN0.out.mono ?_
  rintro e w1 ⟨A1, c1, rfl, o1, b1⟩
  have S1 := Lib.hid (HST.out.below b1)
  have HAD := Lib.hid (add_any (w.heap.size + 1) (fun _ => 0) A1 _ c1 (markL 0 ws.length) w1 w1.heap.size S1.out.a1 (RdI.of_own o1) (ne_of_own o1 (by have := HST.out.size; omega)) HML.out HMI.out (fun x => by omega))
  clear o1 b1 y0 y1 y2
  go_wp2_with (fail)
  refine HAD.out.mono ?_
  rintro e w2 ⟨rfl, a2, k2⟩
  have S2 := Lib.hid ((S1.out.k1 k2 a2).ext (g1 := concN (markL 0 ws.length)) (g2 := fun x => madeN (ls.take 0) x) (g3 := fun x => usedN (ls.take 0) x) (fun x => by simp) (fun x => by simp [madeN]) (fun x => by simp [usedN]))
  clear HAD S1 a2 k2 HST HML HMI HN0
  obtain ⟨y0, y1, y2⟩ := three_cells S2.out.box
  go_wp2
  go_loopw [16] (fun i wx => ∃ k : Nat, k ≤ ls.length ∧ i = .int .i64 k ∧ UsSt w wx (.slice A ws.length cA) (.slice L ls.length d) (.slice C cs.length e0) (concN (markL 0 ws.length)) (fun x => madeN (ls.take k) x) (fun x => usedN (ls.take k) x)) (fun i _ => ls.length - (intOf i).toNat)
  case atStart => exact ⟨0, Nat.zero_le _, rfl, S2.out⟩
  case round =>
    obtain ⟨k, hk, rfl, hS⟩ := hrel
    clear S2 y0 y1 y2
    by_cases hlt : k < ls.length
    · obtain ⟨b, off, rfl, hbb, hcells⟩ := (HR.out.2.1.below hS.bel).at (show 0 < ls.length by omega)
      obtain ⟨x0, x1, x2, x3⟩ := hcells k hlt
      obtain ⟨hia, hib, hic⟩ := HL.out k hlt
      have hm := fun x => madeN_step hlt x
      have hu := fun x => usedN_step hlt x
      have hmb := fun x => madeN_le (ls.take k) x
      have hub := fun x => usedN_le (ls.take k) x
      have hlk : (ls.take k).length ≤ 48 := by rw [List.length_take]; omega
      obtain ⟨⟨lk, la, lb, lc⟩, hl⟩ : ∃ l, ls.getD k Lk.nil = l := ⟨_, rfl⟩
      rw [hl] at x0 x1 x2 x3 hia hib hic hm hu
      dsimp only at x0 x1 x2 x3 hia hib hic
      obtain ⟨bl, z0, z1, z2, z3, zs⟩ := lnk_any wr ⟨lk, la, lb, lc⟩ 103
      have zb : (wr.alloc (.cells #[.int .i64 lk, .int .i64 la, .int .i64 lb, .int .i64 lc] 103)).heap[wr.heap.size]? = some (.cells #[.int .i64 lk, .int .i64 la, .int .i64 lb, .int .i64 lc] 103 (0, 0)) := heap_alloc_new _ _
      dsimp only at bl z0 z1 z2 z3
      have HO2 := Lib.hid (outL_in (m := 48) (l := ⟨lk, la, lb, lc⟩) h1 hia hib hic)
      have HI2 := Lib.hid (inL_in (m := 48) (l := ⟨lk, la, lb, lc⟩) h1 hia hib)
      have HM := Lib.hid hm; have HUU := Lib.hid hu; have HMB := Lib.hid (fun x => show 0 ≤ madeN (ls.take k) x ∧ madeN (ls.take k) x ≤ 1073741824 by have := hmb x; omega); have HUB := Lib.hid (fun x => show 0 ≤ usedN (ls.take k) x ∧ usedN (ls.take k) x ≤ 1073741824 by have := hub x; omega)
      have hsz := hS.size
      have HS0 := Lib.hid hS
      obtain ⟨u1, hu1⟩ : ∃ u1, u1 = wr.alloc (.cells #[.int .i64 lk, .int .i64 la, .int .i64 lb, .int .i64 lc] 103) := ⟨_, rfl⟩
      have HU1 := Lib.hid hu1
      rw [← hu1] at bl zb
      have HBL := Lib.hid bl; have HZB := Lib.hid zb
      have S1 := Lib.hid (hS.below bl)
      have HSZ : Hid (w.heap.size + 1 + 1 + 1 < wr.heap.size) := Lib.hid hsz
      have HS1 : Hid (wr.heap.size < u1.heap.size) := Lib.hid (Array.getElem?_eq_some_iff.1 zb).1
      clear hcells hia hib hic hm hu hmb hub hlk hl bl zb zs hS hu1 hsz
      go_wp2_with (fail)
      rw [← HU1.out]
      clear z0 z1 z2 z3 x0 x1 x2 x3
      refine (show Calls Tryz.prog 121 #[.agg #[.int .i64 lk, .int .i64 la, .int .i64 lb, .int .i64 lc]] u1 (Gives u1 (outL ⟨lk, la, lb, lc⟩)) from outputsOf_any ⟨lk, la, lb, lc⟩ u1).mono ?_
      rintro e u2 ⟨A2, c2, rfl, o2, b2⟩
      have S2 := Lib.hid (S1.out.below b2)
      have ZB2 := Lib.hid ((b2.block _ HS1.out).trans HZB.out)
      have HAD := Lib.hid (add_any (w.heap.size + 1 + 1) _ A2 _ c2 (outL ⟨lk, la, lb, lc⟩) u2 u2.heap.size S2.out.a2 (RdI.of_own o2) (ne_of_own o2 (by have := HS1.out; have := HSZ.out; omega)) (Nat.le_trans (outL_len _) (by decide)) HO2.out HMB.out)
      have HS2 : Hid (wr.heap.size < u2.heap.size) := Lib.hid (Nat.lt_of_lt_of_le HS1.out b2.size)
      clear o2 b2
      go_wp2_with (fail)
      refine HAD.out.mono ?_
      rintro e u3 ⟨rfl, a3, k3⟩
      have S3 := Lib.hid (S2.out.k2 k3 a3)
      have ZB3 := Lib.hid ((k3.block _ HS2.out (by have := HSZ.out; omega)).trans ZB2.out)
      have HS3 : Hid (wr.heap.size < u3.heap.size) := Lib.hid (Nat.lt_of_lt_of_le HS2.out k3.size)
      clear a3 k3 HAD
      obtain ⟨x0, x1, x2, x3⟩ := cells4 ZB3.out
      go_wp2_with (fail)
      clear x0 x1 x2 x3
      refine (show Calls Tryz.prog 122 #[.agg #[.int .i64 lk, .int .i64 la, .int .i64 lb, .int .i64 lc]] u3 (Gives u3 (inL ⟨lk, la, lb, lc⟩)) from inputsOf_any ⟨lk, la, lb, lc⟩ u3).mono ?_
      rintro e u4 ⟨A4, c4, rfl, o4, b4⟩
      have S4 := Lib.hid (S3.out.below b4)
      have HAD := Lib.hid (add_any (w.heap.size + 1 + 1 + 1) _ A4 _ c4 (inL ⟨lk, la, lb, lc⟩) u4 u4.heap.size S4.out.a3 (RdI.of_own o4) (ne_of_own o4 (by have := HS3.out; have := HSZ.out; omega)) (Nat.le_trans (inL_len _) (by decide)) HI2.out HUB.out)
      clear o4 b4
      go_wp2_with (fail)
      refine HAD.out.mono ?_
      rintro e u5 ⟨rfl, a5, k5⟩
      have S5 := Lib.hid ((S4.out.k3 k5 a5).ext (g1 := concN (markL 0 ws.length)) (g2 := fun x => madeN (ls.take (k + 1)) x) (g3 := fun x => usedN (ls.take (k + 1)) x) (fun _ => rfl) (fun x => by rw [HM.out x, mk1_is]) (fun x => by rw [HUU.out x, us1_is]))
      clear a5 k5 HAD
      go_wp2
      go_roundw
      case rel => exact ⟨k + 1, by omega, by go_num, S5.out⟩
      case measure => simp [intOf]; omega
    · have hkl : k = ls.length := by omega
      subst hkl
      rw [List.take_length] at hS
      have HS := Lib.hid hS
      have HAD := Lib.hid (add_any (w.heap.size + 1 + 1 + 1) _ C _ e0 cs wr w.heap.size hS.a3 (HR.out.2.2.below hS.bel) (ne_of_rd (HR.out.2.2) (by omega)) h3 (by
        rw [List.all_eq_true]
        exact fun z hz => inW_mono h1 ((List.all_eq_true.1 HC.out) z hz)) (fun x => by have := usedN_le ls x; omega))
      obtain ⟨y0, y1, y2⟩ := three_cells hS.box
      clear hS
      go_wp2_with (fail)
      refine HAD.out.mono ?_
      rintro e w6 ⟨rfl, a6, k6⟩
      have S6 := Lib.hid (HS.out.k3 k6 a6)
      clear a6 k6 HAD HS y0 y1 y2
      have HEV := HE.out
      (try dsimp only at HEV)
      have q1 := fun wx => eql_counts (fun x => madeN ls x) (concN (markL 0 ws.length)) wx
      have q2 := fun wx => eql_counts (fun x => usedN ls x + concN cs x) (concN (markL 0 ws.length)) wx
      obtain ⟨c1, hc1⟩ : ∃ c1, ((List.range 48).all fun x => madeN ls x == concN (markL 0 ws.length) x) = c1 := ⟨_, rfl⟩
      obtain ⟨c2, hc2⟩ : ∃ c2, ((List.range 48).all fun x => usedN ls x + concN cs x == concN (markL 0 ws.length) x) = c2 := ⟨_, rfl⟩
      rw [hc1] at HEV q1
      rw [hc2] at HEV q2
      have HV := Lib.hid HEV
      clear HEV hc1 hc2 HE
      have HA1 := Lib.hid S6.out.a1; have HA2 := Lib.hid S6.out.a2; have HA3 := Lib.hid S6.out.a3
      unfold ArrU at HA1 HA2 HA3
      have z1 : (cntA (concN (markL 0 ws.length))).size = 48 := cntA_len _
      have z2 : (cntA (fun x => madeN ls x)).size = 48 := cntA_len _
      have z3 : (cntA (fun x => usedN ls x + concN cs x)).size = 48 := cntA_len _
      have Z1 := Lib.hid z1; have Z2 := Lib.hid z2; have Z3 := Lib.hid z3
      clear z1 z2 z3
      generalize cntA (concN (markL 0 ws.length)) = K1 at *
      generalize cntA (fun x => madeN ls x) = K2 at *
      generalize cntA (fun x => usedN ls x + concN cs x) = K3 at *
      cases c1 with
      | false =>
        go_wp2_with (first
          | (refine wpList_load_row rfl _ _ rfl (w.heap.size + 1) rfl _ _ _ _ HA1.out Tryz.underlying162 rfl (by rw [Z1.out]; exact size_cnt) ?_)
          | (refine wpList_load_row rfl _ _ rfl (w.heap.size + 1 + 1) rfl _ _ _ _ HA2.out Tryz.underlying162 rfl (by rw [Z2.out]; exact size_cnt) ?_))
        go_ret
        exact ⟨ret_bool' HV.out.symm, S6.out.bel⟩
      | true =>
        rw [Bool.true_and] at HV
        go_wp2_with (first
          | (refine wpList_load_row rfl _ _ rfl (w.heap.size + 1) rfl _ _ _ _ HA1.out Tryz.underlying162 rfl (by rw [Z1.out]; exact size_cnt) ?_)
          | (refine wpList_load_row rfl _ _ rfl (w.heap.size + 1 + 1) rfl _ _ _ _ HA2.out Tryz.underlying162 rfl (by rw [Z2.out]; exact size_cnt) ?_)
          | (refine wpList_load_row_g (by rfl) _ _ rfl (w.heap.size + 1) rfl _ _ _ _ HA1.out Tryz.underlying162 rfl (by rw [Z1.out]; exact size_cnt) ?_)
          | (refine wpList_load_row_g (by rfl) _ _ rfl (w.heap.size + 1 + 1 + 1) rfl _ _ _ _ HA3.out Tryz.underlying162 rfl (by rw [Z3.out]; exact size_cnt) ?_))
        go_ret
        exact ⟨ret_bool' HV.out.symm, S6.out.bel⟩
end
section
open Go.ChangeAt Go.ChangeShapes Go.RowKit Go.WideShapes

theorem lit_own (w : World) (x : Int) : (w.alloc (.cells #[Value.int .i64 x] 2)).ownsRow w.heap.size 2 1 (.slice (some ⟨w.heap.size, 0, none⟩) 1 1) 1 [Value.int .i64 x] :=
  ⟨rfl, .inr ⟨w.heap.size, 1, #[Value.int .i64 x], rfl, Nat.le_refl _, heap_alloc_new _ _, Nat.le_refl _, by decide, rfl, rfl⟩⟩
set_option maxHeartbeats 1000000 in
/-- formOf: the operator, then its operands. -/
theorem formOf_any (op : Int) (g m c : Nat) (vs : List Value) (ls : List (List Int)) (w : World) (hm : ls.length = m) (hm0 : 0 < m) (hmx : m ≤ 1000)
    (hcell : ∀ i, i < m → w.cell? ⟨g, i, none⟩ = some (vs.getD i undef)) (hgB : g < w.heap.size) (hpart : ∀ i, i < m → Part w w.heap.size (vs.getD i undef) (ls.getD i [])) (htot : ls.flatten.length ≤ 1000) (hpos : 0 < ls.flatten.length) :
    Calls Tryz.prog 181 #[.int .i64 op, .slice (some ⟨g, 0, none⟩) m c] w (Gives w (op :: ls.flatten)) := by
  obtain ⟨i0, hi0, hz0, hz1, hz2⟩ := info_parts info_i64
  have HI := Lib.hid hi0; have HZ0 := Lib.hid hz0; have HZ1 := Lib.hid hz1; have HZ2 := Lib.hid hz2
  obtain ⟨w1, hw1⟩ : ∃ w1, w1 = w.alloc (.cells #[Value.int .i64 op] 2) := ⟨_, rfl⟩
  have hb1 : Below w.heap.size w w1 := by rw [hw1]; exact (Below.refl _ _).alloc (Nat.le_refl _) _
  have ho1 : w1.ownsRow w.heap.size 2 1 (.slice (some ⟨w.heap.size, 0, none⟩) 1 1) 1 [Value.int .i64 op] := by rw [hw1]; exact lit_own w op
  have hs1 : w1.heap.size = w.heap.size + 1 := by rw [hw1]; simp
  have HC := Lib.hid (concat_any g m c vs ls w1 hm hm0 hmx (fun i hi => (hb1.cell (p := ⟨g, i, none⟩) hgB).trans (hcell i hi)) (by omega) (fun i hi => ((hpart i hi).below hb1).more (by omega)) htot)
  have HW1 := Lib.hid hw1; have HB1 := Lib.hid hb1; have HO1 := Lib.hid ho1
  obtain ⟨T, hT⟩ : ∃ T, ls.flatten = T := ⟨_, rfl⟩
  rw [hT] at HC htot hpos ⊢
  clear hw1 hb1 ho1 hi0 hz0 hz1 hz2 hcell hpart hT
  go_enter Tryz.func181, Tryz.ntmps181
  go_wp2_with (go_at_call 149; fail)
  rw [← HW1.out]
  refine HC.out.mono ?_
  rintro e w2 ⟨A2, c2, rfl, o2, bel2⟩
  obtain ⟨b2, off2, c2', he, hb2, hc2⟩ : ∃ b off c', (Value.slice A2 T.length c2) = .slice (some ⟨b, off, none⟩) T.length c' ∧ b < w2.heap.size ∧ ∀ j, j < T.length → w2.cell? ⟨b, off + j, none⟩ = some (.int .i64 (T.getD j 0)) := by
    obtain ⟨b, off, e, hbb, hcc⟩ := (RdI.of_own o2).2 hpos
    exact ⟨b, off, c2, by rw [e], hbb, hcc⟩
  injection he with e1 e2 e3
  subst e1; subst e3
  have HN := Lib.hid (part_news hc2)
  have HO2 := Lib.hid (own_below HO1.out bel2 (Nat.le_refl _))
  have HB2 := Lib.hid (HB1.out.trans (bel2.mono HB1.out.size))
  have HHO := Lib.hid (ints_one T)
  have HLN : Hid ((T.map (Value.int .i64)).length = T.length * 1) := Lib.hid (by simp)
  have hs2 : w.heap.size ≤ w2.heap.size := HB2.out.size
  clear hc2 o2 bel2
  go_wp2_with (at_builtin; refine wpList_append_own _ rfl _ _ 24 rfl w.heap.size 2 i0 (.int .i64 0) 1 8 Tryz.underlying24 HI.out HZ0.out HZ1.out HZ2.out rfl (by decide) _ _ _ rfl HO2.out ⟨b2, off2, none⟩ T.length c2 (T.map (Value.int .i64)) rfl HLN.out HN.out HHO.out (by unfold maxLen; omega) (by omega) hs2 ?_; intro v7 w7 hown7 hgrow7 _)
  obtain ⟨A7, c7, rfl⟩ := own_shape hown7
  have HB7 := Lib.hid (HB2.out.grown hgrow7 hs2 (fun k hk => (HO2.out.lt k hk).1))
  have e : 1 + T.length = (op :: T).length := by rw [List.length_cons]; omega
  rw [e] at hown7 ⊢
  have HO7 := Lib.hid hown7
  clear hown7 hgrow7 e
  go_wp2
  go_ret
  exact ⟨A7, c7, rfl, HO7.out, HB7.out⟩
end
end Go.Proofs.YtfdpkhiiboghiaaGreatDoor
