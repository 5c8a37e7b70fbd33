/- The program's usesFit. The program's formOf. Links compared. -/
import Derived.Test.YtfdpkhiiboghiaaGreatDoorJQPgA
import Derived.Test.YtfdpkhiiboghiaaGreatDoorJQNetZ
import Derived.Laws.StructEq
namespace Go.Proofs.YtfdpkhiiboghiaaGreatDoor
set_option linter.unusedSimpArgs false
set_option linter.unusedVariables false
section
set_option linter.unusedSimpArgs false
set_option linter.unusedVariables false
open Go.ChangeAt Go.ChangeShapes Go.RowKit Go.WideShapes

theorem eqItems_ints {P : Program} {e : TypeId} (he : P.underlying e = some (.int .i64)) (d n : Nat) (xs ys : List Int) (hx : xs.length = n) (hy : ys.length = n) (w : World) : ∀ is : List Nat, (∀ i ∈ is, i < n) →
    (Op.eqItems (d + 1) e 1 (xs.map (Value.int .i64)).toArray (ys.map (Value.int .i64)).toArray is).run P w = .ok (is.all fun i => xs.getD i 0 == ys.getD i 0) w
  | [], _ => by simp [Op.eqItems]
  | i :: is, h => by
    have hi : i < n := h i (by simp)
    have px : (part e (xs.map (Value.int .i64)).toArray (i * 1)).run P w = .ok (.int .i64 (xs.getD i 0)) w := by
      simp [part, isAgg, run_underlying he, List.getD, List.getElem?_eq_getElem (show i < xs.length by omega)]
    have py : (part e (ys.map (Value.int .i64)).toArray (i * 1)).run P w = .ok (.int .i64 (ys.getD i 0)) w := by
      simp [part, isAgg, run_underlying he, List.getD, List.getElem?_eq_getElem (show i < ys.length by omega)]
    have pe := run_equalIn_int w d e .i64 .i64 (xs.getD i 0) (ys.getD i 0) he
    have ih := eqItems_ints he d n xs ys hx hy w is fun j hj => h j (by simp [hj])
    simp only [Op.eqItems, Sem.run_bind, px, py, pe, Result.andThen_ok, List.all_cons]
    cases hb : (xs.getD i 0 == ys.getD i 0)
    · simp
    · simp only [Bool.not_true, Bool.false_eq_true, if_false, Bool.true_and]
      exact ih
theorem eql_counts (f g : Nat → Int) (w : World) : (binOp .eql 162 (.agg (cntA f)) (.agg (cntA g))).run Tryz.prog w = .ok (.bool ((List.range 48).all fun x => f x == g x)) w := by
  obtain ⟨i, hi⟩ := Option.isSome_iff_exists.1 (show (Tryz.prog.info? 3).isSome = true from by kernel_rfl)
  have hc : Tryz.prog.cellsOf 3 = 1 := by kernel_rfl
  have hr : (List.range 48).all (fun x => (cnts 48 f).getD x 0 == (cnts 48 g).getD x 0) = (List.range 48).all fun x => f x == g x := by
    rw [Bool.eq_iff_iff]
    simp only [List.all_eq_true, List.mem_range]
    constructor
    · intro h x hx
      have := h x hx
      rwa [cnts_at hx, cnts_at hx] at this
    · intro h x hx
      rw [cnts_at hx, cnts_at hx]; exact h x hx
  rw [run_eql_struct, run_equalIn_array w 9999 (cntA f) (cntA g) Tryz.underlying162 hi, hc]
  unfold cntA
  rw [eqItems_ints Tryz.underlying3 9998 48 (cnts 48 f) (cnts 48 g) (cnts_len _ _) (cnts_len _ _) w (List.range 48) (fun i h => List.mem_range.1 h), hr]
  rfl
theorem wpList_load_row_g {P : Program} {ops : Array Oper} {rest : List Oper} {o : Oper} {a : Act} {w : World} {Q : Exit → Act → World → Prop} (hw : Region.wanted o (yielded ops a.tmps) = true) (ty : TypeId) (x : Operand) (ho : o.op = .load ty x)
    (g : Nat) (hx : a.eval x = .pointer (some ⟨g, 0, none⟩)) (t : TypeId) (cs : Array Value) (fr : Nat × Nat) (d : TypeDesc) (hg : w.heap[g]? = some (.cells cs t fr))
    (hu : P.underlying ty = some d) (hd : (match d with | .struct _ | .array _ _ => true | _ => false) = true) (hi : (P.info? ty).map (·.size) = some cs.size)
    (h : wpList P ops Q rest (a.put o.dst (.agg cs)) w) : wpList P ops Q (o :: rest) a w := by
  unfold wpList
  rw [if_pos hw]
  exact .inl (wp_load_row ty x ho g hx t cs fr d hg hu hd hi h)
theorem size_cnt : (Tryz.prog.info? 162).map (·.size) = some 48 := by kernel_rfl
/-- What usesFit holds: the net's box and three arrays of counts. -/
structure UsSt (w wr : World) (x y z : Value) (f1 f2 f3 : Nat → Int) : Prop where
  box : wr.heap[w.heap.size]? = some (.cells #[x, y, z] 30 (0, 0))
  a1 : ArrU wr (w.heap.size + 1) f1
  a2 : ArrU wr (w.heap.size + 1 + 1) f2
  a3 : ArrU wr (w.heap.size + 1 + 1 + 1) f3
  bel : Below w.heap.size w wr
section
variable {w wr w' : World} {x y z : Value} {f f1 f2 f3 : Nat → Int}
theorem UsSt.size (h : UsSt w wr x y z f1 f2 f3) : w.heap.size + 1 + 1 + 1 < wr.heap.size := (Array.getElem?_eq_some_iff.1 h.a3).1
theorem UsSt.below (h : UsSt w wr x y z f1 f2 f3) (hb : Below wr.heap.size wr w') : UsSt w w' x y z f1 f2 f3 := by
  have hs := h.size
  exact ⟨(hb.block _ (by omega)).trans h.box, h.a1.keep (hb.block _ (by omega)), h.a2.keep (hb.block _ (by omega)), h.a3.keep (hb.block _ hs), h.bel.trans (hb.mono h.bel.size)⟩
theorem KeptS.into {S : Nat → Prop} (hb : Below w.heap.size w wr) (hk : KeptS S wr w') (hS : ∀ k, S k → w.heap.size ≤ k) : Below w.heap.size w w' :=
  hb.trans ⟨hk.os, hk.tape, hk.output, hk.size, fun k h1 => hk.block k (Nat.lt_of_lt_of_le h1 hb.size) fun e => by have := hS k e; omega⟩
theorem UsSt.k1 (h : UsSt w wr x y z f1 f2 f3) (hk : KeptS (fun k => k = w.heap.size + 1) wr w') (ha : ArrU w' (w.heap.size + 1) f) : UsSt w w' x y z f f2 f3 := by
  have hs := h.size
  exact ⟨(hk.block _ (by omega) (by omega)).trans h.box, ha, h.a2.keep (hk.block _ (by omega) (by omega)), h.a3.keep (hk.block _ hs (by omega)), KeptS.into h.bel hk fun k e => by omega⟩
theorem UsSt.k2 (h : UsSt w wr x y z f1 f2 f3) (hk : KeptS (fun k => k = w.heap.size + 1 + 1) wr w') (ha : ArrU w' (w.heap.size + 1 + 1) f) : UsSt w w' x y z f1 f f3 := by
  have hs := h.size
  exact ⟨(hk.block _ (by omega) (by omega)).trans h.box, h.a1.keep (hk.block _ (by omega) (by omega)), ha, h.a3.keep (hk.block _ hs (by omega)), KeptS.into h.bel hk fun k e => by omega⟩
theorem UsSt.k3 (h : UsSt w wr x y z f1 f2 f3) (hk : KeptS (fun k => k = w.heap.size + 1 + 1 + 1) wr w') (ha : ArrU w' (w.heap.size + 1 + 1 + 1) f) : UsSt w w' x y z f1 f2 f := by
  have hs := h.size
  exact ⟨(hk.block _ (by omega) (by omega)).trans h.box, h.a1.keep (hk.block _ (by omega) (by omega)), h.a2.keep (hk.block _ (by omega) (by omega)), ha, KeptS.into h.bel hk fun k e => by omega⟩
theorem UsSt.ext {g1 g2 g3 : Nat → Int} (h : UsSt w wr x y z f1 f2 f3) (e1 : ∀ x, f1 x = g1 x) (e2 : ∀ x, f2 x = g2 x) (e3 : ∀ x, f3 x = g3 x) : UsSt w wr x y z g1 g2 g3 := by
  obtain rfl : f1 = g1 := funext e1
  obtain rfl : f2 = g2 := funext e2
  obtain rfl : f3 = g3 := funext e3
  exact h
end
theorem usSt_new (w : World) (x y z : Value) : UsSt w ((((w.alloc (.cells #[x, y, z] 30)).alloc (.cells #[Value.int .i64 0, Value.int .i64 0, Value.int .i64 0, Value.int .i64 0, Value.int .i64 0, Value.int .i64 0, Value.int .i64 0, Value.int .i64 0, Value.int .i64 0, Value.int .i64 0, Value.int .i64 0, Value.int .i64 0, Value.int .i64 0, Value.int .i64 0, Value.int .i64 0, Value.int .i64 0, Value.int .i64 0, Value.int .i64 0, Value.int .i64 0, Value.int .i64 0, Value.int .i64 0, Value.int .i64 0, Value.int .i64 0, Value.int .i64 0, Value.int .i64 0, Value.int .i64 0, Value.int .i64 0, Value.int .i64 0, Value.int .i64 0, Value.int .i64 0, Value.int .i64 0, Value.int .i64 0, Value.int .i64 0, Value.int .i64 0, Value.int .i64 0, Value.int .i64 0, Value.int .i64 0, Value.int .i64 0, Value.int .i64 0, Value.int .i64 0, Value.int .i64 0, Value.int .i64 0, Value.int .i64 0, Value.int .i64 0, Value.int .i64 0, Value.int .i64 0, Value.int .i64 0, Value.int .i64 0] 162)).alloc (.cells #[Value.int .i64 0, Value.int .i64 0, Value.int .i64 0, Value.int .i64 0, Value.int .i64 0, Value.int .i64 0, Value.int .i64 0, Value.int .i64 0, Value.int .i64 0, Value.int .i64 0, Value.int .i64 0, Value.int .i64 0, Value.int .i64 0, Value.int .i64 0, Value.int .i64 0, Value.int .i64 0, Value.int .i64 0, Value.int .i64 0, Value.int .i64 0, Value.int .i64 0, Value.int .i64 0, Value.int .i64 0, Value.int .i64 0, Value.int .i64 0, Value.int .i64 0, Value.int .i64 0, Value.int .i64 0, Value.int .i64 0, Value.int .i64 0, Value.int .i64 0, Value.int .i64 0, Value.int .i64 0, Value.int .i64 0, Value.int .i64 0, Value.int .i64 0, Value.int .i64 0, Value.int .i64 0, Value.int .i64 0, Value.int .i64 0, Value.int .i64 0, Value.int .i64 0, Value.int .i64 0, Value.int .i64 0, Value.int .i64 0, Value.int .i64 0, Value.int .i64 0, Value.int .i64 0, Value.int .i64 0] 162)).alloc (.cells #[Value.int .i64 0, Value.int .i64 0, Value.int .i64 0, Value.int .i64 0, Value.int .i64 0, Value.int .i64 0, Value.int .i64 0, Value.int .i64 0, Value.int .i64 0, Value.int .i64 0, Value.int .i64 0, Value.int .i64 0, Value.int .i64 0, Value.int .i64 0, Value.int .i64 0, Value.int .i64 0, Value.int .i64 0, Value.int .i64 0, Value.int .i64 0, Value.int .i64 0, Value.int .i64 0, Value.int .i64 0, Value.int .i64 0, Value.int .i64 0, Value.int .i64 0, Value.int .i64 0, Value.int .i64 0, Value.int .i64 0, Value.int .i64 0, Value.int .i64 0, Value.int .i64 0, Value.int .i64 0, Value.int .i64 0, Value.int .i64 0, Value.int .i64 0, Value.int .i64 0, Value.int .i64 0, Value.int .i64 0, Value.int .i64 0, Value.int .i64 0, Value.int .i64 0, Value.int .i64 0, Value.int .i64 0, Value.int .i64 0, Value.int .i64 0, Value.int .i64 0, Value.int .i64 0, Value.int .i64 0] 162)) x y z (fun _ => 0) (fun _ => 0) (fun _ => 0) := by
  have hz : (#[Value.int .i64 0, Value.int .i64 0, Value.int .i64 0, Value.int .i64 0, Value.int .i64 0, Value.int .i64 0, Value.int .i64 0, Value.int .i64 0, Value.int .i64 0, Value.int .i64 0, Value.int .i64 0, Value.int .i64 0, Value.int .i64 0, Value.int .i64 0, Value.int .i64 0, Value.int .i64 0, Value.int .i64 0, Value.int .i64 0, Value.int .i64 0, Value.int .i64 0, Value.int .i64 0, Value.int .i64 0, Value.int .i64 0, Value.int .i64 0, Value.int .i64 0, Value.int .i64 0, Value.int .i64 0, Value.int .i64 0, Value.int .i64 0, Value.int .i64 0, Value.int .i64 0, Value.int .i64 0, Value.int .i64 0, Value.int .i64 0, Value.int .i64 0, Value.int .i64 0, Value.int .i64 0, Value.int .i64 0, Value.int .i64 0, Value.int .i64 0, Value.int .i64 0, Value.int .i64 0, Value.int .i64 0, Value.int .i64 0, Value.int .i64 0, Value.int .i64 0, Value.int .i64 0, Value.int .i64 0] : Array Value) = cntA fun _ => 0 := by unfold cntA; rw [← cnts_zero]; rfl
  rw [hz]
  obtain ⟨b1, h1, s1⟩ := box3_any w x y z 30
  generalize w.alloc (.cells #[x, y, z] 30) = u1 at *
  have b2 : Below u1.heap.size u1 (u1.alloc (.cells (cntA fun _ => 0) 162)) := (Below.refl _ _).alloc (Nat.le_refl _) _
  have h2 : (u1.alloc (.cells (cntA fun _ => 0) 162)).heap[u1.heap.size]? = some (.cells (cntA fun _ => 0) 162 (0, 0)) := heap_alloc_new _ _
  have s2 : (u1.alloc (.cells (cntA fun _ => 0) 162)).heap.size = u1.heap.size + 1 := by simp
  generalize u1.alloc (.cells (cntA fun _ => 0) 162) = u2 at *
  have b3 : Below u2.heap.size u2 (u2.alloc (.cells (cntA fun _ => 0) 162)) := (Below.refl _ _).alloc (Nat.le_refl _) _
  have h3 : (u2.alloc (.cells (cntA fun _ => 0) 162)).heap[u2.heap.size]? = some (.cells (cntA fun _ => 0) 162 (0, 0)) := heap_alloc_new _ _
  have s3 : (u2.alloc (.cells (cntA fun _ => 0) 162)).heap.size = u2.heap.size + 1 := by simp
  generalize u2.alloc (.cells (cntA fun _ => 0) 162) = u3 at *
  have b4 : Below u3.heap.size u3 (u3.alloc (.cells (cntA fun _ => 0) 162)) := (Below.refl _ _).alloc (Nat.le_refl _) _
  have h4 : (u3.alloc (.cells (cntA fun _ => 0) 162)).heap[u3.heap.size]? = some (.cells (cntA fun _ => 0) 162 (0, 0)) := heap_alloc_new _ _
  generalize u3.alloc (.cells (cntA fun _ => 0) 162) = u4 at *
  rw [s3, s2, s1] at h4
  rw [s2, s1] at h3
  rw [s1] at h2
  exact ⟨((b4.block _ (by omega)).trans ((b3.block _ (by omega)).trans ((b2.block _ (by omega)).trans h1))), (b4.block _ (by omega)).trans ((b3.block _ (by omega)).trans h2), (b4.block _ (by omega)).trans h3, h4, b1.trans ((b2.trans ((b3.trans (b4.mono b3.size)).mono b2.size)).mono b1.size)⟩
set_option maxRecDepth 100000 in
set_option maxHeartbeats 4000000 in
theorem usesFit_any (h : NH) (N : Nt) (w : World) (r : RdN w w.heap.size h N) (h1 : N.w.length ≤ 48) (h2 : N.l.length ≤ 48) (h3 : N.c.length ≤ 1048576) (hl : ∀ l ∈ N.l, inW N.w.length l.a = true ∧ inW N.w.length l.b = true ∧ inW N.w.length l.c = true) (hc : N.c.all (inW N.w.length) = true) :
    Calls Tryz.prog 156 #[.agg #[.slice h.A N.w.length h.c, .slice h.L N.l.length h.d, .slice h.C N.c.length h.e]] w fun e w' => e = .returned (.bool (evenN N)) ∧ Below w.heap.size w w' := by
  have HE := Lib.hid (even_is h1 hl hc)
  obtain ⟨u0, hu0⟩ : ∃ u0, u0 = (((w.alloc (.cells #[.slice h.A N.w.length h.c, .slice h.L N.l.length h.d, .slice h.C N.c.length h.e] 30)).alloc (.cells #[Value.int .i64 0, Value.int .i64 0, Value.int .i64 0, Value.int .i64 0, Value.int .i64 0, Value.int .i64 0, Value.int .i64 0, Value.int .i64 0, Value.int .i64 0, Value.int .i64 0, Value.int .i64 0, Value.int .i64 0, Value.int .i64 0, Value.int .i64 0, Value.int .i64 0, Value.int .i64 0, Value.int .i64 0, Value.int .i64 0, Value.int .i64 0, Value.int .i64 0, Value.int .i64 0, Value.int .i64 0, Value.int .i64 0, Value.int .i64 0, Value.int .i64 0, Value.int .i64 0, Value.int .i64 0, Value.int .i64 0, Value.int .i64 0, Value.int .i64 0, Value.int .i64 0, Value.int .i64 0, Value.int .i64 0, Value.int .i64 0, Value.int .i64 0, Value.int .i64 0, Value.int .i64 0, Value.int .i64 0, Value.int .i64 0, Value.int .i64 0, Value.int .i64 0, Value.int .i64 0, Value.int .i64 0, Value.int .i64 0, Value.int .i64 0, Value.int .i64 0, Value.int .i64 0, Value.int .i64 0] 162)).alloc (.cells #[Value.int .i64 0, Value.int .i64 0, Value.int .i64 0, Value.int .i64 0, Value.int .i64 0, Value.int .i64 0, Value.int .i64 0, Value.int .i64 0, Value.int .i64 0, Value.int .i64 0, Value.int .i64 0, Value.int .i64 0, Value.int .i64 0, Value.int .i64 0, Value.int .i64 0, Value.int .i64 0, Value.int .i64 0, Value.int .i64 0, Value.int .i64 0, Value.int .i64 0, Value.int .i64 0, Value.int .i64 0, Value.int .i64 0, Value.int .i64 0, Value.int .i64 0, Value.int .i64 0, Value.int .i64 0, Value.int .i64 0, Value.int .i64 0, Value.int .i64 0, Value.int .i64 0, Value.int .i64 0, Value.int .i64 0, Value.int .i64 0, Value.int .i64 0, Value.int .i64 0, Value.int .i64 0, Value.int .i64 0, Value.int .i64 0, Value.int .i64 0, Value.int .i64 0, Value.int .i64 0, Value.int .i64 0, Value.int .i64 0, Value.int .i64 0, Value.int .i64 0, Value.int .i64 0, Value.int .i64 0] 162)).alloc (.cells #[Value.int .i64 0, Value.int .i64 0, Value.int .i64 0, Value.int .i64 0, Value.int .i64 0, Value.int .i64 0, Value.int .i64 0, Value.int .i64 0, Value.int .i64 0, Value.int .i64 0, Value.int .i64 0, Value.int .i64 0, Value.int .i64 0, Value.int .i64 0, Value.int .i64 0, Value.int .i64 0, Value.int .i64 0, Value.int .i64 0, Value.int .i64 0, Value.int .i64 0, Value.int .i64 0, Value.int .i64 0, Value.int .i64 0, Value.int .i64 0, Value.int .i64 0, Value.int .i64 0, Value.int .i64 0, Value.int .i64 0, Value.int .i64 0, Value.int .i64 0, Value.int .i64 0, Value.int .i64 0, Value.int .i64 0, Value.int .i64 0, Value.int .i64 0, Value.int .i64 0, Value.int .i64 0, Value.int .i64 0, Value.int .i64 0, Value.int .i64 0, Value.int .i64 0, Value.int .i64 0, Value.int .i64 0, Value.int .i64 0, Value.int .i64 0, Value.int .i64 0, Value.int .i64 0, Value.int .i64 0] 162) := ⟨_, rfl⟩
  have hst := usSt_new w (.slice h.A N.w.length h.c) (.slice h.L N.l.length h.d) (.slice h.C N.c.length h.e)
  rw [← hu0] at hst
  obtain ⟨A, cA, hs, L, d, C, e0⟩ := h
  obtain ⟨ws, ls, cs⟩ := N
  dsimp only at *
  have HU0 := Lib.hid hu0; have HST := Lib.hid hst; have HR := Lib.hid r; have HL := Lib.hid (fun t (ht : t < ls.length) => hl _ (getL_mem (d := Lk.nil) ht)); have HC := Lib.hid hc
  obtain ⟨y0, y1, y2⟩ := three_cells hst.box
  clear hu0 hst r hl hc
  go_enter Tryz.func156, Tryz.ntmps156
  go_upto_region 1 with (fail)
  go_upto_region 2 with (fail)
  rw [← HU0.out]
  have HN0 : Hid (Calls Tryz.prog 123 #[.int .i64 0, .int .i64 ws.length] u0 (Gives u0 (markL 0 ws.length))) := Lib.hid (numbersFrom_any 0 ws.length u0 (by omega) (by omega))
  have HML : Hid ((markL 0 ws.length).length ≤ 1048576) := Lib.hid (by rw [markL_len]; omega)
  have HMI : Hid ((markL 0 ws.length).all (inW 48) = true) := Lib.hid (by
    rw [List.all_eq_true]
    intro z hz
    unfold markL at hz
    obtain ⟨t, ht, rfl⟩ := List.mem_map.1 hz
    have := List.mem_range.1 ht
    unfold inW
    exact decide_eq_true (by omega))
  go_wp2_with (fail)
  refine HN0.out.mono ?_
  rintro e w1 ⟨A1, c1, rfl, o1, b1⟩
  have S1 := Lib.hid (HST.out.below b1)
  have HAD := Lib.hid (add_any (w.heap.size + 1) (fun _ => 0) A1 _ c1 (markL 0 ws.length) w1 w1.heap.size S1.out.a1 (RdI.of_own o1) (ne_of_own o1 (by have := HST.out.size; omega)) HML.out HMI.out (fun x => by omega))
  clear o1 b1 y0 y1 y2
  go_wp2_with (fail)
  refine HAD.out.mono ?_
  rintro e w2 ⟨rfl, a2, k2⟩
  have S2 := Lib.hid ((S1.out.k1 k2 a2).ext (g1 := concN (markL 0 ws.length)) (g2 := fun x => madeN (ls.take 0) x) (g3 := fun x => usedN (ls.take 0) x) (fun x => by simp) (fun x => by simp [madeN]) (fun x => by simp [usedN]))
  clear HAD S1 a2 k2 HST HML HMI HN0
  obtain ⟨y0, y1, y2⟩ := three_cells S2.out.box
  go_wp2
  go_loopw [16] (fun i wx => ∃ k : Nat, k ≤ ls.length ∧ i = .int .i64 k ∧ UsSt w wx (.slice A ws.length cA) (.slice L ls.length d) (.slice C cs.length e0) (concN (markL 0 ws.length)) (fun x => madeN (ls.take k) x) (fun x => usedN (ls.take k) x)) (fun i _ => ls.length - (intOf i).toNat)
  case atStart => exact ⟨0, Nat.zero_le _, rfl, S2.out⟩
  case round =>
    obtain ⟨k, hk, rfl, hS⟩ := hrel
    clear S2 y0 y1 y2
    by_cases hlt : k < ls.length
    · obtain ⟨b, off, rfl, hbb, hcells⟩ := (HR.out.2.1.below hS.bel).at (show 0 < ls.length by omega)
      obtain ⟨x0, x1, x2, x3⟩ := hcells k hlt
      obtain ⟨hia, hib, hic⟩ := HL.out k hlt
      have hm := fun x => madeN_step hlt x
      have hu := fun x => usedN_step hlt x
      have hmb := fun x => madeN_le (ls.take k) x
      have hub := fun x => usedN_le (ls.take k) x
      have hlk : (ls.take k).length ≤ 48 := by rw [List.length_take]; omega
      obtain ⟨⟨lk, la, lb, lc⟩, hl⟩ : ∃ l, ls.getD k Lk.nil = l := ⟨_, rfl⟩
      rw [hl] at x0 x1 x2 x3 hia hib hic hm hu
      dsimp only at x0 x1 x2 x3 hia hib hic
      obtain ⟨bl, z0, z1, z2, z3, zs⟩ := lnk_any wr ⟨lk, la, lb, lc⟩ 103
      have zb : (wr.alloc (.cells #[.int .i64 lk, .int .i64 la, .int .i64 lb, .int .i64 lc] 103)).heap[wr.heap.size]? = some (.cells #[.int .i64 lk, .int .i64 la, .int .i64 lb, .int .i64 lc] 103 (0, 0)) := heap_alloc_new _ _
      dsimp only at bl z0 z1 z2 z3
      have HO2 := Lib.hid (outL_in (m := 48) (l := ⟨lk, la, lb, lc⟩) h1 hia hib hic)
      have HI2 := Lib.hid (inL_in (m := 48) (l := ⟨lk, la, lb, lc⟩) h1 hia hib)
      have HM := Lib.hid hm; have HUU := Lib.hid hu; have HMB := Lib.hid (fun x => show 0 ≤ madeN (ls.take k) x ∧ madeN (ls.take k) x ≤ 1073741824 by have := hmb x; omega); have HUB := Lib.hid (fun x => show 0 ≤ usedN (ls.take k) x ∧ usedN (ls.take k) x ≤ 1073741824 by have := hub x; omega)
      have hsz := hS.size
      have HS0 := Lib.hid hS
      obtain ⟨u1, hu1⟩ : ∃ u1, u1 = wr.alloc (.cells #[.int .i64 lk, .int .i64 la, .int .i64 lb, .int .i64 lc] 103) := ⟨_, rfl⟩
      have HU1 := Lib.hid hu1
      rw [← hu1] at bl zb
      have HBL := Lib.hid bl; have HZB := Lib.hid zb
      have S1 := Lib.hid (hS.below bl)
      have HSZ : Hid (w.heap.size + 1 + 1 + 1 < wr.heap.size) := Lib.hid hsz
      have HS1 : Hid (wr.heap.size < u1.heap.size) := Lib.hid (Array.getElem?_eq_some_iff.1 zb).1
      clear hcells hia hib hic hm hu hmb hub hlk hl bl zb zs hS hu1 hsz
      go_wp2_with (fail)
      rw [← HU1.out]
      clear z0 z1 z2 z3 x0 x1 x2 x3
      refine (show Calls Tryz.prog 121 #[.agg #[.int .i64 lk, .int .i64 la, .int .i64 lb, .int .i64 lc]] u1 (Gives u1 (outL ⟨lk, la, lb, lc⟩)) from outputsOf_any ⟨lk, la, lb, lc⟩ u1).mono ?_
      rintro e u2 ⟨A2, c2, rfl, o2, b2⟩
      have S2 := Lib.hid (S1.out.below b2)
      have ZB2 := Lib.hid ((b2.block _ HS1.out).trans HZB.out)
      have HAD := Lib.hid (add_any (w.heap.size + 1 + 1) _ A2 _ c2 (outL ⟨lk, la, lb, lc⟩) u2 u2.heap.size S2.out.a2 (RdI.of_own o2) (ne_of_own o2 (by have := HS1.out; have := HSZ.out; omega)) (Nat.le_trans (outL_len _) (by decide)) HO2.out HMB.out)
      have HS2 : Hid (wr.heap.size < u2.heap.size) := Lib.hid (Nat.lt_of_lt_of_le HS1.out b2.size)
      clear o2 b2
      go_wp2_with (fail)
      refine HAD.out.mono ?_
      rintro e u3 ⟨rfl, a3, k3⟩
      have S3 := Lib.hid (S2.out.k2 k3 a3)
      have ZB3 := Lib.hid ((k3.block _ HS2.out (by have := HSZ.out; omega)).trans ZB2.out)
      have HS3 : Hid (wr.heap.size < u3.heap.size) := Lib.hid (Nat.lt_of_lt_of_le HS2.out k3.size)
      clear a3 k3 HAD
      obtain ⟨x0, x1, x2, x3⟩ := cells4 ZB3.out
      go_wp2_with (fail)
      clear x0 x1 x2 x3
      refine (show Calls Tryz.prog 122 #[.agg #[.int .i64 lk, .int .i64 la, .int .i64 lb, .int .i64 lc]] u3 (Gives u3 (inL ⟨lk, la, lb, lc⟩)) from inputsOf_any ⟨lk, la, lb, lc⟩ u3).mono ?_
      rintro e u4 ⟨A4, c4, rfl, o4, b4⟩
      have S4 := Lib.hid (S3.out.below b4)
      have HAD := Lib.hid (add_any (w.heap.size + 1 + 1 + 1) _ A4 _ c4 (inL ⟨lk, la, lb, lc⟩) u4 u4.heap.size S4.out.a3 (RdI.of_own o4) (ne_of_own o4 (by have := HS3.out; have := HSZ.out; omega)) (Nat.le_trans (inL_len _) (by decide)) HI2.out HUB.out)
      clear o4 b4
      go_wp2_with (fail)
      refine HAD.out.mono ?_
      rintro e u5 ⟨rfl, a5, k5⟩
      have S5 := Lib.hid ((S4.out.k3 k5 a5).ext (g1 := concN (markL 0 ws.length)) (g2 := fun x => madeN (ls.take (k + 1)) x) (g3 := fun x => usedN (ls.take (k + 1)) x) (fun _ => rfl) (fun x => by rw [HM.out x, mk1_is]) (fun x => by rw [HUU.out x, us1_is]))
      clear a5 k5 HAD
      go_wp2
      go_roundw
      case rel => exact ⟨k + 1, by omega, by go_num, S5.out⟩
      case measure => simp [intOf]; omega
    · have hkl : k = ls.length := by omega
      subst hkl
      rw [List.take_length] at hS
      have HS := Lib.hid hS
      have HAD := Lib.hid (add_any (w.heap.size + 1 + 1 + 1) _ C _ e0 cs wr w.heap.size hS.a3 (HR.out.2.2.below hS.bel) (ne_of_rd (HR.out.2.2) (by omega)) h3 (by
        rw [List.all_eq_true]
        exact fun z hz => inW_mono h1 ((List.all_eq_true.1 HC.out) z hz)) (fun x => by have := usedN_le ls x; omega))
      obtain ⟨y0, y1, y2⟩ := three_cells hS.box
      clear hS
      go_wp2_with (fail)
      refine HAD.out.mono ?_
      rintro e w6 ⟨rfl, a6, k6⟩
      have S6 := Lib.hid (HS.out.k3 k6 a6)
      clear a6 k6 HAD HS y0 y1 y2
      have HEV := HE.out
      (try dsimp only at HEV)
      have q1 := fun wx => eql_counts (fun x => madeN ls x) (concN (markL 0 ws.length)) wx
      have q2 := fun wx => eql_counts (fun x => usedN ls x + concN cs x) (concN (markL 0 ws.length)) wx
      obtain ⟨c1, hc1⟩ : ∃ c1, ((List.range 48).all fun x => madeN ls x == concN (markL 0 ws.length) x) = c1 := ⟨_, rfl⟩
      obtain ⟨c2, hc2⟩ : ∃ c2, ((List.range 48).all fun x => usedN ls x + concN cs x == concN (markL 0 ws.length) x) = c2 := ⟨_, rfl⟩
      rw [hc1] at HEV q1
      rw [hc2] at HEV q2
      have HV := Lib.hid HEV
      clear HEV hc1 hc2 HE
      have HA1 := Lib.hid S6.out.a1; have HA2 := Lib.hid S6.out.a2; have HA3 := Lib.hid S6.out.a3
      unfold ArrU at HA1 HA2 HA3
      have z1 : (cntA (concN (markL 0 ws.length))).size = 48 := cntA_len _
      have z2 : (cntA (fun x => madeN ls x)).size = 48 := cntA_len _
      have z3 : (cntA (fun x => usedN ls x + concN cs x)).size = 48 := cntA_len _
      have Z1 := Lib.hid z1; have Z2 := Lib.hid z2; have Z3 := Lib.hid z3
      clear z1 z2 z3
      generalize cntA (concN (markL 0 ws.length)) = K1 at *
      generalize cntA (fun x => madeN ls x) = K2 at *
      generalize cntA (fun x => usedN ls x + concN cs x) = K3 at *
      cases c1 with
      | false =>
        go_wp2_with (first
          | (refine wpList_load_row rfl _ _ rfl (w.heap.size + 1) rfl _ _ _ _ HA1.out Tryz.underlying162 rfl (by rw [Z1.out]; exact size_cnt) ?_)
          | (refine wpList_load_row rfl _ _ rfl (w.heap.size + 1 + 1) rfl _ _ _ _ HA2.out Tryz.underlying162 rfl (by rw [Z2.out]; exact size_cnt) ?_))
        go_ret
        exact ⟨ret_bool' HV.out.symm, S6.out.bel⟩
      | true =>
        rw [Bool.true_and] at HV
        go_wp2_with (first
          | (refine wpList_load_row rfl _ _ rfl (w.heap.size + 1) rfl _ _ _ _ HA1.out Tryz.underlying162 rfl (by rw [Z1.out]; exact size_cnt) ?_)
          | (refine wpList_load_row rfl _ _ rfl (w.heap.size + 1 + 1) rfl _ _ _ _ HA2.out Tryz.underlying162 rfl (by rw [Z2.out]; exact size_cnt) ?_)
          | (refine wpList_load_row_g (by rfl) _ _ rfl (w.heap.size + 1) rfl _ _ _ _ HA1.out Tryz.underlying162 rfl (by rw [Z1.out]; exact size_cnt) ?_)
          | (refine wpList_load_row_g (by rfl) _ _ rfl (w.heap.size + 1 + 1 + 1) rfl _ _ _ _ HA3.out Tryz.underlying162 rfl (by rw [Z3.out]; exact size_cnt) ?_))
        go_ret
        exact ⟨ret_bool' HV.out.symm, S6.out.bel⟩
end
section
open Go.ChangeAt Go.ChangeShapes Go.RowKit Go.WideShapes

theorem lit_own (w : World) (x : Int) : (w.alloc (.cells #[Value.int .i64 x] 2)).ownsRow w.heap.size 2 1 (.slice (some ⟨w.heap.size, 0, none⟩) 1 1) 1 [Value.int .i64 x] :=
  ⟨rfl, .inr ⟨w.heap.size, 1, #[Value.int .i64 x], rfl, Nat.le_refl _, heap_alloc_new _ _, Nat.le_refl _, by decide, rfl, rfl⟩⟩
set_option maxHeartbeats 1000000 in
/-- formOf: the operator, then its operands. -/
theorem formOf_any (op : Int) (g m c : Nat) (vs : List Value) (ls : List (List Int)) (w : World) (hm : ls.length = m) (hm0 : 0 < m) (hmx : m ≤ 1000)
    (hcell : ∀ i, i < m → w.cell? ⟨g, i, none⟩ = some (vs.getD i undef)) (hgB : g < w.heap.size) (hpart : ∀ i, i < m → Part w w.heap.size (vs.getD i undef) (ls.getD i [])) (htot : ls.flatten.length ≤ 1000) (hpos : 0 < ls.flatten.length) :
    Calls Tryz.prog 181 #[.int .i64 op, .slice (some ⟨g, 0, none⟩) m c] w (Gives w (op :: ls.flatten)) := by
  obtain ⟨i0, hi0, hz0, hz1, hz2⟩ := info_parts info_i64
  have HI := Lib.hid hi0; have HZ0 := Lib.hid hz0; have HZ1 := Lib.hid hz1; have HZ2 := Lib.hid hz2
  obtain ⟨w1, hw1⟩ : ∃ w1, w1 = w.alloc (.cells #[Value.int .i64 op] 2) := ⟨_, rfl⟩
  have hb1 : Below w.heap.size w w1 := by rw [hw1]; exact (Below.refl _ _).alloc (Nat.le_refl _) _
  have ho1 : w1.ownsRow w.heap.size 2 1 (.slice (some ⟨w.heap.size, 0, none⟩) 1 1) 1 [Value.int .i64 op] := by rw [hw1]; exact lit_own w op
  have hs1 : w1.heap.size = w.heap.size + 1 := by rw [hw1]; simp
  have HC := Lib.hid (concat_any g m c vs ls w1 hm hm0 hmx (fun i hi => (hb1.cell (p := ⟨g, i, none⟩) hgB).trans (hcell i hi)) (by omega) (fun i hi => ((hpart i hi).below hb1).more (by omega)) htot)
  have HW1 := Lib.hid hw1; have HB1 := Lib.hid hb1; have HO1 := Lib.hid ho1
  obtain ⟨T, hT⟩ : ∃ T, ls.flatten = T := ⟨_, rfl⟩
  rw [hT] at HC htot hpos ⊢
  clear hw1 hb1 ho1 hi0 hz0 hz1 hz2 hcell hpart hT
  go_enter Tryz.func181, Tryz.ntmps181
  go_wp2_with (go_at_call 149; fail)
  rw [← HW1.out]
  refine HC.out.mono ?_
  rintro e w2 ⟨A2, c2, rfl, o2, bel2⟩
  obtain ⟨b2, off2, c2', he, hb2, hc2⟩ : ∃ b off c', (Value.slice A2 T.length c2) = .slice (some ⟨b, off, none⟩) T.length c' ∧ b < w2.heap.size ∧ ∀ j, j < T.length → w2.cell? ⟨b, off + j, none⟩ = some (.int .i64 (T.getD j 0)) := by
    obtain ⟨b, off, e, hbb, hcc⟩ := (RdI.of_own o2).2 hpos
    exact ⟨b, off, c2, by rw [e], hbb, hcc⟩
  injection he with e1 e2 e3
  subst e1; subst e3
  have HN := Lib.hid (part_news hc2)
  have HO2 := Lib.hid (own_below HO1.out bel2 (Nat.le_refl _))
  have HB2 := Lib.hid (HB1.out.trans (bel2.mono HB1.out.size))
  have HHO := Lib.hid (ints_one T)
  have HLN : Hid ((T.map (Value.int .i64)).length = T.length * 1) := Lib.hid (by simp)
  have hs2 : w.heap.size ≤ w2.heap.size := HB2.out.size
  clear hc2 o2 bel2
  go_wp2_with (at_builtin; refine wpList_append_own _ rfl _ _ 24 rfl w.heap.size 2 i0 (.int .i64 0) 1 8 Tryz.underlying24 HI.out HZ0.out HZ1.out HZ2.out rfl (by decide) _ _ _ rfl HO2.out ⟨b2, off2, none⟩ T.length c2 (T.map (Value.int .i64)) rfl HLN.out HN.out HHO.out (by unfold maxLen; omega) (by omega) hs2 ?_; intro v7 w7 hown7 hgrow7 _)
  obtain ⟨A7, c7, rfl⟩ := own_shape hown7
  have HB7 := Lib.hid (HB2.out.grown hgrow7 hs2 (fun k hk => (HO2.out.lt k hk).1))
  have e : 1 + T.length = (op :: T).length := by rw [List.length_cons]; omega
  rw [e] at hown7 ⊢
  have HO7 := Lib.hid hown7
  clear hown7 hgrow7 e
  go_wp2
  go_ret
  exact ⟨A7, c7, rfl, HO7.out, HB7.out⟩
end
section
set_option linter.unusedSimpArgs false
set_option linter.unusedVariables false
open Go.ChangeAt Go.ChangeShapes Go.RowKit Go.WideShapes

theorem neq_link (k a b c z : Int) (w : World) : (binOp .neq 103 (.agg #[.int .i64 k, .int .i64 a, .int .i64 b, .int .i64 c]) (.agg #[.int .i64 k, .int .i64 a, .int .i64 b, .int .i64 z])).run Tryz.prog w = .ok (.bool (!(c == z))) w := by
  have hu : Tryz.prog.underlying 103 = some (.struct (Tryz.prog.fieldsOf 103)) := by kernel_rfl
  have hh : Tryz.prog.stoodInHeld 103 = false := by kernel_rfl
  have he := Tryz.underlying2
  have hm : (Tryz.prog.fieldsOf 103).toList.map (fun f => (f.name, f.type, f.offset)) = [("Kind", 2, 0), ("A", 2, 1), ("B", 2, 2), ("C", 2, 3)] := by kernel_rfl
  rw [run_neq_struct, run_equalIn_struct w 9999 _ _ _ hu hh]
  generalize (Tryz.prog.fieldsOf 103).toList = fs at hm ⊢
  rcases fs with _ | ⟨f0, _ | ⟨f1, _ | ⟨f2, _ | ⟨f3, _ | ⟨f4, t⟩⟩⟩⟩⟩ <;> simp only [List.map_nil, List.map_cons, List.cons.injEq, Prod.mk.injEq, reduceCtorEq, and_false, false_and, List.nil_eq, and_true] at hm
  obtain ⟨⟨n0, t0, o0⟩, ⟨n1, t1, o1⟩, ⟨n2, t2, o2⟩, n3, t3, o3⟩ := hm
  have px : ∀ (i : Nat) (x0 x1 x2 x3 : Int), i < 4 → (part 2 #[.int .i64 x0, .int .i64 x1, .int .i64 x2, .int .i64 x3] i).run Tryz.prog w = .ok (.int .i64 (([x0, x1, x2, x3] : List Int).getD i 0)) w := fun i x0 x1 x2 x3 hi => by
    rcases i with _ | _ | _ | _ | i
    · simp [part, isAgg, run_underlying he]
    · simp [part, isAgg, run_underlying he]
    · simp [part, isAgg, run_underlying he]
    · simp [part, isAgg, run_underlying he]
    · omega
  have pe : ∀ x y : Int, (Op.equalIn 9999 2 (.int .i64 x) (.int .i64 y)).run Tryz.prog w = .ok (x == y) w := fun x y => run_equalIn_int w 9998 2 .i64 .i64 x y he
  have q0 := fun x0 x1 x2 x3 => px 0 x0 x1 x2 x3 (by omega)
  have q1 := fun x0 x1 x2 x3 => px 1 x0 x1 x2 x3 (by omega)
  have q2 := fun x0 x1 x2 x3 => px 2 x0 x1 x2 x3 (by omega)
  have q3 := fun x0 x1 x2 x3 => px 3 x0 x1 x2 x3 (by omega)
  have e0 : ("Kind" ≠ "_") = True := eq_true (by decide)
  have e1 : ("A" ≠ "_") = True := eq_true (by decide)
  have e2 : ("B" ≠ "_") = True := eq_true (by decide)
  have e3 : ("C" ≠ "_") = True := eq_true (by decide)
  simp only [Op.eqFields, n0, t0, o0, n1, t1, o1, n2, t2, o2, n3, t3, o3, e0, e1, e2, e3, if_true, Sem.run_bind, Sem.run_ite, q0, q1, q2, q3, pe, Result.andThen_ok, List.getD_cons_zero, List.getD_cons_succ]
  cases hb : (c == z) <;> simp [hb]
end
end Go.Proofs.YtfdpkhiiboghiaaGreatDoor
