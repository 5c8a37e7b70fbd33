/- The program's linked list: pairWith, ends, canBeContracted, nodeAfter. -/
import Derived.Test.YtlcapifgpcimpaaDoorChM
import Derived.Deep.RegionHeldLaw
import Derived.Deep.DeepCutAuto
import Derived.BigQuiet
import Derived.BigRegion
import Derived.LaidEqlPtr
import Derived.ChangeKeysEq
import Derived.Laws.StructEq
namespace Go.Proofs.YtlcapifgpcimpaaDoor
set_option linter.unusedSimpArgs false
set_option linter.unusedVariables false
open Go.ChangeAt Go.ChangeShapes Go.RowKit Go.WideShapes

theorem eqlP1 (a : Addr) (w : World) : (binOp .eql 125 (.pointer (some a)) (.pointer none)).run Tryd.prog w = .ok (.bool false) w := run_eql_pointer_nil w _ (some a) (by kernel_rfl)
theorem eqlP0 (w : World) : (binOp .eql 125 (.pointer none) (.pointer none)).run Tryd.prog w = .ok (.bool true) w := run_eql_pointer_nil w _ none (by kernel_rfl)
theorem neqP1 (a : Addr) (w : World) : (binOp .neq 125 (.pointer (some a)) (.pointer none)).run Tryd.prog w = .ok (.bool true) w := run_neq_pointer_nil w _ (some a) (by kernel_rfl)
theorem neqP0 (w : World) : (binOp .neq 125 (.pointer none) (.pointer none)).run Tryd.prog w = .ok (.bool false) w := run_neq_pointer_nil w _ none (by kernel_rfl)
theorem info_node : (Tryd.prog.info? 131).map (fun i => i.size) = some 5 := by kernel_rfl
theorem eqlPS (a : Addr) (w : World) : (binOp .eql 125 (.pointer (some a)) (.pointer (some a))).run Tryd.prog w = .ok (.bool true) w := by
  obtain ⟨i, hi, _⟩ := Option.map_eq_some_iff.1 info_node
  exact run_eql_ptr_same w a Tryd.underlying125 hi
theorem eqlPO {n m : Nd} {t u : Option Nat} (w : World) (hn : NdAt w n t) (hm : NdAt w m u) (hne : n.x ≠ m.x) : (binOp .eql 125 (.pointer (some ⟨n.x, 0, none⟩)) (.pointer (some ⟨m.x, 0, none⟩))).run Tryd.prog w = .ok (.bool false) w := by
  obtain ⟨i, hi, hz⟩ := Option.map_eq_some_iff.1 info_node
  exact run_eql_ptr_other w Tryd.underlying125 hi (by omega) (by intro e; injection e with e; exact hne e) hn hm
theorem nodeAfter_any (t : Ed) (x : Int) (w : World) (hx0 : 0 ≤ x) (hx1 : x ≤ 1000) :
    Calls Tryd.prog 124 #[.int .i64 x, .agg #[.int .i64 (loE t), .int .i64 (hiE t)]] w fun e w' => e = .returned (.int .i64 (rnE (loE t) (hiE t) x)) ∧ Below w.heap.size w w' := by
  generalize loE t = lo
  generalize hiE t = hi
  obtain ⟨w0, hw0⟩ : ∃ w0, w0 = w.alloc (.cells #[.int .i64 lo, .int .i64 hi] 144) := ⟨_, rfl⟩
  obtain ⟨hb, hh, hsz⟩ := box2E w (.int .i64 lo) (.int .i64 hi) 144
  rw [← hw0] at hb hh hsz
  obtain ⟨y0, y1⟩ := twE_cells hh
  have HB := Lib.hid hb
  clear hb hh hsz
  have hm1 : IntKind.i64.wrap (x - 1) = x - 1 := IntWalk.i64_in _ (by omega)
  unfold rnE
  by_cases h1 : x = hi
  · rw [if_pos h1]
    have d1 : (x == hi) = true := by simp [h1]
    clear h1
    go_enter Tryd.func124, Tryd.ntmps124
    go_upto_region 1 with (fail)
    rw [← hw0]
    clear hw0
    go_quiet (fail)
    go_wp2
    go_ret
    exact ⟨rfl, below_drewN HB.out nq⟩
  · rw [if_neg h1]
    have d1 : (x == hi) = false := by simp [h1]
    by_cases h2 : x > hi
    · rw [if_pos h2]
      have d2 : decide (hi < x) = true := decide_eq_true h2
      clear h1 h2
      go_enter Tryd.func124, Tryd.ntmps124
      go_upto_region 1 with (fail)
      rw [← hw0]
      clear hw0
      go_quiet (fail)
      go_wp2
      go_ret
      exact ⟨rfl, below_drewN HB.out nq⟩
    · rw [if_neg h2]
      have d2 : decide (hi < x) = false := decide_eq_false h2
      clear h1 h2
      go_enter Tryd.func124, Tryd.ntmps124
      go_upto_region 1 with (fail)
      rw [← hw0]
      clear hw0
      go_quiet (fail)
      go_wp2
      go_ret
      exact ⟨rfl, below_drewN HB.out nq⟩
theorem ends_any (n : Nd) (t : Option Nat) (w : World) (h : NdAt w n t) :
    Calls Tryd.prog 123 #[.pointer (some ⟨n.x, 0, none⟩)] w fun e w' => e = .returned (.agg #[.int .i64 (loE n.e), .int .i64 (hiE n.e)]) ∧ Below w.heap.size w w' := by
  have hlt := h.lt
  obtain ⟨w0, hw0⟩ : ∃ w0, w0 = w.alloc (.cells #[.int .i64 0, .int .i64 0] 144) := ⟨_, rfl⟩
  obtain ⟨hb, hh, hsz⟩ := box2E w (.int .i64 0) (.int .i64 0) 144
  rw [← hw0] at hb hh hsz
  have h1 : NdAt w0 n t := (hb.block n.x hlt).trans h
  obtain ⟨x, ⟨a, b, p⟩, q⟩ := n
  obtain ⟨c0, c1, c2, c3, c4⟩ := h1.cells
  have f0 := frozen_of_row _ _ 0 _ _ hh; have f1 := frozen_of_row _ _ 1 _ _ hh
  obtain ⟨y0, y1⟩ := twE_cells hh
  unfold loE hiE
  dsimp only at c0 c1 c2 c3 c4 hlt ⊢
  have HH := Lib.hid hh; have HB := Lib.hid hb
  clear h h1 hh hb c2 c3 c4
  go_enter Tryd.func123, Tryd.ntmps123
  go_upto_region 1 with (fail)
  rw [← hw0]
  clear hw0 hsz
  go_region
  have F := set2E_at HH.out (.int .i64 (min a b)) (.int .i64 (max a b))
  go_wp2
  (try simp only [Exit.inBlock, Exit.then])
  refine bodyPost_ret (results_cell_row rfl _ _ w.heap.size _ _ (0, 0) _ rfl F Tryd.underlying144 rfl (by kernel_rfl)) rfl ?_
  exact ⟨rfl, ((HB.out.setCell (p := ⟨w.heap.size, 0, none⟩) (Nat.le_refl _) _).setCell (p := ⟨w.heap.size, 1, none⟩) (Nat.le_refl _) _).drew⟩
theorem eqItems2 {P : Program} {e : TypeId} (he : P.underlying e = some (.int .i64)) (d n : Nat) (xs ys : List Int) (hx : xs.length = n) (hy : ys.length = n) (w : World) : ∀ is : List Nat, (∀ i ∈ is, i < n) →
    (Op.eqItems (d + 1) e 1 (xs.map (Value.int .i64)).toArray (ys.map (Value.int .i64)).toArray is).run P w = .ok (is.all fun i => xs.getD i 0 == ys.getD i 0) w
  | [], _ => by simp [Op.eqItems]
  | i :: is, h => by
    have hi : i < n := h i (by simp)
    have px : (part e (xs.map (Value.int .i64)).toArray (i * 1)).run P w = .ok (.int .i64 (xs.getD i 0)) w := by
      simp [part, isAgg, run_underlying he, List.getD, List.getElem?_eq_getElem (show i < xs.length by omega)]
    have py : (part e (ys.map (Value.int .i64)).toArray (i * 1)).run P w = .ok (.int .i64 (ys.getD i 0)) w := by
      simp [part, isAgg, run_underlying he, List.getD, List.getElem?_eq_getElem (show i < ys.length by omega)]
    have pe := run_equalIn_int w d e .i64 .i64 (xs.getD i 0) (ys.getD i 0) he
    have ih := eqItems2 he d n xs ys hx hy w is fun j hj => h j (by simp [hj])
    simp only [Op.eqItems, Sem.run_bind, px, py, pe, Result.andThen_ok, List.all_cons]
    cases hb : (xs.getD i 0 == ys.getD i 0)
    · simp
    · simp only [Bool.not_true, Bool.false_eq_true, if_false, Bool.true_and]
      exact ih
theorem eql_two (a b c d : Int) (w : World) : (binOp .eql 144 (.agg #[.int .i64 a, .int .i64 b]) (.agg #[.int .i64 c, .int .i64 d])).run Tryd.prog w = .ok (.bool (a == c && b == d)) w := by
  obtain ⟨i, hi⟩ := Option.isSome_iff_exists.1 (show (Tryd.prog.info? 2).isSome = true from by kernel_rfl)
  have hc : Tryd.prog.cellsOf 2 = 1 := by kernel_rfl
  have e := eqItems2 (P := Tryd.prog) Tryd.underlying2 9998 2 [a, b] [c, d] rfl rfl w (List.range 2) (fun i h => List.mem_range.1 h)
  rw [run_eql_struct, run_equalIn_array w 9999 #[.int .i64 a, .int .i64 b] #[.int .i64 c, .int .i64 d] Tryd.underlying144 hi, hc]
  have e2 : (List.range 2).all (fun i => [a, b].getD i 0 == [c, d].getD i 0) = (a == c && b == d) := by
    show ((a == c) && ((b == d) && true)) = _
    rw [Bool.and_true]
  rw [e2] at e
  have e' : (Op.eqItems 9999 2 1 #[Value.int .i64 a, Value.int .i64 b] #[Value.int .i64 c, Value.int .i64 d] (List.range 2)).run Tryd.prog w = .ok (a == c && b == d) w := e
  rw [e']
  rfl
set_option maxRecDepth 100000 in
set_option maxHeartbeats 1000000 in
theorem canC_any {base c : Nat} {nd : Int} {ns : List Nd} (w : World) (h : ChG w base c nd ns) (P : PdN ns) (H2 : TwoP (edsN ns)) (n : Nd) (hn : n ∈ ns) :
    Calls Tryd.prog 106 #[.pointer (some ⟨n.x, 0, none⟩)] w fun e w' => e = .returned (.bool (canE (edsN ns) n.e)) ∧ Below w.heap.size w w' := by
  obtain ⟨t, ht⟩ := h.mem hn
  obtain ⟨c0, c1, c2, c3, c4⟩ := ht.cells
  have hlt := ht.lt
  have HEN := Lib.hid (fun (m : Nd) (u : Option Nat) (w' : World) (hm : NdAt w' m u) => ends_any m u w' hm)
  have HT := Lib.hid ht
  have hE1 := eqlP1; have hE0 := eqlP0
  by_cases hab : n.e.a = n.e.b
  · have HE : Hid (false = canE (edsN ns) n.e) := Lib.hid (by unfold canE; rw [decide_eq_false (fun h => h hab), Bool.false_and])
    have d0 : (n.e.a == n.e.b) = true := by simp [hab]
    generalize canE (edsN ns) n.e = CB at *
    obtain ⟨x, ⟨a, b, p⟩, q⟩ := n
    dsimp only at c0 c1 c2 c3 c4 hlt d0 ⊢
    clear h P H2 hn ht hab HEN
    go_enter Tryd.func106, Tryd.ntmps106
    go_upto_region 1 with (fail)
    go_quiet (fail)
    go_wp2
    go_ret
    exact ⟨ret_bool HE.out, below_drewN (Below.refl _ _) nq⟩
  · have d0 : (n.e.a == n.e.b) = false := by simp [hab]
    cases hq : n.q with
    | none =>
      have HE : Hid (true = canE (edsN ns) n.e) := Lib.hid (by rw [can_none P H2 hn hq, decide_eq_true hab])
      generalize canE (edsN ns) n.e = CB at *
      obtain ⟨x, ⟨a, b, p⟩, q⟩ := n
      dsimp only at c0 c1 c2 c3 c4 hlt d0 hq ⊢
      subst hq
      simp only [ptE] at c3
      clear h P H2 hn ht hab HEN
      go_enter Tryd.func106, Tryd.ntmps106
      go_upto_region 1 with (fail)
      go_quiet (fail)
      go_wp2
      go_ret
      exact ⟨ret_bool HE.out, below_drewN (Below.refl _ _) nq⟩
    | some mx =>
      obtain ⟨m, hm, rfl⟩ := part_mem P hn hq
      obtain ⟨u, hu⟩ := h.mem hm
      have hltm := hu.lt
      have HE : Hid ((loE m.e == loE n.e && hiE m.e == hiE n.e) = canE (edsN ns) n.e) := Lib.hid (by
        rw [can_some P hn hm hq, decide_eq_true hab, Bool.true_and]
        by_cases e1 : loE m.e = loE n.e <;> by_cases e2 : hiE m.e = hiE n.e <;> simp [e1, e2])
      have HU := Lib.hid hu
      generalize canE (edsN ns) n.e = CB at *
      have HEQ := Lib.hid (eql_two (loE m.e) (hiE m.e) (loE n.e) (hiE n.e))
      have hB : ∀ q : Nat, Below w.heap.size w (w.drewN q) := fun q => below_drewN (Below.refl _ _) q
      have HN1 := Lib.hid (fun (w' : World) (hw : Below w.heap.size w w') => HEN.out m u w' ((hw.block _ hltm).trans HU.out))
      have HN2 := Lib.hid (fun (w' : World) (hw : Below w.heap.size w w') => HEN.out n t w' ((hw.block _ hlt).trans HT.out))
      have HBQ := Lib.hid hB
      have HC := Lib.hid (fun (w' : World) (hw : Below w.heap.size w w') => (hw.cell (p := ⟨n.x, 3, none⟩) hlt).trans c3)
      obtain ⟨x, ⟨a, b, p⟩, q⟩ := n
      dsimp only at c0 c1 c2 c3 c4 hlt d0 hq HE HEQ HN1 HN2 HC ⊢
      subst hq
      simp only [ptE] at HC
      generalize loE m.e = m1 at *
      generalize hiE m.e = m2 at *
      generalize loE ⟨a, b, p⟩ = n1 at *
      generalize hiE ⟨a, b, p⟩ = n2 at *
      have heq := HEQ.out
      generalize m.x = mx at *
      clear h P H2 hn ht hab HEN hu hm hB HT HU
      go_enter Tryd.func106, Tryd.ntmps106
      go_upto_region 1 with (fail)
      go_quiet (fail)
      have B1 := HBQ.out nq
      obtain ⟨w1, hw1⟩ : ∃ w1, w1 = w.drewN nq := ⟨_, rfl⟩
      rw [← hw1] at B1 ⊢
      clear hw1 c0 c1 c2 c3 c4
      have c3 := HC.out _ B1
      have HB1 := Lib.hid B1
      go_wp2_with (fail)
      refine (HN1.out _ HB1.out).mono ?_
      rintro e w2 ⟨rfl, bel2⟩
      have HB2 := Lib.hid (HB1.out.trans (bel2.mono HB1.out.size))
      clear bel2 c3 B1
      go_wp2_with (fail)
      refine (HN2.out _ HB2.out).mono ?_
      rintro e w3 ⟨rfl, bel3⟩
      have HB3 := Lib.hid (HB2.out.trans (bel3.mono HB2.out.size))
      clear bel3
      go_wp2
      go_ret
      exact ⟨ret_bool HE.out, HB3.out⟩
end Go.Proofs.YtlcapifgpcimpaaDoor
