/- The program: FailingSwitching. -/
import Derived.Test.YtlcapifgpcimpaaDoorSwX
import Derived.Test.YtlcapifgpcimpaaDoorSmU
import Derived.Test.YtlcapifgpcimpaaDoorSwF
import Derived.Test.YtlcapifgpcimpaaDoorSgG
namespace Go.Proofs.YtlcapifgpcimpaaDoor
set_option linter.unusedSimpArgs false
set_option linter.unusedVariables false
open Go.ChangeAt Go.ChangeShapes Go.RowKit Go.WideShapes Go.Shelf
attribute [local go_sem] Oper.semAt_some

theorem switchingsOf_any (m : Nat) (w : World) :
    Calls Tryd.prog 52 #[.int .i64 m] w fun e w' => e = .returned (.func (.func 78) #[] #[.pointer (some ⟨w.heap.size, 0, none⟩)]) ∧ w' = w.alloc (.cells #[.int .i64 m] 3) := by
  go_enter Tryd.func52, Tryd.ntmps52
  go_wp2
  go_ret
  exact ⟨rfl, rfl⟩
theorem scV_neg {N : Nt} (h : scV N < 0) : scV N = -1 ∧ fsP N = (-1, -1) := ⟨by have := (scV_le N).1; omega, by unfold fsP; rw [if_pos h]⟩
theorem three_boxN (w : World) (o p q : Obj) : Below w.heap.size w (((w.alloc o).alloc p).alloc q) ∧ (((w.alloc o).alloc p).alloc q).heap[w.heap.size]? = some o ∧ (((w.alloc o).alloc p).alloc q).heap[w.heap.size + 1]? = some p ∧ (((w.alloc o).alloc p).alloc q).heap[w.heap.size + 1 + 1]? = some q ∧ (((w.alloc o).alloc p).alloc q).heap.size = w.heap.size + 1 + 1 + 1 := by
  have h1 : (w.alloc o).heap.size = w.heap.size + 1 := by simp
  have h2 : ((w.alloc o).alloc p).heap.size = w.heap.size + 1 + 1 := by simp
  refine ⟨(((Below.refl _ _).alloc (Nat.le_refl _) _).alloc (by simp) _).alloc (by simp; omega) _, ?_, ?_, ?_, by simp⟩
  · exact (((Below.refl _ ((w.alloc o).alloc p)).alloc (Nat.le_refl _) q).block _ (by omega)).trans ((((Below.refl _ (w.alloc o)).alloc (Nat.le_refl _) p).block _ (by omega)).trans (heap_alloc_new _ _))
  · refine (((Below.refl _ ((w.alloc o).alloc p)).alloc (Nat.le_refl _) q).block _ (by omega)).trans ?_
    rw [← h1]; exact heap_alloc_new _ _
  · rw [← h2]; exact heap_alloc_new _ _
theorem one_cellN {w : World} {b : Nat} {a0 : Value} {t : TypeId} (h : w.heap[b]? = some (.cells #[a0] t (0, 0))) : w.cell? ⟨b, 0, none⟩ = some a0 := cell_of_row _ _ 0 _ _ (0, 0) h
theorem twoSet {w : World} {b c : Nat} {x y : Value} {t u : TypeId} (hb : w.heap[b]? = some (.cells #[x] t (0, 0))) (hc : w.heap[c]? = some (.cells #[y] u (0, 0))) (hn : b ≠ c) (v z : Value) :
    ((w.setCell ⟨b, 0, none⟩ v).setCell ⟨c, 0, none⟩ z).cell? ⟨b, 0, none⟩ = some v ∧ ((w.setCell ⟨b, 0, none⟩ v).setCell ⟨c, 0, none⟩ z).cell? ⟨c, 0, none⟩ = some z := by
  have h0 := heap_setCell_same w b 0 _ t v hb
  have h1 : (w.setCell ⟨b, 0, none⟩ v).heap[c]? = some (.cells #[y] u (0, 0)) := (heap_setCell_other _ _ _ _ (Ne.symm hn)).trans hc
  have h2 := heap_setCell_same _ c 0 _ u z h1
  have h3 : ((w.setCell ⟨b, 0, none⟩ v).setCell ⟨c, 0, none⟩ z).heap[b]? = _ := (heap_setCell_other _ _ _ _ hn).trans h0
  exact ⟨one_cellN (by simpa using h3), one_cellN (by simpa using h2)⟩
theorem resCC {P : Program} {fn : Func} {p q : Tmp} {t : TypeId} {d : TypeDesc} (h : fn.results = #[.cell p t, .cell q t]) (hd : P.underlying t = some d) (hs : (match d with | .struct _ | .array _ _ => true | _ => false) = false) (tmps : Array Value) (w : World) (b c : Nat) (v z : Value)
    (hp : tmps.getD p undef = .pointer (some ⟨b, 0, none⟩)) (hq : tmps.getD q undef = .pointer (some ⟨c, 0, none⟩)) (hb : w.cell? ⟨b, 0, none⟩ = some v) (hc : w.cell? ⟨c, 0, none⟩ = some z) :
    (results fn tmps).run P w = .ok (.tuple #[v, z]) w := by
  have hp' : tmps[p]?.getD undef = .pointer (some ⟨b, 0, none⟩) := by simpa using hp
  have hq' : tmps[q]?.getD undef = .pointer (some ⟨c, 0, none⟩) := by simpa using hq
  simp [results, h, go_sem, hp', hq', hb, hc, run_isAgg_plain hd hs]
/-- The two values that a round is handed. -/
def handA (vs : Array Value) : Value := match vs.toList with
  | a :: _ => a
  | [] => undef
def handB (vs : Array Value) : Value := match vs.toList with
  | _ :: b :: _ => b
  | _ => undef
theorem handA_pair (a b : Value) : handA #[a, b] = a := rfl
theorem handB_pair (a b : Value) : handB #[a, b] = b := rfl
theorem StpR.cell {m : Nat} {A B : World} (st : StpR m A B) {p : Addr} {v : Value} (h : A.cell? p = some v) : B.cell? p = some v := by
  obtain ⟨o, ho, hc⟩ := cells_of_cell h
  exact (World.cell?_of_block ((st.blk _ o ho (.inl hc)).trans ho.symm)).trans h
theorem StpR.rdi {m n : Nat} {A B : World} (st : StpR m A B) {X : Option Addr} {xs : List Int} (h : RdI A A.heap.size X n xs) : RdI B B.heap.size X n xs :=
  ⟨h.1, fun hn => by obtain ⟨b, off, e, hb, hc⟩ := h.2 hn; exact ⟨b, off, e, Nat.lt_of_lt_of_le hb st.size, fun j hj => st.cell (hc j hj)⟩⟩
theorem StpR.to_below {m n : Nat} {w A B : World} (st : StpR m A B) (hb : Below n w A) (hm : n ≤ m) (hw : n ≤ w.heap.size) : Below n w B := by
  refine hb.trans ⟨st.os, st.tape, st.output, st.size, fun k hk => ?_⟩
  have hl : k < A.heap.size := Nat.lt_of_lt_of_le (Nat.lt_of_lt_of_le hk hw) hb.size
  rw [Array.getElem?_eq_getElem hl]
  exact st.blk k _ (Array.getElem?_eq_getElem hl) (.inr (by omega))
theorem others_below {A B : World} (h : Below A.heap.size A B) : KeepsOthers A B := ⟨h.size, fun k o hk _ => (h.block k (Array.getElem?_eq_some_iff.1 hk).1).trans hk⟩
theorem below_shut {n D : Nat} {w A : World} (hb : Below n w A) (hn : n ≤ D) (hw : n ≤ w.heap.size) (o : Obj) : Below n w (A.putObj D o) :=
  hb.grown (grownBy_putObj' A D o) (Nat.le_trans hw hb.size) (fun k e => by cases e; exact hn)
set_option maxRecDepth 100000 in
set_option maxHeartbeats 2000000 in
theorem failing_impl (h : NH) (N : Nt) (w : World) (r : RdN w w.heap.size h N) (sm : SmallN N) (ht : Arit w) (hu : Dual w) :
    Calls Tryd.prog 19 #[.agg #[.slice h.A N.w.length h.c, .slice h.L N.l.length h.d, .slice h.C N.c.length h.e]] w fun e w' => e = .returned (.tuple #[.int .i64 (fsP N).1, .int .i64 (fsP N).2]) ∧ Below w.heap.size w w' := by
  obtain ⟨w3, hw3⟩ : ∃ w3, w3 = ((w.alloc (.cells #[.slice h.A N.w.length h.c, .slice h.L N.l.length h.d, .slice h.C N.c.length h.e] 35)).alloc (.cells #[.int .i64 0] 2)).alloc (.cells #[.int .i64 0] 2) := ⟨_, rfl⟩
  obtain ⟨hb, p0, p1, p2, hsz⟩ := three_boxN w (.cells #[.slice h.A N.w.length h.c, .slice h.L N.l.length h.d, .slice h.C N.c.length h.e] 35) (.cells #[.int .i64 0] 2) (.cells #[.int .i64 0] 2)
  rw [← hw3] at hb p0 p1 p2 hsz
  have HK := Lib.hid (fun (wx : World) (hx : Below w3.heap.size w3 wx) => And.intro (three_cells ((hx.block w.heap.size (by omega)).trans p0)) (And.intro ((hx.block (w.heap.size + 1) (by omega)).trans p1) ((hx.block (w.heap.size + 1 + 1) (by omega)).trans p2)))
  have HR := Lib.hid (fun (wx : World) (hx : Below w3.heap.size w3 wx) => show RdN wx wx.heap.size h N from (r.below (hb.trans (hx.mono hb.size))).more (Nat.le_trans hb.size hx.size))
  have HT := Lib.hid (fun (wx : World) (hx : Below w3.heap.size w3 wx) => show Arit wx from (ht.below hb ht.lt).below hx (Nat.lt_of_lt_of_le ht.lt hb.size))
  have HU := Lib.hid (fun (wx : World) (hx : Below w3.heap.size w3 wx) => show Dual wx from (hu.below hb hu.lt).below hx (Nat.lt_of_lt_of_le hu.lt hb.size))
  have HC := Lib.hid (swCount_impl h N w3 (HR.out _ (Below.refl _ _)) sm (HT.out _ (Below.refl _ _)) (HU.out _ (Below.refl _ _)))
  have HB := Lib.hid hb
  have HS3 : Hid (w3.heap.size = w.heap.size + 1 + 1 + 1) := Lib.hid hsz
  have HSM := Lib.hid sm
  obtain ⟨y0, y1, y2⟩ := (HK.out _ (Below.refl _ _)).1
  clear hb p0 p1 p2 hsz r ht hu sm
  by_cases hneg : scV N < 0
  · obtain ⟨e1, e2⟩ := scV_neg hneg
    rw [e2]
    rw [e1] at HC
    clear hneg e1 e2
    refine (callsIn_wide (n := 3)).1 ?_
    refine callsIn_of_wp_marks Tryd.func19 rfl trivial ?_ rfl
    simp only [Tryd.ntmps19, List.size_toArray, List.length_cons, List.length_nil, Nat.reduceAdd, Nat.reduceSub, Array.replicate_succ, Array.replicate_zero, List.push_toArray, List.append_toArray, List.nil_append, List.cons_append]
    gi_wp2_with (fail)
    rw [← hw3]
    clear hw3
    refine ⟨trivial, ?_⟩
    refine (callsIn_wide.2 HC.out).mono ?_
    rintro e w4 ⟨rfl, bel4⟩
    obtain ⟨q1, q2⟩ := (HK.out _ bel4).2
    have a1 := one_cellN q1
    have a2 := one_cellN q2
    have f1 := frozen_of_row _ _ 0 _ _ q1; have f2 := frozen_of_row _ _ 0 _ _ q2
    have B4 := Lib.hid (HB.out.trans (bel4.mono HB.out.size))
    have HQ := Lib.hid (twoSet q1 q2 (by omega) (.int .i64 (-1)) (.int .i64 (-1)))
    clear bel4 q1 q2 y0 y1 y2
    dsimp only
    gi_wp2
    refine ⟨_, resCC rfl Tryd.underlying2 rfl _ _ (w.heap.size + 1) (w.heap.size + 1 + 1) _ _ rfl rfl HQ.out.1 HQ.out.2, rfl, (B4.out.setCell (p := ⟨w.heap.size + 1, 0, none⟩) (by show w.heap.size ≤ w.heap.size + 1; omega) _).setCell (p := ⟨w.heap.size + 1 + 1, 0, none⟩) (by show w.heap.size ≤ w.heap.size + 1 + 1; omega) _⟩
  · have hv := scV_val hneg
    have hm : (prkN N).length ≤ 10 := by
      by_cases h10 : (prkN N).length ≤ 10
      · exact h10
      · exact absurd (by unfold scV; rw [if_neg (fun e => h10 e.2)]; decide) hneg
    have hsc : scV N = ((2 ^ (prkN N).length : Nat) : Int) := by unfold scV; rw [if_pos ⟨hv, hm⟩]
    have hfs : fsP N = fsQ N (2 ^ (prkN N).length) := by unfold fsP; rw [if_neg hneg, hsc, Int.toNat_natCast]
    have hne : (((2 ^ (prkN N).length : Nat) : Int) == -1) = false := by
      have : ¬ (((2 ^ (prkN N).length : Nat) : Int) = -1) := by generalize 2 ^ (prkN N).length = z; omega
      simpa using this
    rw [hsc] at HC
    rw [hfs]
    have HSB := Lib.hid (fun (wx : World) (hx : Below w3.heap.size w3 wx) => switchableOf_any h N wx hv (HR.out _ hx) HSM.out (HT.out _ hx) (HU.out _ hx))
    clear hneg hsc hfs
    refine (callsIn_wide (n := 3)).1 ?_
    refine callsIn_of_wp_marks Tryd.func19 rfl trivial ?_ rfl
    simp only [Tryd.ntmps19, List.size_toArray, List.length_cons, List.length_nil, Nat.reduceAdd, Nat.reduceSub, Array.replicate_succ, Array.replicate_zero, List.push_toArray, List.append_toArray, List.nil_append, List.cons_append]
    have HNE := Lib.hid hne
    obtain ⟨M, hM⟩ : ∃ M, 2 ^ (prkN N).length = M := ⟨_, rfl⟩
    rw [hM] at HC hne HNE ⊢
    gi_wp2_with (fail)
    rw [← hw3]
    clear hw3
    refine ⟨trivial, ?_⟩
    refine (callsIn_wide.2 HC.out).mono ?_
    rintro e w4 ⟨rfl, bel4⟩
    have B4 := Lib.hid bel4
    clear bel4 y0 y1 y2
    obtain ⟨y0, y1, y2⟩ := (HK.out _ B4.out).1
    dsimp only
    gi_wp2_with (fail)
    refine ⟨trivial, ?_⟩
    refine (callsIn_wide.2 (HSB.out _ B4.out)).mono ?_
    rintro e w5 ⟨A5, c5, P5, d5, rfl, rA5, rP5, bel5⟩
    dsimp only
    gi_wp2_with (fail)
    obtain ⟨w6, hw6⟩ : ∃ u, u = w5.alloc (.cells #[.int .i64 (N.l.length : Nat), .slice A5 (arcsU N N.w.length).length c5, .slice P5 (prkN N).length d5] 74) := ⟨_, rfl⟩
    have hb6 : Below w5.heap.size w5 w6 := by rw [hw6]; exact (Below.refl _ _).alloc (Nat.le_refl _) _
    have hg6 : w6.heap[w5.heap.size]? = some (.cells #[.int .i64 (N.l.length : Nat), .slice A5 (arcsU N N.w.length).length c5, .slice P5 (prkN N).length d5] 74 (0, 0)) := by rw [hw6]; exact heap_alloc_new _ _
    have hl6 : w5.heap.size < w6.heap.size := by rw [hw6]; simp
    rw [← hw6]
    clear hw6
    refine ⟨trivial, ?_⟩
    refine (callsIn_wide.2 (switchingsOf_any (prkN N).length w6)).mono ?_
    rintro e w7 ⟨rfl, hw7⟩
    have hb7 : Below w6.heap.size w6 w7 := by rw [hw7]; exact (Below.refl _ _).alloc (Nat.le_refl _) _
    have hg7 : w7.heap[w6.heap.size]? = some (.cells #[.int .i64 (prkN N).length] 3 (0, 0)) := by rw [hw7]; exact heap_alloc_new _ _
    have hl7 : w6.heap.size < w7.heap.size := by rw [hw7]; simp
    clear hw7 y0 y1 y2
    have hmod : ∀ y : Nat, isSw N (swU (y : Int) (prkN N).length) = true := fun y => isSw_bits hv y
    have hwl : N.w.length ≤ 48 := (valN_size hv).1
    have hll : N.l.length ≤ 48 := (valN_size hv).2
    have hai : ∀ s, ArcsIn N.l.length (mgU N s N.w.length) := fun s => arcs_in hv
    have hb37 : Below w3.heap.size w3 w7 := B4.out.trans (((bel5.trans (hb6.mono bel5.size)).trans (hb7.mono (Nat.le_trans bel5.size hb6.size))).mono B4.out.size)
    have hb57 : Below w5.heap.size w5 w7 := hb6.trans (hb7.mono hb6.size)
    have hit := swIt_any (prkN N).length hm w6.heap.size w7 hl7 (one_cellN hg7)
    have hg7s := (hb7.block _ hl6).trans hg6
    have h57 := hb57.size
    have HS5 : Hid (w3.heap.size ≤ w5.heap.size) := Lib.hid (Nat.le_trans B4.out.size bel5.size)
    have HB37 := Lib.hid hb37
    have HZ := Lib.hid (fun (wx : World) (hx : Below w7.heap.size w7 wx) => three_cells ((hx.block _ (Nat.lt_of_lt_of_le hl6 hb7.size)).trans hg7s))
    have HRA := Lib.hid (fun (wx : World) (hx : Below w7.heap.size w7 wx) => show RdA wx wx.heap.size A5 (arcsU N N.w.length).length (arcsU N N.w.length) from (rA5.below (hb57.trans (hx.mono h57))).more (Nat.le_trans h57 hx.size))
    have HRP := Lib.hid (fun (wx : World) (hx : Below w7.heap.size w7 wx) => show RdQ wx wx.heap.size P5 (prkN N).length (pairsU N (prkN N).length) from (rP5.below (hb57.trans (hx.mono h57))).more (Nat.le_trans h57 hx.size))
    have HFT := Lib.hid (fun (s : List Int) (B : Option Addr) (d : Nat) (wx : World) (rr : RdA wx wx.heap.size B (mgU N s N.w.length).length (mgU N s N.w.length)) => faultOf_any N.l.length (mgU N s N.w.length) B d wx (by omega) (by have := mgU_len N s N.w.length; omega) (hai s) rr)
    have HGA := Lib.hid (fun (y : Nat) (A : Option Addr) (c : Nat) (wx : World) (hx : Below w7.heap.size w7 wx) (rS : RdI wx wx.heap.size A (swU (y : Int) (prkN N).length).length (swU (y : Int) (prkN N).length)) => graph_any N (swU (y : Int) (prkN N).length) A5 P5 A c5 d5 c wx (hmod y) (HRA.out wx hx) (HRP.out wx hx) rS)
    have HSAME := Lib.hid (fun y : Nat => graph_same (hmod y))
    have HBX := Lib.hid (fun (wx : World) (hx : Below w7.heap.size w7 wx) => (HK.out wx (hb37.trans (hx.mono hb37.size))).2)
    have HBW : Hid (Below w.heap.size w w7) := Lib.hid (HB.out.trans (hb37.mono HB.out.size))
    have HS7 : Hid (w.heap.size + 1 + 1 < w7.heap.size) := Lib.hid (by have := hb37.size; have := HS3.out; omega)
    have HFX : Hid (∀ k : Nat, ftV N.l.length (mgU N (swU (k : Int) (prkN N).length) N.w.length) = fxN N k) := Lib.hid fun k => rfl
    have HAT := Lib.hid (fun (k : Nat) (hk : k < M) (h1 : ∀ j, j < k → fxN N j = 0) (h2 : ¬ fxN N k = 0) => fsQ_at hk h1 h2)
    have HNN := Lib.hid (fun (h1 : ∀ j, j < M → fxN N j = 0) => fsQ_none h1)
    rw [hM] at hit
    have HIT := Lib.hid hit
    have HLS := Lib.hid (fun y : Nat => swU_len (y : Int) (prkN N).length)
    have HMM := Lib.hid hM
    clear hmod hai hb37 hb57 hit hg7s h57 rA5 rP5 bel5 hb6 hg6 hl6 hb7 hg7 hl7 hv hm hne hM HNE
    dsimp only
    gi_wp2_with (fail)
    refine wpIn_rangeR rfl (by decide) (gf := 78) (lb := #[.pointer (some ⟨w6.heap.size, 0, none⟩)]) rfl trivial (enters_of Tryd.func78 (by kernel_rfl) rfl) HIT.out (Below.refl _ _)
      (fun k vs A B hh st => by obtain ⟨X, c, rfl, rr⟩ := hh; exact ⟨X, c, rfl, st.rdi rr⟩) (fun k vs W hh => by obtain ⟨X, c, rfl, rr⟩ := hh; rfl)
      (fun k W => (∀ j, j < k → fxN N j = 0) ∧ Below w7.heap.size w7 W)
      (fun k W => fsQ N M = ((k : Int), fxN N k) ∧ W.cell? ⟨w.heap.size + 1, 0, none⟩ = some (.int .i64 k) ∧ W.cell? ⟨w.heap.size + 1 + 1, 0, none⟩ = some (.int .i64 (fxN N k)) ∧ Below w.heap.size w W)
      (fun k A B hi st => ⟨hi.1, st.to_below hi.2 (Nat.le_refl _) (Nat.le_refl _)⟩)
      (fun k A B hi st => ⟨hi.1, st.cell hi.2.1, st.cell hi.2.2.1, st.to_below hi.2.2.2 (by have := HS7.out; omega) (Nat.le_refl _)⟩)
      ⟨fun j hj => absurd hj (by omega), Below.refl _ _⟩
      (fun vs => { tmps := #[.agg #[.slice h.A N.w.length h.c, .slice h.L N.l.length h.d, .slice h.C N.c.length h.e], .pointer (some ⟨w.heap.size, 0, none⟩), .pointer (some ⟨w.heap.size + 1, 0, none⟩), .pointer (some ⟨w.heap.size + 1 + 1, 0, none⟩), .pointer (some ⟨w5.heap.size, 0, none⟩), handA vs, handB vs, undef, .agg #[.slice h.A N.w.length h.c, .slice h.L N.l.length h.d, .slice h.C N.c.length h.e], .int .i64 M, .bool false, .agg #[.slice h.A N.w.length h.c, .slice h.L N.l.length h.d, .slice h.C N.c.length h.e], .agg #[.int .i64 (N.l.length : Nat), .slice A5 (arcsU N N.w.length).length c5, .slice P5 (prkN N).length d5], .pointer (some ⟨w5.heap.size, 2, none⟩), .slice P5 (prkN N).length d5, .int .i64 (prkN N).length, .func (.func 78) #[] #[.pointer (some ⟨w6.heap.size, 0, none⟩)], handA vs, handB vs, undef, undef, undef, undef, undef, undef, undef, undef, undef, undef], defers := [] }) ?assign ?body ?done ?stop
    case assign =>
      rintro l k vs W W0 K ⟨X, c, rfl, rr⟩ hK
      simp only [handA_pair, handB_pair] at hK
      gi_wp2
      exact hK
    case body =>
      rintro l k vs W hk hsz ⟨hno, hB⟩ ⟨X, c, rfl, rr⟩
      have HNO := Lib.hid hno
      have HBk := Lib.hid hB
      obtain ⟨z0, z1, z2⟩ := HZ.out _ hB
      have HG := Lib.hid (fun (wx : World) (hx : Below W.heap.size W wx) => HGA.out k X c wx (hB.trans (hx.mono hsz)) (by rw [HLS.out]; exact (rr.below hx).more hx.size))
      rw [HLS.out, HSAME.out] at HG
      have HF := Lib.hid (fun (B : Option Addr) (d : Nat) (wx : World) rr => HFT.out (swU (k : Int) (prkN N).length) B d wx rr)
      rw [HFX.out] at HF
      clear hno hB rr
      have HSZ := Lib.hid hsz
      simp only [handA_pair, handB_pair]
      have hmix : Tryd.prog.follows .mixedOrders = true := by kernel_rfl
      gi_wp2_with (fail)
      gi_region_with_o (first
        | (refine ⟨trivial, ?_⟩; gi_at_call 54; refine (CallsIn.inRound l (callsIn_wide.2 (HG.out _ ((Below.refl _ _).drew)))).mono ?_; rintro e w1 ⟨A1, c1, rfl, own1, bel1⟩; have B1 := Lib.hid (undrew bel1); have R1 := Lib.hid (RdA.of_own own1); have zz := HZ.out _ (HBk.out.trans (B1.out.mono HSZ.out)); obtain ⟨x0, x1, x2⟩ := zz; clear own1 bel1; dsimp only)
        | (refine ⟨trivial, ?_⟩; gi_at_call 53; refine (CallsIn.inRound l (callsIn_wide.2 (HF.out A1 c1 w1 R1.out))).mono ?_; rintro e w2 ⟨rfl, bel2⟩; have B2 := Lib.hid (B1.out.trans (bel2.mono B1.out.size)); clear bel2; dsimp only))
      all_goals
        have HB2 := Lib.hid (HBk.out.trans (B2.out.mono HSZ.out))
        obtain ⟨q1, q2⟩ := HBX.out _ HB2.out
        have a1 := one_cellN q1
        have a2 := one_cellN q2
        have f1 := frozen_of_row _ _ 0 _ _ q1
        have f2 := frozen_of_row _ _ 0 _ _ q2
        have HQ := Lib.hid (twoSet q1 q2 (by omega) (.int .i64 (k : Int)) (.int .i64 (fxN N k)))
        have HKO := Lib.hid (others_below B2.out)
        clear q1 q2
        by_cases hfx : fxN N k = 0
        · have hd : (fxN N k != 0) = false := by simp [hfx]
          have HNX : Hid (∀ j, j < k + 1 → fxN N j = 0) := Lib.hid fun j hj => by
            by_cases e : j < k
            · exact HNO.out j e
            · obtain rfl : j = k := by omega
              exact hfx
          clear hfx
          gi_wp2
          exact ⟨HKO.out, fun i hi => B2.out.block i (by have := HSZ.out; omega), HNX.out, HB2.out⟩
        · have hd : (fxN N k != 0) = true := by simp [hfx]
          have HEQ := Lib.hid (HAT.out k hk HNO.out hfx)
          clear hfx
          gi_wp2
          exact ⟨HKO.out.trans ((KeepsOthers.setCell _ _ _).trans (KeepsOthers.setCell _ _ _)), HEQ.out, HQ.out.1, HQ.out.2, ((HBW.out.trans (HB2.out.mono HBW.out.size)).setCell (p := ⟨w.heap.size + 1, 0, none⟩) (by show w.heap.size ≤ w.heap.size + 1; omega) _).setCell (p := ⟨w.heap.size + 1 + 1, 0, none⟩) (by show w.heap.size ≤ w.heap.size + 1 + 1; omega) _⟩
    case done =>
      rintro W ⟨hno, hB⟩ hD
      have hq := HBX.out _ hB
      obtain ⟨q1, q2⟩ := hq
      have a1 := one_cellN q1
      have a2 := one_cellN q2
      have f1 := frozen_of_row _ _ 0 _ _ q1; have f2 := frozen_of_row _ _ 0 _ _ q2
      have HQ := Lib.hid (twoSet q1 q2 (by omega) (.int .i64 (-1)) (.int .i64 0))
      have HN0 := Lib.hid (HNN.out hno)
      have HBB := Lib.hid (HBW.out.trans (hB.mono HBW.out.size))
      have HD := Lib.hid hD
      clear hno hB hD q1 q2
      (try dsimp only)
      gi_wp2
      have hD2 := ((KeepsOthers.setCell W ⟨w.heap.size + 1, 0, none⟩ (.int .i64 (-1))).trans (KeepsOthers.setCell _ ⟨w.heap.size + 1 + 1, 0, none⟩ (.int .i64 0))).same _ _ HD.out rfl
      have hc1 := cell_kept HQ.out.1 (grownBy_putObj' _ w7.heap.size (.deferred none)) (fun r e => by cases e; exact ⟨_, hD2, rfl⟩)
      have hc2 := cell_kept HQ.out.2 (grownBy_putObj' _ w7.heap.size (.deferred none)) (fun r e => by cases e; exact ⟨_, hD2, rfl⟩)
      refine ⟨by simp, .inl ⟨_, _, rfl, run_takeDeferred hD2, ?_⟩⟩
      refine ⟨_, resCC rfl Tryd.underlying2 rfl _ _ (w.heap.size + 1) (w.heap.size + 1 + 1) _ _ rfl rfl hc1 hc2, by rw [HN0.out], ?_⟩
      exact below_shut ((HBB.out.setCell (p := ⟨w.heap.size + 1, 0, none⟩) (by show w.heap.size ≤ w.heap.size + 1; omega) _).setCell (p := ⟨w.heap.size + 1 + 1, 0, none⟩) (by show w.heap.size ≤ w.heap.size + 1 + 1; omega) _) (by have := HS7.out; omega) (Nat.le_refl _) _
    case stop =>
      rintro k W hk ⟨he, hc1, hc2, hB⟩ hD
      have HE := Lib.hid he; have HBB := Lib.hid hB; have HD := Lib.hid hD
      have C1 := Lib.hid hc1; have C2 := Lib.hid hc2
      clear he hB hD hc1 hc2
      (try dsimp only)
      gi_wp2
      have hc1 := cell_kept C1.out (grownBy_putObj' _ w7.heap.size (.deferred none)) (fun r e => by cases e; exact ⟨_, HD.out, rfl⟩)
      have hc2 := cell_kept C2.out (grownBy_putObj' _ w7.heap.size (.deferred none)) (fun r e => by cases e; exact ⟨_, HD.out, rfl⟩)
      refine ⟨by simp, .inl ⟨_, _, rfl, run_takeDeferred HD.out, ?_⟩⟩
      refine ⟨_, resCC rfl Tryd.underlying2 rfl _ _ (w.heap.size + 1) (w.heap.size + 1 + 1) _ _ rfl rfl hc1 hc2, by rw [HE.out], ?_⟩
      exact below_shut HBB.out (by have := HS7.out; omega) (Nat.le_refl _) _
end Go.Proofs.YtlcapifgpcimpaaDoor
