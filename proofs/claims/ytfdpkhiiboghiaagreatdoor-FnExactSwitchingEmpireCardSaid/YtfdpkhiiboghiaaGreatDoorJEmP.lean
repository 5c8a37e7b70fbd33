/- The program: SwitchingEmpire. -/
import Derived.Test.YtfdpkhiiboghiaaGreatDoorJQEnF
import Derived.Test.YtfdpkhiiboghiaaGreatDoorJQSgD
import Derived.Test.YtfdpkhiiboghiaaGreatDoorJQSwQ
import Derived.Test.YtfdpkhiiboghiaaGreatDoorJQSgG
import Derived.Deep.RegionHeldLaw
import Derived.Deep.DeepCutAuto
import Derived.BigQuiet
import Derived.Laws.EntriesVeiled
namespace Go.Proofs.YtfdpkhiiboghiaaGreatDoor
set_option linter.unusedSimpArgs false
set_option linter.unusedVariables false
set_option linter.unusedSimpArgs false
set_option linter.unusedVariables false
open Go.ChangeAt Go.ChangeShapes Go.RowKit Go.WideShapes Go.Shelf
open List (setIfInBounds_toArray set_cons_zero set_cons_succ getElem_toArray getElem_cons_succ getElem_cons_zero)
attribute [local go_sem] Oper.semAt_some

theorem two_boxF (w : World) (o p : Obj) : Below w.heap.size w ((w.alloc o).alloc p) ∧ ((w.alloc o).alloc p).heap[w.heap.size]? = some o ∧ ((w.alloc o).alloc p).heap[w.heap.size + 1]? = some p ∧ ((w.alloc o).alloc p).heap.size = w.heap.size + 1 + 1 := by
  have h1 : (w.alloc o).heap.size = w.heap.size + 1 := by simp
  refine ⟨((Below.refl _ _).alloc (Nat.le_refl _) _).alloc (by simp) _, ?_, ?_, by simp⟩
  · exact (((Below.refl _ (w.alloc o)).alloc (Nat.le_refl _) p).block _ (by omega)).trans (heap_alloc_new _ _)
  · rw [← h1]; exact heap_alloc_new _ _
theorem one_cellE {w : World} {b : Nat} {a0 : Value} {t : TypeId} (h : w.heap[b]? = some (.cells #[a0] t (0, 0))) : w.cell? ⟨b, 0, none⟩ = some a0 := cell_of_row _ _ 0 _ _ (0, 0) h
theorem k_heapE {w w' : World} {b : Nat} {o : Obj} (h : w.heap[b]? = some o) (hb : Below w.heap.size w w') : w'.heap[b]? = some o := (hb.block _ (Array.getElem?_eq_some_iff.1 h).1).trans h
theorem cB {w0 w w' : World} (h : Hid (Below w0.heap.size w0 w)) (b : Below w.heap.size w w') : Hid (Below w0.heap.size w0 w') := Lib.hid (h.out.trans (b.mono h.out.size))
theorem cH {w w' : World} {g : Nat} {o : Obj} (h : Hid (w.heap[g]? = some o)) (b : Below w.heap.size w w') : Hid (w'.heap[g]? = some o) := Lib.hid (k_heapE h.out b)
theorem cS {w w' : World} {lo l2 hi n z : Nat} {e : TypeId} {v u : Value} {xs : List Value} {hs : Nat → Option Addr × Nat} {qs : List (List Int)} (h : Hid (w.ownsRow lo e z v n xs ∧ OwnQ w l2 hi u hs qs)) (b : Below w.heap.size w w') : Hid (w'.ownsRow lo e z v n xs ∧ OwnQ w' l2 hi u hs qs) :=
  Lib.hid ⟨own_below h.out.1 b (Nat.le_refl _), h.out.2.below b⟩
theorem alE {w0 w : World} (h : Hid (Below w0.heap.size w0 w)) (o : Obj) : ∃ w', w' = w.alloc o ∧ ∃ B, w.heap.size = B ∧ Hid (w0.heap.size ≤ B) ∧ Below w.heap.size w w' ∧ Hid (w'.heap[B]? = some o) :=
  ⟨_, rfl, _, rfl, Lib.hid h.out.size, (Below.refl _ _).alloc (Nat.le_refl _) _, Lib.hid (heap_alloc_new _ _)⟩
theorem rdI_blkE {w : World} {b : Nat} {y : Int} (h : w.heap[b]? = some (.cells #[.int .i64 y] 2 (0, 0))) : RdI w w.heap.size (some ⟨b, 0, none⟩) 1 [y] := by
  have x0 := one_cellE h
  have hb := (Array.getElem?_eq_some_iff.1 h).1
  refine ⟨rfl, fun _ => ⟨b, 0, rfl, hb, fun j hj => ?_⟩⟩
  match j, hj with
  | 0, _ => exact x0
theorem ownQ_apart {w w' : World} {lo hi g : Nat} {v : Value} {hs : Nat → Option Addr × Nat} {qs : List (List Int)} {c0 : Array Value} {fr : Nat × Nat} {t : TypeId} (h : OwnQ w lo hi v hs qs) (hg : w.heap[g]? = some (.cells c0 t fr)) (h1 : 24 ≠ t) (h2 : 2 ≠ t)
    (ho : ∀ k, k ≠ g → w'.heap[k]? = w.heap[k]?) : OwnQ w' lo hi v hs qs where
  outer := own_same h.outer fun b hb => ho b (own_apartG h.outer hb hg h1)
  inner i hi := own_same (h.inner i hi) fun b hb => ho b (own_apartG (h.inner i hi) hb hg h2)
  apart := h.apart
  apart0 := h.apart0
  top0 := h.top0
  top := h.top
theorem block_ne {w : World} {a b : Nat} {c0 c1 : Array Value} {t u : TypeId} {fr fs : Nat × Nat} (h : w.heap[a]? = some (.cells c0 t fr)) (hg : w.heap[b]? = some (.cells c1 u fs)) (hn : t ≠ u) : a ≠ b := by
  rintro rfl
  rw [h] at hg
  injection hg with hg
  injection hg with _ ht _
  exact hn ht
theorem set1_heap {w : World} {g : Nat} {a : Value} {t : TypeId} (h : w.heap[g]? = some (.cells #[a] t (0, 0))) (v : Value) : (w.setCell ⟨g, 0, none⟩ v).heap[g]? = some (.cells #[v] t (0, 0)) := by
  have := heap_setCell_same w g 0 _ t v h
  simpa using this
theorem set1_other (w : World) (g : Nat) (v : Value) : ∀ k, k ≠ g → (w.setCell ⟨g, 0, none⟩ v).heap[k]? = w.heap[k]? := fun k hk => Below.heap_setCell _ _ _ _ hk
theorem set1_below {m : Nat} {w0 w : World} {g : Nat} (h : Below m w0 w) (hg : m ≤ g) (v : Value) : Below m w0 (w.setCell ⟨g, 0, none⟩ v) := h.setCell (p := ⟨g, 0, none⟩) hg v
theorem set3_heap {w : World} {g : Nat} {a b c : Value} {t : TypeId} (h : w.heap[g]? = some (.cells #[a, b, c] t (0, 0))) (v0 v1 v2 : Value) : (((w.setCell ⟨g, 0, none⟩ v0).setCell ⟨g, 1, none⟩ v1).setCell ⟨g, 2, none⟩ v2).heap[g]? = some (.cells #[v0, v1, v2] t (0, 0)) := by
  have h0 := heap_setCell_same w g 0 _ t v0 h
  have h1 := heap_setCell_same _ g 1 _ t v1 h0
  have h2 := heap_setCell_same _ g 2 _ t v2 h1
  simpa using h2
theorem set3_other (w : World) (g : Nat) (v0 v1 v2 : Value) : ∀ k, k ≠ g → (((w.setCell ⟨g, 0, none⟩ v0).setCell ⟨g, 1, none⟩ v1).setCell ⟨g, 2, none⟩ v2).heap[k]? = w.heap[k]? := fun k hk => by
  rw [Below.heap_setCell _ _ _ _ hk, Below.heap_setCell _ _ _ _ hk, Below.heap_setCell _ _ _ _ hk]
theorem set3_belowE {m : Nat} {w0 w : World} {g : Nat} (h : Below m w0 w) (hg : m ≤ g) (v0 v1 v2 : Value) : Below m w0 (((w.setCell ⟨g, 0, none⟩ v0).setCell ⟨g, 1, none⟩ v1).setCell ⟨g, 2, none⟩ v2) :=
  ((h.setCell (p := ⟨g, 0, none⟩) hg _).setCell (p := ⟨g, 1, none⟩) hg _).setCell (p := ⟨g, 2, none⟩) hg _
theorem gb3 {w : World} {a b : Nat} {c0 c1 : Array Value} {t u : TypeId} {fr fs : Nat × Nat} (ha : w.heap[a]? = some (.cells c0 t fr)) (hb : w.heap[b]? = some (.cells c1 u fs)) (hn : u ≠ t) (v0 v1 v2 : Value) :
    (((w.setCell ⟨a, 0, none⟩ v0).setCell ⟨a, 1, none⟩ v1).setCell ⟨a, 2, none⟩ v2).heap[b]? = some (.cells c1 u fs) := (set3_other w a v0 v1 v2 b (block_ne hb ha hn)).trans hb
theorem emp_end {m a b lo hi : Nat} {w1 w : World} {v vp : Value} {n : Nat} {xs : List Value} {hs : Nat → Option Addr × Nat} {qs : List (List Int)} {x0 x1 x2 y0 v0 v1 v2 y1 : Value}
    (ha : w.heap[a]? = some (.cells #[x0, x1, x2] 88 (0, 0))) (hb : w.heap[b]? = some (.cells #[y0] 60 (0, 0))) (h1 : w.ownsRow lo 85 3 v n xs) (h2 : OwnQ w lo hi vp hs qs) (h3 : Below m w1 w) (h4 : m ≤ a) (h5 : m ≤ b) :
    ((((w.setCell ⟨a, 0, none⟩ v0).setCell ⟨a, 1, none⟩ v1).setCell ⟨a, 2, none⟩ v2).setCell ⟨b, 0, none⟩ y1).heap[a]? = some (.cells #[v0, v1, v2] 88 (0, 0)) ∧
    ((((w.setCell ⟨a, 0, none⟩ v0).setCell ⟨a, 1, none⟩ v1).setCell ⟨a, 2, none⟩ v2).setCell ⟨b, 0, none⟩ y1).heap[b]? = some (.cells #[y1] 60 (0, 0)) ∧
    ((((w.setCell ⟨a, 0, none⟩ v0).setCell ⟨a, 1, none⟩ v1).setCell ⟨a, 2, none⟩ v2).setCell ⟨b, 0, none⟩ y1).ownsRow lo 85 3 v n xs ∧
    OwnQ ((((w.setCell ⟨a, 0, none⟩ v0).setCell ⟨a, 1, none⟩ v1).setCell ⟨a, 2, none⟩ v2).setCell ⟨b, 0, none⟩ y1) lo hi vp hs qs ∧
    Below m w1 ((((w.setCell ⟨a, 0, none⟩ v0).setCell ⟨a, 1, none⟩ v1).setCell ⟨a, 2, none⟩ v2).setCell ⟨b, 0, none⟩ y1) := by
  have hab := block_ne hb ha (by decide)
  have b3 := gb3 ha hb (by decide) v0 v1 v2
  have o3 := own_same h1 (fun z hz => set3_other w a v0 v1 v2 z (own_apartG h1 hz ha (by decide)))
  have q3 := ownQ_apart h2 ha (by decide) (by decide) (set3_other w a v0 v1 v2)
  exact ⟨(set1_other _ b y1 a (Ne.symm hab)).trans (set3_heap ha v0 v1 v2), set1_heap b3 y1, own_same o3 (fun z hz => set1_other _ b y1 z (own_apartG o3 hz b3 (by decide))), ownQ_apart q3 b3 (by decide) (by decide) (set1_other _ b y1), set1_below (set3_belowE h3 h4 v0 v1 v2) h5 y1⟩
theorem StpR.cellE {m : Nat} {A B : World} (st : StpR m A B) {p : Addr} {v : Value} (h : A.cell? p = some v) : B.cell? p = some v := by
  obtain ⟨o, ho, hc⟩ := cells_of_cell h
  exact (World.cell?_of_block ((st.blk _ o ho (.inl hc)).trans ho.symm)).trans h
theorem StpR.rdiE {m n : Nat} {A B : World} (st : StpR m A B) {X : Option Addr} {xs : List Int} (h : RdI A A.heap.size X n xs) : RdI B B.heap.size X n xs :=
  ⟨h.1, fun hn => by obtain ⟨b, off, e, hb, hc⟩ := h.2 hn; exact ⟨b, off, e, Nat.lt_of_lt_of_le hb st.size, fun j hj => st.cellE (hc j hj)⟩⟩
theorem grown_stp {w A B : World} {r : Option Nat} (h : w.grownBy A r) (st : StpR w.heap.size A B) : w.grownBy B r :=
  ⟨st.os.trans h.os, st.tape.trans h.tape, st.output.trans h.output, Nat.le_trans h.size st.size, fun k hk hne => by
    have hl : k < A.heap.size := Nat.lt_of_lt_of_le hk h.size
    rw [← h.block k hk hne, Array.getElem?_eq_getElem hl]
    exact st.blk k _ (Array.getElem?_eq_getElem hl) (.inr hk)⟩
theorem others_belowE {A B : World} (h : Below A.heap.size A B) : KeepsOthers A B := ⟨h.size, fun k o hk _ => (h.block k (Array.getElem?_eq_some_iff.1 hk).1).trans hk⟩
def handAE (vs : Array Value) : Value := match vs.toList with
  | a :: _ => a
  | [] => undef
def handBE (vs : Array Value) : Value := match vs.toList with
  | _ :: b :: _ => b
  | _ => undef
theorem handAE_pair (a b : Value) : handAE #[a, b] = a := rfl
theorem handBE_pair (a b : Value) : handBE #[a, b] = b := rfl
theorem below_shutE {n D : Nat} {w A : World} (hb : Below n w A) (hn : n ≤ D) (hw : n ≤ w.heap.size) (o : Obj) : Below n w (A.putObj D o) :=
  hb.grown (grownBy_putObj' A D o) (Nat.le_trans hw hb.size) (fun k e => by cases e; exact hn)
def nrmE (K : Act → World → Prop) : Exit → Act → World → Prop
  | .normal, a, w => K a w
  | _, _, _ => False
theorem nrm_thenE {K : Act → World → Prop} {a : Act} {w : World} (h : Exit.then K (fun _ _ _ => False) .normal a w) : nrmE K .normal a w := h
theorem wp_nrmE {P : Program} {c : Code} {K : Act → World → Prop} {Q : Exit → Act → World → Prop} {a : Act} {w : World} (h : c.wp P (nrmE K) a w) : c.wp P (Exit.then K Q) a w :=
  (wpIn_wide (n := 0)).1 (wpIn_mono ((wpIn_wide (n := 0)).2 h) (fun e a w h => by cases e <;> first | exact h | exact h.elim))
theorem switchingsOf_e (m : Nat) (w : World) :
    Calls Tryz.prog 81 #[.int .i64 m] w fun e w' => e = .returned (.func (.func 128) #[] #[.pointer (some ⟨w.heap.size, 0, none⟩)]) ∧ w' = w.alloc (.cells #[.int .i64 m] 3) := by
  go_enter Tryz.func81, Tryz.ntmps81
  go_wp2
  go_ret
  exact ⟨rfl, rfl⟩
set_option maxRecDepth 100000 in
set_option maxHeartbeats 8000000 in
theorem switchingEmpire_impl (h : NH) (N : Nt) (x : Int) (w : World) (r : RdN w w.heap.size h N) (sm : SmallN N) (ht : Arit w) (hu : Dual w) (hT : Tz w) :
    Calls Tryz.prog 35 #[.agg #[.slice h.A N.w.length h.c, .slice h.L N.l.length h.d, .slice h.C N.c.length h.e], .int .i64 x] w (GivesB w (seV N x) (kgB N x)) := by
  obtain ⟨w0, hw0⟩ : ∃ w0, w0 = (w.alloc (.cells #[.slice h.A N.w.length h.c, .slice h.L N.l.length h.d, .slice h.C N.c.length h.e] 30)).alloc (.cells #[.int .i64 x] 2) := ⟨_, rfl⟩
  obtain ⟨hb, g0, g1, hsz⟩ := two_boxF w (.cells #[.slice h.A N.w.length h.c, .slice h.L N.l.length h.d, .slice h.C N.c.length h.e] 30) (.cells #[.int .i64 x] 2)
  rw [← hw0] at hb g0 g1 hsz
  have HKF := Lib.hid (fun (wx : World) (hx : Below w0.heap.size w0 wx) => And.intro (one_cellE ((hx.block (w.heap.size + 1) (by omega)).trans g1)) (three_cells ((hx.block w.heap.size (by omega)).trans g0)))
  have HG1 := Lib.hid (fun (wx : World) (hx : Below w0.heap.size w0 wx) => (hx.block (w.heap.size + 1) (by omega)).trans g1)
  have HR := Lib.hid (fun (wx : World) (hx : Below w0.heap.size w0 wx) => show RdN wx wx.heap.size h N from (r.below (hb.trans (hx.mono hb.size))).more (Nat.le_trans hb.size hx.size))
  have HTZ := Lib.hid (fun (wx : World) (hx : Below w0.heap.size w0 wx) => show Tz wx from (hT.below hb hT.lt).below hx (Nat.lt_of_lt_of_le hT.lt hb.size))
  have HT := Lib.hid (fun (wx : World) (hx : Below w0.heap.size w0 wx) => show Arit wx from (ht.below hb ht.lt).below hx (Nat.lt_of_lt_of_le ht.lt hb.size))
  have HU := Lib.hid (fun (wx : World) (hx : Below w0.heap.size w0 wx) => show Dual wx from (hu.below hb hu.lt).below hx (Nat.lt_of_lt_of_le hu.lt hb.size))
  have HB0 := Lib.hid hb
  have HS0 := Lib.hid hsz
  obtain ⟨y3, y0, y1, y2⟩ := HKF.out _ (Below.refl _ w0)
  have HKG := Lib.hid (hasKingdom_any h N x w0 (HR.out _ (Below.refl _ _)) sm (HT.out _ (Below.refl _ _)) (HU.out _ (Below.refl _ _)))
  have hT0 := hT
  clear hb g0 g1 hsz r ht hu hT
  cases hkg : kgB N x with
  | false =>
    rw [hkg] at HKG
    have HE : Hid (seV N x = []) := Lib.hid (by unfold seV; rw [if_neg (by rw [hkg]; decide)])
    rw [HE.out]
    clear hkg
    go_enter Tryz.func35, Tryz.ntmps35
    go_upto_region 1 with (fail)
    rw [← hw0]
    clear hw0
    go_wp2_with (fail)
    refine HKG.out.mono ?_
    rintro e w1 ⟨rfl, bel1⟩
    have HG := Lib.hid (givesB_none (HB0.out.trans (bel1.mono HB0.out.size)))
    clear bel1 y0 y1 y2 y3
    go_wp2
    go_ret2
    exact HG.out
  | true =>
    rw [hkg] at HKG
    have hkg0 := hkg
    obtain ⟨hv, _, h10, hx⟩ := kgB_yes hkg
    have hfr := fr_lt hv hx
    have HSW := Lib.hid (fun (wx : World) (hw : Below w0.heap.size w0 wx) => switchableOf_own h N wx hv (HR.out _ hw) sm (HT.out _ hw) (HU.out _ hw))
    have HSO := Lib.hid (fun (wx : World) (hw : Below w0.heap.size w0 wx) => show Calls Tryz.prog 79 #[.agg #[.slice h.A N.w.length h.c, .slice h.L N.l.length h.d, .slice h.C N.c.length h.e], .int .i64 x] wx fun e w' => e = .returned (.int .i64 (frN N x : Nat)) ∧ Below wx.heap.size wx w' from by
      have q := sourceOf_impl h N x wx (HR.out wx hw) sm (HT.out wx hw) (HU.out wx hw)
      rw [srcN_lx hv, hfr.1] at q
      exact q)
    have HSE := Lib.hid (fun (wx : World) (b : Nat) (hg : wx.heap[b]? = some (.cells #[.int .i64 (frN N x : Nat)] 2 (0, 0))) => show Calls Tryz.prog 70 #[.slice (some ⟨b, 0, none⟩) 1 1] wx fun e w' => e = .returned (.int .u64 ((orS [(frN N x : Int)] : Nat) : Int)) ∧ Below wx.heap.size wx w' from
      (setOf_any (some ⟨b, 0, none⟩) 1 [(frN N x : Int)] wx (rdI_blkE hg) (by simp) (fun y hy => by rw [List.mem_singleton.1 hy]; have := hfr.2; omega)).mono fun e w' q => ⟨q.1, by rw [← q.2]; exact Below.refl _ _⟩)
    have hai : ∀ y, ArcsIn N.l.length (swA N x y) := fun y => arW_in (arcs_inE hv) x
    have HSU : Hid (∀ k, seS N x (k + 1) = seS N x k &&& conS (swA N x k) (orS [(frN N x : Int)])) := Lib.hid fun k => by
      show seS N x k &&& conS (swA N x k) (shB (frN N x : Int)) = _
      rw [show orS [(frN N x : Int)] = shB (frN N x : Int) from by simp [orS]]
    have HSP := Lib.hid (fun j => se_prog hv hx hai j)
    have HSL := Lib.hid (seS_lt N x)
    have HSV : Hid (seV N x = seL N x (2 ^ (prkN N).length)) := Lib.hid (by unfold seV; rw [hkg0, if_pos rfl])
    generalize frN N x = f at *
    clear hkg hkg0
    refine (callsIn_wide (n := 3)).1 ?_
    refine callsIn_of_wp_marks Tryz.func35 rfl trivial ?_ rfl
    refine wpIn_wide.2 ?_
    simp only [Tryz.ntmps35, List.size_toArray, List.length_cons, List.length_nil, Nat.reduceAdd, Nat.reduceSub, Array.replicate_succ, Array.replicate_zero, List.push_toArray, List.append_toArray, List.nil_append, List.cons_append]
    go_upto_region 1 with (fail)
    rw [← hw0]
    clear hw0
    go_wp2_with (fail)
    refine HKG.out.mono ?_
    rintro e w1 ⟨rfl, bel1⟩
    have B1 := Lib.hid bel1
    clear bel1 y0 y1 y2 y3
    have HBX := Lib.hid (fun (wx : World) (hx : Below w1.heap.size w1 wx) => B1.out.trans (hx.mono B1.out.size))
    have HSX := Lib.hid (fun (wx : World) (hx : Below w1.heap.size w1 wx) => HKF.out _ (HBX.out _ hx))
    go_upto_region 3 with (fail)
    go_cut [6, 7] from 16 to 22 (fun v6 v7 wx => ∃ A c P d hs b6 b7 lo hi, v6 = .pointer (some ⟨b6, 0, none⟩) ∧ v7 = .pointer (some ⟨b7, 0, none⟩) ∧ wx.heap[b6]? = some (.cells #[.int .i64 (N.l.length : Nat), .slice A (arcsU N N.w.length).length c, .slice P (prkN N).length d] 88 (0, 0)) ∧ wx.heap[b7]? = some (.cells #[.int .u64 ((orS [(f : Int)] : Nat) : Int)] 60 (0, 0)) ∧ wx.ownsRow lo 85 3 (.slice A (arcsU N N.w.length).length c) (arcsU N N.w.length).length ((flA (arcsU N N.w.length)).map (Value.int .i64)) ∧ OwnQ wx lo hi (.slice P (prkN N).length d) hs (pairsU N (prkN N).length) ∧ Below w1.heap.size w1 wx)
    case first =>
      refine wp_nrmE ?_
      have FB_0 := Lib.hid (Below.refl w1.heap.size w1)
      refine wp_region_held_drew (S := fun wx => wx.cell? ⟨w.heap.size + 1, 0, none⟩ = some (.int .i64 x) ∧ wx.cell? ⟨w.heap.size, 0, none⟩ = some (.slice h.A N.w.length h.c) ∧ wx.cell? ⟨w.heap.size, 1, none⟩ = some (.slice h.L N.l.length h.d) ∧ wx.cell? ⟨w.heap.size, 2, none⟩ = some (.slice h.C N.c.length h.e)) (by kernel_rfl) (HSX.out _ (Below.refl _ _).drew) (fun hHeld => ?_)
      obtain ⟨wq1, hwq1⟩ : ∃ w', w' = w1.drew := ⟨_, rfl⟩
      rw [← hwq1] at hHeld ⊢
      have bq1 : Below w1.heap.size w1 wq1 := by rw [hwq1]; exact (Below.refl _ _).drew
      clear hwq1
      have FB_q2 := cB FB_0 bq1
      clear FB_0
      refine tk (i := 0) (h := ?_)
      (try simp only [Act.put, setIfInBounds_toArray, set_cons_zero, set_cons_succ, getElem_toArray, getElem_cons_succ, getElem_cons_zero])
      refine tk (i := 2) (h := ?_)
      (try simp only [Act.put, setIfInBounds_toArray, set_cons_zero, set_cons_succ, getElem_toArray, getElem_cons_succ, getElem_cons_zero])
      refine tk (i := 3) (h := ?_)
      (try simp only [Act.put, setIfInBounds_toArray, set_cons_zero, set_cons_succ, getElem_toArray, getElem_cons_succ, getElem_cons_zero])
      refine wpAnyH_ready (rs := [1, 7, 8]) (by kernel_rfl) (by simp) ?_
      refine AllReadyH.cons rfl (fun K hK => ?_) ?_
      · go_simp
        refine (HSW.out wq1 (HBX.out _ FB_q2.out)).mono ?_
        rintro e wq6 ⟨Aq6, cq6, Pq6, dq6, hsq6, rfl, owq6, oqq6, belq6⟩
        dsimp only
        have FB_q7 := cB FB_q2 belq6
        clear FB_q2
        have FS_q8 := Lib.hid (And.intro owq6 oqq6)
        clear owq6 oqq6 belq6
        refine hK.out _ _ (HSX.out _ FB_q7.out) (fun hHeld => ?_)
        clear hK K
        (try simp only [Act.put, setIfInBounds_toArray, set_cons_zero, set_cons_succ, getElem_toArray, getElem_cons_succ, getElem_cons_zero])
        refine wpAnyH_ready (rs := [4, 7, 8]) (by kernel_rfl) (by simp) ?_
        refine AllReadyH.cons rfl (fun K hK => ?_) ?_
        · go_simp
          refine (HSO.out wq6 (HBX.out _ FB_q7.out)).mono ?_
          rintro e wq9 ⟨rfl, belq9⟩
          dsimp only
          have FB_q10 := cB FB_q7 belq9
          have FS_q11 := cS FS_q8 belq9
          clear FB_q7 FS_q8
          clear belq9
          refine hK.out _ _ (HSX.out _ FB_q10.out) (fun hHeld => ?_)
          clear hK K
          (try simp only [Act.put, setIfInBounds_toArray, set_cons_zero, set_cons_succ, getElem_toArray, getElem_cons_succ, getElem_cons_zero])
          refine wpAnyH_ready (rs := [5, 7, 8]) (by kernel_rfl) (by simp) ?_
          refine AllReadyH.cons rfl (fun K hK => ?_) ?_
          · go_simp
            obtain ⟨wq12, hw, grq12, hg, LEgrq12, b, GR_q12⟩ := alE FB_q10 (.cells #[.int .i64 (f : Nat)] 2)
            rw [← hw, hg]
            have FB_q13 := cB FB_q10 b
            have FS_q14 := cS FS_q11 b
            clear FB_q10 FS_q11
            clear hw hg b
            refine hK.out _ _ (HSX.out _ FB_q13.out) (fun hHeld => ?_)
            clear hK K
            (try simp only [Act.put, setIfInBounds_toArray, set_cons_zero, set_cons_succ, getElem_toArray, getElem_cons_succ, getElem_cons_zero])
            refine wpAnyH_ready (rs := [6, 7, 8]) (by kernel_rfl) (by simp) ?_
            refine AllReadyH.cons rfl (fun K hK => ?_) ?_
            · go_simp
              refine (HSE.out wq12 grq12 GR_q12.out).mono ?_
              rintro e wq15 ⟨rfl, belq15⟩
              dsimp only
              have FB_q16 := cB FB_q13 belq15
              have FS_q17 := cS FS_q14 belq15
              have GR_q18 := cH GR_q12 belq15
              clear FB_q13 FS_q14 GR_q12
              clear GR_q18 belq15
              refine hK.out _ _ (HSX.out _ FB_q16.out) (fun hHeld => ?_)
              clear hK K
              (try simp only [Act.put, setIfInBounds_toArray, set_cons_zero, set_cons_succ, getElem_toArray, getElem_cons_succ, getElem_cons_zero])
              refine wpAnyH_ready (rs := [7, 8]) (by kernel_rfl) (by simp) ?_
              refine AllReadyH.cons rfl (fun K hK => ?_) ?_
              · go_simp
                obtain ⟨wq19, hw, gaq19, hg, LEgaq19, b, GA_q19⟩ := alE FB_q16 (.cells #[.int .i64 0, .slice none 0 0, .slice none 0 0] 88)
                rw [← hw, hg]
                have FB_q20 := cB FB_q16 b
                have FS_q21 := cS FS_q17 b
                clear FB_q16 FS_q17
                clear hw hg b
                refine hK.out _ _ (HSX.out _ FB_q20.out) (fun hHeld => ?_)
                clear hK K
                (try simp only [Act.put, setIfInBounds_toArray, set_cons_zero, set_cons_succ, getElem_toArray, getElem_cons_succ, getElem_cons_zero])
                refine t1 (i := 8) (h := fun K hK => ?_)
                go_simp
                obtain ⟨wq22, hw, gbq22, hg, LEgbq22, b, GB_q22⟩ := alE FB_q20 (.cells #[.int .u64 0] 60)
                rw [← hw, hg]
                have FB_q23 := cB FB_q20 b
                have FS_q24 := cS FS_q21 b
                have GA_q25 := cH GA_q19 b
                clear FB_q20 FS_q21 GA_q19
                clear hw hg b
                refine hK.out _ _ (HSX.out _ FB_q23.out) (fun hHeld => ?_)
                clear hK K
                (try simp only [Act.put, setIfInBounds_toArray, set_cons_zero, set_cons_succ, getElem_toArray, getElem_cons_succ, getElem_cons_zero])
                refine t1 (i := 9) (h := fun K hK => ?_)
                obtain ⟨a0, a1, a2⟩ := three_at GA_q25.out
                have f0 := frozen_of_row _ _ 0 _ _ GA_q25.out; have f1 := frozen_of_row _ _ 1 _ _ GA_q25.out; have f2 := frozen_of_row _ _ 2 _ _ GA_q25.out
                go_simp
                clear a0 a1 a2 f0 f1 f2
                refine hK.out _ _ (HSX.out _ (set3_belowE FB_q23.out LEgaq19.out _ _ _)) (fun hHeld => ?_)
                clear hK K
                (try simp only [Act.put, setIfInBounds_toArray, set_cons_zero, set_cons_succ, getElem_toArray, getElem_cons_succ, getElem_cons_zero])
                refine t1 (i := 10) (h := fun K hK => ?_)
                have a0 := fun v0 v1 v2 => one_cellE (gb3 GA_q25.out GB_q22.out (by decide) v0 v1 v2)
                have f0 := fun v0 v1 v2 => frozen_of_row _ _ 0 _ _ (gb3 GA_q25.out GB_q22.out (by decide) v0 v1 v2)
                go_simp
                clear a0 f0
                refine hK.out _ _ (HSX.out _ (set1_below (set3_belowE FB_q23.out LEgaq19.out _ _ _) LEgbq22.out _)) (fun hHeld => ?_)
                clear hK K
                (try simp only [Act.put, setIfInBounds_toArray, set_cons_zero, set_cons_succ, getElem_toArray, getElem_cons_succ, getElem_cons_zero])
                refine wpAnyH_done (by kernel_rfl) ?_ _
                refine nrm_thenE ?_
                (try go_wp2_with (fail))
                go_meet
                exact ⟨Aq6, cq6, Pq6, dq6, hsq6, gaq19, gbq22, _, _, rfl, rfl, emp_end GA_q25.out GB_q22.out FS_q24.out.1 FS_q24.out.2 FB_q23.out LEgaq19.out LEgbq22.out⟩
              refine AllReadyH.cons rfl (fun K hK => ?_) ?_
              · go_simp
                obtain ⟨wq26, hw, gbq26, hg, LEgbq26, b, GB_q26⟩ := alE FB_q16 (.cells #[.int .u64 0] 60)
                rw [← hw, hg]
                have FB_q27 := cB FB_q16 b
                have FS_q28 := cS FS_q17 b
                clear FB_q16 FS_q17
                clear hw hg b
                refine hK.out _ _ (HSX.out _ FB_q27.out) (fun hHeld => ?_)
                clear hK K
                (try simp only [Act.put, setIfInBounds_toArray, set_cons_zero, set_cons_succ, getElem_toArray, getElem_cons_succ, getElem_cons_zero])
                refine t1 (i := 7) (h := fun K hK => ?_)
                go_simp
                obtain ⟨wq29, hw, gaq29, hg, LEgaq29, b, GA_q29⟩ := alE FB_q27 (.cells #[.int .i64 0, .slice none 0 0, .slice none 0 0] 88)
                rw [← hw, hg]
                have FB_q30 := cB FB_q27 b
                have FS_q31 := cS FS_q28 b
                have GB_q32 := cH GB_q26 b
                clear FB_q27 FS_q28 GB_q26
                clear hw hg b
                refine hK.out _ _ (HSX.out _ FB_q30.out) (fun hHeld => ?_)
                clear hK K
                (try simp only [Act.put, setIfInBounds_toArray, set_cons_zero, set_cons_succ, getElem_toArray, getElem_cons_succ, getElem_cons_zero])
                refine t1 (i := 9) (h := fun K hK => ?_)
                obtain ⟨a0, a1, a2⟩ := three_at GA_q29.out
                have f0 := frozen_of_row _ _ 0 _ _ GA_q29.out; have f1 := frozen_of_row _ _ 1 _ _ GA_q29.out; have f2 := frozen_of_row _ _ 2 _ _ GA_q29.out
                go_simp
                clear a0 a1 a2 f0 f1 f2
                refine hK.out _ _ (HSX.out _ (set3_belowE FB_q30.out LEgaq29.out _ _ _)) (fun hHeld => ?_)
                clear hK K
                (try simp only [Act.put, setIfInBounds_toArray, set_cons_zero, set_cons_succ, getElem_toArray, getElem_cons_succ, getElem_cons_zero])
                refine t1 (i := 10) (h := fun K hK => ?_)
                have a0 := fun v0 v1 v2 => one_cellE (gb3 GA_q29.out GB_q32.out (by decide) v0 v1 v2)
                have f0 := fun v0 v1 v2 => frozen_of_row _ _ 0 _ _ (gb3 GA_q29.out GB_q32.out (by decide) v0 v1 v2)
                go_simp
                clear a0 f0
                refine hK.out _ _ (HSX.out _ (set1_below (set3_belowE FB_q30.out LEgaq29.out _ _ _) LEgbq26.out _)) (fun hHeld => ?_)
                clear hK K
                (try simp only [Act.put, setIfInBounds_toArray, set_cons_zero, set_cons_succ, getElem_toArray, getElem_cons_succ, getElem_cons_zero])
                refine wpAnyH_done (by kernel_rfl) ?_ _
                refine nrm_thenE ?_
                (try go_wp2_with (fail))
                go_meet
                exact ⟨Aq6, cq6, Pq6, dq6, hsq6, gaq29, gbq26, _, _, rfl, rfl, emp_end GA_q29.out GB_q32.out FS_q31.out.1 FS_q31.out.2 FB_q30.out LEgaq29.out LEgbq26.out⟩
              exact AllReadyH.nil
            refine AllReadyH.cons rfl (fun K hK => ?_) ?_
            · go_simp
              obtain ⟨wq33, hw, gaq33, hg, LEgaq33, b, GA_q33⟩ := alE FB_q13 (.cells #[.int .i64 0, .slice none 0 0, .slice none 0 0] 88)
              rw [← hw, hg]
              have FB_q34 := cB FB_q13 b
              have FS_q35 := cS FS_q14 b
              have GR_q36 := cH GR_q12 b
              clear FB_q13 FS_q14 GR_q12
              clear hw hg b
              refine hK.out _ _ (HSX.out _ FB_q34.out) (fun hHeld => ?_)
              clear hK K
              (try simp only [Act.put, setIfInBounds_toArray, set_cons_zero, set_cons_succ, getElem_toArray, getElem_cons_succ, getElem_cons_zero])
              refine wpAnyH_ready (rs := [6, 8]) (by kernel_rfl) (by simp) ?_
              refine AllReadyH.cons rfl (fun K hK => ?_) ?_
              · go_simp
                refine (HSE.out wq33 grq12 GR_q36.out).mono ?_
                rintro e wq37 ⟨rfl, belq37⟩
                dsimp only
                have FB_q38 := cB FB_q34 belq37
                have FS_q39 := cS FS_q35 belq37
                have GR_q40 := cH GR_q36 belq37
                have GA_q41 := cH GA_q33 belq37
                clear FB_q34 FS_q35 GR_q36 GA_q33
                clear GR_q40 belq37
                refine hK.out _ _ (HSX.out _ FB_q38.out) (fun hHeld => ?_)
                clear hK K
                (try simp only [Act.put, setIfInBounds_toArray, set_cons_zero, set_cons_succ, getElem_toArray, getElem_cons_succ, getElem_cons_zero])
                refine t1 (i := 8) (h := fun K hK => ?_)
                go_simp
                obtain ⟨wq42, hw, gbq42, hg, LEgbq42, b, GB_q42⟩ := alE FB_q38 (.cells #[.int .u64 0] 60)
                rw [← hw, hg]
                have FB_q43 := cB FB_q38 b
                have FS_q44 := cS FS_q39 b
                have GA_q45 := cH GA_q41 b
                clear FB_q38 FS_q39 GA_q41
                clear hw hg b
                refine hK.out _ _ (HSX.out _ FB_q43.out) (fun hHeld => ?_)
                clear hK K
                (try simp only [Act.put, setIfInBounds_toArray, set_cons_zero, set_cons_succ, getElem_toArray, getElem_cons_succ, getElem_cons_zero])
                refine t1 (i := 9) (h := fun K hK => ?_)
                obtain ⟨a0, a1, a2⟩ := three_at GA_q45.out
                have f0 := frozen_of_row _ _ 0 _ _ GA_q45.out; have f1 := frozen_of_row _ _ 1 _ _ GA_q45.out; have f2 := frozen_of_row _ _ 2 _ _ GA_q45.out
                go_simp
                clear a0 a1 a2 f0 f1 f2
                refine hK.out _ _ (HSX.out _ (set3_belowE FB_q43.out LEgaq33.out _ _ _)) (fun hHeld => ?_)
                clear hK K
                (try simp only [Act.put, setIfInBounds_toArray, set_cons_zero, set_cons_succ, getElem_toArray, getElem_cons_succ, getElem_cons_zero])
                refine t1 (i := 10) (h := fun K hK => ?_)
                have a0 := fun v0 v1 v2 => one_cellE (gb3 GA_q45.out GB_q42.out (by decide) v0 v1 v2)
                have f0 := fun v0 v1 v2 => frozen_of_row _ _ 0 _ _ (gb3 GA_q45.out GB_q42.out (by decide) v0 v1 v2)
                go_simp
                clear a0 f0
                refine hK.out _ _ (HSX.out _ (set1_below (set3_belowE FB_q43.out LEgaq33.out _ _ _) LEgbq42.out _)) (fun hHeld => ?_)
                clear hK K
                (try simp only [Act.put, setIfInBounds_toArray, set_cons_zero, set_cons_succ, getElem_toArray, getElem_cons_succ, getElem_cons_zero])
                refine wpAnyH_done (by kernel_rfl) ?_ _
                refine nrm_thenE ?_
                (try go_wp2_with (fail))
                go_meet
                exact ⟨Aq6, cq6, Pq6, dq6, hsq6, gaq33, gbq42, _, _, rfl, rfl, emp_end GA_q45.out GB_q42.out FS_q44.out.1 FS_q44.out.2 FB_q43.out LEgaq33.out LEgbq42.out⟩
              refine AllReadyH.cons rfl (fun K hK => ?_) ?_
              · go_simp
                obtain ⟨wq46, hw, gbq46, hg, LEgbq46, b, GB_q46⟩ := alE FB_q34 (.cells #[.int .u64 0] 60)
                rw [← hw, hg]
                have FB_q47 := cB FB_q34 b
                have FS_q48 := cS FS_q35 b
                have GR_q49 := cH GR_q36 b
                have GA_q50 := cH GA_q33 b
                clear FB_q34 FS_q35 GR_q36 GA_q33
                clear hw hg b
                refine hK.out _ _ (HSX.out _ FB_q47.out) (fun hHeld => ?_)
                clear hK K
                (try simp only [Act.put, setIfInBounds_toArray, set_cons_zero, set_cons_succ, getElem_toArray, getElem_cons_succ, getElem_cons_zero])
                refine t1 (i := 6) (h := fun K hK => ?_)
                go_simp
                refine (HSE.out wq46 grq12 GR_q49.out).mono ?_
                rintro e wq51 ⟨rfl, belq51⟩
                dsimp only
                have FB_q52 := cB FB_q47 belq51
                have FS_q53 := cS FS_q48 belq51
                have GR_q54 := cH GR_q49 belq51
                have GA_q55 := cH GA_q50 belq51
                have GB_q56 := cH GB_q46 belq51
                clear FB_q47 FS_q48 GR_q49 GA_q50 GB_q46
                clear GR_q54 belq51
                refine hK.out _ _ (HSX.out _ FB_q52.out) (fun hHeld => ?_)
                clear hK K
                (try simp only [Act.put, setIfInBounds_toArray, set_cons_zero, set_cons_succ, getElem_toArray, getElem_cons_succ, getElem_cons_zero])
                refine t1 (i := 9) (h := fun K hK => ?_)
                obtain ⟨a0, a1, a2⟩ := three_at GA_q55.out
                have f0 := frozen_of_row _ _ 0 _ _ GA_q55.out; have f1 := frozen_of_row _ _ 1 _ _ GA_q55.out; have f2 := frozen_of_row _ _ 2 _ _ GA_q55.out
                go_simp
                clear a0 a1 a2 f0 f1 f2
                refine hK.out _ _ (HSX.out _ (set3_belowE FB_q52.out LEgaq33.out _ _ _)) (fun hHeld => ?_)
                clear hK K
                (try simp only [Act.put, setIfInBounds_toArray, set_cons_zero, set_cons_succ, getElem_toArray, getElem_cons_succ, getElem_cons_zero])
                refine t1 (i := 10) (h := fun K hK => ?_)
                have a0 := fun v0 v1 v2 => one_cellE (gb3 GA_q55.out GB_q56.out (by decide) v0 v1 v2)
                have f0 := fun v0 v1 v2 => frozen_of_row _ _ 0 _ _ (gb3 GA_q55.out GB_q56.out (by decide) v0 v1 v2)
                go_simp
                clear a0 f0
                refine hK.out _ _ (HSX.out _ (set1_below (set3_belowE FB_q52.out LEgaq33.out _ _ _) LEgbq46.out _)) (fun hHeld => ?_)
                clear hK K
                (try simp only [Act.put, setIfInBounds_toArray, set_cons_zero, set_cons_succ, getElem_toArray, getElem_cons_succ, getElem_cons_zero])
                refine wpAnyH_done (by kernel_rfl) ?_ _
                refine nrm_thenE ?_
                (try go_wp2_with (fail))
                go_meet
                exact ⟨Aq6, cq6, Pq6, dq6, hsq6, gaq33, gbq46, _, _, rfl, rfl, emp_end GA_q55.out GB_q56.out FS_q53.out.1 FS_q53.out.2 FB_q52.out LEgaq33.out LEgbq46.out⟩
              exact AllReadyH.nil
            refine AllReadyH.cons rfl (fun K hK => ?_) ?_
            · go_simp
              obtain ⟨wq57, hw, gbq57, hg, LEgbq57, b, GB_q57⟩ := alE FB_q13 (.cells #[.int .u64 0] 60)
              rw [← hw, hg]
              have FB_q58 := cB FB_q13 b
              have FS_q59 := cS FS_q14 b
              have GR_q60 := cH GR_q12 b
              clear FB_q13 FS_q14 GR_q12
              clear hw hg b
              refine hK.out _ _ (HSX.out _ FB_q58.out) (fun hHeld => ?_)
              clear hK K
              (try simp only [Act.put, setIfInBounds_toArray, set_cons_zero, set_cons_succ, getElem_toArray, getElem_cons_succ, getElem_cons_zero])
              refine wpAnyH_ready (rs := [6, 7]) (by kernel_rfl) (by simp) ?_
              refine AllReadyH.cons rfl (fun K hK => ?_) ?_
              · go_simp
                refine (HSE.out wq57 grq12 GR_q60.out).mono ?_
                rintro e wq61 ⟨rfl, belq61⟩
                dsimp only
                have FB_q62 := cB FB_q58 belq61
                have FS_q63 := cS FS_q59 belq61
                have GR_q64 := cH GR_q60 belq61
                have GB_q65 := cH GB_q57 belq61
                clear FB_q58 FS_q59 GR_q60 GB_q57
                clear GR_q64 belq61
                refine hK.out _ _ (HSX.out _ FB_q62.out) (fun hHeld => ?_)
                clear hK K
                (try simp only [Act.put, setIfInBounds_toArray, set_cons_zero, set_cons_succ, getElem_toArray, getElem_cons_succ, getElem_cons_zero])
                refine t1 (i := 7) (h := fun K hK => ?_)
                go_simp
                obtain ⟨wq66, hw, gaq66, hg, LEgaq66, b, GA_q66⟩ := alE FB_q62 (.cells #[.int .i64 0, .slice none 0 0, .slice none 0 0] 88)
                rw [← hw, hg]
                have FB_q67 := cB FB_q62 b
                have FS_q68 := cS FS_q63 b
                have GB_q69 := cH GB_q65 b
                clear FB_q62 FS_q63 GB_q65
                clear hw hg b
                refine hK.out _ _ (HSX.out _ FB_q67.out) (fun hHeld => ?_)
                clear hK K
                (try simp only [Act.put, setIfInBounds_toArray, set_cons_zero, set_cons_succ, getElem_toArray, getElem_cons_succ, getElem_cons_zero])
                refine t1 (i := 9) (h := fun K hK => ?_)
                obtain ⟨a0, a1, a2⟩ := three_at GA_q66.out
                have f0 := frozen_of_row _ _ 0 _ _ GA_q66.out; have f1 := frozen_of_row _ _ 1 _ _ GA_q66.out; have f2 := frozen_of_row _ _ 2 _ _ GA_q66.out
                go_simp
                clear a0 a1 a2 f0 f1 f2
                refine hK.out _ _ (HSX.out _ (set3_belowE FB_q67.out LEgaq66.out _ _ _)) (fun hHeld => ?_)
                clear hK K
                (try simp only [Act.put, setIfInBounds_toArray, set_cons_zero, set_cons_succ, getElem_toArray, getElem_cons_succ, getElem_cons_zero])
                refine t1 (i := 10) (h := fun K hK => ?_)
                have a0 := fun v0 v1 v2 => one_cellE (gb3 GA_q66.out GB_q69.out (by decide) v0 v1 v2)
                have f0 := fun v0 v1 v2 => frozen_of_row _ _ 0 _ _ (gb3 GA_q66.out GB_q69.out (by decide) v0 v1 v2)
                go_simp
                clear a0 f0
                refine hK.out _ _ (HSX.out _ (set1_below (set3_belowE FB_q67.out LEgaq66.out _ _ _) LEgbq57.out _)) (fun hHeld => ?_)
                clear hK K
                (try simp only [Act.put, setIfInBounds_toArray, set_cons_zero, set_cons_succ, getElem_toArray, getElem_cons_succ, getElem_cons_zero])
                refine wpAnyH_done (by kernel_rfl) ?_ _
                refine nrm_thenE ?_
                (try go_wp2_with (fail))
                go_meet
                exact ⟨Aq6, cq6, Pq6, dq6, hsq6, gaq66, gbq57, _, _, rfl, rfl, emp_end GA_q66.out GB_q69.out FS_q68.out.1 FS_q68.out.2 FB_q67.out LEgaq66.out LEgbq57.out⟩
              refine AllReadyH.cons rfl (fun K hK => ?_) ?_
              · go_simp
                obtain ⟨wq70, hw, gaq70, hg, LEgaq70, b, GA_q70⟩ := alE FB_q58 (.cells #[.int .i64 0, .slice none 0 0, .slice none 0 0] 88)
                rw [← hw, hg]
                have FB_q71 := cB FB_q58 b
                have FS_q72 := cS FS_q59 b
                have GR_q73 := cH GR_q60 b
                have GB_q74 := cH GB_q57 b
                clear FB_q58 FS_q59 GR_q60 GB_q57
                clear hw hg b
                refine hK.out _ _ (HSX.out _ FB_q71.out) (fun hHeld => ?_)
                clear hK K
                (try simp only [Act.put, setIfInBounds_toArray, set_cons_zero, set_cons_succ, getElem_toArray, getElem_cons_succ, getElem_cons_zero])
                refine t1 (i := 6) (h := fun K hK => ?_)
                go_simp
                refine (HSE.out wq70 grq12 GR_q73.out).mono ?_
                rintro e wq75 ⟨rfl, belq75⟩
                dsimp only
                have FB_q76 := cB FB_q71 belq75
                have FS_q77 := cS FS_q72 belq75
                have GR_q78 := cH GR_q73 belq75
                have GB_q79 := cH GB_q74 belq75
                have GA_q80 := cH GA_q70 belq75
                clear FB_q71 FS_q72 GR_q73 GB_q74 GA_q70
                clear GR_q78 belq75
                refine hK.out _ _ (HSX.out _ FB_q76.out) (fun hHeld => ?_)
                clear hK K
                (try simp only [Act.put, setIfInBounds_toArray, set_cons_zero, set_cons_succ, getElem_toArray, getElem_cons_succ, getElem_cons_zero])
                refine t1 (i := 9) (h := fun K hK => ?_)
                obtain ⟨a0, a1, a2⟩ := three_at GA_q80.out
                have f0 := frozen_of_row _ _ 0 _ _ GA_q80.out; have f1 := frozen_of_row _ _ 1 _ _ GA_q80.out; have f2 := frozen_of_row _ _ 2 _ _ GA_q80.out
                go_simp
                clear a0 a1 a2 f0 f1 f2
                refine hK.out _ _ (HSX.out _ (set3_belowE FB_q76.out LEgaq70.out _ _ _)) (fun hHeld => ?_)
                clear hK K
                (try simp only [Act.put, setIfInBounds_toArray, set_cons_zero, set_cons_succ, getElem_toArray, getElem_cons_succ, getElem_cons_zero])
                refine t1 (i := 10) (h := fun K hK => ?_)
                have a0 := fun v0 v1 v2 => one_cellE (gb3 GA_q80.out GB_q79.out (by decide) v0 v1 v2)
                have f0 := fun v0 v1 v2 => frozen_of_row _ _ 0 _ _ (gb3 GA_q80.out GB_q79.out (by decide) v0 v1 v2)
                go_simp
                clear a0 f0
                refine hK.out _ _ (HSX.out _ (set1_below (set3_belowE FB_q76.out LEgaq70.out _ _ _) LEgbq57.out _)) (fun hHeld => ?_)
                clear hK K
                (try simp only [Act.put, setIfInBounds_toArray, set_cons_zero, set_cons_succ, getElem_toArray, getElem_cons_succ, getElem_cons_zero])
                refine wpAnyH_done (by kernel_rfl) ?_ _
                refine nrm_thenE ?_
                (try go_wp2_with (fail))
                go_meet
                exact ⟨Aq6, cq6, Pq6, dq6, hsq6, gaq70, gbq57, _, _, rfl, rfl, emp_end GA_q80.out GB_q79.out FS_q77.out.1 FS_q77.out.2 FB_q76.out LEgaq70.out LEgbq57.out⟩
              exact AllReadyH.nil
            exact AllReadyH.nil
          refine AllReadyH.cons rfl (fun K hK => ?_) ?_
          · go_simp
            obtain ⟨wq81, hw, gaq81, hg, LEgaq81, b, GA_q81⟩ := alE FB_q10 (.cells #[.int .i64 0, .slice none 0 0, .slice none 0 0] 88)
            rw [← hw, hg]
            have FB_q82 := cB FB_q10 b
            have FS_q83 := cS FS_q11 b
            clear FB_q10 FS_q11
            clear hw hg b
            refine hK.out _ _ (HSX.out _ FB_q82.out) (fun hHeld => ?_)
            clear hK K
            (try simp only [Act.put, setIfInBounds_toArray, set_cons_zero, set_cons_succ, getElem_toArray, getElem_cons_succ, getElem_cons_zero])
            refine wpAnyH_ready (rs := [5, 8]) (by kernel_rfl) (by simp) ?_
            refine AllReadyH.cons rfl (fun K hK => ?_) ?_
            · go_simp
              obtain ⟨wq84, hw, grq84, hg, LEgrq84, b, GR_q84⟩ := alE FB_q82 (.cells #[.int .i64 (f : Nat)] 2)
              rw [← hw, hg]
              have FB_q85 := cB FB_q82 b
              have FS_q86 := cS FS_q83 b
              have GA_q87 := cH GA_q81 b
              clear FB_q82 FS_q83 GA_q81
              clear hw hg b
              refine hK.out _ _ (HSX.out _ FB_q85.out) (fun hHeld => ?_)
              clear hK K
              (try simp only [Act.put, setIfInBounds_toArray, set_cons_zero, set_cons_succ, getElem_toArray, getElem_cons_succ, getElem_cons_zero])
              refine wpAnyH_ready (rs := [6, 8]) (by kernel_rfl) (by simp) ?_
              refine AllReadyH.cons rfl (fun K hK => ?_) ?_
              · go_simp
                refine (HSE.out wq84 grq84 GR_q84.out).mono ?_
                rintro e wq88 ⟨rfl, belq88⟩
                dsimp only
                have FB_q89 := cB FB_q85 belq88
                have FS_q90 := cS FS_q86 belq88
                have GA_q91 := cH GA_q87 belq88
                have GR_q92 := cH GR_q84 belq88
                clear FB_q85 FS_q86 GA_q87 GR_q84
                clear GR_q92 belq88
                refine hK.out _ _ (HSX.out _ FB_q89.out) (fun hHeld => ?_)
                clear hK K
                (try simp only [Act.put, setIfInBounds_toArray, set_cons_zero, set_cons_succ, getElem_toArray, getElem_cons_succ, getElem_cons_zero])
                refine t1 (i := 8) (h := fun K hK => ?_)
                go_simp
                obtain ⟨wq93, hw, gbq93, hg, LEgbq93, b, GB_q93⟩ := alE FB_q89 (.cells #[.int .u64 0] 60)
                rw [← hw, hg]
                have FB_q94 := cB FB_q89 b
                have FS_q95 := cS FS_q90 b
                have GA_q96 := cH GA_q91 b
                clear FB_q89 FS_q90 GA_q91
                clear hw hg b
                refine hK.out _ _ (HSX.out _ FB_q94.out) (fun hHeld => ?_)
                clear hK K
                (try simp only [Act.put, setIfInBounds_toArray, set_cons_zero, set_cons_succ, getElem_toArray, getElem_cons_succ, getElem_cons_zero])
                refine t1 (i := 9) (h := fun K hK => ?_)
                obtain ⟨a0, a1, a2⟩ := three_at GA_q96.out
                have f0 := frozen_of_row _ _ 0 _ _ GA_q96.out; have f1 := frozen_of_row _ _ 1 _ _ GA_q96.out; have f2 := frozen_of_row _ _ 2 _ _ GA_q96.out
                go_simp
                clear a0 a1 a2 f0 f1 f2
                refine hK.out _ _ (HSX.out _ (set3_belowE FB_q94.out LEgaq81.out _ _ _)) (fun hHeld => ?_)
                clear hK K
                (try simp only [Act.put, setIfInBounds_toArray, set_cons_zero, set_cons_succ, getElem_toArray, getElem_cons_succ, getElem_cons_zero])
                refine t1 (i := 10) (h := fun K hK => ?_)
                have a0 := fun v0 v1 v2 => one_cellE (gb3 GA_q96.out GB_q93.out (by decide) v0 v1 v2)
                have f0 := fun v0 v1 v2 => frozen_of_row _ _ 0 _ _ (gb3 GA_q96.out GB_q93.out (by decide) v0 v1 v2)
                go_simp
                clear a0 f0
                refine hK.out _ _ (HSX.out _ (set1_below (set3_belowE FB_q94.out LEgaq81.out _ _ _) LEgbq93.out _)) (fun hHeld => ?_)
                clear hK K
                (try simp only [Act.put, setIfInBounds_toArray, set_cons_zero, set_cons_succ, getElem_toArray, getElem_cons_succ, getElem_cons_zero])
                refine wpAnyH_done (by kernel_rfl) ?_ _
                refine nrm_thenE ?_
                (try go_wp2_with (fail))
                go_meet
                exact ⟨Aq6, cq6, Pq6, dq6, hsq6, gaq81, gbq93, _, _, rfl, rfl, emp_end GA_q96.out GB_q93.out FS_q95.out.1 FS_q95.out.2 FB_q94.out LEgaq81.out LEgbq93.out⟩
              refine AllReadyH.cons rfl (fun K hK => ?_) ?_
              · go_simp
                obtain ⟨wq97, hw, gbq97, hg, LEgbq97, b, GB_q97⟩ := alE FB_q85 (.cells #[.int .u64 0] 60)
                rw [← hw, hg]
                have FB_q98 := cB FB_q85 b
                have FS_q99 := cS FS_q86 b
                have GA_q100 := cH GA_q87 b
                have GR_q101 := cH GR_q84 b
                clear FB_q85 FS_q86 GA_q87 GR_q84
                clear hw hg b
                refine hK.out _ _ (HSX.out _ FB_q98.out) (fun hHeld => ?_)
                clear hK K
                (try simp only [Act.put, setIfInBounds_toArray, set_cons_zero, set_cons_succ, getElem_toArray, getElem_cons_succ, getElem_cons_zero])
                refine t1 (i := 6) (h := fun K hK => ?_)
                go_simp
                refine (HSE.out wq97 grq84 GR_q101.out).mono ?_
                rintro e wq102 ⟨rfl, belq102⟩
                dsimp only
                have FB_q103 := cB FB_q98 belq102
                have FS_q104 := cS FS_q99 belq102
                have GA_q105 := cH GA_q100 belq102
                have GR_q106 := cH GR_q101 belq102
                have GB_q107 := cH GB_q97 belq102
                clear FB_q98 FS_q99 GA_q100 GR_q101 GB_q97
                clear GR_q106 belq102
                refine hK.out _ _ (HSX.out _ FB_q103.out) (fun hHeld => ?_)
                clear hK K
                (try simp only [Act.put, setIfInBounds_toArray, set_cons_zero, set_cons_succ, getElem_toArray, getElem_cons_succ, getElem_cons_zero])
                refine t1 (i := 9) (h := fun K hK => ?_)
                obtain ⟨a0, a1, a2⟩ := three_at GA_q105.out
                have f0 := frozen_of_row _ _ 0 _ _ GA_q105.out; have f1 := frozen_of_row _ _ 1 _ _ GA_q105.out; have f2 := frozen_of_row _ _ 2 _ _ GA_q105.out
                go_simp
                clear a0 a1 a2 f0 f1 f2
                refine hK.out _ _ (HSX.out _ (set3_belowE FB_q103.out LEgaq81.out _ _ _)) (fun hHeld => ?_)
                clear hK K
                (try simp only [Act.put, setIfInBounds_toArray, set_cons_zero, set_cons_succ, getElem_toArray, getElem_cons_succ, getElem_cons_zero])
                refine t1 (i := 10) (h := fun K hK => ?_)
                have a0 := fun v0 v1 v2 => one_cellE (gb3 GA_q105.out GB_q107.out (by decide) v0 v1 v2)
                have f0 := fun v0 v1 v2 => frozen_of_row _ _ 0 _ _ (gb3 GA_q105.out GB_q107.out (by decide) v0 v1 v2)
                go_simp
                clear a0 f0
                refine hK.out _ _ (HSX.out _ (set1_below (set3_belowE FB_q103.out LEgaq81.out _ _ _) LEgbq97.out _)) (fun hHeld => ?_)
                clear hK K
                (try simp only [Act.put, setIfInBounds_toArray, set_cons_zero, set_cons_succ, getElem_toArray, getElem_cons_succ, getElem_cons_zero])
                refine wpAnyH_done (by kernel_rfl) ?_ _
                refine nrm_thenE ?_
                (try go_wp2_with (fail))
                go_meet
                exact ⟨Aq6, cq6, Pq6, dq6, hsq6, gaq81, gbq97, _, _, rfl, rfl, emp_end GA_q105.out GB_q107.out FS_q104.out.1 FS_q104.out.2 FB_q103.out LEgaq81.out LEgbq97.out⟩
              exact AllReadyH.nil
            refine AllReadyH.cons rfl (fun K hK => ?_) ?_
            · go_simp
              obtain ⟨wq108, hw, gbq108, hg, LEgbq108, b, GB_q108⟩ := alE FB_q82 (.cells #[.int .u64 0] 60)
              rw [← hw, hg]
              have FB_q109 := cB FB_q82 b
              have FS_q110 := cS FS_q83 b
              have GA_q111 := cH GA_q81 b
              clear FB_q82 FS_q83 GA_q81
              clear hw hg b
              refine hK.out _ _ (HSX.out _ FB_q109.out) (fun hHeld => ?_)
              clear hK K
              (try simp only [Act.put, setIfInBounds_toArray, set_cons_zero, set_cons_succ, getElem_toArray, getElem_cons_succ, getElem_cons_zero])
              refine t1 (i := 5) (h := fun K hK => ?_)
              go_simp
              obtain ⟨wq112, hw, grq112, hg, LEgrq112, b, GR_q112⟩ := alE FB_q109 (.cells #[.int .i64 (f : Nat)] 2)
              rw [← hw, hg]
              have FB_q113 := cB FB_q109 b
              have FS_q114 := cS FS_q110 b
              have GA_q115 := cH GA_q111 b
              have GB_q116 := cH GB_q108 b
              clear FB_q109 FS_q110 GA_q111 GB_q108
              clear hw hg b
              refine hK.out _ _ (HSX.out _ FB_q113.out) (fun hHeld => ?_)
              clear hK K
              (try simp only [Act.put, setIfInBounds_toArray, set_cons_zero, set_cons_succ, getElem_toArray, getElem_cons_succ, getElem_cons_zero])
              refine t1 (i := 6) (h := fun K hK => ?_)
              go_simp
              refine (HSE.out wq112 grq112 GR_q112.out).mono ?_
              rintro e wq117 ⟨rfl, belq117⟩
              dsimp only
              have FB_q118 := cB FB_q113 belq117
              have FS_q119 := cS FS_q114 belq117
              have GA_q120 := cH GA_q115 belq117
              have GB_q121 := cH GB_q116 belq117
              have GR_q122 := cH GR_q112 belq117
              clear FB_q113 FS_q114 GA_q115 GB_q116 GR_q112
              clear GR_q122 belq117
              refine hK.out _ _ (HSX.out _ FB_q118.out) (fun hHeld => ?_)
              clear hK K
              (try simp only [Act.put, setIfInBounds_toArray, set_cons_zero, set_cons_succ, getElem_toArray, getElem_cons_succ, getElem_cons_zero])
              refine t1 (i := 9) (h := fun K hK => ?_)
              obtain ⟨a0, a1, a2⟩ := three_at GA_q120.out
              have f0 := frozen_of_row _ _ 0 _ _ GA_q120.out; have f1 := frozen_of_row _ _ 1 _ _ GA_q120.out; have f2 := frozen_of_row _ _ 2 _ _ GA_q120.out
              go_simp
              clear a0 a1 a2 f0 f1 f2
              refine hK.out _ _ (HSX.out _ (set3_belowE FB_q118.out LEgaq81.out _ _ _)) (fun hHeld => ?_)
              clear hK K
              (try simp only [Act.put, setIfInBounds_toArray, set_cons_zero, set_cons_succ, getElem_toArray, getElem_cons_succ, getElem_cons_zero])
              refine t1 (i := 10) (h := fun K hK => ?_)
              have a0 := fun v0 v1 v2 => one_cellE (gb3 GA_q120.out GB_q121.out (by decide) v0 v1 v2)
              have f0 := fun v0 v1 v2 => frozen_of_row _ _ 0 _ _ (gb3 GA_q120.out GB_q121.out (by decide) v0 v1 v2)
              go_simp
              clear a0 f0
              refine hK.out _ _ (HSX.out _ (set1_below (set3_belowE FB_q118.out LEgaq81.out _ _ _) LEgbq108.out _)) (fun hHeld => ?_)
              clear hK K
              (try simp only [Act.put, setIfInBounds_toArray, set_cons_zero, set_cons_succ, getElem_toArray, getElem_cons_succ, getElem_cons_zero])
              refine wpAnyH_done (by kernel_rfl) ?_ _
              refine nrm_thenE ?_
              (try go_wp2_with (fail))
              go_meet
              exact ⟨Aq6, cq6, Pq6, dq6, hsq6, gaq81, gbq108, _, _, rfl, rfl, emp_end GA_q120.out GB_q121.out FS_q119.out.1 FS_q119.out.2 FB_q118.out LEgaq81.out LEgbq108.out⟩
            exact AllReadyH.nil
          refine AllReadyH.cons rfl (fun K hK => ?_) ?_
          · go_simp
            obtain ⟨wq123, hw, gbq123, hg, LEgbq123, b, GB_q123⟩ := alE FB_q10 (.cells #[.int .u64 0] 60)
            rw [← hw, hg]
            have FB_q124 := cB FB_q10 b
            have FS_q125 := cS FS_q11 b
            clear FB_q10 FS_q11
            clear hw hg b
            refine hK.out _ _ (HSX.out _ FB_q124.out) (fun hHeld => ?_)
            clear hK K
            (try simp only [Act.put, setIfInBounds_toArray, set_cons_zero, set_cons_succ, getElem_toArray, getElem_cons_succ, getElem_cons_zero])
            refine wpAnyH_ready (rs := [5, 7]) (by kernel_rfl) (by simp) ?_
            refine AllReadyH.cons rfl (fun K hK => ?_) ?_
            · go_simp
              obtain ⟨wq126, hw, grq126, hg, LEgrq126, b, GR_q126⟩ := alE FB_q124 (.cells #[.int .i64 (f : Nat)] 2)
              rw [← hw, hg]
              have FB_q127 := cB FB_q124 b
              have FS_q128 := cS FS_q125 b
              have GB_q129 := cH GB_q123 b
              clear FB_q124 FS_q125 GB_q123
              clear hw hg b
              refine hK.out _ _ (HSX.out _ FB_q127.out) (fun hHeld => ?_)
              clear hK K
              (try simp only [Act.put, setIfInBounds_toArray, set_cons_zero, set_cons_succ, getElem_toArray, getElem_cons_succ, getElem_cons_zero])
              refine wpAnyH_ready (rs := [6, 7]) (by kernel_rfl) (by simp) ?_
              refine AllReadyH.cons rfl (fun K hK => ?_) ?_
              · go_simp
                refine (HSE.out wq126 grq126 GR_q126.out).mono ?_
                rintro e wq130 ⟨rfl, belq130⟩
                dsimp only
                have FB_q131 := cB FB_q127 belq130
                have FS_q132 := cS FS_q128 belq130
                have GB_q133 := cH GB_q129 belq130
                have GR_q134 := cH GR_q126 belq130
                clear FB_q127 FS_q128 GB_q129 GR_q126
                clear GR_q134 belq130
                refine hK.out _ _ (HSX.out _ FB_q131.out) (fun hHeld => ?_)
                clear hK K
                (try simp only [Act.put, setIfInBounds_toArray, set_cons_zero, set_cons_succ, getElem_toArray, getElem_cons_succ, getElem_cons_zero])
                refine t1 (i := 7) (h := fun K hK => ?_)
                go_simp
                obtain ⟨wq135, hw, gaq135, hg, LEgaq135, b, GA_q135⟩ := alE FB_q131 (.cells #[.int .i64 0, .slice none 0 0, .slice none 0 0] 88)
                rw [← hw, hg]
                have FB_q136 := cB FB_q131 b
                have FS_q137 := cS FS_q132 b
                have GB_q138 := cH GB_q133 b
                clear FB_q131 FS_q132 GB_q133
                clear hw hg b
                refine hK.out _ _ (HSX.out _ FB_q136.out) (fun hHeld => ?_)
                clear hK K
                (try simp only [Act.put, setIfInBounds_toArray, set_cons_zero, set_cons_succ, getElem_toArray, getElem_cons_succ, getElem_cons_zero])
                refine t1 (i := 9) (h := fun K hK => ?_)
                obtain ⟨a0, a1, a2⟩ := three_at GA_q135.out
                have f0 := frozen_of_row _ _ 0 _ _ GA_q135.out; have f1 := frozen_of_row _ _ 1 _ _ GA_q135.out; have f2 := frozen_of_row _ _ 2 _ _ GA_q135.out
                go_simp
                clear a0 a1 a2 f0 f1 f2
                refine hK.out _ _ (HSX.out _ (set3_belowE FB_q136.out LEgaq135.out _ _ _)) (fun hHeld => ?_)
                clear hK K
                (try simp only [Act.put, setIfInBounds_toArray, set_cons_zero, set_cons_succ, getElem_toArray, getElem_cons_succ, getElem_cons_zero])
                refine t1 (i := 10) (h := fun K hK => ?_)
                have a0 := fun v0 v1 v2 => one_cellE (gb3 GA_q135.out GB_q138.out (by decide) v0 v1 v2)
                have f0 := fun v0 v1 v2 => frozen_of_row _ _ 0 _ _ (gb3 GA_q135.out GB_q138.out (by decide) v0 v1 v2)
                go_simp
                clear a0 f0
                refine hK.out _ _ (HSX.out _ (set1_below (set3_belowE FB_q136.out LEgaq135.out _ _ _) LEgbq123.out _)) (fun hHeld => ?_)
                clear hK K
                (try simp only [Act.put, setIfInBounds_toArray, set_cons_zero, set_cons_succ, getElem_toArray, getElem_cons_succ, getElem_cons_zero])
                refine wpAnyH_done (by kernel_rfl) ?_ _
                refine nrm_thenE ?_
                (try go_wp2_with (fail))
                go_meet
                exact ⟨Aq6, cq6, Pq6, dq6, hsq6, gaq135, gbq123, _, _, rfl, rfl, emp_end GA_q135.out GB_q138.out FS_q137.out.1 FS_q137.out.2 FB_q136.out LEgaq135.out LEgbq123.out⟩
              refine AllReadyH.cons rfl (fun K hK => ?_) ?_
              · go_simp
                obtain ⟨wq139, hw, gaq139, hg, LEgaq139, b, GA_q139⟩ := alE FB_q127 (.cells #[.int .i64 0, .slice none 0 0, .slice none 0 0] 88)
                rw [← hw, hg]
                have FB_q140 := cB FB_q127 b
                have FS_q141 := cS FS_q128 b
                have GB_q142 := cH GB_q129 b
                have GR_q143 := cH GR_q126 b
                clear FB_q127 FS_q128 GB_q129 GR_q126
                clear hw hg b
                refine hK.out _ _ (HSX.out _ FB_q140.out) (fun hHeld => ?_)
                clear hK K
                (try simp only [Act.put, setIfInBounds_toArray, set_cons_zero, set_cons_succ, getElem_toArray, getElem_cons_succ, getElem_cons_zero])
                refine t1 (i := 6) (h := fun K hK => ?_)
                go_simp
                refine (HSE.out wq139 grq126 GR_q143.out).mono ?_
                rintro e wq144 ⟨rfl, belq144⟩
                dsimp only
                have FB_q145 := cB FB_q140 belq144
                have FS_q146 := cS FS_q141 belq144
                have GB_q147 := cH GB_q142 belq144
                have GR_q148 := cH GR_q143 belq144
                have GA_q149 := cH GA_q139 belq144
                clear FB_q140 FS_q141 GB_q142 GR_q143 GA_q139
                clear GR_q148 belq144
                refine hK.out _ _ (HSX.out _ FB_q145.out) (fun hHeld => ?_)
                clear hK K
                (try simp only [Act.put, setIfInBounds_toArray, set_cons_zero, set_cons_succ, getElem_toArray, getElem_cons_succ, getElem_cons_zero])
                refine t1 (i := 9) (h := fun K hK => ?_)
                obtain ⟨a0, a1, a2⟩ := three_at GA_q149.out
                have f0 := frozen_of_row _ _ 0 _ _ GA_q149.out; have f1 := frozen_of_row _ _ 1 _ _ GA_q149.out; have f2 := frozen_of_row _ _ 2 _ _ GA_q149.out
                go_simp
                clear a0 a1 a2 f0 f1 f2
                refine hK.out _ _ (HSX.out _ (set3_belowE FB_q145.out LEgaq139.out _ _ _)) (fun hHeld => ?_)
                clear hK K
                (try simp only [Act.put, setIfInBounds_toArray, set_cons_zero, set_cons_succ, getElem_toArray, getElem_cons_succ, getElem_cons_zero])
                refine t1 (i := 10) (h := fun K hK => ?_)
                have a0 := fun v0 v1 v2 => one_cellE (gb3 GA_q149.out GB_q147.out (by decide) v0 v1 v2)
                have f0 := fun v0 v1 v2 => frozen_of_row _ _ 0 _ _ (gb3 GA_q149.out GB_q147.out (by decide) v0 v1 v2)
                go_simp
                clear a0 f0
                refine hK.out _ _ (HSX.out _ (set1_below (set3_belowE FB_q145.out LEgaq139.out _ _ _) LEgbq123.out _)) (fun hHeld => ?_)
                clear hK K
                (try simp only [Act.put, setIfInBounds_toArray, set_cons_zero, set_cons_succ, getElem_toArray, getElem_cons_succ, getElem_cons_zero])
                refine wpAnyH_done (by kernel_rfl) ?_ _
                refine nrm_thenE ?_
                (try go_wp2_with (fail))
                go_meet
                exact ⟨Aq6, cq6, Pq6, dq6, hsq6, gaq139, gbq123, _, _, rfl, rfl, emp_end GA_q149.out GB_q147.out FS_q146.out.1 FS_q146.out.2 FB_q145.out LEgaq139.out LEgbq123.out⟩
              exact AllReadyH.nil
            refine AllReadyH.cons rfl (fun K hK => ?_) ?_
            · go_simp
              obtain ⟨wq150, hw, gaq150, hg, LEgaq150, b, GA_q150⟩ := alE FB_q124 (.cells #[.int .i64 0, .slice none 0 0, .slice none 0 0] 88)
              rw [← hw, hg]
              have FB_q151 := cB FB_q124 b
              have FS_q152 := cS FS_q125 b
              have GB_q153 := cH GB_q123 b
              clear FB_q124 FS_q125 GB_q123
              clear hw hg b
              refine hK.out _ _ (HSX.out _ FB_q151.out) (fun hHeld => ?_)
              clear hK K
              (try simp only [Act.put, setIfInBounds_toArray, set_cons_zero, set_cons_succ, getElem_toArray, getElem_cons_succ, getElem_cons_zero])
              refine t1 (i := 5) (h := fun K hK => ?_)
              go_simp
              obtain ⟨wq154, hw, grq154, hg, LEgrq154, b, GR_q154⟩ := alE FB_q151 (.cells #[.int .i64 (f : Nat)] 2)
              rw [← hw, hg]
              have FB_q155 := cB FB_q151 b
              have FS_q156 := cS FS_q152 b
              have GB_q157 := cH GB_q153 b
              have GA_q158 := cH GA_q150 b
              clear FB_q151 FS_q152 GB_q153 GA_q150
              clear hw hg b
              refine hK.out _ _ (HSX.out _ FB_q155.out) (fun hHeld => ?_)
              clear hK K
              (try simp only [Act.put, setIfInBounds_toArray, set_cons_zero, set_cons_succ, getElem_toArray, getElem_cons_succ, getElem_cons_zero])
              refine t1 (i := 6) (h := fun K hK => ?_)
              go_simp
              refine (HSE.out wq154 grq154 GR_q154.out).mono ?_
              rintro e wq159 ⟨rfl, belq159⟩
              dsimp only
              have FB_q160 := cB FB_q155 belq159
              have FS_q161 := cS FS_q156 belq159
              have GB_q162 := cH GB_q157 belq159
              have GA_q163 := cH GA_q158 belq159
              have GR_q164 := cH GR_q154 belq159
              clear FB_q155 FS_q156 GB_q157 GA_q158 GR_q154
              clear GR_q164 belq159
              refine hK.out _ _ (HSX.out _ FB_q160.out) (fun hHeld => ?_)
              clear hK K
              (try simp only [Act.put, setIfInBounds_toArray, set_cons_zero, set_cons_succ, getElem_toArray, getElem_cons_succ, getElem_cons_zero])
              refine t1 (i := 9) (h := fun K hK => ?_)
              obtain ⟨a0, a1, a2⟩ := three_at GA_q163.out
              have f0 := frozen_of_row _ _ 0 _ _ GA_q163.out; have f1 := frozen_of_row _ _ 1 _ _ GA_q163.out; have f2 := frozen_of_row _ _ 2 _ _ GA_q163.out
              go_simp
              clear a0 a1 a2 f0 f1 f2
              refine hK.out _ _ (HSX.out _ (set3_belowE FB_q160.out LEgaq150.out _ _ _)) (fun hHeld => ?_)
              clear hK K
              (try simp only [Act.put, setIfInBounds_toArray, set_cons_zero, set_cons_succ, getElem_toArray, getElem_cons_succ, getElem_cons_zero])
              refine t1 (i := 10) (h := fun K hK => ?_)
              have a0 := fun v0 v1 v2 => one_cellE (gb3 GA_q163.out GB_q162.out (by decide) v0 v1 v2)
              have f0 := fun v0 v1 v2 => frozen_of_row _ _ 0 _ _ (gb3 GA_q163.out GB_q162.out (by decide) v0 v1 v2)
              go_simp
              clear a0 f0
              refine hK.out _ _ (HSX.out _ (set1_below (set3_belowE FB_q160.out LEgaq150.out _ _ _) LEgbq123.out _)) (fun hHeld => ?_)
              clear hK K
              (try simp only [Act.put, setIfInBounds_toArray, set_cons_zero, set_cons_succ, getElem_toArray, getElem_cons_succ, getElem_cons_zero])
              refine wpAnyH_done (by kernel_rfl) ?_ _
              refine nrm_thenE ?_
              (try go_wp2_with (fail))
              go_meet
              exact ⟨Aq6, cq6, Pq6, dq6, hsq6, gaq150, gbq123, _, _, rfl, rfl, emp_end GA_q163.out GB_q162.out FS_q161.out.1 FS_q161.out.2 FB_q160.out LEgaq150.out LEgbq123.out⟩
            exact AllReadyH.nil
          exact AllReadyH.nil
        refine AllReadyH.cons rfl (fun K hK => ?_) ?_
        · go_simp
          obtain ⟨wq165, hw, gaq165, hg, LEgaq165, b, GA_q165⟩ := alE FB_q7 (.cells #[.int .i64 0, .slice none 0 0, .slice none 0 0] 88)
          rw [← hw, hg]
          have FB_q166 := cB FB_q7 b
          have FS_q167 := cS FS_q8 b
          clear FB_q7 FS_q8
          clear hw hg b
          refine hK.out _ _ (HSX.out _ FB_q166.out) (fun hHeld => ?_)
          clear hK K
          (try simp only [Act.put, setIfInBounds_toArray, set_cons_zero, set_cons_succ, getElem_toArray, getElem_cons_succ, getElem_cons_zero])
          refine wpAnyH_ready (rs := [4, 8]) (by kernel_rfl) (by simp) ?_
          refine AllReadyH.cons rfl (fun K hK => ?_) ?_
          · go_simp
            refine (HSO.out wq165 (HBX.out _ FB_q166.out)).mono ?_
            rintro e wq168 ⟨rfl, belq168⟩
            dsimp only
            have FB_q169 := cB FB_q166 belq168
            have FS_q170 := cS FS_q167 belq168
            have GA_q171 := cH GA_q165 belq168
            clear FB_q166 FS_q167 GA_q165
            clear belq168
            refine hK.out _ _ (HSX.out _ FB_q169.out) (fun hHeld => ?_)
            clear hK K
            (try simp only [Act.put, setIfInBounds_toArray, set_cons_zero, set_cons_succ, getElem_toArray, getElem_cons_succ, getElem_cons_zero])
            refine wpAnyH_ready (rs := [5, 8]) (by kernel_rfl) (by simp) ?_
            refine AllReadyH.cons rfl (fun K hK => ?_) ?_
            · go_simp
              obtain ⟨wq172, hw, grq172, hg, LEgrq172, b, GR_q172⟩ := alE FB_q169 (.cells #[.int .i64 (f : Nat)] 2)
              rw [← hw, hg]
              have FB_q173 := cB FB_q169 b
              have FS_q174 := cS FS_q170 b
              have GA_q175 := cH GA_q171 b
              clear FB_q169 FS_q170 GA_q171
              clear hw hg b
              refine hK.out _ _ (HSX.out _ FB_q173.out) (fun hHeld => ?_)
              clear hK K
              (try simp only [Act.put, setIfInBounds_toArray, set_cons_zero, set_cons_succ, getElem_toArray, getElem_cons_succ, getElem_cons_zero])
              refine wpAnyH_ready (rs := [6, 8]) (by kernel_rfl) (by simp) ?_
              refine AllReadyH.cons rfl (fun K hK => ?_) ?_
              · go_simp
                refine (HSE.out wq172 grq172 GR_q172.out).mono ?_
                rintro e wq176 ⟨rfl, belq176⟩
                dsimp only
                have FB_q177 := cB FB_q173 belq176
                have FS_q178 := cS FS_q174 belq176
                have GA_q179 := cH GA_q175 belq176
                have GR_q180 := cH GR_q172 belq176
                clear FB_q173 FS_q174 GA_q175 GR_q172
                clear GR_q180 belq176
                refine hK.out _ _ (HSX.out _ FB_q177.out) (fun hHeld => ?_)
                clear hK K
                (try simp only [Act.put, setIfInBounds_toArray, set_cons_zero, set_cons_succ, getElem_toArray, getElem_cons_succ, getElem_cons_zero])
                refine t1 (i := 8) (h := fun K hK => ?_)
                go_simp
                obtain ⟨wq181, hw, gbq181, hg, LEgbq181, b, GB_q181⟩ := alE FB_q177 (.cells #[.int .u64 0] 60)
                rw [← hw, hg]
                have FB_q182 := cB FB_q177 b
                have FS_q183 := cS FS_q178 b
                have GA_q184 := cH GA_q179 b
                clear FB_q177 FS_q178 GA_q179
                clear hw hg b
                refine hK.out _ _ (HSX.out _ FB_q182.out) (fun hHeld => ?_)
                clear hK K
                (try simp only [Act.put, setIfInBounds_toArray, set_cons_zero, set_cons_succ, getElem_toArray, getElem_cons_succ, getElem_cons_zero])
                refine t1 (i := 9) (h := fun K hK => ?_)
                obtain ⟨a0, a1, a2⟩ := three_at GA_q184.out
                have f0 := frozen_of_row _ _ 0 _ _ GA_q184.out; have f1 := frozen_of_row _ _ 1 _ _ GA_q184.out; have f2 := frozen_of_row _ _ 2 _ _ GA_q184.out
                go_simp
                clear a0 a1 a2 f0 f1 f2
                refine hK.out _ _ (HSX.out _ (set3_belowE FB_q182.out LEgaq165.out _ _ _)) (fun hHeld => ?_)
                clear hK K
                (try simp only [Act.put, setIfInBounds_toArray, set_cons_zero, set_cons_succ, getElem_toArray, getElem_cons_succ, getElem_cons_zero])
                refine t1 (i := 10) (h := fun K hK => ?_)
                have a0 := fun v0 v1 v2 => one_cellE (gb3 GA_q184.out GB_q181.out (by decide) v0 v1 v2)
                have f0 := fun v0 v1 v2 => frozen_of_row _ _ 0 _ _ (gb3 GA_q184.out GB_q181.out (by decide) v0 v1 v2)
                go_simp
                clear a0 f0
                refine hK.out _ _ (HSX.out _ (set1_below (set3_belowE FB_q182.out LEgaq165.out _ _ _) LEgbq181.out _)) (fun hHeld => ?_)
                clear hK K
                (try simp only [Act.put, setIfInBounds_toArray, set_cons_zero, set_cons_succ, getElem_toArray, getElem_cons_succ, getElem_cons_zero])
                refine wpAnyH_done (by kernel_rfl) ?_ _
                refine nrm_thenE ?_
                (try go_wp2_with (fail))
                go_meet
                exact ⟨Aq6, cq6, Pq6, dq6, hsq6, gaq165, gbq181, _, _, rfl, rfl, emp_end GA_q184.out GB_q181.out FS_q183.out.1 FS_q183.out.2 FB_q182.out LEgaq165.out LEgbq181.out⟩
              refine AllReadyH.cons rfl (fun K hK => ?_) ?_
              · go_simp
                obtain ⟨wq185, hw, gbq185, hg, LEgbq185, b, GB_q185⟩ := alE FB_q173 (.cells #[.int .u64 0] 60)
                rw [← hw, hg]
                have FB_q186 := cB FB_q173 b
                have FS_q187 := cS FS_q174 b
                have GA_q188 := cH GA_q175 b
                have GR_q189 := cH GR_q172 b
                clear FB_q173 FS_q174 GA_q175 GR_q172
                clear hw hg b
                refine hK.out _ _ (HSX.out _ FB_q186.out) (fun hHeld => ?_)
                clear hK K
                (try simp only [Act.put, setIfInBounds_toArray, set_cons_zero, set_cons_succ, getElem_toArray, getElem_cons_succ, getElem_cons_zero])
                refine t1 (i := 6) (h := fun K hK => ?_)
                go_simp
                refine (HSE.out wq185 grq172 GR_q189.out).mono ?_
                rintro e wq190 ⟨rfl, belq190⟩
                dsimp only
                have FB_q191 := cB FB_q186 belq190
                have FS_q192 := cS FS_q187 belq190
                have GA_q193 := cH GA_q188 belq190
                have GR_q194 := cH GR_q189 belq190
                have GB_q195 := cH GB_q185 belq190
                clear FB_q186 FS_q187 GA_q188 GR_q189 GB_q185
                clear GR_q194 belq190
                refine hK.out _ _ (HSX.out _ FB_q191.out) (fun hHeld => ?_)
                clear hK K
                (try simp only [Act.put, setIfInBounds_toArray, set_cons_zero, set_cons_succ, getElem_toArray, getElem_cons_succ, getElem_cons_zero])
                refine t1 (i := 9) (h := fun K hK => ?_)
                obtain ⟨a0, a1, a2⟩ := three_at GA_q193.out
                have f0 := frozen_of_row _ _ 0 _ _ GA_q193.out; have f1 := frozen_of_row _ _ 1 _ _ GA_q193.out; have f2 := frozen_of_row _ _ 2 _ _ GA_q193.out
                go_simp
                clear a0 a1 a2 f0 f1 f2
                refine hK.out _ _ (HSX.out _ (set3_belowE FB_q191.out LEgaq165.out _ _ _)) (fun hHeld => ?_)
                clear hK K
                (try simp only [Act.put, setIfInBounds_toArray, set_cons_zero, set_cons_succ, getElem_toArray, getElem_cons_succ, getElem_cons_zero])
                refine t1 (i := 10) (h := fun K hK => ?_)
                have a0 := fun v0 v1 v2 => one_cellE (gb3 GA_q193.out GB_q195.out (by decide) v0 v1 v2)
                have f0 := fun v0 v1 v2 => frozen_of_row _ _ 0 _ _ (gb3 GA_q193.out GB_q195.out (by decide) v0 v1 v2)
                go_simp
                clear a0 f0
                refine hK.out _ _ (HSX.out _ (set1_below (set3_belowE FB_q191.out LEgaq165.out _ _ _) LEgbq185.out _)) (fun hHeld => ?_)
                clear hK K
                (try simp only [Act.put, setIfInBounds_toArray, set_cons_zero, set_cons_succ, getElem_toArray, getElem_cons_succ, getElem_cons_zero])
                refine wpAnyH_done (by kernel_rfl) ?_ _
                refine nrm_thenE ?_
                (try go_wp2_with (fail))
                go_meet
                exact ⟨Aq6, cq6, Pq6, dq6, hsq6, gaq165, gbq185, _, _, rfl, rfl, emp_end GA_q193.out GB_q195.out FS_q192.out.1 FS_q192.out.2 FB_q191.out LEgaq165.out LEgbq185.out⟩
              exact AllReadyH.nil
            refine AllReadyH.cons rfl (fun K hK => ?_) ?_
            · go_simp
              obtain ⟨wq196, hw, gbq196, hg, LEgbq196, b, GB_q196⟩ := alE FB_q169 (.cells #[.int .u64 0] 60)
              rw [← hw, hg]
              have FB_q197 := cB FB_q169 b
              have FS_q198 := cS FS_q170 b
              have GA_q199 := cH GA_q171 b
              clear FB_q169 FS_q170 GA_q171
              clear hw hg b
              refine hK.out _ _ (HSX.out _ FB_q197.out) (fun hHeld => ?_)
              clear hK K
              (try simp only [Act.put, setIfInBounds_toArray, set_cons_zero, set_cons_succ, getElem_toArray, getElem_cons_succ, getElem_cons_zero])
              refine t1 (i := 5) (h := fun K hK => ?_)
              go_simp
              obtain ⟨wq200, hw, grq200, hg, LEgrq200, b, GR_q200⟩ := alE FB_q197 (.cells #[.int .i64 (f : Nat)] 2)
              rw [← hw, hg]
              have FB_q201 := cB FB_q197 b
              have FS_q202 := cS FS_q198 b
              have GA_q203 := cH GA_q199 b
              have GB_q204 := cH GB_q196 b
              clear FB_q197 FS_q198 GA_q199 GB_q196
              clear hw hg b
              refine hK.out _ _ (HSX.out _ FB_q201.out) (fun hHeld => ?_)
              clear hK K
              (try simp only [Act.put, setIfInBounds_toArray, set_cons_zero, set_cons_succ, getElem_toArray, getElem_cons_succ, getElem_cons_zero])
              refine t1 (i := 6) (h := fun K hK => ?_)
              go_simp
              refine (HSE.out wq200 grq200 GR_q200.out).mono ?_
              rintro e wq205 ⟨rfl, belq205⟩
              dsimp only
              have FB_q206 := cB FB_q201 belq205
              have FS_q207 := cS FS_q202 belq205
              have GA_q208 := cH GA_q203 belq205
              have GB_q209 := cH GB_q204 belq205
              have GR_q210 := cH GR_q200 belq205
              clear FB_q201 FS_q202 GA_q203 GB_q204 GR_q200
              clear GR_q210 belq205
              refine hK.out _ _ (HSX.out _ FB_q206.out) (fun hHeld => ?_)
              clear hK K
              (try simp only [Act.put, setIfInBounds_toArray, set_cons_zero, set_cons_succ, getElem_toArray, getElem_cons_succ, getElem_cons_zero])
              refine t1 (i := 9) (h := fun K hK => ?_)
              obtain ⟨a0, a1, a2⟩ := three_at GA_q208.out
              have f0 := frozen_of_row _ _ 0 _ _ GA_q208.out; have f1 := frozen_of_row _ _ 1 _ _ GA_q208.out; have f2 := frozen_of_row _ _ 2 _ _ GA_q208.out
              go_simp
              clear a0 a1 a2 f0 f1 f2
              refine hK.out _ _ (HSX.out _ (set3_belowE FB_q206.out LEgaq165.out _ _ _)) (fun hHeld => ?_)
              clear hK K
              (try simp only [Act.put, setIfInBounds_toArray, set_cons_zero, set_cons_succ, getElem_toArray, getElem_cons_succ, getElem_cons_zero])
              refine t1 (i := 10) (h := fun K hK => ?_)
              have a0 := fun v0 v1 v2 => one_cellE (gb3 GA_q208.out GB_q209.out (by decide) v0 v1 v2)
              have f0 := fun v0 v1 v2 => frozen_of_row _ _ 0 _ _ (gb3 GA_q208.out GB_q209.out (by decide) v0 v1 v2)
              go_simp
              clear a0 f0
              refine hK.out _ _ (HSX.out _ (set1_below (set3_belowE FB_q206.out LEgaq165.out _ _ _) LEgbq196.out _)) (fun hHeld => ?_)
              clear hK K
              (try simp only [Act.put, setIfInBounds_toArray, set_cons_zero, set_cons_succ, getElem_toArray, getElem_cons_succ, getElem_cons_zero])
              refine wpAnyH_done (by kernel_rfl) ?_ _
              refine nrm_thenE ?_
              (try go_wp2_with (fail))
              go_meet
              exact ⟨Aq6, cq6, Pq6, dq6, hsq6, gaq165, gbq196, _, _, rfl, rfl, emp_end GA_q208.out GB_q209.out FS_q207.out.1 FS_q207.out.2 FB_q206.out LEgaq165.out LEgbq196.out⟩
            exact AllReadyH.nil
          refine AllReadyH.cons rfl (fun K hK => ?_) ?_
          · go_simp
            obtain ⟨wq211, hw, gbq211, hg, LEgbq211, b, GB_q211⟩ := alE FB_q166 (.cells #[.int .u64 0] 60)
            rw [← hw, hg]
            have FB_q212 := cB FB_q166 b
            have FS_q213 := cS FS_q167 b
            have GA_q214 := cH GA_q165 b
            clear FB_q166 FS_q167 GA_q165
            clear hw hg b
            refine hK.out _ _ (HSX.out _ FB_q212.out) (fun hHeld => ?_)
            clear hK K
            (try simp only [Act.put, setIfInBounds_toArray, set_cons_zero, set_cons_succ, getElem_toArray, getElem_cons_succ, getElem_cons_zero])
            refine t1 (i := 4) (h := fun K hK => ?_)
            go_simp
            refine (HSO.out wq211 (HBX.out _ FB_q212.out)).mono ?_
            rintro e wq215 ⟨rfl, belq215⟩
            dsimp only
            have FB_q216 := cB FB_q212 belq215
            have FS_q217 := cS FS_q213 belq215
            have GA_q218 := cH GA_q214 belq215
            have GB_q219 := cH GB_q211 belq215
            clear FB_q212 FS_q213 GA_q214 GB_q211
            clear belq215
            refine hK.out _ _ (HSX.out _ FB_q216.out) (fun hHeld => ?_)
            clear hK K
            (try simp only [Act.put, setIfInBounds_toArray, set_cons_zero, set_cons_succ, getElem_toArray, getElem_cons_succ, getElem_cons_zero])
            refine t1 (i := 5) (h := fun K hK => ?_)
            go_simp
            obtain ⟨wq220, hw, grq220, hg, LEgrq220, b, GR_q220⟩ := alE FB_q216 (.cells #[.int .i64 (f : Nat)] 2)
            rw [← hw, hg]
            have FB_q221 := cB FB_q216 b
            have FS_q222 := cS FS_q217 b
            have GA_q223 := cH GA_q218 b
            have GB_q224 := cH GB_q219 b
            clear FB_q216 FS_q217 GA_q218 GB_q219
            clear hw hg b
            refine hK.out _ _ (HSX.out _ FB_q221.out) (fun hHeld => ?_)
            clear hK K
            (try simp only [Act.put, setIfInBounds_toArray, set_cons_zero, set_cons_succ, getElem_toArray, getElem_cons_succ, getElem_cons_zero])
            refine t1 (i := 6) (h := fun K hK => ?_)
            go_simp
            refine (HSE.out wq220 grq220 GR_q220.out).mono ?_
            rintro e wq225 ⟨rfl, belq225⟩
            dsimp only
            have FB_q226 := cB FB_q221 belq225
            have FS_q227 := cS FS_q222 belq225
            have GA_q228 := cH GA_q223 belq225
            have GB_q229 := cH GB_q224 belq225
            have GR_q230 := cH GR_q220 belq225
            clear FB_q221 FS_q222 GA_q223 GB_q224 GR_q220
            clear GR_q230 belq225
            refine hK.out _ _ (HSX.out _ FB_q226.out) (fun hHeld => ?_)
            clear hK K
            (try simp only [Act.put, setIfInBounds_toArray, set_cons_zero, set_cons_succ, getElem_toArray, getElem_cons_succ, getElem_cons_zero])
            refine t1 (i := 9) (h := fun K hK => ?_)
            obtain ⟨a0, a1, a2⟩ := three_at GA_q228.out
            have f0 := frozen_of_row _ _ 0 _ _ GA_q228.out; have f1 := frozen_of_row _ _ 1 _ _ GA_q228.out; have f2 := frozen_of_row _ _ 2 _ _ GA_q228.out
            go_simp
            clear a0 a1 a2 f0 f1 f2
            refine hK.out _ _ (HSX.out _ (set3_belowE FB_q226.out LEgaq165.out _ _ _)) (fun hHeld => ?_)
            clear hK K
            (try simp only [Act.put, setIfInBounds_toArray, set_cons_zero, set_cons_succ, getElem_toArray, getElem_cons_succ, getElem_cons_zero])
            refine t1 (i := 10) (h := fun K hK => ?_)
            have a0 := fun v0 v1 v2 => one_cellE (gb3 GA_q228.out GB_q229.out (by decide) v0 v1 v2)
            have f0 := fun v0 v1 v2 => frozen_of_row _ _ 0 _ _ (gb3 GA_q228.out GB_q229.out (by decide) v0 v1 v2)
            go_simp
            clear a0 f0
            refine hK.out _ _ (HSX.out _ (set1_below (set3_belowE FB_q226.out LEgaq165.out _ _ _) LEgbq211.out _)) (fun hHeld => ?_)
            clear hK K
            (try simp only [Act.put, setIfInBounds_toArray, set_cons_zero, set_cons_succ, getElem_toArray, getElem_cons_succ, getElem_cons_zero])
            refine wpAnyH_done (by kernel_rfl) ?_ _
            refine nrm_thenE ?_
            (try go_wp2_with (fail))
            go_meet
            exact ⟨Aq6, cq6, Pq6, dq6, hsq6, gaq165, gbq211, _, _, rfl, rfl, emp_end GA_q228.out GB_q229.out FS_q227.out.1 FS_q227.out.2 FB_q226.out LEgaq165.out LEgbq211.out⟩
          exact AllReadyH.nil
        refine AllReadyH.cons rfl (fun K hK => ?_) ?_
        · go_simp
          obtain ⟨wq231, hw, gbq231, hg, LEgbq231, b, GB_q231⟩ := alE FB_q7 (.cells #[.int .u64 0] 60)
          rw [← hw, hg]
          have FB_q232 := cB FB_q7 b
          have FS_q233 := cS FS_q8 b
          clear FB_q7 FS_q8
          clear hw hg b
          refine hK.out _ _ (HSX.out _ FB_q232.out) (fun hHeld => ?_)
          clear hK K
          (try simp only [Act.put, setIfInBounds_toArray, set_cons_zero, set_cons_succ, getElem_toArray, getElem_cons_succ, getElem_cons_zero])
          refine wpAnyH_ready (rs := [4, 7]) (by kernel_rfl) (by simp) ?_
          refine AllReadyH.cons rfl (fun K hK => ?_) ?_
          · go_simp
            refine (HSO.out wq231 (HBX.out _ FB_q232.out)).mono ?_
            rintro e wq234 ⟨rfl, belq234⟩
            dsimp only
            have FB_q235 := cB FB_q232 belq234
            have FS_q236 := cS FS_q233 belq234
            have GB_q237 := cH GB_q231 belq234
            clear FB_q232 FS_q233 GB_q231
            clear belq234
            refine hK.out _ _ (HSX.out _ FB_q235.out) (fun hHeld => ?_)
            clear hK K
            (try simp only [Act.put, setIfInBounds_toArray, set_cons_zero, set_cons_succ, getElem_toArray, getElem_cons_succ, getElem_cons_zero])
            refine wpAnyH_ready (rs := [5, 7]) (by kernel_rfl) (by simp) ?_
            refine AllReadyH.cons rfl (fun K hK => ?_) ?_
            · go_simp
              obtain ⟨wq238, hw, grq238, hg, LEgrq238, b, GR_q238⟩ := alE FB_q235 (.cells #[.int .i64 (f : Nat)] 2)
              rw [← hw, hg]
              have FB_q239 := cB FB_q235 b
              have FS_q240 := cS FS_q236 b
              have GB_q241 := cH GB_q237 b
              clear FB_q235 FS_q236 GB_q237
              clear hw hg b
              refine hK.out _ _ (HSX.out _ FB_q239.out) (fun hHeld => ?_)
              clear hK K
              (try simp only [Act.put, setIfInBounds_toArray, set_cons_zero, set_cons_succ, getElem_toArray, getElem_cons_succ, getElem_cons_zero])
              refine wpAnyH_ready (rs := [6, 7]) (by kernel_rfl) (by simp) ?_
              refine AllReadyH.cons rfl (fun K hK => ?_) ?_
              · go_simp
                refine (HSE.out wq238 grq238 GR_q238.out).mono ?_
                rintro e wq242 ⟨rfl, belq242⟩
                dsimp only
                have FB_q243 := cB FB_q239 belq242
                have FS_q244 := cS FS_q240 belq242
                have GB_q245 := cH GB_q241 belq242
                have GR_q246 := cH GR_q238 belq242
                clear FB_q239 FS_q240 GB_q241 GR_q238
                clear GR_q246 belq242
                refine hK.out _ _ (HSX.out _ FB_q243.out) (fun hHeld => ?_)
                clear hK K
                (try simp only [Act.put, setIfInBounds_toArray, set_cons_zero, set_cons_succ, getElem_toArray, getElem_cons_succ, getElem_cons_zero])
                refine t1 (i := 7) (h := fun K hK => ?_)
                go_simp
                obtain ⟨wq247, hw, gaq247, hg, LEgaq247, b, GA_q247⟩ := alE FB_q243 (.cells #[.int .i64 0, .slice none 0 0, .slice none 0 0] 88)
                rw [← hw, hg]
                have FB_q248 := cB FB_q243 b
                have FS_q249 := cS FS_q244 b
                have GB_q250 := cH GB_q245 b
                clear FB_q243 FS_q244 GB_q245
                clear hw hg b
                refine hK.out _ _ (HSX.out _ FB_q248.out) (fun hHeld => ?_)
                clear hK K
                (try simp only [Act.put, setIfInBounds_toArray, set_cons_zero, set_cons_succ, getElem_toArray, getElem_cons_succ, getElem_cons_zero])
                refine t1 (i := 9) (h := fun K hK => ?_)
                obtain ⟨a0, a1, a2⟩ := three_at GA_q247.out
                have f0 := frozen_of_row _ _ 0 _ _ GA_q247.out; have f1 := frozen_of_row _ _ 1 _ _ GA_q247.out; have f2 := frozen_of_row _ _ 2 _ _ GA_q247.out
                go_simp
                clear a0 a1 a2 f0 f1 f2
                refine hK.out _ _ (HSX.out _ (set3_belowE FB_q248.out LEgaq247.out _ _ _)) (fun hHeld => ?_)
                clear hK K
                (try simp only [Act.put, setIfInBounds_toArray, set_cons_zero, set_cons_succ, getElem_toArray, getElem_cons_succ, getElem_cons_zero])
                refine t1 (i := 10) (h := fun K hK => ?_)
                have a0 := fun v0 v1 v2 => one_cellE (gb3 GA_q247.out GB_q250.out (by decide) v0 v1 v2)
                have f0 := fun v0 v1 v2 => frozen_of_row _ _ 0 _ _ (gb3 GA_q247.out GB_q250.out (by decide) v0 v1 v2)
                go_simp
                clear a0 f0
                refine hK.out _ _ (HSX.out _ (set1_below (set3_belowE FB_q248.out LEgaq247.out _ _ _) LEgbq231.out _)) (fun hHeld => ?_)
                clear hK K
                (try simp only [Act.put, setIfInBounds_toArray, set_cons_zero, set_cons_succ, getElem_toArray, getElem_cons_succ, getElem_cons_zero])
                refine wpAnyH_done (by kernel_rfl) ?_ _
                refine nrm_thenE ?_
                (try go_wp2_with (fail))
                go_meet
                exact ⟨Aq6, cq6, Pq6, dq6, hsq6, gaq247, gbq231, _, _, rfl, rfl, emp_end GA_q247.out GB_q250.out FS_q249.out.1 FS_q249.out.2 FB_q248.out LEgaq247.out LEgbq231.out⟩
              refine AllReadyH.cons rfl (fun K hK => ?_) ?_
              · go_simp
                obtain ⟨wq251, hw, gaq251, hg, LEgaq251, b, GA_q251⟩ := alE FB_q239 (.cells #[.int .i64 0, .slice none 0 0, .slice none 0 0] 88)
                rw [← hw, hg]
                have FB_q252 := cB FB_q239 b
                have FS_q253 := cS FS_q240 b
                have GB_q254 := cH GB_q241 b
                have GR_q255 := cH GR_q238 b
                clear FB_q239 FS_q240 GB_q241 GR_q238
                clear hw hg b
                refine hK.out _ _ (HSX.out _ FB_q252.out) (fun hHeld => ?_)
                clear hK K
                (try simp only [Act.put, setIfInBounds_toArray, set_cons_zero, set_cons_succ, getElem_toArray, getElem_cons_succ, getElem_cons_zero])
                refine t1 (i := 6) (h := fun K hK => ?_)
                go_simp
                refine (HSE.out wq251 grq238 GR_q255.out).mono ?_
                rintro e wq256 ⟨rfl, belq256⟩
                dsimp only
                have FB_q257 := cB FB_q252 belq256
                have FS_q258 := cS FS_q253 belq256
                have GB_q259 := cH GB_q254 belq256
                have GR_q260 := cH GR_q255 belq256
                have GA_q261 := cH GA_q251 belq256
                clear FB_q252 FS_q253 GB_q254 GR_q255 GA_q251
                clear GR_q260 belq256
                refine hK.out _ _ (HSX.out _ FB_q257.out) (fun hHeld => ?_)
                clear hK K
                (try simp only [Act.put, setIfInBounds_toArray, set_cons_zero, set_cons_succ, getElem_toArray, getElem_cons_succ, getElem_cons_zero])
                refine t1 (i := 9) (h := fun K hK => ?_)
                obtain ⟨a0, a1, a2⟩ := three_at GA_q261.out
                have f0 := frozen_of_row _ _ 0 _ _ GA_q261.out; have f1 := frozen_of_row _ _ 1 _ _ GA_q261.out; have f2 := frozen_of_row _ _ 2 _ _ GA_q261.out
                go_simp
                clear a0 a1 a2 f0 f1 f2
                refine hK.out _ _ (HSX.out _ (set3_belowE FB_q257.out LEgaq251.out _ _ _)) (fun hHeld => ?_)
                clear hK K
                (try simp only [Act.put, setIfInBounds_toArray, set_cons_zero, set_cons_succ, getElem_toArray, getElem_cons_succ, getElem_cons_zero])
                refine t1 (i := 10) (h := fun K hK => ?_)
                have a0 := fun v0 v1 v2 => one_cellE (gb3 GA_q261.out GB_q259.out (by decide) v0 v1 v2)
                have f0 := fun v0 v1 v2 => frozen_of_row _ _ 0 _ _ (gb3 GA_q261.out GB_q259.out (by decide) v0 v1 v2)
                go_simp
                clear a0 f0
                refine hK.out _ _ (HSX.out _ (set1_below (set3_belowE FB_q257.out LEgaq251.out _ _ _) LEgbq231.out _)) (fun hHeld => ?_)
                clear hK K
                (try simp only [Act.put, setIfInBounds_toArray, set_cons_zero, set_cons_succ, getElem_toArray, getElem_cons_succ, getElem_cons_zero])
                refine wpAnyH_done (by kernel_rfl) ?_ _
                refine nrm_thenE ?_
                (try go_wp2_with (fail))
                go_meet
                exact ⟨Aq6, cq6, Pq6, dq6, hsq6, gaq251, gbq231, _, _, rfl, rfl, emp_end GA_q261.out GB_q259.out FS_q258.out.1 FS_q258.out.2 FB_q257.out LEgaq251.out LEgbq231.out⟩
              exact AllReadyH.nil
            refine AllReadyH.cons rfl (fun K hK => ?_) ?_
            · go_simp
              obtain ⟨wq262, hw, gaq262, hg, LEgaq262, b, GA_q262⟩ := alE FB_q235 (.cells #[.int .i64 0, .slice none 0 0, .slice none 0 0] 88)
              rw [← hw, hg]
              have FB_q263 := cB FB_q235 b
              have FS_q264 := cS FS_q236 b
              have GB_q265 := cH GB_q237 b
              clear FB_q235 FS_q236 GB_q237
              clear hw hg b
              refine hK.out _ _ (HSX.out _ FB_q263.out) (fun hHeld => ?_)
              clear hK K
              (try simp only [Act.put, setIfInBounds_toArray, set_cons_zero, set_cons_succ, getElem_toArray, getElem_cons_succ, getElem_cons_zero])
              refine t1 (i := 5) (h := fun K hK => ?_)
              go_simp
              obtain ⟨wq266, hw, grq266, hg, LEgrq266, b, GR_q266⟩ := alE FB_q263 (.cells #[.int .i64 (f : Nat)] 2)
              rw [← hw, hg]
              have FB_q267 := cB FB_q263 b
              have FS_q268 := cS FS_q264 b
              have GB_q269 := cH GB_q265 b
              have GA_q270 := cH GA_q262 b
              clear FB_q263 FS_q264 GB_q265 GA_q262
              clear hw hg b
              refine hK.out _ _ (HSX.out _ FB_q267.out) (fun hHeld => ?_)
              clear hK K
              (try simp only [Act.put, setIfInBounds_toArray, set_cons_zero, set_cons_succ, getElem_toArray, getElem_cons_succ, getElem_cons_zero])
              refine t1 (i := 6) (h := fun K hK => ?_)
              go_simp
              refine (HSE.out wq266 grq266 GR_q266.out).mono ?_
              rintro e wq271 ⟨rfl, belq271⟩
              dsimp only
              have FB_q272 := cB FB_q267 belq271
              have FS_q273 := cS FS_q268 belq271
              have GB_q274 := cH GB_q269 belq271
              have GA_q275 := cH GA_q270 belq271
              have GR_q276 := cH GR_q266 belq271
              clear FB_q267 FS_q268 GB_q269 GA_q270 GR_q266
              clear GR_q276 belq271
              refine hK.out _ _ (HSX.out _ FB_q272.out) (fun hHeld => ?_)
              clear hK K
              (try simp only [Act.put, setIfInBounds_toArray, set_cons_zero, set_cons_succ, getElem_toArray, getElem_cons_succ, getElem_cons_zero])
              refine t1 (i := 9) (h := fun K hK => ?_)
              obtain ⟨a0, a1, a2⟩ := three_at GA_q275.out
              have f0 := frozen_of_row _ _ 0 _ _ GA_q275.out; have f1 := frozen_of_row _ _ 1 _ _ GA_q275.out; have f2 := frozen_of_row _ _ 2 _ _ GA_q275.out
              go_simp
              clear a0 a1 a2 f0 f1 f2
              refine hK.out _ _ (HSX.out _ (set3_belowE FB_q272.out LEgaq262.out _ _ _)) (fun hHeld => ?_)
              clear hK K
              (try simp only [Act.put, setIfInBounds_toArray, set_cons_zero, set_cons_succ, getElem_toArray, getElem_cons_succ, getElem_cons_zero])
              refine t1 (i := 10) (h := fun K hK => ?_)
              have a0 := fun v0 v1 v2 => one_cellE (gb3 GA_q275.out GB_q274.out (by decide) v0 v1 v2)
              have f0 := fun v0 v1 v2 => frozen_of_row _ _ 0 _ _ (gb3 GA_q275.out GB_q274.out (by decide) v0 v1 v2)
              go_simp
              clear a0 f0
              refine hK.out _ _ (HSX.out _ (set1_below (set3_belowE FB_q272.out LEgaq262.out _ _ _) LEgbq231.out _)) (fun hHeld => ?_)
              clear hK K
              (try simp only [Act.put, setIfInBounds_toArray, set_cons_zero, set_cons_succ, getElem_toArray, getElem_cons_succ, getElem_cons_zero])
              refine wpAnyH_done (by kernel_rfl) ?_ _
              refine nrm_thenE ?_
              (try go_wp2_with (fail))
              go_meet
              exact ⟨Aq6, cq6, Pq6, dq6, hsq6, gaq262, gbq231, _, _, rfl, rfl, emp_end GA_q275.out GB_q274.out FS_q273.out.1 FS_q273.out.2 FB_q272.out LEgaq262.out LEgbq231.out⟩
            exact AllReadyH.nil
          refine AllReadyH.cons rfl (fun K hK => ?_) ?_
          · go_simp
            obtain ⟨wq277, hw, gaq277, hg, LEgaq277, b, GA_q277⟩ := alE FB_q232 (.cells #[.int .i64 0, .slice none 0 0, .slice none 0 0] 88)
            rw [← hw, hg]
            have FB_q278 := cB FB_q232 b
            have FS_q279 := cS FS_q233 b
            have GB_q280 := cH GB_q231 b
            clear FB_q232 FS_q233 GB_q231
            clear hw hg b
            refine hK.out _ _ (HSX.out _ FB_q278.out) (fun hHeld => ?_)
            clear hK K
            (try simp only [Act.put, setIfInBounds_toArray, set_cons_zero, set_cons_succ, getElem_toArray, getElem_cons_succ, getElem_cons_zero])
            refine t1 (i := 4) (h := fun K hK => ?_)
            go_simp
            refine (HSO.out wq277 (HBX.out _ FB_q278.out)).mono ?_
            rintro e wq281 ⟨rfl, belq281⟩
            dsimp only
            have FB_q282 := cB FB_q278 belq281
            have FS_q283 := cS FS_q279 belq281
            have GB_q284 := cH GB_q280 belq281
            have GA_q285 := cH GA_q277 belq281
            clear FB_q278 FS_q279 GB_q280 GA_q277
            clear belq281
            refine hK.out _ _ (HSX.out _ FB_q282.out) (fun hHeld => ?_)
            clear hK K
            (try simp only [Act.put, setIfInBounds_toArray, set_cons_zero, set_cons_succ, getElem_toArray, getElem_cons_succ, getElem_cons_zero])
            refine t1 (i := 5) (h := fun K hK => ?_)
            go_simp
            obtain ⟨wq286, hw, grq286, hg, LEgrq286, b, GR_q286⟩ := alE FB_q282 (.cells #[.int .i64 (f : Nat)] 2)
            rw [← hw, hg]
            have FB_q287 := cB FB_q282 b
            have FS_q288 := cS FS_q283 b
            have GB_q289 := cH GB_q284 b
            have GA_q290 := cH GA_q285 b
            clear FB_q282 FS_q283 GB_q284 GA_q285
            clear hw hg b
            refine hK.out _ _ (HSX.out _ FB_q287.out) (fun hHeld => ?_)
            clear hK K
            (try simp only [Act.put, setIfInBounds_toArray, set_cons_zero, set_cons_succ, getElem_toArray, getElem_cons_succ, getElem_cons_zero])
            refine t1 (i := 6) (h := fun K hK => ?_)
            go_simp
            refine (HSE.out wq286 grq286 GR_q286.out).mono ?_
            rintro e wq291 ⟨rfl, belq291⟩
            dsimp only
            have FB_q292 := cB FB_q287 belq291
            have FS_q293 := cS FS_q288 belq291
            have GB_q294 := cH GB_q289 belq291
            have GA_q295 := cH GA_q290 belq291
            have GR_q296 := cH GR_q286 belq291
            clear FB_q287 FS_q288 GB_q289 GA_q290 GR_q286
            clear GR_q296 belq291
            refine hK.out _ _ (HSX.out _ FB_q292.out) (fun hHeld => ?_)
            clear hK K
            (try simp only [Act.put, setIfInBounds_toArray, set_cons_zero, set_cons_succ, getElem_toArray, getElem_cons_succ, getElem_cons_zero])
            refine t1 (i := 9) (h := fun K hK => ?_)
            obtain ⟨a0, a1, a2⟩ := three_at GA_q295.out
            have f0 := frozen_of_row _ _ 0 _ _ GA_q295.out; have f1 := frozen_of_row _ _ 1 _ _ GA_q295.out; have f2 := frozen_of_row _ _ 2 _ _ GA_q295.out
            go_simp
            clear a0 a1 a2 f0 f1 f2
            refine hK.out _ _ (HSX.out _ (set3_belowE FB_q292.out LEgaq277.out _ _ _)) (fun hHeld => ?_)
            clear hK K
            (try simp only [Act.put, setIfInBounds_toArray, set_cons_zero, set_cons_succ, getElem_toArray, getElem_cons_succ, getElem_cons_zero])
            refine t1 (i := 10) (h := fun K hK => ?_)
            have a0 := fun v0 v1 v2 => one_cellE (gb3 GA_q295.out GB_q294.out (by decide) v0 v1 v2)
            have f0 := fun v0 v1 v2 => frozen_of_row _ _ 0 _ _ (gb3 GA_q295.out GB_q294.out (by decide) v0 v1 v2)
            go_simp
            clear a0 f0
            refine hK.out _ _ (HSX.out _ (set1_below (set3_belowE FB_q292.out LEgaq277.out _ _ _) LEgbq231.out _)) (fun hHeld => ?_)
            clear hK K
            (try simp only [Act.put, setIfInBounds_toArray, set_cons_zero, set_cons_succ, getElem_toArray, getElem_cons_succ, getElem_cons_zero])
            refine wpAnyH_done (by kernel_rfl) ?_ _
            refine nrm_thenE ?_
            (try go_wp2_with (fail))
            go_meet
            exact ⟨Aq6, cq6, Pq6, dq6, hsq6, gaq277, gbq231, _, _, rfl, rfl, emp_end GA_q295.out GB_q294.out FS_q293.out.1 FS_q293.out.2 FB_q292.out LEgaq277.out LEgbq231.out⟩
          exact AllReadyH.nil
        exact AllReadyH.nil
      refine AllReadyH.cons rfl (fun K hK => ?_) ?_
      · go_simp
        obtain ⟨wq297, hw, gaq297, hg, LEgaq297, b, GA_q297⟩ := alE FB_q2 (.cells #[.int .i64 0, .slice none 0 0, .slice none 0 0] 88)
        rw [← hw, hg]
        have FB_q298 := cB FB_q2 b
        clear FB_q2
        clear hw hg b
        refine hK.out _ _ (HSX.out _ FB_q298.out) (fun hHeld => ?_)
        clear hK K
        (try simp only [Act.put, setIfInBounds_toArray, set_cons_zero, set_cons_succ, getElem_toArray, getElem_cons_succ, getElem_cons_zero])
        refine wpAnyH_ready (rs := [1, 8]) (by kernel_rfl) (by simp) ?_
        refine AllReadyH.cons rfl (fun K hK => ?_) ?_
        · go_simp
          refine (HSW.out wq297 (HBX.out _ FB_q298.out)).mono ?_
          rintro e wq299 ⟨Aq299, cq299, Pq299, dq299, hsq299, rfl, owq299, oqq299, belq299⟩
          dsimp only
          have FB_q300 := cB FB_q298 belq299
          have GA_q301 := cH GA_q297 belq299
          clear FB_q298 GA_q297
          have FS_q302 := Lib.hid (And.intro owq299 oqq299)
          clear owq299 oqq299 belq299
          refine hK.out _ _ (HSX.out _ FB_q300.out) (fun hHeld => ?_)
          clear hK K
          (try simp only [Act.put, setIfInBounds_toArray, set_cons_zero, set_cons_succ, getElem_toArray, getElem_cons_succ, getElem_cons_zero])
          refine wpAnyH_ready (rs := [4, 8]) (by kernel_rfl) (by simp) ?_
          refine AllReadyH.cons rfl (fun K hK => ?_) ?_
          · go_simp
            refine (HSO.out wq299 (HBX.out _ FB_q300.out)).mono ?_
            rintro e wq303 ⟨rfl, belq303⟩
            dsimp only
            have FB_q304 := cB FB_q300 belq303
            have GA_q305 := cH GA_q301 belq303
            have FS_q306 := cS FS_q302 belq303
            clear FB_q300 GA_q301 FS_q302
            clear belq303
            refine hK.out _ _ (HSX.out _ FB_q304.out) (fun hHeld => ?_)
            clear hK K
            (try simp only [Act.put, setIfInBounds_toArray, set_cons_zero, set_cons_succ, getElem_toArray, getElem_cons_succ, getElem_cons_zero])
            refine wpAnyH_ready (rs := [5, 8]) (by kernel_rfl) (by simp) ?_
            refine AllReadyH.cons rfl (fun K hK => ?_) ?_
            · go_simp
              obtain ⟨wq307, hw, grq307, hg, LEgrq307, b, GR_q307⟩ := alE FB_q304 (.cells #[.int .i64 (f : Nat)] 2)
              rw [← hw, hg]
              have FB_q308 := cB FB_q304 b
              have GA_q309 := cH GA_q305 b
              have FS_q310 := cS FS_q306 b
              clear FB_q304 GA_q305 FS_q306
              clear hw hg b
              refine hK.out _ _ (HSX.out _ FB_q308.out) (fun hHeld => ?_)
              clear hK K
              (try simp only [Act.put, setIfInBounds_toArray, set_cons_zero, set_cons_succ, getElem_toArray, getElem_cons_succ, getElem_cons_zero])
              refine wpAnyH_ready (rs := [6, 8]) (by kernel_rfl) (by simp) ?_
              refine AllReadyH.cons rfl (fun K hK => ?_) ?_
              · go_simp
                refine (HSE.out wq307 grq307 GR_q307.out).mono ?_
                rintro e wq311 ⟨rfl, belq311⟩
                dsimp only
                have FB_q312 := cB FB_q308 belq311
                have GA_q313 := cH GA_q309 belq311
                have FS_q314 := cS FS_q310 belq311
                have GR_q315 := cH GR_q307 belq311
                clear FB_q308 GA_q309 FS_q310 GR_q307
                clear GR_q315 belq311
                refine hK.out _ _ (HSX.out _ FB_q312.out) (fun hHeld => ?_)
                clear hK K
                (try simp only [Act.put, setIfInBounds_toArray, set_cons_zero, set_cons_succ, getElem_toArray, getElem_cons_succ, getElem_cons_zero])
                refine t1 (i := 8) (h := fun K hK => ?_)
                go_simp
                obtain ⟨wq316, hw, gbq316, hg, LEgbq316, b, GB_q316⟩ := alE FB_q312 (.cells #[.int .u64 0] 60)
                rw [← hw, hg]
                have FB_q317 := cB FB_q312 b
                have GA_q318 := cH GA_q313 b
                have FS_q319 := cS FS_q314 b
                clear FB_q312 GA_q313 FS_q314
                clear hw hg b
                refine hK.out _ _ (HSX.out _ FB_q317.out) (fun hHeld => ?_)
                clear hK K
                (try simp only [Act.put, setIfInBounds_toArray, set_cons_zero, set_cons_succ, getElem_toArray, getElem_cons_succ, getElem_cons_zero])
                refine t1 (i := 9) (h := fun K hK => ?_)
                obtain ⟨a0, a1, a2⟩ := three_at GA_q318.out
                have f0 := frozen_of_row _ _ 0 _ _ GA_q318.out; have f1 := frozen_of_row _ _ 1 _ _ GA_q318.out; have f2 := frozen_of_row _ _ 2 _ _ GA_q318.out
                go_simp
                clear a0 a1 a2 f0 f1 f2
                refine hK.out _ _ (HSX.out _ (set3_belowE FB_q317.out LEgaq297.out _ _ _)) (fun hHeld => ?_)
                clear hK K
                (try simp only [Act.put, setIfInBounds_toArray, set_cons_zero, set_cons_succ, getElem_toArray, getElem_cons_succ, getElem_cons_zero])
                refine t1 (i := 10) (h := fun K hK => ?_)
                have a0 := fun v0 v1 v2 => one_cellE (gb3 GA_q318.out GB_q316.out (by decide) v0 v1 v2)
                have f0 := fun v0 v1 v2 => frozen_of_row _ _ 0 _ _ (gb3 GA_q318.out GB_q316.out (by decide) v0 v1 v2)
                go_simp
                clear a0 f0
                refine hK.out _ _ (HSX.out _ (set1_below (set3_belowE FB_q317.out LEgaq297.out _ _ _) LEgbq316.out _)) (fun hHeld => ?_)
                clear hK K
                (try simp only [Act.put, setIfInBounds_toArray, set_cons_zero, set_cons_succ, getElem_toArray, getElem_cons_succ, getElem_cons_zero])
                refine wpAnyH_done (by kernel_rfl) ?_ _
                refine nrm_thenE ?_
                (try go_wp2_with (fail))
                go_meet
                exact ⟨Aq299, cq299, Pq299, dq299, hsq299, gaq297, gbq316, _, _, rfl, rfl, emp_end GA_q318.out GB_q316.out FS_q319.out.1 FS_q319.out.2 FB_q317.out LEgaq297.out LEgbq316.out⟩
              refine AllReadyH.cons rfl (fun K hK => ?_) ?_
              · go_simp
                obtain ⟨wq320, hw, gbq320, hg, LEgbq320, b, GB_q320⟩ := alE FB_q308 (.cells #[.int .u64 0] 60)
                rw [← hw, hg]
                have FB_q321 := cB FB_q308 b
                have GA_q322 := cH GA_q309 b
                have FS_q323 := cS FS_q310 b
                have GR_q324 := cH GR_q307 b
                clear FB_q308 GA_q309 FS_q310 GR_q307
                clear hw hg b
                refine hK.out _ _ (HSX.out _ FB_q321.out) (fun hHeld => ?_)
                clear hK K
                (try simp only [Act.put, setIfInBounds_toArray, set_cons_zero, set_cons_succ, getElem_toArray, getElem_cons_succ, getElem_cons_zero])
                refine t1 (i := 6) (h := fun K hK => ?_)
                go_simp
                refine (HSE.out wq320 grq307 GR_q324.out).mono ?_
                rintro e wq325 ⟨rfl, belq325⟩
                dsimp only
                have FB_q326 := cB FB_q321 belq325
                have GA_q327 := cH GA_q322 belq325
                have FS_q328 := cS FS_q323 belq325
                have GR_q329 := cH GR_q324 belq325
                have GB_q330 := cH GB_q320 belq325
                clear FB_q321 GA_q322 FS_q323 GR_q324 GB_q320
                clear GR_q329 belq325
                refine hK.out _ _ (HSX.out _ FB_q326.out) (fun hHeld => ?_)
                clear hK K
                (try simp only [Act.put, setIfInBounds_toArray, set_cons_zero, set_cons_succ, getElem_toArray, getElem_cons_succ, getElem_cons_zero])
                refine t1 (i := 9) (h := fun K hK => ?_)
                obtain ⟨a0, a1, a2⟩ := three_at GA_q327.out
                have f0 := frozen_of_row _ _ 0 _ _ GA_q327.out; have f1 := frozen_of_row _ _ 1 _ _ GA_q327.out; have f2 := frozen_of_row _ _ 2 _ _ GA_q327.out
                go_simp
                clear a0 a1 a2 f0 f1 f2
                refine hK.out _ _ (HSX.out _ (set3_belowE FB_q326.out LEgaq297.out _ _ _)) (fun hHeld => ?_)
                clear hK K
                (try simp only [Act.put, setIfInBounds_toArray, set_cons_zero, set_cons_succ, getElem_toArray, getElem_cons_succ, getElem_cons_zero])
                refine t1 (i := 10) (h := fun K hK => ?_)
                have a0 := fun v0 v1 v2 => one_cellE (gb3 GA_q327.out GB_q330.out (by decide) v0 v1 v2)
                have f0 := fun v0 v1 v2 => frozen_of_row _ _ 0 _ _ (gb3 GA_q327.out GB_q330.out (by decide) v0 v1 v2)
                go_simp
                clear a0 f0
                refine hK.out _ _ (HSX.out _ (set1_below (set3_belowE FB_q326.out LEgaq297.out _ _ _) LEgbq320.out _)) (fun hHeld => ?_)
                clear hK K
                (try simp only [Act.put, setIfInBounds_toArray, set_cons_zero, set_cons_succ, getElem_toArray, getElem_cons_succ, getElem_cons_zero])
                refine wpAnyH_done (by kernel_rfl) ?_ _
                refine nrm_thenE ?_
                (try go_wp2_with (fail))
                go_meet
                exact ⟨Aq299, cq299, Pq299, dq299, hsq299, gaq297, gbq320, _, _, rfl, rfl, emp_end GA_q327.out GB_q330.out FS_q328.out.1 FS_q328.out.2 FB_q326.out LEgaq297.out LEgbq320.out⟩
              exact AllReadyH.nil
            refine AllReadyH.cons rfl (fun K hK => ?_) ?_
            · go_simp
              obtain ⟨wq331, hw, gbq331, hg, LEgbq331, b, GB_q331⟩ := alE FB_q304 (.cells #[.int .u64 0] 60)
              rw [← hw, hg]
              have FB_q332 := cB FB_q304 b
              have GA_q333 := cH GA_q305 b
              have FS_q334 := cS FS_q306 b
              clear FB_q304 GA_q305 FS_q306
              clear hw hg b
              refine hK.out _ _ (HSX.out _ FB_q332.out) (fun hHeld => ?_)
              clear hK K
              (try simp only [Act.put, setIfInBounds_toArray, set_cons_zero, set_cons_succ, getElem_toArray, getElem_cons_succ, getElem_cons_zero])
              refine t1 (i := 5) (h := fun K hK => ?_)
              go_simp
              obtain ⟨wq335, hw, grq335, hg, LEgrq335, b, GR_q335⟩ := alE FB_q332 (.cells #[.int .i64 (f : Nat)] 2)
              rw [← hw, hg]
              have FB_q336 := cB FB_q332 b
              have GA_q337 := cH GA_q333 b
              have FS_q338 := cS FS_q334 b
              have GB_q339 := cH GB_q331 b
              clear FB_q332 GA_q333 FS_q334 GB_q331
              clear hw hg b
              refine hK.out _ _ (HSX.out _ FB_q336.out) (fun hHeld => ?_)
              clear hK K
              (try simp only [Act.put, setIfInBounds_toArray, set_cons_zero, set_cons_succ, getElem_toArray, getElem_cons_succ, getElem_cons_zero])
              refine t1 (i := 6) (h := fun K hK => ?_)
              go_simp
              refine (HSE.out wq335 grq335 GR_q335.out).mono ?_
              rintro e wq340 ⟨rfl, belq340⟩
              dsimp only
              have FB_q341 := cB FB_q336 belq340
              have GA_q342 := cH GA_q337 belq340
              have FS_q343 := cS FS_q338 belq340
              have GB_q344 := cH GB_q339 belq340
              have GR_q345 := cH GR_q335 belq340
              clear FB_q336 GA_q337 FS_q338 GB_q339 GR_q335
              clear GR_q345 belq340
              refine hK.out _ _ (HSX.out _ FB_q341.out) (fun hHeld => ?_)
              clear hK K
              (try simp only [Act.put, setIfInBounds_toArray, set_cons_zero, set_cons_succ, getElem_toArray, getElem_cons_succ, getElem_cons_zero])
              refine t1 (i := 9) (h := fun K hK => ?_)
              obtain ⟨a0, a1, a2⟩ := three_at GA_q342.out
              have f0 := frozen_of_row _ _ 0 _ _ GA_q342.out; have f1 := frozen_of_row _ _ 1 _ _ GA_q342.out; have f2 := frozen_of_row _ _ 2 _ _ GA_q342.out
              go_simp
              clear a0 a1 a2 f0 f1 f2
              refine hK.out _ _ (HSX.out _ (set3_belowE FB_q341.out LEgaq297.out _ _ _)) (fun hHeld => ?_)
              clear hK K
              (try simp only [Act.put, setIfInBounds_toArray, set_cons_zero, set_cons_succ, getElem_toArray, getElem_cons_succ, getElem_cons_zero])
              refine t1 (i := 10) (h := fun K hK => ?_)
              have a0 := fun v0 v1 v2 => one_cellE (gb3 GA_q342.out GB_q344.out (by decide) v0 v1 v2)
              have f0 := fun v0 v1 v2 => frozen_of_row _ _ 0 _ _ (gb3 GA_q342.out GB_q344.out (by decide) v0 v1 v2)
              go_simp
              clear a0 f0
              refine hK.out _ _ (HSX.out _ (set1_below (set3_belowE FB_q341.out LEgaq297.out _ _ _) LEgbq331.out _)) (fun hHeld => ?_)
              clear hK K
              (try simp only [Act.put, setIfInBounds_toArray, set_cons_zero, set_cons_succ, getElem_toArray, getElem_cons_succ, getElem_cons_zero])
              refine wpAnyH_done (by kernel_rfl) ?_ _
              refine nrm_thenE ?_
              (try go_wp2_with (fail))
              go_meet
              exact ⟨Aq299, cq299, Pq299, dq299, hsq299, gaq297, gbq331, _, _, rfl, rfl, emp_end GA_q342.out GB_q344.out FS_q343.out.1 FS_q343.out.2 FB_q341.out LEgaq297.out LEgbq331.out⟩
            exact AllReadyH.nil
          refine AllReadyH.cons rfl (fun K hK => ?_) ?_
          · go_simp
            obtain ⟨wq346, hw, gbq346, hg, LEgbq346, b, GB_q346⟩ := alE FB_q300 (.cells #[.int .u64 0] 60)
            rw [← hw, hg]
            have FB_q347 := cB FB_q300 b
            have GA_q348 := cH GA_q301 b
            have FS_q349 := cS FS_q302 b
            clear FB_q300 GA_q301 FS_q302
            clear hw hg b
            refine hK.out _ _ (HSX.out _ FB_q347.out) (fun hHeld => ?_)
            clear hK K
            (try simp only [Act.put, setIfInBounds_toArray, set_cons_zero, set_cons_succ, getElem_toArray, getElem_cons_succ, getElem_cons_zero])
            refine t1 (i := 4) (h := fun K hK => ?_)
            go_simp
            refine (HSO.out wq346 (HBX.out _ FB_q347.out)).mono ?_
            rintro e wq350 ⟨rfl, belq350⟩
            dsimp only
            have FB_q351 := cB FB_q347 belq350
            have GA_q352 := cH GA_q348 belq350
            have FS_q353 := cS FS_q349 belq350
            have GB_q354 := cH GB_q346 belq350
            clear FB_q347 GA_q348 FS_q349 GB_q346
            clear belq350
            refine hK.out _ _ (HSX.out _ FB_q351.out) (fun hHeld => ?_)
            clear hK K
            (try simp only [Act.put, setIfInBounds_toArray, set_cons_zero, set_cons_succ, getElem_toArray, getElem_cons_succ, getElem_cons_zero])
            refine t1 (i := 5) (h := fun K hK => ?_)
            go_simp
            obtain ⟨wq355, hw, grq355, hg, LEgrq355, b, GR_q355⟩ := alE FB_q351 (.cells #[.int .i64 (f : Nat)] 2)
            rw [← hw, hg]
            have FB_q356 := cB FB_q351 b
            have GA_q357 := cH GA_q352 b
            have FS_q358 := cS FS_q353 b
            have GB_q359 := cH GB_q354 b
            clear FB_q351 GA_q352 FS_q353 GB_q354
            clear hw hg b
            refine hK.out _ _ (HSX.out _ FB_q356.out) (fun hHeld => ?_)
            clear hK K
            (try simp only [Act.put, setIfInBounds_toArray, set_cons_zero, set_cons_succ, getElem_toArray, getElem_cons_succ, getElem_cons_zero])
            refine t1 (i := 6) (h := fun K hK => ?_)
            go_simp
            refine (HSE.out wq355 grq355 GR_q355.out).mono ?_
            rintro e wq360 ⟨rfl, belq360⟩
            dsimp only
            have FB_q361 := cB FB_q356 belq360
            have GA_q362 := cH GA_q357 belq360
            have FS_q363 := cS FS_q358 belq360
            have GB_q364 := cH GB_q359 belq360
            have GR_q365 := cH GR_q355 belq360
            clear FB_q356 GA_q357 FS_q358 GB_q359 GR_q355
            clear GR_q365 belq360
            refine hK.out _ _ (HSX.out _ FB_q361.out) (fun hHeld => ?_)
            clear hK K
            (try simp only [Act.put, setIfInBounds_toArray, set_cons_zero, set_cons_succ, getElem_toArray, getElem_cons_succ, getElem_cons_zero])
            refine t1 (i := 9) (h := fun K hK => ?_)
            obtain ⟨a0, a1, a2⟩ := three_at GA_q362.out
            have f0 := frozen_of_row _ _ 0 _ _ GA_q362.out; have f1 := frozen_of_row _ _ 1 _ _ GA_q362.out; have f2 := frozen_of_row _ _ 2 _ _ GA_q362.out
            go_simp
            clear a0 a1 a2 f0 f1 f2
            refine hK.out _ _ (HSX.out _ (set3_belowE FB_q361.out LEgaq297.out _ _ _)) (fun hHeld => ?_)
            clear hK K
            (try simp only [Act.put, setIfInBounds_toArray, set_cons_zero, set_cons_succ, getElem_toArray, getElem_cons_succ, getElem_cons_zero])
            refine t1 (i := 10) (h := fun K hK => ?_)
            have a0 := fun v0 v1 v2 => one_cellE (gb3 GA_q362.out GB_q364.out (by decide) v0 v1 v2)
            have f0 := fun v0 v1 v2 => frozen_of_row _ _ 0 _ _ (gb3 GA_q362.out GB_q364.out (by decide) v0 v1 v2)
            go_simp
            clear a0 f0
            refine hK.out _ _ (HSX.out _ (set1_below (set3_belowE FB_q361.out LEgaq297.out _ _ _) LEgbq346.out _)) (fun hHeld => ?_)
            clear hK K
            (try simp only [Act.put, setIfInBounds_toArray, set_cons_zero, set_cons_succ, getElem_toArray, getElem_cons_succ, getElem_cons_zero])
            refine wpAnyH_done (by kernel_rfl) ?_ _
            refine nrm_thenE ?_
            (try go_wp2_with (fail))
            go_meet
            exact ⟨Aq299, cq299, Pq299, dq299, hsq299, gaq297, gbq346, _, _, rfl, rfl, emp_end GA_q362.out GB_q364.out FS_q363.out.1 FS_q363.out.2 FB_q361.out LEgaq297.out LEgbq346.out⟩
          exact AllReadyH.nil
        refine AllReadyH.cons rfl (fun K hK => ?_) ?_
        · go_simp
          obtain ⟨wq366, hw, gbq366, hg, LEgbq366, b, GB_q366⟩ := alE FB_q298 (.cells #[.int .u64 0] 60)
          rw [← hw, hg]
          have FB_q367 := cB FB_q298 b
          have GA_q368 := cH GA_q297 b
          clear FB_q298 GA_q297
          clear hw hg b
          refine hK.out _ _ (HSX.out _ FB_q367.out) (fun hHeld => ?_)
          clear hK K
          (try simp only [Act.put, setIfInBounds_toArray, set_cons_zero, set_cons_succ, getElem_toArray, getElem_cons_succ, getElem_cons_zero])
          refine t1 (i := 1) (h := fun K hK => ?_)
          go_simp
          refine (HSW.out wq366 (HBX.out _ FB_q367.out)).mono ?_
          rintro e wq369 ⟨Aq369, cq369, Pq369, dq369, hsq369, rfl, owq369, oqq369, belq369⟩
          dsimp only
          have FB_q370 := cB FB_q367 belq369
          have GA_q371 := cH GA_q368 belq369
          have GB_q372 := cH GB_q366 belq369
          clear FB_q367 GA_q368 GB_q366
          have FS_q373 := Lib.hid (And.intro owq369 oqq369)
          clear owq369 oqq369 belq369
          refine hK.out _ _ (HSX.out _ FB_q370.out) (fun hHeld => ?_)
          clear hK K
          (try simp only [Act.put, setIfInBounds_toArray, set_cons_zero, set_cons_succ, getElem_toArray, getElem_cons_succ, getElem_cons_zero])
          refine t1 (i := 4) (h := fun K hK => ?_)
          go_simp
          refine (HSO.out wq369 (HBX.out _ FB_q370.out)).mono ?_
          rintro e wq374 ⟨rfl, belq374⟩
          dsimp only
          have FB_q375 := cB FB_q370 belq374
          have GA_q376 := cH GA_q371 belq374
          have GB_q377 := cH GB_q372 belq374
          have FS_q378 := cS FS_q373 belq374
          clear FB_q370 GA_q371 GB_q372 FS_q373
          clear belq374
          refine hK.out _ _ (HSX.out _ FB_q375.out) (fun hHeld => ?_)
          clear hK K
          (try simp only [Act.put, setIfInBounds_toArray, set_cons_zero, set_cons_succ, getElem_toArray, getElem_cons_succ, getElem_cons_zero])
          refine t1 (i := 5) (h := fun K hK => ?_)
          go_simp
          obtain ⟨wq379, hw, grq379, hg, LEgrq379, b, GR_q379⟩ := alE FB_q375 (.cells #[.int .i64 (f : Nat)] 2)
          rw [← hw, hg]
          have FB_q380 := cB FB_q375 b
          have GA_q381 := cH GA_q376 b
          have GB_q382 := cH GB_q377 b
          have FS_q383 := cS FS_q378 b
          clear FB_q375 GA_q376 GB_q377 FS_q378
          clear hw hg b
          refine hK.out _ _ (HSX.out _ FB_q380.out) (fun hHeld => ?_)
          clear hK K
          (try simp only [Act.put, setIfInBounds_toArray, set_cons_zero, set_cons_succ, getElem_toArray, getElem_cons_succ, getElem_cons_zero])
          refine t1 (i := 6) (h := fun K hK => ?_)
          go_simp
          refine (HSE.out wq379 grq379 GR_q379.out).mono ?_
          rintro e wq384 ⟨rfl, belq384⟩
          dsimp only
          have FB_q385 := cB FB_q380 belq384
          have GA_q386 := cH GA_q381 belq384
          have GB_q387 := cH GB_q382 belq384
          have FS_q388 := cS FS_q383 belq384
          have GR_q389 := cH GR_q379 belq384
          clear FB_q380 GA_q381 GB_q382 FS_q383 GR_q379
          clear GR_q389 belq384
          refine hK.out _ _ (HSX.out _ FB_q385.out) (fun hHeld => ?_)
          clear hK K
          (try simp only [Act.put, setIfInBounds_toArray, set_cons_zero, set_cons_succ, getElem_toArray, getElem_cons_succ, getElem_cons_zero])
          refine t1 (i := 9) (h := fun K hK => ?_)
          obtain ⟨a0, a1, a2⟩ := three_at GA_q386.out
          have f0 := frozen_of_row _ _ 0 _ _ GA_q386.out; have f1 := frozen_of_row _ _ 1 _ _ GA_q386.out; have f2 := frozen_of_row _ _ 2 _ _ GA_q386.out
          go_simp
          clear a0 a1 a2 f0 f1 f2
          refine hK.out _ _ (HSX.out _ (set3_belowE FB_q385.out LEgaq297.out _ _ _)) (fun hHeld => ?_)
          clear hK K
          (try simp only [Act.put, setIfInBounds_toArray, set_cons_zero, set_cons_succ, getElem_toArray, getElem_cons_succ, getElem_cons_zero])
          refine t1 (i := 10) (h := fun K hK => ?_)
          have a0 := fun v0 v1 v2 => one_cellE (gb3 GA_q386.out GB_q387.out (by decide) v0 v1 v2)
          have f0 := fun v0 v1 v2 => frozen_of_row _ _ 0 _ _ (gb3 GA_q386.out GB_q387.out (by decide) v0 v1 v2)
          go_simp
          clear a0 f0
          refine hK.out _ _ (HSX.out _ (set1_below (set3_belowE FB_q385.out LEgaq297.out _ _ _) LEgbq366.out _)) (fun hHeld => ?_)
          clear hK K
          (try simp only [Act.put, setIfInBounds_toArray, set_cons_zero, set_cons_succ, getElem_toArray, getElem_cons_succ, getElem_cons_zero])
          refine wpAnyH_done (by kernel_rfl) ?_ _
          refine nrm_thenE ?_
          (try go_wp2_with (fail))
          go_meet
          exact ⟨Aq369, cq369, Pq369, dq369, hsq369, gaq297, gbq366, _, _, rfl, rfl, emp_end GA_q386.out GB_q387.out FS_q388.out.1 FS_q388.out.2 FB_q385.out LEgaq297.out LEgbq366.out⟩
        exact AllReadyH.nil
      refine AllReadyH.cons rfl (fun K hK => ?_) ?_
      · go_simp
        obtain ⟨wq390, hw, gbq390, hg, LEgbq390, b, GB_q390⟩ := alE FB_q2 (.cells #[.int .u64 0] 60)
        rw [← hw, hg]
        have FB_q391 := cB FB_q2 b
        clear FB_q2
        clear hw hg b
        refine hK.out _ _ (HSX.out _ FB_q391.out) (fun hHeld => ?_)
        clear hK K
        (try simp only [Act.put, setIfInBounds_toArray, set_cons_zero, set_cons_succ, getElem_toArray, getElem_cons_succ, getElem_cons_zero])
        refine wpAnyH_ready (rs := [1, 7]) (by kernel_rfl) (by simp) ?_
        refine AllReadyH.cons rfl (fun K hK => ?_) ?_
        · go_simp
          refine (HSW.out wq390 (HBX.out _ FB_q391.out)).mono ?_
          rintro e wq392 ⟨Aq392, cq392, Pq392, dq392, hsq392, rfl, owq392, oqq392, belq392⟩
          dsimp only
          have FB_q393 := cB FB_q391 belq392
          have GB_q394 := cH GB_q390 belq392
          clear FB_q391 GB_q390
          have FS_q395 := Lib.hid (And.intro owq392 oqq392)
          clear owq392 oqq392 belq392
          refine hK.out _ _ (HSX.out _ FB_q393.out) (fun hHeld => ?_)
          clear hK K
          (try simp only [Act.put, setIfInBounds_toArray, set_cons_zero, set_cons_succ, getElem_toArray, getElem_cons_succ, getElem_cons_zero])
          refine wpAnyH_ready (rs := [4, 7]) (by kernel_rfl) (by simp) ?_
          refine AllReadyH.cons rfl (fun K hK => ?_) ?_
          · go_simp
            refine (HSO.out wq392 (HBX.out _ FB_q393.out)).mono ?_
            rintro e wq396 ⟨rfl, belq396⟩
            dsimp only
            have FB_q397 := cB FB_q393 belq396
            have GB_q398 := cH GB_q394 belq396
            have FS_q399 := cS FS_q395 belq396
            clear FB_q393 GB_q394 FS_q395
            clear belq396
            refine hK.out _ _ (HSX.out _ FB_q397.out) (fun hHeld => ?_)
            clear hK K
            (try simp only [Act.put, setIfInBounds_toArray, set_cons_zero, set_cons_succ, getElem_toArray, getElem_cons_succ, getElem_cons_zero])
            refine wpAnyH_ready (rs := [5, 7]) (by kernel_rfl) (by simp) ?_
            refine AllReadyH.cons rfl (fun K hK => ?_) ?_
            · go_simp
              obtain ⟨wq400, hw, grq400, hg, LEgrq400, b, GR_q400⟩ := alE FB_q397 (.cells #[.int .i64 (f : Nat)] 2)
              rw [← hw, hg]
              have FB_q401 := cB FB_q397 b
              have GB_q402 := cH GB_q398 b
              have FS_q403 := cS FS_q399 b
              clear FB_q397 GB_q398 FS_q399
              clear hw hg b
              refine hK.out _ _ (HSX.out _ FB_q401.out) (fun hHeld => ?_)
              clear hK K
              (try simp only [Act.put, setIfInBounds_toArray, set_cons_zero, set_cons_succ, getElem_toArray, getElem_cons_succ, getElem_cons_zero])
              refine wpAnyH_ready (rs := [6, 7]) (by kernel_rfl) (by simp) ?_
              refine AllReadyH.cons rfl (fun K hK => ?_) ?_
              · go_simp
                refine (HSE.out wq400 grq400 GR_q400.out).mono ?_
                rintro e wq404 ⟨rfl, belq404⟩
                dsimp only
                have FB_q405 := cB FB_q401 belq404
                have GB_q406 := cH GB_q402 belq404
                have FS_q407 := cS FS_q403 belq404
                have GR_q408 := cH GR_q400 belq404
                clear FB_q401 GB_q402 FS_q403 GR_q400
                clear GR_q408 belq404
                refine hK.out _ _ (HSX.out _ FB_q405.out) (fun hHeld => ?_)
                clear hK K
                (try simp only [Act.put, setIfInBounds_toArray, set_cons_zero, set_cons_succ, getElem_toArray, getElem_cons_succ, getElem_cons_zero])
                refine t1 (i := 7) (h := fun K hK => ?_)
                go_simp
                obtain ⟨wq409, hw, gaq409, hg, LEgaq409, b, GA_q409⟩ := alE FB_q405 (.cells #[.int .i64 0, .slice none 0 0, .slice none 0 0] 88)
                rw [← hw, hg]
                have FB_q410 := cB FB_q405 b
                have GB_q411 := cH GB_q406 b
                have FS_q412 := cS FS_q407 b
                clear FB_q405 GB_q406 FS_q407
                clear hw hg b
                refine hK.out _ _ (HSX.out _ FB_q410.out) (fun hHeld => ?_)
                clear hK K
                (try simp only [Act.put, setIfInBounds_toArray, set_cons_zero, set_cons_succ, getElem_toArray, getElem_cons_succ, getElem_cons_zero])
                refine t1 (i := 9) (h := fun K hK => ?_)
                obtain ⟨a0, a1, a2⟩ := three_at GA_q409.out
                have f0 := frozen_of_row _ _ 0 _ _ GA_q409.out; have f1 := frozen_of_row _ _ 1 _ _ GA_q409.out; have f2 := frozen_of_row _ _ 2 _ _ GA_q409.out
                go_simp
                clear a0 a1 a2 f0 f1 f2
                refine hK.out _ _ (HSX.out _ (set3_belowE FB_q410.out LEgaq409.out _ _ _)) (fun hHeld => ?_)
                clear hK K
                (try simp only [Act.put, setIfInBounds_toArray, set_cons_zero, set_cons_succ, getElem_toArray, getElem_cons_succ, getElem_cons_zero])
                refine t1 (i := 10) (h := fun K hK => ?_)
                have a0 := fun v0 v1 v2 => one_cellE (gb3 GA_q409.out GB_q411.out (by decide) v0 v1 v2)
                have f0 := fun v0 v1 v2 => frozen_of_row _ _ 0 _ _ (gb3 GA_q409.out GB_q411.out (by decide) v0 v1 v2)
                go_simp
                clear a0 f0
                refine hK.out _ _ (HSX.out _ (set1_below (set3_belowE FB_q410.out LEgaq409.out _ _ _) LEgbq390.out _)) (fun hHeld => ?_)
                clear hK K
                (try simp only [Act.put, setIfInBounds_toArray, set_cons_zero, set_cons_succ, getElem_toArray, getElem_cons_succ, getElem_cons_zero])
                refine wpAnyH_done (by kernel_rfl) ?_ _
                refine nrm_thenE ?_
                (try go_wp2_with (fail))
                go_meet
                exact ⟨Aq392, cq392, Pq392, dq392, hsq392, gaq409, gbq390, _, _, rfl, rfl, emp_end GA_q409.out GB_q411.out FS_q412.out.1 FS_q412.out.2 FB_q410.out LEgaq409.out LEgbq390.out⟩
              refine AllReadyH.cons rfl (fun K hK => ?_) ?_
              · go_simp
                obtain ⟨wq413, hw, gaq413, hg, LEgaq413, b, GA_q413⟩ := alE FB_q401 (.cells #[.int .i64 0, .slice none 0 0, .slice none 0 0] 88)
                rw [← hw, hg]
                have FB_q414 := cB FB_q401 b
                have GB_q415 := cH GB_q402 b
                have FS_q416 := cS FS_q403 b
                have GR_q417 := cH GR_q400 b
                clear FB_q401 GB_q402 FS_q403 GR_q400
                clear hw hg b
                refine hK.out _ _ (HSX.out _ FB_q414.out) (fun hHeld => ?_)
                clear hK K
                (try simp only [Act.put, setIfInBounds_toArray, set_cons_zero, set_cons_succ, getElem_toArray, getElem_cons_succ, getElem_cons_zero])
                refine t1 (i := 6) (h := fun K hK => ?_)
                go_simp
                refine (HSE.out wq413 grq400 GR_q417.out).mono ?_
                rintro e wq418 ⟨rfl, belq418⟩
                dsimp only
                have FB_q419 := cB FB_q414 belq418
                have GB_q420 := cH GB_q415 belq418
                have FS_q421 := cS FS_q416 belq418
                have GR_q422 := cH GR_q417 belq418
                have GA_q423 := cH GA_q413 belq418
                clear FB_q414 GB_q415 FS_q416 GR_q417 GA_q413
                clear GR_q422 belq418
                refine hK.out _ _ (HSX.out _ FB_q419.out) (fun hHeld => ?_)
                clear hK K
                (try simp only [Act.put, setIfInBounds_toArray, set_cons_zero, set_cons_succ, getElem_toArray, getElem_cons_succ, getElem_cons_zero])
                refine t1 (i := 9) (h := fun K hK => ?_)
                obtain ⟨a0, a1, a2⟩ := three_at GA_q423.out
                have f0 := frozen_of_row _ _ 0 _ _ GA_q423.out; have f1 := frozen_of_row _ _ 1 _ _ GA_q423.out; have f2 := frozen_of_row _ _ 2 _ _ GA_q423.out
                go_simp
                clear a0 a1 a2 f0 f1 f2
                refine hK.out _ _ (HSX.out _ (set3_belowE FB_q419.out LEgaq413.out _ _ _)) (fun hHeld => ?_)
                clear hK K
                (try simp only [Act.put, setIfInBounds_toArray, set_cons_zero, set_cons_succ, getElem_toArray, getElem_cons_succ, getElem_cons_zero])
                refine t1 (i := 10) (h := fun K hK => ?_)
                have a0 := fun v0 v1 v2 => one_cellE (gb3 GA_q423.out GB_q420.out (by decide) v0 v1 v2)
                have f0 := fun v0 v1 v2 => frozen_of_row _ _ 0 _ _ (gb3 GA_q423.out GB_q420.out (by decide) v0 v1 v2)
                go_simp
                clear a0 f0
                refine hK.out _ _ (HSX.out _ (set1_below (set3_belowE FB_q419.out LEgaq413.out _ _ _) LEgbq390.out _)) (fun hHeld => ?_)
                clear hK K
                (try simp only [Act.put, setIfInBounds_toArray, set_cons_zero, set_cons_succ, getElem_toArray, getElem_cons_succ, getElem_cons_zero])
                refine wpAnyH_done (by kernel_rfl) ?_ _
                refine nrm_thenE ?_
                (try go_wp2_with (fail))
                go_meet
                exact ⟨Aq392, cq392, Pq392, dq392, hsq392, gaq413, gbq390, _, _, rfl, rfl, emp_end GA_q423.out GB_q420.out FS_q421.out.1 FS_q421.out.2 FB_q419.out LEgaq413.out LEgbq390.out⟩
              exact AllReadyH.nil
            refine AllReadyH.cons rfl (fun K hK => ?_) ?_
            · go_simp
              obtain ⟨wq424, hw, gaq424, hg, LEgaq424, b, GA_q424⟩ := alE FB_q397 (.cells #[.int .i64 0, .slice none 0 0, .slice none 0 0] 88)
              rw [← hw, hg]
              have FB_q425 := cB FB_q397 b
              have GB_q426 := cH GB_q398 b
              have FS_q427 := cS FS_q399 b
              clear FB_q397 GB_q398 FS_q399
              clear hw hg b
              refine hK.out _ _ (HSX.out _ FB_q425.out) (fun hHeld => ?_)
              clear hK K
              (try simp only [Act.put, setIfInBounds_toArray, set_cons_zero, set_cons_succ, getElem_toArray, getElem_cons_succ, getElem_cons_zero])
              refine t1 (i := 5) (h := fun K hK => ?_)
              go_simp
              obtain ⟨wq428, hw, grq428, hg, LEgrq428, b, GR_q428⟩ := alE FB_q425 (.cells #[.int .i64 (f : Nat)] 2)
              rw [← hw, hg]
              have FB_q429 := cB FB_q425 b
              have GB_q430 := cH GB_q426 b
              have FS_q431 := cS FS_q427 b
              have GA_q432 := cH GA_q424 b
              clear FB_q425 GB_q426 FS_q427 GA_q424
              clear hw hg b
              refine hK.out _ _ (HSX.out _ FB_q429.out) (fun hHeld => ?_)
              clear hK K
              (try simp only [Act.put, setIfInBounds_toArray, set_cons_zero, set_cons_succ, getElem_toArray, getElem_cons_succ, getElem_cons_zero])
              refine t1 (i := 6) (h := fun K hK => ?_)
              go_simp
              refine (HSE.out wq428 grq428 GR_q428.out).mono ?_
              rintro e wq433 ⟨rfl, belq433⟩
              dsimp only
              have FB_q434 := cB FB_q429 belq433
              have GB_q435 := cH GB_q430 belq433
              have FS_q436 := cS FS_q431 belq433
              have GA_q437 := cH GA_q432 belq433
              have GR_q438 := cH GR_q428 belq433
              clear FB_q429 GB_q430 FS_q431 GA_q432 GR_q428
              clear GR_q438 belq433
              refine hK.out _ _ (HSX.out _ FB_q434.out) (fun hHeld => ?_)
              clear hK K
              (try simp only [Act.put, setIfInBounds_toArray, set_cons_zero, set_cons_succ, getElem_toArray, getElem_cons_succ, getElem_cons_zero])
              refine t1 (i := 9) (h := fun K hK => ?_)
              obtain ⟨a0, a1, a2⟩ := three_at GA_q437.out
              have f0 := frozen_of_row _ _ 0 _ _ GA_q437.out; have f1 := frozen_of_row _ _ 1 _ _ GA_q437.out; have f2 := frozen_of_row _ _ 2 _ _ GA_q437.out
              go_simp
              clear a0 a1 a2 f0 f1 f2
              refine hK.out _ _ (HSX.out _ (set3_belowE FB_q434.out LEgaq424.out _ _ _)) (fun hHeld => ?_)
              clear hK K
              (try simp only [Act.put, setIfInBounds_toArray, set_cons_zero, set_cons_succ, getElem_toArray, getElem_cons_succ, getElem_cons_zero])
              refine t1 (i := 10) (h := fun K hK => ?_)
              have a0 := fun v0 v1 v2 => one_cellE (gb3 GA_q437.out GB_q435.out (by decide) v0 v1 v2)
              have f0 := fun v0 v1 v2 => frozen_of_row _ _ 0 _ _ (gb3 GA_q437.out GB_q435.out (by decide) v0 v1 v2)
              go_simp
              clear a0 f0
              refine hK.out _ _ (HSX.out _ (set1_below (set3_belowE FB_q434.out LEgaq424.out _ _ _) LEgbq390.out _)) (fun hHeld => ?_)
              clear hK K
              (try simp only [Act.put, setIfInBounds_toArray, set_cons_zero, set_cons_succ, getElem_toArray, getElem_cons_succ, getElem_cons_zero])
              refine wpAnyH_done (by kernel_rfl) ?_ _
              refine nrm_thenE ?_
              (try go_wp2_with (fail))
              go_meet
              exact ⟨Aq392, cq392, Pq392, dq392, hsq392, gaq424, gbq390, _, _, rfl, rfl, emp_end GA_q437.out GB_q435.out FS_q436.out.1 FS_q436.out.2 FB_q434.out LEgaq424.out LEgbq390.out⟩
            exact AllReadyH.nil
          refine AllReadyH.cons rfl (fun K hK => ?_) ?_
          · go_simp
            obtain ⟨wq439, hw, gaq439, hg, LEgaq439, b, GA_q439⟩ := alE FB_q393 (.cells #[.int .i64 0, .slice none 0 0, .slice none 0 0] 88)
            rw [← hw, hg]
            have FB_q440 := cB FB_q393 b
            have GB_q441 := cH GB_q394 b
            have FS_q442 := cS FS_q395 b
            clear FB_q393 GB_q394 FS_q395
            clear hw hg b
            refine hK.out _ _ (HSX.out _ FB_q440.out) (fun hHeld => ?_)
            clear hK K
            (try simp only [Act.put, setIfInBounds_toArray, set_cons_zero, set_cons_succ, getElem_toArray, getElem_cons_succ, getElem_cons_zero])
            refine t1 (i := 4) (h := fun K hK => ?_)
            go_simp
            refine (HSO.out wq439 (HBX.out _ FB_q440.out)).mono ?_
            rintro e wq443 ⟨rfl, belq443⟩
            dsimp only
            have FB_q444 := cB FB_q440 belq443
            have GB_q445 := cH GB_q441 belq443
            have FS_q446 := cS FS_q442 belq443
            have GA_q447 := cH GA_q439 belq443
            clear FB_q440 GB_q441 FS_q442 GA_q439
            clear belq443
            refine hK.out _ _ (HSX.out _ FB_q444.out) (fun hHeld => ?_)
            clear hK K
            (try simp only [Act.put, setIfInBounds_toArray, set_cons_zero, set_cons_succ, getElem_toArray, getElem_cons_succ, getElem_cons_zero])
            refine t1 (i := 5) (h := fun K hK => ?_)
            go_simp
            obtain ⟨wq448, hw, grq448, hg, LEgrq448, b, GR_q448⟩ := alE FB_q444 (.cells #[.int .i64 (f : Nat)] 2)
            rw [← hw, hg]
            have FB_q449 := cB FB_q444 b
            have GB_q450 := cH GB_q445 b
            have FS_q451 := cS FS_q446 b
            have GA_q452 := cH GA_q447 b
            clear FB_q444 GB_q445 FS_q446 GA_q447
            clear hw hg b
            refine hK.out _ _ (HSX.out _ FB_q449.out) (fun hHeld => ?_)
            clear hK K
            (try simp only [Act.put, setIfInBounds_toArray, set_cons_zero, set_cons_succ, getElem_toArray, getElem_cons_succ, getElem_cons_zero])
            refine t1 (i := 6) (h := fun K hK => ?_)
            go_simp
            refine (HSE.out wq448 grq448 GR_q448.out).mono ?_
            rintro e wq453 ⟨rfl, belq453⟩
            dsimp only
            have FB_q454 := cB FB_q449 belq453
            have GB_q455 := cH GB_q450 belq453
            have FS_q456 := cS FS_q451 belq453
            have GA_q457 := cH GA_q452 belq453
            have GR_q458 := cH GR_q448 belq453
            clear FB_q449 GB_q450 FS_q451 GA_q452 GR_q448
            clear GR_q458 belq453
            refine hK.out _ _ (HSX.out _ FB_q454.out) (fun hHeld => ?_)
            clear hK K
            (try simp only [Act.put, setIfInBounds_toArray, set_cons_zero, set_cons_succ, getElem_toArray, getElem_cons_succ, getElem_cons_zero])
            refine t1 (i := 9) (h := fun K hK => ?_)
            obtain ⟨a0, a1, a2⟩ := three_at GA_q457.out
            have f0 := frozen_of_row _ _ 0 _ _ GA_q457.out; have f1 := frozen_of_row _ _ 1 _ _ GA_q457.out; have f2 := frozen_of_row _ _ 2 _ _ GA_q457.out
            go_simp
            clear a0 a1 a2 f0 f1 f2
            refine hK.out _ _ (HSX.out _ (set3_belowE FB_q454.out LEgaq439.out _ _ _)) (fun hHeld => ?_)
            clear hK K
            (try simp only [Act.put, setIfInBounds_toArray, set_cons_zero, set_cons_succ, getElem_toArray, getElem_cons_succ, getElem_cons_zero])
            refine t1 (i := 10) (h := fun K hK => ?_)
            have a0 := fun v0 v1 v2 => one_cellE (gb3 GA_q457.out GB_q455.out (by decide) v0 v1 v2)
            have f0 := fun v0 v1 v2 => frozen_of_row _ _ 0 _ _ (gb3 GA_q457.out GB_q455.out (by decide) v0 v1 v2)
            go_simp
            clear a0 f0
            refine hK.out _ _ (HSX.out _ (set1_below (set3_belowE FB_q454.out LEgaq439.out _ _ _) LEgbq390.out _)) (fun hHeld => ?_)
            clear hK K
            (try simp only [Act.put, setIfInBounds_toArray, set_cons_zero, set_cons_succ, getElem_toArray, getElem_cons_succ, getElem_cons_zero])
            refine wpAnyH_done (by kernel_rfl) ?_ _
            refine nrm_thenE ?_
            (try go_wp2_with (fail))
            go_meet
            exact ⟨Aq392, cq392, Pq392, dq392, hsq392, gaq439, gbq390, _, _, rfl, rfl, emp_end GA_q457.out GB_q455.out FS_q456.out.1 FS_q456.out.2 FB_q454.out LEgaq439.out LEgbq390.out⟩
          exact AllReadyH.nil
        refine AllReadyH.cons rfl (fun K hK => ?_) ?_
        · go_simp
          obtain ⟨wq459, hw, gaq459, hg, LEgaq459, b, GA_q459⟩ := alE FB_q391 (.cells #[.int .i64 0, .slice none 0 0, .slice none 0 0] 88)
          rw [← hw, hg]
          have FB_q460 := cB FB_q391 b
          have GB_q461 := cH GB_q390 b
          clear FB_q391 GB_q390
          clear hw hg b
          refine hK.out _ _ (HSX.out _ FB_q460.out) (fun hHeld => ?_)
          clear hK K
          (try simp only [Act.put, setIfInBounds_toArray, set_cons_zero, set_cons_succ, getElem_toArray, getElem_cons_succ, getElem_cons_zero])
          refine t1 (i := 1) (h := fun K hK => ?_)
          go_simp
          refine (HSW.out wq459 (HBX.out _ FB_q460.out)).mono ?_
          rintro e wq462 ⟨Aq462, cq462, Pq462, dq462, hsq462, rfl, owq462, oqq462, belq462⟩
          dsimp only
          have FB_q463 := cB FB_q460 belq462
          have GB_q464 := cH GB_q461 belq462
          have GA_q465 := cH GA_q459 belq462
          clear FB_q460 GB_q461 GA_q459
          have FS_q466 := Lib.hid (And.intro owq462 oqq462)
          clear owq462 oqq462 belq462
          refine hK.out _ _ (HSX.out _ FB_q463.out) (fun hHeld => ?_)
          clear hK K
          (try simp only [Act.put, setIfInBounds_toArray, set_cons_zero, set_cons_succ, getElem_toArray, getElem_cons_succ, getElem_cons_zero])
          refine t1 (i := 4) (h := fun K hK => ?_)
          go_simp
          refine (HSO.out wq462 (HBX.out _ FB_q463.out)).mono ?_
          rintro e wq467 ⟨rfl, belq467⟩
          dsimp only
          have FB_q468 := cB FB_q463 belq467
          have GB_q469 := cH GB_q464 belq467
          have GA_q470 := cH GA_q465 belq467
          have FS_q471 := cS FS_q466 belq467
          clear FB_q463 GB_q464 GA_q465 FS_q466
          clear belq467
          refine hK.out _ _ (HSX.out _ FB_q468.out) (fun hHeld => ?_)
          clear hK K
          (try simp only [Act.put, setIfInBounds_toArray, set_cons_zero, set_cons_succ, getElem_toArray, getElem_cons_succ, getElem_cons_zero])
          refine t1 (i := 5) (h := fun K hK => ?_)
          go_simp
          obtain ⟨wq472, hw, grq472, hg, LEgrq472, b, GR_q472⟩ := alE FB_q468 (.cells #[.int .i64 (f : Nat)] 2)
          rw [← hw, hg]
          have FB_q473 := cB FB_q468 b
          have GB_q474 := cH GB_q469 b
          have GA_q475 := cH GA_q470 b
          have FS_q476 := cS FS_q471 b
          clear FB_q468 GB_q469 GA_q470 FS_q471
          clear hw hg b
          refine hK.out _ _ (HSX.out _ FB_q473.out) (fun hHeld => ?_)
          clear hK K
          (try simp only [Act.put, setIfInBounds_toArray, set_cons_zero, set_cons_succ, getElem_toArray, getElem_cons_succ, getElem_cons_zero])
          refine t1 (i := 6) (h := fun K hK => ?_)
          go_simp
          refine (HSE.out wq472 grq472 GR_q472.out).mono ?_
          rintro e wq477 ⟨rfl, belq477⟩
          dsimp only
          have FB_q478 := cB FB_q473 belq477
          have GB_q479 := cH GB_q474 belq477
          have GA_q480 := cH GA_q475 belq477
          have FS_q481 := cS FS_q476 belq477
          have GR_q482 := cH GR_q472 belq477
          clear FB_q473 GB_q474 GA_q475 FS_q476 GR_q472
          clear GR_q482 belq477
          refine hK.out _ _ (HSX.out _ FB_q478.out) (fun hHeld => ?_)
          clear hK K
          (try simp only [Act.put, setIfInBounds_toArray, set_cons_zero, set_cons_succ, getElem_toArray, getElem_cons_succ, getElem_cons_zero])
          refine t1 (i := 9) (h := fun K hK => ?_)
          obtain ⟨a0, a1, a2⟩ := three_at GA_q480.out
          have f0 := frozen_of_row _ _ 0 _ _ GA_q480.out; have f1 := frozen_of_row _ _ 1 _ _ GA_q480.out; have f2 := frozen_of_row _ _ 2 _ _ GA_q480.out
          go_simp
          clear a0 a1 a2 f0 f1 f2
          refine hK.out _ _ (HSX.out _ (set3_belowE FB_q478.out LEgaq459.out _ _ _)) (fun hHeld => ?_)
          clear hK K
          (try simp only [Act.put, setIfInBounds_toArray, set_cons_zero, set_cons_succ, getElem_toArray, getElem_cons_succ, getElem_cons_zero])
          refine t1 (i := 10) (h := fun K hK => ?_)
          have a0 := fun v0 v1 v2 => one_cellE (gb3 GA_q480.out GB_q479.out (by decide) v0 v1 v2)
          have f0 := fun v0 v1 v2 => frozen_of_row _ _ 0 _ _ (gb3 GA_q480.out GB_q479.out (by decide) v0 v1 v2)
          go_simp
          clear a0 f0
          refine hK.out _ _ (HSX.out _ (set1_below (set3_belowE FB_q478.out LEgaq459.out _ _ _) LEgbq390.out _)) (fun hHeld => ?_)
          clear hK K
          (try simp only [Act.put, setIfInBounds_toArray, set_cons_zero, set_cons_succ, getElem_toArray, getElem_cons_succ, getElem_cons_zero])
          refine wpAnyH_done (by kernel_rfl) ?_ _
          refine nrm_thenE ?_
          (try go_wp2_with (fail))
          go_meet
          exact ⟨Aq462, cq462, Pq462, dq462, hsq462, gaq459, gbq390, _, _, rfl, rfl, emp_end GA_q480.out GB_q479.out FS_q481.out.1 FS_q481.out.2 FB_q478.out LEgaq459.out LEgbq390.out⟩
        exact AllReadyH.nil
      exact AllReadyH.nil
    case rest =>
      rename World => w7
      obtain ⟨A, c, P, d, hs, b6, b7, lo, hi, rfl, rfl, hA, hB7, ho, hq, hbel⟩ := hcut
      have B7 := Lib.hid (HBX.out _ hbel)
      obtain ⟨w8, hw8⟩ : ∃ u, u = w7.alloc (.cells #[.func (.func 80) #[] #[.pointer (some ⟨w.heap.size + 1, 0, none⟩)]] 90) := ⟨_, rfl⟩
      have hb8 := al hw8
      have hg8 := an hw8
      have HW8 := Lib.hid hw8
      have B8 := Lib.hid (B7.out.trans (hb8.mono B7.out.size))
      have HAL := Lib.hid (fun (wx : World) => allLinks_any h N _ wx (Nat.le_trans sm.l (by decide)) rfl)
      obtain ⟨y3, y0, y1, y2⟩ := HKF.out _ B8.out
      clear hw8
      go_upto_region 5 with (fail)
      rw [← HW8.out]
      go_wp2_with (fail)
      refine (HAL.out w8).mono ?_
      rintro e w9 ⟨rfl, bel9⟩
      have h79 : Below w7.heap.size w7 w9 := hb8.trans (bel9.mono hb8.size)
      obtain ⟨w10, hw10⟩ : ∃ u, u = w9.alloc (.cells #[.int .u64 ((orS (markL 0 N.l.length) : Nat) : Int)] 60) := ⟨_, rfl⟩
      have hb10 := al hw10
      have hE10 := an hw10
      have HW10 := Lib.hid hw10
      have h710 : Below w7.heap.size w7 w10 := h79.trans (hb10.mono h79.size)
      have hA10 := k_heapE hA h710
      have hB10 := k_heapE hB7 h710
      have hF10 := k_heapE hg8 (show Below w8.heap.size w8 w10 from bel9.trans (hb10.mono bel9.size))
      have B10 := Lib.hid (B7.out.trans (h710.mono B7.out.size))
      obtain ⟨a0, a1, a2⟩ := three_at hA10
      clear hw10 y0 y1 y2 y3
      go_upto_region 6 with (fail)
      rw [← HW10.out]
      go_wp2_with (fail)
      refine (switchingsOf_e (prkN N).length w10).mono ?_
      rintro e w11 ⟨rfl, hw11⟩
      have hb11 := al hw11
      have hg11 := an hw11
      clear hw11 a0 a1 a2
      have h711 : Below w7.heap.size w7 w11 := h710.trans (hb11.mono h710.size)
      have hA11 := k_heapE hA h711
      have hB11 := k_heapE hB7 h711
      have hF11 := k_heapE hF10 hb11
      have hE11 := k_heapE hE10 hb11
      have hX11 := HG1.out w11 (B7.out.trans (h711.mono B7.out.size))
      have ho11 := own_below ho h711 (Nat.le_refl _)
      have hq11 := hq.below h711
      have hl11 : w10.heap.size < w11.heap.size := (Array.getElem?_eq_some_iff.1 hg11).1
      have hl10 : w9.heap.size < w10.heap.size := (Array.getElem?_eq_some_iff.1 hE10).1
      have hbx : w.heap.size + 1 < w11.heap.size := (Array.getElem?_eq_some_iff.1 hX11).1
      have hb79 : b7 ≠ w9.heap.size := by have := (Array.getElem?_eq_some_iff.1 hB7).1; have := h79.size; omega
      have hf79 : w7.heap.size ≠ w9.heap.size := block_ne hF11 hE11 (by decide)
      have hpl : (prkN N).length ≤ 10 := Nat.le_trans (prkN_len N) h10
      have hwl : N.w.length ≤ 48 := (valN_size hv).1
      have hll : N.l.length ≤ 48 := (valN_size hv).2
      have HAT := Lib.hid (fun (W : World) (hg : w11.grownBy W (some w9.heap.size)) => show W.heap[b6]? = some (.cells #[.int .i64 (N.l.length : Nat), .slice A (arcsU N N.w.length).length c, .slice P (prkN N).length d] 88 (0, 0)) ∧ W.heap[w7.heap.size]? = some (.cells #[.func (.func 80) #[] #[.pointer (some ⟨w.heap.size + 1, 0, none⟩)]] 90 (0, 0)) ∧ W.heap[b7]? = some (.cells #[.int .u64 ((orS [(f : Int)] : Nat) : Int)] 60 (0, 0)) ∧ W.heap[w.heap.size + 1]? = some (.cells #[.int .i64 x] 2 (0, 0)) ∧ W.ownsRow lo 85 3 (.slice A (arcsU N N.w.length).length c) (arcsU N N.w.length).length ((flA (arcsU N N.w.length)).map (Value.int .i64)) ∧ OwnQ W lo hi (.slice P (prkN N).length d) hs (pairsU N (prkN N).length) from
        ⟨(hg.block _ (Array.getElem?_eq_some_iff.1 hA11).1 (fun e => block_ne hA11 hE11 (by decide) (Option.some.inj e))).trans hA11, (hg.block _ (Array.getElem?_eq_some_iff.1 hF11).1 (fun e => hf79 (Option.some.inj e))).trans hF11, (hg.block _ (Array.getElem?_eq_some_iff.1 hB11).1 (fun e => hb79 (Option.some.inj e))).trans hB11,
          (hg.block _ hbx (fun e => block_ne hX11 hE11 (by decide) (Option.some.inj e))).trans hX11, own_same ho11 (fun z hz => hg.block z (ho11.lt z hz).2 (fun e => own_apartG ho11 hz hE11 (by decide) (Option.some.inj e))),
          ⟨own_same hq11.outer (fun z hz => hg.block z (hq11.outer.lt z hz).2 (fun e => own_apartG hq11.outer hz hE11 (by decide) (Option.some.inj e))), fun i hi => own_same (hq11.inner i hi) (fun z hz => hg.block z ((hq11.inner i hi).lt z hz).2 (fun e => own_apartG (hq11.inner i hi) hz hE11 (by decide) (Option.some.inj e))), hq11.apart, hq11.apart0, hq11.top0, hq11.top⟩⟩)
      have HIT := Lib.hid (swItE_any (fun i => i = w9.heap.size) (prkN N).length hpl w10.heap.size w11 hl11 (one_cellE hg11) (by omega))
      have HSAME := Lib.hid (fun y : Nat => graph_same (isSw_bitsE hv (y : Int)))
      have HBX2 := Lib.hid hbx
      have B11 := Lib.hid (B7.out.trans (h711.mono B7.out.size))
      have HE11 : Hid (w11.heap[w9.heap.size]? = some (.cells #[.int .u64 ((seS N x 0 : Nat) : Int)] 60 (0, 0))) := Lib.hid hE11
      have HLB := Lib.hid (show w9.heap.size < w11.heap.size by omega)
      have HBE := Lib.hid (show w0.heap.size ≤ w9.heap.size from Nat.le_trans B7.out.size h79.size)
      clear h711 hA11 hB11 hF11 hE11 hX11 ho11 hq11 hl11 hl10 hbx hb79 hf79 hA hB7 ho hq hbel hb8 hg8 hb10 hE10 h79 h710 hA10 hB10 hF10 hb11 hg11 bel9
      go_wp2_with (fail)
      refine (wpIn_wide (n := 3)).1 ?_
      refine wpIn_rangeE rfl (by decide) (gf := 128) (lb := #[.pointer (some ⟨w10.heap.size, 0, none⟩)]) rfl trivial (enters_of Tryz.func128 (by kernel_rfl) rfl) HIT.out (Below.refl _ _)
        (fun k vs A B hh st => by obtain ⟨X, c, rfl, rr⟩ := hh; exact ⟨X, c, rfl, st.rdiE rr⟩) (fun k vs W hh => by obtain ⟨X, c, rfl, rr⟩ := hh; rfl)
        (fun k W => W.heap[w9.heap.size]? = some (.cells #[.int .u64 ((seS N x k : Nat) : Int)] 60 (0, 0)) ∧ w11.grownBy W (some w9.heap.size))
        (fun k W => False)
        (fun k A B hi st => ⟨st.blk _ _ hi.1 (.inl rfl), grown_stp hi.2 st⟩)
        (fun k A B hi st => hi)
        ⟨HE11.out, grown_reflx _ _⟩
        (fun vs => { tmps := #[.agg #[.slice h.A N.w.length h.c, .slice h.L N.l.length h.d, .slice h.C N.c.length h.e], .int .i64 x, .pointer (some ⟨w.heap.size, 0, none⟩), .pointer (some ⟨w.heap.size + 1, 0, none⟩), .slice none 0 0, .bool false, .pointer (some ⟨b6, 0, none⟩), .pointer (some ⟨b7, 0, none⟩), .pointer (some ⟨w7.heap.size, 0, none⟩), .pointer (some ⟨w9.heap.size, 0, none⟩), undef, handBE vs, .agg #[.slice h.A N.w.length h.c, .slice h.L N.l.length h.d, .slice h.C N.c.length h.e], .int .i64 x, .bool true, .bool false, u16, u17, u18, u19, u20, u21, u22, .func (.func 80) #[] #[.pointer (some ⟨w.heap.size + 1, 0, none⟩)], .agg #[.slice h.A N.w.length h.c, .slice h.L N.l.length h.d, .slice h.C N.c.length h.e], .int .u64 ((orS (markL 0 N.l.length) : Nat) : Int), .pointer (some ⟨b6, 2, none⟩), .slice P (prkN N).length d, .int .i64 (prkN N).length, .func (.func 128) #[] #[.pointer (some ⟨w10.heap.size, 0, none⟩)], handAE vs, handBE vs, undef, undef, undef, undef, undef, undef, undef, undef, undef, undef, undef], defers := [] }) ?assign ?body ?done ?stop
      case assign =>
        rintro l k vs W W0 K ⟨X, c, rfl, rr⟩ hK
        simp only [handAE_pair, handBE_pair] at hK
        gi_wp2
        exact hK
      case body =>
        rintro l k vs W hk hsz ⟨hE, hg⟩ ⟨X, cX, rfl, rr⟩
        obtain ⟨tA, tF, tB, tX, tO, tQ⟩ := HAT.out W hg
        have hW0 := B11.out.size
        have LBX := Lib.hid (Nat.lt_of_lt_of_le HBX2.out hsz)
        obtain ⟨p0, p1, p2⟩ := three_at tA
        have HSX : Hid (∀ wx, Below W.heap.size W wx → wx.cell? ⟨w9.heap.size, 0, none⟩ = some (.int .u64 ((seS N x k : Nat) : Int)) ∧ wx.cell? ⟨b6, 0, none⟩ = some (.int .i64 (N.l.length : Nat)) ∧ wx.cell? ⟨b6, 1, none⟩ = some (.slice A (arcsU N N.w.length).length c) ∧ wx.cell? ⟨b6, 2, none⟩ = some (.slice P (prkN N).length d) ∧ wx.cell? ⟨w7.heap.size, 0, none⟩ = some (.func (.func 80) #[] #[.pointer (some ⟨w.heap.size + 1, 0, none⟩)]) ∧ wx.cell? ⟨b7, 0, none⟩ = some (.int .u64 ((orS [(f : Int)] : Nat) : Int))) := Lib.hid fun wx hx => ⟨one_cellE (k_heapE hE hx), (three_at (k_heapE tA hx)).1, (three_at (k_heapE tA hx)).2.1, (three_at (k_heapE tA hx)).2.2, one_cellE (k_heapE tF hx), one_cellE (k_heapE tB hx)⟩
        have HEB := Lib.hid (fun (wx : World) (hx : Below W.heap.size W wx) => k_heapE hE hx)
        have HG := Lib.hid (fun (wx : World) (hx : Below W.heap.size W wx) => graph_any N (swU (k : Int) (prkN N).length) A P X c d cX wx (isSw_bitsE hv k) (RdA.of_own (own_below tO hx (Nat.le_refl _))) ((tQ.below hx).rd (pairsU_len N (prkN N).length)) (by rw [swU_len]; exact (rr.below hx).more hx.size))
        rw [swU_len, HSAME.out] at HG
        have HMG := Lib.hid (mgU_len N (swU (k : Int) (prkN N).length) N.w.length)
        have HKP : Hid (arW (mgU N (swU (k : Int) (prkN N).length) N.w.length) x = swA N x k) := Lib.hid rfl
        obtain ⟨AR, hAR⟩ : ∃ L, mgU N (swU (k : Int) (prkN N).length) N.w.length = L := ⟨_, rfl⟩
        rw [hAR] at HG HMG HKP
        have HD := Lib.hid (fun (wx : World) (hx : Below W.heap.size W wx) (lo' : Nat) (hlo : W.heap.size ≤ lo') (A' : Option Addr) (c' : Nat) (own : wx.ownsRow lo' 85 3 (.slice A' AR.length c') AR.length ((flA AR).map (Value.int .i64))) =>
          show Calls Tryz.prog 83 #[.slice A' AR.length c', .func (.func 80) #[] #[.pointer (some ⟨w.heap.size + 1, 0, none⟩)]] wx fun e w' => ∃ A2 c2, e = .returned (.slice A2 (swA N x k).length c2) ∧ w'.ownsRow lo' 85 3 (.slice A2 (swA N x k).length c2) (swA N x k).length ((flA (swA N x k)).map (Value.int .i64)) ∧ Below W.heap.size W w' from
          (delWire_any (w.heap.size + 1) x A' c' AR wx lo' own (Nat.le_trans HMG.out (Nat.le_trans hwl (by decide))) (fun wy g => by
            have hlt := Nat.lt_of_lt_of_le LBX.out hx.size
            exact ⟨Nat.lt_of_lt_of_le hlt g.size, one_cellE ((g.block _ hlt (fun e => by have := (own.lt _ e.symm).1; have := LBX.out; omega)).trans (k_heapE tX hx))⟩)).mono fun e w' q => by
              obtain ⟨A2, c2, q1, q2, q3⟩ := q
              rw [kp_arW, HKP.out] at q1 q2
              exact ⟨A2, c2, q1, q2, hx.grown q3 hx.size (fun z hz => Nat.le_trans hlo (own.lt z hz).1)⟩)
        have HC := Lib.hid (fun (wx : World) (A' : Option Addr) (c' : Nat) (r : RdA wx wx.heap.size A' (swA N x k).length (swA N x k)) => connectedBy_any A' c' (swA N x k) (orS [(f : Int)]) wx (orS_lt _) (by have := arW_len AR x; rw [HKP.out] at this; have := HMG.out; omega) (fun a ha => by have h1 := inW_yes (hai k a ha).1; have h2 := inW_yes (hai k a ha).2; omega) r)
        have hs64 := HSL.out k
        have hc64 : conS (swA N x k) (orS [(f : Int)]) < 18446744073709551616 := conU_lt (orS_lt _) _
        have HI := Lib.hid (fun (wx : World) => (inter_any (seS N x k) (conS (swA N x k) (orS [(f : Int)])) wx hs64 hc64).mono (fun e w' q => show e = .returned (.int .u64 ((seS N x k &&& conS (swA N x k) (orS [(f : Int)]) : Nat) : Int)) ∧ Below wx.heap.size wx w' from ⟨q.1, by rw [← q.2]; exact Below.refl _ _⟩))
        have HEND := Lib.hid (fun (wl : World) (hx : Below W.heap.size W wl) => show KeepsOthers W (wl.setCell ⟨w9.heap.size, 0, none⟩ (.int .u64 ((seS N x k &&& conS (swA N x k) (orS [(f : Int)]) : Nat) : Int))) ∧ (∀ i, i < w11.heap.size → ¬ (fun i => i = w9.heap.size) i → (wl.setCell ⟨w9.heap.size, 0, none⟩ (.int .u64 ((seS N x k &&& conS (swA N x k) (orS [(f : Int)]) : Nat) : Int))).heap[i]? = W.heap[i]?) ∧ ((wl.setCell ⟨w9.heap.size, 0, none⟩ (.int .u64 ((seS N x k &&& conS (swA N x k) (orS [(f : Int)]) : Nat) : Int))).heap[w9.heap.size]? = some (.cells #[.int .u64 ((seS N x (k + 1) : Nat) : Int)] 60 (0, 0)) ∧ w11.grownBy (wl.setCell ⟨w9.heap.size, 0, none⟩ (.int .u64 ((seS N x k &&& conS (swA N x k) (orS [(f : Int)]) : Nat) : Int))) (some w9.heap.size)) from
          ⟨(others_belowE hx).trans (KeepsOthers.setCell _ _ _), fun i hi hne => (set1_other _ _ _ i hne).trans (hx.block i (Nat.lt_of_lt_of_le hi hsz)), by rw [HSU.out]; exact set1_heap (k_heapE hE hx) _, grown_transx hg (grown_transx (grown_of_below hx _) grown_set)⟩)
        obtain ⟨s, hs⟩ : ∃ s, seS N x k = s := ⟨_, rfl⟩
        rw [hs] at HSX HEB HI HEND
        clear hs hE hg tA tF tB tX tO tQ p0 p1 p2 hs64 hc64 rr hAR
        simp only [handAE_pair, handBE_pair]
        gi_wp2_with (fail)
        have FB_0 := Lib.hid (Below.refl W.heap.size W)
        refine wpIn_region_C_drew (c := 9) (S := fun wx => wx.cell? ⟨w9.heap.size, 0, none⟩ = some (.int .u64 ((s : Nat) : Int)) ∧ wx.cell? ⟨b6, 0, none⟩ = some (.int .i64 (N.l.length : Nat)) ∧ wx.cell? ⟨b6, 1, none⟩ = some (.slice A (arcsU N N.w.length).length c) ∧ wx.cell? ⟨b6, 2, none⟩ = some (.slice P (prkN N).length d) ∧ wx.cell? ⟨w7.heap.size, 0, none⟩ = some (.func (.func 80) #[] #[.pointer (some ⟨w.heap.size + 1, 0, none⟩)]) ∧ wx.cell? ⟨b7, 0, none⟩ = some (.int .u64 ((orS [(f : Int)] : Nat) : Int))) (fun z => by obtain ⟨_, _, q⟩ := z; exact q) (by kernel_rfl) (by kernel_rfl) (HSX.out _ (Below.refl _ _).drew) (fun hHeld => ?_)
        obtain ⟨wr1, hwr1⟩ : ∃ w', w' = W.drew := ⟨_, rfl⟩
        rw [← hwr1] at hHeld ⊢
        have br1 : Below W.heap.size W wr1 := by rw [hwr1]; exact (Below.refl _ _).drew
        clear hwr1
        have FB_r2 := Lib.hid ((FB_0.out).trans ((br1).mono (FB_0.out).size))
        clear FB_0
        refine wpAnyC_take [0, 8, 9] (i := 0) (v := ?vr3) rfl (by kernel_rfl) (by kernel_rfl) (by kernel_rfl) (by kernel_rfl) (fun _ _ _ h => h) (Or.inl ⟨by rfl, ?yr3⟩) (by assumption) ?_
        case yr3 => (intro w hSw; (try dsimp only at hSw); go_simp; all_goals (with_reducible rfl))
        (try simp only [Act.put, setIfInBounds_toArray, set_cons_zero, set_cons_succ, getElem_toArray, getElem_cons_succ, getElem_cons_zero])
        refine wpAnyC_take [1, 3, 5, 7, 8, 9] (i := 1) (v := ?vr4) rfl (by kernel_rfl) (by kernel_rfl) (by kernel_rfl) (by kernel_rfl) (fun _ _ _ h => h) (Or.inl ⟨by rfl, ?yr4⟩) (by assumption) ?_
        case yr4 => (intro w hSw; (try dsimp only at hSw); go_simp; all_goals (with_reducible rfl))
        (try simp only [Act.put, setIfInBounds_toArray, set_cons_zero, set_cons_succ, getElem_toArray, getElem_cons_succ, getElem_cons_zero])
        refine wpAnyC_take [2, 3, 5, 7, 8, 9] (i := 2) (v := ?vr5) rfl (by kernel_rfl) (by kernel_rfl) (by kernel_rfl) (by kernel_rfl) (fun _ _ _ h => h) (Or.inl ⟨by rfl, ?yr5⟩) (by assumption) ?_
        case yr5 => (intro w hSw; (try dsimp only at hSw); go_simp; all_goals (with_reducible rfl))
        (try simp only [Act.put, setIfInBounds_toArray, set_cons_zero, set_cons_succ, getElem_toArray, getElem_cons_succ, getElem_cons_zero])
        refine wpAnyC_take [4, 5, 7, 8, 9] (i := 4) (v := ?vr6) rfl (by kernel_rfl) (by kernel_rfl) (by kernel_rfl) (by kernel_rfl) (fun _ _ _ h => h) (Or.inl ⟨by rfl, ?yr6⟩) (by assumption) ?_
        case yr6 => (intro w hSw; (try dsimp only at hSw); go_simp; all_goals (with_reducible rfl))
        (try simp only [Act.put, setIfInBounds_toArray, set_cons_zero, set_cons_succ, getElem_toArray, getElem_cons_succ, getElem_cons_zero])
        refine wpAnyC_take [6, 7, 8, 9] (i := 6) (v := ?vr7) rfl (by kernel_rfl) (by kernel_rfl) (by kernel_rfl) (by kernel_rfl) (fun _ _ _ h => h) (Or.inl ⟨by rfl, ?yr7⟩) (by assumption) ?_
        case yr7 => (intro w hSw; (try dsimp only at hSw); go_simp; all_goals (with_reducible rfl))
        (try simp only [Act.put, setIfInBounds_toArray, set_cons_zero, set_cons_succ, getElem_toArray, getElem_cons_succ, getElem_cons_zero])
        refine wpAnyC_one (i := 3) (by kernel_rfl) (by rfl) rfl (fun K hK => ?_)
        go_simp
        have LW := Lib.hid FB_r2.out.size
        refine (HG.out wr1 FB_r2.out).mono ?_
        rintro e wr8 ⟨Ar8, cr8, rfl, owr8, belr8⟩
        dsimp only
        have FB_r9 := Lib.hid ((FB_r2.out).trans ((belr8).mono (FB_r2.out).size))
        clear FB_r2
        have FA_r10 := Lib.hid owr8
        have LOr8 := Lib.hid belr8.size
        clear owr8 belr8
        refine hK.out _ _ (HSX.out _ FB_r9.out) (fun hHeld => ?_)
        clear hK K
        (try simp only [Act.put, setIfInBounds_toArray, set_cons_zero, set_cons_succ, getElem_toArray, getElem_cons_succ, getElem_cons_zero])
        refine wpAnyC_one (i := 5) (by kernel_rfl) (by rfl) rfl (fun K hK => ?_)
        go_simp
        refine (HD.out wr8 FB_r9.out _ (LW.out) Ar8 cr8 FA_r10.out).mono ?_
        rintro e wr11 ⟨Ar11, cr11, rfl, owr11, bwr11⟩
        dsimp only
        have FB_r12 := Lib.hid bwr11
        have FR_r12 := Lib.hid (RdA.of_own owr11)
        clear FB_r9 FA_r10 owr11 bwr11
        refine hK.out _ _ (HSX.out _ FB_r12.out) (fun hHeld => ?_)
        clear hK K
        (try simp only [Act.put, setIfInBounds_toArray, set_cons_zero, set_cons_succ, getElem_toArray, getElem_cons_succ, getElem_cons_zero])
        refine wpAnyC_one (i := 7) (by kernel_rfl) (by rfl) rfl (fun K hK => ?_)
        go_simp
        refine (HC.out wr11 Ar11 cr11 FR_r12.out).mono ?_
        rintro e wr13 ⟨rfl, belr13⟩
        dsimp only
        have FB_r14 := Lib.hid ((FB_r12.out).trans ((belr13).mono (FB_r12.out).size))
        have FR_r15 := Lib.hid (((FR_r12.out).below (belr13)).more (belr13).size)
        clear FB_r12 FR_r12
        clear belr13
        refine hK.out _ _ (HSX.out _ FB_r14.out) (fun hHeld => ?_)
        clear hK K
        (try simp only [Act.put, setIfInBounds_toArray, set_cons_zero, set_cons_succ, getElem_toArray, getElem_cons_succ, getElem_cons_zero])
        refine wpAnyC_one (i := 8) (by kernel_rfl) (by rfl) rfl (fun K hK => ?_)
        go_simp
        refine (HI.out wr13).mono ?_
        rintro e wr16 ⟨rfl, belr16⟩
        dsimp only
        have FB_r17 := Lib.hid ((FB_r14.out).trans ((belr16).mono (FB_r14.out).size))
        have FR_r18 := Lib.hid (((FR_r15.out).below (belr16)).more (belr16).size)
        clear FB_r14 FR_r15
        clear belr16
        refine hK.out _ _ (HSX.out _ FB_r17.out) (fun hHeld => ?_)
        clear hK K
        (try simp only [Act.put, setIfInBounds_toArray, set_cons_zero, set_cons_succ, getElem_toArray, getElem_cons_succ, getElem_cons_zero])
        refine wpAnyC_last (by kernel_rfl) rfl (fun K hK => ?_)
        have a0 := one_cellE (HEB.out _ FB_r17.out)
        have f0 := frozen_of_row _ _ 0 _ _ (HEB.out _ FB_r17.out)
        go_simp
        clear a0 f0
        refine hK.out _ _ ?_
        clear hK K hHeld
        (try simp only [Act.put, setIfInBounds_toArray, set_cons_zero, set_cons_succ, getElem_toArray, getElem_cons_succ, getElem_cons_zero])
        refine wpAnyH_done (by kernel_rfl) ?_ _
        (try gi_wp2)
        exact HEND.out _ FB_r17.out
      case done =>
        rintro W ⟨hE, hg⟩ hD
        have HD := Lib.hid hD
        have e0 := one_cellE hE
        have hbW : Below w.heap.size w W := HB0.out.trans ((B11.out.mono HB0.out.size).trans ⟨hg.os, hg.tape, hg.output, hg.size, fun i hi => hg.block i (by have := HLB.out; have := B11.out.size; have := HS0.out; omega) (fun e => by have := HBE.out; have := HS0.out; have := Option.some.inj e; omega)⟩)
        have HTW := Lib.hid (hT0.below hbW hT0.lt)
        have HLN := Lib.hid (links_any (seS N x (2 ^ (prkN N).length)) W (HSL.out _) HTW.out)
        rw [HSP.out] at HLN
        have HBW := Lib.hid hbW
        have HSW2 := Lib.hid (show w11.heap.size ≤ W.heap.size from hg.size)
        have HW11 := Lib.hid (show w.heap.size ≤ w11.heap.size from Nat.le_trans HB0.out.size B11.out.size)
        generalize seS N x (2 ^ (prkN N).length) = s at *
        clear hE hg hD hbW
        (try dsimp only)
        go_wp2_with (fail)
        refine HLN.out.mono ?_
        rintro e W2 ⟨A2, c2, rfl, own2, bel2⟩
        have HD2 := Lib.hid (k_heapE HD.out bel2)
        have HG : Hid (GivesB w (seV N x) true (.returned (.tuple #[.slice A2 (seV N x).length c2, .bool true])) (W2.putObj w11.heap.size (.deferred none))) := Lib.hid (by
          rw [HSV.out]
          refine ⟨A2, c2, rfl, (own_same own2 (fun z hz => World.putObj_heap_other (by have := (own2.lt z hz).1; have := HSW2.out; have := HD.out; have h3 := (Array.getElem?_eq_some_iff.1 HD.out).1; omega))).mono HBW.out.size, below_shutE (HBW.out.trans (bel2.mono HBW.out.size)) HW11.out (Nat.le_refl _) _⟩)
        rw [← HSV.out]
        clear own2 bel2 e0
        generalize (seV N x).length = ql at *
        go_wp2
        (try simp only [Exit.inBlock, Exit.then])
        refine ⟨by simp, .inl ⟨_, _, rfl, run_takeDeferred HD2.out, ?_⟩⟩
        refine ⟨_, results_tmp2 rfl _ _ _, ?_⟩
        first | exact HG.out | (dsimp only; exact HG.out) | (simp only [Array.getD_eq_getD_getElem?, List.getElem?_toArray, List.getElem?_cons_succ, List.getElem?_cons_zero, Option.getD_some]; exact HG.out) | simpa using HG.out
      case stop =>
        rintro k W hk hF hD
        exact hF.elim
end Go.Proofs.YtfdpkhiiboghiaaGreatDoor
