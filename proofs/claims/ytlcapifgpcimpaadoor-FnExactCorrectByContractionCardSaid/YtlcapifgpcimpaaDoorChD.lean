/- The program's linked list: chainedGraphOf. -/
import Derived.Test.YtlcapifgpcimpaaDoorChA
import Derived.Test.YtlcapifgpcimpaaDoorEgV
import Derived.Deep.RegionHeldLaw
import Derived.Deep.DeepCutAuto
import Derived.BigQuiet
namespace Go.Proofs.YtlcapifgpcimpaaDoor
set_option linter.unusedSimpArgs false
set_option linter.unusedVariables false
open Go.ChangeAt Go.ChangeShapes Go.RowKit Go.WideShapes

theorem pairWith_none (x : Nat) (w : World) :
    Calls Tryd.prog 105 #[.pointer (some ⟨x, 0, none⟩), .pointer none] w fun e w' => e = .returned (.tuple #[]) ∧ w' = w := by
  have hN1 := neqP1; have hN0 := neqP0
  go_enter Tryd.func105, Tryd.ntmps105
  go_wp2
  refine bodyPost_end (results_none rfl _ _ _) rfl ?_
  exact ⟨rfl, rfl⟩
theorem pairWith_some (x m : Nat) (w : World) (v0 v1 : Value) (h0 : w.cell? ⟨x, 3, none⟩ = some v0) (h1 : w.cell? ⟨m, 3, none⟩ = some v1) (f0 : w.frozen? ⟨x, 3, none⟩ = false) (f1 : w.frozen? ⟨m, 3, none⟩ = false) (hne : x ≠ m) :
    Calls Tryd.prog 105 #[.pointer (some ⟨x, 0, none⟩), .pointer (some ⟨m, 0, none⟩)] w fun e w' => e = .returned (.tuple #[]) ∧ w' = (w.setCell ⟨x, 3, none⟩ (.pointer (some ⟨m, 0, none⟩))).setCell ⟨m, 3, none⟩ (.pointer (some ⟨x, 0, none⟩)) := by
  have hN1 := neqP1; have hN0 := neqP0
  have h2 : (w.setCell ⟨x, 3, none⟩ (.pointer (some ⟨m, 0, none⟩))).cell? ⟨m, 3, none⟩ = some v1 := (World.cell?_setCell_other _ _ _ _ (fun e => by injection e with e1 e2 e3; omega)).trans h1
  go_enter Tryd.func105, Tryd.ntmps105
  go_wp2
  refine bodyPost_end (results_none rfl _ _ _) rfl ?_
  exact ⟨rfl, rfl⟩
/-- The cells of an array of 48 pointers. -/
def laA (f : Nat → Option Nat) : Array Value := ((List.range 48).map fun i => ptE (f i)).toArray
theorem laA_at {f : Nat → Option Nat} {i : Nat} (h : i < 48) : (laA f)[i]? = some (ptE (f i)) := by simp [laA, h]
theorem laA_set {f : Nat → Option Nat} {i : Nat} (h : i < 48) (v : Option Nat) : (laA f).setIfInBounds i (ptE v) = laA fun x => if x = i then v else f x := by
  unfold laA
  rw [List.setIfInBounds_toArray]
  congr 1
  apply List.ext_getElem?
  intro j
  rw [List.getElem?_set]
  by_cases e : i = j
  · subst e
    rw [if_pos rfl]
    simp [h]
  · rw [if_neg e]
    by_cases hj : j < 48
    · simp [hj, Ne.symm e]
    · rw [List.getElem?_eq_none (by simp; omega), List.getElem?_eq_none (by simp; omega)]
theorem nilP48 : laA (fun _ => none) = #[Value.pointer none, Value.pointer none, Value.pointer none, Value.pointer none, Value.pointer none, Value.pointer none, Value.pointer none, Value.pointer none, Value.pointer none, Value.pointer none, Value.pointer none, Value.pointer none, Value.pointer none, Value.pointer none, Value.pointer none, Value.pointer none, Value.pointer none, Value.pointer none, Value.pointer none, Value.pointer none, Value.pointer none, Value.pointer none, Value.pointer none, Value.pointer none, Value.pointer none, Value.pointer none, Value.pointer none, Value.pointer none, Value.pointer none, Value.pointer none, Value.pointer none, Value.pointer none, Value.pointer none, Value.pointer none, Value.pointer none, Value.pointer none, Value.pointer none, Value.pointer none, Value.pointer none, Value.pointer none, Value.pointer none, Value.pointer none, Value.pointer none, Value.pointer none, Value.pointer none, Value.pointer none, Value.pointer none, Value.pointer none] := rfl
def ArrP (w : World) (g : Nat) (f : Nat → Option Nat) : Prop := w.heap[g]? = some (.cells (laA f) 128 (0, 0))
theorem ArrP.cell {w : World} {g : Nat} {f : Nat → Option Nat} (h : ArrP w g f) {i : Nat} (hi : i < 48) : w.cell? ⟨g, i, none⟩ = some (ptE (f i)) := (cell_of_row _ _ i _ _ (0, 0) h).trans (laA_at hi)
theorem ArrP.frozen {w : World} {g : Nat} {f : Nat → Option Nat} (h : ArrP w g f) (i : Nat) : w.frozen? ⟨g, i, none⟩ = false := frozen_of_row _ _ i _ _ h
theorem ArrP.set {w : World} {g : Nat} {f : Nat → Option Nat} (h : ArrP w g f) {i : Nat} (hi : i < 48) (v : Option Nat) : ArrP (w.setCell ⟨g, i, none⟩ (ptE v)) g fun x => if x = i then v else f x := by
  have := heap_setCell_same w g i _ _ (ptE v) h
  rw [laA_set hi] at this
  exact this
/-- What the array of the last of each pair tells. -/
def LastP (f : Nat → Option Nat) (ns : List Nd) : Prop := ∀ p, p < 48 → (f p = none ∧ ∀ n ∈ ns, n.e.p ≠ (p : Int)) ∨ ∃ n ∈ ns, f p = some n.x ∧ n.e.p = (p : Int)
/-- What chainedGraphOf holds behind k edges. -/
structure CgS (w wr : World) (nd : Int) (es : List Ed) (k : Nat) (ns : List Nd) (f : Nat → Option Nat) : Prop where
  ch : ChG wr w.heap.size (w.heap.size + 1) nd ns
  arr : ArrP wr (w.heap.size + 1 + 1) f
  far : ∀ n ∈ ns, w.heap.size + 1 + 1 < n.x
  eds : edsN ns = es.take k
  pd : PdN ns
  last : LastP f ns
  bel : Below w.heap.size w wr
theorem CgS.fin {w W : World} {nd : Int} {es : List Ed} {k : Nat} {ns : List Nd} {n : Nd} {f : Nat → Option Nat} (hch : ChG W w.heap.size (w.heap.size + 1) nd ns) (harr : ArrP W (w.heap.size + 1 + 1) f) (hfar : ∀ m ∈ ns, w.heap.size + 1 + 1 < m.x)
    (hx : NdAt W n none) (hxw : w.heap.size + 1 + 1 < n.x) (hne : ∀ m ∈ ns, m.x ≠ n.x) (heds : edsN (ns ++ [n]) = es.take (k + 1)) (hpd : PdN (ns ++ [n])) (hl : LastP f (ns ++ [n])) (hb : Below w.heap.size w W) :
    CgS w (W.setCell (plcN (w.heap.size + 1) ns) (.pointer (some ⟨n.x, 0, none⟩))) nd es (k + 1) (ns ++ [n]) f := by
  have hpb : w.heap.size ≤ (plcN (w.heap.size + 1) ns).block ∧ (plcN (w.heap.size + 1) ns).block ≠ w.heap.size + 1 + 1 := by
    rcases plcN_block (w.heap.size + 1) ns with e | ⟨l, hl, e⟩
    · rw [e]; exact ⟨by omega, by omega⟩
    · rw [e]; have := hfar l hl; exact ⟨by omega, by omega⟩
  refine ⟨hch.push hx hne (by omega) (by omega), (heap_setCell_other _ _ _ _ (Ne.symm hpb.2)).trans harr, ?_, heds, hpd, hl, hb.setCell hpb.1 _⟩
  intro m hm
  rcases List.mem_append.1 hm with hm | hm
  · exact hfar m hm
  · obtain rfl : m = n := by simpa using hm
    exact hxw
/-- Of a pair at most one is among the first. -/
theorem one_node {p : Int} : ∀ {ns : List Nd}, (edsN ns).countP (fun y => decide (y.p = p)) ≤ 1 → ∀ {n m : Nd}, n ∈ ns → m ∈ ns → n.e.p = p → m.e.p = p → n.x = m.x
  | [], _, _, _, h, _, _, _ => absurd h (by simp)
  | a :: r, hc, n, m, hn, hm, en, em => by
    have e : edsN (a :: r) = a.e :: edsN r := rfl
    rw [e, List.countP_cons] at hc
    have hpos : ∀ {l : Nd}, l ∈ r → l.e.p = p → 0 < (edsN r).countP (fun y => decide (y.p = p)) := fun {l} hl el => List.countP_pos_iff.2 ⟨l.e, List.mem_map.2 ⟨l, hl, rfl⟩, by simpa using el⟩
    rcases List.mem_cons.1 hn with hn | hn
    · rcases List.mem_cons.1 hm with hm | hm
      · rw [hn, hm]
      · have := hpos hm em
        rw [hn] at en
        rw [if_pos (by simpa using en)] at hc
        omega
    · rcases List.mem_cons.1 hm with hm | hm
      · have := hpos hn en
        rw [hm] at em
        rw [if_pos (by simpa using em)] at hc
        omega
      · exact one_node (by omega) hn hm en em
theorem take_one {es : List Ed} (H : TwoP es) {k : Nat} (hk : k < es.length) (hp : (es.getD k Ed.nil).p ≠ -1) : (es.take k).countP (fun y => decide (y.p = (es.getD k Ed.nil).p)) ≤ 1 := by
  rcases H _ (getE_mem hk) with h | h
  · exact absurd h hp
  · have e : es = es.take k ++ es.getD k Ed.nil :: es.drop (k + 1) := by
      have : es.getD k Ed.nil = es[k] := by simp [List.getD, hk]
      rw [this]; simp
    unfold cntP at h
    generalize es.getD k Ed.nil = x at *
    rw [e, List.countP_append, List.countP_cons, if_pos (by simp)] at h
    omega
theorem take_eds {es : List Ed} {k : Nat} (hk : k < es.length) {ns : List Nd} (h : edsN ns = es.take k) (n : Nd) (hn : n.e = es.getD k Ed.nil) : edsN (ns ++ [n]) = es.take (k + 1) := by
  rw [edsN_app, h, List.take_succ_eq_append_getElem hk]
  have : es.getD k Ed.nil = es[k] := by simp [List.getD, hk]
  show es.take k ++ [n.e] = _
  rw [hn, this]
theorem LastP.one {f : Nat → Option Nat} {ns : List Nd} (h : LastP f ns) {n : Nd} (hp : n.e.p = -1) : LastP f (ns ++ [n]) := fun p hp2 => by
  rcases h p hp2 with ⟨h1, h2⟩ | ⟨m, hm, h1, h2⟩
  · refine .inl ⟨h1, fun l hl => ?_⟩
    rcases List.mem_append.1 hl with hl | hl
    · exact h2 l hl
    · obtain rfl : l = n := by simpa using hl
      omega
  · exact .inr ⟨m, List.mem_append_left _ hm, h1, h2⟩
theorem LastP.two {f : Nat → Option Nat} {ns : List Nd} (h : LastP f ns) {n : Nd} {q : Nat} (hp : n.e.p = (q : Int)) : LastP (fun x => if x = q then some n.x else f x) (ns ++ [n]) := fun p hp2 => by
  by_cases e : p = q
  · subst e
    exact .inr ⟨n, List.mem_append_right _ (by simp), if_pos rfl, hp⟩
  · rcases h p hp2 with ⟨h1, h2⟩ | ⟨m, hm, h1, h2⟩
    · refine .inl ⟨(if_neg e).trans h1, fun l hl => ?_⟩
      rcases List.mem_append.1 hl with hl | hl
      · exact h2 l hl
      · obtain rfl : l = n := by simpa using hl
        rw [hp]; omega
    · exact .inr ⟨m, List.mem_append_left _ hm, (if_neg e).trans h1, h2⟩
theorem LastP.setQ {f : Nat → Option Nat} {ns : List Nd} (h : LastP f ns) (m x : Nat) : LastP f (setQ ns m x) := fun p hp2 => by
  rcases h p hp2 with ⟨h1, h2⟩ | ⟨l, hl, h1, h2⟩
  · refine .inl ⟨h1, fun l hl => ?_⟩
    obtain ⟨k, hk, rfl⟩ := mem_setQ.1 hl
    split
    · exact h2 k hk
    · exact h2 k hk
  · refine .inr ⟨if l.x = m then ⟨l.x, l.e, some x⟩ else l, mem_setQ.2 ⟨l, hl, rfl⟩, ?_, ?_⟩
    · split
      · exact h1
      · exact h1
    · split
      · exact h2
      · exact h2
/-- Behind the two new blocks: the edge's own variable and its node. -/
theorem two_new (w : World) (o p : Obj) : Below w.heap.size w ((w.alloc o).alloc p) ∧ ((w.alloc o).alloc p).heap[w.heap.size]? = some o ∧ ((w.alloc o).alloc p).heap[w.heap.size + 1]? = some p ∧ ((w.alloc o).alloc p).heap.size = w.heap.size + 1 + 1 := by
  have e : (w.alloc o).heap.size = w.heap.size + 1 := by simp
  refine ⟨((Below.refl _ _).alloc (Nat.le_refl _) _).alloc (by simp) _, ?_, ?_, by simp⟩
  · rw [Below.heap_alloc _ _ _ (by simp)]; exact heap_alloc_new _ _
  · rw [← e]; exact heap_alloc_new _ _
set_option maxRecDepth 100000 in
set_option maxHeartbeats 1000000 in
theorem chainedOf_any (h : GH) (G : Gr) (w : World) (r : RdG w w.heap.size h G) (hv : vgB G = true) :
    Calls Tryd.prog 71 #[.agg #[.int .i64 G.n, .slice h.A G.e.length h.c]] w fun e w' => ∃ c ns, e = .returned (.pointer (some ⟨c, 0, none⟩)) ∧ ChG w' w.heap.size c G.n ns ∧ PdN ns ∧ edsN ns = G.e ∧ Below w.heap.size w w' := by
  have h2 := vgB_two hv
  have hok := vgB_ok hv
  have hsm := vgB_small hv
  obtain ⟨A, sc⟩ := h
  obtain ⟨nd, es⟩ := G
  have r1 : RdE w w.heap.size A es.length es := r
  dsimp only at h2 hok hsm ⊢
  have hl48 := hsm.2
  -- the three blocks
  obtain ⟨w3, hw3⟩ : ∃ w3, w3 = ((w.alloc (.cells #[.int .i64 nd, .slice A es.length sc] 30)).alloc (.cells #[.int .i64 nd, .pointer none] 127)).alloc (.cells #[Value.pointer none, Value.pointer none, Value.pointer none, Value.pointer none, Value.pointer none, Value.pointer none, Value.pointer none, Value.pointer none, Value.pointer none, Value.pointer none, Value.pointer none, Value.pointer none, Value.pointer none, Value.pointer none, Value.pointer none, Value.pointer none, Value.pointer none, Value.pointer none, Value.pointer none, Value.pointer none, Value.pointer none, Value.pointer none, Value.pointer none, Value.pointer none, Value.pointer none, Value.pointer none, Value.pointer none, Value.pointer none, Value.pointer none, Value.pointer none, Value.pointer none, Value.pointer none, Value.pointer none, Value.pointer none, Value.pointer none, Value.pointer none, Value.pointer none, Value.pointer none, Value.pointer none, Value.pointer none, Value.pointer none, Value.pointer none, Value.pointer none, Value.pointer none, Value.pointer none, Value.pointer none, Value.pointer none, Value.pointer none] 128) := ⟨_, rfl⟩
  have hS0 : CgS w w3 nd es 0 [] (fun _ => none) := by
    have e1 : (w.alloc (.cells #[.int .i64 nd, .slice A es.length sc] 30)).heap.size = w.heap.size + 1 := by simp
    have e2 : ((w.alloc (.cells #[.int .i64 nd, .slice A es.length sc] 30)).alloc (.cells #[.int .i64 nd, .pointer none] 127)).heap.size = w.heap.size + 1 + 1 := by simp
    refine ⟨⟨?_, trivial, List.nodup_nil, by omega, fun n hn => absurd hn (by simp)⟩, ?_, fun n hn => absurd hn (by simp), rfl, ⟨List.nodup_nil, fun n hn => absurd hn (by simp), fun n hn => absurd hn (by simp)⟩, fun p _ => .inl ⟨rfl, fun n hn => absurd hn (by simp)⟩, ?_⟩
    · rw [hw3, Below.heap_alloc _ _ _ (by omega), ← e1]; exact heap_alloc_new _ _
    · unfold ArrP; rw [nilP48, hw3, ← e2]; exact heap_alloc_new _ _
    · rw [hw3]; exact (((Below.refl _ _).alloc (Nat.le_refl _) _).alloc (by simp) _).alloc (by simp; omega) _
  have HS0 := Lib.hid hS0
  have HR := Lib.hid (fun (w' : World) (hw : Below w.heap.size w w') => r1.below hw)
  have HTW := Lib.hid h2
  have HOK := Lib.hid (fun k (hk : k < es.length) => hok _ (getE_mem hk))
  obtain ⟨hb, hh, hsz⟩ := box2E w (.int .i64 nd) (.slice A es.length sc) 30
  obtain ⟨y0, y1⟩ := twE_cells hh
  clear hb hh hsz h2 hok hS0 r r1 hv hsm
  go_enter Tryd.func71, Tryd.ntmps71
  go_upto_region 4 with (fail)
  have y1' : w3.cell? ⟨w.heap.size, 1, none⟩ = some (.slice A es.length sc) := by
    have e1 : w3.heap[w.heap.size]? = some (.cells #[.int .i64 nd, .slice A es.length sc] 30 (0, 0)) := by
      rw [hw3, Below.heap_alloc _ _ _ (by simp; omega), Below.heap_alloc _ _ _ (by simp)]; exact heap_alloc_new _ _
    exact (twE_cells e1).2
  rw [← hw3]
  clear hw3 y0 y1
  go_wp2_with (fail)
  clear y1'
  go_loopw [5, 19] (fun pv i wr => ∃ (k : Nat) (ns : List Nd) (f : Nat → Option Nat), k ≤ es.length ∧ i = .int .i64 k ∧ pv = .pointer (some (plcN (w.heap.size + 1) ns)) ∧ CgS w wr nd es k ns f) (fun _ i _ => es.length - (intOf i).toNat)
  case atStart => exact ⟨0, [], _, Nat.zero_le _, rfl, rfl, HS0.out⟩
  case round =>
    obtain ⟨k, ns, f, hk, rfl, rfl, hS⟩ := hrel
    clear HS0
    have HS := Lib.hid hS
    clear hS
    by_cases hlt : k < es.length
    · obtain ⟨b, off, rfl, hbb, hcells⟩ := (HR.out _ HS.out.bel).at (by omega)
      obtain ⟨x0, x1, x2⟩ := hcells k hlt
      have HTK := Lib.hid (fun e => take_one HTW.out hlt e)
      have HTE := Lib.hid (fun (n : Nd) e (ns0 : List Nd) (h0 : edsN ns0 = es.take k) => take_eds hlt h0 n e)
      have hok1 := HOK.out k hlt
      obtain ⟨⟨ea, eb, ep⟩, hl'⟩ : ∃ l, es.getD k Ed.nil = l := ⟨_, rfl⟩
      rw [hl'] at x0 x1 x2 HTK HTE hok1
      dsimp only at x0 x1 x2 HTK
      have hep : -1 ≤ ep ∧ ep ≤ 47 := by
        unfold okE at hok1
        simp only [Bool.and_eq_true, decide_eq_true_eq] at hok1
        exact hok1.2
      have hki : (k : Int) < (es.length : Int) := by omega
      obtain ⟨bel, p1, p2, hs2⟩ := two_new wr (.cells #[.int .i64 ea, .int .i64 eb, .int .i64 ep] 52) (.cells #[.int .i64 ea, .int .i64 eb, .int .i64 ep, .pointer none, .pointer none] 131)
      obtain ⟨W2, hW2⟩ : ∃ W2, W2 = (wr.alloc (.cells #[.int .i64 ea, .int .i64 eb, .int .i64 ep] 52)).alloc (.cells #[.int .i64 ea, .int .i64 eb, .int .i64 ep, .pointer none, .pointer none] 131) := ⟨_, rfl⟩
      rw [← hW2] at bel p1 p2 hs2
      have hlx : ∀ m ∈ ns, m.x < wr.heap.size := HS.out.ch.lt
      have hcl : w.heap.size + 1 + 1 < wr.heap.size := (Array.getElem?_eq_some_iff.1 HS.out.arr).1
      have HCH := Lib.hid (HS.out.ch.below bel)
      have HAR : Hid (ArrP W2 (w.heap.size + 1 + 1) f) := Lib.hid ((bel.block _ hcl).trans HS.out.arr)
      have HBE := Lib.hid (HS.out.bel.trans (bel.mono HS.out.bel.size))
      have HNX : Hid (NdAt W2 ⟨wr.heap.size + 1, ⟨ea, eb, ep⟩, none⟩ none) := Lib.hid p2
      have HP1 := Lib.hid p1
      have HNE : Hid (∀ m ∈ ns, m.x ≠ wr.heap.size + 1) := Lib.hid fun m hm => by have := hlx m hm; omega
      have HXB : Hid (w.heap.size + 1 + 1 < wr.heap.size + 1) := Lib.hid (by omega)
      have HLX := Lib.hid hlx
      have HBL : Hid (w.heap.size + 1 + 1 < wr.heap.size) := Lib.hid hcl
      clear hcells hbb bel p1 p2 hs2 hlx hcl hok1 hl'
      by_cases hm1 : ep = -1
      · have dm : (ep != -1) = false := by simp [hm1]
        have p0 := (show ChG W2 w.heap.size (w.heap.size + 1) nd (ns ++ []) by rw [List.append_nil]; exact HCH.out).place
        obtain ⟨p0, p1⟩ := p0
        simp only [hdN, ptE] at p0
        obtain ⟨z0, z1, z2⟩ := th_cells HP1.out
        have HFIN := Lib.hid (CgS.fin HCH.out HAR.out HS.out.far HNX.out HXB.out HNE.out (HTE.out ⟨wr.heap.size + 1, ⟨ea, eb, ep⟩, none⟩ rfl ns HS.out.eds) (HS.out.pd.alone HNE.out (.inl hm1)) (HS.out.last.one (n := ⟨wr.heap.size + 1, ⟨ea, eb, ep⟩, none⟩) hm1) HBE.out)
        dsimp only at HFIN
        have HPL := Lib.hid (plcN_app (w.heap.size + 1) ns ⟨wr.heap.size + 1, ⟨ea, eb, ep⟩, none⟩)
        obtain ⟨pl, hpl⟩ : ∃ pl, plcN (w.heap.size + 1) ns = pl := ⟨_, rfl⟩
        rw [hpl] at p0 p1 HFIN ⊢
        subst hW2
        clear hpl hm1
        go_wp2
        go_roundw
        case rel => exact ⟨k + 1, _, _, by omega, by go_num, by rw [HPL.out], HFIN.out⟩
        case measure => simp [intOf]; omega
      · obtain ⟨pn, rfl⟩ : ∃ pn : Nat, ep = pn := ⟨ep.toNat, by omega⟩
        have hpn : pn < 48 := by omega
        have hpi : (pn : Int) < 48 := by omega
        have dm : ((pn : Int) != -1) = true := by simp <;> omega
        have HPP := Lib.hid (HTK.out (by omega))
        rcases HS.out.last pn hpn with ⟨hf, hno⟩ | ⟨m, hm, hf, hmp⟩
        · -- the first of its pair
          have q0 := HAR.out.cell hpn
          rw [hf] at q0
          simp only [ptE] at q0
          obtain ⟨z0, z1, z2⟩ := th_cells HP1.out
          have HPD := Lib.hid (HS.out.pd.alone (x := wr.heap.size + 1) (e := ⟨ea, eb, (pn : Int)⟩) HNE.out (.inr hno))
          have HLA := Lib.hid (HS.out.last.two (n := ⟨wr.heap.size + 1, ⟨ea, eb, (pn : Int)⟩, none⟩) (q := pn) rfl)
          have HED := Lib.hid (HTE.out ⟨wr.heap.size + 1, ⟨ea, eb, (pn : Int)⟩, none⟩ rfl ns HS.out.eds)
          have HPW := Lib.hid (pairWith_none (wr.heap.size + 1) W2)
          have HFA := Lib.hid HS.out.far
          have HC0 := HCH; have HA0 := HAR; have HV0 := HP1; have HB0 := HBE
          have HNN := HNE
          obtain ⟨ns0, hns0⟩ : ∃ ns0, ns0 = ns := ⟨_, rfl⟩
          rw [← hns0] at HC0 HPD HLA HED HFA HNN
          obtain ⟨qq, hqq⟩ : ∃ qq : Option Nat, qq = none := ⟨_, rfl⟩
          have HN0 : Hid (NdAt W2 ⟨wr.heap.size + 1, ⟨ea, eb, (pn : Int)⟩, qq⟩ none) := Lib.hid (by rw [hqq]; exact HNX.out)
          rw [← hqq] at HPD HLA HED
          have HPS : Hid (plcN (w.heap.size + 1) ns0 = plcN (w.heap.size + 1) ns) := Lib.hid (by rw [hns0])
          clear hns0 hqq hf hno hm1 HAR HNX HP1 HBE HCH HNE
          subst hW2
          go_wp2_with (fail)
          refine HPW.out.mono ?_
          rintro e w4 ⟨rfl, hw4⟩
          rw [← hw4] at HC0 HA0 HN0 HV0 HB0
          clear hw4 q0 z0 z1 z2
          obtain ⟨z0, z1, z2⟩ := th_cells HV0.out
          obtain ⟨_, q0⟩ : ∃ v, w4.cell? ⟨w.heap.size + 1 + 1, pn, none⟩ = some v := ⟨_, HA0.out.cell hpn⟩
          have q1 := HA0.out.frozen pn
          have hb9 := HBL.out
          have hoth5 : ∀ kk, kk ≠ w.heap.size + 1 + 1 → (w4.setCell ⟨w.heap.size + 1 + 1, pn, none⟩ (.pointer (some ⟨wr.heap.size + 1, 0, none⟩))).heap[kk]? = w4.heap[kk]? := fun kk h1 => heap_setCell_other _ _ _ _ h1
          have hC5 : ChG (w4.setCell ⟨w.heap.size + 1 + 1, pn, none⟩ (.pointer (some ⟨wr.heap.size + 1, 0, none⟩))) w.heap.size (w.heap.size + 1) nd ns0 := ⟨(hoth5 _ (by omega)).trans HC0.out.head, SegN_same HC0.out.seg fun l hl => hoth5 _ (by have := HFA.out l hl; omega), HC0.out.nodup, HC0.out.loC, HC0.out.lo⟩
          have p0 := (show ChG _ w.heap.size (w.heap.size + 1) nd (ns0 ++ []) by rw [List.append_nil]; exact hC5).place
          obtain ⟨p0, p1⟩ := p0
          simp only [hdN, ptE] at p0
          have HFIN := Lib.hid (CgS.fin (n := ⟨wr.heap.size + 1, ⟨ea, eb, (pn : Int)⟩, qq⟩) hC5 (HA0.out.set hpn (some (wr.heap.size + 1))) HFA.out ((hoth5 _ (by show wr.heap.size + 1 ≠ _; omega)).trans HN0.out) HXB.out HNN.out HED.out HPD.out HLA.out (HB0.out.setCell (p := ⟨w.heap.size + 1 + 1, pn, none⟩) (by show w.heap.size ≤ w.heap.size + 1 + 1; omega) _))
          dsimp only at HFIN
          have HPL := Lib.hid (plcN_app (w.heap.size + 1) ns0 ⟨wr.heap.size + 1, ⟨ea, eb, (pn : Int)⟩, qq⟩)
          rw [HPS.out] at p0 p1 HFIN
          obtain ⟨pl, hpl⟩ : ∃ pl, plcN (w.heap.size + 1) ns = pl := ⟨_, rfl⟩
          rw [hpl] at p0 p1 HFIN ⊢
          clear hpl hC5 hoth5 hb9 HPS
          go_wp2
          go_roundw
          case rel => exact ⟨k + 1, _, _, by omega, by go_num, by rw [HPL.out], HFIN.out⟩
          case measure => simp [intOf]; omega
        · -- the second: its partner is m
          have q0 := HAR.out.cell hpn
          rw [hf] at q0
          simp only [ptE] at q0
          obtain ⟨z0, z1, z2⟩ := th_cells HP1.out
          obtain ⟨u, hu⟩ := HCH.out.mem hm
          have hmx := HNE.out m hm
          have HALL : Hid (∀ l ∈ ns, l.e.p = (pn : Int) → l.x = m.x) := Lib.hid fun l hl e => one_node (by rw [HS.out.eds]; exact HPP.out) hl hm e hmp
          have HPD := Lib.hid (HS.out.pd.both (x := wr.heap.size + 1) (e := ⟨ea, eb, (pn : Int)⟩) hm HNE.out (by show (pn : Int) ≠ -1; omega) hmp HALL.out)
          have HLA := Lib.hid ((HS.out.last.setQ m.x (wr.heap.size + 1)).two (n := ⟨wr.heap.size + 1, ⟨ea, eb, (pn : Int)⟩, some m.x⟩) (q := pn) rfl)
          have HED := Lib.hid (HTE.out ⟨wr.heap.size + 1, ⟨ea, eb, (pn : Int)⟩, some m.x⟩ rfl (setQ ns m.x (wr.heap.size + 1)) ((setQ_eds _ _ _).trans HS.out.eds))
          have HPW := Lib.hid (pairWith_some (wr.heap.size + 1) m.x W2 _ _ HNX.out.cells.2.2.2.1 hu.cells.2.2.2.1 (HNX.out.frozen 3) (hu.frozen 3) hmx.symm)
          have hfar := HS.out.far m hm
          have hlm := HLX.out m hm
          have HFA : Hid (∀ l ∈ setQ ns m.x (wr.heap.size + 1), w.heap.size + 1 + 1 < l.x) := Lib.hid fun l hl => by
            obtain ⟨l2, hl2, rfl⟩ := mem_setQ.1 hl
            split
            · exact HS.out.far l2 hl2
            · exact HS.out.far l2 hl2
          have HNN : Hid (∀ l ∈ setQ ns m.x (wr.heap.size + 1), l.x ≠ wr.heap.size + 1) := Lib.hid fun l hl => by
            obtain ⟨l2, hl2, rfl⟩ := mem_setQ.1 hl
            split
            · exact HNE.out l2 hl2
            · exact HNE.out l2 hl2
          -- the world behind the two stores
          have hoth : ∀ kk, kk ≠ wr.heap.size + 1 → kk ≠ m.x → ((W2.setCell ⟨wr.heap.size + 1, 3, none⟩ (.pointer (some ⟨m.x, 0, none⟩))).setCell ⟨m.x, 3, none⟩ (.pointer (some ⟨wr.heap.size + 1, 0, none⟩))).heap[kk]? = W2.heap[kk]? := fun kk h1 h2 => by
            rw [heap_setCell_other _ _ _ _ (by show kk ≠ m.x; exact h2), heap_setCell_other _ _ _ _ (by show kk ≠ wr.heap.size + 1; exact h1)]
          have hc4 : ChG (W2.setCell ⟨wr.heap.size + 1, 3, none⟩ (.pointer (some ⟨m.x, 0, none⟩))) w.heap.size (w.heap.size + 1) nd ns := by
            have hb := HBL.out
            refine ⟨?_, SegN_same HCH.out.seg fun l hl => heap_setCell_other _ _ _ _ (HNE.out l hl), HCH.out.nodup, HCH.out.loC, HCH.out.lo⟩
            rw [heap_setCell_other _ _ _ _ (by show w.heap.size + 1 ≠ wr.heap.size + 1; omega)]; exact HCH.out.head
          have hb := HBL.out
          have HC0 := Lib.hid (hc4.part hm (wr.heap.size + 1))
          have HA0 : Hid (ArrP ((W2.setCell ⟨wr.heap.size + 1, 3, none⟩ (.pointer (some ⟨m.x, 0, none⟩))).setCell ⟨m.x, 3, none⟩ (.pointer (some ⟨wr.heap.size + 1, 0, none⟩))) (w.heap.size + 1 + 1) f) := Lib.hid ((hoth _ (by omega) (by omega)).trans HAR.out)
          have HN0 : Hid (NdAt ((W2.setCell ⟨wr.heap.size + 1, 3, none⟩ (.pointer (some ⟨m.x, 0, none⟩))).setCell ⟨m.x, 3, none⟩ (.pointer (some ⟨wr.heap.size + 1, 0, none⟩))) ⟨wr.heap.size + 1, ⟨ea, eb, (pn : Int)⟩, some m.x⟩ none) := Lib.hid ((heap_setCell_other _ _ _ _ (by show wr.heap.size + 1 ≠ m.x; omega)).trans (HNX.out.part m.x))
          have HV0 := Lib.hid ((hoth wr.heap.size (by omega) (by omega)).trans HP1.out)
          have HB0 := Lib.hid ((HBE.out.setCell (p := ⟨wr.heap.size + 1, 3, none⟩) (by show w.heap.size ≤ wr.heap.size + 1; omega) (.pointer (some ⟨m.x, 0, none⟩))).setCell (p := ⟨m.x, 3, none⟩) (by show w.heap.size ≤ m.x; omega) (.pointer (some ⟨wr.heap.size + 1, 0, none⟩)))
          have HPS : Hid (plcN (w.heap.size + 1) (setQ ns m.x (wr.heap.size + 1)) = plcN (w.heap.size + 1) ns) := Lib.hid (plcN_setQ _ _ _ _)
          obtain ⟨qq, hqq⟩ : ∃ qq : Option Nat, qq = some m.x := ⟨_, rfl⟩
          rw [← hqq] at HPD HLA HED HN0
          clear hqq hf hm1 HAR HNX HP1 HBE HCH HNE HALL hfar hlm hoth hc4 hb hu hmp
          simp only [ptE] at HC0
          generalize setQ ns m.x (wr.heap.size + 1) = ns0 at HPD HLA HED HFA HNN HC0 HPS
          subst hW2
          go_wp2_with (fail)
          refine HPW.out.mono ?_
          rintro e w4 ⟨rfl, hw4⟩
          rw [← hw4] at HC0 HA0 HN0 HV0 HB0
          clear hw4 q0 z0 z1 z2 HPW hm hmx
          obtain ⟨z0, z1, z2⟩ := th_cells HV0.out
          obtain ⟨_, q0⟩ : ∃ v, w4.cell? ⟨w.heap.size + 1 + 1, pn, none⟩ = some v := ⟨_, HA0.out.cell hpn⟩
          have q1 := HA0.out.frozen pn
          have hb9 := HBL.out
          have hoth5 : ∀ kk, kk ≠ w.heap.size + 1 + 1 → (w4.setCell ⟨w.heap.size + 1 + 1, pn, none⟩ (.pointer (some ⟨wr.heap.size + 1, 0, none⟩))).heap[kk]? = w4.heap[kk]? := fun kk h1 => heap_setCell_other _ _ _ _ h1
          have hC5 : ChG (w4.setCell ⟨w.heap.size + 1 + 1, pn, none⟩ (.pointer (some ⟨wr.heap.size + 1, 0, none⟩))) w.heap.size (w.heap.size + 1) nd ns0 := ⟨(hoth5 _ (by omega)).trans HC0.out.head, SegN_same HC0.out.seg fun l hl => hoth5 _ (by have := HFA.out l hl; omega), HC0.out.nodup, HC0.out.loC, HC0.out.lo⟩
          have p0 := (show ChG _ w.heap.size (w.heap.size + 1) nd (ns0 ++ []) by rw [List.append_nil]; exact hC5).place
          obtain ⟨p0, p1⟩ := p0
          simp only [hdN, ptE] at p0
          have HFIN := Lib.hid (CgS.fin (n := ⟨wr.heap.size + 1, ⟨ea, eb, (pn : Int)⟩, qq⟩) hC5 (HA0.out.set hpn (some (wr.heap.size + 1))) HFA.out ((hoth5 _ (by show wr.heap.size + 1 ≠ _; omega)).trans HN0.out) HXB.out HNN.out HED.out HPD.out HLA.out (HB0.out.setCell (p := ⟨w.heap.size + 1 + 1, pn, none⟩) (by show w.heap.size ≤ w.heap.size + 1 + 1; omega) _))
          dsimp only at HFIN
          have HPL := Lib.hid (plcN_app (w.heap.size + 1) ns0 ⟨wr.heap.size + 1, ⟨ea, eb, (pn : Int)⟩, qq⟩)
          rw [HPS.out] at p0 p1 HFIN
          obtain ⟨pl, hpl⟩ : ∃ pl, plcN (w.heap.size + 1) ns = pl := ⟨_, rfl⟩
          rw [hpl] at p0 p1 HFIN ⊢
          clear hpl hC5 hoth5 hb9 HPS
          go_wp2
          go_roundw
          case rel => exact ⟨k + 1, _, _, by omega, by go_num, by rw [HPL.out], HFIN.out⟩
          case measure => simp [intOf]; omega
    · have hkl : k = es.length := by omega
      subst hkl
      have HG : Hid (ChG wr w.heap.size (w.heap.size + 1) nd ns ∧ PdN ns ∧ edsN ns = es ∧ Below w.heap.size w wr) := Lib.hid ⟨HS.out.ch, HS.out.pd, by rw [HS.out.eds, List.take_length], HS.out.bel⟩
      go_wp2
      go_ret
      exact ⟨_, ns, rfl, HG.out.1, HG.out.2.1, HG.out.2.2.1, HG.out.2.2.2⟩
end Go.Proofs.YtlcapifgpcimpaaDoor
