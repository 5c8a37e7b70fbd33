/- The laws' helpers at nets: the copy, the comparison. -/
import Derived.Test.YtgpocnapkflihaaGreatDoorQNetV
namespace Go.Proofs.YtgpocnapkflihaaGreatDoor
set_option linter.unusedSimpArgs false
set_option linter.unusedVariables false
open Go.ChangeAt Go.ChangeShapes Go.RowKit Go.WideShapes

/-- What the copy of a net leaves. -/
def CopiedN (w : World) (N : Nt) (e : Ending) (w' : World) : Prop :=
  ∃ h : NH, e = .returned (.agg #[.slice h.A N.w.length h.c, .slice h.L N.l.length h.d, .slice h.C N.c.length h.e]) ∧ OwnN w' w.heap.size w'.heap.size h N ∧ Below w.heap.size w w'
theorem set3_at {w : World} {b : Nat} {c0 c1 c2 : Value} {t : TypeId} (h : w.heap[b]? = some (.cells #[c0, c1, c2] t (0, 0))) (v0 v1 v2 : Value) :
    (((w.setCell ⟨b, 0, none⟩ v0).setCell ⟨b, 1, none⟩ v1).setCell ⟨b, 2, none⟩ v2).heap[b]? = some (.cells #[v0, v1, v2] t (0, 0)) := by
  have h0 := heap_setCell_same w b 0 _ t v0 h
  have h1 := heap_setCell_same _ b 1 _ t v1 h0
  have h2 := heap_setCell_same _ b 2 _ t v2 h1
  simpa using h2
theorem set3_below {w0 w : World} {B b : Nat} (h : Below B w0 w) (hb : B ≤ b) (v0 v1 v2 : Value) : Below B w0 (((w.setCell ⟨b, 0, none⟩ v0).setCell ⟨b, 1, none⟩ v1).setCell ⟨b, 2, none⟩ v2) :=
  ((h.setCell (p := ⟨b, 0, none⟩) hb v0).setCell (p := ⟨b, 1, none⟩) hb v1).setCell (p := ⟨b, 2, none⟩) hb v2
theorem own_setN {w : World} {lo hi b o : Nat} {h : NH} {N : Nt} (r : OwnN w lo hi h N) (hb : b < lo) (u : Value) : OwnN (w.setCell ⟨b, o, none⟩ u) lo hi h N := r.same fun k h1 _ _ => Below.heap_setCell _ _ _ _ (by show k ≠ b; omega)
theorem three_any' (w : World) (o p q : Obj) : Below w.heap.size w (((w.alloc o).alloc p).alloc q) ∧ (((w.alloc o).alloc p).alloc q).heap[w.heap.size]? = some o ∧ (((w.alloc o).alloc p).alloc q).heap[w.heap.size + 1]? = some p ∧ (((w.alloc o).alloc p).alloc q).heap[w.heap.size + 1 + 1]? = some q ∧ (((w.alloc o).alloc p).alloc q).heap.size = w.heap.size + 1 + 1 + 1 := by
  refine ⟨(((Below.refl _ _).alloc (Nat.le_refl _) _).alloc (by simp) _).alloc (by simp; omega) _, ?_, heap_two _ _ _ _, ?_, by simp⟩
  · rw [Below.heap_alloc _ _ _ (by simp; omega), Below.heap_alloc _ _ _ (by simp)]; exact heap_alloc_new _ _
  · have e : ((w.alloc o).alloc p).heap.size = w.heap.size + 1 + 1 := by simp
    rw [← e]; exact heap_alloc_new _ _
set_option maxHeartbeats 2000000 in
theorem toN_any (h : NH) (N : Nt) (w : World) (r : RdN w w.heap.size h N) (hq : ∀ q ∈ N.w, q.length ≤ 1048576) (hn : N.w.length ≤ 1048576) (hl : N.l.length ≤ 1048576) (hc : N.c.length ≤ 1048576) :
    Calls Tryz.prog 8 #[.agg #[.slice h.A N.w.length h.c, .slice h.L N.l.length h.d, .slice h.C N.c.length h.e]] w (CopiedN w N) := by
  obtain ⟨A, c, hs0, L, d, C, e0⟩ := h
  obtain ⟨ws, ls, cs⟩ := N
  obtain ⟨r1, r2, r3⟩ := r
  dsimp only at r1 r2 r3 hq hn hl hc ⊢
  obtain ⟨w3, hw3⟩ : ∃ w3, w3 = ((w.alloc (.cells #[.slice A ws.length c, .slice L ls.length d, .slice C cs.length e0] 26)).alloc (.cells #[.slice none 0 0, .slice none 0 0, .slice none 0 0] 30)).alloc (.cells #[.slice none 0 0, .slice none 0 0, .slice none 0 0] 30) := ⟨_, rfl⟩
  obtain ⟨hb, p0, p1, p2, hsz⟩ := three_any' w (.cells #[.slice A ws.length c, .slice L ls.length d, .slice C cs.length e0] 26) (.cells #[.slice none 0 0, .slice none 0 0, .slice none 0 0] 30) (.cells #[.slice none 0 0, .slice none 0 0, .slice none 0 0] 30)
  rw [← hw3] at hb p0 p1 p2 hsz
  have HQ := Lib.hid (toSS_any A ws.length c ws w3 ((r1.below hb).more hb.size) hq hn)
  have HR2 := Lib.hid r2; have HR3 := Lib.hid r3
  have HB3 := Lib.hid hb
  obtain ⟨a0, a1, a2⟩ := three_cells p0
  have P0 := Lib.hid p0; have P1 := Lib.hid p1; have P2 := Lib.hid p2
  clear hb r1 r2 r3 p0 p1 p2 hq
  go_enter Tryz.func8, Tryz.ntmps8
  go_wp2_with (fail)
  rw [← hw3]
  clear hw3
  refine HQ.out.mono ?_
  rintro e w4 ⟨hs, rfl, own4, bel4⟩
  have q0 := (bel4.block w.heap.size (by omega)).trans P0.out
  have q1 := (bel4.block (w.heap.size + 1) (by omega)).trans P1.out
  have q2 := (bel4.block (w.heap.size + 1 + 1) (by omega)).trans P2.out
  have hs4 := bel4.size
  have B4 := Lib.hid (HB3.out.trans (bel4.mono HB3.out.size))
  have O4 := Lib.hid own4
  clear bel4 own4 HB3 HQ a0 a1 a2 P0 P1 P2
  have hg3 : w.heap.size + 1 + 1 < w3.heap.size := by omega
  clear hsz
  generalize w3.heap.size = g at *
  -- the wires stored
  have B5 : Hid (Below w.heap.size w (w4.setCell ⟨w.heap.size + 1 + 1, 0, none⟩ (.slice (some ⟨g, 0, none⟩) ws.length ws.length))) := Lib.hid (B4.out.setCell (p := ⟨w.heap.size + 1 + 1, 0, none⟩) (by show w.heap.size ≤ w.heap.size + 1 + 1; omega) _)
  have s0 : (w4.setCell ⟨w.heap.size + 1 + 1, 0, none⟩ (.slice (some ⟨g, 0, none⟩) ws.length ws.length)).heap[w.heap.size + 1 + 1]? = some (.cells #[.slice (some ⟨g, 0, none⟩) ws.length ws.length, .slice none 0 0, .slice none 0 0] 30 (0, 0)) := by simpa using heap_setCell_same w4 (w.heap.size + 1 + 1) 0 _ _ (.slice (some ⟨g, 0, none⟩) ws.length ws.length) q2
  have s1 : (w4.setCell ⟨w.heap.size + 1 + 1, 0, none⟩ (.slice (some ⟨g, 0, none⟩) ws.length ws.length)).heap[w.heap.size + 1]? = _ := (Below.heap_setCell _ _ _ _ (by show w.heap.size + 1 ≠ w.heap.size + 1 + 1; omega)).trans q1
  have s2 : (w4.setCell ⟨w.heap.size + 1 + 1, 0, none⟩ (.slice (some ⟨g, 0, none⟩) ws.length ws.length)).heap[w.heap.size]? = _ := (Below.heap_setCell _ _ _ _ (by show w.heap.size ≠ w.heap.size + 1 + 1; omega)).trans q0
  have O5 : Hid (OwnQ (w4.setCell ⟨w.heap.size + 1 + 1, 0, none⟩ (.slice (some ⟨g, 0, none⟩) ws.length ws.length)) g w4.heap.size (.slice (some ⟨g, 0, none⟩) ws.length ws.length) hs ws) := Lib.hid (O4.out.setBelow (p := ⟨w.heap.size + 1 + 1, 0, none⟩) (by show w.heap.size + 1 + 1 < g; omega) _)
  obtain ⟨y0, y1, y2⟩ := three_cells q2
  have z0 := frozen_of_row _ _ 0 _ _ q2
  obtain ⟨a0, a1, a2⟩ := three_cells q0
  have S0 := Lib.hid s0; have S1 := Lib.hid s1; have S2 := Lib.hid s2
  clear s0 s1 s2 q0 q1 q2 O4 B4
  go_wp2_with (fail)
  have es5 : (w4.setCell ⟨w.heap.size + 1 + 1, 0, none⟩ (.slice (some ⟨g, 0, none⟩) ws.length ws.length)).heap.size = w4.heap.size := by simp
  clear y0 y1 y2 z0 a0 a1 a2
  generalize w4.setCell ⟨w.heap.size + 1 + 1, 0, none⟩ (.slice (some ⟨g, 0, none⟩) ws.length ws.length) = w5 at *
  refine (toLS_any L ls.length d ls w5 ((HR2.out.below B5.out).more B5.out.size) hl).mono ?_
  rintro e w6 ⟨rfl, own6, bel6⟩
  have q0 := (bel6.block w.heap.size (by omega)).trans S2.out
  have q1 := (bel6.block (w.heap.size + 1) (by omega)).trans S1.out
  have q2 := (bel6.block (w.heap.size + 1 + 1) (by omega)).trans S0.out
  have hs6 := bel6.size
  have B6 := Lib.hid (B5.out.trans (bel6.mono B5.out.size))
  have O6 := Lib.hid (O5.out.below bel6)
  have L6 := Lib.hid own6
  clear bel6 own6 B5 O5 S0 S1 S2
  generalize w5.heap.size = g5 at *
  subst es5
  -- the links stored
  obtain ⟨m, hm⟩ : ∃ m, w4.heap.size = m := ⟨_, rfl⟩
  rw [hm] at hs4 hs6 O6 L6 ⊢
  clear hm
  have B7 : Hid (Below w.heap.size w (w6.setCell ⟨w.heap.size + 1 + 1, 1, none⟩ (.slice (some ⟨m, 0, none⟩) ls.length ls.length))) := Lib.hid (B6.out.setCell (p := ⟨w.heap.size + 1 + 1, 1, none⟩) (by show w.heap.size ≤ w.heap.size + 1 + 1; omega) _)
  have s0 : (w6.setCell ⟨w.heap.size + 1 + 1, 1, none⟩ (.slice (some ⟨m, 0, none⟩) ls.length ls.length)).heap[w.heap.size + 1 + 1]? = some (.cells #[.slice (some ⟨g, 0, none⟩) ws.length ws.length, .slice (some ⟨m, 0, none⟩) ls.length ls.length, .slice none 0 0] 30 (0, 0)) := by simpa using heap_setCell_same w6 (w.heap.size + 1 + 1) 1 _ _ (.slice (some ⟨m, 0, none⟩) ls.length ls.length) q2
  have s1 : (w6.setCell ⟨w.heap.size + 1 + 1, 1, none⟩ (.slice (some ⟨m, 0, none⟩) ls.length ls.length)).heap[w.heap.size + 1]? = _ := (Below.heap_setCell _ _ _ _ (by show w.heap.size + 1 ≠ w.heap.size + 1 + 1; omega)).trans q1
  have s2 : (w6.setCell ⟨w.heap.size + 1 + 1, 1, none⟩ (.slice (some ⟨m, 0, none⟩) ls.length ls.length)).heap[w.heap.size]? = _ := (Below.heap_setCell _ _ _ _ (by show w.heap.size ≠ w.heap.size + 1 + 1; omega)).trans q0
  have O7 : Hid (OwnQ (w6.setCell ⟨w.heap.size + 1 + 1, 1, none⟩ (.slice (some ⟨m, 0, none⟩) ls.length ls.length)) g m (.slice (some ⟨g, 0, none⟩) ws.length ws.length) hs ws) := Lib.hid (O6.out.setBelow (p := ⟨w.heap.size + 1 + 1, 1, none⟩) (by show w.heap.size + 1 + 1 < g; omega) _)
  have L7 := Lib.hid (ownsRow_setCell_below L6.out (a := ⟨w.heap.size + 1 + 1, 1, none⟩) (by show w.heap.size + 1 + 1 < m; omega) (.slice (some ⟨m, 0, none⟩) ls.length ls.length))
  have hLb : Hid (∀ b, (Value.slice (some ⟨m, 0, none⟩) ls.length ls.length).ownBlock = some b → b < w6.heap.size) := Lib.hid fun b e => (L6.out.lt b e).2
  obtain ⟨y0, y1, y2⟩ := three_cells q2
  have z0 := frozen_of_row _ _ 1 _ _ q2
  obtain ⟨a0, a1, a2⟩ := three_cells q0
  have S0 := Lib.hid s0; have S1 := Lib.hid s1; have S2 := Lib.hid s2
  clear s0 s1 s2 q0 q1 q2 O6 B6 L6
  go_wp2_with (fail)
  have es7 : (w6.setCell ⟨w.heap.size + 1 + 1, 1, none⟩ (.slice (some ⟨m, 0, none⟩) ls.length ls.length)).heap.size = w6.heap.size := by simp
  clear y0 y1 y2 z0 a0 a1 a2
  generalize w6.setCell ⟨w.heap.size + 1 + 1, 1, none⟩ (.slice (some ⟨m, 0, none⟩) ls.length ls.length) = w7 at *
  refine (toInts_any C cs.length e0 cs w7 ((HR3.out.below B7.out).more B7.out.size) hc).mono ?_
  rintro e w8 ⟨rfl, own8, bel8⟩
  have q1 := (bel8.block (w.heap.size + 1) (by omega)).trans S1.out
  have q2 := (bel8.block (w.heap.size + 1 + 1) (by omega)).trans S0.out
  have hs8 := bel8.size
  have B8 := Lib.hid (B7.out.trans (bel8.mono B7.out.size))
  have O8 := Lib.hid (O7.out.below bel8)
  have L8 := Lib.hid (own_below L7.out bel8 (Nat.le_refl _))
  have C8 := Lib.hid own8
  clear bel8 own8 B7 O7 S0 S1 S2 L7
  generalize w7.heap.size = g7 at *
  subst es7
  obtain ⟨m2, hm2⟩ : ∃ m, w6.heap.size = m := ⟨_, rfl⟩
  rw [hm2] at hs6 hs8 C8 hLb ⊢
  clear hm2
  -- the conclusions stored; the whole copied
  have s0 : (w8.setCell ⟨w.heap.size + 1 + 1, 2, none⟩ (.slice (some ⟨m2, 0, none⟩) cs.length cs.length)).heap[w.heap.size + 1 + 1]? = some (.cells #[.slice (some ⟨g, 0, none⟩) ws.length ws.length, .slice (some ⟨m, 0, none⟩) ls.length ls.length, .slice (some ⟨m2, 0, none⟩) cs.length cs.length] 30 (0, 0)) := by simpa using heap_setCell_same w8 (w.heap.size + 1 + 1) 2 _ _ (.slice (some ⟨m2, 0, none⟩) cs.length cs.length) q2
  have s1 : (w8.setCell ⟨w.heap.size + 1 + 1, 2, none⟩ (.slice (some ⟨m2, 0, none⟩) cs.length cs.length)).heap[w.heap.size + 1]? = _ := (Below.heap_setCell _ _ _ _ (by show w.heap.size + 1 ≠ w.heap.size + 1 + 1; omega)).trans q1
  have F := set3_at s1 (.slice (some ⟨g, 0, none⟩) ws.length ws.length) (.slice (some ⟨m, 0, none⟩) ls.length ls.length) (.slice (some ⟨m2, 0, none⟩) cs.length cs.length)
  have HF := Lib.hid F
  have ON : Hid (OwnN w8 g w8.heap.size ⟨some ⟨g, 0, none⟩, ws.length, hs, some ⟨m, 0, none⟩, ls.length, some ⟨m2, 0, none⟩, cs.length⟩ ⟨ws, ls, cs⟩) := Lib.hid ((OwnN.mk' (lo := g) (hi := w8.heap.size) (m1 := m) (m2 := m2) (h := ⟨some ⟨g, 0, none⟩, ws.length, hs, some ⟨m, 0, none⟩, ls.length, some ⟨m2, 0, none⟩, cs.length⟩) (N := ⟨ws, ls, cs⟩) O8.out L8.out hLb.out C8.out hs4 hs6 (Nat.le_refl _) hs8))
  obtain ⟨y0, y1, y2⟩ := three_cells q2
  have z0 := frozen_of_row _ _ 2 _ _ q2
  obtain ⟨a0, a1, a2⟩ := three_cells q1
  have f0 := frozen_of_row _ _ 0 _ _ q1; have f1 := frozen_of_row _ _ 1 _ _ q1; have f2 := frozen_of_row _ _ 2 _ _ q1
  have hsz8 : w.heap.size + 1 + 1 < w8.heap.size := by omega
  clear s0 s1 q1 q2 O8 L8 C8 hLb F
  go_wp2
  (try simp only [Exit.inBlock, Exit.then])
  refine bodyPost_ret (results_cell_row rfl _ _ (w.heap.size + 1) _ _ (0, 0) _ rfl HF.out Tryz.underlying30 rfl (by kernel_rfl)) rfl ?_
  refine ⟨⟨some ⟨g, 0, none⟩, ws.length, hs, some ⟨m, 0, none⟩, ls.length, some ⟨m2, 0, none⟩, cs.length⟩, rfl, ?_, ?_⟩
  · have o := own_setN (own_setN (own_setN (own_setN ON.out (b := w.heap.size + 1 + 1) (o := 2) (by omega) (.slice (some ⟨m2, 0, none⟩) cs.length cs.length)) (b := w.heap.size + 1) (o := 0) (by omega) (.slice (some ⟨g, 0, none⟩) ws.length ws.length)) (b := w.heap.size + 1) (o := 1) (by omega) (.slice (some ⟨m, 0, none⟩) ls.length ls.length)) (b := w.heap.size + 1) (o := 2) (by omega) (.slice (some ⟨m2, 0, none⟩) cs.length cs.length)
    exact o.more (by omega) (by simp)
  · exact set3_below (B8.out.setCell (p := ⟨w.heap.size + 1 + 1, 2, none⟩) (by show w.heap.size ≤ w.heap.size + 1 + 1; omega) _) (by omega) _ _ _
theorem eqLk_any (x : Lk) (w : World) : Calls Tryz.prog 70 #[.agg #[.int .i64 x.k, .int .i64 x.a, .int .i64 x.b, .int .i64 x.c], .agg #[.int .i64 x.k, .int .i64 x.a, .int .i64 x.b, .int .i64 x.c]] w fun e w' => e = .returned (.bool true) ∧ Below w.heap.size w w' := by
  obtain ⟨k, a, b, c⟩ := x
  dsimp only
  have e1 : (k != k) = false := by simp
  have e2 : (a != a) = false := by simp
  have e3 : (b != b) = false := by simp
  have e4 : (c != c) = false := by simp
  go_enter Tryz.func70, Tryz.ntmps70
  go_wp2
  go_ret
  exact ⟨rfl, ((Below.refl _ _).alloc (Nat.le_refl _) _).alloc (by simp) _⟩
set_option maxHeartbeats 2000000 in
theorem eqLS_any (A A2 : Option Addr) (n c c2 : Nat) (ls : List Lk) (w : World) (h : RdL w w.heap.size A n ls) (h' : RdL w w.heap.size A2 n ls) (hn : n ≤ 1048576) :
    Calls Tryz.prog 32 #[.slice A n c, .slice A2 n c2] w fun e w' => e = .returned (.bool true) ∧ Below w.heap.size w w' := by
  have hl := h.len
  have hnn : (n != n) = false := by simp
  have HR := Lib.hid h; have HR2 := Lib.hid h'
  clear h h'
  go_enter Tryz.func32, Tryz.ntmps32
  go_wp2
  go_loopw [5] (fun i wr => ∃ k : Nat, k ≤ n ∧ i = .int .i64 k ∧ Below w.heap.size w wr) (fun i _ => n - (intOf i).toNat)
  case atStart => exact ⟨0, Nat.zero_le _, rfl, Below.refl _ _⟩
  case round =>
    obtain ⟨k, hk, rfl, hB⟩ := hrel
    have HB := Lib.hid hB
    by_cases hlt : k < n
    · obtain ⟨b, off, rfl, hbb, hcells⟩ := HR.out.at (by omega)
      obtain ⟨b2, off2, rfl, hbb2, hcells2⟩ := HR2.out.at (by omega)
      obtain ⟨x0, x1, x2, x3⟩ := hcells k hlt
      obtain ⟨y0, y1, y2, y3⟩ := hcells2 k hlt
      replace x0 := (hB.cell (p := ⟨b, off + k * 4, none⟩) hbb).trans x0
      replace x1 := (hB.cell (p := ⟨b, off + k * 4 + 1, none⟩) hbb).trans x1
      replace x2 := (hB.cell (p := ⟨b, off + k * 4 + 2, none⟩) hbb).trans x2
      replace x3 := (hB.cell (p := ⟨b, off + k * 4 + 3, none⟩) hbb).trans x3
      replace y0 := (hB.cell (p := ⟨b2, off2 + k * 4, none⟩) hbb2).trans y0
      replace y1 := (hB.cell (p := ⟨b2, off2 + k * 4 + 1, none⟩) hbb2).trans y1
      replace y2 := (hB.cell (p := ⟨b2, off2 + k * 4 + 2, none⟩) hbb2).trans y2
      replace y3 := (hB.cell (p := ⟨b2, off2 + k * 4 + 3, none⟩) hbb2).trans y3
      have HE := Lib.hid (eqLk_any (ls.getD k Lk.nil) wr.drew)
      have hi1 : (k : Int) < (n : Int) := by omega
      clear hcells hcells2 hB
      generalize (ls.getD k Lk.nil).k = sk at *; generalize (ls.getD k Lk.nil).a = sa at *; generalize (ls.getD k Lk.nil).b = sb at *; generalize (ls.getD k Lk.nil).c = sc at *
      go_wp2_with (fail)
      go_region_with (go_at_call 70; refine HE.out.mono ?_; rintro e wf ⟨rfl, bf'⟩; have bf := undrew bf'; clear bf')
      all_goals go_wp2
      all_goals
        go_roundw
        case rel => exact ⟨k + 1, by omega, by go_num, HB.out.trans (bf.mono HB.out.size)⟩
        case measure => simp [intOf]; omega
    · have hkl : k = n := by omega
      subst hkl
      clear hB
      go_wp2
      go_ret
      exact ⟨rfl, HB.out⟩
set_option maxHeartbeats 1000000 in
theorem eqN_any (h h' : NH) (N : Nt) (w : World) (r : RdN w w.heap.size h N) (r' : RdN w w.heap.size h' N) (hq : ∀ q ∈ N.w, q.length ≤ 1048576) (hn : N.w.length ≤ 1048576) (hl : N.l.length ≤ 1048576) (hc : N.c.length ≤ 1048576) :
    Calls Tryz.prog 10 #[.agg #[.slice h.A N.w.length h.c, .slice h.L N.l.length h.d, .slice h.C N.c.length h.e], .agg #[.slice h'.A N.w.length h'.c, .slice h'.L N.l.length h'.d, .slice h'.C N.c.length h'.e]] w fun e w' => e = .returned (.bool true) ∧ Below w.heap.size w w' := by
  obtain ⟨A, c, hs0, L, d, C, e0⟩ := h
  obtain ⟨A2, c2, hs2, L2, d2, C2, e2⟩ := h'
  obtain ⟨ws, ls, cs⟩ := N
  obtain ⟨r1, r2, r3⟩ := r
  obtain ⟨t1, t2, t3⟩ := r'
  dsimp only at r1 r2 r3 t1 t2 t3 hq hn hl hc ⊢
  obtain ⟨w2, hw2⟩ : ∃ w2, w2 = (w.alloc (.cells #[.slice A ws.length c, .slice L ls.length d, .slice C cs.length e0] 30)).alloc (.cells #[.slice A2 ws.length c2, .slice L2 ls.length d2, .slice C2 cs.length e2] 30) := ⟨_, rfl⟩
  have hb : Below w.heap.size w w2 := by
    rw [hw2]
    exact ((Below.refl _ _).alloc (Nat.le_refl _) _).alloc (by simp) _
  have p0 : w2.heap[w.heap.size]? = some (.cells #[.slice A ws.length c, .slice L ls.length d, .slice C cs.length e0] 30 (0, 0)) := by
    rw [hw2, Below.heap_alloc _ _ _ (by simp)]; exact heap_alloc_new _ _
  have p1 : w2.heap[w.heap.size + 1]? = some (.cells #[.slice A2 ws.length c2, .slice L2 ls.length d2, .slice C2 cs.length e2] 30 (0, 0)) := by
    rw [hw2]
    have e : (w.alloc (.cells #[.slice A ws.length c, .slice L ls.length d, .slice C cs.length e0] 30)).heap.size = w.heap.size + 1 := by simp
    rw [← e]; exact heap_alloc_new _ _
  have hsz : w.heap.size + 1 < w2.heap.size := by rw [hw2]; simp
  have HE1 := Lib.hid (eqQ_x A A2 ws.length c c2 ws w2 ((r1.below hb).more hb.size) ((t1.below hb).more hb.size) hn hq)
  have HL1 := Lib.hid r2; have HL2 := Lib.hid t2; have HC1 := Lib.hid r3; have HC2 := Lib.hid t3
  have HB := Lib.hid hb
  obtain ⟨a0, a1, a2⟩ := three_cells p0
  obtain ⟨b0, b1, b2⟩ := three_cells p1
  clear hb r1 r2 r3 t1 t2 t3 hq
  go_enter Tryz.func10, Tryz.ntmps10
  go_wp2_with (fail)
  rw [← hw2]
  clear hw2
  refine HE1.out.mono ?_
  rintro e w3 ⟨rfl, bel3⟩
  replace p0 := (bel3.block _ (by omega)).trans p0
  replace p1 := (bel3.block _ (by omega)).trans p1
  have hs3 := bel3.size
  have HB3 := Lib.hid (HB.out.trans (bel3.mono HB.out.size))
  clear a0 a1 a2 b0 b1 b2 bel3 HB HE1
  obtain ⟨a0, a1, a2⟩ := three_cells p0
  obtain ⟨b0, b1, b2⟩ := three_cells p1
  go_wp2_with (fail)
  refine (eqLS_any L L2 ls.length d d2 ls w3 ((HL1.out.below HB3.out).more HB3.out.size) ((HL2.out.below HB3.out).more HB3.out.size) hl).mono ?_
  rintro e w4 ⟨rfl, bel4⟩
  replace p0 := (bel4.block _ (by omega)).trans p0
  replace p1 := (bel4.block _ (by omega)).trans p1
  have HB4 := Lib.hid (HB3.out.trans (bel4.mono HB3.out.size))
  clear a0 a1 a2 b0 b1 b2 bel4 HB3
  obtain ⟨a0, a1, a2⟩ := three_cells p0
  obtain ⟨b0, b1, b2⟩ := three_cells p1
  go_wp2_with (fail)
  refine (eqI_x C C2 cs.length e0 e2 cs w4 ((HC1.out.below HB4.out).more HB4.out.size) ((HC2.out.below HB4.out).more HB4.out.size) hc).mono ?_
  rintro e w5 ⟨rfl, bel5⟩
  have HB5 := Lib.hid (HB4.out.trans (bel5.mono HB4.out.size))
  clear bel5
  go_wp2
  go_ret
  exact ⟨rfl, HB5.out⟩
end Go.Proofs.YtgpocnapkflihaaGreatDoor
