/- Sources, targets and kinds of links, of the model. Mathematics: the text of the tree of links above a wire, with the numbers' texts given by 'dec'. The laws' helpers at nets: the copy, the comparison. A net copied, by the model. SwappedSeq of the program and of the model. The net of an axiom, of the model. Counts of uses: plain mathematics. Substitution: the mathematics; the model's IsBinding, subst, SubstForm. The program's bindings, arrays of eight slices: bindingOf, IsBinding. The program's bindingOf and IsBinding. The program's IsBinding, atomOf, forSymbol. The model's subst and SubstForm. The program's inForm: substitution in a list of symbols. Rows of headers: a row of one's own whose parts lie wherever. slices.Contains; the program's without. -/
import Derived.Test.YtfdpkhiiboghiaaGreatDoorJNetY
import Derived.Test.YtfdpkhiiboghiaaGreatDoorJQNetV
import Derived.Test.YtfdpkhiiboghiaaGreatDoorJQSeqV
import Derived.Test.YtfdpkhiiboghiaaGreatDoorJQMath
import Derived.Maps.AppendAt
import Derived.Deep.RegionHeld3
import Derived.BigRegion
import Derived.Laws.ResultCell
import Derived.Deep.RegionHeldLaw
import Derived.Test.YtfdpkhiiboghiaaGreatDoorJQDual
import Derived.Test.YtfdpkhiiboghiaaGreatDoorJQValid
import Derived.Laws.Tables
import Derived.Laws.CopyOwn
import Derived.Deep.Cut
import Derived.Deep.QuietTactic
import Derived.BigQuiet
import Derived.Deep.RegionLaw
import Derived.Deep.AppendLies
import Derived.Laws.AppendOwnNone
namespace Go.Proofs.YtfdpkhiiboghiaaGreatDoor
set_option linter.unusedSimpArgs false
set_option linter.unusedVariables false
section
open Go.ChangeAt Go.ChangeShapes Go.RowKit Go.WideShapes

/-- The wire is an output, or an input, of the link. -/
def srcB (x : Int) (l : Lk) : Bool := (l.k == 1 && (l.a == x || l.b == x)) || ((l.k == 3 || l.k == 4) && l.c == x)
def tgtB (x : Int) (l : Lk) : Bool := l.k != 1 && (l.a == x || l.b == x)
/-- The first link for which p holds, or -1. -/
def firstN (p : Lk → Bool) (ls : List Lk) : Int := match ls.findIdx? p with | some i => i | none => -1
theorem firstN_at {p : Lk → Bool} {ls : List Lk} {k : Nat} (hk : k < ls.length) (h : ∀ j, j < k → p (ls.getD j Lk.nil) = false) (hp : p (ls.getD k Lk.nil) = true) : firstN p ls = k := by
  have e : ls.findIdx? p = some k := by
    rw [List.findIdx?_eq_some_iff_getElem]
    refine ⟨hk, by simpa [List.getD, hk] using hp, fun j hj => ?_⟩
    have := h j hj
    have hj2 : j < ls.length := by omega
    simpa [List.getD, hj2] using this
  unfold firstN; rw [e]
theorem firstN_none {p : Lk → Bool} {ls : List Lk} (h : ∀ j, j < ls.length → p (ls.getD j Lk.nil) = false) : firstN p ls = -1 := by
  have e : ls.findIdx? p = none := by
    rw [List.findIdx?_eq_none_iff]
    intro l hl
    obtain ⟨j, hj, rfl⟩ := List.getElem_of_mem hl
    have := h j hj
    simpa [List.getD, hj] using this
  unfold firstN; rw [e]
theorem below_step {p : Lk → Bool} {ls : List Lk} {k : Nat} (h : ∀ j, j < k → p (ls.getD j Lk.nil) = false) (hp : p (ls.getD k Lk.nil) = false) : ∀ j, j < k + 1 → p (ls.getD j Lk.nil) = false := fun j hj => by
  by_cases e : j < k
  · exact h j e
  · obtain rfl : j = k := by omega
    exact hp
/-- SourceOf. -/
def srcN (N : Nt) (x : Int) : Int := if valN N && inW N.w.length x then firstN (srcB x) N.l else -1
end
section
open Go.ChangeAt Go.ChangeShapes Go.RowKit Go.WideShapes

theorem link_fits {N : Nt} (hv : valN N = true) {k : Nat} (hk : k < N.l.length) : fitsN N.w (N.l.getD k Lk.nil) = true := (List.all_eq_true.1 (valN_fits hv)) _ (getL_mem hk)
end
section
open Go.ChangeAt Go.ChangeShapes Go.RowKit Go.WideShapes

/-- What the copy of a net leaves. -/
def CopiedN (w : World) (N : Nt) (e : Ending) (w' : World) : Prop :=
  ∃ h : NH, e = .returned (.agg #[.slice h.A N.w.length h.c, .slice h.L N.l.length h.d, .slice h.C N.c.length h.e]) ∧ OwnN w' w.heap.size w'.heap.size h N ∧ Below w.heap.size w w'
theorem set3_at {w : World} {b : Nat} {c0 c1 c2 : Value} {t : TypeId} (h : w.heap[b]? = some (.cells #[c0, c1, c2] t (0, 0))) (v0 v1 v2 : Value) :
    (((w.setCell ⟨b, 0, none⟩ v0).setCell ⟨b, 1, none⟩ v1).setCell ⟨b, 2, none⟩ v2).heap[b]? = some (.cells #[v0, v1, v2] t (0, 0)) := by
  have h0 := heap_setCell_same w b 0 _ t v0 h
  have h1 := heap_setCell_same _ b 1 _ t v1 h0
  have h2 := heap_setCell_same _ b 2 _ t v2 h1
  simpa using h2
theorem set3_below {w0 w : World} {B b : Nat} (h : Below B w0 w) (hb : B ≤ b) (v0 v1 v2 : Value) : Below B w0 (((w.setCell ⟨b, 0, none⟩ v0).setCell ⟨b, 1, none⟩ v1).setCell ⟨b, 2, none⟩ v2) :=
  ((h.setCell (p := ⟨b, 0, none⟩) hb v0).setCell (p := ⟨b, 1, none⟩) hb v1).setCell (p := ⟨b, 2, none⟩) hb v2
theorem own_setN {w : World} {lo hi b o : Nat} {h : NH} {N : Nt} (r : OwnN w lo hi h N) (hb : b < lo) (u : Value) : OwnN (w.setCell ⟨b, o, none⟩ u) lo hi h N := r.same fun k h1 _ _ => Below.heap_setCell _ _ _ _ (by show k ≠ b; omega)
theorem three_any' (w : World) (o p q : Obj) : Below w.heap.size w (((w.alloc o).alloc p).alloc q) ∧ (((w.alloc o).alloc p).alloc q).heap[w.heap.size]? = some o ∧ (((w.alloc o).alloc p).alloc q).heap[w.heap.size + 1]? = some p ∧ (((w.alloc o).alloc p).alloc q).heap[w.heap.size + 1 + 1]? = some q ∧ (((w.alloc o).alloc p).alloc q).heap.size = w.heap.size + 1 + 1 + 1 := by
  refine ⟨(((Below.refl _ _).alloc (Nat.le_refl _) _).alloc (by simp) _).alloc (by simp; omega) _, ?_, heap_two _ _ _ _, ?_, by simp⟩
  · rw [Below.heap_alloc _ _ _ (by simp; omega), Below.heap_alloc _ _ _ (by simp)]; exact heap_alloc_new _ _
  · have e : ((w.alloc o).alloc p).heap.size = w.heap.size + 1 + 1 := by simp
    rw [← e]; exact heap_alloc_new _ _
set_option maxHeartbeats 2000000 in
theorem toN_any (h : NH) (N : Nt) (w : World) (r : RdN w w.heap.size h N) (hq : ∀ q ∈ N.w, q.length ≤ 1048576) (hn : N.w.length ≤ 1048576) (hl : N.l.length ≤ 1048576) (hc : N.c.length ≤ 1048576) :
    Calls Tryz.prog 15 #[.agg #[.slice h.A N.w.length h.c, .slice h.L N.l.length h.d, .slice h.C N.c.length h.e]] w (CopiedN w N) := by
  obtain ⟨A, c, hs0, L, d, C, e0⟩ := h
  obtain ⟨ws, ls, cs⟩ := N
  obtain ⟨r1, r2, r3⟩ := r
  dsimp only at r1 r2 r3 hq hn hl hc ⊢
  obtain ⟨w3, hw3⟩ : ∃ w3, w3 = ((w.alloc (.cells #[.slice A ws.length c, .slice L ls.length d, .slice C cs.length e0] 26)).alloc (.cells #[.slice none 0 0, .slice none 0 0, .slice none 0 0] 30)).alloc (.cells #[.slice none 0 0, .slice none 0 0, .slice none 0 0] 30) := ⟨_, rfl⟩
  obtain ⟨hb, p0, p1, p2, hsz⟩ := three_any' w (.cells #[.slice A ws.length c, .slice L ls.length d, .slice C cs.length e0] 26) (.cells #[.slice none 0 0, .slice none 0 0, .slice none 0 0] 30) (.cells #[.slice none 0 0, .slice none 0 0, .slice none 0 0] 30)
  rw [← hw3] at hb p0 p1 p2 hsz
  have HQ := Lib.hid (toSS_any A ws.length c ws w3 ((r1.below hb).more hb.size) hq hn)
  have HR2 := Lib.hid r2; have HR3 := Lib.hid r3
  have HB3 := Lib.hid hb
  obtain ⟨a0, a1, a2⟩ := three_cells p0
  have P0 := Lib.hid p0; have P1 := Lib.hid p1; have P2 := Lib.hid p2
  clear hb r1 r2 r3 p0 p1 p2 hq
  go_enter Tryz.func15, Tryz.ntmps15
  go_wp2_with (fail)
  rw [← hw3]
  clear hw3
  refine HQ.out.mono ?_
  rintro e w4 ⟨hs, rfl, own4, bel4⟩
  have q0 := (bel4.block w.heap.size (by omega)).trans P0.out
  have q1 := (bel4.block (w.heap.size + 1) (by omega)).trans P1.out
  have q2 := (bel4.block (w.heap.size + 1 + 1) (by omega)).trans P2.out
  have hs4 := bel4.size
  have B4 := Lib.hid (HB3.out.trans (bel4.mono HB3.out.size))
  have O4 := Lib.hid own4
  clear bel4 own4 HB3 HQ a0 a1 a2 P0 P1 P2
  have hg3 : w.heap.size + 1 + 1 < w3.heap.size := by omega
  clear hsz
  generalize w3.heap.size = g at *
  -- the wires stored
  have B5 : Hid (Below w.heap.size w (w4.setCell ⟨w.heap.size + 1 + 1, 0, none⟩ (.slice (some ⟨g, 0, none⟩) ws.length ws.length))) := Lib.hid (B4.out.setCell (p := ⟨w.heap.size + 1 + 1, 0, none⟩) (by show w.heap.size ≤ w.heap.size + 1 + 1; omega) _)
  have s0 : (w4.setCell ⟨w.heap.size + 1 + 1, 0, none⟩ (.slice (some ⟨g, 0, none⟩) ws.length ws.length)).heap[w.heap.size + 1 + 1]? = some (.cells #[.slice (some ⟨g, 0, none⟩) ws.length ws.length, .slice none 0 0, .slice none 0 0] 30 (0, 0)) := by simpa using heap_setCell_same w4 (w.heap.size + 1 + 1) 0 _ _ (.slice (some ⟨g, 0, none⟩) ws.length ws.length) q2
  have s1 : (w4.setCell ⟨w.heap.size + 1 + 1, 0, none⟩ (.slice (some ⟨g, 0, none⟩) ws.length ws.length)).heap[w.heap.size + 1]? = _ := (Below.heap_setCell _ _ _ _ (by show w.heap.size + 1 ≠ w.heap.size + 1 + 1; omega)).trans q1
  have s2 : (w4.setCell ⟨w.heap.size + 1 + 1, 0, none⟩ (.slice (some ⟨g, 0, none⟩) ws.length ws.length)).heap[w.heap.size]? = _ := (Below.heap_setCell _ _ _ _ (by show w.heap.size ≠ w.heap.size + 1 + 1; omega)).trans q0
  have O5 : Hid (OwnQ (w4.setCell ⟨w.heap.size + 1 + 1, 0, none⟩ (.slice (some ⟨g, 0, none⟩) ws.length ws.length)) g w4.heap.size (.slice (some ⟨g, 0, none⟩) ws.length ws.length) hs ws) := Lib.hid (O4.out.setBelow (p := ⟨w.heap.size + 1 + 1, 0, none⟩) (by show w.heap.size + 1 + 1 < g; omega) _)
  obtain ⟨y0, y1, y2⟩ := three_cells q2
  have z0 := frozen_of_row _ _ 0 _ _ q2
  obtain ⟨a0, a1, a2⟩ := three_cells q0
  have S0 := Lib.hid s0; have S1 := Lib.hid s1; have S2 := Lib.hid s2
  clear s0 s1 s2 q0 q1 q2 O4 B4
  go_wp2_with (fail)
  have es5 : (w4.setCell ⟨w.heap.size + 1 + 1, 0, none⟩ (.slice (some ⟨g, 0, none⟩) ws.length ws.length)).heap.size = w4.heap.size := by simp
  clear y0 y1 y2 z0 a0 a1 a2
  generalize w4.setCell ⟨w.heap.size + 1 + 1, 0, none⟩ (.slice (some ⟨g, 0, none⟩) ws.length ws.length) = w5 at *
  refine (toLS_any L ls.length d ls w5 ((HR2.out.below B5.out).more B5.out.size) hl).mono ?_
  rintro e w6 ⟨rfl, own6, bel6⟩
  have q0 := (bel6.block w.heap.size (by omega)).trans S2.out
  have q1 := (bel6.block (w.heap.size + 1) (by omega)).trans S1.out
  have q2 := (bel6.block (w.heap.size + 1 + 1) (by omega)).trans S0.out
  have hs6 := bel6.size
  have B6 := Lib.hid (B5.out.trans (bel6.mono B5.out.size))
  have O6 := Lib.hid (O5.out.below bel6)
  have L6 := Lib.hid own6
  clear bel6 own6 B5 O5 S0 S1 S2
  generalize w5.heap.size = g5 at *
  subst es5
  -- the links stored
  obtain ⟨m, hm⟩ : ∃ m, w4.heap.size = m := ⟨_, rfl⟩
  rw [hm] at hs4 hs6 O6 L6 ⊢
  clear hm
  have B7 : Hid (Below w.heap.size w (w6.setCell ⟨w.heap.size + 1 + 1, 1, none⟩ (.slice (some ⟨m, 0, none⟩) ls.length ls.length))) := Lib.hid (B6.out.setCell (p := ⟨w.heap.size + 1 + 1, 1, none⟩) (by show w.heap.size ≤ w.heap.size + 1 + 1; omega) _)
  have s0 : (w6.setCell ⟨w.heap.size + 1 + 1, 1, none⟩ (.slice (some ⟨m, 0, none⟩) ls.length ls.length)).heap[w.heap.size + 1 + 1]? = some (.cells #[.slice (some ⟨g, 0, none⟩) ws.length ws.length, .slice (some ⟨m, 0, none⟩) ls.length ls.length, .slice none 0 0] 30 (0, 0)) := by simpa using heap_setCell_same w6 (w.heap.size + 1 + 1) 1 _ _ (.slice (some ⟨m, 0, none⟩) ls.length ls.length) q2
  have s1 : (w6.setCell ⟨w.heap.size + 1 + 1, 1, none⟩ (.slice (some ⟨m, 0, none⟩) ls.length ls.length)).heap[w.heap.size + 1]? = _ := (Below.heap_setCell _ _ _ _ (by show w.heap.size + 1 ≠ w.heap.size + 1 + 1; omega)).trans q1
  have s2 : (w6.setCell ⟨w.heap.size + 1 + 1, 1, none⟩ (.slice (some ⟨m, 0, none⟩) ls.length ls.length)).heap[w.heap.size]? = _ := (Below.heap_setCell _ _ _ _ (by show w.heap.size ≠ w.heap.size + 1 + 1; omega)).trans q0
  have O7 : Hid (OwnQ (w6.setCell ⟨w.heap.size + 1 + 1, 1, none⟩ (.slice (some ⟨m, 0, none⟩) ls.length ls.length)) g m (.slice (some ⟨g, 0, none⟩) ws.length ws.length) hs ws) := Lib.hid (O6.out.setBelow (p := ⟨w.heap.size + 1 + 1, 1, none⟩) (by show w.heap.size + 1 + 1 < g; omega) _)
  have L7 := Lib.hid (ownsRow_setCell_below L6.out (a := ⟨w.heap.size + 1 + 1, 1, none⟩) (by show w.heap.size + 1 + 1 < m; omega) (.slice (some ⟨m, 0, none⟩) ls.length ls.length))
  have hLb : Hid (∀ b, (Value.slice (some ⟨m, 0, none⟩) ls.length ls.length).ownBlock = some b → b < w6.heap.size) := Lib.hid fun b e => (L6.out.lt b e).2
  obtain ⟨y0, y1, y2⟩ := three_cells q2
  have z0 := frozen_of_row _ _ 1 _ _ q2
  obtain ⟨a0, a1, a2⟩ := three_cells q0
  have S0 := Lib.hid s0; have S1 := Lib.hid s1; have S2 := Lib.hid s2
  clear s0 s1 s2 q0 q1 q2 O6 B6 L6
  go_wp2_with (fail)
  have es7 : (w6.setCell ⟨w.heap.size + 1 + 1, 1, none⟩ (.slice (some ⟨m, 0, none⟩) ls.length ls.length)).heap.size = w6.heap.size := by simp
  clear y0 y1 y2 z0 a0 a1 a2
  generalize w6.setCell ⟨w.heap.size + 1 + 1, 1, none⟩ (.slice (some ⟨m, 0, none⟩) ls.length ls.length) = w7 at *
  refine (toInts_any C cs.length e0 cs w7 ((HR3.out.below B7.out).more B7.out.size) hc).mono ?_
  rintro e w8 ⟨rfl, own8, bel8⟩
  have q1 := (bel8.block (w.heap.size + 1) (by omega)).trans S1.out
  have q2 := (bel8.block (w.heap.size + 1 + 1) (by omega)).trans S0.out
  have hs8 := bel8.size
  have B8 := Lib.hid (B7.out.trans (bel8.mono B7.out.size))
  have O8 := Lib.hid (O7.out.below bel8)
  have L8 := Lib.hid (own_below L7.out bel8 (Nat.le_refl _))
  have C8 := Lib.hid own8
  clear bel8 own8 B7 O7 S0 S1 S2 L7
  generalize w7.heap.size = g7 at *
  subst es7
  obtain ⟨m2, hm2⟩ : ∃ m, w6.heap.size = m := ⟨_, rfl⟩
  rw [hm2] at hs6 hs8 C8 hLb ⊢
  clear hm2
  -- the conclusions stored; the whole copied
  have s0 : (w8.setCell ⟨w.heap.size + 1 + 1, 2, none⟩ (.slice (some ⟨m2, 0, none⟩) cs.length cs.length)).heap[w.heap.size + 1 + 1]? = some (.cells #[.slice (some ⟨g, 0, none⟩) ws.length ws.length, .slice (some ⟨m, 0, none⟩) ls.length ls.length, .slice (some ⟨m2, 0, none⟩) cs.length cs.length] 30 (0, 0)) := by simpa using heap_setCell_same w8 (w.heap.size + 1 + 1) 2 _ _ (.slice (some ⟨m2, 0, none⟩) cs.length cs.length) q2
  have s1 : (w8.setCell ⟨w.heap.size + 1 + 1, 2, none⟩ (.slice (some ⟨m2, 0, none⟩) cs.length cs.length)).heap[w.heap.size + 1]? = _ := (Below.heap_setCell _ _ _ _ (by show w.heap.size + 1 ≠ w.heap.size + 1 + 1; omega)).trans q1
  have F := set3_at s1 (.slice (some ⟨g, 0, none⟩) ws.length ws.length) (.slice (some ⟨m, 0, none⟩) ls.length ls.length) (.slice (some ⟨m2, 0, none⟩) cs.length cs.length)
  have HF := Lib.hid F
  have ON : Hid (OwnN w8 g w8.heap.size ⟨some ⟨g, 0, none⟩, ws.length, hs, some ⟨m, 0, none⟩, ls.length, some ⟨m2, 0, none⟩, cs.length⟩ ⟨ws, ls, cs⟩) := Lib.hid ((OwnN.mk' (lo := g) (hi := w8.heap.size) (m1 := m) (m2 := m2) (h := ⟨some ⟨g, 0, none⟩, ws.length, hs, some ⟨m, 0, none⟩, ls.length, some ⟨m2, 0, none⟩, cs.length⟩) (N := ⟨ws, ls, cs⟩) O8.out L8.out hLb.out C8.out hs4 hs6 (Nat.le_refl _) hs8))
  obtain ⟨y0, y1, y2⟩ := three_cells q2
  have z0 := frozen_of_row _ _ 2 _ _ q2
  obtain ⟨a0, a1, a2⟩ := three_cells q1
  have f0 := frozen_of_row _ _ 0 _ _ q1; have f1 := frozen_of_row _ _ 1 _ _ q1; have f2 := frozen_of_row _ _ 2 _ _ q1
  have hsz8 : w.heap.size + 1 + 1 < w8.heap.size := by omega
  clear s0 s1 q1 q2 O8 L8 C8 hLb F
  go_wp2
  (try simp only [Exit.inBlock, Exit.then])
  refine bodyPost_ret (results_cell_row rfl _ _ (w.heap.size + 1) _ _ (0, 0) _ rfl HF.out Tryz.underlying30 rfl (by kernel_rfl)) rfl ?_
  refine ⟨⟨some ⟨g, 0, none⟩, ws.length, hs, some ⟨m, 0, none⟩, ls.length, some ⟨m2, 0, none⟩, cs.length⟩, rfl, ?_, ?_⟩
  · have o := own_setN (own_setN (own_setN (own_setN ON.out (b := w.heap.size + 1 + 1) (o := 2) (by omega) (.slice (some ⟨m2, 0, none⟩) cs.length cs.length)) (b := w.heap.size + 1) (o := 0) (by omega) (.slice (some ⟨g, 0, none⟩) ws.length ws.length)) (b := w.heap.size + 1) (o := 1) (by omega) (.slice (some ⟨m, 0, none⟩) ls.length ls.length)) (b := w.heap.size + 1) (o := 2) (by omega) (.slice (some ⟨m2, 0, none⟩) cs.length cs.length)
    exact o.more (by omega) (by simp)
  · exact set3_below (B8.out.setCell (p := ⟨w.heap.size + 1 + 1, 2, none⟩) (by show w.heap.size ≤ w.heap.size + 1 + 1; omega) _) (by omega) _ _ _
theorem eqLk_any (x : Lk) (w : World) : Calls Tryz.prog 107 #[.agg #[.int .i64 x.k, .int .i64 x.a, .int .i64 x.b, .int .i64 x.c], .agg #[.int .i64 x.k, .int .i64 x.a, .int .i64 x.b, .int .i64 x.c]] w fun e w' => e = .returned (.bool true) ∧ Below w.heap.size w w' := by
  obtain ⟨k, a, b, c⟩ := x
  dsimp only
  have e1 : (k != k) = false := by simp
  have e2 : (a != a) = false := by simp
  have e3 : (b != b) = false := by simp
  have e4 : (c != c) = false := by simp
  go_enter Tryz.func107, Tryz.ntmps107
  go_wp2
  go_ret
  exact ⟨rfl, ((Below.refl _ _).alloc (Nat.le_refl _) _).alloc (by simp) _⟩
set_option maxHeartbeats 2000000 in
theorem eqLS_any (A A2 : Option Addr) (n c c2 : Nat) (ls : List Lk) (w : World) (h : RdL w w.heap.size A n ls) (h' : RdL w w.heap.size A2 n ls) (hn : n ≤ 1048576) :
    Calls Tryz.prog 52 #[.slice A n c, .slice A2 n c2] w fun e w' => e = .returned (.bool true) ∧ Below w.heap.size w w' := by
  have hl := h.len
  have hnn : (n != n) = false := by simp
  have HR := Lib.hid h; have HR2 := Lib.hid h'
  clear h h'
  go_enter Tryz.func52, Tryz.ntmps52
  go_wp2
  go_loopw [5] (fun i wr => ∃ k : Nat, k ≤ n ∧ i = .int .i64 k ∧ Below w.heap.size w wr) (fun i _ => n - (intOf i).toNat)
  case atStart => exact ⟨0, Nat.zero_le _, rfl, Below.refl _ _⟩
  case round =>
    obtain ⟨k, hk, rfl, hB⟩ := hrel
    have HB := Lib.hid hB
    by_cases hlt : k < n
    · obtain ⟨b, off, rfl, hbb, hcells⟩ := HR.out.at (by omega)
      obtain ⟨b2, off2, rfl, hbb2, hcells2⟩ := HR2.out.at (by omega)
      obtain ⟨x0, x1, x2, x3⟩ := hcells k hlt
      obtain ⟨y0, y1, y2, y3⟩ := hcells2 k hlt
      replace x0 := (hB.cell (p := ⟨b, off + k * 4, none⟩) hbb).trans x0
      replace x1 := (hB.cell (p := ⟨b, off + k * 4 + 1, none⟩) hbb).trans x1
      replace x2 := (hB.cell (p := ⟨b, off + k * 4 + 2, none⟩) hbb).trans x2
      replace x3 := (hB.cell (p := ⟨b, off + k * 4 + 3, none⟩) hbb).trans x3
      replace y0 := (hB.cell (p := ⟨b2, off2 + k * 4, none⟩) hbb2).trans y0
      replace y1 := (hB.cell (p := ⟨b2, off2 + k * 4 + 1, none⟩) hbb2).trans y1
      replace y2 := (hB.cell (p := ⟨b2, off2 + k * 4 + 2, none⟩) hbb2).trans y2
      replace y3 := (hB.cell (p := ⟨b2, off2 + k * 4 + 3, none⟩) hbb2).trans y3
      have HE := Lib.hid (eqLk_any (ls.getD k Lk.nil) wr.drew)
      have hi1 : (k : Int) < (n : Int) := by omega
      clear hcells hcells2 hB
      generalize (ls.getD k Lk.nil).k = sk at *; generalize (ls.getD k Lk.nil).a = sa at *; generalize (ls.getD k Lk.nil).b = sb at *; generalize (ls.getD k Lk.nil).c = sc at *
      go_wp2_with (fail)
      go_region_with (go_at_call 107; refine HE.out.mono ?_; rintro e wf ⟨rfl, bf'⟩; have bf := undrew bf'; clear bf')
      all_goals go_wp2
      all_goals
        go_roundw
        case rel => exact ⟨k + 1, by omega, by go_num, HB.out.trans (bf.mono HB.out.size)⟩
        case measure => simp [intOf]; omega
    · have hkl : k = n := by omega
      subst hkl
      clear hB
      go_wp2
      go_ret
      exact ⟨rfl, HB.out⟩
set_option maxHeartbeats 1000000 in
theorem eqN_any (h h' : NH) (N : Nt) (w : World) (r : RdN w w.heap.size h N) (r' : RdN w w.heap.size h' N) (hq : ∀ q ∈ N.w, q.length ≤ 1048576) (hn : N.w.length ≤ 1048576) (hl : N.l.length ≤ 1048576) (hc : N.c.length ≤ 1048576) :
    Calls Tryz.prog 18 #[.agg #[.slice h.A N.w.length h.c, .slice h.L N.l.length h.d, .slice h.C N.c.length h.e], .agg #[.slice h'.A N.w.length h'.c, .slice h'.L N.l.length h'.d, .slice h'.C N.c.length h'.e]] w fun e w' => e = .returned (.bool true) ∧ Below w.heap.size w w' := by
  obtain ⟨A, c, hs0, L, d, C, e0⟩ := h
  obtain ⟨A2, c2, hs2, L2, d2, C2, e2⟩ := h'
  obtain ⟨ws, ls, cs⟩ := N
  obtain ⟨r1, r2, r3⟩ := r
  obtain ⟨t1, t2, t3⟩ := r'
  dsimp only at r1 r2 r3 t1 t2 t3 hq hn hl hc ⊢
  obtain ⟨w2, hw2⟩ : ∃ w2, w2 = (w.alloc (.cells #[.slice A ws.length c, .slice L ls.length d, .slice C cs.length e0] 30)).alloc (.cells #[.slice A2 ws.length c2, .slice L2 ls.length d2, .slice C2 cs.length e2] 30) := ⟨_, rfl⟩
  have hb : Below w.heap.size w w2 := by
    rw [hw2]
    exact ((Below.refl _ _).alloc (Nat.le_refl _) _).alloc (by simp) _
  have p0 : w2.heap[w.heap.size]? = some (.cells #[.slice A ws.length c, .slice L ls.length d, .slice C cs.length e0] 30 (0, 0)) := by
    rw [hw2, Below.heap_alloc _ _ _ (by simp)]; exact heap_alloc_new _ _
  have p1 : w2.heap[w.heap.size + 1]? = some (.cells #[.slice A2 ws.length c2, .slice L2 ls.length d2, .slice C2 cs.length e2] 30 (0, 0)) := by
    rw [hw2]
    have e : (w.alloc (.cells #[.slice A ws.length c, .slice L ls.length d, .slice C cs.length e0] 30)).heap.size = w.heap.size + 1 := by simp
    rw [← e]; exact heap_alloc_new _ _
  have hsz : w.heap.size + 1 < w2.heap.size := by rw [hw2]; simp
  have HE1 := Lib.hid (eqQ_x A A2 ws.length c c2 ws w2 ((r1.below hb).more hb.size) ((t1.below hb).more hb.size) hn hq)
  have HL1 := Lib.hid r2; have HL2 := Lib.hid t2; have HC1 := Lib.hid r3; have HC2 := Lib.hid t3
  have HB := Lib.hid hb
  obtain ⟨a0, a1, a2⟩ := three_cells p0
  obtain ⟨b0, b1, b2⟩ := three_cells p1
  clear hb r1 r2 r3 t1 t2 t3 hq
  go_enter Tryz.func18, Tryz.ntmps18
  go_wp2_with (fail)
  rw [← hw2]
  clear hw2
  refine HE1.out.mono ?_
  rintro e w3 ⟨rfl, bel3⟩
  replace p0 := (bel3.block _ (by omega)).trans p0
  replace p1 := (bel3.block _ (by omega)).trans p1
  have hs3 := bel3.size
  have HB3 := Lib.hid (HB.out.trans (bel3.mono HB.out.size))
  clear a0 a1 a2 b0 b1 b2 bel3 HB HE1
  obtain ⟨a0, a1, a2⟩ := three_cells p0
  obtain ⟨b0, b1, b2⟩ := three_cells p1
  go_wp2_with (fail)
  refine (eqLS_any L L2 ls.length d d2 ls w3 ((HL1.out.below HB3.out).more HB3.out.size) ((HL2.out.below HB3.out).more HB3.out.size) hl).mono ?_
  rintro e w4 ⟨rfl, bel4⟩
  replace p0 := (bel4.block _ (by omega)).trans p0
  replace p1 := (bel4.block _ (by omega)).trans p1
  have HB4 := Lib.hid (HB3.out.trans (bel4.mono HB3.out.size))
  clear a0 a1 a2 b0 b1 b2 bel4 HB3
  obtain ⟨a0, a1, a2⟩ := three_cells p0
  obtain ⟨b0, b1, b2⟩ := three_cells p1
  go_wp2_with (fail)
  refine (eqI_x C C2 cs.length e0 e2 cs w4 ((HC1.out.below HB4.out).more HB4.out.size) ((HC2.out.below HB4.out).more HB4.out.size) hc).mono ?_
  rintro e w5 ⟨rfl, bel5⟩
  have HB5 := Lib.hid (HB4.out.trans (bel5.mono HB4.out.size))
  clear bel5
  go_wp2
  go_ret
  exact ⟨rfl, HB5.out⟩
end
section
open Go.ChangeAt Go.ChangeShapes Go.RowKit Go.WideShapes

theorem two_any' (w : World) (o p : Obj) : Below w.heap.size w ((w.alloc o).alloc p) ∧ ((w.alloc o).alloc p).heap[w.heap.size]? = some o ∧ ((w.alloc o).alloc p).heap[w.heap.size + 1]? = some p ∧ ((w.alloc o).alloc p).heap.size = w.heap.size + 1 + 1 := by
  obtain ⟨h0, h1⟩ := two_heap w o p
  exact ⟨((Below.refl _ _).alloc (Nat.le_refl _) _).alloc (by simp) _, h0, h1, by simp⟩
end
section
open Go.ChangeShapes Go.WideShapes Go.ChangeAt Go.RowKit
end
section
open Go.ChangeAt Go.ChangeShapes Go.RowKit Go.WideShapes

/-- A row written out. -/
theorem own_lit {w : World} {base n size : Nat} {e : TypeId} (cur : Array Value) (hb : base ≤ w.heap.size) (hm : n ≤ maxLen) (hs : cur.size = n * size) : (w.alloc (.cells cur e)).ownsRow base e size (.slice (some ⟨w.heap.size, 0, none⟩) n n) n cur.toList :=
  ⟨by simpa using hs, .inr ⟨w.heap.size, n, cur, rfl, hb, heap_alloc_new w _, Nat.le_refl _, hm, hs, by rw [← hs]; simp [List.take_of_length_le]⟩⟩
end
section
set_option linter.unusedSimpArgs false
set_option linter.unusedVariables false
open Go.ChangeAt Go.ChangeShapes Go.RowKit Go.WideShapes

/-- The wires that a link makes, and those that it uses. -/
def outL (l : Lk) : List Int := if l.k = 1 then [l.a, l.b] else if l.k = 2 then [] else [l.c]
def inL (l : Lk) : List Int := if l.k = 1 then [] else [l.a, l.b]
theorem mk1_is (l : Lk) (x : Nat) : mk1 l x = concN (outL l) x := by
  unfold mk1 outL concN
  split
  · simp
  · split <;> simp
theorem us1_is (l : Lk) (x : Nat) : us1 l x = concN (inL l) x := by
  unfold us1 inL concN
  split <;> simp
theorem inW_mono {n m : Nat} {x : Int} (h : n ≤ m) (hx : inW n x = true) : inW m x = true := by
  obtain ⟨h1, h2, h3⟩ := inW_yes hx
  unfold inW
  exact decide_eq_true (by omega)
theorem outL_in {n m : Nat} {l : Lk} (h : n ≤ m) (ha : inW n l.a = true) (hb : inW n l.b = true) (hc : inW n l.c = true) : (outL l).all (inW m) = true := by
  unfold outL
  split
  · simp [inW_mono h ha, inW_mono h hb]
  · split
    · rfl
    · simp [inW_mono h hc]
theorem inL_in {n m : Nat} {l : Lk} (h : n ≤ m) (ha : inW n l.a = true) (hb : inW n l.b = true) : (inL l).all (inW m) = true := by
  unfold inL
  split
  · rfl
  · simp [inW_mono h ha, inW_mono h hb]
theorem outL_len (l : Lk) : (outL l).length ≤ 2 := by
  unfold outL
  split
  · simp
  · split <;> simp
theorem inL_len (l : Lk) : (inL l).length ≤ 2 := by unfold inL; split <;> simp
theorem concN_zero {xs : List Int} {n x : Nat} (h : xs.all (inW n) = true) (hx : n ≤ x) : concN xs x = 0 := by
  induction xs with
  | nil => rfl
  | cons a t ih =>
    rw [List.all_cons, Bool.and_eq_true] at h
    obtain ⟨_, h2, _⟩ := inW_yes h.1
    have := ih h.2
    unfold concN at this ⊢
    rw [List.map_cons, List.sum_cons, this]
    have e : ¬ a.toNat = x := by omega
    simp [one, e]
theorem madeN_zero {ls : List Lk} {n x : Nat} (h : ∀ l ∈ ls, inW n l.a = true ∧ inW n l.b = true ∧ inW n l.c = true) (hx : n ≤ x) : madeN ls x = 0 := by
  induction ls with
  | nil => rfl
  | cons l t ih =>
    have := ih fun k hk => h k (List.mem_cons_of_mem _ hk)
    obtain ⟨h1, h2, h3⟩ := h l (List.mem_cons_self ..)
    unfold madeN at this ⊢
    rw [List.map_cons, List.sum_cons, this, mk1_is, concN_zero (outL_in (Nat.le_refl _) h1 h2 h3) hx]
    rfl
theorem usedN_zero {ls : List Lk} {n x : Nat} (h : ∀ l ∈ ls, inW n l.a = true ∧ inW n l.b = true ∧ inW n l.c = true) (hx : n ≤ x) : usedN ls x = 0 := by
  induction ls with
  | nil => rfl
  | cons l t ih =>
    have := ih fun k hk => h k (List.mem_cons_of_mem _ hk)
    obtain ⟨h1, h2, h3⟩ := h l (List.mem_cons_self ..)
    unfold usedN at this ⊢
    rw [List.map_cons, List.sum_cons, this, us1_is, concN_zero (inL_in (Nat.le_refl _) h1 h2) hx]
    rfl
theorem concN_mark (n x : Nat) : concN (markL 0 n) x = one (x < n) := by
  induction n with
  | zero => simp [markL, concN, one]
  | succ n ih =>
    have e : markL 0 (n + 1) = markL 0 n ++ [(0 : Int) + (n : Nat)] := by unfold markL; rw [List.range_succ, List.map_append]; rfl
    unfold concN at ih ⊢
    rw [e, List.map_append, List.sum_append, ih, List.map_singleton, List.sum_singleton]
    have e2 : ((0 : Int) + (n : Nat)).toNat = n := by omega
    rw [e2]
    unfold one
    by_cases h1 : x < n
    · rw [if_pos h1, if_neg (by omega), if_pos (by omega)]; rfl
    · by_cases h2 : n = x
      · rw [if_neg h1, if_pos h2, if_pos (by omega)]; rfl
      · rw [if_neg h1, if_neg h2, if_neg (by omega)]; rfl
theorem even_is {N : Nt} (hn : N.w.length ≤ 48) (hl : ∀ l ∈ N.l, inW N.w.length l.a = true ∧ inW N.w.length l.b = true ∧ inW N.w.length l.c = true) (hc : N.c.all (inW N.w.length) = true) :
    evenN N = (((List.range 48).all fun x => madeN N.l x == concN (markL 0 N.w.length) x) && ((List.range 48).all fun x => (usedN N.l x + concN N.c x) == concN (markL 0 N.w.length) x)) := by
  unfold evenN
  rw [Bool.eq_iff_iff]
  simp only [Bool.and_eq_true, List.all_eq_true, List.mem_range, decide_eq_true_eq, beq_iff_eq, concN_mark]
  constructor
  · intro h
    refine ⟨fun x hx => ?_, fun x hx => ?_⟩
    · by_cases h1 : x < N.w.length
      · rw [(h x h1).1]; unfold one; rw [if_pos h1]
      · rw [madeN_zero hl (by omega)]; unfold one; rw [if_neg h1]
    · by_cases h1 : x < N.w.length
      · rw [(h x h1).2]; unfold one; rw [if_pos h1]
      · rw [usedN_zero hl (by omega), concN_zero hc (by omega)]; unfold one; rw [if_neg h1]; rfl
  · intro h x hx
    have h1 := h.1 x (by omega)
    have h2 := h.2 x (by omega)
    unfold one at h1 h2
    rw [if_pos hx] at h1 h2
    exact ⟨h1, h2⟩
end
section
open Go.ChangeAt Go.ChangeShapes Go.RowKit Go.WideShapes
end
section
open Go.ChangeAt Go.ChangeShapes Go.RowKit Go.WideShapes

/-- An array of eight slices that read as a binding. -/
structure BndV (w : World) (cs : Array Value) (qs : List (List Int)) : Prop where
  size : cs.size = 8
  len : qs.length = 8
  one : cs.all (·.oneCell') = true
  part : ∀ k, k < 8 → ∃ A c, cs[k]? = some (.slice A (qs.getD k []).length c) ∧ (qs.getD k []).length ≤ c ∧ RdI w w.heap.size A (qs.getD k []).length (qs.getD k [])
theorem BndV.below {w w' : World} {cs : Array Value} {qs : List (List Int)} (h : BndV w cs qs) (hb : Below w.heap.size w w') : BndV w' cs qs :=
  ⟨h.size, h.len, h.one, fun k hk => by
    obtain ⟨A, c, h1, h2, h3⟩ := h.part k hk
    exact ⟨A, c, h1, h2, (h3.below hb).more hb.size⟩⟩
end
section
open Go.ChangeAt Go.ChangeShapes Go.RowKit Go.WideShapes
end
section
open Go.ChangeAt Go.ChangeShapes Go.RowKit Go.WideShapes
end
section
open Go.ChangeAt Go.ChangeShapes Go.RowKit Go.WideShapes
end
section
open Go.ChangeAt Go.ChangeShapes Go.RowKit Go.WideShapes
end
section
open Go.ChangeAt Go.ChangeShapes Go.RowKit Go.WideShapes

/-- Headers that read as a list of lists. -/
structure RdV (w : World) (vs : List Value) (R : List (List Int)) : Prop where
  len : vs.length = R.length
  part : ∀ i, i < R.length → ∃ A c, vs[i]? = some (.slice A (R.getD i []).length c) ∧ (R.getD i []).length ≤ c ∧ RdI w w.heap.size A (R.getD i []).length (R.getD i [])
theorem RdV.below {w w' : World} {vs : List Value} {R : List (List Int)} (h : RdV w vs R) (hb : Below w.heap.size w w') : RdV w' vs R :=
  ⟨h.len, fun i hi => by
    obtain ⟨A, c, h1, h2, h3⟩ := h.part i hi
    exact ⟨A, c, h1, h2, (h3.below hb).more hb.size⟩⟩
theorem RdV.one {w : World} {vs : List Value} {R : List (List Int)} (h : RdV w vs R) : ∀ v ∈ vs, v.oneCell' = true := by
  intro v hv
  obtain ⟨i, hi, e⟩ := List.mem_iff_getElem.1 hv
  obtain ⟨A, c, h1, _⟩ := h.part i (by have := h.len; omega)
  rw [List.getElem?_eq_getElem hi, e] at h1
  injection h1 with h1
  rw [h1]; rfl
theorem RdV.nil (w : World) : RdV w [] [] := ⟨rfl, fun i hi => by simp at hi⟩
theorem RdV.rd {w : World} {base c : Nat} {A : Option Addr} {vs : List Value} {R : List (List Int)} (h : RdV w vs R) (own : w.ownsRow base 24 1 (.slice A R.length c) R.length vs) : RdQ w w.heap.size A R.length R := by
  refine ⟨rfl, fun hn => ?_⟩
  obtain ⟨g, cap, hv', _, hlt⟩ := own.form hn
  injection hv' with e1 e2 e3
  subst e1; subst e3
  refine ⟨g, 0, rfl, hlt, fun j hj => ?_⟩
  obtain ⟨A, c, h1, h2, h3⟩ := h.part j hj
  refine ⟨A, c, ?_, h2, h3⟩
  rw [Nat.zero_add, own.cellAt j (by omega), h1]
theorem contains_any (A : Option Addr) (n c : Nat) (L : List Int) (x : Int) (w : World) (h : RdI w w.heap.size A n L) (hn : n ≤ 1048576) :
    Calls Tryz.prog 135 #[.slice A n c, .int .i64 x] w fun e w' => ∃ k : Int, e = .returned (.int .i64 k) ∧ w = w' ∧ (x ∈ L → 0 ≤ k) ∧ (x ∉ L → k = -1) := by
  have hl := h.len
  subst hl
  have H := Lib.hid h
  clear h
  go_enter Tryz.func135, Tryz.ntmps135
  go_wp2
  go_loopw [8] (fun i wr => ∃ k : Nat, k ≤ L.length ∧ i = .int .i64 k ∧ (∀ j, j < k → L.getD j 0 ≠ x) ∧ w = wr) (fun i _ => L.length - (intOf i).toNat)
  case atStart => exact ⟨0, Nat.zero_le _, rfl, fun j hj => absurd hj (by omega), rfl⟩
  case round =>
    obtain ⟨k, hk, rfl, hno, rfl⟩ := hrel
    have HNO := Lib.hid hno
    clear hno
    by_cases hlt : k < L.length
    · have hd : decide ((k : Int) < (L.length : Int)) = true := decide_eq_true (by omega)
      obtain ⟨b, off, rfl, hbb, hcells⟩ := H.out.2 (by omega)
      have hc := hcells k hlt
      have HME : Hid (L.getD k 0 ∈ L) := Lib.hid (by simp [List.getD, hlt])
      have HG : Hid (∀ y, L.getD k 0 = y → L.getD k 0 = y) := Lib.hid (fun _ h => h)
      generalize hy : L.getD k 0 = y at *
      have HY := Lib.hid hy
      clear hcells hy
      by_cases hxy : x = y
      · have he : (x == y) = true := by simpa using hxy
        have HX := Lib.hid hxy
        clear hxy
        go_wp2
        go_ret
        exact ⟨_, rfl, rfl, fun _ => by omega, fun hn => absurd (HX.out ▸ HME.out) hn⟩
      · have he : (x == y) = false := by simpa using hxy
        have HX := Lib.hid hxy
        clear hxy
        go_wp2
        go_roundw
        case rel => exact ⟨k + 1, by omega, by go_num, fun j hj => by
          rcases Nat.lt_or_ge j k with h1 | h1
          · exact HNO.out j h1
          · obtain rfl : j = k := by omega
            rw [HY.out]; exact fun e => HX.out e.symm, trivial⟩
        case measure => simp [intOf]; omega
    · have hkl : k = L.length := by omega
      subst hkl
      go_wp2
      go_ret
      exact ⟨_, rfl, rfl, fun hm => by
        obtain ⟨j, hj, e⟩ := List.mem_iff_getElem.1 hm
        exact absurd (by simp [List.getD, hj, e]) (HNO.out j hj), fun _ => rfl⟩
theorem containsI_any (A : Option Addr) (n c : Nat) (L : List Int) (x : Int) (w : World) (h : RdI w w.heap.size A n L) (hn : n ≤ 1048576) :
    Calls Tryz.prog 88 #[.slice A n c, .int .i64 x] w fun e w' => e = .returned (.bool (decide (x ∈ L))) ∧ w = w' := by
  have HI := Lib.hid (contains_any A n c L x w h hn)
  clear h
  go_enter Tryz.func88, Tryz.ntmps88
  go_wp2_with (fail)
  refine HI.out.mono ?_
  rintro e w' ⟨k, rfl, rfl, hin, hout⟩
  by_cases hm : x ∈ L
  · have hd : decide (0 ≤ k) = true := decide_eq_true (hin hm)
    have HE : Hid (decide (x ∈ L) = true) := Lib.hid (decide_eq_true hm)
    clear hin hout hm
    go_wp2
    go_ret
    exact ⟨ret_bool HE.out.symm, rfl⟩
  · have hd : decide (0 ≤ k) = false := decide_eq_false (by have := hout hm; omega)
    have HE : Hid (decide (x ∈ L) = false) := Lib.hid (decide_eq_false hm)
    clear hin hout hm
    go_wp2
    go_ret
    exact ⟨ret_bool HE.out.symm, rfl⟩
end
end Go.Proofs.YtfdpkhiiboghiaaGreatDoor
