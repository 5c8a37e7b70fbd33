/- The program's SplittingLinks. -/
import Derived.Test.YtgpocnapkflihaaDoorSqE
import Derived.Test.YtgpocnapkflihaaDoorSqC
import Derived.Deep.RegionHeldLaw
import Derived.Deep.DeepCutAuto
import Derived.BigQuiet
namespace Go.Proofs.YtgpocnapkflihaaDoor
set_option linter.unusedSimpArgs false
set_option linter.unusedVariables false
open Go.ChangeAt Go.ChangeShapes Go.RowKit Go.WideShapes

set_option maxHeartbeats 600000 in
theorem spL1_any (bx : Nat) (h : NH) (N : Nt) (x : Int) (w : World) (y : w.heap[bx]? = some (.cells #[.slice h.A N.w.length h.c, .slice h.L N.l.length h.d, .slice h.C N.c.length h.e] 31 (0, 0))) (r : RdN w w.heap.size h N) (hv : valN N = true) (hx : inW N.l.length x = true) (htm : tmB N x.toNat = true) :
    Calls Tryd.prog 44 #[.int .i64 x, .pointer (some ⟨bx, 0, none⟩)] w fun e w' => e = .returned (.bool (!spB N x.toNat)) ∧ Below w.heap.size w w' := by
  obtain ⟨hx0, hx1, hx2⟩ := inW_yes hx
  have HS := Lib.hid (splitLinks_any h N x.toNat w hv r hx1 htm)
  rw [← hx2] at HS
  obtain ⟨y0, y1, y2⟩ := three_cells y
  clear y r hx hx0 hx1 hx2 htm hv
  generalize hp : spB N x.toNat = p at *
  go_enter Tryd.func44, Tryd.ntmps44
  go_wp2_with (fail)
  refine HS.out.mono ?_
  rintro e w1 ⟨A, c, B, d, rfl, o1, o2, bel⟩
  have B1 := Lib.hid bel
  rw [hp]
  clear o1 o2 bel y0 y1 y2 hp
  generalize (l1V N x.toNat).length = q1 at *
  generalize (l2V N x.toNat).length = q2 at *
  go_wp2
  go_ret
  exact ⟨rfl, B1.out⟩
/-- The answer. -/
def spV (N : Nt) : List Int := if valN N = true then spL N else []
set_option maxRecDepth 100000 in
set_option maxHeartbeats 600000 in
theorem splitting_impl (h : NH) (N : Nt) (w : World) (r : RdN w w.heap.size h N) (sm : SmallN N) (ht : Arit w) (hu : Dual w) :
    Calls Tryd.prog 19 #[.agg #[.slice h.A N.w.length h.c, .slice h.L N.l.length h.d, .slice h.C N.c.length h.e]] w (Gives w (spV N)) := by
  have hmf : ∀ (fn : Fn) (first cap : Array Value) (w : World), (Instr.makeFunc fn first cap).run Tryd.prog w = .ok (.func fn first cap) w := fun _ _ _ _ => rfl
  obtain ⟨w0, hw0⟩ : ∃ w0, w0 = w.alloc (.cells #[.slice h.A N.w.length h.c, .slice h.L N.l.length h.d, .slice h.C N.c.length h.e] 31) := ⟨_, rfl⟩
  obtain ⟨hb, hh, hsz⟩ := box3_any w (.slice h.A N.w.length h.c) (.slice h.L N.l.length h.d) (.slice h.C N.c.length h.e) 31
  rw [← hw0] at hb hh hsz
  have HKB := Lib.hid (fun (wx : World) (hw : Below w0.heap.size w0 wx) => (hw.block w.heap.size (by omega)).trans hh)
  have HT := Lib.hid (terminal_impl h N w0 ((r.below hb).more hb.size) sm (ht.below hb ht.lt) (hu.below hb hu.lt))
  have HR := Lib.hid (fun (wx : World) (hx : Below w0.heap.size w0 wx) => show RdN wx wx.heap.size h N from (r.below (hb.trans (hx.mono hb.size))).more (Nat.le_trans hb.size hx.size))
  have HB0 := Lib.hid hb
  have hl := sm.l
  have HMEM : Hid (∀ x ∈ tmV N, valN N = true ∧ inW N.l.length x = true ∧ tmB N x.toNat = true) := Lib.hid fun x hx => by
    unfold tmV at hx
    cases hv : valN N with
    | false => rw [hv] at hx; cases hx
    | true =>
      rw [if_pos hv] at hx
      obtain ⟨j, h1, h2, rfl⟩ := selU_mem.1 hx
      exact ⟨rfl, decide_eq_true (by omega), by rw [Int.toNat_natCast]; exact h2⟩
  have HFIL : Hid (kpI (fun x => !spB N x.toNat) (tmV N) (tmV N).length = spV N) := Lib.hid (by
    rw [kpI_end]
    simp only [Bool.not_not]
    unfold tmV spV
    cases hv : valN N with
    | false => rfl
    | true =>
      rw [if_pos rfl, if_pos rfl]
      unfold tmL spL
      rw [selU_filter]
      refine selU_ext fun j _ => ?_
      rw [Int.toNat_natCast]
      cases hs : spB N j with
      | false => rfl
      | true => rw [(spB_yes hs).2.1]; rfl)
  have HTL : Hid ((tmV N).length ≤ 1048576) := Lib.hid (by
    unfold tmV
    have := selU_len (tmB N) N.l.length
    split
    · exact Nat.le_trans this hl
    · simp)
  obtain ⟨y0, y1, y2⟩ := three_cells hh
  clear hb hh hsz r ht hu sm
  go_enter Tryd.func19, Tryd.ntmps19
  go_upto_region 2 with (fail)
  rw [← hw0]
  clear hw0
  go_wp2_with (fail)
  refine HT.out.mono ?_
  rintro e w2 ⟨A2, c2, rfl, own2, bel2⟩
  have B2 := Lib.hid bel2
  have O2 := Lib.hid own2
  have HD := Lib.hid (delSpL_any w.heap.size (fun x => !spB N x.toNat) A2 c2 (tmV N) w2 w0.heap.size own2 HTL.out (fun wx hx x hm => by
    have hB := B2.out.grown hx B2.out.size fun q hq => (O2.out.lt q hq).1
    obtain ⟨m1, m2, m3⟩ := HMEM.out x hm
    exact spL1_any w.heap.size h N x wx (HKB.out wx hB) (HR.out wx hB) m1 m2 m3))
  rw [HFIL.out] at HD
  clear own2 bel2 y0 y1 y2
  generalize (tmV N).length = q at *
  go_wp2_with (fail)
  refine HD.out.mono ?_
  rintro e w3 ⟨A3, c3, rfl, own3, gr3⟩
  have HG : Hid (Gives w (spV N) (.returned (.slice A3 (spV N).length c3)) w3) := Lib.hid (by
    have hB := B2.out.grown gr3 B2.out.size fun q hq => (O2.out.lt q hq).1
    exact ⟨A3, c3, rfl, own3.mono HB0.out.size, HB0.out.trans (hB.mono HB0.out.size)⟩)
  clear own3 gr3
  generalize (spV N).length = q3 at *
  go_wp2
  go_ret
  exact HG.out
end Go.Proofs.YtgpocnapkflihaaDoor
