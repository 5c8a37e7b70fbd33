/- The model's TreeText. -/
import Derived.Test.YtfanapddopafiaaDoorTrS
import Derived.Test.YtfanapddopafiaaDoorTrP
namespace Go.Proofs.YtfanapddopafiaaDoor
set_option linter.unusedSimpArgs false
set_option linter.unusedVariables false
open Go.ChangeAt Go.ChangeShapes Go.RowKit Go.WideShapes

theorem sTree_any (N : Nt) (hv : valN N = true) (h : NH) : ∀ (n : Nat) (x : Int), wlen N x ≤ n → inW N.w.length x = true → ∀ (w : World), RdN w w.heap.size h N → Calls Tryd.prog 46 #[.agg #[.slice h.A N.w.length h.c, .slice h.L N.l.length h.d, .slice h.C N.c.length h.e], .int .i64 x] w fun e w' => e = .returned (.string (trT dcN N x)) ∧ Below w.heap.size w w'
  | n, x, hn, hx, w, r => sTree_step N hv x h w hx r (fun y hy hlt w r => sTree_any N hv h (n - 1) y (by omega) hy w r)
  termination_by n x hn hx => wlen N x
  decreasing_by all_goals omega
theorem trT_out {N : Nt} (hv : valN N = true) {x : Int} (hx : inW N.w.length x = false) : trT dcN N x = ⟨#[]⟩ := by
  refine trT_none (find_no fun j hj => ?_)
  have hf := link_fits hv hj
  obtain ⟨a1, a2, a3, _⟩ := fitsN_yes hf
  rw [srcB_is (fitsN_kind hf), decide_eq_false]
  intro hm
  have := (List.all_eq_true.1 (outL_in (Nat.le_refl _) a1 a2 a3)) x hm
  rw [hx] at this; cases this
set_option maxRecDepth 100000 in
set_option maxHeartbeats 1000000 in
theorem sTreeText_any (h : NH) (N : Nt) (x : Int) (w : World) (r : RdN w w.heap.size h N) (hn : N.w.length ≤ 1048576) (hl : N.l.length ≤ 1048576) (hc : N.c.length ≤ 1048576) :
    Calls Tryd.prog 17 #[.agg #[.slice h.A N.w.length h.c, .slice h.L N.l.length h.d, .slice h.C N.c.length h.e], .int .i64 x] w fun e w' => e = .returned (.string (txV N x)) ∧ Below w.heap.size w w' := by
  obtain ⟨w0, hw0⟩ : ∃ w0, w0 = w.alloc (.cells #[.slice h.A N.w.length h.c, .slice h.L N.l.length h.d, .slice h.C N.c.length h.e] 31) := ⟨_, rfl⟩
  obtain ⟨hb, hh, hsz⟩ := box3_any w (.slice h.A N.w.length h.c) (.slice h.L N.l.length h.d) (.slice h.C N.c.length h.e) 31
  rw [← hw0] at hb hh hsz
  have HK := Lib.hid (fun (wx : World) (hx : Below w0.heap.size w0 wx) => three_cells ((hx.block w.heap.size (by omega)).trans hh))
  have HR := Lib.hid (fun (wx : World) (hx : Below w0.heap.size w0 wx) => show RdN wx wx.heap.size h N from ((r.below (hb.trans (hx.mono hb.size))).more (Nat.le_trans hb.size hx.size)))
  have hV := sValidNet_any h N w0 (HR.out _ (Below.refl _ _)) hn hl hc
  have HB0 := Lib.hid hb
  obtain ⟨y0, y1, y2⟩ := HK.out _ (Below.refl _ w0)
  clear hb hh hsz r
  cases hv : valN N with
  | false =>
    rw [hv] at hV
    have HE := Lib.hid (txV_no hv x)
    have HV := Lib.hid hV
    clear hV hv
    go_enter Tryd.func17, Tryd.ntmps17
    go_upto_region 1 with (fail)
    rw [← hw0]
    clear hw0
    go_wp2_with (fail)
    refine HV.out.mono ?_
    rintro e w1 ⟨rfl, bel⟩
    have HG := Lib.hid (HB0.out.trans (bel.mono HB0.out.size))
    clear bel y0 y1 y2
    go_wp2
    go_ret
    exact ⟨ret_sA HE.out.symm, HG.out⟩
  | true =>
    rw [hv] at hV
    have HV := Lib.hid hV
    have HVT := Lib.hid hv
    cases hx : inW N.w.length x with
    | false =>
      have HE := Lib.hid ((txV_yes hv x).trans (trT_out hv hx))
      clear hV hv
      go_enter Tryd.func17, Tryd.ntmps17
      go_upto_region 1 with (fail)
      rw [← hw0]
      clear hw0
      go_wp2_with (fail)
      refine HV.out.mono ?_
      rintro e w1 ⟨rfl, bel⟩
      have HB1 := Lib.hid bel
      have HW := Lib.hid (sWire_any h.A h.L h.C N.w.length h.c N.l.length h.d N.c.length h.e x w1 (by simp only [maxLen]; omega))
      rw [hx] at HW
      clear bel y0 y1 y2 hx
      obtain ⟨y0, y1, y2⟩ := HK.out _ HB1.out
      go_wp2_with (fail)
      refine HW.out.mono ?_
      rintro e w2 ⟨rfl, bel⟩
      have HG := Lib.hid (HB0.out.trans ((HB1.out.trans (bel.mono HB1.out.size)).mono HB0.out.size))
      clear bel y0 y1 y2
      go_wp2
      go_ret
      exact ⟨ret_sA HE.out.symm, HG.out⟩
    | true =>
      have HE := Lib.hid (txV_yes hv x)
      have HXT := Lib.hid hx
      clear hV hv
      go_enter Tryd.func17, Tryd.ntmps17
      go_upto_region 1 with (fail)
      rw [← hw0]
      clear hw0
      go_wp2_with (fail)
      refine HV.out.mono ?_
      rintro e w1 ⟨rfl, bel⟩
      have HB1 := Lib.hid bel
      have HW := Lib.hid (sWire_any h.A h.L h.C N.w.length h.c N.l.length h.d N.c.length h.e x w1 (by simp only [maxLen]; omega))
      rw [hx] at HW
      clear bel y0 y1 y2 hx
      obtain ⟨y0, y1, y2⟩ := HK.out _ HB1.out
      go_wp2_with (fail)
      refine HW.out.mono ?_
      rintro e w2 ⟨rfl, bel⟩
      have HB2 := Lib.hid (HB1.out.trans (bel.mono HB1.out.size))
      clear bel y0 y1 y2
      obtain ⟨y0, y1, y2⟩ := HK.out _ HB2.out
      have HT := Lib.hid (sTree_any N HVT.out h _ x (Nat.le_refl _) HXT.out w2 (HR.out _ HB2.out))
      go_wp2_with (fail)
      refine HT.out.mono ?_
      rintro e w3 ⟨rfl, bel⟩
      have HG := Lib.hid (HB0.out.trans ((HB2.out.trans (bel.mono HB2.out.size)).mono HB0.out.size))
      clear bel y0 y1 y2
      go_wp2
      go_ret
      exact ⟨ret_sA HE.out.symm, HG.out⟩
end Go.Proofs.YtfanapddopafiaaDoor
