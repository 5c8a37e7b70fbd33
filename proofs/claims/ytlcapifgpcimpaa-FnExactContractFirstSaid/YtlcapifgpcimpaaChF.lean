/- The program's contractedOnce, ContractEdge, ContractPair, ContractFirst, ContractAll. Made by mkchf.py. -/
import Derived.Test.YtlcapifgpcimpaaChC
import Derived.Test.YtlcapifgpcimpaaChD
import Derived.Test.YtlcapifgpcimpaaChE
import Derived.Test.YtlcapifgpcimpaaCcN
import Derived.Test.YtlcapifgpcimpaaEgW
import Derived.Deep.RegionHeldLaw
import Derived.Deep.DeepCutAuto
import Derived.BigQuiet
import Derived.Deep.LoopGhost
namespace Go.Proofs.Ytlcapifgpcimpaa
set_option linter.unusedSimpArgs false
set_option linter.unusedVariables false
open Go.ChangeAt Go.ChangeShapes Go.RowKit Go.WideShapes

def edgeW (i : Int) : Nat → Ed → Bool := fun k x => decide ((k : Int) = i) && decide (x.p = -1)
def pairW (p : Int) : Nat → Ed → Bool := fun _ x => decide (x.p = p) && decide (x.p ≠ -1)
theorem edgeC_any (g : Nat) (i : Int) (w : World) (hg : w.cell? ⟨g, 0, none⟩ = some (.int .i64 i)) (hlt : g < w.heap.size) (k : Nat) (x : Ed) :
    Calls Try.prog 37 #[.int .i64 k, .agg #[.int .i64 x.a, .int .i64 x.b, .int .i64 x.p], .pointer (some ⟨g, 0, none⟩)] w fun e w' => e = .returned (.bool (edgeW i k x)) ∧ Below w.heap.size w w' := by
  obtain ⟨a, b, p⟩ := x
  unfold edgeW
  dsimp only
  obtain ⟨hb, hh, hsz⟩ := box3E w (.int .i64 a) (.int .i64 b) (.int .i64 p) 43
  have HB := Lib.hid hb
  have hg1 := (hb.cell (p := ⟨g, 0, none⟩) hlt).trans hg
  clear hb hh hsz hg
  by_cases h1 : (k : Int) = i
  · subst h1
    by_cases h2 : p = -1
    · have d2 : (p == -1) = true := by simp [h2]
      have HE : Hid (true = (decide ((k : Int) = k) && decide (p = -1))) := Lib.hid (by simp [h2])
      clear h2
      go_enter Try.func37, Try.ntmps37
      go_wp2
      go_ret
      exact ⟨ret_bool HE.out, HB.out⟩
    · have d2 : (p == -1) = false := by simp [h2]
      have HE : Hid (false = (decide ((k : Int) = k) && decide (p = -1))) := Lib.hid (by simp [h2])
      clear h2
      go_enter Try.func37, Try.ntmps37
      go_wp2
      go_ret
      exact ⟨ret_bool HE.out, HB.out⟩
  · have d1 : ((k : Int) == i) = false := by simp [h1]
    have HE : Hid (false = (decide ((k : Int) = i) && decide (p = -1))) := Lib.hid (by simp [h1])
    clear h1
    go_enter Try.func37, Try.ntmps37
    go_wp2
    go_ret
    exact ⟨ret_bool HE.out, HB.out⟩
theorem pairC_any (g : Nat) (i : Int) (w : World) (hg : w.cell? ⟨g, 0, none⟩ = some (.int .i64 i)) (hlt : g < w.heap.size) (k : Nat) (x : Ed) :
    Calls Try.prog 41 #[.int .i64 k, .agg #[.int .i64 x.a, .int .i64 x.b, .int .i64 x.p], .pointer (some ⟨g, 0, none⟩)] w fun e w' => e = .returned (.bool (pairW i k x)) ∧ Below w.heap.size w w' := by
  obtain ⟨a, b, p⟩ := x
  unfold pairW
  dsimp only
  obtain ⟨hb, hh, hsz⟩ := box3E w (.int .i64 a) (.int .i64 b) (.int .i64 p) 43
  have HB := Lib.hid hb
  have hg1 := (hb.cell (p := ⟨g, 0, none⟩) hlt).trans hg
  clear hb hh hsz hg
  by_cases h1 : p = i
  · have d1 : (p == i) = true := by simp [h1]
    by_cases h2 : p = -1
    · have d2 : (p != -1) = false := by simp [h2]
      have HE : Hid (false = (decide (p = i) && decide (p ≠ -1))) := Lib.hid (by simp [h2])
      clear h1 h2
      go_enter Try.func41, Try.ntmps41
      go_wp2
      go_ret
      exact ⟨ret_bool HE.out, HB.out⟩
    · have d2 : (p != -1) = true := by simp [h2]
      have HE : Hid (true = (decide (p = i) && decide (p ≠ -1))) := Lib.hid (by rw [decide_eq_true h1, decide_eq_true h2]; rfl)
      clear h1 h2
      go_enter Try.func41, Try.ntmps41
      go_wp2
      go_ret
      exact ⟨ret_bool HE.out, HB.out⟩
  · have d1 : (p == i) = false := by simp [h1]
    have HE : Hid (false = (decide (p = i) && decide (p ≠ -1))) := Lib.hid (by simp [h1])
    clear h1
    go_enter Try.func41, Try.ntmps41
    go_wp2
    go_ret
    exact ⟨ret_bool HE.out, HB.out⟩
theorem anyC_any (w : World) (k : Nat) (x : Ed) :
    Calls Try.prog 42 #[.int .i64 k, .agg #[.int .i64 x.a, .int .i64 x.b, .int .i64 x.p]] w fun e w' => e = .returned (.bool (anyW k x)) ∧ Below w.heap.size w w' := by
  have HB : Hid (Below w.heap.size w (w.alloc (.cells #[.int .i64 x.a, .int .i64 x.b, .int .i64 x.p] 43))) := Lib.hid ((Below.refl _ _).alloc (Nat.le_refl _) _)
  go_enter Try.func42, Try.ntmps42
  go_wp2
  go_ret
  exact ⟨rfl, HB.out⟩
/-- The zero graph and false. -/
theorem givesGB_nil {w w' : World} (h : Below w.heap.size w w') : GivesGB w Gr.nil false (.returned (.tuple #[.agg #[.int .i64 0, .slice none 0 0], .bool false])) w' := ⟨⟨none, 0⟩, rfl, ⟨World.ownsRow_nil _ _ _ _, fun k hk => by cases hk⟩, h⟩
theorem two_box (w : World) (o p : Obj) : Below w.heap.size w ((w.alloc o).alloc p) ∧ ((w.alloc o).alloc p).heap[w.heap.size]? = some o ∧ ((w.alloc o).alloc p).heap[w.heap.size + 1]? = some p ∧ ((w.alloc o).alloc p).heap.size = w.heap.size + 1 + 1 := two_new w o p
theorem eds_mem {ns : List Nd} {es : List Ed} (h : edsN ns = es) {n : Nd} (hn : n ∈ ns) : n.e ∈ es := by rw [← h]; exact List.mem_map.2 ⟨n, hn, rfl⟩
theorem ok_ends {G : Gr} (hv : vgB G = true) {e : Ed} (he : e ∈ G.e) : (0 ≤ e.a ∧ e.a ≤ 1000) ∧ 0 ≤ e.b ∧ e.b ≤ 1000 := by
  have h1 := vgB_ok hv e he
  have h2 := vgB_small hv
  unfold okE at h1
  simp only [Bool.and_eq_true, decide_eq_true_eq] at h1
  omega
set_option maxRecDepth 100000 in
set_option maxHeartbeats 1000000 in
theorem once_edge (h : GH) (G : Gr) (g : Nat) (W : Nat → Ed → Bool) (w : World) (r : RdG w w.heap.size h G)
    (HF : ∀ wx, Below w.heap.size w wx → ∀ (k : Nat) (x : Ed), Calls Try.prog 37 #[.int .i64 k, .agg #[.int .i64 x.a, .int .i64 x.b, .int .i64 x.p], .pointer (some ⟨g, 0, none⟩)] wx fun e w' => e = .returned (.bool (W k x)) ∧ Below wx.heap.size wx w') :
    Calls Try.prog 36 #[.agg #[.int .i64 G.n, .slice h.A G.e.length h.c], .func (.func 37) #[] #[.pointer (some ⟨g, 0, none⟩)]] w (GivesGB w (onV W G) (onB W G)) := by
  obtain ⟨w2, hw2⟩ : ∃ w2, w2 = (w.alloc (.cells #[.int .i64 G.n, .slice h.A G.e.length h.c] 29)).alloc (.cells #[.int .i64 0, .slice none 0 0] 29) := ⟨_, rfl⟩
  obtain ⟨hb, p0, p1, hsz⟩ := two_box w (.cells #[.int .i64 G.n, .slice h.A G.e.length h.c] 29) (.cells #[.int .i64 0, .slice none 0 0] 29)
  rw [← hw2] at hb p0 p1 hsz
  have HRG := Lib.hid (fun (wx : World) (hx : Below w2.heap.size w2 wx) => show RdG wx wx.heap.size h G from (r.below (hb.trans (hx.mono hb.size))).more (Nat.le_trans hb.size hx.size))
  have HV := Lib.hid (validG_impl h G w2 (HRG.out _ (Below.refl _ _)))
  have HB := Lib.hid hb
  have HK := Lib.hid (fun (wx : World) (hx : Below w2.heap.size w2 wx) => And.intro ((hx.block w.heap.size (by omega)).trans p0) ((hx.block (w.heap.size + 1) (by omega)).trans p1))
  have HFF := Lib.hid HF
  have HS2 : Hid (w.heap.size + 1 < w2.heap.size) := Lib.hid (by omega)
  obtain ⟨y0, y1⟩ := twE_cells p0
  clear r hb p0 p1 hsz HF
  obtain ⟨nd, es⟩ := G
  obtain ⟨A, sc⟩ := h
  dsimp only at HRG HV HK y0 y1 hw2 ⊢
  cases hv : vgB ⟨nd, es⟩ with
  | false =>
    rw [(on_inv (W := W) hv).1, (on_inv (W := W) hv).2]
    rw [hv] at HV
    clear hv
    go_enter Try.func36, Try.ntmps36
    go_wp2_with (fail)
    rw [← hw2]
    clear hw2
    refine HV.out.mono ?_
    rintro e w3 ⟨rfl, bel3⟩
    obtain ⟨q0, q1⟩ := HK.out _ bel3
    obtain ⟨a0, a1⟩ := twE_cells q1
    have f0 := frozen_of_row _ _ 0 _ _ q1; have f1 := frozen_of_row _ _ 1 _ _ q1
    have HQ := Lib.hid (set2E_at q1 (.int .i64 0) (.slice none 0 0))
    have B3 := Lib.hid (HB.out.trans (bel3.mono HB.out.size))
    clear bel3 q0 q1 y0 y1
    go_wp2
    (try simp only [Exit.inBlock, Exit.then])
    refine bodyPost_ret (resCT rfl _ _ (w.heap.size + 1) _ _ (0, 0) _ rfl HQ.out Try.underlying29 rfl (by kernel_rfl)) rfl ?_
    exact givesGB_nil ((B3.out.setCell (p := ⟨w.heap.size + 1, 0, none⟩) (by show w.heap.size ≤ w.heap.size + 1; omega) _).setCell (p := ⟨w.heap.size + 1, 1, none⟩) (by show w.heap.size ≤ w.heap.size + 1; omega) _)
  | true =>
    rw [hv] at HV
    have HCO := Lib.hid (fun (wx : World) (hx : Below w2.heap.size w2 wx) => chainedOf_any ⟨A, sc⟩ ⟨nd, es⟩ wx (HRG.out wx hx) hv)
    dsimp only at HCO
    have hsm := vgB_small hv
    have HEN := Lib.hid (fun e he => ok_ends hv (e := e) he)
    have HTW := Lib.hid (vgB_two hv)
    have HSO := Lib.hid (fun k hk => on_some (W := W) (k := k) hv hk)
    have HNO := Lib.hid (fun hk => on_none (W := W) hv hk)
    dsimp only at hsm HEN HTW HSO HNO
    generalize onV W ⟨nd, es⟩ = RV at *
    generalize onB W ⟨nd, es⟩ = RB at *
    have hnd := hsm.1
    have hln := hsm.2
    have HND := Lib.hid hnd; have HLN := Lib.hid hln
    clear hv hsm hnd hln
    go_enter Try.func36, Try.ntmps36
    go_wp2_with (fail)
    rw [← hw2]
    clear hw2
    refine HV.out.mono ?_
    rintro e w3 ⟨rfl, bel3⟩
    have B3 := Lib.hid bel3
    clear bel3 y0 y1
    obtain ⟨q0, q1⟩ := HK.out _ B3.out
    obtain ⟨y0, y1⟩ := twE_cells q0
    clear q0 q1
    go_wp2_with (fail)
    refine (HCO.out _ B3.out).mono ?_
    rintro e w4 ⟨c, ns, rfl, hch, hpd, hes, bel4⟩
    have hlen : ns.length = es.length := by rw [← hes, edsN_len]
    have HCF := Lib.hid (cfirst_edge g W w4 hch hpd (by rw [hes]; exact HTW.out) HND.out.1 (by have := HND.out.2; omega) (fun n hn => HEN.out _ (eds_mem hes hn)) (by have := HLN.out; omega) (fun wx hx => HFF.out wx ((HB.out.trans (B3.out.mono HB.out.size)).trans ((bel4.trans (hx.mono bel4.size)).mono (Nat.le_trans HB.out.size B3.out.size)))))
    have B4 := Lib.hid bel4
    have HES := Lib.hid hes
    have HLE := Lib.hid hlen
    clear hch hpd hes bel4 hlen y0 y1
    go_wp2_with (fail)
    refine HCF.out.mono ?_
    rintro e w5 ⟨b, rfl, hcf⟩
    rcases hcf with ⟨rfl, k, ns', his, hch', _, hes', bel5⟩ | ⟨rfl, hno, _, bel5⟩
    · rw [HES.out] at his hes'
      obtain ⟨rfl, rfl⟩ := HSO.out k his
      have B35 := Lib.hid (B4.out.trans bel5)
      have hl5 : ns'.length ≤ 1000000 := by
        have h1 : (ctrE es k).length < es.length := ctrE_lt his.1
        have h2 := HLN.out
        rw [← hes', edsN_len] at h1
        omega
      have HGR := Lib.hid (graph_any w5 hch' hl5)
      rw [hes'] at HGR
      clear his hch' hes' bel5 hl5
      have HGR2 : Hid (Calls Try.prog 45 #[.pointer (some ⟨c, 0, none⟩)] w5 (GivesG w5 (ctrG ⟨nd, es⟩ k))) := HGR
      go_wp2_with (fail)
      refine HGR2.out.mono ?_
      rintro e w6 ⟨hh, rfl, own6, bel6⟩
      have B25 := B3.out.trans (B35.out.mono B3.out.size)
      have B26 := B25.trans (bel6.mono B25.size)
      obtain ⟨q0, q1⟩ := HK.out _ B26
      obtain ⟨a0, a1⟩ := twE_cells q1
      have f0 := frozen_of_row _ _ 0 _ _ q1; have f1 := frozen_of_row _ _ 1 _ _ q1
      have HQ := Lib.hid (set2E_at q1 (.int .i64 (ctrG ⟨nd, es⟩ k).n) (.slice hh.A (ctrG ⟨nd, es⟩ k).e.length hh.c))
      have HO := Lib.hid own6
      have HBB := Lib.hid (HB.out.trans (B26.mono HB.out.size))
      have HS5 : Hid (w.heap.size + 1 < w5.heap.size) := Lib.hid (Nat.lt_of_lt_of_le HS2.out B25.size)
      clear q0 q1 own6 bel6 B25 B26
      generalize ctrG ⟨nd, es⟩ k = V at *
      go_wp2
      (try simp only [Exit.inBlock, Exit.then])
      refine bodyPost_ret (resCT rfl _ _ (w.heap.size + 1) _ _ (0, 0) _ rfl HQ.out Try.underlying29 rfl (by kernel_rfl)) rfl ?_
      exact ⟨hh, rfl, ((HO.out.set HS5.out _).set HS5.out _).more (by have := HS5.out; omega) (by simp), (HBB.out.setCell (p := ⟨w.heap.size + 1, 0, none⟩) (by show w.heap.size ≤ w.heap.size + 1; omega) _).setCell (p := ⟨w.heap.size + 1, 1, none⟩) (by show w.heap.size ≤ w.heap.size + 1; omega) _⟩
    · rw [HES.out] at hno
      obtain ⟨rfl, rfl⟩ := HNO.out hno
      have B25 := B3.out.trans ((B4.out.trans (bel5.mono B4.out.size)).mono B3.out.size)
      obtain ⟨q0, q1⟩ := HK.out _ B25
      obtain ⟨a0, a1⟩ := twE_cells q1
      have f0 := frozen_of_row _ _ 0 _ _ q1; have f1 := frozen_of_row _ _ 1 _ _ q1
      have HQ := Lib.hid (set2E_at q1 (.int .i64 0) (.slice none 0 0))
      have HBB := Lib.hid (HB.out.trans (B25.mono HB.out.size))
      clear q0 q1 bel5 B25 hno
      go_wp2
      (try simp only [Exit.inBlock, Exit.then])
      refine bodyPost_ret (resCT rfl _ _ (w.heap.size + 1) _ _ (0, 0) _ rfl HQ.out Try.underlying29 rfl (by kernel_rfl)) rfl ?_
      exact givesGB_nil ((HBB.out.setCell (p := ⟨w.heap.size + 1, 0, none⟩) (by show w.heap.size ≤ w.heap.size + 1; omega) _).setCell (p := ⟨w.heap.size + 1, 1, none⟩) (by show w.heap.size ≤ w.heap.size + 1; omega) _)
set_option maxRecDepth 100000 in
set_option maxHeartbeats 1000000 in
theorem once_pair (h : GH) (G : Gr) (g : Nat) (W : Nat → Ed → Bool) (w : World) (r : RdG w w.heap.size h G)
    (HF : ∀ wx, Below w.heap.size w wx → ∀ (k : Nat) (x : Ed), Calls Try.prog 41 #[.int .i64 k, .agg #[.int .i64 x.a, .int .i64 x.b, .int .i64 x.p], .pointer (some ⟨g, 0, none⟩)] wx fun e w' => e = .returned (.bool (W k x)) ∧ Below wx.heap.size wx w') :
    Calls Try.prog 36 #[.agg #[.int .i64 G.n, .slice h.A G.e.length h.c], .func (.func 41) #[] #[.pointer (some ⟨g, 0, none⟩)]] w (GivesGB w (onV W G) (onB W G)) := by
  obtain ⟨w2, hw2⟩ : ∃ w2, w2 = (w.alloc (.cells #[.int .i64 G.n, .slice h.A G.e.length h.c] 29)).alloc (.cells #[.int .i64 0, .slice none 0 0] 29) := ⟨_, rfl⟩
  obtain ⟨hb, p0, p1, hsz⟩ := two_box w (.cells #[.int .i64 G.n, .slice h.A G.e.length h.c] 29) (.cells #[.int .i64 0, .slice none 0 0] 29)
  rw [← hw2] at hb p0 p1 hsz
  have HRG := Lib.hid (fun (wx : World) (hx : Below w2.heap.size w2 wx) => show RdG wx wx.heap.size h G from (r.below (hb.trans (hx.mono hb.size))).more (Nat.le_trans hb.size hx.size))
  have HV := Lib.hid (validG_impl h G w2 (HRG.out _ (Below.refl _ _)))
  have HB := Lib.hid hb
  have HK := Lib.hid (fun (wx : World) (hx : Below w2.heap.size w2 wx) => And.intro ((hx.block w.heap.size (by omega)).trans p0) ((hx.block (w.heap.size + 1) (by omega)).trans p1))
  have HFF := Lib.hid HF
  have HS2 : Hid (w.heap.size + 1 < w2.heap.size) := Lib.hid (by omega)
  obtain ⟨y0, y1⟩ := twE_cells p0
  clear r hb p0 p1 hsz HF
  obtain ⟨nd, es⟩ := G
  obtain ⟨A, sc⟩ := h
  dsimp only at HRG HV HK y0 y1 hw2 ⊢
  cases hv : vgB ⟨nd, es⟩ with
  | false =>
    rw [(on_inv (W := W) hv).1, (on_inv (W := W) hv).2]
    rw [hv] at HV
    clear hv
    go_enter Try.func36, Try.ntmps36
    go_wp2_with (fail)
    rw [← hw2]
    clear hw2
    refine HV.out.mono ?_
    rintro e w3 ⟨rfl, bel3⟩
    obtain ⟨q0, q1⟩ := HK.out _ bel3
    obtain ⟨a0, a1⟩ := twE_cells q1
    have f0 := frozen_of_row _ _ 0 _ _ q1; have f1 := frozen_of_row _ _ 1 _ _ q1
    have HQ := Lib.hid (set2E_at q1 (.int .i64 0) (.slice none 0 0))
    have B3 := Lib.hid (HB.out.trans (bel3.mono HB.out.size))
    clear bel3 q0 q1 y0 y1
    go_wp2
    (try simp only [Exit.inBlock, Exit.then])
    refine bodyPost_ret (resCT rfl _ _ (w.heap.size + 1) _ _ (0, 0) _ rfl HQ.out Try.underlying29 rfl (by kernel_rfl)) rfl ?_
    exact givesGB_nil ((B3.out.setCell (p := ⟨w.heap.size + 1, 0, none⟩) (by show w.heap.size ≤ w.heap.size + 1; omega) _).setCell (p := ⟨w.heap.size + 1, 1, none⟩) (by show w.heap.size ≤ w.heap.size + 1; omega) _)
  | true =>
    rw [hv] at HV
    have HCO := Lib.hid (fun (wx : World) (hx : Below w2.heap.size w2 wx) => chainedOf_any ⟨A, sc⟩ ⟨nd, es⟩ wx (HRG.out wx hx) hv)
    dsimp only at HCO
    have hsm := vgB_small hv
    have HEN := Lib.hid (fun e he => ok_ends hv (e := e) he)
    have HTW := Lib.hid (vgB_two hv)
    have HSO := Lib.hid (fun k hk => on_some (W := W) (k := k) hv hk)
    have HNO := Lib.hid (fun hk => on_none (W := W) hv hk)
    dsimp only at hsm HEN HTW HSO HNO
    generalize onV W ⟨nd, es⟩ = RV at *
    generalize onB W ⟨nd, es⟩ = RB at *
    have hnd := hsm.1
    have hln := hsm.2
    have HND := Lib.hid hnd; have HLN := Lib.hid hln
    clear hv hsm hnd hln
    go_enter Try.func36, Try.ntmps36
    go_wp2_with (fail)
    rw [← hw2]
    clear hw2
    refine HV.out.mono ?_
    rintro e w3 ⟨rfl, bel3⟩
    have B3 := Lib.hid bel3
    clear bel3 y0 y1
    obtain ⟨q0, q1⟩ := HK.out _ B3.out
    obtain ⟨y0, y1⟩ := twE_cells q0
    clear q0 q1
    go_wp2_with (fail)
    refine (HCO.out _ B3.out).mono ?_
    rintro e w4 ⟨c, ns, rfl, hch, hpd, hes, bel4⟩
    have hlen : ns.length = es.length := by rw [← hes, edsN_len]
    have HCF := Lib.hid (cfirst_pair g W w4 hch hpd (by rw [hes]; exact HTW.out) HND.out.1 (by have := HND.out.2; omega) (fun n hn => HEN.out _ (eds_mem hes hn)) (by have := HLN.out; omega) (fun wx hx => HFF.out wx ((HB.out.trans (B3.out.mono HB.out.size)).trans ((bel4.trans (hx.mono bel4.size)).mono (Nat.le_trans HB.out.size B3.out.size)))))
    have B4 := Lib.hid bel4
    have HES := Lib.hid hes
    have HLE := Lib.hid hlen
    clear hch hpd hes bel4 hlen y0 y1
    go_wp2_with (fail)
    refine HCF.out.mono ?_
    rintro e w5 ⟨b, rfl, hcf⟩
    rcases hcf with ⟨rfl, k, ns', his, hch', _, hes', bel5⟩ | ⟨rfl, hno, _, bel5⟩
    · rw [HES.out] at his hes'
      obtain ⟨rfl, rfl⟩ := HSO.out k his
      have B35 := Lib.hid (B4.out.trans bel5)
      have hl5 : ns'.length ≤ 1000000 := by
        have h1 : (ctrE es k).length < es.length := ctrE_lt his.1
        have h2 := HLN.out
        rw [← hes', edsN_len] at h1
        omega
      have HGR := Lib.hid (graph_any w5 hch' hl5)
      rw [hes'] at HGR
      clear his hch' hes' bel5 hl5
      have HGR2 : Hid (Calls Try.prog 45 #[.pointer (some ⟨c, 0, none⟩)] w5 (GivesG w5 (ctrG ⟨nd, es⟩ k))) := HGR
      go_wp2_with (fail)
      refine HGR2.out.mono ?_
      rintro e w6 ⟨hh, rfl, own6, bel6⟩
      have B25 := B3.out.trans (B35.out.mono B3.out.size)
      have B26 := B25.trans (bel6.mono B25.size)
      obtain ⟨q0, q1⟩ := HK.out _ B26
      obtain ⟨a0, a1⟩ := twE_cells q1
      have f0 := frozen_of_row _ _ 0 _ _ q1; have f1 := frozen_of_row _ _ 1 _ _ q1
      have HQ := Lib.hid (set2E_at q1 (.int .i64 (ctrG ⟨nd, es⟩ k).n) (.slice hh.A (ctrG ⟨nd, es⟩ k).e.length hh.c))
      have HO := Lib.hid own6
      have HBB := Lib.hid (HB.out.trans (B26.mono HB.out.size))
      have HS5 : Hid (w.heap.size + 1 < w5.heap.size) := Lib.hid (Nat.lt_of_lt_of_le HS2.out B25.size)
      clear q0 q1 own6 bel6 B25 B26
      generalize ctrG ⟨nd, es⟩ k = V at *
      go_wp2
      (try simp only [Exit.inBlock, Exit.then])
      refine bodyPost_ret (resCT rfl _ _ (w.heap.size + 1) _ _ (0, 0) _ rfl HQ.out Try.underlying29 rfl (by kernel_rfl)) rfl ?_
      exact ⟨hh, rfl, ((HO.out.set HS5.out _).set HS5.out _).more (by have := HS5.out; omega) (by simp), (HBB.out.setCell (p := ⟨w.heap.size + 1, 0, none⟩) (by show w.heap.size ≤ w.heap.size + 1; omega) _).setCell (p := ⟨w.heap.size + 1, 1, none⟩) (by show w.heap.size ≤ w.heap.size + 1; omega) _⟩
    · rw [HES.out] at hno
      obtain ⟨rfl, rfl⟩ := HNO.out hno
      have B25 := B3.out.trans ((B4.out.trans (bel5.mono B4.out.size)).mono B3.out.size)
      obtain ⟨q0, q1⟩ := HK.out _ B25
      obtain ⟨a0, a1⟩ := twE_cells q1
      have f0 := frozen_of_row _ _ 0 _ _ q1; have f1 := frozen_of_row _ _ 1 _ _ q1
      have HQ := Lib.hid (set2E_at q1 (.int .i64 0) (.slice none 0 0))
      have HBB := Lib.hid (HB.out.trans (B25.mono HB.out.size))
      clear q0 q1 bel5 B25 hno
      go_wp2
      (try simp only [Exit.inBlock, Exit.then])
      refine bodyPost_ret (resCT rfl _ _ (w.heap.size + 1) _ _ (0, 0) _ rfl HQ.out Try.underlying29 rfl (by kernel_rfl)) rfl ?_
      exact givesGB_nil ((HBB.out.setCell (p := ⟨w.heap.size + 1, 0, none⟩) (by show w.heap.size ≤ w.heap.size + 1; omega) _).setCell (p := ⟨w.heap.size + 1, 1, none⟩) (by show w.heap.size ≤ w.heap.size + 1; omega) _)
set_option maxRecDepth 100000 in
set_option maxHeartbeats 1000000 in
theorem once_any (h : GH) (G : Gr) (W : Nat → Ed → Bool) (w : World) (r : RdG w w.heap.size h G)
    (HF : ∀ wx, Below w.heap.size w wx → ∀ (k : Nat) (x : Ed), Calls Try.prog 42 #[.int .i64 k, .agg #[.int .i64 x.a, .int .i64 x.b, .int .i64 x.p]] wx fun e w' => e = .returned (.bool (W k x)) ∧ Below wx.heap.size wx w') :
    Calls Try.prog 36 #[.agg #[.int .i64 G.n, .slice h.A G.e.length h.c], .func (.func 42) #[] #[]] w (GivesGB w (onV W G) (onB W G)) := by
  obtain ⟨w2, hw2⟩ : ∃ w2, w2 = (w.alloc (.cells #[.int .i64 G.n, .slice h.A G.e.length h.c] 29)).alloc (.cells #[.int .i64 0, .slice none 0 0] 29) := ⟨_, rfl⟩
  obtain ⟨hb, p0, p1, hsz⟩ := two_box w (.cells #[.int .i64 G.n, .slice h.A G.e.length h.c] 29) (.cells #[.int .i64 0, .slice none 0 0] 29)
  rw [← hw2] at hb p0 p1 hsz
  have HRG := Lib.hid (fun (wx : World) (hx : Below w2.heap.size w2 wx) => show RdG wx wx.heap.size h G from (r.below (hb.trans (hx.mono hb.size))).more (Nat.le_trans hb.size hx.size))
  have HV := Lib.hid (validG_impl h G w2 (HRG.out _ (Below.refl _ _)))
  have HB := Lib.hid hb
  have HK := Lib.hid (fun (wx : World) (hx : Below w2.heap.size w2 wx) => And.intro ((hx.block w.heap.size (by omega)).trans p0) ((hx.block (w.heap.size + 1) (by omega)).trans p1))
  have HFF := Lib.hid HF
  have HS2 : Hid (w.heap.size + 1 < w2.heap.size) := Lib.hid (by omega)
  obtain ⟨y0, y1⟩ := twE_cells p0
  clear r hb p0 p1 hsz HF
  obtain ⟨nd, es⟩ := G
  obtain ⟨A, sc⟩ := h
  dsimp only at HRG HV HK y0 y1 hw2 ⊢
  cases hv : vgB ⟨nd, es⟩ with
  | false =>
    rw [(on_inv (W := W) hv).1, (on_inv (W := W) hv).2]
    rw [hv] at HV
    clear hv
    go_enter Try.func36, Try.ntmps36
    go_wp2_with (fail)
    rw [← hw2]
    clear hw2
    refine HV.out.mono ?_
    rintro e w3 ⟨rfl, bel3⟩
    obtain ⟨q0, q1⟩ := HK.out _ bel3
    obtain ⟨a0, a1⟩ := twE_cells q1
    have f0 := frozen_of_row _ _ 0 _ _ q1; have f1 := frozen_of_row _ _ 1 _ _ q1
    have HQ := Lib.hid (set2E_at q1 (.int .i64 0) (.slice none 0 0))
    have B3 := Lib.hid (HB.out.trans (bel3.mono HB.out.size))
    clear bel3 q0 q1 y0 y1
    go_wp2
    (try simp only [Exit.inBlock, Exit.then])
    refine bodyPost_ret (resCT rfl _ _ (w.heap.size + 1) _ _ (0, 0) _ rfl HQ.out Try.underlying29 rfl (by kernel_rfl)) rfl ?_
    exact givesGB_nil ((B3.out.setCell (p := ⟨w.heap.size + 1, 0, none⟩) (by show w.heap.size ≤ w.heap.size + 1; omega) _).setCell (p := ⟨w.heap.size + 1, 1, none⟩) (by show w.heap.size ≤ w.heap.size + 1; omega) _)
  | true =>
    rw [hv] at HV
    have HCO := Lib.hid (fun (wx : World) (hx : Below w2.heap.size w2 wx) => chainedOf_any ⟨A, sc⟩ ⟨nd, es⟩ wx (HRG.out wx hx) hv)
    dsimp only at HCO
    have hsm := vgB_small hv
    have HEN := Lib.hid (fun e he => ok_ends hv (e := e) he)
    have HTW := Lib.hid (vgB_two hv)
    have HSO := Lib.hid (fun k hk => on_some (W := W) (k := k) hv hk)
    have HNO := Lib.hid (fun hk => on_none (W := W) hv hk)
    dsimp only at hsm HEN HTW HSO HNO
    generalize onV W ⟨nd, es⟩ = RV at *
    generalize onB W ⟨nd, es⟩ = RB at *
    have hnd := hsm.1
    have hln := hsm.2
    have HND := Lib.hid hnd; have HLN := Lib.hid hln
    clear hv hsm hnd hln
    go_enter Try.func36, Try.ntmps36
    go_wp2_with (fail)
    rw [← hw2]
    clear hw2
    refine HV.out.mono ?_
    rintro e w3 ⟨rfl, bel3⟩
    have B3 := Lib.hid bel3
    clear bel3 y0 y1
    obtain ⟨q0, q1⟩ := HK.out _ B3.out
    obtain ⟨y0, y1⟩ := twE_cells q0
    clear q0 q1
    go_wp2_with (fail)
    refine (HCO.out _ B3.out).mono ?_
    rintro e w4 ⟨c, ns, rfl, hch, hpd, hes, bel4⟩
    have hlen : ns.length = es.length := by rw [← hes, edsN_len]
    have HCF := Lib.hid (cfirst_any W w4 hch hpd (by rw [hes]; exact HTW.out) HND.out.1 (by have := HND.out.2; omega) (fun n hn => HEN.out _ (eds_mem hes hn)) (by have := HLN.out; omega) (fun wx hx => HFF.out wx ((HB.out.trans (B3.out.mono HB.out.size)).trans ((bel4.trans (hx.mono bel4.size)).mono (Nat.le_trans HB.out.size B3.out.size)))))
    have B4 := Lib.hid bel4
    have HES := Lib.hid hes
    have HLE := Lib.hid hlen
    clear hch hpd hes bel4 hlen y0 y1
    go_wp2_with (fail)
    refine HCF.out.mono ?_
    rintro e w5 ⟨b, rfl, hcf⟩
    rcases hcf with ⟨rfl, k, ns', his, hch', _, hes', bel5⟩ | ⟨rfl, hno, _, bel5⟩
    · rw [HES.out] at his hes'
      obtain ⟨rfl, rfl⟩ := HSO.out k his
      have B35 := Lib.hid (B4.out.trans bel5)
      have hl5 : ns'.length ≤ 1000000 := by
        have h1 : (ctrE es k).length < es.length := ctrE_lt his.1
        have h2 := HLN.out
        rw [← hes', edsN_len] at h1
        omega
      have HGR := Lib.hid (graph_any w5 hch' hl5)
      rw [hes'] at HGR
      clear his hch' hes' bel5 hl5
      have HGR2 : Hid (Calls Try.prog 45 #[.pointer (some ⟨c, 0, none⟩)] w5 (GivesG w5 (ctrG ⟨nd, es⟩ k))) := HGR
      go_wp2_with (fail)
      refine HGR2.out.mono ?_
      rintro e w6 ⟨hh, rfl, own6, bel6⟩
      have B25 := B3.out.trans (B35.out.mono B3.out.size)
      have B26 := B25.trans (bel6.mono B25.size)
      obtain ⟨q0, q1⟩ := HK.out _ B26
      obtain ⟨a0, a1⟩ := twE_cells q1
      have f0 := frozen_of_row _ _ 0 _ _ q1; have f1 := frozen_of_row _ _ 1 _ _ q1
      have HQ := Lib.hid (set2E_at q1 (.int .i64 (ctrG ⟨nd, es⟩ k).n) (.slice hh.A (ctrG ⟨nd, es⟩ k).e.length hh.c))
      have HO := Lib.hid own6
      have HBB := Lib.hid (HB.out.trans (B26.mono HB.out.size))
      have HS5 : Hid (w.heap.size + 1 < w5.heap.size) := Lib.hid (Nat.lt_of_lt_of_le HS2.out B25.size)
      clear q0 q1 own6 bel6 B25 B26
      generalize ctrG ⟨nd, es⟩ k = V at *
      go_wp2
      (try simp only [Exit.inBlock, Exit.then])
      refine bodyPost_ret (resCT rfl _ _ (w.heap.size + 1) _ _ (0, 0) _ rfl HQ.out Try.underlying29 rfl (by kernel_rfl)) rfl ?_
      exact ⟨hh, rfl, ((HO.out.set HS5.out _).set HS5.out _).more (by have := HS5.out; omega) (by simp), (HBB.out.setCell (p := ⟨w.heap.size + 1, 0, none⟩) (by show w.heap.size ≤ w.heap.size + 1; omega) _).setCell (p := ⟨w.heap.size + 1, 1, none⟩) (by show w.heap.size ≤ w.heap.size + 1; omega) _⟩
    · rw [HES.out] at hno
      obtain ⟨rfl, rfl⟩ := HNO.out hno
      have B25 := B3.out.trans ((B4.out.trans (bel5.mono B4.out.size)).mono B3.out.size)
      obtain ⟨q0, q1⟩ := HK.out _ B25
      obtain ⟨a0, a1⟩ := twE_cells q1
      have f0 := frozen_of_row _ _ 0 _ _ q1; have f1 := frozen_of_row _ _ 1 _ _ q1
      have HQ := Lib.hid (set2E_at q1 (.int .i64 0) (.slice none 0 0))
      have HBB := Lib.hid (HB.out.trans (B25.mono HB.out.size))
      clear q0 q1 bel5 B25 hno
      go_wp2
      (try simp only [Exit.inBlock, Exit.then])
      refine bodyPost_ret (resCT rfl _ _ (w.heap.size + 1) _ _ (0, 0) _ rfl HQ.out Try.underlying29 rfl (by kernel_rfl)) rfl ?_
      exact givesGB_nil ((HBB.out.setCell (p := ⟨w.heap.size + 1, 0, none⟩) (by show w.heap.size ≤ w.heap.size + 1; omega) _).setCell (p := ⟨w.heap.size + 1, 1, none⟩) (by show w.heap.size ≤ w.heap.size + 1; omega) _)
end Go.Proofs.Ytlcapifgpcimpaa
