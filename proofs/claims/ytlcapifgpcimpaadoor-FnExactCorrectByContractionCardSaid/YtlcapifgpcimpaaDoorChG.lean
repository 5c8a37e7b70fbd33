/- The program's ContractEdge, ContractPair, ContractFirst, ContractAll. Made by mkchg.py. -/
import Derived.Test.YtlcapifgpcimpaaDoorChF
import Derived.Deep.RegionHeldLaw
import Derived.Deep.DeepCutAuto
import Derived.BigQuiet
import Derived.Deep.LoopGhost
namespace Go.Proofs.YtlcapifgpcimpaaDoor
set_option linter.unusedSimpArgs false
set_option linter.unusedVariables false
open Go.ChangeAt Go.ChangeShapes Go.RowKit Go.WideShapes

theorem cell1E {w : World} {b : Nat} {a0 : Value} {t : TypeId} (h : w.heap[b]? = some (.cells #[a0] t (0, 0))) : w.cell? ⟨b, 0, none⟩ = some a0 := cell_of_row _ _ 0 _ _ (0, 0) h
theorem thr_anyX (w : World) (o p q : Obj) : Below w.heap.size w (((w.alloc o).alloc p).alloc q) ∧ (((w.alloc o).alloc p).alloc q).heap[w.heap.size]? = some o ∧ (((w.alloc o).alloc p).alloc q).heap[w.heap.size + 1]? = some p ∧ (((w.alloc o).alloc p).alloc q).heap[w.heap.size + 1 + 1]? = some q ∧ (((w.alloc o).alloc p).alloc q).heap.size = w.heap.size + 1 + 1 + 1 := by
  obtain ⟨hb, h0, h1, hs⟩ := two_box w o p
  refine ⟨hb.alloc (by omega) _, (Below.heap_alloc _ _ _ (by omega)).trans h0, (Below.heap_alloc _ _ _ (by omega)).trans h1, ?_, by simp⟩
  rw [← hs]; exact heap_alloc_new _ _
theorem givesGI_nil {w w' : World} (h : Below w.heap.size w w') : GivesGI w Gr.nil (-1) (.returned (.tuple #[.agg #[.int .i64 0, .slice none 0 0], .int .i64 (-1)])) w' := ⟨⟨none, 0⟩, rfl, ⟨World.ownsRow_nil _ _ _ _, fun k hk => by cases hk⟩, h⟩
set_option maxRecDepth 100000 in
set_option maxHeartbeats 1000000 in
theorem contractAll_impl (h : GH) (G : Gr) (w : World) (r : RdG w w.heap.size h G) :
    Calls Tryd.prog 44 #[.agg #[.int .i64 G.n, .slice h.A G.e.length h.c]] w (GivesGI w (alV G) (alI G)) := by
  obtain ⟨w2, hw2⟩ : ∃ w2, w2 = (w.alloc (.cells #[.int .i64 G.n, .slice h.A G.e.length h.c] 30)).alloc (.cells #[.int .i64 0, .slice none 0 0] 30) := ⟨_, rfl⟩
  obtain ⟨hb, p0, p1, hsz⟩ := two_box w (.cells #[.int .i64 G.n, .slice h.A G.e.length h.c] 30) (.cells #[.int .i64 0, .slice none 0 0] 30)
  rw [← hw2] at hb p0 p1 hsz
  have HRG := Lib.hid (fun (wx : World) (hx : Below w2.heap.size w2 wx) => show RdG wx wx.heap.size h G from (r.below (hb.trans (hx.mono hb.size))).more (Nat.le_trans hb.size hx.size))
  have HV := Lib.hid (validG_impl h G w2 (HRG.out _ (Below.refl _ _)))
  have HB := Lib.hid hb
  have HK := Lib.hid (fun (wx : World) (hx : Below w2.heap.size w2 wx) => And.intro ((hx.block w.heap.size (by omega)).trans p0) ((hx.block (w.heap.size + 1) (by omega)).trans p1))
  have HS2 : Hid (w.heap.size + 1 < w2.heap.size) := Lib.hid (by omega)
  obtain ⟨y0, y1⟩ := twE_cells p0
  clear r hb p0 p1 hsz
  generalize hRV : alV G = RV
  generalize hRI : alI G = RI
  have HRV := Lib.hid hRV; have HRI := Lib.hid hRI
  clear hRV hRI
  obtain ⟨nd, es⟩ := G
  obtain ⟨A, sc⟩ := h
  dsimp only at HRG HV HK y0 y1 hw2 ⊢
  cases hv : vgB ⟨nd, es⟩ with
  | false =>
    obtain rfl : RV = Gr.nil := HRV.out.symm.trans (al_inv hv).1
    obtain rfl : RI = -1 := HRI.out.symm.trans (al_inv hv).2
    rw [hv] at HV
    clear hv HRV HRI
    go_enter Tryd.func44, Tryd.ntmps44
    go_wp2_with (fail)
    rw [← hw2]
    clear hw2
    refine HV.out.mono ?_
    rintro e w3 ⟨rfl, bel3⟩
    obtain ⟨q0, q1⟩ := HK.out _ bel3
    obtain ⟨a0, a1⟩ := twE_cells q1
    have f0 := frozen_of_row _ _ 0 _ _ q1; have f1 := frozen_of_row _ _ 1 _ _ q1
    have HQ := Lib.hid (set2E_at q1 (.int .i64 0) (.slice none 0 0))
    have B3 := Lib.hid (HB.out.trans (bel3.mono HB.out.size))
    clear bel3 q0 q1 y0 y1
    go_wp2
    (try simp only [Exit.inBlock, Exit.then])
    refine bodyPost_ret (resCT rfl _ _ (w.heap.size + 1) _ _ (0, 0) _ rfl HQ.out Tryd.underlying30 rfl (by kernel_rfl)) rfl ?_
    exact givesGI_nil ((B3.out.setCell (p := ⟨w.heap.size + 1, 0, none⟩) (by show w.heap.size ≤ w.heap.size + 1; omega) _).setCell (p := ⟨w.heap.size + 1, 1, none⟩) (by show w.heap.size ≤ w.heap.size + 1; omega) _)
  | true =>
    rw [hv] at HV
    have HCO := Lib.hid (fun (wx : World) (hx : Below w2.heap.size w2 wx) => chainedOf_any ⟨A, sc⟩ ⟨nd, es⟩ wx (HRG.out wx hx) hv)
    dsimp only at HCO
    have HST : Hid (Run ⟨nd, es⟩ ⟨nd, es⟩ 0 es.length) := Lib.hid (Run.start hv)
    have HV0 := Lib.hid hv
    clear hv
    go_enter Tryd.func44, Tryd.ntmps44
    go_wp2_with (fail)
    rw [← hw2]
    clear hw2
    refine HV.out.mono ?_
    rintro e w3 ⟨rfl, bel3⟩
    have B3 := Lib.hid bel3
    clear bel3 y0 y1
    obtain ⟨q0, q1⟩ := HK.out _ B3.out
    obtain ⟨y0, y1⟩ := twE_cells q0
    clear q0 q1
    go_wp2_with (fail)
    refine (HCO.out _ B3.out).mono ?_
    rintro e w4 ⟨c, ns, rfl, hch, hpd, hes, bel4⟩
    have HCH := Lib.hid hch; have HPD := Lib.hid hpd; have HES := Lib.hid hes; have B4 := Lib.hid bel4
    clear hch hpd hes bel4 y0 y1
    go_wp2
    go_loopg [5] es.length (fun f iv wr => ∃ (s : Nat) (G' : Gr) (ns' : List Nd), iv = .int .i64 (s : Nat) ∧ Hid (s ≤ 1000 ∧ s + f ≤ 1000) ∧ Hid (Run ⟨nd, es⟩ G' s f) ∧ Hid (ChG wr w3.heap.size c G'.n ns' ∧ PdN ns' ∧ edsN ns' = G'.e) ∧ Below w3.heap.size w3 wr)
    case atStart => exact ⟨0, ⟨nd, es⟩, ns, rfl, Lib.hid ⟨by omega, by have h9 : es.length ≤ 48 := (vgB_small HV0.out).2; omega⟩, HST.out, Lib.hid ⟨HCH.out, HPD.out, HES.out⟩, B4.out⟩
    case round =>
      obtain ⟨s, G', ns', rfl, hsb, hrun, hcc, hB⟩ := hrel
      clear HCH HPD HES B4 HST
      have HBW := Lib.hid hB
      clear hB
      have hv' := hrun.out.1
      have hsm := vgB_small hv'
      have hlen : ns'.length = G'.e.length := by rw [← hcc.out.2.2, edsN_len]
      have HCF := Lib.hid (cfirst_any anyW wr hcc.out.1 hcc.out.2.1 (by rw [hcc.out.2.2]; exact vgB_two hv') hsm.1.1 (by omega) (fun n hn => ok_ends hv' (eds_mem hcc.out.2.2 hn)) (by omega) (fun wx hx k x => anyC_any wx k x))
      have HLE : Hid (ns'.length ≤ 48) := Lib.hid (by omega)
      have hs1 := hsb.out.1
      clear hv' hsm hlen
      go_wp2_with (fail)
      refine HCF.out.mono ?_
      rintro e w5 ⟨b, rfl, hcf⟩
      rcases hcf with ⟨rfl, k, ns2, his, hch2, hpd2, hes2, bel5⟩ | ⟨rfl, hno, hch2, bel5⟩
      · rw [hcc.out.2.2] at his hes2
        obtain ⟨f', hf', hrun2⟩ := hrun.out.step his
        have HR2 := Lib.hid hrun2
        have HC2 : Hid (ChG w5 w3.heap.size c (ctrG G' k).n ns2 ∧ PdN ns2 ∧ edsN ns2 = (ctrG G' k).e) := Lib.hid ⟨hch2, hpd2, hes2⟩
        have HB5 := Lib.hid (HBW.out.trans bel5)
        have HF := Lib.hid hf'
        have HSB : Hid (s + 1 ≤ 1000 ∧ s + 1 + f' ≤ 1000) := Lib.hid (by have := hsb.out; omega)
        clear his hch2 hpd2 hes2 bel5 hrun2 hf'
        go_wp2
        go_roundg f'
        case measure => exact HF.out
        case rel => exact ⟨s + 1, ctrG G' k, ns2, by go_num, HSB, HR2, HC2, HB5.out⟩
      · rw [hcc.out.2.2] at hno
        obtain ⟨e1, e2⟩ := hrun.out.done HV0.out hno
        obtain rfl : RV = G' := HRV.out.symm.trans e1
        obtain rfl : RI = (s : Int) := HRI.out.symm.trans e2
        have HB5 := Lib.hid (HBW.out.trans (bel5.mono HBW.out.size))
        have HGR := Lib.hid (graph_any w5 hch2 (by have := HLE.out; omega))
        rw [hcc.out.2.2] at HGR
        have HGR2 : Hid (Calls Tryd.prog 74 #[.pointer (some ⟨c, 0, none⟩)] w5 (GivesG w5 RV)) := HGR
        clear hno hch2 bel5 HGR e1 e2
        go_wp2_with (fail)
        refine HGR2.out.mono ?_
        rintro e w6 ⟨hh, rfl, own6, bel6⟩
        have B25 := B3.out.trans (HB5.out.mono B3.out.size)
        have B26 := B25.trans (bel6.mono B25.size)
        obtain ⟨q0, q1⟩ := HK.out _ B26
        obtain ⟨a0, a1⟩ := twE_cells q1
        have f0 := frozen_of_row _ _ 0 _ _ q1; have f1 := frozen_of_row _ _ 1 _ _ q1
        have HQ := Lib.hid (set2E_at q1 (.int .i64 RV.n) (.slice hh.A RV.e.length hh.c))
        have HO := Lib.hid own6
        have HBB := Lib.hid (HB.out.trans (B26.mono HB.out.size))
        have HS5 : Hid (w.heap.size + 1 < w5.heap.size) := Lib.hid (Nat.lt_of_lt_of_le HS2.out B25.size)
        clear q0 q1 own6 bel6 B25 B26
        go_wp2
        (try simp only [Exit.inBlock, Exit.then])
        refine bodyPost_ret (resCT rfl _ _ (w.heap.size + 1) _ _ (0, 0) _ rfl HQ.out Tryd.underlying30 rfl (by kernel_rfl)) rfl ?_
        exact ⟨hh, rfl, ((HO.out.set HS5.out _).set HS5.out _).more (by have := HS5.out; omega) (by simp), (HBB.out.setCell (p := ⟨w.heap.size + 1, 0, none⟩) (by show w.heap.size ≤ w.heap.size + 1; omega) _).setCell (p := ⟨w.heap.size + 1, 1, none⟩) (by show w.heap.size ≤ w.heap.size + 1; omega) _⟩
end Go.Proofs.YtlcapifgpcimpaaDoor
