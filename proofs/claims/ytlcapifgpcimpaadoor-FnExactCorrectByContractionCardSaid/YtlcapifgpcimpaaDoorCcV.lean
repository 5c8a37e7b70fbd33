/- The model's ContractEdge, ContractPair, ContractFirst. Made by mkccv.py. -/
import Derived.Test.YtlcapifgpcimpaaDoorCcU
import Derived.Test.YtlcapifgpcimpaaDoorChG
import Derived.Deep.RegionHeldLaw
import Derived.Deep.DeepCutAuto
import Derived.BigQuiet
namespace Go.Proofs.YtlcapifgpcimpaaDoor
set_option linter.unusedSimpArgs false
set_option linter.unusedVariables false
open Go.ChangeAt Go.ChangeShapes Go.RowKit Go.WideShapes

theorem edge_no {G : Gr} (hv : vgB G = true) {i : Int} (h : ∀ k : Nat, (k : Int) = i → k < G.e.length → snB (G.e.getD k Ed.nil) = false) : NoFst (edgeW i) G.e := fun j hj => by
  by_cases e : (j : Int) = i
  · have h1 := h j e hj
    rw [snB_is hv hj] at h1
    unfold edgeW
    rw [decide_eq_true e, Bool.true_and]; exact h1
  · unfold edgeW; rw [decide_eq_false e]; rfl
theorem edge_yes {G : Gr} (hv : vgB G = true) {k : Nat} (hk : k < G.e.length) (h : snB (G.e.getD k Ed.nil) = true) : IsFst (edgeW (k : Int)) G.e k := by
  rw [snB_is hv hk, Bool.and_eq_true, decide_eq_true_eq] at h
  refine ⟨hk, by unfold edgeW; rw [decide_eq_true rfl, decide_eq_true h.1]; rfl, h.2, fun j hj => ?_⟩
  unfold edgeW
  rw [decide_eq_false (by omega)]; rfl
theorem sn_pair {G : Gr} (hv : vgB G = true) {k : Nat} (hk : k < G.e.length) (h : snB (G.e.getD k Ed.nil) = true) : (G.e.getD k Ed.nil).p = -1 := by
  rw [snB_is hv hk, Bool.and_eq_true, decide_eq_true_eq] at h; exact h.1
theorem pair_no {G : Gr} (hv : vgB G = true) {p : Int} (h : prB G.e p = false) : NoFst (pairW p) G.e := fun j hj => by
  unfold pairW
  by_cases e : (G.e.getD j Ed.nil).p = p
  · by_cases e2 : (G.e.getD j Ed.nil).p = -1
    · rw [decide_eq_false (show ¬ (G.e.getD j Ed.nil).p ≠ -1 from fun h9 => h9 e2), Bool.and_false]; rfl
    · rw [← e, prB_is hv hj e2] at h
      rw [h, Bool.and_false]
  · rw [decide_eq_false e]; rfl
/-- The first of a pair. -/
theorem pair_yes {G : Gr} (hv : vgB G = true) {p : Int} (h : prB G.e p = true) : ∃ k, IsFst (pairW p) G.e k ∧ (mtL G.e p G.e.length).getD 0 0 = (k : Int) ∧ (G.e.getD k Ed.nil).p = p ∧ p ≠ -1 ∧ 0 < (mtL G.e p G.e.length).length := by
  have hp : 0 ≤ p := by
    by_cases e : 0 ≤ p
    · exact e
    · rw [prB_neg (by omega)] at h; cases h
  have hlen : (mtL G.e p G.e.length).length = 2 := by
    by_cases e : (mtL G.e p G.e.length).length = 2
    · exact e
    · rw [prB_len e] at h; cases h
  have hne : 0 < (mtL G.e p G.e.length).length := by omega
  cases hf : fstK (pairW p) G.e with
  | none =>
    exfalso
    obtain ⟨i, _, hi, hip⟩ := mt_nat (hd_mem hne)
    have := fst_no hf i hi
    unfold pairW at this
    rw [decide_eq_true hip, decide_eq_true (by rw [hip]; omega), ← prB_is hv hi (by rw [hip]; omega), hip, h] at this
    cases this
  | some k =>
    obtain ⟨h1, h2, h3, h4⟩ := fst_is hf
    unfold pairW at h2
    simp only [Bool.and_eq_true, decide_eq_true_eq] at h2
    refine ⟨k, ⟨h1, by unfold pairW; rw [decide_eq_true h2.1, decide_eq_true h2.2]; rfl, h3, h4⟩, ?_, h2.1, by omega, hne⟩
    obtain ⟨i, ei, hi, hip⟩ := mt_nat (hd_mem hne)
    rw [ei]
    have hle : ∀ j : Nat, j < G.e.length → (G.e.getD j Ed.nil).p = p → k ≤ j := fun j hj hjp => by
      rcases Nat.lt_or_ge j k with e | e
      · have := h4 j e
        unfold pairW at this
        rw [decide_eq_true hjp, decide_eq_true (by rw [hjp]; omega), ← prB_is hv hj (by rw [hjp]; omega), hjp, h] at this
        cases this
      · exact e
    have h5 := hle i hi hip
    have h6 : (k : Int) ∈ mtL G.e p G.e.length := mem_mt.2 ⟨h1, h2.1⟩
    -- the list is increasing: its head is the least
    have hinc : ∀ (n : Nat) (x : Int), x ∈ mtL G.e p n → (mtL G.e p n).getD 0 0 ≤ x := by
      intro n
      induction n with
      | zero => intro x hx; simp [mtL] at hx
      | succ n ih =>
        intro x hx
        by_cases e : (G.e.getD n Ed.nil).p = p
        · rw [mtL_yes e] at hx ⊢
          rcases List.mem_append.1 hx with hx | hx
          · have := ih x hx
            have hpos : 0 < (mtL G.e p n).length := List.length_pos_of_mem hx
            rw [List.getD_eq_getElem?_getD, List.getElem?_append_left hpos, ← List.getD_eq_getElem?_getD]; exact this
          · have : x = (n : Int) := by simpa using hx
            rw [this]
            by_cases hpos : 0 < (mtL G.e p n).length
            · rw [List.getD_eq_getElem?_getD, List.getElem?_append_left hpos, ← List.getD_eq_getElem?_getD]
              obtain ⟨q, eq, hq, _⟩ := mt_nat (hd_mem hpos)
              omega
            · have : mtL G.e p n = [] := List.eq_nil_of_length_eq_zero (by omega)
              rw [this]; simp
        · rw [mtL_no e] at hx ⊢
          exact ih x hx
    have h7 := hinc _ _ h6
    omega
theorem any_single {G : Gr} (hv : vgB G = true) {k : Nat} (hk : k < G.e.length) (h : snB (G.e.getD k Ed.nil) = true) : canE G.e (G.e.getD k Ed.nil) = true := by
  rw [snB_is hv hk, Bool.and_eq_true] at h; exact h.2
theorem any_none {G : Gr} (hv : vgB G = true) {k : Nat} (hk : k < G.e.length) (h1 : snB (G.e.getD k Ed.nil) = false) (h2 : prB G.e (G.e.getD k Ed.nil).p = false) : (anyW k (G.e.getD k Ed.nil) && canE G.e (G.e.getD k Ed.nil)) = false := by
  show (true && canE G.e (G.e.getD k Ed.nil)) = false
  rw [Bool.true_and]
  by_cases hp : (G.e.getD k Ed.nil).p = -1
  · rw [snB_is hv hk, decide_eq_true hp, Bool.true_and] at h1; exact h1
  · rw [← prB_is hv hk hp]; exact h2
theorem any_pair {G : Gr} (hv : vgB G = true) {k : Nat} (hk : k < G.e.length) (h2 : prB G.e (G.e.getD k Ed.nil).p = true) : (G.e.getD k Ed.nil).p ≠ -1 ∧ canE G.e (G.e.getD k Ed.nil) = true := by
  have hp : (G.e.getD k Ed.nil).p ≠ -1 := fun e => by rw [prB_neg (by rw [e]; decide)] at h2; cases h2
  exact ⟨hp, by rw [← prB_is hv hk hp]; exact h2⟩
theorem rd_oneE {w : World} {b : Nat} {x : Int} (h : w.heap[b]? = some (.cells #[.int .i64 x] 2 (0, 0))) : RdI w w.heap.size (some ⟨b, 0, none⟩) 1 [x] := by
  refine ⟨rfl, fun _ => ⟨b, 0, rfl, (Array.getElem?_eq_some_iff.1 h).1, fun j hj => ?_⟩⟩
  obtain rfl : j = 0 := by omega
  exact cell1E h
set_option maxRecDepth 100000 in
set_option maxHeartbeats 1000000 in
theorem sContractFirst_any (h : GH) (G : Gr) (w : World) (r : RdG w w.heap.size h G) (hl : G.e.length ≤ 1048576) :
    Calls Tryd.prog 69 #[.agg #[.int .i64 G.n, .slice h.A G.e.length h.c]] w (GivesGB w (onV anyW G) (onB anyW G)) := by
  obtain ⟨w2, hw2⟩ : ∃ w2, w2 = (w.alloc (.cells #[.int .i64 G.n, .slice h.A G.e.length h.c] 30)).alloc (.cells #[.int .i64 0, .slice none 0 0] 30) := ⟨_, rfl⟩
  obtain ⟨hb, p0, p1, hsz⟩ := two_box w (.cells #[.int .i64 G.n, .slice h.A G.e.length h.c] 30) (.cells #[.int .i64 0, .slice none 0 0] 30)
  rw [← hw2] at hb p0 p1 hsz
  have HRG := Lib.hid (fun (wx : World) (hx : Below w2.heap.size w2 wx) => show RdG wx wx.heap.size h G from (r.below (hb.trans (hx.mono hb.size))).more (Nat.le_trans hb.size hx.size))
  have HV := Lib.hid (sValidG_any h G w2 (HRG.out _ (Below.refl _ _)) hl)
  have HB := Lib.hid hb
  have HK := Lib.hid (fun (wx : World) (hx : Below w2.heap.size w2 wx) => And.intro ((hx.block w.heap.size (by omega)).trans p0) ((hx.block (w.heap.size + 1) (by omega)).trans p1))
  have HS2 : Hid (w.heap.size + 1 < w2.heap.size) := Lib.hid (by omega)
  have HINV := Lib.hid (@on_inv anyW G); have HNON := Lib.hid (@on_none anyW G); have HSOM := Lib.hid (fun k => @on_some anyW G k)
  have HBN : Hid (∀ b off, h.A = some ⟨b, off, none⟩ → 0 < G.e.length → b ≠ w.heap.size + 1) := Lib.hid fun b off e h0 => by
    obtain ⟨b1, off1, e1, hb1, _⟩ := RdE.at r h0
    rw [e] at e1
    injection e1 with e1
    injection e1 with e2 e3 e4
    omega
  obtain ⟨y0, y1⟩ := twE_cells p0
  clear r hb p0 p1 hsz
  have hr1 := HRG.out
  cases hv : vgB G with
  | false =>
    rw [(HINV.out hv).1, (HINV.out hv).2]
    rw [hv] at HV
    obtain ⟨nd, es⟩ := G
    obtain ⟨A, sc⟩ := h
    dsimp only at HV HK y0 y1 hw2 ⊢
    clear hv hr1 HRG HINV HNON HSOM
    go_enter Tryd.func69, Tryd.ntmps69
    go_wp2_with (fail)
    rw [← hw2]
    clear hw2
    refine HV.out.mono ?_
    rintro e w3 ⟨rfl, bel3⟩
    have BX := Lib.hid bel3
    clear bel3 y0 y1
    obtain ⟨q0, q1⟩ := HK.out _ BX.out
    obtain ⟨a0, a1⟩ := twE_cells q1
    have f0 := frozen_of_row _ _ 0 _ _ q1; have f1 := frozen_of_row _ _ 1 _ _ q1
    have HQ := Lib.hid (set2E_at q1 (.int .i64 0) (.slice none 0 0))
    have HBB := Lib.hid (HB.out.trans (BX.out.mono HB.out.size))
    clear q0 q1
    go_wp2
    (try simp only [Exit.inBlock, Exit.then])
    refine bodyPost_ret (resCT rfl _ _ (w.heap.size + 1) _ _ (0, 0) _ rfl HQ.out Tryd.underlying30 rfl (by kernel_rfl)) rfl ?_
    exact givesGB_nil ((HBB.out.setCell (p := ⟨w.heap.size + 1, 0, none⟩) (by show w.heap.size ≤ w.heap.size + 1; omega) _).setCell (p := ⟨w.heap.size + 1, 1, none⟩) (by show w.heap.size ≤ w.heap.size + 1; omega) _)
  | true =>
    rw [hv] at HV
    have hsm := vgB_small hv
    have hEN := fun e he => ok_ends hv (e := e) he
    have HNO := Lib.hid (fun hx => HNON.out hv hx)
    have HYE := Lib.hid (fun k hk => HSOM.out k hv hk)
    have HAN := Lib.hid (fun k hk h1 h2 => any_none hv (k := k) hk h1 h2)
    have HAS := Lib.hid (fun k hk h1 => And.intro (any_single hv (k := k) hk h1) (sn_pair hv hk h1))
    have HAP := Lib.hid (fun k hk h1 => any_pair hv (k := k) hk h1)
    have HM1 := Lib.hid (fun (k : Nat) (hk : k < G.e.length) (hp : (G.e.getD k Ed.nil).p = -1) (wx : World) (hx : Below w2.heap.size w2 wx) (b : Nat) (hbk : wx.heap[b]? = some (.cells #[.int .i64 (k : Nat)] 2 (0, 0))) => show Calls Tryd.prog 100 #[.agg #[.int .i64 G.n, .slice h.A G.e.length h.c], .slice (some ⟨b, 0, none⟩) 1 1] wx (GivesG wx (ctrG G k)) from by
      have := sMerge_any h G (some ⟨b, 0, none⟩) 1 [(k : Int)] wx (hr1 wx hx) (rd_oneE hbk) k (by simp) (by simp) (by simp) hk (by omega) (by omega) hEN
      rw [mg_single hk hp] at this
      exact this)
    have HM2 := Lib.hid (fun (k : Nat) (hk : k < G.e.length) (hp : (G.e.getD k Ed.nil).p ≠ -1) (hc : canE G.e (G.e.getD k Ed.nil) = true) (wx : World) (hx : Below w2.heap.size w2 wx) (Am : Option Addr) (cm : Nat) (hrm : RdI wx wx.heap.size Am (mtL G.e (G.e.getD k Ed.nil).p G.e.length).length (mtL G.e (G.e.getD k Ed.nil).p G.e.length)) => show Calls Tryd.prog 100 #[.agg #[.int .i64 G.n, .slice h.A G.e.length h.c], .slice Am (mtL G.e (G.e.getD k Ed.nil).p G.e.length).length cm] wx (GivesG wx (ctrG G k)) from by
      have hml : 0 < (mtL G.e (G.e.getD k Ed.nil).p G.e.length).length := List.length_pos_of_mem (mem_mt.2 ⟨hk, rfl⟩)
      obtain ⟨k0, e0, h0, _⟩ := mt_nat (hd_mem hml)
      have := sMerge_any h G Am cm (mtL G.e (G.e.getD k Ed.nil).p G.e.length) wx (hr1 wx hx) hrm k0 hml (by have := mtL_len G.e (G.e.getD k Ed.nil).p G.e.length; omega) e0 h0 (by omega) (by omega) hEN
      rw [mg_pair hk hp hc] at this
      exact this)
    have HPA := Lib.hid (fun (p : Int) (wx : World) (hx : Below w2.heap.size w2 wx) => sPar_any h G p wx (hr1 wx hx) hl)
    have HMA0 := Lib.hid (fun (p : Int) (wx : World) (hx : Below w2.heap.size w2 wx) => sMates_any h G p wx (hr1 wx hx) hl)
    have HR := Lib.hid (fun (wx : World) (hx : Below w2.heap.size w2 wx) => show RdE wx wx.heap.size h.A G.e.length G.e from hr1 wx hx)
    have HL48 := Lib.hid hsm.2
    generalize hRV : onV anyW G = RV at *
    generalize hRB : onB anyW G = RB at *
    have HRV := Lib.hid hRV; have HRB := Lib.hid hRB
    obtain ⟨nd, es⟩ := G
    obtain ⟨A, sc⟩ := h
    dsimp only at HV HK HNO HYE HAN HAS HAP HM1 HM2 HPA HMA0 HR y0 y1 hw2 HL48 HBN ⊢
    clear hv hr1 HRG HINV HNON HSOM hsm hEN hRV hRB HRV HRB
    go_enter Tryd.func69, Tryd.ntmps69
    go_wp2_with (fail)
    rw [← hw2]
    clear hw2
    refine HV.out.mono ?_
    rintro e w3 ⟨rfl, bel3⟩
    have B3 := Lib.hid bel3
    clear bel3 y0 y1
    obtain ⟨y0, y1⟩ := twE_cells (HK.out _ B3.out).1
    go_wp2
    clear y0 y1
    go_loopw [4] (fun i wr => ∃ k : Nat, k ≤ es.length ∧ i = .int .i64 k ∧ (∀ j, j < k → (anyW j (es.getD j Ed.nil) && canE es (es.getD j Ed.nil)) = false) ∧ Below w2.heap.size w2 wr) (fun i _ => es.length - (intOf i).toNat)
    case atStart => exact ⟨0, Nat.zero_le _, rfl, fun j hj => absurd hj (by omega), B3.out⟩
    case round =>
      obtain ⟨k, hk, rfl, hno, hB⟩ := hrel
      have BR := Lib.hid hB; have HN := Lib.hid hno
      clear hno hB B3
      obtain ⟨y0, y1⟩ := twE_cells (HK.out _ BR.out).1
      by_cases hlt : k < es.length
      · obtain ⟨b, off, rfl, hbb, hcells⟩ := (HR.out _ (Below.refl _ _)).at (show 0 < es.length by omega)
        have HBNE : Hid (b ≠ w.heap.size + 1) := Lib.hid (HBN.out b off rfl (by omega))
        have HCX := Lib.hid (fun (wx : World) (hx : Below w2.heap.size w2 wx) => And.intro ((hx.cell (p := ⟨b, off + k * 3, none⟩) hbb).trans (hcells k hlt).1) (And.intro ((hx.cell (p := ⟨b, off + k * 3 + 1, none⟩) hbb).trans (hcells k hlt).2.1) ((hx.cell (p := ⟨b, off + k * 3 + 2, none⟩) hbb).trans (hcells k hlt).2.2)))
        have hki : (k : Int) < (es.length : Int) := by omega
        have HSI := Lib.hid (fun (wx : World) => sSingle_any (es.getD k Ed.nil) wx)
        have HST : Hid ((anyW k (es.getD k Ed.nil) && canE es (es.getD k Ed.nil)) = false → ∀ j, j < k + 1 → (anyW j (es.getD j Ed.nil) && canE es (es.getD j Ed.nil)) = false) := Lib.hid fun e j hj => by
          by_cases e2 : j < k
          · exact HN.out j e2
          · obtain rfl : j = k := by omega
            exact e
        have HFS : Hid (canE es (es.getD k Ed.nil) = true → IsFst anyW es k) := Lib.hid fun e => ⟨hlt, rfl, e, HN.out⟩
        have hAN := HAN.out k hlt; have hAS := HAS.out k hlt; have hAP := HAP.out k hlt
        have HM1k := Lib.hid (HM1.out k hlt); have HM2k := Lib.hid (HM2.out k hlt)
        have HPAk := Lib.hid (HPA.out (es.getD k Ed.nil).p); have HMA := Lib.hid (HMA0.out (es.getD k Ed.nil).p)
        have HYk := Lib.hid (HYE.out k)
        obtain ⟨⟨ea, eb, ep⟩, hee⟩ : ∃ e, es.getD k Ed.nil = e := ⟨_, rfl⟩
        rw [hee] at HCX HSI HST HFS hAN hAS hAP HM1k HM2k HPAk HMA
        dsimp only at HCX HSI hAN hAS hAP HM1k HM2k HPAk HMA
        obtain ⟨bs, hbs⟩ : ∃ q, snB ⟨ea, eb, ep⟩ = q := ⟨_, rfl⟩
        obtain ⟨bp, hbp⟩ : ∃ q, prB es ep = q := ⟨_, rfl⟩
        rw [hbs] at HSI hAN hAS
        simp only [hbp] at HPAk
        rw [hbp] at hAN hAP
        have HA1 := Lib.hid hAN; have HA2 := Lib.hid hAS; have HA3 := Lib.hid hAP
        obtain ⟨x0, x1, x2⟩ := HCX.out _ BR.out
        clear hcells hbb hAN hAS hAP hee hbs hbp HAN HAS HAP HM1 HM2 HPA HMA0 HYE HR
        cases bs with
        | true =>
          obtain ⟨hc, hp1⟩ := HA2.out (by first | rfl | trivial)
          obtain ⟨eV, eB⟩ := HYk.out (HFS.out hc)
          have HMM0 := Lib.hid (HM1k.out hp1)
          rw [← eV] at HMM0
          subst eB
          clear hc hp1 eV HM1k HM2k HPAk HMA HA1 HA2 HA3 HST
          go_wp2_with (fail)
          refine (HSI.out _).mono ?_
          rintro e w5 ⟨rfl, bel5⟩
          have B5 := Lib.hid (BR.out.trans (bel5.mono BR.out.size))
          clear bel5 y0 y1 x0 x1 x2
          obtain ⟨y0, y1⟩ := twE_cells (HK.out _ B5.out).1
          obtain ⟨wm, hwm⟩ : ∃ wm, wm = w5.alloc (.cells #[.int .i64 (k : Nat)] 2) := ⟨_, rfl⟩
          have hbm : Below w5.heap.size w5 wm := by rw [hwm]; exact (Below.refl _ _).alloc (Nat.le_refl _) _
          have hpm : wm.heap[w5.heap.size]? = some (.cells #[.int .i64 (k : Nat)] 2 (0, 0)) := by rw [hwm]; exact heap_alloc_new _ _
          have BX := Lib.hid (B5.out.trans (hbm.mono B5.out.size))
          have HMM := Lib.hid (HMM0.out wm BX.out _ hpm)
          clear hbm hpm HMM0
          go_wp2_with (fail)
          rw [← hwm]
          clear hwm y0 y1
          refine HMM.out.mono ?_
          rintro e w6 ⟨hh, rfl, own6, bel6⟩
          have B26 := BX.out.trans (bel6.mono BX.out.size)
          obtain ⟨q0, q1⟩ := HK.out _ B26
          obtain ⟨a0, a1⟩ := twE_cells q1
          have f0 := frozen_of_row _ _ 0 _ _ q1; have f1 := frozen_of_row _ _ 1 _ _ q1
          have HQ := Lib.hid (set2E_at q1 (.int .i64 RV.n) (.slice hh.A RV.e.length hh.c))
          have HO := Lib.hid own6
          have HBB := Lib.hid (HB.out.trans (B26.mono HB.out.size))
          have HS5 : Hid (w.heap.size + 1 < wm.heap.size) := Lib.hid (Nat.lt_of_lt_of_le HS2.out BX.out.size)
          clear q0 q1 own6 bel6 B26
          go_wp2
          (try simp only [Exit.inBlock, Exit.then])
          refine bodyPost_ret (resCT rfl _ _ (w.heap.size + 1) _ _ (0, 0) _ rfl HQ.out Tryd.underlying30 rfl (by kernel_rfl)) rfl ?_
          exact ⟨hh, rfl, ((HO.out.set HS5.out _).set HS5.out _).more (by have := HS5.out; omega) (by simp), (HBB.out.setCell (p := ⟨w.heap.size + 1, 0, none⟩) (by show w.heap.size ≤ w.heap.size + 1; omega) _).setCell (p := ⟨w.heap.size + 1, 1, none⟩) (by show w.heap.size ≤ w.heap.size + 1; omega) _⟩
        | false =>
          go_wp2_with (fail)
          refine (HSI.out _).mono ?_
          rintro e w5 ⟨rfl, bel5⟩
          have BW := Lib.hid (BR.out.trans (bel5.mono BR.out.size))
          clear bel5 y0 y1 x0 x1 x2
          have HSX : Hid (∀ wx : World, Below w5.heap.size w5 wx → (wx.cell? ⟨w.heap.size, 0, none⟩ = some (.int .i64 nd) ∧ wx.cell? ⟨w.heap.size, 1, none⟩ = some (.slice (some ⟨b, off, none⟩) es.length sc) ∧ wx.cell? ⟨b, off + k * 3 + 2, none⟩ = some (.int .i64 ep))) := Lib.hid fun wx hx => by
            have h5 := BW.out.trans (hx.mono BW.out.size)
            exact ⟨(twE_cells (HK.out wx h5).1).1, (twE_cells (HK.out wx h5).1).2, (HCX.out wx h5).2.2⟩
          go_upto_region 8 with (fail)
          go_cut [33] (fun v wx => v = .bool bp ∧ Below w2.heap.size w2 wx)
          case first =>
            have FB_0 := Lib.hid (Below.refl w5.heap.size w5)
            refine wp_region_held_drew (S := fun wx => (wx.cell? ⟨w.heap.size, 0, none⟩ = some (.int .i64 nd) ∧ wx.cell? ⟨w.heap.size, 1, none⟩ = some (.slice (some ⟨b, off, none⟩) es.length sc) ∧ wx.cell? ⟨b, off + k * 3 + 2, none⟩ = some (.int .i64 ep))) (by kernel_rfl) (HSX.out _ (Below.refl _ _).drew) (fun hHeld => ?_)
            obtain ⟨wq1, hwq1⟩ : ∃ w', w' = w5.drew := ⟨_, rfl⟩
            rw [← hwq1] at hHeld ⊢
            have bq1 : Below w5.heap.size w5 wq1 := by rw [hwq1]; exact (Below.refl _ _).drew
            clear hwq1
            have FB_q2 := Lib.hid ((FB_0.out).trans ((bq1).mono (FB_0.out).size))
            clear FB_0
            refine wpAnyH_take (i := 0) (v := ?vq3) rfl (by kernel_rfl) (by kernel_rfl) (by kernel_rfl) (fun _ _ _ h => h) (Or.inl ⟨by rfl, ?yq3⟩) (by assumption) ?_
            case yq3 => (intro w hSw; (try dsimp only at hSw); go_simp; all_goals (with_reducible rfl))
            (try simp only [Act.put, List.setIfInBounds_toArray, List.set_cons_zero, List.set_cons_succ, List.getElem_toArray, List.getElem_cons_succ, List.getElem_cons_zero])
            refine wpAnyH_take (i := 1) (v := ?vq4) rfl (by kernel_rfl) (by kernel_rfl) (by kernel_rfl) (fun _ _ _ h => h) (Or.inl ⟨by rfl, ?yq4⟩) (by assumption) ?_
            case yq4 => (intro w hSw; (try dsimp only at hSw); go_simp; all_goals (with_reducible rfl))
            (try simp only [Act.put, List.setIfInBounds_toArray, List.set_cons_zero, List.set_cons_succ, List.getElem_toArray, List.getElem_cons_succ, List.getElem_cons_zero])
            refine wpAnyH_take (i := 3) (v := ?vq5) rfl (by kernel_rfl) (by kernel_rfl) (by kernel_rfl) (fun _ _ _ h => h) (Or.inl ⟨by rfl, ?yq5⟩) (by assumption) ?_
            case yq5 => (intro w hSw; (try dsimp only at hSw); go_simp; all_goals (with_reducible rfl))
            (try simp only [Act.put, List.setIfInBounds_toArray, List.set_cons_zero, List.set_cons_succ, List.getElem_toArray, List.getElem_cons_succ, List.getElem_cons_zero])
            refine wpAnyH_take (i := 2) (v := ?vq6) rfl (by kernel_rfl) (by kernel_rfl) (by kernel_rfl) (fun _ _ _ h => h) (Or.inl ⟨by rfl, ?yq6⟩) (by assumption) ?_
            case yq6 => (intro w hSw; (try dsimp only at hSw); go_simp; all_goals (with_reducible rfl))
            (try simp only [Act.put, List.setIfInBounds_toArray, List.set_cons_zero, List.set_cons_succ, List.getElem_toArray, List.getElem_cons_succ, List.getElem_cons_zero])
            refine wpAnyH_take (i := 4) (v := ?vq7) rfl (by kernel_rfl) (by kernel_rfl) (by kernel_rfl) (fun _ _ _ h => h) (Or.inl ⟨by rfl, ?yq7⟩) (by assumption) ?_
            case yq7 => (intro w hSw; (try dsimp only at hSw); go_simp; all_goals (with_reducible rfl))
            (try simp only [Act.put, List.setIfInBounds_toArray, List.set_cons_zero, List.set_cons_succ, List.getElem_toArray, List.getElem_cons_succ, List.getElem_cons_zero])
            refine wpAnyH_take (i := 5) (v := ?vq8) rfl (by kernel_rfl) (by kernel_rfl) (by kernel_rfl) (fun _ _ _ h => h) (Or.inl ⟨by rfl, ?yq8⟩) (by assumption) ?_
            case yq8 => (intro w hSw; (try dsimp only at hSw); go_simp; all_goals (with_reducible rfl))
            (try simp only [Act.put, List.setIfInBounds_toArray, List.set_cons_zero, List.set_cons_succ, List.getElem_toArray, List.getElem_cons_succ, List.getElem_cons_zero])
            refine wpAnyH_take (i := 6) (v := ?vq9) rfl (by kernel_rfl) (by kernel_rfl) (by kernel_rfl) (fun _ _ _ h => h) (Or.inl ⟨by rfl, ?yq9⟩) (by assumption) ?_
            case yq9 => (intro w hSw; (try dsimp only at hSw); go_simp; all_goals (with_reducible rfl))
            (try simp only [Act.put, List.setIfInBounds_toArray, List.set_cons_zero, List.set_cons_succ, List.getElem_toArray, List.getElem_cons_succ, List.getElem_cons_zero])
            refine wpAnyH_ready (rs := [7]) (by kernel_rfl) (by simp) ?_
            refine AllReadyH.cons rfl (fun K hK => ?_) ?_
            · go_simp
              refine (HPAk.out wq1 (BW.out.trans (FB_q2.out.mono BW.out.size))).mono ?_
              rintro e wq10 ⟨rfl, belq10⟩
              dsimp only
              have FB_q11 := Lib.hid ((FB_q2.out).trans ((belq10).mono (FB_q2.out).size))
              clear FB_q2
              clear belq10
              refine hK.out _ _ (HSX.out _ FB_q11.out) (fun hHeld => ?_)
              clear hK K
              (try simp only [Act.put, List.setIfInBounds_toArray, List.set_cons_zero, List.set_cons_succ, List.getElem_toArray, List.getElem_cons_succ, List.getElem_cons_zero])
              refine wpAnyH_done (by kernel_rfl) ?_ _
              (try go_wp2_with (fail))
              go_meet
              exact ⟨rfl, BW.out.trans (FB_q11.out.mono BW.out.size)⟩
            exact AllReadyH.nil
          case rest =>
            obtain ⟨rfl, hb9⟩ := hcut
            have BW9 := Lib.hid hb9
            clear hb9 HSX BW
            have BW := BW9
            cases bp with
            | false =>
              have HS := Lib.hid (HST.out (HA1.out (by first | rfl | trivial) (by first | rfl | trivial)))
              go_wp2
              go_roundw
              case rel => exact ⟨k + 1, by omega, by go_num, HS.out, BW.out⟩
              case measure => simp [intOf]; omega
            | true =>
              obtain ⟨hp1, hc⟩ := HA3.out (by first | rfl | trivial)
              obtain ⟨eV, eB⟩ := HYk.out (HFS.out hc)
              have HMG := Lib.hid (HM2k.out hp1 hc)
              rw [← eV] at HMG
              subst eB
              generalize mtL es ep es.length = ms at *
              have HSX : Hid (∀ wx : World, Below wc.heap.size wc wx → (wx.cell? ⟨w.heap.size, 0, none⟩ = some (.int .i64 nd) ∧ wx.cell? ⟨w.heap.size, 1, none⟩ = some (.slice (some ⟨b, off, none⟩) es.length sc) ∧ wx.cell? ⟨b, off + k * 3 + 2, none⟩ = some (.int .i64 ep))) := Lib.hid fun wx hx => by
                have h5 := BW.out.trans (hx.mono BW.out.size)
                exact ⟨(twE_cells (HK.out wx h5).1).1, (twE_cells (HK.out wx h5).1).2, (HCX.out wx h5).2.2⟩
              have HS1 : Hid (∀ (wx : World) (v0 v1 : Value), Below wc.heap.size wc wx → (((wx.setCell ⟨w.heap.size + 1, 0, none⟩ v0).setCell ⟨w.heap.size + 1, 1, none⟩ v1).cell? ⟨w.heap.size, 0, none⟩ = some (.int .i64 nd) ∧ ((wx.setCell ⟨w.heap.size + 1, 0, none⟩ v0).setCell ⟨w.heap.size + 1, 1, none⟩ v1).cell? ⟨w.heap.size, 1, none⟩ = some (.slice (some ⟨b, off, none⟩) es.length sc) ∧ ((wx.setCell ⟨w.heap.size + 1, 0, none⟩ v0).setCell ⟨w.heap.size + 1, 1, none⟩ v1).cell? ⟨b, off + k * 3 + 2, none⟩ = some (.int .i64 ep))) := Lib.hid fun wx v0 v1 hx => by
                have h5 := BW.out.trans (hx.mono BW.out.size)
                have h6 := twE_cells (show ((wx.setCell ⟨w.heap.size + 1, 0, none⟩ v0).setCell ⟨w.heap.size + 1, 1, none⟩ v1).heap[w.heap.size]? = _ from (heap_setCell_other _ _ _ _ (by show w.heap.size ≠ w.heap.size + 1; omega)).trans ((heap_setCell_other _ _ _ _ (by show w.heap.size ≠ w.heap.size + 1; omega)).trans (HK.out wx h5).1))
                refine ⟨h6.1, h6.2, ?_⟩
                have hne : b ≠ w.heap.size + 1 := HBNE.out
                exact (World.cell?_setCell_other _ _ _ _ (fun e => by injection e with e1 e2 e3; omega)).trans ((World.cell?_setCell_other _ _ _ _ (fun e => by injection e with e1 e2 e3; omega)).trans (HCX.out wx h5).2.2)
              clear hp1 hc eV HM1k HM2k HPAk HA1 HA2 HA3 HST
              go_upto_region 9 with (fail)
              have FB_0 := Lib.hid (Below.refl wc.heap.size wc)
              refine wp_region_held_drew (S := fun wx => (wx.cell? ⟨w.heap.size, 0, none⟩ = some (.int .i64 nd) ∧ wx.cell? ⟨w.heap.size, 1, none⟩ = some (.slice (some ⟨b, off, none⟩) es.length sc) ∧ wx.cell? ⟨b, off + k * 3 + 2, none⟩ = some (.int .i64 ep))) (by kernel_rfl) (HSX.out _ (Below.refl _ _).drew) (fun hHeld => ?_)
              obtain ⟨wp1, hwp1⟩ : ∃ w', w' = wc.drew := ⟨_, rfl⟩
              rw [← hwp1] at hHeld ⊢
              have bp1 : Below wc.heap.size wc wp1 := by rw [hwp1]; exact (Below.refl _ _).drew
              clear hwp1
              have FB_p2 := Lib.hid ((FB_0.out).trans ((bp1).mono (FB_0.out).size))
              clear FB_0
              refine wpAnyH_take (i := 0) (v := ?vp3) rfl (by kernel_rfl) (by kernel_rfl) (by kernel_rfl) (fun _ _ _ h => h) (Or.inl ⟨by rfl, ?yp3⟩) (by assumption) ?_
              case yp3 => (intro w hSw; (try dsimp only at hSw); go_simp; all_goals (with_reducible rfl))
              (try simp only [Act.put, List.setIfInBounds_toArray, List.set_cons_zero, List.set_cons_succ, List.getElem_toArray, List.getElem_cons_succ, List.getElem_cons_zero])
              refine wpAnyH_take (i := 1) (v := ?vp4) rfl (by kernel_rfl) (by kernel_rfl) (by kernel_rfl) (fun _ _ _ h => h) (Or.inl ⟨by rfl, ?yp4⟩) (by assumption) ?_
              case yp4 => (intro w hSw; (try dsimp only at hSw); go_simp; all_goals (with_reducible rfl))
              (try simp only [Act.put, List.setIfInBounds_toArray, List.set_cons_zero, List.set_cons_succ, List.getElem_toArray, List.getElem_cons_succ, List.getElem_cons_zero])
              refine wpAnyH_take (i := 2) (v := ?vp5) rfl (by kernel_rfl) (by kernel_rfl) (by kernel_rfl) (fun _ _ _ h => h) (Or.inl ⟨by rfl, ?yp5⟩) (by assumption) ?_
              case yp5 => (intro w hSw; (try dsimp only at hSw); go_simp; all_goals (with_reducible rfl))
              (try simp only [Act.put, List.setIfInBounds_toArray, List.set_cons_zero, List.set_cons_succ, List.getElem_toArray, List.getElem_cons_succ, List.getElem_cons_zero])
              refine wpAnyH_take (i := 4) (v := ?vp6) rfl (by kernel_rfl) (by kernel_rfl) (by kernel_rfl) (fun _ _ _ h => h) (Or.inl ⟨by rfl, ?yp6⟩) (by assumption) ?_
              case yp6 => (intro w hSw; (try dsimp only at hSw); go_simp; all_goals (with_reducible rfl))
              (try simp only [Act.put, List.setIfInBounds_toArray, List.set_cons_zero, List.set_cons_succ, List.getElem_toArray, List.getElem_cons_succ, List.getElem_cons_zero])
              refine wpAnyH_take (i := 3) (v := ?vp7) rfl (by kernel_rfl) (by kernel_rfl) (by kernel_rfl) (fun _ _ _ h => h) (Or.inl ⟨by rfl, ?yp7⟩) (by assumption) ?_
              case yp7 => (intro w hSw; (try dsimp only at hSw); go_simp; all_goals (with_reducible rfl))
              (try simp only [Act.put, List.setIfInBounds_toArray, List.set_cons_zero, List.set_cons_succ, List.getElem_toArray, List.getElem_cons_succ, List.getElem_cons_zero])
              refine wpAnyH_take (i := 5) (v := ?vp8) rfl (by kernel_rfl) (by kernel_rfl) (by kernel_rfl) (fun _ _ _ h => h) (Or.inl ⟨by rfl, ?yp8⟩) (by assumption) ?_
              case yp8 => (intro w hSw; (try dsimp only at hSw); go_simp; all_goals (with_reducible rfl))
              (try simp only [Act.put, List.setIfInBounds_toArray, List.set_cons_zero, List.set_cons_succ, List.getElem_toArray, List.getElem_cons_succ, List.getElem_cons_zero])
              refine wpAnyH_take (i := 6) (v := ?vp9) rfl (by kernel_rfl) (by kernel_rfl) (by kernel_rfl) (fun _ _ _ h => h) (Or.inl ⟨by rfl, ?yp9⟩) (by assumption) ?_
              case yp9 => (intro w hSw; (try dsimp only at hSw); go_simp; all_goals (with_reducible rfl))
              (try simp only [Act.put, List.setIfInBounds_toArray, List.set_cons_zero, List.set_cons_succ, List.getElem_toArray, List.getElem_cons_succ, List.getElem_cons_zero])
              refine wpAnyH_take (i := 7) (v := ?vp10) rfl (by kernel_rfl) (by kernel_rfl) (by kernel_rfl) (fun _ _ _ h => h) (Or.inl ⟨by rfl, ?yp10⟩) (by assumption) ?_
              case yp10 => (intro w hSw; (try dsimp only at hSw); go_simp; all_goals (with_reducible rfl))
              (try simp only [Act.put, List.setIfInBounds_toArray, List.set_cons_zero, List.set_cons_succ, List.getElem_toArray, List.getElem_cons_succ, List.getElem_cons_zero])
              refine wpAnyH_ready (rs := [8]) (by kernel_rfl) (by simp) ?_
              refine AllReadyH.cons rfl (fun K hK => ?_) ?_
              · go_simp
                refine (HMA.out wp1 (BW.out.trans (FB_p2.out.mono BW.out.size))).mono ?_
                rintro e wp11 ⟨Amp11, cmp11, rfl, ownp11, belp11⟩
                dsimp only
                have FB_p12 := Lib.hid ((FB_p2.out).trans ((belp11).mono (FB_p2.out).size))
                clear FB_p2
                have FM_p11 := Lib.hid (RdI.of_own ownp11)
                clear ownp11 belp11
                refine hK.out _ _ (HSX.out _ FB_p12.out) (fun hHeld => ?_)
                clear hK K
                (try simp only [Act.put, List.setIfInBounds_toArray, List.set_cons_zero, List.set_cons_succ, List.getElem_toArray, List.getElem_cons_succ, List.getElem_cons_zero])
                refine wpAnyH_ready (rs := [9]) (by kernel_rfl) (by simp) ?_
                refine AllReadyH.cons rfl (fun K hK => ?_) ?_
                · go_simp
                  have FBOp13 := FB_p12
                  refine (HMG.out wp11 (BW.out.trans (FB_p12.out.mono BW.out.size)) Amp11 cmp11 FM_p11.out).mono ?_
                  rintro e wp13 ⟨hhp13, rfl, ownp13, belp13⟩
                  dsimp only
                  have FB_p14 := Lib.hid ((FB_p12.out).trans ((belp13).mono (FB_p12.out).size))
                  have FM_p15 := Lib.hid (((FM_p11.out).below (belp13)).more (belp13).size)
                  clear FB_p12 FM_p11
                  have BX := Lib.hid (BW.out.trans (FBOp13.out.mono BW.out.size))
                  obtain ⟨hh, hhe⟩ : ∃ hh, hh = hhp13 := ⟨_, rfl⟩
                  rw [← hhe] at ownp13 ⊢
                  clear hhe
                  have own6 := ownp13; have bel6 := belp13
                  clear ownp13 belp13
                  have B26 := BX.out.trans (bel6.mono BX.out.size)
                  obtain ⟨q0, q1⟩ := HK.out _ B26
                  obtain ⟨a0, a1⟩ := twE_cells q1
                  have f0 := frozen_of_row _ _ 0 _ _ q1; have f1 := frozen_of_row _ _ 1 _ _ q1
                  have HQ := Lib.hid (set2E_at q1 (.int .i64 RV.n) (.slice hh.A RV.e.length hh.c))
                  have HO := Lib.hid own6
                  have HBB := Lib.hid (HB.out.trans (B26.mono HB.out.size))
                  have HS5 : Hid (w.heap.size + 1 < wp11.heap.size) := Lib.hid (Nat.lt_of_lt_of_le HS2.out BX.out.size)
                  clear q0 q1 own6 bel6 B26
                  refine hK.out _ _ (HSX.out _ FB_p14.out) (fun hHeld => ?_)
                  clear hK K
                  (try simp only [Act.put, List.setIfInBounds_toArray, List.set_cons_zero, List.set_cons_succ, List.getElem_toArray, List.getElem_cons_succ, List.getElem_cons_zero])
                  refine wpAnyH_ready (rs := [10]) (by kernel_rfl) (by simp) ?_
                  refine AllReadyH.cons rfl (fun K hK => ?_) ?_
                  · go_simp
                    refine hK.out _ _ (HS1.out _ _ _ FB_p14.out) (fun hHeld => ?_)
                    clear hK K
                    (try simp only [Act.put, List.setIfInBounds_toArray, List.set_cons_zero, List.set_cons_succ, List.getElem_toArray, List.getElem_cons_succ, List.getElem_cons_zero])
                    refine wpAnyH_ready (rs := [11]) (by kernel_rfl) (by simp) ?_
                    refine AllReadyH.cons rfl (fun K hK => ?_) ?_
                    · go_simp
                      refine hK.out _ _ hHeld (fun hHeld => ?_)
                      clear hK K
                      (try simp only [Act.put, List.setIfInBounds_toArray, List.set_cons_zero, List.set_cons_succ, List.getElem_toArray, List.getElem_cons_succ, List.getElem_cons_zero])
                      refine wpAnyH_done (by kernel_rfl) ?_ _
                      go_wp2
                      (try simp only [Exit.inBlock, Exit.then])
                      refine bodyPost_ret (resCT rfl _ _ (w.heap.size + 1) _ _ (0, 0) _ rfl HQ.out Tryd.underlying30 rfl (by kernel_rfl)) rfl ?_
                      exact ⟨hh, rfl, ((HO.out.set HS5.out _).set HS5.out _).more (by have := HS5.out; omega) (by simp), (HBB.out.setCell (p := ⟨w.heap.size + 1, 0, none⟩) (by show w.heap.size ≤ w.heap.size + 1; omega) _).setCell (p := ⟨w.heap.size + 1, 1, none⟩) (by show w.heap.size ≤ w.heap.size + 1; omega) _⟩
                    exact AllReadyH.nil
                  exact AllReadyH.nil
                exact AllReadyH.nil
              exact AllReadyH.nil
      · have hkl : k = es.length := by omega
        subst hkl
        obtain ⟨eV, eB⟩ := HNO.out HN.out
        subst eV eB
        have BX := BR
        clear y0 y1
        obtain ⟨y0, y1⟩ := twE_cells (HK.out _ BX.out).1
        obtain ⟨q0, q1⟩ := HK.out _ BX.out
        obtain ⟨a0, a1⟩ := twE_cells q1
        have f0 := frozen_of_row _ _ 0 _ _ q1; have f1 := frozen_of_row _ _ 1 _ _ q1
        have HQ := Lib.hid (set2E_at q1 (.int .i64 0) (.slice none 0 0))
        have HBB := Lib.hid (HB.out.trans (BX.out.mono HB.out.size))
        clear q0 q1
        go_wp2
        (try simp only [Exit.inBlock, Exit.then])
        refine bodyPost_ret (resCT rfl _ _ (w.heap.size + 1) _ _ (0, 0) _ rfl HQ.out Tryd.underlying30 rfl (by kernel_rfl)) rfl ?_
        exact givesGB_nil ((HBB.out.setCell (p := ⟨w.heap.size + 1, 0, none⟩) (by show w.heap.size ≤ w.heap.size + 1; omega) _).setCell (p := ⟨w.heap.size + 1, 1, none⟩) (by show w.heap.size ≤ w.heap.size + 1; omega) _)
end Go.Proofs.YtlcapifgpcimpaaDoor
