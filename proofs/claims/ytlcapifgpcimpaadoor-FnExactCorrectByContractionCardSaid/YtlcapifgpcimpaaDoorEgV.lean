/- ValidPairedGraph of the model; l12Mates. -/
import Derived.Test.YtlcapifgpcimpaaDoorCcM
import Derived.Test.YtlcapifgpcimpaaDoorQMath
import Derived.Deep.RegionHeldLaw
import Derived.Deep.DeepCutAuto
import Derived.BigQuiet
namespace Go.Proofs.YtlcapifgpcimpaaDoor
set_option linter.unusedSimpArgs false
set_option linter.unusedVariables false
open Go.ChangeAt Go.ChangeShapes Go.RowKit Go.WideShapes

/-- Is an edge in its bounds? -/
def okE (n : Int) (x : Ed) : Bool := decide (0 ≤ x.a ∧ x.a ≤ n - 1) && decide (0 ≤ x.b ∧ x.b ≤ n - 1) && decide (-1 ≤ x.p ∧ x.p ≤ 47)
def vgB (G : Gr) : Bool := decide (0 ≤ G.n ∧ G.n ≤ 48) && decide (G.e.length ≤ 48) && G.e.all fun x => okE G.n x && (decide (x.p = -1) || decide (cntP G.e x.p = 2))
theorem vgB_small {G : Gr} (h : vgB G = true) : (0 ≤ G.n ∧ G.n ≤ 48) ∧ G.e.length ≤ 48 := by
  unfold vgB at h
  simp only [Bool.and_eq_true, decide_eq_true_eq] at h
  exact h.1
theorem vgB_two {G : Gr} (h : vgB G = true) : TwoP G.e := by
  unfold vgB at h
  simp only [Bool.and_eq_true, List.all_eq_true, Bool.or_eq_true, decide_eq_true_eq] at h
  exact fun e he => (h.2 e he).2
theorem vgB_ok {G : Gr} (h : vgB G = true) : ∀ e ∈ G.e, okE G.n e = true := by
  unfold vgB at h
  simp only [Bool.and_eq_true, List.all_eq_true] at h
  exact fun e he => (h.2 e he).1
theorem getE_mem {es : List Ed} {k : Nat} (h : k < es.length) : es.getD k Ed.nil ∈ es := by simp [List.getD, h]
theorem vgB_no {G : Gr} {k : Nat} (hk : k < G.e.length) (h : (okE G.n (G.e.getD k Ed.nil) && (decide ((G.e.getD k Ed.nil).p = -1) || decide (cntP G.e (G.e.getD k Ed.nil).p = 2))) = false) : vgB G = false := by
  unfold vgB
  rw [List.all_eq_false.2 ⟨_, getE_mem hk, by rw [h]; decide⟩, Bool.and_false]
theorem vgB_n {G : Gr} (h : ¬ (0 ≤ G.n ∧ G.n ≤ 48)) : vgB G = false := by unfold vgB; rw [decide_eq_false h]; rfl
theorem vgB_l {G : Gr} (h : ¬ G.e.length ≤ 48) : vgB G = false := by unfold vgB; rw [decide_eq_false h, Bool.and_false]; rfl
theorem vgB_yes {G : Gr} (h1 : 0 ≤ G.n ∧ G.n ≤ 48) (h2 : G.e.length ≤ 48) (h : ∀ j, j < G.e.length → okE G.n (G.e.getD j Ed.nil) = true ∧ ((G.e.getD j Ed.nil).p = -1 ∨ cntP G.e (G.e.getD j Ed.nil).p = 2)) : vgB G = true := by
  unfold vgB
  rw [decide_eq_true h1, decide_eq_true h2, List.all_eq_true.2]
  · rfl
  · intro e he
    obtain ⟨j, hj, rfl⟩ := List.getElem_of_mem he
    obtain ⟨a1, a2⟩ := h j hj
    have e1 : G.e.getD j Ed.nil = G.e[j] := by simp [List.getD, hj]
    rw [e1] at a1 a2
    rw [a1]
    rcases a2 with a2 | a2 <;> simp [a2]
/-- The indices of the edges of a pair, of the first k. -/
def mtL (es : List Ed) (p : Int) (k : Nat) : List Int := ((List.range k).filter fun i => decide ((es.getD i Ed.nil).p = p)).map fun i : Nat => (i : Int)
theorem mtL_yes {es : List Ed} {p : Int} {k : Nat} (h : (es.getD k Ed.nil).p = p) : mtL es p (k + 1) = mtL es p k ++ [(k : Int)] := by
  unfold mtL
  rw [List.range_succ, List.filter_append, List.map_append]
  congr 1
  rw [List.filter_cons_of_pos (by simpa using h)]; rfl
theorem mtL_no {es : List Ed} {p : Int} {k : Nat} (h : ¬ (es.getD k Ed.nil).p = p) : mtL es p (k + 1) = mtL es p k := by
  unfold mtL
  rw [List.range_succ, List.filter_append, List.map_append]
  rw [List.filter_cons_of_neg (by simpa using h)]; simp
theorem mtL_len (es : List Ed) (p : Int) (k : Nat) : (mtL es p k).length ≤ k := by
  unfold mtL
  rw [List.length_map]
  exact Nat.le_trans (List.length_filter_le _ _) (by simp)
theorem mtL_cnt (es : List Ed) (p : Int) : ∀ k, k ≤ es.length → (mtL es p k).length = cntP (es.take k) p
  | 0, _ => by simp [mtL, cntP]
  | k + 1, h => by
    have ih := mtL_cnt es p k (by omega)
    have e : es.take (k + 1) = es.take k ++ [es.getD k Ed.nil] := by
      rw [List.take_succ_eq_append_getElem (by omega)]
      simp [List.getD, show k < es.length by omega]
    have e2 : cntP (es.take (k + 1)) p = cntP (es.take k) p + if (es.getD k Ed.nil).p = p then 1 else 0 := by
      rw [e]; unfold cntP; rw [List.countP_append, List.countP_cons, List.countP_nil]
      by_cases hp : (es.getD k Ed.nil).p = p
      · rw [if_pos hp, if_pos (by simpa using hp)]
      · rw [if_neg hp, if_neg (by simpa using hp)]
    rw [e2, ← ih]
    by_cases hp : (es.getD k Ed.nil).p = p
    · rw [mtL_yes hp, if_pos hp]; simp
    · rw [mtL_no hp, if_neg hp]; rfl
theorem mtL_all (es : List Ed) (p : Int) : (mtL es p es.length).length = cntP es p := by rw [mtL_cnt es p _ (Nat.le_refl _), List.take_length]
theorem givesE_of {w w' : World} {v : Value} {n : Nat} {xs : List Int} {b : Nat} (h : w'.ownsRow b 2 1 v n (xs.map (Value.int .i64))) (hn : n = xs.length) (hb : w.heap.size ≤ b) (bel : Below w.heap.size w w') : Gives w xs (.returned v) w' := by
  subst hn
  obtain ⟨A, c, rfl⟩ := own_shape h
  exact ⟨A, c, rfl, h.mono hb, bel⟩
set_option maxRecDepth 100000 in
set_option maxHeartbeats 1000000 in
theorem sMates_any (h : GH) (G : Gr) (p : Int) (w : World) (r : RdG w w.heap.size h G) (hl : G.e.length ≤ 1048576) :
    Calls Tryd.prog 98 #[.agg #[.int .i64 G.n, .slice h.A G.e.length h.c], .int .i64 p] w (Gives w (mtL G.e p G.e.length)) := by
  obtain ⟨A, c⟩ := h
  obtain ⟨nd, es⟩ := G
  have r1 : RdE w w.heap.size A es.length es := r
  dsimp only at hl ⊢
  obtain ⟨i0, hi0, hz0, hz1, hz2⟩ := info_parts info_i64
  have HI := Lib.hid hi0; have HZ0 := Lib.hid hz0; have HZ1 := Lib.hid hz1; have HZ2 := Lib.hid hz2
  obtain ⟨w0, hw0⟩ : ∃ w0, w0 = w.alloc (.cells #[.int .i64 nd, .slice A es.length c] 30) := ⟨_, rfl⟩
  obtain ⟨hb, hh, hsz⟩ := box2E w (.int .i64 nd) (.slice A es.length c) 30
  rw [← hw0] at hb hh hsz
  have hs0 : w.heap.size + 1 ≤ w0.heap.size := by omega
  have HK : Hid (∀ w', Below w0.heap.size w0 w' → w'.cell? ⟨w.heap.size, 0, none⟩ = some (.int .i64 nd) ∧ w'.cell? ⟨w.heap.size, 1, none⟩ = some (.slice A es.length c)) := Lib.hid fun w' hw => twE_cells ((hw.block _ (by omega)).trans hh)
  have HR := Lib.hid (fun (w' : World) (hw : Below w0.heap.size w0 w') => ((r1.below (hb.trans (hw.mono hb.size))).more (Nat.le_trans hb.size hw.size)))
  have HB0 := Lib.hid hb
  have h0 : (w0.alloc (.cells #[] 2)).ownsRow w0.heap.size 2 1 (.slice (some ⟨w.heap.size + 1, 0, none⟩) 0 0) 0 ((mtL es p 0).map (Value.int .i64)) := by rw [← hsz]; exact World.ownsRow_made w0 #[] 0 (Nat.le_refl _) (by simp [maxLen]) rfl
  have hb1 : Below w0.heap.size w0 (w0.alloc (.cells #[] 2)) := (Below.refl _ _).alloc (Nat.le_refl _) _
  have H0 := Lib.hid h0; have HB1 := Lib.hid hb1
  clear hb hh hsz r r1 hi0 hz0 hz1 hz2 h0 hb1
  go_enter Tryd.func98, Tryd.ntmps98
  go_wp2
  rw [← hw0]
  clear hw0
  go_loopw [5, 6] (fun v i wx => ∃ k : Nat, k ≤ es.length ∧ i = .int .i64 k ∧ wx.ownsRow w0.heap.size 2 1 v (mtL es p k).length ((mtL es p k).map (Value.int .i64)) ∧ Below w0.heap.size w0 wx) (fun _ i _ => es.length - (intOf i).toNat)
  case atStart => exact ⟨0, Nat.zero_le _, rfl, H0.out, HB1.out⟩
  case round =>
    obtain ⟨k, hk, rfl, hO, hB⟩ := hrel
    clear H0 HB1
    obtain ⟨y0, y1⟩ := HK.out _ hB
    by_cases hlt : k < es.length
    · obtain ⟨b, off, hA, hbb, hcells⟩ := (HR.out _ hB).at (by omega)
      obtain ⟨x0, x1, x2⟩ := hcells k hlt
      obtain ⟨l, hl'⟩ : ∃ l, es.getD k Ed.nil = l := ⟨_, rfl⟩
      rw [hl'] at x0 x1 x2
      rw [hA] at y1
      have HO := Lib.hid hO; have HB := Lib.hid hB
      have hsz1 := hB.size
      clear hO hB hcells hA
      by_cases hkd : l.p = p
      · have hd : (l.p == p) = true := by simpa using hkd
        have HS := Lib.hid (mtL_yes (p := p) (es := es) (k := k) (by rw [hl']; exact hkd))
        clear hkd hl'
        have hln := mtL_len es p k
        have HLN : Hid ((mtL es p (k + 1)).length = (mtL es p k).length + 1) := Lib.hid (by rw [HS.out]; simp)
        go_wp2_with (at_builtin; refine wpList_append_own _ rfl _ _ 24 rfl w0.heap.size 2 i0 (.int .i64 0) 1 8 Tryd.underlying24 HI.out HZ0.out HZ1.out HZ2.out rfl (by decide) _ _ _ rfl (HO.out.alloc _) ⟨wr.heap.size, 0, none⟩ 1 1 [.int .i64 k] rfl rfl ?c1 ?c2 ?c3 ?c4 ?c5 ?_)
        case c1 => exact cell_one_new _ _ _
        case c2 => intro u hu; simp at hu; subst hu; rfl
        case c3 => unfold maxLen; omega
        case c4 => omega
        case c5 => simp; omega
        intro v' w2 hown' hgrow _
        have hb2 := Lib.hid ((HB.out.alloc hsz1 (.cells #[.int .i64 k] 2)).grown hgrow (by simp; omega) (fun q hq => (HO.out.lt q hq).1))
        have hown2 : w2.ownsRow w0.heap.size 2 1 v' (mtL es p (k + 1)).length ((mtL es p (k + 1)).map (Value.int .i64)) := by
          rw [HLN.out, HS.out, List.map_append]; exact hown'
        have hown1 := Lib.hid hown2
        clear hown' hgrow hown2 hsz1
        go_wp2
        go_roundw
        case rel => exact ⟨k + 1, by omega, by go_num, hown1.out, hb2.out⟩
        case measure => simp [intOf]; omega
      · have hd : (l.p == p) = false := by simpa using hkd
        have HS := Lib.hid (mtL_no (p := p) (es := es) (k := k) (by rw [hl']; exact hkd))
        have HO1 := HO.out
        rw [← HS.out] at HO1
        have HO2 := Lib.hid HO1
        clear hkd hl' HO1
        go_wp2
        go_roundw
        case rel => exact ⟨k + 1, by omega, by go_num, HO2.out, HB.out⟩
        case measure => simp [intOf]; omega
    · have hkl : k = es.length := by omega
      subst hkl
      have HG := Lib.hid (givesE_of hO rfl (Nat.le_trans (Nat.le_succ _) hs0) (HB0.out.trans (hB.mono HB0.out.size)))
      clear hO hB
      go_wp2
      go_ret
      exact HG.out
set_option maxRecDepth 100000 in
set_option maxHeartbeats 1000000 in
theorem sValidG_any (h : GH) (G : Gr) (w : World) (r : RdG w w.heap.size h G) (hl : G.e.length ≤ 1048576) :
    Calls Tryd.prog 68 #[.agg #[.int .i64 G.n, .slice h.A G.e.length h.c]] w fun e w' => e = .returned (.bool (vgB G)) ∧ Below w.heap.size w w' := by
  have HN := Lib.hid (@vgB_n G); have HLL := Lib.hid (@vgB_l G); have HY := Lib.hid (@vgB_yes G)
  have HNO := Lib.hid (fun k => @vgB_no G k)
  obtain ⟨A, c⟩ := h
  obtain ⟨nd, es⟩ := G
  have r1 : RdE w w.heap.size A es.length es := r
  dsimp only at hl HN HLL HY HNO ⊢
  obtain ⟨w0, hw0⟩ : ∃ w0, w0 = w.alloc (.cells #[.int .i64 nd, .slice A es.length c] 30) := ⟨_, rfl⟩
  obtain ⟨hb, hh, hsz⟩ := box2E w (.int .i64 nd) (.slice A es.length c) 30
  rw [← hw0] at hb hh hsz
  have hs0 : w.heap.size + 1 ≤ w0.heap.size := by omega
  have HK : Hid (∀ w', Below w0.heap.size w0 w' → w'.cell? ⟨w.heap.size, 0, none⟩ = some (.int .i64 nd) ∧ w'.cell? ⟨w.heap.size, 1, none⟩ = some (.slice A es.length c)) := Lib.hid fun w' hw => twE_cells ((hw.block _ (by omega)).trans hh)
  have HR := Lib.hid (fun (w' : World) (hw : Below w0.heap.size w0 w') => ((r1.below (hb.trans (hw.mono hb.size))).more (Nat.le_trans hb.size hw.size)))
  have HM := Lib.hid (fun (p : Int) (w' : World) (hw : Below w0.heap.size w0 w') => sMates_any ⟨A, c⟩ ⟨nd, es⟩ p w' ((r1.below (hb.trans (hw.mono hb.size))).more (Nat.le_trans hb.size hw.size)) hl)
  dsimp only at HM
  have HB0 := Lib.hid hb
  obtain ⟨y0, y1⟩ := twE_cells hh
  clear hb hh hsz r r1
  have HIR := Lib.hid (fun (x lo hi : Int) (wx : World) => inRange_any x lo hi wx)
  by_cases hn : 0 ≤ nd ∧ nd ≤ 48
  · by_cases hln : es.length ≤ 48
    · have d1 : decide (48 < (es.length : Int)) = false := decide_eq_false (by omega)
      have HY2 := Lib.hid (HY.out hn hln)
      have HA := HIR.out nd 0 48 w0
      rw [decide_eq_true hn] at HA
      have hwr : IntKind.i64.wrap (nd - 1) = nd - 1 := IntWalk.i64_in _ (by omega)
      clear HN HLL HY hn
      generalize vgB ⟨nd, es⟩ = VB at *
      go_enter Tryd.func68, Tryd.ntmps68
      go_wp2_with (fail)
      rw [← hw0]
      clear hw0
      refine HA.mono ?_
      rintro e w1 ⟨rfl, rfl⟩
      go_wp2
      go_loopw [3] (fun i wx => ∃ k : Nat, k ≤ es.length ∧ i = .int .i64 k ∧ (∀ j, j < k → okE nd (es.getD j Ed.nil) = true ∧ ((es.getD j Ed.nil).p = -1 ∨ cntP es (es.getD j Ed.nil).p = 2)) ∧ Below w0.heap.size w0 wx) (fun i _ => es.length - (intOf i).toNat)
      case atStart => exact ⟨0, Nat.zero_le _, rfl, fun j hj => absurd hj (by omega), Below.refl _ _⟩
      case round =>
        obtain ⟨k, hk, rfl, hall, hB⟩ := hrel
        clear y0 y1
        obtain ⟨y0, y1⟩ := HK.out _ hB
        have HB := Lib.hid hB; have HAL := Lib.hid hall
        by_cases hlt : k < es.length
        · obtain ⟨b, off, hA, hbb, hcells⟩ := (HR.out _ hB).at (by omega)
          obtain ⟨x0, x1, x2⟩ := hcells k hlt
          have HNK := Lib.hid (HNO.out k hlt)
          have HST : Hid (okE nd (es.getD k Ed.nil) = true ∧ ((es.getD k Ed.nil).p = -1 ∨ cntP es (es.getD k Ed.nil).p = 2) → ∀ j, j < k + 1 → okE nd (es.getD j Ed.nil) = true ∧ ((es.getD j Ed.nil).p = -1 ∨ cntP es (es.getD j Ed.nil).p = 2)) := Lib.hid fun hx j hj => by
            by_cases e : j < k
            · exact HAL.out j e
            · obtain rfl : j = k := by omega
              exact hx
          have HCT := Lib.hid (mtL_all es (es.getD k Ed.nil).p)
          obtain ⟨⟨ea, eb, ep⟩, hl'⟩ : ∃ l, es.getD k Ed.nil = l := ⟨_, rfl⟩
          rw [hl'] at x0 x1 x2 HNK HST HCT
          dsimp only at x0 x1 x2 HNK HST HCT
          rw [hA] at y1
          obtain ⟨bl, hhl, hszl⟩ := box3E wr (.int .i64 ea) (.int .i64 eb) (.int .i64 ep) 52
          obtain ⟨w1, hw1⟩ : ∃ w1, w1 = wr.alloc (.cells #[.int .i64 ea, .int .i64 eb, .int .i64 ep] 52) := ⟨_, rfl⟩
          rw [← hw1] at bl hhl hszl
          have B1 := Lib.hid (hB.trans (bl.mono hB.size))
          have BX := Lib.hid bl
          have HE3 : Hid (∀ w', Below w1.heap.size w1 w' → w'.cell? ⟨wr.heap.size, 0, none⟩ = some (.int .i64 ea) ∧ w'.cell? ⟨wr.heap.size, 1, none⟩ = some (.int .i64 eb) ∧ w'.cell? ⟨wr.heap.size, 2, none⟩ = some (.int .i64 ep)) := Lib.hid fun w' hw => th_cells ((hw.block _ (by omega)).trans hhl)
          obtain ⟨z0, z1, z2⟩ := th_cells hhl
          obtain ⟨v0, v1⟩ := HK.out _ B1.out
          rw [hA] at v1
          have HIA := Lib.hid (HIR.out ea 0 (nd - 1)); have HIB := Lib.hid (HIR.out eb 0 (nd - 1)); have HIP := Lib.hid (HIR.out ep (-1) 47)
          have HMP := Lib.hid (HM.out ep w1 B1.out)
          rw [hA] at HMP
          have HOK : Hid (okE nd ⟨ea, eb, ep⟩ = (decide (0 ≤ ea ∧ ea ≤ nd - 1) && decide (0 ≤ eb ∧ eb ≤ nd - 1) && decide (-1 ≤ ep ∧ ep ≤ 47))) := Lib.hid rfl
          clear hcells hB hall hA hl' bl hhl hszl
          subst hw1
          have HBB := Lib.hid (HB0.out.trans (B1.out.mono HB0.out.size))
          obtain ⟨ba, hba⟩ : ∃ q, decide (0 ≤ ea ∧ ea ≤ nd - 1) = q := ⟨_, rfl⟩
          obtain ⟨bb, hbb'⟩ : ∃ q, decide (0 ≤ eb ∧ eb ≤ nd - 1) = q := ⟨_, rfl⟩
          obtain ⟨bp, hbp⟩ : ∃ q, decide (-1 ≤ ep ∧ ep ≤ 47) = q := ⟨_, rfl⟩
          rw [hba] at HOK HIA; rw [hbb'] at HOK HIB; rw [hbp] at HOK HIP
          have HP47 : Hid (bp = true → -1 ≤ ep ∧ ep ≤ 47) := Lib.hid fun e => by rw [e] at hbp; simpa using hbp
          clear hba hbb' hbp
          cases ba with
          | false =>
            have HE : Hid (false = VB) := Lib.hid (HNK.out (by rw [HOK.out]; rfl)).symm
            go_wp2_with (fail)
            refine (HIA.out _).mono ?_
            rintro e w2 ⟨rfl, rfl⟩
            go_wp2
            go_ret
            exact ⟨ret_bool HE.out, HBB.out⟩
          | true =>
            cases bb with
            | false =>
              have HE : Hid (false = VB) := Lib.hid (HNK.out (by rw [HOK.out]; rfl)).symm
              go_wp2_with (fail)
              refine (HIA.out _).mono ?_
              rintro e w2 ⟨rfl, rfl⟩
              go_wp2_with (fail)
              refine (HIB.out _).mono ?_
              rintro e w2 ⟨rfl, rfl⟩
              go_wp2
              go_ret
              exact ⟨ret_bool HE.out, HBB.out⟩
            | true =>
              cases bp with
              | false =>
                have HE : Hid (false = VB) := Lib.hid (HNK.out (by rw [HOK.out]; rfl)).symm
                go_wp2_with (fail)
                refine (HIA.out _).mono ?_
                rintro e w2 ⟨rfl, rfl⟩
                go_wp2_with (fail)
                refine (HIB.out _).mono ?_
                rintro e w2 ⟨rfl, rfl⟩
                go_wp2_with (fail)
                refine (HIP.out _).mono ?_
                rintro e w2 ⟨rfl, rfl⟩
                go_wp2
                go_ret
                exact ⟨ret_bool HE.out, HBB.out⟩
              | true =>
                have h47 := HP47.out rfl
                by_cases hp : ep = -1
                · have HS := Lib.hid (HST.out ⟨HOK.out, .inl hp⟩)
                  have dp : decide (0 ≤ ep) = false := decide_eq_false (by omega)
                  clear h47 hp
                  go_wp2_with (fail)
                  refine (HIA.out _).mono ?_
                  rintro e w2 ⟨rfl, rfl⟩
                  go_wp2_with (fail)
                  refine (HIB.out _).mono ?_
                  rintro e w2 ⟨rfl, rfl⟩
                  go_wp2_with (fail)
                  refine (HIP.out _).mono ?_
                  rintro e w2 ⟨rfl, rfl⟩
                  go_wp2
                  go_roundw
                  case rel => exact ⟨k + 1, by omega, by go_num, HS.out, B1.out⟩
                  case measure => simp [intOf]; omega
                · have dp : decide (0 ≤ ep) = true := decide_eq_true (by omega)
                  by_cases hc : cntP es ep = 2
                  · have HS := Lib.hid (HST.out ⟨HOK.out, .inr hc⟩)
                    have dc : (((mtL es ep es.length).length : Int) != 2) = false := by rw [HCT.out, hc]; rfl
                    clear h47 hp hc
                    go_wp2_with (fail)
                    refine (HIA.out _).mono ?_
                    rintro e w2 ⟨rfl, rfl⟩
                    go_wp2_with (fail)
                    refine (HIB.out _).mono ?_
                    rintro e w2 ⟨rfl, rfl⟩
                    go_wp2_with (fail)
                    refine (HIP.out _).mono ?_
                    rintro e w2 ⟨rfl, rfl⟩
                    go_wp2_with (fail)
                    refine HMP.out.mono ?_
                    rintro e w3 ⟨A3, c3, rfl, own3, bel3⟩
                    have B3 := Lib.hid (B1.out.trans (bel3.mono B1.out.size))
                    clear own3 bel3 y0 y1 z0 z1 z2 v0 v1
                    go_wp2
                    go_roundw
                    case rel => exact ⟨k + 1, by omega, by go_num, HS.out, B3.out⟩
                    case measure => simp [intOf]; omega
                  · have HE : Hid (false = VB) := Lib.hid (HNK.out (by rw [HOK.out, decide_eq_false hp, decide_eq_false hc]; rfl)).symm
                    have dc : (((mtL es ep es.length).length : Int) != 2) = true := by rw [HCT.out]; simp; omega
                    clear h47 hp hc
                    go_wp2_with (fail)
                    refine (HIA.out _).mono ?_
                    rintro e w2 ⟨rfl, rfl⟩
                    go_wp2_with (fail)
                    refine (HIB.out _).mono ?_
                    rintro e w2 ⟨rfl, rfl⟩
                    go_wp2_with (fail)
                    refine (HIP.out _).mono ?_
                    rintro e w2 ⟨rfl, rfl⟩
                    go_wp2_with (fail)
                    refine HMP.out.mono ?_
                    rintro e w3 ⟨A3, c3, rfl, own3, bel3⟩
                    have B3 := Lib.hid (HB0.out.trans ((B1.out.trans (bel3.mono B1.out.size)).mono HB0.out.size))
                    clear own3 bel3 y0 y1 z0 z1 z2 v0 v1
                    go_wp2
                    go_ret
                    exact ⟨ret_bool HE.out, B3.out⟩
        · have hkl : k = es.length := by omega
          subst hkl
          have HE : Hid (true = VB) := Lib.hid (HY2.out hall).symm
          have HBB := Lib.hid (HB0.out.trans (hB.mono HB0.out.size))
          clear hB hall
          go_wp2
          go_ret
          exact ⟨ret_bool HE.out, HBB.out⟩
    · have d1 : decide (48 < (es.length : Int)) = true := decide_eq_true (by omega)
      have HE : Hid (false = vgB ⟨nd, es⟩) := Lib.hid (HLL.out hln).symm
      have HA := HIR.out nd 0 48 w0
      rw [decide_eq_true hn] at HA
      clear hn hln
      go_enter Tryd.func68, Tryd.ntmps68
      go_wp2_with (fail)
      rw [← hw0]
      clear hw0
      refine HA.mono ?_
      rintro e w1 ⟨rfl, rfl⟩
      go_wp2
      go_ret
      exact ⟨ret_bool HE.out, HB0.out⟩
  · have HE : Hid (false = vgB ⟨nd, es⟩) := Lib.hid (HN.out hn).symm
    have HA := HIR.out nd 0 48 w0
    rw [decide_eq_false hn] at HA
    clear hn
    go_enter Tryd.func68, Tryd.ntmps68
    go_wp2_with (fail)
    rw [← hw0]
    clear hw0
    refine HA.mono ?_
    rintro e w1 ⟨rfl, rfl⟩
    go_wp2
    go_ret
    exact ⟨ret_bool HE.out, HB0.out⟩
end Go.Proofs.YtlcapifgpcimpaaDoor
