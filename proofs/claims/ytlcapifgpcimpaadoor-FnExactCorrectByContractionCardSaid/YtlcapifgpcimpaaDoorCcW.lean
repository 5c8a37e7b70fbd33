/- The model's ContractAll. Made by mkccw.py. -/
import Derived.Test.YtlcapifgpcimpaaDoorCcV
import Derived.Deep.RegionHeldLaw
import Derived.Deep.DeepCutAuto
import Derived.BigQuiet
import Derived.Deep.LoopGhost
import Derived.Lib.AppendZerosOnto
namespace Go.Proofs.YtlcapifgpcimpaaDoor
set_option linter.unusedSimpArgs false
set_option linter.unusedVariables false
open Go.ChangeAt Go.ChangeShapes Go.RowKit Go.WideShapes

theorem own_shapeN {w : World} {base n : Nat} {e : TypeId} {v : Value} {xs : List Value} (h : w.ownsRow base e 3 v n xs) : ∃ A c, v = .slice A n c ∧ n ≤ c := by
  rcases h.2 with ⟨rfl, rfl⟩ | ⟨g, cap, cur, rfl, _, _, hn, _⟩
  · exact ⟨_, _, rfl, Nat.le_refl _⟩
  · exact ⟨_, _, rfl, hn⟩
theorem run_append_zeroE {P : Program} (w : World) (t ty e : TypeId) (i : TypeInfo) (ht : P.underlying t = some (.slice e)) (hi : P.info? e = some i) (A : Option Addr) (n c d : Nat) (hnc : n ≤ c) :
    (Builtin.append_ #[t, t] ty #[.slice A n c, .slice none 0 d]).run P w = .ok (.slice A n c) w := by
  cases A <;> simp [Builtin.append_, run_underlying ht, sizeOf, typeInfo, hi, Builtin.lenOf, Builtin.firstCells, hnc, storeCells]
set_option maxRecDepth 100000 in
/-- Within a region that draws: a row of edges, perhaps nil, put behind a row of the call's own. -/
theorem stepER {w : World} {ops : Array Oper} {o : Oper} {a : Act} {K : Act → World → Prop} {Q : Exit → Act → World → Prop} {E : Prop} (hgd : o.guard = none) (s x : Operand)
    (ho : o.op = .call { callee := .builtin .append, args := #[s, x], argTypes := #[28, 28] })
    (lo : Nat) (v : Value) (n : Nat) (xs : List Value) (hs : a.eval s = v) (own : w.ownsRow lo 52 3 v n xs)
    (A : Option Addr) (m c : Nat) (es : List Ed) (hx : a.eval x = .slice A m c) (rd : RdE w w.heap.size A m es) (h8 : n + m ≤ 1000000) (hlo : lo ≤ w.heap.size)
    (h : ∀ v' w', w'.ownsRow lo 52 3 v' (n + m) (xs ++ (flE es).map (Value.int .i64)) → w.grownBy w' v.ownBlock → K (a.put o.dst v') w') :
    if Region.wanted o (yielded ops a.tmps) = true then Oper.wp Tryd.prog o a w K Q else E := by
  obtain ⟨i3, hi3, hz3, hs3, hb3⟩ := info_partsE
  have hl := rd.1
  have hfl : ((flE es).map (Value.int .i64)).length = m * 3 := by rw [List.length_map, flE_len, hl]
  have hone : ∀ u ∈ (flE es).map (Value.int .i64), u.oneCell' = true := fun u hu => by
    obtain ⟨z, _, rfl⟩ := List.mem_map.1 hu
    rfl
  cases hA : A with
  | some ad =>
    subst hA
    refine stepE (P := Tryd.prog) hgd s x 28 ho lo 52 i3 (.agg #[.int .i64 0, .int .i64 0, .int .i64 0]) 3 24 Tryd.underlying28 hi3 hz3 hs3 hb3 rfl (by decide) v n xs hs own ad m c _ hx hfl ?_ hone (by simp only [maxLen]; omega) (by omega) hlo h
    intro j u hu
    have hj := (List.getElem?_eq_some_iff.1 hu).1
    rw [hfl] at hj
    obtain ⟨b, off, e, hb, hc⟩ := rd.2.2 (by omega)
    injection e with e
    subst e
    have ea : (⟨b, off, none⟩ : Addr).add j = ⟨b, off + j, none⟩ := by simp [Addr.add]
    rw [ea, hc j hj, ← hu, List.getElem?_map]
    have hj2 : j < (flE es).length := by rw [flE_len]; omega
    simp [List.getD, hj2]
  | none =>
    subst hA
    have h0 : m = 0 := by
      by_cases e : 0 < m
      · obtain ⟨b, off, e2, _⟩ := rd.at e
        cases e2
      · omega
    subst h0
    obtain rfl : es = [] := List.eq_nil_of_length_eq_zero hl
    obtain ⟨A, d, rfl, hnc⟩ := own_shapeN own
    rw [if_pos (show Region.wanted o (yielded ops a.tmps) = true by simp [Region.wanted, hgd])]
    unfold Oper.wp execOp
    simp only [ho, resolve, invoke, builtin, Sem.run_bind, Sem.run_pure, Result.andThen_ok, List.map_toArray, List.map_cons, List.map_nil, hs, hx, run_append_zeroE w 28 o.type 52 i3 Tryd.underlying28 hi3 A n d c hnc]
    exact h _ _ (by simpa [flE] using own) ⟨rfl, rfl, rfl, Nat.le_refl _, fun _ _ _ => rfl⟩
/-- A row of edges and a graph's box lie in different blocks. -/
theorem own_ne_box {w : World} {lo n b q : Nat} {v : Value} {xs : List Value} {cs : Array Value} (own : w.ownsRow lo 52 3 v n xs) (hb : w.heap[b]? = some (.cells cs 30 (0, 0))) (hq : v.ownBlock = some q) : q ≠ b := fun e => by
  rcases own.2 with ⟨rfl, _⟩ | ⟨g, cap, cur, rfl, _, hh, _⟩
  · cases hq
  · have : g = q := by injection hq
    subst this
    rw [e, hb] at hh
    have := Option.some.inj hh
    injection this with e1 e2
    exact absurd e2 (by decide)
/-- What ContractAll holds: its graph in block bo. -/
structure CaS (w3 wr : World) (bo : Nat) (hh : GH) (G : Gr) : Prop where
  box : wr.heap[bo]? = some (.cells #[.int .i64 G.n, .slice hh.A G.e.length hh.c] 30 (0, 0))
  own : wr.ownsRow w3.heap.size 52 3 (.slice hh.A G.e.length hh.c) G.e.length ((flE G.e).map (Value.int .i64))
  lo : w3.heap.size ≤ bo
  bel : Below w3.heap.size w3 wr
theorem CaS.next {w3 wr w6 : World} {bo : Nat} {hh h6 : GH} {G V : Gr} (s : CaS w3 wr bo hh G) (own6 : OwnG w6 wr.heap.size w6.heap.size h6 V) (bel6 : Below wr.heap.size wr w6) :
    CaS w3 (((w6.alloc (.cells #[.int .i64 V.n, .slice h6.A V.e.length h6.c] 30)).setCell ⟨bo, 0, none⟩ (.int .i64 V.n)).setCell ⟨bo, 1, none⟩ (.slice h6.A V.e.length h6.c)) bo h6 V := by
  have hlt : bo < wr.heap.size := (Array.getElem?_eq_some_iff.1 s.box).1
  have h6s := bel6.size
  have ba : Below w6.heap.size w6 (w6.alloc (.cells #[.int .i64 V.n, .slice h6.A V.e.length h6.c] 30)) := (Below.refl _ _).alloc (Nat.le_refl _) _
  have hb7 := (ba.block bo (by omega)).trans ((bel6.block bo hlt).trans s.box)
  refine ⟨set2E_at hb7 _ _, ?_, s.lo, ?_⟩
  · refine own_same (w := w6) (own6.outer.mono s.bel.size) fun k hk => ?_
    have hk2 := own6.outer.lt k hk
    rw [heap_setCell_other _ _ _ _ (by show k ≠ bo; omega), heap_setCell_other _ _ _ _ (by show k ≠ bo; omega)]
    exact ba.block k hk2.2
  · exact ((s.bel.trans ((bel6.trans (ba.mono h6s)).mono s.bel.size)).setCell (p := ⟨bo, 0, none⟩) s.lo _).setCell (p := ⟨bo, 1, none⟩) s.lo _
set_option maxRecDepth 100000 in
set_option maxHeartbeats 1000000 in
theorem sContractAll_any (h : GH) (G : Gr) (w : World) (r : RdG w w.heap.size h G) (hl : G.e.length ≤ 1048576) :
    Calls Tryd.prog 42 #[.agg #[.int .i64 G.n, .slice h.A G.e.length h.c]] w (GivesGI w (alV G) (alI G)) := by
  obtain ⟨w2, hw2⟩ : ∃ w2, w2 = (w.alloc (.cells #[.int .i64 G.n, .slice h.A G.e.length h.c] 30)).alloc (.cells #[.int .i64 0, .slice none 0 0] 30) := ⟨_, rfl⟩
  obtain ⟨hb, p0, p1, hsz⟩ := two_box w (.cells #[.int .i64 G.n, .slice h.A G.e.length h.c] 30) (.cells #[.int .i64 0, .slice none 0 0] 30)
  rw [← hw2] at hb p0 p1 hsz
  have HRG := Lib.hid (fun (wx : World) (hx : Below w2.heap.size w2 wx) => show RdE wx wx.heap.size h.A G.e.length G.e from (RdE.below r (hb.trans (hx.mono hb.size))).more (Nat.le_trans hb.size hx.size))
  have HV := Lib.hid (sValidG_any h G w2 (HRG.out _ (Below.refl _ _)) hl)
  have HB := Lib.hid hb
  have HK := Lib.hid (fun (wx : World) (hx : Below w2.heap.size w2 wx) => And.intro ((hx.block w.heap.size (by omega)).trans p0) ((hx.block (w.heap.size + 1) (by omega)).trans p1))
  have HS2 : Hid (w.heap.size + 1 < w2.heap.size) := Lib.hid (by omega)
  obtain ⟨y0, y1⟩ := twE_cells p0
  clear r hb p0 p1 hsz
  generalize hRV : alV G = RV
  generalize hRI : alI G = RI
  have HRV := Lib.hid hRV; have HRI := Lib.hid hRI
  clear hRV hRI
  obtain ⟨nd, es⟩ := G
  obtain ⟨A, sc⟩ := h
  dsimp only at HRG HV HK y0 y1 hw2 ⊢
  cases hv : vgB ⟨nd, es⟩ with
  | false =>
    obtain rfl : RV = Gr.nil := HRV.out.symm.trans (al_inv hv).1
    obtain rfl : RI = -1 := HRI.out.symm.trans (al_inv hv).2
    rw [hv] at HV
    clear hv HRV HRI
    go_enter Tryd.func42, Tryd.ntmps42
    go_wp2_with (fail)
    rw [← hw2]
    clear hw2
    refine HV.out.mono ?_
    rintro e w3 ⟨rfl, bel3⟩
    obtain ⟨q0, q1⟩ := HK.out _ bel3
    obtain ⟨a0, a1⟩ := twE_cells q1
    have f0 := frozen_of_row _ _ 0 _ _ q1; have f1 := frozen_of_row _ _ 1 _ _ q1
    have HQ := Lib.hid (set2E_at q1 (.int .i64 0) (.slice none 0 0))
    have B3 := Lib.hid (HB.out.trans (bel3.mono HB.out.size))
    clear bel3 q0 q1 y0 y1
    go_wp2
    (try simp only [Exit.inBlock, Exit.then])
    refine bodyPost_ret (resCT rfl _ _ (w.heap.size + 1) _ _ (0, 0) _ rfl HQ.out Tryd.underlying30 rfl (by kernel_rfl)) rfl ?_
    exact givesGI_nil ((B3.out.setCell (p := ⟨w.heap.size + 1, 0, none⟩) (by show w.heap.size ≤ w.heap.size + 1; omega) _).setCell (p := ⟨w.heap.size + 1, 1, none⟩) (by show w.heap.size ≤ w.heap.size + 1; omega) _)
  | true =>
    rw [hv] at HV
    have HST : Hid (Run ⟨nd, es⟩ ⟨nd, es⟩ 0 es.length) := Lib.hid (Run.start hv)
    have HV0 := Lib.hid hv
    have HL48 : Hid (es.length ≤ 48) := Lib.hid (vgB_small hv).2
    clear hv
    go_enter Tryd.func42, Tryd.ntmps42
    go_wp2_with (fail)
    rw [← hw2]
    clear hw2
    refine HV.out.mono ?_
    rintro e w3 ⟨rfl, bel3⟩
    have B3 := Lib.hid bel3
    clear bel3 y0 y1
    have HSX : Hid (∀ wx : World, Below w3.heap.size w3 wx → wx.cell? ⟨w.heap.size, 0, none⟩ = some (.int .i64 nd) ∧ wx.cell? ⟨w.heap.size, 1, none⟩ = some (.slice A es.length sc)) := Lib.hid fun wx hx => twE_cells (HK.out wx (B3.out.trans (hx.mono B3.out.size))).1
    have HRE := Lib.hid (fun (wx : World) (hx : Below w3.heap.size w3 wx) => HRG.out wx (B3.out.trans (hx.mono B3.out.size)))
    go_upto_region 3 with (fail)
    go_cut [4] (fun v wx => ∃ bo hh, v = .pointer (some ⟨bo, 0, none⟩) ∧ CaS w3 wx bo hh ⟨nd, es⟩)
    case first =>
      have FB_0 := Lib.hid (Below.refl w3.heap.size w3)
      refine wp_region_held_drew (S := fun wx => wx.cell? ⟨w.heap.size, 0, none⟩ = some (.int .i64 nd) ∧ wx.cell? ⟨w.heap.size, 1, none⟩ = some (.slice A es.length sc)) (by kernel_rfl) (HSX.out _ (Below.refl _ _).drew) (fun hHeld => ?_)
      obtain ⟨wq1, hwq1⟩ : ∃ w', w' = w3.drew := ⟨_, rfl⟩
      rw [← hwq1] at hHeld ⊢
      have bq1 : Below w3.heap.size w3 wq1 := by rw [hwq1]; exact (Below.refl _ _).drew
      clear hwq1
      have FB_q2 := Lib.hid ((FB_0.out).trans ((bq1).mono (FB_0.out).size))
      clear FB_0
      refine wpAnyH_take (i := 0) (v := ?vq3) rfl (by kernel_rfl) (by kernel_rfl) (by kernel_rfl) (fun _ _ _ h => h) (Or.inl ⟨by rfl, ?yq3⟩) (by assumption) ?_
      case yq3 => (intro w hSw; (try dsimp only at hSw); go_simp; all_goals (with_reducible rfl))
      (try simp only [Act.put, List.setIfInBounds_toArray, List.set_cons_zero, List.set_cons_succ, List.getElem_toArray, List.getElem_cons_succ, List.getElem_cons_zero])
      refine wpAnyH_take (i := 3) (v := ?vq4) rfl (by kernel_rfl) (by kernel_rfl) (by kernel_rfl) (fun _ _ _ h => h) (Or.inl ⟨by rfl, ?yq4⟩) (by assumption) ?_
      case yq4 => (intro w hSw; (try dsimp only at hSw); go_simp; all_goals (with_reducible rfl))
      (try simp only [Act.put, List.setIfInBounds_toArray, List.set_cons_zero, List.set_cons_succ, List.getElem_toArray, List.getElem_cons_succ, List.getElem_cons_zero])
      refine wpAnyH_take (i := 1) (v := ?vq5) rfl (by kernel_rfl) (by kernel_rfl) (by kernel_rfl) (fun _ _ _ h => h) (Or.inl ⟨by rfl, ?yq5⟩) (by assumption) ?_
      case yq5 => (intro w hSw; (try dsimp only at hSw); go_simp; all_goals (with_reducible rfl))
      (try simp only [Act.put, List.setIfInBounds_toArray, List.set_cons_zero, List.set_cons_succ, List.getElem_toArray, List.getElem_cons_succ, List.getElem_cons_zero])
      refine wpAnyH_take (i := 4) (v := ?vq6) rfl (by kernel_rfl) (by kernel_rfl) (by kernel_rfl) (fun _ _ _ h => h) (Or.inl ⟨by rfl, ?yq6⟩) (by assumption) ?_
      case yq6 => (intro w hSw; (try dsimp only at hSw); go_simp; all_goals (with_reducible rfl))
      (try simp only [Act.put, List.setIfInBounds_toArray, List.set_cons_zero, List.set_cons_succ, List.getElem_toArray, List.getElem_cons_succ, List.getElem_cons_zero])
      refine wpAnyH_ready (rs := [2, 7]) (by kernel_rfl) (by simp) ?_
      refine AllReadyH.cons rfl (fun K hK => ?_) ?_
      · go_simp
        have hle9 := FB_q2.out.size
        obtain ⟨wq7, hwq7⟩ : ∃ w', w' = wq1.alloc (.cells #[] 52) := ⟨_, rfl⟩
        rw [← hwq7]
        have bq7 : Below wq1.heap.size wq1 wq7 := by rw [hwq7]; exact (Below.refl _ _).alloc (Nat.le_refl _) _
        have rq7 : wq7.ownsRow w3.heap.size 52 3 (.slice (some ⟨wq1.heap.size, 0, none⟩) 0 0) 0 [] := by rw [hwq7]; exact (World.ownsRow_made wq1 #[] 0 (Nat.le_refl _) (by simp [maxLen]) rfl).mono hle9
        clear hwq7 hle9
        have FB_q8 := Lib.hid ((FB_q2.out).trans ((bq7).mono (FB_q2.out).size))
        clear FB_q2
        have FR_q9 := Lib.hid rq7
        clear rq7 bq7
        refine hK.out _ _ (HSX.out _ FB_q8.out) (fun hHeld => ?_)
        clear hK K
        (try simp only [Act.put, List.setIfInBounds_toArray, List.set_cons_zero, List.set_cons_succ, List.getElem_toArray, List.getElem_cons_succ, List.getElem_cons_zero])
        refine wpAnyH_ready (rs := [5, 7]) (by kernel_rfl) (by simp) ?_
        refine AllReadyH.cons rfl (fun K hK => ?_) ?_
        · have hl48 := HL48.out
          have hlo9 := FB_q8.out.size
          refine stepER rfl _ _ rfl w3.heap.size _ 0 [] rfl FR_q9.out A es.length sc es rfl (HRE.out _ FB_q8.out) (by omega) hlo9 ?_
          intro v9 w9 own9 gr9
          simp only [Nat.zero_add, List.nil_append] at own9
          obtain ⟨A9, c9, rfl⟩ := own_shapeE own9
          have HOW9 := Lib.hid own9
          have HBL9 := Lib.hid (FB_q8.out.grown gr9 hlo9 (fun q hq => (FR_q9.out.lt q hq).1))
          have FB_9 := HBL9
          have FR_9 := HOW9
          clear own9 gr9 hl48 hlo9 HOW9 HBL9
          refine hK.out _ _ (HSX.out _ FB_9.out) (fun hHeld => ?_)
          clear hK K
          (try simp only [Act.put, List.setIfInBounds_toArray, List.set_cons_zero, List.set_cons_succ, List.getElem_toArray, List.getElem_cons_succ, List.getElem_cons_zero])
          refine wpAnyH_take (i := 6) (v := ?vq10) rfl (by kernel_rfl) (by kernel_rfl) (by kernel_rfl) (fun _ _ _ h => h) (Or.inl ⟨by rfl, ?yq10⟩) (by assumption) ?_
          case yq10 => (intro w hSw; (try dsimp only at hSw); go_simp; all_goals (with_reducible rfl))
          (try simp only [Act.put, List.setIfInBounds_toArray, List.set_cons_zero, List.set_cons_succ, List.getElem_toArray, List.getElem_cons_succ, List.getElem_cons_zero])
          refine wpAnyH_ready (rs := [7]) (by kernel_rfl) (by simp) ?_
          refine AllReadyH.cons rfl (fun K hK => ?_) ?_
          · go_simp
            have hle9 := FB_9.out.size
            obtain ⟨wq11, hwq11⟩ : ∃ w', w' = w9.alloc (.cells #[.int .i64 0, .slice none 0 0] 30) := ⟨_, rfl⟩
            rw [← hwq11]
            have bq11 : Below w9.heap.size w9 wq11 := by rw [hwq11]; exact (Below.refl _ _).alloc (Nat.le_refl _) _
            have gq11 : wq11.heap[w9.heap.size]? = some (.cells #[.int .i64 0, .slice none 0 0] 30 (0, 0)) := by rw [hwq11]; exact heap_alloc_new _ _
            clear hwq11
            have FB_q12 := Lib.hid ((FB_9.out).trans ((bq11).mono (FB_9.out).size))
            have FR_q13 := Lib.hid (own_below (FR_9.out) (bq11) (Nat.le_refl _))
            clear FB_9 FR_9
            obtain ⟨goq14, hgq14⟩ : ∃ b, w9.heap.size = b := ⟨_, rfl⟩
            have FX_q14 := Lib.hid gq11
            have HGE := Lib.hid hle9
            rw [hgq14] at FX_q14 HGE ⊢
            clear hgq14 gq11 bq11 hle9
            refine hK.out _ _ (HSX.out _ FB_q12.out) (fun hHeld => ?_)
            clear hK K
            (try simp only [Act.put, List.setIfInBounds_toArray, List.set_cons_zero, List.set_cons_succ, List.getElem_toArray, List.getElem_cons_succ, List.getElem_cons_zero])
            refine wpAnyH_ready (rs := [8]) (by kernel_rfl) (by simp) ?_
            refine AllReadyH.cons rfl (fun K hK => ?_) ?_
            · obtain ⟨a0, a1⟩ := twE_cells FX_q14.out
              have f0 := frozen_of_row _ _ 0 _ _ FX_q14.out; have f1 := frozen_of_row _ _ 1 _ _ FX_q14.out
              go_simp
              clear a0 a1 f0 f1
              have HCA9 : Hid (CaS w3 ((wq11.setCell ⟨goq14, 0, none⟩ (.int .i64 nd)).setCell ⟨goq14, 1, none⟩ (.slice A9 es.length c9)) goq14 ⟨A9, c9⟩ ⟨nd, es⟩) := Lib.hid ⟨set2E_at FX_q14.out _ _, own_same FR_q13.out (fun k hk => by have hne := own_ne_box FR_q13.out FX_q14.out hk; rw [heap_setCell_other _ _ _ _ (by show k ≠ goq14; exact hne), heap_setCell_other _ _ _ _ (by show k ≠ goq14; exact hne)]), HGE.out, (FB_q12.out.setCell (p := ⟨goq14, 0, none⟩) HGE.out _).setCell (p := ⟨goq14, 1, none⟩) HGE.out _⟩
              refine hK.out _ _ (HSX.out _ HCA9.out.bel) (fun hHeld => ?_)
              clear hK K
              (try simp only [Act.put, List.setIfInBounds_toArray, List.set_cons_zero, List.set_cons_succ, List.getElem_toArray, List.getElem_cons_succ, List.getElem_cons_zero])
              refine wpAnyH_done (by kernel_rfl) ?_ _
              (try go_wp2_with (fail))
              go_meet
              exact ⟨_, ⟨A9, c9⟩, rfl, HCA9.out⟩
            exact AllReadyH.nil
          exact AllReadyH.nil
        refine AllReadyH.cons rfl (fun K hK => ?_) ?_
        · go_simp
          have hle9 := FB_q8.out.size
          obtain ⟨wq15, hwq15⟩ : ∃ w', w' = wq7.alloc (.cells #[.int .i64 0, .slice none 0 0] 30) := ⟨_, rfl⟩
          rw [← hwq15]
          have bq15 : Below wq7.heap.size wq7 wq15 := by rw [hwq15]; exact (Below.refl _ _).alloc (Nat.le_refl _) _
          have gq15 : wq15.heap[wq7.heap.size]? = some (.cells #[.int .i64 0, .slice none 0 0] 30 (0, 0)) := by rw [hwq15]; exact heap_alloc_new _ _
          clear hwq15
          have FB_q16 := Lib.hid ((FB_q8.out).trans ((bq15).mono (FB_q8.out).size))
          have FR_q17 := Lib.hid (own_below (FR_q9.out) (bq15) (Nat.le_refl _))
          clear FB_q8 FR_q9
          obtain ⟨goq18, hgq18⟩ : ∃ b, wq7.heap.size = b := ⟨_, rfl⟩
          have FX_q18 := Lib.hid gq15
          have HGE := Lib.hid hle9
          rw [hgq18] at FX_q18 HGE ⊢
          clear hgq18 gq15 bq15 hle9
          refine hK.out _ _ (HSX.out _ FB_q16.out) (fun hHeld => ?_)
          clear hK K
          (try simp only [Act.put, List.setIfInBounds_toArray, List.set_cons_zero, List.set_cons_succ, List.getElem_toArray, List.getElem_cons_succ, List.getElem_cons_zero])
          refine wpAnyH_ready (rs := [5]) (by kernel_rfl) (by simp) ?_
          refine AllReadyH.cons rfl (fun K hK => ?_) ?_
          · have hl48 := HL48.out
            have hlo9 := FB_q16.out.size
            refine stepER rfl _ _ rfl w3.heap.size _ 0 [] rfl FR_q17.out A es.length sc es rfl (HRE.out _ FB_q16.out) (by omega) hlo9 ?_
            intro v9 w9 own9 gr9
            simp only [Nat.zero_add, List.nil_append] at own9
            obtain ⟨A9, c9, rfl⟩ := own_shapeE own9
            have HOW9 := Lib.hid own9
            have HBL9 := Lib.hid (FB_q16.out.grown gr9 hlo9 (fun q hq => (FR_q17.out.lt q hq).1))
            have FB_9 := HBL9
            have FR_9 := HOW9
            have FX_9 := Lib.hid ((gr9.block _ (Array.getElem?_eq_some_iff.1 FX_q18.out).1 (fun e => own_ne_box FR_q17.out FX_q18.out e.symm rfl)).trans FX_q18.out)
            clear own9 gr9 hl48 hlo9 HOW9 HBL9
            refine hK.out _ _ (HSX.out _ FB_9.out) (fun hHeld => ?_)
            clear hK K
            (try simp only [Act.put, List.setIfInBounds_toArray, List.set_cons_zero, List.set_cons_succ, List.getElem_toArray, List.getElem_cons_succ, List.getElem_cons_zero])
            refine wpAnyH_take (i := 6) (v := ?vq19) rfl (by kernel_rfl) (by kernel_rfl) (by kernel_rfl) (fun _ _ _ h => h) (Or.inl ⟨by rfl, ?yq19⟩) (by assumption) ?_
            case yq19 => (intro w hSw; (try dsimp only at hSw); go_simp; all_goals (with_reducible rfl))
            (try simp only [Act.put, List.setIfInBounds_toArray, List.set_cons_zero, List.set_cons_succ, List.getElem_toArray, List.getElem_cons_succ, List.getElem_cons_zero])
            refine wpAnyH_ready (rs := [8]) (by kernel_rfl) (by simp) ?_
            refine AllReadyH.cons rfl (fun K hK => ?_) ?_
            · obtain ⟨a0, a1⟩ := twE_cells FX_9.out
              have f0 := frozen_of_row _ _ 0 _ _ FX_9.out; have f1 := frozen_of_row _ _ 1 _ _ FX_9.out
              go_simp
              clear a0 a1 f0 f1
              have HCA9 : Hid (CaS w3 ((w9.setCell ⟨goq18, 0, none⟩ (.int .i64 nd)).setCell ⟨goq18, 1, none⟩ (.slice A9 es.length c9)) goq18 ⟨A9, c9⟩ ⟨nd, es⟩) := Lib.hid ⟨set2E_at FX_9.out _ _, own_same FR_9.out (fun k hk => by have hne := own_ne_box FR_9.out FX_9.out hk; rw [heap_setCell_other _ _ _ _ (by show k ≠ goq18; exact hne), heap_setCell_other _ _ _ _ (by show k ≠ goq18; exact hne)]), HGE.out, (FB_9.out.setCell (p := ⟨goq18, 0, none⟩) HGE.out _).setCell (p := ⟨goq18, 1, none⟩) HGE.out _⟩
              refine hK.out _ _ (HSX.out _ HCA9.out.bel) (fun hHeld => ?_)
              clear hK K
              (try simp only [Act.put, List.setIfInBounds_toArray, List.set_cons_zero, List.set_cons_succ, List.getElem_toArray, List.getElem_cons_succ, List.getElem_cons_zero])
              refine wpAnyH_done (by kernel_rfl) ?_ _
              (try go_wp2_with (fail))
              go_meet
              exact ⟨_, ⟨A9, c9⟩, rfl, HCA9.out⟩
            exact AllReadyH.nil
          exact AllReadyH.nil
        exact AllReadyH.nil
      refine AllReadyH.cons rfl (fun K hK => ?_) ?_
      · go_simp
        have hle9 := FB_q2.out.size
        obtain ⟨wq20, hwq20⟩ : ∃ w', w' = wq1.alloc (.cells #[.int .i64 0, .slice none 0 0] 30) := ⟨_, rfl⟩
        rw [← hwq20]
        have bq20 : Below wq1.heap.size wq1 wq20 := by rw [hwq20]; exact (Below.refl _ _).alloc (Nat.le_refl _) _
        have gq20 : wq20.heap[wq1.heap.size]? = some (.cells #[.int .i64 0, .slice none 0 0] 30 (0, 0)) := by rw [hwq20]; exact heap_alloc_new _ _
        clear hwq20
        have FB_q21 := Lib.hid ((FB_q2.out).trans ((bq20).mono (FB_q2.out).size))
        clear FB_q2
        obtain ⟨goq22, hgq22⟩ : ∃ b, wq1.heap.size = b := ⟨_, rfl⟩
        have FX_q22 := Lib.hid gq20
        have HGE := Lib.hid hle9
        rw [hgq22] at FX_q22 HGE ⊢
        clear hgq22 gq20 bq20 hle9
        refine hK.out _ _ (HSX.out _ FB_q21.out) (fun hHeld => ?_)
        clear hK K
        (try simp only [Act.put, List.setIfInBounds_toArray, List.set_cons_zero, List.set_cons_succ, List.getElem_toArray, List.getElem_cons_succ, List.getElem_cons_zero])
        refine wpAnyH_ready (rs := [2]) (by kernel_rfl) (by simp) ?_
        refine AllReadyH.cons rfl (fun K hK => ?_) ?_
        · go_simp
          have hle9 := FB_q21.out.size
          obtain ⟨wq23, hwq23⟩ : ∃ w', w' = wq20.alloc (.cells #[] 52) := ⟨_, rfl⟩
          rw [← hwq23]
          have bq23 : Below wq20.heap.size wq20 wq23 := by rw [hwq23]; exact (Below.refl _ _).alloc (Nat.le_refl _) _
          have rq23 : wq23.ownsRow w3.heap.size 52 3 (.slice (some ⟨wq20.heap.size, 0, none⟩) 0 0) 0 [] := by rw [hwq23]; exact (World.ownsRow_made wq20 #[] 0 (Nat.le_refl _) (by simp [maxLen]) rfl).mono hle9
          clear hwq23 hle9
          have FB_q24 := Lib.hid ((FB_q21.out).trans ((bq23).mono (FB_q21.out).size))
          have FX_q25 := Lib.hid (((bq23).block _ (Array.getElem?_eq_some_iff.1 (FX_q22.out)).1).trans (FX_q22.out))
          clear FB_q21 FX_q22
          have FR_q26 := Lib.hid rq23
          clear rq23 bq23
          refine hK.out _ _ (HSX.out _ FB_q24.out) (fun hHeld => ?_)
          clear hK K
          (try simp only [Act.put, List.setIfInBounds_toArray, List.set_cons_zero, List.set_cons_succ, List.getElem_toArray, List.getElem_cons_succ, List.getElem_cons_zero])
          refine wpAnyH_ready (rs := [5]) (by kernel_rfl) (by simp) ?_
          refine AllReadyH.cons rfl (fun K hK => ?_) ?_
          · have hl48 := HL48.out
            have hlo9 := FB_q24.out.size
            refine stepER rfl _ _ rfl w3.heap.size _ 0 [] rfl FR_q26.out A es.length sc es rfl (HRE.out _ FB_q24.out) (by omega) hlo9 ?_
            intro v9 w9 own9 gr9
            simp only [Nat.zero_add, List.nil_append] at own9
            obtain ⟨A9, c9, rfl⟩ := own_shapeE own9
            have HOW9 := Lib.hid own9
            have HBL9 := Lib.hid (FB_q24.out.grown gr9 hlo9 (fun q hq => (FR_q26.out.lt q hq).1))
            have FB_9 := HBL9
            have FR_9 := HOW9
            have FX_9 := Lib.hid ((gr9.block _ (Array.getElem?_eq_some_iff.1 FX_q25.out).1 (fun e => own_ne_box FR_q26.out FX_q25.out e.symm rfl)).trans FX_q25.out)
            clear own9 gr9 hl48 hlo9 HOW9 HBL9
            refine hK.out _ _ (HSX.out _ FB_9.out) (fun hHeld => ?_)
            clear hK K
            (try simp only [Act.put, List.setIfInBounds_toArray, List.set_cons_zero, List.set_cons_succ, List.getElem_toArray, List.getElem_cons_succ, List.getElem_cons_zero])
            refine wpAnyH_take (i := 6) (v := ?vq27) rfl (by kernel_rfl) (by kernel_rfl) (by kernel_rfl) (fun _ _ _ h => h) (Or.inl ⟨by rfl, ?yq27⟩) (by assumption) ?_
            case yq27 => (intro w hSw; (try dsimp only at hSw); go_simp; all_goals (with_reducible rfl))
            (try simp only [Act.put, List.setIfInBounds_toArray, List.set_cons_zero, List.set_cons_succ, List.getElem_toArray, List.getElem_cons_succ, List.getElem_cons_zero])
            refine wpAnyH_ready (rs := [8]) (by kernel_rfl) (by simp) ?_
            refine AllReadyH.cons rfl (fun K hK => ?_) ?_
            · obtain ⟨a0, a1⟩ := twE_cells FX_9.out
              have f0 := frozen_of_row _ _ 0 _ _ FX_9.out; have f1 := frozen_of_row _ _ 1 _ _ FX_9.out
              go_simp
              clear a0 a1 f0 f1
              have HCA9 : Hid (CaS w3 ((w9.setCell ⟨goq22, 0, none⟩ (.int .i64 nd)).setCell ⟨goq22, 1, none⟩ (.slice A9 es.length c9)) goq22 ⟨A9, c9⟩ ⟨nd, es⟩) := Lib.hid ⟨set2E_at FX_9.out _ _, own_same FR_9.out (fun k hk => by have hne := own_ne_box FR_9.out FX_9.out hk; rw [heap_setCell_other _ _ _ _ (by show k ≠ goq22; exact hne), heap_setCell_other _ _ _ _ (by show k ≠ goq22; exact hne)]), HGE.out, (FB_9.out.setCell (p := ⟨goq22, 0, none⟩) HGE.out _).setCell (p := ⟨goq22, 1, none⟩) HGE.out _⟩
              refine hK.out _ _ (HSX.out _ HCA9.out.bel) (fun hHeld => ?_)
              clear hK K
              (try simp only [Act.put, List.setIfInBounds_toArray, List.set_cons_zero, List.set_cons_succ, List.getElem_toArray, List.getElem_cons_succ, List.getElem_cons_zero])
              refine wpAnyH_done (by kernel_rfl) ?_ _
              (try go_wp2_with (fail))
              go_meet
              exact ⟨_, ⟨A9, c9⟩, rfl, HCA9.out⟩
            exact AllReadyH.nil
          exact AllReadyH.nil
        exact AllReadyH.nil
      exact AllReadyH.nil
    case rest =>
      obtain ⟨bo, hh0, rfl, hca⟩ := hcut
      have HCA0 := Lib.hid hca
      clear hca HSX HRE
      go_wp2
      go_loopg [5] es.length (fun f iv wr => ∃ (s : Nat) (G' : Gr) (hh : GH), iv = .int .i64 (s : Nat) ∧ Hid (s ≤ 1000 ∧ s + f ≤ 1000) ∧ Hid (Run ⟨nd, es⟩ G' s f) ∧ CaS w3 wr bo hh G')
      case atStart => exact ⟨0, ⟨nd, es⟩, hh0, rfl, Lib.hid ⟨by omega, by have := HL48.out; omega⟩, HST.out, HCA0.out⟩
      case round =>
        obtain ⟨s, G', hh, rfl, hsb, hrun, hca⟩ := hrel
        clear HST HCA0
        have HCA := Lib.hid hca
        have hv' := hrun.out.1
        have hsm := vgB_small hv'
        have hlt : bo < wr.heap.size := (Array.getElem?_eq_some_iff.1 hca.box).1
        have HFI := Lib.hid (sContractFirst_any hh G' wr (show RdE wr wr.heap.size hh.A G'.e.length G'.e from RdE.of_own hca.own) (by omega))
        obtain ⟨c0, c1⟩ := twE_cells hca.box
        have HLT := Lib.hid hlt
        have hs1 := hsb.out.1
        clear hca hsm hlt
        cases hf : fstK anyW G'.e with
        | none =>
          obtain ⟨eV, eB⟩ := on_none (W := anyW) hv' (fst_no hf)
          rw [eV, eB] at HFI
          obtain ⟨e1, e2⟩ := hrun.out.done HV0.out (fst_no hf)
          obtain rfl : RV = G' := HRV.out.symm.trans e1
          obtain rfl : RI = (s : Int) := HRI.out.symm.trans e2
          clear eV eB e1 e2 hf hv'
          generalize Gr.nil = NV at HFI
          go_wp2_with (fail)
          refine HFI.out.mono ?_
          rintro e w6 ⟨h6, rfl, own6, bel6⟩
          have ba : Below w6.heap.size w6 (w6.alloc (.cells #[.int .i64 NV.n, .slice h6.A NV.e.length h6.c] 30)) := (Below.refl _ _).alloc (Nat.le_refl _) _
          have B7 := bel6.trans (ba.mono bel6.size)
          have hbo := (B7.block bo HLT.out).trans HCA.out.box
          have b27 := B3.out.trans ((HCA.out.bel.trans (B7.mono HCA.out.bel.size)).mono B3.out.size)
          have hrb := (HK.out _ b27).2
          obtain ⟨c0, c1⟩ := twE_cells hbo
          obtain ⟨a0, a1⟩ := twE_cells hrb
          have f0 := frozen_of_row _ _ 0 _ _ hrb; have f1 := frozen_of_row _ _ 1 _ _ hrb
          have HQ := Lib.hid (set2E_at hrb (.int .i64 RV.n) (.slice hh.A RV.e.length hh.c))
          have HO : Hid (OwnG (w6.alloc (.cells #[.int .i64 NV.n, .slice h6.A NV.e.length h6.c] 30)) w3.heap.size (w6.alloc (.cells #[.int .i64 NV.n, .slice h6.A NV.e.length h6.c] 30)).heap.size hh RV) := Lib.hid (OwnG.of_own (own_same HCA.out.own fun k hk => B7.block k (HCA.out.own.lt k hk).2))
          have HBB := Lib.hid (HB.out.trans (b27.mono HB.out.size))
          have HS5 : Hid (w.heap.size + 1 < w3.heap.size) := Lib.hid (Nat.lt_of_lt_of_le HS2.out B3.out.size)
          clear own6 bel6 ba B7 hbo b27 hrb
          go_wp2
          (try simp only [Exit.inBlock, Exit.then])
          refine bodyPost_ret (resCT rfl _ _ (w.heap.size + 1) _ _ (0, 0) _ rfl HQ.out Tryd.underlying30 rfl (by kernel_rfl)) rfl ?_
          exact ⟨hh, rfl, ((HO.out.set HS5.out _).set HS5.out _).more (by have := HS5.out; omega) (by simp), (HBB.out.setCell (p := ⟨w.heap.size + 1, 0, none⟩) (by show w.heap.size ≤ w.heap.size + 1; omega) _).setCell (p := ⟨w.heap.size + 1, 1, none⟩) (by show w.heap.size ≤ w.heap.size + 1; omega) _⟩
        | some k =>
          have his := fst_is hf
          obtain ⟨eV, eB⟩ := on_some (W := anyW) hv' his
          rw [eV, eB] at HFI
          obtain ⟨f', hf', hrun2⟩ := hrun.out.step his
          have HR2 := Lib.hid hrun2
          have HF := Lib.hid hf'
          have HSB : Hid (s + 1 ≤ 1000 ∧ s + 1 + f' ≤ 1000) := Lib.hid (by have := hsb.out; omega)
          generalize ctrG G' k = V at *
          clear eV eB his hf hv' hrun2 hf'
          go_wp2_with (fail)
          refine HFI.out.mono ?_
          rintro e w6 ⟨h6, rfl, own6, bel6⟩
          have HNX := Lib.hid (HCA.out.next own6 bel6)
          have ba : Below w6.heap.size w6 (w6.alloc (.cells #[.int .i64 V.n, .slice h6.A V.e.length h6.c] 30)) := (Below.refl _ _).alloc (Nat.le_refl _) _
          have hbo := ((bel6.trans (ba.mono bel6.size)).block bo HLT.out).trans HCA.out.box
          obtain ⟨d0, d1⟩ := twE_cells hbo
          have f0 := frozen_of_row _ _ 0 _ _ hbo; have f1 := frozen_of_row _ _ 1 _ _ hbo
          obtain ⟨n0, n1⟩ := twE_cells (show (w6.alloc (.cells #[.int .i64 V.n, .slice h6.A V.e.length h6.c] 30)).heap[w6.heap.size]? = _ from heap_alloc_new _ _)
          clear own6 bel6 ba hbo c0 c1
          go_wp2
          go_roundg f'
          case measure => exact HF.out
          case rel => exact ⟨s + 1, V, h6, by go_num, HSB, HR2, HNX.out⟩
end Go.Proofs.YtlcapifgpcimpaaDoor
