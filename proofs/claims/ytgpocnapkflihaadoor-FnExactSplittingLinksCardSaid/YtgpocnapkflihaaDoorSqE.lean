/- The program's splitLinks. Made by mksqe.py. -/
import Derived.Test.YtgpocnapkflihaaDoorSqD
import Derived.Maps.AppendAt
import Derived.Deep.RegionHeldLaw
import Derived.Deep.DeepCutAuto
import Derived.BigQuiet
namespace Go.Proofs.YtgpocnapkflihaaDoor
set_option linter.unusedSimpArgs false
set_option linter.unusedVariables false
open Go.ChangeAt Go.ChangeShapes Go.RowKit Go.WideShapes

/-- A store of a whole row, in a region that draws. -/
theorem step_store_row {P : Program} {w : World} {ops : Array Oper} {o : Oper} {a : Act} {K : Act → World → Prop} {Q : Exit → Act → World → Prop} {E : Prop} (hgd : o.guard = none) (ty : TypeId) (x y : Operand) (ho : o.op = .store ty x y)
    (g : Nat) (cells : Array Value) (hx : a.eval x = .pointer (some ⟨g, 0, none⟩)) (hy : a.eval y = .agg cells)
    (t : TypeId) (old : Array Value) (hg : w.heap[g]? = some (.cells old t (0, 0))) (hi : (P.info? ty).map (·.size) = some cells.size)
    (hold : old.size = cells.size) (h1 : cells.all (·.oneCell') = true)
    (h : K (a.put o.dst undef) (w.setRow g cells)) : if Region.wanted o (yielded ops a.tmps) = true then Oper.wp P o a w K Q else E := by
  rw [if_pos (by simp [Region.wanted, hgd])]
  exact wp_store_row ty x y ho g cells hx hy t old hg hi hold h1 h
/-- The links of both parts. -/
def l1V (N : Nt) (r : Nat) : List Int := if spB N r = true then selU (k1X N r) N.l.length else []
def l2V (N : Nt) (r : Nat) : List Int := if spB N r = true then selU (k2X N r) N.l.length else []
/-- What splitLinks leaves. -/
def GivesSp (w : World) (N : Nt) (r : Nat) (e : Ending) (w' : World) : Prop :=
  ∃ A c B d, e = .returned (.tuple #[.slice A (l1V N r).length c, .slice B (l2V N r).length d, .bool (spB N r)]) ∧ w'.ownsRow w.heap.size 2 1 (.slice A (l1V N r).length c) (l1V N r).length ((l1V N r).map (Value.int .i64)) ∧ w'.ownsRow w.heap.size 2 1 (.slice B (l2V N r).length d) (l2V N r).length ((l2V N r).map (Value.int .i64)) ∧ Below w.heap.size w w'
theorem givesSp_no {w w' : World} {N : Nt} {r : Nat} (h : spB N r = false) (hb : Below w.heap.size w w') : GivesSp w N r (.returned (.tuple #[.slice none 0 0, .slice none 0 0, .bool false])) w' := by
  unfold GivesSp l1V l2V
  rw [h]
  exact ⟨none, 0, none, 0, rfl, World.ownsRow_nil _ _ _ _, World.ownsRow_nil _ _ _ _, hb⟩
/-- Two rows that grow. -/
structure TwR (wl wx : World) (v1 v2 : Value) (L1 L2 : List Int) : Prop where
  o1 : wx.ownsRow wl.heap.size 2 1 v1 L1.length (L1.map (Value.int .i64))
  o2 : wx.ownsRow wl.heap.size 2 1 v2 L2.length (L2.map (Value.int .i64))
  ap : ∀ b, v1.ownBlock = some b → v2.ownBlock ≠ some b
  bel : Below wl.heap.size wl wx
theorem TwR.start (wl : World) : TwR wl wl (.slice none 0 0) (.slice none 0 0) [] [] := ⟨World.ownsRow_nil _ _ _ _, World.ownsRow_nil _ _ _ _, (fun b e => by cases e), Below.refl _ _⟩
theorem TwR.push1 {wl wx w2 : World} {v1 v2 v' : Value} {L1 L2 : List Int} {z : Int} (s : TwR wl wx v1 v2 L1 L2) (hown : w2.ownsRow wl.heap.size 2 1 v' (L1.length + 1) (L1.map (Value.int .i64) ++ [.int .i64 z])) (hg : (wx.alloc (.cells #[.int .i64 z] 2)).grownBy w2 v1.ownBlock)
    (hat : v'.ownBlock = v1.ownBlock ∨ v'.ownBlock = some (wx.alloc (.cells #[.int .i64 z] 2)).heap.size) : TwR wl w2 v' v2 (L1 ++ [z]) L2 where
  o1 := by rw [List.length_append, List.map_append]; exact hown
  o2 := own_same (own_below s.o2 ((Below.refl _ _).alloc (Nat.le_refl _) _) (Nat.le_refl _)) fun q e => hg.block q (by have := (s.o2.lt q e).2; simp; omega) (fun e2 => s.ap q e2.symm e)
  ap b e e2 := by
    rcases hat with q | q
    · exact s.ap b (q.symm.trans e) e2
    · rw [q] at e
      injection e with e
      have := (s.o2.lt b e2).2
      simp at e; omega
  bel := (s.bel.alloc s.bel.size _).grown hg (Nat.le_trans s.bel.size (by simp)) fun q e => (s.o1.lt q e).1
theorem TwR.push2 {wl wx w2 : World} {v1 v2 v' : Value} {L1 L2 : List Int} {z : Int} (s : TwR wl wx v1 v2 L1 L2) (hown : w2.ownsRow wl.heap.size 2 1 v' (L2.length + 1) (L2.map (Value.int .i64) ++ [.int .i64 z])) (hg : (wx.alloc (.cells #[.int .i64 z] 2)).grownBy w2 v2.ownBlock)
    (hat : v'.ownBlock = v2.ownBlock ∨ v'.ownBlock = some (wx.alloc (.cells #[.int .i64 z] 2)).heap.size) : TwR wl w2 v1 v' L1 (L2 ++ [z]) where
  o2 := by rw [List.length_append, List.map_append]; exact hown
  o1 := own_same (own_below s.o1 ((Below.refl _ _).alloc (Nat.le_refl _) _) (Nat.le_refl _)) fun q e => hg.block q (by have := (s.o1.lt q e).2; simp; omega) (fun e2 => s.ap q e e2.symm)
  ap b e e2 := by
    rcases hat with q | q
    · exact s.ap b e (q.symm.trans e2)
    · rw [q] at e2
      injection e2 with e2
      have := (s.o1.lt b e).2
      simp at e2; omega
  bel := (s.bel.alloc s.bel.size _).grown hg (Nat.le_trans s.bel.size (by simp)) fun q e => (s.o2.lt q e).1
set_option maxRecDepth 100000 in
set_option maxHeartbeats 800000 in
theorem splitLinks_any (h : NH) (N : Nt) (r : Nat) (w : World) (hv : valN N = true) (rN : RdN w w.heap.size h N) (hr : r < N.l.length) (htm : tmB N r = true) :
    Calls Tryd.prog 45 #[.agg #[.slice h.A N.w.length h.c, .slice h.L N.l.length h.d, .slice h.C N.c.length h.e], .int .i64 r] w (GivesSp w N r) := by
  obtain ⟨h48, h48l⟩ := valN_size hv
  obtain ⟨i0, hi0, hz0, hz1, hz2⟩ := info_parts info_i64
  have HI := Lib.hid hi0; have HZ0 := Lib.hid hz0; have HZ1 := Lib.hid hz1; have HZ2 := Lib.hid hz2
  obtain ⟨w0, hw0⟩ : ∃ w0, w0 = w.alloc (.cells #[.slice h.A N.w.length h.c, .slice h.L N.l.length h.d, .slice h.C N.c.length h.e] 31) := ⟨_, rfl⟩
  obtain ⟨hb, hh, hsz⟩ := box3_any w (.slice h.A N.w.length h.c) (.slice h.L N.l.length h.d) (.slice h.C N.c.length h.e) 31
  rw [← hw0] at hb hh hsz
  have HKB := Lib.hid (fun (wx : World) (hw : Below w0.heap.size w0 wx) => (hw.block w.heap.size (by omega)).trans hh)
  have HR := Lib.hid (fun (wx : World) (hx : Below w0.heap.size w0 wx) => show RdN wx wx.heap.size h N from (rN.below (hb.trans (hx.mono hb.size))).more (Nat.le_trans hb.size hx.size))
  have HB0 := Lib.hid hb
  obtain ⟨b, off, hLe, hbb, hcells⟩ := rN.2.1.at (by omega)
  obtain ⟨l0, l1, l2, l3⟩ := hcells r hr
  have hbW := hb
  have l0 := (hb.cell (p := ⟨b, off + r * 4, none⟩) hbb).trans l0
  have l1 := (hb.cell (p := ⟨b, off + r * 4 + 1, none⟩) hbb).trans l1
  have l2 := (hb.cell (p := ⟨b, off + r * 4 + 2, none⟩) hbb).trans l2
  have l3 := (hb.cell (p := ⟨b, off + r * 4 + 3, none⟩) hbb).trans l3
  obtain ⟨bl, z0, z1, z2, z3, zs⟩ := lnk_any w0 (N.l.getD r Lk.nil) 54
  obtain ⟨u2, hu2⟩ : ∃ u2, u2 = w0.alloc (.cells #[.int .i64 (N.l.getD r Lk.nil).k, .int .i64 (N.l.getD r Lk.nil).a, .int .i64 (N.l.getD r Lk.nil).b, .int .i64 (N.l.getD r Lk.nil).c] 54) := ⟨_, rfl⟩
  rw [← hu2] at bl z0 z1 z2 z3 zs
  have HBL := Lib.hid bl
  have HB2 : Hid (Below w.heap.size w u2) := Lib.hid (hb.trans (bl.mono hb.size))
  have hzl : w0.heap.size < u2.heap.size := by omega
  have HZK := Lib.hid (fun (wx : World) (hx : Below u2.heap.size u2 wx) => And.intro ((hx.cell (p := ⟨w0.heap.size, 1, none⟩) hzl).trans z1) ((hx.cell (p := ⟨w0.heap.size, 2, none⟩) hzl).trans z2))
  have hr2 : (r : Int) < (N.l.length : Int) := by omega
  have y := three_cells hh
  obtain ⟨y0, y1, y2⟩ := y
  have HPW := Lib.hid (fun (wx : World) (hx : Below u2.heap.size u2 wx) => partsWithout_any h N r wx hv (HR.out wx (bl.trans (hx.mono bl.size))) hr)
  have HLO := Lib.hid (fun (wx : World) (hx : Below u2.heap.size u2 wx) => linksOut_any h N wx hv (HR.out wx (bl.trans (hx.mono bl.size))))
  have HWO := Lib.hid (lxL_len outL N)
  have HSX : Hid (∀ wx : World, Below u2.heap.size u2 wx → wx.cell? ⟨w.heap.size, 0, none⟩ = some (.slice h.A N.w.length h.c) ∧ wx.cell? ⟨w.heap.size, 1, none⟩ = some (.slice h.L N.l.length h.d) ∧ wx.cell? ⟨w.heap.size, 2, none⟩ = some (.slice h.C N.c.length h.e)) := Lib.hid fun wx hx => three_cells (HKB.out wx (bl.trans (hx.mono bl.size)))
  have HVV := Lib.hid hv; have HTM := Lib.hid htm
  have HU2 := Lib.hid hu2
  have HKI : Hid (((N.l.getD r Lk.nil).k = 2 ∨ (N.l.getD r Lk.nil).k = 3) → ((N.l.getD r Lk.nil).a ∈ inL (N.l.getD r Lk.nil) ∧ (N.l.getD r Lk.nil).b ∈ inL (N.l.getD r Lk.nil))) := Lib.hid fun e => join_in e
  have HNO : Hid (¬ ((N.l.getD r Lk.nil).k = 2 ∨ (N.l.getD r Lk.nil).k = 3) → spB N r = false) := Lib.hid fun e => by unfold spB; rw [decide_eq_false e]; rfl
  have HSB : Hid (((N.l.getD r Lk.nil).k = 2 ∨ (N.l.getD r Lk.nil).k = 3) → spB N r = (!decide (gaX N r = gbX N r) && twB N r)) := Lib.hid fun e => by unfold spB; rw [decide_eq_true e, htm]; simp
  have HGA : Hid (((N.l.getD r Lk.nil).k = 2 ∨ (N.l.getD r Lk.nil).k = 3) → (inW N.w.length (N.l.getD r Lk.nil).a = true ∧ inW N.w.length (N.l.getD r Lk.nil).b = true)) := Lib.hid fun e => ⟨in_in hv hr (join_in e).1, in_in hv hr (join_in e).2⟩
  have HG1 : Hid (gpX N r (frN N (N.l.getD r Lk.nil).a) = gaX N r) := Lib.hid rfl
  have HG2 : Hid (gpX N r (frN N (N.l.getD r Lk.nil).b) = gbX N r) := Lib.hid rfl
  have HTP := Lib.hid (fun e1 e2 e3 => two_parts (N := N) (r := r) hv hr htm e1 e2 e3)
  clear hb hh hsz rN hcells bl zs hv htm hbW z1 z2
  generalize hlk : N.l.getD r Lk.nil = l at *
  obtain ⟨lk, la, lb, lc⟩ := l
  dsimp only at l0 l1 l2 l3 z0 z3 HNO HSB HGA HG1 HG2 HTP HKI HU2 hu2
  clear hlk z3 HKI
  rw [hLe] at y1
  clear hLe
  by_cases hkk : lk = 2 ∨ lk = 3
  · have HGAA := Lib.hid (HGA.out hkk)
    have HSBB := Lib.hid (HSB.out hkk)
    have HTPP := Lib.hid (HTP.out hkk)
    clear HGA HSB HTP HNO
    rcases hkk with e | e <;> subst e
    all_goals
      go_enter Tryd.func45, Tryd.ntmps45
      go_upto_region 1 with (fail)
      rw [← hw0]
      clear hw0
      go_upto_region 2 with (fail)
      rw [← HU2.out]
      clear hu2 y0 y1 y2 l0 l1 l2 l3
      go_upto_region 4 with (fail)
      go_cut [8, 9] (fun p v wx => ∃ (g : Nat) (T : List Int) (A : Option Addr) (c : Nat), p = .pointer (some ⟨g, 0, none⟩) ∧ v = .slice A N.w.length c ∧ LpB wx g T (cntQ (gpX N r)) ∧ Uf T (gpX N r) ∧ wx.ownsRow u2.heap.size 2 1 (.slice A N.w.length c) N.w.length ((lxL outL N).map (Value.int .i64)) ∧ u2.heap.size ≤ g ∧ Below u2.heap.size u2 wx)
      case first =>
        have FB_0 := Lib.hid (Below.refl u2.heap.size u2)
        refine wp_region_held_drew (S := fun wx => wx.cell? ⟨w.heap.size, 0, none⟩ = some (.slice h.A N.w.length h.c) ∧ wx.cell? ⟨w.heap.size, 1, none⟩ = some (.slice h.L N.l.length h.d) ∧ wx.cell? ⟨w.heap.size, 2, none⟩ = some (.slice h.C N.c.length h.e)) (by kernel_rfl) (HSX.out _ (Below.refl _ _).drew) (fun hHeld => ?_)
        obtain ⟨wq1, hwq1⟩ : ∃ w', w' = u2.drew := ⟨_, rfl⟩
        rw [← hwq1] at hHeld ⊢
        have bq1 : Below u2.heap.size u2 wq1 := by rw [hwq1]; exact (Below.refl _ _).drew
        clear hwq1
        have FB_q2 := Lib.hid ((FB_0.out).trans ((bq1).mono (FB_0.out).size))
        clear FB_0
        refine wpAnyH_take (i := 0) (v := ?vq3) rfl (by kernel_rfl) (by kernel_rfl) (by kernel_rfl) (fun _ _ _ h => h) (Or.inl ⟨by rfl, ?yq3⟩) (by assumption) ?_
        case yq3 => (intro w hSw; (try dsimp only at hSw); go_simp; all_goals (with_reducible rfl))
        (try simp only [Act.put, List.setIfInBounds_toArray, List.set_cons_zero, List.set_cons_succ, List.getElem_toArray, List.getElem_cons_succ, List.getElem_cons_zero])
        refine wpAnyH_take (i := 1) (v := ?vq4) rfl (by kernel_rfl) (by kernel_rfl) (by kernel_rfl) (fun _ _ _ h => h) (Or.inl ⟨by rfl, ?yq4⟩) (by assumption) ?_
        case yq4 => (intro w hSw; (try dsimp only at hSw); go_simp; all_goals (with_reducible rfl))
        (try simp only [Act.put, List.setIfInBounds_toArray, List.set_cons_zero, List.set_cons_succ, List.getElem_toArray, List.getElem_cons_succ, List.getElem_cons_zero])
        refine wpAnyH_take (i := 3) (v := ?vq5) rfl (by kernel_rfl) (by kernel_rfl) (by kernel_rfl) (fun _ _ _ h => h) (Or.inl ⟨by rfl, ?yq5⟩) (by assumption) ?_
        case yq5 => (intro w hSw; (try dsimp only at hSw); go_simp; all_goals (with_reducible rfl))
        (try simp only [Act.put, List.setIfInBounds_toArray, List.set_cons_zero, List.set_cons_succ, List.getElem_toArray, List.getElem_cons_succ, List.getElem_cons_zero])
        refine wpAnyH_ready (rs := [2, 5]) (by kernel_rfl) (by simp) ?_
        refine AllReadyH.cons rfl (fun K hK => ?_) ?_
        · go_simp
          refine (HPW.out wq1 FB_q2.out).mono ?_
          rintro e wq6 ⟨Tq6, rfl, Uq6, belq6⟩
          dsimp only
          have FB_q7 := Lib.hid ((FB_q2.out).trans ((belq6).mono (FB_q2.out).size))
          clear FB_q2
          obtain ⟨Vq6, hVq6⟩ : ∃ V, npA Tq6 (cntQ (gpX N r)) = V := ⟨_, rfl⟩
          have HSZq6 := Lib.hid (npA_size (c := cntQ (gpX N r)) Uq6.len); have HONq6 := Lib.hid (one_np Tq6 (cntQ (gpX N r))); have HVEq6 := Lib.hid hVq6; have HUFq6 := Lib.hid Uq6
          rw [hVq6] at HSZq6 HONq6 ⊢
          clear hVq6 Uq6 belq6
          refine hK.out _ _ (HSX.out _ FB_q7.out) (fun hHeld => ?_)
          clear hK K
          (try simp only [Act.put, List.setIfInBounds_toArray, List.set_cons_zero, List.set_cons_succ, List.getElem_toArray, List.getElem_cons_succ, List.getElem_cons_zero])
          refine wpAnyH_ready (rs := [4, 5]) (by kernel_rfl) (by simp) ?_
          refine AllReadyH.cons rfl (fun K hK => ?_) ?_
          · have FBO : Hid (u2.heap.size ≤ wq6.heap.size) := Lib.hid FB_q7.out.size
            go_simp
            refine (HLO.out wq6 FB_q7.out).mono ?_
            rintro e wq8 ⟨Aq8, cq8, rfl, ownq8, belq8⟩
            dsimp only
            have FB_q9 := Lib.hid ((FB_q7.out).trans ((belq8).mono (FB_q7.out).size))
            clear FB_q7
            rw [HWO.out] at ownq8 ⊢
            have FO_q10 := Lib.hid ownq8
            clear ownq8 belq8
            refine hK.out _ _ (HSX.out _ FB_q9.out) (fun hHeld => ?_)
            clear hK K
            (try simp only [Act.put, List.setIfInBounds_toArray, List.set_cons_zero, List.set_cons_succ, List.getElem_toArray, List.getElem_cons_succ, List.getElem_cons_zero])
            refine wpAnyH_ready (rs := [5]) (by kernel_rfl) (by simp) ?_
            refine AllReadyH.cons rfl (fun K hK => ?_) ?_
            · have FBP := FB_q9
              have FOP := FO_q10
              go_simp
              obtain ⟨wq11, hwq11⟩ : ∃ w', w' = wq8.alloc (.cells #[Value.int .i64 0, Value.int .i64 0, Value.int .i64 0, Value.int .i64 0, Value.int .i64 0, Value.int .i64 0, Value.int .i64 0, Value.int .i64 0, Value.int .i64 0, Value.int .i64 0, Value.int .i64 0, Value.int .i64 0, Value.int .i64 0, Value.int .i64 0, Value.int .i64 0, Value.int .i64 0, Value.int .i64 0, Value.int .i64 0, Value.int .i64 0, Value.int .i64 0, Value.int .i64 0, Value.int .i64 0, Value.int .i64 0, Value.int .i64 0, Value.int .i64 0, Value.int .i64 0, Value.int .i64 0, Value.int .i64 0, Value.int .i64 0, Value.int .i64 0, Value.int .i64 0, Value.int .i64 0, Value.int .i64 0, Value.int .i64 0, Value.int .i64 0, Value.int .i64 0, Value.int .i64 0, Value.int .i64 0, Value.int .i64 0, Value.int .i64 0, Value.int .i64 0, Value.int .i64 0, Value.int .i64 0, Value.int .i64 0, Value.int .i64 0, Value.int .i64 0, Value.int .i64 0, Value.int .i64 0, Value.int .i64 0] 74) := ⟨_, rfl⟩
              rw [← hwq11]
              have bq11 : Below wq8.heap.size wq8 wq11 := by rw [hwq11]; exact (Below.refl _ _).alloc (Nat.le_refl _) _
              have gq11 : wq11.heap[wq8.heap.size]? = some (.cells #[Value.int .i64 0, Value.int .i64 0, Value.int .i64 0, Value.int .i64 0, Value.int .i64 0, Value.int .i64 0, Value.int .i64 0, Value.int .i64 0, Value.int .i64 0, Value.int .i64 0, Value.int .i64 0, Value.int .i64 0, Value.int .i64 0, Value.int .i64 0, Value.int .i64 0, Value.int .i64 0, Value.int .i64 0, Value.int .i64 0, Value.int .i64 0, Value.int .i64 0, Value.int .i64 0, Value.int .i64 0, Value.int .i64 0, Value.int .i64 0, Value.int .i64 0, Value.int .i64 0, Value.int .i64 0, Value.int .i64 0, Value.int .i64 0, Value.int .i64 0, Value.int .i64 0, Value.int .i64 0, Value.int .i64 0, Value.int .i64 0, Value.int .i64 0, Value.int .i64 0, Value.int .i64 0, Value.int .i64 0, Value.int .i64 0, Value.int .i64 0, Value.int .i64 0, Value.int .i64 0, Value.int .i64 0, Value.int .i64 0, Value.int .i64 0, Value.int .i64 0, Value.int .i64 0, Value.int .i64 0, Value.int .i64 0] 74 (0, 0)) := by rw [hwq11]; exact heap_alloc_new _ _
              clear hwq11
              have FB_q12 := Lib.hid ((FB_q9.out).trans ((bq11).mono (FB_q9.out).size))
              have FO_q13 := Lib.hid (own_below (FO_q10.out) (bq11) (Nat.le_refl _))
              clear FB_q9 FO_q10
              obtain ⟨gnq14, hgq14⟩ : ∃ b, wq8.heap.size = b := ⟨_, rfl⟩
              have HGE : Hid (u2.heap.size ≤ gnq14) := Lib.hid (by rw [← hgq14]; exact FBP.out.size)
              have HNE : Hid (∀ q, (Value.slice Aq8 N.w.length cq8).ownBlock = some q → q ≠ gnq14) := Lib.hid fun q e e2 => by have := (FOP.out.lt q e).2; omega
              have FN_q14 := Lib.hid gq11
              rw [hgq14] at FN_q14 ⊢
              clear hgq14 gq11 bq11
              clear FBP FOP
              refine hK.out _ _ (HSX.out _ FB_q12.out) (fun hHeld => ?_)
              clear hK K
              (try simp only [Act.put, List.setIfInBounds_toArray, List.set_cons_zero, List.set_cons_succ, List.getElem_toArray, List.getElem_cons_succ, List.getElem_cons_zero])
              refine wpAnyH_ready (rs := [6]) (by kernel_rfl) (by simp) ?_
              refine AllReadyH.cons rfl (fun K hK => ?_) ?_
              · refine step_store_row rfl _ _ _ rfl gnq14 Vq6 rfl rfl _ _ FN_q14.out (by rw [HSZq6.out]; exact size_np) (by rw [HSZq6.out]; rfl) HONq6.out ?_
                have HLP : Hid (LpB (wq11.setRow gnq14 Vq6) gnq14 Tq6 (cntQ (gpX N r))) := Lib.hid (by have := setRow_heap _ gnq14 _ Vq6 _ _ FN_q14.out; unfold LpB; rw [HVEq6.out]; exact this)
                have HBL : Hid (Below u2.heap.size u2 (wq11.setRow gnq14 Vq6)) := Lib.hid (below_setRow FB_q12.out HGE.out _)
                have HOO : Hid ((wq11.setRow gnq14 Vq6).ownsRow u2.heap.size 2 1 (.slice Aq8 N.w.length cq8) N.w.length ((lxL outL N).map (Value.int .i64))) := Lib.hid ((own_same FO_q13.out fun q e => setRow_other _ _ _ _ (HNE.out q e)).mono (by have := FBO.out; omega))
                generalize wq11.setRow gnq14 Vq6 = wq15 at *
                refine hK.out _ _ (HSX.out _ HBL.out) (fun hHeld => ?_)
                clear hK K
                (try simp only [Act.put, List.setIfInBounds_toArray, List.set_cons_zero, List.set_cons_succ, List.getElem_toArray, List.getElem_cons_succ, List.getElem_cons_zero])
                refine wpAnyH_ready (rs := [7]) (by kernel_rfl) (by simp) ?_
                refine AllReadyH.cons rfl (fun K hK => ?_) ?_
                · go_simp
                  refine hK.out _ _ hHeld (fun hHeld => ?_)
                  clear hK K
                  (try simp only [Act.put, List.setIfInBounds_toArray, List.set_cons_zero, List.set_cons_succ, List.getElem_toArray, List.getElem_cons_succ, List.getElem_cons_zero])
                  refine wpAnyH_done (by kernel_rfl) ?_ _
                  go_wp2_with (fail)
                  go_meet
                  exact ⟨gnq14, Tq6, Aq8, cq8, rfl, rfl, HLP.out, HUFq6.out, HOO.out, HGE.out, HBL.out⟩
                exact AllReadyH.nil
              exact AllReadyH.nil
            exact AllReadyH.nil
          refine AllReadyH.cons rfl (fun K hK => ?_) ?_
          · have FBP := FB_q7
            go_simp
            obtain ⟨wq16, hwq16⟩ : ∃ w', w' = wq6.alloc (.cells #[Value.int .i64 0, Value.int .i64 0, Value.int .i64 0, Value.int .i64 0, Value.int .i64 0, Value.int .i64 0, Value.int .i64 0, Value.int .i64 0, Value.int .i64 0, Value.int .i64 0, Value.int .i64 0, Value.int .i64 0, Value.int .i64 0, Value.int .i64 0, Value.int .i64 0, Value.int .i64 0, Value.int .i64 0, Value.int .i64 0, Value.int .i64 0, Value.int .i64 0, Value.int .i64 0, Value.int .i64 0, Value.int .i64 0, Value.int .i64 0, Value.int .i64 0, Value.int .i64 0, Value.int .i64 0, Value.int .i64 0, Value.int .i64 0, Value.int .i64 0, Value.int .i64 0, Value.int .i64 0, Value.int .i64 0, Value.int .i64 0, Value.int .i64 0, Value.int .i64 0, Value.int .i64 0, Value.int .i64 0, Value.int .i64 0, Value.int .i64 0, Value.int .i64 0, Value.int .i64 0, Value.int .i64 0, Value.int .i64 0, Value.int .i64 0, Value.int .i64 0, Value.int .i64 0, Value.int .i64 0, Value.int .i64 0] 74) := ⟨_, rfl⟩
            rw [← hwq16]
            have bq16 : Below wq6.heap.size wq6 wq16 := by rw [hwq16]; exact (Below.refl _ _).alloc (Nat.le_refl _) _
            have gq16 : wq16.heap[wq6.heap.size]? = some (.cells #[Value.int .i64 0, Value.int .i64 0, Value.int .i64 0, Value.int .i64 0, Value.int .i64 0, Value.int .i64 0, Value.int .i64 0, Value.int .i64 0, Value.int .i64 0, Value.int .i64 0, Value.int .i64 0, Value.int .i64 0, Value.int .i64 0, Value.int .i64 0, Value.int .i64 0, Value.int .i64 0, Value.int .i64 0, Value.int .i64 0, Value.int .i64 0, Value.int .i64 0, Value.int .i64 0, Value.int .i64 0, Value.int .i64 0, Value.int .i64 0, Value.int .i64 0, Value.int .i64 0, Value.int .i64 0, Value.int .i64 0, Value.int .i64 0, Value.int .i64 0, Value.int .i64 0, Value.int .i64 0, Value.int .i64 0, Value.int .i64 0, Value.int .i64 0, Value.int .i64 0, Value.int .i64 0, Value.int .i64 0, Value.int .i64 0, Value.int .i64 0, Value.int .i64 0, Value.int .i64 0, Value.int .i64 0, Value.int .i64 0, Value.int .i64 0, Value.int .i64 0, Value.int .i64 0, Value.int .i64 0, Value.int .i64 0] 74 (0, 0)) := by rw [hwq16]; exact heap_alloc_new _ _
            clear hwq16
            have FB_q17 := Lib.hid ((FB_q7.out).trans ((bq16).mono (FB_q7.out).size))
            clear FB_q7
            obtain ⟨gnq18, hgq18⟩ : ∃ b, wq6.heap.size = b := ⟨_, rfl⟩
            have HGE : Hid (u2.heap.size ≤ gnq18) := Lib.hid (by rw [← hgq18]; exact FBP.out.size)
            have FN_q18 := Lib.hid gq16
            rw [hgq18] at FN_q18 ⊢
            clear hgq18 gq16 bq16
            clear FBP
            refine hK.out _ _ (HSX.out _ FB_q17.out) (fun hHeld => ?_)
            clear hK K
            (try simp only [Act.put, List.setIfInBounds_toArray, List.set_cons_zero, List.set_cons_succ, List.getElem_toArray, List.getElem_cons_succ, List.getElem_cons_zero])
            refine wpAnyH_ready (rs := [4]) (by kernel_rfl) (by simp) ?_
            refine AllReadyH.cons rfl (fun K hK => ?_) ?_
            · have FBO : Hid (u2.heap.size ≤ wq16.heap.size) := Lib.hid FB_q17.out.size
              go_simp
              have hgl : gnq18 < wq16.heap.size := (Array.getElem?_eq_some_iff.1 FN_q18.out).1
              refine (HLO.out wq16 FB_q17.out).mono ?_
              rintro e wq19 ⟨Aq19, cq19, rfl, ownq19, belq19⟩
              dsimp only
              have FB_q20 := Lib.hid ((FB_q17.out).trans ((belq19).mono (FB_q17.out).size))
              have FN_q21 := Lib.hid (((belq19).block _ (Array.getElem?_eq_some_iff.1 (FN_q18.out)).1).trans (FN_q18.out))
              clear FB_q17 FN_q18
              rw [HWO.out] at ownq19 ⊢
              have HNE : Hid (∀ q, (Value.slice Aq19 N.w.length cq19).ownBlock = some q → q ≠ gnq18) := Lib.hid fun q e e2 => by have := (ownq19.lt q e).1; omega
              have FO_q22 := Lib.hid ownq19
              clear ownq19 belq19
              refine hK.out _ _ (HSX.out _ FB_q20.out) (fun hHeld => ?_)
              clear hK K
              (try simp only [Act.put, List.setIfInBounds_toArray, List.set_cons_zero, List.set_cons_succ, List.getElem_toArray, List.getElem_cons_succ, List.getElem_cons_zero])
              refine wpAnyH_ready (rs := [6]) (by kernel_rfl) (by simp) ?_
              refine AllReadyH.cons rfl (fun K hK => ?_) ?_
              · refine step_store_row rfl _ _ _ rfl gnq18 Vq6 rfl rfl _ _ FN_q21.out (by rw [HSZq6.out]; exact size_np) (by rw [HSZq6.out]; rfl) HONq6.out ?_
                have HLP : Hid (LpB (wq19.setRow gnq18 Vq6) gnq18 Tq6 (cntQ (gpX N r))) := Lib.hid (by have := setRow_heap _ gnq18 _ Vq6 _ _ FN_q21.out; unfold LpB; rw [HVEq6.out]; exact this)
                have HBL : Hid (Below u2.heap.size u2 (wq19.setRow gnq18 Vq6)) := Lib.hid (below_setRow FB_q20.out HGE.out _)
                have HOO : Hid ((wq19.setRow gnq18 Vq6).ownsRow u2.heap.size 2 1 (.slice Aq19 N.w.length cq19) N.w.length ((lxL outL N).map (Value.int .i64))) := Lib.hid ((own_same FO_q22.out fun q e => setRow_other _ _ _ _ (HNE.out q e)).mono (by have := FBO.out; omega))
                generalize wq19.setRow gnq18 Vq6 = wq23 at *
                refine hK.out _ _ (HSX.out _ HBL.out) (fun hHeld => ?_)
                clear hK K
                (try simp only [Act.put, List.setIfInBounds_toArray, List.set_cons_zero, List.set_cons_succ, List.getElem_toArray, List.getElem_cons_succ, List.getElem_cons_zero])
                refine wpAnyH_ready (rs := [7]) (by kernel_rfl) (by simp) ?_
                refine AllReadyH.cons rfl (fun K hK => ?_) ?_
                · go_simp
                  refine hK.out _ _ hHeld (fun hHeld => ?_)
                  clear hK K
                  (try simp only [Act.put, List.setIfInBounds_toArray, List.set_cons_zero, List.set_cons_succ, List.getElem_toArray, List.getElem_cons_succ, List.getElem_cons_zero])
                  refine wpAnyH_done (by kernel_rfl) ?_ _
                  go_wp2_with (fail)
                  go_meet
                  exact ⟨gnq18, Tq6, Aq19, cq19, rfl, rfl, HLP.out, HUFq6.out, HOO.out, HGE.out, HBL.out⟩
                exact AllReadyH.nil
              exact AllReadyH.nil
            exact AllReadyH.nil
          exact AllReadyH.nil
        refine AllReadyH.cons rfl (fun K hK => ?_) ?_
        · have FBP := FB_q2
          go_simp
          obtain ⟨wq24, hwq24⟩ : ∃ w', w' = wq1.alloc (.cells #[Value.int .i64 0, Value.int .i64 0, Value.int .i64 0, Value.int .i64 0, Value.int .i64 0, Value.int .i64 0, Value.int .i64 0, Value.int .i64 0, Value.int .i64 0, Value.int .i64 0, Value.int .i64 0, Value.int .i64 0, Value.int .i64 0, Value.int .i64 0, Value.int .i64 0, Value.int .i64 0, Value.int .i64 0, Value.int .i64 0, Value.int .i64 0, Value.int .i64 0, Value.int .i64 0, Value.int .i64 0, Value.int .i64 0, Value.int .i64 0, Value.int .i64 0, Value.int .i64 0, Value.int .i64 0, Value.int .i64 0, Value.int .i64 0, Value.int .i64 0, Value.int .i64 0, Value.int .i64 0, Value.int .i64 0, Value.int .i64 0, Value.int .i64 0, Value.int .i64 0, Value.int .i64 0, Value.int .i64 0, Value.int .i64 0, Value.int .i64 0, Value.int .i64 0, Value.int .i64 0, Value.int .i64 0, Value.int .i64 0, Value.int .i64 0, Value.int .i64 0, Value.int .i64 0, Value.int .i64 0, Value.int .i64 0] 74) := ⟨_, rfl⟩
          rw [← hwq24]
          have bq24 : Below wq1.heap.size wq1 wq24 := by rw [hwq24]; exact (Below.refl _ _).alloc (Nat.le_refl _) _
          have gq24 : wq24.heap[wq1.heap.size]? = some (.cells #[Value.int .i64 0, Value.int .i64 0, Value.int .i64 0, Value.int .i64 0, Value.int .i64 0, Value.int .i64 0, Value.int .i64 0, Value.int .i64 0, Value.int .i64 0, Value.int .i64 0, Value.int .i64 0, Value.int .i64 0, Value.int .i64 0, Value.int .i64 0, Value.int .i64 0, Value.int .i64 0, Value.int .i64 0, Value.int .i64 0, Value.int .i64 0, Value.int .i64 0, Value.int .i64 0, Value.int .i64 0, Value.int .i64 0, Value.int .i64 0, Value.int .i64 0, Value.int .i64 0, Value.int .i64 0, Value.int .i64 0, Value.int .i64 0, Value.int .i64 0, Value.int .i64 0, Value.int .i64 0, Value.int .i64 0, Value.int .i64 0, Value.int .i64 0, Value.int .i64 0, Value.int .i64 0, Value.int .i64 0, Value.int .i64 0, Value.int .i64 0, Value.int .i64 0, Value.int .i64 0, Value.int .i64 0, Value.int .i64 0, Value.int .i64 0, Value.int .i64 0, Value.int .i64 0, Value.int .i64 0, Value.int .i64 0] 74 (0, 0)) := by rw [hwq24]; exact heap_alloc_new _ _
          clear hwq24
          have FB_q25 := Lib.hid ((FB_q2.out).trans ((bq24).mono (FB_q2.out).size))
          clear FB_q2
          obtain ⟨gnq26, hgq26⟩ : ∃ b, wq1.heap.size = b := ⟨_, rfl⟩
          have HGE : Hid (u2.heap.size ≤ gnq26) := Lib.hid (by rw [← hgq26]; exact FBP.out.size)
          have FN_q26 := Lib.hid gq24
          rw [hgq26] at FN_q26 ⊢
          clear hgq26 gq24 bq24
          clear FBP
          refine hK.out _ _ (HSX.out _ FB_q25.out) (fun hHeld => ?_)
          clear hK K
          (try simp only [Act.put, List.setIfInBounds_toArray, List.set_cons_zero, List.set_cons_succ, List.getElem_toArray, List.getElem_cons_succ, List.getElem_cons_zero])
          refine wpAnyH_ready (rs := [2]) (by kernel_rfl) (by simp) ?_
          refine AllReadyH.cons rfl (fun K hK => ?_) ?_
          · go_simp
            refine (HPW.out wq24 FB_q25.out).mono ?_
            rintro e wq27 ⟨Tq27, rfl, Uq27, belq27⟩
            dsimp only
            have FB_q28 := Lib.hid ((FB_q25.out).trans ((belq27).mono (FB_q25.out).size))
            have FN_q29 := Lib.hid (((belq27).block _ (Array.getElem?_eq_some_iff.1 (FN_q26.out)).1).trans (FN_q26.out))
            clear FB_q25 FN_q26
            obtain ⟨Vq27, hVq27⟩ : ∃ V, npA Tq27 (cntQ (gpX N r)) = V := ⟨_, rfl⟩
            have HSZq27 := Lib.hid (npA_size (c := cntQ (gpX N r)) Uq27.len); have HONq27 := Lib.hid (one_np Tq27 (cntQ (gpX N r))); have HVEq27 := Lib.hid hVq27; have HUFq27 := Lib.hid Uq27
            rw [hVq27] at HSZq27 HONq27 ⊢
            clear hVq27 Uq27 belq27
            refine hK.out _ _ (HSX.out _ FB_q28.out) (fun hHeld => ?_)
            clear hK K
            (try simp only [Act.put, List.setIfInBounds_toArray, List.set_cons_zero, List.set_cons_succ, List.getElem_toArray, List.getElem_cons_succ, List.getElem_cons_zero])
            refine wpAnyH_ready (rs := [4]) (by kernel_rfl) (by simp) ?_
            refine AllReadyH.cons rfl (fun K hK => ?_) ?_
            · have FBO : Hid (u2.heap.size ≤ wq27.heap.size) := Lib.hid FB_q28.out.size
              go_simp
              have hgl : gnq26 < wq27.heap.size := (Array.getElem?_eq_some_iff.1 FN_q29.out).1
              refine (HLO.out wq27 FB_q28.out).mono ?_
              rintro e wq30 ⟨Aq30, cq30, rfl, ownq30, belq30⟩
              dsimp only
              have FB_q31 := Lib.hid ((FB_q28.out).trans ((belq30).mono (FB_q28.out).size))
              have FN_q32 := Lib.hid (((belq30).block _ (Array.getElem?_eq_some_iff.1 (FN_q29.out)).1).trans (FN_q29.out))
              clear FB_q28 FN_q29
              rw [HWO.out] at ownq30 ⊢
              have HNE : Hid (∀ q, (Value.slice Aq30 N.w.length cq30).ownBlock = some q → q ≠ gnq26) := Lib.hid fun q e e2 => by have := (ownq30.lt q e).1; omega
              have FO_q33 := Lib.hid ownq30
              clear ownq30 belq30
              refine hK.out _ _ (HSX.out _ FB_q31.out) (fun hHeld => ?_)
              clear hK K
              (try simp only [Act.put, List.setIfInBounds_toArray, List.set_cons_zero, List.set_cons_succ, List.getElem_toArray, List.getElem_cons_succ, List.getElem_cons_zero])
              refine wpAnyH_ready (rs := [6]) (by kernel_rfl) (by simp) ?_
              refine AllReadyH.cons rfl (fun K hK => ?_) ?_
              · refine step_store_row rfl _ _ _ rfl gnq26 Vq27 rfl rfl _ _ FN_q32.out (by rw [HSZq27.out]; exact size_np) (by rw [HSZq27.out]; rfl) HONq27.out ?_
                have HLP : Hid (LpB (wq30.setRow gnq26 Vq27) gnq26 Tq27 (cntQ (gpX N r))) := Lib.hid (by have := setRow_heap _ gnq26 _ Vq27 _ _ FN_q32.out; unfold LpB; rw [HVEq27.out]; exact this)
                have HBL : Hid (Below u2.heap.size u2 (wq30.setRow gnq26 Vq27)) := Lib.hid (below_setRow FB_q31.out HGE.out _)
                have HOO : Hid ((wq30.setRow gnq26 Vq27).ownsRow u2.heap.size 2 1 (.slice Aq30 N.w.length cq30) N.w.length ((lxL outL N).map (Value.int .i64))) := Lib.hid ((own_same FO_q33.out fun q e => setRow_other _ _ _ _ (HNE.out q e)).mono (by have := FBO.out; omega))
                generalize wq30.setRow gnq26 Vq27 = wq34 at *
                refine hK.out _ _ (HSX.out _ HBL.out) (fun hHeld => ?_)
                clear hK K
                (try simp only [Act.put, List.setIfInBounds_toArray, List.set_cons_zero, List.set_cons_succ, List.getElem_toArray, List.getElem_cons_succ, List.getElem_cons_zero])
                refine wpAnyH_ready (rs := [7]) (by kernel_rfl) (by simp) ?_
                refine AllReadyH.cons rfl (fun K hK => ?_) ?_
                · go_simp
                  refine hK.out _ _ hHeld (fun hHeld => ?_)
                  clear hK K
                  (try simp only [Act.put, List.setIfInBounds_toArray, List.set_cons_zero, List.set_cons_succ, List.getElem_toArray, List.getElem_cons_succ, List.getElem_cons_zero])
                  refine wpAnyH_done (by kernel_rfl) ?_ _
                  go_wp2_with (fail)
                  go_meet
                  exact ⟨gnq26, Tq27, Aq30, cq30, rfl, rfl, HLP.out, HUFq27.out, HOO.out, HGE.out, HBL.out⟩
                exact AllReadyH.nil
              exact AllReadyH.nil
            exact AllReadyH.nil
          exact AllReadyH.nil
        exact AllReadyH.nil
      case rest =>
      obtain ⟨g, T, A9, c9, rfl, rfl, hP, hU, hO, hge, hBc⟩ := hcut
      obtain ⟨hia, hib⟩ := HGAA.out
      obtain ⟨ha0, ha1, ha2⟩ := inW_yes hia
      obtain ⟨hb0, hb1, hb2⟩ := inW_yes hib
      obtain ⟨fa1, fa2⟩ := fr_lt HVV.out hia
      obtain ⟨fb1, fb2⟩ := fr_lt HVV.out hib
      obtain ⟨bP, oP, hPe, hpb, hpc⟩ := (RdI.of_own hO).2 (by omega)
      have pa := hpc la.toNat ha1
      have pb := hpc lb.toNat hb1
      rw [lxL_at outL N ha1, ← ha2, fa1] at pa
      rw [lxL_at outL N hb1, ← hb2, fb1] at pb
      obtain ⟨z1, z2⟩ := HZK.out wc hBc
      have HPA := Lib.hid (fun n => quiet_sm (partOfQ_any g T _ (gpX N r) (frN N la) (wc.drewN n) (hP.drew n) hU (by omega)))
      have HPB := Lib.hid (fun n => quiet_sm (partOfQ_any g T _ (gpX N r) (frN N lb) (wc.drewN n) (hP.drew n) hU (by omega)))
      rw [HG1.out] at HPA
      rw [HG2.out] at HPB
      have HLP := Lib.hid hP; have HUF := Lib.hid hU; have HBC := Lib.hid hBc
      have hai : la < (N.w.length : Int) := by omega
      have hbi : lb < (N.w.length : Int) := by omega
      have HTP2 := Lib.hid (fun e => HTPP.out e hU.rep)
      clear hia hib fa1 fb1 hpc hO hP hU hBc HGAA HG1 HG2 HPW HLO HWO HSX HZK fa2 fb2
      generalize frN N la = ka at *
      generalize frN N lb = kb at *
      generalize la.toNat = ia at *
      generalize lb.toNat = ib at *
      subst ha2; subst hb2; subst hPe
      go_upto_region 5 with (fail)
      go_quiet (first | (go_at_call 73; first | with_reducible exact HPA.out _ | with_reducible exact HPB.out _))
      have HLD := Lib.hid (HLP.out.drew nq)
      have HBD := Lib.hid (below_drewN HBC.out nq)
      clear pa pb z1 z2 HPA HPB
      generalize wc.drewN nq = wd at *
      have x48 := HLD.out.cnt HUF.out.len
      by_cases hab : gaX N r = gbX N r
      · have d1 : (gaX N r == gbX N r) = true := by simp [hab]
        have HG : Hid (GivesSp w N r (.returned (.tuple #[.slice none 0 0, .slice none 0 0, .bool false])) wd) := Lib.hid (givesSp_no (by rw [HSBB.out, decide_eq_true hab]; rfl) (HB2.out.trans (HBD.out.mono HB2.out.size)))
        clear hab
        generalize gaX N r = ga at *
        generalize gbX N r = gb at *
        go_wp2
        refine bodyPost_ret (results_tmp3 rfl _ _ _) rfl ?_
        exact HG.out
      · have d1 : (gaX N r == gbX N r) = false := by simpa using hab
        have HAB := Lib.hid hab
        have HTT := Lib.hid (HTP2.out hab)
        have HSC : Hid (spB N r = decide (cntQ (gpX N r) = 2)) := Lib.hid (by rw [HSBB.out, HTT.out, decide_eq_false hab]; rfl)
        by_cases hc2 : cntQ (gpX N r) = 2
        · have HSY : Hid (spB N r = true) := Lib.hid (by rw [HSC.out, decide_eq_true hc2])
          rw [hc2] at x48
          have d2 : ((2 : Int) != 2) = false := by decide
          have HPK := Lib.hid (fun (wx : World) (hx : Below wd.heap.size wd wx) (k : Nat) (hk : k < 48) => partOfQ_any g T _ (gpX N r) k wx (HLD.out.below hx) HUF.out hk)
          obtain ⟨y0, y1, y2⟩ := three_cells (HKB.out wd (HBL.out.trans (HBD.out.mono HBL.out.size)))
          have HYX : Hid ((∀ k, k1X N r k = decide (gpX N r k = gaX N r)) ∧ (∀ k, k2X N r k = decide (gpX N r k = gbX N r))) := Lib.hid ⟨fun _ => rfl, fun _ => rfl⟩
          clear hab hc2 HTT HSC HTP2 HSBB HLP
          have S0 := Lib.hid (TwR.start wd)
          generalize hga : gaX N r = ga at *
          generalize hgb : gbX N r = gb at *
          clear hga hgb
          go_wp2_with (fail)
          clear x48 y0 y1 y2
          go_loopw [4, 5, 57] (fun v1 v2 i wx => ∃ k : Nat, k ≤ N.l.length ∧ i = .int .i64 k ∧ TwR wd wx v1 v2 (selU (k1X N r) k) (selU (k2X N r) k)) (fun _ _ i _ => N.l.length - (intOf i).toNat)
          case atStart => exact ⟨0, Nat.zero_le _, rfl, S0.out⟩
          case round =>
            obtain ⟨k, hk, rfl, hS⟩ := hrel
            by_cases hlt : k < N.l.length
            · have HC := Lib.hid (HPK.out _ hS.bel k (by omega))
              have HS := Lib.hid hS
              have hn1 := selU_len (k1X N r) k
              have hn2 := selU_len (k2X N r) k
              have HK1 := HYX.out.1 k
              have HK2 := HYX.out.2 k
              have HE := Lib.hid (And.intro (fun e => selU_yes (p := k1X N r) (k := k) e) (fun e => selU_no (p := k1X N r) (k := k) e))
              have HF := Lib.hid (And.intro (fun e => selU_yes (p := k2X N r) (k := k) e) (fun e => selU_no (p := k2X N r) (k := k) e))
              have hnab := HAB.out
              obtain ⟨A1, c1, rfl⟩ := own_shapeP hS.o1
              obtain ⟨A2, c2, rfl⟩ := own_shapeP hS.o2
              have hsz7 := hS.bel.size
              clear hS
              generalize gpX N r k = q at *
              by_cases hqa : q = ga
              · have d3 : (q == ga) = true := by simp [hqa]
                have HX1 := Lib.hid (HE.out.1 (by rw [HK1]; exact decide_eq_true hqa))
                have HX2 := Lib.hid (HF.out.2 (by rw [HK2]; exact decide_eq_false (fun e => hnab (hqa.symm.trans e))))
                clear hqa HK1 HK2 hnab HE HF
                go_wp2_with (fail)
                refine HC.out.mono ?_
                rintro e wq ⟨rfl, rfl⟩
                go_wp2_with (at_builtin; refine wpList_append_own_at _ rfl _ _ 24 rfl wd.heap.size 2 i0 (.int .i64 0) 1 8 Tryd.underlying24 HI.out HZ0.out HZ1.out HZ2.out rfl (by decide) _ _ _ rfl (HS.out.o1.alloc _) ⟨wr.heap.size, 0, none⟩ 1 1 [.int .i64 k] rfl rfl ?c1 ?c2 ?c3 ?c4 ?c5 ?_)
                case c1 => exact cell_one_new _ _ _
                case c2 => intro u hu; simp at hu; subst hu; rfl
                case c3 => unfold maxLen; omega
                case c4 => omega
                case c5 => simp; omega
                intro v7 w7 hown7 hgrow7 _ hat7
                have HS2 := Lib.hid (HS.out.push1 hown7 hgrow7 (by rw [World.size_alloc]; exact hat7))
                clear hown7 hgrow7 hat7
                go_wp2
                go_roundw
                case rel => exact ⟨k + 1, by omega, by go_num, by rw [HX1.out, HX2.out]; exact HS2.out⟩
                case measure => simp [intOf]; omega
              · have d3 : (q == ga) = false := by simpa using hqa
                have HX1 := Lib.hid (HE.out.2 (by rw [HK1]; exact decide_eq_false hqa))
                by_cases hqb : q = gb
                · have d4 : (q == gb) = true := by simp [hqb]
                  have HX2 := Lib.hid (HF.out.1 (by rw [HK2]; exact decide_eq_true hqb))
                  clear hqa hqb HK1 HK2 hnab HE HF
                  go_wp2_with (fail)
                  refine HC.out.mono ?_
                  rintro e wq ⟨rfl, rfl⟩
                  go_wp2_with (at_builtin; refine wpList_append_own_at _ rfl _ _ 24 rfl wd.heap.size 2 i0 (.int .i64 0) 1 8 Tryd.underlying24 HI.out HZ0.out HZ1.out HZ2.out rfl (by decide) _ _ _ rfl (HS.out.o2.alloc _) ⟨wr.heap.size, 0, none⟩ 1 1 [.int .i64 k] rfl rfl ?c1 ?c2 ?c3 ?c4 ?c5 ?_)
                  case c1 => exact cell_one_new _ _ _
                  case c2 => intro u hu; simp at hu; subst hu; rfl
                  case c3 => unfold maxLen; omega
                  case c4 => omega
                  case c5 => simp; omega
                  intro v7 w7 hown7 hgrow7 _ hat7
                  have HS2 := Lib.hid (HS.out.push2 hown7 hgrow7 (by rw [World.size_alloc]; exact hat7))
                  clear hown7 hgrow7 hat7
                  go_wp2
                  go_roundw
                  case rel => exact ⟨k + 1, by omega, by go_num, by rw [HX1.out, HX2.out]; exact HS2.out⟩
                  case measure => simp [intOf]; omega
                · have d4 : (q == gb) = false := by simpa using hqb
                  have HX2 := Lib.hid (HF.out.2 (by rw [HK2]; exact decide_eq_false hqb))
                  clear hqa hqb HK1 HK2 hnab HE HF
                  go_wp2_with (fail)
                  refine HC.out.mono ?_
                  rintro e wq ⟨rfl, rfl⟩
                  have HS2 := HS
                  go_wp2
                  go_roundw
                  case rel => exact ⟨k + 1, by omega, by go_num, by rw [HX1.out, HX2.out]; exact HS2.out⟩
                  case measure => simp [intOf]; omega
            · have hkl : k = N.l.length := by omega
              subst hkl
              obtain ⟨A1, c1, rfl⟩ := own_shapeP hS.o1
              obtain ⟨A2, c2, rfl⟩ := own_shapeP hS.o2
              have hW := HB2.out.trans (HBD.out.mono HB2.out.size)
              have HG : Hid (GivesSp w N r (.returned (.tuple #[.slice A1 (selU (k1X N r) N.l.length).length c1, .slice A2 (selU (k2X N r) N.l.length).length c2, .bool true])) wr) := Lib.hid (by
                unfold GivesSp l1V l2V
                rw [if_pos HSY.out, if_pos HSY.out, HSY.out]
                exact ⟨A1, c1, A2, c2, rfl, hS.o1.mono hW.size, hS.o2.mono hW.size, hW.trans (hS.bel.mono hW.size)⟩)
              clear hS hW
              generalize (selU (k1X N r) N.l.length).length = q1 at *
              generalize (selU (k2X N r) N.l.length).length = q2 at *
              go_wp2
              refine bodyPost_ret (results_tmp3 rfl _ _ _) rfl ?_
              exact HG.out
        · have HG : Hid (GivesSp w N r (.returned (.tuple #[.slice none 0 0, .slice none 0 0, .bool false])) wd) := Lib.hid (givesSp_no (by rw [HSC.out, decide_eq_false hc2]) (HB2.out.trans (HBD.out.mono HB2.out.size)))
          have d2 : (cntQ (gpX N r) != 2) = true := by simpa using hc2
          clear hab hc2 HTT HSC HTP2 HSBB HLP
          generalize gaX N r = ga at *
          generalize gbX N r = gb at *
          generalize cntQ (gpX N r) = cq at *
          go_wp2
          refine bodyPost_ret (results_tmp3 rfl _ _ _) rfl ?_
          exact HG.out
  · have HG : Hid (GivesSp w N r (.returned (.tuple #[.slice none 0 0, .slice none 0 0, .bool false])) u2) := Lib.hid (givesSp_no (HNO.out hkk) HB2.out)
    have d1 : (lk != 3) = true := by simp; omega
    have d2 : (lk != 2) = true := by simp; omega
    clear hkk
    go_enter Tryd.func45, Tryd.ntmps45
    go_upto_region 1 with (fail)
    rw [← hw0]
    clear hw0
    go_upto_region 2 with (fail)
    rw [← HU2.out]
    clear hu2 y0 y1 y2 l0 l1 l2 l3
    go_wp2
    refine bodyPost_ret (results_tmp3 rfl _ _ _) rfl ?_
    exact HG.out
end Go.Proofs.YtgpocnapkflihaaDoor
