/- The model's LeafWires: the leaves of the trees above the conclusions. Made by mklws.py. -/
import Derived.Test.YtfanapddopafiaaDoorLwM
import Derived.Test.YtfanapddopafiaaDoorQNetK
import Derived.Deep.AppendLies
import Derived.Deep.RegionHeldLaw
import Derived.Deep.DeepCutAuto
namespace Go.Proofs.YtfanapddopafiaaDoor
set_option linter.unusedSimpArgs false
set_option linter.unusedVariables false
open Go.ChangeAt Go.ChangeShapes Go.RowKit Go.WideShapes

/-- What a function leaves that writes behind a list: the longer list, in the list's own block or in a new one. -/
def GrowsL (w : World) (lo : Nat) (o : Option Nat) (xs : List Int) (e : Ending) (w' : World) : Prop :=
  ∃ g cap, e = .returned (.slice (some ⟨g, 0, none⟩) xs.length cap) ∧ w'.ownsRow lo 2 1 (.slice (some ⟨g, 0, none⟩) xs.length cap) xs.length (xs.map (Value.int .i64)) ∧ (o = some g ∨ w.heap.size ≤ g) ∧ w.grownBy w' o
theorem grown_trans {a b c : World} {r : Option Nat} (h : a.grownBy b r) (h' : b.grownBy c r) : a.grownBy c r :=
  ⟨h'.os.trans h.os, h'.tape.trans h.tape, h'.output.trans h.output, Nat.le_trans h.size h'.size, fun k hk hr => (h'.block k (Nat.lt_of_lt_of_le hk h.size) hr).trans (h.block k hk hr)⟩
theorem grown_via {w0 w w' : World} {o : Option Nat} {g : Nat} (h : w0.grownBy w o) (h' : w.grownBy w' (some g)) (hg : o = some g ∨ w0.heap.size ≤ g) : w0.grownBy w' o :=
  ⟨h'.os.trans h.os, h'.tape.trans h.tape, h'.output.trans h.output, Nat.le_trans h.size h'.size, fun k hk hr => (h'.block k (Nat.lt_of_lt_of_le hk h.size) (fun e => by
    injection e with e
    rcases hg with e2 | e2
    · exact hr (by rw [e2, e])
    · omega)).trans (h.block k hk hr)⟩
theorem grown_below {w w' : World} (h : Below w.heap.size w w') (o : Option Nat) : w.grownBy w' o := ⟨h.os, h.tape, h.output, h.size, fun k hk _ => h.block k hk⟩
theorem grown_refl (w : World) (o : Option Nat) : w.grownBy w o := grown_below (Below.refl _ _) o
theorem growsL_mk {w w' : World} {lo g cap n : Nat} {o : Option Nat} {xs ys : List Int} (hn : n = ys.length) (hx : ys = xs) (h : w'.ownsRow lo 2 1 (.slice (some ⟨g, 0, none⟩) n cap) n (ys.map (Value.int .i64))) (hg : o = some g ∨ w.heap.size ≤ g) (hb : w.grownBy w' o) : GrowsL w lo o xs (.returned (.slice (some ⟨g, 0, none⟩) n cap)) w' := by
  subst hx; subst hn
  exact ⟨g, cap, rfl, h, hg, hb⟩

set_option maxRecDepth 100000 in
set_option maxHeartbeats 600000 in
theorem sLeaf_step (N : Nt) (hv : valN N = true) (x : Int) (h : NH) (lo : Nat) (w : World) (v : Value) (L : List Int) (hx : inW N.w.length x = true) (r : RdN w lo h N) (hlo : lo ≤ w.heap.size) (own : w.ownsRow lo 2 1 v L.length (L.map (Value.int .i64))) (hL : L.length + wlen N x ≤ 4096)
    (IH : ∀ y, inW N.w.length y = true → wlen N y < wlen N x → ∀ (w : World) (v : Value) (L : List Int), RdN w lo h N → lo ≤ w.heap.size → w.ownsRow lo 2 1 v L.length (L.map (Value.int .i64)) → L.length + wlen N y ≤ 4096 → Calls Tryd.prog 35 #[.agg #[.slice h.A N.w.length h.c, .slice h.L N.l.length h.d, .slice h.C N.c.length h.e], v, .int .i64 y] w (GrowsL w lo v.ownBlock (L ++ lvT N y))) :
    Calls Tryd.prog 35 #[.agg #[.slice h.A N.w.length h.c, .slice h.L N.l.length h.d, .slice h.C N.c.length h.e], v, .int .i64 x] w (GrowsL w lo v.ownBlock (L ++ lvT N x)) := by
  obtain ⟨i0, hi0, hz0, hz1, hz2⟩ := info_parts info_i64
  have HI := Lib.hid hi0; have HZ0 := Lib.hid hz0; have HZ1 := Lib.hid hz1; have HZ2 := Lib.hid hz2
  obtain ⟨k, hk⟩ := src_some hv hx
  obtain ⟨hkl, hsb⟩ := src_find hk
  have hfit := link_fits hv hkl
  have h48 := (valN_size hv).2
  have hfk : firstN (srcB x) N.l = (k : Int) := by unfold firstN; rw [hk]
  obtain ⟨w0, hw0⟩ : ∃ w0, w0 = w.alloc (.cells #[.slice h.A N.w.length h.c, .slice h.L N.l.length h.d, .slice h.C N.c.length h.e] 31) := ⟨_, rfl⟩
  obtain ⟨hb, hh, hsz⟩ := box3_any w (.slice h.A N.w.length h.c) (.slice h.L N.l.length h.d) (.slice h.C N.c.length h.e) 31
  rw [← hw0] at hb hh hsz
  have hs0 : w.heap.size + 1 ≤ w0.heap.size := by omega
  have HK := Lib.hid (fun (wx : World) (hx : Below w0.heap.size w0 wx) => three_cells ((hx.block w.heap.size (by omega)).trans hh))
  have HRL := Lib.hid (fun (wx : World) (hx : Below w0.heap.size w0 wx) => show RdN wx lo h N from (r.below (hb.mono hlo)).below (hx.mono (by omega)))
  have HB0 := Lib.hid hb
  have HF := Lib.hid (fun (wx : World) (hx : Below w0.heap.size w0 wx) => sFrom_any h.A h.L h.C N.w.length h.c h.d N.c.length h.e N.l x wx (((HRL.out wx hx).more (Nat.le_trans (by omega) hx.size)).2.1) (by omega))
  rw [hfk] at HF
  obtain ⟨y0, y1, y2⟩ := HK.out _ (Below.refl _ w0)
  have hLE := lvT_len hv _ x (Nat.le_refl _) hx
  have HNODE := Lib.hid (fun hq => lvT_node hv hk hq)
  have HLEAF := Lib.hid (fun hq => lvT_leaf (N := N) hk hq)
  have HLESS := Lib.hid (fun hq => src_less hfit hsb (src_kind hfit hsb hq))
  have HLN := Lib.hid (fun y (hy : inW N.w.length y = true) => lvT_len hv _ y (Nat.le_refl _) hy)
  have HIN := Lib.hid (And.intro (fitsN_yes hfit).1 (fitsN_yes hfit).2.1)
  have HIH := Lib.hid IH
  have HO := Lib.hid own
  have HOB := Lib.hid own.lt
  have HX1 := Lib.hid (wlen_some hv hx).1
  obtain ⟨⟨lk, la, lb, lc⟩, hl⟩ : ∃ l, N.l.getD k Lk.nil = l := ⟨_, rfl⟩
  rw [hl] at HNODE HLEAF HLESS HIN
  have HLG := Lib.hid hl
  dsimp only at HNODE HLEAF HLESS HIN
  clear hb hh hsz r IH hfk hk hfit hl hsb hi0 hz0 hz1 hz2 own
  go_enter Tryd.func35, Tryd.ntmps35
  go_upto_region 1 with (fail)
  rw [← hw0]
  clear hw0 y0 y1 y2
  go_cut [7] (fun p wx => ∃ g, p = .pointer (some ⟨g, 0, none⟩) ∧ w0.heap.size ≤ g ∧ wx.heap[g]? = some (.cells #[.int .i64 lk, .int .i64 la, .int .i64 lb, .int .i64 lc] 71 (0, 0)) ∧ Below w0.heap.size w0 wx)
  case first =>
    obtain ⟨b, off, hLL, hbb, _⟩ := (HRL.out _ (Below.refl _ _)).2.1.at (show 0 < N.l.length by omega)
    have HLL := Lib.hid hLL
    rw [hLL] at HF
    have hki : (k : Int) < (N.l.length : Int) := by omega
    have HSX : Hid (∀ wx : World, Below w0.heap.size w0 wx → wx.cell? ⟨w.heap.size, 0, none⟩ = some (.slice h.A N.w.length h.c) ∧ wx.cell? ⟨w.heap.size, 1, none⟩ = some (.slice (some ⟨b, off, none⟩) N.l.length h.d) ∧ wx.cell? ⟨w.heap.size, 2, none⟩ = some (.slice h.C N.c.length h.e) ∧ wx.cell? ⟨b, off + k * 4, none⟩ = some (.int .i64 lk) ∧ wx.cell? ⟨b, off + k * 4 + 1, none⟩ = some (.int .i64 la) ∧ wx.cell? ⟨b, off + k * 4 + 2, none⟩ = some (.int .i64 lb) ∧ wx.cell? ⟨b, off + k * 4 + 3, none⟩ = some (.int .i64 lc)) := Lib.hid fun wx hx => by
      obtain ⟨n0, n1, n2⟩ := HK.out wx hx
      obtain ⟨b', off', hL', _, hcells⟩ := (HRL.out _ hx).2.1.at (show 0 < N.l.length by omega)
      rw [HLL.out] at n1 hL'
      injection hL' with hL'; injection hL' with e1 e2
      subst e1; subst e2
      have hcl := hcells k hkl
      rw [HLG.out] at hcl
      exact ⟨n0, n1, n2, hcl⟩
    clear hLL
    have FB_0 := Lib.hid (Below.refl w0.heap.size w0)
    refine wp_region_held_drew (S := fun wx => wx.cell? ⟨w.heap.size, 0, none⟩ = some (.slice h.A N.w.length h.c) ∧ wx.cell? ⟨w.heap.size, 1, none⟩ = some (.slice (some ⟨b, off, none⟩) N.l.length h.d) ∧ wx.cell? ⟨w.heap.size, 2, none⟩ = some (.slice h.C N.c.length h.e) ∧ wx.cell? ⟨b, off + k * 4, none⟩ = some (.int .i64 lk) ∧ wx.cell? ⟨b, off + k * 4 + 1, none⟩ = some (.int .i64 la) ∧ wx.cell? ⟨b, off + k * 4 + 2, none⟩ = some (.int .i64 lb) ∧ wx.cell? ⟨b, off + k * 4 + 3, none⟩ = some (.int .i64 lc)) (by kernel_rfl) (HSX.out _ (Below.refl _ _).drew) (fun hHeld => ?_)
    obtain ⟨wr1, hwr1⟩ : ∃ w', w' = w0.drew := ⟨_, rfl⟩
    rw [← hwr1] at hHeld ⊢
    have br1 : Below w0.heap.size w0 wr1 := by rw [hwr1]; exact (Below.refl _ _).drew
    clear hwr1
    have FB_r2 := Lib.hid ((FB_0.out).trans ((br1).mono (FB_0.out).size))
    clear FB_0
    refine wpAnyH_take (i := 0) (v := ?vr3) rfl (by kernel_rfl) (by kernel_rfl) (by kernel_rfl) (fun _ _ _ h => h) (Or.inl ⟨by rfl, ?yr3⟩) (by assumption) ?_
    case yr3 => (intro w hSw; (try dsimp only at hSw); go_simp; all_goals (with_reducible rfl))
    (try simp only [Act.put, List.setIfInBounds_toArray, List.set_cons_zero, List.set_cons_succ, List.getElem_toArray, List.getElem_cons_succ, List.getElem_cons_zero])
    refine wpAnyH_take (i := 2) (v := ?vr4) rfl (by kernel_rfl) (by kernel_rfl) (by kernel_rfl) (fun _ _ _ h => h) (Or.inl ⟨by rfl, ?yr4⟩) (by assumption) ?_
    case yr4 => (intro w hSw; (try dsimp only at hSw); go_simp; all_goals (with_reducible rfl))
    (try simp only [Act.put, List.setIfInBounds_toArray, List.set_cons_zero, List.set_cons_succ, List.getElem_toArray, List.getElem_cons_succ, List.getElem_cons_zero])
    refine wpAnyH_take (i := 3) (v := ?vr5) rfl (by kernel_rfl) (by kernel_rfl) (by kernel_rfl) (fun _ _ _ h => h) (Or.inl ⟨by rfl, ?yr5⟩) (by assumption) ?_
    case yr5 => (intro w hSw; (try dsimp only at hSw); go_simp; all_goals (with_reducible rfl))
    (try simp only [Act.put, List.setIfInBounds_toArray, List.set_cons_zero, List.set_cons_succ, List.getElem_toArray, List.getElem_cons_succ, List.getElem_cons_zero])
    refine wpAnyH_take (i := 1) (v := ?vr6) rfl (by kernel_rfl) (by kernel_rfl) (by kernel_rfl) (fun _ _ _ h => h) (Or.inl ⟨by rfl, ?yr6⟩) (by assumption) ?_
    case yr6 => (intro w hSw; (try dsimp only at hSw); go_simp; all_goals (with_reducible rfl))
    (try simp only [Act.put, List.setIfInBounds_toArray, List.set_cons_zero, List.set_cons_succ, List.getElem_toArray, List.getElem_cons_succ, List.getElem_cons_zero])
    refine wpAnyH_ready (rs := [4, 7]) (by kernel_rfl) (by simp) ?_
    refine AllReadyH.cons rfl (fun K hK => ?_) ?_
    · go_simp
      refine (HF.out wr1 FB_r2.out).mono ?_
      rintro e wr7 ⟨rfl, belr7⟩
      dsimp only
      have FB_r8 := Lib.hid ((FB_r2.out).trans ((belr7).mono (FB_r2.out).size))
      clear FB_r2
      clear belr7
      refine hK.out _ _ (HSX.out _ FB_r8.out) (fun hHeld => ?_)
      clear hK K
      (try simp only [Act.put, List.setIfInBounds_toArray, List.set_cons_zero, List.set_cons_succ, List.getElem_toArray, List.getElem_cons_succ, List.getElem_cons_zero])
      refine wpAnyH_take (i := 5) (v := ?vr9) rfl (by kernel_rfl) (by kernel_rfl) (by kernel_rfl) (fun _ _ _ h => h) (Or.inl ⟨by rfl, ?yr9⟩) (by assumption) ?_
      case yr9 => (intro w hSw; (try dsimp only at hSw); go_simp; all_goals (with_reducible rfl))
      (try simp only [Act.put, List.setIfInBounds_toArray, List.set_cons_zero, List.set_cons_succ, List.getElem_toArray, List.getElem_cons_succ, List.getElem_cons_zero])
      refine wpAnyH_take (i := 6) (v := ?vr10) rfl (by kernel_rfl) (by kernel_rfl) (by kernel_rfl) (fun _ _ _ h => h) (Or.inl ⟨by rfl, ?yr10⟩) (by assumption) ?_
      case yr10 => (intro w hSw; (try dsimp only at hSw); go_simp; all_goals (with_reducible rfl))
      (try simp only [Act.put, List.setIfInBounds_toArray, List.set_cons_zero, List.set_cons_succ, List.getElem_toArray, List.getElem_cons_succ, List.getElem_cons_zero])
      refine wpAnyH_ready (rs := [7]) (by kernel_rfl) (by simp) ?_
      refine AllReadyH.cons rfl (fun K hK => ?_) ?_
      · have GE := FB_r8.out.size
        go_simp
        obtain ⟨wr11, hwr11⟩ : ∃ w', w' = wr7.alloc (.cells #[.int .i64 0, .int .i64 0, .int .i64 0, .int .i64 0] 71) := ⟨_, rfl⟩
        rw [← hwr11]
        have br11 : Below wr7.heap.size wr7 wr11 := by rw [hwr11]; exact (Below.refl _ _).alloc (Nat.le_refl _) _
        have gr11 : wr11.heap[wr7.heap.size]? = some (.cells #[.int .i64 0, .int .i64 0, .int .i64 0, .int .i64 0] 71 (0, 0)) := by rw [hwr11]; exact heap_alloc_new _ _
        clear hwr11
        have FB_r12 := Lib.hid ((FB_r8.out).trans ((br11).mono (FB_r8.out).size))
        clear FB_r8
        obtain ⟨gar13, hgr13⟩ : ∃ b, wr7.heap.size = b := ⟨_, rfl⟩
        have GE_gar13 := Lib.hid (show w0.heap.size ≤ gar13 by omega)
        have GB_r13 := Lib.hid gr11
        rw [hgr13] at GB_r13 ⊢
        clear hgr13 gr11 br11
        clear GE
        refine hK.out _ _ (HSX.out _ FB_r12.out) (fun hHeld => ?_)
        clear hK K
        (try simp only [Act.put, List.setIfInBounds_toArray, List.set_cons_zero, List.set_cons_succ, List.getElem_toArray, List.getElem_cons_succ, List.getElem_cons_zero])
        refine wpAnyH_ready (rs := [8]) (by kernel_rfl) (by simp) ?_
        refine AllReadyH.cons rfl (fun K hK => ?_) ?_
        · have e0 := cell_of_row _ _ 0 _ _ (0, 0) GB_r13.out; have e1 := cell_of_row _ _ 1 _ _ (0, 0) GB_r13.out; have e2 := cell_of_row _ _ 2 _ _ (0, 0) GB_r13.out; have e3 := cell_of_row _ _ 3 _ _ (0, 0) GB_r13.out
          have f0 := frozen_of_row _ _ 0 _ _ GB_r13.out; have f1 := frozen_of_row _ _ 1 _ _ GB_r13.out; have f2 := frozen_of_row _ _ 2 _ _ GB_r13.out; have f3 := frozen_of_row _ _ 3 _ _ GB_r13.out
          have h9 := set4_at GB_r13.out (.int .i64 lk) (.int .i64 la) (.int .i64 lb) (.int .i64 lc)
          have b9 := set4_below FB_r12.out GE_gar13.out (.int .i64 lk) (.int .i64 la) (.int .i64 lb) (.int .i64 lc)
          have H9 := Lib.hid h9; have B9 := Lib.hid b9; have GE9 := GE_gar13
          clear h9 b9
          go_simp
          clear e0 e1 e2 e3 f0 f1 f2 f3
          refine hK.out _ _ (HSX.out _ B9.out) (fun hHeld => ?_)
          clear hK K
          (try simp only [Act.put, List.setIfInBounds_toArray, List.set_cons_zero, List.set_cons_succ, List.getElem_toArray, List.getElem_cons_succ, List.getElem_cons_zero])
          refine wpAnyH_done (by kernel_rfl) ?_ _
          go_wp2_with (fail)
          go_meet
          exact ⟨_, rfl, GE9.out, H9.out, B9.out⟩
        exact AllReadyH.nil
      exact AllReadyH.nil
    refine AllReadyH.cons rfl (fun K hK => ?_) ?_
    · have GE := FB_r2.out.size
      go_simp
      obtain ⟨wr15, hwr15⟩ : ∃ w', w' = wr1.alloc (.cells #[.int .i64 0, .int .i64 0, .int .i64 0, .int .i64 0] 71) := ⟨_, rfl⟩
      rw [← hwr15]
      have br15 : Below wr1.heap.size wr1 wr15 := by rw [hwr15]; exact (Below.refl _ _).alloc (Nat.le_refl _) _
      have gr15 : wr15.heap[wr1.heap.size]? = some (.cells #[.int .i64 0, .int .i64 0, .int .i64 0, .int .i64 0] 71 (0, 0)) := by rw [hwr15]; exact heap_alloc_new _ _
      clear hwr15
      have FB_r16 := Lib.hid ((FB_r2.out).trans ((br15).mono (FB_r2.out).size))
      clear FB_r2
      obtain ⟨gar17, hgr17⟩ : ∃ b, wr1.heap.size = b := ⟨_, rfl⟩
      have GE_gar17 := Lib.hid (show w0.heap.size ≤ gar17 by omega)
      have GB_r17 := Lib.hid gr15
      rw [hgr17] at GB_r17 ⊢
      clear hgr17 gr15 br15
      clear GE
      refine hK.out _ _ (HSX.out _ FB_r16.out) (fun hHeld => ?_)
      clear hK K
      (try simp only [Act.put, List.setIfInBounds_toArray, List.set_cons_zero, List.set_cons_succ, List.getElem_toArray, List.getElem_cons_succ, List.getElem_cons_zero])
      refine wpAnyH_ready (rs := [4]) (by kernel_rfl) (by simp) ?_
      refine AllReadyH.cons rfl (fun K hK => ?_) ?_
      · go_simp
        refine (HF.out wr15 FB_r16.out).mono ?_
        rintro e wr18 ⟨rfl, belr18⟩
        dsimp only
        have FB_r19 := Lib.hid ((FB_r16.out).trans ((belr18).mono (FB_r16.out).size))
        have GB_r20 := Lib.hid (((belr18).block _ (Array.getElem?_eq_some_iff.1 (GB_r17.out)).1).trans (GB_r17.out))
        clear FB_r16 GB_r17
        clear belr18
        refine hK.out _ _ (HSX.out _ FB_r19.out) (fun hHeld => ?_)
        clear hK K
        (try simp only [Act.put, List.setIfInBounds_toArray, List.set_cons_zero, List.set_cons_succ, List.getElem_toArray, List.getElem_cons_succ, List.getElem_cons_zero])
        refine wpAnyH_take (i := 5) (v := ?vr21) rfl (by kernel_rfl) (by kernel_rfl) (by kernel_rfl) (fun _ _ _ h => h) (Or.inl ⟨by rfl, ?yr21⟩) (by assumption) ?_
        case yr21 => (intro w hSw; (try dsimp only at hSw); go_simp; all_goals (with_reducible rfl))
        (try simp only [Act.put, List.setIfInBounds_toArray, List.set_cons_zero, List.set_cons_succ, List.getElem_toArray, List.getElem_cons_succ, List.getElem_cons_zero])
        refine wpAnyH_take (i := 6) (v := ?vr22) rfl (by kernel_rfl) (by kernel_rfl) (by kernel_rfl) (fun _ _ _ h => h) (Or.inl ⟨by rfl, ?yr22⟩) (by assumption) ?_
        case yr22 => (intro w hSw; (try dsimp only at hSw); go_simp; all_goals (with_reducible rfl))
        (try simp only [Act.put, List.setIfInBounds_toArray, List.set_cons_zero, List.set_cons_succ, List.getElem_toArray, List.getElem_cons_succ, List.getElem_cons_zero])
        refine wpAnyH_ready (rs := [8]) (by kernel_rfl) (by simp) ?_
        refine AllReadyH.cons rfl (fun K hK => ?_) ?_
        · have e0 := cell_of_row _ _ 0 _ _ (0, 0) GB_r20.out; have e1 := cell_of_row _ _ 1 _ _ (0, 0) GB_r20.out; have e2 := cell_of_row _ _ 2 _ _ (0, 0) GB_r20.out; have e3 := cell_of_row _ _ 3 _ _ (0, 0) GB_r20.out
          have f0 := frozen_of_row _ _ 0 _ _ GB_r20.out; have f1 := frozen_of_row _ _ 1 _ _ GB_r20.out; have f2 := frozen_of_row _ _ 2 _ _ GB_r20.out; have f3 := frozen_of_row _ _ 3 _ _ GB_r20.out
          have h9 := set4_at GB_r20.out (.int .i64 lk) (.int .i64 la) (.int .i64 lb) (.int .i64 lc)
          have b9 := set4_below FB_r19.out GE_gar17.out (.int .i64 lk) (.int .i64 la) (.int .i64 lb) (.int .i64 lc)
          have H9 := Lib.hid h9; have B9 := Lib.hid b9; have GE9 := GE_gar17
          clear h9 b9
          go_simp
          clear e0 e1 e2 e3 f0 f1 f2 f3
          refine hK.out _ _ (HSX.out _ B9.out) (fun hHeld => ?_)
          clear hK K
          (try simp only [Act.put, List.setIfInBounds_toArray, List.set_cons_zero, List.set_cons_succ, List.getElem_toArray, List.getElem_cons_succ, List.getElem_cons_zero])
          refine wpAnyH_done (by kernel_rfl) ?_ _
          go_wp2_with (fail)
          go_meet
          exact ⟨_, rfl, GE9.out, H9.out, B9.out⟩
        exact AllReadyH.nil
      exact AllReadyH.nil
    exact AllReadyH.nil
  case rest =>
  obtain ⟨g, rfl, hg0, p2, b2⟩ := hcut
  rename World => w2
  have P2 := Lib.hid p2
  have B2 := Lib.hid b2
  have hs2' := B2.out.size
  have BW := Lib.hid (HB0.out.trans (B2.out.mono HB0.out.size))
  have O2 := Lib.hid (own_below HO.out BW.out (Nat.le_refl _))
  have hg2 : g < w2.heap.size := (Array.getElem?_eq_some_iff.1 p2).1
  clear b2 p2
  obtain ⟨z0, z1, z2, z3⟩ := cells4 P2.out
  by_cases h1 : lk = 1
  · have HE := Lib.hid (HLEAF.out h1)
    subst h1
    obtain ⟨H2, hH2⟩ : ∃ q, w2.heap.size = q := ⟨_, rfl⟩
    have HLO2 := Lib.hid (show lo ≤ w2.heap.size by omega)
    have HH2 := Lib.hid hH2
    clear hH2
    have hL2 := HX1.out
    go_wp2_with (at_builtin; refine wpList_append_lies _ rfl _ _ 24 rfl lo 2 i0 (.int .i64 0) 1 8 Tryd.underlying24 HI.out HZ0.out HZ1.out HZ2.out rfl (by decide) _ _ _ rfl (O2.out.alloc _) ⟨w2.heap.size, 0, none⟩ 1 1 [.int .i64 x] rfl rfl (cell_one_new _ _ _) (by simp [Value.oneCell']) (by decide) (by simp only [maxLen]; omega) (by omega) (Nat.le_trans HLO2.out (by simp)) (H2 + 1) (by simp [HH2.out]) ?_)
    intro g4 cap4 w4 hown4 hgrow4 hat4 hlt4
    have hg4 : GrowsL w lo v.ownBlock (L ++ lvT N x) (.returned (.slice (some ⟨g4, 0, none⟩) (L.length + 1) cap4)) w4 := growsL_mk (ys := L ++ [x]) (by simp) (by rw [HE.out]) (by rw [List.map_append]; exact hown4) (hat4.imp id (fun e => by have := BW.out.size; have := HH2.out; omega)) (grown_trans (grown_below BW.out _) (grown_trans (World.grownBy_alloc _ _ _) hgrow4))
    have HGG := Lib.hid hg4
    clear hown4 hgrow4 hat4 hlt4 hg4
    go_wp2
    go_ret
    exact HGG.out
  · have HE := Lib.hid (HNODE.out h1)
    have hls := HLESS.out h1
    have hd1 : (lk == 1) = false := by simpa using h1
    have IA := Lib.hid (HIH.out la HIN.out.1 (by omega))
    have IB := Lib.hid (HIH.out lb HIN.out.2 (by omega))
    have sa := HLN.out la HIN.out.1
    have sb := HLN.out lb HIN.out.2
    have hLA : L.length + wlen N la ≤ 4096 := by omega
    have hLB : (L ++ lvT N la).length + wlen N lb ≤ 4096 := by rw [List.length_append]; omega
    have HLA := Lib.hid hLA; have HLB := Lib.hid hLB
    generalize hTA : lvT N la = TA at *
    generalize hTB : lvT N lb = TB at *
    have HOV : Hid (∀ q, v.ownBlock = some q → lo ≤ q ∧ q < w.heap.size) := HOB
    have hsw := BW.out.size
    have HSX : Hid (∀ wx : World, w2.grownBy wx v.ownBlock → wx.cell? ⟨w.heap.size, 0, none⟩ = some (.slice h.A N.w.length h.c) ∧ wx.cell? ⟨w.heap.size, 1, none⟩ = some (.slice h.L N.l.length h.d) ∧ wx.cell? ⟨w.heap.size, 2, none⟩ = some (.slice h.C N.c.length h.e) ∧ wx.cell? ⟨g, 1, none⟩ = some (.int .i64 la) ∧ wx.cell? ⟨g, 2, none⟩ = some (.int .i64 lb)) := Lib.hid fun wx hx => by
      have n1 : some w.heap.size ≠ v.ownBlock := fun e => by have := HOV.out _ e.symm; omega
      have n2 : some g ≠ v.ownBlock := fun e => by have := HOV.out _ e.symm; omega
      obtain ⟨m0, m1, m2, m3⟩ := cells4 ((hx.block g (by omega) n2).trans P2.out)
      have q0 := hx.block w.heap.size (by omega) n1
      obtain ⟨k0, k1, k2⟩ := HK.out _ B2.out
      exact ⟨(World.cell?_of_block (a := ⟨w.heap.size, 0, none⟩) q0).trans k0, (World.cell?_of_block (a := ⟨w.heap.size, 1, none⟩) q0).trans k1, (World.cell?_of_block (a := ⟨w.heap.size, 2, none⟩) q0).trans k2, m1, m2⟩
    have HRX : Hid (∀ wx : World, w2.grownBy wx v.ownBlock → RdN wx lo h N) := Lib.hid fun wx hx => (HRL.out _ B2.out).below ((Below.refl lo w2).grown hx (by omega) (fun q hq => (HOV.out q hq).1))
    have HSZ2 : Hid (∀ wx : World, w2.grownBy wx v.ownBlock → lo ≤ wx.heap.size) := Lib.hid fun wx hx => Nat.le_trans (show lo ≤ w2.heap.size by omega) hx.size
    clear hLA hLB sa sb hls h1
    go_upto_region 4 with (fail)
    clear z0 z1 z2 z3
    have FB_0 := Lib.hid (grown_refl w2 v.ownBlock)
    have OV_0 := Lib.hid O2.out
    refine wp_region_held_drew (S := fun wx => wx.cell? ⟨w.heap.size, 0, none⟩ = some (.slice h.A N.w.length h.c) ∧ wx.cell? ⟨w.heap.size, 1, none⟩ = some (.slice h.L N.l.length h.d) ∧ wx.cell? ⟨w.heap.size, 2, none⟩ = some (.slice h.C N.c.length h.e) ∧ wx.cell? ⟨g, 1, none⟩ = some (.int .i64 la) ∧ wx.cell? ⟨g, 2, none⟩ = some (.int .i64 lb)) (by kernel_rfl) (HSX.out _ (grown_below (Below.refl _ _).drew _)) (fun hHeld => ?_)
    obtain ⟨wp1, hwp1⟩ : ∃ w', w' = w2.drew := ⟨_, rfl⟩
    rw [← hwp1] at hHeld ⊢
    have bp1 : Below w2.heap.size w2 wp1 := by rw [hwp1]; exact (Below.refl _ _).drew
    clear hwp1
    have FB_p2 := Lib.hid (by first | exact grown_trans (FB_0.out) (grown_below (bp1) _) | exact grown_trans (FB_0.out) (bp1))
    have OV_p3 := Lib.hid (own_below (OV_0.out) (bp1) (Nat.le_refl _))
    clear FB_0 OV_0
    refine wpAnyH_take (i := 0) (v := ?vp4) rfl (by kernel_rfl) (by kernel_rfl) (by kernel_rfl) (fun _ _ _ h => h) (Or.inl ⟨by rfl, ?yp4⟩) (by assumption) ?_
    case yp4 => (intro w hSw; (try dsimp only at hSw); go_simp; all_goals (with_reducible rfl))
    (try simp only [Act.put, List.setIfInBounds_toArray, List.set_cons_zero, List.set_cons_succ, List.getElem_toArray, List.getElem_cons_succ, List.getElem_cons_zero])
    refine wpAnyH_take (i := 1) (v := ?vp5) rfl (by kernel_rfl) (by kernel_rfl) (by kernel_rfl) (fun _ _ _ h => h) (Or.inl ⟨by rfl, ?yp5⟩) (by assumption) ?_
    case yp5 => (intro w hSw; (try dsimp only at hSw); go_simp; all_goals (with_reducible rfl))
    (try simp only [Act.put, List.setIfInBounds_toArray, List.set_cons_zero, List.set_cons_succ, List.getElem_toArray, List.getElem_cons_succ, List.getElem_cons_zero])
    refine wpAnyH_take (i := 2) (v := ?vp6) rfl (by kernel_rfl) (by kernel_rfl) (by kernel_rfl) (fun _ _ _ h => h) (Or.inl ⟨by rfl, ?yp6⟩) (by assumption) ?_
    case yp6 => (intro w hSw; (try dsimp only at hSw); go_simp; all_goals (with_reducible rfl))
    (try simp only [Act.put, List.setIfInBounds_toArray, List.set_cons_zero, List.set_cons_succ, List.getElem_toArray, List.getElem_cons_succ, List.getElem_cons_zero])
    refine wpAnyH_take (i := 3) (v := ?vp7) rfl (by kernel_rfl) (by kernel_rfl) (by kernel_rfl) (fun _ _ _ h => h) (Or.inl ⟨by rfl, ?yp7⟩) (by assumption) ?_
    case yp7 => (intro w hSw; (try dsimp only at hSw); go_simp; all_goals (with_reducible rfl))
    (try simp only [Act.put, List.setIfInBounds_toArray, List.set_cons_zero, List.set_cons_succ, List.getElem_toArray, List.getElem_cons_succ, List.getElem_cons_zero])
    refine wpAnyH_take (i := 6) (v := ?vp8) rfl (by kernel_rfl) (by kernel_rfl) (by kernel_rfl) (fun _ _ _ h => h) (Or.inl ⟨by rfl, ?yp8⟩) (by assumption) ?_
    case yp8 => (intro w hSw; (try dsimp only at hSw); go_simp; all_goals (with_reducible rfl))
    (try simp only [Act.put, List.setIfInBounds_toArray, List.set_cons_zero, List.set_cons_succ, List.getElem_toArray, List.getElem_cons_succ, List.getElem_cons_zero])
    refine wpAnyH_take (i := 4) (v := ?vp9) rfl (by kernel_rfl) (by kernel_rfl) (by kernel_rfl) (fun _ _ _ h => h) (Or.inl ⟨by rfl, ?yp9⟩) (by assumption) ?_
    case yp9 => (intro w hSw; (try dsimp only at hSw); go_simp; all_goals (with_reducible rfl))
    (try simp only [Act.put, List.setIfInBounds_toArray, List.set_cons_zero, List.set_cons_succ, List.getElem_toArray, List.getElem_cons_succ, List.getElem_cons_zero])
    refine wpAnyH_take (i := 7) (v := ?vp10) rfl (by kernel_rfl) (by kernel_rfl) (by kernel_rfl) (fun _ _ _ h => h) (Or.inl ⟨by rfl, ?yp10⟩) (by assumption) ?_
    case yp10 => (intro w hSw; (try dsimp only at hSw); go_simp; all_goals (with_reducible rfl))
    (try simp only [Act.put, List.setIfInBounds_toArray, List.set_cons_zero, List.set_cons_succ, List.getElem_toArray, List.getElem_cons_succ, List.getElem_cons_zero])
    refine wpAnyH_ready (rs := [5]) (by kernel_rfl) (by simp) ?_
    refine AllReadyH.cons rfl (fun K hK => ?_) ?_
    · go_simp
      refine (IA.out wp1 v L (HRX.out _ FB_p2.out) (HSZ2.out _ FB_p2.out) OV_p3.out HLA.out).mono ?_
      rintro e wp11 ⟨g3, cap3, rfl, own3, hat3, belp11⟩
      dsimp only
      have hat3' : v.ownBlock = some g3 ∨ w2.heap.size ≤ g3 := hat3.imp id (fun e => Nat.le_trans FB_p2.out.size e)
      have FB_p12 := Lib.hid (by first | exact grown_trans (FB_p2.out) (grown_below (belp11) _) | exact grown_trans (FB_p2.out) (belp11))
      clear FB_p2
      have HT3 := Lib.hid hat3'
      have e3 : (L ++ TA).length = L.length + TA.length := List.length_append
      have O3 := Lib.hid (show wp11.ownsRow lo 2 1 (.slice (some ⟨g3, 0, none⟩) (L.length + TA.length) cap3) (L ++ TA).length ((L ++ TA).map (Value.int .i64)) by rw [← e3]; exact own3)
      clear e3
      clear hat3 hat3' own3 belp11
      refine hK.out _ _ (HSX.out _ FB_p12.out) (fun hHeld => ?_)
      clear hK K
      (try simp only [Act.put, List.setIfInBounds_toArray, List.set_cons_zero, List.set_cons_succ, List.getElem_toArray, List.getElem_cons_succ, List.getElem_cons_zero])
      refine wpAnyH_ready (rs := [8]) (by kernel_rfl) (by simp) ?_
      refine AllReadyH.cons rfl (fun K hK => ?_) ?_
      · go_simp
        refine (IB.out wp11 _ _ (HRX.out _ FB_p12.out) (HSZ2.out _ FB_p12.out) O3.out HLB.out).mono ?_
        rintro e w4 ⟨g4, cap4, rfl, own4, hat4, bel4⟩
        dsimp only
        have bel5 := grown_via FB_p12.out bel4 HT3.out
        have hat5 : v.ownBlock = some g4 ∨ w.heap.size ≤ g4 := by
          have s5 := FB_p12.out.size
          have s6 := BW.out.size
          rcases hat4 with e | e
          · have e' : g3 = g4 := Option.some.inj (show some g3 = some g4 from e); subst e'; exact HT3.out.imp id (fun e => by omega)
          · exact .inr (by omega)
        have HGG : Hid (GrowsL w lo v.ownBlock (L ++ lvT N x) (.returned (.slice (some ⟨g4, 0, none⟩) (L.length + (TA.length + TB.length)) cap4)) w4) := Lib.hid (growsL_mk (ys := L ++ TA ++ TB) (by simp only [List.length_append, Nat.add_assoc]) (by rw [HE.out, List.append_assoc]) (by simpa only [List.length_append, Nat.add_assoc] using own4) hat5 (grown_trans (grown_below BW.out _) bel5))
        have FB_9 := Lib.hid bel5
        clear bel4 bel5 hat4 hat5 own4 FB_p12
        refine hK.out _ _ (HSX.out _ FB_9.out) (fun hHeld => ?_)
        clear hK K
        (try simp only [Act.put, List.setIfInBounds_toArray, List.set_cons_zero, List.set_cons_succ, List.getElem_toArray, List.getElem_cons_succ, List.getElem_cons_zero])
        refine wpAnyH_ready (rs := [9]) (by kernel_rfl) (by simp) ?_
        refine AllReadyH.cons rfl (fun K hK => ?_) ?_
        · go_simp
          refine hK.out _ _ hHeld (fun hHeld => ?_)
          clear hK K
          (try simp only [Act.put, List.setIfInBounds_toArray, List.set_cons_zero, List.set_cons_succ, List.getElem_toArray, List.getElem_cons_succ, List.getElem_cons_zero])
          refine wpAnyH_done (by kernel_rfl) ?_ _
          go_wp2
          go_ret
          exact HGG.out
        exact AllReadyH.nil
      exact AllReadyH.nil
    exact AllReadyH.nil
theorem sLeaf_any (N : Nt) (hv : valN N = true) (h : NH) (lo : Nat) : ∀ (n : Nat) (x : Int), wlen N x ≤ n → inW N.w.length x = true → ∀ (w : World) (v : Value) (L : List Int), RdN w lo h N → lo ≤ w.heap.size → w.ownsRow lo 2 1 v L.length (L.map (Value.int .i64)) → L.length + wlen N x ≤ 4096 → Calls Tryd.prog 35 #[.agg #[.slice h.A N.w.length h.c, .slice h.L N.l.length h.d, .slice h.C N.c.length h.e], v, .int .i64 x] w (GrowsL w lo v.ownBlock (L ++ lvT N x))
  | n, x, hn, hx, w, v, L, r, hlo, own, hL => sLeaf_step N hv x h lo w v L hx r hlo own hL (fun y hy hlt w v L r hlo own hL => sLeaf_any N hv h lo (n - 1) y (by omega) hy w v L r hlo own hL)
  termination_by n x hn hx => wlen N x
  decreasing_by all_goals omega

set_option maxRecDepth 100000 in
set_option maxHeartbeats 600000 in
theorem sLeafWires_any (h : NH) (N : Nt) (w : World) (r : RdN w w.heap.size h N) (hn : N.w.length ≤ 1048576) (hl : N.l.length ≤ 1048576) (hc : N.c.length ≤ 1048576) :
    Calls Tryd.prog 9 #[.agg #[.slice h.A N.w.length h.c, .slice h.L N.l.length h.d, .slice h.C N.c.length h.e]] w (Gives w (lwN N)) := by
  obtain ⟨w0, hw0⟩ : ∃ w0, w0 = w.alloc (.cells #[.slice h.A N.w.length h.c, .slice h.L N.l.length h.d, .slice h.C N.c.length h.e] 31) := ⟨_, rfl⟩
  obtain ⟨hb, hh, hsz⟩ := box3_any w (.slice h.A N.w.length h.c) (.slice h.L N.l.length h.d) (.slice h.C N.c.length h.e) 31
  rw [← hw0] at hb hh hsz
  have hs0 : w.heap.size + 1 ≤ w0.heap.size := by omega
  have HK := Lib.hid (fun (wx : World) (hx : Below w0.heap.size w0 wx) => three_cells ((hx.block w.heap.size (by omega)).trans hh))
  have HR := Lib.hid (fun (wx : World) (hx : Below w0.heap.size w0 wx) => show RdN wx w0.heap.size h N from ((r.below hb).more (by omega)).below hx)
  have HV := Lib.hid (fun (wx : World) (hx : Below w0.heap.size w0 wx) => sValidNet_any h N wx ((HR.out wx hx).more hx.size) hn hl hc)
  have HB0 := Lib.hid hb
  have h0 : (w0.alloc (.cells #[] 2)).ownsRow w0.heap.size 2 1 (.slice (some ⟨w.heap.size + 1, 0, none⟩) 0 0) (lwU N 0).length ((lwU N 0).map (Value.int .i64)) := by rw [← hsz]; exact World.ownsRow_made w0 #[] 0 (Nat.le_refl _) (by simp [maxLen]) rfl
  have hb1 : Below w0.heap.size w0 (w0.alloc (.cells #[] 2)) := (Below.refl _ _).alloc (Nat.le_refl _) _
  have H0 := Lib.hid h0; have HB1 := Lib.hid hb1
  clear hb hh hsz r h0 hb1
  go_enter Tryd.func9, Tryd.ntmps9
  go_wp2
  rw [← hw0]
  clear hw0
  go_loopw [3, 4] (fun v i wx => ∃ k : Nat, k ≤ N.c.length ∧ i = .int .i64 k ∧ OrV k N ∧ wx.ownsRow w0.heap.size 2 1 v (lwU N k).length ((lwU N k).map (Value.int .i64)) ∧ Below w0.heap.size w0 wx) (fun _ i _ => N.c.length - (intOf i).toNat)
  case atStart => exact ⟨0, Nat.zero_le _, rfl, .inl rfl, H0.out, HB1.out⟩
  case round =>
    obtain ⟨k, hk, rfl, hor, hO, hB⟩ := hrel
    clear H0 HB1
    obtain ⟨y0, y1, y2⟩ := HK.out _ hB
    by_cases hlt : k < N.c.length
    · have hV := HV.out _ hB
      cases hv : valN N with
      | false =>
        have hk0 : k = 0 := by rcases (show k = 0 ∨ valN N = true from hor) with e | e; exact e; rw [hv] at e; cases e
        subst hk0
        have HE : Hid (lwU N 0 = lwN N) := Lib.hid (lwN_no hv).symm
        rw [hv] at hV
        have HVV := Lib.hid hV; have HO := Lib.hid hO; have HB := Lib.hid hB
        clear hV hO hB hor hv
        go_wp2_with (fail)
        refine HVV.out.mono ?_
        rintro e w1 ⟨rfl, bel⟩
        have HG := Lib.hid (gives_of (own_below HO.out bel (Nat.le_refl _)) rfl HE.out (Nat.le_trans (Nat.le_succ _) hs0) (HB0.out.trans ((HB.out.trans (bel.mono HB.out.size)).mono HB0.out.size)))
        clear bel
        go_wp2
        go_ret
        exact HG.out
      | true =>
        rw [hv] at hV
        have hin := all_at (d := 0) (valN_concl hv) hlt
        have hcs := valN_conc_le hv
        have hws := (valN_size hv).1
        have hul := lwU_len hv k (by omega)
        have hwl := (wlen_some hv hin).2
        have HSU := Lib.hid (lwU_succ (N := N) hlt)
        have HVV := Lib.hid hV; have HO := Lib.hid hO; have HB := Lib.hid hB; have HVT := Lib.hid hv
        have HCA : Hid (∀ wx, Below w0.heap.size w0 wx → ∃ bc offc, h.C = some ⟨bc, offc, none⟩ ∧ bc < w0.heap.size ∧ wx.cell? ⟨bc, offc + k, none⟩ = some (.int .i64 (N.c.getD k 0))) := Lib.hid fun wx hx => by
          obtain ⟨bc, offc, hC, hbc, hcc⟩ := (HR.out _ hx).2.2.2 (by omega)
          exact ⟨bc, offc, hC, hbc, hcc k hlt⟩
        obtain ⟨z, hz⟩ : ∃ z, N.c.getD k 0 = z := ⟨_, rfl⟩
        rw [hz] at hin hwl HSU HCA
        have HLF := Lib.hid (fun (wx : World) (hx : Below w0.heap.size w0 wx) v hO => sLeaf_any N HVT.out h w0.heap.size _ z (Nat.le_refl _) hin wx v (lwU N k) (HR.out wx hx) hx.size hO (by omega))
        clear hV hO hB hor hv hz
        go_wp2_with (fail)
        refine HVV.out.mono ?_
        rintro e w1 ⟨rfl, bel⟩
        have HB1 := Lib.hid (HB.out.trans (bel.mono HB.out.size))
        have HO1 := Lib.hid (own_below HO.out bel (Nat.le_refl _))
        clear bel y0 y1 y2
        obtain ⟨y0, y1, y2⟩ := HK.out _ HB1.out
        obtain ⟨bc, offc, hC, hbc, hcz⟩ := HCA.out _ HB1.out
        rw [hC] at y2
        rw [hC] at HLF
        have HCC := Lib.hid hC
        clear hC
        have HSX : Hid (∀ wx : World, Below w0.heap.size w0 wx → wx.cell? ⟨w.heap.size, 0, none⟩ = some (.slice h.A N.w.length h.c) ∧ wx.cell? ⟨w.heap.size, 1, none⟩ = some (.slice h.L N.l.length h.d) ∧ wx.cell? ⟨w.heap.size, 2, none⟩ = some (.slice (some ⟨bc, offc, none⟩) N.c.length h.e) ∧ wx.cell? ⟨bc, offc + k, none⟩ = some (.int .i64 z)) := Lib.hid fun wx hx => by
          obtain ⟨n0, n1, n2⟩ := HK.out wx hx
          obtain ⟨bc', offc', hC', _, hcz'⟩ := HCA.out _ hx
          rw [HCC.out] at n2 hC'
          injection hC' with hC'; injection hC' with e1 e2
          subst e1; subst e2
          exact ⟨n0, n1, n2, hcz'⟩
        go_upto_region 5 with (fail)
        clear y0 y1 y2 hcz
        have FB_0 := Lib.hid HB1.out
        have OV_0 := HO1
        refine wp_region_held_drew (S := fun wx => wx.cell? ⟨w.heap.size, 0, none⟩ = some (.slice h.A N.w.length h.c) ∧ wx.cell? ⟨w.heap.size, 1, none⟩ = some (.slice h.L N.l.length h.d) ∧ wx.cell? ⟨w.heap.size, 2, none⟩ = some (.slice (some ⟨bc, offc, none⟩) N.c.length h.e) ∧ wx.cell? ⟨bc, offc + k, none⟩ = some (.int .i64 z)) (by kernel_rfl) (HSX.out _ HB1.out.drew) (fun hHeld => ?_)
        obtain ⟨ws1, hws1⟩ : ∃ w', w' = w1.drew := ⟨_, rfl⟩
        rw [← hws1] at hHeld ⊢
        have bs1 : Below w1.heap.size w1 ws1 := by rw [hws1]; exact (Below.refl _ _).drew
        clear hws1
        have FB_s2 := Lib.hid ((FB_0.out).trans ((bs1).mono (FB_0.out).size))
        have OV_s3 := Lib.hid (own_below (OV_0.out) (bs1) (Nat.le_refl _))
        clear FB_0 OV_0
        refine wpAnyH_take (i := 0) (v := ?vs4) rfl (by kernel_rfl) (by kernel_rfl) (by kernel_rfl) (fun _ _ _ h => h) (Or.inl ⟨by rfl, ?ys4⟩) (by assumption) ?_
        case ys4 => (intro w hSw; (try dsimp only at hSw); go_simp; all_goals (with_reducible rfl))
        (try simp only [Act.put, List.setIfInBounds_toArray, List.set_cons_zero, List.set_cons_succ, List.getElem_toArray, List.getElem_cons_succ, List.getElem_cons_zero])
        refine wpAnyH_take (i := 1) (v := ?vs5) rfl (by kernel_rfl) (by kernel_rfl) (by kernel_rfl) (fun _ _ _ h => h) (Or.inl ⟨by rfl, ?ys5⟩) (by assumption) ?_
        case ys5 => (intro w hSw; (try dsimp only at hSw); go_simp; all_goals (with_reducible rfl))
        (try simp only [Act.put, List.setIfInBounds_toArray, List.set_cons_zero, List.set_cons_succ, List.getElem_toArray, List.getElem_cons_succ, List.getElem_cons_zero])
        refine wpAnyH_take (i := 2) (v := ?vs6) rfl (by kernel_rfl) (by kernel_rfl) (by kernel_rfl) (fun _ _ _ h => h) (Or.inl ⟨by rfl, ?ys6⟩) (by assumption) ?_
        case ys6 => (intro w hSw; (try dsimp only at hSw); go_simp; all_goals (with_reducible rfl))
        (try simp only [Act.put, List.setIfInBounds_toArray, List.set_cons_zero, List.set_cons_succ, List.getElem_toArray, List.getElem_cons_succ, List.getElem_cons_zero])
        refine wpAnyH_take (i := 4) (v := ?vs7) rfl (by kernel_rfl) (by kernel_rfl) (by kernel_rfl) (fun _ _ _ h => h) (Or.inl ⟨by rfl, ?ys7⟩) (by assumption) ?_
        case ys7 => (intro w hSw; (try dsimp only at hSw); go_simp; all_goals (with_reducible rfl))
        (try simp only [Act.put, List.setIfInBounds_toArray, List.set_cons_zero, List.set_cons_succ, List.getElem_toArray, List.getElem_cons_succ, List.getElem_cons_zero])
        refine wpAnyH_take (i := 3) (v := ?vs8) rfl (by kernel_rfl) (by kernel_rfl) (by kernel_rfl) (fun _ _ _ h => h) (Or.inl ⟨by rfl, ?ys8⟩) (by assumption) ?_
        case ys8 => (intro w hSw; (try dsimp only at hSw); go_simp; all_goals (with_reducible rfl))
        (try simp only [Act.put, List.setIfInBounds_toArray, List.set_cons_zero, List.set_cons_succ, List.getElem_toArray, List.getElem_cons_succ, List.getElem_cons_zero])
        refine wpAnyH_take (i := 5) (v := ?vs9) rfl (by kernel_rfl) (by kernel_rfl) (by kernel_rfl) (fun _ _ _ h => h) (Or.inl ⟨by rfl, ?ys9⟩) (by assumption) ?_
        case ys9 => (intro w hSw; (try dsimp only at hSw); go_simp; all_goals (with_reducible rfl))
        (try simp only [Act.put, List.setIfInBounds_toArray, List.set_cons_zero, List.set_cons_succ, List.getElem_toArray, List.getElem_cons_succ, List.getElem_cons_zero])
        refine wpAnyH_take (i := 6) (v := ?vs10) rfl (by kernel_rfl) (by kernel_rfl) (by kernel_rfl) (fun _ _ _ h => h) (Or.inl ⟨by rfl, ?ys10⟩) (by assumption) ?_
        case ys10 => (intro w hSw; (try dsimp only at hSw); go_simp; all_goals (with_reducible rfl))
        (try simp only [Act.put, List.setIfInBounds_toArray, List.set_cons_zero, List.set_cons_succ, List.getElem_toArray, List.getElem_cons_succ, List.getElem_cons_zero])
        refine wpAnyH_ready (rs := [7]) (by kernel_rfl) (by simp) ?_
        refine AllReadyH.cons rfl (fun K hK => ?_) ?_
        · go_simp
          refine (HLF.out ws1 FB_s2.out _ OV_s3.out).mono ?_
          rintro e w4 ⟨g4, cap4, rfl, own4, _, bel4⟩
          dsimp only
          have bel5 := FB_s2.out.grown bel4 FB_s2.out.size (fun q hq => (OV_s3.out.lt q hq).1)
          have own5 := own4
          rw [← HSU.out] at own5
          have FB_9 := Lib.hid bel5
          have OV_9 := Lib.hid own5
          have HLS := Lib.hid (show (lwU N (k + 1)).length = (lwU N k).length + (lvT N z).length by rw [HSU.out, List.length_append])
          clear bel4 bel5 own4 own5 FB_s2 OV_s3
          refine hK.out _ _ (HSX.out _ FB_9.out) (fun hHeld => ?_)
          clear hK K
          (try simp only [Act.put, List.setIfInBounds_toArray, List.set_cons_zero, List.set_cons_succ, List.getElem_toArray, List.getElem_cons_succ, List.getElem_cons_zero])
          refine wpAnyH_ready (rs := [8]) (by kernel_rfl) (by simp) ?_
          refine AllReadyH.cons rfl (fun K hK => ?_) ?_
          · go_simp
            refine hK.out _ _ hHeld (fun hHeld => ?_)
            clear hK K
            (try simp only [Act.put, List.setIfInBounds_toArray, List.set_cons_zero, List.set_cons_succ, List.getElem_toArray, List.getElem_cons_succ, List.getElem_cons_zero])
            refine wpAnyH_done (by kernel_rfl) ?_ _
            go_wp2
            go_roundw
            case rel => exact ⟨k + 1, by omega, by go_num, .inr HVT.out, (by rw [← HLS.out]; exact OV_9.out), FB_9.out⟩
            case measure => simp [intOf]; omega
          exact AllReadyH.nil
        exact AllReadyH.nil
    · have hkl : k = N.c.length := by omega
      subst hkl
      have HE : Hid (lwU N N.c.length = lwN N) := Lib.hid (by
        cases hv : valN N with
        | true => exact (lwN_yes hv).symm
        | false =>
          rw [lwN_no hv]
          rcases (show N.c.length = 0 ∨ valN N = true from hor) with e | e
          · rw [e]; rfl
          · rw [hv] at e; cases e)
      have HG := Lib.hid (gives_of hO rfl HE.out (Nat.le_trans (Nat.le_succ _) hs0) (HB0.out.trans (hB.mono HB0.out.size)))
      clear hO hB hor
      go_wp2
      go_ret
      exact HG.out
end Go.Proofs.YtfanapddopafiaaDoor
