/- KindCounts of the program. -/
import Derived.Test.YtdcommmefehlgaaDoorNkA
import Derived.Test.YtdcommmefehlgaaDoorQPgG
namespace Go.Proofs.YtdcommmefehlgaaDoor
set_option linter.unusedSimpArgs false
set_option linter.unusedVariables false
open Go.ChangeAt Go.ChangeShapes Go.RowKit Go.WideShapes

set_option maxRecDepth 100000 in
set_option maxHeartbeats 4000000 in
theorem kindCounts_impl (h : NH) (N : Nt) (w : World) (r : RdN w w.heap.size h N) (sm : SmallN N) (ht : Arit w) (hu : Dual w) :
    Calls Tryd.prog 19 #[.agg #[.slice h.A N.w.length h.c, .slice h.L N.l.length h.d, .slice h.C N.c.length h.e]] w (Gives w (kcN N)) := by
  obtain ⟨i0, hi0, hz0, hz1, hz2⟩ := info_parts info_i64
  have HI := Lib.hid hi0; have HZ0 := Lib.hid hz0; have HZ1 := Lib.hid hz1; have HZ2 := Lib.hid hz2
  have HBY : Hid (i0.bytes * 4 ≤ 281474976710656) := Lib.hid (by rw [hz2]; omega)
  have hml : (4 : Nat) ≤ maxLen := by unfold maxLen; omega
  have s1 := sm.w; have s2 := sm.l; have s3 := sm.c
  obtain ⟨w0, hw0⟩ : ∃ w0, w0 = w.alloc (.cells #[.slice h.A N.w.length h.c, .slice h.L N.l.length h.d, .slice h.C N.c.length h.e] 30) := ⟨_, rfl⟩
  obtain ⟨hb, hh, hsz⟩ := box3_any w (.slice h.A N.w.length h.c) (.slice h.L N.l.length h.d) (.slice h.C N.c.length h.e) 30
  rw [← hw0] at hb hh hsz
  have HK : Hid (∀ w', Below w0.heap.size w0 w' → w'.cell? ⟨w.heap.size, 0, none⟩ = some (.slice h.A N.w.length h.c) ∧ w'.cell? ⟨w.heap.size, 1, none⟩ = some (.slice h.L N.l.length h.d) ∧ w'.cell? ⟨w.heap.size, 2, none⟩ = some (.slice h.C N.c.length h.e)) := Lib.hid fun w' hw => three_cells ((hw.block _ (by omega)).trans hh)
  have HR := Lib.hid (fun (w' : World) (hw : Below w0.heap.size w0 w') => ((r.below (hb.trans (hw.mono hb.size))).more (Nat.le_trans hb.size hw.size)))
  have HV := Lib.hid (validNet_impl h N w0 (HR.out _ (Below.refl _ _)) sm (ht.below hb ht.lt) (hu.below hb hu.lt))
  have HB0 := Lib.hid hb
  obtain ⟨y0, y1, y2⟩ := three_cells hh
  clear hb hh hsz r hi0 hz0 hz1 hz2 ht hu sm
  cases hv : valN N with
  | false =>
    have HE := Lib.hid (kcN_no hv)
    rw [hv] at HV
    clear hv
    go_enter Tryd.func19, Tryd.ntmps19
    go_wp2_with (fail)
    rw [← hw0]
    clear hw0
    refine HV.out.mono ?_
    rintro e w1 ⟨rfl, bel⟩
    have HB1 := Lib.hid (HB0.out.trans (bel.mono HB0.out.size))
    clear bel y0 y1 y2
    go_wp2
    go_ret
    exact HE.out.symm ▸ (⟨none, 0, rfl, World.ownsRow_nil _ _ _ _, HB1.out⟩ : Gives w [] (.returned (.slice none 0 0)) _)
  | true =>
    have HE := Lib.hid (kcN_yes hv)
    have HVT := Lib.hid hv
    rw [hv] at HV
    have hl48 := (valN_size hv).2
    clear hv
    go_enter Tryd.func19, Tryd.ntmps19
    go_wp2_with (fail)
    rw [← hw0]
    clear hw0
    refine HV.out.mono ?_
    rintro e w1 ⟨rfl, bel⟩
    have HB1 := Lib.hid bel
    clear bel y0 y1 y2
    obtain ⟨y0, y1, y2⟩ := HK.out _ HB1.out
    go_wp2_with (at_make; refine wpList_make_full _ rfl _ _ _ rfl w1.heap.size 2 i0 (.int .i64 0) 1 Tryd.underlying24 HI.out HZ0.out HZ1.out _ _ _ _ 4 rfl rfl rfl rfl HBY.out hml (Nat.le_refl _) ?_; intro w2 hown hg; have hbel : Below w1.heap.size w1 w2 := (Below.refl _ _).grown hg (Nat.le_refl _) (by intro k hk; cases hk); have HO1 := Lib.hid (cnt_new hown); have HB2 := Lib.hid (HB1.out.trans (hbel.mono HB1.out.size)); clear y0 y1 y2 hown hg hbel; obtain ⟨y0, y1, y2⟩ := HK.out _ HB2.out)
    have hg0 := HB1.out.size
    generalize w1.heap.size = g at *
    go_loopw [13] (fun i wx => ∃ k : Nat, k ≤ N.l.length ∧ i = .int .i64 k ∧ CntAt wx g 4 (fun x => kcF (N.l.take k) x) ∧ Below w0.heap.size w0 wx) (fun i _ => N.l.length - (intOf i).toNat)
    case atStart => exact ⟨0, Nat.zero_le _, rfl, HO1.out, HB2.out⟩
    case round =>
      obtain ⟨k, hk, rfl, hO, hB⟩ := hrel
      clear HO1 HB2 y0 y1 y2
      by_cases hlt : k < N.l.length
      · obtain ⟨b, off, hA, hbb, hcells⟩ := (HR.out _ hB).2.1.at (show 0 < N.l.length by omega)
        obtain ⟨x0, x1, x2, x3⟩ := hcells k hlt
        obtain ⟨j, hj, ej⟩ := kind_at HVT.out hlt
        have hst := fun x => kcF_step hlt x
        simp only [ej] at hst
        obtain ⟨⟨lk, la, lb, lc⟩, hl⟩ : ∃ l, N.l.getD k Lk.nil = l := ⟨_, rfl⟩
        rw [hl] at x0 x1 x2 x3 ej
        dsimp only at x0 x1 x2 x3 ej
        subst ej
        have hle := kcF_le (N.l.take k) j
        rw [List.length_take] at hle
        obtain ⟨bl, z0, z1, z2, z3, zs⟩ := lnk_any wr ⟨(j : Int) + 1, la, lb, lc⟩ 72
        dsimp only at bl z0 z1 z2 z3
        have hgw : g < wr.heap.size := (World.ownsRow.lt hO _ rfl).2
        obtain ⟨u1, hu1⟩ : ∃ u1, u1 = wr.alloc (.cells #[.int .i64 ((j : Int) + 1), .int .i64 la, .int .i64 lb, .int .i64 lc] 72) := ⟨_, rfl⟩
        have HU1 := Lib.hid hu1
        rw [← hu1] at bl z0 z1 z2 z3 zs
        have hO1 := hO.below bl
        have hB1 := hB.trans (bl.mono hB.size)
        have hu := hO1.cell hj
        have hf := hO1.frozen j
        have hp := hO1.bump hj
        obtain ⟨q, hq⟩ : ∃ q, kcF (N.l.take k) j = q := ⟨_, rfl⟩
        (try dsimp only at hu); (try dsimp only at hp)
        rw [hq] at hu hp
        have hq0 : 0 ≤ q ∧ q ≤ 1000 := by omega
        have HP : Hid (CntAt (u1.setCell ⟨g, j, none⟩ (.int .i64 (q + 1))) g 4 (fun x => kcF (N.l.take (k + 1)) x)) := Lib.hid (hp.ext fun x _ => by rw [hst x, show ((j : Int) + 1 - 1).toNat = j by omega])
        have HB := Lib.hid (hB1.setCell (p := ⟨g, j, none⟩) hg0 (.int .i64 (q + 1)))
        have hj4 : (j : Int) < 4 := by omega
        clear hst hle hp hq hO hB hcells HB1 hl hO1 hB1 bl hu1 zs
        obtain ⟨hAd, hcd, hhs, hL, hd, hC, he⟩ := h
        dsimp only at hA
        subst hA
        go_upto_region 7 with (fail)
        rw [← HU1.out]
        clear x0 x1 x2 x3 HU1
        go_wp2
        go_roundw
        case rel => exact ⟨k + 1, by omega, by go_num, HP.out, HB.out⟩
        case measure => simp [intOf]; omega
      · have hkl : k = N.l.length := by omega
        subst hkl
        rw [List.take_length] at hO
        have HG := Lib.hid (cnt_gives hO HE.out.symm (Nat.le_trans HB0.out.size hg0) (HB0.out.trans (hB.mono HB0.out.size)))
        clear hO hB
        go_wp2
        go_ret
        exact HG.out
end Go.Proofs.YtdcommmefehlgaaDoor
