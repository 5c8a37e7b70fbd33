/- The program's LeafWires. -/
import Derived.Test.YtfanapddopafiaaDoorLwP
import Derived.Deep.AppendLies
namespace Go.Proofs.YtfanapddopafiaaDoor
set_option linter.unusedSimpArgs false
set_option linter.unusedVariables false
open Go.ChangeAt Go.ChangeShapes Go.RowKit Go.WideShapes

theorem gives_nilx {w w' : World} {xs : List Int} (hx : [] = xs) (hb : Below w.heap.size w w') : Gives w xs (.returned (.slice none 0 0)) w' := by
  subst hx
  exact ⟨none, 0, rfl, ⟨by simp, .inl ⟨rfl, rfl⟩⟩, hb⟩
set_option maxRecDepth 100000 in
set_option maxHeartbeats 2000000 in
theorem leafWires_impl (h : NH) (N : Nt) (w : World) (r : RdN w w.heap.size h N) (sm : SmallN N) (ht : Arit w) (hu : Dual w) :
    Calls Tryd.prog 11 #[.agg #[.slice h.A N.w.length h.c, .slice h.L N.l.length h.d, .slice h.C N.c.length h.e]] w (Gives w (lwN N)) := by
  obtain ⟨i0, hi0, hz0, hz1, hz2⟩ := info_parts info_i64
  have HI := Lib.hid hi0; have HZ0 := Lib.hid hz0; have HZ1 := Lib.hid hz1; have HZ2 := Lib.hid hz2
  obtain ⟨w0, hw0⟩ : ∃ w0, w0 = w.alloc (.cells #[.slice h.A N.w.length h.c, .slice h.L N.l.length h.d, .slice h.C N.c.length h.e] 31) := ⟨_, rfl⟩
  obtain ⟨hb, hh, hsz⟩ := box3_any w (.slice h.A N.w.length h.c) (.slice h.L N.l.length h.d) (.slice h.C N.c.length h.e) 31
  rw [← hw0] at hb hh hsz
  have HK : Hid (∀ w', Below w0.heap.size w0 w' → w'.cell? ⟨w.heap.size, 0, none⟩ = some (.slice h.A N.w.length h.c) ∧ w'.cell? ⟨w.heap.size, 1, none⟩ = some (.slice h.L N.l.length h.d) ∧ w'.cell? ⟨w.heap.size, 2, none⟩ = some (.slice h.C N.c.length h.e)) := Lib.hid fun w' hw => three_cells ((hw.block _ (by omega)).trans hh)
  have HR := Lib.hid (fun (w' : World) (hw : Below w0.heap.size w0 w') => show RdN w' w'.heap.size h N from ((r.below (hb.trans (hw.mono hb.size))).more (Nat.le_trans hb.size hw.size)))
  have hV := validNet_impl h N w0 (HR.out _ (Below.refl _ _)) sm (ht.below hb ht.lt) (hu.below hb hu.lt)
  have HB0 := Lib.hid hb
  obtain ⟨y0, y1, y2⟩ := three_cells hh
  clear hb hh hsz r ht hu sm hi0 hz0 hz1 hz2
  cases hv : valN N with
  | false =>
    rw [hv] at hV
    have HE := Lib.hid (lwN_no hv)
    have HV := Lib.hid hV
    clear hV hv
    go_enter Tryd.func11, Tryd.ntmps11
    go_upto_region 1 with (fail)
    rw [← hw0]
    clear hw0
    go_wp2_with (fail)
    refine HV.out.mono ?_
    rintro e w1 ⟨rfl, bel⟩
    have HG := Lib.hid (gives_nilx HE.out.symm (HB0.out.trans (bel.mono HB0.out.size)))
    clear bel y0 y1 y2
    go_wp2
    go_ret
    exact HG.out
  | true =>
    rw [hv] at hV
    have HE := Lib.hid (lwN_yes hv)
    have HV := Lib.hid hV
    have HVT := Lib.hid hv
    have hcs := valN_conc_le hv
    have hws := (valN_size hv).1
    clear hV hv
    go_enter Tryd.func11, Tryd.ntmps11
    go_upto_region 1 with (fail)
    rw [← hw0]
    clear hw0
    go_wp2_with (fail)
    refine HV.out.mono ?_
    rintro e w1 ⟨rfl, bel⟩
    have HB1 := Lib.hid bel
    clear bel y0 y1 y2
    obtain ⟨y0, y1, y2⟩ := HK.out _ HB1.out
    go_wp2_with (fail)
    refine (sourcesOf_any h N w1 HVT.out (HR.out _ HB1.out)).mono ?_
    rintro e w2 ⟨g, d, cur, rfl, hq, own, bel⟩
    have HB2 := Lib.hid (HB1.out.trans (bel.mono HB1.out.size))
    have HQ := Lib.hid hq
    have HRL := Lib.hid (RdL.of_own own)
    have HLV := Lib.hid (fun (wx : World) (hx : Below w2.heap.size w2 wx) (x : Int) (hi : inW N.w.length x = true) => leavesAbove_any N HVT.out cur HQ.out (some ⟨g, 0, none⟩) d _ x (Nat.le_refl _) hi wx ((HRL.out.below hx).more hx.size))
    clear bel y0 y1 y2 hq own
    obtain ⟨y0, y1, y2⟩ := HK.out _ HB2.out
    go_wp2
    clear y0 y1 y2
    go_loopw [4, 15] (fun v i wr => ∃ k : Nat, k ≤ N.c.length ∧ i = .int .i64 k ∧ wr.ownsRow w2.heap.size 2 1 v (lwU N k).length ((lwU N k).map (Value.int .i64)) ∧ Below w2.heap.size w2 wr) (fun _ i _ => N.c.length - (intOf i).toNat)
    case atStart => exact ⟨0, Nat.zero_le _, rfl, ⟨by simp [lwU], .inl ⟨rfl, rfl⟩⟩, Below.refl _ _⟩
    case round =>
      obtain ⟨k, hk, rfl, hown, hB⟩ := hrel
      by_cases hlt : k < N.c.length
      · have hin := all_at (d := 0) (valN_concl HVT.out) hlt
        obtain ⟨bc, offc, hC, hbc, hcc⟩ := (HR.out _ (HB2.out.trans (hB.mono HB2.out.size))).2.2.2 (by omega)
        have kc := hcc k hlt
        have hul := lwU_len HVT.out k (by omega)
        have hwl := (wlen_some HVT.out hin).2
        have hpl := lvT_pos HVT.out _ _ (Nat.le_refl _) hin
        have hll := lvT_len HVT.out _ _ (Nat.le_refl _) hin
        have HSU := Lib.hid (lwU_succ (N := N) hlt)
        have HL := Lib.hid (HLV.out _ hB _ hin)
        have HO := Lib.hid hown; have HB := Lib.hid hB
        obtain ⟨z, hz⟩ : ∃ z, N.c.getD k 0 = z := ⟨_, rfl⟩
        rw [hz] at kc hin hwl hpl hll HSU HL
        have HX := Lib.hid hpl
        have hsz2 := hB.size
        clear hown hB hcc hz hin hpl
        rw [hC]
        go_wp2_with (fail)
        refine HL.out.mono ?_
        rintro e w4 ⟨A2, c2, rfl, own2, bel2⟩
        obtain ⟨g2, cap2, hv2, hg2, _⟩ := own2.form HX.out
        have hA2 : A2 = some ⟨g2, 0, none⟩ ∧ c2 = cap2 := by injection hv2 with a b c'; exact ⟨a, c'⟩
        obtain ⟨rfl, rfl⟩ := hA2
        have HB4 := Lib.hid (HB.out.trans (bel2.mono HB.out.size))
        have HO4 := Lib.hid (own_below HO.out bel2 (Nat.le_refl _))
        have OW2 := Lib.hid own2
        have hsz4 := bel2.size
        have HS4 : Hid (w2.heap.size ≤ w4.heap.size) := Lib.hid (by omega)
        obtain ⟨H4, hH4⟩ : ∃ q, w4.heap.size = q := ⟨_, rfl⟩
        have HH4 := Lib.hid hH4
        clear own2 bel2 kc hv2 hH4
        go_wp2_with (at_builtin; refine wpList_append_lies _ rfl _ _ 24 rfl w2.heap.size 2 i0 (.int .i64 0) 1 8 Tryd.underlying24 HI.out HZ0.out HZ1.out HZ2.out rfl (by decide) _ _ _ rfl HO4.out ⟨g2, 0, none⟩ (lvT N z).length c2 ((lvT N z).map (Value.int .i64)) rfl (by simp) (fun j u hu => OW2.out.cells rfl j u hu) (ints_one _) HX.out (by simp only [maxLen]; omega) (by omega) HS4.out H4 HH4.out ?_)
        intro g5 cap5 w5 own5 grow5 at5 lt5
        have bel5 := Lib.hid (HB4.out.grown grow5 HS4.out (fun q hq => (HO4.out.lt q hq).1))
        have HLS := Lib.hid (show (lwU N (k + 1)).length = (lwU N k).length + (lvT N z).length by rw [HSU.out, List.length_append])
        have O5 : Hid (w5.ownsRow w2.heap.size 2 1 (.slice (some ⟨g5, 0, none⟩) ((lwU N k).length + (lvT N z).length) cap5) (lwU N (k + 1)).length ((lwU N (k + 1)).map (Value.int .i64))) := Lib.hid (by
          rw [HLS.out, HSU.out, List.map_append]; exact own5)
        clear own5 grow5 at5 lt5
        go_wp2
        go_roundw
        case rel => exact ⟨k + 1, by omega, by go_num, O5.out, bel5.out⟩
        case measure => simp [intOf]; omega
      · have hkl : k = N.c.length := by omega
        subst hkl
        have HG := Lib.hid (gives_of hown rfl HE.out.symm (by have h1 := HB0.out.size; have h2 := HB2.out.size; omega) (HB0.out.trans ((HB2.out.trans (hB.mono HB2.out.size)).mono HB0.out.size)))
        clear hown hB
        go_wp2
        go_ret
        exact HG.out
end Go.Proofs.YtfanapddopafiaaDoor
