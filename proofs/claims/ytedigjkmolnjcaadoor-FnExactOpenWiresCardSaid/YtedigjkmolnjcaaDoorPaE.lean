/- The parsing of a net: readyLinks, parsedBy, IsFiringSequence, ReadyLinks, PartsAfter. -/
import Derived.Test.YtedigjkmolnjcaaDoorPaC
import Derived.Test.YtedigjkmolnjcaaDoorPaD
import Derived.Deep.RegionHeldLaw
import Derived.Deep.DeepCutAuto
import Derived.BigQuiet
namespace Go.Proofs.YtedigjkmolnjcaaDoor
set_option linter.unusedSimpArgs false
set_option linter.unusedVariables false
open Go.ChangeAt Go.ChangeShapes Go.RowKit Go.WideShapes

/-- The ready links among the first k. -/
def alU (N : Nt) (fs : List Int) (k : Nat) : List Int := ((List.range k).map fun k : Nat => (k : Int)).filter fun k => okF N fs k
theorem alU_all (N : Nt) (fs : List Int) : alU N fs N.l.length = allQ N fs := rfl
theorem alU_len (N : Nt) (fs : List Int) (k : Nat) : (alU N fs k).length ≤ k := by
  unfold alU
  exact Nat.le_trans (List.length_filter_le _ _) (by simp)
theorem alU_yes {N : Nt} {fs : List Int} {k : Nat} (h : okF N fs (k : Int) = true) : alU N fs (k + 1) = alU N fs k ++ [(k : Int)] := by
  unfold alU
  rw [List.range_succ, List.map_append, List.filter_append]
  simp [h]
theorem alU_no {N : Nt} {fs : List Int} {k : Nat} (h : okF N fs (k : Int) = false) : alU N fs (k + 1) = alU N fs k := by
  unfold alU
  rw [List.range_succ, List.map_append, List.filter_append]
  simp [h]
set_option maxRecDepth 100000 in
set_option maxHeartbeats 1000000 in
theorem readyLinks_any (h : NH) (N : Nt) (g : Nat) (fs : List Int) (r : PzH) (w : World) (hv : valN N = true) (s : PzS w g h N fs r) :
    Calls Tryd.prog 49 #[.pointer (some ⟨g, 0, none⟩)] w (Gives w (allQ N fs)) := by
  have h48l := (valN_size hv).2
  obtain ⟨i0, hi0, hz0, hz1, hz2⟩ := info_parts info_i64
  have HI := Lib.hid hi0; have HZ0 := Lib.hid hz0; have HZ1 := Lib.hid hz1; have HZ2 := Lib.hid hz2
  have HR := Lib.hid (fun (k : Nat) (hk : k < N.l.length) (wx : World) (hx : Below w.heap.size w wx) => isReady_any h N g fs r k wx hv (s.below hx) hk)
  have m0 := s.box.three.1
  clear hi0 hz0 hz1 hz2 s hv
  go_enter Tryd.func49, Tryd.ntmps49
  go_wp2
  clear m0
  go_loopw [3, 11] (fun v i wr => ∃ k : Nat, k ≤ N.l.length ∧ i = .int .i64 k ∧ wr.ownsRow w.heap.size 2 1 v (alU N fs k).length ((alU N fs k).map (Value.int .i64)) ∧ Below w.heap.size w wr) (fun _ i _ => N.l.length - (intOf i).toNat)
  case atStart => exact ⟨0, Nat.zero_le _, rfl, World.ownsRow_nil _ _ _ _, Below.refl _ _⟩
  case round =>
    obtain ⟨k, hk, rfl, hO, hB⟩ := hrel
    by_cases hlt : k < N.l.length
    · have HRK := Lib.hid (HR.out k hlt _ hB)
      have hln := alU_len N fs k
      have HYE := Lib.hid (fun e => alU_yes (N := N) (fs := fs) (k := k) e)
      have HNO := Lib.hid (fun e => alU_no (N := N) (fs := fs) (k := k) e)
      have HO := Lib.hid hO; have HB := Lib.hid hB
      clear hO hB
      generalize okF N fs (k : Int) = b at *
      cases b with
      | false =>
        have HS := Lib.hid (HNO.out rfl)
        go_wp2_with (fail)
        refine HRK.out.mono ?_
        rintro e w1 ⟨rfl, bel1⟩
        have HB1 := Lib.hid (HB.out.trans (bel1.mono HB.out.size))
        have ho1 := own_below HO.out bel1 (Nat.le_refl _)
        rw [← HS.out] at ho1
        have HO1 := Lib.hid ho1
        clear ho1
        clear bel1 HO HB HYE HNO HRK
        go_wp2
        go_roundw
        case rel => exact ⟨k + 1, by omega, by go_num, HO1.out, HB1.out⟩
        case measure => simp [intOf]; omega
      | true =>
        have HS := Lib.hid (HYE.out rfl)
        have HLN : Hid ((alU N fs (k + 1)).length = (alU N fs k).length + 1) := Lib.hid (by rw [HS.out]; simp)
        go_wp2_with (fail)
        refine HRK.out.mono ?_
        rintro e w1 ⟨rfl, bel1⟩
        have HB1 := Lib.hid (HB.out.trans (bel1.mono HB.out.size))
        have HO1 := Lib.hid (own_below HO.out bel1 (Nat.le_refl _))
        have hsz1 := HB1.out.size
        clear bel1 HO HB HYE HNO HRK
        go_wp2_with (at_builtin; refine wpList_append_own _ rfl _ _ 24 rfl w.heap.size 2 i0 (.int .i64 0) 1 8 Tryd.underlying24 HI.out HZ0.out HZ1.out HZ2.out rfl (by decide) _ _ _ rfl (HO1.out.alloc _) ⟨w1.heap.size, 0, none⟩ 1 1 [.int .i64 k] rfl rfl ?c1 ?c2 ?c3 ?c4 ?c5 ?_)
        case c1 => exact cell_one_new _ _ _
        case c2 => intro u hu; simp at hu; subst hu; rfl
        case c3 => unfold maxLen; omega
        case c4 => omega
        case c5 => simp; omega
        intro v' w2 hown' hgrow _
        have hb2 := Lib.hid ((HB1.out.alloc hsz1 (.cells #[.int .i64 k] 2)).grown hgrow (by simp; omega) (fun q hq => (HO1.out.lt q hq).1))
        have hown2 : w2.ownsRow w.heap.size 2 1 v' (alU N fs (k + 1)).length ((alU N fs (k + 1)).map (Value.int .i64)) := by
          rw [HLN.out, HS.out, List.map_append]; exact hown'
        have hown1 := Lib.hid hown2
        clear hown' hgrow hown2 hsz1
        go_wp2
        go_roundw
        case rel => exact ⟨k + 1, by omega, by go_num, hown1.out, hb2.out⟩
        case measure => simp [intOf]; omega
    · have hkn : k = N.l.length := by omega
      subst hkn
      rw [alU_all] at hO
      obtain ⟨A5, c5, rfl⟩ := own_shapeP hO
      have HG : Hid (Gives w (allQ N fs) (.returned (.slice A5 (allQ N fs).length c5)) wr) := Lib.hid ⟨A5, c5, rfl, hO, hB⟩
      clear hO hB HI HZ0 HZ1 HZ2
      generalize (allQ N fs).length = q at *
      go_wp2
      go_ret
      exact HG.out
theorem isLink_any (h : NH) (N : Nt) (x : Int) (w : World) (hl : N.l.length ≤ 1048576) :
    Calls Tryd.prog 72 #[.agg #[.slice h.A N.w.length h.c, .slice h.L N.l.length h.d, .slice h.C N.c.length h.e], .int .i64 x] w fun e w' => e = .returned (.bool (inW N.l.length x)) ∧ Below w.heap.size w w' := by
  obtain ⟨w0, hw0⟩ : ∃ w0, w0 = w.alloc (.cells #[.slice h.A N.w.length h.c, .slice h.L N.l.length h.d, .slice h.C N.c.length h.e] 31) := ⟨_, rfl⟩
  obtain ⟨hb, hh, hsz⟩ := box3_any w (.slice h.A N.w.length h.c) (.slice h.L N.l.length h.d) (.slice h.C N.c.length h.e) 31
  rw [← hw0] at hb hh hsz
  have hs0 : w.heap.size + 1 ≤ w0.heap.size := by omega
  have HK : Hid (∀ w', Below w0.heap.size w0 w' → w'.cell? ⟨w.heap.size, 0, none⟩ = some (.slice h.A N.w.length h.c) ∧ w'.cell? ⟨w.heap.size, 1, none⟩ = some (.slice h.L N.l.length h.d) ∧ w'.cell? ⟨w.heap.size, 2, none⟩ = some (.slice h.C N.c.length h.e)) := Lib.hid fun w' hw => three_cells ((hw.block _ (by omega)).trans hh)
  have HB0 := Lib.hid hb
  obtain ⟨y0, y1, y2⟩ := three_cells hh
  clear hb hh hsz
  by_cases h0 : 0 ≤ x
  · have hd : decide (0 ≤ x) = true := decide_eq_true h0
    have HE : Hid (decide (x < (N.l.length : Int)) = inW N.l.length x) := Lib.hid (by
      unfold inW
      exact decide_eq_decide.2 (by omega))
    clear h0
    go_enter Tryd.func72, Tryd.ntmps72
    go_upto_region 1 with (fail)
    rw [← hw0]
    clear hw0
    go_wp2
    go_ret
    exact ⟨ret_bool HE.out, HB0.out⟩
  · have hd : decide (0 ≤ x) = false := decide_eq_false h0
    have HE : Hid (false = inW N.l.length x) := Lib.hid (by
      unfold inW
      exact (decide_eq_false (by omega)).symm)
    clear h0
    go_enter Tryd.func72, Tryd.ntmps72
    go_upto_region 1 with (fail)
    rw [← hw0]
    clear hw0
    go_wp2
    go_ret
    exact ⟨ret_bool HE.out, HB0.out⟩
/-- What parsedBy leaves. -/
def GivesPB (w : World) (h : NH) (N : Nt) (fs : List Int) (e : Ending) (w' : World) : Prop :=
  Below w.heap.size w w' ∧ ((valN N && isF N fs) = true ∧ (∃ g r', e = .returned (.tuple #[.pointer (some ⟨g, 0, none⟩), .bool true]) ∧ w.heap.size ≤ g ∧ PzS w' g h N fs r') ∨ (valN N && isF N fs) = false ∧ e = .returned (.tuple #[.pointer none, .bool false]))
set_option maxRecDepth 100000 in
set_option maxHeartbeats 1000000 in
theorem parsedBy_any (h : NH) (N : Nt) (fs : List Int) (F : Option Addr) (fc : Nat) (w : World) (r : RdN w w.heap.size h N) (sm : SmallN N) (hfl : fs.length ≤ 1048576) (rF : RdI w w.heap.size F fs.length fs) (ht : Arit w) (hu : Dual w) :
    Calls Tryd.prog 45 #[.agg #[.slice h.A N.w.length h.c, .slice h.L N.l.length h.d, .slice h.C N.c.length h.e], .slice F fs.length fc] w (GivesPB w h N fs) := by
  have hlm := sm.l
  obtain ⟨w0, hw0⟩ : ∃ w0, w0 = w.alloc (.cells #[.slice h.A N.w.length h.c, .slice h.L N.l.length h.d, .slice h.C N.c.length h.e] 31) := ⟨_, rfl⟩
  obtain ⟨hb, hh, hsz⟩ := box3_any w (.slice h.A N.w.length h.c) (.slice h.L N.l.length h.d) (.slice h.C N.c.length h.e) 31
  rw [← hw0] at hb hh hsz
  have hs0 : w.heap.size + 1 ≤ w0.heap.size := by omega
  have HK : Hid (∀ w', Below w0.heap.size w0 w' → w'.cell? ⟨w.heap.size, 0, none⟩ = some (.slice h.A N.w.length h.c) ∧ w'.cell? ⟨w.heap.size, 1, none⟩ = some (.slice h.L N.l.length h.d) ∧ w'.cell? ⟨w.heap.size, 2, none⟩ = some (.slice h.C N.c.length h.e)) := Lib.hid fun w' hw => three_cells ((hw.block _ (by omega)).trans hh)
  have HV := Lib.hid (validNet_impl h N w0 ((r.below hb).more hb.size) sm (ht.below hb ht.lt) (hu.below hb hu.lt))
  have HPO := Lib.hid (fun hv (wx : World) (hx : Below w0.heap.size w0 wx) => parsingOf_any h N wx hv ((r.below (hb.trans (hx.mono hb.size))).more (Nat.le_trans hb.size hx.size)))
  have HFR := Lib.hid (fun (wx : World) (hx : Below w0.heap.size w0 wx) => show RdI wx w0.heap.size F fs.length fs from ((rF.below hb).more hb.size).below hx)
  have HIL := Lib.hid (fun x wx => isLink_any h N x wx hlm)
  have HB0 := Lib.hid hb
  obtain ⟨y0, y1, y2⟩ := three_cells hh
  clear hb hh hsz r rF ht hu sm
  cases hv : valN N with
  | false =>
    rw [hv] at HV
    go_enter Tryd.func45, Tryd.ntmps45
    go_wp2_with (fail)
    rw [← hw0]
    clear hw0
    refine HV.out.mono ?_
    rintro e w1 ⟨rfl, bel1⟩
    have HB1 : Hid (GivesPB w h N fs (.returned (.tuple #[.pointer none, .bool false])) w1) := Lib.hid ⟨HB0.out.trans (bel1.mono HB0.out.size), .inr ⟨by rw [hv]; rfl, rfl⟩⟩
    clear bel1 y0 y1 y2
    go_wp2
    go_ret2
    exact HB1.out
  | true =>
    rw [hv] at HV
    have HVV := Lib.hid hv
    clear hv
    go_enter Tryd.func45, Tryd.ntmps45
    go_wp2_with (fail)
    rw [← hw0]
    clear hw0
    refine HV.out.mono ?_
    rintro e w1 ⟨rfl, bel1⟩
    have B1 := Lib.hid bel1
    clear bel1 y0 y1 y2
    obtain ⟨y0, y1, y2⟩ := HK.out _ B1.out
    go_wp2_with (fail)
    refine (HPO.out HVV.out w1 B1.out).mono ?_
    rintro e w2 ⟨g, r0, rfl, hgw, hP, bel2⟩
    have B2 := Lib.hid (B1.out.trans (bel2.mono B1.out.size))
    have HP := Lib.hid hP
    have hg0 : w0.heap.size ≤ g := Nat.le_trans B1.out.size hgw
    have HG0 := Lib.hid hg0
    clear bel2 hP y0 y1 y2 hgw hg0
    go_wp2
    go_loopw [16] (fun i wr => ∃ (k : Nat) (r1 : PzH), k ≤ fs.length ∧ i = .int .i64 k ∧ (∀ j, j < k → okF N (fs.take j) (fs.getD j 0) = true) ∧ PzS wr g h N (fs.take k) r1 ∧ Below w0.heap.size w0 wr) (fun i _ => fs.length - (intOf i).toNat)
    case atStart => exact ⟨0, r0, Nat.zero_le _, rfl, fun j hj => absurd hj (by omega), HP.out, B2.out⟩
    case round =>
      obtain ⟨k, r1, hk, rfl, hpl, hP, hB⟩ := hrel
      clear HP B2
      by_cases hlt : k < fs.length
      · obtain ⟨bf, off, hFe, hbf, hcf⟩ := (HFR.out _ hB).2 (by omega)
        subst hFe
        have x0 := hcf k hlt
        obtain ⟨y0, y1, y2⟩ := HK.out _ hB
        have HPL := Lib.hid hpl
        have HT := Lib.hid (takeL_succ (d := (0 : Int)) hlt)
        have HNO := Lib.hid (fun e => isF_no (N := N) hlt e)
        have HSTEP : Hid (okF N (fs.take k) (fs.getD k 0) = true → ∀ j, j < k + 1 → okF N (fs.take j) (fs.getD j 0) = true) := Lib.hid fun e j hj => by
          by_cases e2 : j < k
          · exact HPL.out j e2
          · obtain rfl : j = k := by omega
            exact e
        have HOK : Hid (okF N (fs.take k) (fs.getD k 0) = true → inW N.l.length (fs.getD k 0) = true) := Lib.hid fun e => (okF_yes e).1
        have HPK := Lib.hid hP; have HB := Lib.hid hB
        obtain ⟨z, hz⟩ : ∃ z, fs.getD k 0 = z := ⟨_, rfl⟩
        rw [hz] at x0 HT HNO HSTEP HOK
        have HILK := Lib.hid (HIL.out z wr)
        clear hcf hpl hP hB
        cases hin : inW N.l.length z with
        | false =>
          rw [hin] at HILK
          have HF : Hid ((valN N && isF N fs) = false) := Lib.hid (by
            rw [HNO.out (by
              cases e : okF N (fs.take k) z with
              | false => rfl
              | true => rw [HOK.out e] at hin; cases hin), Bool.and_false])
          clear hin hz
          go_wp2_with (fail)
          refine HILK.out.mono ?_
          rintro e w3 ⟨rfl, bel3⟩
          have HG : Hid (GivesPB w h N fs (.returned (.tuple #[.pointer none, .bool false])) w3) := Lib.hid ⟨HB0.out.trans ((HB.out.trans (bel3.mono HB.out.size)).mono HB0.out.size), .inr ⟨HF.out, rfl⟩⟩
          clear bel3 y0 y1 y2 x0
          go_wp2
          go_ret2
          exact HG.out
        | true =>
          rw [hin] at HILK
          have hzl := (inW_yes hin).2.1
          have ez := (inW_yes hin).2.2
          have HRD : Hid (∀ wx, PzS wx g h N (fs.take k) r1 → Calls Tryd.prog 73 #[.pointer (some ⟨g, 0, none⟩), .int .i64 z] wx fun e w' => e = .returned (.bool (okF N (fs.take k) z)) ∧ Below wx.heap.size wx w') := Lib.hid fun wx s => by
            have := isReady_any h N g (fs.take k) r1 z.toNat wx HVV.out s hzl
            rw [← ez] at this
            exact this
          have HFI : Hid (∀ wx, PzS wx g h N (fs.take k) r1 → okF N (fs.take k) z = true → Calls Tryd.prog 74 #[.pointer (some ⟨g, 0, none⟩), .int .i64 z] wx fun e w' => e = .returned (.tuple #[]) ∧ (∃ r', PzS w' g h N (fs.take k ++ [z]) r') ∧ Below g wx w') := Lib.hid fun wx s ho => by
            have := fire_any h N g z.toNat (fs.take k) r1 wx HVV.out s (by rw [← ez]; exact ho)
            rw [← ez] at this
            exact this
          clear hin hzl ez
          cases ho : okF N (fs.take k) z with
          | false =>
            rw [ho] at HRD
            have HF : Hid ((valN N && isF N fs) = false) := Lib.hid (by rw [HNO.out ho, Bool.and_false])
            clear ho hz
            go_wp2_with (fail)
            refine HILK.out.mono ?_
            rintro e w3 ⟨rfl, bel3⟩
            have HB3 := Lib.hid (HB.out.trans (bel3.mono HB.out.size))
            have HP3 := Lib.hid (HPK.out.below bel3)
            clear bel3 y0 y1 y2 x0
            go_wp2_with (fail)
            refine (HRD.out w3 HP3.out).mono ?_
            rintro e w4 ⟨rfl, bel4⟩
            have HG : Hid (GivesPB w h N fs (.returned (.tuple #[.pointer none, .bool false])) w4) := Lib.hid ⟨HB0.out.trans ((HB3.out.trans (bel4.mono HB3.out.size)).mono HB0.out.size), .inr ⟨HF.out, rfl⟩⟩
            clear bel4
            go_wp2
            go_ret2
            exact HG.out
          | true =>
            rw [ho] at HRD
            have HS := Lib.hid (HSTEP.out ho)
            have HFF := Lib.hid (fun wx s => HFI.out wx s ho)
            clear ho hz
            go_wp2_with (fail)
            refine HILK.out.mono ?_
            rintro e w3 ⟨rfl, bel3⟩
            have HB3 := Lib.hid (HB.out.trans (bel3.mono HB.out.size))
            have HP3 := Lib.hid (HPK.out.below bel3)
            clear bel3 y0 y1 y2 x0
            go_wp2_with (fail)
            refine (HRD.out w3 HP3.out).mono ?_
            rintro e w4 ⟨rfl, bel4⟩
            have HB4 := Lib.hid (HB3.out.trans (bel4.mono HB3.out.size))
            have HP4 := Lib.hid (HP3.out.below bel4)
            clear bel4
            go_wp2_with (fail)
            refine (HFF.out w4 HP4.out).mono ?_
            rintro e w5 ⟨rfl, ⟨r5, hP5⟩, bel5⟩
            have HP5 : Hid (PzS w5 g h N (fs.take (k + 1)) r5) := Lib.hid (by rw [HT.out]; exact hP5)
            have HB5 := Lib.hid (HB4.out.trans (bel5.mono HG0.out))
            clear bel5 hP5
            go_wp2
            go_roundw
            case rel => exact ⟨k + 1, r5, by omega, by go_num, HS.out, HP5.out, HB5.out⟩
            case measure => simp [intOf]; omega
      · have hkl : k = fs.length := by omega
        subst hkl
        rw [List.take_length] at hP
        have HG : Hid (GivesPB w h N fs (.returned (.tuple #[.pointer (some ⟨g, 0, none⟩), .bool true])) wr) := Lib.hid ⟨HB0.out.trans (hB.mono HB0.out.size), .inl ⟨by rw [HVV.out, hP.isf]; rfl, g, r1, rfl, Nat.le_trans HB0.out.size HG0.out, hP⟩⟩
        clear hP hB hpl
        go_wp2
        go_ret2
        exact HG.out
end Go.Proofs.YtedigjkmolnjcaaDoor
