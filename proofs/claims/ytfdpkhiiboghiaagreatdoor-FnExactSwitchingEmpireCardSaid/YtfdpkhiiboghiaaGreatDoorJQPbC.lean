/- The model: l13All, l13Order, FiringOrder, LastFiringOrder, StuckLinks, CorrectByParsing. Made by mkpbc.py. The model: StuckLinks, l13Correct, CorrectByParsing. Made by mkpbd.py. The model: l15Border, l15Sub, IsClosedSet, SubNet, BorderOf, IsSubnetSet. Made by mkenb.py. The model: l15Small, l15Set, l15Sets, SubnetCount. The model: l15Sets, SubnetCount. The model: l15Count, SubnetCount, KingdomOf, EmpireOf, InKingdom. -/
import Derived.Test.YtfdpkhiiboghiaaGreatDoorJQPgL
import Derived.Deep.RegionHeldLaw
import Derived.Deep.DeepCutAuto
import Derived.Deep.LoopGhost
import Derived.Maps.AppendAt
import Derived.BigQuiet
import Derived.Test.YtfdpkhiiboghiaaGreatDoorJQSeqV
namespace Go.Proofs.YtfdpkhiiboghiaaGreatDoor
set_option linter.unusedSimpArgs false
set_option linter.unusedVariables false
section
set_option linter.unusedSimpArgs false
set_option linter.unusedVariables false
open Go.ChangeAt Go.ChangeShapes Go.RowKit Go.WideShapes

set_option maxRecDepth 100000 in
set_option maxHeartbeats 2000000 in
theorem sAll_any (h : NH) (N : Nt) (fs : List Int) (FA : Option Addr) (fc : Nat) (w : World) (hv : valN N = true) (hF : isF N fs = true) (r : RdN w w.heap.size h N) (rF : RdI w w.heap.size FA fs.length fs) :
    Calls Tryz.prog 161 #[.agg #[.slice h.A N.w.length h.c, .slice h.L N.l.length h.d, .slice h.C N.c.length h.e], .slice FA fs.length fc] w (Gives w (allQ N fs)) := by
  obtain ⟨h48, h48l⟩ := valN_size hv
  have hfl := (isF_ok hF).len
  obtain ⟨i0, hi0, hz0, hz1, hz2⟩ := info_parts info_i64
  have HI := Lib.hid hi0; have HZ0 := Lib.hid hz0; have HZ1 := Lib.hid hz1; have HZ2 := Lib.hid hz2
  obtain ⟨w0, hw0⟩ : ∃ w0, w0 = w.alloc (.cells #[.slice h.A N.w.length h.c, .slice h.L N.l.length h.d, .slice h.C N.c.length h.e] 30) := ⟨_, rfl⟩
  obtain ⟨hb, hh, hsz⟩ := box3_any w (.slice h.A N.w.length h.c) (.slice h.L N.l.length h.d) (.slice h.C N.c.length h.e) 30
  rw [← hw0] at hb hh hsz
  have hs0 : w.heap.size + 1 ≤ w0.heap.size := by omega
  have HK : Hid (∀ w', Below w0.heap.size w0 w' → w'.cell? ⟨w.heap.size, 0, none⟩ = some (.slice h.A N.w.length h.c) ∧ w'.cell? ⟨w.heap.size, 1, none⟩ = some (.slice h.L N.l.length h.d) ∧ w'.cell? ⟨w.heap.size, 2, none⟩ = some (.slice h.C N.c.length h.e)) := Lib.hid fun w' hw => three_cells ((hw.block _ (by omega)).trans hh)
  have HR := Lib.hid (fun (w' : World) (hw : Below w0.heap.size w0 w') => ((r.below (hb.trans (hw.mono hb.size))).more (Nat.le_trans hb.size hw.size)))
  have HB0 := Lib.hid hb
  have hg0 : w0.heap.size = w.heap.size + 1 := by omega
  have hb1 : Below w0.heap.size w0 (w0.alloc (.cells #[] 2)) := (Below.refl _ _).alloc (Nat.le_refl _) _
  have h0 : (w0.alloc (.cells #[] 2)).ownsRow w0.heap.size 2 1 (.slice (some ⟨w.heap.size + 1, 0, none⟩) 0 0) (alU N fs 0).length ((alU N fs 0).map (Value.int .i64)) := by rw [← hg0]; exact World.ownsRow_made w0 #[] 0 (Nat.le_refl _) (by simp [maxLen]) rfl
  have HPA := Lib.hid (sParts_any h N fs FA fc (w0.alloc (.cells #[] 2)) hv hF (HR.out _ hb1) ((rF.below (hb.trans (hb1.mono hb.size))).more (Nat.le_trans hb.size hb1.size)))
  have HRF := Lib.hid (fun (w' : World) (hw : Below w0.heap.size w0 w') => show RdI w' w'.heap.size FA fs.length fs from ((rF.below (hb.trans (hw.mono hb.size))).more (Nat.le_trans hb.size hw.size)))
  obtain ⟨w1, hw1⟩ : ∃ w1, w1 = w0.alloc (.cells #[] 2) := ⟨_, rfl⟩
  rw [← hw1] at hb1 h0 HPA
  have H0 := Lib.hid h0; have HB1 := Lib.hid hb1
  have HVV := Lib.hid hv; have HFF := Lib.hid hF; have HW1 := Lib.hid hw1
  obtain ⟨y0, y1, y2⟩ := HK.out _ hb1
  clear hb hh hsz r rF hi0 hz0 hz1 hz2 hF hv h0 hb1 hg0 hw1
  go_enter Tryz.func161, Tryz.ntmps161
  go_upto_region 2 with (fail)
  rw [← hw0, ← HW1.out]
  clear hw0
  go_wp2_with (fail)
  refine HPA.out.mono ?_
  rintro e w2 ⟨A2, c2, rfl, own2, bel2⟩
  have B2 := Lib.hid (HB1.out.trans (bel2.mono HB1.out.size))
  have O2 := Lib.hid own2
  have HLT := Lib.hid (fun q (e : Value.ownBlock (.slice A2 (paU N fs N.w.length).length c2) = some q) => own2.lt q e)
  have HO0 := Lib.hid (own_below H0.out bel2 (Nat.le_refl _))
  have hln : (paU N fs N.w.length).length = N.w.length := paU_len N fs _
  rw [hln] at O2 HLT ⊢
  have hs2 : w0.heap.size ≤ w2.heap.size := B2.out.size
  have HLN2 := Lib.hid hln
  have HS1 : Hid (w1.heap.size = w0.heap.size + 1) := Lib.hid (by rw [HW1.out]; simp)
  have HF0 : Hid (∀ q, Value.ownBlock (.slice (some ⟨w.heap.size + 1, 0, none⟩) 0 0) = some q → q < w1.heap.size ∨ w2.heap.size ≤ q) := Lib.hid fun q e => .inl (H0.out.lt q e).2
  clear own2 bel2 hln y0 y1 y2 H0
  go_wp2
  go_loopw [5, 7] (fun v i wx => ∃ k : Nat, k ≤ N.l.length ∧ i = .int .i64 k ∧ wx.ownsRow w0.heap.size 2 1 v (alU N fs k).length ((alU N fs k).map (Value.int .i64)) ∧ Below w0.heap.size w0 wx ∧ wx.ownsRow w1.heap.size 2 1 (.slice A2 N.w.length c2) N.w.length ((paU N fs N.w.length).map (Value.int .i64)) ∧ (∀ q, v.ownBlock = some q → q < w1.heap.size ∨ w2.heap.size ≤ q) ∧ w2.heap.size ≤ wx.heap.size) (fun _ i _ => N.l.length - (intOf i).toNat)
  case atStart => exact ⟨0, Nat.zero_le _, rfl, HO0.out, B2.out, O2.out, HF0.out, Nat.le_refl _⟩
  case round =>
    obtain ⟨k, hk, rfl, hO, hB, hP, hF, hZ⟩ := hrel
    clear HO0 B2 O2
    obtain ⟨y0, y1, y2⟩ := HK.out _ hB
    have HO := Lib.hid hO; have HB := Lib.hid hB; have HP := Lib.hid hP; have HF := Lib.hid hF; have HZ := Lib.hid hZ
    clear hO hB hP hF hZ HF0
    by_cases hlt : k < N.l.length
    · have hln := alU_len N fs k
      have HYE := Lib.hid (fun e => alU_yes (N := N) (fs := fs) (k := k) e)
      have HNO := Lib.hid (fun e => alU_no (N := N) (fs := fs) (k := k) e)
      have HOI := Lib.hid (okF_is (fs := fs) hlt)
      have HHAS := Lib.hid (sHasP_any FA fs.length fc fs (k : Int) wr (by omega) (HRF.out _ HB.out))
      have HRDY := Lib.hid (sReady_any h N fs A2 c2 k wr HVV.out hlt (HR.out _ HB.out) (by have := RdI.of_own (by rw [HLN2.out]; exact HP.out : wr.ownsRow w1.heap.size 2 1 (.slice A2 (paU N fs N.w.length).length c2) (paU N fs N.w.length).length ((paU N fs N.w.length).map (Value.int .i64))); rwa [HLN2.out] at this))
      generalize rdyQ N (qN N fs) (N.l.getD k Lk.nil) = rd at *
      generalize fs.contains (k : Int) = ct at *
      cases ct with
      | true =>
        have HS := Lib.hid (HNO.out (by rw [HOI.out]; rfl))
        go_wp2_with (fail)
        refine HHAS.out.mono ?_
        rintro e wz ⟨rfl, rfl⟩
        have ho1 := HO.out
        rw [← HS.out] at ho1
        have HO1 := Lib.hid ho1
        clear ho1
        go_wp2
        go_roundw
        case rel => exact ⟨k + 1, by omega, by go_num, HO1.out, HB.out, HP.out, HF.out, HZ.out⟩
        case measure => simp [intOf]; omega
      | false =>
        go_wp2_with (fail)
        refine HHAS.out.mono ?_
        rintro e wz ⟨rfl, rfl⟩
        cases rd with
        | false =>
          have HS := Lib.hid (HNO.out (by rw [HOI.out]; rfl))
          go_wp2_with (fail)
          refine HRDY.out.mono ?_
          rintro e w3 ⟨rfl, bel3⟩
          have HB3 := Lib.hid (HB.out.trans (bel3.mono HB.out.size))
          have ho1 := own_below HO.out bel3 (Nat.le_refl _)
          rw [← HS.out] at ho1
          have HO1 := Lib.hid ho1
          have HP3 := Lib.hid (own_below HP.out bel3 (Nat.le_refl _))
          have HZ3 := Lib.hid (Nat.le_trans HZ.out bel3.size)
          clear ho1 bel3 y0 y1 y2
          go_wp2
          go_roundw
          case rel => exact ⟨k + 1, by omega, by go_num, HO1.out, HB3.out, HP3.out, HF.out, HZ3.out⟩
          case measure => simp [intOf]; omega
        | true =>
          have HS := Lib.hid (HYE.out (by rw [HOI.out]; rfl))
          have HLN : Hid ((alU N fs (k + 1)).length = (alU N fs k).length + 1) := Lib.hid (by rw [HS.out]; simp)
          go_wp2_with (fail)
          refine HRDY.out.mono ?_
          rintro e w3 ⟨rfl, bel3⟩
          have HB3 := Lib.hid (HB.out.trans (bel3.mono HB.out.size))
          have HO3 := Lib.hid (own_below HO.out bel3 (Nat.le_refl _))
          have HP3 := Lib.hid (own_below HP.out bel3 (Nat.le_refl _))
          have HZ3 := Lib.hid (Nat.le_trans HZ.out bel3.size)
          have hsz9 := HB3.out.size
          clear bel3 y0 y1 y2
          go_wp2_with (at_builtin; refine wpList_append_own_at _ rfl _ _ 24 rfl w0.heap.size 2 i0 (.int .i64 0) 1 8 Tryz.underlying24 HI.out HZ0.out HZ1.out HZ2.out rfl (by decide) _ _ _ rfl (HO3.out.alloc _) ⟨w3.heap.size, 0, none⟩ 1 1 [.int .i64 k] rfl rfl ?c1 ?c2 ?c3 ?c4 ?c5 ?_)
          case c1 => exact cell_one_new _ _ _
          case c2 => intro u hu; simp at hu; subst hu; rfl
          case c3 => unfold maxLen; omega
          case c4 => omega
          case c5 => simp; omega
          intro v' w9 hown' hgrow _ hat
          have hb2 := Lib.hid ((HB3.out.alloc hsz9 (.cells #[.int .i64 k] 2)).grown hgrow (by simp; omega) (fun q hq => (HO3.out.lt q hq).1))
          have hown2 : w9.ownsRow w0.heap.size 2 1 v' (alU N fs (k + 1)).length ((alU N fs (k + 1)).map (Value.int .i64)) := by
            rw [HLN.out, HS.out, List.map_append]; exact hown'
          have hown1 := Lib.hid hown2
          have hs3 := HZ3.out
          have hal : (w3.alloc (.cells #[.int .i64 k] 2)).heap.size = w3.heap.size + 1 := by simp
          have HP9 := Lib.hid (own_same HP3.out fun q e => by
            have hq := HLT.out q e
            rw [hgrow.block q (by rw [hal]; omega) (fun e2 => by rcases HF.out q e2.symm with h | h <;> omega)]
            exact ((Below.refl w3.heap.size w3).alloc (Nat.le_refl _) _).block q (by omega))
          have HF9 : Hid (∀ q, v'.ownBlock = some q → q < w1.heap.size ∨ w2.heap.size ≤ q) := Lib.hid fun q e => by
            rcases hat with h | h
            · exact HF.out q (h ▸ e)
            · rw [h] at e; injection e with e; exact .inr (by omega)
          have HZ9 : Hid (w2.heap.size ≤ w9.heap.size) := Lib.hid (by have := hgrow.size; rw [hal] at this; omega)
          clear hown' hgrow hown2 hsz9 hat hs3 hal
          go_wp2
          go_roundw
          case rel => exact ⟨k + 1, by omega, by go_num, hown1.out, hb2.out, HP9.out, HF9.out, HZ9.out⟩
          case measure => simp [intOf]; omega
    · have hkn : k = N.l.length := by omega
      have ho1 := HO.out
      rw [hkn, alU_all] at ho1
      obtain ⟨A, c, rfl⟩ := own_shapeL ho1
      have HG : Hid (Gives w (allQ N fs) (.returned (.slice A (allQ N fs).length c)) wr) := Lib.hid ⟨A, c, rfl, ho1.mono HB0.out.size, HB0.out.trans (HB.out.mono HB0.out.size)⟩
      subst hkn
      clear ho1 HO HB HP
      generalize (allQ N fs).length = ql at *
      go_wp2
      go_ret
      exact HG.out
set_option maxRecDepth 100000 in
set_option maxHeartbeats 2000000 in
theorem sOrder_any (h : NH) (N : Nt) (last : Bool) (w : World) (hv : valN N = true) (r : RdN w w.heap.size h N) :
    Calls Tryz.prog 113 #[.agg #[.slice h.A N.w.length h.c, .slice h.L N.l.length h.d, .slice h.C N.c.length h.e], .bool last] w (Gives w (ordN N last)) := by
  obtain ⟨h48, h48l⟩ := valN_size hv
  obtain ⟨i0, hi0, hz0, hz1, hz2⟩ := info_parts info_i64
  have HI := Lib.hid hi0; have HZ0 := Lib.hid hz0; have HZ1 := Lib.hid hz1; have HZ2 := Lib.hid hz2
  obtain ⟨w0, hw0⟩ : ∃ w0, w0 = w.alloc (.cells #[.slice h.A N.w.length h.c, .slice h.L N.l.length h.d, .slice h.C N.c.length h.e] 30) := ⟨_, rfl⟩
  obtain ⟨hb, hh, hsz⟩ := box3_any w (.slice h.A N.w.length h.c) (.slice h.L N.l.length h.d) (.slice h.C N.c.length h.e) 30
  rw [← hw0] at hb hh hsz
  have hs0 : w.heap.size + 1 ≤ w0.heap.size := by omega
  have HK : Hid (∀ w', Below w0.heap.size w0 w' → w'.cell? ⟨w.heap.size, 0, none⟩ = some (.slice h.A N.w.length h.c) ∧ w'.cell? ⟨w.heap.size, 1, none⟩ = some (.slice h.L N.l.length h.d) ∧ w'.cell? ⟨w.heap.size, 2, none⟩ = some (.slice h.C N.c.length h.e)) := Lib.hid fun w' hw => three_cells ((hw.block _ (by omega)).trans hh)
  have HR := Lib.hid (fun (w' : World) (hw : Below w0.heap.size w0 w') => ((r.below (hb.trans (hw.mono hb.size))).more (Nat.le_trans hb.size hw.size)))
  have HB0 := Lib.hid hb
  have hg0 : w0.heap.size = w.heap.size + 1 := by omega
  have hb1 : Below w0.heap.size w0 (w0.alloc (.cells #[] 2)) := (Below.refl _ _).alloc (Nat.le_refl _) _
  have h0 : (w0.alloc (.cells #[] 2)).ownsRow w0.heap.size 2 1 (.slice (some ⟨w0.heap.size, 0, none⟩) ([] : List Int).length 0) ([] : List Int).length (([] : List Int).map (Value.int .i64)) := World.ownsRow_made w0 #[] 0 (Nat.le_refl _) (by simp [maxLen]) rfl
  have HAL := Lib.hid (fun (fs : List Int) (A : Option Addr) (c : Nat) (wx : World) (hx : Below w0.heap.size w0 wx) (hF : isF N fs = true) rF => sAll_any h N fs A c wx hv hF (HR.out _ hx) rF)
  have H0 := Lib.hid h0; have HB1 := Lib.hid hb1
  have HLQ := Lib.hid (fun (fs : List Int) => show (allQ N fs).length ≤ 48 from by have := alU_len N fs N.l.length; rw [alU_all] at this; omega)
  have HOL := Lib.hid (fun (fs : List Int) (hO : OrdS N last fs) => show fs.length ≤ 48 from by have := hO.len; omega)
  clear hb hh hsz r hi0 hz0 hz1 hz2 hv h0 hb1 hg0
  go_enter Tryz.func113, Tryz.ntmps113
  go_upto_region 1 with (fail)
  rw [← hw0]
  clear hw0
  go_wp2
  go_loopg [5] N.l.length (fun k v wr => ∃ (fs : List Int) (A : Option Addr) (c : Nat), Hid (k = N.l.length - fs.length) ∧ v = .slice A fs.length c ∧ Hid (OrdS N last fs) ∧ wr.ownsRow w0.heap.size 2 1 (.slice A fs.length c) fs.length (fs.map (Value.int .i64)) ∧ Below w0.heap.size w0 wr)
  case atStart => exact ⟨[], _, _, Lib.hid rfl, rfl, Lib.hid (OrdS.start N last), H0.out, HB1.out⟩
  case round =>
    obtain ⟨fs, A, c, hk, rfl, hO, hown, hB⟩ := hrel
    clear H0 HB1
    obtain ⟨y0, y1, y2⟩ := HK.out _ hB
    have HOW := Lib.hid hown; have HB := Lib.hid hB
    have HA := Lib.hid (HAL.out fs A c wr hB hO.out.isf (RdI.of_own hown))
    have hfl := HOL.out fs hO.out
    clear hown hB
    go_wp2_with (fail)
    refine HA.out.mono ?_
    rintro e w2 ⟨A2, c2, rfl, own2, bel2⟩
    have HB2 := Lib.hid (HB.out.trans (bel2.mono HB.out.size))
    have HO2 := Lib.hid (own_below HOW.out bel2 (Nat.le_refl _))
    have R2 := Lib.hid (RdI.of_own own2)
    clear own2 bel2 y0 y1 y2 HA
    by_cases hne : allQ N fs = []
    · have hstop := hO.out.stop hne
      have hlen : (allQ N fs).length = 0 := by rw [hne]; rfl
      have HE : Hid (Gives w (ordN N last) (.returned (.slice A fs.length c)) w2) := Lib.hid (by
        rw [← hstop]
        exact ⟨A, c, rfl, HO2.out.mono HB0.out.size, HB0.out.trans (HB2.out.mono HB0.out.size)⟩)
      clear hstop hne hO hk R2
      generalize (allQ N fs).length = q at *
      subst hlen
      go_wp2
      go_ret
      exact HE.out
    · have hpos : 0 < (allQ N fs).length := List.length_pos_iff.2 hne
      have d1 : (((allQ N fs).length : Int) == 0) = false := by simp; omega
      have hl48 := HLQ.out fs
      have hmem := pkF_mem (last := last) hne
      obtain ⟨f, hf, hfl2⟩ := allQ_nat hmem
      have hos := hO.out.step hne
      have hosl := hos.len
      rw [List.length_append, List.length_singleton] at hosl
      have HOS := Lib.hid hos
      have HKK : Hid (N.l.length - (fs ++ [pkF last (allQ N fs)]).length < gk) := Lib.hid (by rw [hk.out, List.length_append, List.length_singleton]; omega)
      obtain ⟨b2, o2, rfl, _, hc2⟩ := R2.out.2 hpos
      have HLL : Hid ((fs ++ [pkF last (allQ N fs)]).length = fs.length + 1) := Lib.hid (by simp)
      have hsz9 := HB2.out.size
      have HPK : Hid (∀ i, i = (if last = true then (allQ N fs).length - 1 else 0) → w2.cell? ⟨b2, o2 + i, none⟩ = some (.int .i64 (pkF last (allQ N fs)))) := Lib.hid fun i hi => by
        have := hc2 i (by rw [hi]; split <;> omega)
        rw [this]
        unfold pkF
        rw [hi]
      have hl1 : ((allQ N fs).length : Int) - 1 = (((allQ N fs).length - 1 : Nat) : Int) := by omega
      have hwr : IntKind.i64.wrap (((allQ N fs).length : Int) - 1) = (((allQ N fs).length - 1 : Nat) : Int) := by rw [hl1]; exact IntWalk.i64_in _ (by omega)
      clear hne hmem hf hos hosl hO hk hl1 hc2
      cases last with
      | false =>
        have x0 := HPK.out 0 rfl
        rw [Nat.add_zero] at x0
        clear hwr
        generalize allQ N fs = L at *
        generalize pkF false L = z at *
        go_wp2_with (at_builtin; refine wpList_append_own _ rfl _ _ 24 rfl w0.heap.size 2 i0 (.int .i64 0) 1 8 Tryz.underlying24 HI.out HZ0.out HZ1.out HZ2.out rfl (by decide) _ _ _ rfl (HO2.out.alloc _) ⟨w2.heap.size, 0, none⟩ 1 1 [.int .i64 z] rfl rfl ?c1 ?c2 ?c3 ?c4 ?c5 ?_)
        case c1 => exact cell_one_new _ _ _
        case c2 => intro u hu; simp at hu; subst hu; rfl
        case c3 => unfold maxLen; omega
        case c4 => omega
        case c5 => simp; omega
        intro v' w9 hown' hgrow _
        have hb2 := Lib.hid ((HB2.out.alloc hsz9 (.cells #[.int .i64 z] 2)).grown hgrow (by simp; omega) (fun q hq => (HO2.out.lt q hq).1))
        have hown2 : w9.ownsRow w0.heap.size 2 1 v' (fs ++ [z]).length ((fs ++ [z]).map (Value.int .i64)) := by
          rw [HLL.out, List.map_append]; exact hown'
        obtain ⟨A9, c9, rfl⟩ := own_shapeL hown2
        have hown1 := Lib.hid hown2
        clear hown' hgrow hown2 hsz9
        go_wp2
        go_roundg (N.l.length - (fs ++ [z]).length)
        case measure => exact HKK.out
        case rel => exact ⟨fs ++ [z], A9, c9, Lib.hid rfl, rfl, HOS, hown1.out, hb2.out⟩
      | true =>
        have x0 := HPK.out _ rfl
        simp only [if_true] at x0
        have x1 := HPK.out ((allQ N fs).length - 1) rfl
        have x00 : ∃ z0, w2.cell? ⟨b2, o2, none⟩ = some (.int .i64 z0) := by
          have := (R2.out.2 hpos)
          obtain ⟨b', o', e', _, hc⟩ := this
          injection e' with e'; injection e' with e1 e2 _
          subst e1; subst e2
          exact ⟨_, by have := hc 0 hpos; rwa [Nat.add_zero] at this⟩
        obtain ⟨z0, x00⟩ := x00
        have hl3 : (allQ N fs).length - 1 < (allQ N fs).length := by omega
        generalize (allQ N fs).length - 1 = j at *
        have hj1 : (j : Int) < ((allQ N fs).length : Int) := by omega
        clear x0
        generalize allQ N fs = L at *
        generalize pkF true L = z at *
        go_wp2_with (at_builtin; refine wpList_append_own _ rfl _ _ 24 rfl w0.heap.size 2 i0 (.int .i64 0) 1 8 Tryz.underlying24 HI.out HZ0.out HZ1.out HZ2.out rfl (by decide) _ _ _ rfl (HO2.out.alloc _) ⟨w2.heap.size, 0, none⟩ 1 1 [.int .i64 z] rfl rfl ?c1 ?c2 ?c3 ?c4 ?c5 ?_)
        case c1 => exact cell_one_new _ _ _
        case c2 => intro u hu; simp at hu; subst hu; rfl
        case c3 => unfold maxLen; omega
        case c4 => omega
        case c5 => simp; omega
        intro v' w9 hown' hgrow _
        have hb2 := Lib.hid ((HB2.out.alloc hsz9 (.cells #[.int .i64 z] 2)).grown hgrow (by simp; omega) (fun q hq => (HO2.out.lt q hq).1))
        have hown2 : w9.ownsRow w0.heap.size 2 1 v' (fs ++ [z]).length ((fs ++ [z]).map (Value.int .i64)) := by
          rw [HLL.out, List.map_append]; exact hown'
        obtain ⟨A9, c9, rfl⟩ := own_shapeL hown2
        have hown1 := Lib.hid hown2
        clear hown' hgrow hown2 hsz9
        go_wp2
        go_roundg (N.l.length - (fs ++ [z]).length)
        case measure => exact HKK.out
        case rel => exact ⟨fs ++ [z], A9, c9, Lib.hid rfl, rfl, HOS, hown1.out, hb2.out⟩
end
section
set_option linter.unusedSimpArgs false
set_option linter.unusedVariables false
open Go.ChangeAt Go.ChangeShapes Go.RowKit Go.WideShapes

theorem ordF_isF {N : Nt} {last : Bool} : ∀ (n : Nat) (fs : List Int), isF N fs = true → isF N (ordF N last n fs) = true
  | 0, fs, h => h
  | n + 1, fs, h => by
    unfold ordF
    by_cases e : allQ N fs = []
    · rw [if_pos e]; exact h
    · rw [if_neg e]
      exact ordF_isF n _ (isF_snoc h (allQ_ok (pkF_mem e)))
theorem ord_isF (N : Nt) (last : Bool) : isF N (ordN N last) = true := ordF_isF _ [] rfl
/-- What the model asks of the order's end. -/
theorem cb_is {N : Nt} (hv : valN N = true) : cbV N = ((paU N (ordN N false) N.w.length).all (fun x => decide (x = 0)) && (decide ((ordN N false).length = N.l.length) && decide (0 < (ordN N false).length))) := by
  have h1 := one_part hv (isF_ok (ord_isF N false))
  unfold cbV
  rw [hv, Bool.true_and, Bool.eq_iff_iff]
  simp only [Bool.and_eq_true, decide_eq_true_eq, List.all_eq_true]
  rw [h1]
  refine and_congr_left fun _ => ?_
  constructor
  · intro h x hx
    obtain ⟨k, hk, rfl⟩ := List.mem_map.1 hx
    exact h k (List.mem_range.1 hk)
  · intro h x hx
    exact h _ (List.mem_map.2 ⟨x, List.mem_range.2 hx, rfl⟩)
set_option maxRecDepth 100000 in
set_option maxHeartbeats 2000000 in
theorem sCorrect_any (h : NH) (N : Nt) (w : World) (hv : valN N = true) (r : RdN w w.heap.size h N) :
    Calls Tryz.prog 59 #[.agg #[.slice h.A N.w.length h.c, .slice h.L N.l.length h.d, .slice h.C N.c.length h.e]] w fun e w' => e = .returned (.bool (cbV N)) ∧ Below w.heap.size w w' := by
  obtain ⟨h48, h48l⟩ := valN_size hv
  obtain ⟨w0, hw0⟩ : ∃ w0, w0 = w.alloc (.cells #[.slice h.A N.w.length h.c, .slice h.L N.l.length h.d, .slice h.C N.c.length h.e] 30) := ⟨_, rfl⟩
  obtain ⟨hb, hh, hsz⟩ := box3_any w (.slice h.A N.w.length h.c) (.slice h.L N.l.length h.d) (.slice h.C N.c.length h.e) 30
  rw [← hw0] at hb hh hsz
  have hs0 : w.heap.size + 1 ≤ w0.heap.size := by omega
  have HK : Hid (∀ w', Below w0.heap.size w0 w' → w'.cell? ⟨w.heap.size, 0, none⟩ = some (.slice h.A N.w.length h.c) ∧ w'.cell? ⟨w.heap.size, 1, none⟩ = some (.slice h.L N.l.length h.d) ∧ w'.cell? ⟨w.heap.size, 2, none⟩ = some (.slice h.C N.c.length h.e)) := Lib.hid fun w' hw => three_cells ((hw.block _ (by omega)).trans hh)
  have HR := Lib.hid (fun (w' : World) (hw : Below w0.heap.size w0 w') => ((r.below (hb.trans (hw.mono hb.size))).more (Nat.le_trans hb.size hw.size)))
  have HB0 := Lib.hid hb
  have HOR := Lib.hid (sOrder_any h N false w0 hv (HR.out _ (Below.refl _ _)))
  have HPA := Lib.hid (fun (A : Option Addr) (c : Nat) (wx : World) (hx : Below w0.heap.size w0 wx) rF => sParts_any h N (ordN N false) A c wx hv (ord_isF N false) (HR.out _ hx) rF)
  have HCB := Lib.hid (cb_is hv)
  have hol := (isF_ok (ord_isF N false)).len
  obtain ⟨y0, y1, y2⟩ := three_cells hh
  clear hb hh hsz r hv
  generalize cbV N = res at *
  go_enter Tryz.func59, Tryz.ntmps59
  go_wp2_with (fail)
  rw [← hw0]
  clear hw0
  refine HOR.out.mono ?_
  rintro e w1 ⟨A1, c1, rfl, own1, bel1⟩
  have B1 := Lib.hid bel1
  have R1 := Lib.hid (RdI.of_own own1)
  clear own1 bel1 y0 y1 y2
  obtain ⟨y0, y1, y2⟩ := HK.out _ B1.out
  go_wp2_with (fail)
  refine (HPA.out A1 c1 w1 B1.out R1.out).mono ?_
  rintro e w2 ⟨A2, c2, rfl, own2, bel2⟩
  have B2 := Lib.hid (B1.out.trans (bel2.mono B1.out.size))
  have R2 := Lib.hid (RdI.of_own own2)
  have HB2 := Lib.hid (HB0.out.trans (B2.out.mono HB0.out.size))
  clear own2 bel2 y0 y1 y2 R1 HPA HOR
  have hln : (paU N (ordN N false) N.w.length).length = N.w.length := paU_len _ _ _
  obtain ⟨P, hP⟩ : ∃ P, paU N (ordN N false) N.w.length = P := ⟨_, rfl⟩
  rw [hP] at R2 HCB hln ⊢
  obtain ⟨m, hm⟩ : ∃ m, (ordN N false).length = m := ⟨_, rfl⟩
  rw [hm] at HCB hol ⊢
  have HLN : Hid (P.length ≤ 48) := Lib.hid (by omega)
  have hp48 := HLN.out
  clear hP hm hln
  go_wp2
  go_loopw [5] (fun i wr => ∃ k : Nat, k ≤ P.length ∧ i = .int .i64 k ∧ (∀ j, j < k → P.getD j 0 = 0) ∧ w2 = wr) (fun i _ => P.length - (intOf i).toNat)
  case atStart => exact ⟨0, Nat.zero_le _, rfl, fun j hj => absurd hj (by omega), rfl⟩
  case round =>
    obtain ⟨k, hk, rfl, hno, rfl⟩ := hrel
    have HNO := Lib.hid hno
    clear hno
    by_cases hlt : k < P.length
    · obtain ⟨b, off, rfl, _, hc⟩ := R2.out.2 (by omega)
      have x0 := hc k hlt
      have HM := Lib.hid (getL_mem (d := (0 : Int)) hlt)
      have HST : Hid (P.getD k 0 = 0 → ∀ j, j < k + 1 → P.getD j 0 = 0) := Lib.hid fun e j hj => by
        by_cases e2 : j < k
        · exact HNO.out j e2
        · obtain rfl : j = k := by omega
          exact e
      generalize P.getD k 0 = z at *
      clear hc
      by_cases hz : z = 0
      · have d1 : (z != 0) = false := by simp [hz]
        have HS := Lib.hid (HST.out hz)
        clear hz
        go_wp2
        go_roundw
        case rel => exact ⟨k + 1, by omega, by go_num, HS.out, by first | rfl | trivial⟩
        case measure => simp [intOf]; omega
      · have d1 : (z != 0) = true := by simp [hz]
        have HE : Hid (false = res) := Lib.hid (by
          rw [HCB.out]
          have : P.all (fun x => decide (x = 0)) = false := by
            rw [List.all_eq_false]
            exact ⟨z, HM.out, by simpa using hz⟩
          rw [this]; rfl)
        clear hz
        go_wp2
        go_ret
        exact ⟨ret_bool HE.out, HB2.out⟩
    · have hkl : k = P.length := by omega
      have hall : P.all (fun x => decide (x = 0)) = true := by
        rw [List.all_eq_true]
        intro x hx
        obtain ⟨j, hj, rfl⟩ := List.getElem_of_mem hx
        have := HNO.out j (by omega)
        rw [List.getD_eq_getElem?_getD, List.getElem?_eq_getElem hj] at this
        exact decide_eq_true this
      have HC2 : Hid (res = (decide (m = N.l.length) && decide (0 < m))) := Lib.hid (by rw [HCB.out, hall, Bool.true_and])
      obtain ⟨y0, y1, y2⟩ := HK.out _ B2.out
      clear hall
      subst hkl
      by_cases hm1 : m = N.l.length
      · have d1 : ((m : Int) == (N.l.length : Int)) = true := by simp [hm1]
        by_cases hm2 : 0 < m
        · have HE : Hid (true = res) := Lib.hid (by rw [HC2.out, decide_eq_true hm1, decide_eq_true hm2]; rfl)
          have d2 : decide ((0 : Int) < (m : Int)) = true := decide_eq_true (by omega)
          clear hm1
          go_wp2
          go_ret
          exact ⟨ret_bool HE.out, HB2.out⟩
        · have HE : Hid (false = res) := Lib.hid (by rw [HC2.out, decide_eq_true hm1, decide_eq_false hm2]; rfl)
          have d2 : decide ((0 : Int) < (m : Int)) = false := decide_eq_false (by omega)
          have d3 : decide (0 < m) = false := decide_eq_false hm2
          clear hm1
          go_wp2
          go_ret
          exact ⟨ret_bool HE.out, HB2.out⟩
      · have d1 : ((m : Int) == (N.l.length : Int)) = false := by simp; omega
        have HE : Hid (false = res) := Lib.hid (by rw [HC2.out, decide_eq_false hm1]; rfl)
        clear hm1
        go_wp2
        go_ret
        exact ⟨ret_bool HE.out, HB2.out⟩
set_option maxRecDepth 100000 in
set_option maxHeartbeats 2000000 in
theorem sParsing_any (h : NH) (N : Nt) (w : World) (r : RdN w w.heap.size h N) (hn : N.w.length ≤ 1048576) (hl : N.l.length ≤ 1048576) (hc : N.c.length ≤ 1048576) :
    Calls Tryz.prog 118 #[.agg #[.slice h.A N.w.length h.c, .slice h.L N.l.length h.d, .slice h.C N.c.length h.e]] w fun e w' => e = .returned (.bool (cbV N)) ∧ Below w.heap.size w w' := by
  obtain ⟨w0, hw0⟩ : ∃ w0, w0 = w.alloc (.cells #[.slice h.A N.w.length h.c, .slice h.L N.l.length h.d, .slice h.C N.c.length h.e] 30) := ⟨_, rfl⟩
  obtain ⟨hb, hh, hsz⟩ := box3_any w (.slice h.A N.w.length h.c) (.slice h.L N.l.length h.d) (.slice h.C N.c.length h.e) 30
  rw [← hw0] at hb hh hsz
  have hs0 : w.heap.size + 1 ≤ w0.heap.size := by omega
  have HK : Hid (∀ w', Below w0.heap.size w0 w' → w'.cell? ⟨w.heap.size, 0, none⟩ = some (.slice h.A N.w.length h.c) ∧ w'.cell? ⟨w.heap.size, 1, none⟩ = some (.slice h.L N.l.length h.d) ∧ w'.cell? ⟨w.heap.size, 2, none⟩ = some (.slice h.C N.c.length h.e)) := Lib.hid fun w' hw => three_cells ((hw.block _ (by omega)).trans hh)
  have HR := Lib.hid (fun (w' : World) (hw : Below w0.heap.size w0 w') => ((r.below (hb.trans (hw.mono hb.size))).more (Nat.le_trans hb.size hw.size)))
  have HB0 := Lib.hid hb
  have HV := Lib.hid (sValidNet_any h N w0 (HR.out _ (Below.refl _ _)) hn hl hc)
  have HCO := Lib.hid (fun (w' : World) (hw : Below w0.heap.size w0 w') (hv : valN N = true) => sCorrect_any h N w' hv (HR.out _ hw))
  obtain ⟨y0, y1, y2⟩ := three_cells hh
  clear hb hh hsz r
  cases hv : valN N with
  | false =>
    rw [hv] at HV
    have HE : Hid (false = cbV N) := Lib.hid (by unfold cbV; rw [hv]; rfl)
    clear hv HCO
    go_enter Tryz.func118, Tryz.ntmps118
    go_wp2_with (fail)
    rw [← hw0]
    clear hw0
    refine HV.out.mono ?_
    rintro e w1 ⟨rfl, bel1⟩
    have HB1 := Lib.hid (HB0.out.trans (bel1.mono HB0.out.size))
    clear bel1 y0 y1 y2
    go_wp2
    go_ret
    exact ⟨ret_bool HE.out, HB1.out⟩
  | true =>
    rw [hv] at HV
    have HVV := Lib.hid hv
    clear hv
    go_enter Tryz.func118, Tryz.ntmps118
    go_wp2_with (fail)
    rw [← hw0]
    clear hw0
    refine HV.out.mono ?_
    rintro e w1 ⟨rfl, bel1⟩
    have B1 := Lib.hid bel1
    clear bel1 y0 y1 y2
    obtain ⟨y0, y1, y2⟩ := HK.out _ B1.out
    go_wp2_with (fail)
    refine (HCO.out w1 B1.out HVV.out).mono ?_
    rintro e w2 ⟨rfl, bel2⟩
    have HB2 := Lib.hid (HB0.out.trans ((B1.out.trans (bel2.mono B1.out.size)).mono HB0.out.size))
    clear bel2
    go_wp2
    go_ret
    exact ⟨rfl, HB2.out⟩
end
section
set_option linter.unusedSimpArgs false
set_option linter.unusedVariables false
open Go.ChangeAt Go.ChangeShapes Go.RowKit Go.WideShapes
end
section
set_option linter.unusedSimpArgs false
set_option linter.unusedVariables false
open Go.ChangeAt Go.ChangeShapes Go.RowKit Go.WideShapes

set_option maxRecDepth 100000 in
set_option maxHeartbeats 1000000 in
theorem sSmall_any (h : NH) (N : Nt) (x : Int) (w : World) (r : RdN w w.heap.size h N) (hn : N.w.length ≤ 1048576) (hl : N.l.length ≤ 1048576) (hc : N.c.length ≤ 1048576) :
    Calls Tryz.prog 61 #[.agg #[.slice h.A N.w.length h.c, .slice h.L N.l.length h.d, .slice h.C N.c.length h.e], .int .i64 x] w fun e w' => e = .returned (.bool (kgB N x)) ∧ Below w.heap.size w w' := by
  obtain ⟨w0, hw0⟩ : ∃ w0, w0 = w.alloc (.cells #[.slice h.A N.w.length h.c, .slice h.L N.l.length h.d, .slice h.C N.c.length h.e] 30) := ⟨_, rfl⟩
  obtain ⟨hb, g0, hsz⟩ := box3_any w (.slice h.A N.w.length h.c) (.slice h.L N.l.length h.d) (.slice h.C N.c.length h.e) 30
  rw [← hw0] at hb g0 hsz
  have HKF := Lib.hid (fun (wx : World) (hx : Below w0.heap.size w0 wx) => three_cells ((hx.block w.heap.size (by omega)).trans g0))
  have HCO := Lib.hid (sParsing_any h N w0 ((r.below hb).more hb.size) hn hl hc)
  have HIR := Lib.hid (fun (wx : World) => show Calls Tryz.prog 86 #[.int .i64 x, .int .i64 0, .int .i64 ((N.w.length : Int) - 1)] wx fun e w' => e = .returned (.bool (inW N.w.length x)) ∧ wx = w' from inRange_any x 0 ((N.w.length : Int) - 1) wx)
  have hww : IntKind.i64.wrap ((N.w.length : Int) - 1) = (N.w.length : Int) - 1 := IntWalk.i64_in _ (by omega)
  have HKG : Hid (kgB N x = (cbV N && (decide (N.l.length ≤ 10) && inW N.w.length x))) := Lib.hid rfl
  have HB0 := Lib.hid hb
  obtain ⟨y0, y1, y2⟩ := HKF.out _ (Below.refl _ w0)
  clear hb g0 hsz r hn hc
  generalize cbV N = p at *
  cases p with
  | false =>
    have HE := Lib.hid (HKG.out.symm)
    rw [Bool.false_and] at HE
    go_enter Tryz.func61, Tryz.ntmps61
    go_upto_region 1 with (fail)
    rw [← hw0]
    clear hw0
    go_wp2_with (fail)
    refine HCO.out.mono ?_
    rintro e w1 ⟨rfl, bel1⟩
    have B1 := Lib.hid (HB0.out.trans (bel1.mono HB0.out.size))
    clear bel1 y0 y1 y2
    go_wp2
    go_ret
    exact ⟨ret_bool HE.out, B1.out⟩
  | true =>
    by_cases h10 : N.l.length ≤ 10
    · have d1 : decide ((N.l.length : Int) ≤ 10) = true := decide_eq_true (by omega)
      have d2 : decide (N.l.length ≤ 10) = true := decide_eq_true h10
      have HE : Hid (inW N.w.length x = kgB N x) := Lib.hid (by rw [HKG.out, d2]; simp)
      clear h10
      generalize inW N.w.length x = q at *
      go_enter Tryz.func61, Tryz.ntmps61
      go_upto_region 1 with (fail)
      rw [← hw0]
      clear hw0
      go_wp2_with (fail)
      refine HCO.out.mono ?_
      rintro e w1 ⟨rfl, bel1⟩
      have B1 := Lib.hid bel1
      clear bel1 y0 y1 y2
      obtain ⟨y0, y1, y2⟩ := HKF.out _ B1.out
      go_wp2_with (fail)
      refine (HIR.out w1).mono ?_
      rintro e w2 ⟨rfl, rfl⟩
      have HBB := Lib.hid (HB0.out.trans (B1.out.mono HB0.out.size))
      go_wp2
      go_ret
      exact ⟨ret_bool HE.out, HBB.out⟩
    · have d1 : decide ((N.l.length : Int) ≤ 10) = false := decide_eq_false (by omega)
      have d2 : decide (N.l.length ≤ 10) = false := decide_eq_false h10
      have HE : Hid (false = kgB N x) := Lib.hid (by rw [HKG.out, d2]; simp)
      clear h10
      go_enter Tryz.func61, Tryz.ntmps61
      go_upto_region 1 with (fail)
      rw [← hw0]
      clear hw0
      go_wp2_with (fail)
      refine HCO.out.mono ?_
      rintro e w1 ⟨rfl, bel1⟩
      have B1 := Lib.hid bel1
      clear bel1 y0 y1 y2
      obtain ⟨y0, y1, y2⟩ := HKF.out _ B1.out
      have HBB := Lib.hid (HB0.out.trans (B1.out.mono HB0.out.size))
      go_wp2
      go_ret
      exact ⟨ret_bool HE.out, HBB.out⟩
/-- A bit of a number, as the model asks it. -/
theorem bit_ask {y i : Nat} (hy : y < 1048576) : (bits .and .i64 ((y : Int) / 2 ^ i) 1 == 1) = y.testBit i := by
  have h1 : bits .and .i64 ((y : Int) / 2 ^ i) 1 = (y : Int) / 2 ^ i % 2 := by
    rw [show (y : Int) / 2 ^ i = ((y / 2 ^ i : Nat) : Int) by rw [Int.natCast_ediv, Int.natCast_pow]; rfl]
    exact bit_i64 _ (Nat.lt_of_le_of_lt (Nat.div_le_self _ _) (by omega))
  rw [h1, show (y : Int) / 2 ^ i % 2 = ((y / 2 ^ i % 2 : Nat) : Int) by rw [Int.natCast_emod, Int.natCast_ediv, Int.natCast_pow]; rfl]
  rw [Bool.eq_iff_iff, beq_iff_eq, Nat.testBit_eq_decide_div_mod_eq, decide_eq_true_eq]
  omega
set_option maxRecDepth 100000 in
set_option maxHeartbeats 1000000 in
theorem sSet_any (n y : Nat) (w : World) (hn : n ≤ 48) (hy : y < 1048576) :
    Calls Tryz.prog 73 #[.int .i64 n, .int .i64 y] w (Gives w (mlS n y)) := by
  obtain ⟨i0, hi0, hz0, hz1, hz2⟩ := info_parts info_i64
  have HI := Lib.hid hi0; have HZ0 := Lib.hid hz0; have HZ1 := Lib.hid hz1; have HZ2 := Lib.hid hz2
  have h0 : (w.alloc (.cells #[] 2)).ownsRow w.heap.size 2 1 (.slice (some ⟨w.heap.size, 0, none⟩) 0 0) (selU y.testBit 0).length ((selU y.testBit 0).map (Value.int .i64)) := World.ownsRow_made w #[] 0 (Nat.le_refl _) (by simp [maxLen]) rfl
  have hb1 : Below w.heap.size w (w.alloc (.cells #[] 2)) := (Below.refl _ _).alloc (Nat.le_refl _) _
  have H0 := Lib.hid h0; have HB1 := Lib.hid hb1
  clear hi0 hz0 hz1 hz2 h0 hb1
  go_enter Tryz.func73, Tryz.ntmps73
  go_wp2
  go_loopw [5, 6] (fun v i wx => ∃ k : Nat, k ≤ n ∧ i = .int .i64 k ∧ wx.ownsRow w.heap.size 2 1 v (selU y.testBit k).length ((selU y.testBit k).map (Value.int .i64)) ∧ Below w.heap.size w wx) (fun _ i _ => n - (intOf i).toNat)
  case atStart => exact ⟨0, Nat.zero_le _, rfl, H0.out, HB1.out⟩
  case round =>
    obtain ⟨k, hk, rfl, hO, hB⟩ := hrel
    clear H0 HB1
    by_cases hlt : k < n
    · have hcn : IntKind.u64.wrap (k : Int) = (k : Int) := by rw [IntKind.wrap_u64]; omega
      have hbit := bit_ask (i := k) hy
      have hln := selU_len y.testBit k
      have HO := Lib.hid hO; have HB := Lib.hid hB
      have hsz1 := hB.size
      clear hO hB
      cases hp : y.testBit k with
      | false =>
        rw [hp] at hbit
        have HS := Lib.hid (selU_no (p := y.testBit) hp)
        clear hp
        go_wp2
        go_roundw
        case rel => exact ⟨k + 1, by omega, by go_num, by rw [HS.out]; exact HO.out, HB.out⟩
        case measure => simp [intOf]; omega
      | true =>
        rw [hp] at hbit
        have HS := Lib.hid (selU_yes (p := y.testBit) hp)
        clear hp
        go_wp2_with (at_builtin; refine wpList_append_own _ rfl _ _ 24 rfl w.heap.size 2 i0 (.int .i64 0) 1 8 Tryz.underlying24 HI.out HZ0.out HZ1.out HZ2.out rfl (by decide) _ _ _ rfl (HO.out.alloc _) ⟨wr.heap.size, 0, none⟩ 1 1 [.int .i64 k] rfl rfl ?c1 ?c2 ?c3 ?c4 ?c5 ?_)
        case c1 => exact cell_one_new _ _ _
        case c2 => intro u hu; simp at hu; subst hu; rfl
        case c3 => unfold maxLen; omega
        case c4 => omega
        case c5 => simp; omega
        intro v' w2 hown' hgrow _
        have hb2 := Lib.hid ((HB.out.alloc hsz1 (.cells #[.int .i64 k] 2)).grown hgrow (by simp; omega) (fun q hq => (HO.out.lt q hq).1))
        have hown2 : w2.ownsRow w.heap.size 2 1 v' (selU y.testBit (k + 1)).length ((selU y.testBit (k + 1)).map (Value.int .i64)) := by
          rw [HS.out, List.length_append, List.map_append]; exact hown'
        have hown1 := Lib.hid hown2
        clear hown' hgrow hown2 hsz1 hbit hcn
        go_wp2
        go_roundw
        case rel => exact ⟨k + 1, by omega, by go_num, hown1.out, hb2.out⟩
        case measure => simp [intOf]; omega
    · have hkl : k = n := by omega
      subst hkl
      obtain ⟨A3, c3, rfl⟩ := own_shape hO
      have HG : Hid (Gives w (mlS k y) (.returned (.slice A3 (selU y.testBit k).length c3)) wr) := Lib.hid ⟨A3, c3, rfl, hO, hB⟩
      clear hO hB
      go_wp2
      go_ret
      exact HG.out
end
section
set_option linter.unusedSimpArgs false
set_option linter.unusedVariables false
open Go.ChangeAt Go.ChangeShapes Go.RowKit Go.WideShapes

theorem shl_i64e {m : Nat} (h : m ≤ 10) : IntKind.i64.wrap ((2 : Int) ^ m) = ((2 ^ m : Nat) : Int) := by
  have h1 := pow_le10 h
  have h2 : ((2 : Int) ^ m) = ((2 ^ m : Nat) : Int) := by simp
  rw [h2]
  generalize 2 ^ m = M at *
  exact IntWalk.i64_in _ (by omega)
end
section
set_option linter.unusedSimpArgs false
set_option linter.unusedVariables false
open Go.ChangeAt Go.ChangeShapes Go.RowKit Go.WideShapes

theorem givesB_made {w w0 w1 : World} (hb : Below w.heap.size w w0) (h1 : Below w0.heap.size w0 w1) : GivesB w [] false (.returned (.tuple #[.slice (some ⟨w1.heap.size, 0, none⟩) 0 0, .bool false])) (w1.alloc (.cells #[] 2)) :=
  ⟨_, _, rfl, World.ownsRow_made w1 #[] 0 (Nat.le_trans hb.size h1.size) (by simp [maxLen]) rfl, (hb.trans (h1.mono hb.size)).alloc (Nat.le_trans hb.size h1.size) _⟩
end
end Go.Proofs.YtfdpkhiiboghiaaGreatDoor
