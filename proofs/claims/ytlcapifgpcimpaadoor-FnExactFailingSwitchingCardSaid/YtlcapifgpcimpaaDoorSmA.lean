/- The model: the arcs of a switching. -/
import Derived.Test.YtlcapifgpcimpaaDoorSmC
import Derived.Test.YtlcapifgpcimpaaDoorSgM
import Derived.Deep.RegionHeldLaw
import Derived.Deep.DeepCutAuto
import Derived.BigQuiet
namespace Go.Proofs.YtlcapifgpcimpaaDoor
set_option linter.unusedSimpArgs false
set_option linter.unusedVariables false
open Go.ChangeAt Go.ChangeShapes Go.RowKit Go.WideShapes

theorem from_lx {N : Nt} (hv : valN N = true) (x : Int) : firstN (srcB x) N.l = lxN outL N x := first_ext fun l hl => srcB_is (fitsN_kind ((List.all_eq_true.1 (valN_fits hv)) l hl))
theorem to_lx {N : Nt} (x : Int) : firstN (tgtB x) N.l = lxN inL N x := first_ext fun l _ => tgtB_is l x
set_option maxRecDepth 100000 in
set_option maxHeartbeats 1000000 in
theorem sArcs_any (h : NH) (N : Nt) (s : List Int) (S : Option Addr) (sc : Nat) (w : World) (hsw : isSw N s = true) (r : RdN w w.heap.size h N) (rS : RdI w w.heap.size S s.length s) :
    Calls Tryd.prog 76 #[.agg #[.slice h.A N.w.length h.c, .slice h.L N.l.length h.d, .slice h.C N.c.length h.e], .slice S s.length sc] w (GivesA w (mgU N s N.w.length)) := by
  have hvt := (isSw_yes hsw).1
  obtain ⟨h48, h48l⟩ := valN_size hvt
  obtain ⟨i3, hi3, hz3, hs3, hb3⟩ := info_parts info_arc
  have HI := Lib.hid hi3; have HZ0 := Lib.hid hz3; have HZ1 := Lib.hid hs3; have HZ2 := Lib.hid hb3
  obtain ⟨w0, hw0⟩ : ∃ w0, w0 = w.alloc (.cells #[.slice h.A N.w.length h.c, .slice h.L N.l.length h.d, .slice h.C N.c.length h.e] 35) := ⟨_, rfl⟩
  obtain ⟨hb, hh, hsz⟩ := box3_any w (.slice h.A N.w.length h.c) (.slice h.L N.l.length h.d) (.slice h.C N.c.length h.e) 35
  rw [← hw0] at hb hh hsz
  have hs0 : w.heap.size + 1 ≤ w0.heap.size := by omega
  have HK : Hid (∀ w', Below w0.heap.size w0 w' → w'.cell? ⟨w.heap.size, 0, none⟩ = some (.slice h.A N.w.length h.c) ∧ w'.cell? ⟨w.heap.size, 1, none⟩ = some (.slice h.L N.l.length h.d) ∧ w'.cell? ⟨w.heap.size, 2, none⟩ = some (.slice h.C N.c.length h.e)) := Lib.hid fun w' hw => three_cells ((hw.block _ (by omega)).trans hh)
  have HR := Lib.hid (fun (w' : World) (hw : Below w0.heap.size w0 w') => ((r.below (hb.trans (hw.mono hb.size))).more (Nat.le_trans hb.size hw.size)))
  have HRS := Lib.hid (fun (w' : World) (hw : Below w0.heap.size w0 w') => show RdI w' w'.heap.size S s.length s from ((rS.below (hb.trans (hw.mono hb.size))).more (Nat.le_trans hb.size hw.size)))
  have HTO := Lib.hid (fun (x : Int) (w' : World) (hw : Below w0.heap.size w0 w') => smTo_any h.A h.L h.C N.w.length h.c h.d N.c.length h.e N.l x w' (HR.out _ hw).2.1 (by omega))
  have HFR := Lib.hid (fun (x : Int) (w' : World) (hw : Below w0.heap.size w0 w') => smFrom_any h.A h.L h.C N.w.length h.c h.d N.c.length h.e N.l x w' (HR.out _ hw).2.1 (by omega))
  have HCH := Lib.hid (fun (kk : Nat) (hkk : kk < N.l.length) (x : Int) (w' : World) (hw : Below w0.heap.size w0 w') => sChosen_any h N s S sc kk x w' hsw hkk (HR.out _ hw) (HRS.out _ hw))
  have HB0 := Lib.hid hb
  have h0 : (w0.alloc (.cells #[] 59)).ownsRow w0.heap.size 59 3 (.slice (some ⟨w.heap.size + 1, 0, none⟩) 0 0) 0 ((flA (mgU N s 0)).map (Value.int .i64)) := by rw [← hsz]; exact World.ownsRow_made w0 #[] 0 (Nat.le_refl _) (by simp [maxLen]) rfl
  have hb1 : Below w0.heap.size w0 (w0.alloc (.cells #[] 59)) := (Below.refl _ _).alloc (Nat.le_refl _) _
  have H0 := Lib.hid h0; have HB1 := Lib.hid hb1
  clear hb hh hsz r rS hi3 hz3 hs3 hb3 h0 hb1 hsw
  go_enter Tryd.func76, Tryd.ntmps76
  go_wp2
  rw [← hw0]
  clear hw0
  go_loopw [5, 6] (fun v i wx => ∃ k : Nat, k ≤ N.w.length ∧ i = .int .i64 k ∧ wx.ownsRow w0.heap.size 59 3 v (mgU N s k).length ((flA (mgU N s k)).map (Value.int .i64)) ∧ Below w0.heap.size w0 wx) (fun _ i _ => N.w.length - (intOf i).toNat)
  case atStart => exact ⟨0, Nat.zero_le _, rfl, H0.out, HB1.out⟩
  case round =>
    obtain ⟨k, hk, rfl, hO, hB⟩ := hrel
    clear H0 HB1
    obtain ⟨y0, y1, y2⟩ := HK.out _ hB
    have HO := Lib.hid hO; have HB := Lib.hid hB
    clear hO hB
    by_cases hlt : k < N.w.length
    · have HT := HTO.out (k : Int) _ HB.out
      rw [to_lx (N := N)] at HT
      have HF0 := Lib.hid (fun w' hw => HFR.out (k : Int) w' hw)
      rw [from_lx hvt] at HF0
      have HTT := Lib.hid HT
      have HAR : Hid (arcA N k = ⟨(k : Int), lxN outL N (k : Int), lxN inL N (k : Int)⟩) := Lib.hid rfl
      have HYE := Lib.hid (fun e1 e2 => mgU_yes (N := N) (s := s) (k := k) e1 e2)
      have HNO := Lib.hid (fun e => mgU_no (N := N) (s := s) (k := k) e)
      have hin := lxN_in inL N (k : Int)
      have hln := mgU_len N s k
      clear HT
      generalize lxN outL N (k : Int) = p at *
      generalize lxN inL N (k : Int) = q at *
      by_cases hq : 0 ≤ q
      · obtain ⟨qn, rfl⟩ : ∃ qn : Nat, q = qn := ⟨q.toNat, by omega⟩
        have hqn : qn < N.l.length := by omega
        have hd : decide (0 ≤ (qn : Int)) = true := decide_eq_true hq
        cases hcb : choB N s qn k with
        | true =>
          have HS := Lib.hid (HYE.out hq hcb)
          have HLN : Hid ((mgU N s (k + 1)).length = (mgU N s k).length + 1) := Lib.hid (by rw [HS.out]; simp)
          clear hin hq
          go_wp2_with (fail)
          refine HTT.out.mono ?_
          rintro e w1 ⟨rfl, bel1⟩
          have B1 := Lib.hid (HB.out.trans (bel1.mono HB.out.size))
          have b1s := bel1.size
          have HO1 := Lib.hid (own_same HO.out fun k hk => bel1.block k (HO.out.lt k hk).2)
          clear bel1 y0 y1 y2
          obtain ⟨y0, y1, y2⟩ := HK.out _ B1.out
          go_wp2_with (fail)
          refine (HCH.out qn hqn (k : Int) _ B1.out).mono ?_
          rintro e w2 ⟨rfl, bel2⟩
          have B2 := Lib.hid (B1.out.trans (bel2.mono B1.out.size))
          have HO2 := Lib.hid (own_same HO1.out fun k hk => bel2.block k (HO1.out.lt k hk).2)
          clear bel2 y0 y1 y2
          obtain ⟨y0, y1, y2⟩ := HK.out _ B2.out
          rw [hcb]
          go_wp2_with (fail)
          refine (HF0.out _ B2.out).mono ?_
          rintro e w3 ⟨rfl, bel3⟩
          have B3 := Lib.hid (B2.out.trans (bel3.mono B2.out.size))
          have HO3 := Lib.hid (own_same HO2.out fun k hk => bel3.block k (HO2.out.lt k hk).2)
          clear bel3 y0 y1 y2 hcb
          have hsz1 := B3.out.size
          go_wp2_with (at_builtin; refine wpList_append_own _ rfl _ _ 56 rfl w0.heap.size 59 i3 (.agg #[.int .i64 0, .int .i64 0, .int .i64 0]) 3 24 Tryd.underlying56 HI.out HZ0.out HZ1.out HZ2.out rfl (by decide) _ _ _ rfl (HO3.out.alloc _) ⟨w3.heap.size, 0, none⟩ 1 1 [.int .i64 k, .int .i64 p, .int .i64 qn] rfl rfl ?c1 ?c2 ?c3 ?c4 ?c5 ?_)
          case c1 => exact three_new _ _ _ _ _
          case c2 => intro u hu; simp at hu; rcases hu with rfl | rfl | rfl <;> rfl
          case c3 => unfold maxLen; omega
          case c4 => omega
          case c5 => simp; omega
          intro v' w4 hown' hgrow _
          have hb2 := Lib.hid ((B3.out.alloc hsz1 (.cells #[.int .i64 k, .int .i64 p, .int .i64 qn] 59)).grown hgrow (by simp; omega) (fun q hq => (HO3.out.lt q hq).1))
          have hown2 : w4.ownsRow w0.heap.size 59 3 v' (mgU N s (k + 1)).length ((flA (mgU N s (k + 1))).map (Value.int .i64)) := by
            rw [HLN.out, HS.out, flA_app, List.map_append, HAR.out]; exact hown'
          have hown1 := Lib.hid hown2
          clear hown' hgrow hown2 hsz1
          go_wp2
          go_roundw
          case rel => exact ⟨k + 1, by omega, by go_num, hown1.out, hb2.out⟩
          case measure => simp [intOf]; omega
        | false =>
          have HS := Lib.hid (HNO.out (by rintro ⟨_, e⟩; rw [hcb] at e; cases e))
          have HO1 := HO.out
          rw [← HS.out] at HO1
          have HOX := Lib.hid HO1
          clear hin hq HO1
          go_wp2_with (fail)
          refine HTT.out.mono ?_
          rintro e w1 ⟨rfl, bel1⟩
          have B1 := Lib.hid (HB.out.trans (bel1.mono HB.out.size))
          have b1s := bel1.size
          have HO1 := Lib.hid (own_same HOX.out fun k hk => bel1.block k (HOX.out.lt k hk).2)
          clear bel1 y0 y1 y2
          obtain ⟨y0, y1, y2⟩ := HK.out _ B1.out
          go_wp2_with (fail)
          refine (HCH.out qn hqn (k : Int) _ B1.out).mono ?_
          rintro e w2 ⟨rfl, bel2⟩
          have B2 := Lib.hid (B1.out.trans (bel2.mono B1.out.size))
          have HO2 := Lib.hid (own_same HO1.out fun k hk => bel2.block k (HO1.out.lt k hk).2)
          clear bel2 y0 y1 y2
          rw [hcb]
          clear hcb
          go_wp2
          go_roundw
          case rel => exact ⟨k + 1, by omega, by go_num, HO2.out, B2.out⟩
          case measure => simp [intOf]; omega
      · have hd : decide (0 ≤ q) = false := decide_eq_false hq
        have HS := Lib.hid (HNO.out (by rintro ⟨e, _⟩; exact hq e))
        have HO1 := HO.out
        rw [← HS.out] at HO1
        have HOX := Lib.hid HO1
        clear hin hq HO1
        go_wp2_with (fail)
        refine HTT.out.mono ?_
        rintro e w1 ⟨rfl, bel1⟩
        have B1 := Lib.hid (HB.out.trans (bel1.mono HB.out.size))
        have HO1 := Lib.hid (own_same HOX.out fun k hk => bel1.block k (HOX.out.lt k hk).2)
        clear bel1 y0 y1 y2
        go_wp2
        go_roundw
        case rel => exact ⟨k + 1, by omega, by go_num, HO1.out, B1.out⟩
        case measure => simp [intOf]; omega
    · have hkl : k = N.w.length := by omega
      subst hkl
      have hO := HO.out
      obtain ⟨A5, c5, rfl⟩ := own_shape3 hO
      have HG : Hid (GivesA w (mgU N s N.w.length) (.returned (.slice A5 (mgU N s N.w.length).length c5)) wr) := Lib.hid ⟨A5, c5, rfl, hO.mono (by omega), HB0.out.trans (HB.out.mono HB0.out.size)⟩
      clear hO
      go_wp2
      go_ret
      exact HG.out
end Go.Proofs.YtlcapifgpcimpaaDoor
