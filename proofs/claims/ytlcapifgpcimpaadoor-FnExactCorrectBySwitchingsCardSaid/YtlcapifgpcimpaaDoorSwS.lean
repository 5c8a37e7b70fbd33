/- The model's ParLinks, SwitchingCount, SwitchingOf. -/
import Derived.Test.YtlcapifgpcimpaaDoorSwM
import Derived.Test.YtlcapifgpcimpaaDoorQPgJ
import Derived.Deep.RegionHeldLaw
import Derived.Deep.DeepCutAuto
import Derived.BigQuiet
namespace Go.Proofs.YtlcapifgpcimpaaDoor
set_option linter.unusedSimpArgs false
set_option linter.unusedVariables false
open Go.ChangeAt Go.ChangeShapes Go.RowKit Go.WideShapes

theorem gives_made {w w' : World} (h : Below w.heap.size w w') : Gives w [] (.returned (.slice (some ⟨w'.heap.size, 0, none⟩) 0 0)) (w'.alloc (.cells #[] 2)) :=
  ⟨_, 0, rfl, (World.ownsRow_made w' #[] 0 (Nat.le_refl _) (by simp [maxLen]) rfl).mono h.size, h.trans (((Below.refl _ w').alloc (Nat.le_refl _) _).mono h.size)⟩
theorem bit_i64 (a : Nat) (h : a < 9223372036854775808) : bits .and .i64 (a : Int) 1 = (a : Int) % 2 := by
  have h1 : (BitVec.ofInt 64 (a : Int)).toNat = a := by
    rw [BitVec.ofInt_natCast, BitVec.toNat_ofNat]; exact Nat.mod_eq_of_lt (by omega)
  show IntKind.i64.wrap ((BitVec.ofInt 64 (a : Int) &&& BitVec.ofInt 64 ((1 : Nat) : Int)).toNat : Int) = _
  have h2 : (BitVec.ofInt 64 ((1 : Nat) : Int)).toNat = 1 := rfl
  have h3 : a &&& 1 = a % 2 := Nat.and_two_pow_sub_one_eq_mod a 1
  rw [BitVec.toNat_and, h1, h2, h3, IntWalk.i64_in _ (by omega)]
  omega
theorem bit_u64 (a : Nat) (h : a < 9223372036854775808) : bits .and .u64 (a : Int) 1 = (a : Int) % 2 := by
  have h3 : a &&& 1 = a % 2 := Nat.and_two_pow_sub_one_eq_mod a 1
  have := bits_and_u64_nat a 1 (by omega) (by omega)
  rw [h3] at this
  exact this.trans (by omega)
set_option maxRecDepth 100000 in
set_option maxHeartbeats 2000000 in
theorem sPars_any (h : NH) (N : Nt) (w : World) (r : RdN w w.heap.size h N) (hl : N.l.length ≤ 1048576) :
    Calls Tryd.prog 49 #[.agg #[.slice h.A N.w.length h.c, .slice h.L N.l.length h.d, .slice h.C N.c.length h.e]] w (Gives w (prkN N)) := by
  obtain ⟨i0, hi0, hz0, hz1, hz2⟩ := info_parts info_i64
  have HI := Lib.hid hi0; have HZ0 := Lib.hid hz0; have HZ1 := Lib.hid hz1; have HZ2 := Lib.hid hz2
  obtain ⟨w0, hw0⟩ : ∃ w0, w0 = w.alloc (.cells #[.slice h.A N.w.length h.c, .slice h.L N.l.length h.d, .slice h.C N.c.length h.e] 35) := ⟨_, rfl⟩
  obtain ⟨hb, hh, hsz⟩ := box3_any w (.slice h.A N.w.length h.c) (.slice h.L N.l.length h.d) (.slice h.C N.c.length h.e) 35
  rw [← hw0] at hb hh hsz
  have hs0 : w.heap.size + 1 ≤ w0.heap.size := by omega
  have HK : Hid (∀ w', Below w0.heap.size w0 w' → w'.cell? ⟨w.heap.size, 0, none⟩ = some (.slice h.A N.w.length h.c) ∧ w'.cell? ⟨w.heap.size, 1, none⟩ = some (.slice h.L N.l.length h.d) ∧ w'.cell? ⟨w.heap.size, 2, none⟩ = some (.slice h.C N.c.length h.e)) := Lib.hid fun w' hw => three_cells ((hw.block _ (by omega)).trans hh)
  have HR := Lib.hid (fun (w' : World) (hw : Below w0.heap.size w0 w') => ((r.below (hb.trans (hw.mono hb.size))).more (Nat.le_trans hb.size hw.size)))
  have HB0 := Lib.hid hb
  have h0 : (w0.alloc (.cells #[] 2)).ownsRow w0.heap.size 2 1 (.slice (some ⟨w.heap.size + 1, 0, none⟩) 0 0) 0 ((kinU 4 N.l 0).map (Value.int .i64)) := by rw [← hsz]; exact World.ownsRow_made w0 #[] 0 (Nat.le_refl _) (by simp [maxLen]) rfl
  have hb1 : Below w0.heap.size w0 (w0.alloc (.cells #[] 2)) := (Below.refl _ _).alloc (Nat.le_refl _) _
  have H0 := Lib.hid h0; have HB1 := Lib.hid hb1
  clear hb hh hsz r hi0 hz0 hz1 hz2 h0 hb1
  go_enter Tryd.func49, Tryd.ntmps49
  go_wp2
  rw [← hw0]
  clear hw0
  go_loopw [3, 4] (fun v i wx => ∃ k : Nat, k ≤ N.l.length ∧ i = .int .i64 k ∧ wx.ownsRow w0.heap.size 2 1 v (kinU 4 N.l k).length ((kinU 4 N.l k).map (Value.int .i64)) ∧ Below w0.heap.size w0 wx) (fun _ i _ => N.l.length - (intOf i).toNat)
  case atStart => exact ⟨0, Nat.zero_le _, rfl, H0.out, HB1.out⟩
  case round =>
    obtain ⟨k, hk, rfl, hO, hB⟩ := hrel
    clear H0 HB1
    obtain ⟨y0, y1, y2⟩ := HK.out _ hB
    by_cases hlt : k < N.l.length
    · obtain ⟨b, off, hA, hbb, hcells⟩ := (HR.out _ hB).2.1.at (by omega)
      obtain ⟨x0, _, _, _⟩ := hcells k hlt
      obtain ⟨l, hl'⟩ : ∃ l, N.l.getD k Lk.nil = l := ⟨_, rfl⟩
      rw [hl'] at x0
      rw [hA] at y1
      have HO := Lib.hid hO; have HB := Lib.hid hB
      have hsz1 := hB.size
      clear hO hB hcells hA
      by_cases hkd : l.k = 4
      · have hd : (l.k == 4) = true := by simpa using hkd
        have HS := Lib.hid (kinU_yes (x := 4) (ls := N.l) (k := k) (by rw [hl']; exact hkd))
        clear hkd hl'
        have hln := kinU_len 4 N.l k
        have HLN : Hid ((kinU 4 N.l (k + 1)).length = (kinU 4 N.l k).length + 1) := Lib.hid (by rw [HS.out]; simp)
        go_wp2_with (at_builtin; refine wpList_append_own _ rfl _ _ 24 rfl w0.heap.size 2 i0 (.int .i64 0) 1 8 Tryd.underlying24 HI.out HZ0.out HZ1.out HZ2.out rfl (by decide) _ _ _ rfl (HO.out.alloc _) ⟨wr.heap.size, 0, none⟩ 1 1 [.int .i64 k] rfl rfl ?c1 ?c2 ?c3 ?c4 ?c5 ?_)
        case c1 => exact cell_one_new _ _ _
        case c2 => intro u hu; simp at hu; subst hu; rfl
        case c3 => unfold maxLen; omega
        case c4 => omega
        case c5 => simp; omega
        intro v' w2 hown' hgrow _
        have hb2 := Lib.hid ((HB.out.alloc hsz1 (.cells #[.int .i64 k] 2)).grown hgrow (by simp; omega) (fun q hq => (HO.out.lt q hq).1))
        have hown2 : w2.ownsRow w0.heap.size 2 1 v' (kinU 4 N.l (k + 1)).length ((kinU 4 N.l (k + 1)).map (Value.int .i64)) := by
          rw [HLN.out, HS.out, List.map_append]; exact hown'
        have hown1 := Lib.hid hown2
        clear hown' hgrow hown2 hsz1
        go_wp2
        go_roundw
        case rel => exact ⟨k + 1, by omega, by go_num, hown1.out, hb2.out⟩
        case measure => simp [intOf]; omega
      · have hd : (l.k == 4) = false := by simpa using hkd
        have HS := Lib.hid (kinU_no (x := 4) (ls := N.l) (k := k) (by rw [hl']; exact hkd))
        have HO1 := HO.out
        rw [← HS.out] at HO1
        have HO2 := Lib.hid HO1
        clear hkd hl' HO1
        go_wp2
        go_roundw
        case rel => exact ⟨k + 1, by omega, by go_num, HO2.out, HB.out⟩
        case measure => simp [intOf]; omega
    · have hkl : k = N.l.length := by omega
      subst hkl
      have HG := Lib.hid (gives_of (ys := prkN N) hO rfl rfl (Nat.le_trans (Nat.le_succ _) hs0) (HB0.out.trans (hB.mono HB0.out.size)))
      clear hO hB
      go_wp2
      go_ret
      exact HG.out
/-- ParLinks. -/
theorem kin_prk {N : Nt} (hv : valN N = true) : kinN N 4 = prkN N := by unfold kinN; rw [hv]; rfl
theorem shl_int {n : Nat} (h : n ≤ 10) : wrap64 ((2 : Int) ^ n) = ((2 ^ n : Nat) : Int) := by
  have : n = 0 ∨ n = 1 ∨ n = 2 ∨ n = 3 ∨ n = 4 ∨ n = 5 ∨ n = 6 ∨ n = 7 ∨ n = 8 ∨ n = 9 ∨ n = 10 := by omega
  rcases this with rfl | rfl | rfl | rfl | rfl | rfl | rfl | rfl | rfl | rfl | rfl <;> (unfold wrap64; decide)
set_option maxRecDepth 100000 in
set_option maxHeartbeats 2000000 in
theorem sSwCount_any (h : NH) (N : Nt) (w : World) (r : RdN w w.heap.size h N) (hn : N.w.length ≤ 1048576) (hl : N.l.length ≤ 1048576) (hc : N.c.length ≤ 1048576) :
    Calls Tryd.prog 46 #[.agg #[.slice h.A N.w.length h.c, .slice h.L N.l.length h.d, .slice h.C N.c.length h.e]] w fun e w' => e = .returned (.int .i64 (scV N)) ∧ Below w.heap.size w w' := by
  obtain ⟨w0, hw0⟩ : ∃ w0, w0 = w.alloc (.cells #[.slice h.A N.w.length h.c, .slice h.L N.l.length h.d, .slice h.C N.c.length h.e] 35) := ⟨_, rfl⟩
  obtain ⟨hb, hh, hsz⟩ := box3_any w (.slice h.A N.w.length h.c) (.slice h.L N.l.length h.d) (.slice h.C N.c.length h.e) 35
  rw [← hw0] at hb hh hsz
  have HK : Hid (∀ w', Below w0.heap.size w0 w' → w'.cell? ⟨w.heap.size, 0, none⟩ = some (.slice h.A N.w.length h.c) ∧ w'.cell? ⟨w.heap.size, 1, none⟩ = some (.slice h.L N.l.length h.d) ∧ w'.cell? ⟨w.heap.size, 2, none⟩ = some (.slice h.C N.c.length h.e)) := Lib.hid fun w' hw => three_cells ((hw.block _ (by omega)).trans hh)
  have HV := Lib.hid (sValidNet_any h N w0 ((r.below hb).more hb.size) hn hl hc)
  have HP := Lib.hid (fun (w' : World) (hw : Below w0.heap.size w0 w') => sPars_any h N w' ((r.below (hb.trans (hw.mono hb.size))).more (Nat.le_trans hb.size hw.size)) hl)
  have HB0 := Lib.hid hb
  have hpl := prkN_len N
  obtain ⟨y0, y1, y2⟩ := three_cells hh
  clear hb hh hsz r
  cases hv : valN N with
  | false =>
    rw [hv] at HV
    rw [scV_inv hv]
    clear hv
    go_enter Tryd.func46, Tryd.ntmps46
    go_wp2_with (fail)
    rw [← hw0]
    clear hw0
    refine HV.out.mono ?_
    rintro e w1 ⟨rfl, bel⟩
    have HG := Lib.hid (HB0.out.trans (bel.mono HB0.out.size))
    clear bel y0 y1 y2 HV
    go_wp2
    go_ret
    exact ⟨rfl, HG.out⟩
  | true =>
    rw [hv] at HV
    by_cases hm : 10 < (prkN N).length
    · have hd : decide (10 < ((prkN N).length : Int)) = true := decide_eq_true (by omega)
      rw [scV_many hm]
      clear hm hv
      go_enter Tryd.func46, Tryd.ntmps46
      go_wp2_with (fail)
      rw [← hw0]
      clear hw0
      refine HV.out.mono ?_
      rintro e w1 ⟨rfl, bel⟩
      have B1 := Lib.hid bel
      clear bel y0 y1 y2 HV
      obtain ⟨y0, y1, y2⟩ := HK.out _ B1.out
      go_wp2_with (fail)
      refine (HP.out _ B1.out).mono ?_
      rintro e w2 ⟨A, c, rfl, own2, bel2⟩
      have B2 := Lib.hid (B1.out.trans (bel2.mono B1.out.size))
      clear bel2 own2 y0 y1 y2
      obtain ⟨y0, y1, y2⟩ := HK.out _ B2.out
      have HG := Lib.hid (HB0.out.trans (B2.out.mono HB0.out.size))
      go_wp2
      go_ret
      exact ⟨rfl, HG.out⟩
    · have hd : decide (10 < ((prkN N).length : Int)) = false := decide_eq_false (by omega)
      have HSH := Lib.hid (shl_int (n := (prkN N).length) (by omega))
      rw [scV_yes hv (by omega)]
      clear hv
      go_enter Tryd.func46, Tryd.ntmps46
      go_wp2_with (fail)
      rw [← hw0]
      clear hw0
      refine HV.out.mono ?_
      rintro e w1 ⟨rfl, bel⟩
      have B1 := Lib.hid bel
      clear bel y0 y1 y2 HV
      obtain ⟨y0, y1, y2⟩ := HK.out _ B1.out
      go_wp2_with (fail)
      refine (HP.out _ B1.out).mono ?_
      rintro e w2 ⟨A, c, rfl, own2, bel2⟩
      have B2 := Lib.hid (B1.out.trans (bel2.mono B1.out.size))
      clear bel2 own2 y0 y1 y2
      obtain ⟨y0, y1, y2⟩ := HK.out _ B2.out
      go_wp2_with (fail)
      refine (HP.out _ B2.out).mono ?_
      rintro e w3 ⟨A3, c3, rfl, own3, bel3⟩
      have HG := Lib.hid (HB0.out.trans ((B2.out.trans (bel3.mono B2.out.size)).mono HB0.out.size))
      clear bel3 own3 y0 y1 y2
      have hcn : IntKind.u64.wrap ((prkN N).length : Int) = ((prkN N).length : Int) := by rw [IntKind.wrap_u64]; omega
      go_wp2
      go_ret
      exact ⟨ret_i64 HSH.out, HG.out⟩
end Go.Proofs.YtlcapifgpcimpaaDoor
