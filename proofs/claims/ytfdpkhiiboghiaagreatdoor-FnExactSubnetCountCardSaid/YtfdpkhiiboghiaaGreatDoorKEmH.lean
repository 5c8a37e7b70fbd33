/- The program: the subnet sets with a wire in their border; SubnetCount. -/
import Derived.Test.YtfdpkhiiboghiaaGreatDoorKQEmC
import Derived.Deep.RegionHeldLaw
import Derived.Deep.DeepCutAuto
import Derived.BigQuiet
namespace Go.Proofs.YtfdpkhiiboghiaaGreatDoor
set_option linter.unusedSimpArgs false
set_option linter.unusedVariables false
set_option linter.unusedSimpArgs false
set_option linter.unusedVariables false
open Go.ChangeAt Go.ChangeShapes Go.RowKit Go.WideShapes

theorem info_lset : (Tryz.prog.info? 60).map (fun i => (i.zero, i.size, i.bytes)) = some (some (.int .u64 0), 1, 8) := by kernel_rfl
/-- The cells of a row of sets. -/
def clU (ss : List Nat) : List Value := ss.map fun s : Nat => Value.int .u64 (s : Int)
theorem clU_app (ss : List Nat) (s : Nat) : clU (ss ++ [s]) = clU ss ++ [.int .u64 (s : Int)] := by simp [clU]
theorem clU_at {ss : List Nat} {k : Nat} (h : k < ss.length) : (clU ss)[k]? = some (.int .u64 ((ss.getD k 0 : Nat) : Int)) := by simp [clU, List.getD, h]
def GivesU (w : World) (ss : List Nat) (e : Ending) (w' : World) : Prop := ∃ A c, e = .returned (.slice A ss.length c) ∧ w'.ownsRow w.heap.size 60 1 (.slice A ss.length c) ss.length (clU ss) ∧ Below w.heap.size w w'
theorem own_shapeU {w : World} {base n : Nat} {e : TypeId} {v : Value} {xs : List Value} (h : w.ownsRow base e 1 v n xs) : ∃ A c, v = .slice A n c := by
  rcases h.2 with ⟨e, e2⟩ | ⟨g, cap, cur, e, _⟩
  · subst e2; exact ⟨none, 0, e⟩
  · exact ⟨_, _, e⟩
theorem shl_u64e {m : Nat} (h : m ≤ 10) : IntKind.u64.wrap ((2 : Int) ^ m) = ((2 ^ m : Nat) : Int) := pow_u64 (by omega)
set_option maxRecDepth 100000 in
set_option maxHeartbeats 1000000 in
theorem subnetSets_any (h : NH) (N : Nt) (P Q : Option Addr) (c d : Nat) (x : Int) (w : World) (hv : valN N = true) (h10 : N.l.length ≤ 10) (hx : inW N.w.length x = true) (r : RdWr w h N P Q) (ht : Arit w) (hu : Dual w) (hT : Tz w) :
    Calls Tryz.prog 65 #[.agg #[.slice h.A N.w.length h.c, .slice h.L N.l.length h.d, .slice h.C N.c.length h.e, .slice P N.w.length c, .slice Q N.w.length d], .int .i64 x] w (GivesU w (setsL N x)) := by
  obtain ⟨i0, hi0, hz0, hz1, hz2⟩ := info_parts info_lset
  have HI := Lib.hid hi0; have HZ0 := Lib.hid hz0; have HZ1 := Lib.hid hz1; have HZ2 := Lib.hid hz2
  obtain ⟨w0, hw0⟩ : ∃ w0, w0 = w.alloc (.cells #[.slice h.A N.w.length h.c, .slice h.L N.l.length h.d, .slice h.C N.c.length h.e, .slice P N.w.length c, .slice Q N.w.length d] 58) := ⟨_, rfl⟩
  have hb : Below w.heap.size w w0 := by rw [hw0]; exact (Below.refl _ _).alloc (Nat.le_refl _) _
  have hh : w0.heap[w.heap.size]? = some (.cells #[.slice h.A N.w.length h.c, .slice h.L N.l.length h.d, .slice h.C N.c.length h.e, .slice P N.w.length c, .slice Q N.w.length d] 58 (0, 0)) := by rw [hw0]; exact heap_alloc_new _ _
  have hlt0 : w.heap.size < w0.heap.size := by rw [hw0]; simp
  have HK := Lib.hid (fun (wx : World) (hx : Below w0.heap.size w0 wx) => five_cells ((hx.block _ hlt0).trans hh))
  have r0 := r.below hb
  have HR := Lib.hid (fun (wx : World) (hx : Below w0.heap.size w0 wx) => show RdWr wx h N P Q from r0.below hx)
  have HTZ := Lib.hid (fun (wx : World) (hx : Below w0.heap.size w0 wx) => show Tz wx from (hT.below hb hT.lt).below hx (Nat.lt_of_lt_of_le hT.lt hb.size))
  have HT := Lib.hid (fun (wx : World) (hx : Below w0.heap.size w0 wx) => show Arit wx from (ht.below hb ht.lt).below hx (Nat.lt_of_lt_of_le ht.lt hb.size))
  have HU := Lib.hid (fun (wx : World) (hx : Below w0.heap.size w0 wx) => show Dual wx from (hu.below hb hu.lt).below hx (Nat.lt_of_lt_of_le hu.lt hb.size))
  have hpw := pow_le10 h10
  have hsh := shl_u64e h10
  have HS64 : Hid (∀ k, k < 2 ^ N.l.length → k < 18446744073709551616) := Lib.hid fun k hk => by omega
  have HIB := Lib.hid (fun (wx : World) (hw : Below w0.heap.size w0 wx) (k : Nat) (hk : k < 2 ^ N.l.length) => isInBorder_any h N P Q c d k x wx (by omega) (HR.out wx hw) hx (HS64.out k hk))
  have HIC := Lib.hid (fun (wx : World) (hw : Below w0.heap.size w0 wx) (k : Nat) (hk : k < 2 ^ N.l.length) => isClosed_any h N P Q c d k wx hv (HR.out wx hw) (inS_lt hk) (HS64.out k hk) (HTZ.out wx hw))
  have HSN := Lib.hid (fun (wx : World) (hw : Below w0.heap.size w0 wx) (k : Nat) (hk : k < 2 ^ N.l.length) (e : clS N k = true) => subnet_any h N P Q c d k wx hv (HR.out wx hw) (inS_lt hk) (HS64.out k hk) e (HTZ.out wx hw))
  have HSM := Lib.hid (fun (k : Nat) => sbN_small hv k.testBit)
  have HBS := Lib.hid (fun (k : Nat) => bdS_is hv (s := k) hx)
  have HEND : Hid (setU N x (2 ^ N.l.length) = setsL N x) := Lib.hid rfl
  have HB0 := Lib.hid hb
  obtain ⟨y0, y1, y2, y3, y4⟩ := HK.out _ (Below.refl _ w0)
  clear hb hh hlt0 r r0 hx hv ht hu hT hi0 hz0 hz1 hz2
  obtain ⟨M, hM⟩ : ∃ M, 2 ^ N.l.length = M := ⟨_, rfl⟩
  rw [hM] at hpw hsh HS64 HIB HIC HSN HEND
  clear hM
  go_enter Tryz.func65, Tryz.ntmps65
  go_upto_region 1 with (fail)
  rw [← hw0]
  clear hw0
  go_wp2
  clear y0 y1 y2 y3 y4
  go_loopw [5, 12] (fun v i wx => ∃ k : Nat, k ≤ M ∧ i = .int .u64 k ∧ wx.ownsRow w0.heap.size 60 1 v (setU N x k).length (clU (setU N x k)) ∧ Below w0.heap.size w0 wx) (fun _ i _ => M - (intOf i).toNat)
  case atStart => exact ⟨0, Nat.zero_le _, rfl, World.ownsRow_nil _ _ _ _, Below.refl _ _⟩
  case round =>
    obtain ⟨k, hk, rfl, hO, hB⟩ := hrel
    by_cases hlt : k < M
    · obtain ⟨y0, y1, y2, y3, y4⟩ := HK.out _ hB
      have HIX := Lib.hid (HIB.out wr hB k hlt)
      have HCX := Lib.hid (fun wx hx => HIC.out wx hx k hlt)
      have HNX := Lib.hid (fun wx hx => HSN.out wx hx k hlt)
      have HOK : Hid (okS N x k = (bdS N k x && (clS N k && cbV (sbN N k.testBit)))) := Lib.hid (by rw [HBS.out k]; rfl)
      have HY := Lib.hid (fun (e : okS N x k = true) => setU_yes e)
      have HN := Lib.hid (fun (e : okS N x k = false) => setU_no e)
      have hln : (setU N x k).length ≤ 1024 := Nat.le_trans (setU_len _ _ k) (by omega)
      have hku : IntKind.u64.wrap ((k : Int) + 1) = (k : Int) + 1 := by rw [IntKind.wrap_u64]; omega
      have HO := Lib.hid hO; have HB := Lib.hid hB
      have HSX := Lib.hid (HSM.out k)
      clear hO hB
      generalize okS N x k = ok at *
      obtain ⟨L, hL⟩ : ∃ L, setU N x k = L := ⟨_, rfl⟩
      rw [hL] at HO HY HN hln
      clear hL
      generalize bdS N k x = p1 at *
      cases p1 with
      | false =>
        have HS := Lib.hid (HN.out (by rw [HOK.out]; rfl))
        go_wp2_with (fail)
        refine HIX.out.mono ?_
        rintro e w2 ⟨rfl, bel2⟩
        have B2 := Lib.hid (HB.out.trans (bel2.mono HB.out.size))
        have O2 := Lib.hid (own_below HO.out bel2 (Nat.le_refl _))
        clear bel2 y0 y1 y2 y3 y4
        go_wp2
        go_roundw
        case rel => exact ⟨k + 1, by omega, by go_num, by rw [HS.out]; exact O2.out, B2.out⟩
        case measure => simp [intOf]; omega
      | true =>
        obtain ⟨p2, hp2⟩ : ∃ p, clS N k = p := ⟨_, rfl⟩
        rw [hp2] at HOK HCX HNX
        go_wp2_with (fail)
        refine HIX.out.mono ?_
        rintro e w2 ⟨rfl, bel2⟩
        have B2 := Lib.hid (HB.out.trans (bel2.mono HB.out.size))
        have O2 := Lib.hid (own_below HO.out bel2 (Nat.le_refl _))
        clear bel2 y0 y1 y2 y3 y4 hp2
        obtain ⟨y0, y1, y2, y3, y4⟩ := HK.out _ B2.out
        go_wp2_with (fail)
        refine (HCX.out w2 B2.out).mono ?_
        rintro e w3 ⟨rfl, bel3⟩
        have B3 := Lib.hid (B2.out.trans (bel3.mono B2.out.size))
        have O3 := Lib.hid (own_below O2.out bel3 (Nat.le_refl _))
        clear bel3 y0 y1 y2 y3 y4
        cases p2 with
        | false =>
          have HS := Lib.hid (HN.out (by rw [HOK.out]; rfl))
          go_wp2
          go_roundw
          case rel => exact ⟨k + 1, by omega, by go_num, by rw [HS.out]; exact O3.out, B3.out⟩
          case measure => simp [intOf]; omega
        | true =>
          have HNY := Lib.hid (HNX.out w3 B3.out rfl)
          obtain ⟨y0, y1, y2, y3, y4⟩ := HK.out _ B3.out
          generalize sbN N k.testBit = SN at *
          go_wp2_with (fail)
          refine HNY.out.mono ?_
          rintro e w4 ⟨h4, rfl, own4, bel4⟩
          have B4 := Lib.hid (B3.out.trans (bel4.mono B3.out.size))
          have O4 := Lib.hid (own_below O3.out bel4 (Nat.le_refl _))
          have HCO := Lib.hid (parsing_impl h4 SN w4 own4.rd HSX.out (HT.out _ B4.out) (HU.out _ B4.out))
          clear own4 bel4 y0 y1 y2 y3 y4
          generalize cbV SN = p3 at *
          go_wp2_with (fail)
          refine HCO.out.mono ?_
          rintro e w5 ⟨rfl, bel5⟩
          have B5 := Lib.hid (B4.out.trans (bel5.mono B4.out.size))
          have O5 := Lib.hid (own_below O4.out bel5 (Nat.le_refl _))
          have hsz5 := B5.out.size
          clear bel5
          cases p3 with
          | false =>
            have HS := Lib.hid (HN.out (by rw [HOK.out]; rfl))
            go_wp2
            go_roundw
            case rel => exact ⟨k + 1, by omega, by go_num, by rw [HS.out]; exact O5.out, B5.out⟩
            case measure => simp [intOf]; omega
          | true =>
            have HS := Lib.hid (HY.out (by rw [HOK.out]; rfl))
            go_wp2_with (at_builtin; refine wpList_append_own _ rfl _ _ 70 rfl w0.heap.size 60 i0 (.int .u64 0) 1 8 Tryz.underlying70 HI.out HZ0.out HZ1.out HZ2.out rfl (by decide) _ _ _ rfl (O5.out.alloc _) ⟨w5.heap.size, 0, none⟩ 1 1 [.int .u64 k] rfl rfl ?c1 ?c2 ?c3 ?c4 ?c5 ?_)
            case c1 => exact cell_one_new _ _ _
            case c2 => intro u hu; simp at hu; subst hu; rfl
            case c3 => unfold maxLen; omega
            case c4 => omega
            case c5 => simp; omega
            intro v' w6 hown' hgrow _
            have hb2 := Lib.hid ((B5.out.alloc hsz5 (.cells #[.int .u64 k] 60)).grown hgrow (by simp; omega) (fun q hq => (O5.out.lt q hq).1))
            have hown2 : w6.ownsRow w0.heap.size 60 1 v' (setU N x (k + 1)).length (clU (setU N x (k + 1))) := by
              rw [HS.out, List.length_append, clU_app]; exact hown'
            have hown1 := Lib.hid hown2
            clear hown' hgrow hown2 hsz5
            go_wp2
            go_roundw
            case rel => exact ⟨k + 1, by omega, by go_num, hown1.out, hb2.out⟩
            case measure => simp [intOf]; omega
    · have hkk : k = M := by omega
      subst hkk
      rw [HEND.out] at hO
      obtain ⟨A3, c3, rfl⟩ := own_shapeU hO
      have HG : Hid (GivesU w (setsL N x) (.returned (.slice A3 (setsL N x).length c3)) wr) := Lib.hid ⟨A3, c3, rfl, hO.mono HB0.out.size, HB0.out.trans (hB.mono HB0.out.size)⟩
      clear hO hB
      generalize (setsL N x).length = q at *
      go_wp2
      go_ret
      exact HG.out
set_option maxRecDepth 100000 in
set_option maxHeartbeats 1000000 in
theorem hasKingdom_any (h : NH) (N : Nt) (x : Int) (w : World) (r : RdN w w.heap.size h N) (sm : SmallN N) (ht : Arit w) (hu : Dual w) :
    Calls Tryz.prog 63 #[.agg #[.slice h.A N.w.length h.c, .slice h.L N.l.length h.d, .slice h.C N.c.length h.e], .int .i64 x] w fun e w' => e = .returned (.bool (kgB N x)) ∧ Below w.heap.size w w' := by
  obtain ⟨w0, hw0⟩ : ∃ w0, w0 = w.alloc (.cells #[.slice h.A N.w.length h.c, .slice h.L N.l.length h.d, .slice h.C N.c.length h.e] 30) := ⟨_, rfl⟩
  obtain ⟨hb, g0, hsz⟩ := box3_any w (.slice h.A N.w.length h.c) (.slice h.L N.l.length h.d) (.slice h.C N.c.length h.e) 30
  rw [← hw0] at hb g0 hsz
  have HKF := Lib.hid (fun (wx : World) (hx : Below w0.heap.size w0 wx) => three_cells ((hx.block w.heap.size (by omega)).trans g0))
  have HCO := Lib.hid (parsing_impl h N w0 ((r.below hb).more hb.size) sm (ht.below hb ht.lt) (hu.below hb hu.lt))
  have HIW := Lib.hid (fun (wx : World) => isWire_any h.A h.L h.C N.w.length h.c N.l.length h.d N.c.length h.e x wx (Nat.le_trans sm.w (by unfold maxLen; omega)))
  have HKG : Hid (kgB N x = (cbV N && (decide (N.l.length ≤ 10) && inW N.w.length x))) := Lib.hid rfl
  have HB0 := Lib.hid hb
  obtain ⟨y0, y1, y2⟩ := HKF.out _ (Below.refl _ w0)
  have hll := sm.l
  clear hb g0 hsz r sm ht hu
  by_cases h10 : N.l.length ≤ 10
  · have d1 : decide ((N.l.length : Int) ≤ 10) = true := decide_eq_true (by omega)
    have d2 : decide (N.l.length ≤ 10) = true := decide_eq_true h10
    rw [d2, Bool.true_and] at HKG
    clear h10
    generalize cbV N = p at *
    generalize inW N.w.length x = q at *
    cases p with
    | false =>
      have HE := Lib.hid (HKG.out.symm)
      go_enter Tryz.func63, Tryz.ntmps63
      go_upto_region 1 with (fail)
      rw [← hw0]
      clear hw0
      go_wp2_with (fail)
      refine HCO.out.mono ?_
      rintro e w1 ⟨rfl, bel1⟩
      have B1 := Lib.hid (HB0.out.trans (bel1.mono HB0.out.size))
      clear bel1 y0 y1 y2
      go_wp2
      go_ret
      exact ⟨ret_bool HE.out, B1.out⟩
    | true =>
      have HE := Lib.hid (HKG.out.symm)
      go_enter Tryz.func63, Tryz.ntmps63
      go_upto_region 1 with (fail)
      rw [← hw0]
      clear hw0
      go_wp2_with (fail)
      refine HCO.out.mono ?_
      rintro e w1 ⟨rfl, bel1⟩
      have B1 := Lib.hid bel1
      clear bel1 y0 y1 y2
      obtain ⟨y0, y1, y2⟩ := HKF.out _ B1.out
      go_wp2_with (fail)
      refine (HIW.out w1).mono ?_
      rintro e w2 ⟨rfl, bel2⟩
      have B2 := Lib.hid (HB0.out.trans ((B1.out.trans (bel2.mono B1.out.size)).mono HB0.out.size))
      clear bel2 y0 y1 y2
      go_wp2
      go_ret
      exact ⟨ret_bool HE.out, B2.out⟩
  · have d1 : decide ((N.l.length : Int) ≤ 10) = false := decide_eq_false (by omega)
    have d2 : decide (N.l.length ≤ 10) = false := decide_eq_false h10
    have HE : Hid (false = kgB N x) := Lib.hid (by rw [HKG.out, d2]; simp)
    clear h10
    go_enter Tryz.func63, Tryz.ntmps63
    go_upto_region 1 with (fail)
    rw [← hw0]
    clear hw0
    go_wp2
    go_ret
    exact ⟨ret_bool HE.out, HB0.out⟩
set_option maxRecDepth 100000 in
set_option maxHeartbeats 1000000 in
theorem subnetCount_impl (h : NH) (N : Nt) (x : Int) (w : World) (r : RdN w w.heap.size h N) (sm : SmallN N) (ht : Arit w) (hu : Dual w) (hT : Tz w) :
    Calls Tryz.prog 29 #[.agg #[.slice h.A N.w.length h.c, .slice h.L N.l.length h.d, .slice h.C N.c.length h.e], .int .i64 x] w fun e w' => e = .returned (.int .i64 (scX N x)) ∧ Below w.heap.size w w' := by
  obtain ⟨w0, hw0⟩ : ∃ w0, w0 = w.alloc (.cells #[.slice h.A N.w.length h.c, .slice h.L N.l.length h.d, .slice h.C N.c.length h.e] 30) := ⟨_, rfl⟩
  obtain ⟨hb, g0, hsz⟩ := box3_any w (.slice h.A N.w.length h.c) (.slice h.L N.l.length h.d) (.slice h.C N.c.length h.e) 30
  rw [← hw0] at hb g0 hsz
  have HKF := Lib.hid (fun (wx : World) (hx : Below w0.heap.size w0 wx) => three_cells ((hx.block w.heap.size (by omega)).trans g0))
  have HR := Lib.hid (fun (wx : World) (hx : Below w0.heap.size w0 wx) => show RdN wx wx.heap.size h N from (r.below (hb.trans (hx.mono hb.size))).more (Nat.le_trans hb.size hx.size))
  have HTZ := Lib.hid (fun (wx : World) (hx : Below w0.heap.size w0 wx) => show Tz wx from (hT.below hb hT.lt).below hx (Nat.lt_of_lt_of_le hT.lt hb.size))
  have HT := Lib.hid (fun (wx : World) (hx : Below w0.heap.size w0 wx) => show Arit wx from (ht.below hb ht.lt).below hx (Nat.lt_of_lt_of_le ht.lt hb.size))
  have HU := Lib.hid (fun (wx : World) (hx : Below w0.heap.size w0 wx) => show Dual wx from (hu.below hb hu.lt).below hx (Nat.lt_of_lt_of_le hu.lt hb.size))
  have HKG := Lib.hid (hasKingdom_any h N x w0 (HR.out _ (Below.refl _ _)) sm (HT.out _ (Below.refl _ _)) (HU.out _ (Below.refl _ _)))
  have HB0 := Lib.hid hb
  obtain ⟨y0, y1, y2⟩ := HKF.out _ (Below.refl _ w0)
  clear hb g0 hsz r sm ht hu hT
  cases hkg : kgB N x with
  | false =>
    rw [hkg] at HKG
    have HE : Hid (scX N x = -1) := Lib.hid (by unfold scX; rw [if_neg (by rw [hkg]; decide)])
    rw [HE.out]
    clear hkg
    go_enter Tryz.func29, Tryz.ntmps29
    go_upto_region 1 with (fail)
    rw [← hw0]
    clear hw0
    go_wp2_with (fail)
    refine HKG.out.mono ?_
    rintro e w1 ⟨rfl, bel1⟩
    have B1 := Lib.hid (HB0.out.trans (bel1.mono HB0.out.size))
    clear bel1 y0 y1 y2
    go_wp2
    go_ret
    exact ⟨rfl, B1.out⟩
  | true =>
    rw [hkg] at HKG
    obtain ⟨hv, _, h10, hx⟩ := kgB_yes hkg
    have HE : Hid (scX N x = ((setsL N x).length : Int)) := Lib.hid (by unfold scX; rw [if_pos hkg])
    have HW := Lib.hid (fun (wx : World) (hx : Below w0.heap.size w0 wx) => wiredNetOf_any h N wx hv (HR.out wx hx))
    have HSS := Lib.hid (fun (P Q : Option Addr) (c d : Nat) (wx : World) (hw : Below w0.heap.size w0 wx) (rr : RdWr wx h N P Q) => subnetSets_any h N P Q c d x wx hv h10 hx rr (HT.out wx hw) (HU.out wx hw) (HTZ.out wx hw))
    clear hkg hv hx
    go_enter Tryz.func29, Tryz.ntmps29
    go_upto_region 1 with (fail)
    rw [← hw0]
    clear hw0
    go_wp2_with (fail)
    refine HKG.out.mono ?_
    rintro e w1 ⟨rfl, bel1⟩
    have B1 := Lib.hid bel1
    clear bel1 y0 y1 y2
    obtain ⟨y0, y1, y2⟩ := HKF.out _ B1.out
    go_wp2_with (fail)
    refine (HW.out w1 B1.out).mono ?_
    rintro e w2 ⟨P, Q, cP, cQ, rfl, rw2, fp, fq, bel2⟩
    have B2 := Lib.hid (B1.out.trans (bel2.mono B1.out.size))
    have RW := Lib.hid rw2
    clear rw2 fp fq bel2 y0 y1 y2
    go_wp2_with (fail)
    refine (HSS.out P Q cP cQ w2 B2.out RW.out).mono ?_
    rintro e w3 ⟨A3, c3, rfl, own3, bel3⟩
    have B3 := Lib.hid (HB0.out.trans ((B2.out.trans (bel3.mono B2.out.size)).mono HB0.out.size))
    clear own3 bel3
    generalize (setsL N x).length = q at *
    go_wp2
    go_ret
    exact ⟨ret_i64 HE.out.symm, B3.out⟩
end Go.Proofs.YtfdpkhiiboghiaaGreatDoor
