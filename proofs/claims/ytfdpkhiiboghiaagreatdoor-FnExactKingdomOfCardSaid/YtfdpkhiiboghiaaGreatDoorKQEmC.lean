/- The program: is a set of links closed? The program: closedSet. The program's border of a set of links. Made by mkemd.py. The program: the subnet of a closed set; SubNet, BorderOf, IsSubnetSet. -/
import Derived.Test.YtfdpkhiiboghiaaGreatDoorKQEnE
import Derived.Deep.RegionHeldLaw
import Derived.Deep.DeepCutAuto
import Derived.BigQuiet
import Derived.Test.YtfdpkhiiboghiaaGreatDoorKQPaD
import Derived.Test.YtfdpkhiiboghiaaGreatDoorKQDual
import Derived.Test.YtfdpkhiiboghiaaGreatDoorKQNetN
import Derived.Lib.SliceRun
import Derived.Test.YtfdpkhiiboghiaaGreatDoorKQEnA
import Derived.Test.YtfdpkhiiboghiaaGreatDoorKQPaH
import Derived.Test.YtfdpkhiiboghiaaGreatDoorKSqH
namespace Go.Proofs.YtfdpkhiiboghiaaGreatDoor
set_option linter.unusedSimpArgs false
set_option linter.unusedVariables false
section
set_option linter.unusedSimpArgs false
set_option linter.unusedVariables false
open Go.ChangeAt Go.ChangeShapes Go.RowKit Go.WideShapes

theorem clS_no {N : Nt} {s k : Nat} (hk : k < (lkS s).length) (h : inKB N s.testBit ((lkS s).getD k 0) = false) : clS N s = false := by
  unfold clS clKB
  rw [all_bad (d := (0 : Int)) hk h, Bool.and_false]
theorem clS_yes {N : Nt} {s : Nat} (hs : s < 2 ^ 64) (h : (lkS s).all (inKB N s.testBit) = true) : clS N s = !decide (s = 0) := by
  unfold clS clKB
  rw [h, Bool.and_true]
  by_cases e : s = 0
  · subst e; rfl
  · rw [decide_eq_false e]
    cases hl : lkS s with
    | cons x L => rfl
    | nil =>
      exfalso
      refine e (Nat.eq_of_testBit_eq fun k => ?_)
      rw [Nat.zero_testBit]
      cases hb : s.testBit k with
      | false => rfl
      | true =>
        have hk : k < 64 := inS_lt hs k hb
        have : (k : Int) ∈ lkS s := lkS_mem.2 (by rw [hasS_nat hk]; exact hb)
        rw [hl] at this; cases this
theorem inL_len2 (l : Lk) : (inL l).length ≤ 2 := by unfold inL; split <;> simp
set_option maxRecDepth 100000 in
set_option maxHeartbeats 1000000 in
theorem isClosed_any (h : NH) (N : Nt) (P Q : Option Addr) (c d s : Nat) (w : World) (hv : valN N = true) (r : RdWr w h N P Q) (hin : inS N.l.length s) (hs : s < 18446744073709551616) (hT : Tz w) :
    Calls Tryz.prog 105 #[.agg #[.slice h.A N.w.length h.c, .slice h.L N.l.length h.d, .slice h.C N.c.length h.e, .slice P N.w.length c, .slice Q N.w.length d], .int .u64 s] w fun e w' => e = .returned (.bool (clS N s)) ∧ Below w.heap.size w w' := by
  obtain ⟨h48, h48l⟩ := valN_size hv
  obtain ⟨w0, hw0⟩ : ∃ w0, w0 = w.alloc (.cells #[.slice h.A N.w.length h.c, .slice h.L N.l.length h.d, .slice h.C N.c.length h.e, .slice P N.w.length c, .slice Q N.w.length d] 58) := ⟨_, rfl⟩
  have hb : Below w.heap.size w w0 := by rw [hw0]; exact (Below.refl _ _).alloc (Nat.le_refl _) _
  have hh : w0.heap[w.heap.size]? = some (.cells #[.slice h.A N.w.length h.c, .slice h.L N.l.length h.d, .slice h.C N.c.length h.e, .slice P N.w.length c, .slice Q N.w.length d] 58 (0, 0)) := by rw [hw0]; exact heap_alloc_new _ _
  have hlt0 : w.heap.size < w0.heap.size := by rw [hw0]; simp
  have HK := Lib.hid (fun (wx : World) (hx : Below w0.heap.size w0 wx) => five_cells ((hx.block _ hlt0).trans hh))
  have r0 := r.below hb
  have HR := Lib.hid (fun (wx : World) (hx : Below w0.heap.size w0 wx) => show RdWr wx h N P Q from r0.below hx)
  have HLK := Lib.hid (links_any s w0 hs (hT.below hb hT.lt))
  have HB0 := Lib.hid hb
  have HIN : Hid (∀ k, k < (lkS s).length → ∃ j : Nat, (lkS s).getD k 0 = (j : Int) ∧ j < N.l.length) := Lib.hid fun k hk => by
    obtain ⟨j, _, h2, e⟩ := selU_mem.1 (getL_mem (d := (0 : Int)) hk)
    exact ⟨j, e, hin j h2⟩
  have HII := Lib.hid (fun (j : Nat) (hj : j < N.l.length) (x : Int) (hx : x ∈ inL (N.l.getD j Lk.nil)) => in_in hv hj hx)
  have HFR := Lib.hid (fun (x : Int) (hx : inW N.w.length x = true) => fr_lt hv hx)
  have HNO := Lib.hid (fun (k : Nat) (hk : k < (lkS s).length) (e : inKB N s.testBit ((lkS s).getD k 0) = false) => clS_no hk e)
  have HYES := Lib.hid (fun (e : (lkS s).all (inKB N s.testBit) = true) => clS_yes hs e)
  have HLL := Lib.hid (lkS_len s)
  have HC := Lib.hid (fun (x : Int) (wx : World) (hx : -1 ≤ x ∧ x < 64) => containsS_any s x wx hs hx)
  have hs0 : (((s : Nat) : Int) != 0) = !decide (s = 0) := by rw [Bool.eq_iff_iff, Bool.not_eq_true', decide_eq_false_iff_not, bne_iff_ne]; omega
  obtain ⟨y0, y1, y2, y3, y4⟩ := HK.out _ (Below.refl _ w0)
  have HHT := Lib.hid hs
  clear hb hh hlt0 r r0 hin hT hv hs
  go_enter Tryz.func105, Tryz.ntmps105
  go_upto_region 1 with (fail)
  rw [← hw0]
  clear hw0
  go_wp2_with (fail)
  refine HLK.out.mono ?_
  rintro e w1 ⟨A, cA, rfl, own1, bel1⟩
  have B1 := Lib.hid bel1
  have R1 := Lib.hid (RdI.of_own own1)
  clear own1 bel1 y0 y1 y2 y3 y4 HLK
  obtain ⟨KS, hKS⟩ : ∃ q, lkS s = q := ⟨_, rfl⟩
  rw [hKS] at R1 HIN HNO HYES HLL ⊢
  clear hKS
  have hkl : KS.length ≤ 64 := HLL.out
  go_wp2
  go_loopw [12] (fun i wx => ∃ k : Nat, k ≤ KS.length ∧ i = .int .i64 k ∧ (KS.take k).all (inKB N s.testBit) = true ∧ Below w1.heap.size w1 wx) (fun i _ => KS.length - (intOf i).toNat)
  case atStart => exact ⟨0, Nat.zero_le _, rfl, rfl, Below.refl _ _⟩
  case round =>
    obtain ⟨k, hk, rfl, hall, hB⟩ := hrel
    have hB1 := B1.out.trans (hB.mono B1.out.size)
    by_cases hlt : k < KS.length
    · obtain ⟨b, off, hAe, hbb, hcells⟩ := (R1.out.below hB).2 (by omega)
      have x0 := hcells k hlt
      obtain ⟨j, hje, hj⟩ := HIN.out k hlt
      rw [hje] at x0
      obtain ⟨y0, y1, y2, y3, y4⟩ := HK.out _ hB1
      obtain ⟨bL, oL, hLe, hbL, hcL⟩ := (HR.out _ hB1).n.2.1.at (by omega)
      obtain ⟨l0, l1, l2, l3⟩ := hcL j hj
      have HIO := Lib.hid (inputsOf_any (N.l.getD j Lk.nil) wr)
      have HLE2 := inL_len2 (N.l.getD j Lk.nil)
      have HXI := Lib.hid (HII.out j hj)
      have HSTEP : Hid ((inL (N.l.getD j Lk.nil)).all (fun x => s.testBit (frN N x)) = true → (KS.take (k + 1)).all (inKB N s.testBit) = true) := Lib.hid fun e => all_step (d := (0 : Int)) hlt hall (by rw [hje]; unfold inKB; rw [Int.toNat_natCast]; exact e)
      have HBAD : Hid ((inL (N.l.getD j Lk.nil)).all (fun x => s.testBit (frN N x)) = false → clS N s = false) := Lib.hid fun e => HNO.out k hlt (by rw [hje]; unfold inKB; rw [Int.toNat_natCast]; exact e)
      have HB := Lib.hid hB
      have hji : (j : Int) < (N.l.length : Int) := by omega
      generalize N.l.getD j Lk.nil = l at *
      obtain ⟨lk, la, lb, lc⟩ := l
      dsimp only at l0 l1 l2 l3 HIO
      rw [hLe] at y1
      clear hcells hcL hje hall hB hB1 hLe
      subst hAe
      generalize inL ⟨lk, la, lb, lc⟩ = X at *
      go_wp2_with (fail)
      refine HIO.out.mono ?_
      rintro e w2 ⟨A2, c2, rfl, own2, bel2⟩
      have R2 := Lib.hid (RdI.of_own own2)
      have B2 := Lib.hid (HB.out.trans (bel2.mono HB.out.size))
      clear own2 bel2 x0 l0 l1 l2 l3 y0 y1 y2 y3 y4 HIO
      go_wp2
      go_loopw [24] (fun i wx => ∃ m : Nat, m ≤ X.length ∧ i = .int .i64 m ∧ (X.take m).all (fun x => s.testBit (frN N x)) = true ∧ Below w2.heap.size w2 wx) (fun i _ => X.length - (intOf i).toNat)
      case atStart => exact ⟨0, Nat.zero_le _, rfl, rfl, Below.refl _ _⟩
      case round =>
        rename World => wy
        obtain ⟨m, hm, rfl, hall, hB⟩ := hrel
        have hB2 := B2.out.trans (hB.mono B2.out.size)
        have hB1 := B1.out.trans (hB2.mono B1.out.size)
        by_cases hlt2 : m < X.length
        · obtain ⟨b, off, hAe, hbb, hcells⟩ := (R2.out.below hB).2 (by omega)
          have x0 := hcells m hlt2
          have hxi := HXI.out _ (getL_mem (d := (0 : Int)) hlt2)
          have hfr := HFR.out _ hxi
          obtain ⟨_, hx1, hx2⟩ := inW_yes hxi
          obtain ⟨y0, y1, y2, y3, y4⟩ := HK.out _ hB1
          obtain ⟨bp, op, hPe, hbp, cp⟩ := (HR.out _ hB1).p.2 (by omega)
          have xp := cp _ hx1
          rw [lxL_at outL N hx1, ← hx2, hfr.1] at xp
          rw [hx2] at x0
          have HST : Hid (s.testBit (frN N (X.getD m 0)) = true → (X.take (m + 1)).all (fun x => s.testBit (frN N x)) = true) := Lib.hid fun e => all_step (p := fun x => s.testBit (frN N x)) (d := (0 : Int)) hlt2 hall e
          have HBD : Hid (s.testBit (frN N (X.getD m 0)) = false → X.all (fun x => s.testBit (frN N x)) = false) := Lib.hid fun e => all_bad (p := fun x => s.testBit (frN N x)) (d := (0 : Int)) hlt2 e
          have HCC := Lib.hid (HC.out (frN N (X.getD m 0) : Int) wy (by omega))
          rw [hasS_nat (by omega)] at HCC
          have HB := Lib.hid hB
          have hfi := hfr.2
          generalize frN N (X.getD m 0) = f at *
          generalize (X.getD m 0).toNat = x at *
          have hxi2 : (x : Int) < (N.w.length : Int) := by omega
          rw [hPe] at y3
          clear hcells cp hall hB hB1 hB2 hxi hfr hx2 hPe
          subst hAe
          cases hp : s.testBit f with
          | true =>
            rw [hp] at HCC
            have HS2 := Lib.hid (HST.out hp)
            clear hp
            go_wp2_with (fail)
            refine HCC.out.mono ?_
            rintro e w3 ⟨rfl, bel3⟩
            have B3 := Lib.hid (HB.out.trans (bel3.mono HB.out.size))
            clear bel3 x0 xp y0 y1 y2 y3 y4
            go_wp2
            go_roundw
            case rel => exact ⟨m + 1, by omega, by go_num, HS2.out, B3.out⟩
            case measure => simp [intOf]; omega
          | false =>
            rw [hp] at HCC
            have HE := Lib.hid (HBAD.out (HBD.out hp)).symm
            clear hp
            go_wp2_with (fail)
            refine HCC.out.mono ?_
            rintro e w3 ⟨rfl, bel3⟩
            have B3 := Lib.hid (HB0.out.trans ((B1.out.trans ((B2.out.trans ((HB.out.trans (bel3.mono HB.out.size)).mono B2.out.size)).mono B1.out.size)).mono HB0.out.size))
            clear bel3 x0 xp y0 y1 y2 y3 y4
            go_wp2
            go_ret
            exact ⟨ret_bool HE.out, B3.out⟩
        · have hmm : m = X.length := by omega
          subst hmm
          rw [List.take_length] at hall
          have HS2 := Lib.hid (HSTEP.out hall)
          have HBB := Lib.hid hB2
          clear hall hB hB1 hB2
          go_wp2
          go_roundw
          case rel => exact ⟨k + 1, by omega, by go_num, HS2.out, HBB.out⟩
          case measure => simp [intOf]; omega
    · have hkk : k = KS.length := by omega
      subst hkk
      rw [List.take_length] at hall
      have HE := Lib.hid (HYES.out hall).symm
      have HBB := Lib.hid (HB0.out.trans (hB1.mono HB0.out.size))
      clear hall hB hB1
      go_wp2
      go_ret
      exact ⟨ret_bool HE.out, HBB.out⟩
end
section
set_option linter.unusedSimpArgs false
set_option linter.unusedVariables false
open Go.ChangeAt Go.ChangeShapes Go.RowKit Go.WideShapes
end
section
set_option linter.unusedSimpArgs false
set_option linter.unusedVariables false
open Go.ChangeAt Go.ChangeShapes Go.RowKit Go.WideShapes

set_option maxRecDepth 100000 in
set_option maxHeartbeats 1000000 in
theorem indexBor_any (bx : Nat) (d : Int → Bool) (A : Option Addr) (c : Nat) (xs : List Int) (w : World) (r : RdI w w.heap.size A xs.length xs) (hl : xs.length ≤ 1048576)
    (hd : ∀ wx, Below w.heap.size w wx → ∀ x ∈ xs, Calls Tryz.prog 109 #[.int .i64 x, .pointer (some ⟨bx, 0, none⟩), .pointer (some ⟨bx + 1, 0, none⟩)] wx fun e w' => e = .returned (.bool (d x)) ∧ Below (wx).heap.size wx w') :
    Calls Tryz.prog 159 #[.slice A xs.length c, .func (.func 109) #[] #[.pointer (some ⟨bx, 0, none⟩), .pointer (some ⟨bx + 1, 0, none⟩)]] w fun e w' => ((e = .returned (.int .i64 (-1)) ∧ ∀ m, m < xs.length → d (xs.getD m 0) = false) ∨ (∃ k : Nat, e = .returned (.int .i64 k) ∧ k < xs.length ∧ (∀ m, m < k → d (xs.getD m 0) = false) ∧ d (xs.getD k 0) = true)) ∧ Below w.heap.size w w' := by
  have R := Lib.hid (fun (wx : World) (hx : Below w.heap.size w wx) => show RdI wx w.heap.size A xs.length xs from r.below hx)
  have HD := Lib.hid hd
  clear r hd
  go_enter Tryz.func159, Tryz.ntmps159
  go_wp2
  go_loopw [8] (fun i wr => ∃ k : Nat, k ≤ xs.length ∧ i = .int .i64 k ∧ (∀ m, m < k → d (xs.getD m 0) = false) ∧ Below w.heap.size w wr) (fun i _ => xs.length - (intOf i).toNat)
  case atStart => exact ⟨0, Nat.zero_le _, rfl, fun m hm => absurd hm (by omega), Below.refl _ _⟩
  case round =>
    obtain ⟨k, hk, rfl, hno, hB⟩ := hrel
    by_cases hlt : k < xs.length
    · obtain ⟨b, off, rfl, hbb, hcells⟩ := (R.out _ hB).2 (by omega)
      have x0 := hcells k hlt
      have HC := Lib.hid (HD.out _ hB _ (getL_mem (d := (0 : Int)) hlt))
      have HNO := Lib.hid hno; have HB := Lib.hid hB
      have HST : Hid (d (xs.getD k 0) = false → ∀ m, m < k + 1 → d (xs.getD m 0) = false) := Lib.hid fun e m hm => by
        by_cases e2 : m < k
        · exact HNO.out m e2
        · obtain rfl : m = k := by omega
          exact e
      clear hcells hno hB
      cases hdk : d (xs.getD k 0) with
      | true =>
        rw [hdk] at HC
        have HDK := Lib.hid hdk
        clear hdk
        generalize hz : xs.getD k 0 = z at x0 HC
        clear hz
        go_wp2_with (fail)
        refine HC.out.mono ?_
        rintro e w1 ⟨rfl, b1⟩
        have HB1 := Lib.hid (HB.out.trans (b1.mono HB.out.size))
        clear b1 x0
        go_wp2
        go_ret
        exact ⟨.inr ⟨k, rfl, hlt, HNO.out, HDK.out⟩, HB1.out⟩
      | false =>
        rw [hdk] at HC
        have HS := Lib.hid (HST.out hdk)
        clear hdk
        generalize hz : xs.getD k 0 = z at x0 HC
        clear hz
        go_wp2_with (fail)
        refine HC.out.mono ?_
        rintro e w1 ⟨rfl, b1⟩
        have HB1 := Lib.hid (HB.out.trans (b1.mono HB.out.size))
        clear b1 x0
        go_wp2
        go_roundw
        case rel => exact ⟨k + 1, by omega, by go_num, HS.out, HB1.out⟩
        case measure => simp [intOf]; omega
    · have hkl : k = xs.length := by omega
      subst hkl
      have HNO := Lib.hid hno; have HB := Lib.hid hB
      clear hno hB
      go_wp2
      go_ret
      exact ⟨.inl ⟨rfl, HNO.out⟩, HB.out⟩
set_option maxRecDepth 100000 in
set_option maxHeartbeats 1000000 in
theorem delBor_any (bx : Nat) (d : Int → Bool) (A : Option Addr) (c : Nat) (xs : List Int) (w : World) (lo : Nat) (hO : w.ownsRow lo 2 1 (.slice A xs.length c) xs.length (xs.map (Value.int .i64))) (hl : xs.length ≤ 1048576)
    (hd : ∀ wx, w.grownBy wx (Value.slice A xs.length c).ownBlock → ∀ x ∈ xs, Calls Tryz.prog 109 #[.int .i64 x, .pointer (some ⟨bx, 0, none⟩), .pointer (some ⟨bx + 1, 0, none⟩)] wx fun e w' => e = .returned (.bool (d x)) ∧ Below (wx).heap.size wx w') :
    Calls Tryz.prog 111 #[.slice A xs.length c, .func (.func 109) #[] #[.pointer (some ⟨bx, 0, none⟩), .pointer (some ⟨bx + 1, 0, none⟩)]] w (GivesDI w lo (Value.slice A xs.length c).ownBlock (kpI d xs xs.length)) := by
  have HIX := Lib.hid (indexBor_any bx d A c xs w (RdI.of_own hO) hl fun wx hx => hd wx (grown_of_belowP hx _))
  have HO := Lib.hid hO
  have HFAR := Lib.hid hd
  clear hd hO
  go_enter Tryz.func111, Tryz.ntmps111
  go_wp2_with (fail)
  refine HIX.out.mono ?_
  rintro e w1 ⟨hcase, bel⟩
  have GR1 := Lib.hid (grown_of_belowP bel (Value.slice A xs.length c).ownBlock)
  have O1 := Lib.hid (own_below HO.out bel (Nat.le_refl _))
  clear bel
  rcases hcase with ⟨rfl, hall⟩ | ⟨k, rfl, hk, hall, hdk⟩
  · have HK : Hid (kpI d xs xs.length = xs) := Lib.hid (by rw [kpI_all (Nat.le_refl _) hall, List.take_length])
    clear hall
    go_wp2
    go_ret
    exact ⟨A, c, by rw [HK.out]; rfl, by rw [HK.out]; exact O1.out, GR1.out⟩
  · obtain ⟨g, cap, hv, hlo, hhi⟩ := O1.out.form (by omega)
    have hAg : A = some ⟨g, 0, none⟩ ∧ c = cap := by injection hv with x y z; exact ⟨x, z⟩
    obtain ⟨rfl, rfl⟩ := hAg
    have HST := Lib.hid (FltI.start hk hall hdk)
    have hkm : ((k : Int) == -1) = false := by simp <;> omega
    have hcap := own_capI O1.out
    have hw1 : IntKind.i64.wrap ((k : Int) + 1) = (k : Int) + 1 := IntWalk.i64_in _ (by omega)
    clear hall hdk hv HIX
    go_wp2
    go_loopw [5, 6] (fun i j wr => ∃ (jn m : Nat) (cur : List Int), i = .int .i64 m ∧ j = .int .i64 jn ∧ jn ≤ xs.length ∧ FltI d xs cur jn m ∧ wr.ownsRow lo 2 1 (.slice (some ⟨g, 0, none⟩) xs.length c) xs.length (cur.map (Value.int .i64)) ∧ w.grownBy wr (some g)) (fun _ j _ => xs.length - (intOf j).toNat)
    case atStart => exact ⟨k + 1, k, xs, rfl, by go_num, by omega, HST.out, O1.out, GR1.out⟩
    case round =>
      obtain ⟨jn, m, cur, rfl, rfl, hjn, hF, hown, hgr⟩ := hrel
      clear GR1 O1 HST
      have hFl := hF.len; have hFm := hF.lt
      by_cases hlt : jn < xs.length
      · have x0 := hown.cellAt (g := g) jn (by omega)
        have hbk := hF.back jn (Nat.le_refl _) hlt
        rw [List.getElem?_map, show cur[jn]? = some (xs.getD jn 0) by rw [← hbk]; simp [List.getD, show jn < cur.length by omega]] at x0
        have HKP := Lib.hid (fun e => hF.keep hlt e)
        have HDR := Lib.hid (fun e => hF.drop hlt e)
        have HC := Lib.hid (HFAR.out _ hgr _ (getL_mem (d := (0 : Int)) hlt))
        have GU := Lib.hid hgr; have OU := Lib.hid hown
        have x1 : wr.cell? ⟨g, jn, none⟩ = some (.int .i64 (xs.getD jn 0)) := x0
        clear hbk hgr hF hown x0
        generalize xs.getD jn 0 = z at *
        obtain ⟨p, hp⟩ : ∃ p, d z = p := ⟨_, rfl⟩
        rw [hp] at HKP HDR HC
        clear hp
        go_wp2_with (fail)
        refine HC.out.mono ?_
        rintro e u2 ⟨rfl, b2⟩
        have G2 := Lib.hid (grown_transx GU.out (grown_of_belowP b2 (some g)))
        have O2 := Lib.hid (own_below OU.out b2 (Nat.le_refl _))
        clear b2 x1
        cases p with
        | true =>
          have S2 := Lib.hid (HDR.out rfl)
          go_wp2
          go_roundw
          case rel => exact ⟨jn + 1, m, cur, rfl, by go_num, by omega, S2.out, O2.out, G2.out⟩
          case measure => simp [intOf]; omega
        | false =>
          have S2 := Lib.hid (HKP.out rfl)
          obtain ⟨d0, e0⟩ : ∃ x, u2.cell? ⟨g, m, none⟩ = some x := ⟨_, (O2.out.cellAt (g := g) m (by omega)).trans (List.getElem?_eq_getElem (by rw [List.length_map]; omega))⟩
          have fr0 := O2.out.frozenAt (g := g) m
          have own5 := O2.out.stored m (.int .i64 z)
          rw [← List.map_set] at own5
          have O5 := Lib.hid own5.1
          have G5 := Lib.hid (grown_transx G2.out own5.2)
          have hml2 : (m : Int) < (xs.length : Int) := by omega
          have hwm : IntKind.i64.wrap ((m : Int) + 1) = (m : Int) + 1 := IntWalk.i64_in _ (by omega)
          clear own5
          go_wp2
          go_roundw
          case rel => exact ⟨jn + 1, m + 1, _, by go_num, by go_num, by omega, S2.out, O5.out, G5.out⟩
          case measure => simp [intOf]; omega
      · have hjl : jn = xs.length := by omega
        subst hjl
        have hmn : m < xs.length := by omega
        have hmc : m ≤ c := by omega
        have hnm : ¬ xs.length = m := by omega
        have hcl1 : ∀ ty, (Builtin.clear_ #[24] ty #[.slice (some ⟨g, m, none⟩) (xs.length - m) (c - m)]).run Tryz.prog wr = .ok (.tuple #[]) (wr.setCells g m (List.replicate (xs.length - m) (.int .i64 0))) := fun ty =>
          Lib.run_clear_slice wr _ 2 ty (.int .i64 0) Tryz.underlying24 zeroI64 rfl rfl g m (xs.length - m) (c - m) (by omega) (fun j hj => by rw [hown.cellAt (g := g) (m + j) (by omega), List.getElem?_eq_getElem (by rw [List.length_map]; omega)]; rfl) (fun j _ => hown.frozenAt (g := g) _)
        obtain ⟨xs', o1, o2, o3⟩ := own_setCellsI (List.replicate (xs.length - m) (Value.int .i64 0)) m wr _ hown
        have o4 := own_shortI o1 (show m ≤ xs.length by omega)
        rw [o2, ← List.map_take, hF.front] at o4
        have HM := Lib.hid hF.kept
        have O4 := Lib.hid o4
        have G4 := Lib.hid (grown_transx hgr o3)
        clear hown hgr hF o1 o2 o3 o4
        go_wp2
        go_ret
        exact ⟨some ⟨g, 0, none⟩, c, by rw [← HM.out]; rfl, by rw [← HM.out]; exact O4.out, G4.out⟩
/-- What a closed set, as a number, is. -/
theorem clS_facts {N : Nt} (hv : valN N = true) {s : Nat} (hin : inS N.l.length s) (h : clS N s = true) : lkS s = selU s.testBit N.l.length ∧ ClK N s.testBit ∧ selU s.testBit N.l.length ≠ [] ∧ 0 < (kpW N s.testBit N.w.length).length := by
  have h48 := (valN_size hv).2
  have e := inS_lks hin (by omega)
  unfold clS at h
  rw [e] at h
  have hcl := clKB_yes h
  have hne : selU s.testBit N.l.length ≠ [] := by
    intro q
    unfold clKB at h
    rw [q] at h; simp at h
  exact ⟨e, hcl, hne, cl_outs hv hne hcl⟩
set_option maxRecDepth 100000 in
set_option maxHeartbeats 600000 in
theorem border1_any (bx : Nat) (h : NH) (N : Nt) (P Q : Option Addr) (c d s : Nat) (x : Int) (w : World) (hl : N.l.length ≤ 48) (y : w.heap[bx]? = some (.cells #[.slice h.A N.w.length h.c, .slice h.L N.l.length h.d, .slice h.C N.c.length h.e, .slice P N.w.length c, .slice Q N.w.length d] 58 (0, 0))) (y2 : w.heap[bx + 1]? = some (.cells #[.int .u64 s] 60 (0, 0))) (r : RdWr w h N P Q) (hx : inW N.w.length x = true) (hs : s < 18446744073709551616) :
    Calls Tryz.prog 109 #[.int .i64 x, .pointer (some ⟨bx, 0, none⟩), .pointer (some ⟨bx + 1, 0, none⟩)] w fun e w' => e = .returned (.bool (!bdS N s x)) ∧ Below w.heap.size w w' := by
  have HI := Lib.hid (isInBorder_any h N P Q c d s x w hl r hx hs)
  obtain ⟨a0, a1, a2, a3, a4⟩ := five_cells y
  have a5 : w.cell? ⟨bx + 1, 0, none⟩ = some (.int .u64 s) := cell_of_row _ _ 0 _ _ (0, 0) y2
  clear y y2 r hx hs
  generalize bdS N s x = p at *
  go_enter Tryz.func109, Tryz.ntmps109
  go_wp2_with (fail)
  refine HI.out.mono ?_
  rintro e w1 ⟨rfl, bel1⟩
  have B1 := Lib.hid bel1
  clear bel1 a0 a1 a2 a3 a4 a5
  go_wp2
  go_ret
  exact ⟨rfl, B1.out⟩
theorem two_boxE (w : World) (o p : Obj) : Below w.heap.size w ((w.alloc o).alloc p) ∧ ((w.alloc o).alloc p).heap[w.heap.size]? = some o ∧ ((w.alloc o).alloc p).heap[w.heap.size + 1]? = some p ∧ ((w.alloc o).alloc p).heap.size = w.heap.size + 2 := by
  have h1 : (w.alloc o).heap.size = w.heap.size + 1 := by simp
  refine ⟨((Below.refl _ _).alloc (Nat.le_refl _) _).alloc (by simp) _, ?_, ?_, by simp⟩
  · exact (((Below.refl _ (w.alloc o)).alloc (Nat.le_refl _) p).block _ (by omega)).trans (heap_alloc_new _ _)
  · rw [← h1]; exact heap_alloc_new _ _
set_option maxRecDepth 100000 in
set_option maxHeartbeats 1000000 in
theorem border_any (h : NH) (N : Nt) (P Q : Option Addr) (c d s : Nat) (w : World) (hv : valN N = true) (r : RdWr w h N P Q) (hin : inS N.l.length s) (hs : s < 18446744073709551616) (hcl : clS N s = true) (hT : Tz w) :
    Calls Tryz.prog 58 #[.agg #[.slice h.A N.w.length h.c, .slice h.L N.l.length h.d, .slice h.C N.c.length h.e, .slice P N.w.length c, .slice Q N.w.length d], .int .u64 s] w (Gives w (bdL N s.testBit)) := by
  have hmf : ∀ (fn : Fn) (first cap : Array Value) (w : World), (Instr.makeFunc fn first cap).run Tryz.prog w = .ok (.func fn first cap) w := fun _ _ _ _ => rfl
  obtain ⟨h48, h48l⟩ := valN_size hv
  obtain ⟨elk, hK, hne, hout⟩ := clS_facts hv hin hcl
  obtain ⟨w0, hw0⟩ : ∃ w0, w0 = (w.alloc (.cells #[.slice h.A N.w.length h.c, .slice h.L N.l.length h.d, .slice h.C N.c.length h.e, .slice P N.w.length c, .slice Q N.w.length d] 58)).alloc (.cells #[.int .u64 s] 60) := ⟨_, rfl⟩
  obtain ⟨hb, g0, g1, hsz⟩ := two_boxE w (.cells #[.slice h.A N.w.length h.c, .slice h.L N.l.length h.d, .slice h.C N.c.length h.e, .slice P N.w.length c, .slice Q N.w.length d] 58) (.cells #[.int .u64 s] 60)
  rw [← hw0] at hb g0 g1 hsz
  have r0 := r.below hb
  have HK1 := Lib.hid (fun (wx : World) (hx : Below w0.heap.size w0 wx) => (hx.block w.heap.size (by omega)).trans g0)
  have HK2 := Lib.hid (fun (wx : World) (hx : Below w0.heap.size w0 wx) => (hx.block (w.heap.size + 1) (by omega)).trans g1)
  have HKS : Hid (∀ wx : World, Below w0.heap.size w0 wx → wx.cell? ⟨w.heap.size, 0, none⟩ = some (.slice h.A N.w.length h.c) ∧ wx.cell? ⟨w.heap.size, 1, none⟩ = some (.slice h.L N.l.length h.d) ∧ wx.cell? ⟨w.heap.size, 2, none⟩ = some (.slice h.C N.c.length h.e) ∧ wx.cell? ⟨w.heap.size + 1, 0, none⟩ = some (.int .u64 s)) := Lib.hid fun wx hx => by
    obtain ⟨a0, a1, a2, _, _⟩ := five_cells (HK1.out wx hx)
    exact ⟨a0, a1, a2, cell_of_row _ _ 0 _ _ (0, 0) (HK2.out wx hx)⟩
  have HR := Lib.hid (fun (wx : World) (hx : Below w0.heap.size w0 wx) => show RdWr wx h N P Q from r0.below hx)
  have HLK := Lib.hid (fun (wx : World) (hx : Below w0.heap.size w0 wx) => links_any s wx hs ((hT.below hb hT.lt).below hx (Nat.lt_of_lt_of_le hT.lt hb.size)))
  have HOU := Lib.hid (fun (wx : World) (A : Option Addr) (c : Nat) (hx : Below w0.heap.size w0 wx) (rK : RdI wx wx.heap.size A (selU s.testBit N.l.length).length (selU s.testBit N.l.length)) => outputsOfLinks_any h N s.testBit A c wx hv ((HR.out wx hx).n) rK hout)
  have HFIL : Hid (kpI (fun x => !bdS N s x) (kpW N s.testBit N.w.length) (kpW N s.testBit N.w.length).length = bdL N s.testBit) := Lib.hid (by
    rw [kpI_end, ← bdL_filter]
    refine List.filter_congr fun x hx => ?_
    rw [Bool.not_not, bdS_is hv (kpW_mem.1 hx).1])
  have HINW : Hid (∀ x ∈ kpW N s.testBit N.w.length, inW N.w.length x = true) := Lib.hid fun x hx => (kpW_mem.1 hx).1
  have HKL : Hid ((kpW N s.testBit N.w.length).length ≤ 1048576) := Lib.hid (by have := kpW_len N s.testBit N.w.length; omega)
  have HEL := Lib.hid elk
  have HB0 := Lib.hid hb
  have K0 := Lib.hid (HKS.out _ (Below.refl _ w0))
  have BD : Hid (Below w0.heap.size w0 w0.drew) := Lib.hid ((Below.refl w0.heap.size w0).drew)
  clear hb g0 g1 hsz r r0 hin hcl hT hv elk hK hne hout
  go_enter Tryz.func58, Tryz.ntmps58
  go_upto_region 1 with (fail)
  rw [← hw0]
  clear hw0
  go_upto_region 2 with (fail)
  go_region_held3 (fun wx => wx.cell? ⟨w.heap.size, 0, none⟩ = some (.slice h.A N.w.length h.c) ∧ wx.cell? ⟨w.heap.size, 1, none⟩ = some (.slice h.L N.l.length h.d) ∧ wx.cell? ⟨w.heap.size, 2, none⟩ = some (.slice h.C N.c.length h.e) ∧ wx.cell? ⟨w.heap.size + 1, 0, none⟩ = some (.int .u64 s))
    (first | with_reducible exact K0.out | with_reducible exact HKS.out _ BD.out | with_reducible exact HKS.out _ B1.out | with_reducible exact HKS.out _ B2.out | with_reducible exact HKS.out _ B3.out)
    (first
      | (go_at_call 85; refine (HLK.out w0.drew BD.out).mono ?_; rintro e u1 ⟨A1, c1, rfl, own1, bel1⟩; have B1 := Lib.hid (BD.out.trans (bel1.mono BD.out.size)); rw [HEL.out] at own1 ⊢; have R1 := Lib.hid (RdI.of_own own1); clear own1 bel1)
      | (go_at_call 112; refine (HOU.out u1 A1 c1 B1.out R1.out).mono ?_; rintro e u2 ⟨A2, c2, rfl, own2, bel2⟩; have B2 := Lib.hid (B1.out.trans (bel2.mono B1.out.size)); have O2 := Lib.hid own2; have HD := Lib.hid (delBor_any w.heap.size (fun x => !bdS N s x) A2 c2 (kpW N s.testBit N.w.length) u2 u1.heap.size own2 HKL.out (fun wx hx x hm => by
            have hB := B2.out.grown hx B2.out.size fun q hq => Nat.le_trans B1.out.size (O2.out.lt q hq).1
            exact border1_any w.heap.size h N P Q c d s x wx h48l (HK1.out wx hB) (HK2.out wx hB) (HR.out wx hB) (HINW.out x hm) hs)); rw [HFIL.out] at HD; clear own2 bel2)
      | (go_at_call 111; refine HD.out.mono ?_; rintro e u3 ⟨A3, c3, rfl, own3, gr3⟩; have B3 := Lib.hid (B2.out.grown gr3 B2.out.size fun q hq => Nat.le_trans B1.out.size (O2.out.lt q hq).1); have O3 := Lib.hid own3; clear own3 gr3))
  all_goals
    have HG : Hid (Gives w (bdL N s.testBit) (.returned (.slice A3 (bdL N s.testBit).length c3)) u3) := Lib.hid ⟨A3, c3, rfl, O3.out.mono (Nat.le_trans HB0.out.size B1.out.size), HB0.out.trans (B3.out.mono HB0.out.size)⟩
    go_wp2
    go_ret
    exact HG.out
end
section
set_option linter.unusedSimpArgs false
set_option linter.unusedVariables false
open Go.ChangeAt Go.ChangeShapes Go.RowKit Go.WideShapes

theorem set3_heapE {w : World} {g k : Nat} (h : k ≠ g) (v0 v1 v2 : Value) : (((w.setCell ⟨g, 0, none⟩ v0).setCell ⟨g, 1, none⟩ v1).setCell ⟨g, 2, none⟩ v2).heap[k]? = w.heap[k]? :=
  (Below.heap_setCell _ _ _ _ (by show k ≠ g; exact h)).trans ((Below.heap_setCell _ _ _ _ (by show k ≠ g; exact h)).trans (Below.heap_setCell _ _ _ _ (by show k ≠ g; exact h)))
set_option maxRecDepth 100000 in
set_option maxHeartbeats 1000000 in
theorem subnet_any (h : NH) (N : Nt) (P Q : Option Addr) (c d s : Nat) (w : World) (hv : valN N = true) (r : RdWr w h N P Q) (hin : inS N.l.length s) (hs : s < 18446744073709551616) (hcl : clS N s = true) (hT : Tz w) :
    Calls Tryz.prog 50 #[.agg #[.slice h.A N.w.length h.c, .slice h.L N.l.length h.d, .slice h.C N.c.length h.e, .slice P N.w.length c, .slice Q N.w.length d], .int .u64 s] w (CopiedN w (sbN N s.testBit)) := by
  obtain ⟨h48, h48l⟩ := valN_size hv
  obtain ⟨elk, hK, hne, hout⟩ := clS_facts hv hin hcl
  obtain ⟨w0, hw0⟩ : ∃ w0, w0 = (w.alloc (.cells #[.slice h.A N.w.length h.c, .slice h.L N.l.length h.d, .slice h.C N.c.length h.e, .slice P N.w.length c, .slice Q N.w.length d] 58)).alloc (.cells #[.slice none 0 0, .slice none 0 0, .slice none 0 0] 30) := ⟨_, rfl⟩
  obtain ⟨hb, g0, g1, hsz⟩ := two_boxE w (.cells #[.slice h.A N.w.length h.c, .slice h.L N.l.length h.d, .slice h.C N.c.length h.e, .slice P N.w.length c, .slice Q N.w.length d] 58) (.cells #[.slice none 0 0, .slice none 0 0, .slice none 0 0] 30)
  rw [← hw0] at hb g0 g1 hsz
  have hs0 : w.heap.size + 2 ≤ w0.heap.size := by omega
  have r0 := r.below hb
  have HK1 := Lib.hid (fun (wx : World) (hx : Below w0.heap.size w0 wx) => five_cells ((hx.block w.heap.size (by omega)).trans g0))
  have HKS := Lib.hid (fun (wx : World) (hx : Below w0.heap.size w0 wx) (v0 v1 v2 : Value) => five_cells ((set3_heapE (w := wx) (g := w.heap.size + 1) (k := w.heap.size) (by omega) v0 v1 v2).trans ((hx.block w.heap.size (by omega)).trans g0)))
  have HK2 := Lib.hid (fun (wx : World) (hx : Below w0.heap.size w0 wx) => (hx.block (w.heap.size + 1) (by omega)).trans g1)
  have HR := Lib.hid (fun (wx : World) (hx : Below w0.heap.size w0 wx) => show RdWr wx h N P Q from r0.below hx)
  have HTW := Lib.hid (fun (wx : World) (hx : Below w0.heap.size w0 wx) => show Tz wx from (hT.below hb hT.lt).below hx (Nat.lt_of_lt_of_le hT.lt hb.size))
  have HLK := Lib.hid (fun (wx : World) (hx : Below w0.heap.size w0 wx) => links_any s wx hs (HTW.out wx hx))
  have HBO := Lib.hid (fun (wx : World) (hx : Below w0.heap.size w0 wx) => border_any h N P Q c d s wx hv (HR.out wx hx) hin hs hcl (HTW.out wx hx))
  have HBL : Hid ((bdL N s.testBit).length ≤ 1000) := Lib.hid (by have := bdL_len N s.testBit; omega)
  have HNL := Lib.hid (fun (wx : World) (A C : Option Addr) (c d : Nat) (hx : Below w0.heap.size w0 wx) (rK : RdI wx wx.heap.size A (selU s.testBit N.l.length).length (selU s.testBit N.l.length)) (rC : RdI wx wx.heap.size C (bdL N s.testBit).length (bdL N s.testBit)) => show Calls Tryz.prog 106 #[.agg #[.slice h.A N.w.length h.c, .slice h.L N.l.length h.d, .slice h.C N.c.length h.e], .slice A (selU s.testBit N.l.length).length c, .slice C (bdL N s.testBit).length d] wx (CopiedN wx (sbN N s.testBit)) from netOfLinks_any h N s.testBit A C c d (bdL N s.testBit) wx hv (HR.out wx hx).n rK rC hK (fun x hx => bdL_in hx) HBL.out hout)
  have HEL := Lib.hid elk
  have HB0 := Lib.hid hb
  have K0 := Lib.hid (HK1.out _ (Below.refl _ w0))
  have BD : Hid (Below w0.heap.size w0 w0.drew) := Lib.hid ((Below.refl w0.heap.size w0).drew)
  clear hb g0 g1 hsz r r0 hin hcl hT hv elk hK hne hout
  generalize sbN N s.testBit = M at *
  go_enter Tryz.func50, Tryz.ntmps50
  go_upto_region 1 with (fail)
  rw [← hw0]
  clear hw0
  go_region_held3 (fun wx => wx.cell? ⟨w.heap.size, 0, none⟩ = some (.slice h.A N.w.length h.c) ∧ wx.cell? ⟨w.heap.size, 1, none⟩ = some (.slice h.L N.l.length h.d) ∧ wx.cell? ⟨w.heap.size, 2, none⟩ = some (.slice h.C N.c.length h.e) ∧ wx.cell? ⟨w.heap.size, 3, none⟩ = some (.slice P N.w.length c) ∧ wx.cell? ⟨w.heap.size, 4, none⟩ = some (.slice Q N.w.length d))
    (first | with_reducible exact HKS.out _ B3.out _ _ _ | with_reducible exact K0.out | with_reducible exact HK1.out _ BD.out | with_reducible exact HK1.out _ B1.out | with_reducible exact HK1.out _ B2.out | with_reducible exact HK1.out _ B3.out)
    (first
      | (go_at_call 85; refine (HLK.out w0.drew BD.out).mono ?_; rintro e u1 ⟨A1, c1, rfl, own1, bel1⟩; have B1 := Lib.hid (BD.out.trans (bel1.mono BD.out.size)); rw [HEL.out] at own1 ⊢; have R1 := Lib.hid (RdI.of_own own1); clear own1 bel1)
      | (go_at_call 58; refine (HBO.out u1 B1.out).mono ?_; rintro e u2 ⟨A2, c2, rfl, own2, bel2⟩; have B2 := Lib.hid (B1.out.trans (bel2.mono B1.out.size)); have R2 := Lib.hid (RdI.of_own own2); have R1b := Lib.hid ((R1.out.below bel2).more bel2.size); clear own2 bel2)
      | (go_at_call 106; refine (HNL.out u2 A1 A2 c1 c2 B2.out R1b.out R2.out).mono ?_; rintro e u3 ⟨h3, rfl, own3, bel3⟩; have B3 := Lib.hid (B2.out.trans (bel3.mono B2.out.size)); have O3 := Lib.hid (own3.more B2.out.size (Nat.le_refl _)); have Q1 := Lib.hid (HK2.out _ B3.out); obtain ⟨a0, a1, a2⟩ := three_cells Q1.out; have f0 := frozen_of_row _ _ 0 _ _ Q1.out; have f1 := frozen_of_row _ _ 1 _ _ Q1.out; have f2 := frozen_of_row _ _ 2 _ _ Q1.out; clear own3 bel3))
  all_goals
    clear a0 a1 a2 f0 f1 f2
    go_wp2
    (try simp only [Exit.inBlock, Exit.then])
    refine bodyPost_ret (results_cell_row rfl _ _ (w.heap.size + 1) _ _ (0, 0) _ rfl (set3_at Q1.out _ _ _) Tryz.underlying30 rfl (by kernel_rfl)) rfl ?_
    exact nlDone HB0.out B3.out O3.out hs0
end
end Go.Proofs.YtfdpkhiiboghiaaGreatDoor
