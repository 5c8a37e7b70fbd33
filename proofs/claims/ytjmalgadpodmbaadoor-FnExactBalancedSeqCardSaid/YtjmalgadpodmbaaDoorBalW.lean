/- BalancedSeq of the program and of the model. -/
import Derived.Test.YtjmalgadpodmbaaDoorBal
namespace Go.Proofs.YtjmalgadpodmbaaDoor
open Go.ChangeShapes Go.WideShapes Go.ChangeAt Go.RowKit Go.Maps

theorem balQ_noI {qs : List (List Int)} {a : Int} (h1 : 1 ≤ a) (h8 : a ≤ 8) (h : bal a qs ≠ 0) : balQ qs = false :=
  balQ_no (k := (a - 1).toNat) (by omega) (by rw [show (((a - 1).toNat : Nat) : Int) + 1 = a by omega]; exact h)
theorem balQ_yesI {qs : List (List Int)} (hv : validQ qs = true) (h : ∀ b : Int, 1 ≤ b → b < 9 → bal b qs = 0) : balQ qs = true :=
  balQ_yes hv fun k hk => h _ (by omega) (by omega)
theorem bal_next {qs : List (List Int)} {a : Int} (h : ∀ b : Int, 1 ≤ b → b < a → bal b qs = 0) (h0 : bal a qs = 0) : ∀ b : Int, 1 ≤ b → b < a + 1 → bal b qs = 0 := fun b h1 h2 => by
  by_cases e : b = a
  · subst e; exact h0
  · exact h b h1 (by omega)

set_option maxRecDepth 100000 in
set_option maxHeartbeats 4000000 in
theorem balSeq_impl (A : Option Addr) (n c : Nat) (qs : List (List Int)) (w : World) (h : RdQ w w.heap.size A n qs) (hn : n ≤ maxLen) (ht : Arit w) :
    Calls Tryd.prog 21 #[.agg #[.slice A n c]] w fun e w' => e = .returned (.bool (balQ qs)) ∧ Below w.heap.size w w' := by
  have hl := h.len
  subst hl
  have hb := box_below w (.slice A qs.length c) 26
  have hc1 : (w.alloc (.cells #[Value.slice A qs.length c] 26)).cell? ⟨w.heap.size, 0, none⟩ = some (.slice A qs.length c) := by simp
  have hs1 : w.heap.size < (w.alloc (.cells #[Value.slice A qs.length c] 26)).heap.size := by simp
  obtain ⟨w1, hw1⟩ : ∃ x, x = w.alloc (.cells #[Value.slice A qs.length c] 26) := ⟨_, rfl⟩
  have hc1' := hc1
  rw [← hw1] at hb hc1' hs1
  have h1 := (h.below hb).more hb.size
  have hV := validSeq_impl A qs.length c qs w1 h1 hn (ht.below hb ht.lt)
  have HB := Lib.hid hb
  cases hv : validQ qs with
  | false =>
    rw [hv] at hV
    have HV := Lib.hid hV
    have HE : Hid (false = balQ qs) := Lib.hid (balQ_inv hv).symm
    clear hV h h1 ht hb
    go_enter Tryd.func21, Tryd.ntmps21
    go_wp2_with (fail)
    rw [← hw1]
    refine HV.out.mono ?_
    rintro e w2 ⟨rfl, bel2⟩
    have HB2 := Lib.hid (HB.out.trans (bel2.mono HB.out.size))
    clear bel2
    go_wp2
    go_ret
    exact ⟨ret_bool' HE.out, HB2.out⟩
  | true =>
    rw [hv] at hV
    have HV := Lib.hid hV
    have h10 := validQ_len hv
    have HALL := Lib.hid (validQ_all hv)
    have HVQ := Lib.hid hv
    have hlv := lvs_len qs
    clear hV h hv
    go_enter Tryd.func21, Tryd.ntmps21
    go_wp2_with (fail)
    rw [← hw1]
    clear hw1 hc1
    refine HV.out.mono ?_
    rintro e w2 ⟨rfl, bel2⟩
    have b2 := hb.trans (bel2.mono hb.size)
    have hc2 := (bel2.cell (p := ⟨w.heap.size, 0, none⟩) hs1).trans hc1'
    have HLC := Lib.hid (leafCounts_any A qs.length c qs w2 ((h1.below bel2).more bel2.size) (by omega) (ht.below b2 ht.lt))
    have HB2 := Lib.hid b2
    clear bel2 b2 hb h1 HV hc1' ht
    go_wp2_with (fail)
    refine HLC.out.mono ?_
    rintro e w3 ⟨b, D, rfl, hmap, hcd, bel3⟩
    have HB3 := Lib.hid (HB2.out.trans (bel3.mono HB2.out.size))
    have HM := Lib.hid hmap; have HCD := Lib.hid hcd
    clear hmap hcd bel3 hc2
    go_wp2_with (fail)
    go_loop [4] (fun i => ∃ a : Int, 1 ≤ a ∧ a ≤ 9 ∧ i = .int .i64 a ∧ ∀ b : Int, 1 ≤ b → b < a → bal b qs = 0) (fun i => (9 - intOf i).toNat)
    case atStart => exact ⟨1, by omega, by omega, rfl, fun j h1 h2 => absurd h1 (by omega)⟩
    case round =>
      obtain ⟨a, ha1, ha9, rfl, hz⟩ := hrel
      by_cases hlt : a ≤ 8
      · have hbl := bal_lvs HALL.out ha1 hlt
        have hk1 : keyOf Tryd.prog 2 (.int .i64 a) = some (.int .i64 a) := keyOf_int_mk Tryd.underlying2 (WalkArith.wf_i64 (by omega))
        have hk2 : keyOf Tryd.prog 2 (.int .i64 (-a)) = some (.int .i64 (-a)) := keyOf_int_mk Tryd.underlying2 (WalkArith.wf_i64 (by omega))
        obtain ⟨N1, hN1⟩ : ∃ N, (lvs qs).count a = N := ⟨_, rfl⟩
        obtain ⟨N2, hN2⟩ : ∃ N, (lvs qs).count (-a) = N := ⟨_, rfl⟩
        rw [hN1, hN2] at hbl
        have HN1 := Lib.hid hN1; have HN2 := Lib.hid hN2; have HZ := Lib.hid hz
        clear hN1 hN2 hz
        by_cases hb0 : bal a qs = 0
        · have hne : ((N1 : Int) != (N2 : Int)) = false := by simp; omega
          have HZ' := Lib.hid (bal_next HZ.out hb0)
          clear hbl hb0
          have tok1 : True := trivial
          go_wp2_with (first
            | (at_lookup; have _t := tok1; refine wpList_lookup_own_int _ rfl _ _ 65 rfl 2 3 .i64 law64 Tryd.underlying65 Tryd.underlying3 (zeroI _) b 240 _ rfl HM.out _ _ rfl hk1 ?_; intro cc hat hwc; obtain rfl := (HCD.out.at hat).trans (congrArg Nat.cast HN1.out); clear hat hwc tok1)
            | (at_lookup; refine wpList_lookup_own_int _ rfl _ _ 65 rfl 2 3 .i64 law64 Tryd.underlying65 Tryd.underlying3 (zeroI _) b 240 _ rfl HM.out _ _ rfl hk2 ?_; intro cc hat hwc; obtain rfl := (HCD.out.at hat).trans (congrArg Nat.cast HN2.out); clear hat hwc))
          go_round
          case rel => exact ⟨a + 1, by omega, by omega, by go_num, HZ'.out⟩
          case measure => simp [intOf]; omega
        · have hne : ((N1 : Int) != (N2 : Int)) = true := by simp; omega
          have HE : Hid (false = balQ qs) := Lib.hid (balQ_noI ha1 hlt hb0).symm
          clear hbl hb0
          have tok1 : True := trivial
          go_wp2_with (first
            | (at_lookup; have _t := tok1; refine wpList_lookup_own_int _ rfl _ _ 65 rfl 2 3 .i64 law64 Tryd.underlying65 Tryd.underlying3 (zeroI _) b 240 _ rfl HM.out _ _ rfl hk1 ?_; intro cc hat hwc; obtain rfl := (HCD.out.at hat).trans (congrArg Nat.cast HN1.out); clear hat hwc tok1)
            | (at_lookup; refine wpList_lookup_own_int _ rfl _ _ 65 rfl 2 3 .i64 law64 Tryd.underlying65 Tryd.underlying3 (zeroI _) b 240 _ rfl HM.out _ _ rfl hk2 ?_; intro cc hat hwc; obtain rfl := (HCD.out.at hat).trans (congrArg Nat.cast HN2.out); clear hat hwc))
          go_ret
          exact ⟨ret_bool' HE.out, HB3.out⟩
      · have hk8 : a = 9 := by omega
        subst hk8
        have HE : Hid (true = balQ qs) := Lib.hid (balQ_yesI HVQ.out hz).symm
        clear hz
        go_wp2
        go_ret
        exact ⟨ret_bool' HE.out, HB3.out⟩

set_option maxRecDepth 100000 in
set_option maxHeartbeats 4000000 in
theorem sBalSeq_any (A : Option Addr) (n c : Nat) (qs : List (List Int)) (w : World) (h : RdQ w w.heap.size A n qs) (hn : n ≤ 1048576) (hnc : n ≤ c) :
    Calls Tryd.prog 35 #[.agg #[.slice A n c]] w fun e w' => e = .returned (.bool (balQ qs)) ∧ Below w.heap.size w w' := by
  have hl := h.len
  subst hl
  have hb := box_below w (.slice A qs.length c) 26
  have hc1 : (w.alloc (.cells #[Value.slice A qs.length c] 26)).cell? ⟨w.heap.size, 0, none⟩ = some (.slice A qs.length c) := by simp
  have hs1 : w.heap.size < (w.alloc (.cells #[Value.slice A qs.length c] 26)).heap.size := by simp
  obtain ⟨w1, hw1⟩ : ∃ x, x = w.alloc (.cells #[Value.slice A qs.length c] 26) := ⟨_, rfl⟩
  have hc1' := hc1
  rw [← hw1] at hb hc1' hs1
  have h1 := (h.below hb).more hb.size
  have hV := sValidSeq_any A qs.length c qs w1 h1 hn hnc
  have HB := Lib.hid hb
  cases hv : validQ qs with
  | false =>
    rw [hv] at hV
    have HV := Lib.hid hV
    have HE : Hid (false = balQ qs) := Lib.hid (balQ_inv hv).symm
    clear hV h h1 hb
    go_enter Tryd.func35, Tryd.ntmps35
    go_wp2_with (fail)
    rw [← hw1]
    refine HV.out.mono ?_
    rintro e w2 ⟨rfl, bel2⟩
    have HB2 := Lib.hid (HB.out.trans (bel2.mono HB.out.size))
    clear bel2
    go_wp2
    go_ret
    exact ⟨ret_bool' HE.out, HB2.out⟩
  | true =>
    rw [hv] at hV
    have HV := Lib.hid hV
    have h10 := validQ_len hv
    have HVQ := Lib.hid hv
    clear hV h hv
    go_enter Tryd.func35, Tryd.ntmps35
    go_wp2_with (fail)
    rw [← hw1]
    clear hw1 hc1
    refine HV.out.mono ?_
    rintro e w2 ⟨rfl, bel2⟩
    have HB2 := Lib.hid (hb.trans (bel2.mono hb.size))
    have hc2 := (bel2.cell (p := ⟨w.heap.size, 0, none⟩) hs1).trans hc1'
    have h2 := (h1.below bel2).more bel2.size
    clear bel2 hb h1 HV hc1' hs1
    go_wp2_with (fail)
    go_loopw [3] (fun i wr => ∃ a : Int, 1 ≤ a ∧ a ≤ 9 ∧ i = .int .i64 a ∧ (∀ b : Int, 1 ≤ b → b < a → bal b qs = 0) ∧ ∃ m, wr = w2.drewN m) (fun i _ => (9 - intOf i).toNat)
    case atStart => exact ⟨1, by omega, by omega, rfl, fun j h1 h2 => absurd h1 (by omega), 0, rfl⟩
    case round =>
      obtain ⟨a, ha1, ha9, rfl, hz, hdr0⟩ := hrel
      have HZ := Lib.hid hz
      clear hz
      by_cases hlt : a ≤ 8
      · go_wp2_with (fail)
        go_loopw [4, 5] (fun s i wr => ∃ j : Nat, j ≤ qs.length ∧ i = .int .i64 j ∧ s = .int .i64 (bal a (qs.take j)) ∧ ∃ m, wr = w2.drewN m) (fun _ i _ => qs.length - (intOf i).toNat)
        case atStart => exact ⟨0, Nat.zero_le _, rfl, by simp [bal], hdr0⟩
        case round =>
          obtain ⟨j, hj, rfl, rfl, hdr⟩ := hrel
          have hcq := drewN_cell hdr hc2
          by_cases hjl : j < qs.length
          · obtain ⟨b, off, rfl, hbb, hcells⟩ := h2.2 (by omega)
            obtain ⟨A', c', hcell, hcc, hrd⟩ := hcells j hjl
            have hbt := bal_take (a := a) hjl
            have hbd := bal_bd a (qs.take j)
            rw [List.length_take] at hbd
            have hb1 := cntZ_bd (qs.getD j []) a
            have hb2 := cntZ_bd (qs.getD j []) (-a)
            have HS : Hid (∀ (t : Nat) (x : Int), Calls Tryd.prog 76 #[.slice A' (qs.getD j []).length c', .int .i64 x] (wr.drewN t) fun e w' => e = .returned (.int .i64 (cntZ (qs.getD j []) x)) ∧ w' = wr.drewN t) := Lib.hid (fun t x =>
              (sSymbolCount_any A' (qs.getD j []).length c' (qs.getD j []) x (wr.drewN t) (show RdI wr wr.heap.size A' (qs.getD j []).length (qs.getD j []) from by obtain ⟨m, rfl⟩ := hdr; exact hrd)).mono fun e w' he => ⟨he.1, he.2.symm⟩)
            have hcl := drewN_cell hdr hcell
            have HDR := Lib.hid hdr
            have HBT := Lib.hid hbt
            clear hbt hcells hrd h2 hdr hdr0 hcell hc2
            generalize qs.getD j [] = q at *
            generalize q.length = M at *
            generalize bal a (qs.take j) = B at *
            go_wp2_with (fail)
            go_quiet (first | (go_at_call 76; refine Calls.quiet_of_same (HS.out _ _)))
            go_wp2
            go_roundw
            case rel => exact ⟨j + 1, by omega, by go_num, by rw [HBT.out]; go_num, drewN_more HDR.out _⟩
            case measure => simp [intOf]; omega
          · have hje : j = qs.length := by omega
            subst hje
            rw [List.take_of_length_le (Nat.le_refl _)]
            by_cases hb0 : bal a qs = 0
            · have hne : (bal a qs != 0) = false := by simp [hb0]
              have HZ' := Lib.hid (bal_next HZ.out hb0)
              generalize bal a qs = B at *
              clear hb0
              go_wp2
              go_roundw
              case rel => exact ⟨a + 1, by omega, by omega, by go_num, HZ'.out, hdr⟩
              case measure => simp [intOf]; omega
            · have hne : (bal a qs != 0) = true := by simp [hb0]
              have HE : Hid (false = balQ qs) := Lib.hid (balQ_noI ha1 hlt hb0).symm
              generalize bal a qs = B at *
              clear hb0
              go_wp2
              go_ret
              exact ⟨ret_bool' HE.out, HB2.out.trans (drewN_below hdr _)⟩
      · have hk8 : a = 9 := by omega
        subst hk8
        have HE : Hid (true = balQ qs) := Lib.hid (balQ_yesI HVQ.out HZ.out).symm
        go_wp2
        go_ret
        exact ⟨ret_bool' HE.out, HB2.out.trans (drewN_below hdr0 _)⟩
end Go.Proofs.YtjmalgadpodmbaaDoor
