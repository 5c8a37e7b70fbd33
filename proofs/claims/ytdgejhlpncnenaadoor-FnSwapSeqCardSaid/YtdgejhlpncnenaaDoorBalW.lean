/- BalancedSeq of the program and of the model. -/
import Derived.Test.YtdgejhlpncnenaaDoorBal
namespace Go.Proofs.YtdgejhlpncnenaaDoor
open Go.ChangeShapes Go.WideShapes Go.ChangeAt Go.RowKit Go.Maps

theorem balQ_noI {qs : List (List Int)} {a : Int} (h1 : 1 ≤ a) (h8 : a ≤ 8) (h : bal a qs ≠ 0) : balQ qs = false :=
  balQ_no (k := (a - 1).toNat) (by omega) (by rw [show (((a - 1).toNat : Nat) : Int) + 1 = a by omega]; exact h)
theorem balQ_yesI {qs : List (List Int)} (hv : validQ qs = true) (h : ∀ b : Int, 1 ≤ b → b < 9 → bal b qs = 0) : balQ qs = true :=
  balQ_yes hv fun k hk => h _ (by omega) (by omega)
theorem bal_next {qs : List (List Int)} {a : Int} (h : ∀ b : Int, 1 ≤ b → b < a → bal b qs = 0) (h0 : bal a qs = 0) : ∀ b : Int, 1 ≤ b → b < a + 1 → bal b qs = 0 := fun b h1 h2 => by
  by_cases e : b = a
  · subst e; exact h0
  · exact h b h1 (by omega)

set_option maxRecDepth 100000 in
set_option maxHeartbeats 4000000 in
theorem balSeq_impl (A : Option Addr) (n c : Nat) (qs : List (List Int)) (w : World) (h : RdQ w w.heap.size A n qs) (hn : n ≤ maxLen) (ht : Arit w) :
    Calls Tryd.prog 21 #[.agg #[.slice A n c]] w fun e w' => e = .returned (.bool (balQ qs)) ∧ Below w.heap.size w w' := by
  have hl := h.len
  subst hl
  have hb := box_below w (.slice A qs.length c) 34
  have hc1 : (w.alloc (.cells #[Value.slice A qs.length c] 34)).cell? ⟨w.heap.size, 0, none⟩ = some (.slice A qs.length c) := by simp
  have hs1 : w.heap.size < (w.alloc (.cells #[Value.slice A qs.length c] 34)).heap.size := by simp
  obtain ⟨w1, hw1⟩ : ∃ x, x = w.alloc (.cells #[Value.slice A qs.length c] 34) := ⟨_, rfl⟩
  have hc1' := hc1
  rw [← hw1] at hb hc1' hs1
  have h1 := (h.below hb).more hb.size
  have hV := validSeq_impl A qs.length c qs w1 h1 hn (ht.below hb ht.lt)
  have HB := Lib.hid hb
  cases hv : validQ qs with
  | false =>
    rw [hv] at hV
    have HV := Lib.hid hV
    have HE : Hid (false = balQ qs) := Lib.hid (balQ_inv hv).symm
    clear hV h h1 ht hb
    go_enter Tryd.func21, Tryd.ntmps21
    go_wp2_with (fail)
    rw [← hw1]
    refine HV.out.mono ?_
    rintro e w2 ⟨rfl, bel2⟩
    have HB2 := Lib.hid (HB.out.trans (bel2.mono HB.out.size))
    clear bel2
    go_wp2
    go_ret
    exact ⟨ret_bool' HE.out, HB2.out⟩
  | true =>
    rw [hv] at hV
    have HV := Lib.hid hV
    have h10 := validQ_len hv
    have HALL := Lib.hid (validQ_all hv)
    have HVQ := Lib.hid hv
    have hlv := lvs_len qs
    clear hV h hv
    go_enter Tryd.func21, Tryd.ntmps21
    go_wp2_with (fail)
    rw [← hw1]
    clear hw1 hc1
    refine HV.out.mono ?_
    rintro e w2 ⟨rfl, bel2⟩
    have b2 := hb.trans (bel2.mono hb.size)
    have hc2 := (bel2.cell (p := ⟨w.heap.size, 0, none⟩) hs1).trans hc1'
    have HLC := Lib.hid (leafCounts_any A qs.length c qs w2 ((h1.below bel2).more bel2.size) (by omega) (ht.below b2 ht.lt))
    have HB2 := Lib.hid b2
    clear bel2 b2 hb h1 HV hc1' ht
    go_wp2_with (fail)
    refine HLC.out.mono ?_
    rintro e w3 ⟨b, D, rfl, hmap, hcd, bel3⟩
    have HB3 := Lib.hid (HB2.out.trans (bel3.mono HB2.out.size))
    have HM := Lib.hid hmap; have HCD := Lib.hid hcd
    clear hmap hcd bel3 hc2
    go_wp2_with (fail)
    go_loop [4] (fun i => ∃ a : Int, 1 ≤ a ∧ a ≤ 9 ∧ i = .int .i64 a ∧ ∀ b : Int, 1 ≤ b → b < a → bal b qs = 0) (fun i => (9 - intOf i).toNat)
    case atStart => exact ⟨1, by omega, by omega, rfl, fun j h1 h2 => absurd h1 (by omega)⟩
    case round =>
      obtain ⟨a, ha1, ha9, rfl, hz⟩ := hrel
      by_cases hlt : a ≤ 8
      · have hbl := bal_lvs HALL.out ha1 hlt
        have hk1 : keyOf Tryd.prog 2 (.int .i64 a) = some (.int .i64 a) := keyOf_int_mk Tryd.underlying2 (WalkArith.wf_i64 (by omega))
        have hk2 : keyOf Tryd.prog 2 (.int .i64 (-a)) = some (.int .i64 (-a)) := keyOf_int_mk Tryd.underlying2 (WalkArith.wf_i64 (by omega))
        obtain ⟨N1, hN1⟩ : ∃ N, (lvs qs).count a = N := ⟨_, rfl⟩
        obtain ⟨N2, hN2⟩ : ∃ N, (lvs qs).count (-a) = N := ⟨_, rfl⟩
        rw [hN1, hN2] at hbl
        have HN1 := Lib.hid hN1; have HN2 := Lib.hid hN2; have HZ := Lib.hid hz
        clear hN1 hN2 hz
        by_cases hb0 : bal a qs = 0
        · have hne : ((N1 : Int) != (N2 : Int)) = false := by simp; omega
          have HZ' := Lib.hid (bal_next HZ.out hb0)
          clear hbl hb0
          have tok1 : True := trivial
          go_wp2_with (first
            | (at_lookup; have _t := tok1; refine wpList_lookup_own_int _ rfl _ _ 67 rfl 2 3 .i64 law64 Tryd.underlying67 Tryd.underlying3 (zeroI _) b 240 _ rfl HM.out _ _ rfl hk1 ?_; intro cc hat hwc; obtain rfl := (HCD.out.at hat).trans (congrArg Nat.cast HN1.out); clear hat hwc tok1)
            | (at_lookup; refine wpList_lookup_own_int _ rfl _ _ 67 rfl 2 3 .i64 law64 Tryd.underlying67 Tryd.underlying3 (zeroI _) b 240 _ rfl HM.out _ _ rfl hk2 ?_; intro cc hat hwc; obtain rfl := (HCD.out.at hat).trans (congrArg Nat.cast HN2.out); clear hat hwc))
          go_round
          case rel => exact ⟨a + 1, by omega, by omega, by go_num, HZ'.out⟩
          case measure => simp [intOf]; omega
        · have hne : ((N1 : Int) != (N2 : Int)) = true := by simp; omega
          have HE : Hid (false = balQ qs) := Lib.hid (balQ_noI ha1 hlt hb0).symm
          clear hbl hb0
          have tok1 : True := trivial
          go_wp2_with (first
            | (at_lookup; have _t := tok1; refine wpList_lookup_own_int _ rfl _ _ 67 rfl 2 3 .i64 law64 Tryd.underlying67 Tryd.underlying3 (zeroI _) b 240 _ rfl HM.out _ _ rfl hk1 ?_; intro cc hat hwc; obtain rfl := (HCD.out.at hat).trans (congrArg Nat.cast HN1.out); clear hat hwc tok1)
            | (at_lookup; refine wpList_lookup_own_int _ rfl _ _ 67 rfl 2 3 .i64 law64 Tryd.underlying67 Tryd.underlying3 (zeroI _) b 240 _ rfl HM.out _ _ rfl hk2 ?_; intro cc hat hwc; obtain rfl := (HCD.out.at hat).trans (congrArg Nat.cast HN2.out); clear hat hwc))
          go_ret
          exact ⟨ret_bool' HE.out, HB3.out⟩
      · have hk8 : a = 9 := by omega
        subst hk8
        have HE : Hid (true = balQ qs) := Lib.hid (balQ_yesI HVQ.out hz).symm
        clear hz
        go_wp2
        go_ret
        exact ⟨ret_bool' HE.out, HB3.out⟩

end Go.Proofs.YtdgejhlpncnenaaDoor
