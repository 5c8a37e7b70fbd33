/- sort.Sort at a row of at most ten formulas. -/
import Derived.Test.YtdgejhlpncnenaaDoorSrtI
namespace Go.Proofs.YtdgejhlpncnenaaDoor
open Go.ChangeShapes Go.WideShapes Go.ChangeAt Go.RowKit

set_option maxRecDepth 1000000 in
theorem len64_any (k : Nat) (hk : k ≤ 10) (w : World) : Calls Tryd.prog 112 #[.int .u64 k] w fun e w' => (∃ r : Int, e = .returned (.int .i64 r)) ∧ w' = w := by
  have h : k = 0 ∨ k = 1 ∨ k = 2 ∨ k = 3 ∨ k = 4 ∨ k = 5 ∨ k = 6 ∨ k = 7 ∨ k = 8 ∨ k = 9 ∨ k = 10 := by omega
  rcases h with rfl | rfl | rfl | rfl | rfl | rfl | rfl | rfl | rfl | rfl | rfl
  all_goals
    go_enter Tryd.func112, Tryd.ntmps112
    go_wp2
    go_ret
    exact ⟨⟨_, rfl⟩, rfl⟩

theorem len_bits (k : Nat) (hk : k ≤ 10) (w : World) : Calls Tryd.prog 78 #[.int .u64 k] w fun e w' => (∃ r : Int, e = .returned (.int .i64 r)) ∧ w' = w := by
  have H := Lib.hid (len64_any k hk w)
  go_enter Tryd.func78, Tryd.ntmps78
  go_wp2_with (fail)
  refine H.out.mono ?_
  rintro e w' ⟨⟨r, rfl⟩, rfl⟩
  go_wp2
  go_ret
  exact ⟨⟨_, rfl⟩, rfl⟩

/-- The row while it is sorted. -/
def SrtQ (w : World) (lo g n c : Nat) (qs cur : List (List Int)) (wr : World) : Prop := (∃ hs, OwnQ wr lo wr.heap.size (.slice (some ⟨g, 0, none⟩) n c) hs cur) ∧ cur.Perm qs ∧ w.grownBy wr (some g) ∧ lo ≤ wr.heap.size

theorem SrtQ.below {w0 w w' : World} {lo g n c : Nat} {qs cur : List (List Int)} (h : SrtQ w0 lo g n c qs cur w) (hb : Below w.heap.size w w') : SrtQ w0 lo g n c qs cur w' := by
  obtain ⟨⟨hs, ho⟩, hp, hbl, hl⟩ := h
  exact ⟨⟨hs, (ho.below hb).more (Nat.le_refl _) hb.size⟩, hp, grown_below hbl hb, Nat.le_trans hl hb.size⟩
theorem SrtQ.swapped {w0 w w' : World} {lo g n c i j : Nat} {qs cur : List (List Int)} {hs : Nat → Option Addr × Nat} (h : SrtQ w0 lo g n c qs cur w) (hi : i < cur.length) (hj : j < cur.length) (ho : OwnQ w' lo w.heap.size (.slice (some ⟨g, 0, none⟩) n c) hs (swp cur i j)) (hb : w.grownBy w' (some g)) :
    SrtQ w0 lo g n c qs (swp cur i j) w' := by
  obtain ⟨_, hp, hbl, hl⟩ := h
  exact ⟨⟨hs, ho.more (Nat.le_refl _) hb.size⟩, (swp_perm hi hj).trans hp, grownBy_trans hbl hb, Nat.le_trans hl hb.size⟩
theorem SrtQ.arit {w0 w : World} {lo g n c : Nat} {qs cur : List (List Int)} (h : SrtQ w0 lo g n c qs cur w) (ht : Arit w0) (hlo : 0 < lo) : Arit w := by
  obtain ⟨⟨hs, ho⟩, _, hg, _⟩ := h
  have hlg : lo ≤ g := (ho.outer.lt g rfl).1
  exact ht.same fun i => World.cell?_of_block (hg.block _ ht.lt (fun e => by injection e with e; have e' : 0 = g := e; omega))

set_option maxHeartbeats 4000000 in
set_option maxRecDepth 100000 in
theorem insertionSort_any (lo g n c : Nat) (qs : List (List Int)) (w w0 : World) (h : SrtQ w0 lo g n c qs qs w) (hn : qs.length = n) (h2 : 2 ≤ n) (h10 : n ≤ 10) (hv : ∀ q ∈ qs, validB q = true) (ht : Arit w0) (hlo : 0 < lo) :
    Calls Tryd.prog 116 #[.iface 73 (.slice (some ⟨g, 0, none⟩) n c), .int .i64 0, .int .i64 n] w fun e w' => e = .returned (.tuple #[]) ∧ SrtQ w0 lo g n c qs (srtL qs) w' := by
  have mL : ∀ w, (method 291 73 (.slice (some ⟨g, 0, none⟩) n c) "Less").run Tryd.prog w = .ok (190, .slice (some ⟨g, 0, none⟩) n c) w := fun _ => by kernel_rfl
  have mS : ∀ w, (method 291 73 (.slice (some ⟨g, 0, none⟩) n c) "Swap").run Tryd.prog w = .ok (191, .slice (some ⟨g, 0, none⟩) n c) w := fun _ => by kernel_rfl
  have H := Lib.hid h; have HV := Lib.hid hv; have HT := Lib.hid ht; have HN := Lib.hid hn; have HLO := Lib.hid hlo
  clear h hv ht hn hlo
  go_enter Tryd.func116, Tryd.ntmps116
  go_wp2_with (fail)
  go_loopw [6] (fun i wr => ∃ (k : Nat) (cur : List (List Int)), 1 ≤ k ∧ k ≤ n ∧ i = .int .i64 k ∧ SrtQ w0 lo g n c qs cur wr ∧ UpTo cur k) (fun i _ => n - (intOf i).toNat)
  case atStart => exact ⟨1, qs, Nat.le_refl _, by omega, rfl, H.out, fun a b h1 h2 => absurd h2 (by omega)⟩
  case round =>
    obtain ⟨k, cur, hk1, hk2, rfl, hS, hU⟩ := hrel
    have HS := Lib.hid hS; have HU := Lib.hid hU
    clear hS hU
    by_cases hlt : k < n
    · go_wp2_with (fail)
      go_loopw [7] (fun j wx => ∃ (p : Nat) (cu : List (List Int)), p ≤ k ∧ j = .int .i64 p ∧ SrtQ w0 lo g n c qs cu wx ∧ Ins1 cu k p) (fun j _ => (intOf j).toNat)
      case atStart => exact ⟨k, cur, Nat.le_refl _, rfl, HS.out, Ins1.start HU.out⟩
      case round =>
        obtain ⟨p, cu, hp, rfl, hS2, hI⟩ := hrel
        have HS2 := Lib.hid hS2; have HI := Lib.hid hI
        clear hS2 hI HS HU
        have HLN : Hid (cu.length = n) := Lib.hid (HS2.out.2.1.length_eq.trans HN.out)
        by_cases hp0 : p = 0
        · subst hp0
          go_wp2
          go_roundw
          case rel => exact ⟨k + 1, cu, by omega, by omega, by go_num, HS2.out, HI.out.stop (.inl rfl)⟩
          case measure => simp [intOf]; omega
        · have hd : decide ((0 : Int) < (p : Int)) = true := decide_eq_true (by omega)
          obtain ⟨hs, ho⟩ := HS2.out.1
          have hLL := less_any lo _ g n c p (p - 1) hs cu wr ho HLN.out (by omega) (by omega) (fun q hq => HV.out q (HS2.out.2.1.mem_iff.1 hq)) (HS2.out.arit HT.out HLO.out)
          rw [show ((p - 1 : Nat) : Int) = (p : Int) - 1 by omega] at hLL
          by_cases hc : cmpL (cu.getD p []) (cu.getD (p - 1) []) < 0
          · rw [decide_eq_true hc] at hLL
            have HC := Lib.hid hc
            have HLL := Lib.hid hLL
            have HO := Lib.hid ho
            clear hLL hc ho
            go_wp2_with (fail)
            refine HLL.out.mono ?_
            rintro e wl ⟨rfl, bl⟩
            have HSL := Lib.hid (HS2.out.below bl)
            have hoL := (HO.out.below bl).more (Nat.le_refl lo) bl.size
            have hSW := swap_any lo _ g n c p (p - 1) hs cu wl hoL HLN.out (by omega) (by omega)
            rw [show ((p - 1 : Nat) : Int) = (p : Int) - 1 by omega] at hSW
            have HSW := Lib.hid hSW
            have HN1 := Lib.hid (Ins1.step HI.out (by omega) hp (by rw [HLN.out]; exact hlt) HC.out)
            clear hSW hoL bl HLL HC HI HO
            go_wp2_with (fail)
            refine HSW.out.mono ?_
            rintro e wm ⟨rfl, om, bm⟩
            have HSM := Lib.hid (HSL.out.swapped (by rw [HLN.out]; omega) (by rw [HLN.out]; omega) om bm)
            clear om bm HSW HSL
            go_wp2
            go_roundw
            case rel => exact ⟨p - 1, _, by omega, by rw [show ((p - 1 : Nat) : Int) = (p : Int) - 1 by omega], HSM.out, HN1.out⟩
            case measure => simp [intOf]; omega
          · rw [decide_eq_false hc] at hLL
            have HC := Lib.hid hc
            have HLL := Lib.hid hLL
            clear hLL hc ho
            go_wp2_with (fail)
            refine HLL.out.mono ?_
            rintro e wl ⟨rfl, bl⟩
            have HSL := Lib.hid (HS2.out.below bl)
            have HU1 := Lib.hid (HI.out.stop (.inr (by have := HC.out; omega)))
            clear bl HLL HC HI HS2
            go_wp2
            go_roundw
            case rel => exact ⟨k + 1, cu, by omega, by omega, by go_num, HSL.out, HU1.out⟩
            case measure => simp [intOf]; omega
    · have hkn : k = n := by omega
      subst hkn
      have HE : Hid (cur = srtL qs) := Lib.hid (by
        have hl : cur.length = k := HS.out.2.1.length_eq.trans HN.out
        exact srt_same HS.out.2.1 (UpTo.sol (by rw [hl]; exact HU.out)))
      go_wp2
      go_end0
      exact ⟨rfl, by rw [← HE.out]; exact HS.out⟩

set_option maxHeartbeats 2000000 in
theorem pdqsort_any (lo g n c : Nat) (lim : Int) (qs : List (List Int)) (w w0 : World) (h : SrtQ w0 lo g n c qs qs w) (hn : qs.length = n) (h2 : 2 ≤ n) (h10 : n ≤ 10) (hv : ∀ q ∈ qs, validB q = true) (ht : Arit w0) (hlo : 0 < lo) :
    Calls Tryd.prog 91 #[.iface 73 (.slice (some ⟨g, 0, none⟩) n c), .int .i64 0, .int .i64 n, .int .i64 lim] w fun e w' => e = .returned (.tuple #[]) ∧ SrtQ w0 lo g n c qs (srtL qs) w' := by
  have HI := Lib.hid (insertionSort_any lo g n c qs w w0 h hn h2 h10 hv ht hlo)
  have hd : decide ((n : Int) ≤ 12) = true := decide_eq_true (by omega)
  clear h hn hv ht hlo
  go_enter Tryd.func91, Tryd.ntmps91
  go_wp2_with (fail)
  go_loopw [1, 2, 3, 8, 9] (fun a b _ _ _ wr => a = .int .i64 0 ∧ b = .int .i64 n ∧ wr = w) (fun _ _ _ _ _ _ => 0)
  case atStart => exact ⟨rfl, rfl, rfl⟩
  case round =>
    obtain ⟨rfl, rfl, rfl⟩ := hrel
    go_wp2_with (fail)
    refine HI.out.mono ?_
    rintro e w' ⟨rfl, hq⟩
    go_wp2
    refine bodyPost_ret (results_none rfl _ _ _) rfl ?_
    exact ⟨rfl, hq⟩

set_option maxHeartbeats 2000000 in
theorem sort_any (lo g n c : Nat) (qs : List (List Int)) (w w0 : World) (h : SrtQ w0 lo g n c qs qs w) (hn : qs.length = n) (h2 : 2 ≤ n) (h10 : n ≤ 10) (hv : ∀ q ∈ qs, validB q = true) (ht : Arit w0) (hlo : 0 < lo) :
    Calls Tryd.prog 64 #[.iface 73 (.slice (some ⟨g, 0, none⟩) n c)] w fun e w' => e = .returned (.tuple #[]) ∧ SrtQ w0 lo g n c qs (srtL qs) w' := by
  have mN : ∀ w, (method 291 73 (.slice (some ⟨g, 0, none⟩) n c) "Len").run Tryd.prog w = .ok (189, .slice (some ⟨g, 0, none⟩) n c) w := fun _ => by kernel_rfl
  have HN := Lib.hid (len_any (some ⟨g, 0, none⟩) n c w)
  have hd : decide ((n : Int) ≤ 1) = false := decide_eq_false (by omega)
  have HB := Lib.hid (len_bits n h10 w)
  have HP := Lib.hid (fun lim => pdqsort_any lo g n c lim qs w w0 h hn h2 h10 hv ht hlo)
  clear h hn hv ht hlo
  go_enter Tryd.func64, Tryd.ntmps64
  go_wp2_with (fail)
  refine HN.out.mono ?_
  rintro e w' ⟨rfl, rfl⟩
  go_wp2_with (fail)
  refine HB.out.mono ?_
  rintro e w' ⟨⟨r, rfl⟩, rfl⟩
  go_wp2_with (fail)
  refine (HP.out r).mono ?_
  rintro e w' ⟨rfl, hq⟩
  go_wp2
  go_end0
  exact ⟨rfl, hq⟩

set_option maxHeartbeats 2000000 in
theorem sort_small (A : Option Addr) (n c : Nat) (w : World) (h2 : n ≤ 1) :
    Calls Tryd.prog 64 #[.iface 73 (.slice A n c)] w fun e w' => e = .returned (.tuple #[]) ∧ w' = w := by
  have mN : ∀ w, (method 291 73 (.slice A n c) "Len").run Tryd.prog w = .ok (189, .slice A n c) w := fun _ => by kernel_rfl
  have HN := Lib.hid (len_any A n c w)
  have hd : decide ((n : Int) ≤ 1) = true := decide_eq_true (by omega)
  go_enter Tryd.func64, Tryd.ntmps64
  go_wp2_with (fail)
  refine HN.out.mono ?_
  rintro e w' ⟨rfl, rfl⟩
  go_wp2
  refine bodyPost_ret (results_none rfl _ _ _) rfl ?_
  exact ⟨rfl, rfl⟩
theorem srt_tiny {qs : List (List Int)} (h : qs.length ≤ 1) : qs = srtL qs := srt_same (List.Perm.refl _) (by
  cases qs with
  | nil => simp [SoL]
  | cons x xs =>
    cases xs with
    | nil => simp [SoL]
    | cons y ys => simp at h)
/-- sort.Sort at a row of one's own; another block stays as it was. -/
theorem sort_own (A : Option Addr) (n c lo b : Nat) (hs : Nat → Option Addr × Nat) (qs : List (List Int)) (w : World) (ho : OwnQ w lo w.heap.size (.slice A n c) hs qs) (hn : qs.length = n) (h10 : n ≤ 10) (hv : ∀ q ∈ qs, validB q = true) (ht : Arit w) (hlo : 0 < lo)
    (hl : lo ≤ w.heap.size) (hb : b < w.heap.size) (hbo : ∀ k, (Value.slice A n c).ownBlock = some k → k ≠ b) :
    Calls Tryd.prog 64 #[.iface 73 (.slice A n c)] w fun e w' => e = .returned (.tuple #[]) ∧ (∃ hs', OwnQ w' lo w'.heap.size (.slice A n c) hs' (srtL qs)) ∧ Below lo w w' ∧ w'.heap[b]? = w.heap[b]? := by
  by_cases h2 : 2 ≤ n
  · obtain ⟨g, cap, hg, hgl, _⟩ := ho.outer.form (by omega)
    rw [hn] at hg
    obtain ⟨rfl, rfl⟩ : A = some ⟨g, 0, none⟩ ∧ c = cap := by injection hg with x y z; exact ⟨x, z⟩
    refine (sort_any lo g n c qs w w ⟨⟨hs, ho⟩, List.Perm.refl _, World.grownBy.refl w _, hl⟩ hn h2 h10 hv ht hlo).mono ?_
    rintro e w' ⟨rfl, hS, _, hgr, hl'⟩
    exact ⟨rfl, hS, (Below.refl lo w).grown hgr hl (fun k hk => by injection hk with hk; omega), hgr.block b hb (fun e => by injection e with e; exact hbo g rfl e.symm)⟩
  · refine (sort_small A n c w (by omega)).mono ?_
    rintro e w' ⟨rfl, rfl⟩
    rw [← srt_tiny (qs := qs) (by omega)]
    exact ⟨rfl, ⟨hs, ho⟩, Below.refl _ _, rfl⟩
end Go.Proofs.YtdgejhlpncnenaaDoor
