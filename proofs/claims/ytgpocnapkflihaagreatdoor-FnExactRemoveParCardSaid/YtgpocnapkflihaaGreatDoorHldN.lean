/- The law's holding of a net (as in NetD). -/
import Derived.Test.YtgpocnapkflihaaGreatDoorQNetE
import Derived.Test.YtgpocnapkflihaaGreatDoorNetC
import Derived.Test.YtgpocnapkflihaaGreatDoorSeqV
import Derived.Test.YtgpocnapkflihaaGreatDoorRowH
import Derived.BigQuiet
namespace Go.Proofs.YtgpocnapkflihaaGreatDoor
set_option linter.unusedSimpArgs false
set_option linter.unusedVariables false
open Go.ChangeAt Go.ChangeShapes Go.RowKit Go.WideShapes

set_option maxHeartbeats 2000000 in
theorem heldLS_any (A : Option Addr) (n c : Nat) (k : Int) (w : World) (h : RdL w w.heap.size A n (mkL k n)) (hn : n ≤ 1048576) (hk0 : 0 ≤ k) (hk1 : k ≤ 1073741824) :
    Calls Tryz.prog 38 #[.slice A n c, .int .i64 k] w fun e w' => e = .returned (.int .i64 (k + (n * 4 : Nat))) ∧ w = w' := by
  have H := Lib.hid h
  clear h
  go_enter Tryz.func38, Tryz.ntmps38
  go_wp2
  go_loop [1, 5] (fun v i => ∃ j : Nat, j ≤ n ∧ i = .int .i64 j ∧ v = .int .i64 (k + (j * 4 : Nat))) (fun _ i => n - (intOf i).toNat)
  case atStart => exact ⟨0, Nat.zero_le _, rfl, by simp⟩
  case round =>
    obtain ⟨j, hj, rfl, rfl⟩ := hrel
    by_cases hlt : j < n
    · obtain ⟨b, off, rfl, hbb, hcells⟩ := H.out.at (by omega)
      obtain ⟨x0, x1, x2, x3⟩ := hcells j hlt
      rw [mkL_at k n j hlt] at x0 x1 x2 x3
      obtain ⟨q, hq⟩ : ∃ q : Int, k + (j * 4 : Nat) = q := ⟨_, rfl⟩
      have HN : Hid (q + 1 + 1 + 1 + 1 = k + ((j + 1) * 4 : Nat)) := Lib.hid (by omega)
      have hq0 : 0 ≤ q := by omega
      have hq1 : q ≤ 1090000000 := by omega
      rw [hq] at x0 x1 x2 x3 ⊢
      dsimp only at x0 x1 x2 x3
      clear hq hcells
      have hi1 : (j : Int) < (n : Int) := by omega
      have z0 : (q != q) = false := by simp
      have z1 : (q + 1 != q + 1) = false := by simp
      have z2 : (q + 1 + 1 != q + 1 + 1) = false := by simp
      have z3 : (q + 1 + 1 + 1 != q + 1 + 1 + 1) = false := by simp
      go_wp2
      go_round
      case rel => exact ⟨j + 1, by omega, by go_num, by rw [HN.out]⟩
      case measure => simp [intOf]; omega
    · have hkl : j = n := by omega
      subst hkl
      go_wp2
      go_ret
      exact ⟨rfl, rfl⟩
set_option maxHeartbeats 1000000 in
theorem heldN_any (h : NH) (N : Nt) (k : Int) (w : World) (r : RdN w w.heap.size h (mrkN k N)) (hn : N.w.length ≤ 1048576) (ht : total N.w ≤ 1048576) (hl : N.l.length ≤ 1048576) (hc : N.c.length ≤ 1048576) (hk0 : 0 ≤ k) (hk1 : k ≤ 536870912) :
    Calls Tryz.prog 12 #[.agg #[.slice h.A N.w.length h.c, .slice h.L N.l.length h.d, .slice h.C N.c.length h.e], .int .i64 k] w fun e w' => e = .returned (.int .i64 (k + (ntot N : Nat))) ∧ Below w.heap.size w w' := by
  obtain ⟨A, c, hs, L, d, C, e0⟩ := h
  obtain ⟨ws, ls, cs⟩ := N
  obtain ⟨r1, r2, r3⟩ := r
  unfold mrkN at r1 r2 r3
  dsimp only at r1 r2 r3 hn ht hl hc ⊢
  rw [mrkQ_len] at r1; rw [mkL_len] at r2; rw [markL_len] at r3
  obtain ⟨w1, hw1⟩ : ∃ w1, w1 = w.alloc (.cells #[.slice A ws.length c, .slice L ls.length d, .slice C cs.length e0] 30) := ⟨_, rfl⟩
  obtain ⟨hb, p0, hsz⟩ := box3_any w (.slice A ws.length c) (.slice L ls.length d) (.slice C cs.length e0) 30
  rw [← hw1] at hb p0 hsz
  obtain ⟨a0, a1, a2⟩ := three_cells p0
  have HB := Lib.hid hb
  have H1 := Lib.hid (heldSS_any A ws.length c ws k w1 ((r1.below hb).more hb.size) hn ht hk0 hk1)
  have HT : Hid (k + (total ws : Nat) + (ls.length * 4 : Nat) + (cs.length : Nat) = k + (ntot ⟨ws, ls, cs⟩ : Nat)) := Lib.hid (by unfold ntot; dsimp only; omega)
  have hk2 : k + (total ws : Nat) ≤ 540000000 := by omega
  have R2 := Lib.hid ((r2.below hb).more hb.size); have R3 := Lib.hid ((r3.below hb).more hb.size)
  obtain ⟨k2, hk2e⟩ : ∃ k2 : Int, k + (total ws : Nat) = k2 := ⟨_, rfl⟩
  rw [hk2e] at hk2 HT H1 R2 R3
  have hk20 : 0 ≤ k2 := by omega
  obtain ⟨k3, hk3e⟩ : ∃ k3 : Int, k2 + (ls.length * 4 : Nat) = k3 := ⟨_, rfl⟩
  have H2 := Lib.hid (heldLS_any L ls.length d k2 w1 R2.out hl hk20 (by omega))
  rw [hk3e] at HT R3 H2
  have hk30 : 0 ≤ k3 := by omega
  have hk31 : k3 ≤ 1073741824 := by omega
  have H3 := Lib.hid (held_any C cs.length e0 k3 w1 R3.out hc hk30 hk31)
  have d1 : decide (k2 < 0) = false := decide_eq_false (by omega)
  have d2 : decide (k3 < 0) = false := decide_eq_false (by omega)
  have d3 : decide (k3 + (cs.length : Int) < 0) = false := decide_eq_false (by omega)
  clear hb p0 hsz r1 r2 r3 R2 R3 hk2e hk3e
  go_enter Tryz.func12, Tryz.ntmps12
  go_wp2_with (fail)
  rw [← hw1]
  clear hw1
  refine H1.out.mono ?_
  rintro e w' ⟨rfl, rfl⟩
  go_wp2_with (fail)
  refine H2.out.mono ?_
  rintro e w' ⟨rfl, rfl⟩
  go_wp2_with (fail)
  refine H3.out.mono ?_
  rintro e w' ⟨rfl, rfl⟩
  go_wp2
  go_ret
  exact ⟨ret_i64 HT.out, HB.out⟩
end Go.Proofs.YtgpocnapkflihaaGreatDoor
