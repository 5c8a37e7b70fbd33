/- slices.Repeat of one number. -/
import Derived.Test.YtgpocnapkflihaaGreatDoorShelfU
import Derived.Test.YtgpocnapkflihaaGreatDoorQPgJ
import Derived.Deep.RegionHeldLaw
import Derived.Deep.DeepCutAuto
namespace Go.Proofs.YtgpocnapkflihaaGreatDoor
set_option linter.unusedSimpArgs false
set_option linter.unusedVariables false
open Go.ChangeAt Go.ChangeShapes Go.RowKit Go.WideShapes

theorem mul_one_any (n : Nat) (hn : n ≤ 1048576) (w : World) : Calls Tryz.prog 103 #[.int .u64 1, .int .u64 n] w fun e w' => e = .returned (.tuple #[.int .u64 0, .int .u64 n]) ∧ w' = w := by
  have h := Go.Proofs.Any.bits_Mul Tryz.mulL 1 n (by omega) (by omega) w
  rw [show 1 * n / 18446744073709551616 = 0 by omega, show 1 * n % 18446744073709551616 = n by omega] at h
  exact h
theorem made1x (m : Nat) : madeCells #[Value.int .i64 0] (m * 1) = (List.replicate m (Value.int .i64 0)).toArray := by
  apply Array.toList_inj.1
  apply List.ext_getElem?
  intro j
  by_cases hj : j < m
  · have : j % 1 = 0 := by omega
    simp [madeCells, hj, this]
  · simp [madeCells, hj]
/-- The first k cells are laid. -/
def repC (v : Int) (k n : Nat) : List Value := List.replicate k (Value.int .i64 v) ++ List.replicate (n - k) (Value.int .i64 0)
theorem repC_len {v : Int} {k n : Nat} (h : k ≤ n) : (repC v k n).length = n := by simp [repC]; omega
theorem repC_zero (v : Int) (n : Nat) : repC v 0 n = List.replicate n (Value.int .i64 0) := by simp [repC]
theorem repC_all (v : Int) (n : Nat) : repC v n n = (List.replicate n v).map (Value.int .i64) := by simp [repC]
theorem repC_splice {v : Int} {k c n : Nat} (h : k + c ≤ n) : splice (repC v k n) k (List.replicate c (Value.int .i64 v)) = repC v (k + c) n := by
  unfold splice repC
  rw [List.take_left' (by simp), List.length_replicate, List.drop_append]
  simp only [List.length_replicate, List.drop_replicate]
  rw [show k - (k + c) = 0 by omega, show k + c - k = c by omega, show n - k - c = n - (k + c) by omega, List.replicate_zero, List.nil_append, ← List.append_assoc, List.replicate_append_replicate]
theorem size_i64 : (Tryz.prog.info? 2).map (·.size) = some 1 := by kernel_rfl
theorem run_copy_rep {w : World} {b g lo s n d c : Nat} {v : Int} (hsrc : ∀ j, j < s → w.cell? ⟨b, j, none⟩ = some (.int .i64 v)) (hg : w.heap[g]? = some (.cells (repC v lo n).toArray 2 (0, 0))) (hl : lo ≤ n) :
    ∃ w', (Builtin.copy_ #[24, 24] 3 #[.slice (some ⟨g, lo, none⟩) (n - lo) d, .slice (some ⟨b, 0, none⟩) s c]).run Tryz.prog w = .ok (.int .i64 ((min s (n - lo) : Nat) : Int)) w' ∧ w'.heap[g]? = some (.cells (repC v (lo + min s (n - lo)) n).toArray 2 (0, 0)) ∧ Below g w w' := by
  have hr := run_copy_row (P := Tryz.prog) w 24 24 3 2 g lo (n - lo) d ⟨b, 0, none⟩ s c (repC v lo n).toArray 2 (List.replicate (min s (n - lo)) (Value.int .i64 v)) Tryz.underlying24 size_i64 hg (by simp only [List.length_replicate]) ?_ ?_ ?_
  · rw [List.length_replicate] at hr
    refine ⟨_, hr, ?_, below_setRow (Below.refl _ _) (Nat.le_refl _) _⟩
    rw [setRow_heap w g _ _ _ _ hg]
    have := repC_splice (v := v) (k := lo) (c := min s (n - lo)) (n := n) (by omega)
    unfold splice at this
    rw [List.length_replicate, ← List.append_assoc] at this
    simp only [List.toList_toArray]
    rw [this]
  · intro j u hu
    rw [List.getElem?_replicate] at hu
    split at hu
    · next hj =>
      cases hu
      have ea : (⟨b, 0, none⟩ : Addr).add j = ⟨b, j, none⟩ := by simp [Addr.add]; omega
      rw [ea]
      exact hsrc j (by omega)
    · cases hu
  · rw [List.length_replicate, List.size_toArray, repC_len hl]; omega
  · intro u hu; rw [(List.mem_replicate.1 hu).2]; rfl
set_option maxRecDepth 100000 in
set_option maxHeartbeats 2000000 in
theorem repeat_any (b : Nat) (v : Int) (n : Nat) (w : World) (hb : b < w.heap.size) (hc : w.cell? ⟨b, 0, none⟩ = some (.int .i64 v)) (hn : n ≤ 1048576) :
    Calls Tryz.prog 91 #[.slice (some ⟨b, 0, none⟩) 1 1, .int .i64 n] w (Gives w (List.replicate n v)) := by
  obtain ⟨i0, hi0, hz0, hz1, hz2⟩ := info_parts info_i64
  have mk2 : ∀ wx : World, (Instr.makeSlice 24 (.int .i64 (n : Nat)) (.int .i64 (n : Nat))).run Tryz.prog wx = .ok (.slice (some ⟨wx.heap.size, 0, none⟩) n n) (wx.alloc (.cells (repC v 0 n).toArray 2)) := fun wx => by
    have hr := run_make (P := Tryz.prog) wx 24 2 i0 (.int .i64 0) Tryz.underlying24 hi0 hz0 .i64 .i64 n n (by omega) (Int.le_refl _) (by rw [hz2]; omega) (by omega)
    simp only [Int.toNat_natCast, hz1] at hr
    rw [repC_zero, ← made1x]
    exact hr
  clear hi0 hz0 hz1 hz2
  obtain ⟨g, hg⟩ : ∃ g, w.heap.size = g := ⟨_, rfl⟩
  obtain ⟨w1, hw1⟩ : ∃ u, u = w.alloc (.cells (repC v 0 n).toArray 2) := ⟨_, rfl⟩
  have h1 : w1.heap[g]? = some (.cells (repC v 0 n).toArray 2 (0, 0)) := by rw [hw1, ← hg]; exact heap_alloc_new _ _
  have b1 : Below g w w1 := by rw [hw1]; exact (Below.refl _ _).alloc (by omega) _
  have hcw : w1.cell? ⟨b, 0, none⟩ = some (.int .i64 v) := (b1.cell (p := ⟨b, 0, none⟩) (by show b < g; omega)).trans hc
  have HW1 := Lib.hid hw1; have H1 := Lib.hid h1; have B1 := Lib.hid b1; have HCW := Lib.hid hcw
  have HGG := Lib.hid hg
  have hcv : IntKind.u64.wrap (1 : Int) = 1 := by rw [IntKind.wrap_u64]; omega
  have hcn : IntKind.u64.wrap (n : Int) = (n : Int) := by rw [IntKind.wrap_u64]; omega
  have hcm : IntKind.i64.wrap (n : Int) = (n : Int) := IntWalk.i64_in _ (by omega)
  have h0n : ¬ (n : Int) < 0 := by omega
  have hmx : ¬ (9223372036854775807 : Int) < (n : Int) := by omega
  have HMUL := Lib.hid (mul_one_any n hn w)
  have HS1 : Hid (splice (repC v 0 n) 0 (List.replicate (min 1 n) (Value.int .i64 v)) = repC v (min 1 n) n) := Lib.hid (by have := repC_splice (v := v) (k := 0) (c := min 1 n) (n := n) (by omega); rw [this, Nat.zero_add])
  clear hw1 h1 b1 hcw hc
  go_enter Tryz.func91, Tryz.ntmps91
  go_wp2_with (fail)
  refine HMUL.out.mono ?_
  rintro e w0 ⟨rfl, hw0⟩
  rw [hw0]
  clear hw0
  go_upto_region 7 with (fail)
  rw [← HW1.out]
  obtain ⟨w5, hcp, hg5, hb5⟩ := run_copy_rep (lo := 0) (s := 1) (c := 1) (d := n) (fun j hj => (show 0 = j by omega) ▸ HCW.out) H1.out (by omega)
  rw [Nat.sub_zero] at hcp
  rw [Nat.sub_zero, Nat.zero_add] at hg5
  have HG5 := Lib.hid hg5
  have B5 := Lib.hid (B1.out.trans hb5)
  clear hb5 hg5
  obtain ⟨q, hq⟩ : ∃ q, min 1 n = q := ⟨_, rfl⟩
  rw [hq] at HG5 hcp
  go_wp2
  go_loopw [8] (fun i wr => ∃ k : Nat, k ≤ n ∧ (k = 0 → n = 0) ∧ i = .int .i64 k ∧ wr.heap[g]? = some (.cells (repC v k n).toArray 2 (0, 0)) ∧ Below g w wr) (fun i _ => n - (intOf i).toNat)
  case atStart => exact ⟨q, by omega, by omega, rfl, HG5.out, B5.out⟩
  case round =>
    obtain ⟨k, hk, hk0, rfl, hG, hB⟩ := hrel
    clear HG5 B5
    by_cases hlt : k < n
    · have hk1 : 0 < k := by omega
      have hce : ∀ j, j < k → wr.drew.cell? ⟨g, j, none⟩ = some (Value.int .i64 v) := fun j hj => by
        show wr.cell? ⟨g, j, none⟩ = _
        rw [cell_of_row _ _ _ _ _ _ hG]
        simp [repC, List.getElem?_append, hj]
      obtain ⟨w6, hcp, hg6, hb6⟩ := run_copy_rep (w := wr.drew) (b := g) (lo := k) (s := k) (n := n) (d := n - k) (c := n) hce hG (by omega)
      have hnk : ¬ n = k := by omega
      obtain ⟨c, hc⟩ : ∃ c, min k (n - k) = c := ⟨_, rfl⟩
      rw [hc] at hcp hg6
      have HG6 := Lib.hid hg6
      have HB6 := Lib.hid (hB.trans (((Below.refl g wr).drew.trans hb6)))
      have hwr : IntKind.i64.wrap ((k : Int) + (c : Int)) = (k : Int) + (c : Int) := IntWalk.i64_in _ (by omega)
      clear hG hB hce hg6 hb6
      go_wp2
      go_region
      all_goals (try go_wp2)
      go_roundw
      case rel => exact ⟨k + c, by omega, by omega, by go_num, HG6.out, HB6.out⟩
      case measure => simp [intOf]; omega
    · have hkn : k = n := by omega
      subst hkn
      rw [repC_all] at hG
      have hlen : ((List.replicate k v).map (Value.int .i64)).length = k := by simp
      have hown : wr.ownsRow w.heap.size 2 1 (.slice (some ⟨g, 0, none⟩) k k) k ((List.replicate k v).map (Value.int .i64)) :=
        ⟨by simp, .inr ⟨g, k, _, rfl, by omega, hG, Nat.le_refl _, by unfold maxLen; omega, by simp, by simp⟩⟩
      have HG : Hid (Gives w (List.replicate k v) (.returned (.slice (some ⟨g, 0, none⟩) k k)) wr) := Lib.hid ⟨some ⟨g, 0, none⟩, k, by rw [List.length_replicate], by rw [List.length_replicate]; exact hown, by rw [HGG.out]; exact hB⟩
      clear hG hB hown hlen
      go_wp2
      go_ret
      exact HG.out
end Go.Proofs.YtgpocnapkflihaaGreatDoor
