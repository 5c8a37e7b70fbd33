/- The program: the iterator over all switchings. -/
import Derived.Test.YtlcapifgpcimpaaDoorSwQ
import Derived.Test.YtlcapifgpcimpaaDoorRgR
import Derived.RangeFuncNested
import Derived.RangeFuncBound
import Derived.RangeFuncCalls
import Derived.RangeFuncLeaves
import Derived.Shelf.Abstract
import Derived.Shelf.RegionOpen
import Derived.WalkKit
import Derived.OwnWalkIn
import Derived.TacticsInMore
import Derived.LoopNIn
import Derived.LoopIn
namespace Go.Proofs.YtlcapifgpcimpaaDoor
set_option linter.unusedSimpArgs false
set_option linter.unusedVariables false
open Go.ChangeAt Go.ChangeShapes Go.RowKit Go.WideShapes Go.Shelf
attribute [local go_sem] Oper.semAt_some

/-- What round k is handed: its number, and a row that reads as its bits. -/
def HdS (m k : Nat) (vs : Array Value) (W : World) : Prop := ∃ A c, vs = #[.int .i64 (k : Int), .slice A m c] ∧ RdI W W.heap.size A m (swU (k : Int) m)
theorem shl_u64 {m : Nat} (h : m ≤ 10) : IntKind.u64.wrap ((2 : Int) ^ m) = ((2 ^ m : Nat) : Int) := by
  have h1 : (2 ^ m : Nat) ≤ 2 ^ 10 := Nat.pow_le_pow_right (by decide) h
  have h2 : ((2 : Int) ^ m) = ((2 ^ m : Nat) : Int) := by simp
  rw [h2]
  generalize 2 ^ m = M at *
  rw [IntKind.wrap_u64]
  omega
set_option maxRecDepth 100000 in
set_option maxHeartbeats 2000000 in
theorem swIt_any (m : Nat) (hm : m ≤ 10) (bx : Nat) (w0 : World) (hbx : bx < w0.heap.size) (hc : w0.cell? ⟨bx, 0, none⟩ = some (.int .i64 m)) :
    ItR Fence.wide 2 Tryd.prog 78 #[.pointer (some ⟨bx, 0, none⟩)] (2 ^ m) (HdS m) w0 := by
  intro l J Jx W hW hJ hY h0
  have hpw : (2 ^ m : Nat) ≤ 1024 := by
    have h1 : (2 ^ m : Nat) ≤ 2 ^ 10 := Nat.pow_le_pow_right (by decide) hm
    omega
  have hcW := (hW.cell (p := ⟨bx, 0, none⟩) hbx).trans hc
  have hsh := shl_u64 hm
  have hsz := hW.size
  obtain ⟨M, hM⟩ : ∃ M, 2 ^ m = M := ⟨_, rfl⟩
  rw [hM] at hsh hpw hY ⊢
  clear hM
  refine callsIn_of_wp Tryd.func78 rfl trivial ?_ rfl
  simp only [Tryd.ntmps78, List.size_toArray, List.length_cons, List.length_nil, Nat.reduceAdd, Nat.reduceSub, Array.replicate_succ, Array.replicate_zero, List.push_toArray, List.append_toArray, List.nil_append, List.cons_append]
  gi_wp2
  gi_loopw [6] (fun i wr => ∃ k : Nat, k ≤ M ∧ i = .int .u64 k ∧ J k wr ∧ (∀ i, i < w0.heap.size → wr.heap[i]? = W.heap[i]?) ∧ W.heap.size ≤ wr.heap.size) (fun i _ => M - (intOf i).toNat)
  case atStart => exact ⟨0, Nat.zero_le _, rfl, h0, fun _ _ => rfl, Nat.le_refl _⟩
  case round =>
    obtain ⟨k, hk, rfl, hJs, hkp, hsw⟩ := hrel
    have hcr : wr.cell? ⟨bx, 0, none⟩ = some (.int .i64 m) := (World.cell?_of_block (hkp bx hbx)).trans hcW
    by_cases hlt : k < M
    · have hcv : IntKind.i64.wrap (k : Int) = k := IntWalk.i64_in _ (by omega)
      have hbits := bits_any m k wr (by omega) (by omega)
      have hln := swU_len (k : Int) m
      have HLN := Lib.hid hln
      gi_wp2_with (refine ⟨trivial, ?_⟩; gi_at_call 79; refine (callsIn_wide.2 hbits).mono ?_; rintro e w1 ⟨A, c, rfl, own, bel⟩; clear hbits; dsimp only)
      have R1 := RdI.of_own own
      rw [HLN.out] at R1
      obtain ⟨fn, tmps, assign, body, hy, hR⟩ := hY k _ w1 hlt (hJ k wr w1 hJs bel) ⟨A, c, rfl, R1⟩
      (try rw [HLN.out])
      (try dsimp only at hy)
      rw [hy]
      gi_wp2
      refine hR.mono ?_
      rintro e W3 (⟨rfl, hJ3, hk3, hs3⟩ | ⟨rfl, hJx3⟩)
      · have b1 := bel.size
        have hkp3 : ∀ i, i < w0.heap.size → W3.heap[i]? = W.heap[i]? := fun i hi => ((hk3 i hi).trans (bel.block i (by omega))).trans (hkp i hi)
        gi_wp2
        go_roundw
        case rel => exact ⟨k + 1, by omega, by go_num, hJ3, hkp3, by omega⟩
        case measure => simp [intOf]; omega
      · gi_wp2
        refine bodyPost_ret (results_none rfl _ _ _) rfl ?_
        exact ⟨⟨_, rfl⟩, .inr ⟨k, hlt, hJx3⟩⟩
    · obtain rfl : k = M := by omega
      gi_wp2
      go_end0
      exact ⟨⟨_, rfl⟩, .inl hJs⟩
end Go.Proofs.YtlcapifgpcimpaaDoor
