/- The model's helpers of chapter 12: l11Has, l12Node, l12Single. -/
import Derived.Test.YtlcapifgpcimpaaDoorCcP
import Derived.Test.YtlcapifgpcimpaaDoorEgA
import Derived.Deep.RegionHeldLaw
import Derived.Deep.DeepCutAuto
import Derived.BigQuiet
namespace Go.Proofs.YtlcapifgpcimpaaDoor
set_option linter.unusedSimpArgs false
set_option linter.unusedVariables false
open Go.ChangeAt Go.ChangeShapes Go.RowKit Go.WideShapes

theorem getI_mem {l : List Int} {k : Nat} (h : k < l.length) : l.getD k 0 ∈ l := by simp [List.getD, h]
theorem sHasE_any (A : Option Addr) (n c : Nat) (p : List Int) (x : Int) (w : World) (hl : n ≤ 1048576) (r : RdI w w.heap.size A n p) :
    Calls Tryd.prog 120 #[.slice A n c, .int .i64 x] w fun e w' => e = .returned (.bool (decide (x ∈ p))) ∧ w' = w := by
  have RS := Lib.hid r
  have hlen := r.1
  have HLN := Lib.hid hlen
  clear r hlen
  go_enter Tryd.func120, Tryd.ntmps120
  go_wp2
  go_loopw [5] (fun i wr => ∃ k : Nat, k ≤ n ∧ i = .int .i64 k ∧ (∀ m, m < k → ¬ p.getD m 0 = x) ∧ wr = w) (fun i _ => n - (intOf i).toNat)
  case atStart => exact ⟨0, Nat.zero_le _, rfl, fun m hm => absurd hm (by omega), rfl⟩
  case round =>
    obtain ⟨k, hk, rfl, hpl, rfl⟩ := hrel
    have HP := Lib.hid hpl
    clear hpl
    by_cases hlt : k < n
    · obtain ⟨b, off, hA, hbb, hcells⟩ := RS.out.2 (show 0 < n by omega)
      have x0 := hcells k hlt
      have HM := Lib.hid (getI_mem (show k < p.length by have := HLN.out; omega))
      have HPP : Hid (¬ p.getD k 0 = x → ∀ m, m < k + 1 → ¬ p.getD m 0 = x) := Lib.hid fun e m hm => by
        by_cases e2 : m < k
        · exact HP.out m e2
        · obtain rfl : m = k := by omega
          exact e
      generalize p.getD k 0 = z at *
      subst hA
      clear hcells
      by_cases hz : z = x
      · have hd : (z == x) = true := by simp [hz]
        have HE : Hid (true = decide (x ∈ p)) := Lib.hid (decide_eq_true (by rw [← hz]; exact HM.out)).symm
        clear hz
        go_wp2
        go_ret
        exact ⟨ret_bool HE.out, rfl⟩
      · have hd : (z == x) = false := by simp [hz]
        have HQ := Lib.hid (HPP.out hz)
        clear hz
        go_wp2
        go_roundw
        case rel => exact ⟨k + 1, by omega, by go_num, HQ.out, by first | rfl | trivial⟩
        case measure => simp [intOf]; omega
    · have hkl : k = n := by omega
      subst hkl
      have HE : Hid (false = decide (x ∈ p)) := Lib.hid (decide_eq_false (fun hx => by
        obtain ⟨m, hm, e⟩ := List.getElem_of_mem hx
        exact HP.out m (by have := HLN.out; omega) (by simp [List.getD, hm, e]))).symm
      go_wp2
      go_ret
      exact ⟨ret_bool HE.out, rfl⟩
theorem sNode_any (x a b : Int) (w : World) (h0 : 0 ≤ x) (h1 : x ≤ 1000) :
    Calls Tryd.prog 121 #[.int .i64 x, .int .i64 a, .int .i64 b] w fun e w' => e = .returned (.int .i64 (rnE (min a b) (max a b) x)) ∧ Below w.heap.size w w' := by
  have hm1 : IntKind.i64.wrap (x - 1) = x - 1 := IntWalk.i64_in _ (by omega)
  generalize hlo : min a b = lo
  generalize hhi : max a b = hi
  have hmin : IntKind.i64.wrap lo = IntKind.i64.wrap lo := rfl
  unfold rnE
  by_cases e1 : x = hi
  · rw [if_pos e1]
    have d1 : (x == hi) = true := by simp [e1]
    clear e1 hmin
    go_enter Tryd.func121, Tryd.ntmps121
    go_wp2
    go_ret
    exact ⟨rfl, Below.refl _ _⟩
  · rw [if_neg e1]
    have d1 : (x == hi) = false := by simp [e1]
    by_cases e2 : x > hi
    · rw [if_pos e2]
      have d2 : decide (hi < x) = true := decide_eq_true e2
      clear e1 e2 hmin
      go_enter Tryd.func121, Tryd.ntmps121
      go_wp2
      go_ret
      exact ⟨rfl, Below.refl _ _⟩
    · rw [if_neg e2]
      have d2 : decide (hi < x) = false := decide_eq_false e2
      clear e1 e2 hmin
      go_enter Tryd.func121, Tryd.ntmps121
      go_wp2
      go_ret
      exact ⟨rfl, Below.refl _ _⟩
theorem sSingle_any (x : Ed) (w : World) :
    Calls Tryd.prog 99 #[.agg #[.int .i64 x.a, .int .i64 x.b, .int .i64 x.p]] w fun e w' => e = .returned (.bool (snB x)) ∧ Below w.heap.size w w' := by
  obtain ⟨a, b, p⟩ := x
  unfold snB
  dsimp only
  have HB : Hid (Below w.heap.size w (w.alloc (.cells #[.int .i64 a, .int .i64 b, .int .i64 p] 52))) := Lib.hid ((Below.refl _ _).alloc (Nat.le_refl _) _)
  by_cases h1 : p < 0
  · have d1 : decide (p < 0) = true := decide_eq_true h1
    by_cases h2 : a = b
    · have d2 : (a != b) = false := by simp [h2]
      have HE : Hid (false = (decide (p < 0) && decide (a ≠ b))) := Lib.hid (by simp [h2])
      clear h1 h2
      go_enter Tryd.func99, Tryd.ntmps99
      go_wp2
      go_ret
      exact ⟨ret_bool HE.out, HB.out⟩
    · have d2 : (a != b) = true := by simp [h2]
      have HE : Hid (true = (decide (p < 0) && decide (a ≠ b))) := Lib.hid (by simp [h1, h2])
      clear h1 h2
      go_enter Tryd.func99, Tryd.ntmps99
      go_wp2
      go_ret
      exact ⟨ret_bool HE.out, HB.out⟩
  · have d1 : decide (p < 0) = false := decide_eq_false h1
    have HE : Hid (false = (decide (p < 0) && decide (a ≠ b))) := Lib.hid (by simp [h1])
    clear h1
    go_enter Tryd.func99, Tryd.ntmps99
    go_wp2
    go_ret
    exact ⟨ret_bool HE.out, HB.out⟩
end Go.Proofs.YtlcapifgpcimpaaDoor
