/- The program: is the row a switching? -/
import Derived.Test.YtkhngbfhgpaghaaDoorSwS
import Derived.Deep.RegionHeldLaw
import Derived.Deep.DeepCutAuto
import Derived.BigQuiet
namespace Go.Proofs.YtkhngbfhgpaghaaDoor
set_option linter.unusedSimpArgs false
set_option linter.unusedVariables false
open Go.ChangeAt Go.ChangeShapes Go.RowKit Go.WideShapes

/-- An element that is no input. -/
def noIn (c : Int) : Bool := !decide (c = 0 ∨ c = 1)
set_option maxHeartbeats 1000000 in
theorem noInput_any (c : Int) (w : World) : Calls Tryd.prog 89 #[.int .i64 c] w fun e w' => e = .returned (.bool (noIn c)) ∧ w' = w := by
  by_cases h0 : c = 0
  · have hd : (c != 0) = false := by simp [h0]
    have HE : Hid (false = noIn c) := Lib.hid (by simp [noIn, h0])
    clear h0
    go_enter Tryd.func89, Tryd.ntmps89
    go_wp2
    go_ret
    exact ⟨ret_bool HE.out, rfl⟩
  · have hd : (c != 0) = true := by simp [h0]
    have HE : Hid ((c != 1) = noIn c) := Lib.hid (by
      by_cases h1 : c = 1
      · subst h1; rfl
      · simp [noIn, h0, h1])
    clear h0
    go_enter Tryd.func89, Tryd.ntmps89
    go_wp2
    go_ret
    exact ⟨ret_bool HE.out, rfl⟩
theorem sw_any {s : List Int} : (s.all fun c => decide (c = 0 ∨ c = 1)) = !(s.any noIn) := by
  rw [List.any_eq_not_all_not, Bool.not_not]
  congr 1
  funext c
  simp [noIn]
set_option maxRecDepth 100000 in
set_option maxHeartbeats 1000000 in
theorem indexNoIn_any (S : Option Addr) (sc : Nat) (s : List Int) (w : World) (hsl : s.length ≤ 1048576) (rS : RdI w w.heap.size S s.length s) :
    Calls Tryd.prog 115 #[.slice S s.length sc, .func (.func 89) #[] #[]] w fun e w' => ∃ z : Int, e = .returned (.int .i64 z) ∧ (decide (0 ≤ z) = s.any noIn) ∧ w' = w := by
  have RS := Lib.hid rS
  clear rS
  go_enter Tryd.func115, Tryd.ntmps115
  go_wp2
  go_loopw [8] (fun i wr => ∃ k : Nat, k ≤ s.length ∧ i = .int .i64 k ∧ (∀ m, m < k → noIn (s.getD m 0) = false) ∧ wr = w) (fun i _ => s.length - (intOf i).toNat)
  case atStart => exact ⟨0, Nat.zero_le _, rfl, fun m hm => absurd hm (by omega), rfl⟩
  case round =>
    obtain ⟨k, hk, rfl, hpl, rfl⟩ := hrel
    have HP := Lib.hid hpl
    clear hpl
    by_cases hlt : k < s.length
    · obtain ⟨b, off, hA, hbb, hcells⟩ := RS.out.2 (show 0 < s.length by omega)
      have x0 := hcells k hlt
      have HM := Lib.hid (getL_mem (d := 0) hlt)
      have HPP : Hid (noIn (s.getD k 0) = false → ∀ m, m < k + 1 → noIn (s.getD m 0) = false) := Lib.hid fun e m hm => by
        by_cases e2 : m < k
        · exact HP.out m e2
        · obtain rfl : m = k := by omega
          exact e
      generalize s.getD k 0 = z at *
      subst hA
      clear hcells
      cases hz : noIn z with
      | true =>
        have HE : Hid (decide (0 ≤ (k : Int)) = s.any noIn) := Lib.hid (by rw [List.any_eq_true.2 ⟨z, HM.out, hz⟩, decide_eq_true (by omega)])
        go_wp2_with (fail)
        refine (noInput_any z _).mono ?_
        rintro e w1 ⟨rfl, rfl⟩
        rw [hz]
        clear hz
        go_wp2
        go_ret
        exact ⟨_, rfl, HE.out, rfl⟩
      | false =>
        have HQ := Lib.hid (HPP.out hz)
        go_wp2_with (fail)
        refine (noInput_any z _).mono ?_
        rintro e w1 ⟨rfl, rfl⟩
        rw [hz]
        clear hz
        go_wp2
        go_roundw
        case rel => exact ⟨k + 1, by omega, by go_num, HQ.out, by first | rfl | trivial⟩
        case measure => simp [intOf]; omega
    · have hkl : k = s.length := by omega
      subst hkl
      have HE : Hid (decide (0 ≤ (-1 : Int)) = s.any noIn) := Lib.hid (by
        have : s.any noIn = false := by
          rw [List.any_eq_false]
          intro c hc
          obtain ⟨j, hj, rfl⟩ := List.getElem_of_mem hc
          have := HP.out j hj
          simpa [List.getD, hj] using this
        rw [this]; rfl)
      go_wp2
      go_ret
      exact ⟨_, rfl, HE.out, rfl⟩
set_option maxHeartbeats 1000000 in
theorem containsNoIn_any (S : Option Addr) (sc : Nat) (s : List Int) (w : World) (hsl : s.length ≤ 1048576) (rS : RdI w w.heap.size S s.length s) :
    Calls Tryd.prog 90 #[.slice S s.length sc, .func (.func 89) #[] #[]] w fun e w' => e = .returned (.bool (s.any noIn)) ∧ w' = w := by
  have HI := Lib.hid (indexNoIn_any S sc s w hsl rS)
  clear rS
  generalize s.any noIn = B at *
  go_enter Tryd.func90, Tryd.ntmps90
  go_wp2_with (fail)
  refine HI.out.mono ?_
  rintro e w' ⟨z, rfl, hz, rfl⟩
  have HZ := Lib.hid hz
  clear hz
  go_wp2
  go_ret
  exact ⟨ret_bool HZ.out, rfl⟩
set_option maxHeartbeats 1000000 in
theorem isSwitching_any (S : Option Addr) (sc : Nat) (s : List Int) (m : Nat) (w : World) (hsl : s.length ≤ 1048576) (rS : RdI w w.heap.size S s.length s) :
    Calls Tryd.prog 62 #[.slice S s.length sc, .int .i64 m] w fun e w' => e = .returned (.bool (decide (s.length = m) && s.all fun c => decide (c = 0 ∨ c = 1))) ∧ w' = w := by
  have HI := Lib.hid (containsNoIn_any S sc s w hsl rS)
  rw [sw_any]
  clear rS
  generalize s.any noIn = B at *
  by_cases hm : s.length = m
  · have hd : ((s.length : Int) == (m : Int)) = true := by simp [hm]
    have HE : Hid ((!B) = (decide (s.length = m) && !B)) := Lib.hid (by simp [hm])
    clear hm
    go_enter Tryd.func62, Tryd.ntmps62
    go_wp2_with (fail)
    refine HI.out.mono ?_
    rintro e w' ⟨rfl, rfl⟩
    go_wp2
    go_ret
    exact ⟨ret_bool HE.out, rfl⟩
  · have hd : ((s.length : Int) == (m : Int)) = false := by simp; omega
    have HE : Hid (false = (decide (s.length = m) && !B)) := Lib.hid (by simp [hm])
    clear hm HI
    go_enter Tryd.func62, Tryd.ntmps62
    go_wp2
    go_ret
    exact ⟨ret_bool HE.out, rfl⟩
end Go.Proofs.YtkhngbfhgpaghaaDoor
