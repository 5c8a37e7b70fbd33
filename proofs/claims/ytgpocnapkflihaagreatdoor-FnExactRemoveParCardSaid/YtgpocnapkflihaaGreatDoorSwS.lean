/- The model's ParLinks, SwitchingCount, SwitchingOf. -/
import Derived.Test.YtgpocnapkflihaaGreatDoorSwM
import Derived.Test.YtgpocnapkflihaaGreatDoorQPgJ
import Derived.Deep.RegionHeldLaw
import Derived.Deep.DeepCutAuto
import Derived.BigQuiet
namespace Go.Proofs.YtgpocnapkflihaaGreatDoor
set_option linter.unusedSimpArgs false
set_option linter.unusedVariables false
open Go.ChangeAt Go.ChangeShapes Go.RowKit Go.WideShapes

theorem gives_made {w w' : World} (h : Below w.heap.size w w') : Gives w [] (.returned (.slice (some ⟨w'.heap.size, 0, none⟩) 0 0)) (w'.alloc (.cells #[] 2)) :=
  ⟨_, 0, rfl, (World.ownsRow_made w' #[] 0 (Nat.le_refl _) (by simp [maxLen]) rfl).mono h.size, h.trans (((Below.refl _ w').alloc (Nat.le_refl _) _).mono h.size)⟩
theorem bit_i64 (a : Nat) (h : a < 9223372036854775808) : bits .and .i64 (a : Int) 1 = (a : Int) % 2 := by
  have h1 : (BitVec.ofInt 64 (a : Int)).toNat = a := by
    rw [BitVec.ofInt_natCast, BitVec.toNat_ofNat]; exact Nat.mod_eq_of_lt (by omega)
  show IntKind.i64.wrap ((BitVec.ofInt 64 (a : Int) &&& BitVec.ofInt 64 ((1 : Nat) : Int)).toNat : Int) = _
  have h2 : (BitVec.ofInt 64 ((1 : Nat) : Int)).toNat = 1 := rfl
  have h3 : a &&& 1 = a % 2 := Nat.and_two_pow_sub_one_eq_mod a 1
  rw [BitVec.toNat_and, h1, h2, h3, IntWalk.i64_in _ (by omega)]
  omega
theorem bit_u64 (a : Nat) (h : a < 9223372036854775808) : bits .and .u64 (a : Int) 1 = (a : Int) % 2 := by
  have h3 : a &&& 1 = a % 2 := Nat.and_two_pow_sub_one_eq_mod a 1
  have := bits_and_u64_nat a 1 (by omega) (by omega)
  rw [h3] at this
  exact this.trans (by omega)
/-- ParLinks. -/
theorem kin_prk {N : Nt} (hv : valN N = true) : kinN N 4 = prkN N := by unfold kinN; rw [hv]; rfl
theorem shl_int {n : Nat} (h : n ≤ 10) : wrap64 ((2 : Int) ^ n) = ((2 ^ n : Nat) : Int) := by
  have : n = 0 ∨ n = 1 ∨ n = 2 ∨ n = 3 ∨ n = 4 ∨ n = 5 ∨ n = 6 ∨ n = 7 ∨ n = 8 ∨ n = 9 ∨ n = 10 := by omega
  rcases this with rfl | rfl | rfl | rfl | rfl | rfl | rfl | rfl | rfl | rfl | rfl <;> (unfold wrap64; decide)
end Go.Proofs.YtgpocnapkflihaaGreatDoor
