/- FragmentOf: of the program and of the model. -/
import Derived.Test.YtoniekjchabjlaaDoorJoinS
namespace Go.Proofs.YtoniekjchabjlaaDoor
open Go.RowKit

/-- What a symbol adds to the fragment. -/
def bitZ (n : Int) : Int := if n = 11 ∨ n = 12 then 1 else if n = 13 ∨ n = 14 then 2 else if n = 15 ∨ n = 16 then 4 else if n = 17 ∨ n = 18 then 8 else 0
theorem bitZ_other {n : Int} (h : ¬ (11 ≤ n ∧ n ≤ 18)) : bitZ n = 0 := by
  unfold bitZ
  rw [if_neg (by omega), if_neg (by omega), if_neg (by omega), if_neg (by omega)]
theorem bitZ_cases (n : Int) : bitZ n = 0 ∨ bitZ n = 1 ∨ bitZ n = 2 ∨ bitZ n = 4 ∨ bitZ n = 8 := by
  unfold bitZ
  split
  · simp
  · split
    · simp
    · split
      · simp
      · split <;> simp
/-- Does a symbol with this bit occur among the first k? -/
def occ (f : List Int) (v : Int) (k : Nat) : Bool := (f.take k).any fun n => bitZ n == v
theorem occ_zero (f : List Int) (v : Int) : occ f v 0 = false := by simp [occ]
theorem occ_step {f : List Int} {k : Nat} (v : Int) (h : k < f.length) : occ f v (k + 1) = (occ f v k || (bitZ (f.getD k 0) == v)) := by
  unfold occ
  rw [List.take_succ_eq_append_getElem h, List.any_append]
  simp [List.getD, h]
/-- A bit as a number. -/
def bz (b : Bool) : Int := if b then 1 else 0
def sumB (p q r s : Bool) : Int := bz p + 2 * bz q + 4 * bz r + 8 * bz s
/-- The fragment of the first k symbols. -/
def fragK (f : List Int) (k : Nat) : Int := sumB (occ f 1 k) (occ f 2 k) (occ f 4 k) (occ f 8 k)
theorem fragK_zero (f : List Int) : fragK f 0 = 0 := by simp [fragK, occ_zero]; rfl
/-- FragmentOf. -/
def fragV (f : List Int) : Int := if validB f then fragK f f.length else -1
theorem fragV_yes {f : List Int} (h : validB f = true) : fragV f = fragK f f.length := by simp [fragV, h]
theorem fragV_no {f : List Int} (h : validB f = false) : fragV f = -1 := by simp [fragV, h]

theorem or_bits (p q r s : Bool) (b : Int) (hb : b = 0 ∨ b = 1 ∨ b = 2 ∨ b = 4 ∨ b = 8) : bits BinOp.or IntKind.i64 (sumB p q r s) b = sumB (p || (b == 1)) (q || (b == 2)) (r || (b == 4)) (s || (b == 8)) := by
  rcases hb with rfl | rfl | rfl | rfl | rfl <;> cases p <;> cases q <;> cases r <;> cases s <;> decide
theorem frag_step {f : List Int} {k : Nat} (h : k < f.length) : bits BinOp.or IntKind.i64 (fragK f k) (bitZ (f.getD k 0)) = fragK f (k + 1) := by
  unfold fragK
  rw [or_bits _ _ _ _ _ (bitZ_cases _), occ_step 1 h, occ_step 2 h, occ_step 4 h, occ_step 8 h]

/-- The four cells of the model's marks. -/
def four (f : List Int) (k : Nat) : Array Value := #[.int .i64 (bz (occ f 1 k)), .int .i64 (bz (occ f 2 k)), .int .i64 (bz (occ f 4 k)), .int .i64 (bz (occ f 8 k))]
theorem four_same {f : List Int} {k : Nat} (h : k < f.length) (hb : bitZ (f.getD k 0) = 0) : four f k = four f (k + 1) := by
  unfold four
  rw [occ_step 1 h, occ_step 2 h, occ_step 4 h, occ_step 8 h, hb]
  simp
theorem four_set {f : List Int} {k j : Nat} (h : k < f.length) (hb : bitZ (f.getD k 0) = 1 ∧ j = 0 ∨ bitZ (f.getD k 0) = 2 ∧ j = 1 ∨ bitZ (f.getD k 0) = 4 ∧ j = 2 ∨ bitZ (f.getD k 0) = 8 ∧ j = 3) : (four f k).setIfInBounds j (.int .i64 1) = four f (k + 1) := by
  unfold four
  rw [occ_step 1 h, occ_step 2 h, occ_step 4 h, occ_step 8 h]
  rcases hb with ⟨hb, rfl⟩ | ⟨hb, rfl⟩ | ⟨hb, rfl⟩ | ⟨hb, rfl⟩ <;> rw [hb] <;> simp <;> rfl

end Go.Proofs.YtoniekjchabjlaaDoor
