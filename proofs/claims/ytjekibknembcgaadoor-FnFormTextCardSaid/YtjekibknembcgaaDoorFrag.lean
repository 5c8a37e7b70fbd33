/- FragmentOf: of the program and of the model. -/
import Derived.Test.YtjekibknembcgaaDoorJoinS
namespace Go.Proofs.YtjekibknembcgaaDoor
open Go.RowKit

/-- What a symbol adds to the fragment. -/
def bitZ (n : Int) : Int := if n = 11 ∨ n = 12 then 1 else if n = 13 ∨ n = 14 then 2 else if n = 15 ∨ n = 16 then 4 else if n = 17 ∨ n = 18 then 8 else 0
theorem bitZ_other {n : Int} (h : ¬ (11 ≤ n ∧ n ≤ 18)) : bitZ n = 0 := by
  unfold bitZ
  rw [if_neg (by omega), if_neg (by omega), if_neg (by omega), if_neg (by omega)]
theorem bitZ_cases (n : Int) : bitZ n = 0 ∨ bitZ n = 1 ∨ bitZ n = 2 ∨ bitZ n = 4 ∨ bitZ n = 8 := by
  unfold bitZ
  split
  · simp
  · split
    · simp
    · split
      · simp
      · split <;> simp
/-- Does a symbol with this bit occur among the first k? -/
def occ (f : List Int) (v : Int) (k : Nat) : Bool := (f.take k).any fun n => bitZ n == v
theorem occ_zero (f : List Int) (v : Int) : occ f v 0 = false := by simp [occ]
theorem occ_step {f : List Int} {k : Nat} (v : Int) (h : k < f.length) : occ f v (k + 1) = (occ f v k || (bitZ (f.getD k 0) == v)) := by
  unfold occ
  rw [List.take_succ_eq_append_getElem h, List.any_append]
  simp [List.getD, h]
/-- A bit as a number. -/
def bz (b : Bool) : Int := if b then 1 else 0
def sumB (p q r s : Bool) : Int := bz p + 2 * bz q + 4 * bz r + 8 * bz s
/-- The fragment of the first k symbols. -/
def fragK (f : List Int) (k : Nat) : Int := sumB (occ f 1 k) (occ f 2 k) (occ f 4 k) (occ f 8 k)
theorem fragK_zero (f : List Int) : fragK f 0 = 0 := by simp [fragK, occ_zero]; rfl
/-- FragmentOf. -/
def fragV (f : List Int) : Int := if validB f then fragK f f.length else -1
theorem fragV_yes {f : List Int} (h : validB f = true) : fragV f = fragK f f.length := by simp [fragV, h]
theorem fragV_no {f : List Int} (h : validB f = false) : fragV f = -1 := by simp [fragV, h]

theorem or_bits (p q r s : Bool) (b : Int) (hb : b = 0 ∨ b = 1 ∨ b = 2 ∨ b = 4 ∨ b = 8) : bits BinOp.or IntKind.i64 (sumB p q r s) b = sumB (p || (b == 1)) (q || (b == 2)) (r || (b == 4)) (s || (b == 8)) := by
  rcases hb with rfl | rfl | rfl | rfl | rfl <;> cases p <;> cases q <;> cases r <;> cases s <;> decide
theorem frag_step {f : List Int} {k : Nat} (h : k < f.length) : bits BinOp.or IntKind.i64 (fragK f k) (bitZ (f.getD k 0)) = fragK f (k + 1) := by
  unfold fragK
  rw [or_bits _ _ _ _ _ (bitZ_cases _), occ_step 1 h, occ_step 2 h, occ_step 4 h, occ_step 8 h]

set_option maxHeartbeats 1000000 in
theorem fragmentBit_any (n : Int) (w : World) : Calls Tryd.prog 84 #[.int .i64 n] w fun e w' => e = .returned (.int .i64 (bitZ n)) ∧ w = w' := by
  by_cases h : 11 ≤ n ∧ n ≤ 18
  · have : n = 11 ∨ n = 12 ∨ n = 13 ∨ n = 14 ∨ n = 15 ∨ n = 16 ∨ n = 17 ∨ n = 18 := by omega
    clear h
    rcases this with rfl | rfl | rfl | rfl | rfl | rfl | rfl | rfl
    all_goals
      go_enter Tryd.func84, Tryd.ntmps84
      go_wp2
      go_ret
      exact ⟨rfl, rfl⟩
  · rw [bitZ_other h]
    have e1 : (n == 11) = false := by simp; omega
    have e2 : (n == 12) = false := by simp; omega
    have e3 : (n == 13) = false := by simp; omega
    have e4 : (n == 14) = false := by simp; omega
    have e5 : (n == 15) = false := by simp; omega
    have e6 : (n == 16) = false := by simp; omega
    have e7 : (n == 17) = false := by simp; omega
    have e8 : (n == 18) = false := by simp; omega
    clear h
    go_enter Tryd.func84, Tryd.ntmps84
    go_wp2
    go_ret
    exact ⟨rfl, rfl⟩

set_option maxHeartbeats 1000000 in
theorem fragmentOf_impl (A : Option Addr) (n c : Nat) (f : List Int) (w : World) (h : RdI w w.heap.size A n f) (ht : Arit w) (hnc : n ≤ c) :
    Calls Tryd.prog 53 #[.slice A n c] w fun e w' => e = .returned (.int .i64 (fragV f)) ∧ w = w' := by
  have hl := h.len
  subst hl
  cases hv : validB f with
  | false =>
    rw [fragV_no hv]
    go_enter Tryd.func53, Tryd.ntmps53
    go_wp2_with (go_at_call 50; refine (validForm_impl _ _ _ f _ h ht hnc).mono ?_; rintro e w' ⟨rfl, rfl⟩)
    go_ret
    exact ⟨rfl, rfl⟩
  | true =>
    rw [fragV_yes hv]
    have l1 := valid_len hv
    have hl24 : f.length ≤ 24 := l1.2.1
    clear l1
    go_enter Tryd.func53, Tryd.ntmps53
    go_wp2_with (go_at_call 50; refine (validForm_impl _ _ _ f _ h ht hnc).mono ?_; rintro e w' ⟨rfl, rfl⟩)
    clear hv ht
    go_loop [3, 11] (fun v3 v11 => ∃ k : Nat, k ≤ f.length ∧ v11 = .int .i64 k ∧ v3 = .int .i64 (fragK f k)) (fun _ v11 => f.length - (intOf v11).toNat)
    case atStart => exact ⟨0, Nat.zero_le _, rfl, by rw [fragK_zero]⟩
    case round =>
      obtain ⟨k, hk, rfl, rfl⟩ := hrel
      by_cases hlt : k < f.length
      · obtain ⟨b, off, rfl, hbb, hcells⟩ := h.2 (by omega)
        have hc := hcells k hlt
        have HS := Lib.hid (frag_step hlt)
        generalize f.getD k 0 = x at hc HS
        clear hcells
        go_wp2_with (go_at_call 84; refine (fragmentBit_any x _).mono ?_; rintro e w' ⟨rfl, rfl⟩)
        go_round
        case rel => exact ⟨k + 1, by omega, by go_num, by rw [← HS.out]⟩
        case measure => simp [intOf]; omega
      · have hkl : k = f.length := by omega
        subst hkl
        go_wp2
        go_ret
        exact ⟨rfl, rfl⟩

/-- The four cells of the model's marks. -/
def four (f : List Int) (k : Nat) : Array Value := #[.int .i64 (bz (occ f 1 k)), .int .i64 (bz (occ f 2 k)), .int .i64 (bz (occ f 4 k)), .int .i64 (bz (occ f 8 k))]
theorem four_same {f : List Int} {k : Nat} (h : k < f.length) (hb : bitZ (f.getD k 0) = 0) : four f k = four f (k + 1) := by
  unfold four
  rw [occ_step 1 h, occ_step 2 h, occ_step 4 h, occ_step 8 h, hb]
  simp
theorem four_set {f : List Int} {k j : Nat} (h : k < f.length) (hb : bitZ (f.getD k 0) = 1 ∧ j = 0 ∨ bitZ (f.getD k 0) = 2 ∧ j = 1 ∨ bitZ (f.getD k 0) = 4 ∧ j = 2 ∨ bitZ (f.getD k 0) = 8 ∧ j = 3) : (four f k).setIfInBounds j (.int .i64 1) = four f (k + 1) := by
  unfold four
  rw [occ_step 1 h, occ_step 2 h, occ_step 4 h, occ_step 8 h]
  rcases hb with ⟨hb, rfl⟩ | ⟨hb, rfl⟩ | ⟨hb, rfl⟩ | ⟨hb, rfl⟩ <;> rw [hb] <;> simp <;> rfl

end Go.Proofs.YtjekibknembcgaaDoor
