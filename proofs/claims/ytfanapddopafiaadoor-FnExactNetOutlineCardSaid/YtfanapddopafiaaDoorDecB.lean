/- Decimal numbers below 100: strconv.Itoa, and the model's. -/
import Derived.Test.YtfanapddopafiaaDoorText
import Derived.Test.YtfanapddopafiaaDoorShelfT
namespace Go.Proofs.YtfanapddopafiaaDoor
set_option linter.unusedSimpArgs false
set_option linter.unusedVariables false
open Go.ChangeAt Go.ChangeShapes Go.RowKit Go.WideShapes

/-- A number in decimal. -/
noncomputable def decN (x : Int) : ByteArray := ⟨(Lib.decDigits x.toNat).toArray⟩
theorem digN_small {k : Nat} (h : k < 10) : Lib.decDigits k = [UInt8.ofNat (48 + k)] := by rw [Lib.decDigits, dif_pos h]
theorem digN_two {k : Nat} (h : ¬ k < 10) (h2 : k < 100) : Lib.decDigits k = [UInt8.ofNat (48 + k / 10), UInt8.ofNat (48 + k % 10)] := by
  rw [Lib.decDigits, dif_neg h, digN_small (by omega)]; rfl
theorem decN_len {x : Int} (h0 : 0 ≤ x) (h1 : x < 100) : (decN x).size ≤ 2 := by
  obtain ⟨k, rfl⟩ : ∃ k : Nat, x = k := ⟨x.toNat, by omega⟩
  have : (Lib.decDigits k).length ≤ 2 := by
    by_cases h1 : k < 10
    · rw [digN_small h1]; simp
    · rw [digN_two h1 (by omega)]; simp
  simpa [decN, ByteArray.size] using this
theorem mkN_list (t : List Int) : (mkB t).data.toList = t.map fun z => UInt8.ofNat z.toNat := by simp [mkB]
theorem itoa_any (k : Nat) (h1 : k < 100) (w : World) : Calls Tryd.prog 114 #[.int .i64 (k : Int)] w fun e w' => e = .returned (.string (decN (k : Int))) ∧ w = w' :=
  (Any.strconv_Itoa_small Tryd.itoL k h1 w).mono fun e w' ⟨he, hw⟩ => ⟨by rw [he]; rfl, hw.symm⟩
theorem decN_one {x : Int} (h0 : 0 ≤ x) (h1 : x < 10) : mkB [48 + x] = decN x := by
  apply ba_ext
  obtain ⟨k, rfl⟩ : ∃ k : Nat, x = k := ⟨x.toNat, by omega⟩
  have e : ((k : Int)).toNat = k := by omega
  have e2 : (48 + (k : Int)).toNat = 48 + k := by omega
  unfold decN
  rw [e, digN_small (by omega), mkN_list, List.map_singleton, e2]
theorem decN_two {k : Nat} (h0 : 10 ≤ k) (h1 : k < 100) : decN ((k / 10 : Nat) : Int) ++ decN ((k % 10 : Nat) : Int) = decN (k : Int) := by
  apply ba_ext
  have e : ((k : Int)).toNat = k := by omega
  have e1 : (((k / 10 : Nat) : Int)).toNat = k / 10 := by omega
  have e2 : (((k % 10 : Nat) : Int)).toNat = k % 10 := by omega
  unfold decN
  rw [e, e1, e2, digN_two (by omega) h1, digN_small (by omega), digN_small (by omega)]
  rfl
set_option maxRecDepth 20000 in
set_option maxHeartbeats 1000000 in
theorem decimalN1_any (x : Int) (w : World) (h0 : 0 ≤ x) (h1 : x < 10) : Calls Tryd.prog 82 #[.int .i64 x] w fun e w' => e = .returned (.string (decN x)) ∧ Below w.heap.size w w' := by
  rw [← decN_one h0 h1]
  have hcv := conv_one (48 + x) (by omega) (by omega) w
  have hb : Below w.heap.size w (w.alloc (.cells #[.int .u8 (48 + x)] 5)) := (Below.refl _ _).alloc (Nat.le_refl _) _
  have HB := Lib.hid hb
  generalize mkB [48 + x] = B1 at *
  have hneg : decide (x < 0) = false := decide_eq_false (by omega)
  have hten : decide (x < 10) = true := decide_eq_true h1
  clear hb
  go_enter Tryd.func82, Tryd.ntmps82
  go_wp2_with (fail)
  go_ret
  exact ⟨rfl, HB.out⟩
set_option maxRecDepth 20000 in
set_option maxHeartbeats 1000000 in
theorem decimalN_any (x : Int) (w : World) (h0 : 0 ≤ x) (h1 : x < 100) : Calls Tryd.prog 82 #[.int .i64 x] w fun e w' => e = .returned (.string (decN x)) ∧ Below w.heap.size w w' := by
  by_cases h10 : x < 10
  · exact decimalN1_any x w h0 h10
  · obtain ⟨k, rfl⟩ : ∃ k : Nat, x = k := ⟨x.toNat, by omega⟩
    have hneg : decide ((k : Int) < 0) = false := decide_eq_false (by omega)
    have hten : decide ((k : Int) < 10) = false := decide_eq_false (by omega)
    obtain ⟨q, hq⟩ : ∃ q, (k : Int) / 10 = q := ⟨_, rfl⟩
    obtain ⟨m, hm⟩ : ∃ m, (k : Int) % 10 = m := ⟨_, rfl⟩
    have HC1 := Lib.hid (fun w => decimalN1_any q w (by omega) (by omega))
    have HC2 := Lib.hid (fun w => decimalN1_any m w (by omega) (by omega))
    have hadd : ∀ w : World, (Op.stringOp .add (decN q) (decN m)).run Tryd.prog w = .ok (.string (decN (k : Int))) w := by
      intro w
      have e1 : q = ((k / 10 : Nat) : Int) := by omega
      have e2 : m = ((k % 10 : Nat) : Int) := by omega
      have b1 := decN_len (x := q) (by omega) (by omega)
      have b2 := decN_len (x := m) (by omega) (by omega)
      rw [← decN_two (k := k) (by omega) (by omega), ← e1, ← e2]
      exact run_string_add_sum _ _ _ (by omega)
    have EQ1 : Hid (wrap64 ((k : Int) / 10) = q) := Lib.hid (by
      rw [hq]
      exact IntWalk.wrap64_in _ (by omega))
    have EQ2 := Lib.hid hm
    clear h0 h1 h10 hq hm
    generalize decN q = B1 at *
    generalize decN m = B2 at *
    generalize decN (k : Int) = B3 at *
    go_enter Tryd.func82, Tryd.ntmps82
    go_wp2_with (fail)
    rw [EQ1.out]
    refine (HC1.out w).mono ?_
    rintro e w1 ⟨rfl, bel1⟩
    have HB1 := Lib.hid bel1
    clear bel1
    go_wp2_with (fail)
    rw [EQ2.out]
    refine (HC2.out w1).mono ?_
    rintro e w2 ⟨rfl, bel2⟩
    have HB2 := Lib.hid (HB1.out.trans (bel2.mono HB1.out.size))
    clear bel2
    go_wp2
    go_ret
    exact ⟨rfl, HB2.out⟩
/-- The texts of the numbers of links. -/
noncomputable def dcN (k : Nat) : ByteArray := decN (k : Int)
theorem dcN_len : ∀ k, k < 48 → (dcN k).size ≤ 2 := fun k hk => decN_len (by omega) (by omega)
theorem ret_sA {a b : ByteArray} (h : a = b) : Ending.returned (.string a) = .returned (.string b) := by rw [h]
end Go.Proofs.YtfanapddopafiaaDoor
