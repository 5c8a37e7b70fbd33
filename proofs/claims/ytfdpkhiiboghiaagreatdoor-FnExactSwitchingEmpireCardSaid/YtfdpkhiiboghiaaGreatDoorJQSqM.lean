/- Mathematics of chapter 14: terminal links; the parts that are left when a link is removed; nets of some links. Mathematics of chapter 14: splitting links, nets of some links, the last link, sequentialisable nets. Mathematics of chapter 15: sets of links as the bits of a number; closed sets, borders, subnets. Answers of chapter 8 are small. The program's checkedNet and AxiomNet. slices.Repeat of one number. The program's SourceOf and TargetOf: for each wire the link that has it. Made by mklxp.py. -/
import Derived.Test.YtfdpkhiiboghiaaGreatDoorJPaM
import Derived.Test.YtfdpkhiiboghiaaGreatDoorJQSwM
import Derived.Test.YtfdpkhiiboghiaaGreatDoorJQSeqV
import Derived.Test.YtfdpkhiiboghiaaGreatDoorJQPgA
import Derived.Lib.TrailingZeros
import Derived.Test.YtfdpkhiiboghiaaGreatDoorJQNetZ
import Derived.Test.YtfdpkhiiboghiaaGreatDoorJQPgG
import Derived.Test.YtfdpkhiiboghiaaGreatDoorShelfU
import Derived.Deep.RegionHeldLaw
import Derived.Deep.DeepCutAuto
import Derived.BigQuiet
namespace Go.Proofs.YtfdpkhiiboghiaaGreatDoor
set_option linter.unusedSimpArgs false
set_option linter.unusedVariables false
section
set_option linter.unusedSimpArgs false
set_option linter.unusedVariables false
open Go.ChangeAt Go.ChangeShapes Go.RowKit Go.WideShapes

/-- The numbers below k of which p says yes. -/
def selU (p : Nat → Bool) (k : Nat) : List Int := ((List.range k).filter p).map fun x : Nat => (x : Int)
theorem selU_yes {p : Nat → Bool} {k : Nat} (h : p k = true) : selU p (k + 1) = selU p k ++ [(k : Int)] := by
  unfold selU; rw [List.range_succ, List.filter_append, List.map_append]; simp [h]
theorem selU_no {p : Nat → Bool} {k : Nat} (h : p k = false) : selU p (k + 1) = selU p k := by
  unfold selU; rw [List.range_succ, List.filter_append, List.map_append]; simp [h]
theorem selU_len (p : Nat → Bool) (k : Nat) : (selU p k).length ≤ k := by
  unfold selU; rw [List.length_map]; exact Nat.le_trans (List.length_filter_le _ _) (by rw [List.length_range]; exact Nat.le_refl _)
theorem selU_mem {p : Nat → Bool} {k : Nat} {x : Int} : x ∈ selU p k ↔ ∃ j : Nat, j < k ∧ p j = true ∧ x = (j : Int) := by
  unfold selU; rw [List.mem_map]
  constructor
  · rintro ⟨j, hj, rfl⟩; rw [List.mem_filter, List.mem_range] at hj; exact ⟨j, hj.1, hj.2, rfl⟩
  · rintro ⟨j, h1, h2, rfl⟩; exact ⟨j, by rw [List.mem_filter, List.mem_range]; exact ⟨h1, h2⟩, rfl⟩
theorem selU_ext {p q : Nat → Bool} {k : Nat} (h : ∀ j, j < k → p j = q j) : selU p k = selU q k := by
  unfold selU
  rw [List.filter_congr fun x hx => h x (List.mem_range.1 hx)]
end
section
set_option linter.unusedSimpArgs false
set_option linter.unusedVariables false
open Go.ChangeAt Go.ChangeShapes Go.RowKit Go.WideShapes

/-- The ends of an arc are in one part. -/
theorem runR_con {n : Nat} {ar : List Ac} (hin : ArcsIn n ar) : ∀ k, k ≤ ar.length → ∀ j, j < k → (runR n ar k).1.getD (ar.getD j Ac.nil).f.toNat 0 = (runR n ar k).1.getD (ar.getD j Ac.nil).t.toNat 0
  | 0, _, j, hj => absurd hj (by omega)
  | k + 1, hk, j, hj => by
    have hl := runR_len n ar k (by omega)
    have ha := hin _ (getL_mem (d := Ac.nil) (show j < ar.length by omega))
    have hf := (inW_yes ha.1).2.1
    have ht := (inW_yes ha.2).2.1
    rw [runR_succ (by omega)]; unfold stepR; dsimp only
    rw [renP_at (by omega), renP_at (by omega)]
    by_cases e : j = k
    · subst e
      split <;> split <;> omega
    · rw [runR_con hin k (by omega) j (by omega)]
end
section
set_option linter.unusedSimpArgs false
set_option linter.unusedVariables false
open Go.ChangeAt Go.ChangeShapes Go.RowKit Go.WideShapes

/-- The set of one link, as a number. -/
def shB (x : Int) : Nat := if 0 ≤ x ∧ x < 64 then 2 ^ x.toNat else 0
theorem shB_bit (x : Int) (k : Nat) : (shB x).testBit k = decide (x = (k : Int) ∧ k < 64) := by
  unfold shB
  by_cases h : 0 ≤ x ∧ x < 64
  · rw [if_pos h, Nat.testBit_two_pow, decide_eq_decide]; omega
  · rw [if_neg h, Nat.zero_testBit]; symm; rw [decide_eq_false_iff_not]; omega
theorem shB_lt (x : Int) : shB x < 2 ^ 64 := by
  unfold shB; split
  · exact Nat.pow_lt_pow_right (by decide) (by omega)
  · decide
/-- The set of some links. -/
def orS (ks : List Int) : Nat := ks.foldl (fun s x => s ||| shB x) 0
def orU (ks : List Int) (j : Nat) : Nat := orS (ks.take j)
theorem orU_succ {ks : List Int} {j : Nat} (h : j < ks.length) : orU ks (j + 1) = orU ks j ||| shB (ks.getD j 0) := by
  unfold orU orS; rw [takeL_succ (d := (0 : Int)) h, List.foldl_append]; rfl
theorem orU_end (ks : List Int) : orU ks ks.length = orS ks := by unfold orU; rw [List.take_length]
theorem orS_from : ∀ (ks : List Int) (s k : Nat), (ks.foldl (fun s x => s ||| shB x) s).testBit k = (s.testBit k || decide (k < 64 ∧ (k : Int) ∈ ks))
  | [], s, k => by simp
  | x :: ks, s, k => by
    rw [List.foldl_cons, orS_from ks, Nat.testBit_or, shB_bit, Bool.or_assoc]
    congr 1
    rw [Bool.eq_iff_iff, Bool.or_eq_true, decide_eq_true_eq, decide_eq_true_eq, decide_eq_true_eq, List.mem_cons]
    constructor
    · rintro (⟨rfl, h⟩ | ⟨h1, h2⟩)
      · exact ⟨h, .inl rfl⟩
      · exact ⟨h1, .inr h2⟩
    · rintro ⟨h1, rfl | h2⟩
      · exact .inl ⟨rfl, h1⟩
      · exact .inr ⟨h1, h2⟩
theorem orS_bit (ks : List Int) (k : Nat) : (orS ks).testBit k = decide (k < 64 ∧ (k : Int) ∈ ks) := by
  unfold orS; rw [orS_from, Nat.zero_testBit, Bool.false_or]
theorem orS_lt (ks : List Int) : orS ks < 2 ^ 64 := by
  have : ∀ (ks : List Int) (s : Nat), s < 2 ^ 64 → ks.foldl (fun s x => s ||| shB x) s < 2 ^ 64 := fun ks => by
    induction ks with
    | nil => intro s h; exact h
    | cons x ks ih => intro s h; exact ih _ (Nat.or_lt_two_pow h (shB_lt x))
  exact this ks 0 (by decide)
theorem orU_lt (ks : List Int) (j : Nat) : orU ks j < 2 ^ 64 := orS_lt _
theorem meets_is (s t : Nat) : (s &&& t = 0) ↔ ∀ k, ¬ (s.testBit k = true ∧ t.testBit k = true) := by
  constructor
  · intro h k hk
    have := Nat.testBit_and s t k
    rw [h, Nat.zero_testBit, hk.1, hk.2] at this; cases this
  · intro h
    refine Nat.eq_of_testBit_eq fun k => ?_
    rw [Nat.testBit_and, Nat.zero_testBit]
    have := h k
    cases h1 : s.testBit k <;> cases h2 : t.testBit k <;> simp_all
/-- The lowest bit. -/
theorem ctz_at {x : Nat} (h0 : x ≠ 0) (hx : x < 2 ^ 64) : Lib.ctz 64 x < 64 ∧ x.testBit (Lib.ctz 64 x) = true ∧ (∀ k, k < Lib.ctz 64 x → x.testBit k = false) ∧ ∀ k, (x &&& (x - 1)).testBit k = (x.testBit k && !decide (k = Lib.ctz 64 x)) := by
  unfold Lib.ctz
  rw [if_neg h0]
  obtain ⟨m, hm, ht⟩ := Lib.ctzFrom_spec 64 x (by omega) hx
  generalize Lib.ctzFrom 64 x = t at *
  have hp : 0 < 2 ^ t := Nat.pow_pos (by decide)
  have b1 : ∀ k, x.testBit k = (decide (t ≤ k) && (2 * m + 1).testBit (k - t)) := fun k => by
    rw [hm, Nat.mul_comm, Nat.testBit_mul_two_pow]
  have e1 : x - 1 = 2 ^ t * (2 * m) + (2 ^ t - 1) := by
    rw [hm, Nat.mul_add]; omega
  have b2 : ∀ k, t ≤ k → (x - 1).testBit k = (2 * m).testBit (k - t) := fun k hk => by
    rw [e1, Nat.testBit_two_pow_mul_add _ (by omega), if_neg (by omega)]
  refine ⟨ht, ?_, fun k hk => ?_, fun k => ?_⟩
  · rw [b1, Nat.sub_self]; simp
  · rw [b1, decide_eq_false (by omega)]; rfl
  · rw [Nat.testBit_and, b1]
    by_cases h1 : t ≤ k
    · rw [b2 k h1]
      by_cases h2 : k = t
      · subst h2; rw [Nat.sub_self]; simp
      · obtain ⟨j, rfl⟩ : ∃ j, k = t + (j + 1) := ⟨k - t - 1, by omega⟩
        rw [show t + (j + 1) - t = j + 1 by omega, Nat.testBit_succ, Nat.testBit_succ, show (2 * m + 1) / 2 = m by omega, show 2 * m / 2 = m by omega, decide_eq_true h1, decide_eq_false h2]
        simp
    · rw [decide_eq_false h1]; rfl
/-- What is left of s behind the bits below j. -/
def lftS (s j : Nat) : Nat := s / 2 ^ j * 2 ^ j
theorem lftS_zero (s : Nat) : lftS s 0 = s := by unfold lftS; simp
theorem lftS_bit (s j k : Nat) : (lftS s j).testBit k = (decide (j ≤ k) && s.testBit k) := by
  unfold lftS
  rw [Nat.testBit_mul_two_pow, Nat.testBit_div_two_pow]
  by_cases h : j ≤ k
  · rw [show k - j + j = k by omega]
  · rw [decide_eq_false h]; rfl
theorem lftS_le (s j : Nat) : lftS s j ≤ s := Nat.div_mul_le_self _ _
theorem lft_done {s j : Nat} (h : lftS s j = 0) (hs : s < 2 ^ 64) (hj : j ≤ 64) : selU s.testBit j = selU s.testBit 64 := by
  have hb : ∀ k, j ≤ k → s.testBit k = false := fun k hk => by
    have := lftS_bit s j k
    rw [h, Nat.zero_testBit, decide_eq_true hk] at this; exact this.symm
  have : ∀ n, selU s.testBit (j + n) = selU s.testBit j := fun n => by
    induction n with
    | zero => rfl
    | succ n ih => rw [show j + (n + 1) = (j + n) + 1 by omega, selU_no (hb _ (by omega)), ih]
  have := this (64 - j)
  rw [show j + (64 - j) = 64 by omega] at this; exact this.symm
theorem lft_step {s j : Nat} (h : lftS s j ≠ 0) (hs : s < 2 ^ 64) : ∃ t, Lib.ctz 64 (lftS s j) = t ∧ j ≤ t ∧ t < 64 ∧ selU s.testBit (t + 1) = selU s.testBit j ++ [(t : Int)] ∧ lftS s j &&& (lftS s j - 1) = lftS s (t + 1) := by
  obtain ⟨h1, h2, h3, h4⟩ := ctz_at h (Nat.lt_of_le_of_lt (lftS_le s j) hs)
  generalize Lib.ctz 64 (lftS s j) = t at *
  rw [lftS_bit, Bool.and_eq_true, decide_eq_true_eq] at h2
  have hb : ∀ n, j + n ≤ t → selU s.testBit (j + n) = selU s.testBit j := fun n => by
    induction n with
    | zero => intro _; rfl
    | succ n ih =>
      intro hn
      have := h3 (j + n) (by omega)
      rw [lftS_bit, decide_eq_true (by omega), Bool.true_and] at this
      rw [show j + (n + 1) = (j + n) + 1 by omega, selU_no this, ih (by omega)]
  refine ⟨t, rfl, h2.1, h1, ?_, ?_⟩
  · have := hb (t - j) (by omega)
    rw [show j + (t - j) = t by omega] at this
    rw [selU_yes h2.2, this]
  · refine Nat.eq_of_testBit_eq fun k => ?_
    rw [h4, lftS_bit, lftS_bit]
    by_cases e1 : t + 1 ≤ k
    · rw [decide_eq_true e1, decide_eq_true (by omega), decide_eq_false (by omega)]; simp
    · rw [decide_eq_false e1]
      by_cases e2 : k = t
      · rw [decide_eq_true e2]; simp
      · have := h3 k (by omega)
        rw [lftS_bit] at this
        rw [this]; rfl
/-- The links of a set. -/
def lkS (s : Nat) : List Int := selU s.testBit 64
/-- A set of links below n. -/
def inS (n s : Nat) : Prop := ∀ k, s.testBit k = true → k < n
theorem inS_lks {n s : Nat} (h : inS n s) (hn : n ≤ 64) : lkS s = selU s.testBit n := by
  unfold lkS
  have : ∀ d, selU s.testBit (n + d) = selU s.testBit n := fun d => by
    induction d with
    | zero => rfl
    | succ d ih =>
      rw [show n + (d + 1) = (n + d) + 1 by omega, selU_no, ih]
      cases hq : s.testBit (n + d) with
      | false => rfl
      | true => have := h _ hq; omega
  have := this (64 - n)
  rw [show n + (64 - n) = 64 by omega] at this; exact this
end
section
open Go.ChangeAt Go.ChangeShapes Go.RowKit Go.WideShapes
end
section
set_option linter.unusedSimpArgs false
set_option linter.unusedVariables false
open Go.ChangeAt Go.ChangeShapes Go.RowKit Go.WideShapes
end
section
set_option linter.unusedSimpArgs false
set_option linter.unusedVariables false
open Go.ChangeAt Go.ChangeShapes Go.RowKit Go.WideShapes

theorem mul_one_any (n : Nat) (hn : n ≤ 1048576) (w : World) : Calls Tryz.prog 188 #[.int .u64 1, .int .u64 n] w fun e w' => e = .returned (.tuple #[.int .u64 0, .int .u64 n]) ∧ w' = w := by
  have h := Go.Proofs.Any.bits_Mul Tryz.mulL 1 n (by omega) (by omega) w
  rw [show 1 * n / 18446744073709551616 = 0 by omega, show 1 * n % 18446744073709551616 = n by omega] at h
  exact h
theorem made1x (m : Nat) : madeCells #[Value.int .i64 0] (m * 1) = (List.replicate m (Value.int .i64 0)).toArray := by
  apply Array.toList_inj.1
  apply List.ext_getElem?
  intro j
  by_cases hj : j < m
  · have : j % 1 = 0 := by omega
    simp [madeCells, hj, this]
  · simp [madeCells, hj]
/-- The first k cells are laid. -/
def repC (v : Int) (k n : Nat) : List Value := List.replicate k (Value.int .i64 v) ++ List.replicate (n - k) (Value.int .i64 0)
theorem repC_len {v : Int} {k n : Nat} (h : k ≤ n) : (repC v k n).length = n := by simp [repC]; omega
theorem repC_zero (v : Int) (n : Nat) : repC v 0 n = List.replicate n (Value.int .i64 0) := by simp [repC]
theorem repC_all (v : Int) (n : Nat) : repC v n n = (List.replicate n v).map (Value.int .i64) := by simp [repC]
theorem repC_splice {v : Int} {k c n : Nat} (h : k + c ≤ n) : splice (repC v k n) k (List.replicate c (Value.int .i64 v)) = repC v (k + c) n := by
  unfold splice repC
  rw [List.take_left' (by simp), List.length_replicate, List.drop_append]
  simp only [List.length_replicate, List.drop_replicate]
  rw [show k - (k + c) = 0 by omega, show k + c - k = c by omega, show n - k - c = n - (k + c) by omega, List.replicate_zero, List.nil_append, ← List.append_assoc, List.replicate_append_replicate]
theorem size_i64 : (Tryz.prog.info? 2).map (·.size) = some 1 := by kernel_rfl
theorem run_copy_rep {w : World} {b g lo s n d c : Nat} {v : Int} (hsrc : ∀ j, j < s → w.cell? ⟨b, j, none⟩ = some (.int .i64 v)) (hg : w.heap[g]? = some (.cells (repC v lo n).toArray 2 (0, 0))) (hl : lo ≤ n) :
    ∃ w', (Builtin.copy_ #[24, 24] 3 #[.slice (some ⟨g, lo, none⟩) (n - lo) d, .slice (some ⟨b, 0, none⟩) s c]).run Tryz.prog w = .ok (.int .i64 ((min s (n - lo) : Nat) : Int)) w' ∧ w'.heap[g]? = some (.cells (repC v (lo + min s (n - lo)) n).toArray 2 (0, 0)) ∧ Below g w w' := by
  have hr := run_copy_row (P := Tryz.prog) w 24 24 3 2 g lo (n - lo) d ⟨b, 0, none⟩ s c (repC v lo n).toArray 2 (List.replicate (min s (n - lo)) (Value.int .i64 v)) Tryz.underlying24 size_i64 hg (by simp only [List.length_replicate]) ?_ ?_ ?_
  · rw [List.length_replicate] at hr
    refine ⟨_, hr, ?_, below_setRow (Below.refl _ _) (Nat.le_refl _) _⟩
    rw [setRow_heap w g _ _ _ _ hg]
    have := repC_splice (v := v) (k := lo) (c := min s (n - lo)) (n := n) (by omega)
    unfold splice at this
    rw [List.length_replicate, ← List.append_assoc] at this
    simp only [List.toList_toArray]
    rw [this]
  · intro j u hu
    rw [List.getElem?_replicate] at hu
    split at hu
    · next hj =>
      cases hu
      have ea : (⟨b, 0, none⟩ : Addr).add j = ⟨b, j, none⟩ := by simp [Addr.add]; omega
      rw [ea]
      exact hsrc j (by omega)
    · cases hu
  · rw [List.length_replicate, List.size_toArray, repC_len hl]; omega
  · intro u hu; rw [(List.mem_replicate.1 hu).2]; rfl
set_option maxRecDepth 100000 in
set_option maxHeartbeats 2000000 in
theorem repeat_any (b : Nat) (v : Int) (n : Nat) (w : World) (hb : b < w.heap.size) (hc : w.cell? ⟨b, 0, none⟩ = some (.int .i64 v)) (hn : n ≤ 1048576) :
    Calls Tryz.prog 166 #[.slice (some ⟨b, 0, none⟩) 1 1, .int .i64 n] w (Gives w (List.replicate n v)) := by
  obtain ⟨i0, hi0, hz0, hz1, hz2⟩ := info_parts info_i64
  have mk2 : ∀ wx : World, (Instr.makeSlice 24 (.int .i64 (n : Nat)) (.int .i64 (n : Nat))).run Tryz.prog wx = .ok (.slice (some ⟨wx.heap.size, 0, none⟩) n n) (wx.alloc (.cells (repC v 0 n).toArray 2)) := fun wx => by
    have hr := run_make (P := Tryz.prog) wx 24 2 i0 (.int .i64 0) Tryz.underlying24 hi0 hz0 .i64 .i64 n n (by omega) (Int.le_refl _) (by rw [hz2]; omega) (by omega)
    simp only [Int.toNat_natCast, hz1] at hr
    rw [repC_zero, ← made1x]
    exact hr
  clear hi0 hz0 hz1 hz2
  obtain ⟨g, hg⟩ : ∃ g, w.heap.size = g := ⟨_, rfl⟩
  obtain ⟨w1, hw1⟩ : ∃ u, u = w.alloc (.cells (repC v 0 n).toArray 2) := ⟨_, rfl⟩
  have h1 : w1.heap[g]? = some (.cells (repC v 0 n).toArray 2 (0, 0)) := by rw [hw1, ← hg]; exact heap_alloc_new _ _
  have b1 : Below g w w1 := by rw [hw1]; exact (Below.refl _ _).alloc (by omega) _
  have hcw : w1.cell? ⟨b, 0, none⟩ = some (.int .i64 v) := (b1.cell (p := ⟨b, 0, none⟩) (by show b < g; omega)).trans hc
  have HW1 := Lib.hid hw1; have H1 := Lib.hid h1; have B1 := Lib.hid b1; have HCW := Lib.hid hcw
  have HGG := Lib.hid hg
  have hcv : IntKind.u64.wrap (1 : Int) = 1 := by rw [IntKind.wrap_u64]; omega
  have hcn : IntKind.u64.wrap (n : Int) = (n : Int) := by rw [IntKind.wrap_u64]; omega
  have hcm : IntKind.i64.wrap (n : Int) = (n : Int) := IntWalk.i64_in _ (by omega)
  have h0n : ¬ (n : Int) < 0 := by omega
  have hmx : ¬ (9223372036854775807 : Int) < (n : Int) := by omega
  have HMUL := Lib.hid (mul_one_any n hn w)
  have HS1 : Hid (splice (repC v 0 n) 0 (List.replicate (min 1 n) (Value.int .i64 v)) = repC v (min 1 n) n) := Lib.hid (by have := repC_splice (v := v) (k := 0) (c := min 1 n) (n := n) (by omega); rw [this, Nat.zero_add])
  clear hw1 h1 b1 hcw hc
  go_enter Tryz.func166, Tryz.ntmps166
  go_wp2_with (fail)
  refine HMUL.out.mono ?_
  rintro e w0 ⟨rfl, hw0⟩
  rw [hw0]
  clear hw0
  go_upto_region 7 with (fail)
  rw [← HW1.out]
  obtain ⟨w5, hcp, hg5, hb5⟩ := run_copy_rep (lo := 0) (s := 1) (c := 1) (d := n) (fun j hj => (show 0 = j by omega) ▸ HCW.out) H1.out (by omega)
  rw [Nat.sub_zero] at hcp
  rw [Nat.sub_zero, Nat.zero_add] at hg5
  have HG5 := Lib.hid hg5
  have B5 := Lib.hid (B1.out.trans hb5)
  clear hb5 hg5
  obtain ⟨q, hq⟩ : ∃ q, min 1 n = q := ⟨_, rfl⟩
  rw [hq] at HG5 hcp
  go_wp2
  go_loopw [8] (fun i wr => ∃ k : Nat, k ≤ n ∧ (k = 0 → n = 0) ∧ i = .int .i64 k ∧ wr.heap[g]? = some (.cells (repC v k n).toArray 2 (0, 0)) ∧ Below g w wr) (fun i _ => n - (intOf i).toNat)
  case atStart => exact ⟨q, by omega, by omega, rfl, HG5.out, B5.out⟩
  case round =>
    obtain ⟨k, hk, hk0, rfl, hG, hB⟩ := hrel
    clear HG5 B5
    by_cases hlt : k < n
    · have hk1 : 0 < k := by omega
      have hce : ∀ j, j < k → wr.drew.cell? ⟨g, j, none⟩ = some (Value.int .i64 v) := fun j hj => by
        show wr.cell? ⟨g, j, none⟩ = _
        rw [cell_of_row _ _ _ _ _ _ hG]
        simp [repC, List.getElem?_append, hj]
      obtain ⟨w6, hcp, hg6, hb6⟩ := run_copy_rep (w := wr.drew) (b := g) (lo := k) (s := k) (n := n) (d := n - k) (c := n) hce hG (by omega)
      have hnk : ¬ n = k := by omega
      obtain ⟨c, hc⟩ : ∃ c, min k (n - k) = c := ⟨_, rfl⟩
      rw [hc] at hcp hg6
      have HG6 := Lib.hid hg6
      have HB6 := Lib.hid (hB.trans (((Below.refl g wr).drew.trans hb6)))
      have hwr : IntKind.i64.wrap ((k : Int) + (c : Int)) = (k : Int) + (c : Int) := IntWalk.i64_in _ (by omega)
      clear hG hB hce hg6 hb6
      go_wp2
      go_region
      all_goals (try go_wp2)
      go_roundw
      case rel => exact ⟨k + c, by omega, by omega, by go_num, HG6.out, HB6.out⟩
      case measure => simp [intOf]; omega
    · have hkn : k = n := by omega
      subst hkn
      rw [repC_all] at hG
      have hlen : ((List.replicate k v).map (Value.int .i64)).length = k := by simp
      have hown : wr.ownsRow w.heap.size 2 1 (.slice (some ⟨g, 0, none⟩) k k) k ((List.replicate k v).map (Value.int .i64)) :=
        ⟨by simp, .inr ⟨g, k, _, rfl, by omega, hG, Nat.le_refl _, by unfold maxLen; omega, by simp, by simp⟩⟩
      have HG : Hid (Gives w (List.replicate k v) (.returned (.slice (some ⟨g, 0, none⟩) k k)) wr) := Lib.hid ⟨some ⟨g, 0, none⟩, k, by rw [List.length_replicate], by rw [List.length_replicate]; exact hown, by rw [HGG.out]; exact hB⟩
      clear hG hB hown hlen
      go_wp2
      go_ret
      exact HG.out
end
section
set_option linter.unusedSimpArgs false
set_option linter.unusedVariables false
open Go.ChangeAt Go.ChangeShapes Go.RowKit Go.WideShapes

theorem grown_transx {a b c : World} {r : Option Nat} (h : a.grownBy b r) (h' : b.grownBy c r) : a.grownBy c r :=
  ⟨h'.os.trans h.os, h'.tape.trans h.tape, h'.output.trans h.output, Nat.le_trans h.size h'.size, fun k hk hr => (h'.block k (Nat.lt_of_lt_of_le hk h.size) hr).trans (h.block k hk hr)⟩
theorem grown_reflx (w : World) (o : Option Nat) : w.grownBy w o := ⟨rfl, rfl, rfl, Nat.le_refl _, fun _ _ _ => rfl⟩
set_option maxRecDepth 100000 in
set_option maxHeartbeats 2000000 in
theorem linksOut_any (h : NH) (N : Nt) (w : World) (hv : valN N = true) (r : RdN w w.heap.size h N) :
    Calls Tryz.prog 120 #[.agg #[.slice h.A N.w.length h.c, .slice h.L N.l.length h.d, .slice h.C N.c.length h.e], .func (.func 121) #[] #[]] w (Gives w (lxL outL N)) := by
  obtain ⟨h48, h48l⟩ := valN_size hv
  obtain ⟨n, hn⟩ : ∃ n, N.w.length = n := ⟨_, rfl⟩
  have hn48 : n ≤ 48 := by omega
  obtain ⟨w0, hw0⟩ : ∃ w0, w0 = w.alloc (.cells #[.slice h.A N.w.length h.c, .slice h.L N.l.length h.d, .slice h.C N.c.length h.e] 30) := ⟨_, rfl⟩
  obtain ⟨hb, hh, hsz⟩ := box3_any w (.slice h.A N.w.length h.c) (.slice h.L N.l.length h.d) (.slice h.C N.c.length h.e) 30
  rw [← hw0] at hb hh hsz
  obtain ⟨g0, hg0⟩ : ∃ g, w0.heap.size = g := ⟨_, rfl⟩
  obtain ⟨w1, hw1⟩ : ∃ u, u = w0.alloc (.cells #[.int .i64 (-1)] 2) := ⟨_, rfl⟩
  have hb1 : Below g0 w0 w1 := by rw [hw1]; exact (Below.refl _ _).alloc (by omega) _
  have hs1 : w1.heap.size = g0 + 1 := by rw [hw1]; simp [hg0]
  have hc1 : w1.cell? ⟨g0, 0, none⟩ = some (.int .i64 (-1)) := by rw [hw1, ← hg0]; exact cell_of_row _ _ 0 _ _ (0, 0) (heap_alloc_new _ _)
  have HREP := Lib.hid (repeat_any g0 (-1) n w1 (by omega) hc1 (by omega))
  have HK := Lib.hid (fun (wx : World) (hx : Below g0 w0 wx) => three_cells ((hx.block w.heap.size (by omega)).trans hh))
  have HRL := Lib.hid (fun (wx : World) (hx : Below g0 w0 wx) => show RdN wx g0 h N from ((r.below hb).more (by omega)).below (hg0 ▸ hx))
  have HB0 := Lib.hid hb; have HB1 := Lib.hid hb1
  have ho := oneP_out hv
  have HO := Lib.hid ho
  have HZ := Lib.hid (LnQ.zero outL N)
  have HN := Lib.hid hn; have HW1 := Lib.hid hw1; have HG0 := Lib.hid hg0
  have hs0 : w.heap.size ≤ g0 := by omega
  obtain ⟨y0, y1, y2⟩ := HK.out _ (Below.refl _ w0)
  have y0' := (HK.out _ hb1).1
  rw [hw1] at y0'
  rw [hn] at y0 y0'
  clear hb hh hsz r hb1 hw1 hn hc1 ho hv
  go_enter Tryz.func120, Tryz.ntmps120
  go_upto_region 1 with (fail)
  rw [← hw0]
  clear hw0
  go_wp2_with (fail)
  rw [← HW1.out]
  refine HREP.out.mono ?_
  rintro e w2 ⟨A, c, rfl, own2, bel2⟩
  have hlr : (List.replicate n (-1 : Int)).length = n := List.length_replicate
  rw [hlr] at own2 ⊢
  have B2 := Lib.hid (HB1.out.trans (bel2.mono (by omega)))
  have O2 := Lib.hid own2
  have hw12 := bel2.size
  have HTOP : Hid (∀ b, Value.ownBlock (.slice A n c) = some b → b < w2.heap.size ∧ g0 < b) := Lib.hid fun b e => ⟨(own2.lt b e).2, by have := (own2.lt b e).1; omega⟩
  clear own2 bel2 hlr y0 y1 y2 y0'
  obtain ⟨y0, y1, y2⟩ := HK.out _ B2.out
  go_wp2
  go_loopw [18] (fun i wr => ∃ (k : Nat) (cur : List Int), k ≤ N.l.length ∧ i = .int .i64 k ∧ LnQ outL N cur k 0 ∧ wr.ownsRow w1.heap.size 2 1 (.slice A n c) n (cur.map (Value.int .i64)) ∧ w2.heap.size ≤ wr.heap.size ∧ Below g0 w0 wr) (fun i _ => N.l.length - (intOf i).toNat)
  case atStart => exact ⟨0, _, Nat.zero_le _, rfl, HZ.out, (by rw [HN.out]; exact O2.out), Nat.le_refl _, B2.out⟩
  case round =>
    obtain ⟨k, cur, hk, rfl, hq, hown, htop, hB⟩ := hrel
    clear y0 y1 y2
    by_cases hlt : k < N.l.length
    · obtain ⟨b, off, hA, hbb, hcells⟩ := (HRL.out _ hB).2.1.at (show 0 < N.l.length by omega)
      obtain ⟨x0, x1, x2, x3⟩ := hcells k hlt
      have hsr := hB.size
      have HIN := Lib.hid (fun t (ht : t < (outL (N.l.getD k Lk.nil)).length) => HO.out.ins k hlt t ht)
      have HST := Lib.hid (fun (cur : List Int) m (hq : LnQ outL N cur k m) hm => hq.step HO.out hlt hm)
      have HNX := Lib.hid (fun (cur : List Int) (hq : LnQ outL N cur k (outL (N.l.getD k Lk.nil)).length) => hq.next)
      have hol := outL_len (N.l.getD k Lk.nil)
      obtain ⟨⟨lk, la, lb, lc⟩, hl⟩ : ∃ l, N.l.getD k Lk.nil = l := ⟨_, rfl⟩
      rw [hl] at x0 x1 x2 x3 HIN HST HNX hol
      dsimp only at x0 x1 x2 x3
      obtain ⟨bl, z0, z1, z2, z3, zs⟩ := lnk_any wr ⟨lk, la, lb, lc⟩ 103
      dsimp only at bl z0 z1 z2 z3
      obtain ⟨u1, hu1⟩ : ∃ u1, u1 = wr.alloc (.cells #[.int .i64 lk, .int .i64 la, .int .i64 lb, .int .i64 lc] 103) := ⟨_, rfl⟩
      have HU1 := Lib.hid hu1
      rw [← hu1] at bl zs z0 z1 z2 z3
      have BL := Lib.hid (hB.trans (bl.mono (show g0 ≤ wr.heap.size by omega)))
      have OW := Lib.hid (own_below hown bl (Nat.le_refl _))
      have HQ0 := Lib.hid hq
      have htop1 : w2.heap.size ≤ u1.heap.size := by omega
      clear hcells hB bl hl hown hq hu1 zs
      obtain ⟨hAd, hcd, hhs, hL, hd, hC, he⟩ := h
      dsimp only at hA
      subst hA
      go_wp2_with (fail)
      rw [← HU1.out]
      clear x0 x1 x2 x3 HU1 z0 z1 z2 z3
      refine (show Calls Tryz.prog 121 #[.agg #[.int .i64 lk, .int .i64 la, .int .i64 lb, .int .i64 lc]] u1 (Gives u1 (outL ⟨lk, la, lb, lc⟩)) from outputsOf_any ⟨lk, la, lb, lc⟩ u1).mono ?_
      rintro e u2 ⟨A2, c2, rfl, o2, b2⟩
      have BL2 := Lib.hid (BL.out.trans (b2.mono (show g0 ≤ u1.heap.size by omega)))
      have OW2 := Lib.hid (own_below OW.out b2 (Nat.le_refl _))
      have R2 := Lib.hid (RdI.of_own o2)
      have hs12 := b2.size
      have HO2 := Lib.hid (fun b (e : Value.ownBlock (.slice A2 (outL ⟨lk, la, lb, lc⟩).length c2) = some b) => (o2.lt b e).1)
      have hul := BL2.out.size
      clear o2 b2
      generalize outL ⟨lk, la, lb, lc⟩ = X at *
      go_wp2
      go_loopw [27] (fun i wx => ∃ (m : Nat) (cur : List Int), m ≤ X.length ∧ i = .int .i64 m ∧ LnQ outL N cur k m ∧ wx.ownsRow w1.heap.size 2 1 (.slice A n c) n (cur.map (Value.int .i64)) ∧ Below g0 w0 wx ∧ u2.grownBy wx (Value.ownBlock (.slice A n c))) (fun i _ => X.length - (intOf i).toNat)
      case atStart => exact ⟨0, cur, Nat.zero_le _, rfl, HQ0.out, OW2.out, BL2.out, grown_reflx _ _⟩
      case round =>
        obtain ⟨m, cm, hm, rfl, hq, hown, hB, hgr⟩ := hrel
        by_cases hlm : m < X.length
        · obtain ⟨bo, offo, hA2, hbo, hco⟩ := R2.out.2 (by omega)
          subst hA2
          have hbog : u1.heap.size ≤ bo := HO2.out bo rfl
          have hx := (World.cell?_of_block (a := ⟨bo, offo + m, none⟩) (hgr.block bo hbo (fun e => by have := (HTOP.out bo e.symm).1; omega))).trans (hco m hlm)
          have hin := HIN.out m hlm
          have hst := HST.out cm m hq hlm
          obtain ⟨z, hz⟩ : ∃ z, X.getD m 0 = z := ⟨_, rfl⟩
          rw [hz] at hx hin hst
          obtain ⟨_, hix, ez⟩ := inW_yes hin
          rw [HN.out] at hix
          have hcl := hq.1
          rw [HN.out] at hcl
          obtain ⟨g, cap, hv, hlo, hhi⟩ := hown.form (by omega)
          have hAg : A = some ⟨g, 0, none⟩ ∧ c = cap := by injection hv with x y z; exact ⟨x, z⟩
          obtain ⟨rfl, rfl⟩ := hAg
          have ca := hown.cellAt (g := g) z.toNat (by omega)
          have fa := hown.frozenAt (g := g) z.toNat
          obtain ⟨d0, e0⟩ : ∃ x, wr.cell? ⟨g, z.toNat, none⟩ = some x := ⟨_, ca.trans (List.getElem?_eq_getElem (by simp; omega))⟩
          have hs1' := hown.stored z.toNat (.int .i64 (k : Nat))
          rw [← List.map_set] at hs1'
          have OW5 := Lib.hid hs1'.1
          have GR5 := Lib.hid (grown_transx hgr hs1'.2)
          have BB5 := Lib.hid (hB.grown hs1'.2 (by have := hB.size; omega) (fun q hq => by injection hq with hq; omega))
          have ST5 := Lib.hid hst
          generalize z.toNat = iz at *
          subst ez
          have hizn : (iz : Int) < (n : Int) := by omega
          clear hco hs1' hst hgr hB hown hq ca hcl hz hin hv
          go_wp2
          go_roundw
          case rel => exact ⟨m + 1, _, by omega, by go_num, ST5.out, OW5.out, BB5.out, GR5.out⟩
          case measure => simp [intOf]; omega
        · have hmx : m = X.length := by omega
          subst hmx
          have HNN := Lib.hid (HNX.out cm hq)
          have OW6 := Lib.hid hown; have BB6 := Lib.hid hB
          have hgs := hgr.size
          clear hq hown hB hgr
          go_wp2
          go_roundw
          case rel => exact ⟨k + 1, _, by omega, by go_num, HNN.out, OW6.out, by omega, BB6.out⟩
          case measure => simp [intOf]; omega
    · have hkl : k = N.l.length := by omega
      subst hkl
      have hall := hq.all
      subst hall
      have HG : Hid (Gives w (lxL outL N) (.returned (.slice A n c)) wr) := Lib.hid ⟨A, c, by rw [lxL_len, HN.out], by rw [lxL_len, HN.out]; exact hown.mono (by omega), HB0.out.trans (hB.mono (by omega))⟩
      clear hq hown hB
      go_wp2
      go_ret
      exact HG.out
set_option maxRecDepth 100000 in
set_option maxHeartbeats 2000000 in
theorem linksIn_any (h : NH) (N : Nt) (w : World) (hv : valN N = true) (r : RdN w w.heap.size h N) :
    Calls Tryz.prog 120 #[.agg #[.slice h.A N.w.length h.c, .slice h.L N.l.length h.d, .slice h.C N.c.length h.e], .func (.func 122) #[] #[]] w (Gives w (lxL inL N)) := by
  obtain ⟨h48, h48l⟩ := valN_size hv
  obtain ⟨n, hn⟩ : ∃ n, N.w.length = n := ⟨_, rfl⟩
  have hn48 : n ≤ 48 := by omega
  obtain ⟨w0, hw0⟩ : ∃ w0, w0 = w.alloc (.cells #[.slice h.A N.w.length h.c, .slice h.L N.l.length h.d, .slice h.C N.c.length h.e] 30) := ⟨_, rfl⟩
  obtain ⟨hb, hh, hsz⟩ := box3_any w (.slice h.A N.w.length h.c) (.slice h.L N.l.length h.d) (.slice h.C N.c.length h.e) 30
  rw [← hw0] at hb hh hsz
  obtain ⟨g0, hg0⟩ : ∃ g, w0.heap.size = g := ⟨_, rfl⟩
  obtain ⟨w1, hw1⟩ : ∃ u, u = w0.alloc (.cells #[.int .i64 (-1)] 2) := ⟨_, rfl⟩
  have hb1 : Below g0 w0 w1 := by rw [hw1]; exact (Below.refl _ _).alloc (by omega) _
  have hs1 : w1.heap.size = g0 + 1 := by rw [hw1]; simp [hg0]
  have hc1 : w1.cell? ⟨g0, 0, none⟩ = some (.int .i64 (-1)) := by rw [hw1, ← hg0]; exact cell_of_row _ _ 0 _ _ (0, 0) (heap_alloc_new _ _)
  have HREP := Lib.hid (repeat_any g0 (-1) n w1 (by omega) hc1 (by omega))
  have HK := Lib.hid (fun (wx : World) (hx : Below g0 w0 wx) => three_cells ((hx.block w.heap.size (by omega)).trans hh))
  have HRL := Lib.hid (fun (wx : World) (hx : Below g0 w0 wx) => show RdN wx g0 h N from ((r.below hb).more (by omega)).below (hg0 ▸ hx))
  have HB0 := Lib.hid hb; have HB1 := Lib.hid hb1
  have ho := oneP_in hv
  have HO := Lib.hid ho
  have HZ := Lib.hid (LnQ.zero inL N)
  have HN := Lib.hid hn; have HW1 := Lib.hid hw1; have HG0 := Lib.hid hg0
  have hs0 : w.heap.size ≤ g0 := by omega
  obtain ⟨y0, y1, y2⟩ := HK.out _ (Below.refl _ w0)
  have y0' := (HK.out _ hb1).1
  rw [hw1] at y0'
  rw [hn] at y0 y0'
  clear hb hh hsz r hb1 hw1 hn hc1 ho hv
  go_enter Tryz.func120, Tryz.ntmps120
  go_upto_region 1 with (fail)
  rw [← hw0]
  clear hw0
  go_wp2_with (fail)
  rw [← HW1.out]
  refine HREP.out.mono ?_
  rintro e w2 ⟨A, c, rfl, own2, bel2⟩
  have hlr : (List.replicate n (-1 : Int)).length = n := List.length_replicate
  rw [hlr] at own2 ⊢
  have B2 := Lib.hid (HB1.out.trans (bel2.mono (by omega)))
  have O2 := Lib.hid own2
  have hw12 := bel2.size
  have HTOP : Hid (∀ b, Value.ownBlock (.slice A n c) = some b → b < w2.heap.size ∧ g0 < b) := Lib.hid fun b e => ⟨(own2.lt b e).2, by have := (own2.lt b e).1; omega⟩
  clear own2 bel2 hlr y0 y1 y2 y0'
  obtain ⟨y0, y1, y2⟩ := HK.out _ B2.out
  go_wp2
  go_loopw [18] (fun i wr => ∃ (k : Nat) (cur : List Int), k ≤ N.l.length ∧ i = .int .i64 k ∧ LnQ inL N cur k 0 ∧ wr.ownsRow w1.heap.size 2 1 (.slice A n c) n (cur.map (Value.int .i64)) ∧ w2.heap.size ≤ wr.heap.size ∧ Below g0 w0 wr) (fun i _ => N.l.length - (intOf i).toNat)
  case atStart => exact ⟨0, _, Nat.zero_le _, rfl, HZ.out, (by rw [HN.out]; exact O2.out), Nat.le_refl _, B2.out⟩
  case round =>
    obtain ⟨k, cur, hk, rfl, hq, hown, htop, hB⟩ := hrel
    clear y0 y1 y2
    by_cases hlt : k < N.l.length
    · obtain ⟨b, off, hA, hbb, hcells⟩ := (HRL.out _ hB).2.1.at (show 0 < N.l.length by omega)
      obtain ⟨x0, x1, x2, x3⟩ := hcells k hlt
      have hsr := hB.size
      have HIN := Lib.hid (fun t (ht : t < (inL (N.l.getD k Lk.nil)).length) => HO.out.ins k hlt t ht)
      have HST := Lib.hid (fun (cur : List Int) m (hq : LnQ inL N cur k m) hm => hq.step HO.out hlt hm)
      have HNX := Lib.hid (fun (cur : List Int) (hq : LnQ inL N cur k (inL (N.l.getD k Lk.nil)).length) => hq.next)
      have hol := inL_len (N.l.getD k Lk.nil)
      obtain ⟨⟨lk, la, lb, lc⟩, hl⟩ : ∃ l, N.l.getD k Lk.nil = l := ⟨_, rfl⟩
      rw [hl] at x0 x1 x2 x3 HIN HST HNX hol
      dsimp only at x0 x1 x2 x3
      obtain ⟨bl, z0, z1, z2, z3, zs⟩ := lnk_any wr ⟨lk, la, lb, lc⟩ 103
      dsimp only at bl z0 z1 z2 z3
      obtain ⟨u1, hu1⟩ : ∃ u1, u1 = wr.alloc (.cells #[.int .i64 lk, .int .i64 la, .int .i64 lb, .int .i64 lc] 103) := ⟨_, rfl⟩
      have HU1 := Lib.hid hu1
      rw [← hu1] at bl zs z0 z1 z2 z3
      have BL := Lib.hid (hB.trans (bl.mono (show g0 ≤ wr.heap.size by omega)))
      have OW := Lib.hid (own_below hown bl (Nat.le_refl _))
      have HQ0 := Lib.hid hq
      have htop1 : w2.heap.size ≤ u1.heap.size := by omega
      clear hcells hB bl hl hown hq hu1 zs
      obtain ⟨hAd, hcd, hhs, hL, hd, hC, he⟩ := h
      dsimp only at hA
      subst hA
      go_wp2_with (fail)
      rw [← HU1.out]
      clear x0 x1 x2 x3 HU1 z0 z1 z2 z3
      refine (show Calls Tryz.prog 122 #[.agg #[.int .i64 lk, .int .i64 la, .int .i64 lb, .int .i64 lc]] u1 (Gives u1 (inL ⟨lk, la, lb, lc⟩)) from inputsOf_any ⟨lk, la, lb, lc⟩ u1).mono ?_
      rintro e u2 ⟨A2, c2, rfl, o2, b2⟩
      have BL2 := Lib.hid (BL.out.trans (b2.mono (show g0 ≤ u1.heap.size by omega)))
      have OW2 := Lib.hid (own_below OW.out b2 (Nat.le_refl _))
      have R2 := Lib.hid (RdI.of_own o2)
      have hs12 := b2.size
      have HO2 := Lib.hid (fun b (e : Value.ownBlock (.slice A2 (inL ⟨lk, la, lb, lc⟩).length c2) = some b) => (o2.lt b e).1)
      have hul := BL2.out.size
      clear o2 b2
      generalize inL ⟨lk, la, lb, lc⟩ = X at *
      go_wp2
      go_loopw [27] (fun i wx => ∃ (m : Nat) (cur : List Int), m ≤ X.length ∧ i = .int .i64 m ∧ LnQ inL N cur k m ∧ wx.ownsRow w1.heap.size 2 1 (.slice A n c) n (cur.map (Value.int .i64)) ∧ Below g0 w0 wx ∧ u2.grownBy wx (Value.ownBlock (.slice A n c))) (fun i _ => X.length - (intOf i).toNat)
      case atStart => exact ⟨0, cur, Nat.zero_le _, rfl, HQ0.out, OW2.out, BL2.out, grown_reflx _ _⟩
      case round =>
        obtain ⟨m, cm, hm, rfl, hq, hown, hB, hgr⟩ := hrel
        by_cases hlm : m < X.length
        · obtain ⟨bo, offo, hA2, hbo, hco⟩ := R2.out.2 (by omega)
          subst hA2
          have hbog : u1.heap.size ≤ bo := HO2.out bo rfl
          have hx := (World.cell?_of_block (a := ⟨bo, offo + m, none⟩) (hgr.block bo hbo (fun e => by have := (HTOP.out bo e.symm).1; omega))).trans (hco m hlm)
          have hin := HIN.out m hlm
          have hst := HST.out cm m hq hlm
          obtain ⟨z, hz⟩ : ∃ z, X.getD m 0 = z := ⟨_, rfl⟩
          rw [hz] at hx hin hst
          obtain ⟨_, hix, ez⟩ := inW_yes hin
          rw [HN.out] at hix
          have hcl := hq.1
          rw [HN.out] at hcl
          obtain ⟨g, cap, hv, hlo, hhi⟩ := hown.form (by omega)
          have hAg : A = some ⟨g, 0, none⟩ ∧ c = cap := by injection hv with x y z; exact ⟨x, z⟩
          obtain ⟨rfl, rfl⟩ := hAg
          have ca := hown.cellAt (g := g) z.toNat (by omega)
          have fa := hown.frozenAt (g := g) z.toNat
          obtain ⟨d0, e0⟩ : ∃ x, wr.cell? ⟨g, z.toNat, none⟩ = some x := ⟨_, ca.trans (List.getElem?_eq_getElem (by simp; omega))⟩
          have hs1' := hown.stored z.toNat (.int .i64 (k : Nat))
          rw [← List.map_set] at hs1'
          have OW5 := Lib.hid hs1'.1
          have GR5 := Lib.hid (grown_transx hgr hs1'.2)
          have BB5 := Lib.hid (hB.grown hs1'.2 (by have := hB.size; omega) (fun q hq => by injection hq with hq; omega))
          have ST5 := Lib.hid hst
          generalize z.toNat = iz at *
          subst ez
          have hizn : (iz : Int) < (n : Int) := by omega
          clear hco hs1' hst hgr hB hown hq ca hcl hz hin hv
          go_wp2
          go_roundw
          case rel => exact ⟨m + 1, _, by omega, by go_num, ST5.out, OW5.out, BB5.out, GR5.out⟩
          case measure => simp [intOf]; omega
        · have hmx : m = X.length := by omega
          subst hmx
          have HNN := Lib.hid (HNX.out cm hq)
          have OW6 := Lib.hid hown; have BB6 := Lib.hid hB
          have hgs := hgr.size
          clear hq hown hB hgr
          go_wp2
          go_roundw
          case rel => exact ⟨k + 1, _, by omega, by go_num, HNN.out, OW6.out, by omega, BB6.out⟩
          case measure => simp [intOf]; omega
    · have hkl : k = N.l.length := by omega
      subst hkl
      have hall := hq.all
      subst hall
      have HG : Hid (Gives w (lxL inL N) (.returned (.slice A n c)) wr) := Lib.hid ⟨A, c, by rw [lxL_len, HN.out], by rw [lxL_len, HN.out]; exact hown.mono (by omega), HB0.out.trans (hB.mono (by omega))⟩
      clear hq hown hB
      go_wp2
      go_ret
      exact HG.out
/-- The value of linkWith. -/
theorem lxOut_val {N : Nt} {x : Int} (hv : valN N = true) (hx : inW N.w.length x = false) : srcN N x = -1 := by
  unfold srcN
  rw [hv, hx]; rfl
set_option maxRecDepth 100000 in
set_option maxHeartbeats 2000000 in
theorem withOut_any (h : NH) (N : Nt) (x : Int) (w : World) (r : RdN w w.heap.size h N) (sm : SmallN N) (ht : Arit w) (hu : Dual w) :
    Calls Tryz.prog 127 #[.agg #[.slice h.A N.w.length h.c, .slice h.L N.l.length h.d, .slice h.C N.c.length h.e], .int .i64 x, .func (.func 121) #[] #[]] w fun e w' => e = .returned (.int .i64 (srcN N x)) ∧ Below w.heap.size w w' := by
  have s1 := sm.w; have s2 := sm.l; have s3 := sm.c
  obtain ⟨w0, hw0⟩ : ∃ w0, w0 = w.alloc (.cells #[.slice h.A N.w.length h.c, .slice h.L N.l.length h.d, .slice h.C N.c.length h.e] 30) := ⟨_, rfl⟩
  obtain ⟨hb, hh, hsz⟩ := box3_any w (.slice h.A N.w.length h.c) (.slice h.L N.l.length h.d) (.slice h.C N.c.length h.e) 30
  rw [← hw0] at hb hh hsz
  have HK : Hid (∀ w', Below w0.heap.size w0 w' → w'.cell? ⟨w.heap.size, 0, none⟩ = some (.slice h.A N.w.length h.c) ∧ w'.cell? ⟨w.heap.size, 1, none⟩ = some (.slice h.L N.l.length h.d) ∧ w'.cell? ⟨w.heap.size, 2, none⟩ = some (.slice h.C N.c.length h.e)) := Lib.hid fun w' hw => three_cells ((hw.block _ (by omega)).trans hh)
  have HR := Lib.hid (fun (w' : World) (hw : Below w0.heap.size w0 w') => show RdN w' w'.heap.size h N from ((r.below (hb.trans (hw.mono hb.size))).more (Nat.le_trans hb.size hw.size)))
  have hV := validNet_impl h N w0 (HR.out _ (Below.refl _ _)) sm (ht.below hb ht.lt) (hu.below hb hu.lt)
  have HB0 := Lib.hid hb
  obtain ⟨y0, y1, y2⟩ := three_cells hh
  clear hb hh hsz r ht hu sm
  cases hv : valN N with
  | false =>
    rw [hv] at hV
    have HV := Lib.hid hV
    rw [show srcN N x = -1 by unfold srcN; rw [hv]; rfl]
    clear hV hv
    go_enter Tryz.func127, Tryz.ntmps127
    go_wp2_with (fail)
    rw [← hw0]
    clear hw0
    refine HV.out.mono ?_
    rintro e w1 ⟨rfl, bel⟩
    have HG := Lib.hid (HB0.out.trans (bel.mono HB0.out.size))
    clear bel y0 y1 y2
    go_wp2
    go_ret
    exact ⟨rfl, HG.out⟩
  | true =>
    rw [hv] at hV
    have HV := Lib.hid hV
    have HVT := Lib.hid hv
    clear hV
    cases hx : inW N.w.length x with
    | false =>
      rw [lxOut_val hv hx]
      clear hv
      have HX := Lib.hid hx
      go_enter Tryz.func127, Tryz.ntmps127
      go_wp2_with (fail)
      rw [← hw0]
      clear hw0
      refine HV.out.mono ?_
      rintro e w1 ⟨rfl, bel⟩
      have B1 := Lib.hid bel
      clear bel y0 y1 y2
      obtain ⟨y0, y1, y2⟩ := HK.out _ B1.out
      have HIW := Lib.hid (isWire_any h.A h.L h.C N.w.length h.c N.l.length h.d N.c.length h.e x w1 (by unfold maxLen; omega))
      rw [hx] at HIW
      clear hx
      go_wp2_with (fail)
      refine HIW.out.mono ?_
      rintro e w2 ⟨rfl, bel⟩
      have HG := Lib.hid (HB0.out.trans ((B1.out.trans (bel.mono B1.out.size)).mono HB0.out.size))
      clear bel y0 y1 y2
      go_wp2
      go_ret
      exact ⟨rfl, HG.out⟩
    | true =>
      rw [srcN_lx hv]
      clear hv
      have HXE := Lib.hid (inW_yes hx)
      go_enter Tryz.func127, Tryz.ntmps127
      go_wp2_with (fail)
      rw [← hw0]
      clear hw0
      refine HV.out.mono ?_
      rintro e w1 ⟨rfl, bel⟩
      have B1 := Lib.hid bel
      clear bel y0 y1 y2
      obtain ⟨y0, y1, y2⟩ := HK.out _ B1.out
      have HIW := Lib.hid (isWire_any h.A h.L h.C N.w.length h.c N.l.length h.d N.c.length h.e x w1 (by unfold maxLen; omega))
      rw [hx] at HIW
      clear hx
      go_wp2_with (fail)
      refine HIW.out.mono ?_
      rintro e w2 ⟨rfl, bel⟩
      have B2 := Lib.hid (B1.out.trans (bel.mono B1.out.size))
      clear bel y0 y1 y2
      obtain ⟨y0, y1, y2⟩ := HK.out _ B2.out
      have HLW := Lib.hid (linksOut_any h N w2 HVT.out (HR.out _ B2.out))
      go_wp2_with (fail)
      refine HLW.out.mono ?_
      rintro e w3 ⟨A, c, rfl, own3, bel3⟩
      have HG := Lib.hid (HB0.out.trans ((B2.out.trans (bel3.mono B2.out.size)).mono HB0.out.size))
      obtain ⟨hx0, hxl, hxe⟩ := HXE.out
      have hlen := lxL_len outL N
      have hat := lxL_at outL N hxl
      rw [← hxe] at hat
      obtain ⟨g, off, hA, hg, hcs⟩ := (RdI.of_own own3).2 (by omega)
      subst hA
      have hc := hcs x.toNat (by omega)
      rw [hat] at hc
      obtain ⟨v, hvv⟩ : ∃ v, lxN outL N x = v := ⟨_, rfl⟩
      rw [hvv] at hc
      have HVV := Lib.hid hvv
      clear hvv
      generalize (lxL outL N).length = ln at *
      generalize hix : x.toNat = ix at *
      subst hxe
      have hil : (ix : Int) < (ln : Int) := by omega
      clear own3 bel3 hcs hat y0 y1 y2 hlen hxl hx0
      clear HV HVT HLW HIW B1 B2 HK HR HB0 s1 s2 s3
      go_wp2
      go_ret
      exact ⟨ret_i64 HVV.out.symm, HG.out⟩
theorem sourceOf_impl (h : NH) (N : Nt) (x : Int) (w : World) (r : RdN w w.heap.size h N) (sm : SmallN N) (ht : Arit w) (hu : Dual w) :
    Calls Tryz.prog 79 #[.agg #[.slice h.A N.w.length h.c, .slice h.L N.l.length h.d, .slice h.C N.c.length h.e], .int .i64 x] w fun e w' => e = .returned (.int .i64 (srcN N x)) ∧ Below w.heap.size w w' := by
  obtain ⟨w0, hw0⟩ : ∃ w0, w0 = w.alloc (.cells #[.slice h.A N.w.length h.c, .slice h.L N.l.length h.d, .slice h.C N.c.length h.e] 30) := ⟨_, rfl⟩
  obtain ⟨hb, hh, hsz⟩ := box3_any w (.slice h.A N.w.length h.c) (.slice h.L N.l.length h.d) (.slice h.C N.c.length h.e) 30
  rw [← hw0] at hb hh hsz
  obtain ⟨y0, y1, y2⟩ := three_cells hh
  have hW := withOut_any h N x w0 ((r.below hb).more hb.size) sm (ht.below hb ht.lt) (hu.below hb hu.lt)
  have HW := Lib.hid hW; have HB0 := Lib.hid hb
  clear hb hh hsz r sm ht hu hW
  generalize srcN N x = v at *
  go_enter Tryz.func79, Tryz.ntmps79
  go_wp2_with (fail)
  rw [← hw0]
  clear hw0
  refine HW.out.mono ?_
  rintro e w1 ⟨rfl, bel⟩
  have HG := Lib.hid (HB0.out.trans (bel.mono HB0.out.size))
  clear bel
  go_wp2
  go_ret
  exact ⟨rfl, HG.out⟩
end
end Go.Proofs.YtfdpkhiiboghiaaGreatDoor
