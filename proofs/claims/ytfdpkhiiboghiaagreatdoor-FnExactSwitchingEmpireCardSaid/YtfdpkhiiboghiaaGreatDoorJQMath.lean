/- Plain mathematics of formulas as lists of integers: what a symbol's arity is, where a formula ends. No program is named here. A slice of integers that reads as a list: the word for it, and how it is kept; the laws' own helpers: the copy of a slice, the comparison of two. The small functions on symbols: what each returns, the world left as it was. The small functions of the model on symbols: what each returns, the world left as it was. The laws' own helpers: the copy of a slice, the comparison of two. What every row of this seat shares: its arguments opened, its package variables read before and behind the call, a world for the witness. The laws' marks: writing numbers into a slice of the call's own, and finding them again. What a function that hands back a list leaves. -/
import Derived.WalkKit
import Derived.Lib.Hide
import Derived.Test.YtfdpkhiiboghiaaGreatDoorRows
import Derived.WalkSpells
import Derived.WalkLawsBesides
import Derived.BigQuiet
import Derived.Deep.QuietTactic
import Derived.Deep.AppendLies
import Derived.Deep.Draws
import Derived.Laws.OwnMore
import Derived.Lib.LaidTab
import Derived.WalkSmall
import Derived.Test.YtfdpkhiiboghiaaGreatDoorCards
import Derived.Test.YtfdpkhiiboghiaaGreatDoorTie
import Derived.ProofKit
import Derived.OpenShut
import Derived.ChangeOld
import Derived.ChangeVars
import Derived.Deep.DeepHandedRow
import Derived.Stop.LaidErr
import Derived.Deep.Onto
namespace Go.Proofs.YtfdpkhiiboghiaaGreatDoor
set_option linter.unusedSimpArgs false
set_option linter.unusedVariables false
section
open Go.RowKit

/-- An atom or a dual atom. -/
def leafB (n : Int) : Bool := decide (1 ≤ n ∧ n ≤ 8 ∨ -8 ≤ n ∧ n ≤ -1)
/-- An operator. -/
def operB (n : Int) : Bool := decide (11 ≤ n ∧ n ≤ 18)
/-- The table of the operators' numbers of operands. -/
def arTab : List Int := [0, 0, 0, 0, 0, 0, 0, 0, 0, 0, 0, 2, 2, 0, 0, 2, 2, 1, 1]
/-- The table of the operators' duals. -/
def duTab : List Int := [0, 0, 0, 0, 0, 0, 0, 0, 0, 0, 0, 12, 11, 14, 13, 16, 15, 18, 17]
/-- The number of operands of a symbol, -1 where it is none. -/
def arZ (n : Int) : Int := if leafB n then 0 else if operB n then arTab.getD n.toNat 0 else -1

theorem arZ_leaf {n : Int} (h : leafB n = true) : arZ n = 0 := by simp [arZ, h]
theorem arZ_oper {n : Int} (h : leafB n = false) (h' : operB n = true) : arZ n = arTab.getD n.toNat 0 := by simp [arZ, h, h']
theorem arZ_none {n : Int} (h : leafB n = false) (h' : operB n = false) : arZ n = -1 := by simp [arZ, h, h']
theorem leaf_iff {n : Int} : leafB n = true ↔ (1 ≤ n ∧ n ≤ 8 ∨ -8 ≤ n ∧ n ≤ -1) := by simp [leafB]
theorem leaf_not {n : Int} : leafB n = false ↔ ¬ (1 ≤ n ∧ n ≤ 8 ∨ -8 ≤ n ∧ n ≤ -1) := by simp [leafB]
theorem oper_iff {n : Int} : operB n = true ↔ (11 ≤ n ∧ n ≤ 18) := by simp [operB]
theorem oper_not {n : Int} : operB n = false ↔ ¬ (11 ≤ n ∧ n ≤ 18) := by simp [operB]

/-- Every symbol is a leaf, one of the eight operators, or none. -/
theorem sym_cases (n : Int) : (leafB n = true ∧ arZ n = 0 ∧ (1 ≤ n ∧ n ≤ 8 ∨ -8 ≤ n ∧ n ≤ -1)) ∨ (leafB n = false ∧ operB n = true ∧ (n = 11 ∧ arZ n = 2 ∨ n = 12 ∧ arZ n = 2 ∨ n = 13 ∧ arZ n = 0 ∨ n = 14 ∧ arZ n = 0 ∨ n = 15 ∧ arZ n = 2 ∨ n = 16 ∧ arZ n = 2 ∨ n = 17 ∧ arZ n = 1 ∨ n = 18 ∧ arZ n = 1)) ∨
    (leafB n = false ∧ operB n = false ∧ arZ n = -1 ∧ ¬ (1 ≤ n ∧ n ≤ 8) ∧ ¬ (-8 ≤ n ∧ n ≤ -1) ∧ ¬ (11 ≤ n ∧ n ≤ 18)) := by
  cases hl : leafB n with
  | true => exact .inl ⟨rfl, arZ_leaf hl, leaf_iff.1 hl⟩
  | false =>
    cases ho : operB n with
    | false => exact .inr (.inr ⟨rfl, rfl, arZ_none hl ho, by have := leaf_not.1 hl; omega, by have := leaf_not.1 hl; omega, oper_not.1 ho⟩)
    | true =>
      refine .inr (.inl ⟨rfl, rfl, ?_⟩)
      have h := oper_iff.1 ho
      have : n = 11 ∨ n = 12 ∨ n = 13 ∨ n = 14 ∨ n = 15 ∨ n = 16 ∨ n = 17 ∨ n = 18 := by omega
      rcases this with rfl | rfl | rfl | rfl | rfl | rfl | rfl | rfl <;> decide

theorem arZ_cases (n : Int) : arZ n = -1 ∨ arZ n = 0 ∨ arZ n = 1 ∨ arZ n = 2 := by
  rcases sym_cases n with ⟨_, h, _⟩ | ⟨_, _, h⟩ | ⟨_, _, h, _⟩
  · exact .inr (.inl h)
  · omega
  · exact .inl h
theorem arZ_lo (n : Int) : -1 ≤ arZ n := by have := arZ_cases n; omega
theorem arZ_hi (n : Int) : arZ n ≤ 2 := by have := arZ_cases n; omega

/-- The index behind m formulas that stand one behind the other at the head of xs, which begins at index a; -1 where there is none. -/
def scan : List Int → Int → Int → Int
  | [], _, _ => -1
  | x :: xs, m, a => if arZ x < 0 then -1 else if m + arZ x = 1 then a + 1 else scan xs (m + arZ x - 1) (a + 1)

theorem scan_bad {x : Int} (xs : List Int) (m a : Int) (h : arZ x = -1) : scan (x :: xs) m a = -1 := by simp [scan, h]
theorem scan_end {x : Int} (xs : List Int) (m a : Int) (h0 : 0 ≤ arZ x) (h : m + arZ x = 1) : scan (x :: xs) m a = a + 1 := by
  simp [scan, h]; omega
theorem scan_on {x : Int} (xs : List Int) (m a : Int) (h0 : 0 ≤ arZ x) (h : m + arZ x ≠ 1) : scan (x :: xs) m a = scan xs (m + arZ x - 1) (a + 1) := by
  simp only [scan]
  rw [if_neg (by omega), if_neg h]

/-- FormEnd of a list of any length. -/
def fe (f : List Int) (a : Int) : Int := if 0 ≤ a ∧ a < f.length then scan (f.drop a.toNat) 1 a else -1
/-- FormEnd. -/
def feI (f : List Int) (a : Int) : Int := if f.length ≤ 24 then fe f a else -1
/-- ValidForm. -/
def validB (f : List Int) : Bool := decide (feI f 0 = f.length)

theorem fe_out {f : List Int} {a : Int} (h : ¬ (0 ≤ a ∧ a < f.length)) : fe f a = -1 := by unfold fe; rw [if_neg h]
theorem fe_nat {f : List Int} {a : Nat} (h : a < f.length) : fe f a = scan (f.drop a) 1 a := by
  unfold fe; rw [if_pos ⟨by omega, by omega⟩]; rfl
theorem drop_cons {f : List Int} {k : Nat} (h : k < f.length) : f.drop k = f.getD k 0 :: f.drop (k + 1) := by
  rw [List.drop_eq_getElem_cons h]
  simp [List.getD, h]
theorem feI_small {f : List Int} {a : Int} (h : f.length ≤ 24) : feI f a = fe f a := by unfold feI; rw [if_pos h]
theorem feI_big {f : List Int} {a : Int} (h : ¬ f.length ≤ 24) : feI f a = -1 := by unfold feI; rw [if_neg h]

/-- Where scan answers an index, that index lies within the list. -/
theorem scan_bd : ∀ (xs : List Int) (m a : Int), 1 ≤ m → scan xs m a = -1 ∨ a + 1 ≤ scan xs m a ∧ scan xs m a ≤ a + xs.length
  | [], _, _, _ => .inl rfl
  | x :: xs, m, a, hm => by
    rcases arZ_cases x with h | h | h | h
    · exact .inl (scan_bad _ _ _ h)
    all_goals
      by_cases hr : m + arZ x = 1
      · rw [scan_end _ _ _ (by omega) hr]; simp; omega
      · rw [scan_on _ _ _ (by omega) hr]
        rcases scan_bd xs (m + arZ x - 1) (a + 1) (by omega) with h' | h'
        · exact .inl h'
        · right; simp only [List.length_cons]; omega
theorem fe_bd (f : List Int) (a : Int) : fe f a = -1 ∨ 0 ≤ a ∧ a + 1 ≤ fe f a ∧ fe f a ≤ f.length := by
  by_cases h : 0 ≤ a ∧ a < f.length
  · obtain ⟨k, rfl⟩ : ∃ k : Nat, a = k := ⟨a.toNat, by omega⟩
    have hk : k < f.length := by omega
    rw [fe_nat hk]
    rcases scan_bd (f.drop k) 1 k (by omega) with h' | h'
    · exact .inl h'
    · right
      rw [List.length_drop] at h'
      omega
  · exact .inl (fe_out h)
theorem valid_len {f : List Int} (h : validB f = true) : 1 ≤ f.length ∧ f.length ≤ 24 ∧ fe f 0 = f.length := by
  have h' : feI f 0 = f.length := by simpa [validB] using h
  by_cases hl : f.length ≤ 24
  · rw [feI_small hl] at h'
    rcases fe_bd f 0 with h1 | h1
    · omega
    · exact ⟨by omega, hl, h'⟩
  · rw [feI_big hl] at h'; omega

/-- The slice value '.slice A n c' reads as the list zs, its cells below block B. -/
def RdI (w : World) (B : Nat) (A : Option Addr) (n : Nat) (zs : List Int) : Prop :=
  zs.length = n ∧ (0 < n → ∃ b off, A = some ⟨b, off, none⟩ ∧ b < B ∧ ∀ j, j < n → w.cell? ⟨b, off + j, none⟩ = some (.int .i64 (zs.getD j 0)))
section
variable {w w' : World} {B B' n : Nat} {A : Option Addr} {zs : List Int}
theorem RdI.len (h : RdI w B A n zs) : zs.length = n := h.1
theorem RdI.keep (h : RdI w B A n zs) (hk : ∀ p : Addr, p.block < B → w'.cell? p = w.cell? p) : RdI w' B A n zs :=
  ⟨h.1, fun hn => by
    obtain ⟨b, off, e, hb, hc⟩ := h.2 hn
    exact ⟨b, off, e, hb, fun j hj => (hk _ hb).trans (hc j hj)⟩⟩
theorem RdI.more (h : RdI w B A n zs) (hB : B ≤ B') : RdI w B' A n zs :=
  ⟨h.1, fun hn => by
    obtain ⟨b, off, e, hb, hc⟩ := h.2 hn
    exact ⟨b, off, e, by omega, hc⟩⟩
theorem RdI.below (h : RdI w B A n zs) (hb : Below B w w') : RdI w' B A n zs := h.keep fun _ hp => hb.cell hp
theorem RdI.nil (w : World) (B : Nat) (A : Option Addr) : RdI w B A 0 [] := ⟨rfl, fun h => absurd h (by omega)⟩
theorem RdI.of_own {base : Nat} {e : TypeId} {c : Nat} (h : w.ownsRow base e 1 (.slice A n c) n (zs.map (Value.int .i64))) : RdI w w.heap.size A n zs := by
  have hl : zs.length = n := by have := h.1; simpa using this
  refine ⟨hl, fun hn => ?_⟩
  obtain ⟨g, cap, hv, _, hlt⟩ := h.form hn
  have hA : A = some ⟨g, 0, none⟩ := by injection hv
  subst hA
  refine ⟨g, 0, rfl, hlt, fun j hj => ?_⟩
  have := h.cellAt (g := g) j (by omega)
  rw [Nat.zero_add, this]
  simp [List.getD, hl, hj]
end
end
section
open Go.RowKit

/-- The world holds the table of the operators' numbers of operands. -/
def Arit (w : World) : Prop := ∀ i, i < 19 → w.cell? ⟨2, i, none⟩ = some (.int .i64 (arTab.getD i 0))
theorem Arit.same {w w' : World} (h : Arit w) (hc : ∀ i, w'.cell? ⟨2, i, none⟩ = w.cell? ⟨2, i, none⟩) : Arit w' := fun i hi => (hc i).trans (h i hi)
theorem Arit.lt {w : World} (h : Arit w) : 2 < w.heap.size := World.block_lt_of_cell? w _ (h 0 (by omega))
theorem Arit.below {w w' : World} {B : Nat} (h : Arit w) (hb : Below B w w') (hB : 2 < B) : Arit w' := h.same fun _ => hb.cell hB

/-- The world holds the table of the operators' duals. -/
def Dual (w : World) : Prop := ∀ i, i < 19 → w.cell? ⟨1, i, none⟩ = some (.int .i64 (duTab.getD i 0))
theorem Dual.lt {w : World} (h : Dual w) : 1 < w.heap.size := World.block_lt_of_cell? w _ (h 0 (by omega))
theorem Dual.below {w w' : World} {B : Nat} (h : Dual w) (hb : Below B w w') (hB : 1 < B) : Dual w' := fun i hi => (hb.cell hB).trans (h i hi)

set_option maxHeartbeats 400000 in
theorem isLeaf_any (n : Int) (w : World) : Calls Tryz.prog 213 #[.int .i64 n] w fun e w' => e = .returned (.bool (leafB n)) ∧ w = w' := by
  rcases sym_cases n with ⟨h, _, h'⟩ | ⟨h, _, h'⟩ | ⟨h, _, _, h1, h2, _⟩
  · rw [h]; clear h
    have a1 : (n != 0) = true := by simp; omega
    have a2 : -8 ≤ n := by omega
    have a3 : n ≤ 8 := by omega
    clear h'
    go_enter Tryz.func213, Tryz.ntmps213
    go_wp2
    go_ret
    exact ⟨rfl, rfl⟩
  · rw [h]; clear h
    have a1 : (n != 0) = true := by simp; omega
    have a2 : -8 ≤ n := by omega
    have a3 : ¬ n ≤ 8 := by omega
    clear h'
    go_enter Tryz.func213, Tryz.ntmps213
    go_wp2
    go_ret
    exact ⟨rfl, rfl⟩
  · rw [h]; clear h
    by_cases h0 : n = 0
    · subst h0
      go_enter Tryz.func213, Tryz.ntmps213
      go_wp2
      go_ret
      exact ⟨rfl, rfl⟩
    · have a1 : (n != 0) = true := by simp; omega
      by_cases a2 : -8 ≤ n
      · have a3 : ¬ n ≤ 8 := by omega
        clear h0 h1 h2
        go_enter Tryz.func213, Tryz.ntmps213
        go_wp2
        go_ret
        exact ⟨rfl, rfl⟩
      · clear h0 h1 h2
        go_enter Tryz.func213, Tryz.ntmps213
        go_wp2
        go_ret
        exact ⟨rfl, rfl⟩

set_option maxHeartbeats 400000 in
theorem isOperator_any (n : Int) (w : World) : Calls Tryz.prog 224 #[.int .i64 n] w fun e w' => e = .returned (.bool (operB n)) ∧ w = w' := by
  by_cases h1 : 11 ≤ n
  · by_cases h2 : n ≤ 18
    · rw [oper_iff.2 ⟨h1, h2⟩]
      go_enter Tryz.func224, Tryz.ntmps224
      go_wp2
      go_ret
      exact ⟨rfl, rfl⟩
    · rw [oper_not.2 (by omega)]
      go_enter Tryz.func224, Tryz.ntmps224
      go_wp2
      go_ret
      exact ⟨rfl, rfl⟩
  · rw [oper_not.2 (by omega)]
    go_enter Tryz.func224, Tryz.ntmps224
    go_wp2
    go_ret
    exact ⟨rfl, rfl⟩

set_option maxHeartbeats 400000 in
theorem arityOf_any (n : Int) (w : World) (ht : Arit w) : Calls Tryz.prog 221 #[.int .i64 n] w fun e w' => e = .returned (.int .i64 (arZ n)) ∧ w = w' := by
  cases hl : leafB n with
  | true =>
    rw [arZ_leaf hl]
    clear ht
    go_enter Tryz.func221, Tryz.ntmps221
    go_wp2_with (go_at_call 213; refine (isLeaf_any n _).mono ?_; rintro e w' ⟨rfl, rfl⟩)
    go_ret
    exact ⟨rfl, rfl⟩
  | false =>
    cases ho : operB n with
    | false =>
      rw [arZ_none hl ho]
      clear ht
      go_enter Tryz.func221, Tryz.ntmps221
      go_wp2_with (first | (go_at_call 213; refine (isLeaf_any n _).mono ?_; rintro e w' ⟨rfl, rfl⟩) | (go_at_call 224; refine (isOperator_any n _).mono ?_; rintro e w' ⟨rfl, rfl⟩))
      go_ret
      exact ⟨rfl, rfl⟩
    | true =>
      rw [arZ_oper hl ho]
      have hb := oper_iff.1 ho
      obtain ⟨k, rfl⟩ : ∃ k : Nat, n = k := ⟨n.toNat, by omega⟩
      have hc : w.cell? ⟨2, k, none⟩ = some (.int .i64 (arTab.getD k 0)) := ht k (by omega)
      have e : ((k : Int)).toNat = k := by omega
      rw [e]
      clear e ht
      obtain ⟨z, hz⟩ : ∃ z, arTab.getD k 0 = z := ⟨_, rfl⟩
      rw [hz] at hc ⊢
      clear hz
      go_enter Tryz.func221, Tryz.ntmps221
      go_wp2_with (first | (go_at_call 213; refine (isLeaf_any k _).mono ?_; rintro e w' ⟨rfl, rfl⟩) | (go_at_call 224; refine (isOperator_any k _).mono ?_; rintro e w' ⟨rfl, rfl⟩))
      go_ret
      exact ⟨rfl, rfl⟩

set_option maxHeartbeats 400000 in
theorem inRange_any (n lo hi : Int) (w : World) : Calls Tryz.prog 86 #[.int .i64 n, .int .i64 lo, .int .i64 hi] w fun e w' => e = .returned (.bool (decide (lo ≤ n ∧ n ≤ hi))) ∧ w = w' := by
  by_cases h1 : lo ≤ n
  · by_cases h2 : n ≤ hi
    · rw [decide_eq_true ⟨h1, h2⟩]
      go_enter Tryz.func86, Tryz.ntmps86
      go_wp2
      go_ret
      exact ⟨rfl, rfl⟩
    · rw [decide_eq_false (fun h => h2 h.2)]
      go_enter Tryz.func86, Tryz.ntmps86
      go_wp2
      go_ret
      exact ⟨rfl, rfl⟩
  · rw [decide_eq_false (fun h => h1 h.1)]
    go_enter Tryz.func86, Tryz.ntmps86
    go_wp2
    go_ret
    exact ⟨rfl, rfl⟩
/-- The same in two, by what the test says. -/
theorem inRange_yes (n lo hi : Int) (w : World) (h : lo ≤ n ∧ n ≤ hi) : Calls Tryz.prog 86 #[.int .i64 n, .int .i64 lo, .int .i64 hi] w fun e w' => e = .returned (.bool true) ∧ w = w' :=
  (inRange_any n lo hi w).mono fun _ _ ⟨he, hw⟩ => ⟨by rw [he, decide_eq_true h], hw⟩
theorem inRange_no (n lo hi : Int) (w : World) (h : ¬ (lo ≤ n ∧ n ≤ hi)) : Calls Tryz.prog 86 #[.int .i64 n, .int .i64 lo, .int .i64 hi] w fun e w' => e = .returned (.bool false) ∧ w = w' :=
  (inRange_any n lo hi w).mono fun _ _ ⟨he, hw⟩ => ⟨by rw [he, decide_eq_false h], hw⟩

set_option maxHeartbeats 400000 in
theorem isAtom_any (n : Int) (w : World) : Calls Tryz.prog 225 #[.int .i64 n] w fun e w' => e = .returned (.bool (leafB n)) ∧ w = w' := by
  by_cases h1 : 1 ≤ n ∧ n ≤ 8
  · rw [leaf_iff.2 (.inl h1)]
    have H := Lib.hid h1; clear h1
    go_enter Tryz.func225, Tryz.ntmps225
    go_wp2_with (go_at_call 86; refine (inRange_yes _ _ _ _ H.out).mono ?_; rintro e w' ⟨rfl, rfl⟩)
    go_ret
    exact ⟨rfl, rfl⟩
  · by_cases h2 : -8 ≤ n ∧ n ≤ -1
    · rw [leaf_iff.2 (.inr h2)]
      have H := Lib.hid h1; clear h1
      have H2 := Lib.hid h2; clear h2
      go_enter Tryz.func225, Tryz.ntmps225
      go_wp2_with (go_at_call 86; first | ((with_reducible refine (inRange_no n 1 8 _ H.out).mono ?_); rintro e w' ⟨rfl, rfl⟩) | ((with_reducible refine (inRange_yes n (-8) (-1) _ H2.out).mono ?_); rintro e w' ⟨rfl, rfl⟩))
      go_ret
      exact ⟨rfl, rfl⟩
    · rw [leaf_not.2 (by omega)]
      have H := Lib.hid h1; clear h1
      have H2 := Lib.hid h2; clear h2
      go_enter Tryz.func225, Tryz.ntmps225
      go_wp2_with (go_at_call 86; first | ((with_reducible refine (inRange_no n 1 8 _ H.out).mono ?_); rintro e w' ⟨rfl, rfl⟩) | ((with_reducible refine (inRange_no n (-8) (-1) _ H2.out).mono ?_); rintro e w' ⟨rfl, rfl⟩))
      go_ret
      exact ⟨rfl, rfl⟩

set_option maxHeartbeats 1000000 in
theorem arity_any (n : Int) (w : World) : Calls Tryz.prog 223 #[.int .i64 n] w fun e w' => e = .returned (.int .i64 (arZ n)) ∧ w = w' := by
  rcases sym_cases n with ⟨hl, ha, hb⟩ | ⟨_, _, h⟩ | ⟨hl, ho, ha, _, _, hb⟩
  · rw [ha]; clear ha
    have e1 : (n == 11) = false := by simp; omega
    have e2 : (n == 12) = false := by simp; omega
    have e3 : (n == 13) = false := by simp; omega
    have e4 : (n == 14) = false := by simp; omega
    have e5 : (n == 15) = false := by simp; omega
    have e6 : (n == 16) = false := by simp; omega
    have e7 : (n == 17) = false := by simp; omega
    have e8 : (n == 18) = false := by simp; omega
    clear hb
    go_enter Tryz.func223, Tryz.ntmps223
    go_wp2_with (go_at_call 225; refine (isAtom_any n _).mono ?_; rintro e w' ⟨rfl, rfl⟩)
    go_ret
    exact ⟨rfl, rfl⟩
  · rcases h with ⟨rfl, h⟩ | ⟨rfl, h⟩ | ⟨rfl, h⟩ | ⟨rfl, h⟩ | ⟨rfl, h⟩ | ⟨rfl, h⟩ | ⟨rfl, h⟩ | ⟨rfl, h⟩
    all_goals
      rw [h]; clear h
      go_enter Tryz.func223, Tryz.ntmps223
      go_wp2
      go_ret
      exact ⟨rfl, rfl⟩
  · rw [ha]; clear ha
    have e1 : (n == 11) = false := by simp; omega
    have e2 : (n == 12) = false := by simp; omega
    have e3 : (n == 13) = false := by simp; omega
    have e4 : (n == 14) = false := by simp; omega
    have e5 : (n == 15) = false := by simp; omega
    have e6 : (n == 16) = false := by simp; omega
    have e7 : (n == 17) = false := by simp; omega
    have e8 : (n == 18) = false := by simp; omega
    clear hb ho
    go_enter Tryz.func223, Tryz.ntmps223
    go_wp2_with (go_at_call 225; refine (isAtom_any n _).mono ?_; rintro e w' ⟨rfl, rfl⟩)
    go_ret
    exact ⟨rfl, rfl⟩
end
section
open Go.RowKit

theorem info_i64 : (Tryz.prog.info? 2).map (fun i => (i.zero, i.size, i.bytes)) = some (some (.int .i64 0), 1, 8) := by kernel_rfl

theorem own_below {w w' : World} {B base n size : Nat} {e : TypeId} {v : Value} {xs : List Value} (h : w.ownsRow base e size v n xs) (hb : Below B w w') (hB : w.heap.size ≤ B) : w'.ownsRow base e size v n xs := by
  obtain ⟨h1, h2⟩ := h
  refine ⟨h1, ?_⟩
  rcases h2 with h2 | ⟨g, cap, cur, hv, hg, hh, r⟩
  · exact .inl h2
  · refine .inr ⟨g, cap, cur, hv, hg, ?_, r⟩
    have hlt : g < w.heap.size := by
      rcases Nat.lt_or_ge g w.heap.size with hlt | hge
      · exact hlt
      · rw [Array.getElem?_eq_none hge] at hh; cases hh
    rw [hb.block g (by omega)]; exact hh

/-- How far the copy has come. -/
def cpy (zs : List Int) (k : Nat) : List Value := (zs.take k).map (Value.int .i64) ++ List.replicate (zs.length - k) (.int .i64 0)
theorem cpy_zero (zs : List Int) : List.replicate zs.length (Value.int .i64 0) = cpy zs 0 := by simp [cpy]
theorem cpy_all (zs : List Int) : cpy zs zs.length = zs.map (Value.int .i64) := by simp [cpy]
theorem cpy_len (zs : List Int) (k : Nat) (h : k ≤ zs.length) : (cpy zs k).length = zs.length := by simp [cpy]; omega
theorem cpy_step (zs : List Int) (k : Nat) (h : k < zs.length) : (cpy zs k).set k (.int .i64 (zs.getD k 0)) = cpy zs (k + 1) := by
  unfold cpy
  rw [List.set_append_right _ _ (by simp; omega)]
  have e1 : k - (List.map (Value.int .i64) (List.take k zs)).length = 0 := by simp; omega
  rw [e1]
  have e2 : zs.length - k = (zs.length - (k + 1)) + 1 := by omega
  rw [e2, List.replicate_succ, List.set_cons_zero]
  rw [List.take_succ_eq_append_getElem h, List.map_append, List.append_assoc]
  have e3 : zs.getD k 0 = zs[k] := by simp [List.getD, h]
  rw [e3]
  rfl

/-- What the copy of a slice leaves: a row of its own, new, that holds the numbers. -/
def Copied (w : World) (n : Nat) (zs : List Int) (e : Ending) (w' : World) : Prop :=
  e = .returned (.slice (some ⟨w.heap.size, 0, none⟩) n n) ∧ w'.ownsRow w.heap.size 2 1 (.slice (some ⟨w.heap.size, 0, none⟩) n n) n (zs.map (Value.int .i64)) ∧ Below w.heap.size w w'

set_option maxHeartbeats 1000000 in
theorem toInts_any (A : Option Addr) (n c : Nat) (zs : List Int) (w : World) (h : RdI w w.heap.size A n zs) (hn : n ≤ 1048576) :
    Calls Tryz.prog 16 #[.slice A n c] w (Copied w n zs) := by
  obtain ⟨i0, hi0, hz0, hz1, hz2⟩ := info_parts info_i64
  have hl := h.len
  subst hl
  go_enter Tryz.func16, Tryz.ntmps16
  have b2 : i0.bytes * zs.length ≤ 281474976710656 := by rw [hz2]; omega
  have b3 : zs.length ≤ maxLen := by unfold maxLen; omega
  go_wp2_with (at_make; refine wpList_make_full _ rfl _ _ _ rfl w.heap.size 2 i0 (.int .i64 0) 1 Tryz.underlying24 hi0 hz0 hz1 _ _ _ _ zs.length rfl rfl rfl rfl b2 b3 (Nat.le_refl _) ?_; intro w1 hown hg)
  have hbel : Below w.heap.size w w1 := (Below.refl _ _).grown hg (Nat.le_refl _) (by intro k hk; cases hk)
  have hown1 : w1.ownsRow w.heap.size 2 1 (.slice (some ⟨w.heap.size, 0, none⟩) zs.length zs.length) zs.length (cpy zs 0) := by
    rw [← cpy_zero, ← toList_madeCells_one]; simpa [Value.cells] using hown
  clear hg hown b2 b3 hi0 hz0 hz1 hz2
  go_loopw [4] (fun i wr => ∃ k : Nat, k ≤ zs.length ∧ i = .int .i64 k ∧ wr.ownsRow w.heap.size 2 1 (.slice (some ⟨w.heap.size, 0, none⟩) zs.length zs.length) zs.length (cpy zs k) ∧ Below w.heap.size w wr)
    (fun i _ => zs.length - (intOf i).toNat)
  case atStart => exact ⟨0, Nat.zero_le _, rfl, hown1, hbel⟩
  case round =>
    obtain ⟨k, hk, rfl, hown, hb⟩ := hrel
    clear hown1 hbel
    by_cases hlt : k < zs.length
    · obtain ⟨b, off, rfl, hbb, hcells⟩ := h.2 (by omega)
      have hc := (hb.cell (p := ⟨b, off + k, none⟩) hbb).trans (hcells k hlt)
      have hf := hown.frozenAt k
      have ho : wr.cell? ⟨w.heap.size, k, none⟩ = some ((cpy zs k)[k]'(by rw [cpy_len zs k hk]; exact hlt)) := by
        rw [hown.cellAt k (by omega)]; exact List.getElem?_eq_getElem _
      have hst := (hown.stored k (.int .i64 (zs.getD k 0))).1
      rw [cpy_step zs k hlt] at hst
      have hbs := hb.setCell (p := ⟨w.heap.size, k, none⟩) (Nat.le_refl _) (.int .i64 (zs.getD k 0))
      obtain ⟨z, hz⟩ : ∃ z, zs.getD k 0 = z := ⟨_, rfl⟩
      obtain ⟨o, hoo⟩ : ∃ o, ((cpy zs k)[k]'(by rw [cpy_len zs k hk]; exact hlt)) = o := ⟨_, rfl⟩
      rw [hz] at hc hst hbs
      rw [hoo] at ho
      have HS := Lib.hid hst; have HB := Lib.hid hbs
      clear hst hbs hz hoo hown hb hcells
      go_wp2
      go_roundw
      case rel => exact ⟨k + 1, by omega, by go_num, HS.out, HB.out⟩
      case measure => simp [intOf]; omega
    · have hkl : k = zs.length := by omega
      subst hkl
      rw [cpy_all] at hown
      have HS := Lib.hid hown; have HB := Lib.hid hb
      clear hown hb
      go_wp2
      go_ret
      exact ⟨rfl, HS.out, HB.out⟩

/-- What the comparison of two slices leaves. -/
def Same (zs ys : List Int) (w : World) (e : Ending) (w' : World) : Prop := e = .returned (.bool (decide (zs = ys))) ∧ Below w.heap.size w w'

theorem ret_no {p : Prop} [Decidable p] (h : ¬ p) : Ending.returned (.bool false) = Ending.returned (.bool (decide p)) := by rw [decide_eq_false h]
theorem ret_yes {p : Prop} [Decidable p] (h : p) : Ending.returned (.bool true) = Ending.returned (.bool (decide p)) := by rw [decide_eq_true h]
theorem take_step {zs ys : List Int} {k : Nat} (h : zs.take k = ys.take k) (hz : k < zs.length) (hy : k < ys.length) (he : zs.getD k 0 = ys.getD k 0) : zs.take (k + 1) = ys.take (k + 1) := by
  rw [List.take_succ_eq_append_getElem hz, List.take_succ_eq_append_getElem hy, h]
  simp [List.getD, hz, hy] at he
  rw [he]
theorem ne_at {zs ys : List Int} {k : Nat} (he : ¬ zs.getD k 0 = ys.getD k 0) : ¬ zs = ys := fun h => he (by rw [h])

set_option maxHeartbeats 1000000 in
theorem eqInts_any (A B : Option Addr) (n m c d : Nat) (zs ys : List Int) (w : World) (h : RdI w w.heap.size A n zs) (h' : RdI w w.heap.size B m ys) (hn : n ≤ 1048576) (hm : m ≤ 1048576) :
    Calls Tryz.prog 19 #[.slice A n c, .slice B m d] w (Same zs ys w) := by
  have hl := h.len
  have hl' := h'.len
  subst hl hl'
  by_cases hlen : zs.length = ys.length
  · have hd : ((zs.length : Int) != (ys.length : Int)) = false := by simp; omega
    have H := Lib.hid hlen; clear hlen
    go_enter Tryz.func19, Tryz.ntmps19
    go_wp2
    go_loopw [5] (fun i wr => ∃ k : Nat, k ≤ zs.length ∧ i = .int .i64 k ∧ zs.take k = ys.take k ∧ Below w.heap.size w wr) (fun i _ => zs.length - (intOf i).toNat)
    case atStart => exact ⟨0, Nat.zero_le _, rfl, by simp, Below.refl _ _⟩
    case round =>
      obtain ⟨k, hk, rfl, htk, hb⟩ := hrel
      clear hd
      by_cases hlt : k < zs.length
      · have hlt' : k < ys.length := by have := H.out; omega
        obtain ⟨b, off, rfl, hbb, hcells⟩ := h.2 (by omega)
        obtain ⟨b', off', rfl, hbb', hcells'⟩ := h'.2 (by omega)
        have hc := (hb.cell (p := ⟨b, off + k, none⟩) hbb).trans (hcells k hlt)
        have hc' := (hb.cell (p := ⟨b', off' + k, none⟩) hbb').trans (hcells' k hlt')
        have HT := Lib.hid htk; have HB := Lib.hid hb
        clear hcells hcells' htk hb h h'
        by_cases he : zs.getD k 0 = ys.getD k 0
        · have HE := Lib.hid (take_step HT.out hlt hlt' he)
          rw [← he] at hc'
          clear he
          generalize zs.getD k 0 = z at hc hc'
          have hneq : (z != z) = false := by simp
          go_wp2
          go_quiet (fail)
          go_wp2
          go_roundw
          case rel => exact ⟨k + 1, by omega, by go_num, HE.out, below_drewN HB.out _⟩
          case measure => simp [intOf]; omega
        · have HE := Lib.hid (ne_at he)
          have hneq : (zs.getD k 0 != ys.getD k 0) = true := by simpa using he
          clear he
          generalize zs.getD k 0 = z at hc hneq
          generalize ys.getD k 0 = y at hc' hneq
          go_wp2
          go_quiet (fail)
          go_wp2
          go_ret
          exact ⟨ret_no HE.out, below_drewN HB.out _⟩
      · have hkl : k = zs.length := by omega
        subst hkl
        have e : zs = ys := by
          have := htk
          rw [List.take_of_length_le (Nat.le_refl _), List.take_of_length_le (by have := H.out; omega)] at this
          exact this
        have HE := Lib.hid e; have HB := Lib.hid hb
        clear e htk hb
        go_wp2
        go_ret
        exact ⟨ret_yes HE.out, HB.out⟩
  · have hd : ((zs.length : Int) != (ys.length : Int)) = true := by simp; omega
    have HE : Hid (¬ zs = ys) := Lib.hid fun e => hlen (by rw [e])
    clear hlen
    go_enter Tryz.func19, Tryz.ntmps19
    go_wp2
    go_ret
    exact ⟨ret_no HE.out, Below.refl _ _⟩
end
section
open Go.ChangeShapes Go.WideShapes Go.ChangeAt Go.RowKit

theorem own : ownKnob Tryz.prog.godebug = none := by kernel_rfl
theorem laidOut : laidOutB Tryz.prog = true := by kernel_rfl

/-- A slice of 64-bit integers that came in reads as a list. -/
theorem open_i64s {H : Type} {enc : TypeId × Value → H} {W : World} {a : Option Addr} {len cap : Nat} {d : DataW H} {p : List MemPlace}
    (h : DataW.Trod enc Tryz.prog W 0 (fun _ => true) true 24 (.slice a len cap) d p) : ∃ zs, RdI W W.heap.size a len zs ∧ len ≤ cap ∧ ∀ z ∈ zs, (Lit.int .i64 z).wf = true := by
  obtain ⟨fuel, hf⟩ := h
  rcases open_ints Tryz.underlying24 Tryz.underlying2 (by kernel_rfl) hf with ⟨hcs, _⟩ | ⟨x, l, c, zs, hcs, _, hl, hm, hz, _, hcell, hwz⟩
  · simp [Value.cells] at hcs
    obtain ⟨rfl, rfl, rfl⟩ := hcs
    exact ⟨[], RdI.nil _ _ _, Nat.le_refl _, by simp⟩
  · simp [Value.cells] at hcs
    obtain ⟨rfl, rfl, rfl⟩ := hcs
    have hz' : zs.length = cap := by simpa using hz
    refine ⟨zs.take len, ⟨by simp; omega, fun hn => ?_⟩, hl, fun z hz => hwz z (List.mem_of_mem_take hz)⟩
    obtain ⟨b, off, spot⟩ := x
    have hc := hcell 0 (by omega)
    have hspot : spot = none := by simpa [Addr.add] using World.cell?_spot hc
    subst hspot
    refine ⟨b, off, rfl, ?_, fun j hj => ?_⟩
    · have := World.block_lt_of_cell? W _ hc
      simpa [Addr.add] using this
    · have h1 := hcell j (by omega)
      have e : (zs.take len).getD j 0 = zs.getD j 0 := by
        have h1 : j < zs.length := by omega
        simp [List.getD, hj]
      rw [e]
      by_cases h0 : j = 0
      · subst h0; simpa [Addr.add] using h1
      · simpa [Addr.add, h0] using h1

/-- Package variables read behind a call that turned nothing old as they read before. -/
theorem vars_below {H : Type} {enc : TypeId × Value → H} {W W' : World} (hb : Below W.heap.size W W') : ∀ {ns : List String} {gs : List (DataW H)} {q : List MemPlace},
    (∀ n ∈ ns, ∀ g t, Tryz.prog.globalNamed n = some g → (Tryz.prog.globals[g]?).map (·.type) = some t → Tryz.prog.readableRec t = true ∧ t < Tryz.prog.types.size) →
    DataW.TrodVars enc Tryz.prog W (fun _ => true) ns gs q → DataW.TrodVars enc Tryz.prog W' (fun b => decide (b < W.heap.size)) ns gs q
  | [], [], _, _, h => h
  | n :: ns, d :: ds, ps, hr, h => by
    have hlt := DataW.TrodVars.lt h
    obtain ⟨g, t, cs, fuel, p, q, h1, h2, h3, h4, h5, rfl⟩ := h
    obtain ⟨hr1, hr2⟩ := hr n (by simp) g t h1 h2
    have hg : g < W.heap.size := by
      unfold World.var? at h3
      simp only [h1, Option.bind_some] at h3
      rcases Nat.lt_or_ge g W.heap.size with hlt | hge
      · exact hlt
      · rw [Array.getElem?_eq_none hge] at h3; cases h3
    obtain ⟨fuel', h4'⟩ := Below.trod (v := .agg cs) laidOut hr1 hr2 ⟨fuel, h4⟩ hb (fun x hx => hlt x (by simp [hx]))
    exact ⟨g, t, cs, fuel', p, q, h1, h2, var?_below hb h1 hg h3, h4', vars_below hb (fun m hm => hr m (by simp [hm])) h5, rfl⟩

theorem readable_all (ns : List String) (hns : ns.all (fun n => match Tryz.prog.globalNamed n with | none => true | some g => match (Tryz.prog.globals[g]?).map (·.type) with | none => true | some t => Tryz.prog.readableRec t && decide (t < Tryz.prog.types.size)) = true) :
    ∀ n ∈ ns, ∀ g t, Tryz.prog.globalNamed n = some g → (Tryz.prog.globals[g]?).map (·.type) = some t → Tryz.prog.readableRec t = true ∧ t < Tryz.prog.types.size := by
  intro n hn g t hg ht
  have := List.all_eq_true.1 hns n hn
  simp only [hg, ht, Bool.and_eq_true, decide_eq_true_eq] at this
  exact this

theorem gArit : Tryz.prog.globalNamed "loop.example/g00872/impl.arities" = some 2 := by kernel_rfl
theorem gAritType : (Tryz.prog.globals[2]?).map (·.type) = some 186 := by kernel_rfl
theorem gDual : Tryz.prog.globalNamed "loop.example/g00872/impl.dualOperators" = some 1 := by kernel_rfl
theorem gDualType : (Tryz.prog.globals[1]?).map (·.type) = some 186 := by kernel_rfl
theorem cellsTab : Tryz.prog.cellsOf 186 = 19 := by kernel_rfl
theorem cellsI64 : Tryz.prog.cellsOf 2 = 1 := by kernel_rfl

/-- What a row's list gives: the table of the numbers of operands. -/
theorem arit_of {W : World} {rest : List (String × DataW Unit)} (h : laidMet Tryz.prog (("loop.example/g00872/impl.arities", Lib.tabData .i64 arTab) :: rest) W) : Arit W := by
  have ht : Lib.TabIs Tryz.prog W "loop.example/g00872/impl.arities" .i64 arTab := Lib.tabIs_of_head gArit gAritType Tryz.underlying186 Tryz.underlying2 cellsI64 cellsTab h
  exact fun i hi => ht.cell gArit i (by simpa [arTab] using hi)

theorem dual_of {W : World} {x : String × DataW Unit} {rest : List (String × DataW Unit)} (h : laidMet Tryz.prog (x :: ("loop.example/g00872/impl.dualOperators", Lib.tabData .i64 duTab) :: rest) W) : Dual W := by
  have ht : Lib.TabIs Tryz.prog W "loop.example/g00872/impl.dualOperators" .i64 duTab := Lib.tabIs_of_head gDual gDualType Tryz.underlying186 Tryz.underlying2 cellsI64 cellsTab (laidMet.tail h)
  exact fun i hi => ht.cell gDual i (by simpa [duTab] using hi)
end
section
open Go.RowKit

/-- The numbers k, k+1, .. -/
def markL (k : Int) (n : Nat) : List Int := (List.range n).map fun i => k + (i : Nat)
theorem markL_len (k : Int) (n : Nat) : (markL k n).length = n := by simp [markL]
theorem markL_at (k : Int) (n i : Nat) (h : i < n) : (markL k n).getD i 0 = k + i := by simp [markL, List.getD, h]

/-- How far the marking has come. -/
def mrk (zs : List Int) (k : Int) (j : Nat) : List Value := (markL k j ++ zs.drop j).map (Value.int .i64)
theorem mrk_zero (zs : List Int) (k : Int) : zs.map (Value.int .i64) = mrk zs k 0 := by simp [mrk, markL]
theorem mrk_all (zs : List Int) (k : Int) : mrk zs k zs.length = (markL k zs.length).map (Value.int .i64) := by simp [mrk]
theorem mrk_len (zs : List Int) (k : Int) (j : Nat) (h : j ≤ zs.length) : (mrk zs k j).length = zs.length := by simp [mrk, markL]; omega
theorem mrk_step (zs : List Int) (k : Int) (j : Nat) (h : j < zs.length) : (mrk zs k j).set j (.int .i64 (k + j)) = mrk zs k (j + 1) := by
  unfold mrk
  have e1 : (markL k j ++ zs.drop j).map (Value.int .i64) = (markL k j).map (Value.int .i64) ++ (zs.drop j).map (Value.int .i64) := List.map_append
  rw [e1, List.set_append_right _ _ (by simp [markL])]
  have e2 : j - ((markL k j).map (Value.int .i64)).length = 0 := by simp [markL]
  rw [e2, drop_cons h, List.map_cons, List.set_cons_zero]
  have e3 : markL k (j + 1) = markL k j ++ [k + (j : Nat)] := by simp [markL, List.range_succ]
  rw [e3, List.map_append, List.map_append, List.append_assoc]
  rfl

/-- What the marking leaves. -/
def Marked (w : World) (base : Nat) (v : Value) (n : Nat) (k : Int) (e : Ending) (w' : World) : Prop :=
  e = .returned (.int .i64 (k + n)) ∧ w'.ownsRow base 2 1 v n ((markL k n).map (Value.int .i64)) ∧ w.grownBy w' v.ownBlock

theorem grownBy_trans {a b c : World} {r : Option Nat} (h : a.grownBy b r) (h' : b.grownBy c r) : a.grownBy c r :=
  ⟨h'.os.trans h.os, h'.tape.trans h.tape, h'.output.trans h.output, Nat.le_trans h.size h'.size, fun k hk hr => (h'.block k (Nat.lt_of_lt_of_le hk h.size) hr).trans (h.block k hk hr)⟩

set_option maxHeartbeats 1000000 in
theorem mark_any (A : Option Addr) (n c : Nat) (zs : List Int) (k : Int) (w : World) (base : Nat) (h : w.ownsRow base 2 1 (.slice A n c) n (zs.map (Value.int .i64))) (hn : n ≤ 1048576) (hk0 : 0 ≤ k) (hk1 : k ≤ 1073741824) :
    Calls Tryz.prog 21 #[.slice A n c, .int .i64 k] w (Marked w base (.slice A n c) n k) := by
  have hl : zs.length = n := by have := h.1; simpa using this
  subst hl
  go_enter Tryz.func21, Tryz.ntmps21
  go_wp2
  go_loopw [1, 5] (fun v i wr => ∃ j : Nat, j ≤ zs.length ∧ i = .int .i64 j ∧ v = .int .i64 (k + j) ∧ wr.ownsRow base 2 1 (.slice A zs.length c) zs.length (mrk zs k j) ∧ w.grownBy wr (Value.slice A zs.length c).ownBlock)
    (fun _ i _ => zs.length - (intOf i).toNat)
  case atStart => exact ⟨0, Nat.zero_le _, rfl, by simp, by rw [← mrk_zero]; exact h, World.grownBy.refl w _⟩
  case round =>
    obtain ⟨j, hj, rfl, rfl, hown, hg⟩ := hrel
    by_cases hlt : j < zs.length
    · obtain ⟨g, cap, hv, hbg, hgl⟩ := hown.form (by omega)
      have hA : A = some ⟨g, 0, none⟩ ∧ c = cap := by injection hv with a b c'; exact ⟨a, c'⟩
      obtain ⟨rfl, rfl⟩ := hA
      have hf := hown.frozenAt j
      have ho : wr.cell? ⟨g, j, none⟩ = some ((mrk zs k j)[j]'(by rw [mrk_len zs k j hj]; exact hlt)) := by
        rw [hown.cellAt j (by omega)]; exact List.getElem?_eq_getElem _
      have hst := hown.stored j (.int .i64 (k + j))
      rw [mrk_step zs k j hlt] at hst
      have HS := Lib.hid hst.1
      have HG := Lib.hid (grownBy_trans hg hst.2)
      obtain ⟨o, hoo⟩ : ∃ o, ((mrk zs k j)[j]'(by rw [mrk_len zs k j hj]; exact hlt)) = o := ⟨_, rfl⟩
      rw [hoo] at ho
      clear hst hoo hown hg hv h
      go_wp2
      go_roundw
      case rel => exact ⟨j + 1, by omega, by go_num, by go_num, HS.out, HG.out⟩
      case measure => simp [intOf]; omega
    · have hkl : j = zs.length := by omega
      subst hkl
      rw [mrk_all] at hown
      have HS := Lib.hid hown; have HG := Lib.hid hg
      clear hown hg h
      go_wp2
      go_ret
      exact ⟨rfl, HS.out, HG.out⟩

set_option maxHeartbeats 1000000 in
theorem held_any (A : Option Addr) (n c : Nat) (k : Int) (w : World) (h : RdI w w.heap.size A n (markL k n)) (hn : n ≤ 1048576) (hk0 : 0 ≤ k) (hk1 : k ≤ 1073741824) :
    Calls Tryz.prog 25 #[.slice A n c, .int .i64 k] w fun e w' => e = .returned (.int .i64 (k + n)) ∧ w = w' := by
  go_enter Tryz.func25, Tryz.ntmps25
  go_wp2
  go_loop [1, 5] (fun v i => ∃ j : Nat, j ≤ n ∧ i = .int .i64 j ∧ v = .int .i64 (k + j)) (fun _ i => n - (intOf i).toNat)
  case atStart => exact ⟨0, Nat.zero_le _, rfl, by simp⟩
  case round =>
    obtain ⟨j, hj, rfl, rfl⟩ := hrel
    by_cases hlt : j < n
    · obtain ⟨b, off, rfl, hbb, hcells⟩ := h.2 (by omega)
      have hc := hcells j hlt
      rw [markL_at k n j hlt] at hc
      have hne : (k + (j : Int) != k + (j : Int)) = false := by simp
      clear hcells h
      go_wp2
      go_round
      case rel => exact ⟨j + 1, by omega, by go_num, by go_num⟩
      case measure => simp [intOf]; omega
    · have hkl : j = n := by omega
      subst hkl
      go_wp2
      go_ret
      exact ⟨rfl, rfl⟩

/-- The first k numbers of a list, as cells: a name that the walk does not open. -/
def pre (L : List Int) (k : Nat) : List Value := (L.take k).map (Value.int .i64)
theorem pre_zero (L : List Int) : pre L 0 = [] := by simp [pre]
theorem pre_step {L : List Int} {k : Nat} {z : Int} (h : k < L.length) (hz : L.getD k 0 = z) : pre L k ++ [.int .i64 z] = pre L (k + 1) := by
  subst hz
  unfold pre
  rw [List.take_succ_eq_append_getElem h, List.map_append]
  simp [List.getD, h]
theorem pre_all {L : List Int} {k : Nat} (h : L.length ≤ k) : pre L k = L.map (Value.int .i64) := by
  unfold pre; rw [List.take_of_length_le h]

/-- What a function leaves that hands back a list in memory of its own. -/
def Gives (w : World) (xs : List Int) (e : Ending) (w' : World) : Prop :=
  ∃ A c, e = .returned (.slice A xs.length c) ∧ w'.ownsRow w.heap.size 2 1 (.slice A xs.length c) xs.length (xs.map (Value.int .i64)) ∧ Below w.heap.size w w'
/-- .. a list and a bool. -/
def GivesB (w : World) (xs : List Int) (b : Bool) (e : Ending) (w' : World) : Prop :=
  ∃ A c, e = .returned (.tuple #[.slice A xs.length c, .bool b]) ∧ w'.ownsRow w.heap.size 2 1 (.slice A xs.length c) xs.length (xs.map (Value.int .i64)) ∧ Below w.heap.size w w'
end
end Go.Proofs.YtfdpkhiiboghiaaGreatDoor
