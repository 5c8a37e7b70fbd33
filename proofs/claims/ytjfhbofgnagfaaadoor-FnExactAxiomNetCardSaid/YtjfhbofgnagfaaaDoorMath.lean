/- Plain mathematics of formulas as lists of integers: what a symbol's arity is, where a formula ends. No program is named here. A slice of integers that reads as a list: the word for it, and how it is kept; the laws' own helpers: the copy of a slice, the comparison of two. -/
import Derived.WalkKit
import Derived.Lib.Hide
import Derived.Test.YtjfhbofgnagfaaaDoorRows
import Derived.WalkSpells
import Derived.WalkLawsBesides
import Derived.BigQuiet
import Derived.Deep.QuietTactic
import Derived.Deep.AppendLies
import Derived.Deep.Draws
import Derived.Laws.OwnMore
namespace Go.Proofs.YtjfhbofgnagfaaaDoor
open Go.RowKit

/-- An atom or a dual atom. -/
def leafB (n : Int) : Bool := decide (1 ≤ n ∧ n ≤ 8 ∨ -8 ≤ n ∧ n ≤ -1)
/-- An operator. -/
def operB (n : Int) : Bool := decide (11 ≤ n ∧ n ≤ 18)
/-- The table of the operators' numbers of operands. -/
def arTab : List Int := [0, 0, 0, 0, 0, 0, 0, 0, 0, 0, 0, 2, 2, 0, 0, 2, 2, 1, 1]
/-- The table of the operators' duals. -/
def duTab : List Int := [0, 0, 0, 0, 0, 0, 0, 0, 0, 0, 0, 12, 11, 14, 13, 16, 15, 18, 17]
/-- The number of operands of a symbol, -1 where it is none. -/
def arZ (n : Int) : Int := if leafB n then 0 else if operB n then arTab.getD n.toNat 0 else -1

theorem arZ_leaf {n : Int} (h : leafB n = true) : arZ n = 0 := by simp [arZ, h]
theorem arZ_oper {n : Int} (h : leafB n = false) (h' : operB n = true) : arZ n = arTab.getD n.toNat 0 := by simp [arZ, h, h']
theorem arZ_none {n : Int} (h : leafB n = false) (h' : operB n = false) : arZ n = -1 := by simp [arZ, h, h']
theorem leaf_iff {n : Int} : leafB n = true ↔ (1 ≤ n ∧ n ≤ 8 ∨ -8 ≤ n ∧ n ≤ -1) := by simp [leafB]
theorem leaf_not {n : Int} : leafB n = false ↔ ¬ (1 ≤ n ∧ n ≤ 8 ∨ -8 ≤ n ∧ n ≤ -1) := by simp [leafB]
theorem oper_iff {n : Int} : operB n = true ↔ (11 ≤ n ∧ n ≤ 18) := by simp [operB]
theorem oper_not {n : Int} : operB n = false ↔ ¬ (11 ≤ n ∧ n ≤ 18) := by simp [operB]

/-- Every symbol is a leaf, one of the eight operators, or none. -/
theorem sym_cases (n : Int) : (leafB n = true ∧ arZ n = 0 ∧ (1 ≤ n ∧ n ≤ 8 ∨ -8 ≤ n ∧ n ≤ -1)) ∨ (leafB n = false ∧ operB n = true ∧ (n = 11 ∧ arZ n = 2 ∨ n = 12 ∧ arZ n = 2 ∨ n = 13 ∧ arZ n = 0 ∨ n = 14 ∧ arZ n = 0 ∨ n = 15 ∧ arZ n = 2 ∨ n = 16 ∧ arZ n = 2 ∨ n = 17 ∧ arZ n = 1 ∨ n = 18 ∧ arZ n = 1)) ∨
    (leafB n = false ∧ operB n = false ∧ arZ n = -1 ∧ ¬ (1 ≤ n ∧ n ≤ 8) ∧ ¬ (-8 ≤ n ∧ n ≤ -1) ∧ ¬ (11 ≤ n ∧ n ≤ 18)) := by
  cases hl : leafB n with
  | true => exact .inl ⟨rfl, arZ_leaf hl, leaf_iff.1 hl⟩
  | false =>
    cases ho : operB n with
    | false => exact .inr (.inr ⟨rfl, rfl, arZ_none hl ho, by have := leaf_not.1 hl; omega, by have := leaf_not.1 hl; omega, oper_not.1 ho⟩)
    | true =>
      refine .inr (.inl ⟨rfl, rfl, ?_⟩)
      have h := oper_iff.1 ho
      have : n = 11 ∨ n = 12 ∨ n = 13 ∨ n = 14 ∨ n = 15 ∨ n = 16 ∨ n = 17 ∨ n = 18 := by omega
      rcases this with rfl | rfl | rfl | rfl | rfl | rfl | rfl | rfl <;> decide

theorem arZ_cases (n : Int) : arZ n = -1 ∨ arZ n = 0 ∨ arZ n = 1 ∨ arZ n = 2 := by
  rcases sym_cases n with ⟨_, h, _⟩ | ⟨_, _, h⟩ | ⟨_, _, h, _⟩
  · exact .inr (.inl h)
  · omega
  · exact .inl h
theorem arZ_lo (n : Int) : -1 ≤ arZ n := by have := arZ_cases n; omega
theorem arZ_hi (n : Int) : arZ n ≤ 2 := by have := arZ_cases n; omega

/-- The index behind m formulas that stand one behind the other at the head of xs, which begins at index a; -1 where there is none. -/
def scan : List Int → Int → Int → Int
  | [], _, _ => -1
  | x :: xs, m, a => if arZ x < 0 then -1 else if m + arZ x = 1 then a + 1 else scan xs (m + arZ x - 1) (a + 1)

theorem scan_nil (m a : Int) : scan [] m a = -1 := rfl
theorem scan_bad {x : Int} (xs : List Int) (m a : Int) (h : arZ x = -1) : scan (x :: xs) m a = -1 := by simp [scan, h]
theorem scan_end {x : Int} (xs : List Int) (m a : Int) (h0 : 0 ≤ arZ x) (h : m + arZ x = 1) : scan (x :: xs) m a = a + 1 := by
  simp [scan, h]; omega
theorem scan_on {x : Int} (xs : List Int) (m a : Int) (h0 : 0 ≤ arZ x) (h : m + arZ x ≠ 1) : scan (x :: xs) m a = scan xs (m + arZ x - 1) (a + 1) := by
  simp only [scan]
  rw [if_neg (by omega), if_neg h]

/-- FormEnd of a list of any length. -/
def fe (f : List Int) (a : Int) : Int := if 0 ≤ a ∧ a < f.length then scan (f.drop a.toNat) 1 a else -1
/-- FormEnd. -/
def feI (f : List Int) (a : Int) : Int := if f.length ≤ 24 then fe f a else -1
/-- ValidForm. -/
def validB (f : List Int) : Bool := decide (feI f 0 = f.length)

theorem fe_out {f : List Int} {a : Int} (h : ¬ (0 ≤ a ∧ a < f.length)) : fe f a = -1 := by unfold fe; rw [if_neg h]
theorem fe_nat {f : List Int} {a : Nat} (h : a < f.length) : fe f a = scan (f.drop a) 1 a := by
  unfold fe; rw [if_pos ⟨by omega, by omega⟩]; rfl
theorem drop_cons {f : List Int} {k : Nat} (h : k < f.length) : f.drop k = f.getD k 0 :: f.drop (k + 1) := by
  rw [List.drop_eq_getElem_cons h]
  simp [List.getD, h]
theorem feI_small {f : List Int} {a : Int} (h : f.length ≤ 24) : feI f a = fe f a := by unfold feI; rw [if_pos h]
theorem feI_big {f : List Int} {a : Int} (h : ¬ f.length ≤ 24) : feI f a = -1 := by unfold feI; rw [if_neg h]

/-- Where scan answers an index, that index lies within the list. -/
theorem scan_bd : ∀ (xs : List Int) (m a : Int), 1 ≤ m → scan xs m a = -1 ∨ a + 1 ≤ scan xs m a ∧ scan xs m a ≤ a + xs.length
  | [], _, _, _ => .inl rfl
  | x :: xs, m, a, hm => by
    rcases arZ_cases x with h | h | h | h
    · exact .inl (scan_bad _ _ _ h)
    all_goals
      by_cases hr : m + arZ x = 1
      · rw [scan_end _ _ _ (by omega) hr]; simp; omega
      · rw [scan_on _ _ _ (by omega) hr]
        rcases scan_bd xs (m + arZ x - 1) (a + 1) (by omega) with h' | h'
        · exact .inl h'
        · right; simp only [List.length_cons]; omega
theorem fe_bd (f : List Int) (a : Int) : fe f a = -1 ∨ 0 ≤ a ∧ a + 1 ≤ fe f a ∧ fe f a ≤ f.length := by
  by_cases h : 0 ≤ a ∧ a < f.length
  · obtain ⟨k, rfl⟩ : ∃ k : Nat, a = k := ⟨a.toNat, by omega⟩
    have hk : k < f.length := by omega
    rw [fe_nat hk]
    rcases scan_bd (f.drop k) 1 k (by omega) with h' | h'
    · exact .inl h'
    · right
      rw [List.length_drop] at h'
      omega
  · exact .inl (fe_out h)
theorem feI_bd (f : List Int) (a : Int) : feI f a = -1 ∨ 0 ≤ a ∧ a + 1 ≤ feI f a ∧ feI f a ≤ f.length := by
  by_cases h : f.length ≤ 24
  · rw [feI_small h]; exact fe_bd f a
  · exact .inl (feI_big h)
theorem valid_len {f : List Int} (h : validB f = true) : 1 ≤ f.length ∧ f.length ≤ 24 ∧ fe f 0 = f.length := by
  have h' : feI f 0 = f.length := by simpa [validB] using h
  by_cases hl : f.length ≤ 24
  · rw [feI_small hl] at h'
    rcases fe_bd f 0 with h1 | h1
    · omega
    · exact ⟨by omega, hl, h'⟩
  · rw [feI_big hl] at h'; omega

/-- The slice value '.slice A n c' reads as the list zs, its cells below block B. -/
def RdI (w : World) (B : Nat) (A : Option Addr) (n : Nat) (zs : List Int) : Prop :=
  zs.length = n ∧ (0 < n → ∃ b off, A = some ⟨b, off, none⟩ ∧ b < B ∧ ∀ j, j < n → w.cell? ⟨b, off + j, none⟩ = some (.int .i64 (zs.getD j 0)))
section
variable {w w' : World} {B B' n : Nat} {A : Option Addr} {zs : List Int}
theorem RdI.len (h : RdI w B A n zs) : zs.length = n := h.1
theorem RdI.keep (h : RdI w B A n zs) (hk : ∀ p : Addr, p.block < B → w'.cell? p = w.cell? p) : RdI w' B A n zs :=
  ⟨h.1, fun hn => by
    obtain ⟨b, off, e, hb, hc⟩ := h.2 hn
    exact ⟨b, off, e, hb, fun j hj => (hk _ hb).trans (hc j hj)⟩⟩
theorem RdI.more (h : RdI w B A n zs) (hB : B ≤ B') : RdI w B' A n zs :=
  ⟨h.1, fun hn => by
    obtain ⟨b, off, e, hb, hc⟩ := h.2 hn
    exact ⟨b, off, e, by omega, hc⟩⟩
theorem RdI.below (h : RdI w B A n zs) (hb : Below B w w') : RdI w' B A n zs := h.keep fun _ hp => hb.cell hp
theorem RdI.nil (w : World) (B : Nat) (A : Option Addr) : RdI w B A 0 [] := ⟨rfl, fun h => absurd h (by omega)⟩
theorem RdI.of_own {base : Nat} {e : TypeId} {c : Nat} (h : w.ownsRow base e 1 (.slice A n c) n (zs.map (Value.int .i64))) : RdI w w.heap.size A n zs := by
  have hl : zs.length = n := by have := h.1; simpa using this
  refine ⟨hl, fun hn => ?_⟩
  obtain ⟨g, cap, hv, _, hlt⟩ := h.form hn
  have hA : A = some ⟨g, 0, none⟩ := by injection hv
  subst hA
  refine ⟨g, 0, rfl, hlt, fun j hj => ?_⟩
  have := h.cellAt (g := g) j (by omega)
  rw [Nat.zero_add, this]
  simp [List.getD, hl, hj]
end
end Go.Proofs.YtjfhbofgnagfaaaDoor
