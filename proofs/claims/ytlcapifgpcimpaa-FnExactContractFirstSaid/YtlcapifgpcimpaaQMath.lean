/- Plain mathematics of formulas as lists of integers: what a symbol's arity is, where a formula ends. No program is named here. A slice of integers that reads as a list: the word for it, and how it is kept; the laws' own helpers: the copy of a slice, the comparison of two. The laws' own helpers: the copy of a slice, the comparison of two. The laws' marks: writing numbers into a slice of the call's own, and finding them again. What a function that hands back a list leaves. The small functions on symbols: what each returns, the world left as it was. The small functions of the model on symbols: what each returns, the world left as it was. -/
import Derived.WalkKit
import Derived.Lib.Hide
import Derived.Test.YtlcapifgpcimpaaRows
import Derived.WalkSpells
import Derived.WalkLawsBesides
import Derived.BigQuiet
import Derived.Deep.QuietTactic
import Derived.Deep.AppendLies
import Derived.Deep.Draws
import Derived.Laws.OwnMore
import Derived.WalkSmall
import Derived.Deep.Onto
import Derived.Lib.LaidTab
namespace Go.Proofs.Ytlcapifgpcimpaa
set_option linter.unusedSimpArgs false
set_option linter.unusedVariables false
section
open Go.RowKit

/-- An atom or a dual atom. -/
def leafB (n : Int) : Bool := decide (1 ≤ n ∧ n ≤ 8 ∨ -8 ≤ n ∧ n ≤ -1)
/-- An operator. -/
def operB (n : Int) : Bool := decide (11 ≤ n ∧ n ≤ 18)
/-- The table of the operators' numbers of operands. -/
def arTab : List Int := [0, 0, 0, 0, 0, 0, 0, 0, 0, 0, 0, 2, 2, 0, 0, 2, 2, 1, 1]
/-- The table of the operators' duals. -/
def duTab : List Int := [0, 0, 0, 0, 0, 0, 0, 0, 0, 0, 0, 12, 11, 14, 13, 16, 15, 18, 17]
/-- The number of operands of a symbol, -1 where it is none. -/
def arZ (n : Int) : Int := if leafB n then 0 else if operB n then arTab.getD n.toNat 0 else -1

theorem arZ_leaf {n : Int} (h : leafB n = true) : arZ n = 0 := by simp [arZ, h]
theorem arZ_oper {n : Int} (h : leafB n = false) (h' : operB n = true) : arZ n = arTab.getD n.toNat 0 := by simp [arZ, h, h']
theorem arZ_none {n : Int} (h : leafB n = false) (h' : operB n = false) : arZ n = -1 := by simp [arZ, h, h']
theorem leaf_iff {n : Int} : leafB n = true ↔ (1 ≤ n ∧ n ≤ 8 ∨ -8 ≤ n ∧ n ≤ -1) := by simp [leafB]
theorem leaf_not {n : Int} : leafB n = false ↔ ¬ (1 ≤ n ∧ n ≤ 8 ∨ -8 ≤ n ∧ n ≤ -1) := by simp [leafB]
theorem oper_iff {n : Int} : operB n = true ↔ (11 ≤ n ∧ n ≤ 18) := by simp [operB]
theorem oper_not {n : Int} : operB n = false ↔ ¬ (11 ≤ n ∧ n ≤ 18) := by simp [operB]

/-- Every symbol is a leaf, one of the eight operators, or none. -/
theorem sym_cases (n : Int) : (leafB n = true ∧ arZ n = 0 ∧ (1 ≤ n ∧ n ≤ 8 ∨ -8 ≤ n ∧ n ≤ -1)) ∨ (leafB n = false ∧ operB n = true ∧ (n = 11 ∧ arZ n = 2 ∨ n = 12 ∧ arZ n = 2 ∨ n = 13 ∧ arZ n = 0 ∨ n = 14 ∧ arZ n = 0 ∨ n = 15 ∧ arZ n = 2 ∨ n = 16 ∧ arZ n = 2 ∨ n = 17 ∧ arZ n = 1 ∨ n = 18 ∧ arZ n = 1)) ∨
    (leafB n = false ∧ operB n = false ∧ arZ n = -1 ∧ ¬ (1 ≤ n ∧ n ≤ 8) ∧ ¬ (-8 ≤ n ∧ n ≤ -1) ∧ ¬ (11 ≤ n ∧ n ≤ 18)) := by
  cases hl : leafB n with
  | true => exact .inl ⟨rfl, arZ_leaf hl, leaf_iff.1 hl⟩
  | false =>
    cases ho : operB n with
    | false => exact .inr (.inr ⟨rfl, rfl, arZ_none hl ho, by have := leaf_not.1 hl; omega, by have := leaf_not.1 hl; omega, oper_not.1 ho⟩)
    | true =>
      refine .inr (.inl ⟨rfl, rfl, ?_⟩)
      have h := oper_iff.1 ho
      have : n = 11 ∨ n = 12 ∨ n = 13 ∨ n = 14 ∨ n = 15 ∨ n = 16 ∨ n = 17 ∨ n = 18 := by omega
      rcases this with rfl | rfl | rfl | rfl | rfl | rfl | rfl | rfl <;> decide

theorem arZ_cases (n : Int) : arZ n = -1 ∨ arZ n = 0 ∨ arZ n = 1 ∨ arZ n = 2 := by
  rcases sym_cases n with ⟨_, h, _⟩ | ⟨_, _, h⟩ | ⟨_, _, h, _⟩
  · exact .inr (.inl h)
  · omega
  · exact .inl h
theorem arZ_lo (n : Int) : -1 ≤ arZ n := by have := arZ_cases n; omega
theorem arZ_hi (n : Int) : arZ n ≤ 2 := by have := arZ_cases n; omega

/-- The index behind m formulas that stand one behind the other at the head of xs, which begins at index a; -1 where there is none. -/
def scan : List Int → Int → Int → Int
  | [], _, _ => -1
  | x :: xs, m, a => if arZ x < 0 then -1 else if m + arZ x = 1 then a + 1 else scan xs (m + arZ x - 1) (a + 1)

theorem scan_bad {x : Int} (xs : List Int) (m a : Int) (h : arZ x = -1) : scan (x :: xs) m a = -1 := by simp [scan, h]
theorem scan_end {x : Int} (xs : List Int) (m a : Int) (h0 : 0 ≤ arZ x) (h : m + arZ x = 1) : scan (x :: xs) m a = a + 1 := by
  simp [scan, h]; omega
theorem scan_on {x : Int} (xs : List Int) (m a : Int) (h0 : 0 ≤ arZ x) (h : m + arZ x ≠ 1) : scan (x :: xs) m a = scan xs (m + arZ x - 1) (a + 1) := by
  simp only [scan]
  rw [if_neg (by omega), if_neg h]

/-- FormEnd of a list of any length. -/
def fe (f : List Int) (a : Int) : Int := if 0 ≤ a ∧ a < f.length then scan (f.drop a.toNat) 1 a else -1
/-- FormEnd. -/
def feI (f : List Int) (a : Int) : Int := if f.length ≤ 24 then fe f a else -1
/-- ValidForm. -/
def validB (f : List Int) : Bool := decide (feI f 0 = f.length)

theorem fe_out {f : List Int} {a : Int} (h : ¬ (0 ≤ a ∧ a < f.length)) : fe f a = -1 := by unfold fe; rw [if_neg h]
theorem fe_nat {f : List Int} {a : Nat} (h : a < f.length) : fe f a = scan (f.drop a) 1 a := by
  unfold fe; rw [if_pos ⟨by omega, by omega⟩]; rfl
theorem drop_cons {f : List Int} {k : Nat} (h : k < f.length) : f.drop k = f.getD k 0 :: f.drop (k + 1) := by
  rw [List.drop_eq_getElem_cons h]
  simp [List.getD, h]
theorem feI_small {f : List Int} {a : Int} (h : f.length ≤ 24) : feI f a = fe f a := by unfold feI; rw [if_pos h]
theorem feI_big {f : List Int} {a : Int} (h : ¬ f.length ≤ 24) : feI f a = -1 := by unfold feI; rw [if_neg h]

/-- Where scan answers an index, that index lies within the list. -/
theorem scan_bd : ∀ (xs : List Int) (m a : Int), 1 ≤ m → scan xs m a = -1 ∨ a + 1 ≤ scan xs m a ∧ scan xs m a ≤ a + xs.length
  | [], _, _, _ => .inl rfl
  | x :: xs, m, a, hm => by
    rcases arZ_cases x with h | h | h | h
    · exact .inl (scan_bad _ _ _ h)
    all_goals
      by_cases hr : m + arZ x = 1
      · rw [scan_end _ _ _ (by omega) hr]; simp; omega
      · rw [scan_on _ _ _ (by omega) hr]
        rcases scan_bd xs (m + arZ x - 1) (a + 1) (by omega) with h' | h'
        · exact .inl h'
        · right; simp only [List.length_cons]; omega
theorem fe_bd (f : List Int) (a : Int) : fe f a = -1 ∨ 0 ≤ a ∧ a + 1 ≤ fe f a ∧ fe f a ≤ f.length := by
  by_cases h : 0 ≤ a ∧ a < f.length
  · obtain ⟨k, rfl⟩ : ∃ k : Nat, a = k := ⟨a.toNat, by omega⟩
    have hk : k < f.length := by omega
    rw [fe_nat hk]
    rcases scan_bd (f.drop k) 1 k (by omega) with h' | h'
    · exact .inl h'
    · right
      rw [List.length_drop] at h'
      omega
  · exact .inl (fe_out h)
theorem valid_len {f : List Int} (h : validB f = true) : 1 ≤ f.length ∧ f.length ≤ 24 ∧ fe f 0 = f.length := by
  have h' : feI f 0 = f.length := by simpa [validB] using h
  by_cases hl : f.length ≤ 24
  · rw [feI_small hl] at h'
    rcases fe_bd f 0 with h1 | h1
    · omega
    · exact ⟨by omega, hl, h'⟩
  · rw [feI_big hl] at h'; omega

/-- The slice value '.slice A n c' reads as the list zs, its cells below block B. -/
def RdI (w : World) (B : Nat) (A : Option Addr) (n : Nat) (zs : List Int) : Prop :=
  zs.length = n ∧ (0 < n → ∃ b off, A = some ⟨b, off, none⟩ ∧ b < B ∧ ∀ j, j < n → w.cell? ⟨b, off + j, none⟩ = some (.int .i64 (zs.getD j 0)))
section
variable {w w' : World} {B B' n : Nat} {A : Option Addr} {zs : List Int}
theorem RdI.len (h : RdI w B A n zs) : zs.length = n := h.1
theorem RdI.keep (h : RdI w B A n zs) (hk : ∀ p : Addr, p.block < B → w'.cell? p = w.cell? p) : RdI w' B A n zs :=
  ⟨h.1, fun hn => by
    obtain ⟨b, off, e, hb, hc⟩ := h.2 hn
    exact ⟨b, off, e, hb, fun j hj => (hk _ hb).trans (hc j hj)⟩⟩
theorem RdI.more (h : RdI w B A n zs) (hB : B ≤ B') : RdI w B' A n zs :=
  ⟨h.1, fun hn => by
    obtain ⟨b, off, e, hb, hc⟩ := h.2 hn
    exact ⟨b, off, e, by omega, hc⟩⟩
theorem RdI.below (h : RdI w B A n zs) (hb : Below B w w') : RdI w' B A n zs := h.keep fun _ hp => hb.cell hp
theorem RdI.nil (w : World) (B : Nat) (A : Option Addr) : RdI w B A 0 [] := ⟨rfl, fun h => absurd h (by omega)⟩
theorem RdI.of_own {base : Nat} {e : TypeId} {c : Nat} (h : w.ownsRow base e 1 (.slice A n c) n (zs.map (Value.int .i64))) : RdI w w.heap.size A n zs := by
  have hl : zs.length = n := by have := h.1; simpa using this
  refine ⟨hl, fun hn => ?_⟩
  obtain ⟨g, cap, hv, _, hlt⟩ := h.form hn
  have hA : A = some ⟨g, 0, none⟩ := by injection hv
  subst hA
  refine ⟨g, 0, rfl, hlt, fun j hj => ?_⟩
  have := h.cellAt (g := g) j (by omega)
  rw [Nat.zero_add, this]
  simp [List.getD, hl, hj]
end
end
section
open Go.RowKit

theorem info_i64 : (Try.prog.info? 2).map (fun i => (i.zero, i.size, i.bytes)) = some (some (.int .i64 0), 1, 8) := by kernel_rfl

theorem own_below {w w' : World} {B base n size : Nat} {e : TypeId} {v : Value} {xs : List Value} (h : w.ownsRow base e size v n xs) (hb : Below B w w') (hB : w.heap.size ≤ B) : w'.ownsRow base e size v n xs := by
  obtain ⟨h1, h2⟩ := h
  refine ⟨h1, ?_⟩
  rcases h2 with h2 | ⟨g, cap, cur, hv, hg, hh, r⟩
  · exact .inl h2
  · refine .inr ⟨g, cap, cur, hv, hg, ?_, r⟩
    have hlt : g < w.heap.size := by
      rcases Nat.lt_or_ge g w.heap.size with hlt | hge
      · exact hlt
      · rw [Array.getElem?_eq_none hge] at hh; cases hh
    rw [hb.block g (by omega)]; exact hh

/-- How far the copy has come. -/
def cpy (zs : List Int) (k : Nat) : List Value := (zs.take k).map (Value.int .i64) ++ List.replicate (zs.length - k) (.int .i64 0)
theorem cpy_zero (zs : List Int) : List.replicate zs.length (Value.int .i64 0) = cpy zs 0 := by simp [cpy]
theorem cpy_all (zs : List Int) : cpy zs zs.length = zs.map (Value.int .i64) := by simp [cpy]
theorem cpy_len (zs : List Int) (k : Nat) (h : k ≤ zs.length) : (cpy zs k).length = zs.length := by simp [cpy]; omega
theorem cpy_step (zs : List Int) (k : Nat) (h : k < zs.length) : (cpy zs k).set k (.int .i64 (zs.getD k 0)) = cpy zs (k + 1) := by
  unfold cpy
  rw [List.set_append_right _ _ (by simp; omega)]
  have e1 : k - (List.map (Value.int .i64) (List.take k zs)).length = 0 := by simp; omega
  rw [e1]
  have e2 : zs.length - k = (zs.length - (k + 1)) + 1 := by omega
  rw [e2, List.replicate_succ, List.set_cons_zero]
  rw [List.take_succ_eq_append_getElem h, List.map_append, List.append_assoc]
  have e3 : zs.getD k 0 = zs[k] := by simp [List.getD, h]
  rw [e3]
  rfl

/-- What the copy of a slice leaves: a row of its own, new, that holds the numbers. -/
def Copied (w : World) (n : Nat) (zs : List Int) (e : Ending) (w' : World) : Prop :=
  e = .returned (.slice (some ⟨w.heap.size, 0, none⟩) n n) ∧ w'.ownsRow w.heap.size 2 1 (.slice (some ⟨w.heap.size, 0, none⟩) n n) n (zs.map (Value.int .i64)) ∧ Below w.heap.size w w'

/-- What the comparison of two slices leaves. -/
def Same (zs ys : List Int) (w : World) (e : Ending) (w' : World) : Prop := e = .returned (.bool (decide (zs = ys))) ∧ Below w.heap.size w w'

theorem ret_no {p : Prop} [Decidable p] (h : ¬ p) : Ending.returned (.bool false) = Ending.returned (.bool (decide p)) := by rw [decide_eq_false h]
theorem ret_yes {p : Prop} [Decidable p] (h : p) : Ending.returned (.bool true) = Ending.returned (.bool (decide p)) := by rw [decide_eq_true h]
theorem take_step {zs ys : List Int} {k : Nat} (h : zs.take k = ys.take k) (hz : k < zs.length) (hy : k < ys.length) (he : zs.getD k 0 = ys.getD k 0) : zs.take (k + 1) = ys.take (k + 1) := by
  rw [List.take_succ_eq_append_getElem hz, List.take_succ_eq_append_getElem hy, h]
  simp [List.getD, hz, hy] at he
  rw [he]
theorem ne_at {zs ys : List Int} {k : Nat} (he : ¬ zs.getD k 0 = ys.getD k 0) : ¬ zs = ys := fun h => he (by rw [h])

end
section
open Go.RowKit

/-- The numbers k, k+1, .. -/
def markL (k : Int) (n : Nat) : List Int := (List.range n).map fun i => k + (i : Nat)
theorem markL_len (k : Int) (n : Nat) : (markL k n).length = n := by simp [markL]
theorem markL_at (k : Int) (n i : Nat) (h : i < n) : (markL k n).getD i 0 = k + i := by simp [markL, List.getD, h]

/-- How far the marking has come. -/
def mrk (zs : List Int) (k : Int) (j : Nat) : List Value := (markL k j ++ zs.drop j).map (Value.int .i64)
theorem mrk_zero (zs : List Int) (k : Int) : zs.map (Value.int .i64) = mrk zs k 0 := by simp [mrk, markL]
theorem mrk_all (zs : List Int) (k : Int) : mrk zs k zs.length = (markL k zs.length).map (Value.int .i64) := by simp [mrk]
theorem mrk_len (zs : List Int) (k : Int) (j : Nat) (h : j ≤ zs.length) : (mrk zs k j).length = zs.length := by simp [mrk, markL]; omega
theorem mrk_step (zs : List Int) (k : Int) (j : Nat) (h : j < zs.length) : (mrk zs k j).set j (.int .i64 (k + j)) = mrk zs k (j + 1) := by
  unfold mrk
  have e1 : (markL k j ++ zs.drop j).map (Value.int .i64) = (markL k j).map (Value.int .i64) ++ (zs.drop j).map (Value.int .i64) := List.map_append
  rw [e1, List.set_append_right _ _ (by simp [markL])]
  have e2 : j - ((markL k j).map (Value.int .i64)).length = 0 := by simp [markL]
  rw [e2, drop_cons h, List.map_cons, List.set_cons_zero]
  have e3 : markL k (j + 1) = markL k j ++ [k + (j : Nat)] := by simp [markL, List.range_succ]
  rw [e3, List.map_append, List.map_append, List.append_assoc]
  rfl

/-- What the marking leaves. -/
def Marked (w : World) (base : Nat) (v : Value) (n : Nat) (k : Int) (e : Ending) (w' : World) : Prop :=
  e = .returned (.int .i64 (k + n)) ∧ w'.ownsRow base 2 1 v n ((markL k n).map (Value.int .i64)) ∧ w.grownBy w' v.ownBlock

theorem grownBy_trans {a b c : World} {r : Option Nat} (h : a.grownBy b r) (h' : b.grownBy c r) : a.grownBy c r :=
  ⟨h'.os.trans h.os, h'.tape.trans h.tape, h'.output.trans h.output, Nat.le_trans h.size h'.size, fun k hk hr => (h'.block k (Nat.lt_of_lt_of_le hk h.size) hr).trans (h.block k hk hr)⟩

/-- The first k numbers of a list, as cells: a name that the walk does not open. -/
def pre (L : List Int) (k : Nat) : List Value := (L.take k).map (Value.int .i64)
theorem pre_zero (L : List Int) : pre L 0 = [] := by simp [pre]
theorem pre_step {L : List Int} {k : Nat} {z : Int} (h : k < L.length) (hz : L.getD k 0 = z) : pre L k ++ [.int .i64 z] = pre L (k + 1) := by
  subst hz
  unfold pre
  rw [List.take_succ_eq_append_getElem h, List.map_append]
  simp [List.getD, h]
theorem pre_all {L : List Int} {k : Nat} (h : L.length ≤ k) : pre L k = L.map (Value.int .i64) := by
  unfold pre; rw [List.take_of_length_le h]

/-- What a function leaves that hands back a list in memory of its own. -/
def Gives (w : World) (xs : List Int) (e : Ending) (w' : World) : Prop :=
  ∃ A c, e = .returned (.slice A xs.length c) ∧ w'.ownsRow w.heap.size 2 1 (.slice A xs.length c) xs.length (xs.map (Value.int .i64)) ∧ Below w.heap.size w w'
/-- .. a list and a bool. -/
def GivesB (w : World) (xs : List Int) (b : Bool) (e : Ending) (w' : World) : Prop :=
  ∃ A c, e = .returned (.tuple #[.slice A xs.length c, .bool b]) ∧ w'.ownsRow w.heap.size 2 1 (.slice A xs.length c) xs.length (xs.map (Value.int .i64)) ∧ Below w.heap.size w w'

theorem own_ne {w1 w2 : World} {b1 b2 B n1 n2 : Nat} {e1 e2 : TypeId} {v1 v2 : Value} {xs ys : List Value} (h1 : w1.ownsRow b1 e1 1 v1 n1 xs) (h2 : w2.ownsRow b2 e2 1 v2 n2 ys) (hB : w1.heap.size ≤ B) (hB2 : B ≤ b2) : v1.ownBlock = none ∨ v1.ownBlock ≠ v2.ownBlock := by
  cases hv : v1.ownBlock with
  | none => exact .inl rfl
  | some k =>
    right
    intro he
    have l1 := (h1.lt k hv).2
    have l2 := (h2.lt k he.symm).1
    omega
theorem own_ne' {w1 w2 : World} {b1 b2 B n1 n2 : Nat} {e1 e2 : TypeId} {v1 v2 : Value} {xs ys : List Value} (h1 : w1.ownsRow b1 e1 1 v1 n1 xs) (h2 : w2.ownsRow b2 e2 1 v2 n2 ys) (hB : w1.heap.size ≤ B) (hB2 : B ≤ b2) : v2.ownBlock = none ∨ v2.ownBlock ≠ v1.ownBlock := by
  cases hv : v2.ownBlock with
  | none => exact .inl rfl
  | some k =>
    right
    intro he
    have l1 := (h1.lt k he.symm).2
    have l2 := (h2.lt k hv).1
    omega
theorem below_grown {B : Nat} {a w w' : World} {base n : Nat} {e : TypeId} {v : Value} {xs : List Value} (h : Below B a w) (hg : w.grownBy w' v.ownBlock) (ho : w.ownsRow base e 1 v n xs) (hB : B ≤ base) (hs : B ≤ w.heap.size) : Below B a w' :=
  h.grown hg hs fun k hk => by have := (ho.lt k hk).1; omega
end
section
open Go.RowKit

set_option maxHeartbeats 400000 in
theorem inRange_any (n lo hi : Int) (w : World) : Calls Try.prog 27 #[.int .i64 n, .int .i64 lo, .int .i64 hi] w fun e w' => e = .returned (.bool (decide (lo ≤ n ∧ n ≤ hi))) ∧ w = w' := by
  by_cases h1 : lo ≤ n
  · by_cases h2 : n ≤ hi
    · rw [decide_eq_true ⟨h1, h2⟩]
      go_enter Try.func27, Try.ntmps27
      go_wp2
      go_ret
      exact ⟨rfl, rfl⟩
    · rw [decide_eq_false (fun h => h2 h.2)]
      go_enter Try.func27, Try.ntmps27
      go_wp2
      go_ret
      exact ⟨rfl, rfl⟩
  · rw [decide_eq_false (fun h => h1 h.1)]
    go_enter Try.func27, Try.ntmps27
    go_wp2
    go_ret
    exact ⟨rfl, rfl⟩
/-- The same in two, by what the test says. -/
theorem inRange_yes (n lo hi : Int) (w : World) (h : lo ≤ n ∧ n ≤ hi) : Calls Try.prog 27 #[.int .i64 n, .int .i64 lo, .int .i64 hi] w fun e w' => e = .returned (.bool true) ∧ w = w' :=
  (inRange_any n lo hi w).mono fun _ _ ⟨he, hw⟩ => ⟨by rw [he, decide_eq_true h], hw⟩
theorem inRange_no (n lo hi : Int) (w : World) (h : ¬ (lo ≤ n ∧ n ≤ hi)) : Calls Try.prog 27 #[.int .i64 n, .int .i64 lo, .int .i64 hi] w fun e w' => e = .returned (.bool false) ∧ w = w' :=
  (inRange_any n lo hi w).mono fun _ _ ⟨he, hw⟩ => ⟨by rw [he, decide_eq_false h], hw⟩

end
end Go.Proofs.Ytlcapifgpcimpaa
