/- The model's draws: a source of numbers in a block of the call's own, and what is picked from it. Nothing is said of which numbers are drawn, only of their range and of the memory. The model's draw of a formula: some list of small numbers, in memory of its own. The model's source made of a code, and its draw of a list that is mostly a formula. -/
import Derived.Test.YtoniekjchabjlaaJoinS
import Derived.Deep.DeepCutAuto
import Derived.Test.YtoniekjchabjlaaClone
import Derived.StillTailTactics
namespace Go.Proofs.Ytoniekjchabjlaa
open Go.RowKit

/-- The slice value '.slice A n c' reads as the bytes code, its cells below block B. -/
def RdB (w : World) (B : Nat) (A : Option Addr) (n : Nat) (code : List Int) : Prop :=
  code.length = n ∧ (∀ z ∈ code, 0 ≤ z ∧ z ≤ 255) ∧ (0 < n → ∃ b off, A = some ⟨b, off, none⟩ ∧ b < B ∧ ∀ j, j < n → w.cell? ⟨b, off + j, none⟩ = some (.int .u8 (code.getD j 0)))
theorem RdB.keep {w w' : World} {B n : Nat} {A : Option Addr} {code : List Int} (h : RdB w B A n code) (hk : ∀ p : Addr, p.block < B → w'.cell? p = w.cell? p) : RdB w' B A n code :=
  ⟨h.1, h.2.1, fun hn => by
    obtain ⟨b, off, e, hb, hc⟩ := h.2.2 hn
    exact ⟨b, off, e, hb, fun j hj => (hk _ hb).trans (hc j hj)⟩⟩
theorem RdB.at_range {w : World} {B n : Nat} {A : Option Addr} {code : List Int} (h : RdB w B A n code) {j : Nat} (hj : j < n) : 0 ≤ code.getD j 0 ∧ code.getD j 0 ≤ 255 := by
  have hl : j < code.length := by have := h.1; omega
  exact h.2.1 _ (by simp [List.getD, hl])

theorem grown_alloc (w : World) (o : Obj) (r : Option Nat) : w.grownBy (w.alloc o) r := ⟨rfl, rfl, rfl, by simp, fun k hk _ => Below.heap_alloc w o k hk⟩
/-- What grew by blocks of its own still has turned one row alone. -/
theorem grown_own {w wx w2 : World} {g : Nat} {row : Option Nat} (h : w.grownBy wx (some g)) (h2 : wx.grownBy w2 row) (hr : ∀ q, row = some q → w.heap.size ≤ q) : w.grownBy w2 (some g) :=
  ⟨h2.os.trans h.os, h2.tape.trans h.tape, h2.output.trans h.output, Nat.le_trans h.size h2.size, fun k hk hne => (h2.block k (Nat.lt_of_lt_of_le hk h.size) (fun e => by have := hr k e.symm; omega)).trans (h.block k hk hne)⟩
theorem grown_below {w wx w2 : World} {g : Nat} (h : w.grownBy wx (some g)) (h2 : Below wx.heap.size wx w2) : w.grownBy w2 (some g) :=
  ⟨h2.os.trans h.os, h2.tape.trans h.tape, h2.output.trans h.output, Nat.le_trans h.size h2.size, fun k hk hne => (h2.block k (Nat.lt_of_lt_of_le hk h.size)).trans (h.block k hk hne)⟩

theorem grownBy_drewN {w w' : World} {r : Option Nat} (h : w.grownBy w' r) (q : Nat) : w.grownBy (w'.drewN q) r := ⟨h.os, h.tape, h.output, h.size, h.block⟩
theorem grownBy_weak {w w' : World} {r : Option Nat} (h : w.grownBy w' none) : w.grownBy w' r := ⟨h.os, h.tape, h.output, h.size, fun k hk _ => h.block k hk (by simp)⟩

theorem grownBy_trans' {a b c : World} {r : Option Nat} (h : a.grownBy b r) (h' : b.grownBy c r) : a.grownBy c r := grownBy_trans h h'

theorem two_cells (w : World) (a b : Value) (t : TypeId) (B : Nat) (hB : B = w.heap.size) : ∀ j u, [a, b][j]? = some u → (w.alloc (.cells #[a, b] t)).cell? ((⟨B, 0, none⟩ : Addr).add j) = some u := by
  intro j u hj
  subst hB
  match j, hj with
  | 0, hj => simp at hj; subst hj; exact cell_new1 w #[a, b] t 0
  | 1, hj => simp at hj; subst hj; exact cell_new1 w #[a, b] t 1
  | j + 2, hj => simp at hj
theorem two_one (a b : Int) : ∀ u ∈ [Value.int .i64 a, Value.int .i64 b], u.oneCell' = true := by
  intro u hu; simp at hu; rcases hu with rfl | rfl <;> rfl

theorem own_keep {w w' : World} {base g k : Nat} {e : TypeId} {v : Value} {xs : List Value} (h : w.ownsRow base e 1 v k xs) (hg : w.grownBy w' (some g)) (hb : g < base) : w'.ownsRow base e 1 v k xs := by
  refine h.kept hg ?_
  cases hv : v.ownBlock with
  | none => exact .inl rfl
  | some q => exact .inr (by intro e; have := (h.lt q hv).1; injection e with e; omega)
theorem gives_val {w w' : World} {xs : List Int} {e : Ending} (h : Gives w xs e w') : ∃ v, e = .returned v := by
  obtain ⟨A, c, he, _⟩ := h
  exact ⟨_, he⟩
theorem own_short {w : World} {base n k c : Nat} {e : TypeId} {A : Option Addr} {xs : List Value} (h : w.ownsRow base e 1 (.slice A n c) n xs) (hk : k ≤ n) : w.ownsRow base e 1 (.slice A k c) k (xs.take k) := by
  obtain ⟨h1, h2⟩ := h
  refine ⟨by rw [List.length_take]; omega, ?_⟩
  rcases h2 with ⟨hv, rfl⟩ | ⟨g, cap, cur, hv, hb, hh, hn, hc, hs, ht⟩
  · have : k = 0 := by omega
    subst this
    exact .inl ⟨hv, rfl⟩
  · refine .inr ⟨g, cap, cur, ?_, hb, hh, by omega, hc, hs, ?_⟩
    · injection hv with a1 a2 a3
      rw [a1, a3]
    · rw [← ht, List.take_take, Nat.mul_one, Nat.mul_one, Nat.min_eq_left hk]


/-- What a draw from a code leaves. -/
def DrawnFrom (w : World) (e : Ending) (w' : World) : Prop :=
  ∃ (L : List Int) (A' : Option Addr) (c' : Nat), e = .returned (.slice A' L.length c') ∧ L.length ≤ 64 ∧ (∀ z ∈ L, -18 ≤ z ∧ z ≤ 18) ∧ w'.ownsRow w.heap.size 2 1 (.slice A' L.length c') L.length (L.map (Value.int .i64)) ∧ Below w.heap.size w w'
end Go.Proofs.Ytoniekjchabjlaa
