/- A sequent is valid: ValidSeq of the program and of the model. The laws' helpers at sequents, and the marks at rows of slices. Two sequents compared: SameSeq of the program and of the model. A function mapped over a sequent: mappedSeq with slices.Clone (copyOfSeq) and with DualOf; DualSeq of the program. DualSeq of the model. The model's copies of rows and sequents. A sequent that came in, opened. The laws' helpers at lists and rows, in one form: copies, comparison, marks (for the exact laws' walks that genex.py writes). Links and nets: what they read as, in memory of their own; plain facts. Marks of a row, with the blocks that they reach. FragmentOf: of the program and of the model. -/
import Derived.Test.YtfdpkhiiboghiaaGreatDoorJRowH
import Derived.Test.YtfdpkhiiboghiaaGreatDoorJQDual
import Derived.Test.YtfdpkhiiboghiaaGreatDoorJQValid
import Derived.Deep.RegionLaw
import Derived.Deep.AppendLies
import Derived.Test.YtfdpkhiiboghiaaGreatDoorJQMath
import Derived.Deep.Matrix
import Derived.Deep.RegionWith
import Derived.Deep.DeepCutAuto
namespace Go.Proofs.YtfdpkhiiboghiaaGreatDoor
set_option linter.unusedSimpArgs false
set_option linter.unusedVariables false
section
open Go.ChangeAt Go.ChangeShapes Go.RowKit Go.WideShapes

theorem undrew {w w' : World} (h : Below w.drew.heap.size w.drew w') : Below w.heap.size w w' := ⟨h.os, h.tape, h.output, h.size, h.block⟩
theorem heap_two (w : World) (a b c : Obj) : (((w.alloc a).alloc b).alloc c).heap[w.heap.size + 1]? = some b := by
  have h : (w.alloc a).heap.size = w.heap.size + 1 := by simp
  rw [Below.heap_alloc _ _ _ (by simp), ← h]
  exact heap_alloc_new _ _
/-- The marks that a row of slices bears. -/
def mrkQ (k : Int) : List (List Int) → List (List Int)
  | [] => []
  | q :: qs => markL k q.length :: mrkQ (k + q.length) qs
theorem mrkQ_len : ∀ (k : Int) (qs : List (List Int)), (mrkQ k qs).length = qs.length
  | _, [] => rfl
  | k, q :: qs => by simp [mrkQ, mrkQ_len]
theorem mrkQ_app : ∀ (k : Int) (xs ys : List (List Int)), mrkQ k (xs ++ ys) = mrkQ k xs ++ mrkQ (k + total xs) ys
  | k, [], ys => by simp [mrkQ, total]
  | k, x :: xs, ys => by
    have e : k + (x.length : Int) + (total xs : Nat) = k + (total (x :: xs) : Nat) := by simp [total]; omega
    rw [List.cons_append, mrkQ, mrkQ, mrkQ_app, e]; rfl
theorem mrkQ_at (k : Int) {qs : List (List Int)} {j : Nat} (h : j < qs.length) : (mrkQ k qs).getD j [] = markL (k + total (qs.take j)) (qs.getD j []).length := by
  have e : qs = qs.take j ++ (qs.getD j [] :: qs.drop (j + 1)) := by
    have e3 : qs.getD j [] = qs[j] := by simp [List.getD, h]
    rw [e3, List.getElem_cons_drop]
    exact (List.take_append_drop _ _).symm
  have hl : (mrkQ k (qs.take j)).length = j := by rw [mrkQ_len, List.length_take]; omega
  conv => lhs; rw [e, mrkQ_app]
  rw [List.getD_eq_getElem?_getD, List.getElem?_append_right (by omega), hl, Nat.sub_self]
  rfl
/-- How far the marking of a row has come. -/
def mrq (qs : List (List Int)) (k : Int) (j : Nat) : List (List Int) := mrkQ k (qs.take j) ++ qs.drop j
theorem mrq_zero (qs : List (List Int)) (k : Int) : mrq qs k 0 = qs := by simp [mrq, mrkQ]
theorem mrq_all (qs : List (List Int)) (k : Int) : mrq qs k qs.length = mrkQ k qs := by simp [mrq]
theorem mrq_len (qs : List (List Int)) (k : Int) {j : Nat} (h : j ≤ qs.length) : (mrq qs k j).length = qs.length := by
  unfold mrq; rw [List.length_append, mrkQ_len, List.length_take, List.length_drop]; omega
theorem mrq_get (qs : List (List Int)) (k : Int) {j : Nat} (h : j < qs.length) : (mrq qs k j).getD j [] = qs.getD j [] := by
  have hl : (mrkQ k (qs.take j)).length = j := by rw [mrkQ_len, List.length_take]; omega
  unfold mrq
  rw [List.getD_eq_getElem?_getD, List.getElem?_append_right (by omega), hl, Nat.sub_self, List.getElem?_drop]
  simp [List.getD]
theorem mrq_step (qs : List (List Int)) (k : Int) {j : Nat} (h : j < qs.length) : (mrq qs k j).set j (markL (k + total (qs.take j)) (qs.getD j []).length) = mrq qs k (j + 1) := by
  have hl : (mrkQ k (qs.take j)).length = j := by rw [mrkQ_len, List.length_take]; omega
  unfold mrq
  rw [List.set_append_right _ _ (by omega), hl, Nat.sub_self, List.drop_eq_getElem_cons h, List.set_cons_zero, List.take_succ_eq_append_getElem h, mrkQ_app, List.append_assoc]
  have e3 : qs.getD j [] = qs[j] := by simp [List.getD, h]
  rw [e3]
  rfl
end
section
open Go.ChangeAt Go.ChangeShapes Go.RowKit Go.WideShapes

theorem two_heap (w : World) (a b : Obj) : ((w.alloc a).alloc b).heap[w.heap.size]? = some a ∧ ((w.alloc a).alloc b).heap[w.heap.size + 1]? = some b := by
  have h : (w.alloc a).heap.size = w.heap.size + 1 := by simp
  refine ⟨?_, ?_⟩
  · rw [Below.heap_alloc _ _ _ (by simp)]; exact heap_alloc_new _ _
  · rw [← h]; exact heap_alloc_new _ _
end
section
open Go.ChangeShapes Go.WideShapes Go.ChangeAt Go.RowKit

theorem spot_of {w : World} {b off : Nat} {s : Option Nat} {v : Value} (h : w.cell? ((⟨b, off, s⟩ : Addr).add 0) = some v) : s = none := by
  simpa [Addr.add] using World.cell?_spot h

/-- A slice of slices of 64-bit integers that came in reads as a list of lists. -/
theorem open_rows {H : Type} {enc : TypeId × Value → H} {W : World} {fuel : Nat} {v : Value} {x : DataW H × List MemPlace}
    (h : DataW.trod enc Tryz.prog W 0 (fun _ => true) true fuel 22 [v] = some x) :
    ∃ a n c qs, v = .slice a n c ∧ RdQ W W.heap.size a n qs ∧ n ≤ c ∧ n ≤ maxLen ∧ (∀ q ∈ qs, q.length ≤ maxLen) ∧ ∀ q ∈ qs, ∀ z ∈ q, (Lit.int .i64 z).wf = true := by
  rcases Go.Deep.open_int_rows Tryz.underlying22 Tryz.underlying24 Tryz.underlying2 (by kernel_rfl) (by kernel_rfl) h with ⟨hcs, _⟩ | ⟨a, len, cap, A, L, C, Z, hcs, _, hl, hm, _, hr⟩
  · obtain rfl : v = .slice none 0 0 := by simpa using hcs
    exact ⟨none, 0, 0, [], rfl, RdQ.nil _ _ _, Nat.le_refl _, Nat.zero_le _, by simp, by simp⟩
  · obtain rfl : v = .slice (some a) len cap := by simpa using hcs
    have hlen : ∀ j, j < len → ((Z j).take (L j)).length = L j := fun j hj => by
      obtain ⟨_, h1, _, h3, _⟩ := hr j (by omega)
      rw [List.length_take]; omega
    have hget : ∀ j, j < len → ((List.range len).map fun r => (Z r).take (L r)).getD j [] = (Z j).take (L j) := fun j hj => by simp [List.getD, hj]
    refine ⟨some a, len, cap, (List.range len).map fun r => (Z r).take (L r), rfl, ⟨by simp, fun hn => ?_⟩, hl, by omega, ?_, ?_⟩
    · obtain ⟨b, off, spot⟩ := a
      have hspot : spot = none := spot_of (hr 0 (by omega)).1
      subst hspot
      refine ⟨b, off, rfl, by have := World.block_lt_of_cell? W _ (hr 0 (by omega)).1; simpa [Addr.add] using this, fun j hj => ?_⟩
      obtain ⟨h0, h1, h2, h3, h4, h5, h6⟩ := hr j (by omega)
      rw [hget j hj, hlen j hj]
      refine ⟨A j, C j, ?_, h1, hlen j hj, fun hpos => ?_⟩
      · by_cases e : j = 0
        · subst e; simpa [Addr.add] using h0
        · simpa [Addr.add, e] using h0
      · cases hA : A j with
        | none => have := h5 hA; omega
        | some a' =>
          obtain ⟨b', off', spot'⟩ := a'
          obtain ⟨_, hc⟩ := h6 _ hA
          have hspot : spot' = none := spot_of (hc 0 (by omega))
          subst hspot
          refine ⟨b', off', rfl, by have := World.block_lt_of_cell? W _ (hc 0 (by omega)); simpa [Addr.add] using this, fun c hcl => ?_⟩
          have h7 := hc c (by omega)
          have e : ((Z j).take (L j)).getD c 0 = (Z j).getD c 0 := by simp [List.getD, hcl]
          rw [e]
          by_cases e0 : c = 0
          · subst e0; simpa [Addr.add] using h7
          · simpa [Addr.add, e0] using h7
    · intro q hq
      obtain ⟨j, hj, rfl⟩ := List.mem_map.1 hq
      have hj' := List.mem_range.1 hj
      obtain ⟨_, h1, h2, _⟩ := hr j (by omega)
      rw [hlen j hj']; omega
    · intro q hq z hz
      obtain ⟨j, hj, rfl⟩ := List.mem_map.1 hq
      have hj' := List.mem_range.1 hj
      exact (hr j (by omega)).2.2.2.2.1 z (List.mem_of_mem_take hz)

theorem mem_total {qs : List (List Int)} {q : List Int} (h : q ∈ qs) : q.length ≤ total qs := by
  induction qs with
  | nil => cases h
  | cons x xs ih =>
    have e : total (x :: xs) = x.length + total xs := by simp [total]
    rcases List.mem_cons.1 h with rfl | h
    · omega
    · have := ih h; omega
theorem kept_cell {lo hi : Nat} {w w' : World} (h : Kept lo hi w w') {p : Addr} (hp : p.block < w.heap.size) (ho : p.block < lo ∨ hi ≤ p.block) : w'.cell? p = w.cell? p := World.cell?_of_block (h.block p.block hp ho)
end
section
open Go.ChangeAt Go.ChangeShapes Go.RowKit Go.WideShapes

/-- A list of integers in memory of its own, its block in [lo, hi). -/
structure OwnI (w : World) (lo hi : Nat) (v : Value) (n : Nat) (xs : List Int) : Prop where
  outer : w.ownsRow lo 2 1 v n (xs.map (Value.int .i64))
  top : ∀ k, v.ownBlock = some k → k < hi
theorem OwnI.of_own {w : World} {lo n : Nat} {v : Value} {xs : List Int} (h : w.ownsRow lo 2 1 v n (xs.map (Value.int .i64))) : OwnI w lo w.heap.size v n xs := ⟨h, fun k hk => (h.lt k hk).2⟩
theorem OwnI.below {w w' : World} {lo hi n : Nat} {v : Value} {xs : List Int} (h : OwnI w lo hi v n xs) (hb : Below w.heap.size w w') : OwnI w' lo hi v n xs := ⟨own_below h.outer hb (Nat.le_refl _), h.top⟩
theorem OwnI.kept {w w' : World} {lo hi lo' hi' n : Nat} {v : Value} {xs : List Int} (h : OwnI w lo hi v n xs) (hk : Kept lo' hi' w w') (hd : hi ≤ lo' ∨ hi' ≤ lo) : OwnI w' lo hi v n xs :=
  ⟨own_same h.outer fun k e => hk.block k (h.outer.lt k e).2 (by have h1 := (h.outer.lt k e).1; have h2 := h.top k e; omega), h.top⟩
theorem OwnI.rd {w : World} {lo hi n c : Nat} {A : Option Addr} {xs : List Int} (h : OwnI w lo hi (.slice A n c) n xs) : RdI w w.heap.size A n xs := RdI.of_own h.outer
theorem OwnI.len {w : World} {lo hi n c : Nat} {A : Option Addr} {xs : List Int} (h : OwnI w lo hi (.slice A n c) n xs) : xs.length = n := by have := h.outer.1; simpa using this
theorem eqI_x (A B : Option Addr) (n c d : Nat) (xs : List Int) (w : World) (h : RdI w w.heap.size A n xs) (h' : RdI w w.heap.size B n xs) (hn : n ≤ 1048576) :
    Calls Tryz.prog 19 #[.slice A n c, .slice B n d] w fun e w' => e = .returned (.bool true) ∧ Below w.heap.size w w' :=
  (eqInts_any A B n n c d xs xs w h h' hn hn).mono fun _ _ ⟨he, hb⟩ => ⟨by rw [he, decide_eq_true rfl], hb⟩
theorem markI_x (A : Option Addr) (n c : Nat) (xs : List Int) (k : Int) (w : World) (lo hi : Nat) (h : OwnI w lo hi (.slice A n c) n xs) (hn : n ≤ 1048576) (hk0 : 0 ≤ k) (hk1 : k ≤ 1073741824) :
    Calls Tryz.prog 21 #[.slice A n c, .int .i64 k] w fun e w' => e = .returned (.int .i64 (k + n)) ∧ OwnI w' lo hi (.slice A n c) n (markL k n) ∧ Kept lo hi w w' :=
  (mark_any A n c xs k w lo h.outer hn hk0 hk1).mono fun _ _ ⟨he, ho, hg⟩ => ⟨he, ⟨ho, h.top⟩, Kept.of_grown hg fun b hb => ⟨(h.outer.lt b hb).1, h.top b hb⟩⟩
theorem heldI_x (A : Option Addr) (n c : Nat) (k : Int) (w : World) (h : RdI w w.heap.size A n (markL k n)) (hn : n ≤ 1048576) (hk0 : 0 ≤ k) (hk1 : k ≤ 1073741824) :
    Calls Tryz.prog 25 #[.slice A n c, .int .i64 k] w fun e w' => e = .returned (.int .i64 (k + n)) ∧ Below w.heap.size w w' :=
  (held_any A n c k w h hn hk0 hk1).mono fun _ _ ⟨he, hw⟩ => ⟨he, hw ▸ Below.refl _ _⟩
theorem eqQ_x (A B : Option Addr) (n c d : Nat) (qs : List (List Int)) (w : World) (h : RdQ w w.heap.size A n qs) (h' : RdQ w w.heap.size B n qs) (hn : n ≤ 1048576) (hq : ∀ q ∈ qs, q.length ≤ 1048576) :
    Calls Tryz.prog 51 #[.slice A n c, .slice B n d] w fun e w' => e = .returned (.bool true) ∧ Below w.heap.size w w' :=
  (eqSS_any A B n n c d qs qs w _ _ h h' hn hn hq hq).mono fun _ _ ⟨he, hd⟩ => ⟨by rw [he, decide_eq_true rfl], drewN_below hd _⟩
end
section
open Go.ChangeAt Go.ChangeShapes Go.RowKit Go.WideShapes

/-- A link, as mathematics has it. -/
structure Lk where
  k : Int
  a : Int
  b : Int
  c : Int
def Lk.nil : Lk := ⟨0, 0, 0, 0⟩
/-- The cells of a row of links. -/
def flL : List Lk → List Int
  | [] => []
  | l :: ls => l.k :: l.a :: l.b :: l.c :: flL ls
theorem flL_len : ∀ ls : List Lk, (flL ls).length = ls.length * 4
  | [] => rfl
  | l :: ls => by simp only [flL, List.length_cons, flL_len ls]; omega
theorem flL_at : ∀ (ls : List Lk) (i : Nat), i < ls.length → (flL ls).getD (i * 4) 0 = (ls.getD i Lk.nil).k ∧ (flL ls).getD (i * 4 + 1) 0 = (ls.getD i Lk.nil).a ∧ (flL ls).getD (i * 4 + 2) 0 = (ls.getD i Lk.nil).b ∧ (flL ls).getD (i * 4 + 3) 0 = (ls.getD i Lk.nil).c
  | [], i, h => absurd h (by simp)
  | l :: ls, 0, _ => ⟨rfl, rfl, rfl, rfl⟩
  | l :: ls, i + 1, h => by
    have ih := flL_at ls i (by simpa using h)
    have e : ∀ t, (flL (l :: ls)).getD ((i + 1) * 4 + t) 0 = (flL ls).getD (i * 4 + t) 0 := fun t => by
      have : (i + 1) * 4 + t = i * 4 + t + 1 + 1 + 1 + 1 := by omega
      rw [this]; rfl
    have e0 := e 0
    rw [Nat.add_zero, Nat.add_zero] at e0
    rw [e0, e 1, e 2, e 3]
    exact ih
/-- The slice value '.slice A n c' reads as the links ls, below block B. -/
def RdL (w : World) (B : Nat) (A : Option Addr) (n : Nat) (ls : List Lk) : Prop := ls.length = n ∧ RdI w B A (n * 4) (flL ls)
section
variable {w w' : World} {B B' n : Nat} {A : Option Addr} {ls : List Lk}
theorem RdL.len (h : RdL w B A n ls) : ls.length = n := h.1
theorem RdL.keep (h : RdL w B A n ls) (hk : ∀ p : Addr, p.block < B → w'.cell? p = w.cell? p) : RdL w' B A n ls := ⟨h.1, h.2.keep hk⟩
theorem RdL.below (h : RdL w B A n ls) (hb : Below B w w') : RdL w' B A n ls := ⟨h.1, h.2.below hb⟩
theorem RdL.more (h : RdL w B A n ls) (hB : B ≤ B') : RdL w B' A n ls := ⟨h.1, h.2.more hB⟩
theorem RdL.nil (w : World) (B : Nat) (A : Option Addr) : RdL w B A 0 [] := ⟨rfl, RdI.nil w B A⟩
/-- The cells of each link. -/
theorem RdL.at (h : RdL w B A n ls) (hn : 0 < n) : ∃ b off, A = some ⟨b, off, none⟩ ∧ b < B ∧ ∀ i, i < n → w.cell? ⟨b, off + i * 4, none⟩ = some (.int .i64 (ls.getD i Lk.nil).k) ∧ w.cell? ⟨b, off + i * 4 + 1, none⟩ = some (.int .i64 (ls.getD i Lk.nil).a) ∧ w.cell? ⟨b, off + i * 4 + 2, none⟩ = some (.int .i64 (ls.getD i Lk.nil).b) ∧ w.cell? ⟨b, off + i * 4 + 3, none⟩ = some (.int .i64 (ls.getD i Lk.nil).c) := by
  obtain ⟨b, off, e, hb, hc⟩ := h.2.2 (by omega)
  refine ⟨b, off, e, hb, fun i hi => ?_⟩
  obtain ⟨f0, f1, f2, f3⟩ := flL_at ls i (by rw [h.1]; exact hi)
  refine ⟨?_, ?_, ?_, ?_⟩
  · rw [hc (i * 4) (by omega), f0]
  · rw [Nat.add_assoc, hc (i * 4 + 1) (by omega), f1]
  · rw [Nat.add_assoc, hc (i * 4 + 2) (by omega), f2]
  · rw [Nat.add_assoc, hc (i * 4 + 3) (by omega), f3]
/-- A row of links in memory of its own reads. -/
theorem RdL.of_own {base : Nat} {c : Nat} (h : w.ownsRow base 103 4 (.slice A n c) n ((flL ls).map (Value.int .i64))) : RdL w w.heap.size A n ls := by
  have hl : ls.length = n := by have := h.1; rw [List.length_map, flL_len] at this; omega
  refine ⟨hl, by rw [flL_len, hl], fun hn => ?_⟩
  obtain ⟨g, cap, hv, _, hlt⟩ := h.form (by omega)
  have hA : A = some ⟨g, 0, none⟩ := by injection hv
  subst hA
  refine ⟨g, 0, rfl, hlt, fun j hj => ?_⟩
  have := h.cellAt (g := g) j hj
  rw [Nat.zero_add, this]
  simp [List.getD, flL_len, hl, hj]
end
/-- A net, as mathematics has it. -/
structure Nt where
  w : List (List Int)
  l : List Lk
  c : List Int
def Nt.nil : Nt := ⟨[], [], []⟩
/-- Where a net lies: the wires, the links, the conclusions. -/
structure NH where
  A : Option Addr
  c : Nat
  hs : Nat → Option Addr × Nat
  L : Option Addr
  d : Nat
  C : Option Addr
  e : Nat
def NH.nil : NH := ⟨none, 0, fun _ => (none, 0), none, 0, none, 0⟩
def RdN (w : World) (B : Nat) (h : NH) (N : Nt) : Prop := RdQ w B h.A N.w.length N.w ∧ RdL w B h.L N.l.length N.l ∧ RdI w B h.C N.c.length N.c
theorem RdN.keep {w w' : World} {B : Nat} {h : NH} {N : Nt} (r : RdN w B h N) (hk : ∀ p : Addr, p.block < B → w'.cell? p = w.cell? p) : RdN w' B h N := ⟨r.1.keep hk, r.2.1.keep hk, r.2.2.keep hk⟩
theorem RdN.below {w w' : World} {B : Nat} {h : NH} {N : Nt} (r : RdN w B h N) (hb : Below B w w') : RdN w' B h N := ⟨r.1.below hb, r.2.1.below hb, r.2.2.below hb⟩
theorem RdN.more {w : World} {B B' : Nat} {h : NH} {N : Nt} (r : RdN w B h N) (hB : B ≤ B') : RdN w B' h N := ⟨r.1.more hB, r.2.1.more hB, r.2.2.more hB⟩
theorem RdN.nil (w : World) (B : Nat) : RdN w B NH.nil Nt.nil := ⟨RdQ.nil _ _ _, RdL.nil _ _ _, RdI.nil _ _ _⟩
/-- A net in memory of its own: blocks in [lo, hi), its parts apart. -/
structure OwnN (w : World) (lo hi : Nat) (h : NH) (N : Nt) : Prop where
  q : OwnQ w lo hi (.slice h.A N.w.length h.c) h.hs N.w
  l : w.ownsRow lo 103 4 (.slice h.L N.l.length h.d) N.l.length ((flL N.l).map (Value.int .i64))
  c : w.ownsRow lo 2 1 (.slice h.C N.c.length h.e) N.c.length (N.c.map (Value.int .i64))
  lt : ∀ b, (Value.slice h.L N.l.length h.d).ownBlock = some b → b < hi
  ct : ∀ b, (Value.slice h.C N.c.length h.e).ownBlock = some b → b < hi
  lq : ∀ b, (Value.slice h.L N.l.length h.d).ownBlock = some b → (Value.slice h.A N.w.length h.c).ownBlock ≠ some b ∧ ∀ i, i < N.w.length → (hv h.hs N.w i).ownBlock ≠ some b
  cq : ∀ b, (Value.slice h.C N.c.length h.e).ownBlock = some b → (Value.slice h.A N.w.length h.c).ownBlock ≠ some b ∧ ∀ i, i < N.w.length → (hv h.hs N.w i).ownBlock ≠ some b
  lc : ∀ b, (Value.slice h.L N.l.length h.d).ownBlock = some b → (Value.slice h.C N.c.length h.e).ownBlock ≠ some b
section
variable {w w' : World} {lo hi lo' hi' : Nat} {h : NH} {N : Nt}
theorem OwnN.same (o : OwnN w lo hi h N) (hk : ∀ k, lo ≤ k → k < hi → k < w.heap.size → w'.heap[k]? = w.heap[k]?) : OwnN w' lo hi h N where
  q := o.q.same hk
  l := own_same o.l fun k e => hk k (o.l.lt k e).1 (o.lt k e) (o.l.lt k e).2
  c := own_same o.c fun k e => hk k (o.c.lt k e).1 (o.ct k e) (o.c.lt k e).2
  lt := o.lt
  ct := o.ct
  lq := o.lq
  cq := o.cq
  lc := o.lc
theorem OwnN.kept (o : OwnN w lo hi h N) (hk : Kept lo' hi' w w') (hd : hi ≤ lo' ∨ hi' ≤ lo) : OwnN w' lo hi h N := o.same fun k h1 h2 h3 => hk.block k h3 (by omega)
theorem OwnN.below (o : OwnN w lo hi h N) (hb : Below w.heap.size w w') : OwnN w' lo hi h N := o.same fun k _ _ h3 => hb.block k h3
theorem OwnN.more (o : OwnN w lo hi h N) (h1 : lo' ≤ lo) (h2 : hi ≤ hi') : OwnN w lo' hi' h N where
  q := o.q.more h1 h2
  l := o.l.mono h1
  c := o.c.mono h1
  lt b e := Nat.lt_of_lt_of_le (o.lt b e) h2
  ct b e := Nat.lt_of_lt_of_le (o.ct b e) h2
  lq := o.lq
  cq := o.cq
  lc := o.lc
theorem OwnN.rd (o : OwnN w lo hi h N) : RdN w w.heap.size h N := ⟨o.q.rd rfl, RdL.of_own o.l, RdI.of_own o.c⟩
theorem OwnN.nil (w : World) (lo hi : Nat) : OwnN w lo hi NH.nil Nt.nil where
  q := OwnQ.nil w lo hi _
  l := World.ownsRow_nil _ _ _ _
  c := World.ownsRow_nil _ _ _ _
  lt b e := by cases e
  ct b e := by cases e
  lq b e := by cases e
  cq b e := by cases e
  lc b e := by cases e
/-- Three parts made one after the other are a net. -/
theorem OwnN.mk' {m1 m2 : Nat} (hq : OwnQ w lo m1 (.slice h.A N.w.length h.c) h.hs N.w) (hl : w.ownsRow m1 103 4 (.slice h.L N.l.length h.d) N.l.length ((flL N.l).map (Value.int .i64)))
    (hlt : ∀ b, (Value.slice h.L N.l.length h.d).ownBlock = some b → b < m2) (hc : w.ownsRow m2 2 1 (.slice h.C N.c.length h.e) N.c.length (N.c.map (Value.int .i64))) (h1 : lo ≤ m1) (h2 : m1 ≤ m2) (h3 : w.heap.size ≤ hi) (h4 : m2 ≤ hi) : OwnN w lo hi h N where
  q := hq.more (Nat.le_refl _) (by omega)
  l := hl.mono h1
  c := hc.mono (by omega)
  lt b e := by have := (hl.lt b e).2; omega
  ct b e := by have := (hc.lt b e).2; omega
  lq b e := by
    have h5 := (hl.lt b e).1
    exact ⟨fun e2 => by have := hq.top0 b e2; omega, fun i hi e2 => by have := hq.top i b hi e2; omega⟩
  cq b e := by
    have h5 := (hc.lt b e).1
    exact ⟨fun e2 => by have := hq.top0 b e2; omega, fun i hi e2 => by have := hq.top i b hi e2; omega⟩
  lc b e e2 := by have h5 := (hc.lt b e2).1; have h6 := hlt b e; omega
end
/-- The marks of a net. -/
def mkL (k : Int) : Nat → List Lk
  | 0 => []
  | n + 1 => ⟨k, k + 1, k + 2, k + 3⟩ :: mkL (k + 4) n
theorem mkL_len : ∀ (k : Int) (n : Nat), (mkL k n).length = n
  | _, 0 => rfl
  | k, n + 1 => by simp [mkL, mkL_len]
def ntot (N : Nt) : Nat := total N.w + N.l.length * 4 + N.c.length
def mrkN (k : Int) (N : Nt) : Nt := ⟨mrkQ k N.w, mkL (k + total N.w) N.l.length, markL (k + total N.w + (N.l.length * 4 : Nat)) N.c.length⟩
end
section
open Go.ChangeAt Go.ChangeShapes Go.RowKit Go.WideShapes

/-- All blocks but those of S are kept. -/
structure KeptS (S : Nat → Prop) (w w' : World) : Prop where
  os : w'.os = w.os
  tape : w'.tape = w.tape
  output : w'.output = w.output
  size : w.heap.size ≤ w'.heap.size
  block : ∀ k, k < w.heap.size → ¬ S k → w'.heap[k]? = w.heap[k]?
theorem KeptS.refl (S : Nat → Prop) (w : World) : KeptS S w w := ⟨rfl, rfl, rfl, Nat.le_refl _, fun _ _ _ => rfl⟩
theorem KeptS.trans {S : Nat → Prop} {a b c : World} (h : KeptS S a b) (k : KeptS S b c) : KeptS S a c :=
  ⟨k.os.trans h.os, k.tape.trans h.tape, k.output.trans h.output, Nat.le_trans h.size k.size, fun i hi hr => (k.block i (Nat.lt_of_lt_of_le hi h.size) hr).trans (h.block i hi hr)⟩
theorem KeptS.of_grown {S : Nat → Prop} {w w' : World} {r : Option Nat} (h : w.grownBy w' r) (hr : ∀ k, r = some k → S k) : KeptS S w w' :=
  ⟨h.os, h.tape, h.output, h.size, fun k hk ho => h.block k hk (fun e => ho (hr k e.symm))⟩
theorem KeptS.of_below {S : Nat → Prop} {w w' : World} (h : Below w.heap.size w w') : KeptS S w w' := ⟨h.os, h.tape, h.output, h.size, fun k hk _ => h.block k hk⟩
theorem KeptS.kept {S : Nat → Prop} {w w' : World} {lo hi : Nat} (h : KeptS S w w') (hS : ∀ k, S k → lo ≤ k ∧ k < hi) : Kept lo hi w w' :=
  ⟨h.os, h.tape, h.output, h.size, fun k hk ho => h.block k hk (fun e => by have := hS k e; omega)⟩
theorem KeptS.mono {S T : Nat → Prop} {w w' : World} (h : KeptS S w w') (hS : ∀ k, S k → T k) : KeptS T w w' := ⟨h.os, h.tape, h.output, h.size, fun k hk ho => h.block k hk (fun e => ho (hS k e))⟩

set_option maxHeartbeats 1000000 in
theorem markSS_s (A : Option Addr) (n c : Nat) (hs : Nat → Option Addr × Nat) (qs : List (List Int)) (k : Int) (w : World) (lo hi : Nat) (h : OwnQ w lo hi (.slice A n c) hs qs) (hn : qs.length = n) (hn1 : n ≤ 1048576) (ht : total qs ≤ 1048576) (hk0 : 0 ≤ k) (hk1 : k ≤ 536870912) (S : Nat → Prop) (hS : ∀ i b, i < qs.length → (hv hs qs i).ownBlock = some b → S b) :
    Calls Tryz.prog 53 #[.slice A n c, .int .i64 k] w fun e w' => e = .returned (.int .i64 (k + total qs)) ∧ OwnQ w' lo hi (.slice A n c) hs (mrkQ k qs) ∧ KeptS S w w' := by
  subst hn
  go_enter Tryz.func53, Tryz.ntmps53
  go_wp2
  go_loopw [1, 5] (fun v i wr => ∃ j : Nat, j ≤ qs.length ∧ i = .int .i64 j ∧ v = .int .i64 (k + total (qs.take j)) ∧ OwnQ wr lo hi (.slice A qs.length c) hs (mrq qs k j) ∧ KeptS S w wr) (fun _ i _ => qs.length - (intOf i).toNat)
  case atStart => exact ⟨0, Nat.zero_le _, rfl, by simp [total], by rw [mrq_zero]; exact h, KeptS.refl _ _⟩
  case round =>
    obtain ⟨j, hj, rfl, rfl, hown, hkp⟩ := hrel
    clear h
    by_cases hlt : j < qs.length
    · have hml := mrq_len qs k hj
      have hstep := mrq_step qs k hlt
      have hget := mrq_get qs k hlt
      have htt := total_take hlt
      have htl := total_le hlt
      obtain ⟨g, cap, hv', hlo, hgl⟩ := hown.outer.form (by omega)
      have hA : A = some ⟨g, 0, none⟩ ∧ c = cap := by rw [hml] at hv'; injection hv' with a b c'; exact ⟨a, c'⟩
      obtain ⟨rfl, rfl⟩ := hA
      obtain ⟨_, hcell⟩ := hown.at hml hlt
      have hin := hown.inner j (by rw [hml]; exact hlt)
      rw [hget] at hin
      have hvv : hv hs (mrq qs k j) j = .slice (hs j).1 (qs.getD j []).length (hs j).2 := by unfold hv; rw [hget]
      have hvq : hv hs qs j = .slice (hs j).1 (qs.getD j []).length (hs j).2 := rfl
      have hput := fun (w' : World) (a : _) (b : _) => hown.put (w' := w') (q := markL (k + total (qs.take j)) (qs.getD j []).length) (by rw [hml]; exact hlt) (by rw [hget, markL_len]) a b
      rw [hstep] at hput
      have hgr : ∀ b, (hv hs (mrq qs k j) j).ownBlock = some b → S b := fun b e => hS j b hlt (by rw [hvq]; rw [hvv] at e; exact e)
      rw [hvv] at hin hcell hput hgr
      rw [markL_len] at hput
      have HM := Lib.hid (mark_any (hs j).1 (qs.getD j []).length (hs j).2 (qs.getD j []) (k + total (qs.take j)) wr lo hin (by omega) (by omega) (by omega))
      have HP := Lib.hid hput; have HG := Lib.hid hgr; have HK := Lib.hid hkp
      have HT : Hid (k + (total (qs.take (j + 1)) : Nat) = k + total (qs.take j) + (qs.getD j []).length) := Lib.hid (by rw [htt]; omega)
      clear hin hput hgr hkp hown hstep hget hvv htt hml hv' hvq
      generalize (qs.getD j []).length = M at *
      generalize total (qs.take j) = T at *
      go_wp2_with (fail)
      refine HM.out.mono ?_
      rintro e w2 ⟨rfl, own2, gr2⟩
      have HO2 := Lib.hid (HP.out w2 own2 gr2)
      have HK2 := Lib.hid (HK.out.trans (KeptS.of_grown gr2 HG.out))
      clear own2 gr2
      go_wp2
      go_roundw
      case rel => exact ⟨j + 1, by omega, by go_num, by rw [HT.out], HO2.out, HK2.out⟩
      case measure => simp [intOf]; omega
    · have hkl : j = qs.length := by omega
      subst hkl
      rw [mrq_all] at hown
      rw [total_all qs (Nat.le_refl _)]
      have HS := Lib.hid hown; have HK := Lib.hid hkp
      clear hown hkp
      go_wp2
      go_ret
      exact ⟨rfl, HS.out, HK.out⟩
end
section
open Go.RowKit

/-- What a symbol adds to the fragment. -/
def bitZ (n : Int) : Int := if n = 11 ∨ n = 12 then 1 else if n = 13 ∨ n = 14 then 2 else if n = 15 ∨ n = 16 then 4 else if n = 17 ∨ n = 18 then 8 else 0
theorem bitZ_other {n : Int} (h : ¬ (11 ≤ n ∧ n ≤ 18)) : bitZ n = 0 := by
  unfold bitZ
  rw [if_neg (by omega), if_neg (by omega), if_neg (by omega), if_neg (by omega)]
theorem bitZ_cases (n : Int) : bitZ n = 0 ∨ bitZ n = 1 ∨ bitZ n = 2 ∨ bitZ n = 4 ∨ bitZ n = 8 := by
  unfold bitZ
  split
  · simp
  · split
    · simp
    · split
      · simp
      · split <;> simp
/-- Does a symbol with this bit occur among the first k? -/
def occ (f : List Int) (v : Int) (k : Nat) : Bool := (f.take k).any fun n => bitZ n == v
theorem occ_zero (f : List Int) (v : Int) : occ f v 0 = false := by simp [occ]
theorem occ_step {f : List Int} {k : Nat} (v : Int) (h : k < f.length) : occ f v (k + 1) = (occ f v k || (bitZ (f.getD k 0) == v)) := by
  unfold occ
  rw [List.take_succ_eq_append_getElem h, List.any_append]
  simp [List.getD, h]
/-- A bit as a number. -/
def bz (b : Bool) : Int := if b then 1 else 0
def sumB (p q r s : Bool) : Int := bz p + 2 * bz q + 4 * bz r + 8 * bz s
/-- The fragment of the first k symbols. -/
def fragK (f : List Int) (k : Nat) : Int := sumB (occ f 1 k) (occ f 2 k) (occ f 4 k) (occ f 8 k)
theorem fragK_zero (f : List Int) : fragK f 0 = 0 := by simp [fragK, occ_zero]; rfl
/-- FragmentOf. -/
def fragV (f : List Int) : Int := if validB f then fragK f f.length else -1
theorem fragV_yes {f : List Int} (h : validB f = true) : fragV f = fragK f f.length := by simp [fragV, h]
theorem fragV_no {f : List Int} (h : validB f = false) : fragV f = -1 := by simp [fragV, h]

theorem or_bits (p q r s : Bool) (b : Int) (hb : b = 0 ∨ b = 1 ∨ b = 2 ∨ b = 4 ∨ b = 8) : bits BinOp.or IntKind.i64 (sumB p q r s) b = sumB (p || (b == 1)) (q || (b == 2)) (r || (b == 4)) (s || (b == 8)) := by
  rcases hb with rfl | rfl | rfl | rfl | rfl <;> cases p <;> cases q <;> cases r <;> cases s <;> decide
theorem frag_step {f : List Int} {k : Nat} (h : k < f.length) : bits BinOp.or IntKind.i64 (fragK f k) (bitZ (f.getD k 0)) = fragK f (k + 1) := by
  unfold fragK
  rw [or_bits _ _ _ _ _ (bitZ_cases _), occ_step 1 h, occ_step 2 h, occ_step 4 h, occ_step 8 h]

set_option maxHeartbeats 1000000 in
theorem fragmentBit_any (n : Int) (w : World) : Calls Tryz.prog 194 #[.int .i64 n] w fun e w' => e = .returned (.int .i64 (bitZ n)) ∧ w = w' := by
  by_cases h : 11 ≤ n ∧ n ≤ 18
  · have : n = 11 ∨ n = 12 ∨ n = 13 ∨ n = 14 ∨ n = 15 ∨ n = 16 ∨ n = 17 ∨ n = 18 := by omega
    clear h
    rcases this with rfl | rfl | rfl | rfl | rfl | rfl | rfl | rfl
    all_goals
      go_enter Tryz.func194, Tryz.ntmps194
      go_wp2
      go_ret
      exact ⟨rfl, rfl⟩
  · rw [bitZ_other h]
    have e1 : (n == 11) = false := by simp; omega
    have e2 : (n == 12) = false := by simp; omega
    have e3 : (n == 13) = false := by simp; omega
    have e4 : (n == 14) = false := by simp; omega
    have e5 : (n == 15) = false := by simp; omega
    have e6 : (n == 16) = false := by simp; omega
    have e7 : (n == 17) = false := by simp; omega
    have e8 : (n == 18) = false := by simp; omega
    clear h
    go_enter Tryz.func194, Tryz.ntmps194
    go_wp2
    go_ret
    exact ⟨rfl, rfl⟩

set_option maxHeartbeats 1000000 in
theorem fragmentOf_impl (A : Option Addr) (n c : Nat) (f : List Int) (w : World) (h : RdI w w.heap.size A n f) (ht : Arit w) (hnc : n ≤ c) :
    Calls Tryz.prog 179 #[.slice A n c] w fun e w' => e = .returned (.int .i64 (fragV f)) ∧ w = w' := by
  have hl := h.len
  subst hl
  cases hv : validB f with
  | false =>
    rw [fragV_no hv]
    go_enter Tryz.func179, Tryz.ntmps179
    go_wp2_with (go_at_call 193; refine (validForm_impl _ _ _ f _ h ht hnc).mono ?_; rintro e w' ⟨rfl, rfl⟩)
    go_ret
    exact ⟨rfl, rfl⟩
  | true =>
    rw [fragV_yes hv]
    have l1 := valid_len hv
    have hl24 : f.length ≤ 24 := l1.2.1
    clear l1
    go_enter Tryz.func179, Tryz.ntmps179
    go_wp2_with (go_at_call 193; refine (validForm_impl _ _ _ f _ h ht hnc).mono ?_; rintro e w' ⟨rfl, rfl⟩)
    clear hv ht
    go_loop [3, 11] (fun v3 v11 => ∃ k : Nat, k ≤ f.length ∧ v11 = .int .i64 k ∧ v3 = .int .i64 (fragK f k)) (fun _ v11 => f.length - (intOf v11).toNat)
    case atStart => exact ⟨0, Nat.zero_le _, rfl, by rw [fragK_zero]⟩
    case round =>
      obtain ⟨k, hk, rfl, rfl⟩ := hrel
      by_cases hlt : k < f.length
      · obtain ⟨b, off, rfl, hbb, hcells⟩ := h.2 (by omega)
        have hc := hcells k hlt
        have HS := Lib.hid (frag_step hlt)
        generalize f.getD k 0 = x at hc HS
        clear hcells
        go_wp2_with (go_at_call 194; refine (fragmentBit_any x _).mono ?_; rintro e w' ⟨rfl, rfl⟩)
        go_round
        case rel => exact ⟨k + 1, by omega, by go_num, by rw [← HS.out]⟩
        case measure => simp [intOf]; omega
      · have hkl : k = f.length := by omega
        subst hkl
        go_wp2
        go_ret
        exact ⟨rfl, rfl⟩

/-- The four cells of the model's marks. -/
def four (f : List Int) (k : Nat) : Array Value := #[.int .i64 (bz (occ f 1 k)), .int .i64 (bz (occ f 2 k)), .int .i64 (bz (occ f 4 k)), .int .i64 (bz (occ f 8 k))]
theorem four_same {f : List Int} {k : Nat} (h : k < f.length) (hb : bitZ (f.getD k 0) = 0) : four f k = four f (k + 1) := by
  unfold four
  rw [occ_step 1 h, occ_step 2 h, occ_step 4 h, occ_step 8 h, hb]
  simp
theorem four_set {f : List Int} {k j : Nat} (h : k < f.length) (hb : bitZ (f.getD k 0) = 1 ∧ j = 0 ∨ bitZ (f.getD k 0) = 2 ∧ j = 1 ∨ bitZ (f.getD k 0) = 4 ∧ j = 2 ∨ bitZ (f.getD k 0) = 8 ∧ j = 3) : (four f k).setIfInBounds j (.int .i64 1) = four f (k + 1) := by
  unfold four
  rw [occ_step 1 h, occ_step 2 h, occ_step 4 h, occ_step 8 h]
  rcases hb with ⟨hb, rfl⟩ | ⟨hb, rfl⟩ | ⟨hb, rfl⟩ | ⟨hb, rfl⟩ <;> rw [hb] <;> simp <;> rfl

set_option maxHeartbeats 4000000 in
theorem sFragmentOf_in (A : Option Addr) (c : Nat) (f : List Int) (w : World) (h : RdI w w.heap.size A f.length f) (hv : validB f = true) :
    Calls Tryz.prog 167 #[.slice A f.length c] w fun e w' => e = .returned (.int .i64 (fragK f f.length)) ∧ Below w.heap.size w w' := by
  have l1 := valid_len hv
  have hl24 : f.length ≤ 24 := l1.2.1
  have HA := Lib.hid (fun k (hk : k < f.length) => valid_at hv hk)
  have H0 : Hid ((w.alloc (.cells #[.int .i64 0, .int .i64 0, .int .i64 0, .int .i64 0] 2)).heap[w.heap.size]? = some (.cells (four f 0) 2 (0, 0))) := by
    have e : four f 0 = #[.int .i64 0, .int .i64 0, .int .i64 0, .int .i64 0] := by simp [four, occ_zero, bz]
    rw [e]; exact heap_alloc_new w _
  have HB0 : Hid (Below w.heap.size w (w.alloc (.cells #[.int .i64 0, .int .i64 0, .int .i64 0, .int .i64 0] 2))) := Lib.hid ((Below.refl _ _).alloc (Nat.le_refl _) _)
  clear l1
  go_enter Tryz.func167, Tryz.ntmps167
  go_wp2_with (go_at_call 189; refine (sValidForm_any _ _ _ f _ h).mono ?_; rintro e w' ⟨rfl, rfl⟩)
  clear hv
  go_loopw [4] (fun i wr => ∃ k : Nat, k ≤ f.length ∧ i = .int .i64 k ∧ wr.heap[w.heap.size]? = some (.cells (four f k) 2 (0, 0)) ∧ Below w.heap.size w wr) (fun i _ => f.length - (intOf i).toNat)
  case atStart => exact ⟨0, Nat.zero_le _, rfl, H0.out, HB0.out⟩
  case round =>
    obtain ⟨k, hk, rfl, hrow, hb⟩ := hrel
    clear H0 HB0
    by_cases hlt : k < f.length
    · obtain ⟨b, off, rfl, hbb, hcells⟩ := h.2 (by omega)
      have hc := (hb.cell (p := ⟨b, off + k, none⟩) hbb).trans (hcells k hlt)
      have hcase := HA.out k hlt
      have H4 := Lib.hid (fun (hb : bitZ (f.getD k 0) = 0) => four_same hlt hb)
      have H5 := Lib.hid (fun (j : Nat) (hb : bitZ (f.getD k 0) = 1 ∧ j = 0 ∨ bitZ (f.getD k 0) = 2 ∧ j = 1 ∨ bitZ (f.getD k 0) = 4 ∧ j = 2 ∨ bitZ (f.getD k 0) = 8 ∧ j = 3) => four_set hlt hb)
      have HC := Lib.hid (fun j => cell_of_row wr w.heap.size j _ _ (0, 0) hrow)
      have HFr := Lib.hid (fun j => frozen_of_row wr w.heap.size j _ _ hrow)
      have HSet := Lib.hid (fun j u => heap_setCell_same wr w.heap.size j _ _ u hrow)
      have HR := Lib.hid hrow
      have HB := Lib.hid hb
      clear hcells hrow hb
      generalize f.getD k 0 = x at hc hcase H4 H5
      rcases hcase with hleaf | ⟨_, hop⟩
      · have hx := leaf_iff.1 hleaf
        have hx1 : x ≤ 8 := by omega
        have HR2 : Hid (wr.heap[w.heap.size]? = some (.cells (four f (k + 1)) 2 (0, 0))) := by rw [← H4.out (bitZ_other (by omega))]; exact HR
        clear hx hleaf
        go_wp2
        go_roundw
        case rel => exact ⟨k + 1, by omega, by go_num, HR2.out, HB.out⟩
        case measure => simp [intOf]; omega
      · have hx := oper_iff.1 hop
        obtain ⟨j, hj4, hjx, hjb⟩ : ∃ j : Nat, j < 4 ∧ (x = 11 + 2 * (j : Int) ∨ x = 12 + 2 * (j : Int)) ∧ (bitZ x = 1 ∧ j = 0 ∨ bitZ x = 2 ∧ j = 1 ∨ bitZ x = 4 ∧ j = 2 ∨ bitZ x = 8 ∧ j = 3) := by
          have : x = 11 ∨ x = 12 ∨ x = 13 ∨ x = 14 ∨ x = 15 ∨ x = 16 ∨ x = 17 ∨ x = 18 := by omega
          rcases this with rfl | rfl | rfl | rfl | rfl | rfl | rfl | rfl
          · exact ⟨0, by decide, .inl rfl, .inl ⟨by decide, rfl⟩⟩
          · exact ⟨0, by decide, .inr rfl, .inl ⟨by decide, rfl⟩⟩
          · exact ⟨1, by decide, .inl rfl, .inr (.inl ⟨by decide, rfl⟩)⟩
          · exact ⟨1, by decide, .inr rfl, .inr (.inl ⟨by decide, rfl⟩)⟩
          · exact ⟨2, by decide, .inl rfl, .inr (.inr (.inl ⟨by decide, rfl⟩))⟩
          · exact ⟨2, by decide, .inr rfl, .inr (.inr (.inl ⟨by decide, rfl⟩))⟩
          · exact ⟨3, by decide, .inl rfl, .inr (.inr (.inr ⟨by decide, rfl⟩))⟩
          · exact ⟨3, by decide, .inr rfl, .inr (.inr (.inr ⟨by decide, rfl⟩))⟩
        have hcell := HC.out j
        obtain ⟨o, ho⟩ : ∃ o, (four f k)[j]? = some o := ⟨_, Array.getElem?_eq_getElem (by show j < 4; exact hj4)⟩
        rw [ho] at hcell
        have hfr := HFr.out j
        have HS := HSet.out j (.int .i64 1)
        rw [H5.out j hjb] at HS
        have HSS := Lib.hid HS
        have HBB := Lib.hid (HB.out.setCell (p := ⟨w.heap.size, j, none⟩) (Nat.le_refl _) (.int .i64 1))
        have hx11 : 11 ≤ x := by omega
        clear HS hjb ho hop hx
        have hmatch : j = 0 ∨ j = 1 ∨ j = 2 ∨ j = 3 := by omega
        rcases hmatch with rfl | rfl | rfl | rfl <;> rcases hjx with rfl | rfl
        all_goals
          go_wp2
          go_roundw
          case rel => exact ⟨k + 1, by omega, by go_num, HSS.out, HBB.out⟩
          case measure => simp [intOf]; omega
    · have hkl : k = f.length := by omega
      subst hkl
      have c0 : wr.cell? ⟨w.heap.size, 0, none⟩ = some (.int .i64 (bz (occ f 1 f.length))) := cell_of_row wr w.heap.size 0 _ _ (0, 0) hrow
      have c1 : wr.cell? ⟨w.heap.size, 1, none⟩ = some (.int .i64 (bz (occ f 2 f.length))) := cell_of_row wr w.heap.size 1 _ _ (0, 0) hrow
      have c2 : wr.cell? ⟨w.heap.size, 2, none⟩ = some (.int .i64 (bz (occ f 4 f.length))) := cell_of_row wr w.heap.size 2 _ _ (0, 0) hrow
      have c3 : wr.cell? ⟨w.heap.size, 3, none⟩ = some (.int .i64 (bz (occ f 8 f.length))) := cell_of_row wr w.heap.size 3 _ _ (0, 0) hrow
      have HV : Hid (fragK f f.length = bz (occ f 1 f.length) + 2 * bz (occ f 2 f.length) + 4 * bz (occ f 4 f.length) + 8 * bz (occ f 8 f.length)) := Lib.hid rfl
      have hbz : ∀ b : Bool, 0 ≤ bz b ∧ bz b ≤ 1 := fun b => by cases b <;> decide
      have b0 := hbz (occ f 1 f.length); have b1 := hbz (occ f 2 f.length); have b2 := hbz (occ f 4 f.length); have b3 := hbz (occ f 8 f.length)
      generalize bz (occ f 1 f.length) = p0 at *
      generalize bz (occ f 2 f.length) = p1 at *
      generalize bz (occ f 4 f.length) = p2 at *
      generalize bz (occ f 8 f.length) = p3 at *
      have HB := Lib.hid hb
      have e1 : IntKind.i64.wrap (2 * p1) = 2 * p1 := IntWalk.i64_in _ (by omega)
      have e2 : IntKind.i64.wrap (p0 + 2 * p1) = p0 + 2 * p1 := IntWalk.i64_in _ (by omega)
      have e3 : IntKind.i64.wrap (4 * p2) = 4 * p2 := IntWalk.i64_in _ (by omega)
      have e4 : IntKind.i64.wrap (p0 + 2 * p1 + 4 * p2) = p0 + 2 * p1 + 4 * p2 := IntWalk.i64_in _ (by omega)
      have e5 : IntKind.i64.wrap (8 * p3) = 8 * p3 := IntWalk.i64_in _ (by omega)
      have e6 : IntKind.i64.wrap (p0 + 2 * p1 + 4 * p2 + 8 * p3) = p0 + 2 * p1 + 4 * p2 + 8 * p3 := IntWalk.i64_in _ (by omega)
      clear hrow hb hbz HA
      go_wp2
      go_quiet (fail)
      go_wp2
      go_ret
      exact ⟨ret_i64 HV.out.symm, below_drewN HB.out _⟩

set_option maxHeartbeats 400000 in
theorem sFragmentOf_any (A : Option Addr) (n c : Nat) (f : List Int) (w : World) (h : RdI w w.heap.size A n f) :
    Calls Tryz.prog 167 #[.slice A n c] w fun e w' => e = .returned (.int .i64 (fragV f)) ∧ Below w.heap.size w w' := by
  have hl := h.len
  subst hl
  cases hv : validB f with
  | true => rw [fragV_yes hv]; exact sFragmentOf_in A c f w h hv
  | false =>
    rw [fragV_no hv]
    go_enter Tryz.func167, Tryz.ntmps167
    go_wp2_with (go_at_call 189; refine (sValidForm_any _ _ _ f _ h).mono ?_; rintro e w' ⟨rfl, rfl⟩)
    go_ret
    exact ⟨rfl, Below.refl _ _⟩
end
end Go.Proofs.YtfdpkhiiboghiaaGreatDoor
