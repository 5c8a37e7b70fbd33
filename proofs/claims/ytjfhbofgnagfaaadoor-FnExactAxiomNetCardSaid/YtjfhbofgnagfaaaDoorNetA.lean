/- Links and nets: what they read as, in memory of their own; plain facts. -/
import Derived.Test.YtjfhbofgnagfaaaDoorExa
namespace Go.Proofs.YtjfhbofgnagfaaaDoor
open Go.ChangeAt Go.ChangeShapes Go.RowKit Go.WideShapes

/-- A link, as mathematics has it. -/
structure Lk where
  k : Int
  a : Int
  b : Int
  c : Int
def Lk.nil : Lk := ⟨0, 0, 0, 0⟩
/-- The cells of a row of links. -/
def flL : List Lk → List Int
  | [] => []
  | l :: ls => l.k :: l.a :: l.b :: l.c :: flL ls
theorem flL_len : ∀ ls : List Lk, (flL ls).length = ls.length * 4
  | [] => rfl
  | l :: ls => by simp only [flL, List.length_cons, flL_len ls]; omega
theorem flL_app : ∀ xs ys : List Lk, flL (xs ++ ys) = flL xs ++ flL ys
  | [], _ => rfl
  | x :: xs, ys => by simp only [flL, List.cons_append, flL_app xs ys]
theorem flL_at : ∀ (ls : List Lk) (i : Nat), i < ls.length → (flL ls).getD (i * 4) 0 = (ls.getD i Lk.nil).k ∧ (flL ls).getD (i * 4 + 1) 0 = (ls.getD i Lk.nil).a ∧ (flL ls).getD (i * 4 + 2) 0 = (ls.getD i Lk.nil).b ∧ (flL ls).getD (i * 4 + 3) 0 = (ls.getD i Lk.nil).c
  | [], i, h => absurd h (by simp)
  | l :: ls, 0, _ => ⟨rfl, rfl, rfl, rfl⟩
  | l :: ls, i + 1, h => by
    have ih := flL_at ls i (by simpa using h)
    have e : ∀ t, (flL (l :: ls)).getD ((i + 1) * 4 + t) 0 = (flL ls).getD (i * 4 + t) 0 := fun t => by
      have : (i + 1) * 4 + t = i * 4 + t + 1 + 1 + 1 + 1 := by omega
      rw [this]; rfl
    have e0 := e 0
    rw [Nat.add_zero, Nat.add_zero] at e0
    rw [e0, e 1, e 2, e 3]
    exact ih
theorem flL_inj : ∀ {xs ys : List Lk}, flL xs = flL ys → xs = ys
  | [], [], _ => rfl
  | [], y :: ys, h => by simp [flL] at h
  | x :: xs, [], h => by simp [flL] at h
  | ⟨x1, x2, x3, x4⟩ :: xs, ⟨y1, y2, y3, y4⟩ :: ys, h => by
    simp only [flL, List.cons.injEq] at h
    obtain ⟨rfl, rfl, rfl, rfl, h⟩ := h
    rw [flL_inj h]
/-- The slice value '.slice A n c' reads as the links ls, below block B. -/
def RdL (w : World) (B : Nat) (A : Option Addr) (n : Nat) (ls : List Lk) : Prop := ls.length = n ∧ RdI w B A (n * 4) (flL ls)
section
variable {w w' : World} {B B' n : Nat} {A : Option Addr} {ls : List Lk}
theorem RdL.len (h : RdL w B A n ls) : ls.length = n := h.1
theorem RdL.keep (h : RdL w B A n ls) (hk : ∀ p : Addr, p.block < B → w'.cell? p = w.cell? p) : RdL w' B A n ls := ⟨h.1, h.2.keep hk⟩
theorem RdL.below (h : RdL w B A n ls) (hb : Below B w w') : RdL w' B A n ls := ⟨h.1, h.2.below hb⟩
theorem RdL.more (h : RdL w B A n ls) (hB : B ≤ B') : RdL w B' A n ls := ⟨h.1, h.2.more hB⟩
theorem RdL.nil (w : World) (B : Nat) (A : Option Addr) : RdL w B A 0 [] := ⟨rfl, RdI.nil w B A⟩
/-- The cells of each link. -/
theorem RdL.at (h : RdL w B A n ls) (hn : 0 < n) : ∃ b off, A = some ⟨b, off, none⟩ ∧ b < B ∧ ∀ i, i < n → w.cell? ⟨b, off + i * 4, none⟩ = some (.int .i64 (ls.getD i Lk.nil).k) ∧ w.cell? ⟨b, off + i * 4 + 1, none⟩ = some (.int .i64 (ls.getD i Lk.nil).a) ∧ w.cell? ⟨b, off + i * 4 + 2, none⟩ = some (.int .i64 (ls.getD i Lk.nil).b) ∧ w.cell? ⟨b, off + i * 4 + 3, none⟩ = some (.int .i64 (ls.getD i Lk.nil).c) := by
  obtain ⟨b, off, e, hb, hc⟩ := h.2.2 (by omega)
  refine ⟨b, off, e, hb, fun i hi => ?_⟩
  obtain ⟨f0, f1, f2, f3⟩ := flL_at ls i (by rw [h.1]; exact hi)
  refine ⟨?_, ?_, ?_, ?_⟩
  · rw [hc (i * 4) (by omega), f0]
  · rw [Nat.add_assoc, hc (i * 4 + 1) (by omega), f1]
  · rw [Nat.add_assoc, hc (i * 4 + 2) (by omega), f2]
  · rw [Nat.add_assoc, hc (i * 4 + 3) (by omega), f3]
/-- A row of links in memory of its own reads. -/
theorem RdL.of_own {base : Nat} {c : Nat} (h : w.ownsRow base 75 4 (.slice A n c) n ((flL ls).map (Value.int .i64))) : RdL w w.heap.size A n ls := by
  have hl : ls.length = n := by have := h.1; rw [List.length_map, flL_len] at this; omega
  refine ⟨hl, by rw [flL_len, hl], fun hn => ?_⟩
  obtain ⟨g, cap, hv, _, hlt⟩ := h.form (by omega)
  have hA : A = some ⟨g, 0, none⟩ := by injection hv
  subst hA
  refine ⟨g, 0, rfl, hlt, fun j hj => ?_⟩
  have := h.cellAt (g := g) j hj
  rw [Nat.zero_add, this]
  simp [List.getD, flL_len, hl, hj]
end
/-- A net, as mathematics has it. -/
structure Nt where
  w : List (List Int)
  l : List Lk
  c : List Int
def Nt.nil : Nt := ⟨[], [], []⟩
/-- Where a net lies: the wires, the links, the conclusions. -/
structure NH where
  A : Option Addr
  c : Nat
  hs : Nat → Option Addr × Nat
  L : Option Addr
  d : Nat
  C : Option Addr
  e : Nat
def NH.nil : NH := ⟨none, 0, fun _ => (none, 0), none, 0, none, 0⟩
def RdN (w : World) (B : Nat) (h : NH) (N : Nt) : Prop := RdQ w B h.A N.w.length N.w ∧ RdL w B h.L N.l.length N.l ∧ RdI w B h.C N.c.length N.c
theorem RdN.keep {w w' : World} {B : Nat} {h : NH} {N : Nt} (r : RdN w B h N) (hk : ∀ p : Addr, p.block < B → w'.cell? p = w.cell? p) : RdN w' B h N := ⟨r.1.keep hk, r.2.1.keep hk, r.2.2.keep hk⟩
theorem RdN.below {w w' : World} {B : Nat} {h : NH} {N : Nt} (r : RdN w B h N) (hb : Below B w w') : RdN w' B h N := ⟨r.1.below hb, r.2.1.below hb, r.2.2.below hb⟩
theorem RdN.more {w : World} {B B' : Nat} {h : NH} {N : Nt} (r : RdN w B h N) (hB : B ≤ B') : RdN w B' h N := ⟨r.1.more hB, r.2.1.more hB, r.2.2.more hB⟩
theorem RdN.nil (w : World) (B : Nat) : RdN w B NH.nil Nt.nil := ⟨RdQ.nil _ _ _, RdL.nil _ _ _, RdI.nil _ _ _⟩
/-- A net in memory of its own: blocks in [lo, hi), its parts apart. -/
structure OwnN (w : World) (lo hi : Nat) (h : NH) (N : Nt) : Prop where
  q : OwnQ w lo hi (.slice h.A N.w.length h.c) h.hs N.w
  l : w.ownsRow lo 75 4 (.slice h.L N.l.length h.d) N.l.length ((flL N.l).map (Value.int .i64))
  c : w.ownsRow lo 2 1 (.slice h.C N.c.length h.e) N.c.length (N.c.map (Value.int .i64))
  lt : ∀ b, (Value.slice h.L N.l.length h.d).ownBlock = some b → b < hi
  ct : ∀ b, (Value.slice h.C N.c.length h.e).ownBlock = some b → b < hi
  lq : ∀ b, (Value.slice h.L N.l.length h.d).ownBlock = some b → (Value.slice h.A N.w.length h.c).ownBlock ≠ some b ∧ ∀ i, i < N.w.length → (hv h.hs N.w i).ownBlock ≠ some b
  cq : ∀ b, (Value.slice h.C N.c.length h.e).ownBlock = some b → (Value.slice h.A N.w.length h.c).ownBlock ≠ some b ∧ ∀ i, i < N.w.length → (hv h.hs N.w i).ownBlock ≠ some b
  lc : ∀ b, (Value.slice h.L N.l.length h.d).ownBlock = some b → (Value.slice h.C N.c.length h.e).ownBlock ≠ some b
section
variable {w w' : World} {lo hi lo' hi' : Nat} {h : NH} {N : Nt}
theorem OwnN.same (o : OwnN w lo hi h N) (hk : ∀ k, lo ≤ k → k < hi → k < w.heap.size → w'.heap[k]? = w.heap[k]?) : OwnN w' lo hi h N where
  q := o.q.same hk
  l := own_same o.l fun k e => hk k (o.l.lt k e).1 (o.lt k e) (o.l.lt k e).2
  c := own_same o.c fun k e => hk k (o.c.lt k e).1 (o.ct k e) (o.c.lt k e).2
  lt := o.lt
  ct := o.ct
  lq := o.lq
  cq := o.cq
  lc := o.lc
theorem OwnN.kept (o : OwnN w lo hi h N) (hk : Kept lo' hi' w w') (hd : hi ≤ lo' ∨ hi' ≤ lo) : OwnN w' lo hi h N := o.same fun k h1 h2 h3 => hk.block k h3 (by omega)
theorem OwnN.below (o : OwnN w lo hi h N) (hb : Below w.heap.size w w') : OwnN w' lo hi h N := o.same fun k _ _ h3 => hb.block k h3
theorem OwnN.more (o : OwnN w lo hi h N) (h1 : lo' ≤ lo) (h2 : hi ≤ hi') : OwnN w lo' hi' h N where
  q := o.q.more h1 h2
  l := o.l.mono h1
  c := o.c.mono h1
  lt b e := Nat.lt_of_lt_of_le (o.lt b e) h2
  ct b e := Nat.lt_of_lt_of_le (o.ct b e) h2
  lq := o.lq
  cq := o.cq
  lc := o.lc
theorem OwnN.rd (o : OwnN w lo hi h N) : RdN w w.heap.size h N := ⟨o.q.rd rfl, RdL.of_own o.l, RdI.of_own o.c⟩
theorem OwnN.nil (w : World) (lo hi : Nat) : OwnN w lo hi NH.nil Nt.nil where
  q := OwnQ.nil w lo hi _
  l := World.ownsRow_nil _ _ _ _
  c := World.ownsRow_nil _ _ _ _
  lt b e := by cases e
  ct b e := by cases e
  lq b e := by cases e
  cq b e := by cases e
  lc b e := by cases e
/-- Three parts made one after the other are a net. -/
theorem OwnN.mk' {m1 m2 : Nat} (hq : OwnQ w lo m1 (.slice h.A N.w.length h.c) h.hs N.w) (hl : w.ownsRow m1 75 4 (.slice h.L N.l.length h.d) N.l.length ((flL N.l).map (Value.int .i64)))
    (hlt : ∀ b, (Value.slice h.L N.l.length h.d).ownBlock = some b → b < m2) (hc : w.ownsRow m2 2 1 (.slice h.C N.c.length h.e) N.c.length (N.c.map (Value.int .i64))) (h1 : lo ≤ m1) (h2 : m1 ≤ m2) (h3 : w.heap.size ≤ hi) (h4 : m2 ≤ hi) : OwnN w lo hi h N where
  q := hq.more (Nat.le_refl _) (by omega)
  l := hl.mono h1
  c := hc.mono (by omega)
  lt b e := by have := (hl.lt b e).2; omega
  ct b e := by have := (hc.lt b e).2; omega
  lq b e := by
    have h5 := (hl.lt b e).1
    exact ⟨fun e2 => by have := hq.top0 b e2; omega, fun i hi e2 => by have := hq.top i b hi e2; omega⟩
  cq b e := by
    have h5 := (hc.lt b e).1
    exact ⟨fun e2 => by have := hq.top0 b e2; omega, fun i hi e2 => by have := hq.top i b hi e2; omega⟩
  lc b e e2 := by have h5 := (hc.lt b e2).1; have h6 := hlt b e; omega
end
/-- What a function leaves that hands back a net and a bool. -/
def nv (h : NH) (N : Nt) : Value := .agg #[.slice h.A N.w.length h.c, .slice h.L N.l.length h.d, .slice h.C N.c.length h.e]
def GivesNB (w : World) (N : Nt) (b : Bool) (e : Ending) (w' : World) : Prop :=
  ∃ h : NH, e = .returned (.tuple #[.agg #[.slice h.A N.w.length h.c, .slice h.L N.l.length h.d, .slice h.C N.c.length h.e], .bool b]) ∧ OwnN w' w.heap.size w'.heap.size h N ∧ Below w.heap.size w w'
/-- The marks of a net. -/
def mkL (k : Int) : Nat → List Lk
  | 0 => []
  | n + 1 => ⟨k, k + 1, k + 2, k + 3⟩ :: mkL (k + 4) n
theorem mkL_len : ∀ (k : Int) (n : Nat), (mkL k n).length = n
  | _, 0 => rfl
  | k, n + 1 => by simp [mkL, mkL_len]
theorem markL_succ (k : Int) (n : Nat) : markL k (n + 1) = k :: markL (k + 1) n := by
  unfold markL
  rw [List.range_succ_eq_map, List.map_cons, List.map_map]
  congr 1
  · simp
  · apply List.map_congr_left
    intro i _
    simp only [Function.comp]; omega
theorem flL_mk : ∀ (k : Int) (n : Nat), flL (mkL k n) = markL k (n * 4)
  | _, 0 => rfl
  | k, n + 1 => by
    have e : (n + 1) * 4 = n * 4 + 1 + 1 + 1 + 1 := by omega
    rw [e, markL_succ, markL_succ, markL_succ, markL_succ, mkL, flL, flL_mk]
    rw [show k + 1 + 1 = k + 2 by omega, show k + 2 + 1 = k + 3 by omega, show k + 3 + 1 = k + 4 by omega]
def ntot (N : Nt) : Nat := total N.w + N.l.length * 4 + N.c.length
def mrkN (k : Int) (N : Nt) : Nt := ⟨mrkQ k N.w, mkL (k + total N.w) N.l.length, markL (k + total N.w + (N.l.length * 4 : Nat)) N.c.length⟩
end Go.Proofs.YtjfhbofgnagfaaaDoor
