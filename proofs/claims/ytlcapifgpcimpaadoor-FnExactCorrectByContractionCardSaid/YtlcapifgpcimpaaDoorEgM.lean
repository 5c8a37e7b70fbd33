/- Edges of graphs with paired edges: rows of edges, graphs, what they read as. -/
import Derived.Test.YtlcapifgpcimpaaDoorQCopyS
namespace Go.Proofs.YtlcapifgpcimpaaDoor
set_option linter.unusedSimpArgs false
set_option linter.unusedVariables false
open Go.ChangeAt Go.ChangeShapes Go.RowKit Go.WideShapes

/-- An edge: its ends and its pair. -/
structure Ed where
  a : Int
  b : Int
  p : Int
def Ed.nil : Ed := ⟨0, 0, 0⟩
instance : Inhabited Ed := ⟨Ed.nil⟩
/-- The cells of a row of edges. -/
def flE : List Ed → List Int
  | [] => []
  | x :: es => x.a :: x.b :: x.p :: flE es
theorem flE_len : ∀ es : List Ed, (flE es).length = es.length * 3
  | [] => rfl
  | x :: es => by simp only [flE, List.length_cons, flE_len es]; omega
theorem flE_app : ∀ xs ys : List Ed, flE (xs ++ ys) = flE xs ++ flE ys
  | [], _ => rfl
  | x :: xs, ys => by simp only [flE, List.cons_append, flE_app xs ys]
theorem flE_at : ∀ (es : List Ed) (i : Nat), i < es.length → (flE es).getD (i * 3) 0 = (es.getD i Ed.nil).a ∧ (flE es).getD (i * 3 + 1) 0 = (es.getD i Ed.nil).b ∧ (flE es).getD (i * 3 + 2) 0 = (es.getD i Ed.nil).p
  | [], i, h => absurd h (by simp)
  | x :: es, 0, _ => ⟨rfl, rfl, rfl⟩
  | x :: es, i + 1, h => by
    have ih := flE_at es i (by simpa using h)
    have e : ∀ t, (flE (x :: es)).getD ((i + 1) * 3 + t) 0 = (flE es).getD (i * 3 + t) 0 := fun t => by
      have : (i + 1) * 3 + t = i * 3 + t + 1 + 1 + 1 := by omega
      rw [this]; rfl
    have e0 := e 0
    rw [Nat.add_zero, Nat.add_zero] at e0
    rw [e0, e 1, e 2]
    exact ih
/-- Three cells set. -/
def pu3 (xs : List Value) (o : Nat) (v0 v1 v2 : Value) : List Value := ((xs.set o v0).set (o + 1) v1).set (o + 2) v2
def thW (w : World) (g o : Nat) (v0 v1 v2 : Value) : World := ((w.setCell ⟨g, o, none⟩ v0).setCell ⟨g, o + 1, none⟩ v1).setCell ⟨g, o + 2, none⟩ v2
theorem th_own {w : World} {base g n cap o : Nat} {e : TypeId} {xs : List Value} (h : w.ownsRow base e 3 (.slice (some ⟨g, 0, none⟩) n cap) n xs) (v0 v1 v2 : Value) :
    (thW w g o v0 v1 v2).ownsRow base e 3 (.slice (some ⟨g, 0, none⟩) n cap) n (pu3 xs o v0 v1 v2) ∧ w.grownBy (thW w g o v0 v1 v2) (some g) := by
  have h0 := h.stored o v0
  have h1 := h0.1.stored (o + 1) v1
  have h2 := h1.1.stored (o + 2) v2
  exact ⟨h2.1, grownBy_trans (grownBy_trans h0.2 h1.2) h2.2⟩
theorem pu3_len (xs : List Value) (o : Nat) (v0 v1 v2 : Value) : (pu3 xs o v0 v1 v2).length = xs.length := by simp [pu3]
theorem flE_set : ∀ (es : List Ed) (k : Nat) (x : Ed), k < es.length → (flE (es.set k x)).map (Value.int .i64) = pu3 ((flE es).map (Value.int .i64)) (k * 3) (.int .i64 x.a) (.int .i64 x.b) (.int .i64 x.p)
  | [], k, x, h => absurd h (by simp)
  | y :: ys, 0, x, _ => by simp [flE, pu3]
  | y :: ys, k + 1, x, h => by
    have ih := flE_set ys k x (by simpa using h)
    have e : (k + 1) * 3 = k * 3 + 1 + 1 + 1 := by omega
    simp only [List.set_cons_succ, flE, List.map_cons, ih, pu3, e]
theorem setE_at {es : List Ed} {j i : Nat} {x : Ed} (h : j < es.length) : (es.set j x).getD i Ed.nil = if i = j then x else es.getD i Ed.nil := by
  by_cases e : i = j
  · subst e; simp [List.getD, h]
  · rw [if_neg e]; simp [List.getD, List.getElem?_set, Ne.symm e]
/-- The slice value '.slice A n c' reads as the edges es, below block B. -/
def RdE (w : World) (B : Nat) (A : Option Addr) (n : Nat) (es : List Ed) : Prop := es.length = n ∧ RdI w B A (n * 3) (flE es)
section
variable {w w' : World} {B B' n : Nat} {A : Option Addr} {es : List Ed}
theorem RdE.below (h : RdE w B A n es) (hb : Below B w w') : RdE w' B A n es := ⟨h.1, h.2.below hb⟩
theorem RdE.more (h : RdE w B A n es) (hB : B ≤ B') : RdE w B' A n es := ⟨h.1, h.2.more hB⟩
theorem RdE.nil (w : World) (B : Nat) (A : Option Addr) : RdE w B A 0 [] := ⟨rfl, rfl, fun h => absurd h (by omega)⟩
/-- The cells of each edge. -/
theorem RdE.at (h : RdE w B A n es) (hn : 0 < n) : ∃ b off, A = some ⟨b, off, none⟩ ∧ b < B ∧ ∀ i, i < n → w.cell? ⟨b, off + i * 3, none⟩ = some (.int .i64 (es.getD i Ed.nil).a) ∧ w.cell? ⟨b, off + i * 3 + 1, none⟩ = some (.int .i64 (es.getD i Ed.nil).b) ∧ w.cell? ⟨b, off + i * 3 + 2, none⟩ = some (.int .i64 (es.getD i Ed.nil).p) := by
  obtain ⟨b, off, e, hb, hc⟩ := h.2.2 (by omega)
  refine ⟨b, off, e, hb, fun i hi => ?_⟩
  obtain ⟨f0, f1, f2⟩ := flE_at es i (by rw [h.1]; exact hi)
  refine ⟨?_, ?_, ?_⟩
  · rw [hc (i * 3) (by omega), f0]
  · rw [Nat.add_assoc, hc (i * 3 + 1) (by omega), f1]
  · rw [Nat.add_assoc, hc (i * 3 + 2) (by omega), f2]
theorem RdE.of_own {lo c : Nat} {t : TypeId} (h : w.ownsRow lo t 3 (.slice A es.length c) es.length ((flE es).map (Value.int .i64))) : RdE w w.heap.size A es.length es := by
  refine ⟨rfl, by rw [flE_len], fun hn => ?_⟩
  obtain ⟨g, cap, hv, hlo, hhi⟩ := h.form (by omega)
  injection hv with e1 e2 e3
  subst e1
  refine ⟨g, 0, rfl, hhi, fun j hj => ?_⟩
  rw [Nat.zero_add, h.cellAt (g := g) j (by omega), List.getElem?_map]
  have hj2 : j < (flE es).length := by rw [flE_len]; exact hj
  simp [List.getD, hj2]
end
theorem own_shapeE {w : World} {base n : Nat} {e : TypeId} {v : Value} {xs : List Value} (h : w.ownsRow base e 3 v n xs) : ∃ A c, v = .slice A n c := by
  rcases h.2 with ⟨rfl, rfl⟩ | ⟨g, cap, cur, rfl, _, _, hn, _⟩
  · exact ⟨_, _, rfl⟩
  · exact ⟨_, _, rfl⟩
theorem twE_cells {w : World} {b : Nat} {a0 a1 : Value} {t : TypeId} (h : w.heap[b]? = some (.cells #[a0, a1] t (0, 0))) :
    w.cell? ⟨b, 0, none⟩ = some a0 ∧ w.cell? ⟨b, 1, none⟩ = some a1 :=
  ⟨cell_of_row _ _ 0 _ _ (0, 0) h, cell_of_row _ _ 1 _ _ (0, 0) h⟩
theorem box2E (w : World) (a b : Value) (t : TypeId) : Below w.heap.size w (w.alloc (.cells #[a, b] t)) ∧ (w.alloc (.cells #[a, b] t)).heap[w.heap.size]? = some (.cells #[a, b] t (0, 0)) ∧ (w.alloc (.cells #[a, b] t)).heap.size = w.heap.size + 1 :=
  ⟨(Below.refl _ _).alloc (Nat.le_refl _) _, heap_alloc_new _ _, by simp⟩
theorem th_cells {w : World} {b : Nat} {a0 a1 a2 : Value} {t : TypeId} (h : w.heap[b]? = some (.cells #[a0, a1, a2] t (0, 0))) :
    w.cell? ⟨b, 0, none⟩ = some a0 ∧ w.cell? ⟨b, 1, none⟩ = some a1 ∧ w.cell? ⟨b, 2, none⟩ = some a2 :=
  ⟨cell_of_row _ _ 0 _ _ (0, 0) h, cell_of_row _ _ 1 _ _ (0, 0) h, cell_of_row _ _ 2 _ _ (0, 0) h⟩
theorem box3E (w : World) (a b c : Value) (t : TypeId) : Below w.heap.size w (w.alloc (.cells #[a, b, c] t)) ∧ (w.alloc (.cells #[a, b, c] t)).heap[w.heap.size]? = some (.cells #[a, b, c] t (0, 0)) ∧ (w.alloc (.cells #[a, b, c] t)).heap.size = w.heap.size + 1 :=
  ⟨(Below.refl _ _).alloc (Nat.le_refl _) _, heap_alloc_new _ _, by simp⟩
theorem thE_new (w : World) (a b c : Value) (t : TypeId) : ∀ j u, [a, b, c][j]? = some u → (w.alloc (.cells #[a, b, c] t)).cell? ((⟨w.heap.size, 0, none⟩ : Addr).add j) = some u := by
  intro j u hu
  have ea : (⟨w.heap.size, 0, none⟩ : Addr).add j = ⟨w.heap.size, j, none⟩ := by simp [Addr.add]; omega
  rw [ea, cell_of_row _ _ j _ _ (0, 0) (heap_alloc_new w _)]
  simpa using hu
theorem set2E_at {w : World} {b : Nat} {c0 c1 : Value} {t : TypeId} (h : w.heap[b]? = some (.cells #[c0, c1] t (0, 0))) (v0 v1 : Value) :
    ((w.setCell ⟨b, 0, none⟩ v0).setCell ⟨b, 1, none⟩ v1).heap[b]? = some (.cells #[v0, v1] t (0, 0)) := by
  have h0 := heap_setCell_same w b 0 _ t v0 h
  have h1 := heap_setCell_same _ b 1 _ t v1 h0
  simpa using h1
theorem resCT {P : Program} {fn : Func} {p u : Tmp} {ty : TypeId} (h : fn.results = #[.cell p ty, .tmp u]) (tmps : Array Value) (w : World) (g : Nat) (t : TypeId) (cs : Array Value) (fr : Nat × Nat) (d : TypeDesc)
    (hp : tmps.getD p undef = .pointer (some ⟨g, 0, none⟩)) (hg : w.heap[g]? = some (.cells cs t fr))
    (hu : P.underlying ty = some d) (hd : (match d with | .struct _ | .array _ _ => true | _ => false) = true) (hi : (P.info? ty).map (·.size) = some cs.size) :
    (results fn tmps).run P w = .ok (.tuple #[.agg cs, tmps.getD u undef]) w := by
  have hp' : tmps[p]?.getD undef = .pointer (some ⟨g, 0, none⟩) := by simpa using hp
  rw [results_cell_tmp h]
  simp [hp', asAddr, run_loadVar_row w g t ty cs fr d hg hu hd hi, Result.andThen]
/-- Where a graph lies, and a graph. -/
structure GH where
  A : Option Addr
  c : Nat
structure Gr where
  n : Int
  e : List Ed
def Gr.nil : Gr := ⟨0, []⟩
def RdG (w : World) (B : Nat) (h : GH) (G : Gr) : Prop := RdE w B h.A G.e.length G.e
theorem RdG.below {w w' : World} {B : Nat} {h : GH} {G : Gr} (r : RdG w B h G) (hb : Below B w w') : RdG w' B h G := RdE.below r hb
theorem RdG.more {w : World} {B B' : Nat} {h : GH} {G : Gr} (r : RdG w B h G) (hB : B ≤ B') : RdG w B' h G := RdE.more r hB
structure SmallG (G : Gr) : Prop where
  w : G.e.length ≤ 1048576
  t : True
  l : True
  c : True
structure GreatG (G : Gr) : Prop where
  w : G.e.length ≤ maxLen
  l : True
  c : True
  q : True
theorem SmallG.q {G : Gr} (h : SmallG G) : True := trivial
theorem SmallG.great {G : Gr} (h : SmallG G) : GreatG G := ⟨Nat.le_trans h.w (by decide), trivial, trivial, trivial⟩
def gsz (G : Gr) : Nat := G.e.length
def gtot (G : Gr) : Nat := G.e.length * 3
theorem SmallG.tot {G : Gr} (h : SmallG G) : gtot G ≤ 6291456 := by have := h.w; unfold gtot; omega
theorem sz_casesG (left : Int) (hl : left ≤ 1048576) (G : Gr) : szR left (gsz G) = -1 ∨ ∃ L, szR left (gsz G) = L ∧ 0 ≤ L ∧ L ≤ 1048576 ∧ G.e.length ≤ 1048576 ∧ True ∧ True ∧ True := by
  by_cases h : left - (gsz G : Nat) < 0
  · exact .inl (szR_neg h)
  · have hz : gsz G = G.e.length := rfl
    exact .inr ⟨left - (gsz G : Nat), szR_pos h, by omega, by omega, by omega, trivial, trivial, trivial⟩
/-- The marks of a row of edges. -/
def mkEt (k : Int) (i : Nat) : Ed := ⟨k + (i * 3 : Nat), k + (i * 3 : Nat) + 1, k + (i * 3 : Nat) + 1 + 1⟩
def mkE (k : Int) (n : Nat) : List Ed := (List.range n).map fun i => mkEt k i
theorem mkE_len (k : Int) (n : Nat) : (mkE k n).length = n := by simp [mkE]
theorem mkE_at (k : Int) {n i : Nat} (h : i < n) : (mkE k n).getD i Ed.nil = mkEt k i := by simp [mkE, List.getD, h]
theorem mkE_is {k : Int} {n : Nat} {es : List Ed} (hl : es.length = n) (h : ∀ i, i < n → es.getD i Ed.nil = mkEt k i) : es = mkE k n := by
  refine List.ext_getElem? fun i => ?_
  by_cases hi : i < n
  · have e := h i hi
    have h1 : i < es.length := by omega
    have h2 : i < (mkE k n).length := by rw [mkE_len]; exact hi
    rw [← mkE_at k hi] at e
    simp only [List.getD, List.getElem?_eq_getElem h1, List.getElem?_eq_getElem h2, Option.getD_some] at e
    rw [List.getElem?_eq_getElem h1, List.getElem?_eq_getElem h2, e]
  · rw [List.getElem?_eq_none (by omega), List.getElem?_eq_none (by rw [mkE_len]; omega)]
def mrkG (k : Int) (G : Gr) : Gr := ⟨G.n, mkE k G.e.length⟩
theorem rd_mrkG {w : World} {B : Nat} {h : GH} {k : Int} {G : Gr} (r : RdG w B h (mrkG k G)) : RdG w B h (mrkG k G) := r
/-- A graph whose row is in memory of its own, its block in [lo, hi). -/
structure OwnG (w : World) (lo hi : Nat) (h : GH) (G : Gr) : Prop where
  outer : w.ownsRow lo 52 3 (.slice h.A G.e.length h.c) G.e.length ((flE G.e).map (Value.int .i64))
  top : ∀ k, (Value.slice h.A G.e.length h.c).ownBlock = some k → k < hi
theorem OwnG.of_own {w : World} {lo : Nat} {h : GH} {G : Gr} (o : w.ownsRow lo 52 3 (.slice h.A G.e.length h.c) G.e.length ((flE G.e).map (Value.int .i64))) : OwnG w lo w.heap.size h G := ⟨o, fun k hk => (o.lt k hk).2⟩
theorem OwnG.below {w w' : World} {lo hi : Nat} {h : GH} {G : Gr} (o : OwnG w lo hi h G) (hb : Below w.heap.size w w') : OwnG w' lo hi h G := ⟨own_same o.outer fun k e => hb.block k (o.outer.lt k e).2, o.top⟩
theorem OwnG.kept {w w' : World} {lo hi lo' hi' : Nat} {h : GH} {G : Gr} (o : OwnG w lo hi h G) (hk : Kept lo' hi' w w') (hd : hi ≤ lo' ∨ hi' ≤ lo) : OwnG w' lo hi h G :=
  ⟨own_same o.outer fun k e => hk.block k (o.outer.lt k e).2 (by have h1 := (o.outer.lt k e).1; have h2 := o.top k e; omega), o.top⟩
theorem OwnG.set {w : World} {lo hi b j : Nat} {h : GH} {G : Gr} (o : OwnG w lo hi h G) (hb : b < lo) (u : Value) : OwnG (w.setCell ⟨b, j, none⟩ u) lo hi h G :=
  ⟨own_same o.outer fun k e => heap_setCell_other _ _ _ _ (by show k ≠ b; have := (o.outer.lt k e).1; omega), o.top⟩
theorem OwnG.more {w : World} {lo hi lo' hi' : Nat} {h : GH} {G : Gr} (o : OwnG w lo hi h G) (h1 : lo' ≤ lo) (h2 : hi ≤ hi') : OwnG w lo' hi' h G := ⟨o.outer.mono h1, fun k e => Nat.lt_of_lt_of_le (o.top k e) h2⟩
theorem OwnG.rd {w : World} {lo hi : Nat} {h : GH} {G : Gr} (o : OwnG w lo hi h G) : RdG w w.heap.size h G := RdE.of_own o.outer
/-- What a function leaves that hands back a graph and a bool. -/
def GivesGB (w : World) (V : Gr) (b : Bool) (e : Ending) (w' : World) : Prop :=
  ∃ h, e = .returned (.tuple #[.agg #[.int .i64 V.n, .slice h.A V.e.length h.c], .bool b]) ∧ OwnG w' w.heap.size w'.heap.size h V ∧ Below w.heap.size w w'
/-- .. a graph and a number. -/
def GivesGI (w : World) (V : Gr) (b : Int) (e : Ending) (w' : World) : Prop :=
  ∃ h, e = .returned (.tuple #[.agg #[.int .i64 V.n, .slice h.A V.e.length h.c], .int .i64 b]) ∧ OwnG w' w.heap.size w'.heap.size h V ∧ Below w.heap.size w w'
theorem info_edge : (Tryd.prog.info? 52).map (fun i => (i.zero, i.size, i.bytes)) = some (some (.agg #[.int .i64 0, .int .i64 0, .int .i64 0]), 3, 24) := by kernel_rfl
theorem info_partsE : ∃ i, Tryd.prog.info? 52 = some i ∧ i.zero = some (.agg #[.int .i64 0, .int .i64 0, .int .i64 0]) ∧ i.size = 3 ∧ i.bytes = 24 := by
  obtain ⟨i, hi, he⟩ := Option.map_eq_some_iff.1 info_edge
  simp only [Prod.mk.injEq] at he
  exact ⟨i, hi, he.1, he.2.1, he.2.2⟩
end Go.Proofs.YtlcapifgpcimpaaDoor
