/- A net in memory of its own: parts of its rows replaced. Permutations, of the model. A net renumbered, of the model. The program's counts of uses: numbersFrom, add, the comparison of arrays. A net that came in, opened. Laws over nets: sizes, marks. -/
import Derived.Test.YtdcommmefehlgaaDoorQSubA
import Derived.Test.YtdcommmefehlgaaDoorQNetA
import Derived.Test.YtdcommmefehlgaaDoorQMath
import Derived.Test.YtdcommmefehlgaaDoorQNetO
import Derived.Test.YtdcommmefehlgaaDoorPgM
import Derived.ChangeKeysEq
import Derived.Laws.StructEq
import Derived.Test.YtdcommmefehlgaaDoorQSeqV
import Derived.Deep.Slices
namespace Go.Proofs.YtdcommmefehlgaaDoor
set_option linter.unusedSimpArgs false
set_option linter.unusedVariables false
section
open Go.ChangeAt Go.ChangeShapes Go.RowKit Go.WideShapes

section
variable {w wr w1 : World} {h : NH} {N : Nt} {g k : Nat}
/-- A wire replaced. -/
theorem OwnN.storeW {A : Option Addr} {c' : Nat} {q : List Int} (o : OwnN wr w.heap.size wr.heap.size h N) (hA : h.A = some ⟨g, 0, none⟩) (hk : k < N.w.length) (hb : Below w.heap.size w wr) (own1 : w1.ownsRow wr.heap.size 2 1 (.slice A q.length c') q.length (q.map (Value.int .i64))) (bel1 : Below wr.heap.size wr w1) :
    OwnN (w1.setCell ⟨g, k, none⟩ (.slice A q.length c')) w.heap.size (w1.setCell ⟨g, k, none⟩ (.slice A q.length c')).heap.size ⟨h.A, h.c, upd h.hs k (A, c'), h.L, h.d, h.C, h.e⟩ ⟨N.w.set k q, N.l, N.c⟩ ∧
      ∀ b, b < wr.heap.size → FarN h N b → FarN ⟨h.A, h.c, upd h.hs k (A, c'), h.L, h.d, h.C, h.e⟩ ⟨N.w.set k q, N.l, N.c⟩ b := by
  obtain ⟨hAd, hcd, hhs, hL, hd, hC, he⟩ := h
  dsimp only at hA
  subst hA
  have oq := o.q
  obtain ⟨q7, _⟩ := OwnQ.fill oq rfl hk rfl hb own1 bel1
  have hlen : (N.w.set k q).length = N.w.length := by simp
  have s1 := bel1.size
  have es : (w1.setCell ⟨g, k, none⟩ (.slice A q.length c')).heap.size = w1.heap.size := by simp
  have hgA : (Value.slice (some ⟨g, 0, none⟩) N.w.length hcd).ownBlock = some g := rfl
  have hkb : ∀ b, b < wr.heap.size → b ≠ g → (w1.setCell ⟨g, k, none⟩ (.slice A q.length c')).heap[b]? = wr.heap[b]? := fun b h1 h2 => (Below.heap_setCell _ _ _ _ h2).trans (bel1.block b h1)
  have l' := own_same (w' := w1.setCell ⟨g, k, none⟩ (.slice A q.length c')) o.l fun b e => hkb b (o.lt b e) (fun e2 => (o.lq b e).1 (by rw [e2]; rfl))
  have c2 := own_same (w' := w1.setCell ⟨g, k, none⟩ (.slice A q.length c')) o.c fun b e => hkb b (o.ct b e) (fun e2 => (o.cq b e).1 (by rw [e2]; rfl))
  have ib : ∀ b, b < wr.heap.size → (∀ i, i < N.w.length → (hv hhs N.w i).ownBlock ≠ some b) → ∀ i, i < (N.w.set k q).length → (hv (upd hhs k (A, c')) (N.w.set k q) i).ownBlock ≠ some b := fun b h1 h2 i hi e => by
    rw [hlen] at hi
    by_cases hn : i = k
    · subst hn
      rw [hv_upd_eq hi] at e
      have := (own1.lt b e).1
      omega
    · rw [hv_upd_ne hn] at e
      exact h2 i hi e
  refine ⟨?_, fun b hb f => ?_⟩
  · exact {
      q := by show OwnQ _ _ _ (.slice (some ⟨g, 0, none⟩) (N.w.set k q).length hcd) _ _; rw [hlen]; exact q7
      l := l'
      c := c2
      lt := fun b e => (l'.lt b e).2
      ct := fun b e => (c2.lt b e).2
      lq := fun b e => ⟨by show (Value.slice (some ⟨g, 0, none⟩) (N.w.set k q).length hcd).ownBlock ≠ _; rw [hlen]; exact (o.lq b e).1, ib b (o.lt b e) (o.lq b e).2⟩
      cq := fun b e => ⟨by show (Value.slice (some ⟨g, 0, none⟩) (N.w.set k q).length hcd).ownBlock ≠ _; rw [hlen]; exact (o.cq b e).1, ib b (o.ct b e) (o.cq b e).2⟩
      lc := o.lc }
  · exact ⟨by show (Value.slice (some ⟨g, 0, none⟩) (N.w.set k q).length hcd).ownBlock ≠ _; rw [hlen]; exact f.a, ib b hb f.i, f.l, f.c⟩
theorem flL_set : ∀ (ls : List Lk) (k : Nat) (l : Lk), k < ls.length → (flL (ls.set k l)).map (Value.int .i64) = put4 ((flL ls).map (Value.int .i64)) (k * 4) (.int .i64 l.k) (.int .i64 l.a) (.int .i64 l.b) (.int .i64 l.c)
  | [], k, l, h => absurd h (by simp)
  | x :: xs, 0, l, _ => by simp [flL, put4]
  | x :: xs, k + 1, l, h => by
    have ih := flL_set xs k l (by simpa using h)
    have e : (k + 1) * 4 = k * 4 + 1 + 1 + 1 + 1 := by omega
    simp only [List.set_cons_succ, flL, List.map_cons, ih, put4, e]
/-- A link replaced. -/
theorem OwnN.storeL {lo hi : Nat} {l : Lk} (o : OwnN w lo hi h N) (hL : h.L = some ⟨g, 0, none⟩) (hk : k < N.l.length) :
    OwnN (fourW w g (k * 4) (.int .i64 l.k) (.int .i64 l.a) (.int .i64 l.b) (.int .i64 l.c)) lo hi h ⟨N.w, N.l.set k l, N.c⟩ ∧ ∀ b, FarN h N b → FarN h ⟨N.w, N.l.set k l, N.c⟩ b := by
  obtain ⟨hAd, hcd, hhs, hLd, hd, hCd, he⟩ := h
  dsimp only at hL
  subst hL
  have hlen : (N.l.set k l).length = N.l.length := by simp
  have hgL : (Value.slice (some ⟨g, 0, none⟩) N.l.length hd).ownBlock = some g := rfl
  obtain ⟨ol, gr⟩ := four_own (o := k * 4) o.l (.int .i64 l.k) (.int .i64 l.a) (.int .i64 l.b) (.int .i64 l.c)
  rw [← flL_set N.l k l hk] at ol
  have hkb : ∀ b, b < w.heap.size → b ≠ g → (fourW w g (k * 4) (.int .i64 l.k) (.int .i64 l.a) (.int .i64 l.b) (.int .i64 l.c)).heap[b]? = w.heap[b]? := fun b h1 h2 => gr.block b h1 fun e => h2 (by injection e)
  refine ⟨?_, fun b f => ?_⟩
  · exact {
      q := o.q.fine (fun b e => hkb b (o.q.outer.lt b e).2 fun e2 => (o.lq g hgL).1 (by rw [← e2]; exact e)) (fun i hi b e => hkb b ((o.q.inner i hi).lt b e).2 fun e2 => (o.lq g hgL).2 i hi (by rw [← e2]; exact e))
      l := by show World.ownsRow _ _ _ _ (.slice (some ⟨g, 0, none⟩) (N.l.set k l).length hd) (N.l.set k l).length _; rw [hlen]; exact ol
      c := own_same o.c fun b e => hkb b (o.c.lt b e).2 fun e2 => o.lc g hgL (by rw [← e2]; exact e)
      lt := fun b e => o.lt b (by rw [← e]; rfl)
      ct := o.ct
      lq := fun b e => o.lq b (by rw [← e]; rfl)
      cq := o.cq
      lc := fun b e e2 => o.lc b (by rw [← e]; rfl) e2 }
  · exact ⟨f.a, f.i, fun e => f.l (by rw [← e]; rfl), f.c⟩
end
end
section
open Go.ChangeAt Go.ChangeShapes Go.RowKit Go.WideShapes

/-- The first k numbers lie below n and differ. -/
def perm1 (xs : List Int) (n k : Nat) : Bool := (xs.take k).all (inW n) && decide ((xs.take k).map Int.toNat).Nodup
/-- The list holds each number below n once and nothing else. -/
def permB (xs : List Int) (n : Nat) : Bool := perm1 xs n xs.length && decide (xs.length = n)
end
section
open Go.ChangeAt Go.ChangeShapes Go.RowKit Go.WideShapes

/-- Where the copy stands, while it is renumbered. -/
def RnSt (w0 wx : World) (bo : Nat) (h : NH) (N : Nt) (x y z : Value) : Prop := OwnN wx w0.heap.size wx.heap.size h N ∧ FarN h N bo ∧ wx.heap[bo]? = some (.cells #[x, y, z] 30 (0, 0)) ∧ Below w0.heap.size w0 wx
theorem RnSt.drew {w0 wx : World} {bo : Nat} {h : NH} {N : Nt} {x y z : Value} (r : RnSt w0 wx bo h N x y z) : RnSt w0 wx.drew bo h N x y z := ⟨r.1.same (fun _ _ _ _ => rfl), r.2.1, r.2.2.1, r.2.2.2.drew⟩
theorem four_far {u : World} {g o b j : Nat} {v0 v1 v2 v3 : Value} (h : g ≠ b) : (fourW u g o v0 v1 v2 v3).cell? ⟨b, j, none⟩ = u.cell? ⟨b, j, none⟩ := by
  unfold fourW
  rw [World.cell?_setCell_far _ _ _ _ (by exact h), World.cell?_setCell_far _ _ _ _ (by exact h), World.cell?_setCell_far _ _ _ _ (by exact h), World.cell?_setCell_far _ _ _ _ (by exact h)]
theorem four_heap {u : World} {g o b : Nat} {v0 v1 v2 v3 : Value} (h : b ≠ g) : (fourW u g o v0 v1 v2 v3).heap[b]? = u.heap[b]? := by
  unfold fourW
  exact (Below.heap_setCell _ _ _ _ h).trans ((Below.heap_setCell _ _ _ _ h).trans ((Below.heap_setCell _ _ _ _ h).trans (Below.heap_setCell _ _ _ _ h)))
theorem four_below {w0 u : World} {B g o : Nat} (hb : Below B w0 u) (h : B ≤ g) (v0 v1 v2 v3 : Value) : Below B w0 (fourW u g o v0 v1 v2 v3) :=
  (((hb.setCell (p := ⟨g, o, none⟩) h v0).setCell (p := ⟨g, o + 1, none⟩) h v1).setCell (p := ⟨g, o + 2, none⟩) h v2).setCell (p := ⟨g, o + 3, none⟩) h v3
/-- The wires, links and conclusions when k of them are set. -/
def rnW (N : Nt) (P : List Int) (k : Nat) : List (List Int) := (List.range k).foldl (fun acc t => acc.set (P.getD t 0).toNat (N.w.getD t [])) N.w
def mapK (P : List Int) (l : Lk) : Lk := ⟨l.k, P.getD l.a.toNat 0, P.getD l.b.toNat 0, if l.k = 3 ∨ l.k = 4 then P.getD l.c.toNat 0 else l.c⟩
def rnL (N : Nt) (P R : List Int) (k : Nat) : List Lk := (List.range k).foldl (fun acc t => acc.set (R.getD t 0).toNat (mapK P (N.l.getD t Lk.nil))) N.l
def rnC (N : Nt) (P : List Int) (k : Nat) : List Int := (List.range k).foldl (fun acc t => acc.set t (P.getD (N.c.getD t 0).toNat 0)) N.c
/-- The net renumbered. -/
def rnN (N : Nt) (P R : List Int) : Nt := ⟨rnW N P N.w.length, rnL N P R N.l.length, rnC N P N.c.length⟩
theorem rnC_step (N : Nt) (P : List Int) (k : Nat) : rnC N P (k + 1) = (rnC N P k).set k (P.getD (N.c.getD k 0).toNat 0) := by unfold rnC; rw [List.range_succ, List.foldl_append]; rfl
end
section
set_option linter.unusedSimpArgs false
set_option linter.unusedVariables false
open Go.ChangeAt Go.ChangeShapes Go.RowKit Go.WideShapes

theorem gives_own {w w' : World} {v : Value} {n b : Nat} {xs : List Int} (h : w'.ownsRow b 2 1 v n (xs.map (Value.int .i64))) (hb : w.heap.size ≤ b) (bel : Below w.heap.size w w') : Gives w xs (.returned v) w' := by
  obtain ⟨A, c, rfl⟩ := own_shape h
  have hl := h.1
  rw [List.length_map, Nat.mul_one] at hl
  subst hl
  exact ⟨A, c, rfl, own_more h hb, bel⟩
theorem uptoL_at {s : Int} {n k : Nat} (h : k < n) : ((uptoL s n k).map (Value.int .i64))[k]? = some (.int .i64 0) := by
  unfold uptoL
  have h1 : (markL s k).length = k := markL_len s k
  rw [List.getElem?_map, List.getElem?_append_right (by omega), h1, Nat.sub_self, List.getElem?_replicate, if_pos (by omega)]
  rfl
theorem numbersFrom_any (s n : Nat) (w : World) (hs : s ≤ 1048576) (hn : n ≤ 1048576) :
    Calls Tryd.prog 45 #[.int .i64 s, .int .i64 n] w (Gives w (markL s n)) := by
  obtain ⟨i0, hi0, hz0, hz1, hz2⟩ := info_parts info_i64
  have b2 : i0.bytes * n ≤ 281474976710656 := by rw [hz2]; omega
  have b3 : n ≤ maxLen := by unfold maxLen; omega
  go_enter Tryd.func45, Tryd.ntmps45
  go_wp2_with (at_make; refine wpList_make_full _ rfl _ _ _ rfl w.heap.size 2 i0 (.int .i64 0) 1 Tryd.underlying24 hi0 hz0 hz1 _ _ _ _ n rfl rfl rfl rfl b2 b3 (Nat.le_refl _) ?_; intro w1 hown hg)
  have hbel : Below w.heap.size w w1 := (Below.refl _ _).grown hg (Nat.le_refl _) (by intro k hk; cases hk)
  have hz : (List.map (Value.int .i64) (uptoL s n 0)) = List.replicate n (Value.int .i64 0) := by simp [uptoL, markL]
  have h1 : w1.ownsRow w.heap.size 2 1 (.slice (some ⟨w.heap.size, 0, none⟩) n n) n ((uptoL s n 0).map (Value.int .i64)) := by
    rw [hz, ← toList_madeCells_one]
    simpa [Value.cells] using hown
  have HO := Lib.hid h1
  have HB := Lib.hid hbel
  clear hg hown b2 b3 hi0 hz0 hz1 hz2 hbel hz h1
  go_loopw [11] (fun i wr => ∃ k : Nat, k ≤ n ∧ i = .int .i64 k ∧ wr.ownsRow w.heap.size 2 1 (.slice (some ⟨w.heap.size, 0, none⟩) n n) n ((uptoL s n k).map (Value.int .i64)) ∧ Below w.heap.size w wr) (fun i _ => n - (intOf i).toNat)
  case atStart => exact ⟨0, Nat.zero_le _, rfl, HO.out, HB.out⟩
  case round =>
    obtain ⟨k, hk, rfl, hO, hB⟩ := hrel
    clear HO HB
    by_cases hlt : k < n
    · have ho := (hO.cellAt k (by omega)).trans (uptoL_at hlt)
      have hf := hO.frozenAt k
      have HS := Lib.hid (hO.stored k (.int .i64 ((s : Int) + (k : Nat)))).1
      rw [← List.map_set, uptoL_step hlt] at HS
      have HB := Lib.hid (hB.setCell (p := ⟨w.heap.size, k, none⟩) (Nat.le_refl _) (.int .i64 ((s : Int) + (k : Nat))))
      clear hO hB
      go_wp2
      go_roundw
      case rel => exact ⟨k + 1, by omega, by go_num, HS.out, HB.out⟩
      case measure => simp [intOf]; omega
    · have hkl : k = n := by omega
      subst hkl
      rw [uptoL_all] at hO
      have HO := Lib.hid hO; have HB := Lib.hid hB
      clear hO hB
      go_wp2
      go_ret
      exact gives_own HO.out (Nat.le_refl _) HB.out
/-- The cells of an array of counts. -/
def cntA (f : Nat → Int) : Array Value := ((cnts 48 f).map (Value.int .i64)).toArray
theorem cntA_len (f : Nat → Int) : (cntA f).size = 48 := by simp [cntA, cnts]
theorem cntA_at {f : Nat → Int} {i : Nat} (h : i < 48) : (cntA f)[i]? = some (.int .i64 (f i)) := by simp [cntA, cnts, h]
theorem cntA_set {f : Nat → Int} {i : Nat} (h : i < 48) : (cntA f).setIfInBounds i (.int .i64 (f i + 1)) = cntA fun x => f x + one (i = x) := by
  unfold cntA
  rw [List.setIfInBounds_toArray, ← List.map_set, cnts_bump h]
theorem cntA_ext {f g : Nat → Int} (h : ∀ x, x < 48 → f x = g x) : cntA f = cntA g := by unfold cntA; rw [cnts_ext h]
/-- One array of counts in block g. -/
def ArrU (w : World) (g : Nat) (f : Nat → Int) : Prop := w.heap[g]? = some (.cells (cntA f) 102 (0, 0))
theorem ArrU.keep {w w' : World} {g : Nat} {f : Nat → Int} (h : ArrU w g f) (hb : w'.heap[g]? = w.heap[g]?) : ArrU w' g f := hb.trans h
theorem ArrU.cell {w : World} {g : Nat} {f : Nat → Int} (h : ArrU w g f) {i : Nat} (hi : i < 48) : w.cell? ⟨g, i, none⟩ = some (.int .i64 (f i)) := by
  exact (cell_of_row _ _ i _ _ (0, 0) h).trans (cntA_at hi)
theorem ArrU.frozen {w : World} {g : Nat} {f : Nat → Int} (h : ArrU w g f) (i : Nat) : w.frozen? ⟨g, i, none⟩ = false := frozen_of_row _ _ i _ _ h
theorem ArrU.bump {w : World} {g : Nat} {f : Nat → Int} (h : ArrU w g f) {i : Nat} (hi : i < 48) : ArrU (w.setCell ⟨g, i, none⟩ (.int .i64 (f i + 1))) g fun x => f x + one (i = x) := by
  have := heap_setCell_same w g i _ _ (.int .i64 (f i + 1)) h
  rw [cntA_set hi] at this
  exact this
theorem ne_of_own {w : World} {base n c g : Nat} {t : TypeId} {A : Option Addr} {xs : List Value} (h : w.ownsRow base t 1 (.slice A n c) n xs) (hlt : g < base) : 0 < n → ∀ b off, A = some ⟨b, off, none⟩ → b ≠ g := by
  intro hn b off e
  obtain ⟨g', cap, hv, hlo, _⟩ := h.form hn
  subst e
  injection hv with h1 h2 h3
  injection h1 with h1
  injection h1 with h4 h5 h6
  omega
theorem ne_of_rd {w : World} {B n g : Nat} {A : Option Addr} {xs : List Int} (h : RdI w B A n xs) (hlt : B ≤ g) : 0 < n → ∀ b off, A = some ⟨b, off, none⟩ → b ≠ g := by
  intro hn b off e
  obtain ⟨b', off', e', hb, _⟩ := h.2 hn
  rw [e] at e'
  injection e' with e'
  injection e' with h4 h5 h6
  omega
set_option maxHeartbeats 2000000 in
/-- add: one use more of each of the wires. -/
theorem add_any (g : Nat) (f : Nat → Int) (A : Option Addr) (n c : Nat) (xs : List Int) (w : World) (B : Nat) (hg : ArrU w g f) (h : RdI w B A n xs) (hBg : 0 < n → ∀ b off, A = some ⟨b, off, none⟩ → b ≠ g) (hn : n ≤ 1048576) (hx : xs.all (inW 48) = true) (hf : ∀ x, 0 ≤ f x ∧ f x ≤ 1073741824) :
    Calls Tryd.prog 95 #[.pointer (some ⟨g, 0, none⟩), .slice A n c] w fun e w' => e = .returned (.tuple #[]) ∧ ArrU w' g (fun x => f x + concN xs x) ∧ KeptS (fun k => k = g) w w' := by
  have hl := h.len
  subst hl
  have H := Lib.hid h; have HBG := Lib.hid hBg; have HX := Lib.hid (fun t (ht : t < xs.length) => all_at (d := 0) hx ht); have HF := Lib.hid hf
  have HG := Lib.hid hg
  clear h hBg hx hf hg
  go_enter Tryd.func95, Tryd.ntmps95
  go_wp2
  go_loopw [8] (fun i wr => ∃ k : Nat, k ≤ xs.length ∧ i = .int .i64 k ∧ ArrU wr g (fun x => f x + concN (xs.take k) x) ∧ KeptS (fun k => k = g) w wr) (fun i _ => xs.length - (intOf i).toNat)
  case atStart => exact ⟨0, Nat.zero_le _, rfl, by
    have := HG.out
    unfold ArrU at this ⊢
    rw [this]
    exact congrArg (fun a => some (Obj.cells a _ _)) (cntA_ext fun x _ => by simp [concN, List.take_zero]), KeptS.refl _ _⟩
  case round =>
    obtain ⟨k, hk, rfl, hA, hK⟩ := hrel
    by_cases hlt : k < xs.length
    · obtain ⟨b, off, rfl, hbb, hcells⟩ := H.out.2 (by omega)
      have hne := HBG.out (by omega) b off rfl
      have hbw : b < w.heap.size := World.block_lt_of_cell? w _ (hcells k hlt)
      have hc : wr.cell? ⟨b, off + k, none⟩ = some (.int .i64 (xs.getD k 0)) := by
        have h5 := hcells k hlt
        unfold World.cell? at h5 ⊢
        rw [hK.block b hbw hne]
        exact h5
      have hin := HX.out k hlt
      have hstep := fun x => concN_step hlt x
      obtain ⟨z, hz⟩ : ∃ z, xs.getD k 0 = z := ⟨_, rfl⟩
      rw [hz] at hc hin hstep
      obtain ⟨_, hi, ez⟩ := inW_yes hin
      generalize z.toNat = i at *
      subst ez
      have hfb := HF.out i
      have hcb := concN_le (xs.take k) i
      have hlk : (xs.take k).length ≤ 1048576 := by rw [List.length_take]; omega
      have hu := hA.cell hi
      have hfr := hA.frozen i
      have hB := hA.bump hi
      obtain ⟨q, hq⟩ : ∃ q, f i + concN (xs.take k) i = q := ⟨_, rfl⟩
      have hqb : 0 ≤ q ∧ q ≤ 1074790400 := by omega
      rw [hq] at hu hB
      have HB : Hid (ArrU (wr.setCell ⟨g, i, none⟩ (.int .i64 (q + 1))) g (fun x => f x + concN (xs.take (k + 1)) x)) := Lib.hid (by
        unfold ArrU at hB ⊢
        rw [hB]
        exact congrArg (fun a => some (Obj.cells a _ _)) (cntA_ext fun x _ => by rw [hstep x]; omega))
      have HK2 : Hid (KeptS (fun k => k = g) w (wr.setCell ⟨g, i, none⟩ (.int .i64 (q + 1)))) := Lib.hid (hK.trans (KeptS.mk rfl rfl rfl ((Below.refl g wr).setCell (p := ⟨g, i, none⟩) (Nat.le_refl _) _).size fun p _ hp => Below.heap_setCell _ _ _ _ hp))
      clear hA hK hcells hin hstep hz hfb hcb hlk hq hB
      have hi48 : (i : Int) < 48 := by omega
      have K0 : Hid (wr.cell? ⟨g, i, none⟩ = some (.int .i64 q)) := Lib.hid hu
      go_wp2_with (fail)
      go_region
      all_goals go_wp2
      all_goals go_roundw
      all_goals (first | exact ⟨k + 1, by omega, by go_num, HB.out, ⟨HK2.out.os, HK2.out.tape, HK2.out.output, HK2.out.size, HK2.out.block⟩⟩ | (simp [intOf]; omega))
    · have hkl : k = xs.length := by omega
      subst hkl
      rw [List.take_length] at hA
      have HA := Lib.hid hA; have HK := Lib.hid hK
      clear hA hK
      go_wp2
      refine bodyPost_end (results_none rfl _ _ _) rfl ?_
      exact ⟨rfl, HA.out, HK.out⟩
end
section
open Go.ChangeShapes Go.WideShapes Go.ChangeAt Go.RowKit

instance : Inhabited Lk := ⟨Lk.nil⟩
end
section
open Go.ChangeAt Go.ChangeShapes Go.RowKit Go.WideShapes

/-- A net no greater than the laws' bound. -/
structure SmallN (N : Nt) : Prop where
  w : N.w.length ≤ 1048576
  t : total N.w ≤ 1048576
  l : N.l.length ≤ 1048576
  c : N.c.length ≤ 1048576
/-- A net as great as any that came in. -/
structure GreatN (N : Nt) : Prop where
  w : N.w.length ≤ maxLen
  l : N.l.length ≤ maxLen
  c : N.c.length ≤ maxLen
  q : ∀ q ∈ N.w, q.length ≤ maxLen
theorem SmallN.q {N : Nt} (h : SmallN N) : ∀ q ∈ N.w, q.length ≤ 1048576 := fun _ hq => Nat.le_trans (mem_total hq) h.t
theorem SmallN.great {N : Nt} (h : SmallN N) : GreatN N := ⟨Nat.le_trans h.w (by decide), Nat.le_trans h.l (by decide), Nat.le_trans h.c (by decide), fun q hq => Nat.le_trans (h.q q hq) (by decide)⟩
theorem SmallN.tot {N : Nt} (h : SmallN N) : ntot N ≤ 6291456 := by
  have h1 := h.t; have h2 := h.l; have h3 := h.c
  unfold ntot; omega
theorem rd_mrk {w : World} {B : Nat} {h : NH} {k : Int} {N : Nt} (r : RdN w B h (mrkN k N)) : RdN w B h (mrkN k N) := r
end
end Go.Proofs.YtdcommmefehlgaaDoor
