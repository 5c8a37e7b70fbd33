/- The model's draws: a source of numbers in a block of the call's own, and what is picked from it. Nothing is said of which numbers are drawn, only of their range and of the memory. The model's draw of a formula: some list of small numbers, in memory of its own. The model's source made of a code, and its draw of a list that is mostly a formula. -/
import Derived.Test.YtjdmcpaolhnejaaDoorQValid
import Derived.Deep.DeepCutAuto
import Derived.StillTailTactics
namespace Go.Proofs.YtjdmcpaolhnejaaDoor
set_option linter.unusedSimpArgs false
set_option linter.unusedVariables false
open Go.RowKit

/-- The slice value '.slice A n c' reads as the bytes code, its cells below block B. -/
def RdB (w : World) (B : Nat) (A : Option Addr) (n : Nat) (code : List Int) : Prop :=
  code.length = n ∧ (∀ z ∈ code, 0 ≤ z ∧ z ≤ 255) ∧ (0 < n → ∃ b off, A = some ⟨b, off, none⟩ ∧ b < B ∧ ∀ j, j < n → w.cell? ⟨b, off + j, none⟩ = some (.int .u8 (code.getD j 0)))
theorem RdB.keep {w w' : World} {B n : Nat} {A : Option Addr} {code : List Int} (h : RdB w B A n code) (hk : ∀ p : Addr, p.block < B → w'.cell? p = w.cell? p) : RdB w' B A n code :=
  ⟨h.1, h.2.1, fun hn => by
    obtain ⟨b, off, e, hb, hc⟩ := h.2.2 hn
    exact ⟨b, off, e, hb, fun j hj => (hk _ hb).trans (hc j hj)⟩⟩
theorem RdB.at_range {w : World} {B n : Nat} {A : Option Addr} {code : List Int} (h : RdB w B A n code) {j : Nat} (hj : j < n) : 0 ≤ code.getD j 0 ∧ code.getD j 0 ≤ 255 := by
  have hl : j < code.length := by have := h.1; omega
  exact h.2.1 _ (by simp [List.getD, hl])

/-- The source at block g: its code (which lies below block g), how far it has been read, its seed. -/
def Src (w : World) (g : Nat) (A : Option Addr) (n c : Nat) (code : List Int) : Prop :=
  RdB w g A n code ∧ n ≤ 4096 ∧ ∃ (k : Nat) (s : Int), k ≤ n ∧ 0 ≤ s ∧ s ≤ 2147483646 ∧ w.heap[g]? = some (.cells #[.slice A n c, .int .i64 k, .int .i64 s] 70 (0, 0))
theorem Src.lt {w : World} {g n c : Nat} {A : Option Addr} {code : List Int} (h : Src w g A n c code) : g < w.heap.size := by
  obtain ⟨_, _, k, s, _, _, _, hh⟩ := h
  rcases Nat.lt_or_ge g w.heap.size with hlt | hge
  · exact hlt
  · rw [Array.getElem?_eq_none hge] at hh; cases hh
theorem Src.same {w w' : World} {g n c : Nat} {A : Option Addr} {code : List Int} (h : Src w g A n c code) (hk : ∀ k, k ≤ g → w'.heap[k]? = w.heap[k]?) : Src w' g A n c code := by
  obtain ⟨h1, h2, k, s, h3, h4, h5, hh⟩ := h
  refine ⟨h1.keep fun p hp => World.cell?_of_block (hk _ (by omega)), h2, k, s, h3, h4, h5, (hk g (Nat.le_refl _)).trans hh⟩
theorem Src.below {w w' : World} {B g n c : Nat} {A : Option Addr} {code : List Int} (h : Src w g A n c code) (hb : Below B w w') (hB : g < B) : Src w' g A n c code :=
  h.same fun k hk => hb.block k (by omega)
theorem Src.grown {w w' : World} {g n c : Nat} {A : Option Addr} {code : List Int} {row : Option Nat} (h : Src w g A n c code) (hg : w.grownBy w' row) (hr : ∀ r, row = some r → g < r) : Src w' g A n c code :=
  h.same fun k hk => hg.block k (by have := h.lt; omega) (fun e => by have := hr k e.symm; omega)
theorem grown_alloc (w : World) (o : Obj) (r : Option Nat) : w.grownBy (w.alloc o) r := ⟨rfl, rfl, rfl, by simp, fun k hk _ => Below.heap_alloc w o k hk⟩
/-- What grew by blocks of its own still has turned one row alone. -/
theorem grown_own {w wx w2 : World} {g : Nat} {row : Option Nat} (h : w.grownBy wx (some g)) (h2 : wx.grownBy w2 row) (hr : ∀ q, row = some q → w.heap.size ≤ q) : w.grownBy w2 (some g) :=
  ⟨h2.os.trans h.os, h2.tape.trans h.tape, h2.output.trans h.output, Nat.le_trans h.size h2.size, fun k hk hne => (h2.block k (Nat.lt_of_lt_of_le hk h.size) (fun e => by have := hr k e.symm; omega)).trans (h.block k hk hne)⟩
theorem grown_below {w wx w2 : World} {g : Nat} (h : w.grownBy wx (some g)) (h2 : Below wx.heap.size wx w2) : w.grownBy w2 (some g) :=
  ⟨h2.os.trans h.os, h2.tape.trans h.tape, h2.output.trans h.output, Nat.le_trans h.size h2.size, fun k hk hne => (h2.block k (Nat.lt_of_lt_of_le hk h.size)).trans (h.block k hk hne)⟩

/-- A store into the source. -/
theorem Src.set_ {w : World} {g n c : Nat} {A : Option Addr} {code : List Int} {cs : Array Value} {j k' : Nat} {s' : Int} {u : Value} (q : Nat) (h1 : RdB w g A n code) (h2 : n ≤ 4096) (hh : w.heap[g]? = some (.cells cs 70 (0, 0)))
    (he : cs.setIfInBounds j u = #[.slice A n c, .int .i64 k', .int .i64 s']) (hk : k' ≤ n) (hs : 0 ≤ s' ∧ s' ≤ 2147483646) : Src ((w.setCell ⟨g, j, none⟩ u).drewN q) g A n c code ∧ w.grownBy ((w.setCell ⟨g, j, none⟩ u).drewN q) (some g) := by
  have hset := heap_setCell_same w g j cs 70 u hh
  rw [he] at hset
  refine ⟨⟨h1.keep fun p hp => ?_, h2, k', s', hk, hs.1, hs.2, hset⟩, rfl, rfl, rfl, by simp [World.setCell, World.drewN], fun k hk hne => ?_⟩
  · show (w.setCell ⟨g, j, none⟩ u).cell? p = w.cell? p
    exact World.cell?_of_block (Below.heap_setCell w _ u p.block (by show p.block ≠ g; omega))
  · show (w.setCell ⟨g, j, none⟩ u).heap[k]? = w.heap[k]?
    exact Below.heap_setCell w _ u k (fun e => hne (by rw [e]))
/-- What a pick leaves. -/
def Picked (w : World) (g : Nat) (A : Option Addr) (n c : Nat) (code : List Int) (m : Int) (e : Ending) (w' : World) : Prop :=
  ∃ r : Int, 0 ≤ r ∧ r < m ∧ e = .returned (.int .i64 r) ∧ Src w' g A n c code ∧ w.grownBy w' (some g)

set_option maxHeartbeats 2000000 in
theorem pick_any (g n c : Nat) (A : Option Addr) (code : List Int) (m : Int) (w : World) (h : Src w g A n c code) (hm1 : 1 ≤ m) (hm : m ≤ 256) :
    Calls Tryd.prog 64 #[.pointer (some ⟨g, 0, none⟩), .int .i64 m] w (Picked w g A n c code m) := by
  by_cases hm2 : m ≤ 1
  · go_enter Tryd.func64, Tryd.ntmps64
    go_wp2
    go_ret
    exact ⟨0, by omega, by omega, rfl, h, World.grownBy.refl w _⟩
  · obtain ⟨h1, h2, k, s, h3, h4, h5, hh⟩ := h
    have c0 : w.cell? ⟨g, 0, none⟩ = some (.slice A n c) := cell_of_row w g 0 _ _ (0, 0) hh
    have c1 : w.cell? ⟨g, 1, none⟩ = some (.int .i64 k) := cell_of_row w g 1 _ _ (0, 0) hh
    have c2 : w.cell? ⟨g, 2, none⟩ = some (.int .i64 s) := cell_of_row w g 2 _ _ (0, 0) hh
    have f1 : w.frozen? ⟨g, 1, none⟩ = false := frozen_of_row w g 1 _ _ hh
    have f2 : w.frozen? ⟨g, 2, none⟩ = false := frozen_of_row w g 2 _ _ hh
    have HH := Lib.hid hh
    have H1 := Lib.hid h1
    clear hh
    by_cases hlt : k < n
    · obtain ⟨b, off, rfl, hbb, hcells⟩ := h1.2.2 (by omega)
      have hc := hcells k hlt
      have hr := h1.at_range hlt
      generalize code.getD k 0 = x at hc hr
      have hx1 : 0 ≤ x := hr.1
      have hx2 : x ≤ 255 := hr.2
      clear hcells hr h1
      go_enter Tryd.func64, Tryd.ntmps64
      go_wp2
      go_quiet (fail)
      go_wp2
      go_quiet (fail)
      go_wp2
      go_ret
      have S := fun q => Src.set_ (A := some ⟨b, off, none⟩) (c := c) (j := 1) (u := .int .i64 ((k : Int) + 1)) (k' := k + 1) (s' := s) q H1.out h2 HH.out (by simp) (by omega) ⟨h4, h5⟩
      exact ⟨_, Int.emod_nonneg _ (by omega), Int.emod_lt_of_pos _ (by omega), rfl, (S _).1, (S _).2⟩
    · go_enter Tryd.func64, Tryd.ntmps64
      go_wp2
      go_quiet (fail)
      go_wp2
      go_ret
      have hs1 : 0 ≤ (s * 48271 + 11) % 2147483647 := Int.emod_nonneg _ (by omega)
      have hs2 : (s * 48271 + 11) % 2147483647 < 2147483647 := Int.emod_lt_of_pos _ (by omega)
      have S := fun q => Src.set_ (A := A) (c := c) (j := 2) (u := .int .i64 ((s * 48271 + 11) % 2147483647)) (k' := k) (s' := (s * 48271 + 11) % 2147483647) q H1.out h2 HH.out (by simp) h3 ⟨hs1, by omega⟩
      exact ⟨_, Int.emod_nonneg _ (by omega), Int.emod_lt_of_pos _ (by omega), rfl, (S _).1, (S _).2⟩

set_option maxHeartbeats 1000000 in
theorem drawAtom_any (g n c : Nat) (A : Option Addr) (code : List Int) (w : World) (h : Src w g A n c code) :
    Calls Tryd.prog 65 #[.pointer (some ⟨g, 0, none⟩)] w fun e w' => ∃ r : Int, -3 ≤ r ∧ r ≤ 3 ∧ e = .returned (.int .i64 r) ∧ Src w' g A n c code ∧ w.grownBy w' (some g) := by
  go_enter Tryd.func65, Tryd.ntmps65
  go_wp2_with (fail)
  refine (pick_any g n c A code 3 w h (by omega) (by omega)).mono ?_
  rintro e w1 ⟨r1, p1, p2, rfl, S1, G1⟩
  go_wp2_with (fail)
  refine (pick_any g n c A code 2 w1 S1 (by omega) (by omega)).mono ?_
  rintro e w2 ⟨r2, q1, q2, rfl, S2, G2⟩
  have G3 := Lib.hid (grownBy_trans G1 G2)
  have HS := Lib.hid S2
  clear G1 G2 S1 S2
  by_cases h0 : r2 = 0
  · subst h0
    go_wp2
    go_ret
    exact ⟨_, by omega, by omega, rfl, HS.out, G3.out⟩
  · have hne : (r2 == 0) = false := by simpa using h0
    clear h0
    go_wp2
    go_ret
    exact ⟨_, by omega, by omega, rfl, HS.out, G3.out⟩

/-- The operators gathered so far: a short list in a row of the call's own. -/
def OpsL (w : World) (g : Nat) (A : Option Addr) (n c : Nat) (code : List Int) (L : List Int) (A' : Option Addr) (c' : Nat) (wx : World) : Prop :=
  (∀ z ∈ L, 11 ≤ z ∧ z ≤ 16) ∧ wx.ownsRow w.heap.size 2 1 (.slice A' L.length c') L.length (L.map (Value.int .i64)) ∧ Src wx g A n c code ∧ w.grownBy wx (some g) ∧ g < w.heap.size
theorem OpsL.own {w wx : World} {g n c c' : Nat} {A A' : Option Addr} {code L : List Int} (h : OpsL w g A n c code L A' c' wx) : wx.ownsRow w.heap.size 2 1 (.slice A' L.length c') L.length (L.map (Value.int .i64)) := h.2.1
theorem OpsL.src {w wx : World} {g n c c' : Nat} {A A' : Option Addr} {code L : List Int} (h : OpsL w g A n c code L A' c' wx) : Src wx g A n c code := h.2.2.1
theorem OpsL.grew {w wx : World} {g n c c' : Nat} {A A' : Option Addr} {code L : List Int} (h : OpsL w g A n c code L A' c' wx) : w.grownBy wx (some g) := h.2.2.2.1
theorem OpsL.start {w : World} {g n c : Nat} {A : Option Addr} {code : List Int} (h : Src w g A n c code) : OpsL w g A n c code [] (some ⟨w.heap.size, 0, none⟩) 0 (w.alloc (.cells #[] 2)) :=
  ⟨by simp, World.ownsRow_made w #[] 0 (Nat.le_refl _) (by simp [maxLen]) rfl, h.grown (grown_alloc w _ none) (by simp), grown_alloc w _ _, h.lt⟩
/-- An append of two operators. -/
theorem OpsL.push {w wx w2 : World} {g n c : Nat} {A A' : Option Addr} {code L : List Int} {c' : Nat} {v2 : Value} {a b : Int} {o : Obj} (h : OpsL w g A n c code L A' c' wx) (ha : 11 ≤ a ∧ a ≤ 16) (hb : 11 ≤ b ∧ b ≤ 16)
    (hown2 : w2.ownsRow w.heap.size 2 1 v2 (L.length + 2) (L.map (Value.int .i64) ++ [.int .i64 a, .int .i64 b])) (hgrow : (wx.alloc o).grownBy w2 (Value.slice A' L.length c').ownBlock) : ∃ (A2 : Option Addr) (c2 : Nat), v2 = .slice A2 (L.length + 2) c2 ∧ OpsL w g A n c code (L ++ [a, b]) A2 c2 w2 := by
  obtain ⟨hL2, hown, hs, hg, hgw⟩ := h
  obtain ⟨A2, c2, rfl⟩ := own_shape hown2
  have hr : ∀ q, (Value.slice A' L.length c').ownBlock = some q → w.heap.size ≤ q := fun q hq => (hown.lt q hq).1
  have e : (L ++ [a, b]).length = L.length + 2 := by simp
  refine ⟨A2, c2, rfl, fun z hz => ?_, by rw [e, List.map_append]; exact hown2, (hs.grown (grown_alloc wx o none) (by simp)).grown hgrow (fun r hr' => by have := hr r hr'; omega), grown_own (grown_own hg (grown_alloc wx o none) (by simp)) hgrow hr, hgw⟩
  rcases List.mem_append.1 hz with h | h
  · exact hL2 z h
  · simp at h
    rcases h with rfl | rfl
    · exact ha
    · exact hb

/-- A pick, or a draw, leaves them as they are. -/
theorem OpsL.kept {w wx w2 : World} {g n c c' : Nat} {A A' : Option Addr} {code L : List Int} (h : OpsL w g A n c code L A' c' wx) (hs : Src w2 g A n c code) (hg : wx.grownBy w2 (some g)) : OpsL w g A n c code L A' c' w2 := by
  obtain ⟨hL2, hown, _, hg0, hgw⟩ := h
  refine ⟨hL2, hown.kept hg ?_, hs, grownBy_trans hg0 hg, hgw⟩
  cases hv : (Value.slice A' L.length c').ownBlock with
  | none => exact .inl rfl
  | some k => exact .inr (by intro e; have := (hown.lt k hv).1; injection e with e; omega)
/-- One of them, read. -/
theorem OpsL.at_ {w wx : World} {g n c c' : Nat} {A A' : Option Addr} {code L : List Int} (h : OpsL w g A n c code L A' c' wx) {q : Nat} (hq : q < L.length) : ∃ (b : Nat) (z : Int), A' = some ⟨b, 0, none⟩ ∧ 11 ≤ z ∧ z ≤ 16 ∧ wx.cell? ⟨b, q, none⟩ = some (.int .i64 z) := by
  obtain ⟨b, cap, hv, _, hlt⟩ := h.own.form (by omega)
  have hA : A' = some ⟨b, 0, none⟩ := by injection hv
  subst hA
  have hc := h.own.cellAt (g := b) q (by omega)
  have hz := h.1 (L.getD q 0) (by simp [List.getD, hq])
  refine ⟨b, L.getD q 0, rfl, hz.1, hz.2, ?_⟩
  rw [hc]
  simp [List.getD, hq]

theorem two_cells (w : World) (a b : Value) (t : TypeId) (B : Nat) (hB : B = w.heap.size) : ∀ j u, [a, b][j]? = some u → (w.alloc (.cells #[a, b] t)).cell? ((⟨B, 0, none⟩ : Addr).add j) = some u := by
  intro j u hj
  subst hB
  match j, hj with
  | 0, hj => simp at hj; subst hj; exact cell_new1 w #[a, b] t 0
  | 1, hj => simp at hj; subst hj; exact cell_new1 w #[a, b] t 1
  | j + 2, hj => simp at hj
theorem two_one (a b : Int) : ∀ u ∈ [Value.int .i64 a, Value.int .i64 b], u.oneCell' = true := by
  intro u hu; simp at hu; rcases hu with rfl | rfl <;> rfl

/-- What a draw of a formula leaves. -/
def Drawn (w : World) (g : Nat) (A : Option Addr) (n c : Nat) (code : List Int) (size : Nat) (e : Ending) (w' : World) : Prop :=
  ∃ (L : List Int) (A' : Option Addr) (c' : Nat), e = .returned (.slice A' L.length c') ∧ 1 ≤ L.length ∧ L.length ≤ size ∧ (∀ z ∈ L, -18 ≤ z ∧ z ≤ 18) ∧ w'.ownsRow w.heap.size 2 1 (.slice A' L.length c') L.length (L.map (Value.int .i64)) ∧ Src w' g A n c code ∧ w.grownBy w' (some g)

/-- A list of one number in a new block. -/
theorem drawn_one {w wx : World} {g n c size : Nat} {A : Option Addr} {code : List Int} {r : Int} (hg : w.grownBy wx (some g)) (hs : Src wx g A n c code) (h1 : 1 ≤ size) (hr : -18 ≤ r ∧ r ≤ 18) :
    Drawn w g A n c code size (.returned (.slice (some ⟨wx.heap.size, 0, none⟩) 1 1)) (wx.alloc (.cells #[.int .i64 r] 2)) :=
  ⟨[r], _, _, rfl, by simp, by simpa using h1, by simpa using hr, World.ownsRow_lit (base := w.heap.size) (e := 2) (size := 1) wx #[.int .i64 r] 1 hg.size (by simp [maxLen]) rfl, hs.grown (grown_alloc wx _ none) (by simp), grown_own hg (grown_alloc wx _ none) (by simp)⟩
theorem own_keep {w w' : World} {base g k : Nat} {e : TypeId} {v : Value} {xs : List Value} (h : w.ownsRow base e 1 v k xs) (hg : w.grownBy w' (some g)) (hb : g < base) : w'.ownsRow base e 1 v k xs := by
  refine h.kept hg ?_
  cases hv : v.ownBlock with
  | none => exact .inl rfl
  | some q => exact .inr (by intro e; have := (h.lt q hv).1; injection e with e; omega)
theorem gives_val {w w' : World} {xs : List Int} {e : Ending} (h : Gives w xs e w') : ∃ v, e = .returned v := by
  obtain ⟨A, c, he, _⟩ := h
  exact ⟨_, he⟩
/-- An operator and two drawn formulas. -/
theorem drawn_two {w wx wy wz : World} {g n c size : Nat} {A : Option Addr} {code La Lb : List Int} {op : Int} {e : Ending} (hg : w.grownBy wx (some g)) (hg2 : wx.grownBy wy (some g)) (hs : Src wy g A n c code) (hG : Gives wy (op :: (La ++ Lb)) e wz)
    (h1 : 1 + La.length + Lb.length ≤ size) (hop : 11 ≤ op ∧ op ≤ 18) (ha : ∀ z ∈ La, -18 ≤ z ∧ z ≤ 18) (hb : ∀ z ∈ Lb, -18 ≤ z ∧ z ≤ 18) : Drawn w g A n c code size e wz := by
  obtain ⟨A2, c2, he, ho, hbel⟩ := hG
  have hgg := grownBy_trans hg hg2
  refine ⟨op :: (La ++ Lb), A2, c2, he, by simp, by simp; omega, fun z hz => ?_, ho.mono hgg.size, hs.below hbel hs.lt, grown_below hgg hbel⟩
  rcases List.mem_cons.1 hz with rfl | hz
  · omega
  · rcases List.mem_append.1 hz with hz | hz
    · exact ha z hz
    · exact hb z hz
/-- An operator and one drawn formula, appended. -/
theorem drawn_app {w wx wy wz : World} {g n c size n2 : Nat} {A : Option Addr} {code La : List Int} {op : Int} {v0 v2 : Value} {xs : List Value} (hg : w.grownBy wx (some g)) (hg2 : wx.grownBy wy (some g)) (hs : Src wy g A n c code) (hs0 : g < w.heap.size)
    (h0 : wy.ownsRow w.heap.size 2 1 v0 1 xs) (hown : wz.ownsRow w.heap.size 2 1 v2 n2 ([.int .i64 op] ++ La.map (Value.int .i64))) (hn : n2 = 1 + La.length) (hgrow : wy.grownBy wz v0.ownBlock)
    (h1 : 1 + La.length ≤ size) (hop : 11 ≤ op ∧ op ≤ 18) (ha : ∀ z ∈ La, -18 ≤ z ∧ z ≤ 18) : ∃ A2 c2, v2 = .slice A2 n2 c2 ∧ Drawn w g A n c code size (.returned (.slice A2 n2 c2)) wz := by
  obtain ⟨A2, c2, rfl⟩ := own_shape hown
  have hr : ∀ q, v0.ownBlock = some q → w.heap.size ≤ q := fun q hq => (h0.lt q hq).1
  have hgg := grownBy_trans hg hg2
  have e : (op :: La).length = n2 := by rw [hn]; simp; omega
  refine ⟨A2, c2, rfl, op :: La, A2, c2, by rw [e], by simp, by rw [e, hn]; exact h1, fun z hz => ?_, by rw [e]; exact hown, hs.grown hgrow (fun r hr' => by have := hr r hr'; omega), grown_own hgg hgrow hr⟩
  rcases List.mem_cons.1 hz with rfl | hz
  · omega
  · exact ha z hz

set_option maxRecDepth 100000 in
set_option maxHeartbeats 8000000 in
theorem drawForm_any (g n c : Nat) (A : Option Addr) (code : List Int) (fr : Int) : ∀ (size : Nat) (w : World), Src w g A n c code → 1 ≤ size → size ≤ 256 →
    Calls Tryd.prog 63 #[.pointer (some ⟨g, 0, none⟩), .int .i64 fr, .int .i64 size] w (Drawn w g A n c code size) := by
  intro size
  induction size using Nat.strongRecOn with
  | ind size ih =>
  intro w h hs1 hs2
  obtain ⟨i0, hi0, hz0, hz1, hz2⟩ := info_parts info_i64
  have hStart := Lib.hid (OpsL.start h)
  have IH := Lib.hid ih
  clear ih
  go_enter Tryd.func63, Tryd.ntmps63
  have HI := Lib.hid hi0; have HZ0 := Lib.hid hz0; have HZ1 := Lib.hid hz1; have HZ2 := Lib.hid hz2
  clear hi0 hz0 hz1 hz2
  go_upto_if 14 with (fail)
  go_cut [7] (fun v wx => ∃ (L : List Int) (A' : Option Addr) (c' : Nat), v = .slice A' L.length c' ∧ L.length ≤ 2 ∧ OpsL w g A n c code L A' c' wx)
  case first =>
    cases hb1 : (bits BinOp.and IntKind.i64 fr 1 != 0) with
    | false =>
      go_wp2_with (fail)
      go_meet
      exact ⟨[], _, _, rfl, by simp, hStart.out⟩
    | true =>
      go_wp2_with (at_builtin; refine wpList_append_own _ rfl _ _ 22 rfl w.heap.size 2 i0 (.int .i64 0) 1 8 Tryd.underlying22 HI.out HZ0.out HZ1.out HZ2.out rfl (by decide) _ _ _ rfl (hStart.out.own.alloc _) ⟨w.heap.size + 1, 0, none⟩ 2 2 [.int .i64 11, .int .i64 12] rfl rfl ?c1 ?c2 ?c3 ?c4 ?c5 ?_)
      case c1 => exact two_cells _ _ _ _ _ (by simp)
      case c2 => exact two_one 11 12
      case c3 => simp [maxLen]
      case c4 => simp
      case c5 => simp; omega
      intro v2 w2 hown2 hgrow2 _
      obtain ⟨A2, c2, rfl, hO⟩ := hStart.out.push (a := 11) (b := 12) (by omega) (by omega) hown2 hgrow2
      have HO := Lib.hid hO
      clear hown2 hgrow2 hO
      go_wp2_with (fail)
      go_meet
      exact ⟨[11, 12], _, _, rfl, by simp, HO.out⟩
  case rest =>
    obtain ⟨L, A', c', rfl, hL, hO⟩ := hcut
    have HO := Lib.hid hO
    clear hO
    go_upto_if 20 with (fail)
    go_cut [7] (fun v wx => ∃ (L : List Int) (A' : Option Addr) (c' : Nat), v = .slice A' L.length c' ∧ L.length ≤ 4 ∧ OpsL w g A n c code L A' c' wx)
    case first =>
      cases hb4 : (bits BinOp.and IntKind.i64 fr 4 != 0) with
      | false =>
        go_wp2_with (fail)
        go_meet
        exact ⟨L, _, _, rfl, by omega, HO.out⟩
      | true =>
        go_wp2_with (at_builtin; refine wpList_append_own _ rfl _ _ 22 rfl w.heap.size 2 i0 (.int .i64 0) 1 8 Tryd.underlying22 HI.out HZ0.out HZ1.out HZ2.out rfl (by decide) _ _ _ rfl (HO.out.own.alloc _) ⟨wc.heap.size, 0, none⟩ 2 2 [.int .i64 15, .int .i64 16] rfl rfl ?c1 ?c2 ?c3 ?c4 ?c5 ?_)
        case c1 => exact two_cells _ _ _ _ _ rfl
        case c2 => exact two_one 15 16
        case c3 => unfold maxLen; omega
        case c4 => omega
        case c5 => have := HO.out.grew.size; simp; omega
        intro v2 w2 hown2 hgrow2 _
        obtain ⟨A2, c2, rfl, hO⟩ := HO.out.push (a := 15) (b := 16) (by omega) (by omega) hown2 hgrow2
        have HO2 := Lib.hid hO
        have HL : Hid ((L ++ [15, 16]).length = L.length + 2) := Lib.hid (by simp)
        clear hown2 hgrow2 hO
        go_wp2_with (fail)
        go_meet
        exact ⟨L ++ [15, 16], _, _, by rw [HL.out], by rw [HL.out]; omega, HO2.out⟩
    case rest =>
      obtain ⟨L, A', c', rfl, hL, hO⟩ := hcut
      have HO := Lib.hid hO
      clear hO
      go_upto_region 6 with (fail)
      go_cut [35] (fun b wx => ∃ t : Bool, b = .bool t ∧ (t = true → 3 ≤ size ∧ 0 < L.length) ∧ OpsL w g A n c code L A' c' wx)
      case first =>
        by_cases hz3 : 3 ≤ size
        · have hd3 : decide (3 ≤ (size : Int)) = true := decide_eq_true (by omega)
          by_cases hl0 : 0 < L.length
          · have hd0 : decide (0 < (L.length : Int)) = true := decide_eq_true (by omega)
            go_wp2_with (go_at_call 64; refine (pick_any g n c A code 3 _ HO.out.src (by omega) (by omega)).mono ?_; rintro e w3 ⟨r, r1, r2, rfl, S3, G3⟩; have HO3 := Lib.hid (HO.out.kept S3 G3); clear S3 G3)
            go_meet
            exact ⟨_, rfl, fun _ => ⟨hz3, hl0⟩, HO3.out⟩
          · have hd0 : decide (0 < (L.length : Int)) = false := decide_eq_false (by omega)
            go_wp2_with (fail)
            go_meet
            exact ⟨_, rfl, (fun h => by cases h), HO.out⟩
        · have hd3 : decide (3 ≤ (size : Int)) = false := decide_eq_false (by omega)
          go_wp2_with (fail)
          go_meet
          exact ⟨_, rfl, (fun h => by cases h), HO.out⟩
      case rest =>
        obtain ⟨t, rfl, ht, hO⟩ := hcut
        have HO := Lib.hid hO
        clear hO
        cases t with
        | true =>
          obtain ⟨hz3, hl0⟩ := ht rfl
          clear ht
          go_wp2_with (fail)
          refine (pick_any g n c A code ((size : Int) - 2) _ HO.out.src (by omega) (by omega)).mono ?_
          rintro e w4 ⟨r1, p1, p2, rfl, S4, G4⟩
          obtain ⟨q1, rfl⟩ : ∃ q : Nat, r1 = q := ⟨r1.toNat, by omega⟩
          have HO4 := Lib.hid (HO.out.kept S4 G4)
          clear S4 G4
          go_wp2_with (fail)
          refine (pick_any g n c A code (L.length : Int) _ HO4.out.src (by omega) (by omega)).mono ?_
          rintro e w5 ⟨r2, p3, p4, rfl, S5, G5⟩
          obtain ⟨q2, rfl⟩ : ∃ q : Nat, r2 = q := ⟨r2.toNat, by omega⟩
          have HO5 := Lib.hid (HO4.out.kept S5 G5)
          clear S5 G5
          have hq2 : q2 < L.length := by omega
          obtain ⟨bo, zo, rfl, hz1, hz2, hco⟩ := HO5.out.at_ hq2
          have hI := IH.out (1 + q1) (by omega) w5 HO5.out.src (by omega) (by omega)
          rw [show ((1 + q1 : Nat) : Int) = 1 + (q1 : Int) by omega] at hI
          have HI1 := Lib.hid hI
          clear hI
          go_wp2_with (fail)
          refine HI1.out.mono ?_
          rintro e w6 ⟨La, Aa, ca, rfl, la1, la2, la3, oa, S6, G6⟩
          have hI := IH.out (size - 1 - La.length) (by omega) w6 S6 (by omega) (by omega)
          rw [show ((size - 1 - La.length : Nat) : Int) = (size : Int) - 1 - (La.length : Int) by omega] at hI
          have HI2 := Lib.hid hI
          have HLA := Lib.hid la3; have HOA := Lib.hid oa; have HS6 := Lib.hid S6; have HG6 := Lib.hid G6
          clear hI la3 oa S6 G6 HI1 hco
          go_wp2_with (fail)
          refine HI2.out.mono ?_
          rintro e w7 ⟨Lb, Ab, cb, rfl, lb1, lb2, lb3, ob, S7, G7⟩
          have hg5 : g < w5.heap.size := HO5.out.src.lt
          have oa7 := own_keep HOA.out G7 hg5
          have hJ := sjoined_any zo Aa La.length ca La Ab Lb.length cb Lb w7 (RdI.of_own oa7) (RdI.of_own ob) (by omega) (by omega) (by omega) (by omega)
          have HJ := Lib.hid hJ
          have hW7 : w.grownBy w7 (some g) := grownBy_trans (grownBy_trans HO5.out.grew HG6.out) G7
          have HD := Lib.hid (fun e wz (hG : Gives w7 (zo :: (La ++ Lb)) e wz) => drawn_two (size := size) hW7 (World.grownBy.refl w7 _) S7 hG (by omega) ⟨hz1, by omega⟩ HLA.out lb3)
          clear hJ oa7 ob S7 G7 lb3 hW7 HI2
          go_wp2_with (fail)
          refine HJ.out.mono ?_
          intro e w8 hG
          have hD := HD.out e w8 hG
          obtain ⟨v8, rfl⟩ := gives_val hG
          have HDD := Lib.hid hD
          clear hD hG HD HJ
          go_wp2
          go_ret
          exact HDD.out
        | false =>
          clear ht
          have HSr := Lib.hid HO.out.src
          have HGr := Lib.hid HO.out.grew
          have hgw : g < w.heap.size := h.lt
          go_upto_region 11 with (fail)
          go_cut [74] (fun b wx => ∃ t : Bool, b = .bool t ∧ (t = true → 2 ≤ size) ∧ Src wx g A n c code ∧ w.grownBy wx (some g))
          case first =>
            by_cases hz3 : 2 ≤ size
            · have hd3 : decide (2 ≤ (size : Int)) = true := decide_eq_true (by omega)
              cases hb8 : (bits BinOp.and IntKind.i64 fr 8 != 0) with
              | true =>
                go_wp2_with (go_at_call 64; refine (pick_any g n c A code 3 _ HSr.out (by omega) (by omega)).mono ?_; rintro e w3 ⟨r, r1, r2, rfl, S3, G3⟩; have HS3 := Lib.hid S3; have HG3 := Lib.hid (grownBy_trans HGr.out G3); clear S3 G3)
                go_meet
                exact ⟨_, rfl, fun _ => hz3, HS3.out, HG3.out⟩
              | false =>
                go_wp2_with (fail)
                go_meet
                exact ⟨_, rfl, (fun h => by cases h), HSr.out, HGr.out⟩
            · have hd3 : decide (2 ≤ (size : Int)) = false := decide_eq_false (by omega)
              go_wp2_with (fail)
              go_meet
              exact ⟨_, rfl, (fun h => by cases h), HSr.out, HGr.out⟩
          case rest =>
            obtain ⟨t, rfl, ht, hS, hG⟩ := hcut
            clear HSr HGr HO
            have HSr := Lib.hid hS; have HGr := Lib.hid hG
            clear hS hG
            cases t with
            | true =>
              have hz3 := ht rfl
              clear ht
              go_wp2_with (fail)
              refine (pick_any g n c A code 2 _ HSr.out (by omega) (by omega)).mono ?_
              rintro e w4 ⟨r, r1, r2, rfl, S4, G4⟩
              have hG4 := grownBy_trans HGr.out G4
              have h0 := World.ownsRow_lit (base := w.heap.size) (e := 2) (size := 1) w4 #[.int .i64 (17 + r)] 1 hG4.size (by simp [maxLen]) rfl
              have S5 := S4.grown (grown_alloc w4 (.cells #[.int .i64 (17 + r)] 2) none) (by simp)
              have hG5 := grown_own hG4 (grown_alloc w4 (.cells #[.int .i64 (17 + r)] 2) none) (by simp)
              have hI := IH.out (size - 1) (by omega) _ S5 (by omega) (by omega)
              rw [show ((size - 1 : Nat) : Int) = (size : Int) - 1 by omega] at hI
              have HI1 := Lib.hid hI; have HH0 := Lib.hid h0; have HG5 := Lib.hid hG5
              clear hI h0 hG5 hG4 S5 S4 G4
              go_wp2_with (fail)
              refine HI1.out.mono ?_
              rintro e w6 ⟨La, Aa, ca, rfl, la1, la2, la3, oa, S6, G6⟩
              obtain ⟨ba, capa, hva, _, _⟩ := oa.form (by omega)
              have hAa : Aa = some ⟨ba, 0, none⟩ := by injection hva
              subst hAa
              have h06 := own_keep HH0.out G6 hgw
              have ra := RdI.of_own oa
              obtain ⟨b', off', hbo, _, hcs⟩ := ra.2 (by omega)
              have hbo' : ba = b' ∧ 0 = off' := by injection hbo with hbo; injection hbo with h1 h2 _; exact ⟨h1, h2⟩
              obtain ⟨rfl, rfl⟩ := hbo'
              have HN := Lib.hid (part_news (zs := La) hcs)
              have HN1 := Lib.hid (ints_one La)
              have HNL : Hid ((La.map (Value.int .i64)).length = La.length * 1) := Lib.hid (by simp)
              have HM1 : Hid (1 + La.length ≤ maxLen) := Lib.hid (by unfold maxLen; omega)
              have HS1 : Hid ((1 + La.length) * 8 ≤ 140737488355328) := Lib.hid (by omega)
              have HSz : Hid (w.heap.size ≤ w6.heap.size) := Lib.hid (grownBy_trans HG5.out G6).size
              have HH6 := Lib.hid h06
              have HD := Lib.hid (fun wz v2 n2 hown hn hgrow => drawn_app (size := size) (op := 17 + r) (wz := wz) (v2 := v2) (n2 := n2) HG5.out G6 S6 hgw h06 hown hn hgrow (by omega) (by omega) la3)
              clear hva hbo hcs ra oa S6 G6 h06 la3 HI1 HH0 HG5
              go_wp2_with (at_builtin; refine wpList_append_own _ rfl (.tmp 78) (.tmp 83) 22 rfl w.heap.size 2 i0 (.int .i64 0) 1 8 Tryd.underlying22 HI.out HZ0.out HZ1.out HZ2.out rfl (by decide) _ _ _ rfl HH6.out ⟨ba, 0, none⟩ La.length ca (La.map (Value.int .i64)) rfl HNL.out HN.out HN1.out HM1.out HS1.out HSz.out ?_; intro v2 w7 hown2 hgrow2 _; obtain ⟨A7, c7, rfl, hDr⟩ := HD.out w7 v2 _ hown2 rfl hgrow2; have HDr := Lib.hid hDr; clear hDr hown2 hgrow2)
              go_ret
              exact HDr.out
            | false =>
              clear ht
              go_upto_region 13 with (fail)
              go_cut [92] (fun b wx => ∃ t : Bool, b = .bool t ∧ Src wx g A n c code ∧ w.grownBy wx (some g))
              case first =>
                cases hb2 : (bits BinOp.and IntKind.i64 fr 2 != 0) with
                | true =>
                  go_wp2_with (go_at_call 64; refine (pick_any g n c A code 4 _ HSr.out (by omega) (by omega)).mono ?_; rintro e w3 ⟨r, r1, r2, rfl, S3, G3⟩; have HS3 := Lib.hid S3; have HG3 := Lib.hid (grownBy_trans HGr.out G3); clear S3 G3)
                  go_meet
                  exact ⟨_, rfl, HS3.out, HG3.out⟩
                | false =>
                  go_wp2_with (fail)
                  go_meet
                  exact ⟨_, rfl, HSr.out, HGr.out⟩
              case rest =>
                obtain ⟨t, rfl, hS, hG⟩ := hcut
                clear HSr HGr
                have HSr := Lib.hid hS; have HGr := Lib.hid hG
                clear hS hG
                cases t with
                | true =>
                  go_wp2_with (go_at_call 64; refine (pick_any g n c A code 2 _ HSr.out (by omega) (by omega)).mono ?_; rintro e w3 ⟨r, r1, r2, rfl, S3, G3⟩; have HD := Lib.hid (drawn_one (r := 13 + r) (size := size) (grownBy_trans HGr.out G3) S3 hs1 (by omega)); clear S3 G3)
                  go_ret
                  exact HD.out
                | false =>
                  go_wp2_with (go_at_call 65; refine (drawAtom_any g n c A code _ HSr.out).mono ?_; rintro e w3 ⟨r, r1, r2, rfl, S3, G3⟩; have HD := Lib.hid (drawn_one (r := r) (size := size) (grownBy_trans HGr.out G3) S3 hs1 (by omega)); clear S3 G3)
                  go_ret
                  exact HD.out

theorem own_short {w : World} {base n k c : Nat} {e : TypeId} {A : Option Addr} {xs : List Value} (h : w.ownsRow base e 1 (.slice A n c) n xs) (hk : k ≤ n) : w.ownsRow base e 1 (.slice A k c) k (xs.take k) := by
  obtain ⟨h1, h2⟩ := h
  refine ⟨by rw [List.length_take]; omega, ?_⟩
  rcases h2 with ⟨hv, rfl⟩ | ⟨g, cap, cur, hv, hb, hh, hn, hc, hs, ht⟩
  · have : k = 0 := by omega
    subst this
    exact .inl ⟨hv, rfl⟩
  · refine .inr ⟨g, cap, cur, ?_, hb, hh, by omega, hc, hs, ?_⟩
    · injection hv with a1 a2 a3
      rw [a1, a3]
    · rw [← ht, List.take_take, Nat.mul_one, Nat.mul_one, Nat.min_eq_left hk]


/-- What the draw of a list leaves. -/
def DrawnAny (w : World) (g : Nat) (A : Option Addr) (n c : Nat) (code : List Int) (e : Ending) (w' : World) : Prop :=
  ∃ (L : List Int) (A' : Option Addr) (c' : Nat), e = .returned (.slice A' L.length c') ∧ L.length ≤ 64 ∧ (∀ z ∈ L, -18 ≤ z ∧ z ≤ 18) ∧ w'.ownsRow w.heap.size 2 1 (.slice A' L.length c') L.length (L.map (Value.int .i64)) ∧ Src w' g A n c code ∧ w.grownBy w' (some g)

theorem any_app {w wy wz : World} {g n c n2 : Nat} {A : Option Addr} {code L : List Int} {z : Int} {v0 v2 : Value} {o : Obj} (hg : w.grownBy wy (some g)) (hs : Src wy g A n c code) (hs0 : g < w.heap.size)
    (h0 : wy.ownsRow w.heap.size 2 1 v0 L.length (L.map (Value.int .i64))) (hown : wz.ownsRow w.heap.size 2 1 v2 n2 (L.map (Value.int .i64) ++ [.int .i64 z])) (hn : n2 = L.length + 1) (hgrow : (wy.alloc o).grownBy wz v0.ownBlock)
    (h1 : L.length + 1 ≤ 64) (hz : -18 ≤ z ∧ z ≤ 18) (ha : ∀ z ∈ L, -18 ≤ z ∧ z ≤ 18) : ∃ A2 c2, v2 = .slice A2 n2 c2 ∧ DrawnAny w g A n c code (.returned (.slice A2 n2 c2)) wz := by
  obtain ⟨A2, c2, rfl⟩ := own_shape hown
  have hr : ∀ q, v0.ownBlock = some q → w.heap.size ≤ q := fun q hq => (h0.lt q hq).1
  have e : (L ++ [z]).length = n2 := by rw [hn]; simp
  refine ⟨A2, c2, rfl, L ++ [z], A2, c2, by rw [e], by rw [e, hn]; exact h1, fun y hy => ?_, by rw [e, List.map_append]; exact hown, (hs.grown (grown_alloc wy o none) (by simp)).grown hgrow (fun r hr' => by have := hr r hr'; omega), grown_own (grown_own hg (grown_alloc wy o none) (by simp)) hgrow hr⟩
  rcases List.mem_append.1 hy with hy | hy
  · exact ha y hy
  · have : y = z := by simpa using hy
    subst this
    exact hz
theorem any_set {w wy : World} {g n c ba j cc : Nat} {A : Option Addr} {code L : List Int} {z : Int} (hg : w.grownBy wy (some g)) (hs : Src wy g A n c code) (hs0 : g < w.heap.size)
    (h0 : wy.ownsRow w.heap.size 2 1 (.slice (some ⟨ba, 0, none⟩) L.length cc) L.length (L.map (Value.int .i64))) (h1 : L.length ≤ 64) (hz : -18 ≤ z ∧ z ≤ 18) (ha : ∀ z ∈ L, -18 ≤ z ∧ z ≤ 18) :
    DrawnAny w g A n c code (.returned (.slice (some ⟨ba, 0, none⟩) L.length cc)) (wy.setCell ⟨ba, j, none⟩ (.int .i64 z)) := by
  obtain ⟨s1, s2⟩ := h0.stored j (.int .i64 z)
  have hb : w.heap.size ≤ ba := (h0.lt ba rfl).1
  have e : (L.map (Value.int .i64)).set j (.int .i64 z) = (L.set j z).map (Value.int .i64) := by rw [List.map_set]
  rw [e] at s1
  have el : (L.set j z).length = L.length := by simp
  refine ⟨L.set j z, _, cc, by rw [el], by rw [el]; exact h1, fun y hy => ?_, by rw [el]; exact s1, hs.grown s2 (fun r hr => by injection hr with hr; omega), grown_own hg s2 (fun q hq => by injection hq with hq; omega)⟩
  rcases List.mem_or_eq_of_mem_set hy with hy | rfl
  · exact ha y hy
  · exact hz

set_option maxHeartbeats 4000000 in
theorem drawAny_any (g n c : Nat) (A : Option Addr) (code : List Int) (w : World) (h : Src w g A n c code) :
    Calls Tryd.prog 37 #[.pointer (some ⟨g, 0, none⟩)] w (DrawnAny w g A n c code) := by
  obtain ⟨i0, hi0, hz0, hz1, hz2⟩ := info_parts info_i64
  have hgw : g < w.heap.size := h.lt
  go_enter Tryd.func37, Tryd.ntmps37
  go_wp2_with (fail)
  refine (pick_any g n c A code 16 w h (by omega) (by omega)).mono ?_
  rintro e w1 ⟨fr, _, _, rfl, S1, G1⟩
  go_wp2_with (fail)
  refine (pick_any g n c A code 12 w1 S1 (by omega) (by omega)).mono ?_
  rintro e w2 ⟨r1, p1, p2, rfl, S2, G2⟩
  obtain ⟨q1, rfl⟩ : ∃ q : Nat, r1 = q := ⟨r1.toNat, by omega⟩
  have hI := drawForm_any g n c A code fr (1 + q1) w2 S2 (by omega) (by omega)
  rw [show ((1 + q1 : Nat) : Int) = 1 + (q1 : Int) by omega] at hI
  have HI1 := Lib.hid hI
  clear hI
  go_wp2_with (fail)
  refine HI1.out.mono ?_
  rintro e w3 ⟨L, A3, c3, rfl, l1, l2, l3, o3, S3, G3⟩
  have G13 := grownBy_trans (grownBy_trans G1 G2) G3
  have o3' := o3.mono (grownBy_trans G1 G2).size
  go_wp2_with (fail)
  refine (pick_any g n c A code 12 w3 S3 (by omega) (by omega)).mono ?_
  rintro e w4 ⟨r, p3, p4, rfl, S4, G4⟩
  have HS := Lib.hid S4; have HG := Lib.hid (grownBy_trans G13 G4); have HO := Lib.hid (own_keep o3' G4 hgw); have HL3 := Lib.hid l3
  have HI := Lib.hid hi0; have HZ0 := Lib.hid hz0; have HZ1 := Lib.hid hz1; have HZ2 := Lib.hid hz2
  clear S1 G1 S2 G2 o3 S3 G3 G13 o3' S4 G4 l3 hi0 hz0 hz1 hz2 HI1
  have l1' : L.length + 1 ≤ 64 := by omega
  by_cases e0 : r = 0
  · subst e0
    go_wp2_with (fail)
    refine (drawAtom_any g n c A code w4 HS.out).mono ?_
    rintro e w5 ⟨z, z1, z2, rfl, S5, G5⟩
    have o5 := own_keep HO.out G5 hgw
    have hsz := (grownBy_trans HG.out G5).size
    have HD := Lib.hid (fun wz v2 n2 hown (hn : n2 = L.length + 1) hgrow => any_app (o := .cells #[.int .i64 z] 2) (wz := wz) (v2 := v2) (n2 := n2) (z := z) (grownBy_trans HG.out G5) S5 hgw o5 hown hn hgrow l1' (by omega) HL3.out)
    clear S5 G5
    go_wp2_with (at_builtin; refine wpList_append_own _ rfl (.tmp 15) (.tmp 18) 22 rfl w.heap.size 2 i0 (.int .i64 0) 1 8 Tryd.underlying22 HI.out HZ0.out HZ1.out HZ2.out rfl (by decide) _ _ _ rfl (o5.alloc _) ⟨w5.heap.size, 0, none⟩ 1 1 [.int .i64 z] rfl rfl ?c1 ?c2 ?c3 ?c4 ?c5 ?_)
    case c1 => exact cell_one_new _ _ _
    case c2 => intro u hu; simp at hu; subst hu; rfl
    case c3 => unfold maxLen; omega
    case c4 => omega
    case c5 => simp; omega
    intro v2 w6 hown2 hgrow2 _
    obtain ⟨A7, c7, rfl, hDr⟩ := HD.out w6 v2 _ hown2 rfl hgrow2
    have HDr := Lib.hid hDr
    clear hDr hown2 hgrow2 HD o5
    go_wp2
    go_ret
    exact HDr.out
  · have f0 : (r == 0) = false := by simpa using e0
    by_cases e1 : r = 1
    · subst e1
      obtain ⟨m, hm⟩ : ∃ m, L.length = m + 1 := ⟨L.length - 1, by omega⟩
      have HSh : Hid (DrawnAny w g A n c code (.returned (.slice A3 m c3)) w4) := by
        have ho := own_short HO.out (k := m) (by omega)
        refine ⟨L.take m, A3, c3, by rw [List.length_take, Nat.min_eq_left (by omega)], by rw [List.length_take]; omega, fun z hz => HL3.out z (List.mem_of_mem_take hz), ?_, HS.out, HG.out⟩
        rw [List.length_take, Nat.min_eq_left (by omega), List.map_take]
        exact ho
      have hcap := own_cap HO.out
      have hc1 : m + 1 ≤ c3 := by omega
      have hc2 : c3 ≤ 9223372036854775807 := by have := hcap.2; unfold maxLen at this; omega
      rw [hm]
      clear hcap l1 l2 l1' HO HL3 hm
      go_wp2
      go_ret
      exact HSh.out
    · have f1 : (r == 1) = false := by simpa using e1
      by_cases e2 : r = 2
      · subst e2
        go_wp2_with (fail)
        refine (pick_any g n c A code (L.length : Int) w4 HS.out (by omega) (by omega)).mono ?_
        rintro e w5 ⟨j0, j1, j2, rfl, S5, G5⟩
        obtain ⟨j, rfl⟩ : ∃ q : Nat, j0 = q := ⟨j0.toNat, by omega⟩
        go_wp2_with (fail)
        refine (pick_any g n c A code 24 w5 S5 (by omega) (by omega)).mono ?_
        rintro e w6 ⟨z, z1, z2, rfl, S6, G6⟩
        have hjl : j < L.length := by omega
        have G56 := grownBy_trans (grownBy_trans HG.out G5) G6
        have o6 := own_keep (own_keep HO.out G5 hgw) G6 hgw
        obtain ⟨ba, capa, hva, _, _⟩ := o6.form (by omega)
        have hA3 : A3 = some ⟨ba, 0, none⟩ := by injection hva
        subst hA3
        have hcell := o6.cellAt (g := ba) j (by omega)
        obtain ⟨o, hoo⟩ : ∃ o, (L.map (Value.int .i64))[j]? = some o := ⟨_, List.getElem?_eq_getElem (by simpa using hjl)⟩
        rw [hoo] at hcell
        have hfr := o6.frozenAt (g := ba) j
        have HD : Hid (DrawnAny w g A n c code (.returned (.slice (some ⟨ba, 0, none⟩) L.length c3)) (w6.setCell ⟨ba, j, none⟩ (.int .i64 (z - 10)))) := Lib.hid (any_set G56 S6 hgw o6 (by omega) (by omega) HL3.out)
        clear S5 G5 S6 G6 G56 o6 hva hoo HO HL3
        go_wp2
        go_ret
        exact HD.out
      · have f2 : (r == 2) = false := by simpa using e2
        by_cases e3 : r = 3
        · subst e3
          go_wp2_with (fail)
          refine (pick_any g n c A code 10 w4 HS.out (by omega) (by omega)).mono ?_
          rintro e w5 ⟨r5, j1, j2, rfl, S5, G5⟩
          obtain ⟨q5, rfl⟩ : ∃ q : Nat, r5 = q := ⟨r5.toNat, by omega⟩
          have hI := drawForm_any g n c A code 1 (20 + q5) w5 S5 (by omega) (by omega)
          rw [show ((20 + q5 : Nat) : Int) = 20 + (q5 : Int) by omega] at hI
          have HI5 := Lib.hid hI
          have HG5 := Lib.hid (grownBy_trans HG.out G5)
          clear hI S5 G5
          go_wp2_with (fail)
          refine HI5.out.mono ?_
          rintro e w6 ⟨L6, A6, c6, rfl, m1, m2, m3, o6, S6, G6⟩
          have HD : Hid (DrawnAny w g A n c code (.returned (.slice A6 L6.length c6)) w6) := Lib.hid ⟨L6, A6, c6, rfl, by omega, m3, o6.mono HG5.out.size, S6, grownBy_trans HG5.out G6⟩
          clear o6 S6 G6 m3 HI5
          go_wp2
          go_ret
          exact HD.out
        · have f3 : (r == 3) = false := by simpa using e3
          clear e0 e1 e2 e3
          go_wp2
          go_ret
          exact ⟨L, _, _, rfl, by omega, HL3.out, HO.out, HS.out, HG.out⟩

/-- What a source made of a code leaves. -/
def Coded (w : World) (A : Option Addr) (n c : Nat) (code : List Int) (e : Ending) (w' : World) : Prop :=
  e = .returned (.pointer (some ⟨w.heap.size, 0, none⟩)) ∧ Src w' w.heap.size A n c code ∧ Below w.heap.size w w'

set_option maxRecDepth 100000 in
set_option maxHeartbeats 2000000 in
theorem fromCode_any (A : Option Addr) (n c : Nat) (code : List Int) (w : World) (h : RdB w w.heap.size A n code) (hn : n ≤ 4096) :
    Calls Tryd.prog 38 #[.slice A n c] w (Coded w A n c code) := by
  have H0 : Hid ((w.alloc (.cells #[.slice A n c, .int .i64 0, .int .i64 12345] 70)).heap[w.heap.size]? = some (.cells #[.slice A n c, .int .i64 0, .int .i64 12345] 70 (0, 0))) := Lib.hid (heap_alloc_new w _)
  have HB0 : Hid (Below w.heap.size w (w.alloc (.cells #[.slice A n c, .int .i64 0, .int .i64 12345] 70))) := Lib.hid ((Below.refl _ _).alloc (Nat.le_refl _) _)
  go_enter Tryd.func38, Tryd.ntmps38
  go_wp2
  go_loopw [4] (fun i wr => ∃ (k : Nat) (s : Int), k ≤ n ∧ i = .int .i64 k ∧ 0 ≤ s ∧ s ≤ 2147483646 ∧ wr.heap[w.heap.size]? = some (.cells #[.slice A n c, .int .i64 0, .int .i64 s] 70 (0, 0)) ∧ Below w.heap.size w wr) (fun i _ => n - (intOf i).toNat)
  case atStart => exact ⟨0, 12345, Nat.zero_le _, rfl, by omega, by omega, H0.out, HB0.out⟩
  case round =>
    obtain ⟨k, s, hk, rfl, h4, h5, hrow, hb⟩ := hrel
    clear H0 HB0
    have HSrc : Hid (Src wr w.heap.size A n c code) := Lib.hid ⟨h.keep (fun p hp => hb.cell hp), hn, 0, s, Nat.zero_le _, h4, h5, hrow⟩
    have HB := Lib.hid hb
    by_cases hlt : k < n
    · have hd1 : decide ((k : Int) < (n : Int)) = true := decide_eq_true (by omega)
      by_cases h64 : k < 64
      · have hd2 : decide ((k : Int) < 64) = true := decide_eq_true (by omega)
        obtain ⟨b, off, rfl, hbb, hcells⟩ := h.2.2 (by omega)
        have hc := (hb.cell (p := ⟨b, off + k, none⟩) hbb).trans (hcells k hlt)
        have hr := h.at_range hlt
        generalize code.getD k 0 = x at hc hr
        have hx1 : 0 ≤ x := hr.1
        have hx2 : x ≤ 255 := hr.2
        have c2 : wr.cell? ⟨w.heap.size, 2, none⟩ = some (.int .i64 s) := cell_of_row wr w.heap.size 2 _ _ (0, 0) hrow
        have f2 : wr.frozen? ⟨w.heap.size, 2, none⟩ = false := frozen_of_row wr w.heap.size 2 _ _ hrow
        have hset := heap_setCell_same wr w.heap.size 2 _ _ (.int .i64 ((s * 31 + x) % 2147483647)) hrow
        have HS : Hid ((wr.setCell ⟨w.heap.size, 2, none⟩ (.int .i64 ((s * 31 + x) % 2147483647))).heap[w.heap.size]? = some (.cells #[.slice (some ⟨b, off, none⟩) n c, .int .i64 0, .int .i64 ((s * 31 + x) % 2147483647)] 70 (0, 0))) := Lib.hid (by simpa using hset)
        have HB2 := Lib.hid (hb.setCell (p := ⟨w.heap.size, 2, none⟩) (Nat.le_refl _) (.int .i64 ((s * 31 + x) % 2147483647)))
        have hs1 : 0 ≤ (s * 31 + x) % 2147483647 := Int.emod_nonneg _ (by omega)
        have hs2 : (s * 31 + x) % 2147483647 < 2147483647 := Int.emod_lt_of_pos _ (by omega)
        have HS1 := Lib.hid hs1; have HS2 := Lib.hid hs2
        clear hrow hb hcells hr hset hs1 hs2
        go_wp2
        go_still_tail 15, (by kernel_rfl)
        change wpList _ _ _ _ _ wr.drew
        go_wp2
        go_roundw
        case rel => exact ⟨k + 1, _, by omega, by go_num, HS1.out, by have := HS2.out; omega, HS.out, HB2.out.drew⟩
        case measure => simp [intOf]; omega
      · have hd2 : decide ((k : Int) < 64) = false := decide_eq_false (by omega)
        clear hrow hb
        go_wp2
        go_ret
        exact ⟨rfl, HSrc.out, HB.out⟩
    · have hd1 : decide ((k : Int) < (n : Int)) = false := decide_eq_false (by omega)
      clear hrow hb
      go_wp2
      go_ret
      exact ⟨rfl, HSrc.out, HB.out⟩

/-- What a draw from a code leaves. -/
def DrawnFrom (w : World) (e : Ending) (w' : World) : Prop :=
  ∃ (L : List Int) (A' : Option Addr) (c' : Nat), e = .returned (.slice A' L.length c') ∧ L.length ≤ 64 ∧ (∀ z ∈ L, -18 ≤ z ∧ z ≤ 18) ∧ w'.ownsRow w.heap.size 2 1 (.slice A' L.length c') L.length (L.map (Value.int .i64)) ∧ Below w.heap.size w w'
theorem drawnFrom_of {w w1 w2 : World} {A : Option Addr} {n c : Nat} {code : List Int} {e : Ending} (hb : Below w.heap.size w w1) (hd : DrawnAny w1 w.heap.size A n c code e w2) : DrawnFrom w e w2 := by
  obtain ⟨L, A', c', he, h1, h2, h3, h4, h5⟩ := hd
  refine ⟨L, A', c', he, h1, h2, h3.mono hb.size, hb.grown h5 hb.size (fun k hk => by injection hk with hk; omega)⟩
end Go.Proofs.YtjdmcpaolhnejaaDoor
