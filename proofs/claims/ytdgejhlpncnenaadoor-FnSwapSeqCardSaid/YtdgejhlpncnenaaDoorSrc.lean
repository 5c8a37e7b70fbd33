/- The model's draws: a source of numbers in a block of the call's own, and what is picked from it. Nothing is said of which numbers are drawn, only of their range and of the memory. -/
import Derived.Test.YtdgejhlpncnenaaDoorJoinS
namespace Go.Proofs.YtdgejhlpncnenaaDoor
open Go.RowKit

/-- The slice value '.slice A n c' reads as the bytes code, its cells below block B. -/
def RdB (w : World) (B : Nat) (A : Option Addr) (n : Nat) (code : List Int) : Prop :=
  code.length = n ∧ (∀ z ∈ code, 0 ≤ z ∧ z ≤ 255) ∧ (0 < n → ∃ b off, A = some ⟨b, off, none⟩ ∧ b < B ∧ ∀ j, j < n → w.cell? ⟨b, off + j, none⟩ = some (.int .u8 (code.getD j 0)))
theorem RdB.keep {w w' : World} {B n : Nat} {A : Option Addr} {code : List Int} (h : RdB w B A n code) (hk : ∀ p : Addr, p.block < B → w'.cell? p = w.cell? p) : RdB w' B A n code :=
  ⟨h.1, h.2.1, fun hn => by
    obtain ⟨b, off, e, hb, hc⟩ := h.2.2 hn
    exact ⟨b, off, e, hb, fun j hj => (hk _ hb).trans (hc j hj)⟩⟩
theorem RdB.at_range {w : World} {B n : Nat} {A : Option Addr} {code : List Int} (h : RdB w B A n code) {j : Nat} (hj : j < n) : 0 ≤ code.getD j 0 ∧ code.getD j 0 ≤ 255 := by
  have hl : j < code.length := by have := h.1; omega
  exact h.2.1 _ (by simp [List.getD, hl])

/-- The source at block g: its code (which lies below block g), how far it has been read, its seed. -/
def Src (w : World) (g : Nat) (A : Option Addr) (n c : Nat) (code : List Int) : Prop :=
  RdB w g A n code ∧ n ≤ 4096 ∧ ∃ (k : Nat) (s : Int), k ≤ n ∧ 0 ≤ s ∧ s ≤ 2147483646 ∧ w.heap[g]? = some (.cells #[.slice A n c, .int .i64 k, .int .i64 s] 83 (0, 0))
theorem Src.lt {w : World} {g n c : Nat} {A : Option Addr} {code : List Int} (h : Src w g A n c code) : g < w.heap.size := by
  obtain ⟨_, _, k, s, _, _, _, hh⟩ := h
  rcases Nat.lt_or_ge g w.heap.size with hlt | hge
  · exact hlt
  · rw [Array.getElem?_eq_none hge] at hh; cases hh
theorem Src.same {w w' : World} {g n c : Nat} {A : Option Addr} {code : List Int} (h : Src w g A n c code) (hk : ∀ k, k ≤ g → w'.heap[k]? = w.heap[k]?) : Src w' g A n c code := by
  obtain ⟨h1, h2, k, s, h3, h4, h5, hh⟩ := h
  refine ⟨h1.keep fun p hp => World.cell?_of_block (hk _ (by omega)), h2, k, s, h3, h4, h5, (hk g (Nat.le_refl _)).trans hh⟩
theorem Src.below {w w' : World} {B g n c : Nat} {A : Option Addr} {code : List Int} (h : Src w g A n c code) (hb : Below B w w') (hB : g < B) : Src w' g A n c code :=
  h.same fun k hk => hb.block k (by omega)
theorem Src.grown {w w' : World} {g n c : Nat} {A : Option Addr} {code : List Int} {row : Option Nat} (h : Src w g A n c code) (hg : w.grownBy w' row) (hr : ∀ r, row = some r → g < r) : Src w' g A n c code :=
  h.same fun k hk => hg.block k (by have := h.lt; omega) (fun e => by have := hr k e.symm; omega)
theorem grown_alloc (w : World) (o : Obj) (r : Option Nat) : w.grownBy (w.alloc o) r := ⟨rfl, rfl, rfl, by simp, fun k hk _ => Below.heap_alloc w o k hk⟩
/-- What grew by blocks of its own still has turned one row alone. -/
theorem grown_own {w wx w2 : World} {g : Nat} {row : Option Nat} (h : w.grownBy wx (some g)) (h2 : wx.grownBy w2 row) (hr : ∀ q, row = some q → w.heap.size ≤ q) : w.grownBy w2 (some g) :=
  ⟨h2.os.trans h.os, h2.tape.trans h.tape, h2.output.trans h.output, Nat.le_trans h.size h2.size, fun k hk hne => (h2.block k (Nat.lt_of_lt_of_le hk h.size) (fun e => by have := hr k e.symm; omega)).trans (h.block k hk hne)⟩
theorem grown_below {w wx w2 : World} {g : Nat} (h : w.grownBy wx (some g)) (h2 : Below wx.heap.size wx w2) : w.grownBy w2 (some g) :=
  ⟨h2.os.trans h.os, h2.tape.trans h.tape, h2.output.trans h.output, Nat.le_trans h.size h2.size, fun k hk hne => (h2.block k (Nat.lt_of_lt_of_le hk h.size)).trans (h.block k hk hne)⟩

/-- A store into the source. -/
theorem Src.set_ {w : World} {g n c : Nat} {A : Option Addr} {code : List Int} {cs : Array Value} {j k' : Nat} {s' : Int} {u : Value} (q : Nat) (h1 : RdB w g A n code) (h2 : n ≤ 4096) (hh : w.heap[g]? = some (.cells cs 83 (0, 0)))
    (he : cs.setIfInBounds j u = #[.slice A n c, .int .i64 k', .int .i64 s']) (hk : k' ≤ n) (hs : 0 ≤ s' ∧ s' ≤ 2147483646) : Src ((w.setCell ⟨g, j, none⟩ u).drewN q) g A n c code ∧ w.grownBy ((w.setCell ⟨g, j, none⟩ u).drewN q) (some g) := by
  have hset := heap_setCell_same w g j cs 83 u hh
  rw [he] at hset
  refine ⟨⟨h1.keep fun p hp => ?_, h2, k', s', hk, hs.1, hs.2, hset⟩, rfl, rfl, rfl, by simp [World.setCell, World.drewN], fun k hk hne => ?_⟩
  · show (w.setCell ⟨g, j, none⟩ u).cell? p = w.cell? p
    exact World.cell?_of_block (Below.heap_setCell w _ u p.block (by show p.block ≠ g; omega))
  · show (w.setCell ⟨g, j, none⟩ u).heap[k]? = w.heap[k]?
    exact Below.heap_setCell w _ u k (fun e => hne (by rw [e]))
theorem grownBy_drewN {w w' : World} {r : Option Nat} (h : w.grownBy w' r) (q : Nat) : w.grownBy (w'.drewN q) r := ⟨h.os, h.tape, h.output, h.size, h.block⟩
theorem grownBy_weak {w w' : World} {r : Option Nat} (h : w.grownBy w' none) : w.grownBy w' r := ⟨h.os, h.tape, h.output, h.size, fun k hk _ => h.block k hk (by simp)⟩

/-- What a pick leaves. -/
def Picked (w : World) (g : Nat) (A : Option Addr) (n c : Nat) (code : List Int) (m : Int) (e : Ending) (w' : World) : Prop :=
  ∃ r : Int, 0 ≤ r ∧ r < m ∧ e = .returned (.int .i64 r) ∧ Src w' g A n c code ∧ w.grownBy w' (some g)

set_option maxHeartbeats 2000000 in
theorem pick_any (g n c : Nat) (A : Option Addr) (code : List Int) (m : Int) (w : World) (h : Src w g A n c code) (hm1 : 1 ≤ m) (hm : m ≤ 256) :
    Calls Tryd.prog 74 #[.pointer (some ⟨g, 0, none⟩), .int .i64 m] w (Picked w g A n c code m) := by
  by_cases hm2 : m ≤ 1
  · go_enter Tryd.func74, Tryd.ntmps74
    go_wp2
    go_ret
    exact ⟨0, by omega, by omega, rfl, h, World.grownBy.refl w _⟩
  · obtain ⟨h1, h2, k, s, h3, h4, h5, hh⟩ := h
    have c0 : w.cell? ⟨g, 0, none⟩ = some (.slice A n c) := cell_of_row w g 0 _ _ (0, 0) hh
    have c1 : w.cell? ⟨g, 1, none⟩ = some (.int .i64 k) := cell_of_row w g 1 _ _ (0, 0) hh
    have c2 : w.cell? ⟨g, 2, none⟩ = some (.int .i64 s) := cell_of_row w g 2 _ _ (0, 0) hh
    have f1 : w.frozen? ⟨g, 1, none⟩ = false := frozen_of_row w g 1 _ _ hh
    have f2 : w.frozen? ⟨g, 2, none⟩ = false := frozen_of_row w g 2 _ _ hh
    have HH := Lib.hid hh
    have H1 := Lib.hid h1
    clear hh
    by_cases hlt : k < n
    · obtain ⟨b, off, rfl, hbb, hcells⟩ := h1.2.2 (by omega)
      have hc := hcells k hlt
      have hr := h1.at_range hlt
      generalize code.getD k 0 = x at hc hr
      have hx1 : 0 ≤ x := hr.1
      have hx2 : x ≤ 255 := hr.2
      clear hcells hr h1
      go_enter Tryd.func74, Tryd.ntmps74
      go_wp2
      go_quiet (fail)
      go_wp2
      go_quiet (fail)
      go_wp2
      go_ret
      have S := fun q => Src.set_ (A := some ⟨b, off, none⟩) (c := c) (j := 1) (u := .int .i64 ((k : Int) + 1)) (k' := k + 1) (s' := s) q H1.out h2 HH.out (by simp) (by omega) ⟨h4, h5⟩
      exact ⟨_, Int.emod_nonneg _ (by omega), Int.emod_lt_of_pos _ (by omega), rfl, (S _).1, (S _).2⟩
    · go_enter Tryd.func74, Tryd.ntmps74
      go_wp2
      go_quiet (fail)
      go_wp2
      go_ret
      have hs1 : 0 ≤ (s * 48271 + 11) % 2147483647 := Int.emod_nonneg _ (by omega)
      have hs2 : (s * 48271 + 11) % 2147483647 < 2147483647 := Int.emod_lt_of_pos _ (by omega)
      have S := fun q => Src.set_ (A := A) (c := c) (j := 2) (u := .int .i64 ((s * 48271 + 11) % 2147483647)) (k' := k) (s' := (s * 48271 + 11) % 2147483647) q H1.out h2 HH.out (by simp) h3 ⟨hs1, by omega⟩
      exact ⟨_, Int.emod_nonneg _ (by omega), Int.emod_lt_of_pos _ (by omega), rfl, (S _).1, (S _).2⟩

theorem grownBy_trans' {a b c : World} {r : Option Nat} (h : a.grownBy b r) (h' : b.grownBy c r) : a.grownBy c r := grownBy_trans h h'

set_option maxHeartbeats 1000000 in
theorem drawAtom_any (g n c : Nat) (A : Option Addr) (code : List Int) (w : World) (h : Src w g A n c code) :
    Calls Tryd.prog 75 #[.pointer (some ⟨g, 0, none⟩)] w fun e w' => ∃ r : Int, -3 ≤ r ∧ r ≤ 3 ∧ e = .returned (.int .i64 r) ∧ Src w' g A n c code ∧ w.grownBy w' (some g) := by
  go_enter Tryd.func75, Tryd.ntmps75
  go_wp2_with (fail)
  refine (pick_any g n c A code 3 w h (by omega) (by omega)).mono ?_
  rintro e w1 ⟨r1, p1, p2, rfl, S1, G1⟩
  go_wp2_with (fail)
  refine (pick_any g n c A code 2 w1 S1 (by omega) (by omega)).mono ?_
  rintro e w2 ⟨r2, q1, q2, rfl, S2, G2⟩
  have G3 := Lib.hid (grownBy_trans G1 G2)
  have HS := Lib.hid S2
  clear G1 G2 S1 S2
  by_cases h0 : r2 = 0
  · subst h0
    go_wp2
    go_ret
    exact ⟨_, by omega, by omega, rfl, HS.out, G3.out⟩
  · have hne : (r2 == 0) = false := by simpa using h0
    clear h0
    go_wp2
    go_ret
    exact ⟨_, by omega, by omega, rfl, HS.out, G3.out⟩
end Go.Proofs.YtdgejhlpncnenaaDoor
