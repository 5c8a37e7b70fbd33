/- A link of a net, of the model: its wires and its formulas. -/
import Derived.Test.YtfdpkhiiboghiaaGreatDoorJQNetV
import Derived.Test.YtfdpkhiiboghiaaGreatDoorJQDual
import Derived.Deep.RegionHeld3
namespace Go.Proofs.YtfdpkhiiboghiaaGreatDoor
set_option linter.unusedSimpArgs false
set_option linter.unusedVariables false
open Go.ChangeAt Go.ChangeShapes Go.RowKit Go.WideShapes

theorem sWire_any (A L C : Option Addr) (n c m d k e0 : Nat) (x : Int) (w : World) (hn : n ≤ maxLen) :
    Calls Tryz.prog 138 #[.agg #[.slice A n c, .slice L m d, .slice C k e0], .int .i64 x] w fun e w' => e = .returned (.bool (inW n x)) ∧ Below w.heap.size w w' := by
  unfold maxLen at hn
  obtain ⟨w0, hw0⟩ : ∃ w0, w0 = w.alloc (.cells #[.slice A n c, .slice L m d, .slice C k e0] 30) := ⟨_, rfl⟩
  obtain ⟨hb, hh, hsz⟩ := box3_any w (.slice A n c) (.slice L m d) (.slice C k e0) 30
  rw [← hw0] at hb hh hsz
  obtain ⟨y0, y1, y2⟩ := three_cells hh
  have HB := Lib.hid hb
  clear hb hh hsz y1 y2
  go_enter Tryz.func138, Tryz.ntmps138
  go_wp2_with (fail)
  rw [← hw0]
  clear hw0
  refine (show Calls Tryz.prog 86 #[.int .i64 x, .int .i64 0, .int .i64 ((n : Int) - 1)] w0 fun e w' => e = .returned (.bool (inW n x)) ∧ w0 = w' from inRange_any x 0 ((n : Int) - 1) w0).mono ?_
  rintro e w' ⟨rfl, rfl⟩
  go_wp2
  go_ret
  exact ⟨rfl, HB.out⟩
theorem sForm_any (A : Option Addr) (n c : Nat) (f : List Int) (w : World) (h : RdI w w.heap.size A n f) :
    Calls Tryz.prog 136 #[.slice A n c] w fun e w' => e = .returned (.bool (formN f)) ∧ Below w.heap.size w w' := by
  have HF := Lib.hid (sFragmentOf_any A n c f w h)
  have HI := fun w => inRange_any (fragV f) 0 1 w
  obtain ⟨b, hb⟩ : ∃ b, decide ((0 : Int) ≤ fragV f ∧ fragV f ≤ 1) = b := ⟨_, rfl⟩
  rw [hb] at HI
  rw [show formN f = b from hb]
  have HR := Lib.hid HI
  clear HI hb h
  generalize fragV f = v at *
  go_enter Tryz.func136, Tryz.ntmps136
  go_wp2_with (fail)
  refine HF.out.mono ?_
  rintro e w' ⟨rfl, bel⟩
  have HB := Lib.hid bel
  clear bel
  go_wp2_with (fail)
  refine (HR.out w').mono ?_
  rintro e w2 ⟨rfl, rfl⟩
  go_wp2
  go_ret
  exact ⟨rfl, HB.out⟩
-- FITS
theorem sWire_yes (A L C : Option Addr) (n c m d k e0 : Nat) (x : Int) (w : World) (hn : n ≤ maxLen) (hx : inW n x = true) :
    Calls Tryz.prog 138 #[.agg #[.slice A n c, .slice L m d, .slice C k e0], .int .i64 x] w fun e w' => e = .returned (.bool true) ∧ Below w.heap.size w w' := by
  have := sWire_any A L C n c m d k e0 x w hn
  rw [hx] at this; exact this
theorem sWire_no (A L C : Option Addr) (n c m d k e0 : Nat) (x : Int) (w : World) (hn : n ≤ maxLen) (hx : inW n x = false) :
    Calls Tryz.prog 138 #[.agg #[.slice A n c, .slice L m d, .slice C k e0], .int .i64 x] w fun e w' => e = .returned (.bool false) ∧ Below w.heap.size w w' := by
  have := sWire_any A L C n c m d k e0 x w hn
  rw [hx] at this; exact this
/-- A net and a link in blocks of their own. -/
theorem boxes_any (w : World) (a0 a1 a2 b0 b1 b2 b3 : Value) (t u : TypeId) : Below w.heap.size w ((w.alloc (.cells #[a0, a1, a2] t)).alloc (.cells #[b0, b1, b2, b3] u)) ∧
    (∀ w', Below ((w.alloc (.cells #[a0, a1, a2] t)).alloc (.cells #[b0, b1, b2, b3] u)).heap.size ((w.alloc (.cells #[a0, a1, a2] t)).alloc (.cells #[b0, b1, b2, b3] u)) w' →
      w'.cell? ⟨w.heap.size, 0, none⟩ = some a0 ∧ w'.cell? ⟨w.heap.size, 1, none⟩ = some a1 ∧ w'.cell? ⟨w.heap.size, 2, none⟩ = some a2 ∧
      w'.cell? ⟨w.heap.size + 1, 0, none⟩ = some b0 ∧ w'.cell? ⟨w.heap.size + 1, 1, none⟩ = some b1 ∧ w'.cell? ⟨w.heap.size + 1, 2, none⟩ = some b2 ∧ w'.cell? ⟨w.heap.size + 1, 3, none⟩ = some b3) ∧
    ((w.alloc (.cells #[a0, a1, a2] t)).alloc (.cells #[b0, b1, b2, b3] u)).heap.size = w.heap.size + 2 := by
  obtain ⟨h1, h2, h3⟩ := box3_any w a0 a1 a2 t
  generalize w.alloc (.cells #[a0, a1, a2] t) = v at *
  have hb : Below v.heap.size v (v.alloc (.cells #[b0, b1, b2, b3] u)) := (Below.refl _ _).alloc (Nat.le_refl _) _
  have hn : (v.alloc (.cells #[b0, b1, b2, b3] u)).heap[w.heap.size + 1]? = some (.cells #[b0, b1, b2, b3] u (0, 0)) := by rw [← h3]; exact heap_alloc_new _ _
  have ho : (v.alloc (.cells #[b0, b1, b2, b3] u)).heap[w.heap.size]? = some (.cells #[a0, a1, a2] t (0, 0)) := (hb.block _ (by omega)).trans h2
  have hs : (v.alloc (.cells #[b0, b1, b2, b3] u)).heap.size = w.heap.size + 2 := by simp [h3]
  refine ⟨h1.trans (hb.mono (by omega)), fun w' hw => ?_, hs⟩
  have p1 := (hw.block _ (by rw [hs]; omega)).trans ho
  have p2 := (hw.block _ (by rw [hs]; omega)).trans hn
  obtain ⟨c0, c1, c2⟩ := three_cells p1
  exact ⟨c0, c1, c2, cell_of_row _ _ 0 _ _ (0, 0) p2, cell_of_row _ _ 1 _ _ (0, 0) p2, cell_of_row _ _ 2 _ _ (0, 0) p2, cell_of_row _ _ 3 _ _ (0, 0) p2⟩
theorem sFits_na (A L C : Option Addr) (c m d k0 e0 : Nat) (ws : List (List Int)) (w : World) (k a b z : Int) (hn : ws.length ≤ maxLen) (ha : inW ws.length a = false) :
    Calls Tryz.prog 137 #[.agg #[.slice A ws.length c, .slice L m d, .slice C k0 e0], .agg #[.int .i64 k, .int .i64 a, .int .i64 b, .int .i64 z]] w fun e w' => e = .returned (.bool false) ∧ Below w.heap.size w w' := by
  have HA := Lib.hid (fun w' => sWire_no A L C ws.length c m d k0 e0 a w' hn ha)
  clear ha
  obtain ⟨w0, hw0⟩ : ∃ w0, w0 = (w.alloc (.cells #[.slice A ws.length c, .slice L m d, .slice C k0 e0] 30)).alloc (.cells #[.int .i64 k, .int .i64 a, .int .i64 b, .int .i64 z] 103) := ⟨_, rfl⟩
  obtain ⟨hb, hK, hsz⟩ := boxes_any w (.slice A ws.length c) (.slice L m d) (.slice C k0 e0) (.int .i64 k) (.int .i64 a) (.int .i64 b) (.int .i64 z) 30 103
  rw [← hw0] at hb hK hsz
  have hs0 : w.heap.size + 2 ≤ w0.heap.size := by omega
  obtain ⟨y0, y1, y2, x0, x1, x2, x3⟩ := hK w0 (Below.refl _ _)
  have HK := Lib.hid hK; have HB0 := Lib.hid hb
  clear hb hK hsz
  go_enter Tryz.func137, Tryz.ntmps137
  go_wp2_with (fail)
  rw [← hw0]
  clear hw0
  refine (HA.out w0).mono ?_
  rintro e w1 ⟨rfl, bel1⟩
  have B1 := Lib.hid (bel1)
  clear bel1 y0 y1 y2 x0 x1 x2 x3
  obtain ⟨y0, y1, y2, x0, x1, x2, x3⟩ := HK.out w1 B1.out
  have hs1 := B1.out.size
  go_wp2
  go_ret
  exact ⟨rfl, HB0.out.trans (B1.out.mono (by omega))⟩
theorem sFits_nb (A L C : Option Addr) (c m d k0 e0 : Nat) (ws : List (List Int)) (w : World) (k a b z : Int) (hn : ws.length ≤ maxLen) (ha : inW ws.length a = true) (hb : inW ws.length b = false) :
    Calls Tryz.prog 137 #[.agg #[.slice A ws.length c, .slice L m d, .slice C k0 e0], .agg #[.int .i64 k, .int .i64 a, .int .i64 b, .int .i64 z]] w fun e w' => e = .returned (.bool false) ∧ Below w.heap.size w w' := by
  have HA := Lib.hid (fun w' => sWire_yes A L C ws.length c m d k0 e0 a w' hn ha)
  have HBB := Lib.hid (fun w' => sWire_no A L C ws.length c m d k0 e0 b w' hn hb)
  clear ha hb
  obtain ⟨w0, hw0⟩ : ∃ w0, w0 = (w.alloc (.cells #[.slice A ws.length c, .slice L m d, .slice C k0 e0] 30)).alloc (.cells #[.int .i64 k, .int .i64 a, .int .i64 b, .int .i64 z] 103) := ⟨_, rfl⟩
  obtain ⟨hb, hK, hsz⟩ := boxes_any w (.slice A ws.length c) (.slice L m d) (.slice C k0 e0) (.int .i64 k) (.int .i64 a) (.int .i64 b) (.int .i64 z) 30 103
  rw [← hw0] at hb hK hsz
  have hs0 : w.heap.size + 2 ≤ w0.heap.size := by omega
  obtain ⟨y0, y1, y2, x0, x1, x2, x3⟩ := hK w0 (Below.refl _ _)
  have HK := Lib.hid hK; have HB0 := Lib.hid hb
  clear hb hK hsz
  go_enter Tryz.func137, Tryz.ntmps137
  go_wp2_with (fail)
  rw [← hw0]
  clear hw0
  refine (HA.out w0).mono ?_
  rintro e w1 ⟨rfl, bel1⟩
  have B1 := Lib.hid (bel1)
  clear bel1 y0 y1 y2 x0 x1 x2 x3
  obtain ⟨y0, y1, y2, x0, x1, x2, x3⟩ := HK.out w1 B1.out
  have hs1 := B1.out.size
  go_wp2_with (fail)
  refine (HBB.out w1).mono ?_
  rintro e w2 ⟨rfl, bel2⟩
  have B2 := Lib.hid (B1.out.trans (bel2.mono B1.out.size))
  clear bel2 y0 y1 y2 x0 x1 x2 x3
  obtain ⟨y0, y1, y2, x0, x1, x2, x3⟩ := HK.out w2 B2.out
  have hs2 := B2.out.size
  go_wp2
  go_ret
  exact ⟨rfl, HB0.out.trans (B2.out.mono (by omega))⟩
theorem sFits_nc (A L C : Option Addr) (c m d k0 e0 : Nat) (ws : List (List Int)) (w : World) (k a b z : Int) (hn : ws.length ≤ maxLen) (ha : inW ws.length a = true) (hb : inW ws.length b = true) (hc : inW ws.length z = false) :
    Calls Tryz.prog 137 #[.agg #[.slice A ws.length c, .slice L m d, .slice C k0 e0], .agg #[.int .i64 k, .int .i64 a, .int .i64 b, .int .i64 z]] w fun e w' => e = .returned (.bool false) ∧ Below w.heap.size w w' := by
  have HA := Lib.hid (fun w' => sWire_yes A L C ws.length c m d k0 e0 a w' hn ha)
  have HBB := Lib.hid (fun w' => sWire_yes A L C ws.length c m d k0 e0 b w' hn hb)
  have HC := Lib.hid (fun w' => sWire_no A L C ws.length c m d k0 e0 z w' hn hc)
  clear ha hb hc
  obtain ⟨w0, hw0⟩ : ∃ w0, w0 = (w.alloc (.cells #[.slice A ws.length c, .slice L m d, .slice C k0 e0] 30)).alloc (.cells #[.int .i64 k, .int .i64 a, .int .i64 b, .int .i64 z] 103) := ⟨_, rfl⟩
  obtain ⟨hb, hK, hsz⟩ := boxes_any w (.slice A ws.length c) (.slice L m d) (.slice C k0 e0) (.int .i64 k) (.int .i64 a) (.int .i64 b) (.int .i64 z) 30 103
  rw [← hw0] at hb hK hsz
  have hs0 : w.heap.size + 2 ≤ w0.heap.size := by omega
  obtain ⟨y0, y1, y2, x0, x1, x2, x3⟩ := hK w0 (Below.refl _ _)
  have HK := Lib.hid hK; have HB0 := Lib.hid hb
  clear hb hK hsz
  go_enter Tryz.func137, Tryz.ntmps137
  go_wp2_with (fail)
  rw [← hw0]
  clear hw0
  refine (HA.out w0).mono ?_
  rintro e w1 ⟨rfl, bel1⟩
  have B1 := Lib.hid (bel1)
  clear bel1 y0 y1 y2 x0 x1 x2 x3
  obtain ⟨y0, y1, y2, x0, x1, x2, x3⟩ := HK.out w1 B1.out
  have hs1 := B1.out.size
  go_wp2_with (fail)
  refine (HBB.out w1).mono ?_
  rintro e w2 ⟨rfl, bel2⟩
  have B2 := Lib.hid (B1.out.trans (bel2.mono B1.out.size))
  clear bel2 y0 y1 y2 x0 x1 x2 x3
  obtain ⟨y0, y1, y2, x0, x1, x2, x3⟩ := HK.out w2 B2.out
  have hs2 := B2.out.size
  go_wp2_with (fail)
  refine (HC.out w2).mono ?_
  rintro e w3 ⟨rfl, bel3⟩
  have B3 := Lib.hid (B2.out.trans (bel3.mono B2.out.size))
  clear bel3 y0 y1 y2 x0 x1 x2 x3
  obtain ⟨y0, y1, y2, x0, x1, x2, x3⟩ := HK.out w3 B3.out
  have hs3 := B3.out.size
  go_wp2
  go_ret
  exact ⟨rfl, HB0.out.trans (B3.out.mono (by omega))⟩
theorem sFits_other (A L C : Option Addr) (c m d k0 e0 : Nat) (ws : List (List Int)) (w : World) (k a b z : Int) (hn : ws.length ≤ maxLen) (ha : inW ws.length a = true) (hb : inW ws.length b = true) (hc : inW ws.length z = true) (h1 : ¬ k = 1) (h2 : ¬ k = 2) (h3 : ¬ k = 3) (h4 : ¬ k = 4) :
    Calls Tryz.prog 137 #[.agg #[.slice A ws.length c, .slice L m d, .slice C k0 e0], .agg #[.int .i64 k, .int .i64 a, .int .i64 b, .int .i64 z]] w fun e w' => e = .returned (.bool false) ∧ Below w.heap.size w w' := by
  have HA := Lib.hid (fun w' => sWire_yes A L C ws.length c m d k0 e0 a w' hn ha)
  have HBB := Lib.hid (fun w' => sWire_yes A L C ws.length c m d k0 e0 b w' hn hb)
  have HC := Lib.hid (fun w' => sWire_yes A L C ws.length c m d k0 e0 z w' hn hc)
  clear ha hb hc
  have e1 : (k == 1) = false := by simpa using h1
  have e2 : (k == 2) = false := by simpa using h2
  have e3 : (k == 3) = false := by simpa using h3
  have e4 : (k == 4) = false := by simpa using h4
  clear h1 h2 h3 h4
  obtain ⟨w0, hw0⟩ : ∃ w0, w0 = (w.alloc (.cells #[.slice A ws.length c, .slice L m d, .slice C k0 e0] 30)).alloc (.cells #[.int .i64 k, .int .i64 a, .int .i64 b, .int .i64 z] 103) := ⟨_, rfl⟩
  obtain ⟨hb, hK, hsz⟩ := boxes_any w (.slice A ws.length c) (.slice L m d) (.slice C k0 e0) (.int .i64 k) (.int .i64 a) (.int .i64 b) (.int .i64 z) 30 103
  rw [← hw0] at hb hK hsz
  have hs0 : w.heap.size + 2 ≤ w0.heap.size := by omega
  obtain ⟨y0, y1, y2, x0, x1, x2, x3⟩ := hK w0 (Below.refl _ _)
  have HK := Lib.hid hK; have HB0 := Lib.hid hb
  clear hb hK hsz
  go_enter Tryz.func137, Tryz.ntmps137
  go_wp2_with (fail)
  rw [← hw0]
  clear hw0
  refine (HA.out w0).mono ?_
  rintro e w1 ⟨rfl, bel1⟩
  have B1 := Lib.hid (bel1)
  clear bel1 y0 y1 y2 x0 x1 x2 x3
  obtain ⟨y0, y1, y2, x0, x1, x2, x3⟩ := HK.out w1 B1.out
  have hs1 := B1.out.size
  go_wp2_with (fail)
  refine (HBB.out w1).mono ?_
  rintro e w2 ⟨rfl, bel2⟩
  have B2 := Lib.hid (B1.out.trans (bel2.mono B1.out.size))
  clear bel2 y0 y1 y2 x0 x1 x2 x3
  obtain ⟨y0, y1, y2, x0, x1, x2, x3⟩ := HK.out w2 B2.out
  have hs2 := B2.out.size
  go_wp2_with (fail)
  refine (HC.out w2).mono ?_
  rintro e w3 ⟨rfl, bel3⟩
  have B3 := Lib.hid (B2.out.trans (bel3.mono B2.out.size))
  clear bel3 y0 y1 y2 x0 x1 x2 x3
  obtain ⟨y0, y1, y2, x0, x1, x2, x3⟩ := HK.out w3 B3.out
  have hs3 := B3.out.size
  go_wp2
  go_ret
  exact ⟨rfl, HB0.out.trans (B3.out.mono (by omega))⟩
-- DUALS
theorem drew_below (w : World) : Below w.heap.size w w.drew := (Below.refl _ _).drew
theorem sFits_d1_no (A L C : Option Addr) (c m d k0 e0 : Nat) (ws : List (List Int)) (w : World) (a b z : Int) (hn : ws.length ≤ maxLen) (ha : inW ws.length a = true) (hb : inW ws.length b = true) (hc : inW ws.length z = true) (hz : ¬ z = 0) :
    Calls Tryz.prog 137 #[.agg #[.slice A ws.length c, .slice L m d, .slice C k0 e0], .agg #[.int .i64 1, .int .i64 a, .int .i64 b, .int .i64 z]] w fun e w' => e = .returned (.bool false) ∧ Below w.heap.size w w' := by
  have HA := Lib.hid (fun w' => sWire_yes A L C ws.length c m d k0 e0 a w' hn ha)
  have HBB := Lib.hid (fun w' => sWire_yes A L C ws.length c m d k0 e0 b w' hn hb)
  have HC := Lib.hid (fun w' => sWire_yes A L C ws.length c m d k0 e0 z w' hn hc)
  clear ha hb hc
  have ez : (z == 0) = false := by simpa using hz
  clear hz
  obtain ⟨w0, hw0⟩ : ∃ w0, w0 = (w.alloc (.cells #[.slice A ws.length c, .slice L m d, .slice C k0 e0] 30)).alloc (.cells #[.int .i64 1, .int .i64 a, .int .i64 b, .int .i64 z] 103) := ⟨_, rfl⟩
  obtain ⟨hb, hK, hsz⟩ := boxes_any w (.slice A ws.length c) (.slice L m d) (.slice C k0 e0) (.int .i64 1) (.int .i64 a) (.int .i64 b) (.int .i64 z) 30 103
  rw [← hw0] at hb hK hsz
  have hs0 : w.heap.size + 2 ≤ w0.heap.size := by omega
  obtain ⟨y0, y1, y2, x0, x1, x2, x3⟩ := hK w0 (Below.refl _ _)
  have HK := Lib.hid hK; have HB0 := Lib.hid hb
  clear hb hK hsz
  go_enter Tryz.func137, Tryz.ntmps137
  go_wp2_with (fail)
  rw [← hw0]
  clear hw0
  refine (HA.out w0).mono ?_
  rintro e w1 ⟨rfl, bel1⟩
  have B1 := Lib.hid (bel1)
  clear bel1 y0 y1 y2 x0 x1 x2 x3
  obtain ⟨y0, y1, y2, x0, x1, x2, x3⟩ := HK.out w1 B1.out
  have hs1 := B1.out.size
  go_wp2_with (fail)
  refine (HBB.out w1).mono ?_
  rintro e w2 ⟨rfl, bel2⟩
  have B2 := Lib.hid (B1.out.trans (bel2.mono B1.out.size))
  clear bel2 y0 y1 y2 x0 x1 x2 x3
  obtain ⟨y0, y1, y2, x0, x1, x2, x3⟩ := HK.out w2 B2.out
  have hs2 := B2.out.size
  go_wp2_with (fail)
  refine (HC.out w2).mono ?_
  rintro e w3 ⟨rfl, bel3⟩
  have B3 := Lib.hid (B2.out.trans (bel3.mono B2.out.size))
  clear bel3 y0 y1 y2 x0 x1 x2 x3
  obtain ⟨y0, y1, y2, x0, x1, x2, x3⟩ := HK.out w3 B3.out
  have hs3 := B3.out.size
  go_wp2_with (fail)
  go_quiet (fail)
  go_wp2
  go_ret
  exact ⟨rfl, HB0.out.trans ((below_drewN B3.out _).mono (by omega))⟩
theorem sFits_d2_no (A L C : Option Addr) (c m d k0 e0 : Nat) (ws : List (List Int)) (w : World) (a b z : Int) (hn : ws.length ≤ maxLen) (ha : inW ws.length a = true) (hb : inW ws.length b = true) (hc : inW ws.length z = true) (hz : ¬ z = 0) :
    Calls Tryz.prog 137 #[.agg #[.slice A ws.length c, .slice L m d, .slice C k0 e0], .agg #[.int .i64 2, .int .i64 a, .int .i64 b, .int .i64 z]] w fun e w' => e = .returned (.bool false) ∧ Below w.heap.size w w' := by
  have HA := Lib.hid (fun w' => sWire_yes A L C ws.length c m d k0 e0 a w' hn ha)
  have HBB := Lib.hid (fun w' => sWire_yes A L C ws.length c m d k0 e0 b w' hn hb)
  have HC := Lib.hid (fun w' => sWire_yes A L C ws.length c m d k0 e0 z w' hn hc)
  clear ha hb hc
  have ez : (z == 0) = false := by simpa using hz
  clear hz
  obtain ⟨w0, hw0⟩ : ∃ w0, w0 = (w.alloc (.cells #[.slice A ws.length c, .slice L m d, .slice C k0 e0] 30)).alloc (.cells #[.int .i64 2, .int .i64 a, .int .i64 b, .int .i64 z] 103) := ⟨_, rfl⟩
  obtain ⟨hb, hK, hsz⟩ := boxes_any w (.slice A ws.length c) (.slice L m d) (.slice C k0 e0) (.int .i64 2) (.int .i64 a) (.int .i64 b) (.int .i64 z) 30 103
  rw [← hw0] at hb hK hsz
  have hs0 : w.heap.size + 2 ≤ w0.heap.size := by omega
  obtain ⟨y0, y1, y2, x0, x1, x2, x3⟩ := hK w0 (Below.refl _ _)
  have HK := Lib.hid hK; have HB0 := Lib.hid hb
  clear hb hK hsz
  go_enter Tryz.func137, Tryz.ntmps137
  go_wp2_with (fail)
  rw [← hw0]
  clear hw0
  refine (HA.out w0).mono ?_
  rintro e w1 ⟨rfl, bel1⟩
  have B1 := Lib.hid (bel1)
  clear bel1 y0 y1 y2 x0 x1 x2 x3
  obtain ⟨y0, y1, y2, x0, x1, x2, x3⟩ := HK.out w1 B1.out
  have hs1 := B1.out.size
  go_wp2_with (fail)
  refine (HBB.out w1).mono ?_
  rintro e w2 ⟨rfl, bel2⟩
  have B2 := Lib.hid (B1.out.trans (bel2.mono B1.out.size))
  clear bel2 y0 y1 y2 x0 x1 x2 x3
  obtain ⟨y0, y1, y2, x0, x1, x2, x3⟩ := HK.out w2 B2.out
  have hs2 := B2.out.size
  go_wp2_with (fail)
  refine (HC.out w2).mono ?_
  rintro e w3 ⟨rfl, bel3⟩
  have B3 := Lib.hid (B2.out.trans (bel3.mono B2.out.size))
  clear bel3 y0 y1 y2 x0 x1 x2 x3
  obtain ⟨y0, y1, y2, x0, x1, x2, x3⟩ := HK.out w3 B3.out
  have hs3 := B3.out.size
  go_wp2_with (fail)
  go_quiet (fail)
  go_wp2
  go_ret
  exact ⟨rfl, HB0.out.trans ((below_drewN B3.out _).mono (by omega))⟩
set_option maxRecDepth 100000 in
set_option maxHeartbeats 400000 in
theorem sFits_d1_yes (A L C : Option Addr) (c m d k0 e0 : Nat) (ws : List (List Int)) (w : World) (ia ib : Nat) (hia : ia < ws.length) (hib : ib < ws.length) (r : RdQ w w.heap.size A ws.length ws) (hva : validB (ws.getD ia []) = true) (hlb : (ws.getD ib []).length ≤ 24) (hn : ws.length ≤ maxLen) (ha : inW ws.length (ia : Nat) = true) (hb : inW ws.length (ib : Nat) = true) (hc : inW ws.length 0 = true) :
    Calls Tryz.prog 137 #[.agg #[.slice A ws.length c, .slice L m d, .slice C k0 e0], .agg #[.int .i64 1, .int .i64 (ia : Nat), .int .i64 (ib : Nat), .int .i64 0]] w fun e w' => e = .returned (.bool (decide (ws.getD ib [] = (ws.getD ia []).map duZ))) ∧ Below w.heap.size w w' := by
  have HA := Lib.hid (fun w' => sWire_yes A L C ws.length c m d k0 e0 (ia : Nat) w' hn ha)
  have HBB := Lib.hid (fun w' => sWire_yes A L C ws.length c m d k0 e0 (ib : Nat) w' hn hb)
  have HC := Lib.hid (fun w' => sWire_yes A L C ws.length c m d k0 e0 0 w' hn hc)
  clear ha hb hc
  have hla := (valid_len hva).2.1
  have HLM : Hid (((ws.getD ia []).map duZ).length ≤ 1048576) := Lib.hid (by rw [List.length_map]; omega)
  have HDU := Lib.hid (fun (Aa : Option Addr) (ca : Nat) (w' : World) (h : RdI w' w'.heap.size Aa (ws.getD ia []).length (ws.getD ia [])) => sdual_any Aa ca _ w' h hva)
  generalize (ws.getD ia []).map duZ = DP at *
  obtain ⟨bb, hbb2⟩ : ∃ bb, decide (ws.getD ib [] = DP) = bb := ⟨_, rfl⟩
  rw [hbb2]
  have HD := Lib.hid hbb2
  clear hbb2 hva
  obtain ⟨w0, hw0⟩ : ∃ w0, w0 = (w.alloc (.cells #[.slice A ws.length c, .slice L m d, .slice C k0 e0] 30)).alloc (.cells #[.int .i64 1, .int .i64 (ia : Nat), .int .i64 (ib : Nat), .int .i64 0] 103) := ⟨_, rfl⟩
  obtain ⟨hb, hK, hsz⟩ := boxes_any w (.slice A ws.length c) (.slice L m d) (.slice C k0 e0) (.int .i64 1) (.int .i64 (ia : Nat)) (.int .i64 (ib : Nat)) (.int .i64 0) 30 103
  rw [← hw0] at hb hK hsz
  have hs0 : w.heap.size + 2 ≤ w0.heap.size := by omega
  obtain ⟨y0, y1, y2, x0, x1, x2, x3⟩ := hK w0 (Below.refl _ _)
  have HK := Lib.hid hK; have HB0 := Lib.hid hb
  clear hb hK hsz
  go_enter Tryz.func137, Tryz.ntmps137
  go_wp2_with (fail)
  rw [← hw0]
  clear hw0
  refine (HA.out w0).mono ?_
  rintro e w1 ⟨rfl, bel1⟩
  have B1 := Lib.hid (bel1)
  clear bel1 y0 y1 y2 x0 x1 x2 x3
  obtain ⟨y0, y1, y2, x0, x1, x2, x3⟩ := HK.out w1 B1.out
  have hs1 := B1.out.size
  go_wp2_with (fail)
  refine (HBB.out w1).mono ?_
  rintro e w2 ⟨rfl, bel2⟩
  have B2 := Lib.hid (B1.out.trans (bel2.mono B1.out.size))
  clear bel2 y0 y1 y2 x0 x1 x2 x3
  obtain ⟨y0, y1, y2, x0, x1, x2, x3⟩ := HK.out w2 B2.out
  have hs2 := B2.out.size
  go_wp2_with (fail)
  refine (HC.out w2).mono ?_
  rintro e w3 ⟨rfl, bel3⟩
  have B3 := Lib.hid (B2.out.trans (bel3.mono B2.out.size))
  clear bel3 y0 y1 y2 x0 x1 x2 x3
  obtain ⟨y0, y1, y2, x0, x1, x2, x3⟩ := HK.out w3 B3.out
  have hs3 := B3.out.size
  have r3 := (r.below (HB0.out.trans (B3.out.mono (by omega)))).more (show w.heap.size ≤ w3.heap.size by omega)
  obtain ⟨b0, off, rfl, hbb, hcells⟩ := r3.2 (by omega)
  obtain ⟨Aa, ca, ha, _, ra⟩ := hcells ia hia
  obtain ⟨Ab, cb, hb, _, rb⟩ := hcells ib hib
  clear hcells r3
  have HKF : Hid (∀ wx, Below w3.heap.size w3 wx → wx.cell? ⟨w.heap.size, 0, none⟩ = some (.slice (some ⟨b0, off, none⟩) ws.length c) ∧ wx.cell? ⟨w.heap.size + 1, 1, none⟩ = some (.int .i64 (ia : Nat)) ∧ wx.cell? ⟨w.heap.size + 1, 2, none⟩ = some (.int .i64 (ib : Nat)) ∧ wx.cell? ⟨w.heap.size + 1, 3, none⟩ = some (.int .i64 0) ∧
      wx.cell? ⟨b0, off + ia, none⟩ = some (.slice Aa (ws.getD ia []).length ca) ∧ wx.cell? ⟨b0, off + ib, none⟩ = some (.slice Ab (ws.getD ib []).length cb)) := Lib.hid fun wx hx => by
    have hk : ∀ (q : Addr) (v : Value), q.block < w3.heap.size → w3.cell? q = some v → wx.cell? q = some v := fun q v hq e => (hx.cell hq).trans e
    exact ⟨hk _ _ (by show w.heap.size < _; omega) y0, hk _ _ (by show w.heap.size + 1 < _; omega) x1, hk _ _ (by show w.heap.size + 1 < _; omega) x2, hk _ _ (by show w.heap.size + 1 < _; omega) x3, hk _ _ hbb ha, hk _ _ hbb hb⟩
  have K0 := Lib.hid (HKF.out _ (Below.refl _ w3))
  have RA := Lib.hid ra; have RB := Lib.hid rb
  have hl2 : (ws.getD ib []).length ≤ 1048576 := by omega
  have tok1 : True := trivial
  clear ra rb hla hlb
  generalize ws.getD ia [] = P at *
  generalize ws.getD ib [] = Q at *
  go_wp2_with (fail)
  go_region_held3 (fun wx => wx.cell? ⟨w.heap.size, 0, none⟩ = some (.slice (some ⟨b0, off, none⟩) ws.length c) ∧ wx.cell? ⟨w.heap.size + 1, 1, none⟩ = some (.int .i64 (ia : Nat)) ∧ wx.cell? ⟨w.heap.size + 1, 2, none⟩ = some (.int .i64 (ib : Nat)) ∧ wx.cell? ⟨w.heap.size + 1, 3, none⟩ = some (.int .i64 0) ∧
      wx.cell? ⟨b0, off + ia, none⟩ = some (.slice Aa P.length ca) ∧ wx.cell? ⟨b0, off + ib, none⟩ = some (.slice Ab Q.length cb))
    (first | exact K0.out | exact K1.out | exact K2.out)
    (first
      | (have _t := tok1; go_at_call 169; refine (HDU.out Aa ca w3.drew ((RA.out.below (drew_below w3)).more (drew_below w3).size)).mono ?_; rintro e u1 ⟨Ad, cd, rfl, od, bel1'⟩; have bel1 := undrew bel1'; have OD := Lib.hid od; have H1 := Lib.hid bel1; have K1 := Lib.hid (HKF.out _ H1.out); have tok2 : True := trivial; clear od bel1 bel1' tok1)
      | (have _t := tok2; go_at_call 168; refine (sameInts_any Ab Ad Q.length DP.length cb cd Q DP u1 ((RB.out.below H1.out).more H1.out.size) (RdI.of_own OD.out) hl2 HLM.out).mono ?_; rintro e u2 ⟨he, bel2'⟩; rw [HD.out] at he; subst he; have H2 := Lib.hid (H1.out.trans (bel2'.mono H1.out.size)); have K2 := Lib.hid (HKF.out _ H2.out); have tok3 : True := trivial; clear bel2' tok2))
  all_goals go_wp2
  all_goals go_ret
  all_goals exact ⟨rfl, HB0.out.trans ((B3.out.trans (H2.out.mono (by omega))).mono (by omega))⟩
set_option maxRecDepth 100000 in
set_option maxHeartbeats 400000 in
theorem sFits_d2_yes (A L C : Option Addr) (c m d k0 e0 : Nat) (ws : List (List Int)) (w : World) (ia ib : Nat) (hia : ia < ws.length) (hib : ib < ws.length) (r : RdQ w w.heap.size A ws.length ws) (hva : validB (ws.getD ia []) = true) (hlb : (ws.getD ib []).length ≤ 24) (hn : ws.length ≤ maxLen) (ha : inW ws.length (ia : Nat) = true) (hb : inW ws.length (ib : Nat) = true) (hc : inW ws.length 0 = true) :
    Calls Tryz.prog 137 #[.agg #[.slice A ws.length c, .slice L m d, .slice C k0 e0], .agg #[.int .i64 2, .int .i64 (ia : Nat), .int .i64 (ib : Nat), .int .i64 0]] w fun e w' => e = .returned (.bool (decide (ws.getD ib [] = (ws.getD ia []).map duZ))) ∧ Below w.heap.size w w' := by
  have HA := Lib.hid (fun w' => sWire_yes A L C ws.length c m d k0 e0 (ia : Nat) w' hn ha)
  have HBB := Lib.hid (fun w' => sWire_yes A L C ws.length c m d k0 e0 (ib : Nat) w' hn hb)
  have HC := Lib.hid (fun w' => sWire_yes A L C ws.length c m d k0 e0 0 w' hn hc)
  clear ha hb hc
  have hla := (valid_len hva).2.1
  have HLM : Hid (((ws.getD ia []).map duZ).length ≤ 1048576) := Lib.hid (by rw [List.length_map]; omega)
  have HDU := Lib.hid (fun (Aa : Option Addr) (ca : Nat) (w' : World) (h : RdI w' w'.heap.size Aa (ws.getD ia []).length (ws.getD ia [])) => sdual_any Aa ca _ w' h hva)
  generalize (ws.getD ia []).map duZ = DP at *
  obtain ⟨bb, hbb2⟩ : ∃ bb, decide (ws.getD ib [] = DP) = bb := ⟨_, rfl⟩
  rw [hbb2]
  have HD := Lib.hid hbb2
  clear hbb2 hva
  obtain ⟨w0, hw0⟩ : ∃ w0, w0 = (w.alloc (.cells #[.slice A ws.length c, .slice L m d, .slice C k0 e0] 30)).alloc (.cells #[.int .i64 2, .int .i64 (ia : Nat), .int .i64 (ib : Nat), .int .i64 0] 103) := ⟨_, rfl⟩
  obtain ⟨hb, hK, hsz⟩ := boxes_any w (.slice A ws.length c) (.slice L m d) (.slice C k0 e0) (.int .i64 2) (.int .i64 (ia : Nat)) (.int .i64 (ib : Nat)) (.int .i64 0) 30 103
  rw [← hw0] at hb hK hsz
  have hs0 : w.heap.size + 2 ≤ w0.heap.size := by omega
  obtain ⟨y0, y1, y2, x0, x1, x2, x3⟩ := hK w0 (Below.refl _ _)
  have HK := Lib.hid hK; have HB0 := Lib.hid hb
  clear hb hK hsz
  go_enter Tryz.func137, Tryz.ntmps137
  go_wp2_with (fail)
  rw [← hw0]
  clear hw0
  refine (HA.out w0).mono ?_
  rintro e w1 ⟨rfl, bel1⟩
  have B1 := Lib.hid (bel1)
  clear bel1 y0 y1 y2 x0 x1 x2 x3
  obtain ⟨y0, y1, y2, x0, x1, x2, x3⟩ := HK.out w1 B1.out
  have hs1 := B1.out.size
  go_wp2_with (fail)
  refine (HBB.out w1).mono ?_
  rintro e w2 ⟨rfl, bel2⟩
  have B2 := Lib.hid (B1.out.trans (bel2.mono B1.out.size))
  clear bel2 y0 y1 y2 x0 x1 x2 x3
  obtain ⟨y0, y1, y2, x0, x1, x2, x3⟩ := HK.out w2 B2.out
  have hs2 := B2.out.size
  go_wp2_with (fail)
  refine (HC.out w2).mono ?_
  rintro e w3 ⟨rfl, bel3⟩
  have B3 := Lib.hid (B2.out.trans (bel3.mono B2.out.size))
  clear bel3 y0 y1 y2 x0 x1 x2 x3
  obtain ⟨y0, y1, y2, x0, x1, x2, x3⟩ := HK.out w3 B3.out
  have hs3 := B3.out.size
  have r3 := (r.below (HB0.out.trans (B3.out.mono (by omega)))).more (show w.heap.size ≤ w3.heap.size by omega)
  obtain ⟨b0, off, rfl, hbb, hcells⟩ := r3.2 (by omega)
  obtain ⟨Aa, ca, ha, _, ra⟩ := hcells ia hia
  obtain ⟨Ab, cb, hb, _, rb⟩ := hcells ib hib
  clear hcells r3
  have HKF : Hid (∀ wx, Below w3.heap.size w3 wx → wx.cell? ⟨w.heap.size, 0, none⟩ = some (.slice (some ⟨b0, off, none⟩) ws.length c) ∧ wx.cell? ⟨w.heap.size + 1, 1, none⟩ = some (.int .i64 (ia : Nat)) ∧ wx.cell? ⟨w.heap.size + 1, 2, none⟩ = some (.int .i64 (ib : Nat)) ∧ wx.cell? ⟨w.heap.size + 1, 3, none⟩ = some (.int .i64 0) ∧
      wx.cell? ⟨b0, off + ia, none⟩ = some (.slice Aa (ws.getD ia []).length ca) ∧ wx.cell? ⟨b0, off + ib, none⟩ = some (.slice Ab (ws.getD ib []).length cb)) := Lib.hid fun wx hx => by
    have hk : ∀ (q : Addr) (v : Value), q.block < w3.heap.size → w3.cell? q = some v → wx.cell? q = some v := fun q v hq e => (hx.cell hq).trans e
    exact ⟨hk _ _ (by show w.heap.size < _; omega) y0, hk _ _ (by show w.heap.size + 1 < _; omega) x1, hk _ _ (by show w.heap.size + 1 < _; omega) x2, hk _ _ (by show w.heap.size + 1 < _; omega) x3, hk _ _ hbb ha, hk _ _ hbb hb⟩
  have K0 := Lib.hid (HKF.out _ (Below.refl _ w3))
  have RA := Lib.hid ra; have RB := Lib.hid rb
  have hl2 : (ws.getD ib []).length ≤ 1048576 := by omega
  have tok1 : True := trivial
  clear ra rb hla hlb
  generalize ws.getD ia [] = P at *
  generalize ws.getD ib [] = Q at *
  go_wp2_with (fail)
  go_region_held3 (fun wx => wx.cell? ⟨w.heap.size, 0, none⟩ = some (.slice (some ⟨b0, off, none⟩) ws.length c) ∧ wx.cell? ⟨w.heap.size + 1, 1, none⟩ = some (.int .i64 (ia : Nat)) ∧ wx.cell? ⟨w.heap.size + 1, 2, none⟩ = some (.int .i64 (ib : Nat)) ∧ wx.cell? ⟨w.heap.size + 1, 3, none⟩ = some (.int .i64 0) ∧
      wx.cell? ⟨b0, off + ia, none⟩ = some (.slice Aa P.length ca) ∧ wx.cell? ⟨b0, off + ib, none⟩ = some (.slice Ab Q.length cb))
    (first | exact K0.out | exact K1.out | exact K2.out)
    (first
      | (have _t := tok1; go_at_call 169; refine (HDU.out Aa ca w3.drew ((RA.out.below (drew_below w3)).more (drew_below w3).size)).mono ?_; rintro e u1 ⟨Ad, cd, rfl, od, bel1'⟩; have bel1 := undrew bel1'; have OD := Lib.hid od; have H1 := Lib.hid bel1; have K1 := Lib.hid (HKF.out _ H1.out); have tok2 : True := trivial; clear od bel1 bel1' tok1)
      | (have _t := tok2; go_at_call 168; refine (sameInts_any Ab Ad Q.length DP.length cb cd Q DP u1 ((RB.out.below H1.out).more H1.out.size) (RdI.of_own OD.out) hl2 HLM.out).mono ?_; rintro e u2 ⟨he, bel2'⟩; rw [HD.out] at he; subst he; have H2 := Lib.hid (H1.out.trans (bel2'.mono H1.out.size)); have K2 := Lib.hid (HKF.out _ H2.out); have tok3 : True := trivial; clear bel2' tok2))
  all_goals go_wp2
  all_goals go_ret
  all_goals exact ⟨rfl, HB0.out.trans ((B3.out.trans (H2.out.mono (by omega))).mono (by omega))⟩
set_option maxRecDepth 100000 in
set_option maxHeartbeats 400000 in
theorem sFits_j3 (A L C : Option Addr) (c m d k0 e0 : Nat) (ws : List (List Int)) (w : World) (ia ib ic : Nat) (hia : ia < ws.length) (hib : ib < ws.length) (hic : ic < ws.length) (r : RdQ w w.heap.size A ws.length ws) (hva : validB (ws.getD ia []) = true) (hvb : validB (ws.getD ib []) = true) (hlc : (ws.getD ic []).length ≤ 24) (hn : ws.length ≤ maxLen) (ha : inW ws.length (ia : Nat) = true) (hb : inW ws.length (ib : Nat) = true) (hc : inW ws.length (ic : Nat) = true) :
    Calls Tryz.prog 137 #[.agg #[.slice A ws.length c, .slice L m d, .slice C k0 e0], .agg #[.int .i64 3, .int .i64 (ia : Nat), .int .i64 (ib : Nat), .int .i64 (ic : Nat)]] w fun e w' => e = .returned (.bool (decide (ws.getD ic [] = 11 :: (ws.getD ia [] ++ ws.getD ib [])))) ∧ Below w.heap.size w w' := by
  have HA := Lib.hid (fun w' => sWire_yes A L C ws.length c m d k0 e0 (ia : Nat) w' hn ha)
  have HBB := Lib.hid (fun w' => sWire_yes A L C ws.length c m d k0 e0 (ib : Nat) w' hn hb)
  have HC := Lib.hid (fun w' => sWire_yes A L C ws.length c m d k0 e0 (ic : Nat) w' hn hc)
  clear ha hb hc
  have hla := valid_len hva
  have hlb := valid_len hvb
  have HLM : Hid ((11 :: (ws.getD ia [] ++ ws.getD ib [])).length ≤ 1048576) := Lib.hid (by rw [List.length_cons, List.length_append]; omega)
  have HDU := Lib.hid (fun (Aa Ab : Option Addr) (ca cb : Nat) (w' : World) (h : RdI w' w'.heap.size Aa (ws.getD ia []).length (ws.getD ia [])) (h' : RdI w' w'.heap.size Ab (ws.getD ib []).length (ws.getD ib [])) => sjoined_any 11 Aa (ws.getD ia []).length ca _ Ab (ws.getD ib []).length cb _ w' h h' (by omega) (by omega) (by omega) (by omega))
  generalize 11 :: (ws.getD ia [] ++ ws.getD ib []) = DP at *
  obtain ⟨bb, hbb2⟩ : ∃ bb, decide (ws.getD ic [] = DP) = bb := ⟨_, rfl⟩
  rw [hbb2]
  have HD := Lib.hid hbb2
  clear hbb2 hva hvb hla hlb
  obtain ⟨w0, hw0⟩ : ∃ w0, w0 = (w.alloc (.cells #[.slice A ws.length c, .slice L m d, .slice C k0 e0] 30)).alloc (.cells #[.int .i64 3, .int .i64 (ia : Nat), .int .i64 (ib : Nat), .int .i64 (ic : Nat)] 103) := ⟨_, rfl⟩
  obtain ⟨hb, hK, hsz⟩ := boxes_any w (.slice A ws.length c) (.slice L m d) (.slice C k0 e0) (.int .i64 3) (.int .i64 (ia : Nat)) (.int .i64 (ib : Nat)) (.int .i64 (ic : Nat)) 30 103
  rw [← hw0] at hb hK hsz
  have hs0 : w.heap.size + 2 ≤ w0.heap.size := by omega
  obtain ⟨y0, y1, y2, x0, x1, x2, x3⟩ := hK w0 (Below.refl _ _)
  have HK := Lib.hid hK; have HB0 := Lib.hid hb
  clear hb hK hsz
  go_enter Tryz.func137, Tryz.ntmps137
  go_wp2_with (fail)
  rw [← hw0]
  clear hw0
  refine (HA.out w0).mono ?_
  rintro e w1 ⟨rfl, bel1⟩
  have B1 := Lib.hid (bel1)
  clear bel1 y0 y1 y2 x0 x1 x2 x3
  obtain ⟨y0, y1, y2, x0, x1, x2, x3⟩ := HK.out w1 B1.out
  have hs1 := B1.out.size
  go_wp2_with (fail)
  refine (HBB.out w1).mono ?_
  rintro e w2 ⟨rfl, bel2⟩
  have B2 := Lib.hid (B1.out.trans (bel2.mono B1.out.size))
  clear bel2 y0 y1 y2 x0 x1 x2 x3
  obtain ⟨y0, y1, y2, x0, x1, x2, x3⟩ := HK.out w2 B2.out
  have hs2 := B2.out.size
  go_wp2_with (fail)
  refine (HC.out w2).mono ?_
  rintro e w3 ⟨rfl, bel3⟩
  have B3 := Lib.hid (B2.out.trans (bel3.mono B2.out.size))
  clear bel3 y0 y1 y2 x0 x1 x2 x3
  obtain ⟨y0, y1, y2, x0, x1, x2, x3⟩ := HK.out w3 B3.out
  have hs3 := B3.out.size
  have r3 := (r.below (HB0.out.trans (B3.out.mono (by omega)))).more (show w.heap.size ≤ w3.heap.size by omega)
  obtain ⟨b0, off, rfl, hbb, hcells⟩ := r3.2 (by omega)
  obtain ⟨Aa, ca, ha, _, ra⟩ := hcells ia hia
  obtain ⟨Ab, cb, hb, _, rb⟩ := hcells ib hib
  obtain ⟨Ac, cc, hc, _, rc⟩ := hcells ic hic
  clear hcells r3
  have HKF : Hid (∀ wx, Below w3.heap.size w3 wx → wx.cell? ⟨w.heap.size, 0, none⟩ = some (.slice (some ⟨b0, off, none⟩) ws.length c) ∧ wx.cell? ⟨w.heap.size + 1, 1, none⟩ = some (.int .i64 (ia : Nat)) ∧ wx.cell? ⟨w.heap.size + 1, 2, none⟩ = some (.int .i64 (ib : Nat)) ∧ wx.cell? ⟨w.heap.size + 1, 3, none⟩ = some (.int .i64 (ic : Nat)) ∧
      wx.cell? ⟨b0, off + ia, none⟩ = some (.slice Aa (ws.getD ia []).length ca) ∧ wx.cell? ⟨b0, off + ib, none⟩ = some (.slice Ab (ws.getD ib []).length cb) ∧ wx.cell? ⟨b0, off + ic, none⟩ = some (.slice Ac (ws.getD ic []).length cc)) := Lib.hid fun wx hx => by
    have hk : ∀ (q : Addr) (v : Value), q.block < w3.heap.size → w3.cell? q = some v → wx.cell? q = some v := fun q v hq e => (hx.cell hq).trans e
    exact ⟨hk _ _ (by show w.heap.size < _; omega) y0, hk _ _ (by show w.heap.size + 1 < _; omega) x1, hk _ _ (by show w.heap.size + 1 < _; omega) x2, hk _ _ (by show w.heap.size + 1 < _; omega) x3, hk _ _ hbb ha, hk _ _ hbb hb, hk _ _ hbb hc⟩
  have K0 := Lib.hid (HKF.out _ (Below.refl _ w3))
  have RA := Lib.hid ra; have RB := Lib.hid rb; have RC := Lib.hid rc
  have hl2 : (ws.getD ic []).length ≤ 1048576 := by omega
  have tok1 : True := trivial
  clear ra rb rc hlc
  generalize ws.getD ia [] = P at *
  generalize ws.getD ib [] = Q at *
  generalize ws.getD ic [] = R at *
  go_wp2_with (fail)
  go_region_held3 (fun wx => wx.cell? ⟨w.heap.size, 0, none⟩ = some (.slice (some ⟨b0, off, none⟩) ws.length c) ∧ wx.cell? ⟨w.heap.size + 1, 1, none⟩ = some (.int .i64 (ia : Nat)) ∧ wx.cell? ⟨w.heap.size + 1, 2, none⟩ = some (.int .i64 (ib : Nat)) ∧ wx.cell? ⟨w.heap.size + 1, 3, none⟩ = some (.int .i64 (ic : Nat)) ∧
      wx.cell? ⟨b0, off + ia, none⟩ = some (.slice Aa P.length ca) ∧ wx.cell? ⟨b0, off + ib, none⟩ = some (.slice Ab Q.length cb) ∧ wx.cell? ⟨b0, off + ic, none⟩ = some (.slice Ac R.length cc))
    (first | exact K0.out | exact K1.out | exact K2.out)
    (first
      | (have _t := tok1; go_at_call 170; refine (HDU.out Aa Ab ca cb w3.drew ((RA.out.below (drew_below w3)).more (drew_below w3).size) ((RB.out.below (drew_below w3)).more (drew_below w3).size)).mono ?_; rintro e u1 ⟨Ad, cd, rfl, od, bel1'⟩; have bel1 := undrew bel1'; have OD := Lib.hid od; have H1 := Lib.hid bel1; have K1 := Lib.hid (HKF.out _ H1.out); have tok2 : True := trivial; clear od bel1 bel1' tok1)
      | (have _t := tok2; go_at_call 168; refine (sameInts_any Ac Ad R.length DP.length cc cd R DP u1 ((RC.out.below H1.out).more H1.out.size) (RdI.of_own OD.out) hl2 HLM.out).mono ?_; rintro e u2 ⟨he, bel2'⟩; rw [HD.out] at he; subst he; have H2 := Lib.hid (H1.out.trans (bel2'.mono H1.out.size)); have K2 := Lib.hid (HKF.out _ H2.out); have tok3 : True := trivial; clear bel2' tok2))
  all_goals go_wp2
  all_goals go_ret
  all_goals exact ⟨rfl, HB0.out.trans ((B3.out.trans (H2.out.mono (by omega))).mono (by omega))⟩
set_option maxRecDepth 100000 in
set_option maxHeartbeats 400000 in
theorem sFits_j4 (A L C : Option Addr) (c m d k0 e0 : Nat) (ws : List (List Int)) (w : World) (ia ib ic : Nat) (hia : ia < ws.length) (hib : ib < ws.length) (hic : ic < ws.length) (r : RdQ w w.heap.size A ws.length ws) (hva : validB (ws.getD ia []) = true) (hvb : validB (ws.getD ib []) = true) (hlc : (ws.getD ic []).length ≤ 24) (hn : ws.length ≤ maxLen) (ha : inW ws.length (ia : Nat) = true) (hb : inW ws.length (ib : Nat) = true) (hc : inW ws.length (ic : Nat) = true) :
    Calls Tryz.prog 137 #[.agg #[.slice A ws.length c, .slice L m d, .slice C k0 e0], .agg #[.int .i64 4, .int .i64 (ia : Nat), .int .i64 (ib : Nat), .int .i64 (ic : Nat)]] w fun e w' => e = .returned (.bool (decide (ws.getD ic [] = 12 :: (ws.getD ia [] ++ ws.getD ib [])))) ∧ Below w.heap.size w w' := by
  have HA := Lib.hid (fun w' => sWire_yes A L C ws.length c m d k0 e0 (ia : Nat) w' hn ha)
  have HBB := Lib.hid (fun w' => sWire_yes A L C ws.length c m d k0 e0 (ib : Nat) w' hn hb)
  have HC := Lib.hid (fun w' => sWire_yes A L C ws.length c m d k0 e0 (ic : Nat) w' hn hc)
  clear ha hb hc
  have hla := valid_len hva
  have hlb := valid_len hvb
  have HLM : Hid ((12 :: (ws.getD ia [] ++ ws.getD ib [])).length ≤ 1048576) := Lib.hid (by rw [List.length_cons, List.length_append]; omega)
  have HDU := Lib.hid (fun (Aa Ab : Option Addr) (ca cb : Nat) (w' : World) (h : RdI w' w'.heap.size Aa (ws.getD ia []).length (ws.getD ia [])) (h' : RdI w' w'.heap.size Ab (ws.getD ib []).length (ws.getD ib [])) => sjoined_any 12 Aa (ws.getD ia []).length ca _ Ab (ws.getD ib []).length cb _ w' h h' (by omega) (by omega) (by omega) (by omega))
  generalize 12 :: (ws.getD ia [] ++ ws.getD ib []) = DP at *
  obtain ⟨bb, hbb2⟩ : ∃ bb, decide (ws.getD ic [] = DP) = bb := ⟨_, rfl⟩
  rw [hbb2]
  have HD := Lib.hid hbb2
  clear hbb2 hva hvb hla hlb
  obtain ⟨w0, hw0⟩ : ∃ w0, w0 = (w.alloc (.cells #[.slice A ws.length c, .slice L m d, .slice C k0 e0] 30)).alloc (.cells #[.int .i64 4, .int .i64 (ia : Nat), .int .i64 (ib : Nat), .int .i64 (ic : Nat)] 103) := ⟨_, rfl⟩
  obtain ⟨hb, hK, hsz⟩ := boxes_any w (.slice A ws.length c) (.slice L m d) (.slice C k0 e0) (.int .i64 4) (.int .i64 (ia : Nat)) (.int .i64 (ib : Nat)) (.int .i64 (ic : Nat)) 30 103
  rw [← hw0] at hb hK hsz
  have hs0 : w.heap.size + 2 ≤ w0.heap.size := by omega
  obtain ⟨y0, y1, y2, x0, x1, x2, x3⟩ := hK w0 (Below.refl _ _)
  have HK := Lib.hid hK; have HB0 := Lib.hid hb
  clear hb hK hsz
  go_enter Tryz.func137, Tryz.ntmps137
  go_wp2_with (fail)
  rw [← hw0]
  clear hw0
  refine (HA.out w0).mono ?_
  rintro e w1 ⟨rfl, bel1⟩
  have B1 := Lib.hid (bel1)
  clear bel1 y0 y1 y2 x0 x1 x2 x3
  obtain ⟨y0, y1, y2, x0, x1, x2, x3⟩ := HK.out w1 B1.out
  have hs1 := B1.out.size
  go_wp2_with (fail)
  refine (HBB.out w1).mono ?_
  rintro e w2 ⟨rfl, bel2⟩
  have B2 := Lib.hid (B1.out.trans (bel2.mono B1.out.size))
  clear bel2 y0 y1 y2 x0 x1 x2 x3
  obtain ⟨y0, y1, y2, x0, x1, x2, x3⟩ := HK.out w2 B2.out
  have hs2 := B2.out.size
  go_wp2_with (fail)
  refine (HC.out w2).mono ?_
  rintro e w3 ⟨rfl, bel3⟩
  have B3 := Lib.hid (B2.out.trans (bel3.mono B2.out.size))
  clear bel3 y0 y1 y2 x0 x1 x2 x3
  obtain ⟨y0, y1, y2, x0, x1, x2, x3⟩ := HK.out w3 B3.out
  have hs3 := B3.out.size
  have r3 := (r.below (HB0.out.trans (B3.out.mono (by omega)))).more (show w.heap.size ≤ w3.heap.size by omega)
  obtain ⟨b0, off, rfl, hbb, hcells⟩ := r3.2 (by omega)
  obtain ⟨Aa, ca, ha, _, ra⟩ := hcells ia hia
  obtain ⟨Ab, cb, hb, _, rb⟩ := hcells ib hib
  obtain ⟨Ac, cc, hc, _, rc⟩ := hcells ic hic
  clear hcells r3
  have HKF : Hid (∀ wx, Below w3.heap.size w3 wx → wx.cell? ⟨w.heap.size, 0, none⟩ = some (.slice (some ⟨b0, off, none⟩) ws.length c) ∧ wx.cell? ⟨w.heap.size + 1, 1, none⟩ = some (.int .i64 (ia : Nat)) ∧ wx.cell? ⟨w.heap.size + 1, 2, none⟩ = some (.int .i64 (ib : Nat)) ∧ wx.cell? ⟨w.heap.size + 1, 3, none⟩ = some (.int .i64 (ic : Nat)) ∧
      wx.cell? ⟨b0, off + ia, none⟩ = some (.slice Aa (ws.getD ia []).length ca) ∧ wx.cell? ⟨b0, off + ib, none⟩ = some (.slice Ab (ws.getD ib []).length cb) ∧ wx.cell? ⟨b0, off + ic, none⟩ = some (.slice Ac (ws.getD ic []).length cc)) := Lib.hid fun wx hx => by
    have hk : ∀ (q : Addr) (v : Value), q.block < w3.heap.size → w3.cell? q = some v → wx.cell? q = some v := fun q v hq e => (hx.cell hq).trans e
    exact ⟨hk _ _ (by show w.heap.size < _; omega) y0, hk _ _ (by show w.heap.size + 1 < _; omega) x1, hk _ _ (by show w.heap.size + 1 < _; omega) x2, hk _ _ (by show w.heap.size + 1 < _; omega) x3, hk _ _ hbb ha, hk _ _ hbb hb, hk _ _ hbb hc⟩
  have K0 := Lib.hid (HKF.out _ (Below.refl _ w3))
  have RA := Lib.hid ra; have RB := Lib.hid rb; have RC := Lib.hid rc
  have hl2 : (ws.getD ic []).length ≤ 1048576 := by omega
  have tok1 : True := trivial
  clear ra rb rc hlc
  generalize ws.getD ia [] = P at *
  generalize ws.getD ib [] = Q at *
  generalize ws.getD ic [] = R at *
  go_wp2_with (fail)
  go_region_held3 (fun wx => wx.cell? ⟨w.heap.size, 0, none⟩ = some (.slice (some ⟨b0, off, none⟩) ws.length c) ∧ wx.cell? ⟨w.heap.size + 1, 1, none⟩ = some (.int .i64 (ia : Nat)) ∧ wx.cell? ⟨w.heap.size + 1, 2, none⟩ = some (.int .i64 (ib : Nat)) ∧ wx.cell? ⟨w.heap.size + 1, 3, none⟩ = some (.int .i64 (ic : Nat)) ∧
      wx.cell? ⟨b0, off + ia, none⟩ = some (.slice Aa P.length ca) ∧ wx.cell? ⟨b0, off + ib, none⟩ = some (.slice Ab Q.length cb) ∧ wx.cell? ⟨b0, off + ic, none⟩ = some (.slice Ac R.length cc))
    (first | exact K0.out | exact K1.out | exact K2.out)
    (first
      | (have _t := tok1; go_at_call 170; refine (HDU.out Aa Ab ca cb w3.drew ((RA.out.below (drew_below w3)).more (drew_below w3).size) ((RB.out.below (drew_below w3)).more (drew_below w3).size)).mono ?_; rintro e u1 ⟨Ad, cd, rfl, od, bel1'⟩; have bel1 := undrew bel1'; have OD := Lib.hid od; have H1 := Lib.hid bel1; have K1 := Lib.hid (HKF.out _ H1.out); have tok2 : True := trivial; clear od bel1 bel1' tok1)
      | (have _t := tok2; go_at_call 168; refine (sameInts_any Ac Ad R.length DP.length cc cd R DP u1 ((RC.out.below H1.out).more H1.out.size) (RdI.of_own OD.out) hl2 HLM.out).mono ?_; rintro e u2 ⟨he, bel2'⟩; rw [HD.out] at he; subst he; have H2 := Lib.hid (H1.out.trans (bel2'.mono H1.out.size)); have K2 := Lib.hid (HKF.out _ H2.out); have tok3 : True := trivial; clear bel2' tok2))
  all_goals go_wp2
  all_goals go_ret
  all_goals exact ⟨rfl, HB0.out.trans ((B3.out.trans (H2.out.mono (by omega))).mono (by omega))⟩
theorem sFits_any (h : NH) (N : Nt) (l : Lk) (w : World) (r : RdQ w w.heap.size h.A N.w.length N.w) (hn : N.w.length ≤ maxLen) (hf : N.w.all formN = true) :
    Calls Tryz.prog 137 #[.agg #[.slice h.A N.w.length h.c, .slice h.L N.l.length h.d, .slice h.C N.c.length h.e], .agg #[.int .i64 l.k, .int .i64 l.a, .int .i64 l.b, .int .i64 l.c]] w fun e w' => e = .returned (.bool (fitsN N.w l)) ∧ Below w.heap.size w w' := by
  obtain ⟨A, c, hs, L, d, C, e0⟩ := h
  obtain ⟨ws, ls, cs⟩ := N
  obtain ⟨k, a, b, z⟩ := l
  dsimp only at r hn hf ⊢
  unfold fitsN
  dsimp only
  cases ha : inW ws.length a with
  | false => exact sFits_na A L C c ls.length d cs.length e0 ws w k a b z hn ha
  | true =>
  cases hb : inW ws.length b with
  | false => exact sFits_nb A L C c ls.length d cs.length e0 ws w k a b z hn ha hb
  | true =>
  cases hc : inW ws.length z with
  | false => exact sFits_nc A L C c ls.length d cs.length e0 ws w k a b z hn ha hb hc
  | true =>
  have fa := formN_valid (wAt_valid hf ha)
  have fb := formN_valid (wAt_valid hf hb)
  have fc := formN_valid (wAt_valid hf hc)
  obtain ⟨_, la, ea⟩ := inW_yes ha
  obtain ⟨_, lb, eb⟩ := inW_yes hb
  obtain ⟨_, lc, ec⟩ := inW_yes hc
  unfold wAt at fa fb fc
  rw [show (true && (true && (true && rightN ws ⟨k, a, b, z⟩))) = rightN ws ⟨k, a, b, z⟩ from rfl]
  unfold rightN wAt
  dsimp only
  generalize a.toNat = ia at *
  generalize b.toNat = ib at *
  subst ea eb
  by_cases h1 : k = 1
  · subst h1
    rw [if_pos (.inl rfl)]
    by_cases hz : z = 0
    · subst hz
      rw [show (decide ((0 : Int) = 0) && decide (ws.getD ib [] = (ws.getD ia []).map duZ)) = decide (ws.getD ib [] = (ws.getD ia []).map duZ) by rw [decide_eq_true (rfl : (0 : Int) = 0)]; rfl]
      exact sFits_d1_yes A L C c ls.length d cs.length e0 ws w ia ib la lb r fa (valid_len fb).2.1 hn ha hb hc
    · rw [decide_eq_false hz]
      exact sFits_d1_no A L C c ls.length d cs.length e0 ws w ia ib z hn ha hb hc hz
  by_cases h2 : k = 2
  · subst h2
    rw [if_pos (.inr rfl)]
    by_cases hz : z = 0
    · subst hz
      rw [show (decide ((0 : Int) = 0) && decide (ws.getD ib [] = (ws.getD ia []).map duZ)) = decide (ws.getD ib [] = (ws.getD ia []).map duZ) by rw [decide_eq_true (rfl : (0 : Int) = 0)]; rfl]
      exact sFits_d2_yes A L C c ls.length d cs.length e0 ws w ia ib la lb r fa (valid_len fb).2.1 hn ha hb hc
    · rw [decide_eq_false hz]
      exact sFits_d2_no A L C c ls.length d cs.length e0 ws w ia ib z hn ha hb hc hz
  generalize z.toNat = ic at *
  subst ec
  rw [if_neg (by omega)]
  by_cases h3 : k = 3
  · subst h3
    rw [if_pos rfl]
    exact sFits_j3 A L C c ls.length d cs.length e0 ws w ia ib ic la lb lc r fa fb (valid_len fc).2.1 hn ha hb hc
  rw [if_neg h3]
  by_cases h4 : k = 4
  · subst h4
    rw [if_pos rfl]
    exact sFits_j4 A L C c ls.length d cs.length e0 ws w ia ib ic la lb lc r fa fb (valid_len fc).2.1 hn ha hb hc
  rw [if_neg h4]
  exact sFits_other A L C c ls.length d cs.length e0 ws w k ia ib ic hn ha hb hc h1 h2 h3 h4
end Go.Proofs.YtfdpkhiiboghiaaGreatDoor
