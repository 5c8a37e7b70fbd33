/- PlainStep of the program: the walk. -/
import Derived.Test.YtjgmgaccmcepdaaGreatDoorPlain
namespace Go.Proofs.YtjgmgaccmcepdaaGreatDoor
open Go.ChangeAt Go.ChangeShapes Go.RowKit Go.WideShapes

theorem inR_yes {x : Int} (h0 : 0 ≤ x) (h1 : x < 40) : inR x = true := by unfold inR; rw [decide_eq_true h0, decide_eq_true h1]; rfl
theorem inR_neg {x : Int} (h0 : x < 0) : inR x = false := by unfold inR; rw [decide_eq_false (by omega)]; rfl
theorem inR_big {x : Int} (h0 : 40 ≤ x) : inR x = false := by unfold inR; rw [decide_eq_false (show ¬ x < 40 by omega), Bool.and_false]
theorem idx_named {x u : Int} : idxB true x u = inR x := rfl
theorem idx_same {x u : Int} (h : x = u) : idxB false x u = true := decide_eq_true h
theorem idx_other {x u : Int} (h : ¬ x = u) : idxB false x u = false := decide_eq_false h
theorem index4_0 (x0 x1 x2 x3 : Value) (w : World) : (Instr.index 150 (.agg #[x0, x1, x2, x3]) (.int .i64 0)).run Tryz.prog w = .ok x0 w := by kernel_rfl
theorem index4_1 (x0 x1 x2 x3 : Value) (w : World) : (Instr.index 150 (.agg #[x0, x1, x2, x3]) (.int .i64 1)).run Tryz.prog w = .ok x1 w := by kernel_rfl
theorem index4_2 (x0 x1 x2 x3 : Value) (w : World) : (Instr.index 150 (.agg #[x0, x1, x2, x3]) (.int .i64 2)).run Tryz.prog w = .ok x2 w := by kernel_rfl
theorem index4_3 (x0 x1 x2 x3 : Value) (w : World) : (Instr.index 150 (.agg #[x0, x1, x2, x3]) (.int .i64 3)).run Tryz.prog w = .ok x3 w := by kernel_rfl
/-- The first k of the four indices are as they should be. -/
def upB (n0 n1 n2 n3 : Bool) (a b i j : Int) (k : Nat) : Prop :=
  (0 < k → idxB n0 a (-1) = true) ∧ (1 < k → idxB n1 b (-1) = true) ∧ (2 < k → idxB n2 i 0 = true) ∧ (3 < k → idxB n3 j 0 = true)

set_option maxRecDepth 100000 in
set_option maxHeartbeats 8000000 in
theorem plainStep_impl (r a b i j : Int) (A : Option Addr) (n c : Nat) (f : List Int) (w : World) (h : RdI w w.heap.size A n f) (hnc : n ≤ c) (ht : Arit w) :
    Calls Tryz.prog 62 #[Value.agg #[Value.int .i64 r, Value.int .i64 a, Value.int .i64 b, Value.int .i64 i, Value.int .i64 j, Value.slice A n c]] w fun e w' => e = .returned (.bool (plainB r a b i j f)) ∧ Below w.heap.size w w' := by
  obtain ⟨w1, hw1⟩ : ∃ w1, w1 = w.alloc (.cells #[Value.int .i64 r, Value.int .i64 a, Value.int .i64 b, Value.int .i64 i, Value.int .i64 j, Value.slice A n c] 30) := ⟨_, rfl⟩
  have hb1 := box_any w (.cells #[Value.int .i64 r, Value.int .i64 a, Value.int .i64 b, Value.int .i64 i, Value.int .i64 j, Value.slice A n c] 30)
  have p1 : (w.alloc (.cells #[Value.int .i64 r, Value.int .i64 a, Value.int .i64 b, Value.int .i64 i, Value.int .i64 j, Value.slice A n c] 30)).heap[w.heap.size]? = some (.cells #[Value.int .i64 r, Value.int .i64 a, Value.int .i64 b, Value.int .i64 i, Value.int .i64 j, Value.slice A n c] 30 (0, 0)) := heap_alloc_new _ _
  have hs1 : (w.alloc (.cells #[Value.int .i64 r, Value.int .i64 a, Value.int .i64 b, Value.int .i64 i, Value.int .i64 j, Value.slice A n c] 30)).heap.size = w.heap.size + 1 := by simp
  rw [← hw1] at hb1 p1 hs1
  have x0 : w1.cell? ⟨w.heap.size, 0, none⟩ = some (.int .i64 r) := cell_of_row _ _ 0 _ _ (0, 0) p1
  have x1 : w1.cell? ⟨w.heap.size, 1, none⟩ = some (.int .i64 a) := cell_of_row _ _ 1 _ _ (0, 0) p1
  have x2 : w1.cell? ⟨w.heap.size, 2, none⟩ = some (.int .i64 b) := cell_of_row _ _ 2 _ _ (0, 0) p1
  have x3 : w1.cell? ⟨w.heap.size, 3, none⟩ = some (.int .i64 i) := cell_of_row _ _ 3 _ _ (0, 0) p1
  have x4 : w1.cell? ⟨w.heap.size, 4, none⟩ = some (.int .i64 j) := cell_of_row _ _ 4 _ _ (0, 0) p1
  have x5 : w1.cell? ⟨w.heap.size, 5, none⟩ = some (.slice A n c) := cell_of_row _ _ 5 _ _ (0, 0) p1
  by_cases hr : 1 ≤ r ∧ r ≤ 14
  · obtain ⟨h1, h2⟩ := hr
    have HR := Lib.hid (ruleOf_any w1 r h1 h2)
    have HN := Lib.hid (fun w => namedIndices_any r h1 h2 w)
    have hm := m_fits r h1 h2
    have HFT := Lib.hid (fits_any (ruI r) (ruJ r) (ruF r) r a b i j A n c f w1 ((h.below hb1).more hb1.size) hnc (ht.below hb1 ht.lt))
    have HPL : Hid (plainB r a b i j f = (fitV (ruI r) (ruJ r) (ruF r) i j f && (idxB (decide (0 < ruP r)) a (-1) && (idxB (decide (1 < ruP r)) b (-1) && (idxB (ruI r) i 0 && idxB (ruJ r) j 0))))) := Lib.hid (by unfold plainB; rw [decide_eq_true h1, decide_eq_true h2, Bool.true_and, Bool.true_and])
    have HB1 := Lib.hid hb1
    have P1 := Lib.hid p1
    clear hb1 p1 h ht
    have hne : ∀ (T : TypeId) (v : Value) (w : World), (binOp .eql 116 (.iface T v) .nilIface).run Tryz.prog w = .ok (.bool false) w := fun T v w => by rfl
    generalize plainB r a b i j f = PB at *
    generalize fitV (ruI r) (ruJ r) (ruF r) i j f = FT at *
    generalize ruT r = T at *; generalize ruI r = n2 at *; generalize ruJ r = n3 at *; generalize ruF r = z at *
    generalize decide (0 < ruP r) = n0 at *; generalize decide (1 < ruP r) = n1 at *
    go_enter Tryz.func62, Tryz.ntmps62
    go_wp2_with (fail)
    rw [← hw1]
    clear hw1
    refine HR.out.mono ?_
    rintro e w' ⟨rfl, rfl⟩
    go_wp2_with (fail)
    refine HFT.out.mono ?_
    rintro e w2 ⟨rfl, bel2⟩
    have hs2 := bel2.size
    have p2 := (bel2.block w.heap.size (by omega)).trans P1.out
    have HB2 := Lib.hid (HB1.out.trans (bel2.mono (by omega)))
    have P2 := Lib.hid p2
    have y0 : w2.cell? ⟨w.heap.size, 0, none⟩ = some (.int .i64 r) := cell_of_row _ _ 0 _ _ (0, 0) p2
    have y1 : w2.cell? ⟨w.heap.size, 1, none⟩ = some (.int .i64 a) := cell_of_row _ _ 1 _ _ (0, 0) p2
    have y2 : w2.cell? ⟨w.heap.size, 2, none⟩ = some (.int .i64 b) := cell_of_row _ _ 2 _ _ (0, 0) p2
    have y3 : w2.cell? ⟨w.heap.size, 3, none⟩ = some (.int .i64 i) := cell_of_row _ _ 3 _ _ (0, 0) p2
    have y4 : w2.cell? ⟨w.heap.size, 4, none⟩ = some (.int .i64 j) := cell_of_row _ _ 4 _ _ (0, 0) p2
    have y5 : w2.cell? ⟨w.heap.size, 5, none⟩ = some (.slice A n c) := cell_of_row _ _ 5 _ _ (0, 0) p2
    clear x0 x1 x2 x3 x4 x5 bel2 p2 HR HFT
    cases FT with
    | false =>
      clear HN
      go_wp2
      go_ret
      exact ⟨ret_bool (by rw [HPL.out]; rfl), HB2.out⟩
    | true =>
      go_wp2_with (fail)
      refine (indicesOf_any r a b i j A n c w2).mono ?_
      rintro e w3 ⟨rfl, bel3⟩
      have HB3 := Lib.hid (HB2.out.trans (bel3.mono HB2.out.size))
      clear bel3 y0 y1 y2 y3 y4 y5
      go_wp2_with (fail)
      refine (unnamedIndices_any w3).mono ?_
      rintro e w4 ⟨rfl, bel4⟩
      have HB4 := Lib.hid (HB3.out.trans (bel4.mono HB3.out.size))
      clear bel4
      obtain ⟨w5, hw5⟩ : ∃ w5, w5 = (w4.alloc (.cells #[Value.int .i64 a, Value.int .i64 b, Value.int .i64 i, Value.int .i64 j] 147)).alloc (.cells #[Value.int .i64 (-1), Value.int .i64 (-1), Value.int .i64 0, Value.int .i64 0] 147) := ⟨_, rfl⟩
      obtain ⟨hb5, p4, p5, hs5⟩ := two_any w4 (.cells #[Value.int .i64 a, Value.int .i64 b, Value.int .i64 i, Value.int .i64 j] 147) (.cells #[Value.int .i64 (-1), Value.int .i64 (-1), Value.int .i64 0, Value.int .i64 0] 147)
      rw [← hw5] at hb5 p4 p5 hs5
      go_wp2_with (fail)
      rw [← hw5]
      clear hw5
      refine (HN.out w5).mono ?_
      rintro e w6 ⟨rfl, bel6⟩
      have q4 := (bel6.block w4.heap.size (by omega)).trans p4
      have q5 := (bel6.block (w4.heap.size + 1) (by omega)).trans p5
      have hs6 := bel6.size
      have c40 : w6.cell? ⟨w4.heap.size, 0, none⟩ = some (.int .i64 a) := cell_of_row _ _ 0 _ _ (0, 0) q4
      have c50 : w6.cell? ⟨w4.heap.size + 1, 0, none⟩ = some (.int .i64 (-1)) := cell_of_row _ _ 0 _ _ (0, 0) q5
      have c41 : w6.cell? ⟨w4.heap.size, 1, none⟩ = some (.int .i64 b) := cell_of_row _ _ 1 _ _ (0, 0) q4
      have c51 : w6.cell? ⟨w4.heap.size + 1, 1, none⟩ = some (.int .i64 (-1)) := cell_of_row _ _ 1 _ _ (0, 0) q5
      have c42 : w6.cell? ⟨w4.heap.size, 2, none⟩ = some (.int .i64 i) := cell_of_row _ _ 2 _ _ (0, 0) q4
      have c52 : w6.cell? ⟨w4.heap.size + 1, 2, none⟩ = some (.int .i64 0) := cell_of_row _ _ 2 _ _ (0, 0) q5
      have c43 : w6.cell? ⟨w4.heap.size, 3, none⟩ = some (.int .i64 j) := cell_of_row _ _ 3 _ _ (0, 0) q4
      have c53 : w6.cell? ⟨w4.heap.size + 1, 3, none⟩ = some (.int .i64 0) := cell_of_row _ _ 3 _ _ (0, 0) q5
      have HB6 := Lib.hid (HB4.out.trans ((hb5.mono HB4.out.size).trans (bel6.mono (by have := HB4.out.size; omega))))
      have hlt4 : w4.heap.size < w6.heap.size := by omega
      have hlt5 : w4.heap.size + 1 < w6.heap.size := by omega
      clear p4 p5 q4 q5 bel6 hb5 hs5 hs6 HN P1 P2 hm hne hs1 hs2
      generalize w4.heap.size = b4 at *
      go_wp2_with (fail)
      go_loopw [24] (fun t wr => ∃ (k : Nat) (zk : Int), k ≤ 4 ∧ zk = k ∧ t = .int .i64 zk ∧ upB n0 n1 n2 n3 a b i j k ∧ Below w6.heap.size w6 wr) (fun t _ => 4 - (intOf t).toNat)
      case atStart => exact ⟨0, 0, by omega, rfl, rfl, ⟨fun h => absurd h (by decide), fun h => absurd h (by decide), fun h => absurd h (by decide), fun h => absurd h (by decide)⟩, Below.refl _ _⟩
      case round =>
        obtain ⟨k, zk, hk, hzk, rfl, hu, hb⟩ := hrel
        have hi0 := index4_0; have hi1 := index4_1; have hi2 := index4_2; have hi3 := index4_3
        have HU := Lib.hid hu; have HB := Lib.hid (HB6.out.trans (hb.mono HB6.out.size)); have HBW := Lib.hid hb
        have d40 := (hb.cell (p := ⟨b4, 0, none⟩) hlt4).trans c40
        have d50 := (hb.cell (p := ⟨b4 + 1, 0, none⟩) hlt5).trans c50
        have d41 := (hb.cell (p := ⟨b4, 1, none⟩) hlt4).trans c41
        have d51 := (hb.cell (p := ⟨b4 + 1, 1, none⟩) hlt5).trans c51
        have d42 := (hb.cell (p := ⟨b4, 2, none⟩) hlt4).trans c42
        have d52 := (hb.cell (p := ⟨b4 + 1, 2, none⟩) hlt5).trans c52
        have d43 := (hb.cell (p := ⟨b4, 3, none⟩) hlt4).trans c43
        have d53 := (hb.cell (p := ⟨b4 + 1, 3, none⟩) hlt5).trans c53
        clear hu hb c40 c41 c42 c43 c50 c51 c52 c53
        obtain ⟨rfl, rfl⟩ | ⟨rfl, rfl⟩ | ⟨rfl, rfl⟩ | ⟨rfl, rfl⟩ | ⟨rfl, rfl⟩ : (k = 0 ∧ zk = 0) ∨ (k = 1 ∧ zk = 1) ∨ (k = 2 ∧ zk = 2) ∨ (k = 3 ∧ zk = 3) ∨ (k = 4 ∧ zk = 4) := by omega
        all_goals clear hzk hk
        · clear d41 d51 d42 d52 d43 d53
          cases n0 with
          | true =>
            by_cases hx : a < 0
            · have hn : idxB true a (-1) = false := inR_neg hx
              have hd : decide (a < 0) = true := decide_eq_true hx
              go_wp2
              go_ret
              exact ⟨ret_bool (by rw [HPL.out, hn]; simp), HB.out⟩
            · have hd : decide (a < 0) = false := decide_eq_false hx
              by_cases hy : 40 ≤ a
              · have hn : idxB true a (-1) = false := inR_big hy
                have he : decide (40 ≤ a) = true := decide_eq_true hy
                go_wp2
                go_ret
                exact ⟨ret_bool (by rw [HPL.out, hn]; simp), HB.out⟩
              · have hn : idxB true a (-1) = true := inR_yes (by omega) (by omega)
                have he : decide (40 ≤ a) = false := decide_eq_false hy
                go_wp2_with (fail)
                go_quiet (fail)
                go_wp2
                go_roundw
                case rel => exact ⟨1, 1, by omega, rfl, rfl, ⟨fun h => by first | exact hn | exact HU.out.1 (by omega) | omega, fun h => by first | exact hn | exact HU.out.2.1 (by omega) | omega, fun h => by first | exact hn | exact HU.out.2.2.1 (by omega) | omega, fun h => by first | exact hn | exact HU.out.2.2.2 (by omega) | omega⟩, below_drewN HBW.out _⟩
                case measure => simp [intOf]
          | false =>
            by_cases hx : a = (-1)
            · have hn : idxB false a (-1) = true := idx_same hx
              have hd : (a != (-1)) = false := by rw [hx]; rfl
              go_wp2_with (fail)
              go_quiet (fail)
              go_wp2
              go_roundw
              case rel => exact ⟨1, 1, by omega, rfl, rfl, ⟨fun h => by first | exact hn | exact HU.out.1 (by omega) | omega, fun h => by first | exact hn | exact HU.out.2.1 (by omega) | omega, fun h => by first | exact hn | exact HU.out.2.2.1 (by omega) | omega, fun h => by first | exact hn | exact HU.out.2.2.2 (by omega) | omega⟩, below_drewN HBW.out _⟩
              case measure => simp [intOf]
            · have hn : idxB false a (-1) = false := idx_other hx
              have hd : (a != (-1)) = true := by simpa using hx
              go_wp2_with (fail)
              go_quiet (fail)
              go_wp2
              go_ret
              exact ⟨ret_bool (by rw [HPL.out, hn]; simp), below_drewN HB.out _⟩
        · clear d40 d50 d42 d52 d43 d53
          cases n1 with
          | true =>
            by_cases hx : b < 0
            · have hn : idxB true b (-1) = false := inR_neg hx
              have hd : decide (b < 0) = true := decide_eq_true hx
              go_wp2
              go_ret
              exact ⟨ret_bool (by rw [HPL.out, hn]; simp), HB.out⟩
            · have hd : decide (b < 0) = false := decide_eq_false hx
              by_cases hy : 40 ≤ b
              · have hn : idxB true b (-1) = false := inR_big hy
                have he : decide (40 ≤ b) = true := decide_eq_true hy
                go_wp2
                go_ret
                exact ⟨ret_bool (by rw [HPL.out, hn]; simp), HB.out⟩
              · have hn : idxB true b (-1) = true := inR_yes (by omega) (by omega)
                have he : decide (40 ≤ b) = false := decide_eq_false hy
                go_wp2_with (fail)
                go_quiet (fail)
                go_wp2
                go_roundw
                case rel => exact ⟨2, 2, by omega, rfl, rfl, ⟨fun h => by first | exact hn | exact HU.out.1 (by omega) | omega, fun h => by first | exact hn | exact HU.out.2.1 (by omega) | omega, fun h => by first | exact hn | exact HU.out.2.2.1 (by omega) | omega, fun h => by first | exact hn | exact HU.out.2.2.2 (by omega) | omega⟩, below_drewN HBW.out _⟩
                case measure => simp [intOf]
          | false =>
            by_cases hx : b = (-1)
            · have hn : idxB false b (-1) = true := idx_same hx
              have hd : (b != (-1)) = false := by rw [hx]; rfl
              go_wp2_with (fail)
              go_quiet (fail)
              go_wp2
              go_roundw
              case rel => exact ⟨2, 2, by omega, rfl, rfl, ⟨fun h => by first | exact hn | exact HU.out.1 (by omega) | omega, fun h => by first | exact hn | exact HU.out.2.1 (by omega) | omega, fun h => by first | exact hn | exact HU.out.2.2.1 (by omega) | omega, fun h => by first | exact hn | exact HU.out.2.2.2 (by omega) | omega⟩, below_drewN HBW.out _⟩
              case measure => simp [intOf]
            · have hn : idxB false b (-1) = false := idx_other hx
              have hd : (b != (-1)) = true := by simpa using hx
              go_wp2_with (fail)
              go_quiet (fail)
              go_wp2
              go_ret
              exact ⟨ret_bool (by rw [HPL.out, hn]; simp), below_drewN HB.out _⟩
        · clear d40 d50 d41 d51 d43 d53
          cases n2 with
          | true =>
            by_cases hx : i < 0
            · have hn : idxB true i 0 = false := inR_neg hx
              have hd : decide (i < 0) = true := decide_eq_true hx
              go_wp2
              go_ret
              exact ⟨ret_bool (by rw [HPL.out, hn]; simp), HB.out⟩
            · have hd : decide (i < 0) = false := decide_eq_false hx
              by_cases hy : 40 ≤ i
              · have hn : idxB true i 0 = false := inR_big hy
                have he : decide (40 ≤ i) = true := decide_eq_true hy
                go_wp2
                go_ret
                exact ⟨ret_bool (by rw [HPL.out, hn]; simp), HB.out⟩
              · have hn : idxB true i 0 = true := inR_yes (by omega) (by omega)
                have he : decide (40 ≤ i) = false := decide_eq_false hy
                go_wp2_with (fail)
                go_quiet (fail)
                go_wp2
                go_roundw
                case rel => exact ⟨3, 3, by omega, rfl, rfl, ⟨fun h => by first | exact hn | exact HU.out.1 (by omega) | omega, fun h => by first | exact hn | exact HU.out.2.1 (by omega) | omega, fun h => by first | exact hn | exact HU.out.2.2.1 (by omega) | omega, fun h => by first | exact hn | exact HU.out.2.2.2 (by omega) | omega⟩, below_drewN HBW.out _⟩
                case measure => simp [intOf]
          | false =>
            by_cases hx : i = 0
            · have hn : idxB false i 0 = true := idx_same hx
              have hd : (i != 0) = false := by rw [hx]; rfl
              go_wp2_with (fail)
              go_quiet (fail)
              go_wp2
              go_roundw
              case rel => exact ⟨3, 3, by omega, rfl, rfl, ⟨fun h => by first | exact hn | exact HU.out.1 (by omega) | omega, fun h => by first | exact hn | exact HU.out.2.1 (by omega) | omega, fun h => by first | exact hn | exact HU.out.2.2.1 (by omega) | omega, fun h => by first | exact hn | exact HU.out.2.2.2 (by omega) | omega⟩, below_drewN HBW.out _⟩
              case measure => simp [intOf]
            · have hn : idxB false i 0 = false := idx_other hx
              have hd : (i != 0) = true := by simpa using hx
              go_wp2_with (fail)
              go_quiet (fail)
              go_wp2
              go_ret
              exact ⟨ret_bool (by rw [HPL.out, hn]; simp), below_drewN HB.out _⟩
        · clear d40 d50 d41 d51 d42 d52
          cases n3 with
          | true =>
            by_cases hx : j < 0
            · have hn : idxB true j 0 = false := inR_neg hx
              have hd : decide (j < 0) = true := decide_eq_true hx
              go_wp2
              go_ret
              exact ⟨ret_bool (by rw [HPL.out, hn]; simp), HB.out⟩
            · have hd : decide (j < 0) = false := decide_eq_false hx
              by_cases hy : 40 ≤ j
              · have hn : idxB true j 0 = false := inR_big hy
                have he : decide (40 ≤ j) = true := decide_eq_true hy
                go_wp2
                go_ret
                exact ⟨ret_bool (by rw [HPL.out, hn]; simp), HB.out⟩
              · have hn : idxB true j 0 = true := inR_yes (by omega) (by omega)
                have he : decide (40 ≤ j) = false := decide_eq_false hy
                go_wp2_with (fail)
                go_quiet (fail)
                go_wp2
                go_roundw
                case rel => exact ⟨4, 4, by omega, rfl, rfl, ⟨fun h => by first | exact hn | exact HU.out.1 (by omega) | omega, fun h => by first | exact hn | exact HU.out.2.1 (by omega) | omega, fun h => by first | exact hn | exact HU.out.2.2.1 (by omega) | omega, fun h => by first | exact hn | exact HU.out.2.2.2 (by omega) | omega⟩, below_drewN HBW.out _⟩
                case measure => simp [intOf]
          | false =>
            by_cases hx : j = 0
            · have hn : idxB false j 0 = true := idx_same hx
              have hd : (j != 0) = false := by rw [hx]; rfl
              go_wp2_with (fail)
              go_quiet (fail)
              go_wp2
              go_roundw
              case rel => exact ⟨4, 4, by omega, rfl, rfl, ⟨fun h => by first | exact hn | exact HU.out.1 (by omega) | omega, fun h => by first | exact hn | exact HU.out.2.1 (by omega) | omega, fun h => by first | exact hn | exact HU.out.2.2.1 (by omega) | omega, fun h => by first | exact hn | exact HU.out.2.2.2 (by omega) | omega⟩, below_drewN HBW.out _⟩
              case measure => simp [intOf]
            · have hn : idxB false j 0 = false := idx_other hx
              have hd : (j != 0) = true := by simpa using hx
              go_wp2_with (fail)
              go_quiet (fail)
              go_wp2
              go_ret
              exact ⟨ret_bool (by rw [HPL.out, hn]; simp), below_drewN HB.out _⟩
        · have HE : Hid (true = PB) := Lib.hid (by rw [HPL.out, HU.out.1 (by decide), HU.out.2.1 (by decide), HU.out.2.2.1 (by decide), HU.out.2.2.2 (by decide)]; rfl)
          go_wp2
          go_ret
          exact ⟨ret_bool HE.out, HB.out⟩
  · have hr' := hr
    have HR := Lib.hid (ruleOf_none w1 r hr)
    have HPL : Hid (plainB r a b i j f = false) := Lib.hid (by
      unfold plainB
      by_cases h1 : 1 ≤ r
      · rw [decide_eq_false (show ¬ r ≤ 14 by omega), Bool.false_and, Bool.and_false]
      · rw [decide_eq_false h1, Bool.false_and])
    have HB1 := Lib.hid hb1
    clear hb1 p1 h ht hr hr'
    have hne : ∀ (w : World), (binOp .eql 116 .nilIface .nilIface).run Tryz.prog w = .ok (.bool true) w := fun w => by rfl
    generalize plainB r a b i j f = PB at *
    go_enter Tryz.func62, Tryz.ntmps62
    go_wp2_with (fail)
    rw [← hw1]
    clear hw1
    refine HR.out.mono ?_
    rintro e w' ⟨rfl, rfl⟩
    go_wp2
    go_ret
    exact ⟨ret_bool (by rw [HPL.out]), HB1.out⟩
end Go.Proofs.YtjgmgaccmcepdaaGreatDoor
