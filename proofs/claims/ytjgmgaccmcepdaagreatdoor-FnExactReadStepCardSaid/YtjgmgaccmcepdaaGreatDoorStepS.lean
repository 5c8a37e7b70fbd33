/- decimal and ruleNames of the model. -/
import Derived.Test.YtjgmgaccmcepdaaGreatDoorStepI
import Derived.Test.YtjgmgaccmcepdaaGreatDoorPlainS
namespace Go.Proofs.YtjgmgaccmcepdaaGreatDoor
open Go.ChangeAt Go.ChangeShapes Go.RowKit Go.WideShapes

theorem decB_one {x : Int} (h0 : 0 ≤ x) (h1 : x < 10) : mkB [48 + x] = decB x := by
  apply ba_ext
  obtain ⟨k, rfl⟩ : ∃ k : Nat, x = k := ⟨x.toNat, by omega⟩
  have e : ((k : Int)).toNat = k := by omega
  have e2 : (48 + (k : Int)).toNat = 48 + k := by omega
  unfold decB
  rw [e, dec_small (by omega), mkB_list, List.map_singleton, e2]
theorem decB_two {k : Nat} (h0 : 10 ≤ k) (h1 : k < 100) : decB ((k / 10 : Nat) : Int) ++ decB ((k % 10 : Nat) : Int) = decB (k : Int) := by
  apply ba_ext
  have e : ((k : Int)).toNat = k := by omega
  have e1 : (((k / 10 : Nat) : Int)).toNat = k / 10 := by omega
  have e2 : (((k % 10 : Nat) : Int)).toNat = k % 10 := by omega
  unfold decB
  rw [e, e1, e2, dec_two (by omega) h1, dec_small (by omega), dec_small (by omega)]
  rfl
set_option maxRecDepth 20000 in
set_option maxHeartbeats 1000000 in
theorem dec1_any (x : Int) (w : World) (h0 : 0 ≤ x) (h1 : x < 10) : Calls Tryz.prog 168 #[.int .i64 x] w fun e w' => e = .returned (.string (decB x)) ∧ Below w.heap.size w w' := by
  rw [← decB_one h0 h1]
  have hcv := conv_one (48 + x) (by omega) (by omega) w
  have hb : Below w.heap.size w (w.alloc (.cells #[.int .u8 (48 + x)] 5)) := (Below.refl _ _).alloc (Nat.le_refl _) _
  have HB := Lib.hid hb
  generalize mkB [48 + x] = B1 at *
  have hneg : decide (x < 0) = false := decide_eq_false (by omega)
  have hten : decide (x < 10) = true := decide_eq_true h1
  clear hb
  go_enter Tryz.func168, Tryz.ntmps168
  go_wp2_with (fail)
  go_ret
  exact ⟨rfl, HB.out⟩
set_option maxRecDepth 20000 in
set_option maxHeartbeats 1000000 in
theorem decimal_any (x : Int) (w : World) (h : inR x = true) : Calls Tryz.prog 168 #[.int .i64 x] w fun e w' => e = .returned (.string (decB x)) ∧ Below w.heap.size w w' := by
  obtain ⟨h0, h1⟩ := inR_iff h
  by_cases h10 : x < 10
  · exact dec1_any x w h0 h10
  · obtain ⟨k, rfl⟩ : ∃ k : Nat, x = k := ⟨x.toNat, by omega⟩
    have hneg : decide ((k : Int) < 0) = false := decide_eq_false (by omega)
    have hten : decide ((k : Int) < 10) = false := decide_eq_false (by omega)
    obtain ⟨q, hq⟩ : ∃ q, (k : Int) / 10 = q := ⟨_, rfl⟩
    obtain ⟨m, hm⟩ : ∃ m, (k : Int) % 10 = m := ⟨_, rfl⟩
    have HC1 := Lib.hid (fun w => dec1_any q w (by omega) (by omega))
    have HC2 := Lib.hid (fun w => dec1_any m w (by omega) (by omega))
    have hadd : ∀ w : World, (Op.stringOp .add (decB q) (decB m)).run Tryz.prog w = .ok (.string (decB (k : Int))) w := by
      intro w
      have e1 : q = ((k / 10 : Nat) : Int) := by omega
      have e2 : m = ((k % 10 : Nat) : Int) := by omega
      have b1 := dec_len (x := q) (by omega) (by omega)
      have b2 := dec_len (x := m) (by omega) (by omega)
      rw [← decB_two (k := k) (by omega) (by omega), ← e1, ← e2]
      exact run_string_add_sum _ _ _ (by omega)
    have EQ1 : Hid (wrap64 ((k : Int) / 10) = q) := Lib.hid (by
      rw [hq]
      exact IntWalk.wrap64_in _ (by omega))
    have EQ2 := Lib.hid hm
    clear h h0 h1 h10 hq hm
    generalize decB q = B1 at *
    generalize decB m = B2 at *
    generalize decB (k : Int) = B3 at *
    go_enter Tryz.func168, Tryz.ntmps168
    go_wp2_with (fail)
    rw [EQ1.out]
    refine (HC1.out w).mono ?_
    rintro e w1 ⟨rfl, bel1⟩
    have HB1 := Lib.hid bel1
    clear bel1
    go_wp2_with (fail)
    rw [EQ2.out]
    refine (HC2.out w1).mono ?_
    rintro e w2 ⟨rfl, bel2⟩
    have HB2 := Lib.hid (HB1.out.trans (bel2.mono HB1.out.size))
    clear bel2
    go_wp2
    go_ret
    exact ⟨rfl, HB2.out⟩
theorem ruleNames_any (w : World) : Calls Tryz.prog 120 #[] w fun e w' => e = .returned (.slice (some ⟨w.heap.size, 0, none⟩) 14 14) ∧ w' = w.alloc (.cells ((List.range 14).map fun k => Value.string (nmB (k + 1))).toArray 9) := by
  go_enter Tryz.func120, Tryz.ntmps120
  go_wp2
  go_ret
  exact ⟨rfl, rfl⟩
theorem add_chain {T : List ByteArray} (hs : T ≠ [] ∧ T.length ≤ 5 ∧ ∀ x ∈ T, x.size ≤ 100) {x : ByteArray} (hx : x.size ≤ 100) :
    ∃ U, (∀ w : World, (Op.stringOp .add (jn T) ⟨#[32]⟩).run Tryz.prog w = .ok (.string U) w) ∧ (∀ w : World, (Op.stringOp .add U x).run Tryz.prog w = .ok (.string (jn (T ++ [x]))) w) := by
  have h1 := jn_size (T := T) ⟨hs.1, by have := hs.2.1; omega, hs.2.2⟩
  have h2 : (jn T).size = (Lib.join (T.map (·.data.toList)) [32]).length := by simp [jn, ByteArray.size]
  have h3 : (⟨#[32]⟩ : ByteArray).size = 1 := rfl
  refine ⟨jn T ++ ⟨#[32]⟩, fun w => run_string_add_sum _ _ _ (by omega), fun w => ?_⟩
  rw [jn_snoc hs.1]
  refine run_string_add_sum _ _ _ ?_
  have h4 : (jn T ++ ⟨#[32]⟩).size = (jn T).size + 1 := by rw [ByteArray.size_append]; rfl
  omega
theorem short_add {T : List ByteArray} {l : Nat} (hs : T ≠ [] ∧ T.length ≤ l ∧ ∀ x ∈ T, x.size ≤ 100) {x : ByteArray} (hx : x.size ≤ 100) : (T ++ [x]) ≠ [] ∧ (T ++ [x]).length ≤ l + 1 ∧ ∀ y ∈ T ++ [x], y.size ≤ 100 := by
  refine ⟨by simp, by have := hs.2.1; simp; omega, fun y hy => ?_⟩
  rcases List.mem_append.1 hy with hy | hy
  · exact hs.2.2 y hy
  · rw [List.mem_singleton.1 hy]; exact hx
theorem names_cell (w : World) (k1 : Nat) (hk : k1 < 14) : (w.alloc (.cells ((List.range 14).map fun k => Value.string (nmB (k + 1))).toArray 9)).cell? ⟨w.heap.size, k1, none⟩ = some (.string (nmB (k1 + 1))) := by
  have h := cell_of_row _ w.heap.size k1 _ _ (0, 0) (heap_alloc_new w (.cells ((List.range 14).map fun k => Value.string (nmB (k + 1))).toArray 9))
  rw [h]
  simp [hk]

set_option maxRecDepth 100000 in
set_option maxHeartbeats 8000000 in
theorem sStepText_any (r a b i j : Int) (A : Option Addr) (n c : Nat) (f : List Int) (w : World) (h : RdI w w.heap.size A n f) :
    Calls Tryz.prog 123 #[Value.agg #[Value.int .i64 r, Value.int .i64 a, Value.int .i64 b, Value.int .i64 i, Value.int .i64 j, Value.slice A n c]] w fun e w' => e = .returned (.string (stT r a b i j f)) ∧ Below w.heap.size w w' := by
  obtain ⟨w1, hw1⟩ : ∃ w1, w1 = w.alloc (.cells #[Value.int .i64 r, Value.int .i64 a, Value.int .i64 b, Value.int .i64 i, Value.int .i64 j, Value.slice A n c] 30) := ⟨_, rfl⟩
  have hb1 := box_any w (.cells #[Value.int .i64 r, Value.int .i64 a, Value.int .i64 b, Value.int .i64 i, Value.int .i64 j, Value.slice A n c] 30)
  have p1 : (w.alloc (.cells #[Value.int .i64 r, Value.int .i64 a, Value.int .i64 b, Value.int .i64 i, Value.int .i64 j, Value.slice A n c] 30)).heap[w.heap.size]? = some (.cells #[Value.int .i64 r, Value.int .i64 a, Value.int .i64 b, Value.int .i64 i, Value.int .i64 j, Value.slice A n c] 30 (0, 0)) := heap_alloc_new _ _
  have hs1 : (w.alloc (.cells #[Value.int .i64 r, Value.int .i64 a, Value.int .i64 b, Value.int .i64 i, Value.int .i64 j, Value.slice A n c] 30)).heap.size = w.heap.size + 1 := by simp
  rw [← hw1] at hb1 p1 hs1
  have x0 : w1.cell? ⟨w.heap.size, 0, none⟩ = some (.int .i64 r) := cell_of_row _ _ 0 _ _ (0, 0) p1
  have x1 : w1.cell? ⟨w.heap.size, 1, none⟩ = some (.int .i64 a) := cell_of_row _ _ 1 _ _ (0, 0) p1
  have x2 : w1.cell? ⟨w.heap.size, 2, none⟩ = some (.int .i64 b) := cell_of_row _ _ 2 _ _ (0, 0) p1
  have x3 : w1.cell? ⟨w.heap.size, 3, none⟩ = some (.int .i64 i) := cell_of_row _ _ 3 _ _ (0, 0) p1
  have x4 : w1.cell? ⟨w.heap.size, 4, none⟩ = some (.int .i64 j) := cell_of_row _ _ 4 _ _ (0, 0) p1
  have x5 : w1.cell? ⟨w.heap.size, 5, none⟩ = some (.slice A n c) := cell_of_row _ _ 5 _ _ (0, 0) p1
  have hPS := sPlainStep_any r a b i j A n c f w1 ((h.below hb1).more hb1.size)
  have HB1 := Lib.hid hb1; have P1 := Lib.hid p1
  clear hb1 p1
  cases hp : plainB r a b i j f with
  | false =>
    rw [hp] at hPS
    have HE : Hid ((⟨#[]⟩ : ByteArray) = stT r a b i j f) := Lib.hid (stT_no hp).symm
    have HPS := Lib.hid hPS
    clear hPS hp h
    generalize stT r a b i j f = R at *
    go_enter Tryz.func123, Tryz.ntmps123
    go_wp2_with (fail)
    rw [← hw1]
    clear hw1
    refine HPS.out.mono ?_
    rintro e w2 ⟨rfl, bel2⟩
    have HB2 := Lib.hid (HB1.out.trans (bel2.mono HB1.out.size))
    clear bel2
    go_wp2
    go_ret
    exact ⟨ret_str HE.out, HB2.out⟩
  | true =>
    rw [hp] at hPS
    obtain ⟨⟨h1, h2⟩, hz, d0, d1, d2, d3⟩ := plain_parts hp
    have hpr := ruP_range r h1 h2; have hkr := ruK_range r h1 h2
    have HE : Hid (jn (addW (ruF r) (tkW (decide (0 < ruP r)) (decide (1 < ruP r)) (decide (0 < ruK r)) (decide (1 < ruK r)) (nmB r.toNat) a b i j 4) (mkB (textL f))) = stT r a b i j f) := Lib.hid (by rw [stT_yes hp, ← ruI_K r h1 h2, ← ruJ_K r h1 h2]; rfl)
    rw [ruI_K r h1 h2] at d2
    rw [ruJ_K r h1 h2] at d3
    have HPS := Lib.hid hPS
    have HP := Lib.hid (fun w => premises_any w r h1 h2)
    have HK := Lib.hid (fun w => positions_any w r h1 h2)
    have HU := Lib.hid (fun w => usesForm_any w r h1 h2)
    obtain ⟨k1, rfl⟩ : ∃ k1 : Nat, r = (k1 : Int) + 1 := ⟨(r - 1).toNat, by omega⟩
    have hk14 : k1 < 14 := by omega
    have ekr : ((k1 : Int) + 1).toNat = k1 + 1 := by omega
    rw [ekr] at HE
    have hnl := nm_len (k1 + 1)
    have HRD := Lib.hid h
    have D0 := Lib.hid d0; have D1 := Lib.hid d1; have D2 := Lib.hid d2; have D3 := Lib.hid d3
    have hfl : (mkB (textL f)).size ≤ 100 := by rw [mkB_size]; have := textL_len f; omega
    clear hPS hp h d0 d1 d2 d3 hz ekr h1 h2
    generalize stT ((k1 : Int) + 1) a b i j f = R at *
    generalize ruF ((k1 : Int) + 1) = z at *
    generalize ruP ((k1 : Int) + 1) = p at *; generalize ruK ((k1 : Int) + 1) = kk at *
    go_enter Tryz.func123, Tryz.ntmps123
    go_wp2_with (fail)
    rw [← hw1]
    clear hw1
    refine HPS.out.mono ?_
    rintro e w2 ⟨rfl, bel2⟩
    have hs2 := bel2.size
    have p2 := (bel2.block w.heap.size (by omega)).trans P1.out
    have HB2 := Lib.hid (HB1.out.trans (bel2.mono (by omega)))
    have P2 := Lib.hid p2
    clear bel2 HPS x0 x1 x2 x3 x4 x5
    have y0 : w2.cell? ⟨w.heap.size, 0, none⟩ = some (.int .i64 ((k1 : Int) + 1)) := cell_of_row _ _ 0 _ _ (0, 0) p2
    have hwr : IntKind.i64.wrap (k1 : Int) = k1 := IntWalk.i64_in _ (by omega)
    have hi1 : (k1 : Int) < 14 := by omega
    clear p2
    go_wp2_with (fail)
    go_region_with (go_at_call 120; go_loud (refine (ruleNames_any w2.drew).mono ?_; rintro e w4 ⟨rfl, hw4⟩; have u0 : w4.cell? ⟨w.heap.size, 0, none⟩ = some (.int .i64 ((k1 : Int) + 1)) := (by subst hw4; exact ((box_any w2.drew _).cell (p := ⟨w.heap.size, 0, none⟩) (by show w.heap.size < w2.heap.size; omega)).trans y0); have u1 : w4.cell? ⟨w2.heap.size, k1, none⟩ = some (.string (nmB (k1 + 1))) := (by subst hw4; exact names_cell w2.drew k1 hk14); have HB4 := Lib.hid (undrew (w := w2) (w' := w4) (by subst hw4; exact box_any w2.drew _)); clear hw4))
    all_goals
      have p4 := (HB4.out.block w.heap.size (by omega)).trans P2.out
      have hz4 : w.heap.size < w4.heap.size := by have := HB4.out.size; omega
      have HBW := Lib.hid (HB2.out.trans (HB4.out.mono HB2.out.size))
      have v0 : w4.cell? ⟨w.heap.size, 0, none⟩ = some (.int .i64 ((k1 : Int) + 1)) := cell_of_row _ _ 0 _ _ (0, 0) p4
      have v1 : w4.cell? ⟨w.heap.size, 1, none⟩ = some (.int .i64 a) := cell_of_row _ _ 1 _ _ (0, 0) p4
      have v2 : w4.cell? ⟨w.heap.size, 2, none⟩ = some (.int .i64 b) := cell_of_row _ _ 2 _ _ (0, 0) p4
      have v3 : w4.cell? ⟨w.heap.size, 3, none⟩ = some (.int .i64 i) := cell_of_row _ _ 3 _ _ (0, 0) p4
      have v4 : w4.cell? ⟨w.heap.size, 4, none⟩ = some (.int .i64 j) := cell_of_row _ _ 4 _ _ (0, 0) p4
      have v5 : w4.cell? ⟨w.heap.size, 5, none⟩ = some (.slice A n c) := cell_of_row _ _ 5 _ _ (0, 0) p4
      clear p4 u0 u1 y0 HB4
      go_wp2_with (fail)
      refine (HP.out w4).mono ?_
      rintro e w' ⟨rfl, rfl⟩
      go_wp2_with (fail)
      refine (HK.out w4).mono ?_
      rintro e w' ⟨rfl, rfl⟩
      have S0 : [nmB (k1 + 1)] ≠ [] ∧ [nmB (k1 + 1)].length ≤ 1 ∧ ∀ y ∈ [nmB (k1 + 1)], y.size ≤ 100 := ⟨by simp, by simp, fun y hy => by rw [List.mem_singleton.1 hy]; omega⟩
      have dl : ∀ x : Int, inR x = true → (decB x).size ≤ 100 := fun x hx => Nat.le_trans (dec_len (inR_iff hx).1 (inR_iff hx).2) (by decide)
      rcases hpr with rfl | rfl | rfl <;> rcases hkr with rfl | rfl | rfl <;> cases z
      · have e0 := jn_one (nmB (k1 + 1))
        have HE2 : Hid (jn [nmB (k1 + 1)] = R) := Lib.hid HE.out
        rw [e0] at HE2
        clear HE dl HP HK hnl S0
        generalize nmB (k1 + 1) = NM at *
        go_wp2_with (fail)
        refine (HU.out w4).mono ?_
        rintro e w' ⟨rfl, rfl⟩
        go_wp2
        go_ret
        exact ⟨ret_str HE2.out, HBW.out⟩
      · obtain ⟨U0, A0, B0⟩ := add_chain (T := [nmB (k1 + 1)]) ⟨S0.1, Nat.le_trans S0.2.1 (by decide), S0.2.2⟩ (x := (mkB (textL f))) hfl
        rw [jn_one] at A0
        have HE2 : Hid (jn ([nmB (k1 + 1)] ++ [(mkB (textL f))]) = R) := Lib.hid HE.out
        clear HE dl HP HK hnl S0
        generalize jn ([nmB (k1 + 1)] ++ [(mkB (textL f))]) = J1 at *
        have HFT := Lib.hid (fun (wx : World) (hb : Below w.heap.size w wx) => sFormText_any A n c f wx ((HRD.out.below hb).more hb.size))
        generalize (mkB (textL f)) = X0 at *
        generalize nmB (k1 + 1) = NM at *
        go_wp2_with (fail)
        refine (HU.out w4).mono ?_
        rintro e w' ⟨rfl, rfl⟩
        go_wp2_with (fail)
        refine (HFT.out w4 HBW.out).mono ?_
        rintro e w5 ⟨rfl, bel⟩
        replace v0 := (bel.cell (p := ⟨w.heap.size, 0, none⟩) hz4).trans v0
        replace v1 := (bel.cell (p := ⟨w.heap.size, 1, none⟩) hz4).trans v1
        replace v2 := (bel.cell (p := ⟨w.heap.size, 2, none⟩) hz4).trans v2
        replace v3 := (bel.cell (p := ⟨w.heap.size, 3, none⟩) hz4).trans v3
        replace v4 := (bel.cell (p := ⟨w.heap.size, 4, none⟩) hz4).trans v4
        replace v5 := (bel.cell (p := ⟨w.heap.size, 5, none⟩) hz4).trans v5
        replace hz4 : w.heap.size < w5.heap.size := by have := bel.size; omega
        replace HBW := Lib.hid (HBW.out.trans (bel.mono HBW.out.size))
        clear bel
        go_wp2
        go_ret
        exact ⟨ret_str HE2.out, HBW.out⟩
      · obtain ⟨U0, A0, B0⟩ := add_chain (T := [nmB (k1 + 1)]) ⟨S0.1, Nat.le_trans S0.2.1 (by decide), S0.2.2⟩ (x := (decB i)) (dl i (show inR i = true from D2.out))
        rw [jn_one] at A0
        have HE2 : Hid (jn ([nmB (k1 + 1)] ++ [(decB i)]) = R) := Lib.hid HE.out
        have HD0 := Lib.hid (fun w => decimal_any i w (show inR i = true from D2.out))
        clear HE dl HP HK hnl S0
        generalize jn ([nmB (k1 + 1)] ++ [(decB i)]) = J1 at *
        generalize (decB i) = X0 at *
        generalize nmB (k1 + 1) = NM at *
        go_wp2_with (fail)
        refine (HD0.out w4).mono ?_
        rintro e w5 ⟨rfl, bel⟩
        replace v0 := (bel.cell (p := ⟨w.heap.size, 0, none⟩) hz4).trans v0
        replace v1 := (bel.cell (p := ⟨w.heap.size, 1, none⟩) hz4).trans v1
        replace v2 := (bel.cell (p := ⟨w.heap.size, 2, none⟩) hz4).trans v2
        replace v3 := (bel.cell (p := ⟨w.heap.size, 3, none⟩) hz4).trans v3
        replace v4 := (bel.cell (p := ⟨w.heap.size, 4, none⟩) hz4).trans v4
        replace v5 := (bel.cell (p := ⟨w.heap.size, 5, none⟩) hz4).trans v5
        replace hz4 : w.heap.size < w5.heap.size := by have := bel.size; omega
        replace HBW := Lib.hid (HBW.out.trans (bel.mono HBW.out.size))
        clear bel
        go_wp2_with (fail)
        refine (HU.out w5).mono ?_
        rintro e w' ⟨rfl, rfl⟩
        go_wp2
        go_ret
        exact ⟨ret_str HE2.out, HBW.out⟩
      · obtain ⟨U0, A0, B0⟩ := add_chain (T := [nmB (k1 + 1)]) ⟨S0.1, Nat.le_trans S0.2.1 (by decide), S0.2.2⟩ (x := (decB i)) (dl i (show inR i = true from D2.out))
        have S1 := short_add S0 (x := (decB i)) (dl i (show inR i = true from D2.out))
        obtain ⟨U1, A1, B1⟩ := add_chain (T := ([nmB (k1 + 1)] ++ [(decB i)])) ⟨S1.1, Nat.le_trans S1.2.1 (by decide), S1.2.2⟩ (x := (mkB (textL f))) hfl
        rw [jn_one] at A0
        have HE2 : Hid (jn (([nmB (k1 + 1)] ++ [(decB i)]) ++ [(mkB (textL f))]) = R) := Lib.hid HE.out
        have HD0 := Lib.hid (fun w => decimal_any i w (show inR i = true from D2.out))
        clear HE dl HP HK hnl S0 S1
        generalize jn (([nmB (k1 + 1)] ++ [(decB i)]) ++ [(mkB (textL f))]) = J2 at *
        generalize jn ([nmB (k1 + 1)] ++ [(decB i)]) = J1 at *
        generalize (decB i) = X0 at *
        have HFT := Lib.hid (fun (wx : World) (hb : Below w.heap.size w wx) => sFormText_any A n c f wx ((HRD.out.below hb).more hb.size))
        generalize (mkB (textL f)) = X1 at *
        generalize nmB (k1 + 1) = NM at *
        go_wp2_with (fail)
        refine (HD0.out w4).mono ?_
        rintro e w5 ⟨rfl, bel⟩
        replace v0 := (bel.cell (p := ⟨w.heap.size, 0, none⟩) hz4).trans v0
        replace v1 := (bel.cell (p := ⟨w.heap.size, 1, none⟩) hz4).trans v1
        replace v2 := (bel.cell (p := ⟨w.heap.size, 2, none⟩) hz4).trans v2
        replace v3 := (bel.cell (p := ⟨w.heap.size, 3, none⟩) hz4).trans v3
        replace v4 := (bel.cell (p := ⟨w.heap.size, 4, none⟩) hz4).trans v4
        replace v5 := (bel.cell (p := ⟨w.heap.size, 5, none⟩) hz4).trans v5
        replace hz4 : w.heap.size < w5.heap.size := by have := bel.size; omega
        replace HBW := Lib.hid (HBW.out.trans (bel.mono HBW.out.size))
        clear bel
        go_wp2_with (fail)
        refine (HU.out w5).mono ?_
        rintro e w' ⟨rfl, rfl⟩
        go_wp2_with (fail)
        refine (HFT.out w5 HBW.out).mono ?_
        rintro e w6 ⟨rfl, bel⟩
        replace v0 := (bel.cell (p := ⟨w.heap.size, 0, none⟩) hz4).trans v0
        replace v1 := (bel.cell (p := ⟨w.heap.size, 1, none⟩) hz4).trans v1
        replace v2 := (bel.cell (p := ⟨w.heap.size, 2, none⟩) hz4).trans v2
        replace v3 := (bel.cell (p := ⟨w.heap.size, 3, none⟩) hz4).trans v3
        replace v4 := (bel.cell (p := ⟨w.heap.size, 4, none⟩) hz4).trans v4
        replace v5 := (bel.cell (p := ⟨w.heap.size, 5, none⟩) hz4).trans v5
        replace hz4 : w.heap.size < w6.heap.size := by have := bel.size; omega
        replace HBW := Lib.hid (HBW.out.trans (bel.mono HBW.out.size))
        clear bel
        go_wp2
        go_ret
        exact ⟨ret_str HE2.out, HBW.out⟩
      · obtain ⟨U0, A0, B0⟩ := add_chain (T := [nmB (k1 + 1)]) ⟨S0.1, Nat.le_trans S0.2.1 (by decide), S0.2.2⟩ (x := (decB i)) (dl i (show inR i = true from D2.out))
        have S1 := short_add S0 (x := (decB i)) (dl i (show inR i = true from D2.out))
        obtain ⟨U1, A1, B1⟩ := add_chain (T := ([nmB (k1 + 1)] ++ [(decB i)])) ⟨S1.1, Nat.le_trans S1.2.1 (by decide), S1.2.2⟩ (x := (decB j)) (dl j (show inR j = true from D3.out))
        rw [jn_one] at A0
        have HE2 : Hid (jn (([nmB (k1 + 1)] ++ [(decB i)]) ++ [(decB j)]) = R) := Lib.hid HE.out
        have HD0 := Lib.hid (fun w => decimal_any i w (show inR i = true from D2.out))
        have HD1 := Lib.hid (fun w => decimal_any j w (show inR j = true from D3.out))
        clear HE dl HP HK hnl S0 S1
        generalize jn (([nmB (k1 + 1)] ++ [(decB i)]) ++ [(decB j)]) = J2 at *
        generalize jn ([nmB (k1 + 1)] ++ [(decB i)]) = J1 at *
        generalize (decB i) = X0 at *
        generalize (decB j) = X1 at *
        generalize nmB (k1 + 1) = NM at *
        go_wp2_with (fail)
        refine (HD0.out w4).mono ?_
        rintro e w5 ⟨rfl, bel⟩
        replace v0 := (bel.cell (p := ⟨w.heap.size, 0, none⟩) hz4).trans v0
        replace v1 := (bel.cell (p := ⟨w.heap.size, 1, none⟩) hz4).trans v1
        replace v2 := (bel.cell (p := ⟨w.heap.size, 2, none⟩) hz4).trans v2
        replace v3 := (bel.cell (p := ⟨w.heap.size, 3, none⟩) hz4).trans v3
        replace v4 := (bel.cell (p := ⟨w.heap.size, 4, none⟩) hz4).trans v4
        replace v5 := (bel.cell (p := ⟨w.heap.size, 5, none⟩) hz4).trans v5
        replace hz4 : w.heap.size < w5.heap.size := by have := bel.size; omega
        replace HBW := Lib.hid (HBW.out.trans (bel.mono HBW.out.size))
        clear bel
        go_wp2_with (fail)
        refine (HD1.out w5).mono ?_
        rintro e w6 ⟨rfl, bel⟩
        replace v0 := (bel.cell (p := ⟨w.heap.size, 0, none⟩) hz4).trans v0
        replace v1 := (bel.cell (p := ⟨w.heap.size, 1, none⟩) hz4).trans v1
        replace v2 := (bel.cell (p := ⟨w.heap.size, 2, none⟩) hz4).trans v2
        replace v3 := (bel.cell (p := ⟨w.heap.size, 3, none⟩) hz4).trans v3
        replace v4 := (bel.cell (p := ⟨w.heap.size, 4, none⟩) hz4).trans v4
        replace v5 := (bel.cell (p := ⟨w.heap.size, 5, none⟩) hz4).trans v5
        replace hz4 : w.heap.size < w6.heap.size := by have := bel.size; omega
        replace HBW := Lib.hid (HBW.out.trans (bel.mono HBW.out.size))
        clear bel
        go_wp2_with (fail)
        refine (HU.out w6).mono ?_
        rintro e w' ⟨rfl, rfl⟩
        go_wp2
        go_ret
        exact ⟨ret_str HE2.out, HBW.out⟩
      · obtain ⟨U0, A0, B0⟩ := add_chain (T := [nmB (k1 + 1)]) ⟨S0.1, Nat.le_trans S0.2.1 (by decide), S0.2.2⟩ (x := (decB i)) (dl i (show inR i = true from D2.out))
        have S1 := short_add S0 (x := (decB i)) (dl i (show inR i = true from D2.out))
        obtain ⟨U1, A1, B1⟩ := add_chain (T := ([nmB (k1 + 1)] ++ [(decB i)])) ⟨S1.1, Nat.le_trans S1.2.1 (by decide), S1.2.2⟩ (x := (decB j)) (dl j (show inR j = true from D3.out))
        have S2 := short_add S1 (x := (decB j)) (dl j (show inR j = true from D3.out))
        obtain ⟨U2, A2, B2⟩ := add_chain (T := (([nmB (k1 + 1)] ++ [(decB i)]) ++ [(decB j)])) ⟨S2.1, Nat.le_trans S2.2.1 (by decide), S2.2.2⟩ (x := (mkB (textL f))) hfl
        rw [jn_one] at A0
        have HE2 : Hid (jn ((([nmB (k1 + 1)] ++ [(decB i)]) ++ [(decB j)]) ++ [(mkB (textL f))]) = R) := Lib.hid HE.out
        have HD0 := Lib.hid (fun w => decimal_any i w (show inR i = true from D2.out))
        have HD1 := Lib.hid (fun w => decimal_any j w (show inR j = true from D3.out))
        clear HE dl HP HK hnl S0 S1 S2
        generalize jn ((([nmB (k1 + 1)] ++ [(decB i)]) ++ [(decB j)]) ++ [(mkB (textL f))]) = J3 at *
        generalize jn (([nmB (k1 + 1)] ++ [(decB i)]) ++ [(decB j)]) = J2 at *
        generalize jn ([nmB (k1 + 1)] ++ [(decB i)]) = J1 at *
        generalize (decB i) = X0 at *
        generalize (decB j) = X1 at *
        have HFT := Lib.hid (fun (wx : World) (hb : Below w.heap.size w wx) => sFormText_any A n c f wx ((HRD.out.below hb).more hb.size))
        generalize (mkB (textL f)) = X2 at *
        generalize nmB (k1 + 1) = NM at *
        go_wp2_with (fail)
        refine (HD0.out w4).mono ?_
        rintro e w5 ⟨rfl, bel⟩
        replace v0 := (bel.cell (p := ⟨w.heap.size, 0, none⟩) hz4).trans v0
        replace v1 := (bel.cell (p := ⟨w.heap.size, 1, none⟩) hz4).trans v1
        replace v2 := (bel.cell (p := ⟨w.heap.size, 2, none⟩) hz4).trans v2
        replace v3 := (bel.cell (p := ⟨w.heap.size, 3, none⟩) hz4).trans v3
        replace v4 := (bel.cell (p := ⟨w.heap.size, 4, none⟩) hz4).trans v4
        replace v5 := (bel.cell (p := ⟨w.heap.size, 5, none⟩) hz4).trans v5
        replace hz4 : w.heap.size < w5.heap.size := by have := bel.size; omega
        replace HBW := Lib.hid (HBW.out.trans (bel.mono HBW.out.size))
        clear bel
        go_wp2_with (fail)
        refine (HD1.out w5).mono ?_
        rintro e w6 ⟨rfl, bel⟩
        replace v0 := (bel.cell (p := ⟨w.heap.size, 0, none⟩) hz4).trans v0
        replace v1 := (bel.cell (p := ⟨w.heap.size, 1, none⟩) hz4).trans v1
        replace v2 := (bel.cell (p := ⟨w.heap.size, 2, none⟩) hz4).trans v2
        replace v3 := (bel.cell (p := ⟨w.heap.size, 3, none⟩) hz4).trans v3
        replace v4 := (bel.cell (p := ⟨w.heap.size, 4, none⟩) hz4).trans v4
        replace v5 := (bel.cell (p := ⟨w.heap.size, 5, none⟩) hz4).trans v5
        replace hz4 : w.heap.size < w6.heap.size := by have := bel.size; omega
        replace HBW := Lib.hid (HBW.out.trans (bel.mono HBW.out.size))
        clear bel
        go_wp2_with (fail)
        refine (HU.out w6).mono ?_
        rintro e w' ⟨rfl, rfl⟩
        go_wp2_with (fail)
        refine (HFT.out w6 HBW.out).mono ?_
        rintro e w7 ⟨rfl, bel⟩
        replace v0 := (bel.cell (p := ⟨w.heap.size, 0, none⟩) hz4).trans v0
        replace v1 := (bel.cell (p := ⟨w.heap.size, 1, none⟩) hz4).trans v1
        replace v2 := (bel.cell (p := ⟨w.heap.size, 2, none⟩) hz4).trans v2
        replace v3 := (bel.cell (p := ⟨w.heap.size, 3, none⟩) hz4).trans v3
        replace v4 := (bel.cell (p := ⟨w.heap.size, 4, none⟩) hz4).trans v4
        replace v5 := (bel.cell (p := ⟨w.heap.size, 5, none⟩) hz4).trans v5
        replace hz4 : w.heap.size < w7.heap.size := by have := bel.size; omega
        replace HBW := Lib.hid (HBW.out.trans (bel.mono HBW.out.size))
        clear bel
        go_wp2
        go_ret
        exact ⟨ret_str HE2.out, HBW.out⟩
      · obtain ⟨U0, A0, B0⟩ := add_chain (T := [nmB (k1 + 1)]) ⟨S0.1, Nat.le_trans S0.2.1 (by decide), S0.2.2⟩ (x := (decB a)) (dl a (show inR a = true from D0.out))
        rw [jn_one] at A0
        have HE2 : Hid (jn ([nmB (k1 + 1)] ++ [(decB a)]) = R) := Lib.hid HE.out
        have HD0 := Lib.hid (fun w => decimal_any a w (show inR a = true from D0.out))
        clear HE dl HP HK hnl S0
        generalize jn ([nmB (k1 + 1)] ++ [(decB a)]) = J1 at *
        generalize (decB a) = X0 at *
        generalize nmB (k1 + 1) = NM at *
        go_wp2_with (fail)
        refine (HD0.out w4).mono ?_
        rintro e w5 ⟨rfl, bel⟩
        replace v0 := (bel.cell (p := ⟨w.heap.size, 0, none⟩) hz4).trans v0
        replace v1 := (bel.cell (p := ⟨w.heap.size, 1, none⟩) hz4).trans v1
        replace v2 := (bel.cell (p := ⟨w.heap.size, 2, none⟩) hz4).trans v2
        replace v3 := (bel.cell (p := ⟨w.heap.size, 3, none⟩) hz4).trans v3
        replace v4 := (bel.cell (p := ⟨w.heap.size, 4, none⟩) hz4).trans v4
        replace v5 := (bel.cell (p := ⟨w.heap.size, 5, none⟩) hz4).trans v5
        replace hz4 : w.heap.size < w5.heap.size := by have := bel.size; omega
        replace HBW := Lib.hid (HBW.out.trans (bel.mono HBW.out.size))
        clear bel
        go_wp2_with (fail)
        refine (HU.out w5).mono ?_
        rintro e w' ⟨rfl, rfl⟩
        go_wp2
        go_ret
        exact ⟨ret_str HE2.out, HBW.out⟩
      · obtain ⟨U0, A0, B0⟩ := add_chain (T := [nmB (k1 + 1)]) ⟨S0.1, Nat.le_trans S0.2.1 (by decide), S0.2.2⟩ (x := (decB a)) (dl a (show inR a = true from D0.out))
        have S1 := short_add S0 (x := (decB a)) (dl a (show inR a = true from D0.out))
        obtain ⟨U1, A1, B1⟩ := add_chain (T := ([nmB (k1 + 1)] ++ [(decB a)])) ⟨S1.1, Nat.le_trans S1.2.1 (by decide), S1.2.2⟩ (x := (mkB (textL f))) hfl
        rw [jn_one] at A0
        have HE2 : Hid (jn (([nmB (k1 + 1)] ++ [(decB a)]) ++ [(mkB (textL f))]) = R) := Lib.hid HE.out
        have HD0 := Lib.hid (fun w => decimal_any a w (show inR a = true from D0.out))
        clear HE dl HP HK hnl S0 S1
        generalize jn (([nmB (k1 + 1)] ++ [(decB a)]) ++ [(mkB (textL f))]) = J2 at *
        generalize jn ([nmB (k1 + 1)] ++ [(decB a)]) = J1 at *
        generalize (decB a) = X0 at *
        have HFT := Lib.hid (fun (wx : World) (hb : Below w.heap.size w wx) => sFormText_any A n c f wx ((HRD.out.below hb).more hb.size))
        generalize (mkB (textL f)) = X1 at *
        generalize nmB (k1 + 1) = NM at *
        go_wp2_with (fail)
        refine (HD0.out w4).mono ?_
        rintro e w5 ⟨rfl, bel⟩
        replace v0 := (bel.cell (p := ⟨w.heap.size, 0, none⟩) hz4).trans v0
        replace v1 := (bel.cell (p := ⟨w.heap.size, 1, none⟩) hz4).trans v1
        replace v2 := (bel.cell (p := ⟨w.heap.size, 2, none⟩) hz4).trans v2
        replace v3 := (bel.cell (p := ⟨w.heap.size, 3, none⟩) hz4).trans v3
        replace v4 := (bel.cell (p := ⟨w.heap.size, 4, none⟩) hz4).trans v4
        replace v5 := (bel.cell (p := ⟨w.heap.size, 5, none⟩) hz4).trans v5
        replace hz4 : w.heap.size < w5.heap.size := by have := bel.size; omega
        replace HBW := Lib.hid (HBW.out.trans (bel.mono HBW.out.size))
        clear bel
        go_wp2_with (fail)
        refine (HU.out w5).mono ?_
        rintro e w' ⟨rfl, rfl⟩
        go_wp2_with (fail)
        refine (HFT.out w5 HBW.out).mono ?_
        rintro e w6 ⟨rfl, bel⟩
        replace v0 := (bel.cell (p := ⟨w.heap.size, 0, none⟩) hz4).trans v0
        replace v1 := (bel.cell (p := ⟨w.heap.size, 1, none⟩) hz4).trans v1
        replace v2 := (bel.cell (p := ⟨w.heap.size, 2, none⟩) hz4).trans v2
        replace v3 := (bel.cell (p := ⟨w.heap.size, 3, none⟩) hz4).trans v3
        replace v4 := (bel.cell (p := ⟨w.heap.size, 4, none⟩) hz4).trans v4
        replace v5 := (bel.cell (p := ⟨w.heap.size, 5, none⟩) hz4).trans v5
        replace hz4 : w.heap.size < w6.heap.size := by have := bel.size; omega
        replace HBW := Lib.hid (HBW.out.trans (bel.mono HBW.out.size))
        clear bel
        go_wp2
        go_ret
        exact ⟨ret_str HE2.out, HBW.out⟩
      · obtain ⟨U0, A0, B0⟩ := add_chain (T := [nmB (k1 + 1)]) ⟨S0.1, Nat.le_trans S0.2.1 (by decide), S0.2.2⟩ (x := (decB a)) (dl a (show inR a = true from D0.out))
        have S1 := short_add S0 (x := (decB a)) (dl a (show inR a = true from D0.out))
        obtain ⟨U1, A1, B1⟩ := add_chain (T := ([nmB (k1 + 1)] ++ [(decB a)])) ⟨S1.1, Nat.le_trans S1.2.1 (by decide), S1.2.2⟩ (x := (decB i)) (dl i (show inR i = true from D2.out))
        rw [jn_one] at A0
        have HE2 : Hid (jn (([nmB (k1 + 1)] ++ [(decB a)]) ++ [(decB i)]) = R) := Lib.hid HE.out
        have HD0 := Lib.hid (fun w => decimal_any a w (show inR a = true from D0.out))
        have HD1 := Lib.hid (fun w => decimal_any i w (show inR i = true from D2.out))
        clear HE dl HP HK hnl S0 S1
        generalize jn (([nmB (k1 + 1)] ++ [(decB a)]) ++ [(decB i)]) = J2 at *
        generalize jn ([nmB (k1 + 1)] ++ [(decB a)]) = J1 at *
        generalize (decB a) = X0 at *
        generalize (decB i) = X1 at *
        generalize nmB (k1 + 1) = NM at *
        go_wp2_with (fail)
        refine (HD0.out w4).mono ?_
        rintro e w5 ⟨rfl, bel⟩
        replace v0 := (bel.cell (p := ⟨w.heap.size, 0, none⟩) hz4).trans v0
        replace v1 := (bel.cell (p := ⟨w.heap.size, 1, none⟩) hz4).trans v1
        replace v2 := (bel.cell (p := ⟨w.heap.size, 2, none⟩) hz4).trans v2
        replace v3 := (bel.cell (p := ⟨w.heap.size, 3, none⟩) hz4).trans v3
        replace v4 := (bel.cell (p := ⟨w.heap.size, 4, none⟩) hz4).trans v4
        replace v5 := (bel.cell (p := ⟨w.heap.size, 5, none⟩) hz4).trans v5
        replace hz4 : w.heap.size < w5.heap.size := by have := bel.size; omega
        replace HBW := Lib.hid (HBW.out.trans (bel.mono HBW.out.size))
        clear bel
        go_wp2_with (fail)
        refine (HD1.out w5).mono ?_
        rintro e w6 ⟨rfl, bel⟩
        replace v0 := (bel.cell (p := ⟨w.heap.size, 0, none⟩) hz4).trans v0
        replace v1 := (bel.cell (p := ⟨w.heap.size, 1, none⟩) hz4).trans v1
        replace v2 := (bel.cell (p := ⟨w.heap.size, 2, none⟩) hz4).trans v2
        replace v3 := (bel.cell (p := ⟨w.heap.size, 3, none⟩) hz4).trans v3
        replace v4 := (bel.cell (p := ⟨w.heap.size, 4, none⟩) hz4).trans v4
        replace v5 := (bel.cell (p := ⟨w.heap.size, 5, none⟩) hz4).trans v5
        replace hz4 : w.heap.size < w6.heap.size := by have := bel.size; omega
        replace HBW := Lib.hid (HBW.out.trans (bel.mono HBW.out.size))
        clear bel
        go_wp2_with (fail)
        refine (HU.out w6).mono ?_
        rintro e w' ⟨rfl, rfl⟩
        go_wp2
        go_ret
        exact ⟨ret_str HE2.out, HBW.out⟩
      · obtain ⟨U0, A0, B0⟩ := add_chain (T := [nmB (k1 + 1)]) ⟨S0.1, Nat.le_trans S0.2.1 (by decide), S0.2.2⟩ (x := (decB a)) (dl a (show inR a = true from D0.out))
        have S1 := short_add S0 (x := (decB a)) (dl a (show inR a = true from D0.out))
        obtain ⟨U1, A1, B1⟩ := add_chain (T := ([nmB (k1 + 1)] ++ [(decB a)])) ⟨S1.1, Nat.le_trans S1.2.1 (by decide), S1.2.2⟩ (x := (decB i)) (dl i (show inR i = true from D2.out))
        have S2 := short_add S1 (x := (decB i)) (dl i (show inR i = true from D2.out))
        obtain ⟨U2, A2, B2⟩ := add_chain (T := (([nmB (k1 + 1)] ++ [(decB a)]) ++ [(decB i)])) ⟨S2.1, Nat.le_trans S2.2.1 (by decide), S2.2.2⟩ (x := (mkB (textL f))) hfl
        rw [jn_one] at A0
        have HE2 : Hid (jn ((([nmB (k1 + 1)] ++ [(decB a)]) ++ [(decB i)]) ++ [(mkB (textL f))]) = R) := Lib.hid HE.out
        have HD0 := Lib.hid (fun w => decimal_any a w (show inR a = true from D0.out))
        have HD1 := Lib.hid (fun w => decimal_any i w (show inR i = true from D2.out))
        clear HE dl HP HK hnl S0 S1 S2
        generalize jn ((([nmB (k1 + 1)] ++ [(decB a)]) ++ [(decB i)]) ++ [(mkB (textL f))]) = J3 at *
        generalize jn (([nmB (k1 + 1)] ++ [(decB a)]) ++ [(decB i)]) = J2 at *
        generalize jn ([nmB (k1 + 1)] ++ [(decB a)]) = J1 at *
        generalize (decB a) = X0 at *
        generalize (decB i) = X1 at *
        have HFT := Lib.hid (fun (wx : World) (hb : Below w.heap.size w wx) => sFormText_any A n c f wx ((HRD.out.below hb).more hb.size))
        generalize (mkB (textL f)) = X2 at *
        generalize nmB (k1 + 1) = NM at *
        go_wp2_with (fail)
        refine (HD0.out w4).mono ?_
        rintro e w5 ⟨rfl, bel⟩
        replace v0 := (bel.cell (p := ⟨w.heap.size, 0, none⟩) hz4).trans v0
        replace v1 := (bel.cell (p := ⟨w.heap.size, 1, none⟩) hz4).trans v1
        replace v2 := (bel.cell (p := ⟨w.heap.size, 2, none⟩) hz4).trans v2
        replace v3 := (bel.cell (p := ⟨w.heap.size, 3, none⟩) hz4).trans v3
        replace v4 := (bel.cell (p := ⟨w.heap.size, 4, none⟩) hz4).trans v4
        replace v5 := (bel.cell (p := ⟨w.heap.size, 5, none⟩) hz4).trans v5
        replace hz4 : w.heap.size < w5.heap.size := by have := bel.size; omega
        replace HBW := Lib.hid (HBW.out.trans (bel.mono HBW.out.size))
        clear bel
        go_wp2_with (fail)
        refine (HD1.out w5).mono ?_
        rintro e w6 ⟨rfl, bel⟩
        replace v0 := (bel.cell (p := ⟨w.heap.size, 0, none⟩) hz4).trans v0
        replace v1 := (bel.cell (p := ⟨w.heap.size, 1, none⟩) hz4).trans v1
        replace v2 := (bel.cell (p := ⟨w.heap.size, 2, none⟩) hz4).trans v2
        replace v3 := (bel.cell (p := ⟨w.heap.size, 3, none⟩) hz4).trans v3
        replace v4 := (bel.cell (p := ⟨w.heap.size, 4, none⟩) hz4).trans v4
        replace v5 := (bel.cell (p := ⟨w.heap.size, 5, none⟩) hz4).trans v5
        replace hz4 : w.heap.size < w6.heap.size := by have := bel.size; omega
        replace HBW := Lib.hid (HBW.out.trans (bel.mono HBW.out.size))
        clear bel
        go_wp2_with (fail)
        refine (HU.out w6).mono ?_
        rintro e w' ⟨rfl, rfl⟩
        go_wp2_with (fail)
        refine (HFT.out w6 HBW.out).mono ?_
        rintro e w7 ⟨rfl, bel⟩
        replace v0 := (bel.cell (p := ⟨w.heap.size, 0, none⟩) hz4).trans v0
        replace v1 := (bel.cell (p := ⟨w.heap.size, 1, none⟩) hz4).trans v1
        replace v2 := (bel.cell (p := ⟨w.heap.size, 2, none⟩) hz4).trans v2
        replace v3 := (bel.cell (p := ⟨w.heap.size, 3, none⟩) hz4).trans v3
        replace v4 := (bel.cell (p := ⟨w.heap.size, 4, none⟩) hz4).trans v4
        replace v5 := (bel.cell (p := ⟨w.heap.size, 5, none⟩) hz4).trans v5
        replace hz4 : w.heap.size < w7.heap.size := by have := bel.size; omega
        replace HBW := Lib.hid (HBW.out.trans (bel.mono HBW.out.size))
        clear bel
        go_wp2
        go_ret
        exact ⟨ret_str HE2.out, HBW.out⟩
      · obtain ⟨U0, A0, B0⟩ := add_chain (T := [nmB (k1 + 1)]) ⟨S0.1, Nat.le_trans S0.2.1 (by decide), S0.2.2⟩ (x := (decB a)) (dl a (show inR a = true from D0.out))
        have S1 := short_add S0 (x := (decB a)) (dl a (show inR a = true from D0.out))
        obtain ⟨U1, A1, B1⟩ := add_chain (T := ([nmB (k1 + 1)] ++ [(decB a)])) ⟨S1.1, Nat.le_trans S1.2.1 (by decide), S1.2.2⟩ (x := (decB i)) (dl i (show inR i = true from D2.out))
        have S2 := short_add S1 (x := (decB i)) (dl i (show inR i = true from D2.out))
        obtain ⟨U2, A2, B2⟩ := add_chain (T := (([nmB (k1 + 1)] ++ [(decB a)]) ++ [(decB i)])) ⟨S2.1, Nat.le_trans S2.2.1 (by decide), S2.2.2⟩ (x := (decB j)) (dl j (show inR j = true from D3.out))
        rw [jn_one] at A0
        have HE2 : Hid (jn ((([nmB (k1 + 1)] ++ [(decB a)]) ++ [(decB i)]) ++ [(decB j)]) = R) := Lib.hid HE.out
        have HD0 := Lib.hid (fun w => decimal_any a w (show inR a = true from D0.out))
        have HD1 := Lib.hid (fun w => decimal_any i w (show inR i = true from D2.out))
        have HD2 := Lib.hid (fun w => decimal_any j w (show inR j = true from D3.out))
        clear HE dl HP HK hnl S0 S1 S2
        generalize jn ((([nmB (k1 + 1)] ++ [(decB a)]) ++ [(decB i)]) ++ [(decB j)]) = J3 at *
        generalize jn (([nmB (k1 + 1)] ++ [(decB a)]) ++ [(decB i)]) = J2 at *
        generalize jn ([nmB (k1 + 1)] ++ [(decB a)]) = J1 at *
        generalize (decB a) = X0 at *
        generalize (decB i) = X1 at *
        generalize (decB j) = X2 at *
        generalize nmB (k1 + 1) = NM at *
        go_wp2_with (fail)
        refine (HD0.out w4).mono ?_
        rintro e w5 ⟨rfl, bel⟩
        replace v0 := (bel.cell (p := ⟨w.heap.size, 0, none⟩) hz4).trans v0
        replace v1 := (bel.cell (p := ⟨w.heap.size, 1, none⟩) hz4).trans v1
        replace v2 := (bel.cell (p := ⟨w.heap.size, 2, none⟩) hz4).trans v2
        replace v3 := (bel.cell (p := ⟨w.heap.size, 3, none⟩) hz4).trans v3
        replace v4 := (bel.cell (p := ⟨w.heap.size, 4, none⟩) hz4).trans v4
        replace v5 := (bel.cell (p := ⟨w.heap.size, 5, none⟩) hz4).trans v5
        replace hz4 : w.heap.size < w5.heap.size := by have := bel.size; omega
        replace HBW := Lib.hid (HBW.out.trans (bel.mono HBW.out.size))
        clear bel
        go_wp2_with (fail)
        refine (HD1.out w5).mono ?_
        rintro e w6 ⟨rfl, bel⟩
        replace v0 := (bel.cell (p := ⟨w.heap.size, 0, none⟩) hz4).trans v0
        replace v1 := (bel.cell (p := ⟨w.heap.size, 1, none⟩) hz4).trans v1
        replace v2 := (bel.cell (p := ⟨w.heap.size, 2, none⟩) hz4).trans v2
        replace v3 := (bel.cell (p := ⟨w.heap.size, 3, none⟩) hz4).trans v3
        replace v4 := (bel.cell (p := ⟨w.heap.size, 4, none⟩) hz4).trans v4
        replace v5 := (bel.cell (p := ⟨w.heap.size, 5, none⟩) hz4).trans v5
        replace hz4 : w.heap.size < w6.heap.size := by have := bel.size; omega
        replace HBW := Lib.hid (HBW.out.trans (bel.mono HBW.out.size))
        clear bel
        go_wp2_with (fail)
        refine (HD2.out w6).mono ?_
        rintro e w7 ⟨rfl, bel⟩
        replace v0 := (bel.cell (p := ⟨w.heap.size, 0, none⟩) hz4).trans v0
        replace v1 := (bel.cell (p := ⟨w.heap.size, 1, none⟩) hz4).trans v1
        replace v2 := (bel.cell (p := ⟨w.heap.size, 2, none⟩) hz4).trans v2
        replace v3 := (bel.cell (p := ⟨w.heap.size, 3, none⟩) hz4).trans v3
        replace v4 := (bel.cell (p := ⟨w.heap.size, 4, none⟩) hz4).trans v4
        replace v5 := (bel.cell (p := ⟨w.heap.size, 5, none⟩) hz4).trans v5
        replace hz4 : w.heap.size < w7.heap.size := by have := bel.size; omega
        replace HBW := Lib.hid (HBW.out.trans (bel.mono HBW.out.size))
        clear bel
        go_wp2_with (fail)
        refine (HU.out w7).mono ?_
        rintro e w' ⟨rfl, rfl⟩
        go_wp2
        go_ret
        exact ⟨ret_str HE2.out, HBW.out⟩
      · obtain ⟨U0, A0, B0⟩ := add_chain (T := [nmB (k1 + 1)]) ⟨S0.1, Nat.le_trans S0.2.1 (by decide), S0.2.2⟩ (x := (decB a)) (dl a (show inR a = true from D0.out))
        have S1 := short_add S0 (x := (decB a)) (dl a (show inR a = true from D0.out))
        obtain ⟨U1, A1, B1⟩ := add_chain (T := ([nmB (k1 + 1)] ++ [(decB a)])) ⟨S1.1, Nat.le_trans S1.2.1 (by decide), S1.2.2⟩ (x := (decB i)) (dl i (show inR i = true from D2.out))
        have S2 := short_add S1 (x := (decB i)) (dl i (show inR i = true from D2.out))
        obtain ⟨U2, A2, B2⟩ := add_chain (T := (([nmB (k1 + 1)] ++ [(decB a)]) ++ [(decB i)])) ⟨S2.1, Nat.le_trans S2.2.1 (by decide), S2.2.2⟩ (x := (decB j)) (dl j (show inR j = true from D3.out))
        have S3 := short_add S2 (x := (decB j)) (dl j (show inR j = true from D3.out))
        obtain ⟨U3, A3, B3⟩ := add_chain (T := ((([nmB (k1 + 1)] ++ [(decB a)]) ++ [(decB i)]) ++ [(decB j)])) ⟨S3.1, Nat.le_trans S3.2.1 (by decide), S3.2.2⟩ (x := (mkB (textL f))) hfl
        rw [jn_one] at A0
        have HE2 : Hid (jn (((([nmB (k1 + 1)] ++ [(decB a)]) ++ [(decB i)]) ++ [(decB j)]) ++ [(mkB (textL f))]) = R) := Lib.hid HE.out
        have HD0 := Lib.hid (fun w => decimal_any a w (show inR a = true from D0.out))
        have HD1 := Lib.hid (fun w => decimal_any i w (show inR i = true from D2.out))
        have HD2 := Lib.hid (fun w => decimal_any j w (show inR j = true from D3.out))
        clear HE dl HP HK hnl S0 S1 S2 S3
        generalize jn (((([nmB (k1 + 1)] ++ [(decB a)]) ++ [(decB i)]) ++ [(decB j)]) ++ [(mkB (textL f))]) = J4 at *
        generalize jn ((([nmB (k1 + 1)] ++ [(decB a)]) ++ [(decB i)]) ++ [(decB j)]) = J3 at *
        generalize jn (([nmB (k1 + 1)] ++ [(decB a)]) ++ [(decB i)]) = J2 at *
        generalize jn ([nmB (k1 + 1)] ++ [(decB a)]) = J1 at *
        generalize (decB a) = X0 at *
        generalize (decB i) = X1 at *
        generalize (decB j) = X2 at *
        have HFT := Lib.hid (fun (wx : World) (hb : Below w.heap.size w wx) => sFormText_any A n c f wx ((HRD.out.below hb).more hb.size))
        generalize (mkB (textL f)) = X3 at *
        generalize nmB (k1 + 1) = NM at *
        go_wp2_with (fail)
        refine (HD0.out w4).mono ?_
        rintro e w5 ⟨rfl, bel⟩
        replace v0 := (bel.cell (p := ⟨w.heap.size, 0, none⟩) hz4).trans v0
        replace v1 := (bel.cell (p := ⟨w.heap.size, 1, none⟩) hz4).trans v1
        replace v2 := (bel.cell (p := ⟨w.heap.size, 2, none⟩) hz4).trans v2
        replace v3 := (bel.cell (p := ⟨w.heap.size, 3, none⟩) hz4).trans v3
        replace v4 := (bel.cell (p := ⟨w.heap.size, 4, none⟩) hz4).trans v4
        replace v5 := (bel.cell (p := ⟨w.heap.size, 5, none⟩) hz4).trans v5
        replace hz4 : w.heap.size < w5.heap.size := by have := bel.size; omega
        replace HBW := Lib.hid (HBW.out.trans (bel.mono HBW.out.size))
        clear bel
        go_wp2_with (fail)
        refine (HD1.out w5).mono ?_
        rintro e w6 ⟨rfl, bel⟩
        replace v0 := (bel.cell (p := ⟨w.heap.size, 0, none⟩) hz4).trans v0
        replace v1 := (bel.cell (p := ⟨w.heap.size, 1, none⟩) hz4).trans v1
        replace v2 := (bel.cell (p := ⟨w.heap.size, 2, none⟩) hz4).trans v2
        replace v3 := (bel.cell (p := ⟨w.heap.size, 3, none⟩) hz4).trans v3
        replace v4 := (bel.cell (p := ⟨w.heap.size, 4, none⟩) hz4).trans v4
        replace v5 := (bel.cell (p := ⟨w.heap.size, 5, none⟩) hz4).trans v5
        replace hz4 : w.heap.size < w6.heap.size := by have := bel.size; omega
        replace HBW := Lib.hid (HBW.out.trans (bel.mono HBW.out.size))
        clear bel
        go_wp2_with (fail)
        refine (HD2.out w6).mono ?_
        rintro e w7 ⟨rfl, bel⟩
        replace v0 := (bel.cell (p := ⟨w.heap.size, 0, none⟩) hz4).trans v0
        replace v1 := (bel.cell (p := ⟨w.heap.size, 1, none⟩) hz4).trans v1
        replace v2 := (bel.cell (p := ⟨w.heap.size, 2, none⟩) hz4).trans v2
        replace v3 := (bel.cell (p := ⟨w.heap.size, 3, none⟩) hz4).trans v3
        replace v4 := (bel.cell (p := ⟨w.heap.size, 4, none⟩) hz4).trans v4
        replace v5 := (bel.cell (p := ⟨w.heap.size, 5, none⟩) hz4).trans v5
        replace hz4 : w.heap.size < w7.heap.size := by have := bel.size; omega
        replace HBW := Lib.hid (HBW.out.trans (bel.mono HBW.out.size))
        clear bel
        go_wp2_with (fail)
        refine (HU.out w7).mono ?_
        rintro e w' ⟨rfl, rfl⟩
        go_wp2_with (fail)
        refine (HFT.out w7 HBW.out).mono ?_
        rintro e w8 ⟨rfl, bel⟩
        replace v0 := (bel.cell (p := ⟨w.heap.size, 0, none⟩) hz4).trans v0
        replace v1 := (bel.cell (p := ⟨w.heap.size, 1, none⟩) hz4).trans v1
        replace v2 := (bel.cell (p := ⟨w.heap.size, 2, none⟩) hz4).trans v2
        replace v3 := (bel.cell (p := ⟨w.heap.size, 3, none⟩) hz4).trans v3
        replace v4 := (bel.cell (p := ⟨w.heap.size, 4, none⟩) hz4).trans v4
        replace v5 := (bel.cell (p := ⟨w.heap.size, 5, none⟩) hz4).trans v5
        replace hz4 : w.heap.size < w8.heap.size := by have := bel.size; omega
        replace HBW := Lib.hid (HBW.out.trans (bel.mono HBW.out.size))
        clear bel
        go_wp2
        go_ret
        exact ⟨ret_str HE2.out, HBW.out⟩
      · obtain ⟨U0, A0, B0⟩ := add_chain (T := [nmB (k1 + 1)]) ⟨S0.1, Nat.le_trans S0.2.1 (by decide), S0.2.2⟩ (x := (decB a)) (dl a (show inR a = true from D0.out))
        have S1 := short_add S0 (x := (decB a)) (dl a (show inR a = true from D0.out))
        obtain ⟨U1, A1, B1⟩ := add_chain (T := ([nmB (k1 + 1)] ++ [(decB a)])) ⟨S1.1, Nat.le_trans S1.2.1 (by decide), S1.2.2⟩ (x := (decB b)) (dl b (show inR b = true from D1.out))
        rw [jn_one] at A0
        have HE2 : Hid (jn (([nmB (k1 + 1)] ++ [(decB a)]) ++ [(decB b)]) = R) := Lib.hid HE.out
        have HD0 := Lib.hid (fun w => decimal_any a w (show inR a = true from D0.out))
        have HD1 := Lib.hid (fun w => decimal_any b w (show inR b = true from D1.out))
        clear HE dl HP HK hnl S0 S1
        generalize jn (([nmB (k1 + 1)] ++ [(decB a)]) ++ [(decB b)]) = J2 at *
        generalize jn ([nmB (k1 + 1)] ++ [(decB a)]) = J1 at *
        generalize (decB a) = X0 at *
        generalize (decB b) = X1 at *
        generalize nmB (k1 + 1) = NM at *
        go_wp2_with (fail)
        refine (HD0.out w4).mono ?_
        rintro e w5 ⟨rfl, bel⟩
        replace v0 := (bel.cell (p := ⟨w.heap.size, 0, none⟩) hz4).trans v0
        replace v1 := (bel.cell (p := ⟨w.heap.size, 1, none⟩) hz4).trans v1
        replace v2 := (bel.cell (p := ⟨w.heap.size, 2, none⟩) hz4).trans v2
        replace v3 := (bel.cell (p := ⟨w.heap.size, 3, none⟩) hz4).trans v3
        replace v4 := (bel.cell (p := ⟨w.heap.size, 4, none⟩) hz4).trans v4
        replace v5 := (bel.cell (p := ⟨w.heap.size, 5, none⟩) hz4).trans v5
        replace hz4 : w.heap.size < w5.heap.size := by have := bel.size; omega
        replace HBW := Lib.hid (HBW.out.trans (bel.mono HBW.out.size))
        clear bel
        go_wp2_with (fail)
        refine (HD1.out w5).mono ?_
        rintro e w6 ⟨rfl, bel⟩
        replace v0 := (bel.cell (p := ⟨w.heap.size, 0, none⟩) hz4).trans v0
        replace v1 := (bel.cell (p := ⟨w.heap.size, 1, none⟩) hz4).trans v1
        replace v2 := (bel.cell (p := ⟨w.heap.size, 2, none⟩) hz4).trans v2
        replace v3 := (bel.cell (p := ⟨w.heap.size, 3, none⟩) hz4).trans v3
        replace v4 := (bel.cell (p := ⟨w.heap.size, 4, none⟩) hz4).trans v4
        replace v5 := (bel.cell (p := ⟨w.heap.size, 5, none⟩) hz4).trans v5
        replace hz4 : w.heap.size < w6.heap.size := by have := bel.size; omega
        replace HBW := Lib.hid (HBW.out.trans (bel.mono HBW.out.size))
        clear bel
        go_wp2_with (fail)
        refine (HU.out w6).mono ?_
        rintro e w' ⟨rfl, rfl⟩
        go_wp2
        go_ret
        exact ⟨ret_str HE2.out, HBW.out⟩
      · obtain ⟨U0, A0, B0⟩ := add_chain (T := [nmB (k1 + 1)]) ⟨S0.1, Nat.le_trans S0.2.1 (by decide), S0.2.2⟩ (x := (decB a)) (dl a (show inR a = true from D0.out))
        have S1 := short_add S0 (x := (decB a)) (dl a (show inR a = true from D0.out))
        obtain ⟨U1, A1, B1⟩ := add_chain (T := ([nmB (k1 + 1)] ++ [(decB a)])) ⟨S1.1, Nat.le_trans S1.2.1 (by decide), S1.2.2⟩ (x := (decB b)) (dl b (show inR b = true from D1.out))
        have S2 := short_add S1 (x := (decB b)) (dl b (show inR b = true from D1.out))
        obtain ⟨U2, A2, B2⟩ := add_chain (T := (([nmB (k1 + 1)] ++ [(decB a)]) ++ [(decB b)])) ⟨S2.1, Nat.le_trans S2.2.1 (by decide), S2.2.2⟩ (x := (mkB (textL f))) hfl
        rw [jn_one] at A0
        have HE2 : Hid (jn ((([nmB (k1 + 1)] ++ [(decB a)]) ++ [(decB b)]) ++ [(mkB (textL f))]) = R) := Lib.hid HE.out
        have HD0 := Lib.hid (fun w => decimal_any a w (show inR a = true from D0.out))
        have HD1 := Lib.hid (fun w => decimal_any b w (show inR b = true from D1.out))
        clear HE dl HP HK hnl S0 S1 S2
        generalize jn ((([nmB (k1 + 1)] ++ [(decB a)]) ++ [(decB b)]) ++ [(mkB (textL f))]) = J3 at *
        generalize jn (([nmB (k1 + 1)] ++ [(decB a)]) ++ [(decB b)]) = J2 at *
        generalize jn ([nmB (k1 + 1)] ++ [(decB a)]) = J1 at *
        generalize (decB a) = X0 at *
        generalize (decB b) = X1 at *
        have HFT := Lib.hid (fun (wx : World) (hb : Below w.heap.size w wx) => sFormText_any A n c f wx ((HRD.out.below hb).more hb.size))
        generalize (mkB (textL f)) = X2 at *
        generalize nmB (k1 + 1) = NM at *
        go_wp2_with (fail)
        refine (HD0.out w4).mono ?_
        rintro e w5 ⟨rfl, bel⟩
        replace v0 := (bel.cell (p := ⟨w.heap.size, 0, none⟩) hz4).trans v0
        replace v1 := (bel.cell (p := ⟨w.heap.size, 1, none⟩) hz4).trans v1
        replace v2 := (bel.cell (p := ⟨w.heap.size, 2, none⟩) hz4).trans v2
        replace v3 := (bel.cell (p := ⟨w.heap.size, 3, none⟩) hz4).trans v3
        replace v4 := (bel.cell (p := ⟨w.heap.size, 4, none⟩) hz4).trans v4
        replace v5 := (bel.cell (p := ⟨w.heap.size, 5, none⟩) hz4).trans v5
        replace hz4 : w.heap.size < w5.heap.size := by have := bel.size; omega
        replace HBW := Lib.hid (HBW.out.trans (bel.mono HBW.out.size))
        clear bel
        go_wp2_with (fail)
        refine (HD1.out w5).mono ?_
        rintro e w6 ⟨rfl, bel⟩
        replace v0 := (bel.cell (p := ⟨w.heap.size, 0, none⟩) hz4).trans v0
        replace v1 := (bel.cell (p := ⟨w.heap.size, 1, none⟩) hz4).trans v1
        replace v2 := (bel.cell (p := ⟨w.heap.size, 2, none⟩) hz4).trans v2
        replace v3 := (bel.cell (p := ⟨w.heap.size, 3, none⟩) hz4).trans v3
        replace v4 := (bel.cell (p := ⟨w.heap.size, 4, none⟩) hz4).trans v4
        replace v5 := (bel.cell (p := ⟨w.heap.size, 5, none⟩) hz4).trans v5
        replace hz4 : w.heap.size < w6.heap.size := by have := bel.size; omega
        replace HBW := Lib.hid (HBW.out.trans (bel.mono HBW.out.size))
        clear bel
        go_wp2_with (fail)
        refine (HU.out w6).mono ?_
        rintro e w' ⟨rfl, rfl⟩
        go_wp2_with (fail)
        refine (HFT.out w6 HBW.out).mono ?_
        rintro e w7 ⟨rfl, bel⟩
        replace v0 := (bel.cell (p := ⟨w.heap.size, 0, none⟩) hz4).trans v0
        replace v1 := (bel.cell (p := ⟨w.heap.size, 1, none⟩) hz4).trans v1
        replace v2 := (bel.cell (p := ⟨w.heap.size, 2, none⟩) hz4).trans v2
        replace v3 := (bel.cell (p := ⟨w.heap.size, 3, none⟩) hz4).trans v3
        replace v4 := (bel.cell (p := ⟨w.heap.size, 4, none⟩) hz4).trans v4
        replace v5 := (bel.cell (p := ⟨w.heap.size, 5, none⟩) hz4).trans v5
        replace hz4 : w.heap.size < w7.heap.size := by have := bel.size; omega
        replace HBW := Lib.hid (HBW.out.trans (bel.mono HBW.out.size))
        clear bel
        go_wp2
        go_ret
        exact ⟨ret_str HE2.out, HBW.out⟩
      · obtain ⟨U0, A0, B0⟩ := add_chain (T := [nmB (k1 + 1)]) ⟨S0.1, Nat.le_trans S0.2.1 (by decide), S0.2.2⟩ (x := (decB a)) (dl a (show inR a = true from D0.out))
        have S1 := short_add S0 (x := (decB a)) (dl a (show inR a = true from D0.out))
        obtain ⟨U1, A1, B1⟩ := add_chain (T := ([nmB (k1 + 1)] ++ [(decB a)])) ⟨S1.1, Nat.le_trans S1.2.1 (by decide), S1.2.2⟩ (x := (decB b)) (dl b (show inR b = true from D1.out))
        have S2 := short_add S1 (x := (decB b)) (dl b (show inR b = true from D1.out))
        obtain ⟨U2, A2, B2⟩ := add_chain (T := (([nmB (k1 + 1)] ++ [(decB a)]) ++ [(decB b)])) ⟨S2.1, Nat.le_trans S2.2.1 (by decide), S2.2.2⟩ (x := (decB i)) (dl i (show inR i = true from D2.out))
        rw [jn_one] at A0
        have HE2 : Hid (jn ((([nmB (k1 + 1)] ++ [(decB a)]) ++ [(decB b)]) ++ [(decB i)]) = R) := Lib.hid HE.out
        have HD0 := Lib.hid (fun w => decimal_any a w (show inR a = true from D0.out))
        have HD1 := Lib.hid (fun w => decimal_any b w (show inR b = true from D1.out))
        have HD2 := Lib.hid (fun w => decimal_any i w (show inR i = true from D2.out))
        clear HE dl HP HK hnl S0 S1 S2
        generalize jn ((([nmB (k1 + 1)] ++ [(decB a)]) ++ [(decB b)]) ++ [(decB i)]) = J3 at *
        generalize jn (([nmB (k1 + 1)] ++ [(decB a)]) ++ [(decB b)]) = J2 at *
        generalize jn ([nmB (k1 + 1)] ++ [(decB a)]) = J1 at *
        generalize (decB a) = X0 at *
        generalize (decB b) = X1 at *
        generalize (decB i) = X2 at *
        generalize nmB (k1 + 1) = NM at *
        go_wp2_with (fail)
        refine (HD0.out w4).mono ?_
        rintro e w5 ⟨rfl, bel⟩
        replace v0 := (bel.cell (p := ⟨w.heap.size, 0, none⟩) hz4).trans v0
        replace v1 := (bel.cell (p := ⟨w.heap.size, 1, none⟩) hz4).trans v1
        replace v2 := (bel.cell (p := ⟨w.heap.size, 2, none⟩) hz4).trans v2
        replace v3 := (bel.cell (p := ⟨w.heap.size, 3, none⟩) hz4).trans v3
        replace v4 := (bel.cell (p := ⟨w.heap.size, 4, none⟩) hz4).trans v4
        replace v5 := (bel.cell (p := ⟨w.heap.size, 5, none⟩) hz4).trans v5
        replace hz4 : w.heap.size < w5.heap.size := by have := bel.size; omega
        replace HBW := Lib.hid (HBW.out.trans (bel.mono HBW.out.size))
        clear bel
        go_wp2_with (fail)
        refine (HD1.out w5).mono ?_
        rintro e w6 ⟨rfl, bel⟩
        replace v0 := (bel.cell (p := ⟨w.heap.size, 0, none⟩) hz4).trans v0
        replace v1 := (bel.cell (p := ⟨w.heap.size, 1, none⟩) hz4).trans v1
        replace v2 := (bel.cell (p := ⟨w.heap.size, 2, none⟩) hz4).trans v2
        replace v3 := (bel.cell (p := ⟨w.heap.size, 3, none⟩) hz4).trans v3
        replace v4 := (bel.cell (p := ⟨w.heap.size, 4, none⟩) hz4).trans v4
        replace v5 := (bel.cell (p := ⟨w.heap.size, 5, none⟩) hz4).trans v5
        replace hz4 : w.heap.size < w6.heap.size := by have := bel.size; omega
        replace HBW := Lib.hid (HBW.out.trans (bel.mono HBW.out.size))
        clear bel
        go_wp2_with (fail)
        refine (HD2.out w6).mono ?_
        rintro e w7 ⟨rfl, bel⟩
        replace v0 := (bel.cell (p := ⟨w.heap.size, 0, none⟩) hz4).trans v0
        replace v1 := (bel.cell (p := ⟨w.heap.size, 1, none⟩) hz4).trans v1
        replace v2 := (bel.cell (p := ⟨w.heap.size, 2, none⟩) hz4).trans v2
        replace v3 := (bel.cell (p := ⟨w.heap.size, 3, none⟩) hz4).trans v3
        replace v4 := (bel.cell (p := ⟨w.heap.size, 4, none⟩) hz4).trans v4
        replace v5 := (bel.cell (p := ⟨w.heap.size, 5, none⟩) hz4).trans v5
        replace hz4 : w.heap.size < w7.heap.size := by have := bel.size; omega
        replace HBW := Lib.hid (HBW.out.trans (bel.mono HBW.out.size))
        clear bel
        go_wp2_with (fail)
        refine (HU.out w7).mono ?_
        rintro e w' ⟨rfl, rfl⟩
        go_wp2
        go_ret
        exact ⟨ret_str HE2.out, HBW.out⟩
      · obtain ⟨U0, A0, B0⟩ := add_chain (T := [nmB (k1 + 1)]) ⟨S0.1, Nat.le_trans S0.2.1 (by decide), S0.2.2⟩ (x := (decB a)) (dl a (show inR a = true from D0.out))
        have S1 := short_add S0 (x := (decB a)) (dl a (show inR a = true from D0.out))
        obtain ⟨U1, A1, B1⟩ := add_chain (T := ([nmB (k1 + 1)] ++ [(decB a)])) ⟨S1.1, Nat.le_trans S1.2.1 (by decide), S1.2.2⟩ (x := (decB b)) (dl b (show inR b = true from D1.out))
        have S2 := short_add S1 (x := (decB b)) (dl b (show inR b = true from D1.out))
        obtain ⟨U2, A2, B2⟩ := add_chain (T := (([nmB (k1 + 1)] ++ [(decB a)]) ++ [(decB b)])) ⟨S2.1, Nat.le_trans S2.2.1 (by decide), S2.2.2⟩ (x := (decB i)) (dl i (show inR i = true from D2.out))
        have S3 := short_add S2 (x := (decB i)) (dl i (show inR i = true from D2.out))
        obtain ⟨U3, A3, B3⟩ := add_chain (T := ((([nmB (k1 + 1)] ++ [(decB a)]) ++ [(decB b)]) ++ [(decB i)])) ⟨S3.1, Nat.le_trans S3.2.1 (by decide), S3.2.2⟩ (x := (mkB (textL f))) hfl
        rw [jn_one] at A0
        have HE2 : Hid (jn (((([nmB (k1 + 1)] ++ [(decB a)]) ++ [(decB b)]) ++ [(decB i)]) ++ [(mkB (textL f))]) = R) := Lib.hid HE.out
        have HD0 := Lib.hid (fun w => decimal_any a w (show inR a = true from D0.out))
        have HD1 := Lib.hid (fun w => decimal_any b w (show inR b = true from D1.out))
        have HD2 := Lib.hid (fun w => decimal_any i w (show inR i = true from D2.out))
        clear HE dl HP HK hnl S0 S1 S2 S3
        generalize jn (((([nmB (k1 + 1)] ++ [(decB a)]) ++ [(decB b)]) ++ [(decB i)]) ++ [(mkB (textL f))]) = J4 at *
        generalize jn ((([nmB (k1 + 1)] ++ [(decB a)]) ++ [(decB b)]) ++ [(decB i)]) = J3 at *
        generalize jn (([nmB (k1 + 1)] ++ [(decB a)]) ++ [(decB b)]) = J2 at *
        generalize jn ([nmB (k1 + 1)] ++ [(decB a)]) = J1 at *
        generalize (decB a) = X0 at *
        generalize (decB b) = X1 at *
        generalize (decB i) = X2 at *
        have HFT := Lib.hid (fun (wx : World) (hb : Below w.heap.size w wx) => sFormText_any A n c f wx ((HRD.out.below hb).more hb.size))
        generalize (mkB (textL f)) = X3 at *
        generalize nmB (k1 + 1) = NM at *
        go_wp2_with (fail)
        refine (HD0.out w4).mono ?_
        rintro e w5 ⟨rfl, bel⟩
        replace v0 := (bel.cell (p := ⟨w.heap.size, 0, none⟩) hz4).trans v0
        replace v1 := (bel.cell (p := ⟨w.heap.size, 1, none⟩) hz4).trans v1
        replace v2 := (bel.cell (p := ⟨w.heap.size, 2, none⟩) hz4).trans v2
        replace v3 := (bel.cell (p := ⟨w.heap.size, 3, none⟩) hz4).trans v3
        replace v4 := (bel.cell (p := ⟨w.heap.size, 4, none⟩) hz4).trans v4
        replace v5 := (bel.cell (p := ⟨w.heap.size, 5, none⟩) hz4).trans v5
        replace hz4 : w.heap.size < w5.heap.size := by have := bel.size; omega
        replace HBW := Lib.hid (HBW.out.trans (bel.mono HBW.out.size))
        clear bel
        go_wp2_with (fail)
        refine (HD1.out w5).mono ?_
        rintro e w6 ⟨rfl, bel⟩
        replace v0 := (bel.cell (p := ⟨w.heap.size, 0, none⟩) hz4).trans v0
        replace v1 := (bel.cell (p := ⟨w.heap.size, 1, none⟩) hz4).trans v1
        replace v2 := (bel.cell (p := ⟨w.heap.size, 2, none⟩) hz4).trans v2
        replace v3 := (bel.cell (p := ⟨w.heap.size, 3, none⟩) hz4).trans v3
        replace v4 := (bel.cell (p := ⟨w.heap.size, 4, none⟩) hz4).trans v4
        replace v5 := (bel.cell (p := ⟨w.heap.size, 5, none⟩) hz4).trans v5
        replace hz4 : w.heap.size < w6.heap.size := by have := bel.size; omega
        replace HBW := Lib.hid (HBW.out.trans (bel.mono HBW.out.size))
        clear bel
        go_wp2_with (fail)
        refine (HD2.out w6).mono ?_
        rintro e w7 ⟨rfl, bel⟩
        replace v0 := (bel.cell (p := ⟨w.heap.size, 0, none⟩) hz4).trans v0
        replace v1 := (bel.cell (p := ⟨w.heap.size, 1, none⟩) hz4).trans v1
        replace v2 := (bel.cell (p := ⟨w.heap.size, 2, none⟩) hz4).trans v2
        replace v3 := (bel.cell (p := ⟨w.heap.size, 3, none⟩) hz4).trans v3
        replace v4 := (bel.cell (p := ⟨w.heap.size, 4, none⟩) hz4).trans v4
        replace v5 := (bel.cell (p := ⟨w.heap.size, 5, none⟩) hz4).trans v5
        replace hz4 : w.heap.size < w7.heap.size := by have := bel.size; omega
        replace HBW := Lib.hid (HBW.out.trans (bel.mono HBW.out.size))
        clear bel
        go_wp2_with (fail)
        refine (HU.out w7).mono ?_
        rintro e w' ⟨rfl, rfl⟩
        go_wp2_with (fail)
        refine (HFT.out w7 HBW.out).mono ?_
        rintro e w8 ⟨rfl, bel⟩
        replace v0 := (bel.cell (p := ⟨w.heap.size, 0, none⟩) hz4).trans v0
        replace v1 := (bel.cell (p := ⟨w.heap.size, 1, none⟩) hz4).trans v1
        replace v2 := (bel.cell (p := ⟨w.heap.size, 2, none⟩) hz4).trans v2
        replace v3 := (bel.cell (p := ⟨w.heap.size, 3, none⟩) hz4).trans v3
        replace v4 := (bel.cell (p := ⟨w.heap.size, 4, none⟩) hz4).trans v4
        replace v5 := (bel.cell (p := ⟨w.heap.size, 5, none⟩) hz4).trans v5
        replace hz4 : w.heap.size < w8.heap.size := by have := bel.size; omega
        replace HBW := Lib.hid (HBW.out.trans (bel.mono HBW.out.size))
        clear bel
        go_wp2
        go_ret
        exact ⟨ret_str HE2.out, HBW.out⟩
      · obtain ⟨U0, A0, B0⟩ := add_chain (T := [nmB (k1 + 1)]) ⟨S0.1, Nat.le_trans S0.2.1 (by decide), S0.2.2⟩ (x := (decB a)) (dl a (show inR a = true from D0.out))
        have S1 := short_add S0 (x := (decB a)) (dl a (show inR a = true from D0.out))
        obtain ⟨U1, A1, B1⟩ := add_chain (T := ([nmB (k1 + 1)] ++ [(decB a)])) ⟨S1.1, Nat.le_trans S1.2.1 (by decide), S1.2.2⟩ (x := (decB b)) (dl b (show inR b = true from D1.out))
        have S2 := short_add S1 (x := (decB b)) (dl b (show inR b = true from D1.out))
        obtain ⟨U2, A2, B2⟩ := add_chain (T := (([nmB (k1 + 1)] ++ [(decB a)]) ++ [(decB b)])) ⟨S2.1, Nat.le_trans S2.2.1 (by decide), S2.2.2⟩ (x := (decB i)) (dl i (show inR i = true from D2.out))
        have S3 := short_add S2 (x := (decB i)) (dl i (show inR i = true from D2.out))
        obtain ⟨U3, A3, B3⟩ := add_chain (T := ((([nmB (k1 + 1)] ++ [(decB a)]) ++ [(decB b)]) ++ [(decB i)])) ⟨S3.1, Nat.le_trans S3.2.1 (by decide), S3.2.2⟩ (x := (decB j)) (dl j (show inR j = true from D3.out))
        rw [jn_one] at A0
        have HE2 : Hid (jn (((([nmB (k1 + 1)] ++ [(decB a)]) ++ [(decB b)]) ++ [(decB i)]) ++ [(decB j)]) = R) := Lib.hid HE.out
        have HD0 := Lib.hid (fun w => decimal_any a w (show inR a = true from D0.out))
        have HD1 := Lib.hid (fun w => decimal_any b w (show inR b = true from D1.out))
        have HD2 := Lib.hid (fun w => decimal_any i w (show inR i = true from D2.out))
        have HD3 := Lib.hid (fun w => decimal_any j w (show inR j = true from D3.out))
        clear HE dl HP HK hnl S0 S1 S2 S3
        generalize jn (((([nmB (k1 + 1)] ++ [(decB a)]) ++ [(decB b)]) ++ [(decB i)]) ++ [(decB j)]) = J4 at *
        generalize jn ((([nmB (k1 + 1)] ++ [(decB a)]) ++ [(decB b)]) ++ [(decB i)]) = J3 at *
        generalize jn (([nmB (k1 + 1)] ++ [(decB a)]) ++ [(decB b)]) = J2 at *
        generalize jn ([nmB (k1 + 1)] ++ [(decB a)]) = J1 at *
        generalize (decB a) = X0 at *
        generalize (decB b) = X1 at *
        generalize (decB i) = X2 at *
        generalize (decB j) = X3 at *
        generalize nmB (k1 + 1) = NM at *
        go_wp2_with (fail)
        refine (HD0.out w4).mono ?_
        rintro e w5 ⟨rfl, bel⟩
        replace v0 := (bel.cell (p := ⟨w.heap.size, 0, none⟩) hz4).trans v0
        replace v1 := (bel.cell (p := ⟨w.heap.size, 1, none⟩) hz4).trans v1
        replace v2 := (bel.cell (p := ⟨w.heap.size, 2, none⟩) hz4).trans v2
        replace v3 := (bel.cell (p := ⟨w.heap.size, 3, none⟩) hz4).trans v3
        replace v4 := (bel.cell (p := ⟨w.heap.size, 4, none⟩) hz4).trans v4
        replace v5 := (bel.cell (p := ⟨w.heap.size, 5, none⟩) hz4).trans v5
        replace hz4 : w.heap.size < w5.heap.size := by have := bel.size; omega
        replace HBW := Lib.hid (HBW.out.trans (bel.mono HBW.out.size))
        clear bel
        go_wp2_with (fail)
        refine (HD1.out w5).mono ?_
        rintro e w6 ⟨rfl, bel⟩
        replace v0 := (bel.cell (p := ⟨w.heap.size, 0, none⟩) hz4).trans v0
        replace v1 := (bel.cell (p := ⟨w.heap.size, 1, none⟩) hz4).trans v1
        replace v2 := (bel.cell (p := ⟨w.heap.size, 2, none⟩) hz4).trans v2
        replace v3 := (bel.cell (p := ⟨w.heap.size, 3, none⟩) hz4).trans v3
        replace v4 := (bel.cell (p := ⟨w.heap.size, 4, none⟩) hz4).trans v4
        replace v5 := (bel.cell (p := ⟨w.heap.size, 5, none⟩) hz4).trans v5
        replace hz4 : w.heap.size < w6.heap.size := by have := bel.size; omega
        replace HBW := Lib.hid (HBW.out.trans (bel.mono HBW.out.size))
        clear bel
        go_wp2_with (fail)
        refine (HD2.out w6).mono ?_
        rintro e w7 ⟨rfl, bel⟩
        replace v0 := (bel.cell (p := ⟨w.heap.size, 0, none⟩) hz4).trans v0
        replace v1 := (bel.cell (p := ⟨w.heap.size, 1, none⟩) hz4).trans v1
        replace v2 := (bel.cell (p := ⟨w.heap.size, 2, none⟩) hz4).trans v2
        replace v3 := (bel.cell (p := ⟨w.heap.size, 3, none⟩) hz4).trans v3
        replace v4 := (bel.cell (p := ⟨w.heap.size, 4, none⟩) hz4).trans v4
        replace v5 := (bel.cell (p := ⟨w.heap.size, 5, none⟩) hz4).trans v5
        replace hz4 : w.heap.size < w7.heap.size := by have := bel.size; omega
        replace HBW := Lib.hid (HBW.out.trans (bel.mono HBW.out.size))
        clear bel
        go_wp2_with (fail)
        refine (HD3.out w7).mono ?_
        rintro e w8 ⟨rfl, bel⟩
        replace v0 := (bel.cell (p := ⟨w.heap.size, 0, none⟩) hz4).trans v0
        replace v1 := (bel.cell (p := ⟨w.heap.size, 1, none⟩) hz4).trans v1
        replace v2 := (bel.cell (p := ⟨w.heap.size, 2, none⟩) hz4).trans v2
        replace v3 := (bel.cell (p := ⟨w.heap.size, 3, none⟩) hz4).trans v3
        replace v4 := (bel.cell (p := ⟨w.heap.size, 4, none⟩) hz4).trans v4
        replace v5 := (bel.cell (p := ⟨w.heap.size, 5, none⟩) hz4).trans v5
        replace hz4 : w.heap.size < w8.heap.size := by have := bel.size; omega
        replace HBW := Lib.hid (HBW.out.trans (bel.mono HBW.out.size))
        clear bel
        go_wp2_with (fail)
        refine (HU.out w8).mono ?_
        rintro e w' ⟨rfl, rfl⟩
        go_wp2
        go_ret
        exact ⟨ret_str HE2.out, HBW.out⟩
      · obtain ⟨U0, A0, B0⟩ := add_chain (T := [nmB (k1 + 1)]) ⟨S0.1, Nat.le_trans S0.2.1 (by decide), S0.2.2⟩ (x := (decB a)) (dl a (show inR a = true from D0.out))
        have S1 := short_add S0 (x := (decB a)) (dl a (show inR a = true from D0.out))
        obtain ⟨U1, A1, B1⟩ := add_chain (T := ([nmB (k1 + 1)] ++ [(decB a)])) ⟨S1.1, Nat.le_trans S1.2.1 (by decide), S1.2.2⟩ (x := (decB b)) (dl b (show inR b = true from D1.out))
        have S2 := short_add S1 (x := (decB b)) (dl b (show inR b = true from D1.out))
        obtain ⟨U2, A2, B2⟩ := add_chain (T := (([nmB (k1 + 1)] ++ [(decB a)]) ++ [(decB b)])) ⟨S2.1, Nat.le_trans S2.2.1 (by decide), S2.2.2⟩ (x := (decB i)) (dl i (show inR i = true from D2.out))
        have S3 := short_add S2 (x := (decB i)) (dl i (show inR i = true from D2.out))
        obtain ⟨U3, A3, B3⟩ := add_chain (T := ((([nmB (k1 + 1)] ++ [(decB a)]) ++ [(decB b)]) ++ [(decB i)])) ⟨S3.1, Nat.le_trans S3.2.1 (by decide), S3.2.2⟩ (x := (decB j)) (dl j (show inR j = true from D3.out))
        have S4 := short_add S3 (x := (decB j)) (dl j (show inR j = true from D3.out))
        obtain ⟨U4, A4, B4⟩ := add_chain (T := (((([nmB (k1 + 1)] ++ [(decB a)]) ++ [(decB b)]) ++ [(decB i)]) ++ [(decB j)])) ⟨S4.1, Nat.le_trans S4.2.1 (by decide), S4.2.2⟩ (x := (mkB (textL f))) hfl
        rw [jn_one] at A0
        have HE2 : Hid (jn ((((([nmB (k1 + 1)] ++ [(decB a)]) ++ [(decB b)]) ++ [(decB i)]) ++ [(decB j)]) ++ [(mkB (textL f))]) = R) := Lib.hid HE.out
        have HD0 := Lib.hid (fun w => decimal_any a w (show inR a = true from D0.out))
        have HD1 := Lib.hid (fun w => decimal_any b w (show inR b = true from D1.out))
        have HD2 := Lib.hid (fun w => decimal_any i w (show inR i = true from D2.out))
        have HD3 := Lib.hid (fun w => decimal_any j w (show inR j = true from D3.out))
        clear HE dl HP HK hnl S0 S1 S2 S3 S4
        generalize jn ((((([nmB (k1 + 1)] ++ [(decB a)]) ++ [(decB b)]) ++ [(decB i)]) ++ [(decB j)]) ++ [(mkB (textL f))]) = J5 at *
        generalize jn (((([nmB (k1 + 1)] ++ [(decB a)]) ++ [(decB b)]) ++ [(decB i)]) ++ [(decB j)]) = J4 at *
        generalize jn ((([nmB (k1 + 1)] ++ [(decB a)]) ++ [(decB b)]) ++ [(decB i)]) = J3 at *
        generalize jn (([nmB (k1 + 1)] ++ [(decB a)]) ++ [(decB b)]) = J2 at *
        generalize jn ([nmB (k1 + 1)] ++ [(decB a)]) = J1 at *
        generalize (decB a) = X0 at *
        generalize (decB b) = X1 at *
        generalize (decB i) = X2 at *
        generalize (decB j) = X3 at *
        have HFT := Lib.hid (fun (wx : World) (hb : Below w.heap.size w wx) => sFormText_any A n c f wx ((HRD.out.below hb).more hb.size))
        generalize (mkB (textL f)) = X4 at *
        generalize nmB (k1 + 1) = NM at *
        go_wp2_with (fail)
        refine (HD0.out w4).mono ?_
        rintro e w5 ⟨rfl, bel⟩
        replace v0 := (bel.cell (p := ⟨w.heap.size, 0, none⟩) hz4).trans v0
        replace v1 := (bel.cell (p := ⟨w.heap.size, 1, none⟩) hz4).trans v1
        replace v2 := (bel.cell (p := ⟨w.heap.size, 2, none⟩) hz4).trans v2
        replace v3 := (bel.cell (p := ⟨w.heap.size, 3, none⟩) hz4).trans v3
        replace v4 := (bel.cell (p := ⟨w.heap.size, 4, none⟩) hz4).trans v4
        replace v5 := (bel.cell (p := ⟨w.heap.size, 5, none⟩) hz4).trans v5
        replace hz4 : w.heap.size < w5.heap.size := by have := bel.size; omega
        replace HBW := Lib.hid (HBW.out.trans (bel.mono HBW.out.size))
        clear bel
        go_wp2_with (fail)
        refine (HD1.out w5).mono ?_
        rintro e w6 ⟨rfl, bel⟩
        replace v0 := (bel.cell (p := ⟨w.heap.size, 0, none⟩) hz4).trans v0
        replace v1 := (bel.cell (p := ⟨w.heap.size, 1, none⟩) hz4).trans v1
        replace v2 := (bel.cell (p := ⟨w.heap.size, 2, none⟩) hz4).trans v2
        replace v3 := (bel.cell (p := ⟨w.heap.size, 3, none⟩) hz4).trans v3
        replace v4 := (bel.cell (p := ⟨w.heap.size, 4, none⟩) hz4).trans v4
        replace v5 := (bel.cell (p := ⟨w.heap.size, 5, none⟩) hz4).trans v5
        replace hz4 : w.heap.size < w6.heap.size := by have := bel.size; omega
        replace HBW := Lib.hid (HBW.out.trans (bel.mono HBW.out.size))
        clear bel
        go_wp2_with (fail)
        refine (HD2.out w6).mono ?_
        rintro e w7 ⟨rfl, bel⟩
        replace v0 := (bel.cell (p := ⟨w.heap.size, 0, none⟩) hz4).trans v0
        replace v1 := (bel.cell (p := ⟨w.heap.size, 1, none⟩) hz4).trans v1
        replace v2 := (bel.cell (p := ⟨w.heap.size, 2, none⟩) hz4).trans v2
        replace v3 := (bel.cell (p := ⟨w.heap.size, 3, none⟩) hz4).trans v3
        replace v4 := (bel.cell (p := ⟨w.heap.size, 4, none⟩) hz4).trans v4
        replace v5 := (bel.cell (p := ⟨w.heap.size, 5, none⟩) hz4).trans v5
        replace hz4 : w.heap.size < w7.heap.size := by have := bel.size; omega
        replace HBW := Lib.hid (HBW.out.trans (bel.mono HBW.out.size))
        clear bel
        go_wp2_with (fail)
        refine (HD3.out w7).mono ?_
        rintro e w8 ⟨rfl, bel⟩
        replace v0 := (bel.cell (p := ⟨w.heap.size, 0, none⟩) hz4).trans v0
        replace v1 := (bel.cell (p := ⟨w.heap.size, 1, none⟩) hz4).trans v1
        replace v2 := (bel.cell (p := ⟨w.heap.size, 2, none⟩) hz4).trans v2
        replace v3 := (bel.cell (p := ⟨w.heap.size, 3, none⟩) hz4).trans v3
        replace v4 := (bel.cell (p := ⟨w.heap.size, 4, none⟩) hz4).trans v4
        replace v5 := (bel.cell (p := ⟨w.heap.size, 5, none⟩) hz4).trans v5
        replace hz4 : w.heap.size < w8.heap.size := by have := bel.size; omega
        replace HBW := Lib.hid (HBW.out.trans (bel.mono HBW.out.size))
        clear bel
        go_wp2_with (fail)
        refine (HU.out w8).mono ?_
        rintro e w' ⟨rfl, rfl⟩
        go_wp2_with (fail)
        refine (HFT.out w8 HBW.out).mono ?_
        rintro e w9 ⟨rfl, bel⟩
        replace v0 := (bel.cell (p := ⟨w.heap.size, 0, none⟩) hz4).trans v0
        replace v1 := (bel.cell (p := ⟨w.heap.size, 1, none⟩) hz4).trans v1
        replace v2 := (bel.cell (p := ⟨w.heap.size, 2, none⟩) hz4).trans v2
        replace v3 := (bel.cell (p := ⟨w.heap.size, 3, none⟩) hz4).trans v3
        replace v4 := (bel.cell (p := ⟨w.heap.size, 4, none⟩) hz4).trans v4
        replace v5 := (bel.cell (p := ⟨w.heap.size, 5, none⟩) hz4).trans v5
        replace hz4 : w.heap.size < w9.heap.size := by have := bel.size; omega
        replace HBW := Lib.hid (HBW.out.trans (bel.mono HBW.out.size))
        clear bel
        go_wp2
        go_ret
        exact ⟨ret_str HE2.out, HBW.out⟩
end Go.Proofs.YtjgmgaccmcepdaaGreatDoor
