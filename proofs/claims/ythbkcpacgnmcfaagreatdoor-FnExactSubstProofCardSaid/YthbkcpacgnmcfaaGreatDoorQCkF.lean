/- The program's rules bot and prom. slices.Grow and slices.Concat at rows of headers. -/
import Derived.Test.YthbkcpacgnmcfaaGreatDoorQRule
import Derived.Test.YthbkcpacgnmcfaaGreatDoorQCkO
import Derived.Test.YthbkcpacgnmcfaaGreatDoorQSubA
import Derived.Lib.AppendZerosOnto
namespace Go.Proofs.YthbkcpacgnmcfaaGreatDoor
set_option linter.unusedSimpArgs false
set_option linter.unusedVariables false
section
open Go.ChangeAt Go.ChangeShapes Go.RowKit Go.WideShapes

/-- The end of a rule's method: a formula appended behind the rest. -/
theorem app_ready {w2 w3 : World} {A4 AX : Option Addr} {n4 c4 cX base : Nat} {vs4 : List Value} {X : List Int} (hw3 : w3 = w2.alloc (.cells #[Value.slice AX X.length cX] 36)) (o : w2.ownsRow base 36 1 (.slice A4 n4 c4) n4 vs4) (ox : RdI w2 w2.heap.size AX X.length X) :
    w3.ownsRow base 36 1 (.slice A4 n4 c4) n4 vs4 ∧ RdI w3 w3.heap.size AX X.length X ∧ Below w2.heap.size w2 w3 ∧ (∀ j u, [Value.slice AX X.length cX][j]? = some u → w3.cell? ((⟨w2.heap.size, 0, none⟩ : Addr).add j) = some u) := by
  subst hw3
  have b : Below w2.heap.size w2 (w2.alloc (.cells #[Value.slice AX X.length cX] 36)) := (Below.refl _ _).alloc (Nat.le_refl _) _
  exact ⟨own_below o b (Nat.le_refl _), (ox.below b).more b.size, b, World.news_of_block (heap_alloc_new _ _)⟩

set_option maxRecDepth 100000 in
set_option maxHeartbeats 4000000 in
theorem bot_any (x y z : Bool) (r a b i j : Int) (A : Option Addr) (n c : Nat) (P : List (List Int)) (B : Option Addr) (m d : Nat) (w : World) (h : RdQ w w.heap.size A n P) (hn : n ≤ 10) :
    Calls Tryz.prog 114 #[.agg #[.bool x, .bool y, .bool z], .slice A n c, Value.agg #[Value.int .i64 r, Value.int .i64 a, Value.int .i64 b, Value.int .i64 i, Value.int .i64 j, Value.slice B m d]] w (GivesD w (some (woL P [] ++ [[14]]))) := by
  obtain ⟨i0, hi0, hz0, hz1, hz2⟩ := info_parts_s
  have hl := h.len
  subst hl
  obtain ⟨u, hu0⟩ : ∃ u, u = (w.alloc (.cells #[Value.bool x, Value.bool y, Value.bool z] 97)).alloc (.cells #[Value.int .i64 r, Value.int .i64 a, Value.int .i64 b, Value.int .i64 i, Value.int .i64 j, Value.slice B m d] 43) := ⟨_, rfl⟩
  obtain ⟨hb, _, _, _⟩ := two_any w (.cells #[Value.bool x, Value.bool y, Value.bool z] 97) (.cells #[Value.int .i64 r, Value.int .i64 a, Value.int .i64 b, Value.int .i64 i, Value.int .i64 j, Value.slice B m d] 43)
  rw [← hu0] at hb
  have hwo := without_any A P.length c P none 0 0 [] u ((h.below hb).more hb.size) ⟨rfl, fun h => absurd h (by omega)⟩ (by omega) (by omega)
  obtain ⟨X, hX⟩ : ∃ X, ([14] : List Int) = X := ⟨_, rfl⟩
  obtain ⟨R, hR⟩ : ∃ R, woL P [] = R := ⟨_, rfl⟩
  have hR9 : R.length ≤ 10 := by rw [← hR]; exact Nat.le_trans (woK_len _ _ _) hn
  have hfo := fun (wx : World) => formOf_nil 14 wx
  rw [hX] at hfo ⊢
  rw [hR] at hwo ⊢
  have HU0 := Lib.hid hu0; have HBU := Lib.hid hb; have HWO := Lib.hid hwo; have HFO := Lib.hid hfo
  clear hu0 hb hwo hfo hX hR h
  go_enter Tryz.func114, Tryz.ntmps114
  go_upto_region 1 with (fail)
  rw [← HU0.out]
  go_wp2_with (fail)
  refine HWO.out.mono ?_
  rintro e w1 ⟨A4, c4, vs4, rfl, o1, r1, bel1⟩
  have HO1 := Lib.hid o1; have HR1 := Lib.hid r1; have HB1 := Lib.hid bel1
  clear o1 r1 bel1
  go_wp2_with (fail)
  refine (HFO.out w1).mono ?_
  rintro e w2 ⟨AX, cX, rfl, o2, bel2⟩
  have HCX := Lib.hid (own_cap o2).1
  obtain ⟨w3, hw3⟩ : ∃ w3, w3 = w2.alloc (.cells #[Value.slice AX X.length cX] 36) := ⟨_, rfl⟩
  obtain ⟨o3, x3, b3, n3⟩ := app_ready hw3 (own_below HO1.out bel2 (Nat.le_refl _)) (RdI.of_own o2)
  have HNE := Lib.hid (own_ord HO1.out o2 (Nat.le_refl _))
  have HQ := Lib.hid ((HB1.out.trans (bel2.mono HB1.out.size)).trans (b3.mono (Nat.le_trans HB1.out.size bel2.size)))
  have HW3 := Lib.hid hw3; have HO3 := Lib.hid o3; have HX3 := Lib.hid x3; have HN3 := Lib.hid n3
  have hs3 := HQ.out.size
  clear hw3 o3 x3 b3 n3 o2 bel2
  go_wp2_with (at_builtin; rw [← HW3.out]; refine wpList_append_own _ rfl _ _ 23 rfl u.heap.size 36 i0 (.slice none 0 0) 1 24 Tryz.underlying23 hi0 hz0 hz1 hz2 rfl (by decide) _ _ _ rfl HO3.out ⟨w2.heap.size, 0, none⟩ 1 1 [.slice AX X.length cX] rfl rfl HN3.out (by simp [Value.oneCell']) (by unfold maxLen; omega) (by omega) hs3 ?_; intro v7 w7 hown7 hgrow7 _)
  obtain ⟨A7, c7, rfl, b7, o7, r7⟩ := rule_out (Below.refl u.heap.size u) HQ.out rfl HO3.out HR1.out HX3.out HNE.out HCX.out hown7 hgrow7
  have HB7 := Lib.hid b7; have HO7 := Lib.hid o7; have HR7 := Lib.hid r7
  clear b7 o7 r7 hown7 hgrow7
  go_wp2
  go_ret2
  exact ⟨HBU.out.trans (HB7.out.mono HBU.out.size), A7, c7, _, by rw [show (R ++ [X]).length = R.length + 1 by simp]; rfl, own_base HO7.out HBU.out.size, HR7.out⟩

def promB (P : List (List Int)) (ii : Nat) : Bool := (woL P [((ii : Nat) : Int)]).all fun f => decide (opOf f = 18)
def promR (P : List (List Int)) (ii : Nat) : Option (List (List Int)) := if promB P ii = true then some (woL P [((ii : Nat) : Int)] ++ [17 :: P.getD ii []]) else none
theorem all_bad {R : List (List Int)} {k : Nat} (hk : k < R.length) (h : opOf (R.getD k []) ≠ 18) : (R.all fun f => decide (opOf f = 18)) = false := by
  rw [List.all_eq_false]
  exact ⟨R.getD k [], getD_mem hk, by simpa using h⟩
theorem all_good {R : List (List Int)} (h : ∀ k, k < R.length → opOf (R.getD k []) = 18) : (R.all fun f => decide (opOf f = 18)) = true := by
  rw [List.all_eq_true]
  intro f hf
  obtain ⟨k, hk, e⟩ := List.mem_iff_getElem.1 hf
  have := h k hk
  simp only [List.getD, List.getElem?_eq_getElem hk, Option.getD_some, e] at this
  exact decide_eq_true this

set_option maxRecDepth 100000 in
set_option maxHeartbeats 4000000 in
theorem prom_any (x y z : Bool) (r a b j : Int) (ii : Nat) (A : Option Addr) (n c : Nat) (P : List (List Int)) (B : Option Addr) (m d : Nat) (w : World) (h : RdQ w w.heap.size A n P) (hn : n ≤ 10) (hq : ∀ q ∈ P, 0 < q.length ∧ q.length ≤ 24) (hii : ii < n) (ht : Arit w) :
    Calls Tryz.prog 119 #[.agg #[.bool x, .bool y, .bool z], .slice A n c, Value.agg #[Value.int .i64 r, Value.int .i64 a, Value.int .i64 b, Value.int .i64 ((ii : Nat) : Int), Value.int .i64 j, Value.slice B m d]] w (GivesD w (promR P ii)) := by
  obtain ⟨i0, hi0, hz0, hz1, hz2⟩ := info_parts_s
  have HI := Lib.hid hi0; have HZ0 := Lib.hid hz0; have HZ1 := Lib.hid hz1; have HZ2 := Lib.hid hz2
  have hl := h.len
  subst hl
  obtain ⟨u, hu0⟩ : ∃ u, u = (w.alloc (.cells #[Value.bool x, Value.bool y, Value.bool z] 101)).alloc (.cells #[Value.int .i64 r, Value.int .i64 a, Value.int .i64 b, Value.int .i64 ((ii : Nat) : Int), Value.int .i64 j, Value.slice B m d] 43) := ⟨_, rfl⟩
  obtain ⟨hb, p0, p1, hsz⟩ := two_any w (.cells #[Value.bool x, Value.bool y, Value.bool z] 101) (.cells #[Value.int .i64 r, Value.int .i64 a, Value.int .i64 b, Value.int .i64 ((ii : Nat) : Int), Value.int .i64 j, Value.slice B m d] 43)
  rw [← hu0] at hb p0 p1 hsz
  obtain ⟨bp, op, rfl, hbp, hcp⟩ := h.2 (by omega)
  obtain ⟨AI, cI, kI, mI, rI⟩ := hcp ii hii
  have HRI := Lib.hid ((rI.below hb).more hb.size)
  have hlI : 0 < (P.getD ii []).length ∧ (P.getD ii []).length ≤ 24 := hq _ (getD_mem hii)
  obtain ⟨w1, hw1⟩ : ∃ w1, w1 = u.alloc (.cells #[Value.int .i64 ((ii : Nat) : Int)] 2) := ⟨_, rfl⟩
  have hb1 := al hw1
  have hg1 := an hw1
  have hbw1 := hb.trans (hb1.mono hb.size)
  have hwo := without_any (some ⟨bp, op, none⟩) P.length c P (some ⟨u.heap.size, 0, none⟩) 1 1 [((ii : Nat) : Int)] w1 ((h.below hbw1).more hbw1.size) (rd_lit hg1) (by omega) (by omega)
  have hfo := fun (wx : World) (g : Nat) (hx : Below u.heap.size u wx) (hg : wx.heap[g]? = some (.cells #[.slice AI (P.getD ii []).length cI] 36 (0, 0))) => formOf1_any 17 g AI cI (P.getD ii []) wx hg ((HRI.out.below hx).more hx.size) (by omega)
  obtain ⟨X, hX⟩ : ∃ X, (17 :: P.getD ii []) = X := ⟨_, rfl⟩
  obtain ⟨R, hR⟩ : ∃ R, woL P [((ii : Nat) : Int)] = R := ⟨_, rfl⟩
  have hR9 : R.length ≤ 10 := by rw [← hR]; exact Nat.le_trans (woK_len _ _ _) hn
  have hyes : (∀ k, k < R.length → opOf (R.getD k []) = 18) → promR P ii = some (R ++ [X]) := fun hh => by
    unfold promR promB
    rw [hR, hX, if_pos (all_good hh)]
  have hno : ∀ k, k < R.length → opOf (R.getD k []) ≠ 18 → promR P ii = none := fun k hk hh => by
    unfold promR promB
    rw [hR, if_neg (by rw [all_bad hk hh]; simp)]
  rw [hX] at hfo
  rw [hR] at hwo
  have HU0 := Lib.hid hu0; have HBU := Lib.hid hb; have HWO := Lib.hid hwo; have HFO := Lib.hid hfo; have HW1 := Lib.hid hw1; have HB1 := Lib.hid hb1; have HYES := Lib.hid hyes; have HNO := Lib.hid hno
  have HKI : Hid (∀ wx, Below u.heap.size u wx → wx.cell? ⟨w.heap.size + 1, 3, none⟩ = some (.int .i64 ((ii : Nat) : Int)) ∧ wx.cell? ⟨bp, op + ii, none⟩ = some (.slice AI (P.getD ii []).length cI)) := Lib.hid fun wx hx =>
    ⟨cell_of_row _ _ 3 _ _ (0, 0) ((hx.block (w.heap.size + 1) (by omega)).trans p1), ((hb.trans (hx.mono hb.size)).cell (p := ⟨bp, op + ii, none⟩) hbp).trans kI⟩
  have hai : ((ii : Nat) : Int) < (P.length : Int) := by omega
  obtain ⟨e3, _⟩ := HKI.out u (Below.refl _ _)
  clear hu0 hb hwo hfo hX hR h hcp kI mI rI hlI hw1 hb1 hg1 hbw1 hyes hno p0 p1 hsz hq
  generalize (P.getD ii []).length = NI at *
  go_enter Tryz.func119, Tryz.ntmps119
  go_upto_region 1 with (fail)
  rw [← HU0.out]
  go_wp2_with (fail)
  rw [← HW1.out]
  refine HWO.out.mono ?_
  rintro e w2 ⟨A4, c4, vs4, rfl, o2, r2, bel2⟩
  have HO2 := Lib.hid o2; have HR2 := Lib.hid r2; have HB2 := Lib.hid bel2
  have HRQ := Lib.hid ((RdV.below r2 bel2).rd o2)
  have HBU2 := Lib.hid (HB1.out.trans (bel2.mono HB1.out.size))
  have HT2 := Lib.hid (ht.below (HBU.out.trans (HBU2.out.mono HBU.out.size)) ht.lt)
  clear o2 r2 bel2 e3
  go_wp2
  go_loopw [18] (fun i wr => ∃ k : Nat, k ≤ R.length ∧ i = .int .i64 k ∧ (∀ l, l < k → opOf (R.getD l []) = 18) ∧ w2 = wr) (fun i _ => R.length - (intOf i).toNat)
  case atStart => exact ⟨0, Nat.zero_le _, rfl, fun l hl => absurd hl (by omega), rfl⟩
  case round =>
    obtain ⟨k, hk, rfl, hall, rfl⟩ := hrel
    have HALL := Lib.hid hall
    clear hall
    by_cases hlt : k < R.length
    · have hd : decide ((k : Int) < (R.length : Int)) = true := decide_eq_true (by omega)
      obtain ⟨b4, off4, rfl, hb4, hc4⟩ := HRQ.out.2 (by omega)
      obtain ⟨Ak, ck, kk, mk, rk⟩ := hc4 k hlt
      have HOP := Lib.hid (operatorOf_impl Ak _ ck _ w2 rk HT2.out mk)
      have HN := Lib.hid (HNO.out k hlt)
      have HG : Hid (∀ o, opOf (R.getD k []) = o → opOf (R.getD k []) = o) := Lib.hid (fun _ h => h)
      clear hc4 rk mk
      generalize hop : opOf (R.getD k []) = o at *
      have HOO := Lib.hid hop
      clear hop
      generalize (R.getD k []).length = M at *
      by_cases h18 : o = 18
      · have hne : (o != 18) = false := by rw [h18]; rfl
        have H18 := Lib.hid h18
        clear h18
        go_wp2_with (go_at_call 120; refine HOP.out.mono ?_; rintro e w' ⟨rfl, rfl⟩)
        go_roundw
        case rel => exact ⟨k + 1, by omega, by go_num, fun l hl => by
          rcases Nat.lt_or_ge l k with h1 | h1
          · exact HALL.out l h1
          · obtain rfl : l = k := by omega
            rw [HOO.out]; exact H18.out, trivial⟩
        case measure => simp [intOf]; omega
      · have hne : (o != 18) = true := by simpa using h18
        have HZ := Lib.hid (HN.out h18)
        clear h18
        go_wp2_with (go_at_call 120; refine HOP.out.mono ?_; rintro e w' ⟨rfl, rfl⟩)
        go_ret2
        rw [HZ.out]
        exact ⟨HBU.out.trans (HBU2.out.mono HBU.out.size), 6, by decide, rfl⟩
    · have hkl : k = R.length := by omega
      subst hkl
      have HY := Lib.hid (HYES.out HALL.out)
      obtain ⟨e3, e4⟩ := HKI.out w2 HBU2.out
      obtain ⟨w3, hw3⟩ : ∃ w3, w3 = w2.alloc (.cells #[Value.slice AI NI cI] 36) := ⟨_, rfl⟩
      have hb3 := al hw3
      have hg3 := an hw3
      have HF := Lib.hid (HFO.out w3 w2.heap.size (HBU2.out.trans (hb3.mono HBU2.out.size)) hg3)
      have HO3 := Lib.hid (own_below HO2.out hb3 (Nat.le_refl _))
      have HQ3 := Lib.hid (HB2.out.trans (hb3.mono HB2.out.size))
      have HW3 := Lib.hid hw3
      clear hw3 hb3 hg3
      go_wp2_with (fail)
      rw [← HW3.out]
      refine HF.out.mono ?_
      rintro e w4 ⟨AX, cX, rfl, o4, bel4⟩
      have HCX := Lib.hid (own_cap o4).1
      obtain ⟨w5, hw5⟩ : ∃ w5, w5 = w4.alloc (.cells #[Value.slice AX X.length cX] 36) := ⟨_, rfl⟩
      obtain ⟨o5, x5, b5, n5⟩ := app_ready hw5 (own_below HO3.out bel4 (Nat.le_refl _)) (RdI.of_own o4)
      have HNE := Lib.hid (own_ord HO3.out o4 (Nat.le_refl _))
      have HQ := Lib.hid ((HQ3.out.trans (bel4.mono HQ3.out.size)).trans (b5.mono (Nat.le_trans HQ3.out.size bel4.size)))
      have HW5 := Lib.hid hw5; have HO5 := Lib.hid o5; have HX5 := Lib.hid x5; have HN5 := Lib.hid n5
      have hs5 := HQ.out.size
      clear hw5 o5 x5 b5 n5 o4 bel4
      go_wp2_with (at_builtin; rw [← HW5.out]; refine wpList_append_own _ rfl _ _ 23 rfl w1.heap.size 36 i0 (.slice none 0 0) 1 24 Tryz.underlying23 HI.out HZ0.out HZ1.out HZ2.out rfl (by decide) _ _ _ rfl HO5.out ⟨w4.heap.size, 0, none⟩ 1 1 [.slice AX X.length cX] rfl rfl HN5.out (by simp [Value.oneCell']) (by unfold maxLen; omega) (by omega) hs5 ?_; intro v7 w7 hown7 hgrow7 _)
      obtain ⟨A7, c7, rfl, b7, o7, r7⟩ := rule_out HB1.out HQ.out rfl HO5.out HR2.out HX5.out HNE.out HCX.out hown7 hgrow7
      have HB7 := Lib.hid b7; have HO7 := Lib.hid o7; have HR7 := Lib.hid r7
      clear b7 o7 r7 hown7 hgrow7
      go_wp2
      go_ret2
      rw [HY.out]
      exact ⟨HBU.out.trans (HB7.out.mono HBU.out.size), A7, c7, _, by rw [show (R ++ [X]).length = R.length + 1 by simp]; rfl, own_base HO7.out HBU.out.size, HR7.out⟩
end
section
open Go.ChangeAt Go.ChangeShapes Go.RowKit Go.WideShapes

/-- What slices.Grow(nil, n) leaves: an empty row of the call's own. -/
def GrewQ (w : World) (e : Ending) (w' : World) : Prop :=
  ∃ c, e = .returned (.slice (some ⟨w.heap.size, 0, none⟩) 0 c) ∧ w'.ownsRow w.heap.size 36 1 (.slice (some ⟨w.heap.size, 0, none⟩) 0 c) 0 [] ∧ Below w.heap.size w w'

set_option maxHeartbeats 1000000 in
theorem growQ_nil (n : Nat) (w : World) (hn : 0 < n) (hm : n ≤ 1000) : Calls Tryz.prog 105 #[.slice none 0 0, .int .i64 n] w (GrewQ w) := by
  obtain ⟨i0, hi0, hz0, hz1, hz2⟩ := info_parts_s
  have hrz : ∀ ty, (Builtin.append_ #[23, 3] ty #[.slice none 0 0, .int .i64 n]).run Tryz.prog w =
      .ok (.slice (some ⟨w.heap.size, 0, none⟩) (0 + n) (grownCap w (0 + n) 0 36)) (w.drew.alloc (.cells (([] : List Value).toArray ++ Builtin.zeroCells (Value.slice none 0 0).cells n ++ Builtin.zeroCells (Value.slice none 0 0).cells (grownCap w (0 + n) 0 36 - (0 + n))) 36)) := fun ty =>
    Lib.run_append_grow_zeros w 23 3 ty 36 i0 (.slice none 0 0) .i64 .i64 Tryz.underlying23 Tryz.underlying3 hi0 hz0 none 0 0 [] (run_firstCells_none w.drew i0.size 0 0 0) n hn (by rw [hz1]; decide) (by omega) (by omega) (by rw [hz2]; omega)
      (growslice_fits (by omega) (by rw [hz2]; omega))
  have hge : n ≤ grownCap w (0 + n) 0 36 := by have := grownCap_ge w (0 + n) 0 36; omega
  have hle : grownCap w (0 + n) 0 36 ≤ maxLen := grownCap_le_maxLen w _ _ _ (by unfold maxLen; omega)
  simp only [Nat.zero_add] at hrz hge hle
  obtain ⟨G, hG⟩ : ∃ G, grownCap w n 0 36 = G := ⟨_, rfl⟩
  rw [hG] at hrz hge hle
  obtain ⟨cur, hcur⟩ : ∃ cur, (([] : List Value).toArray ++ Builtin.zeroCells (Value.slice none 0 0).cells n ++ Builtin.zeroCells (Value.slice none 0 0).cells (G - n)) = cur := ⟨_, rfl⟩
  have hsize : cur.size = G * 1 := by
    rw [← hcur]; simp [size_zeroCells, Value.cells]; omega
  rw [hcur] at hrz
  have H1 := Lib.hid (World.ownsRow_made (e := 36) (base := w.heap.size) (size := 1) w.drew cur G (Nat.le_refl _) hle hsize)
  have H2 := Lib.hid ((Below.refl w.heap.size w).drew.alloc (Nat.le_refl _) (.cells cur 36))
  have hge0 : 0 < (n : Int) := by omega
  unfold maxLen at hle
  clear hG hcur hsize hz0 hz1 hz2 hi0
  go_enter Tryz.func105, Tryz.ntmps105
  go_wp2_with (at_builtin; refine Lib.wpList_append_run _ rfl _ _ _ _ rfl _ _ rfl rfl _ _ (hrz _) ?_)
  go_ret
  exact ⟨_, rfl, H1.out, H2.out⟩

theorem growQ_zero (w : World) : Calls Tryz.prog 105 #[.slice none 0 0, .int .i64 0] w fun e w' => e = .returned (.slice none 0 0) ∧ w = w' := by
  go_enter Tryz.func105, Tryz.ntmps105
  go_wp2
  go_ret
  exact ⟨rfl, rfl⟩
/-- Grow of nil, whatever is asked. -/
theorem growQ_any (n : Nat) (w : World) (hm : n ≤ 1000) : Calls Tryz.prog 105 #[.slice none 0 0, .int .i64 n] w fun e w' => ∃ A c, e = .returned (.slice A 0 c) ∧ w'.ownsRow w.heap.size 36 1 (.slice A 0 c) 0 [] ∧ Below w.heap.size w w' := by
  rcases Nat.eq_zero_or_pos n with h | h
  · subst h
    exact (growQ_zero w).mono fun e w' ⟨h1, h2⟩ => ⟨none, 0, h1, World.ownsRow_nil _ _ _ _, h2 ▸ Below.refl _ _⟩
  · exact (growQ_nil n w h hm).mono fun e w' ⟨c, h1, h2, h3⟩ => ⟨_, c, h1, h2, h3⟩
/-- A row that is owned, as what an append reads. -/
theorem own_reads {w : World} {base n c : Nat} {A : Option Addr} {vs : List Value} (h : w.ownsRow base 36 1 (.slice A n c) n vs) :
    (A = none ∧ n = 0 ∧ c = 0 ∧ vs = []) ∨ ∃ g, A = some ⟨g, 0, none⟩ ∧ g < w.heap.size ∧ vs.length = n ∧ ∀ j v, vs[j]? = some v → w.cell? ((⟨g, 0, none⟩ : Addr).add j) = some v := by
  have hl := h.1
  rcases h.2 with ⟨hv, h0⟩ | ⟨g, cap, cur, hv, hb, hh, hn, hc, hs, ht⟩
  · injection hv with e1 e2 e3
    subst h0
    exact .inl ⟨e1, rfl, e3, List.eq_nil_of_length_eq_zero (by simpa using hl)⟩
  · injection hv with e1 e2 e3
    refine .inr ⟨g, e1, (Array.getElem?_eq_some_iff.1 hh).1, by simpa using hl, fun j v hj => ?_⟩
    have hjn : j < n := by have := (List.getElem?_eq_some_iff.1 hj).1; omega
    have hadd : (⟨g, 0, none⟩ : Addr).add j = ⟨g, j, none⟩ := by unfold Addr.add; split <;> simp_all
    rw [hadd, cell_of_row _ _ j _ _ _ hh, ← hj, ← ht]
    simp [hjn]

set_option maxRecDepth 100000 in
set_option maxHeartbeats 4000000 in
/-- Concat of two rows. -/
theorem concatQ_any (g c : Nat) (A1 A2 : Option Addr) (n1 n2 c1 c2 b1 b2 : Nat) (vs1 vs2 : List Value) (w : World) (hh : w.heap[g]? = some (.cells #[.slice A1 n1 c1, .slice A2 n2 c2] 23 (0, 0)))
    (o1 : w.ownsRow b1 36 1 (.slice A1 n1 c1) n1 vs1) (o2 : w.ownsRow b2 36 1 (.slice A2 n2 c2) n2 vs2) (hv1 : ∀ v ∈ vs1, v.oneCell' = true) (hv2 : ∀ v ∈ vs2, v.oneCell' = true) (hn1 : n1 ≤ 100) (hn2 : n2 ≤ 100) :
    Calls Tryz.prog 103 #[.slice (some ⟨g, 0, none⟩) 2 c] w fun e w' => ∃ A c', e = .returned (.slice A (n1 + n2) c') ∧ w'.ownsRow w.heap.size 36 1 (.slice A (n1 + n2) c') (n1 + n2) (vs1 ++ vs2) ∧ Below w.heap.size w w' := by
  obtain ⟨i0, hi0, hz0, hz1, hz2⟩ := info_parts_s
  have HI := Lib.hid hi0; have HZ0 := Lib.hid hz0; have HZ1 := Lib.hid hz1; have HZ2 := Lib.hid hz2
  have hg := (Array.getElem?_eq_some_iff.1 hh).1
  have HH := Lib.hid hh; have HO1 := Lib.hid o1; have HO2 := Lib.hid o2; have HV1 := Lib.hid hv1; have HV2 := Lib.hid hv2
  clear hi0 hz0 hz1 hz2 hh o1 o2 hv1 hv2
  go_enter Tryz.func103, Tryz.ntmps103
  go_wp2
  go_loopw [3, 11] (fun s i wr => w = wr ∧ ((i = .int .i64 0 ∧ s = .int .i64 0) ∨ (i = .int .i64 1 ∧ s = .int .i64 (n1 : Nat)) ∨ (i = .int .i64 2 ∧ s = .int .i64 ((n1 + n2 : Nat) : Int)))) (fun _ i _ => 2 - (intOf i).toNat)
  case atStart => exact ⟨rfl, .inl ⟨rfl, rfl⟩⟩
  case round =>
    obtain ⟨rfl, hr⟩ := hrel
    have k0 := cell_of_row _ _ 0 _ _ (0, 0) HH.out
    have k1 := cell_of_row _ _ 1 _ _ (0, 0) HH.out
    rcases hr with ⟨rfl, rfl⟩ | ⟨rfl, rfl⟩ | ⟨rfl, rfl⟩
    · have hd : decide ((n1 : Int) < 0) = false := decide_eq_false (by omega)
      have hw : IntKind.i64.wrap (n1 : Int) = (n1 : Int) := IntWalk.i64_in _ (by omega)
      go_wp2
      go_roundw
      case rel => exact ⟨trivial, .inr (.inl ⟨rfl, by go_num⟩)⟩
      case measure => simp [intOf]
    · have hd : decide ((n1 : Int) + (n2 : Int) < 0) = false := decide_eq_false (by omega)
      have hw : IntKind.i64.wrap ((n1 : Int) + (n2 : Int)) = (n1 : Int) + (n2 : Int) := IntWalk.i64_in _ (by omega)
      go_wp2
      go_roundw
      case rel => exact ⟨trivial, .inr (.inr ⟨rfl, by go_num⟩)⟩
      case measure => simp [intOf]
    · clear k0 k1
      have HG := Lib.hid (growQ_any (n1 + n2) w (by omega))
      go_wp2_with (fail)
      refine HG.out.mono ?_
      rintro e w1 ⟨A3, c3, rfl, o3, b3⟩
      have HO3 := Lib.hid o3; have HB3 := Lib.hid b3
      clear o3 b3
      go_wp2
      go_loopw [6, 27] (fun v i wr => ∃ (k q : Nat) (Ar : Option Addr) (cr : Nat) (us : List Value), i = .int .i64 k ∧ v = .slice Ar q cr ∧ ((k = 0 ∧ q = 0 ∧ us = []) ∨ (k = 1 ∧ q = n1 ∧ us = vs1) ∨ (k = 2 ∧ q = n1 + n2 ∧ us = vs1 ++ vs2)) ∧ wr.ownsRow w.heap.size 36 1 (.slice Ar q cr) q us ∧ Below w.heap.size w wr) (fun _ i _ => 2 - (intOf i).toNat)
      case atStart => exact ⟨0, 0, A3, c3, [], rfl, rfl, .inl ⟨rfl, rfl, rfl⟩, HO3.out, HB3.out⟩
      case round =>
        obtain ⟨k, q, Ar, cr, us, rfl, rfl, hcs, ho, hb⟩ := hrel
        have hsz := hb.size
        have HB := Lib.hid hb; have HO := Lib.hid ho
        have k0 := cell_of_row _ _ 0 _ _ (0, 0) ((hb.block g hg).trans HH.out)
        have k1 := cell_of_row _ _ 1 _ _ (0, 0) ((hb.block g hg).trans HH.out)
        clear ho
        rcases hcs with ⟨rfl, rfl, rfl⟩ | ⟨rfl, rfl, rfl⟩ | ⟨rfl, rfl, rfl⟩
        · rcases own_reads HO1.out with ⟨rfl, z1, z2, z3⟩ | ⟨g1, rfl, hg1, hl1, hn⟩
          · have Z1 := Lib.hid z1; have Z2 := Lib.hid z2; have Z3 := Lib.hid z3
            clear hb z1 z2 z3
            go_wp2_with (at_builtin; refine wpList_append_own_none rfl _ _ 23 rfl w.heap.size 36 i0 1 Tryz.underlying23 HI.out _ _ _ rfl HO.out (by show Value.slice none n1 c1 = _; rw [Z1.out, Z2.out]) ?_)
            go_roundw
            case rel => exact ⟨1, 0, Ar, cr, [], by go_num, rfl, .inr (.inl ⟨rfl, Z1.out.symm, Z3.out.symm⟩), HO.out, HB.out⟩
            case measure => simp [intOf]
          · have HN := Lib.hid (fun j u (hj : vs1[j]? = some u) => (hb.cell (p := (⟨g1, 0, none⟩ : Addr).add j) (by rw [add_block]; exact hg1)).trans (hn j u hj))
            have HL1 := Lib.hid hl1
            clear hb hn hl1
            go_wp2_with (at_builtin; refine wpList_append_own _ rfl _ _ 23 rfl w.heap.size 36 i0 (.slice none 0 0) 1 24 Tryz.underlying23 HI.out HZ0.out HZ1.out HZ2.out rfl (by decide) _ _ _ rfl HO.out ⟨g1, 0, none⟩ n1 c1 vs1 rfl (by rw [HL1.out, Nat.mul_one]) HN.out HV1.out (by unfold maxLen; omega) (by omega) hsz ?_; intro v7 w7 hown7 hgrow7 _)
            obtain ⟨A7, c7, rfl, b7, o7⟩ := rowv_more HB.out hsz HO.out hown7 hgrow7
            rw [Nat.zero_add, List.nil_append] at o7
            have HB7 := Lib.hid b7; have HO7 := Lib.hid o7
            clear b7 o7 hown7 hgrow7
            go_roundw
            case rel => exact ⟨1, n1, A7, c7, vs1, by go_num, by rw [Nat.zero_add], .inr (.inl ⟨rfl, rfl, rfl⟩), HO7.out, HB7.out⟩
            case measure => simp [intOf]
        · rcases own_reads HO2.out with ⟨rfl, z1, z2, z3⟩ | ⟨g2, rfl, hg2, hl2, hn⟩
          · have Z1 := Lib.hid z1; have Z2 := Lib.hid z2; have Z3 := Lib.hid z3
            clear hb z1 z2 z3
            go_wp2_with (at_builtin; refine wpList_append_own_none rfl _ _ 23 rfl w.heap.size 36 i0 1 Tryz.underlying23 HI.out _ _ _ rfl HO.out (by show Value.slice none n2 c2 = _; rw [Z1.out, Z2.out]) ?_)
            go_roundw
            case rel => exact ⟨2, _, Ar, cr, _, by go_num, rfl, .inr (.inr ⟨rfl, by rw [Z1.out, Nat.add_zero], by rw [Z3.out, List.append_nil]⟩), HO.out, HB.out⟩
            case measure => simp [intOf]
          · have HN := Lib.hid (fun j u (hj : vs2[j]? = some u) => (hb.cell (p := (⟨g2, 0, none⟩ : Addr).add j) (by rw [add_block]; exact hg2)).trans (hn j u hj))
            have HL2 := Lib.hid hl2
            clear hb hn hl2
            go_wp2_with (at_builtin; refine wpList_append_own _ rfl _ _ 23 rfl w.heap.size 36 i0 (.slice none 0 0) 1 24 Tryz.underlying23 HI.out HZ0.out HZ1.out HZ2.out rfl (by decide) _ _ _ rfl HO.out ⟨g2, 0, none⟩ n2 c2 vs2 rfl (by rw [HL2.out, Nat.mul_one]) HN.out HV2.out (by unfold maxLen; omega) (by omega) hsz ?_; intro v7 w7 hown7 hgrow7 _)
            obtain ⟨A7, c7, rfl, b7, o7⟩ := rowv_more HB.out hsz HO.out hown7 hgrow7
            have HB7 := Lib.hid b7; have HO7 := Lib.hid o7
            clear b7 o7 hown7 hgrow7
            go_roundw
            case rel => exact ⟨2, _, A7, c7, _, by go_num, rfl, .inr (.inr ⟨rfl, rfl, rfl⟩), HO7.out, HB7.out⟩
            case measure => simp [intOf]
        · clear hb k0 k1
          go_wp2
          go_ret
          exact ⟨Ar, cr, rfl, HO.out, HB.out⟩
end
end Go.Proofs.YthbkcpacgnmcfaaGreatDoor
