/- The program's premiseAt: a row of sequents that reads as a list. The program's resultAfter. Made by mkckv.py. The program's premisesOf. -/
import Derived.Test.YthbkcpacgnmcfaaGreatDoorCkS
import Derived.Test.YthbkcpacgnmcfaaGreatDoorQSubA
import Derived.Test.YthbkcpacgnmcfaaGreatDoorQBndC
namespace Go.Proofs.YthbkcpacgnmcfaaGreatDoor
set_option linter.unusedSimpArgs false
set_option linter.unusedVariables false
section
open Go.ChangeAt Go.ChangeShapes Go.RowKit Go.WideShapes

/-- A row of sequents reads as L. -/
def RdR (w : World) (B : Nat) (A : Option Addr) (n : Nat) (L : List (List (List Int))) : Prop :=
  n = L.length ∧ (0 < n → ∃ b off, A = some ⟨b, off, none⟩ ∧ b < B ∧ ∀ k, k < n → ∃ A' c', w.cell? ⟨b, off + k, none⟩ = some (.slice A' (L.getD k []).length c') ∧ RdQ w B A' (L.getD k []).length (L.getD k []))
theorem RdR.below {w w' : World} {A : Option Addr} {n : Nat} {L : List (List (List Int))} (h : RdR w w.heap.size A n L) (hb : Below w.heap.size w w') : RdR w' w.heap.size A n L := by
  refine ⟨h.1, fun hn => ?_⟩
  obtain ⟨b, off, rfl, hlt, hc⟩ := h.2 hn
  refine ⟨b, off, rfl, hlt, fun k hk => ?_⟩
  obtain ⟨A', c', h1, h2⟩ := hc k hk
  exact ⟨A', c', (hb.cell (p := ⟨b, off + k, none⟩) hlt).trans h1, h2.below hb⟩
theorem RdR.more {w : World} {B B' : Nat} {A : Option Addr} {n : Nat} {L : List (List (List Int))} (h : RdR w B A n L) (hb : B ≤ B') : RdR w B' A n L := by
  refine ⟨h.1, fun hn => ?_⟩
  obtain ⟨b, off, rfl, hlt, hc⟩ := h.2 hn
  refine ⟨b, off, rfl, Nat.lt_of_lt_of_le hlt hb, fun k hk => ?_⟩
  obtain ⟨A', c', h1, h2⟩ := hc k hk
  exact ⟨A', c', h1, h2.more hb⟩
/-- The premise that a step names. -/
def paV (L : List (List (List Int))) (p : Int) (named : Bool) : Option (List (List Int)) :=
  if named = false then (if p = -1 then some [] else none) else if 0 ≤ p ∧ p < (L.length : Int) then some (L.getD p.toNat []) else none
def GivesPa (w : World) (r : Option (List (List Int))) (e : Ending) (w' : World) : Prop :=
  ∃ A c R, e = .returned (.tuple #[.agg #[.slice A R.length c], .bool r.isSome]) ∧ (∀ R', r = some R' → R = R') ∧ RdQ w' w.heap.size A R.length R ∧ Below w.heap.size w w'
theorem pa_out {w : World} {r : Option (List (List Int))} {b : Bool} {A : Option Addr} {n c : Nat} {R : List (List Int)} {w' : World} (hn : n = R.length) (hb : b = r.isSome) (h : ∀ R', r = some R' → R = R') (rd : RdQ w' w.heap.size A R.length R) (bel : Below w.heap.size w w') :
    GivesPa w r (.returned (.tuple #[.agg #[.slice A n c], .bool b])) w' := by
  subst hn; subst hb; exact ⟨A, c, R, rfl, h, rd, bel⟩

set_option maxRecDepth 100000 in
set_option maxHeartbeats 2000000 in
theorem premiseAt_any (A : Option Addr) (n c : Nat) (L : List (List (List Int))) (p : Int) (named : Bool) (w : World) (h : RdR w w.heap.size A n L) (hn : n ≤ 1048576) :
    Calls Tryz.prog 61 #[.slice A n c, .int .i64 p, .bool named] w (GivesPa w (paV L p named)) := by
  have hl := h.1
  obtain ⟨u, hu0⟩ : ∃ u, u = w.alloc (.cells #[.slice none 0 0] 64) := ⟨_, rfl⟩
  have hb := al hu0
  have hh := an hu0
  have HU0 := Lib.hid hu0
  have c0 := cell_of_row _ _ 0 _ _ (0, 0) hh; have f0 := frozen_of_row u w.heap.size 0 _ _ hh
  have HC0 := Lib.hid (cell_set (u := .slice none 0 0) hh)
  have HB0 := Lib.hid (hb.setCell (p := ⟨w.heap.size, 0, none⟩) (Nat.le_refl _) (.slice none 0 0))
  cases named with
  | false =>
    obtain ⟨t, ht⟩ : ∃ t, (p == -1) = t := ⟨_, rfl⟩
    obtain ⟨O, hr⟩ : ∃ O, paV L p false = O := ⟨_, rfl⟩
    have ho1 : t = O.isSome := by rw [← hr, ← ht]; unfold paV; rw [if_pos rfl]; by_cases e : p = -1 <;> simp [e]
    have ho2 : ∀ R', O = some R' → ([] : List (List Int)) = R' := fun R' e => by
      rw [← hr] at e; unfold paV at e; rw [if_pos rfl] at e
      split at e
      · exact Option.some.inj e
      · cases e
    rw [hr]
    have HO1 := Lib.hid ho1; have HO2 := Lib.hid ho2
    clear ho1 ho2
    have HT : Hid ((p == -1) = t) := Lib.hid ht
    clear ht hr h hl hb hh hu0
    go_enter Tryz.func61, Tryz.ntmps61
    go_upto_region 2 with (fail)
    rw [← HU0.out]
    have ht := HT.out
    go_wp2
    (try simp only [Exit.inBlock, Exit.then])
    refine bodyPost_ret (results_cell_row_tmp rfl _ _ w.heap.size _ _ (0, 0) _ rfl HC0.out Tryz.underlying64 rfl (by kernel_rfl)) rfl ?_
    exact pa_out (R := []) rfl HO1.out HO2.out (RdQ.nil _ _ _) HB0.out
  | true =>
    by_cases hk : 0 ≤ p ∧ p < (L.length : Int)
    · obtain ⟨k, rfl⟩ : ∃ k : Nat, p = (k : Int) := ⟨p.toNat, by omega⟩
      have hr : paV L ((k : Nat) : Int) true = some (L.getD k []) := by unfold paV; rw [if_neg (by decide), if_pos hk]; rfl
      rw [hr]
      obtain ⟨b, off, rfl, hlt, hcells⟩ := h.2 (by omega)
      obtain ⟨A', c', h1, h2⟩ := hcells k (by omega)
      have k1 : u.cell? ⟨b, off + k, none⟩ = some (.slice A' (L.getD k []).length c') := (hb.cell (p := ⟨b, off + k, none⟩) hlt).trans h1
      have HC1 := Lib.hid (cell_set (u := .slice A' (L.getD k []).length c') hh)
      have hb1 := hb.setCell (p := ⟨w.heap.size, 0, none⟩) (Nat.le_refl _) (.slice A' (L.getD k []).length c')
      have HR := Lib.hid (h2.below hb1)
      have HB1 := Lib.hid hb1
      have hkn : ((k : Nat) : Int) < (n : Int) := by omega
      have hd0 : decide (((k : Nat) : Int) < 0) = false := decide_eq_false (by omega)
      have hd1 : decide (((k : Nat) : Int) < (n : Int)) = true := decide_eq_true hkn
      have hd2 : decide ((n : Int) ≤ ((k : Nat) : Int)) = false := decide_eq_false (by omega)
      generalize (L.getD k []) = R at *
      obtain ⟨nR, hnR⟩ : ∃ nR, R.length = nR := ⟨_, rfl⟩
      rw [hnR] at k1
      have HN := Lib.hid hnR
      have HC2 : Hid ((u.setCell ⟨w.heap.size, 0, none⟩ (.slice A' nR c')).heap[w.heap.size]? = _) := Lib.hid (cell_set (u := .slice A' nR c') hh)
      have HB2 := Lib.hid (hb.setCell (p := ⟨w.heap.size, 0, none⟩) (Nat.le_refl _) (.slice A' nR c'))
      have HR2 : Hid (RdQ (u.setCell ⟨w.heap.size, 0, none⟩ (.slice A' nR c')) w.heap.size A' R.length R) := Lib.hid (by rw [← hnR]; exact HR.out)
      clear h h1 h2 hcells hl hb hh hu0 hr hk hnR hb1 HC1 HR HB1 hlt
      go_enter Tryz.func61, Tryz.ntmps61
      go_upto_region 3 with (fail)
      rw [← HU0.out]
      go_wp2
      (try simp only [Exit.inBlock, Exit.then])
      refine bodyPost_ret (results_cell_row_tmp rfl _ _ w.heap.size _ _ (0, 0) _ rfl HC2.out Tryz.underlying64 rfl (by kernel_rfl)) rfl ?_
      exact pa_out HN.out.symm rfl (fun R' hR' => by injection hR') HR2.out HB2.out
    · have hr : paV L p true = none := by unfold paV; rw [if_neg (by decide), if_neg hk]
      rw [hr]
      by_cases hp : p < 0
      · have hd0 : decide (p < 0) = true := decide_eq_true hp
        clear hr h hl hb hh hu0 hk hp
        go_enter Tryz.func61, Tryz.ntmps61
        go_upto_region 3 with (fail)
        rw [← HU0.out]
        go_wp2
        (try simp only [Exit.inBlock, Exit.then])
        refine bodyPost_ret (results_cell_row_tmp rfl _ _ w.heap.size _ _ (0, 0) _ rfl HC0.out Tryz.underlying64 rfl (by kernel_rfl)) rfl ?_
        exact pa_out (R := []) rfl rfl (fun R' hR' => by cases hR') (RdQ.nil _ _ _) HB0.out
      · have hd0 : decide (p < 0) = false := decide_eq_false hp
        have hd1 : decide (p < (n : Int)) = false := decide_eq_false (by omega)
        have hd2 : decide ((n : Int) ≤ p) = true := decide_eq_true (by omega)
        clear hr h hl hb hh hu0 hk hp
        go_enter Tryz.func61, Tryz.ntmps61
        go_upto_region 3 with (fail)
        rw [← HU0.out]
        go_wp2
        (try simp only [Exit.inBlock, Exit.then])
        refine bodyPost_ret (results_cell_row_tmp rfl _ _ w.heap.size _ _ (0, 0) _ rfl HC0.out Tryz.underlying64 rfl (by kernel_rfl)) rfl ?_
        exact pa_out (R := []) rfl rfl (fun R' hR' => by cases hR') (RdQ.nil _ _ _) HB0.out
end
section
open Go.ChangeAt Go.ChangeShapes Go.RowKit Go.WideShapes

/-- Both premises stand. -/
def bothV (S : List (List Int) → List (List Int) → Option (List (List Int))) : Option (List (List Int)) → Option (List (List Int)) → Option (List (List Int))
  | some P, some Q => S P Q
  | _, _ => none
theorem both_left (S : List (List Int) → List (List Int) → Option (List (List Int))) (Y : Option (List (List Int))) : bothV S none Y = none := by unfold bothV; rfl
theorem both_right (S : List (List Int) → List (List Int) → Option (List (List Int))) (X : Option (List (List Int))) : bothV S X none = none := by cases X <;> rfl
def raV (L : List (List (List Int))) (r a b i j : Int) (F : List Int) : Option (List (List Int)) :=
  if 1 ≤ r ∧ r ≤ 14 then
    bothV (srV r i j F) (paV L a (decide (0 < ruP r))) (paV L b (decide (1 < ruP r)))
  else none
theorem paV_len {L : List (List (List Int))} {p : Int} {named : Bool} {P : List (List Int)} (hL : ∀ k, k < L.length → (L.getD k []).length ≤ 100000) (h : paV L p named = some P) : P.length ≤ 100000 := by
  unfold paV at h
  split at h
  · split at h
    · injection h with h; subst h; simp
    · cases h
  · split at h
    · injection h with h; subst h; exact hL _ (by omega)
    · cases h

set_option maxRecDepth 100000 in
set_option maxHeartbeats 4000000 in
theorem after_none (r a b i j : Int) (h0 : ¬ (1 ≤ r ∧ r ≤ 14)) (A : Option Addr) (n c : Nat) (B : Option Addr) (m d : Nat) (w : World) :
    Calls Tryz.prog 47 #[.slice A n c, Value.agg #[Value.int .i64 r, Value.int .i64 a, Value.int .i64 b, Value.int .i64 i, Value.int .i64 j, Value.slice B m d]] w (GivesS w (none)) := by
  obtain ⟨u, hu0⟩ : ∃ u, u = (w.alloc (.cells #[Value.int .i64 r, Value.int .i64 a, Value.int .i64 b, Value.int .i64 i, Value.int .i64 j, Value.slice B m d] 43)).alloc (.cells #[.slice none 0 0] 64) := ⟨_, rfl⟩
  obtain ⟨hb, p0, p1, hsz⟩ := two_any w (.cells #[Value.int .i64 r, Value.int .i64 a, Value.int .i64 b, Value.int .i64 i, Value.int .i64 j, Value.slice B m d] 43) (.cells #[.slice none 0 0] 64)
  rw [← hu0] at hb p0 p1 hsz
  have hlt0 : w.heap.size + 1 < u.heap.size := by omega
  have HKX : Hid (∀ wx, Below u.heap.size u wx → wx.cell? ⟨w.heap.size, 0, none⟩ = some (.int .i64 r) ∧ wx.cell? ⟨w.heap.size, 1, none⟩ = some (.int .i64 a) ∧ wx.cell? ⟨w.heap.size, 2, none⟩ = some (.int .i64 b) ∧ wx.cell? ⟨w.heap.size, 3, none⟩ = some (.int .i64 i) ∧ wx.cell? ⟨w.heap.size, 4, none⟩ = some (.int .i64 j) ∧ wx.cell? ⟨w.heap.size, 5, none⟩ = some (.slice B m d) ∧ wx.cell? ⟨w.heap.size + 1, 0, none⟩ = some (.slice none 0 0) ∧ wx.frozen? ⟨w.heap.size + 1, 0, none⟩ = false ∧ w.heap.size + 1 < wx.heap.size ∧ wx.heap[w.heap.size + 1]? = some (.cells #[.slice none 0 0] 64 (0, 0))) := Lib.hid fun wx hx => by
    have g : ∀ k o, u.heap[k]? = some o → wx.heap[k]? = some o := fun k o h => (hx.block k (Array.getElem?_eq_some_iff.1 h).1).trans h
    exact ⟨cell_of_row _ _ 0 _ _ (0, 0) (g _ _ p0), cell_of_row _ _ 1 _ _ (0, 0) (g _ _ p0), cell_of_row _ _ 2 _ _ (0, 0) (g _ _ p0), cell_of_row _ _ 3 _ _ (0, 0) (g _ _ p0), cell_of_row _ _ 4 _ _ (0, 0) (g _ _ p0), cell_of_row _ _ 5 _ _ (0, 0) (g _ _ p0), cell_of_row _ _ 0 _ _ (0, 0) (g _ _ p1), frozen_of_row wx _ 0 _ _ (g _ _ p1), Nat.lt_of_lt_of_le hlt0 hx.size, g _ _ p1⟩
  have HU0 := Lib.hid hu0; have HBU := Lib.hid hb
  have HRO := Lib.hid (ruleOf_none u r h0)
  obtain ⟨e0, -, -, -, -, -, ec, ef, el, eh⟩ := HKX.out u (Below.refl _ _)
  clear hu0 hb p0 p1 hsz hlt0 h0
  have EH := Lib.hid eh; have EL := Lib.hid el; clear eh el
  go_enter Tryz.func47, Tryz.ntmps47
  go_upto_region 1 with (fail)
  rw [← HU0.out]
  go_wp2_with (fail)
  refine HRO.out.mono ?_
  rintro e w0 ⟨rfl, rfl⟩
  have eh := EH.out; have el := EL.out
  have HC := Lib.hid (cell_set (u := .slice none 0 0) eh)
  have HBC := Lib.hid ((HBU.out).setCell (p := ⟨w.heap.size + 1, 0, none⟩) (Nat.le_succ _) (.slice none 0 0))
  clear eh el HKX
  go_wp2
  (try simp only [Exit.inBlock, Exit.then])
  refine bodyPost_ret (results_cell_row_tmp rfl _ _ (w.heap.size + 1) _ _ (0, 0) _ rfl HC.out Tryz.underlying64 rfl (by kernel_rfl)) rfl ?_
  exact ⟨HBC.out, 1, by decide, rfl⟩

set_option maxRecDepth 100000 in
set_option maxHeartbeats 4000000 in
theorem after_some (r a b i j : Int) (L : List (List (List Int))) (h1 : 1 ≤ r) (h14 : r ≤ 14) (X Y : Option (List (List Int))) (hX : paV L a (decide (0 < ruP r)) = X) (hY : paV L b (decide (1 < ruP r)) = Y) (A : Option Addr) (n c : Nat) (B : Option Addr) (m d : Nat) (F : List Int) (w : World) (h : RdR w w.heap.size A n L) (hf : RdI w w.heap.size B m F) (hmd : m ≤ d) (hn : n ≤ 1048576) (hL : ∀ k, k < L.length → (L.getD k []).length ≤ 100000) (ht : Arit w) (hu : Dual w) :
    Calls Tryz.prog 47 #[.slice A n c, Value.agg #[Value.int .i64 r, Value.int .i64 a, Value.int .i64 b, Value.int .i64 i, Value.int .i64 j, Value.slice B m d]] w (GivesS w (bothV (srV r i j F) X Y)) := by
  obtain ⟨u, hu0⟩ : ∃ u, u = (w.alloc (.cells #[Value.int .i64 r, Value.int .i64 a, Value.int .i64 b, Value.int .i64 i, Value.int .i64 j, Value.slice B m d] 43)).alloc (.cells #[.slice none 0 0] 64) := ⟨_, rfl⟩
  obtain ⟨hb, p0, p1, hsz⟩ := two_any w (.cells #[Value.int .i64 r, Value.int .i64 a, Value.int .i64 b, Value.int .i64 i, Value.int .i64 j, Value.slice B m d] 43) (.cells #[.slice none 0 0] 64)
  rw [← hu0] at hb p0 p1 hsz
  have hlt0 : w.heap.size + 1 < u.heap.size := by omega
  have HKX : Hid (∀ wx, Below u.heap.size u wx → wx.cell? ⟨w.heap.size, 0, none⟩ = some (.int .i64 r) ∧ wx.cell? ⟨w.heap.size, 1, none⟩ = some (.int .i64 a) ∧ wx.cell? ⟨w.heap.size, 2, none⟩ = some (.int .i64 b) ∧ wx.cell? ⟨w.heap.size, 3, none⟩ = some (.int .i64 i) ∧ wx.cell? ⟨w.heap.size, 4, none⟩ = some (.int .i64 j) ∧ wx.cell? ⟨w.heap.size, 5, none⟩ = some (.slice B m d) ∧ wx.cell? ⟨w.heap.size + 1, 0, none⟩ = some (.slice none 0 0) ∧ wx.frozen? ⟨w.heap.size + 1, 0, none⟩ = false ∧ w.heap.size + 1 < wx.heap.size ∧ wx.heap[w.heap.size + 1]? = some (.cells #[.slice none 0 0] 64 (0, 0))) := Lib.hid fun wx hx => by
    have g : ∀ k o, u.heap[k]? = some o → wx.heap[k]? = some o := fun k o h => (hx.block k (Array.getElem?_eq_some_iff.1 h).1).trans h
    exact ⟨cell_of_row _ _ 0 _ _ (0, 0) (g _ _ p0), cell_of_row _ _ 1 _ _ (0, 0) (g _ _ p0), cell_of_row _ _ 2 _ _ (0, 0) (g _ _ p0), cell_of_row _ _ 3 _ _ (0, 0) (g _ _ p0), cell_of_row _ _ 4 _ _ (0, 0) (g _ _ p0), cell_of_row _ _ 5 _ _ (0, 0) (g _ _ p0), cell_of_row _ _ 0 _ _ (0, 0) (g _ _ p1), frozen_of_row wx _ 0 _ _ (g _ _ p1), Nat.lt_of_lt_of_le hlt0 hx.size, g _ _ p1⟩
  have HU0 := Lib.hid hu0; have HBU := Lib.hid hb
  have HT := Lib.hid (fun (wx : World) (hx : Below u.heap.size u wx) => ht.below (hb.trans (hx.mono hb.size)) ht.lt)
  have HD := Lib.hid (fun (wx : World) (hx : Below u.heap.size u wx) => hu.below (hb.trans (hx.mono hb.size)) hu.lt)
  have HRO := fun (wx : World) => ruleOf_any wx r h1 h14
  have HPC := fun (v : Value) (wx : World) => premiseCount_any r h1 h14 v wx
  have HF := Lib.hid (fun (wx : World) (hx : Below u.heap.size u wx) => (hf.below (hb.trans (hx.mono hb.size))).more (Nat.le_trans hb.size hx.size))
  have HPA := Lib.hid (fun (p : Int) (nm : Bool) (wx : World) (hx : Below u.heap.size u wx) => premiseAt_any A n c L p nm wx ((h.below (hb.trans (hx.mono hb.size))).more (Nat.le_trans hb.size hx.size)) hn)
  have HLX := Lib.hid fun P (e : X = some P) => paV_len (P := P) hL (hX.trans e)
  have HLY := Lib.hid fun P (e : Y = some P) => paV_len (P := P) hL (hY.trans e)
  have HX := Lib.hid hX; have HY := Lib.hid hY
  have HSR := Lib.hid (fun A1 n1 c1 P A2 n2 c2 Q wx h h2 hf hn hn2 ht hu => stepResult_any r a b i j h1 h14 A1 n1 c1 P A2 n2 c2 Q B m d F wx h h2 hf hmd hn hn2 ht hu)
  generalize srV r i j F = S at *
  obtain ⟨O, hO⟩ : ∃ O, bothV S X Y = O := ⟨_, rfl⟩
  rw [hO]
  have HO := Lib.hid hO
  generalize ruT r = T at *; generalize ruP r = cnt at *
  generalize (Value.agg #[Value.bool (ruI r), Value.bool (ruJ r), Value.bool (ruF r)]) = rv at *
  obtain ⟨e0, e1, e2, e3, e4, e5, ec, ef, el, eh⟩ := HKX.out u (Below.refl _ _)
  clear hu0 hb p0 p1 hsz hlt0 h hf ht hu hX hY hO hL eh el
  go_enter Tryz.func47, Tryz.ntmps47
  go_upto_region 1 with (fail)
  rw [← HU0.out]
  go_wp2_with (fail)
  refine (HRO u).mono ?_
  rintro e w0 ⟨rfl, rfl⟩
  go_wp2_with (fail)
  refine (HPC _ u).mono ?_
  rintro e w0 ⟨rfl, rfl⟩
  go_wp2_with (fail)
  refine (HPA.out a (decide (0 < cnt)) u (Below.refl _ _)).mono ?_
  rintro e w1 ⟨A1, c1, P1, rfl, hp1, rd1, b1⟩
  rw [HX.out] at hp1 ⊢
  have HP1 := Lib.hid hp1; have RD1 := Lib.hid rd1; have HB1 := Lib.hid b1
  clear hp1 rd1 b1 e0 e1 e2 e3 e4 e5 ec ef
  obtain ⟨e0, e1, e2, e3, e4, e5, ec, ef, el, eh⟩ := HKX.out w1 HB1.out
  clear eh el
  obtain ⟨x1, hx1⟩ : ∃ x1, X.isSome = x1 := ⟨_, rfl⟩
  rw [hx1]
  have HX1 := Lib.hid hx1
  clear hx1
  go_upto_region 6 with (fail)
  obtain ⟨v1, hv1⟩ : ∃ v1, v1 = w1.alloc (.cells #[Value.slice A1 P1.length c1] 64) := ⟨_, rfl⟩
  rw [← hv1]
  have hbv := al hv1
  have hsv : w1.heap.size < v1.heap.size := by rw [hv1]; simp
  have HV1 : Hid (v1.heap[w1.heap.size]? = some (.cells #[Value.slice A1 P1.length c1] 64 (0, 0))) := Lib.hid (by rw [hv1]; exact heap_alloc_new _ _)
  have HBV := Lib.hid hbv
  have HB1V := Lib.hid (HB1.out.trans (hbv.mono HB1.out.size))
  have HSV := Lib.hid hsv
  clear hv1 hbv hsv e0 e1 e2 e3 e4 e5 ec ef
  obtain ⟨e0, e1, e2, e3, e4, e5, ec, ef, el, eh⟩ := HKX.out v1 HB1V.out
  clear eh el
  go_wp2_with (fail)
  refine (HPA.out b (decide (1 < cnt)) v1 HB1V.out).mono ?_
  rintro e w2 ⟨A2, c2, P2, rfl, hp2, rd2, b2⟩
  rw [HY.out] at hp2 ⊢
  have HP2 := Lib.hid hp2; have RD2 := Lib.hid rd2
  have HB2 := Lib.hid b2
  have HBU2 := Lib.hid (HB1V.out.trans (b2.mono HB1V.out.size))
  clear hp2 rd2 b2 e0 e1 e2 e3 e4 e5 ec ef
  obtain ⟨e0, e1, e2, e3, e4, e5, ec, ef, el, eh⟩ := HKX.out w2 HBU2.out
  clear eh el
  obtain ⟨x2, hx2⟩ : ∃ x2, Y.isSome = x2 := ⟨_, rfl⟩
  rw [hx2]
  have HX2 := Lib.hid hx2
  clear hx2
  go_upto_region 7 with (fail)
  obtain ⟨v2, hv2⟩ : ∃ v2, v2 = w2.alloc (.cells #[Value.slice A2 P2.length c2] 64) := ⟨_, rfl⟩
  rw [← hv2]
  have hbv2 := al hv2
  have hg2 := an hv2
  have hg1 : v2.heap[w1.heap.size]? = some (.cells #[Value.slice A1 P1.length c1] 64 (0, 0)) := (hbv2.block _ (Nat.lt_of_lt_of_le HSV.out HB2.out.size)).trans ((HB2.out.block _ HSV.out).trans HV1.out)
  have HB3 := Lib.hid (HBU2.out.trans (hbv2.mono HBU2.out.size))
  have HRD2 := Lib.hid (((RD2.out.more HB2.out.size).below hbv2).more hbv2.size)
  have HRD1 := Lib.hid (((RD1.out.more HB1.out.size).below ((HBV.out.trans (HB2.out.mono HBV.out.size)).trans (hbv2.mono (Nat.le_trans HBV.out.size HB2.out.size)))).more (Nat.le_trans (Nat.le_trans HBV.out.size HB2.out.size) hbv2.size))
  clear hv2 hbv2 e0 e1 e2 e3 e4 e5 ec ef HPA HRO HPC HV1 HBV RD1 RD2
  obtain ⟨e0, e1, e2, e3, e4, e5, ec, ef, el, eh⟩ := HKX.out v2 HB3.out
  have EH := Lib.hid eh; have EL := Lib.hid el; clear eh el
  have g1 := cell_of_row _ _ 0 _ _ (0, 0) hg1; have g2 := cell_of_row _ _ 0 _ _ (0, 0) hg2
  clear hg1 hg2
  cases x1 with
  | false =>
    have ho : O = none := by rw [← HO.out, Option.isSome_eq_false_iff.1 HX1.out |> Option.isNone_iff_eq_none.1]; exact both_left _ _
    subst ho
    have eh := EH.out; have el := EL.out
    have HC := Lib.hid (cell_set (u := .slice none 0 0) eh)
    have HBC := Lib.hid ((HBU.out.trans (HB3.out.mono HBU.out.size)).setCell (p := ⟨w.heap.size + 1, 0, none⟩) (Nat.le_succ _) (.slice none 0 0))
    clear eh el HKX
    go_wp2
    (try simp only [Exit.inBlock, Exit.then])
    refine bodyPost_ret (results_cell_row_tmp rfl _ _ (w.heap.size + 1) _ _ (0, 0) _ rfl HC.out Tryz.underlying64 rfl (by kernel_rfl)) rfl ?_
    exact ⟨HBC.out, 2, by decide, rfl⟩
  | true =>
    cases x2 with
    | false =>
      have ho : O = none := by rw [← HO.out, Option.isSome_eq_false_iff.1 HX2.out |> Option.isNone_iff_eq_none.1]; exact both_right _ _
      subst ho
      have eh := EH.out; have el := EL.out
      have HC := Lib.hid (cell_set (u := .slice none 0 0) eh)
      have HBC := Lib.hid ((HBU.out.trans (HB3.out.mono HBU.out.size)).setCell (p := ⟨w.heap.size + 1, 0, none⟩) (Nat.le_succ _) (.slice none 0 0))
      clear eh el HKX
      go_wp2
      (try simp only [Exit.inBlock, Exit.then])
      refine bodyPost_ret (results_cell_row_tmp rfl _ _ (w.heap.size + 1) _ _ (0, 0) _ rfl HC.out Tryz.underlying64 rfl (by kernel_rfl)) rfl ?_
      exact ⟨HBC.out, 2, by decide, rfl⟩
    | true =>
      obtain ⟨P, hP⟩ := Option.isSome_iff_exists.1 HX1.out
      obtain ⟨Q, hQ⟩ := Option.isSome_iff_exists.1 HX2.out
      have hP1 := HP1.out P hP
      have hQ1 := HP2.out Q hQ
      subst hP1; subst hQ1
      have ho : O = S P1 P2 := by rw [← HO.out, hP, hQ]; rfl
      have hcs := (HSR.out A1 P1.length c1 P1 A2 P2.length c2 P2 v2 HRD1.out HRD2.out (HF.out v2 HB3.out) (HLX.out P1 hP) (HLY.out P2 hQ) (HT.out v2 HB3.out) (HD.out v2 HB3.out))
      rw [← ho] at hcs
      have HCS := Lib.hid hcs
      clear hcs hP hQ ho HO HSR HF HT HD HLX HLY HP1 HP2 HX HY HX1 HX2 HRD1 HRD2
      go_wp2_with (fail)
      refine HCS.out.mono ?_
      rintro e w5 ⟨b5, hr⟩
      cases O with
      | none =>
        obtain ⟨k5, hk5, rfl⟩ := hr
        have HB5 := Lib.hid (HB3.out.trans (b5.mono HB3.out.size))
        clear b5 ec ef e0 e1 e2 e3 e4 e5 g1 g2 EH EL
        obtain ⟨-, -, -, -, -, -, ec, ef, el, eh⟩ := HKX.out w5 HB5.out
        have HC := Lib.hid (cell_set (u := .slice none 0 0) eh)
        have HBC := Lib.hid ((HBU.out.trans (HB5.out.mono HBU.out.size)).setCell (p := ⟨w.heap.size + 1, 0, none⟩) (Nat.le_succ _) (.slice none 0 0))
        clear eh el HKX
        go_wp2
        (try simp only [Exit.inBlock, Exit.then])
        refine bodyPost_ret (results_cell_row_tmp rfl _ _ (w.heap.size + 1) _ _ (0, 0) _ rfl HC.out Tryz.underlying64 rfl (by kernel_rfl)) rfl ?_
        exact ⟨HBC.out, k5, hk5, rfl⟩
      | some R =>
        obtain ⟨hs, AR, cR, rfl, own⟩ := hr
        obtain ⟨y0, y1, y2, y3, y4⟩ := seq_out (HBU.out.trans (HB3.out.mono HBU.out.size)) (Nat.le_succ _) EL.out EH.out own b5
        have Y2 := Lib.hid y2; have Y3 := Lib.hid y3; have Y4 := Lib.hid y4
        clear y2 y3 y4 own b5 ec ef EL EH HKX e0 e1 e2 e3 e4 e5 g1 g2
        go_wp2
        (try simp only [Exit.inBlock, Exit.then])
        refine bodyPost_ret (results_cell_row_tmp rfl _ _ (w.heap.size + 1) _ _ (0, 0) _ rfl Y2.out Tryz.underlying64 rfl (by kernel_rfl)) rfl ?_
        exact ⟨Y4.out, hs, AR, cR, rfl, Y3.out⟩

theorem resultAfter_any (r a b i j : Int) (A : Option Addr) (n c : Nat) (L : List (List (List Int))) (B : Option Addr) (m d : Nat) (F : List Int) (w : World) (h : RdR w w.heap.size A n L) (hf : RdI w w.heap.size B m F) (hmd : m ≤ d) (hn : n ≤ 1048576) (hL : ∀ k, k < L.length → (L.getD k []).length ≤ 100000) (ht : Arit w) (hu : Dual w) :
    Calls Tryz.prog 47 #[.slice A n c, Value.agg #[Value.int .i64 r, Value.int .i64 a, Value.int .i64 b, Value.int .i64 i, Value.int .i64 j, Value.slice B m d]] w (GivesS w (raV L r a b i j F)) := by
  unfold raV
  split
  · rename_i h0
    exact after_some r a b i j L h0.1 h0.2 _ _ rfl rfl A n c B m d F w h hf hmd hn hL ht hu
  · rename_i h0
    exact after_none r a b i j h0 A n c B m d w
end
section
open Go.ChangeAt Go.ChangeShapes Go.RowKit Go.WideShapes

/-- The premises that a step names. -/
def poL (xs : List Int) : List Int := xs.filter fun x => x != -1
theorem poL_take {xs : List Int} {k : Nat} (hk : k < xs.length) : poL (xs.take (k + 1)) = if (xs.getD k 0 != -1) = true then poL (xs.take k) ++ [xs.getD k 0] else poL (xs.take k) := by
  unfold poL
  rw [List.take_add_one, List.filter_append, List.getElem?_eq_getElem hk, List.getD_eq_getElem?_getD, List.getElem?_eq_getElem hk]
  simp only [Option.toList_some, Option.getD_some]
  by_cases e : xs[k] = -1 <;> simp [e]
theorem poL_len (xs : List Int) : (poL xs).length ≤ xs.length := List.length_filter_le _ _

set_option maxRecDepth 100000 in
set_option maxHeartbeats 4000000 in
theorem premisesOf_any (r a b i j : Int) (B : Option Addr) (m d : Nat) (w : World) :
    Calls Tryz.prog 63 #[Value.agg #[Value.int .i64 r, Value.int .i64 a, Value.int .i64 b, Value.int .i64 i, Value.int .i64 j, Value.slice B m d]] w (Gives w (poL [a, b])) := by
  obtain ⟨i0, hi0, hz0, hz1, hz2⟩ := info_parts info_i64
  have HI := Lib.hid hi0; have HZ0 := Lib.hid hz0; have HZ1 := Lib.hid hz1; have HZ2 := Lib.hid hz2
  obtain ⟨u, hu0⟩ : ∃ u, u = (w.alloc (.cells #[Value.int .i64 r, Value.int .i64 a, Value.int .i64 b, Value.int .i64 i, Value.int .i64 j, Value.slice B m d] 43)).alloc (.cells #[Value.int .i64 a, Value.int .i64 b] 2) := ⟨_, rfl⟩
  obtain ⟨hb, p0, p1, hsz⟩ := two_any w (.cells #[Value.int .i64 r, Value.int .i64 a, Value.int .i64 b, Value.int .i64 i, Value.int .i64 j, Value.slice B m d] 43) (.cells #[Value.int .i64 a, Value.int .i64 b] 2)
  rw [← hu0] at hb p0 p1 hsz
  have HU0 := Lib.hid hu0; have HBU := Lib.hid hb
  have hxs : [a, b].length = 2 := rfl
  have HC : Hid (∀ k, k < 2 → u.cell? ⟨w.heap.size + 1, k, none⟩ = some (.int .i64 ([a, b].getD k 0))) := Lib.hid fun k hk => by
    match k, hk with
    | 0, _ => exact cell_of_row _ _ 0 _ _ (0, 0) p1
    | 1, _ => exact cell_of_row _ _ 1 _ _ (0, 0) p1
  have hlt1 : w.heap.size + 1 < u.heap.size := by omega
  generalize [a, b] = xs at *
  have HXS := Lib.hid hxs
  clear hu0 hb p0 p1 hsz hi0 hz0 hz1 hz2 hxs
  go_enter Tryz.func63, Tryz.ntmps63
  go_wp2
  rw [← HU0.out]
  go_loopw [3, 12] (fun o i wr => ∃ (k : Nat) (Ar : Option Addr) (cr : Nat), k ≤ 2 ∧ i = .int .i64 k ∧ o = .slice Ar (poL (xs.take k)).length cr ∧ wr.ownsRow u.heap.size 2 1 (.slice Ar (poL (xs.take k)).length cr) (poL (xs.take k)).length ((poL (xs.take k)).map (Value.int .i64)) ∧ Below u.heap.size u wr) (fun _ i _ => 2 - (intOf i).toNat)
  case atStart => exact ⟨0, none, 0, by omega, rfl, rfl, World.ownsRow_nil _ _ _ _, Below.refl _ _⟩
  case round =>
    obtain ⟨k, Ar, cr, hk, rfl, rfl, ho, hb⟩ := hrel
    have HO := Lib.hid ho; have HB := Lib.hid hb
    have hs1 := hb.size
    have HTL : Hid ((poL (xs.take k)).length ≤ 2) := Lib.hid (Nat.le_trans (poL_len _) (by rw [List.length_take]; omega))
    clear ho
    by_cases hlt : k < 2
    · have hc := (hb.cell (p := ⟨w.heap.size + 1, k, none⟩) hlt1).trans (HC.out k hlt)
      have HST := Lib.hid (poL_take (xs := xs) (k := k) (by rw [HXS.out]; exact hlt))
      have hkd : decide ((k : Int) < 2) = true := decide_eq_true (by omega)
      generalize xs.getD k 0 = x at *
      clear hb
      cases hx : (x != -1) with
      | false =>
        rw [hx] at HST
        go_wp2
        go_roundw
        case rel => exact ⟨k + 1, Ar, cr, by omega, by go_num, by rw [HST.out]; rfl, by rw [HST.out]; exact HO.out, HB.out⟩
        case measure => simp [intOf]; omega
      | true =>
        rw [hx] at HST
        obtain ⟨L7, hL7⟩ : ∃ L7, L7 = (poL (xs.take k) ++ [x]).length := ⟨_, rfl⟩
        have HL7 := Lib.hid hL7
        obtain ⟨w6, hw6⟩ : ∃ w6, w6 = wr.alloc (.cells #[Value.int .i64 x] 2) := ⟨_, rfl⟩
        have b6 : Below u.heap.size u w6 := by rw [hw6]; exact HB.out.alloc hs1 _
        have o6 := own_below HO.out (show Below wr.heap.size wr w6 by rw [hw6]; exact (Below.refl _ _).alloc (Nat.le_refl _) _) (Nat.le_refl _)
        have n6 : ∀ j u, [Value.int .i64 x][j]? = some u → w6.cell? ((⟨wr.heap.size, 0, none⟩ : Addr).add j) = some u := by rw [hw6]; exact World.news_of_block (heap_alloc_new wr (.cells #[Value.int .i64 x] 2))
        have HW6 := Lib.hid hw6; have HB6 := Lib.hid b6; have HO6 := Lib.hid o6; have HN6 := Lib.hid n6
        have hs6 : u.heap.size ≤ w6.heap.size := b6.size
        have HTL' := HTL.out
        clear hw6 b6 o6 n6 hL7 HTL
        go_wp2_with (at_builtin; rw [← HW6.out]; refine wpList_append_own _ rfl _ _ 36 rfl u.heap.size 2 i0 (.int .i64 0) 1 8 Tryz.underlying36 HI.out HZ0.out HZ1.out HZ2.out rfl (by decide) _ _ _ rfl HO6.out ⟨wr.heap.size, 0, none⟩ 1 1 [Value.int .i64 x] rfl rfl HN6.out (by simp [Value.oneCell']) (by unfold maxLen; omega) (by omega) hs6 ?_; intro v7 w7 hown7 hgrow7 _; obtain ⟨A7, c7, rfl, hb7, ho7⟩ := row_more (X := [x]) HL7.out HB6.out hs6 HO6.out hown7 hgrow7; have HB7 := Lib.hid hb7; have HO7 := Lib.hid ho7; clear hown7 hgrow7 hb7 ho7)
        go_roundw
        case rel => exact ⟨k + 1, A7, c7, by omega, by go_num, by rw [HST.out, if_pos rfl, HL7.out], by rw [HST.out, if_pos rfl, ← HL7.out]; exact HO7.out, HB7.out⟩
        case measure => simp [intOf]; omega
    · have hkl : k = 2 := by omega
      subst hkl
      have e : xs.take 2 = xs := List.take_of_length_le (by rw [HXS.out]; exact Nat.le_refl _)
      rw [e] at HO
      have HE := Lib.hid e
      clear hb e HTL
      go_wp2
      go_ret
      exact ⟨Ar, cr, by rw [HE.out]; rfl, own_base HO.out HBU.out.size, HBU.out.trans (HB.out.mono HBU.out.size)⟩
end
end Go.Proofs.YthbkcpacgnmcfaaGreatDoor
