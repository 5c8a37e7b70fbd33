/- Rows of steps: what a slice of steps reads as; the laws' szStepS. toStepS: a row of steps copied. Rows of steps in memory of their own: the first K formulas owned too, every part apart from every other. -/
import Derived.Test.YthbkcpacgnmcfaaGreatDoorQCopyS
namespace Go.Proofs.YthbkcpacgnmcfaaGreatDoor
set_option linter.unusedSimpArgs false
set_option linter.unusedVariables false
section
open Go.ChangeAt Go.ChangeShapes Go.RowKit Go.WideShapes

/-- A step, as mathematics has it. -/
structure Stp where
  r : Int
  a : Int
  b : Int
  i : Int
  j : Int
  f : List Int
/-- The six cells of a step. -/
def stC (s : Stp) (A : Option Addr) (c : Nat) : List Value := [.int .i64 s.r, .int .i64 s.a, .int .i64 s.b, .int .i64 s.i, .int .i64 s.j, .slice A s.f.length c]
/-- At place off of block b lies a step, its formula below block B. -/
def AtP (w : World) (B b off : Nat) (s : Stp) (A : Option Addr) (c : Nat) : Prop :=
  w.cell? ⟨b, off, none⟩ = some (.int .i64 s.r) ∧ w.cell? ⟨b, off + 1, none⟩ = some (.int .i64 s.a) ∧ w.cell? ⟨b, off + 2, none⟩ = some (.int .i64 s.b) ∧
  w.cell? ⟨b, off + 3, none⟩ = some (.int .i64 s.i) ∧ w.cell? ⟨b, off + 4, none⟩ = some (.int .i64 s.j) ∧ w.cell? ⟨b, off + 5, none⟩ = some (.slice A s.f.length c) ∧ s.f.length ≤ c ∧ RdI w B A s.f.length s.f
theorem AtP.keep {w w' : World} {B b off c : Nat} {s : Stp} {A : Option Addr} (h : AtP w B b off s A c) (hk : ∀ p : Addr, p.block < B → w'.cell? p = w.cell? p) (hb : b < B) : AtP w' B b off s A c := by
  obtain ⟨h0, h1, h2, h3, h4, h5, h6, h7⟩ := h
  exact ⟨(hk _ hb).trans h0, (hk _ hb).trans h1, (hk _ hb).trans h2, (hk _ hb).trans h3, (hk _ hb).trans h4, (hk _ hb).trans h5, h6, h7.keep hk⟩
def Stp.nil : Stp := ⟨0, 0, 0, 0, 0, []⟩
/-- The slice value '.slice A n c' reads as the steps ss, all below block B. -/
def RdP (w : World) (B : Nat) (A : Option Addr) (n : Nat) (ss : List Stp) : Prop :=
  ss.length = n ∧ (0 < n → ∃ b off, A = some ⟨b, off, none⟩ ∧ b < B ∧ ∀ k, k < n → ∃ A' c', AtP w B b (off + k * 6) (ss.getD k Stp.nil) A' c')
theorem RdP.len {w : World} {B n : Nat} {A : Option Addr} {ss : List Stp} (h : RdP w B A n ss) : ss.length = n := h.1
theorem RdP.keep {w w' : World} {B n : Nat} {A : Option Addr} {ss : List Stp} (h : RdP w B A n ss) (hk : ∀ p : Addr, p.block < B → w'.cell? p = w.cell? p) : RdP w' B A n ss :=
  ⟨h.1, fun hn => by
    obtain ⟨b, off, e, hb, hc⟩ := h.2 hn
    exact ⟨b, off, e, hb, fun k hkn => by obtain ⟨A', c', ha⟩ := hc k hkn; exact ⟨A', c', ha.keep hk hb⟩⟩⟩
theorem RdP.below {w w' : World} {B n : Nat} {A : Option Addr} {ss : List Stp} (h : RdP w B A n ss) (hb : Below B w w') : RdP w' B A n ss := h.keep fun _ hp => hb.cell hp
theorem AtP.more {w : World} {B B' b off c : Nat} {s : Stp} {A : Option Addr} (h : AtP w B b off s A c) (hB : B ≤ B') : AtP w B' b off s A c := by
  obtain ⟨h0, h1, h2, h3, h4, h5, h6, h7⟩ := h
  exact ⟨h0, h1, h2, h3, h4, h5, h6, h7.more hB⟩
theorem RdP.more {w : World} {B B' n : Nat} {A : Option Addr} {ss : List Stp} (h : RdP w B A n ss) (hB : B ≤ B') : RdP w B' A n ss :=
  ⟨h.1, fun hn => by
    obtain ⟨b, off, e, hb, hc⟩ := h.2 hn
    exact ⟨b, off, e, by omega, fun k hkn => by obtain ⟨A', c', ha⟩ := hc k hkn; exact ⟨A', c', ha.more hB⟩⟩⟩
/-- The formulas of the steps. -/
def fsP (ss : List Stp) : List (List Int) := ss.map Stp.f
theorem fsP_len (ss : List Stp) : (fsP ss).length = ss.length := List.length_map _
theorem fsP_getD (ss : List Stp) (k : Nat) (h : k < ss.length) : (fsP ss).getD k [] = (ss.getD k Stp.nil).f := by simp [fsP, List.getD, h]

set_option maxHeartbeats 2000000 in
theorem szStepS_any (A : Option Addr) (n c : Nat) (ss : List Stp) (left : Int) (w : World) (h : RdP w w.heap.size A n ss) (hq : ∀ q ∈ fsP ss, q.length ≤ maxLen) (hn : n ≤ maxLen) (h0 : 0 ≤ left) (h1 : left ≤ 1073741824) :
    Calls Tryz.prog 4 #[.slice A n c, .int .i64 left] w fun e w' => e = .returned (.int .i64 (szR left (n + total (fsP ss)))) ∧ Below w.heap.size w w' := by
  have hl := h.len
  subst hl
  have hfl := fsP_len ss
  have hn' := hn
  unfold maxLen at hn'
  by_cases hc : left - ss.length < 0
  · have HE : Hid ((-1 : Int) = szR left (ss.length + total (fsP ss))) := Lib.hid (szR_neg (by omega)).symm
    have hd : decide (left - (ss.length : Int) < 0) = true := decide_eq_true hc
    clear h hq hc
    go_enter Tryz.func4, Tryz.ntmps4
    go_wp2
    go_ret
    exact ⟨ret_i64 HE.out, Below.refl _ _⟩
  · have hd : decide (left - (ss.length : Int) < 0) = false := decide_eq_false hc
    go_enter Tryz.func4, Tryz.ntmps4
    go_wp2
    go_loopw [1, 5] (fun l i wr => ∃ k : Nat, k ≤ ss.length ∧ i = .int .i64 k ∧ l = .int .i64 (left - (ss.length + total ((fsP ss).take k) : Nat)) ∧ 0 ≤ left - (ss.length + total ((fsP ss).take k) : Nat) ∧ Below w.heap.size w wr) (fun _ i _ => ss.length - (intOf i).toNat)
    case atStart => exact ⟨0, Nat.zero_le _, rfl, by simp [total], by simp [total]; omega, Below.refl _ _⟩
    case round =>
      obtain ⟨k, hk, rfl, rfl, hp, hb⟩ := hrel
      clear hd
      by_cases hlt : k < ss.length
      · obtain ⟨b, off, rfl, hbb, hcells⟩ := h.2 (by omega)
        obtain ⟨A', c', hat⟩ := hcells k hlt
        have hm := hq _ (getD_mem (show k < (fsP ss).length by omega))
        have ht := total_take (show k < (fsP ss).length by omega)
        have htl := total_le (show k < (fsP ss).length by omega)
        rw [fsP_getD ss k hlt] at hm ht htl
        obtain ⟨x0, x1, x2, x3, x4, x5, hx6, _⟩ := hat.keep (fun _ hp => hb.cell hp) hbb
        have hm' := hm
        unfold maxLen at hm'
        have HB := Lib.hid hb
        clear hcells h hq hat hb
        generalize hM : (ss.getD k Stp.nil).f.length = M at *
        generalize (ss.getD k Stp.nil).r = sr at *; generalize (ss.getD k Stp.nil).a = sa at *; generalize (ss.getD k Stp.nil).b = sb at *; generalize (ss.getD k Stp.nil).i = si at *; generalize (ss.getD k Stp.nil).j = sj at *
        generalize hT : total ((fsP ss).take k) = T at *
        obtain ⟨L, hL⟩ : ∃ L : Int, left - (ss.length + T : Nat) = L := ⟨_, rfl⟩
        rw [hL] at hp ⊢
        have HS := Lib.hid (szStep_any sr sa sb si sj A' M c' L wr hm hp (by omega))
        by_cases hneg : L - M < 0
        · rw [szR_neg hneg] at HS
          have HE : Hid ((-1 : Int) = szR left (ss.length + total (fsP ss))) := Lib.hid (szR_neg (by omega)).symm
          clear ht htl hL hM hT hneg
          go_wp2_with (fail)
          refine HS.out.mono ?_
          rintro e w1 ⟨rfl, bel⟩
          have HB1 := Lib.hid (HB.out.trans (bel.mono HB.out.size))
          clear bel
          go_wp2
          go_ret
          exact ⟨ret_i64 HE.out, HB1.out⟩
        · rw [szR_pos hneg] at HS
          have hd2 : decide (L - (M : Int) < 0) = false := decide_eq_false hneg
          have HR : Hid (L - M = left - (ss.length + total ((fsP ss).take (k + 1)) : Nat)) := Lib.hid (by rw [ht]; omega)
          have HP : Hid (0 ≤ L - M) := Lib.hid (by omega)
          clear ht htl hL hM hT hneg
          go_wp2_with (fail)
          refine HS.out.mono ?_
          rintro e w1 ⟨rfl, bel⟩
          have HB1 := Lib.hid (HB.out.trans (bel.mono HB.out.size))
          clear bel
          go_wp2
          go_roundw
          case rel => exact ⟨k + 1, by omega, by go_num, by rw [HR.out], by rw [← HR.out]; exact HP.out, HB1.out⟩
          case measure => simp [intOf]; omega
      · have hkl : k = ss.length := by omega
        subst hkl
        rw [total_all (fsP ss) (by omega)] at hp ⊢
        have HE : Hid (left - (ss.length + total (fsP ss) : Nat) = szR left (ss.length + total (fsP ss))) := Lib.hid (szR_pos (by omega)).symm
        have HB := Lib.hid hb
        clear h hq hp hb
        go_wp2
        go_ret
        exact ⟨ret_i64 HE.out, HB.out⟩
end
section
open Go.ChangeAt Go.ChangeShapes Go.RowKit Go.WideShapes

theorem info_step : (Tryz.prog.info? 43).map (fun i => (i.zero, i.size, i.bytes)) = some (some (Value.agg #[Value.int .i64 0, Value.int .i64 0, Value.int .i64 0, Value.int .i64 0, Value.int .i64 0, Value.slice none 0 0]), 6, 64) := by kernel_rfl
theorem info_parts_step : ∃ i, Tryz.prog.info? 43 = some i ∧ i.zero = some (Value.agg #[Value.int .i64 0, Value.int .i64 0, Value.int .i64 0, Value.int .i64 0, Value.int .i64 0, Value.slice none 0 0]) ∧ i.size = 6 ∧ i.bytes = 64 := by
  obtain ⟨i, hi, he⟩ := Option.map_eq_some_iff.1 info_step
  simp only [Prod.mk.injEq] at he
  exact ⟨i, hi, he.1, he.2.1, he.2.2⟩
def six (w : World) (b o : Nat) (v0 v1 v2 v3 v4 v5 : Value) : World := (((((w.setCell ⟨b, o, none⟩ v0).setCell ⟨b, o + 1, none⟩ v1).setCell ⟨b, o + 2, none⟩ v2).setCell ⟨b, o + 3, none⟩ v3).setCell ⟨b, o + 4, none⟩ v4).setCell ⟨b, o + 5, none⟩ v5
theorem six_below {w0 w : World} {B b : Nat} (h : Below B w0 w) (hb : B ≤ b) (o : Nat) (v0 v1 v2 v3 v4 v5 : Value) : Below B w0 (six w b o v0 v1 v2 v3 v4 v5) := by
  unfold six
  exact (((((h.setCell (p := ⟨b, o, none⟩) hb v0).setCell (p := ⟨b, o + 1, none⟩) hb v1).setCell (p := ⟨b, o + 2, none⟩) hb v2).setCell (p := ⟨b, o + 3, none⟩) hb v3).setCell (p := ⟨b, o + 4, none⟩) hb v4).setCell (p := ⟨b, o + 5, none⟩) hb v5
/-- The copy of a row of steps, the first k of them. -/
def CopS (w0 wr : World) (g n : Nat) (ss : List Stp) (k : Nat) : Prop :=
  (∃ arr, wr.heap[g]? = some (.cells arr 43 (0, 0)) ∧ n * 6 ≤ arr.size) ∧ (∀ m, m < k → ∃ gm, gm ≠ g ∧ gm < wr.heap.size ∧ AtP wr wr.heap.size g (m * 6) (ss.getD m Stp.nil) (some ⟨gm, 0, none⟩) (ss.getD m Stp.nil).f.length) ∧ Below g w0 wr ∧ g < wr.heap.size
theorem CopS.done {w0 wr : World} {g n : Nat} {ss : List Stp} (h : CopS w0 wr g n ss n) (hn : ss.length = n) : RdP wr wr.heap.size (some ⟨g, 0, none⟩) n ss := by
  obtain ⟨_, hat, _, hg⟩ := h
  exact ⟨hn, fun _ => ⟨g, 0, rfl, hg, fun k hk => by
    obtain ⟨gm, _, _, a⟩ := hat k hk
    rw [Nat.zero_add]
    exact ⟨_, _, a⟩⟩⟩
end
section
open Go.ChangeAt Go.ChangeShapes Go.RowKit Go.WideShapes

/-- The cells of the steps, one after another. -/
def rowP (hs : Nat → Option Addr × Nat) (ss : List Stp) : List Value := (List.range (ss.length * 6)).map fun x => (stC (ss.getD (x / 6) Stp.nil) (hs (x / 6)).1 (hs (x / 6)).2).getD (x % 6) undef
theorem rowP_len (hs : Nat → Option Addr × Nat) (ss : List Stp) : (rowP hs ss).length = ss.length * 6 := by simp [rowP]
theorem stC_at (s : Stp) (A : Option Addr) (c t : Nat) (ht : t < 6) : (stC s A c)[t]? = some ((stC s A c).getD t undef) := by
  have hl : t < (stC s A c).length := by simpa [stC] using ht
  simp [List.getD, hl]
theorem rowP_at {hs : Nat → Option Addr × Nat} {ss : List Stp} {k t : Nat} (hk : k < ss.length) (ht : t < 6) : (rowP hs ss)[k * 6 + t]? = some ((stC (ss.getD k Stp.nil) (hs k).1 (hs k).2).getD t undef) := by
  unfold rowP
  rw [List.getElem?_map, List.getElem?_range (by omega), Option.map_some, show (k * 6 + t) / 6 = k by omega, show (k * 6 + t) % 6 = t by omega]
theorem rowP_out {hs : Nat → Option Addr × Nat} {ss : List Stp} {x : Nat} (h : ss.length * 6 ≤ x) : (rowP hs ss)[x]? = none := List.getElem?_eq_none (by rw [rowP_len]; exact h)
/-- A row of cells that has these at each place is the row. -/
theorem rowP_of {hs : Nat → Option Addr × Nat} {ss : List Stp} {xs : List Value} (hl : xs.length = ss.length * 6) (h : ∀ k t, k < ss.length → t < 6 → xs[k * 6 + t]? = some ((stC (ss.getD k Stp.nil) (hs k).1 (hs k).2).getD t undef)) : xs = rowP hs ss := by
  apply List.ext_getElem?
  intro x
  by_cases hx : x < ss.length * 6
  · have e : x = x / 6 * 6 + x % 6 := by omega
    rw [e, h (x / 6) (x % 6) (by omega) (by omega), rowP_at (by omega) (by omega)]
  · rw [rowP_out (by omega), List.getElem?_eq_none (by omega)]
theorem getS_eq {ss : List Stp} {k : Nat} {s : Stp} (h : k < ss.length) : (ss.set k s).getD k Stp.nil = s := by simp [List.getD, h]
theorem getS_ne {ss : List Stp} {k i : Nat} {s : Stp} (h : i ≠ k) : (ss.set k s).getD i Stp.nil = ss.getD i Stp.nil := by
  simp only [List.getD]
  rw [List.getElem?_set_ne (fun e => h e.symm)]
theorem getS_lt {ss : List Stp} {i : Nat} {s : Stp} (h : i < ss.length) : (ss ++ [s]).getD i Stp.nil = ss.getD i Stp.nil := by simp [List.getD, List.getElem?_append_left h]
theorem getS_last {ss : List Stp} {s : Stp} : (ss ++ [s]).getD ss.length Stp.nil = s := by simp [List.getD]
/-- The header of formula i. -/
def fv (hs : Nat → Option Addr × Nat) (ss : List Stp) (i : Nat) : Value := .slice (hs i).1 (ss.getD i Stp.nil).f.length (hs i).2
/-- Six cells replaced. -/
def set6 (xs : List Value) (o : Nat) (s : Stp) (x : Option Addr × Nat) : List Value := (((((xs.set o (.int .i64 s.r)).set (o + 1) (.int .i64 s.a)).set (o + 2) (.int .i64 s.b)).set (o + 3) (.int .i64 s.i)).set (o + 4) (.int .i64 s.j)).set (o + 5) (.slice x.1 s.f.length x.2)
theorem set6_row {hs : Nat → Option Addr × Nat} {ss : List Stp} {k : Nat} (s : Stp) (x : Option Addr × Nat) (hk : k < ss.length) : set6 (rowP hs ss) (k * 6) s x = rowP (upd hs k x) (ss.set k s) := by
  refine rowP_of (by simp [set6, rowP_len]) fun m t hm ht => ?_
  rw [List.length_set] at hm
  unfold set6
  by_cases e : m = k
  · subst e
    rw [getS_eq hk]
    have hu : upd hs m x m = x := by simp [upd]
    rw [hu]
    have hl := rowP_len hs ss
    have c : t = 0 ∨ t = 1 ∨ t = 2 ∨ t = 3 ∨ t = 4 ∨ t = 5 := by omega
    rcases c with rfl | rfl | rfl | rfl | rfl | rfl
    · have e0 : m * 6 + 0 = m * 6 := rfl
      rw [e0, List.getElem?_set_ne (by omega), List.getElem?_set_ne (by omega), List.getElem?_set_ne (by omega), List.getElem?_set_ne (by omega), List.getElem?_set_ne (by omega), List.getElem?_set_self (by omega)]; rfl
    · rw [List.getElem?_set_ne (by omega), List.getElem?_set_ne (by omega), List.getElem?_set_ne (by omega), List.getElem?_set_ne (by omega), List.getElem?_set_self (by simp; omega)]; rfl
    · rw [List.getElem?_set_ne (by omega), List.getElem?_set_ne (by omega), List.getElem?_set_ne (by omega), List.getElem?_set_self (by simp; omega)]; rfl
    · rw [List.getElem?_set_ne (by omega), List.getElem?_set_ne (by omega), List.getElem?_set_self (by simp; omega)]; rfl
    · rw [List.getElem?_set_ne (by omega), List.getElem?_set_self (by simp; omega)]; rfl
    · rw [List.getElem?_set_self (by simp; omega)]; rfl
  · rw [getS_ne e]
    have hu : upd hs k x m = hs m := by simp [upd, e]
    rw [hu, List.getElem?_set_ne (by omega), List.getElem?_set_ne (by omega), List.getElem?_set_ne (by omega), List.getElem?_set_ne (by omega), List.getElem?_set_ne (by omega), List.getElem?_set_ne (by omega)]
    exact rowP_at hm ht
/-- The formula's cell alone. -/
theorem setF_row {hs : Nat → Option Addr × Nat} {ss : List Stp} {k : Nat} (f : List Int) (x : Option Addr × Nat) (hk : k < ss.length) : (rowP hs ss).set (k * 6 + 5) (.slice x.1 f.length x.2) = rowP (upd hs k x) (ss.set k { ss.getD k Stp.nil with f := f }) := by
  refine rowP_of (by simp [rowP_len]) fun m t hm ht => ?_
  rw [List.length_set] at hm
  by_cases e : m = k
  · subst e
    rw [getS_eq hk]
    have hu : upd hs m x m = x := by simp [upd]
    rw [hu]
    have hl := rowP_len hs ss
    by_cases e5 : t = 5
    · subst e5
      rw [List.getElem?_set_self (by omega)]; rfl
    · rw [List.getElem?_set_ne (by omega), rowP_at hm ht]
      have c : t = 0 ∨ t = 1 ∨ t = 2 ∨ t = 3 ∨ t = 4 := by omega
      rcases c with rfl | rfl | rfl | rfl | rfl <;> rfl
  · rw [getS_ne e]
    have hu : upd hs k x m = hs m := by simp [upd, e]
    rw [hu, List.getElem?_set_ne (by omega)]
    exact rowP_at hm ht
theorem push_row {hs : Nat → Option Addr × Nat} {ss : List Stp} (s : Stp) (x : Option Addr × Nat) : rowP hs ss ++ stC s x.1 x.2 = rowP (upd hs ss.length x) (ss ++ [s]) := by
  refine rowP_of (by simp [rowP_len, stC]; omega) fun m t hm ht => ?_
  rw [List.length_append, List.length_singleton] at hm
  by_cases e : m = ss.length
  · subst e
    rw [getS_last, List.getElem?_append_right (by rw [rowP_len]; omega), rowP_len, show ss.length * 6 + t - ss.length * 6 = t by omega]
    have hu : upd hs ss.length x ss.length = x := by simp [upd]
    rw [hu]
    exact stC_at _ _ _ _ ht
  · rw [getS_lt (by omega), List.getElem?_append_left (by rw [rowP_len]; omega)]
    have hu : upd hs ss.length x m = hs m := by simp [upd, e]
    rw [hu]
    exact rowP_at (by omega) ht

/-- A row of steps in memory of its own: blocks in [lo, hi); the first K formulas are owned too. -/
structure OwnP (w : World) (lo hi : Nat) (v : Value) (hs : Nat → Option Addr × Nat) (ss : List Stp) (K : Nat) : Prop where
  kle : K ≤ ss.length
  outer : w.ownsRow lo 43 6 v ss.length (rowP hs ss)
  inner : ∀ i, i < K → w.ownsRow lo 2 1 (fv hs ss i) (ss.getD i Stp.nil).f.length ((ss.getD i Stp.nil).f.map (Value.int .i64))
  apart : ∀ i j, i < K → j < K → i ≠ j → (fv hs ss i).ownBlock = none ∨ (fv hs ss i).ownBlock ≠ (fv hs ss j).ownBlock
  apart0 : ∀ i, i < K → (fv hs ss i).ownBlock = none ∨ (fv hs ss i).ownBlock ≠ v.ownBlock
  top0 : ∀ k, v.ownBlock = some k → k < hi
  top : ∀ i k, i < K → (fv hs ss i).ownBlock = some k → k < hi
section
variable {w w' : World} {lo hi lo' hi' K : Nat} {v : Value} {hs : Nat → Option Addr × Nat} {ss : List Stp}
theorem OwnP.same (h : OwnP w lo hi v hs ss K) (hk : ∀ k, lo ≤ k → k < hi → k < w.heap.size → w'.heap[k]? = w.heap[k]?) : OwnP w' lo hi v hs ss K where
  kle := h.kle
  outer := own_same h.outer fun k e => hk k (h.outer.lt k e).1 (h.top0 k e) (h.outer.lt k e).2
  inner i hi := own_same (h.inner i hi) fun k e => hk k ((h.inner i hi).lt k e).1 (h.top i k hi e) ((h.inner i hi).lt k e).2
  apart := h.apart
  apart0 := h.apart0
  top0 := h.top0
  top := h.top
theorem OwnP.below (h : OwnP w lo hi v hs ss K) (hb : Below w.heap.size w w') : OwnP w' lo hi v hs ss K := h.same fun k _ _ h3 => hb.block k h3
theorem OwnP.kept (h : OwnP w lo hi v hs ss K) (hk : Kept lo' hi' w w') (hd : hi ≤ lo' ∨ hi' ≤ lo) : OwnP w' lo hi v hs ss K :=
  h.same fun k h1 h2 h3 => hk.block k h3 (by omega)
theorem OwnP.more (h : OwnP w lo hi v hs ss K) (h1 : lo' ≤ lo) (h2 : hi ≤ hi') : OwnP w lo' hi' v hs ss K where
  kle := h.kle
  outer := h.outer.mono h1
  inner i hi := (h.inner i hi).mono h1
  apart := h.apart
  apart0 := h.apart0
  top0 k e := Nat.lt_of_lt_of_le (h.top0 k e) h2
  top i k hi e := Nat.lt_of_lt_of_le (h.top i k hi e) h2
theorem OwnP.size (h : OwnP w lo hi v hs ss K) : OwnP w lo w.heap.size v hs ss K where
  kle := h.kle
  outer := h.outer
  inner := h.inner
  apart := h.apart
  apart0 := h.apart0
  top0 k e := (h.outer.lt k e).2
  top i k hi e := ((h.inner i hi).lt k e).2
theorem OwnP.nil (w : World) (lo hi : Nat) (hs : Nat → Option Addr × Nat) : OwnP w lo hi (.slice none 0 0) hs [] 0 where
  kle := Nat.le_refl _
  outer := by simpa [rowP] using World.ownsRow_nil w lo 43 6
  inner i hi := by simp at hi
  apart i _ hi := by simp at hi
  apart0 i hi := by simp at hi
  top0 k e := by simp [Value.ownBlock] at e
  top i _ hi := by simp at hi
end
/-- What is owned reads. -/
theorem OwnP.rd {w : World} {lo hi n c : Nat} {A : Option Addr} {hs : Nat → Option Addr × Nat} {ss : List Stp} (h : OwnP w lo hi (.slice A n c) hs ss n) (hn : ss.length = n) : RdP w w.heap.size A n ss := by
  subst hn
  refine ⟨rfl, fun hn => ?_⟩
  obtain ⟨g, cap, hv', _, hlt⟩ := h.outer.form hn
  injection hv' with e1 e2 e3
  subst e1; subst e3
  refine ⟨g, 0, rfl, hlt, fun k hk => ⟨(hs k).1, (hs k).2, ?_⟩⟩
  have hc : ∀ t, t < 6 → w.cell? ⟨g, 0 + k * 6 + t, none⟩ = some ((stC (ss.getD k Stp.nil) (hs k).1 (hs k).2).getD t undef) := fun t ht => by
    rw [Nat.zero_add, h.outer.cellAt (k * 6 + t) (by omega), rowP_at hk ht]
  exact ⟨hc 0 (by decide), hc 1 (by decide), hc 2 (by decide), hc 3 (by decide), hc 4 (by decide), hc 5 (by decide), own_cap1 (h.inner k hk), RdI.of_own (h.inner k hk)⟩
/-- A cell of a step. -/
theorem OwnP.at {w : World} {lo hi n c k g K : Nat} {hs : Nat → Option Addr × Nat} {ss : List Stp} (h : OwnP w lo hi (.slice (some ⟨g, 0, none⟩) n c) hs ss K) (hn : ss.length = n) (hk : k < n) (t : Nat) (ht : t < 6) :
    w.frozen? ⟨g, k * 6 + t, none⟩ = false ∧ w.cell? ⟨g, k * 6 + t, none⟩ = some ((stC (ss.getD k Stp.nil) (hs k).1 (hs k).2).getD t undef) := by
  subst hn
  refine ⟨h.outer.frozenAt _, ?_⟩
  rw [h.outer.cellAt _ (by omega), rowP_at hk ht]
/-- Step k replaced by one whose formula lies in memory beyond. -/
theorem OwnP.put {w w' : World} {lo hi hi' n c k g c' K K' : Nat} {a : Option Addr} {hs : Nat → Option Addr × Nat} {ss : List Stp} {s : Stp} (h : OwnP w lo hi (.slice (some ⟨g, 0, none⟩) n c) hs ss K) (hn : ss.length = n) (hk : k < n) (hK : K' ≤ n) (hK' : ∀ i, i < K' → i = k ∨ i < K)
    (ho : w'.ownsRow lo 43 6 (.slice (some ⟨g, 0, none⟩) n c) n (rowP (upd hs k (a, c')) (ss.set k s))) (hg : ∀ b, b < w.heap.size → b ≠ g → w'.heap[b]? = w.heap[b]?)
    (hq : w'.ownsRow lo 2 1 (.slice a s.f.length c') s.f.length (s.f.map (Value.int .i64))) (hge : ∀ b, (Value.slice a s.f.length c').ownBlock = some b → hi ≤ b ∧ b < hi') (hh : hi ≤ hi') :
    OwnP w' lo hi' (.slice (some ⟨g, 0, none⟩) n c) (upd hs k (a, c')) (ss.set k s) K' := by
  subst hn
  have hgl : g < hi := h.top0 g rfl
  have hot : ∀ i, i ≠ k → fv (upd hs k (a, c')) (ss.set k s) i = fv hs ss i := fun i hi => by
    unfold fv upd
    rw [getS_ne hi, if_neg hi]
  have hkk : fv (upd hs k (a, c')) (ss.set k s) k = .slice a s.f.length c' := by
    unfold fv upd
    rw [getS_eq hk, if_pos rfl]
  have hlt : ∀ i, i < K' → i ≠ k → i < K := fun i hi e => (hK' i hi).resolve_left e
  refine ⟨by rw [List.length_set]; exact hK, by rw [List.length_set]; exact ho, fun i hi => ?_, fun i j hi hj hij => ?_, fun i hi => ?_, fun b e => ?_, fun i b hi e => ?_⟩
  · by_cases e : i = k
    · subst e
      rw [hkk, getS_eq hk]
      exact hq
    · rw [hot i e, getS_ne e]
      have hin := h.inner i (hlt i hi e)
      refine own_same hin fun b hb => hg b (hin.lt b hb).2 ?_
      rcases h.apart0 i (hlt i hi e) with h0 | h0
      · rw [h0] at hb; cases hb
      · rw [hb] at h0
        intro e'
        exact h0 (by rw [e']; rfl)
  · by_cases e : i = k
    · subst e
      rw [hkk, hot j (fun e => hij e.symm)]
      cases hb : (Value.slice a s.f.length c').ownBlock with
      | none => exact .inl rfl
      | some b =>
        right
        intro e'
        have := h.top j b (hlt j hj (fun e => hij e.symm)) e'.symm
        have := (hge b hb).1
        omega
    · by_cases e2 : j = k
      · subst e2
        rw [hkk, hot i e]
        cases hb : (fv hs ss i).ownBlock with
        | none => exact .inl rfl
        | some b =>
          right
          intro e'
          have := h.top i b (hlt i hi e) hb
          have := (hge b e'.symm).1
          omega
      · rw [hot i e, hot j e2]
        exact h.apart i j (hlt i hi e) (hlt j hj e2) hij
  · by_cases e : i = k
    · subst e
      rw [hkk]
      cases hb : (Value.slice a s.f.length c').ownBlock with
      | none => exact .inl rfl
      | some b =>
        right
        intro e'
        have : b = g := by simpa [Value.ownBlock] using e'
        have := (hge b hb).1
        omega
    · rw [hot i e]
      exact h.apart0 i (hlt i hi e)
  · exact Nat.lt_of_lt_of_le (h.top0 b e) hh
  · by_cases e1 : i = k
    · subst e1
      rw [hkk] at e
      exact (hge b e).2
    · rw [hot i e1] at e
      exact Nat.lt_of_lt_of_le (h.top i b (hlt i hi e1) e) hh
/-- Six cells of a row stored. -/
theorem six_own {w : World} {lo n c g o : Nat} {t : TypeId} {xs : List Value} (h : w.ownsRow lo t 6 (.slice (some ⟨g, 0, none⟩) n c) n xs) (s : Stp) (x : Option Addr × Nat) :
    (six w g o (.int .i64 s.r) (.int .i64 s.a) (.int .i64 s.b) (.int .i64 s.i) (.int .i64 s.j) (.slice x.1 s.f.length x.2)).ownsRow lo t 6 (.slice (some ⟨g, 0, none⟩) n c) n (set6 xs o s x) := by
  unfold six set6
  exact ((((((h.stored _ _).1.stored _ _).1.stored _ _).1.stored _ _).1.stored _ _).1.stored _ _).1
theorem six_block {w : World} {g o b : Nat} {v0 v1 v2 v3 v4 v5 : Value} (h : b ≠ g) : (six w g o v0 v1 v2 v3 v4 v5).heap[b]? = w.heap[b]? := by
  unfold six
  rw [Below.heap_setCell _ _ _ _ (by exact h), Below.heap_setCell _ _ _ _ (by exact h), Below.heap_setCell _ _ _ _ (by exact h), Below.heap_setCell _ _ _ _ (by exact h), Below.heap_setCell _ _ _ _ (by exact h), Below.heap_setCell _ _ _ _ (by exact h)]
/-- Step k stored, cell by cell. -/
theorem OwnP.store6 {w : World} {lo hi hi' n c k g c' K K' : Nat} {a : Option Addr} {hs : Nat → Option Addr × Nat} {ss : List Stp} {s : Stp} (h : OwnP w lo hi (.slice (some ⟨g, 0, none⟩) n c) hs ss K) (hn : ss.length = n) (hk : k < n) (hK : K' ≤ n) (hK' : ∀ i, i < K' → i = k ∨ i < K)
    (hq : w.ownsRow lo 2 1 (.slice a s.f.length c') s.f.length (s.f.map (Value.int .i64))) (hge : ∀ b, (Value.slice a s.f.length c').ownBlock = some b → hi ≤ b ∧ b < hi') (hh : hi ≤ hi') :
    OwnP (six w g (k * 6) (.int .i64 s.r) (.int .i64 s.a) (.int .i64 s.b) (.int .i64 s.i) (.int .i64 s.j) (.slice a s.f.length c')) lo hi' (.slice (some ⟨g, 0, none⟩) n c) (upd hs k (a, c')) (ss.set k s) K' := by
  have hgl : g < hi := h.top0 g rfl
  refine h.put hn hk hK hK' ?_ (fun b _ hb => six_block hb) (own_same hq fun b hb => six_block (by have := hge b hb; omega)) hge hh
  rw [← set6_row s (a, c') (by omega)]
  have ho := h.outer
  rw [hn] at ho
  exact six_own ho s (a, c')
/-- The formula of step k stored. -/
theorem OwnP.storeF {w : World} {lo hi hi' n c k g c' K K' : Nat} {a : Option Addr} {hs : Nat → Option Addr × Nat} {ss : List Stp} {f : List Int} (h : OwnP w lo hi (.slice (some ⟨g, 0, none⟩) n c) hs ss K) (hn : ss.length = n) (hk : k < n) (hK : K' ≤ n) (hK' : ∀ i, i < K' → i = k ∨ i < K)
    (hq : w.ownsRow lo 2 1 (.slice a f.length c') f.length (f.map (Value.int .i64))) (hge : ∀ b, (Value.slice a f.length c').ownBlock = some b → hi ≤ b ∧ b < hi') (hh : hi ≤ hi') :
    OwnP (w.setCell ⟨g, k * 6 + 5, none⟩ (.slice a f.length c')) lo hi' (.slice (some ⟨g, 0, none⟩) n c) (upd hs k (a, c')) (ss.set k { ss.getD k Stp.nil with f := f }) K' := by
  have hgl : g < hi := h.top0 g rfl
  refine h.put (s := { ss.getD k Stp.nil with f := f }) hn hk hK hK' ?_ (fun b _ hb => Below.heap_setCell _ _ _ _ (by exact hb)) (own_same hq fun b hb => Below.heap_setCell _ _ _ _ (by have := hge b hb; show b ≠ g; omega)) hge hh
  rw [← setF_row f (a, c') (by omega)]
  have ho := h.outer
  rw [hn] at ho
  exact (ho.stored (k * 6 + 5) (.slice a f.length c')).1
/-- Rows of steps and of integers lie apart. -/
theorem rowT_apart {w : World} {b1 b2 n1 n2 s1 s2 : Nat} {v1 v2 : Value} {xs ys : List Value} (h1 : w.ownsRow b1 2 s1 v1 n1 xs) (h2 : w.ownsRow b2 43 s2 v2 n2 ys) : v1.ownBlock = none ∨ v1.ownBlock ≠ v2.ownBlock := by
  rcases h1.2 with ⟨rfl, _⟩ | ⟨g, cap, cur, rfl, _, hh, _⟩
  · exact .inl rfl
  · rcases h2.2 with ⟨rfl, _⟩ | ⟨g2, cap2, cur2, rfl, _, hh2, _⟩
    · exact .inr (by simp [Value.ownBlock])
    · right
      intro e
      have e3 : g = g2 := by simpa [Value.ownBlock] using e
      subst e3
      rw [hh] at hh2
      injection hh2 with h3
      injection h3 with _ h4 _
      exact absurd h4 (by decide)
/-- One step more. -/
theorem OwnP.push {w w' : World} {lo hi hi' c' : Nat} {v v' : Value} {a : Option Addr} {hs : Nat → Option Addr × Nat} {ss : List Stp} {s : Stp} (h : OwnP w lo hi v hs ss ss.length)
    (hq : w.ownsRow lo 2 1 (.slice a s.f.length c') s.f.length (s.f.map (Value.int .i64))) (hge : ∀ b, (Value.slice a s.f.length c').ownBlock = some b → hi ≤ b)
    (ho : w'.ownsRow lo 43 6 v' (ss.length + 1) (rowP hs ss ++ stC s a c')) (hg : w.grownBy w' v.ownBlock) (h2 : w'.heap.size ≤ hi') :
    OwnP w' lo hi' v' (upd hs ss.length (a, c')) (ss ++ [s]) (ss ++ [s]).length := by
  have hlt : ∀ i, i < ss.length → fv (upd hs ss.length (a, c')) (ss ++ [s]) i = fv hs ss i := by
    intro i hi
    unfold fv upd
    rw [getS_lt hi, if_neg (by omega)]
  have hkk : fv (upd hs ss.length (a, c')) (ss ++ [s]) ss.length = .slice a s.f.length c' := by
    unfold fv upd
    rw [getS_last, if_pos rfl]
  have hr := push_row (hs := hs) (ss := ss) s (a, c')
  have hs' := hg.size
  have hbl : ∀ b, v'.ownBlock = some b → b < w'.heap.size := fun b e => (ho.lt b e).2
  have hqs : ∀ i, i < (ss ++ [s]).length → i = ss.length ∨ i < ss.length := fun i hi => by simp at hi; omega
  refine ⟨Nat.le_refl _, by rw [← hr, List.length_append, List.length_singleton]; exact ho, fun i hi => ?_, fun i j hi hj hij => ?_, fun i hi => ?_, fun k e => ?_, fun i k hi e => ?_⟩
  · rcases hqs i hi with rfl | hi
    · rw [hkk, getS_last]
      refine hq.kept hg ?_
      cases hb : (Value.slice a s.f.length c').ownBlock with
      | none => exact .inl rfl
      | some b =>
        right
        intro e
        have := h.top0 b e.symm
        have := hge b hb
        omega
    · rw [hlt i hi, getS_lt hi]
      exact (h.inner i hi).kept hg (h.apart0 i hi)
  · rcases hqs i hi with rfl | hi
    · rcases hqs j hj with rfl | hj
      · exact absurd rfl hij
      · rw [hkk, hlt j hj]
        cases hb : (Value.slice a s.f.length c').ownBlock with
        | none => exact .inl rfl
        | some b =>
          right
          intro e
          have := h.top j b hj e.symm
          have := hge b hb
          omega
    · rcases hqs j hj with rfl | hj
      · rw [hkk, hlt i hi]
        cases hb : (fv hs ss i).ownBlock with
        | none => exact .inl rfl
        | some b =>
          right
          intro e
          have := h.top i b hi hb
          have := hge b e.symm
          omega
      · rw [hlt i hi, hlt j hj]; exact h.apart i j hi hj hij
  · rcases hqs i hi with rfl | hi
    · rw [hkk]
      refine rowT_apart (hq.kept hg ?_) ho
      cases hb : (Value.slice a s.f.length c').ownBlock with
      | none => exact .inl rfl
      | some b =>
        right
        intro e
        have := h.top0 b e.symm
        have := hge b hb
        omega
    · rw [hlt i hi]
      exact rowT_apart ((h.inner i hi).kept hg (h.apart0 i hi)) ho
  · exact Nat.lt_of_lt_of_le (hbl k e) h2
  · rcases hqs i hi with rfl | hi
    · rw [hkk] at e
      have := (hq.lt k e).2
      omega
    · rw [hlt i hi] at e
      have := ((h.inner i hi).lt k e).2
      omega
/-- What a function leaves that hands back steps. -/
def GivesP (w : World) (ss : List Stp) (e : Ending) (w' : World) : Prop :=
  ∃ hs A c, e = .returned (.slice A ss.length c) ∧ OwnP w' w.heap.size w'.heap.size (.slice A ss.length c) hs ss ss.length ∧ Below w.heap.size w w'
/-- .. and a bool. -/
def GivesPB (w : World) (ss : List Stp) (b : Bool) (e : Ending) (w' : World) : Prop :=
  ∃ hs A c, e = .returned (.tuple #[.slice A ss.length c, .bool b]) ∧ OwnP w' w.heap.size w'.heap.size (.slice A ss.length c) hs ss ss.length ∧ Below w.heap.size w w'
/-- A row of n zero steps. -/
theorem OwnP.fresh {w : World} {lo g n c : Nat} (h : w.ownsRow lo 43 6 (.slice (some ⟨g, 0, none⟩) n c) n (rowP (fun _ => (none, 0)) (List.replicate n Stp.nil))) (hi : Nat) (hg : g < hi) :
    OwnP w lo hi (.slice (some ⟨g, 0, none⟩) n c) (fun _ => (none, 0)) (List.replicate n Stp.nil) 0 where
  kle := Nat.zero_le _
  outer := by rw [List.length_replicate]; exact h
  inner i hi := by simp at hi
  apart i _ hi := by simp at hi
  apart0 i hi := by simp at hi
  top0 k e := by
    obtain rfl : g = k := by simpa [Value.ownBlock] using e
    exact hg
  top i _ hi := by simp at hi
theorem rep_at {n k : Nat} : (List.replicate n Stp.nil).getD k Stp.nil = Stp.nil := by
  simp only [List.getD]
  by_cases h : k < n
  · simp [h]
  · simp [h]
theorem made_row (n : Nat) : (madeCells (Value.agg #[Value.int .i64 0, Value.int .i64 0, Value.int .i64 0, Value.int .i64 0, Value.int .i64 0, Value.slice none 0 0]).cells (n * 6)).toList = rowP (fun _ => (none, 0)) (List.replicate n Stp.nil) := by
  refine rowP_of (by rw [Array.length_toList, size_madeCells, List.length_replicate]) fun k t hk ht => ?_
  rw [List.length_replicate] at hk
  rw [rep_at]
  have e : (madeCells (Value.agg #[Value.int .i64 0, Value.int .i64 0, Value.int .i64 0, Value.int .i64 0, Value.int .i64 0, Value.slice none 0 0]).cells (n * 6)).toList[k * 6 + t]? = some ((Value.agg #[Value.int .i64 0, Value.int .i64 0, Value.int .i64 0, Value.int .i64 0, Value.int .i64 0, Value.slice none 0 0]).cells[(k * 6 + t) % 6]!) := by
    unfold madeCells
    rw [Array.getElem?_toList, Array.getElem?_map, Array.getElem?_range, if_pos (by omega)]
    rfl
  rw [e, show (k * 6 + t) % 6 = t by omega]
  have c : t = 0 ∨ t = 1 ∨ t = 2 ∨ t = 3 ∨ t = 4 ∨ t = 5 := by omega
  rcases c with rfl | rfl | rfl | rfl | rfl | rfl <;> rfl
end
end Go.Proofs.YthbkcpacgnmcfaaGreatDoor
