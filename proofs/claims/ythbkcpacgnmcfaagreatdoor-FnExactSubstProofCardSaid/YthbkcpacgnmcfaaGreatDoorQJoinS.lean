/- Joined and Wrapped: of the program and of the model. Joined and Wrapped of the model. The model's draws: a source of numbers in a block of the call's own, and what is picked from it. Nothing is said of which numbers are drawn, only of their range and of the memory. The model's draw of a formula: some list of small numbers, in memory of its own. The model's source made of a code, and its draw of a list that is mostly a formula. What the laws over a code share: its bytes opened, its length asked, two lists compared. Two lists compared: slices.Equal, and the model's sameInts. Two slices of integers compared, with the very world behind the call: the laws' helper, the model's, slices.Equal. The order of formulas: of the program and of the model. -/
import Derived.Test.YthbkcpacgnmcfaaGreatDoorQClone
import Derived.Deep.DeepCutAuto
import Derived.StillTailTactics
import Derived.Test.YthbkcpacgnmcfaaGreatDoorQMath
import Derived.Test.YthbkcpacgnmcfaaGreatDoorQMark
namespace Go.Proofs.YthbkcpacgnmcfaaGreatDoor
set_option linter.unusedSimpArgs false
set_option linter.unusedVariables false
section
open Go.RowKit

/-- What the first append leaves, as the second asks for it. -/
theorem second_news {w wa w1 : World} {e : TypeId} {v0 v1 : Value} {n0 n1 b2 off2 : Nat} {xs ys xb : List Value} {b : List Int} (HB0 : Hid (Below w.heap.size w wa)) (H0 : wa.ownsRow w.heap.size e 1 v0 n0 xs) (hown1 : w1.ownsRow w.heap.size e 1 v1 n1 ys) (hgrow1 : wa.grownBy w1 v0.ownBlock)
    (HC2 : Hid (∀ j, j < b.length → w.cell? ⟨b2, off2 + j, none⟩ = some (.int .i64 (b.getD j 0)))) (HBS : Hid (b.map (Value.int .i64) = xb)) (hb2 : b2 < w.heap.size) :
    Hid (w1.ownsRow w.heap.size e 1 v1 n1 ys) ∧ Hid (Below w.heap.size w w1) ∧ Hid (∀ j u, xb[j]? = some u → w1.cell? ((⟨b2, off2, none⟩ : Addr).add j) = some u) := by
  have hb1' : Below w.heap.size w w1 := HB0.out.grown hgrow1 HB0.out.size (fun q hq => (H0.lt q hq).1)
  refine ⟨hown1, hb1', ?_⟩
  have := part_news (w := w1) (b := b2) (off := off2) (zs := b) (fun j hj => (hb1'.cell (p := ⟨b2, off2 + j, none⟩) hb2).trans (HC2.out j hj))
  rw [HBS.out] at this
  exact this
theorem last_news {w w1 w2 : World} {e : TypeId} {v1 v2 : Value} {n1 n2 : Nat} {xs ys : List Value} {J : List Int} (HB1 : Hid (Below w.heap.size w w1)) (HO1 : Hid (w1.ownsRow w.heap.size e 1 v1 n1 xs)) (hown2 : w2.ownsRow w.heap.size e 1 v2 n2 ys) (hgrow2 : w1.grownBy w2 v1.ownBlock)
    (HJ : Hid (ys = J.map (Value.int .i64))) (HL : Hid (J.length = n2)) :
    ∃ A c, v2 = .slice A n2 c ∧ Hid (w2.ownsRow w.heap.size e 1 (.slice A J.length c) J.length (J.map (Value.int .i64))) ∧ Hid (Below w.heap.size w w2) := by
  have hb2' : Below w.heap.size w w2 := HB1.out.grown hgrow2 HB1.out.size (fun q hq => (HO1.out.lt q hq).1)
  obtain ⟨A2, c2, rfl⟩ := own_shape hown2
  rw [HJ.out] at hown2
  refine ⟨A2, c2, rfl, ?_, hb2'⟩
  rw [HL.out]
  exact hown2

set_option maxHeartbeats 1000000 in
theorem sjoined_any (op : Int) (A : Option Addr) (n c : Nat) (a : List Int) (B : Option Addr) (m d : Nat) (b : List Int) (w : World) (h : RdI w w.heap.size A n a) (h' : RdI w w.heap.size B m b) (hn0 : 0 < n) (hm0 : 0 < m) (hn : n ≤ 1000) (hm : m ≤ 1000) :
    Calls Tryz.prog 72 #[.int .i64 op, .slice A n c, .slice B m d] w (Gives w (op :: (a ++ b))) := by
  obtain ⟨i0, hi0, hz0, hz1, hz2⟩ := info_parts info_i64
  have hl := h.len
  have hl' := h'.len
  subst hl hl'
  obtain ⟨b1, off1, rfl, hb1, hc1⟩ := h.2 hn0
  obtain ⟨b2, off2, rfl, hb2, hc2⟩ := h'.2 hm0
  have H0 := World.ownsRow_lit (base := w.heap.size) (e := 2) (size := 1) w #[.int .i64 op] 1 (Nat.le_refl _) (by simp [maxLen]) rfl
  have hb0 : Below w.heap.size w (w.alloc (.cells #[.int .i64 op] 2)) := (Below.refl _ _).alloc (Nat.le_refl _) _
  have hn1 : ∀ j u, (a.map (Value.int .i64))[j]? = some u → (w.alloc (.cells #[.int .i64 op] 2)).cell? ((⟨b1, off1, none⟩ : Addr).add j) = some u := part_news (fun j hj => (hb0.cell (p := ⟨b1, off1 + j, none⟩) hb1).trans (hc1 j hj))
  have HN1 := Lib.hid hn1
  have HJ : Hid (([Value.int .i64 op] ++ a.map (Value.int .i64)) ++ b.map (Value.int .i64) = (op :: (a ++ b)).map (Value.int .i64)) := Lib.hid (by simp)
  have HL : Hid ((op :: (a ++ b)).length = 1 + a.length + b.length) := Lib.hid (by simp; omega)
  have hlen1 : (a.map (Value.int .i64)).length = a.length * 1 := by simp
  have hlen2 : (b.map (Value.int .i64)).length = b.length * 1 := by simp
  have HO := ints_one a
  have HO2 := ints_one b
  obtain ⟨xa, hxa⟩ : ∃ xa, a.map (Value.int .i64) = xa := ⟨_, rfl⟩
  obtain ⟨xb, hxb⟩ : ∃ xb, b.map (Value.int .i64) = xb := ⟨_, rfl⟩
  rw [hxa] at HN1 HJ hlen1 HO
  rw [hxb] at HJ hlen2 HO2
  have HBS := Lib.hid hxb
  have HHO := Lib.hid HO; have HHO2 := Lib.hid HO2; have HL1 := Lib.hid hlen1; have HL2 := Lib.hid hlen2
  have HC2 := Lib.hid hc2
  obtain ⟨J, hJ⟩ : ∃ J, op :: (a ++ b) = J := ⟨_, rfl⟩
  rw [hJ] at HJ HL ⊢
  clear hn1 hxa hxb hJ HO HO2 hlen1 hlen2 hc1 hc2 h h'
  go_enter Tryz.func72, Tryz.ntmps72
  have hM1 : 1 + a.length ≤ maxLen := by unfold maxLen; omega
  have hM2 : 1 + a.length + b.length ≤ maxLen := by unfold maxLen; omega
  have hS1 : (1 + a.length) * 8 ≤ 140737488355328 := by omega
  have hS2 : (1 + a.length + b.length) * 8 ≤ 140737488355328 := by omega
  have HM1 := Lib.hid hM1; have HM2 := Lib.hid hM2; have HS1 := Lib.hid hS1; have HS2 := Lib.hid hS2; have HB0 := Lib.hid hb0
  have HI := Lib.hid hi0; have HZ0 := Lib.hid hz0; have HZ1 := Lib.hid hz1; have HZ2 := Lib.hid hz2
  clear hM1 hM2 hS1 hS2 hb0 hi0 hz0 hz1 hz2
  go_wp2_with (first
    | (at_builtin; refine wpList_append_own _ rfl (.tmp 8) (.tmp 9) 36 rfl w.heap.size 2 i0 (.int .i64 0) 1 8 Tryz.underlying36 HI.out HZ0.out HZ1.out HZ2.out rfl (by decide) _ _ _ rfl H0 ⟨b1, off1, none⟩ a.length c xa rfl HL1.out HN1.out HHO.out HM1.out HS1.out HB0.out.size ?_; intro v1 w1 hown1 hgrow1 _; obtain ⟨HO1, HB1, HN2⟩ := second_news HB0 H0 hown1 hgrow1 HC2 HBS hb2; clear hown1 hgrow1)
    | (at_builtin; refine wpList_append_own _ rfl (.tmp 10) (.tmp 11) 36 rfl w.heap.size 2 i0 (.int .i64 0) 1 8 Tryz.underlying36 HI.out HZ0.out HZ1.out HZ2.out rfl (by decide) _ _ _ rfl HO1.out ⟨b2, off2, none⟩ b.length d xb rfl HL2.out HN2.out HHO2.out HM2.out HS2.out HB1.out.size ?_; intro v2 w2 hown2 hgrow2 _; obtain ⟨A2, c2, rfl, HO2, HB2⟩ := last_news HB1 HO1 hown2 hgrow2 HJ HL; clear hown2 hgrow2))
  go_ret
  exact ⟨_, _, by rw [HL.out]; rfl, HO2.out, HB2.out⟩
end
section
open Go.RowKit

/-- The slice value '.slice A n c' reads as the bytes code, its cells below block B. -/
def RdB (w : World) (B : Nat) (A : Option Addr) (n : Nat) (code : List Int) : Prop :=
  code.length = n ∧ (∀ z ∈ code, 0 ≤ z ∧ z ≤ 255) ∧ (0 < n → ∃ b off, A = some ⟨b, off, none⟩ ∧ b < B ∧ ∀ j, j < n → w.cell? ⟨b, off + j, none⟩ = some (.int .u8 (code.getD j 0)))
theorem RdB.keep {w w' : World} {B n : Nat} {A : Option Addr} {code : List Int} (h : RdB w B A n code) (hk : ∀ p : Addr, p.block < B → w'.cell? p = w.cell? p) : RdB w' B A n code :=
  ⟨h.1, h.2.1, fun hn => by
    obtain ⟨b, off, e, hb, hc⟩ := h.2.2 hn
    exact ⟨b, off, e, hb, fun j hj => (hk _ hb).trans (hc j hj)⟩⟩
theorem grown_alloc (w : World) (o : Obj) (r : Option Nat) : w.grownBy (w.alloc o) r := ⟨rfl, rfl, rfl, by simp, fun k hk _ => Below.heap_alloc w o k hk⟩
/-- What grew by blocks of its own still has turned one row alone. -/
theorem grown_own {w wx w2 : World} {g : Nat} {row : Option Nat} (h : w.grownBy wx (some g)) (h2 : wx.grownBy w2 row) (hr : ∀ q, row = some q → w.heap.size ≤ q) : w.grownBy w2 (some g) :=
  ⟨h2.os.trans h.os, h2.tape.trans h.tape, h2.output.trans h.output, Nat.le_trans h.size h2.size, fun k hk hne => (h2.block k (Nat.lt_of_lt_of_le hk h.size) (fun e => by have := hr k e.symm; omega)).trans (h.block k hk hne)⟩
end
section
open Go.ChangeShapes Go.WideShapes Go.ChangeAt Go.RowKit
end
section
open Go.ChangeAt Go.ChangeShapes Go.RowKit Go.WideShapes

set_option maxHeartbeats 1000000 in
theorem sameInts_any (A B : Option Addr) (n m c d : Nat) (zs ys : List Int) (w : World) (h : RdI w w.heap.size A n zs) (h' : RdI w w.heap.size B m ys) (hn : n ≤ 1048576) (hm : m ≤ 1048576) :
    Calls Tryz.prog 69 #[.slice A n c, .slice B m d] w (Same zs ys w) := by
  have hl := h.len
  have hl' := h'.len
  subst hl hl'
  by_cases hlen : zs.length = ys.length
  · have hd : ((zs.length : Int) != (ys.length : Int)) = false := by simp; omega
    have H := Lib.hid hlen; clear hlen
    go_enter Tryz.func69, Tryz.ntmps69
    go_wp2
    go_loopw [5] (fun i wr => ∃ k : Nat, k ≤ zs.length ∧ i = .int .i64 k ∧ zs.take k = ys.take k ∧ Below w.heap.size w wr) (fun i _ => zs.length - (intOf i).toNat)
    case atStart => exact ⟨0, Nat.zero_le _, rfl, by simp, Below.refl _ _⟩
    case round =>
      obtain ⟨k, hk, rfl, htk, hb⟩ := hrel
      clear hd
      by_cases hlt : k < zs.length
      · have hlt' : k < ys.length := by have := H.out; omega
        obtain ⟨b, off, rfl, hbb, hcells⟩ := h.2 (by omega)
        obtain ⟨b', off', rfl, hbb', hcells'⟩ := h'.2 (by omega)
        have hc := (hb.cell (p := ⟨b, off + k, none⟩) hbb).trans (hcells k hlt)
        have hc' := (hb.cell (p := ⟨b', off' + k, none⟩) hbb').trans (hcells' k hlt')
        have HT := Lib.hid htk; have HB := Lib.hid hb
        clear hcells hcells' htk hb h h'
        by_cases he : zs.getD k 0 = ys.getD k 0
        · have HE := Lib.hid (take_step HT.out hlt hlt' he)
          rw [← he] at hc'
          clear he
          generalize zs.getD k 0 = z at hc hc'
          have hneq : (z != z) = false := by simp
          go_wp2
          go_quiet (fail)
          go_wp2
          go_roundw
          case rel => exact ⟨k + 1, by omega, by go_num, HE.out, below_drewN HB.out _⟩
          case measure => simp [intOf]; omega
        · have HE := Lib.hid (ne_at he)
          have hneq : (zs.getD k 0 != ys.getD k 0) = true := by simpa using he
          clear he
          generalize zs.getD k 0 = z at hc hneq
          generalize ys.getD k 0 = y at hc' hneq
          go_wp2
          go_quiet (fail)
          go_wp2
          go_ret
          exact ⟨ret_no HE.out, below_drewN HB.out _⟩
      · have hkl : k = zs.length := by omega
        subst hkl
        have e : zs = ys := by
          have := htk
          rw [List.take_of_length_le (Nat.le_refl _), List.take_of_length_le (by have := H.out; omega)] at this
          exact this
        have HE := Lib.hid e; have HB := Lib.hid hb
        clear e htk hb
        go_wp2
        go_ret
        exact ⟨ret_yes HE.out, HB.out⟩
  · have hd : ((zs.length : Int) != (ys.length : Int)) = true := by simp; omega
    have HE : Hid (¬ zs = ys) := Lib.hid fun e => hlen (by rw [e])
    clear hlen
    go_enter Tryz.func69, Tryz.ntmps69
    go_wp2
    go_ret
    exact ⟨ret_no HE.out, Below.refl _ _⟩
/-- What a comparison leaves that reads and draws alone. -/
def SameD {α : Type} [DecidableEq α] (zs ys : α) (w : World) (e : Ending) (w' : World) : Prop := e = .returned (.bool (decide (zs = ys))) ∧ ∃ m, w' = w.drewN m
theorem drewN_cell {w wr : World} {p : Addr} {v : Value} (h : ∃ m, wr = w.drewN m) (hc : w.cell? p = some v) : wr.cell? p = some v := by
  obtain ⟨m, rfl⟩ := h
  exact hc
theorem drewN_more {w wr : World} (h : ∃ m, wr = w.drewN m) (k : Nat) : ∃ m, wr.drewN k = w.drewN m := by
  obtain ⟨m, rfl⟩ := h
  exact ⟨m + k, by simp [World.drewN, Nat.add_assoc]⟩
theorem drewN_trans {a b c : World} (h : ∃ m, b = a.drewN m) (h' : ∃ m, c = b.drewN m) : ∃ m, c = a.drewN m := by
  obtain ⟨m, rfl⟩ := h'
  exact drewN_more h m
theorem drewN_below {w wr : World} (h : ∃ m, wr = w.drewN m) (B : Nat) : Below B w wr := by
  obtain ⟨m, rfl⟩ := h
  exact below_drewN (Below.refl _ _) m

set_option maxHeartbeats 1000000 in
theorem eqInts_d (A B : Option Addr) (n m c d : Nat) (zs ys : List Int) (w : World) (P Q : Nat) (h : RdI w P A n zs) (h' : RdI w Q B m ys) (hn : n ≤ 1048576) (hm : m ≤ 1048576) :
    Calls Tryz.prog 29 #[.slice A n c, .slice B m d] w (SameD zs ys w) := by
  have hl := h.len
  have hl' := h'.len
  subst hl hl'
  by_cases hlen : zs.length = ys.length
  · have hd : ((zs.length : Int) != (ys.length : Int)) = false := by simp; omega
    have H := Lib.hid hlen; clear hlen
    go_enter Tryz.func29, Tryz.ntmps29
    go_wp2
    go_loopw [5] (fun i wr => ∃ k : Nat, k ≤ zs.length ∧ i = .int .i64 k ∧ zs.take k = ys.take k ∧ ∃ m, wr = w.drewN m) (fun i _ => zs.length - (intOf i).toNat)
    case atStart => exact ⟨0, Nat.zero_le _, rfl, by simp, 0, rfl⟩
    case round =>
      obtain ⟨k, hk, rfl, htk, hb⟩ := hrel
      clear hd
      by_cases hlt : k < zs.length
      · have hlt' : k < ys.length := by have := H.out; omega
        obtain ⟨b, off, rfl, hbb, hcells⟩ := h.2 (by omega)
        obtain ⟨b', off', rfl, hbb', hcells'⟩ := h'.2 (by omega)
        have hc := drewN_cell hb (hcells k hlt)
        have hc' := drewN_cell hb (hcells' k hlt')
        have HT := Lib.hid htk; have HB := Lib.hid hb
        clear hcells hcells' htk hb h h'
        by_cases he : zs.getD k 0 = ys.getD k 0
        · have HE := Lib.hid (take_step HT.out hlt hlt' he)
          rw [← he] at hc'
          clear he
          generalize zs.getD k 0 = z at hc hc'
          have hneq : (z != z) = false := by simp
          go_wp2
          go_quiet (fail)
          go_wp2
          go_roundw
          case rel => exact ⟨k + 1, by omega, by go_num, HE.out, drewN_more HB.out _⟩
          case measure => simp [intOf]; omega
        · have HE := Lib.hid (ne_at he)
          have hneq : (zs.getD k 0 != ys.getD k 0) = true := by simpa using he
          clear he
          generalize zs.getD k 0 = z at hc hneq
          generalize ys.getD k 0 = y at hc' hneq
          go_wp2
          go_quiet (fail)
          go_wp2
          go_ret
          exact ⟨ret_no HE.out, drewN_more HB.out _⟩
      · have hkl : k = zs.length := by omega
        subst hkl
        have e : zs = ys := by
          have := htk
          rw [List.take_of_length_le (Nat.le_refl _), List.take_of_length_le (by have := H.out; omega)] at this
          exact this
        have HE := Lib.hid e; have HB := Lib.hid hb
        clear e htk hb
        go_wp2
        go_ret
        exact ⟨ret_yes HE.out, HB.out⟩
  · have hd : ((zs.length : Int) != (ys.length : Int)) = true := by simp; omega
    have HE : Hid (¬ zs = ys) := Lib.hid fun e => hlen (by rw [e])
    clear hlen
    go_enter Tryz.func29, Tryz.ntmps29
    go_wp2
    go_ret
    exact ⟨ret_no HE.out, 0, rfl⟩
set_option maxHeartbeats 1000000 in
theorem sameInts_d (A B : Option Addr) (n m c d : Nat) (zs ys : List Int) (w : World) (P Q : Nat) (h : RdI w P A n zs) (h' : RdI w Q B m ys) (hn : n ≤ 1048576) (hm : m ≤ 1048576) :
    Calls Tryz.prog 69 #[.slice A n c, .slice B m d] w (SameD zs ys w) := by
  have hl := h.len
  have hl' := h'.len
  subst hl hl'
  by_cases hlen : zs.length = ys.length
  · have hd : ((zs.length : Int) != (ys.length : Int)) = false := by simp; omega
    have H := Lib.hid hlen; clear hlen
    go_enter Tryz.func69, Tryz.ntmps69
    go_wp2
    go_loopw [5] (fun i wr => ∃ k : Nat, k ≤ zs.length ∧ i = .int .i64 k ∧ zs.take k = ys.take k ∧ ∃ m, wr = w.drewN m) (fun i _ => zs.length - (intOf i).toNat)
    case atStart => exact ⟨0, Nat.zero_le _, rfl, by simp, 0, rfl⟩
    case round =>
      obtain ⟨k, hk, rfl, htk, hb⟩ := hrel
      clear hd
      by_cases hlt : k < zs.length
      · have hlt' : k < ys.length := by have := H.out; omega
        obtain ⟨b, off, rfl, hbb, hcells⟩ := h.2 (by omega)
        obtain ⟨b', off', rfl, hbb', hcells'⟩ := h'.2 (by omega)
        have hc := drewN_cell hb (hcells k hlt)
        have hc' := drewN_cell hb (hcells' k hlt')
        have HT := Lib.hid htk; have HB := Lib.hid hb
        clear hcells hcells' htk hb h h'
        by_cases he : zs.getD k 0 = ys.getD k 0
        · have HE := Lib.hid (take_step HT.out hlt hlt' he)
          rw [← he] at hc'
          clear he
          generalize zs.getD k 0 = z at hc hc'
          have hneq : (z != z) = false := by simp
          go_wp2
          go_quiet (fail)
          go_wp2
          go_roundw
          case rel => exact ⟨k + 1, by omega, by go_num, HE.out, drewN_more HB.out _⟩
          case measure => simp [intOf]; omega
        · have HE := Lib.hid (ne_at he)
          have hneq : (zs.getD k 0 != ys.getD k 0) = true := by simpa using he
          clear he
          generalize zs.getD k 0 = z at hc hneq
          generalize ys.getD k 0 = y at hc' hneq
          go_wp2
          go_quiet (fail)
          go_wp2
          go_ret
          exact ⟨ret_no HE.out, drewN_more HB.out _⟩
      · have hkl : k = zs.length := by omega
        subst hkl
        have e : zs = ys := by
          have := htk
          rw [List.take_of_length_le (Nat.le_refl _), List.take_of_length_le (by have := H.out; omega)] at this
          exact this
        have HE := Lib.hid e; have HB := Lib.hid hb
        clear e htk hb
        go_wp2
        go_ret
        exact ⟨ret_yes HE.out, HB.out⟩
  · have hd : ((zs.length : Int) != (ys.length : Int)) = true := by simp; omega
    have HE : Hid (¬ zs = ys) := Lib.hid fun e => hlen (by rw [e])
    clear hlen
    go_enter Tryz.func69, Tryz.ntmps69
    go_wp2
    go_ret
    exact ⟨ret_no HE.out, 0, rfl⟩
set_option maxHeartbeats 1000000 in
theorem equal_d (A B : Option Addr) (n m c d : Nat) (zs ys : List Int) (w : World) (P Q : Nat) (h : RdI w P A n zs) (h' : RdI w Q B m ys) (hn : n ≤ 1048576) (hm : m ≤ 1048576) :
    Calls Tryz.prog 102 #[.slice A n c, .slice B m d] w (SameD zs ys w) := by
  have hl := h.len
  have hl' := h'.len
  subst hl hl'
  by_cases hlen : zs.length = ys.length
  · have hd : ((zs.length : Int) != (ys.length : Int)) = false := by simp; omega
    have H := Lib.hid hlen; clear hlen
    go_enter Tryz.func102, Tryz.ntmps102
    go_wp2
    go_loopw [13] (fun i wr => ∃ k : Nat, k ≤ zs.length ∧ i = .int .i64 k ∧ zs.take k = ys.take k ∧ ∃ m, wr = w.drewN m) (fun i _ => zs.length - (intOf i).toNat)
    case atStart => exact ⟨0, Nat.zero_le _, rfl, by simp, 0, rfl⟩
    case round =>
      obtain ⟨k, hk, rfl, htk, hb⟩ := hrel
      clear hd
      by_cases hlt : k < zs.length
      · have hlt' : k < ys.length := by have := H.out; omega
        obtain ⟨b, off, rfl, hbb, hcells⟩ := h.2 (by omega)
        obtain ⟨b', off', rfl, hbb', hcells'⟩ := h'.2 (by omega)
        have hc := drewN_cell hb (hcells k hlt)
        have hc' := drewN_cell hb (hcells' k hlt')
        have HT := Lib.hid htk; have HB := Lib.hid hb
        clear hcells hcells' htk hb h h'
        by_cases he : zs.getD k 0 = ys.getD k 0
        · have HE := Lib.hid (take_step HT.out hlt hlt' he)
          rw [← he] at hc'
          clear he
          generalize zs.getD k 0 = z at hc hc'
          have hneq : (z != z) = false := by simp
          go_wp2
          go_quiet (fail)
          go_wp2
          go_roundw
          case rel => exact ⟨k + 1, by omega, by go_num, HE.out, drewN_more HB.out _⟩
          case measure => simp [intOf]; omega
        · have HE := Lib.hid (ne_at he)
          have hneq : (zs.getD k 0 != ys.getD k 0) = true := by simpa using he
          clear he
          generalize zs.getD k 0 = z at hc hneq
          generalize ys.getD k 0 = y at hc' hneq
          go_wp2
          go_quiet (fail)
          go_wp2
          go_ret
          exact ⟨ret_no HE.out, drewN_more HB.out _⟩
      · have hkl : k = zs.length := by omega
        subst hkl
        have e : zs = ys := by
          have := htk
          rw [List.take_of_length_le (Nat.le_refl _), List.take_of_length_le (by have := H.out; omega)] at this
          exact this
        have HE := Lib.hid e; have HB := Lib.hid hb
        clear e htk hb
        go_wp2
        go_ret
        exact ⟨ret_yes HE.out, HB.out⟩
  · have hd : ((zs.length : Int) != (ys.length : Int)) = true := by simp; omega
    have HE : Hid (¬ zs = ys) := Lib.hid fun e => hlen (by rw [e])
    clear hlen
    go_enter Tryz.func102, Tryz.ntmps102
    go_wp2
    go_ret
    exact ⟨ret_no HE.out, 0, rfl⟩
end
section
open Go.RowKit

theorem ret_bool' {a b : Bool} (h : a = b) : Ending.returned (.bool a) = .returned (.bool b) := by rw [h]
end
end Go.Proofs.YthbkcpacgnmcfaaGreatDoor
