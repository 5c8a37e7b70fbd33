/- What the laws over a code share: its bytes opened, its length asked, two lists compared. Two lists compared: slices.Equal, and the model's sameInts. Two slices of integers compared, with the very world behind the call: the laws' helper, the model's, slices.Equal. The order of formulas: of the program and of the model. -/
import Derived.Test.YtdcommmefehlgaaDoorAny
import Derived.Test.YtdcommmefehlgaaDoorQDual
import Derived.Test.YtdcommmefehlgaaDoorQValid
namespace Go.Proofs.YtdcommmefehlgaaDoor
set_option linter.unusedSimpArgs false
set_option linter.unusedVariables false
section
open Go.ChangeShapes Go.WideShapes Go.ChangeAt Go.RowKit
end
section
open Go.ChangeAt Go.ChangeShapes Go.RowKit Go.WideShapes

set_option maxHeartbeats 1000000 in
theorem sameInts_any (A B : Option Addr) (n m c d : Nat) (zs ys : List Int) (w : World) (h : RdI w w.heap.size A n zs) (h' : RdI w w.heap.size B m ys) (hn : n ≤ 1048576) (hm : m ≤ 1048576) :
    Calls Tryd.prog 90 #[.slice A n c, .slice B m d] w (Same zs ys w) := by
  have hl := h.len
  have hl' := h'.len
  subst hl hl'
  by_cases hlen : zs.length = ys.length
  · have hd : ((zs.length : Int) != (ys.length : Int)) = false := by simp; omega
    have H := Lib.hid hlen; clear hlen
    go_enter Tryd.func90, Tryd.ntmps90
    go_wp2
    go_loopw [5] (fun i wr => ∃ k : Nat, k ≤ zs.length ∧ i = .int .i64 k ∧ zs.take k = ys.take k ∧ Below w.heap.size w wr) (fun i _ => zs.length - (intOf i).toNat)
    case atStart => exact ⟨0, Nat.zero_le _, rfl, by simp, Below.refl _ _⟩
    case round =>
      obtain ⟨k, hk, rfl, htk, hb⟩ := hrel
      clear hd
      by_cases hlt : k < zs.length
      · have hlt' : k < ys.length := by have := H.out; omega
        obtain ⟨b, off, rfl, hbb, hcells⟩ := h.2 (by omega)
        obtain ⟨b', off', rfl, hbb', hcells'⟩ := h'.2 (by omega)
        have hc := (hb.cell (p := ⟨b, off + k, none⟩) hbb).trans (hcells k hlt)
        have hc' := (hb.cell (p := ⟨b', off' + k, none⟩) hbb').trans (hcells' k hlt')
        have HT := Lib.hid htk; have HB := Lib.hid hb
        clear hcells hcells' htk hb h h'
        by_cases he : zs.getD k 0 = ys.getD k 0
        · have HE := Lib.hid (take_step HT.out hlt hlt' he)
          rw [← he] at hc'
          clear he
          generalize zs.getD k 0 = z at hc hc'
          have hneq : (z != z) = false := by simp
          go_wp2
          go_quiet (fail)
          go_wp2
          go_roundw
          case rel => exact ⟨k + 1, by omega, by go_num, HE.out, below_drewN HB.out _⟩
          case measure => simp [intOf]; omega
        · have HE := Lib.hid (ne_at he)
          have hneq : (zs.getD k 0 != ys.getD k 0) = true := by simpa using he
          clear he
          generalize zs.getD k 0 = z at hc hneq
          generalize ys.getD k 0 = y at hc' hneq
          go_wp2
          go_quiet (fail)
          go_wp2
          go_ret
          exact ⟨ret_no HE.out, below_drewN HB.out _⟩
      · have hkl : k = zs.length := by omega
        subst hkl
        have e : zs = ys := by
          have := htk
          rw [List.take_of_length_le (Nat.le_refl _), List.take_of_length_le (by have := H.out; omega)] at this
          exact this
        have HE := Lib.hid e; have HB := Lib.hid hb
        clear e htk hb
        go_wp2
        go_ret
        exact ⟨ret_yes HE.out, HB.out⟩
  · have hd : ((zs.length : Int) != (ys.length : Int)) = true := by simp; omega
    have HE : Hid (¬ zs = ys) := Lib.hid fun e => hlen (by rw [e])
    clear hlen
    go_enter Tryd.func90, Tryd.ntmps90
    go_wp2
    go_ret
    exact ⟨ret_no HE.out, Below.refl _ _⟩
/-- What a comparison leaves that reads and draws alone. -/
def SameD {α : Type} [DecidableEq α] (zs ys : α) (w : World) (e : Ending) (w' : World) : Prop := e = .returned (.bool (decide (zs = ys))) ∧ ∃ m, w' = w.drewN m
theorem drewN_cell {w wr : World} {p : Addr} {v : Value} (h : ∃ m, wr = w.drewN m) (hc : w.cell? p = some v) : wr.cell? p = some v := by
  obtain ⟨m, rfl⟩ := h
  exact hc
theorem drewN_more {w wr : World} (h : ∃ m, wr = w.drewN m) (k : Nat) : ∃ m, wr.drewN k = w.drewN m := by
  obtain ⟨m, rfl⟩ := h
  exact ⟨m + k, by simp [World.drewN, Nat.add_assoc]⟩
theorem drewN_below {w wr : World} (h : ∃ m, wr = w.drewN m) (B : Nat) : Below B w wr := by
  obtain ⟨m, rfl⟩ := h
  exact below_drewN (Below.refl _ _) m

set_option maxHeartbeats 1000000 in
theorem eqInts_d (A B : Option Addr) (n m c d : Nat) (zs ys : List Int) (w : World) (P Q : Nat) (h : RdI w P A n zs) (h' : RdI w Q B m ys) (hn : n ≤ 1048576) (hm : m ≤ 1048576) :
    Calls Tryd.prog 20 #[.slice A n c, .slice B m d] w (SameD zs ys w) := by
  have hl := h.len
  have hl' := h'.len
  subst hl hl'
  by_cases hlen : zs.length = ys.length
  · have hd : ((zs.length : Int) != (ys.length : Int)) = false := by simp; omega
    have H := Lib.hid hlen; clear hlen
    go_enter Tryd.func20, Tryd.ntmps20
    go_wp2
    go_loopw [5] (fun i wr => ∃ k : Nat, k ≤ zs.length ∧ i = .int .i64 k ∧ zs.take k = ys.take k ∧ ∃ m, wr = w.drewN m) (fun i _ => zs.length - (intOf i).toNat)
    case atStart => exact ⟨0, Nat.zero_le _, rfl, by simp, 0, rfl⟩
    case round =>
      obtain ⟨k, hk, rfl, htk, hb⟩ := hrel
      clear hd
      by_cases hlt : k < zs.length
      · have hlt' : k < ys.length := by have := H.out; omega
        obtain ⟨b, off, rfl, hbb, hcells⟩ := h.2 (by omega)
        obtain ⟨b', off', rfl, hbb', hcells'⟩ := h'.2 (by omega)
        have hc := drewN_cell hb (hcells k hlt)
        have hc' := drewN_cell hb (hcells' k hlt')
        have HT := Lib.hid htk; have HB := Lib.hid hb
        clear hcells hcells' htk hb h h'
        by_cases he : zs.getD k 0 = ys.getD k 0
        · have HE := Lib.hid (take_step HT.out hlt hlt' he)
          rw [← he] at hc'
          clear he
          generalize zs.getD k 0 = z at hc hc'
          have hneq : (z != z) = false := by simp
          go_wp2
          go_quiet (fail)
          go_wp2
          go_roundw
          case rel => exact ⟨k + 1, by omega, by go_num, HE.out, drewN_more HB.out _⟩
          case measure => simp [intOf]; omega
        · have HE := Lib.hid (ne_at he)
          have hneq : (zs.getD k 0 != ys.getD k 0) = true := by simpa using he
          clear he
          generalize zs.getD k 0 = z at hc hneq
          generalize ys.getD k 0 = y at hc' hneq
          go_wp2
          go_quiet (fail)
          go_wp2
          go_ret
          exact ⟨ret_no HE.out, drewN_more HB.out _⟩
      · have hkl : k = zs.length := by omega
        subst hkl
        have e : zs = ys := by
          have := htk
          rw [List.take_of_length_le (Nat.le_refl _), List.take_of_length_le (by have := H.out; omega)] at this
          exact this
        have HE := Lib.hid e; have HB := Lib.hid hb
        clear e htk hb
        go_wp2
        go_ret
        exact ⟨ret_yes HE.out, HB.out⟩
  · have hd : ((zs.length : Int) != (ys.length : Int)) = true := by simp; omega
    have HE : Hid (¬ zs = ys) := Lib.hid fun e => hlen (by rw [e])
    clear hlen
    go_enter Tryd.func20, Tryd.ntmps20
    go_wp2
    go_ret
    exact ⟨ret_no HE.out, 0, rfl⟩
set_option maxHeartbeats 1000000 in
theorem equal_d (A B : Option Addr) (n m c d : Nat) (zs ys : List Int) (w : World) (P Q : Nat) (h : RdI w P A n zs) (h' : RdI w Q B m ys) (hn : n ≤ 1048576) (hm : m ≤ 1048576) :
    Calls Tryd.prog 93 #[.slice A n c, .slice B m d] w (SameD zs ys w) := by
  have hl := h.len
  have hl' := h'.len
  subst hl hl'
  by_cases hlen : zs.length = ys.length
  · have hd : ((zs.length : Int) != (ys.length : Int)) = false := by simp; omega
    have H := Lib.hid hlen; clear hlen
    go_enter Tryd.func93, Tryd.ntmps93
    go_wp2
    go_loopw [13] (fun i wr => ∃ k : Nat, k ≤ zs.length ∧ i = .int .i64 k ∧ zs.take k = ys.take k ∧ ∃ m, wr = w.drewN m) (fun i _ => zs.length - (intOf i).toNat)
    case atStart => exact ⟨0, Nat.zero_le _, rfl, by simp, 0, rfl⟩
    case round =>
      obtain ⟨k, hk, rfl, htk, hb⟩ := hrel
      clear hd
      by_cases hlt : k < zs.length
      · have hlt' : k < ys.length := by have := H.out; omega
        obtain ⟨b, off, rfl, hbb, hcells⟩ := h.2 (by omega)
        obtain ⟨b', off', rfl, hbb', hcells'⟩ := h'.2 (by omega)
        have hc := drewN_cell hb (hcells k hlt)
        have hc' := drewN_cell hb (hcells' k hlt')
        have HT := Lib.hid htk; have HB := Lib.hid hb
        clear hcells hcells' htk hb h h'
        by_cases he : zs.getD k 0 = ys.getD k 0
        · have HE := Lib.hid (take_step HT.out hlt hlt' he)
          rw [← he] at hc'
          clear he
          generalize zs.getD k 0 = z at hc hc'
          have hneq : (z != z) = false := by simp
          go_wp2
          go_quiet (fail)
          go_wp2
          go_roundw
          case rel => exact ⟨k + 1, by omega, by go_num, HE.out, drewN_more HB.out _⟩
          case measure => simp [intOf]; omega
        · have HE := Lib.hid (ne_at he)
          have hneq : (zs.getD k 0 != ys.getD k 0) = true := by simpa using he
          clear he
          generalize zs.getD k 0 = z at hc hneq
          generalize ys.getD k 0 = y at hc' hneq
          go_wp2
          go_quiet (fail)
          go_wp2
          go_ret
          exact ⟨ret_no HE.out, drewN_more HB.out _⟩
      · have hkl : k = zs.length := by omega
        subst hkl
        have e : zs = ys := by
          have := htk
          rw [List.take_of_length_le (Nat.le_refl _), List.take_of_length_le (by have := H.out; omega)] at this
          exact this
        have HE := Lib.hid e; have HB := Lib.hid hb
        clear e htk hb
        go_wp2
        go_ret
        exact ⟨ret_yes HE.out, HB.out⟩
  · have hd : ((zs.length : Int) != (ys.length : Int)) = true := by simp; omega
    have HE : Hid (¬ zs = ys) := Lib.hid fun e => hlen (by rw [e])
    clear hlen
    go_enter Tryd.func93, Tryd.ntmps93
    go_wp2
    go_ret
    exact ⟨ret_no HE.out, 0, rfl⟩
end
section
open Go.RowKit

theorem ret_bool' {a b : Bool} (h : a = b) : Ending.returned (.bool a) = .returned (.bool b) := by rw [h]
end
end Go.Proofs.YtdcommmefehlgaaDoor
