/- The laws' own helpers: the copy of a slice, the comparison of two. -/
import Derived.Test.YtjfhbofgnagfaaaDoorMath
import Derived.WalkKit
import Derived.WalkSpells
import Derived.WalkLawsBesides
import Derived.BigQuiet
import Derived.Deep.QuietTactic
import Derived.Lib.Hide
import Derived.WalkSmall
namespace Go.Proofs.YtjfhbofgnagfaaaDoor
open Go.RowKit

theorem info_i64 : (Tryd.prog.info? 2).map (fun i => (i.zero, i.size, i.bytes)) = some (some (.int .i64 0), 1, 8) := by kernel_rfl

theorem own_below {w w' : World} {B base n size : Nat} {e : TypeId} {v : Value} {xs : List Value} (h : w.ownsRow base e size v n xs) (hb : Below B w w') (hB : w.heap.size ≤ B) : w'.ownsRow base e size v n xs := by
  obtain ⟨h1, h2⟩ := h
  refine ⟨h1, ?_⟩
  rcases h2 with h2 | ⟨g, cap, cur, hv, hg, hh, r⟩
  · exact .inl h2
  · refine .inr ⟨g, cap, cur, hv, hg, ?_, r⟩
    have hlt : g < w.heap.size := by
      rcases Nat.lt_or_ge g w.heap.size with hlt | hge
      · exact hlt
      · rw [Array.getElem?_eq_none hge] at hh; cases hh
    rw [hb.block g (by omega)]; exact hh

/-- How far the copy has come. -/
def cpy (zs : List Int) (k : Nat) : List Value := (zs.take k).map (Value.int .i64) ++ List.replicate (zs.length - k) (.int .i64 0)
theorem cpy_zero (zs : List Int) : List.replicate zs.length (Value.int .i64 0) = cpy zs 0 := by simp [cpy]
theorem cpy_all (zs : List Int) : cpy zs zs.length = zs.map (Value.int .i64) := by simp [cpy]
theorem cpy_len (zs : List Int) (k : Nat) (h : k ≤ zs.length) : (cpy zs k).length = zs.length := by simp [cpy]; omega
theorem cpy_step (zs : List Int) (k : Nat) (h : k < zs.length) : (cpy zs k).set k (.int .i64 (zs.getD k 0)) = cpy zs (k + 1) := by
  unfold cpy
  rw [List.set_append_right _ _ (by simp; omega)]
  have e1 : k - (List.map (Value.int .i64) (List.take k zs)).length = 0 := by simp; omega
  rw [e1]
  have e2 : zs.length - k = (zs.length - (k + 1)) + 1 := by omega
  rw [e2, List.replicate_succ, List.set_cons_zero]
  rw [List.take_succ_eq_append_getElem h, List.map_append, List.append_assoc]
  have e3 : zs.getD k 0 = zs[k] := by simp [List.getD, h]
  rw [e3]
  rfl

/-- What the copy of a slice leaves: a row of its own, new, that holds the numbers. -/
def Copied (w : World) (n : Nat) (zs : List Int) (e : Ending) (w' : World) : Prop :=
  e = .returned (.slice (some ⟨w.heap.size, 0, none⟩) n n) ∧ w'.ownsRow w.heap.size 2 1 (.slice (some ⟨w.heap.size, 0, none⟩) n n) n (zs.map (Value.int .i64)) ∧ Below w.heap.size w w'

set_option maxHeartbeats 1000000 in
theorem toInts_any (A : Option Addr) (n c : Nat) (zs : List Int) (w : World) (h : RdI w w.heap.size A n zs) (hn : n ≤ 1048576) :
    Calls Tryd.prog 46 #[.slice A n c] w (Copied w n zs) := by
  obtain ⟨i0, hi0, hz0, hz1, hz2⟩ := info_parts info_i64
  have hl := h.len
  subst hl
  go_enter Tryd.func46, Tryd.ntmps46
  have b2 : i0.bytes * zs.length ≤ 281474976710656 := by rw [hz2]; omega
  have b3 : zs.length ≤ maxLen := by unfold maxLen; omega
  go_wp2_with (at_make; refine wpList_make_full _ rfl _ _ _ rfl w.heap.size 2 i0 (.int .i64 0) 1 Tryd.underlying26 hi0 hz0 hz1 _ _ _ _ zs.length rfl rfl rfl rfl b2 b3 (Nat.le_refl _) ?_; intro w1 hown hg)
  have hbel : Below w.heap.size w w1 := (Below.refl _ _).grown hg (Nat.le_refl _) (by intro k hk; cases hk)
  have hown1 : w1.ownsRow w.heap.size 2 1 (.slice (some ⟨w.heap.size, 0, none⟩) zs.length zs.length) zs.length (cpy zs 0) := by
    rw [← cpy_zero, ← toList_madeCells_one]; simpa [Value.cells] using hown
  clear hg hown b2 b3 hi0 hz0 hz1 hz2
  go_loopw [4] (fun i wr => ∃ k : Nat, k ≤ zs.length ∧ i = .int .i64 k ∧ wr.ownsRow w.heap.size 2 1 (.slice (some ⟨w.heap.size, 0, none⟩) zs.length zs.length) zs.length (cpy zs k) ∧ Below w.heap.size w wr)
    (fun i _ => zs.length - (intOf i).toNat)
  case atStart => exact ⟨0, Nat.zero_le _, rfl, hown1, hbel⟩
  case round =>
    obtain ⟨k, hk, rfl, hown, hb⟩ := hrel
    clear hown1 hbel
    by_cases hlt : k < zs.length
    · obtain ⟨b, off, rfl, hbb, hcells⟩ := h.2 (by omega)
      have hc := (hb.cell (p := ⟨b, off + k, none⟩) hbb).trans (hcells k hlt)
      have hf := hown.frozenAt k
      have ho : wr.cell? ⟨w.heap.size, k, none⟩ = some ((cpy zs k)[k]'(by rw [cpy_len zs k hk]; exact hlt)) := by
        rw [hown.cellAt k (by omega)]; exact List.getElem?_eq_getElem _
      have hst := (hown.stored k (.int .i64 (zs.getD k 0))).1
      rw [cpy_step zs k hlt] at hst
      have hbs := hb.setCell (p := ⟨w.heap.size, k, none⟩) (Nat.le_refl _) (.int .i64 (zs.getD k 0))
      obtain ⟨z, hz⟩ : ∃ z, zs.getD k 0 = z := ⟨_, rfl⟩
      obtain ⟨o, hoo⟩ : ∃ o, ((cpy zs k)[k]'(by rw [cpy_len zs k hk]; exact hlt)) = o := ⟨_, rfl⟩
      rw [hz] at hc hst hbs
      rw [hoo] at ho
      have HS := Lib.hid hst; have HB := Lib.hid hbs
      clear hst hbs hz hoo hown hb hcells
      go_wp2
      go_roundw
      case rel => exact ⟨k + 1, by omega, by go_num, HS.out, HB.out⟩
      case measure => simp [intOf]; omega
    · have hkl : k = zs.length := by omega
      subst hkl
      rw [cpy_all] at hown
      have HS := Lib.hid hown; have HB := Lib.hid hb
      clear hown hb
      go_wp2
      go_ret
      exact ⟨rfl, HS.out, HB.out⟩

/-- What the comparison of two slices leaves. -/
def Same (zs ys : List Int) (w : World) (e : Ending) (w' : World) : Prop := e = .returned (.bool (decide (zs = ys))) ∧ Below w.heap.size w w'

theorem ret_no {p : Prop} [Decidable p] (h : ¬ p) : Ending.returned (.bool false) = Ending.returned (.bool (decide p)) := by rw [decide_eq_false h]
theorem ret_yes {p : Prop} [Decidable p] (h : p) : Ending.returned (.bool true) = Ending.returned (.bool (decide p)) := by rw [decide_eq_true h]
theorem take_step {zs ys : List Int} {k : Nat} (h : zs.take k = ys.take k) (hz : k < zs.length) (hy : k < ys.length) (he : zs.getD k 0 = ys.getD k 0) : zs.take (k + 1) = ys.take (k + 1) := by
  rw [List.take_succ_eq_append_getElem hz, List.take_succ_eq_append_getElem hy, h]
  simp [List.getD, hz, hy] at he
  rw [he]
theorem ne_at {zs ys : List Int} {k : Nat} (he : ¬ zs.getD k 0 = ys.getD k 0) : ¬ zs = ys := fun h => he (by rw [h])

set_option maxHeartbeats 1000000 in
theorem eqInts_any (A B : Option Addr) (n m c d : Nat) (zs ys : List Int) (w : World) (h : RdI w w.heap.size A n zs) (h' : RdI w w.heap.size B m ys) (hn : n ≤ 1048576) (hm : m ≤ 1048576) :
    Calls Tryd.prog 42 #[.slice A n c, .slice B m d] w (Same zs ys w) := by
  have hl := h.len
  have hl' := h'.len
  subst hl hl'
  by_cases hlen : zs.length = ys.length
  · have hd : ((zs.length : Int) != (ys.length : Int)) = false := by simp; omega
    have H := Lib.hid hlen; clear hlen
    go_enter Tryd.func42, Tryd.ntmps42
    go_wp2
    go_loopw [5] (fun i wr => ∃ k : Nat, k ≤ zs.length ∧ i = .int .i64 k ∧ zs.take k = ys.take k ∧ Below w.heap.size w wr) (fun i _ => zs.length - (intOf i).toNat)
    case atStart => exact ⟨0, Nat.zero_le _, rfl, by simp, Below.refl _ _⟩
    case round =>
      obtain ⟨k, hk, rfl, htk, hb⟩ := hrel
      clear hd
      by_cases hlt : k < zs.length
      · have hlt' : k < ys.length := by have := H.out; omega
        obtain ⟨b, off, rfl, hbb, hcells⟩ := h.2 (by omega)
        obtain ⟨b', off', rfl, hbb', hcells'⟩ := h'.2 (by omega)
        have hc := (hb.cell (p := ⟨b, off + k, none⟩) hbb).trans (hcells k hlt)
        have hc' := (hb.cell (p := ⟨b', off' + k, none⟩) hbb').trans (hcells' k hlt')
        have HT := Lib.hid htk; have HB := Lib.hid hb
        clear hcells hcells' htk hb h h'
        by_cases he : zs.getD k 0 = ys.getD k 0
        · have HE := Lib.hid (take_step HT.out hlt hlt' he)
          rw [← he] at hc'
          clear he
          generalize zs.getD k 0 = z at hc hc'
          have hneq : (z != z) = false := by simp
          go_wp2
          go_quiet (fail)
          go_wp2
          go_roundw
          case rel => exact ⟨k + 1, by omega, by go_num, HE.out, below_drewN HB.out _⟩
          case measure => simp [intOf]; omega
        · have HE := Lib.hid (ne_at he)
          have hneq : (zs.getD k 0 != ys.getD k 0) = true := by simpa using he
          clear he
          generalize zs.getD k 0 = z at hc hneq
          generalize ys.getD k 0 = y at hc' hneq
          go_wp2
          go_quiet (fail)
          go_wp2
          go_ret
          exact ⟨ret_no HE.out, below_drewN HB.out _⟩
      · have hkl : k = zs.length := by omega
        subst hkl
        have e : zs = ys := by
          have := htk
          rw [List.take_of_length_le (Nat.le_refl _), List.take_of_length_le (by have := H.out; omega)] at this
          exact this
        have HE := Lib.hid e; have HB := Lib.hid hb
        clear e htk hb
        go_wp2
        go_ret
        exact ⟨ret_yes HE.out, HB.out⟩
  · have hd : ((zs.length : Int) != (ys.length : Int)) = true := by simp; omega
    have HE : Hid (¬ zs = ys) := Lib.hid fun e => hlen (by rw [e])
    clear hlen
    go_enter Tryd.func42, Tryd.ntmps42
    go_wp2
    go_ret
    exact ⟨ret_no HE.out, Below.refl _ _⟩
end Go.Proofs.YtjfhbofgnagfaaaDoor
