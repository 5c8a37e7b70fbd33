/- The laws' dice: any numbers; what is asked is that a throw ends and turns nothing but the dice. -/
import Derived.Test.YtdcommmefehlgaaDoorQBytes
namespace Go.Proofs.YtdcommmefehlgaaDoor
set_option linter.unusedSimpArgs false
set_option linter.unusedVariables false
open Go.RowKit

/-- The dice in block q, made of a code. -/
def DiceS (w : World) (q : Nat) (A : Option Addr) (n c : Nat) (code : List Int) : Prop :=
  RdB w q A n code ∧ n ≤ 4096 ∧ ∃ (i : Nat) (h : Int), i ≤ n ∧ w.heap[q]? = some (.cells #[.slice A n c, .int .i64 i, .int .u64 h] 88 (0, 0))
theorem row_lt {w : World} {q : Nat} {o : Obj} (h : w.heap[q]? = some o) : q < w.heap.size := by
  rcases Nat.lt_or_ge q w.heap.size with hlt | hge
  · exact hlt
  · rw [Array.getElem?_eq_none hge] at h; cases h
theorem DiceS.lt {w : World} {q n c : Nat} {A : Option Addr} {code : List Int} (h : DiceS w q A n c code) : q < w.heap.size := by
  obtain ⟨_, _, _, _, _, hh⟩ := h; exact row_lt hh
theorem DiceS.below {w w' : World} {q n c : Nat} {A : Option Addr} {code : List Int} (h : DiceS w q A n c code) (hb : Below w.heap.size w w') : DiceS w' q A n c code := by
  have hl := h.lt
  obtain ⟨h1, h2, i, v, h3, hh⟩ := h
  exact ⟨h1.keep (fun p hp => hb.cell (by omega)), h2, i, v, h3, (hb.block q hl).trans hh⟩
theorem DiceS.set_ {w : World} {q n c i j : Nat} {A : Option Addr} {code : List Int} {v : Int} {u : Value} {i' : Nat} {v' : Int} (h1 : RdB w q A n code) (h2 : n ≤ 4096) (hh : w.heap[q]? = some (.cells #[.slice A n c, .int .i64 i, .int .u64 v] 88 (0, 0)))
    (hu : (#[.slice A n c, .int .i64 i, .int .u64 v] : Array Value).setIfInBounds j u = #[.slice A n c, .int .i64 i', .int .u64 v']) (hi : i' ≤ n) : DiceS (w.setCell ⟨q, j, none⟩ u) q A n c code ∧ w.grownBy (w.setCell ⟨q, j, none⟩ u) (some q) := by
  have hset := heap_setCell_same w q j _ _ u hh
  rw [hu] at hset
  have hg : w.grownBy (w.setCell ⟨q, j, none⟩ u) (some q) := ⟨rfl, rfl, rfl, by simp [World.setCell], fun k _ hk => heap_setCell_other w ⟨q, j, none⟩ k u (fun e => hk (by simp [e]))⟩
  exact ⟨⟨h1.keep (fun p hp => World.cell?_of_block (w := w) (hg.block p.block (Nat.lt_trans hp (row_lt hh)) (by intro e; injection e with e; omega))), h2, i', v', hi, hset⟩, hg⟩
theorem DiceS.drewN {w : World} {q n c : Nat} {A : Option Addr} {code : List Int} (h : DiceS w q A n c code) (m : Nat) : DiceS (w.drewN m) q A n c code := h

theorem DiceS.put1 {w : World} {q n c i' : Nat} {A : Option Addr} {code : List Int} {z : Int} (h : DiceS w q A n c code) (hi : i' ≤ n) (hz : z = (i' : Int)) : DiceS (w.setCell ⟨q, 1, none⟩ (.int .i64 z)) q A n c code ∧ w.grownBy (w.setCell ⟨q, 1, none⟩ (.int .i64 z)) (some q) := by
  subst hz
  obtain ⟨h1, h2, i, v, h3, hh⟩ := h
  exact DiceS.set_ (j := 1) (u := .int .i64 i') (i' := i') (v' := v) h1 h2 hh (by simp) hi
theorem DiceS.put2 {w : World} {q n c : Nat} {A : Option Addr} {code : List Int} (h : DiceS w q A n c code) (z : Int) : DiceS (w.setCell ⟨q, 2, none⟩ (.int .u64 z)) q A n c code ∧ w.grownBy (w.setCell ⟨q, 2, none⟩ (.int .u64 z)) (some q) := by
  obtain ⟨h1, h2, i, v, h3, hh⟩ := h
  exact DiceS.set_ (j := 2) (u := .int .u64 z) (i' := i) (v' := z) h1 h2 hh (by simp) h3
theorem grown_drewN {w w' : World} {r : Option Nat} (h : w.grownBy w' r) (m : Nat) : w.grownBy (w'.drewN m) r := ⟨h.os, h.tape, h.output, h.size, h.block⟩

set_option maxRecDepth 100000 in
set_option maxHeartbeats 2000000 in
theorem roll_any (A : Option Addr) (n c : Nat) (code : List Int) (seed : Int) (w : World) (h : RdB w w.heap.size A n code) (hn : n ≤ 4096) :
    Calls Tryd.prog 30 #[.slice A n c, .int .u64 seed] w fun e w' => e = .returned (.pointer (some ⟨w.heap.size, 0, none⟩)) ∧ DiceS w' w.heap.size A n c code ∧ Below w.heap.size w w' := by
  go_enter Tryd.func30, Tryd.ntmps30
  go_wp2
  go_loopw [6] (fun i wr => ∃ (k : Nat), k ≤ n ∧ i = .int .i64 k ∧ DiceS wr w.heap.size A n c code ∧ Below w.heap.size w wr) (fun i _ => n - (intOf i).toNat)
  case atStart =>
    refine ⟨0, Nat.zero_le _, rfl, ⟨h.keep (fun p hp => ((Below.refl _ _).alloc (Nat.le_refl _) _ : Below w.heap.size w (w.alloc _)).cell hp), hn, 0, _, Nat.zero_le _, heap_alloc_new w _⟩, (Below.refl _ _).alloc (Nat.le_refl _) _⟩
  case round =>
    obtain ⟨k, hk, rfl, hD, hb⟩ := hrel
    have HD := Lib.hid hD
    have HB := Lib.hid hb
    obtain ⟨h1, h2, i0, s, h3, hh⟩ := hD
    have c0 : wr.cell? ⟨w.heap.size, 0, none⟩ = some (.slice A n c) := cell_of_row wr w.heap.size 0 _ _ (0, 0) hh
    have c2 : wr.cell? ⟨w.heap.size, 2, none⟩ = some (.int .u64 s) := cell_of_row wr w.heap.size 2 _ _ (0, 0) hh
    have f2 : wr.frozen? ⟨w.heap.size, 2, none⟩ = false := frozen_of_row wr w.heap.size 2 _ _ hh
    by_cases hlt : k < n
    · have hd1 : decide ((k : Int) < (n : Int)) = true := decide_eq_true (by omega)
      obtain ⟨b, off, rfl, hbb, hcells⟩ := h.2.2 (by omega)
      have hc := (hb.cell (p := ⟨b, off + k, none⟩) hbb).trans (hcells k hlt)
      have hr := h.at_range hlt
      generalize code.getD k 0 = x at hc hr
      have hx1 : 0 ≤ x := hr.1
      have hx2 : x ≤ 255 := hr.2
      clear hb hcells hr hh h1 h3
      go_wp2
      go_still_tail 15, (by kernel_rfl)
      change wpList _ _ _ _ _ wr.drew
      go_wp2
      go_roundw
      case rel =>
        have hp := fun z => DiceS.put2 HD.out z
        exact ⟨k + 1, by omega, by go_num, (hp _).1, (HB.out.grown (hp _).2 HB.out.size (fun r hr => by injection hr with hr; omega)).drew⟩
      case measure => simp [intOf]; omega
    · have hd1 : decide ((k : Int) < (n : Int)) = false := decide_eq_false (by omega)
      clear hb hh h1 h3
      go_wp2
      go_ret
      exact ⟨rfl, HD.out, HB.out⟩

set_option maxRecDepth 100000 in
set_option maxHeartbeats 2000000 in
theorem below3_any (q n c : Nat) (A : Option Addr) (code : List Int) (w : World) (h : DiceS w q A n c code) :
    Calls Tryd.prog 31 #[.pointer (some ⟨q, 0, none⟩), .int .i64 3] w fun e w' => ∃ r : Int, e = .returned (.int .i64 r) ∧ DiceS w' q A n c code ∧ w.grownBy w' (some q) := by
  have HD := Lib.hid h
  obtain ⟨h1, h2, k, s, h3, hh⟩ := h
  have c0 : w.cell? ⟨q, 0, none⟩ = some (.slice A n c) := cell_of_row w q 0 _ _ (0, 0) hh
  have c1 : w.cell? ⟨q, 1, none⟩ = some (.int .i64 k) := cell_of_row w q 1 _ _ (0, 0) hh
  have c2 : w.cell? ⟨q, 2, none⟩ = some (.int .u64 s) := cell_of_row w q 2 _ _ (0, 0) hh
  have f1 : w.frozen? ⟨q, 1, none⟩ = false := frozen_of_row w q 1 _ _ hh
  have f2 : w.frozen? ⟨q, 2, none⟩ = false := frozen_of_row w q 2 _ _ hh
  have HH := Lib.hid hh
  have H1 := Lib.hid h1
  clear hh
  by_cases hlt : k < n
  · obtain ⟨b, off, rfl, hbb, hcells⟩ := h1.2.2 (by omega)
    have hc := hcells k hlt
    have hr := h1.at_range hlt
    generalize code.getD k 0 = x at hc hr
    have hx1 : 0 ≤ x := hr.1
    have hx2 : x ≤ 255 := hr.2
    have hbq : ¬ q = b := by omega
    clear hcells hr h1
    go_enter Tryd.func31, Tryd.ntmps31
    go_wp2
    go_quiet (fail)
    go_wp2
    go_quiet (fail)
    go_wp2
    go_ret
    have hp := fun z m => DiceS.put1 (i' := k + 1) (z := (k : Int) + 1) (((DiceS.put2 HD.out z).1).drewN m) (by omega) (by omega)
    refine ⟨_, rfl, (hp _ _).1, grownBy_trans (grown_drewN (DiceS.put2 HD.out _).2 _) (hp _ _).2⟩
  · have hd1 : decide (k < n) = false := decide_eq_false hlt
    clear h1
    go_enter Tryd.func31, Tryd.ntmps31
    go_wp2
    go_quiet (fail)
    go_wp2
    go_ret
    exact ⟨_, rfl, ((DiceS.put2 HD.out _).1).drewN _, grown_drewN (DiceS.put2 HD.out _).2 _⟩
end Go.Proofs.YtdcommmefehlgaaDoor
