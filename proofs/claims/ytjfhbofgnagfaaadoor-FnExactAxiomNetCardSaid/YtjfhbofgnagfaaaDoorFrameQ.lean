/- A sequent that came in, opened. -/
import Derived.Test.YtjfhbofgnagfaaaDoorFrame
import Derived.Test.YtjfhbofgnagfaaaDoorSeqV
import Derived.Deep.Matrix
import Derived.Deep.RegionWith
import Derived.Deep.DeepCutAuto
namespace Go.Proofs.YtjfhbofgnagfaaaDoor
open Go.ChangeShapes Go.WideShapes Go.ChangeAt Go.RowKit

theorem array_one {α : Type} {cs : Array α} (h : cs.size = 1) : ∃ c0, cs = #[c0] := by
  obtain ⟨l⟩ := cs
  match l, h with
  | [c0], _ => exact ⟨c0, rfl⟩

/-- A struct of one field of one cell, opened. -/
theorem open_agg1 {H : Type} {enc : TypeId × Value → H} {P : Program} {w : World} {base : Nat} {spare : Nat → Bool} {held : Bool} {r : Reach} {b0 : Nat} {t : TypeId} {f0 : Field} {v : Value} {d : DataW H} {p : List MemPlace} (hs : P.underlying t = some (.struct #[f0]))
    (ho : f0.offset = 0) (hk : P.cellsOf f0.type = 1) (hC : P.cellsOf t = 1) (hv : Value.okWide P w r b0 t v) (h : DataW.Trod enc P w base spare held t v d p) :
    ∃ (v0 : Value) (y0 : DataW H × List MemPlace) (n : Nat), v = .agg #[v0] ∧ DataW.trod enc P w base spare held n f0.type [v0] = some y0 := by
  obtain ⟨cs, rfl, hsz⟩ := okWide_struct hs hv
  obtain ⟨c0, rfl⟩ := array_one (hsz.trans hC)
  obtain ⟨fuel, hf⟩ := h
  obtain ⟨xs, n, _, _, _, hlen, hx⟩ := DataW.trod_struct hs hf
  match xs, hlen with
  | [y0], _ => exact ⟨c0, y0, n, rfl, by simpa [Value.cells, ho, hk] using hx 0 f0 rfl⟩

theorem spot_of {w : World} {b off : Nat} {s : Option Nat} {v : Value} (h : w.cell? ((⟨b, off, s⟩ : Addr).add 0) = some v) : s = none := by
  simpa [Addr.add] using World.cell?_spot h

/-- A slice of slices of 64-bit integers that came in reads as a list of lists. -/
theorem open_rows {H : Type} {enc : TypeId × Value → H} {W : World} {fuel : Nat} {v : Value} {x : DataW H × List MemPlace}
    (h : DataW.trod enc Tryd.prog W 0 (fun _ => true) true fuel 24 [v] = some x) :
    ∃ a n c qs, v = .slice a n c ∧ RdQ W W.heap.size a n qs ∧ n ≤ c ∧ n ≤ maxLen ∧ (∀ q ∈ qs, q.length ≤ maxLen) ∧ ∀ q ∈ qs, ∀ z ∈ q, (Lit.int .i64 z).wf = true := by
  rcases Go.Deep.open_int_rows Tryd.underlying24 Tryd.underlying26 Tryd.underlying2 (by kernel_rfl) (by kernel_rfl) h with ⟨hcs, _⟩ | ⟨a, len, cap, A, L, C, Z, hcs, _, hl, hm, _, hr⟩
  · obtain rfl : v = .slice none 0 0 := by simpa using hcs
    exact ⟨none, 0, 0, [], rfl, RdQ.nil _ _ _, Nat.le_refl _, Nat.zero_le _, by simp, by simp⟩
  · obtain rfl : v = .slice (some a) len cap := by simpa using hcs
    have hlen : ∀ j, j < len → ((Z j).take (L j)).length = L j := fun j hj => by
      obtain ⟨_, h1, _, h3, _⟩ := hr j (by omega)
      rw [List.length_take]; omega
    have hget : ∀ j, j < len → ((List.range len).map fun r => (Z r).take (L r)).getD j [] = (Z j).take (L j) := fun j hj => by simp [List.getD, hj]
    refine ⟨some a, len, cap, (List.range len).map fun r => (Z r).take (L r), rfl, ⟨by simp, fun hn => ?_⟩, hl, by omega, ?_, ?_⟩
    · obtain ⟨b, off, spot⟩ := a
      have hspot : spot = none := spot_of (hr 0 (by omega)).1
      subst hspot
      refine ⟨b, off, rfl, by have := World.block_lt_of_cell? W _ (hr 0 (by omega)).1; simpa [Addr.add] using this, fun j hj => ?_⟩
      obtain ⟨h0, h1, h2, h3, h4, h5, h6⟩ := hr j (by omega)
      rw [hget j hj, hlen j hj]
      refine ⟨A j, C j, ?_, h1, hlen j hj, fun hpos => ?_⟩
      · by_cases e : j = 0
        · subst e; simpa [Addr.add] using h0
        · simpa [Addr.add, e] using h0
      · cases hA : A j with
        | none => have := h5 hA; omega
        | some a' =>
          obtain ⟨b', off', spot'⟩ := a'
          obtain ⟨_, hc⟩ := h6 _ hA
          have hspot : spot' = none := spot_of (hc 0 (by omega))
          subst hspot
          refine ⟨b', off', rfl, by have := World.block_lt_of_cell? W _ (hc 0 (by omega)); simpa [Addr.add] using this, fun c hcl => ?_⟩
          have h7 := hc c (by omega)
          have e : ((Z j).take (L j)).getD c 0 = (Z j).getD c 0 := by simp [List.getD, hcl]
          rw [e]
          by_cases e0 : c = 0
          · subst e0; simpa [Addr.add] using h7
          · simpa [Addr.add, e0] using h7
    · intro q hq
      obtain ⟨j, hj, rfl⟩ := List.mem_map.1 hq
      have hj' := List.mem_range.1 hj
      obtain ⟨_, h1, h2, _⟩ := hr j (by omega)
      rw [hlen j hj']; omega
    · intro q hq z hz
      obtain ⟨j, hj, rfl⟩ := List.mem_map.1 hq
      have hj' := List.mem_range.1 hj
      exact (hr j (by omega)).2.2.2.2.1 z (List.mem_of_mem_take hz)

theorem mem_total {qs : List (List Int)} {q : List Int} (h : q ∈ qs) : q.length ≤ total qs := by
  induction qs with
  | nil => cases h
  | cons x xs ih =>
    have e : total (x :: xs) = x.length + total xs := by simp [total]
    rcases List.mem_cons.1 h with rfl | h
    · omega
    · have := ih h; omega
theorem sz_cases' (left : Int) (n : Nat) (qs : List (List Int)) : szR left (n + total qs) = -1 ∨ (szR left (n + total qs) = left - (n + total qs : Nat) ∧ 0 ≤ left - (n + total qs : Nat) ∧ (n : Int) ≤ left ∧ ∀ q ∈ qs, (q.length : Int) ≤ left) := by
  by_cases h : left - (n + total qs : Nat) < 0
  · exact .inl (szR_neg h)
  · exact .inr ⟨szR_pos h, by omega, by omega, fun q hq => by have := mem_total hq; omega⟩
/-- Too great, or within the laws' bound. -/
theorem sz_cases (n : Nat) (qs : List (List Int)) : szR 1048576 (n + total qs) = -1 ∨ (szR 1048576 (n + total qs) = 1048576 - (n + total qs : Nat) ∧ (0 : Int) ≤ 1048576 - (n + total qs : Nat) ∧ n ≤ 1048576 ∧ ∀ q ∈ qs, q.length ≤ 1048576) := by
  rcases sz_cases' 1048576 n qs with h | ⟨h1, h2, h3, h4⟩
  · exact .inl h
  · exact .inr ⟨h1, h2, by omega, fun q hq => by have := h4 q hq; omega⟩
theorem sz_casesL (left : Int) (hl : left ≤ 1048576) (n : Nat) (qs : List (List Int)) : szR left (n + total qs) = -1 ∨ ∃ L, szR left (n + total qs) = L ∧ 0 ≤ L ∧ L ≤ 1048576 ∧ n ≤ 1048576 ∧ total qs ≤ 1048576 := by
  by_cases h : left - (n + total qs : Nat) < 0
  · exact .inl (szR_neg h)
  · exact .inr ⟨left - (n + total qs : Nat), szR_pos h, by omega, by omega, by omega, by omega⟩
theorem kept_cell {lo hi : Nat} {w w' : World} (h : Kept lo hi w w') {p : Addr} (hp : p.block < w.heap.size) (ho : p.block < lo ∨ hi ≤ p.block) : w'.cell? p = w.cell? p := World.cell?_of_block (h.block p.block hp ho)
end Go.Proofs.YtjfhbofgnagfaaaDoor
