/- The program's bindings, arrays of eight slices: bindingOf, IsBinding. -/
import Derived.Test.YtjfhbofgnagfaaaDoorSubA
import Derived.Test.YtjfhbofgnagfaaaDoorValid
import Derived.Test.YtjfhbofgnagfaaaDoorSwap
import Derived.Laws.Tables
import Derived.Laws.CopyOwn
namespace Go.Proofs.YtjfhbofgnagfaaaDoor
open Go.ChangeAt Go.ChangeShapes Go.RowKit Go.WideShapes

/-- An array of eight slices that read as a binding. -/
structure BndV (w : World) (cs : Array Value) (qs : List (List Int)) : Prop where
  size : cs.size = 8
  len : qs.length = 8
  one : cs.all (·.oneCell') = true
  part : ∀ k, k < 8 → ∃ A c, cs[k]? = some (.slice A (qs.getD k []).length c) ∧ (qs.getD k []).length ≤ c ∧ RdI w w.heap.size A (qs.getD k []).length (qs.getD k [])
theorem BndV.below {w w' : World} {cs : Array Value} {qs : List (List Int)} (h : BndV w cs qs) (hb : Below w.heap.size w w') : BndV w' cs qs :=
  ⟨h.size, h.len, h.one, fun k hk => by
    obtain ⟨A, c, h1, h2, h3⟩ := h.part k hk
    exact ⟨A, c, h1, h2, (h3.below hb).more hb.size⟩⟩
/-- The zero array. -/
def nil8 : Array Value := #[.slice none 0 0, .slice none 0 0, .slice none 0 0, .slice none 0 0, .slice none 0 0, .slice none 0 0, .slice none 0 0, .slice none 0 0]
theorem bnd_zero (w : World) : BndV w nil8 (List.replicate 8 []) :=
  ⟨rfl, rfl, by simp [nil8, Value.oneCell'], fun k hk => by
    have e : (List.replicate 8 ([] : List Int)).getD k [] = [] := by
      rw [List.getD, List.getElem?_replicate, if_pos hk]; rfl
    rw [e]
    refine ⟨none, 0, ?_, Nat.le_refl _, ⟨rfl, fun h => absurd h (by simp)⟩⟩
    rcases k with _ | _ | _ | _ | _ | _ | _ | _ | k <;> first | rfl | omega⟩
/-- The row of a binding that is one, as an array's cells. -/
theorem bnd_row {w : World} {b off : Nat} {qs : List (List Int)} (h : RdQ w w.heap.size (some ⟨b, off, none⟩) 8 qs) :
    ∃ cs : List Value, cs.length = 8 ∧ BndV w cs.toArray qs ∧ (∀ j v, cs[j]? = some v → w.cell? ((⟨b, off, none⟩ : Addr).add j) = some v) ∧ ∀ v ∈ cs, v.oneCell' = true := by
  have hl := h.len
  obtain ⟨b', off', e, _, hc⟩ := h.2 (by omega)
  cases e
  have hat : ∀ k, k < 8 → ∃ A c, ((List.range 8).map fun j => (w.cell? ⟨b, off + j, none⟩).getD undef)[k]? = some (.slice A (qs.getD k []).length c) ∧ (qs.getD k []).length ≤ c ∧ RdI w w.heap.size A (qs.getD k []).length (qs.getD k []) ∧ w.cell? ⟨b, off + k, none⟩ = some (.slice A (qs.getD k []).length c) := by
    intro k hk
    obtain ⟨A, c, h1, h2, h3⟩ := hc k (by omega)
    refine ⟨A, c, ?_, h2, h3, h1⟩
    rw [List.getElem?_map, List.getElem?_range hk, Option.map_some, h1]; rfl
  have hone : ∀ v ∈ ((List.range 8).map fun j => (w.cell? ⟨b, off + j, none⟩).getD undef), v.oneCell' = true := by
    intro v hv
    obtain ⟨j, hj, rfl⟩ := List.mem_map.1 hv
    obtain ⟨A, c, _, _, _, h4⟩ := hat j (List.mem_range.1 hj)
    rw [h4]; rfl
  refine ⟨_, by simp, ⟨by simp, hl, ?_, fun k hk => ?_⟩, fun j v hv => ?_, hone⟩
  · rw [Array.all_eq_true_iff_forall_mem]
    intro v hv
    exact hone v (by simpa using hv)
  · obtain ⟨A, c, h1, h2, h3, _⟩ := hat k hk
    exact ⟨A, c, by simpa using h1, h2, h3⟩
  · have hj : j < 8 := by
      have := (List.getElem?_eq_some_iff.1 hv).1
      simpa using this
    obtain ⟨A, c, h1, _, _, h4⟩ := hat j hj
    have hadd : (⟨b, off, none⟩ : Addr).add j = ⟨b, off + j, none⟩ := by unfold Addr.add; split <;> simp_all
    rw [hadd, h4, ← h1, hv]
def bndQ (qs : List (List Int)) : List (List Int) := if bndB qs = true then qs else List.replicate 8 []
theorem bndQ_yes {qs : List (List Int)} (h : bndB qs = true) : bndQ qs = qs := if_pos h
theorem bndQ_no {qs : List (List Int)} (h : bndB qs = false) : bndQ qs = List.replicate 8 [] := if_neg (by rw [h]; simp)
theorem bndQ_ok (qs : List (List Int)) (k : Nat) : elB ((bndQ qs).getD k []) = true := by
  cases h : bndB qs with
  | true => rw [bndQ_yes h]; exact bnd_at h k
  | false =>
    rw [bndQ_no h, List.getD, List.getElem?_replicate]
    split <;> rfl
end Go.Proofs.YtjfhbofgnagfaaaDoor
