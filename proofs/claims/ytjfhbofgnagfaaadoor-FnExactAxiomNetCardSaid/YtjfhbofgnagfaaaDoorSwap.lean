/- SwappedSeq of the program and of the model. -/
import Derived.Test.YtjfhbofgnagfaaaDoorCopyS
import Derived.Test.YtjfhbofgnagfaaaDoorLeaf
import Derived.BigRegion
import Derived.Laws.ResultCell
import Derived.Deep.RegionHeldLaw
namespace Go.Proofs.YtjfhbofgnagfaaaDoor
open Go.ChangeShapes Go.WideShapes Go.ChangeAt Go.RowKit

/-- i is a position. -/
def posB (i : Int) (n : Nat) : Bool := decide (0 ≤ i ∧ i < (n : Int))
theorem posB_nat {i : Int} {n : Nat} (h : posB i n = true) : ∃ k : Nat, i = k ∧ k < n := by
  have h' := of_decide_eq_true h
  exact ⟨i.toNat, by omega, by omega⟩
/-- Two parts exchanged. -/
def swp (qs : List (List Int)) (i j : Nat) : List (List Int) := (qs.set i (qs.getD j [])).set j (qs.getD i [])
theorem swp_len (qs : List (List Int)) (i j : Nat) : (swp qs i j).length = qs.length := by simp [swp]
/-- The exchanged sequent. -/
def swapB (qs : List (List Int)) (i j : Int) : Bool := validQ qs && (posB i qs.length && posB j qs.length)
def swapQ (qs : List (List Int)) (i j : Int) : List (List Int) := if swapB qs i j = true then swp qs i.toNat j.toNat else []
theorem swapQ_no {qs : List (List Int)} {i j : Int} (h : swapB qs i j = false) : swapQ qs i j = [] := by unfold swapQ; rw [h]; rfl
theorem swapQ_yes {qs : List (List Int)} {i j : Int} (h : swapB qs i j = true) : swapQ qs i j = swp qs i.toNat j.toNat := by unfold swapQ; rw [if_pos h]
theorem swp_mem {qs : List (List Int)} {i j : Nat} (hi : i < qs.length) (hj : j < qs.length) {q : List Int} (h : q ∈ swp qs i j) : q ∈ qs := by
  rcases List.mem_or_eq_of_mem_set h with h | rfl
  · rcases List.mem_or_eq_of_mem_set h with h | rfl
    · exact h
    · exact getD_mem hj
  · exact getD_mem hi
theorem swapQ_small (qs : List (List Int)) (i j : Int) : (swapQ qs i j).length ≤ 1048576 ∧ total (swapQ qs i j) ≤ 1048576 := by
  cases hs : swapB qs i j with
  | false => rw [swapQ_no hs]; simp [total]
  | true =>
    rw [swapQ_yes hs]
    unfold swapB at hs
    simp only [Bool.and_eq_true] at hs
    obtain ⟨hv, h1, h2⟩ := hs
    obtain ⟨a, rfl, ha⟩ := posB_nat h1
    obtain ⟨b, rfl, hb⟩ := posB_nat h2
    have hl := validQ_len hv
    have ht := total_small (qs := swp qs a b) fun q hq => (valid_len (validQ_mem hv (swp_mem ha hb hq))).2.1
    rw [swp_len] at ht
    rw [Int.toNat_natCast, Int.toNat_natCast, swp_len]
    omega

theorem results_cell_row_tmp {P : Program} {fn : Func} {p u : Tmp} {ty : TypeId} (h : fn.results = #[.cell p ty, .tmp u]) (tmps : Array Value) (w : World) (g : Nat) (t : TypeId) (cs : Array Value) (fr : Nat × Nat) (d : TypeDesc)
    (hp : tmps.getD p undef = .pointer (some ⟨g, 0, none⟩)) (hg : w.heap[g]? = some (.cells cs t fr))
    (hu : P.underlying ty = some d) (hd : (match d with | .struct _ | .array _ _ => true | _ => false) = true) (hi : (P.info? ty).map (·.size) = some cs.size) :
    (results fn tmps).run P w = .ok (.tuple #[.agg cs, tmps.getD u undef]) w := by
  have hp' : tmps[p]?.getD undef = .pointer (some ⟨g, 0, none⟩) := by simpa using hp
  rw [results_cell_tmp h]
  simp [hp', asAddr, run_loadVar_row w g t ty cs fr d hg hu hd hi, Result.andThen]

theorem far_cell {w : World} {a p : Addr} {u : Value} (h : p.block ≠ a.block) : (w.setCell a u).cell? p = w.cell? p := World.cell?_of_block (Below.heap_setCell _ _ _ _ h)
theorem far_frozen {w : World} {a p : Addr} {u : Value} (h : p.block ≠ a.block) : (w.setCell a u).frozen? p = w.frozen? p := World.frozen?_of_block (Below.heap_setCell _ _ _ _ h)
theorem swp_get {qs : List (List Int)} {i j k : Nat} (hi : i < qs.length) (hj : j < qs.length) : (swp qs i j).getD k [] = qs.getD (if k = j then i else if k = i then j else k) [] := by
  unfold swp
  by_cases e : k = j
  · subst e; rw [if_pos rfl, getD_set_eq (by simpa using hj)]
  · rw [if_neg e, getD_set_ne e]
    by_cases e' : k = i
    · subst e'; rw [if_pos rfl, getD_set_eq hi]
    · rw [if_neg e', getD_set_ne e']
/-- Two headers exchanged. -/
def swh (hs : Nat → Option Addr × Nat) (i j : Nat) : Nat → Option Addr × Nat := fun k => hs (if k = j then i else if k = i then j else k)
theorem swh_hv {hs : Nat → Option Addr × Nat} {qs : List (List Int)} {i j k : Nat} (hi : i < qs.length) (hj : j < qs.length) : hv (swh hs i j) (swp qs i j) k = hv hs qs (if k = j then i else if k = i then j else k) := by
  unfold hv swh
  rw [swp_get hi hj]
theorem swap_lt {n i j k : Nat} (hi : i < n) (hj : j < n) (hk : k < n) : (if k = j then i else if k = i then j else k) < n := by
  by_cases e : k = j
  · rw [if_pos e]; exact hi
  · rw [if_neg e]
    by_cases e' : k = i
    · rw [if_pos e']; exact hj
    · rw [if_neg e']; exact hk
theorem swap_inj {i j k l : Nat} (h : k ≠ l) : (if k = j then i else if k = i then j else k) ≠ (if l = j then i else if l = i then j else l) := by
  split <;> split <;> (try split) <;> (try split) <;> omega
/-- Two parts of a row exchanged in place. -/
theorem OwnQ.swap {w : World} {lo hi n c i j g : Nat} {hs : Nat → Option Addr × Nat} {qs : List (List Int)} (h : OwnQ w lo hi (.slice (some ⟨g, 0, none⟩) n c) hs qs) (hn : qs.length = n) (hi' : i < n) (hj' : j < n) :
    OwnQ ((w.setCell ⟨g, i, none⟩ (hv hs qs j)).setCell ⟨g, j, none⟩ (hv hs qs i)) lo hi (.slice (some ⟨g, 0, none⟩) n c) (swh hs i j) (swp qs i j) := by
  subst hn
  have ho := (((h.outer.stored i (hv hs qs j)).1).stored j (hv hs qs i)).1
  have e : ((rowV hs qs).set i (hv hs qs j)).set j (hv hs qs i) = rowV (swh hs i j) (swp qs i j) := by
    apply List.ext_getElem?
    intro k
    by_cases hk : k < qs.length
    · rw [rowV_at (by rw [swp_len]; exact hk), swh_hv hi' hj']
      by_cases e1 : k = j
      · subst e1
        rw [if_pos rfl, List.getElem?_set_self (by simpa [rowV_len] using hk)]
      · rw [if_neg e1, List.getElem?_set_ne (fun x => e1 x.symm)]
        by_cases e2 : k = i
        · subst e2
          rw [if_pos rfl, List.getElem?_set_self (by simpa [rowV_len] using hk)]
        · rw [if_neg e2, List.getElem?_set_ne (fun x => e2 x.symm), rowV_at hk]
    · rw [List.getElem?_eq_none (by simp [rowV_len]; omega), List.getElem?_eq_none (by simp [rowV_len, swp_len]; omega)]
  rw [e] at ho
  have hin : ∀ k, k < qs.length → ∀ q, (hv hs qs k).ownBlock = some q → q ≠ g := by
    intro k hk q hq e'
    subst e'
    rcases h.apart0 k hk with h0 | h0
    · rw [h0] at hq; cases hq
    · exact h0 hq
  refine ⟨by rw [swp_len]; exact ho, fun k hk => ?_, fun k l hk hl hkl => ?_, fun k hk => ?_, h.top0, fun k q hk e => ?_⟩
  · rw [swp_len] at hk
    have hk' := swap_lt hi' hj' hk
    rw [swh_hv hi' hj', swp_get hi' hj']
    exact own_same (h.inner _ hk') fun q hq => (Below.heap_setCell _ _ _ _ (hin _ hk' q hq)).trans (Below.heap_setCell _ _ _ _ (hin _ hk' q hq))
  · rw [swp_len] at hk hl
    rw [swh_hv hi' hj', swh_hv hi' hj']
    exact h.apart _ _ (swap_lt hi' hj' hk) (swap_lt hi' hj' hl) (swap_inj hkl)
  · rw [swp_len] at hk
    rw [swh_hv hi' hj']
    exact h.apart0 _ (swap_lt hi' hj' hk)
  · rw [swp_len] at hk
    rw [swh_hv hi' hj'] at e
    exact h.top _ q (swap_lt hi' hj' hk) e

end Go.Proofs.YtjfhbofgnagfaaaDoor
