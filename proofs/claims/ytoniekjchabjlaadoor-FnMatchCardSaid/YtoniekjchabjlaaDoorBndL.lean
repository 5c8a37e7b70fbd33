/- Rows of parts under an array's block: the words for what MatchForm hands back. -/
import Derived.Test.YtoniekjchabjlaaDoorBndK
namespace Go.Proofs.YtoniekjchabjlaaDoor
open Go.ChangeAt Go.ChangeShapes Go.RowKit Go.WideShapes

/-- A block that an array lies in holds no list of integers. -/
theorem own_apart {w : World} {base n g k : Nat} {v : Value} {xs : List Value} {c0 : Array Value} {fr : Nat × Nat} (h : w.ownsRow base 2 1 v n xs) (hk : v.ownBlock = some k) (hg : w.heap[g]? = some (.cells c0 62 fr)) : k ≠ g := by
  rintro rfl
  rcases h.2 with ⟨rfl, _⟩ | ⟨b, cap, cur, rfl, _, hh, _⟩
  · cases hk
  · have e : b = k := by simpa [Value.ownBlock] using hk
    subst e
    rw [hh] at hg
    injection hg with hg
    injection hg with _ ht _
    exact absurd ht (by decide)
theorem PartsO.setRow {w : World} {lo hi g : Nat} {hs : Nat → Option Addr × Nat} {qs : List (List Int)} {c0 : Array Value} {fr : Nat × Nat} (h : PartsO w lo hi hs qs) (hg : w.heap[g]? = some (.cells c0 62 fr)) (cs : Array Value) : PartsO (w.setRow g cs) lo hi hs qs :=
  ⟨fun i hi' => own_same (h.inner i hi') fun k e => setRow_other w g k cs (own_apart (h.inner i hi') e hg), h.apart, h.top⟩

/-- A row of lists in memory of its own that lies in an array's block. -/
structure OwnT (w : World) (lo hi : Nat) (v : Value) (hs : Nat → Option Addr × Nat) (qs : List (List Int)) : Prop where
  outer : w.ownsRow lo 62 1 v qs.length (rowV hs qs)
  parts : PartsO w lo hi hs qs
  top0 : ∀ k, v.ownBlock = some k → k < hi
theorem OwnT.same {w w' : World} {lo hi : Nat} {v : Value} {hs : Nat → Option Addr × Nat} {qs : List (List Int)} (h : OwnT w lo hi v hs qs) (hk : ∀ k, lo ≤ k → k < hi → k < w.heap.size → w'.heap[k]? = w.heap[k]?) : OwnT w' lo hi v hs qs :=
  ⟨own_same h.outer fun k e => hk k (h.outer.lt k e).1 (h.top0 k e) (h.outer.lt k e).2,
   ⟨fun i hi' => own_same (h.parts.inner i hi') fun k e => hk k ((h.parts.inner i hi').lt k e).1 (h.parts.top i k hi' e) ((h.parts.inner i hi').lt k e).2, h.parts.apart, h.parts.top⟩, h.top0⟩
theorem OwnT.below {w w' : World} {lo hi : Nat} {v : Value} {hs : Nat → Option Addr × Nat} {qs : List (List Int)} (h : OwnT w lo hi v hs qs) (hb : Below w.heap.size w w') : OwnT w' lo hi v hs qs := h.same fun k _ _ h3 => hb.block k h3
theorem OwnT.kept {w w' : World} {lo hi lo' hi' : Nat} {v : Value} {hs : Nat → Option Addr × Nat} {qs : List (List Int)} (h : OwnT w lo hi v hs qs) (hk : Kept lo' hi' w w') (hd : hi ≤ lo' ∨ hi' ≤ lo) : OwnT w' lo hi v hs qs :=
  h.same fun k h1 h2 h3 => hk.block k h3 (by omega)
theorem OwnT.rd {w : World} {lo hi n c : Nat} {A : Option Addr} {hs : Nat → Option Addr × Nat} {qs : List (List Int)} (h : OwnT w lo hi (.slice A n c) hs qs) (hn : qs.length = n) : RdQ w w.heap.size A n qs := by
  subst hn
  refine ⟨rfl, fun hn => ?_⟩
  obtain ⟨g, cap, hv', _, hlt⟩ := h.outer.form hn
  injection hv' with e1 e2 e3
  subst e1; subst e3
  refine ⟨g, 0, rfl, hlt, fun j hj => ⟨(hs j).1, (hs j).2, ?_, own_cap1 (h.parts.inner j hj), RdI.of_own (h.parts.inner j hj)⟩⟩
  rw [Nat.zero_add, h.outer.cellAt j (by omega), rowV_at hj]
  rfl
/-- Part k written over in place. -/
theorem OwnT.put {w w' : World} {lo hi k : Nat} {v : Value} {hs : Nat → Option Addr × Nat} {qs : List (List Int)} {q : List Int} (h : OwnT w lo hi v hs qs) (hk : k < qs.length) (hl : q.length = (qs.getD k []).length)
    (hq : w'.ownsRow lo 2 1 (hv hs qs k) q.length (q.map (Value.int .i64))) (hg : w.grownBy w' (hv hs qs k).ownBlock) : OwnT w' lo hi v hs (qs.set k q) := by
  have hh : ∀ i, hv hs (qs.set k q) i = hv hs qs i := by
    intro i
    by_cases e : i = k
    · subst e; unfold hv; rw [getD_set_eq hk, hl]
    · unfold hv; rw [getD_set_ne e]
  have hr : rowV hs (qs.set k q) = rowV hs qs := by
    unfold rowV
    rw [List.length_set]
    exact List.map_congr_left fun i _ => hh i
  refine ⟨?_, ⟨fun i hi => ?_, fun i j hi hj hij => ?_, fun i b hi e => ?_⟩, h.top0⟩
  · rw [hr, List.length_set]
    refine h.outer.kept hg ?_
    cases hb : v.ownBlock with
    | none => exact .inl rfl
    | some b =>
      right
      intro e'
      rcases h.outer.2 with ⟨rfl, _⟩ | ⟨b', cap, cur, rfl, _, hh2, _⟩
      · cases hb
      · have e2 : b' = b := by simpa [Value.ownBlock] using hb
        subst e2
        exact own_apart (h.parts.inner k hk) e'.symm hh2 rfl
  · rw [List.length_set] at hi
    rw [hh i]
    by_cases e : i = k
    · subst e
      rw [getD_set_eq hk]
      exact hq
    · rw [getD_set_ne e]
      exact (h.parts.inner i hi).kept hg (h.parts.apart i k hi hk e)
  · rw [List.length_set] at hi hj
    rw [hh i, hh j]; exact h.parts.apart i j hi hj hij
  · rw [List.length_set] at hi
    rw [hh i] at e; exact h.parts.top i b hi e
theorem OwnT.at {w : World} {lo hi n c k g : Nat} {hs : Nat → Option Addr × Nat} {qs : List (List Int)} (h : OwnT w lo hi (.slice (some ⟨g, 0, none⟩) n c) hs qs) (hn : qs.length = n) (hk : k < n) :
    w.frozen? ⟨g, k, none⟩ = false ∧ w.cell? ⟨g, k, none⟩ = some (hv hs qs k) := by
  subst hn
  refine ⟨h.outer.frozenAt k, ?_⟩
  rw [h.outer.cellAt k (by omega), rowV_at hk]
/-- What a function leaves that hands back an array's row and a bool. -/
def GivesTB (w : World) (V : List (List Int)) (b : Bool) (e : Ending) (w' : World) : Prop :=
  ∃ hs A c, e = .returned (.tuple #[.slice A V.length c, .bool b]) ∧ OwnT w' w.heap.size w'.heap.size (.slice A V.length c) hs V ∧ Below w.heap.size w w'
theorem OwnT.nil (w : World) (lo hi : Nat) (hs : Nat → Option Addr × Nat) : OwnT w lo hi (.slice none 0 0) hs [] :=
  ⟨by simpa [rowV] using World.ownsRow_nil w lo 62 1, ⟨fun i hi => by simp at hi, fun i _ hi => by simp at hi, fun i _ hi => by simp at hi⟩, fun k e => by simp [Value.ownBlock] at e⟩
theorem givesTB_nil (w w' : World) (h : Below w.heap.size w w') : GivesTB w [] false (.returned (.tuple #[.slice none 0 0, .bool false])) w' := ⟨fun _ => (none, 0), none, 0, rfl, OwnT.nil w' _ _ _, h⟩
end Go.Proofs.YtoniekjchabjlaaDoor
