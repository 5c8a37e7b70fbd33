/- The parsing of a net before any link has been fired. -/
import Derived.Test.YtgpocnapkflihaaDoorPaB
import Derived.Deep.RegionHeldLaw
import Derived.Deep.DeepCutAuto
import Derived.BigQuiet
namespace Go.Proofs.YtgpocnapkflihaaDoor
set_option linter.unusedSimpArgs false
set_option linter.unusedVariables false
open Go.ChangeAt Go.ChangeShapes Go.RowKit Go.WideShapes

/-- The cells of the parts: the table and the count. -/
def npA (T : List Int) (c : Int) : Array Value := (T.map (Value.int .i64) ++ [Value.int .i64 c]).toArray
/-- The table while it is being filled. -/
def npT (k : Nat) : List Int := (List.range 48).map fun i => if i < k then (-1 : Int) else 0
theorem npT_len (k : Nat) : (npT k).length = 48 := by simp [npT]
theorem npT_zero : npA (npT 0) 0 = #[Value.int .i64 0, Value.int .i64 0, Value.int .i64 0, Value.int .i64 0, Value.int .i64 0, Value.int .i64 0, Value.int .i64 0, Value.int .i64 0, Value.int .i64 0, Value.int .i64 0, Value.int .i64 0, Value.int .i64 0, Value.int .i64 0, Value.int .i64 0, Value.int .i64 0, Value.int .i64 0, Value.int .i64 0, Value.int .i64 0, Value.int .i64 0, Value.int .i64 0, Value.int .i64 0, Value.int .i64 0, Value.int .i64 0, Value.int .i64 0, Value.int .i64 0, Value.int .i64 0, Value.int .i64 0, Value.int .i64 0, Value.int .i64 0, Value.int .i64 0, Value.int .i64 0, Value.int .i64 0, Value.int .i64 0, Value.int .i64 0, Value.int .i64 0, Value.int .i64 0, Value.int .i64 0, Value.int .i64 0, Value.int .i64 0, Value.int .i64 0, Value.int .i64 0, Value.int .i64 0, Value.int .i64 0, Value.int .i64 0, Value.int .i64 0, Value.int .i64 0, Value.int .i64 0, Value.int .i64 0, Value.int .i64 0] := by kernel_rfl
/-- The table before any link has been fired. -/
def npL : List Int := List.replicate 48 (-1)
theorem npL_len : npL.length = 48 := by unfold npL; rw [List.length_replicate]
theorem npL_lit : npA npL 0 = #[Value.int .i64 (-1), Value.int .i64 (-1), Value.int .i64 (-1), Value.int .i64 (-1), Value.int .i64 (-1), Value.int .i64 (-1), Value.int .i64 (-1), Value.int .i64 (-1), Value.int .i64 (-1), Value.int .i64 (-1), Value.int .i64 (-1), Value.int .i64 (-1), Value.int .i64 (-1), Value.int .i64 (-1), Value.int .i64 (-1), Value.int .i64 (-1), Value.int .i64 (-1), Value.int .i64 (-1), Value.int .i64 (-1), Value.int .i64 (-1), Value.int .i64 (-1), Value.int .i64 (-1), Value.int .i64 (-1), Value.int .i64 (-1), Value.int .i64 (-1), Value.int .i64 (-1), Value.int .i64 (-1), Value.int .i64 (-1), Value.int .i64 (-1), Value.int .i64 (-1), Value.int .i64 (-1), Value.int .i64 (-1), Value.int .i64 (-1), Value.int .i64 (-1), Value.int .i64 (-1), Value.int .i64 (-1), Value.int .i64 (-1), Value.int .i64 (-1), Value.int .i64 (-1), Value.int .i64 (-1), Value.int .i64 (-1), Value.int .i64 (-1), Value.int .i64 (-1), Value.int .i64 (-1), Value.int .i64 (-1), Value.int .i64 (-1), Value.int .i64 (-1), Value.int .i64 (-1), Value.int .i64 0] := by kernel_rfl
theorem npT_all : npT 48 = npL := by kernel_rfl
theorem npT_set {k : Nat} (hk : k < 48) : (npA (npT k) 0).setIfInBounds k (.int .i64 (-1)) = npA (npT (k + 1)) 0 := by
  unfold npA
  rw [List.setIfInBounds_toArray, List.set_append_left _ _ (by rw [List.length_map, npT_len]; omega), ← List.map_set]
  congr 3
  apply List.ext_getElem?
  intro j
  rw [List.getElem?_set, npT_len]
  by_cases e : k = j
  · subst e
    rw [if_pos rfl, if_pos hk]
    simp [npT, hk]
  · rw [if_neg e]
    by_cases hj : j < 48
    · simp only [npT, List.getElem?_map, List.getElem?_range hj, Option.map_some]
      have : j < k ↔ j < k + 1 := by omega
      simp only [this]
    · rw [List.getElem?_eq_none (by rw [npT_len]; omega), List.getElem?_eq_none (by rw [npT_len]; omega)]
theorem npA_at {T : List Int} {c : Int} {k : Nat} (hT : T.length = 48) (hk : k < 48) : (npA T c)[k]? = some (.int .i64 (T.getD k 0)) := by
  have hk2 : k < T.length := by omega
  simp [npA, List.getElem?_append, hT, hk, hk2, List.getD]
theorem npA_size {T : List Int} {c : Int} (hT : T.length = 48) : (npA T c).size = 49 := by simp [npA, hT]
theorem size_np : (Tryd.prog.info? 74).map (·.size) = some 49 := by kernel_rfl
theorem one_np (T : List Int) (c : Int) : (npA T c).all (·.oneCell') = true := by
  unfold npA
  simp [Value.oneCell']
set_option maxRecDepth 100000 in
set_option maxHeartbeats 2000000 in
theorem noParts_V (w : World) : Calls Tryd.prog 92 #[] w fun e w' => e = .returned (.agg (npA npL 0)) ∧ Below w.heap.size w w' := by
  obtain ⟨w1, hw1⟩ : ∃ w1, w1 = w.alloc (.cells #[Value.int .i64 0, Value.int .i64 0, Value.int .i64 0, Value.int .i64 0, Value.int .i64 0, Value.int .i64 0, Value.int .i64 0, Value.int .i64 0, Value.int .i64 0, Value.int .i64 0, Value.int .i64 0, Value.int .i64 0, Value.int .i64 0, Value.int .i64 0, Value.int .i64 0, Value.int .i64 0, Value.int .i64 0, Value.int .i64 0, Value.int .i64 0, Value.int .i64 0, Value.int .i64 0, Value.int .i64 0, Value.int .i64 0, Value.int .i64 0, Value.int .i64 0, Value.int .i64 0, Value.int .i64 0, Value.int .i64 0, Value.int .i64 0, Value.int .i64 0, Value.int .i64 0, Value.int .i64 0, Value.int .i64 0, Value.int .i64 0, Value.int .i64 0, Value.int .i64 0, Value.int .i64 0, Value.int .i64 0, Value.int .i64 0, Value.int .i64 0, Value.int .i64 0, Value.int .i64 0, Value.int .i64 0, Value.int .i64 0, Value.int .i64 0, Value.int .i64 0, Value.int .i64 0, Value.int .i64 0, Value.int .i64 0] 74) := ⟨_, rfl⟩
  obtain ⟨w2, hw2⟩ : ∃ w2, w2 = w1.alloc (.cells #[Value.int .i64 0, Value.int .i64 0, Value.int .i64 0, Value.int .i64 0, Value.int .i64 0, Value.int .i64 0, Value.int .i64 0, Value.int .i64 0, Value.int .i64 0, Value.int .i64 0, Value.int .i64 0, Value.int .i64 0, Value.int .i64 0, Value.int .i64 0, Value.int .i64 0, Value.int .i64 0, Value.int .i64 0, Value.int .i64 0, Value.int .i64 0, Value.int .i64 0, Value.int .i64 0, Value.int .i64 0, Value.int .i64 0, Value.int .i64 0, Value.int .i64 0, Value.int .i64 0, Value.int .i64 0, Value.int .i64 0, Value.int .i64 0, Value.int .i64 0, Value.int .i64 0, Value.int .i64 0, Value.int .i64 0, Value.int .i64 0, Value.int .i64 0, Value.int .i64 0, Value.int .i64 0, Value.int .i64 0, Value.int .i64 0, Value.int .i64 0, Value.int .i64 0, Value.int .i64 0, Value.int .i64 0, Value.int .i64 0, Value.int .i64 0, Value.int .i64 0, Value.int .i64 0, Value.int .i64 0, Value.int .i64 0] 74) := ⟨_, rfl⟩
  have hs1 : w1.heap.size = w.heap.size + 1 := by rw [hw1]; simp
  have g1 : w1.heap[w.heap.size]? = some (.cells #[Value.int .i64 0, Value.int .i64 0, Value.int .i64 0, Value.int .i64 0, Value.int .i64 0, Value.int .i64 0, Value.int .i64 0, Value.int .i64 0, Value.int .i64 0, Value.int .i64 0, Value.int .i64 0, Value.int .i64 0, Value.int .i64 0, Value.int .i64 0, Value.int .i64 0, Value.int .i64 0, Value.int .i64 0, Value.int .i64 0, Value.int .i64 0, Value.int .i64 0, Value.int .i64 0, Value.int .i64 0, Value.int .i64 0, Value.int .i64 0, Value.int .i64 0, Value.int .i64 0, Value.int .i64 0, Value.int .i64 0, Value.int .i64 0, Value.int .i64 0, Value.int .i64 0, Value.int .i64 0, Value.int .i64 0, Value.int .i64 0, Value.int .i64 0, Value.int .i64 0, Value.int .i64 0, Value.int .i64 0, Value.int .i64 0, Value.int .i64 0, Value.int .i64 0, Value.int .i64 0, Value.int .i64 0, Value.int .i64 0, Value.int .i64 0, Value.int .i64 0, Value.int .i64 0, Value.int .i64 0, Value.int .i64 0] 74 (0, 0)) := by rw [hw1]; exact heap_alloc_new _ _
  have b2 : Below w1.heap.size w1 w2 := by rw [hw2]; exact (Below.refl _ _).alloc (Nat.le_refl _) _
  have b1 : Below w.heap.size w w1 := by rw [hw1]; exact (Below.refl _ _).alloc (Nat.le_refl _) _
  have G2 : Hid (w2.heap[w.heap.size + 1]? = some (.cells (npA (npT 0) 0) 74 (0, 0))) := Lib.hid (by rw [npT_zero, hw2, ← hs1]; exact heap_alloc_new _ _)
  have G1 : Hid (w2.heap[w.heap.size]? = some (.cells #[Value.int .i64 0, Value.int .i64 0, Value.int .i64 0, Value.int .i64 0, Value.int .i64 0, Value.int .i64 0, Value.int .i64 0, Value.int .i64 0, Value.int .i64 0, Value.int .i64 0, Value.int .i64 0, Value.int .i64 0, Value.int .i64 0, Value.int .i64 0, Value.int .i64 0, Value.int .i64 0, Value.int .i64 0, Value.int .i64 0, Value.int .i64 0, Value.int .i64 0, Value.int .i64 0, Value.int .i64 0, Value.int .i64 0, Value.int .i64 0, Value.int .i64 0, Value.int .i64 0, Value.int .i64 0, Value.int .i64 0, Value.int .i64 0, Value.int .i64 0, Value.int .i64 0, Value.int .i64 0, Value.int .i64 0, Value.int .i64 0, Value.int .i64 0, Value.int .i64 0, Value.int .i64 0, Value.int .i64 0, Value.int .i64 0, Value.int .i64 0, Value.int .i64 0, Value.int .i64 0, Value.int .i64 0, Value.int .i64 0, Value.int .i64 0, Value.int .i64 0, Value.int .i64 0, Value.int .i64 0, Value.int .i64 0] 74 (0, 0))) := Lib.hid ((b2.block _ (by omega)).trans g1)
  have B2 : Hid (Below w.heap.size w w2) := Lib.hid (b1.trans (b2.mono (by omega)))
  have HW1 := Lib.hid hw1; have HW2 := Lib.hid hw2; have HS1 := Lib.hid hs1
  clear hs1 g1 b1 b2
  go_enter Tryd.func92, Tryd.ntmps92
  go_wp2
  rw [← hw1, ← hw2]
  clear hw1 hw2
  go_loopw [3] (fun i wr => ∃ k : Nat, k ≤ 48 ∧ i = .int .i64 k ∧ wr.heap[w.heap.size]? = some (.cells #[Value.int .i64 0, Value.int .i64 0, Value.int .i64 0, Value.int .i64 0, Value.int .i64 0, Value.int .i64 0, Value.int .i64 0, Value.int .i64 0, Value.int .i64 0, Value.int .i64 0, Value.int .i64 0, Value.int .i64 0, Value.int .i64 0, Value.int .i64 0, Value.int .i64 0, Value.int .i64 0, Value.int .i64 0, Value.int .i64 0, Value.int .i64 0, Value.int .i64 0, Value.int .i64 0, Value.int .i64 0, Value.int .i64 0, Value.int .i64 0, Value.int .i64 0, Value.int .i64 0, Value.int .i64 0, Value.int .i64 0, Value.int .i64 0, Value.int .i64 0, Value.int .i64 0, Value.int .i64 0, Value.int .i64 0, Value.int .i64 0, Value.int .i64 0, Value.int .i64 0, Value.int .i64 0, Value.int .i64 0, Value.int .i64 0, Value.int .i64 0, Value.int .i64 0, Value.int .i64 0, Value.int .i64 0, Value.int .i64 0, Value.int .i64 0, Value.int .i64 0, Value.int .i64 0, Value.int .i64 0, Value.int .i64 0] 74 (0, 0)) ∧ wr.heap[w.heap.size + 1]? = some (.cells (npA (npT k) 0) 74 (0, 0)) ∧ Below w.heap.size w wr) (fun i _ => 48 - (intOf i).toNat)
  case atStart => exact ⟨0, Nat.zero_le _, rfl, G1.out, G2.out, B2.out⟩
  case round =>
    obtain ⟨k, hk, rfl, h1, h2, hB⟩ := hrel
    clear G1 G2 B2
    by_cases hlt : k < 48
    · have x0 := (cell_of_row _ _ k _ _ (0, 0) h2).trans (npA_at (npT_len k) hlt)
      have f0 := frozen_of_row _ _ k _ _ h2
      have hs := heap_setCell_same wr (w.heap.size + 1) k _ _ (.int .i64 (-1)) h2
      rw [npT_set hlt] at hs
      have ho : (wr.setCell ⟨w.heap.size + 1, k, none⟩ (.int .i64 (-1))).heap[w.heap.size]? = some (.cells #[Value.int .i64 0, Value.int .i64 0, Value.int .i64 0, Value.int .i64 0, Value.int .i64 0, Value.int .i64 0, Value.int .i64 0, Value.int .i64 0, Value.int .i64 0, Value.int .i64 0, Value.int .i64 0, Value.int .i64 0, Value.int .i64 0, Value.int .i64 0, Value.int .i64 0, Value.int .i64 0, Value.int .i64 0, Value.int .i64 0, Value.int .i64 0, Value.int .i64 0, Value.int .i64 0, Value.int .i64 0, Value.int .i64 0, Value.int .i64 0, Value.int .i64 0, Value.int .i64 0, Value.int .i64 0, Value.int .i64 0, Value.int .i64 0, Value.int .i64 0, Value.int .i64 0, Value.int .i64 0, Value.int .i64 0, Value.int .i64 0, Value.int .i64 0, Value.int .i64 0, Value.int .i64 0, Value.int .i64 0, Value.int .i64 0, Value.int .i64 0, Value.int .i64 0, Value.int .i64 0, Value.int .i64 0, Value.int .i64 0, Value.int .i64 0, Value.int .i64 0, Value.int .i64 0, Value.int .i64 0, Value.int .i64 0] 74 (0, 0)) := (heap_setCell_other _ _ _ _ (by show w.heap.size ≠ w.heap.size + 1; omega)).trans h1
      have HS := Lib.hid hs; have HO := Lib.hid ho
      have HB := Lib.hid (hB.setCell (p := ⟨w.heap.size + 1, k, none⟩) (by show w.heap.size ≤ w.heap.size + 1; omega) (.int .i64 (-1)))
      have hi : (k : Int) < 48 := by omega
      clear h1 h2 hB hs ho
      generalize (npT k).getD k 0 = v at x0
      go_wp2
      go_roundw
      case rel => exact ⟨k + 1, by omega, by go_num, HO.out, HS.out, HB.out⟩
      case measure => simp [intOf]; omega
    · obtain rfl : k = 48 := by omega
      rw [npT_all] at h2
      have H1 := Lib.hid h1; have H2 := Lib.hid h2; have HB := Lib.hid hB
      clear h1 h2 hB
      have hl48 := npL_len
      have HSZ := Lib.hid (npA_size (c := 0) hl48)
      have HON := Lib.hid (one_np npL 0)
      clear hl48
      obtain ⟨V, hV⟩ : ∃ V, npA npL 0 = V := ⟨_, rfl⟩
      have HV := Lib.hid hV
      rw [hV] at H2 HSZ HON
      clear hV
      go_wp2_with (first
        | (refine wpList_load_row rfl _ _ rfl (w.heap.size + 1) rfl _ _ _ _ H2.out Tryd.underlying74 rfl (by rw [HSZ.out]; exact size_np) ?_)
        | (refine wpList_store_row rfl _ _ _ rfl w.heap.size _ rfl rfl _ _ H1.out (by rw [HSZ.out]; exact size_np) (by rw [HSZ.out]; rfl) HON.out ?_))
      have hg3 := setRow_heap wr w.heap.size _ V _ _ H1.out
      have hb3 : Below w.heap.size w (wr.setRow w.heap.size V) := below_setRow HB.out (Nat.le_refl _) _
      have HG3 := Lib.hid hg3; have HB3 := Lib.hid hb3
      clear hg3 hb3
      generalize wr.setRow w.heap.size V = w3 at *
      go_wp2
      (try simp only [Exit.inBlock, Exit.then])
      refine bodyPost_ret (results_cell_row rfl _ _ w.heap.size _ _ (0, 0) _ rfl HG3.out Tryd.underlying74 rfl (by rw [HSZ.out]; exact size_np)) rfl ?_
      exact ⟨by rw [HV.out], HB3.out⟩
theorem noParts_any (w : World) : Calls Tryd.prog 92 #[] w fun e w' => e = .returned (.agg #[Value.int .i64 (-1), Value.int .i64 (-1), Value.int .i64 (-1), Value.int .i64 (-1), Value.int .i64 (-1), Value.int .i64 (-1), Value.int .i64 (-1), Value.int .i64 (-1), Value.int .i64 (-1), Value.int .i64 (-1), Value.int .i64 (-1), Value.int .i64 (-1), Value.int .i64 (-1), Value.int .i64 (-1), Value.int .i64 (-1), Value.int .i64 (-1), Value.int .i64 (-1), Value.int .i64 (-1), Value.int .i64 (-1), Value.int .i64 (-1), Value.int .i64 (-1), Value.int .i64 (-1), Value.int .i64 (-1), Value.int .i64 (-1), Value.int .i64 (-1), Value.int .i64 (-1), Value.int .i64 (-1), Value.int .i64 (-1), Value.int .i64 (-1), Value.int .i64 (-1), Value.int .i64 (-1), Value.int .i64 (-1), Value.int .i64 (-1), Value.int .i64 (-1), Value.int .i64 (-1), Value.int .i64 (-1), Value.int .i64 (-1), Value.int .i64 (-1), Value.int .i64 (-1), Value.int .i64 (-1), Value.int .i64 (-1), Value.int .i64 (-1), Value.int .i64 (-1), Value.int .i64 (-1), Value.int .i64 (-1), Value.int .i64 (-1), Value.int .i64 (-1), Value.int .i64 (-1), Value.int .i64 0]) ∧ Below w.heap.size w w' := by
  have := noParts_V w
  rwa [npL_lit] at this
/-- What a function leaves that hands back a parsing. -/
def GivesPz (w : World) (h : NH) (N : Nt) (fs : List Int) (e : Ending) (w' : World) : Prop := ∃ g r', e = .returned (.pointer (some ⟨g, 0, none⟩)) ∧ w.heap.size ≤ g ∧ PzS w' g h N fs r' ∧ Below w.heap.size w w'
theorem pz_lit (X Y Z F : Value) : pzA X Y Z npL 0 F = #[X, Y, Z, Value.int .i64 (-1), Value.int .i64 (-1), Value.int .i64 (-1), Value.int .i64 (-1), Value.int .i64 (-1), Value.int .i64 (-1), Value.int .i64 (-1), Value.int .i64 (-1), Value.int .i64 (-1), Value.int .i64 (-1), Value.int .i64 (-1), Value.int .i64 (-1), Value.int .i64 (-1), Value.int .i64 (-1), Value.int .i64 (-1), Value.int .i64 (-1), Value.int .i64 (-1), Value.int .i64 (-1), Value.int .i64 (-1), Value.int .i64 (-1), Value.int .i64 (-1), Value.int .i64 (-1), Value.int .i64 (-1), Value.int .i64 (-1), Value.int .i64 (-1), Value.int .i64 (-1), Value.int .i64 (-1), Value.int .i64 (-1), Value.int .i64 (-1), Value.int .i64 (-1), Value.int .i64 (-1), Value.int .i64 (-1), Value.int .i64 (-1), Value.int .i64 (-1), Value.int .i64 (-1), Value.int .i64 (-1), Value.int .i64 (-1), Value.int .i64 (-1), Value.int .i64 (-1), Value.int .i64 (-1), Value.int .i64 (-1), Value.int .i64 (-1), Value.int .i64 (-1), Value.int .i64 (-1), Value.int .i64 (-1), Value.int .i64 (-1), Value.int .i64 (-1), Value.int .i64 (-1), Value.int .i64 0, F] := by kernel_rfl
set_option maxRecDepth 100000 in
set_option maxHeartbeats 2000000 in
theorem parsingOf_any (h : NH) (N : Nt) (w : World) (hv : valN N = true) (r : RdN w w.heap.size h N) :
    Calls Tryd.prog 60 #[.agg #[.slice h.A N.w.length h.c, .slice h.L N.l.length h.d, .slice h.C N.c.length h.e]] w (GivesPz w h N []) := by
  obtain ⟨w0, hw0⟩ : ∃ w0, w0 = w.alloc (.cells #[.slice h.A N.w.length h.c, .slice h.L N.l.length h.d, .slice h.C N.c.length h.e] 31) := ⟨_, rfl⟩
  obtain ⟨hb, hh, hsz⟩ := box3_any w (.slice h.A N.w.length h.c) (.slice h.L N.l.length h.d) (.slice h.C N.c.length h.e) 31
  rw [← hw0] at hb hh hsz
  have hs0 : w.heap.size + 1 ≤ w0.heap.size := by omega
  have HKF : Hid (∀ w', Below w0.heap.size w0 w' → w'.cell? ⟨w.heap.size, 0, none⟩ = some (.slice h.A N.w.length h.c) ∧ w'.cell? ⟨w.heap.size, 1, none⟩ = some (.slice h.L N.l.length h.d) ∧ w'.cell? ⟨w.heap.size, 2, none⟩ = some (.slice h.C N.c.length h.e)) := Lib.hid fun w' hw => three_cells ((hw.block _ (by omega)).trans hh)
  have HO := Lib.hid (fun (wx : World) (hx : Below w0.heap.size w0 wx) => linksOut_any h N wx hv ((r.below (hb.trans (hx.mono hb.size))).more (Nat.le_trans hb.size hx.size)))
  have HIN := Lib.hid (fun (wx : World) (hx : Below w0.heap.size w0 wx) => linksIn_any h N wx hv ((r.below (hb.trans (hx.mono hb.size))).more (Nat.le_trans hb.size hx.size)))
  have HNP := Lib.hid (fun (wx : World) => noParts_any wx)
  have BD : Hid (Below w0.heap.size w0 w0.drew) := Lib.hid ((Below.refl w0.heap.size w0).drew)
  have K0 := Lib.hid (HKF.out _ (Below.refl _ w0))
  have HB0 := Lib.hid hb
  have HRL := Lib.hid r.2.1
  have HWO := Lib.hid (lxL_len outL N); have HWI := Lib.hid (lxL_len inL N)
  obtain ⟨y0, y1, y2⟩ := three_cells hh
  have tok1 : True := trivial
  clear hb hh hsz r hv
  go_enter Tryd.func60, Tryd.ntmps60
  go_upto_region 1 with (fail)
  rw [← hw0]
  clear hw0
  go_region_held3 (fun wx => wx.cell? ⟨w.heap.size, 0, none⟩ = some (.slice h.A N.w.length h.c) ∧ wx.cell? ⟨w.heap.size, 1, none⟩ = some (.slice h.L N.l.length h.d) ∧ wx.cell? ⟨w.heap.size, 2, none⟩ = some (.slice h.C N.c.length h.e))
    (first | exact K0.out | exact HKF.out _ BD.out | exact HKF.out _ B1.out | exact HKF.out _ B2.out | exact HKF.out _ B3.out | exact HKF.out _ (B3.out.alloc B3.out.size _))
    (first
      | (have _t := tok1; go_at_call 72; refine (HO.out w0.drew BD.out).mono ?_; rintro e u1 ⟨AF, cF, rfl, ownF, belF⟩; have B1 := Lib.hid (BD.out.trans (belF.mono BD.out.size)); have O1 := Lib.hid (RdI.of_own ownF); have tok2 : True := trivial; rw [HWO.out]; clear ownF belF tok1)
      | (have _t := tok2; go_at_call 72; refine (HIN.out u1 B1.out).mono ?_; rintro e u2 ⟨AG, cG, rfl, ownG, belG⟩; have B2 := Lib.hid (B1.out.trans (belG.mono B1.out.size)); have O2 := Lib.hid (RdI.of_own ownG); have O1b := Lib.hid ((O1.out.below belG).more belG.size); have tok3 : True := trivial; rw [HWI.out]; clear ownG belG tok2)
      | (have _t := tok3; go_at_call 92; refine (HNP.out u2).mono ?_; rintro e u3 ⟨rfl, belN⟩; have B3 := Lib.hid (B2.out.trans (belN.mono B2.out.size)); have O2b := Lib.hid ((O2.out.below belN).more belN.size); have O1c := Lib.hid ((O1b.out.below belN).more belN.size); clear belN tok3))
  all_goals
    have HG : Hid (PzS (u3.alloc (.cells #[.slice h.L N.l.length h.d, .slice AF N.w.length cF, .slice AG N.w.length cG, Value.int .i64 (-1), Value.int .i64 (-1), Value.int .i64 (-1), Value.int .i64 (-1), Value.int .i64 (-1), Value.int .i64 (-1), Value.int .i64 (-1), Value.int .i64 (-1), Value.int .i64 (-1), Value.int .i64 (-1), Value.int .i64 (-1), Value.int .i64 (-1), Value.int .i64 (-1), Value.int .i64 (-1), Value.int .i64 (-1), Value.int .i64 (-1), Value.int .i64 (-1), Value.int .i64 (-1), Value.int .i64 (-1), Value.int .i64 (-1), Value.int .i64 (-1), Value.int .i64 (-1), Value.int .i64 (-1), Value.int .i64 (-1), Value.int .i64 (-1), Value.int .i64 (-1), Value.int .i64 (-1), Value.int .i64 (-1), Value.int .i64 (-1), Value.int .i64 (-1), Value.int .i64 (-1), Value.int .i64 (-1), Value.int .i64 (-1), Value.int .i64 (-1), Value.int .i64 (-1), Value.int .i64 (-1), Value.int .i64 (-1), Value.int .i64 (-1), Value.int .i64 (-1), Value.int .i64 (-1), Value.int .i64 (-1), Value.int .i64 (-1), Value.int .i64 (-1), Value.int .i64 (-1), Value.int .i64 (-1), Value.int .i64 (-1), Value.int .i64 (-1), Value.int .i64 (-1), .int .i64 0, .slice none 0 0] 76)) u3.heap.size h N [] ⟨npL, AF, cF, AG, cG, none, 0⟩) := Lib.hid (by
      have hba : Below u3.heap.size u3 (u3.alloc (.cells #[.slice h.L N.l.length h.d, .slice AF N.w.length cF, .slice AG N.w.length cG, Value.int .i64 (-1), Value.int .i64 (-1), Value.int .i64 (-1), Value.int .i64 (-1), Value.int .i64 (-1), Value.int .i64 (-1), Value.int .i64 (-1), Value.int .i64 (-1), Value.int .i64 (-1), Value.int .i64 (-1), Value.int .i64 (-1), Value.int .i64 (-1), Value.int .i64 (-1), Value.int .i64 (-1), Value.int .i64 (-1), Value.int .i64 (-1), Value.int .i64 (-1), Value.int .i64 (-1), Value.int .i64 (-1), Value.int .i64 (-1), Value.int .i64 (-1), Value.int .i64 (-1), Value.int .i64 (-1), Value.int .i64 (-1), Value.int .i64 (-1), Value.int .i64 (-1), Value.int .i64 (-1), Value.int .i64 (-1), Value.int .i64 (-1), Value.int .i64 (-1), Value.int .i64 (-1), Value.int .i64 (-1), Value.int .i64 (-1), Value.int .i64 (-1), Value.int .i64 (-1), Value.int .i64 (-1), Value.int .i64 (-1), Value.int .i64 (-1), Value.int .i64 (-1), Value.int .i64 (-1), Value.int .i64 (-1), Value.int .i64 (-1), Value.int .i64 (-1), Value.int .i64 (-1), Value.int .i64 (-1), Value.int .i64 (-1), Value.int .i64 (-1), Value.int .i64 (-1), .int .i64 0, .slice none 0 0] 76)) := (Below.refl _ _).alloc (Nat.le_refl _) _
      have o1 := O1c.out; have o2 := O2b.out
      rw [HWO.out] at o1
      rw [HWI.out] at o2
      refine ⟨?_, Uf.start, rfl, o1.below hba, o2.below hba, ?_, World.ownsRow_nil _ _ _ _⟩
      · unfold PzB
        rw [show cntQ (qN N []) = 0 from cntQ_start, pz_lit]
        exact heap_alloc_new _ _
      · exact ((HRL.out.below (HB0.out.trans (B3.out.mono HB0.out.size))).more (Nat.le_trans HB0.out.size B3.out.size)).below hba)
    have HGB : Hid (Below w.heap.size w (u3.alloc (.cells #[.slice h.L N.l.length h.d, .slice AF N.w.length cF, .slice AG N.w.length cG, Value.int .i64 (-1), Value.int .i64 (-1), Value.int .i64 (-1), Value.int .i64 (-1), Value.int .i64 (-1), Value.int .i64 (-1), Value.int .i64 (-1), Value.int .i64 (-1), Value.int .i64 (-1), Value.int .i64 (-1), Value.int .i64 (-1), Value.int .i64 (-1), Value.int .i64 (-1), Value.int .i64 (-1), Value.int .i64 (-1), Value.int .i64 (-1), Value.int .i64 (-1), Value.int .i64 (-1), Value.int .i64 (-1), Value.int .i64 (-1), Value.int .i64 (-1), Value.int .i64 (-1), Value.int .i64 (-1), Value.int .i64 (-1), Value.int .i64 (-1), Value.int .i64 (-1), Value.int .i64 (-1), Value.int .i64 (-1), Value.int .i64 (-1), Value.int .i64 (-1), Value.int .i64 (-1), Value.int .i64 (-1), Value.int .i64 (-1), Value.int .i64 (-1), Value.int .i64 (-1), Value.int .i64 (-1), Value.int .i64 (-1), Value.int .i64 (-1), Value.int .i64 (-1), Value.int .i64 (-1), Value.int .i64 (-1), Value.int .i64 (-1), Value.int .i64 (-1), Value.int .i64 (-1), Value.int .i64 (-1), Value.int .i64 (-1), Value.int .i64 (-1), Value.int .i64 (-1), .int .i64 0, .slice none 0 0] 76))) := Lib.hid ((HB0.out.trans (B3.out.mono HB0.out.size)).alloc (Nat.le_trans HB0.out.size B3.out.size) _)
    have hge : w.heap.size ≤ u3.heap.size := Nat.le_trans HB0.out.size B3.out.size
    have HGE := Lib.hid hge
    clear y0 y1 y2 hge
    go_wp2
    go_ret
    exact ⟨_, _, rfl, HGE.out, HG.out, HGB.out⟩
end Go.Proofs.YtgpocnapkflihaaDoor
