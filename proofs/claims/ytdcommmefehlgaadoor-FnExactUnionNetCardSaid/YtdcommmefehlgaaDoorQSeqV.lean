/- A sequent is valid: ValidSeq of the program and of the model. The laws' helpers at sequents, and the marks at rows of slices. Two sequents compared: SameSeq of the program and of the model. A function mapped over a sequent: mappedSeq with slices.Clone (copyOfSeq) and with DualOf; DualSeq of the program. DualSeq of the model. The model's copies of rows and sequents. A sequent that came in, opened. The laws' helpers at lists and rows, in one form: copies, comparison, marks (for the exact laws' walks that genex.py writes). -/
import Derived.Test.YtdcommmefehlgaaDoorRowH
import Derived.Test.YtdcommmefehlgaaDoorQBytes
import Derived.Test.YtdcommmefehlgaaDoorQDual
import Derived.Test.YtdcommmefehlgaaDoorQValid
import Derived.Deep.RegionLaw
import Derived.Deep.AppendLies
import Derived.Deep.Matrix
import Derived.Deep.RegionWith
import Derived.Deep.DeepCutAuto
import Derived.Test.YtdcommmefehlgaaDoorQMath
namespace Go.Proofs.YtdcommmefehlgaaDoor
set_option linter.unusedSimpArgs false
set_option linter.unusedVariables false
section
open Go.ChangeAt Go.ChangeShapes Go.RowKit Go.WideShapes

/-- The sequent is valid. -/
def validQ (qs : List (List Int)) : Bool := decide (qs.length ≤ 10) && (qs.all validB && decide (total qs ≤ 60))
theorem validQ_long {qs : List (List Int)} (h : 10 < qs.length) : validQ qs = false := by unfold validQ; rw [decide_eq_false (by omega)]; rfl
theorem validQ_bad {qs : List (List Int)} {k : Nat} (h : k < qs.length) (hb : validB (qs.getD k []) = false) : validQ qs = false := by
  have : qs.all validB = false := by
    rw [List.all_eq_false]
    exact ⟨_, getD_mem h, by rw [hb]; decide⟩
  simp [validQ, this]
theorem allv_step {qs : List (List Int)} {k : Nat} (h : k < qs.length) (ha : (qs.take k).all validB = true) (hb : validB (qs.getD k []) = true) : (qs.take (k + 1)).all validB = true := by
  rw [List.take_succ_eq_append_getElem h, List.all_append, ha]
  have e : qs.getD k [] = qs[k] := by simp [List.getD, h]
  rw [e] at hb
  simp [hb]
theorem total_valid {qs : List (List Int)} (h : qs.all validB = true) : total qs ≤ 24 * qs.length := by
  induction qs with
  | nil => simp [total]
  | cons q qs ih =>
    simp only [List.all_cons, Bool.and_eq_true] at h
    have := ih h.2
    have hl := valid_len h.1
    simp [total] at this ⊢
    omega

theorem box_below (w : World) (v : Value) (t : TypeId) : Below w.heap.size w (w.alloc (.cells #[v] t)) := (Below.refl _ _).alloc (Nat.le_refl _) _

theorem undrew {w w' : World} (h : Below w.drew.heap.size w.drew w') : Below w.heap.size w w' := ⟨h.os, h.tape, h.output, h.size, h.block⟩
theorem heap_two (w : World) (a b c : Obj) : (((w.alloc a).alloc b).alloc c).heap[w.heap.size + 1]? = some b := by
  have h : (w.alloc a).heap.size = w.heap.size + 1 := by simp
  rw [Below.heap_alloc _ _ _ (by simp), ← h]
  exact heap_alloc_new _ _
/-- The marks that a row of slices bears. -/
def mrkQ (k : Int) : List (List Int) → List (List Int)
  | [] => []
  | q :: qs => markL k q.length :: mrkQ (k + q.length) qs
theorem mrkQ_len : ∀ (k : Int) (qs : List (List Int)), (mrkQ k qs).length = qs.length
  | _, [] => rfl
  | k, q :: qs => by simp [mrkQ, mrkQ_len]
theorem mrkQ_app : ∀ (k : Int) (xs ys : List (List Int)), mrkQ k (xs ++ ys) = mrkQ k xs ++ mrkQ (k + total xs) ys
  | k, [], ys => by simp [mrkQ, total]
  | k, x :: xs, ys => by
    have e : k + (x.length : Int) + (total xs : Nat) = k + (total (x :: xs) : Nat) := by simp [total]; omega
    rw [List.cons_append, mrkQ, mrkQ, mrkQ_app, e]; rfl
theorem mrkQ_at (k : Int) {qs : List (List Int)} {j : Nat} (h : j < qs.length) : (mrkQ k qs).getD j [] = markL (k + total (qs.take j)) (qs.getD j []).length := by
  have e : qs = qs.take j ++ (qs.getD j [] :: qs.drop (j + 1)) := by
    have e3 : qs.getD j [] = qs[j] := by simp [List.getD, h]
    rw [e3, List.getElem_cons_drop]
    exact (List.take_append_drop _ _).symm
  have hl : (mrkQ k (qs.take j)).length = j := by rw [mrkQ_len, List.length_take]; omega
  conv => lhs; rw [e, mrkQ_app]
  rw [List.getD_eq_getElem?_getD, List.getElem?_append_right (by omega), hl, Nat.sub_self]
  rfl
/-- How far the marking of a row has come. -/
def mrq (qs : List (List Int)) (k : Int) (j : Nat) : List (List Int) := mrkQ k (qs.take j) ++ qs.drop j
theorem mrq_zero (qs : List (List Int)) (k : Int) : mrq qs k 0 = qs := by simp [mrq, mrkQ]
theorem mrq_all (qs : List (List Int)) (k : Int) : mrq qs k qs.length = mrkQ k qs := by simp [mrq]
theorem mrq_len (qs : List (List Int)) (k : Int) {j : Nat} (h : j ≤ qs.length) : (mrq qs k j).length = qs.length := by
  unfold mrq; rw [List.length_append, mrkQ_len, List.length_take, List.length_drop]; omega
theorem mrq_get (qs : List (List Int)) (k : Int) {j : Nat} (h : j < qs.length) : (mrq qs k j).getD j [] = qs.getD j [] := by
  have hl : (mrkQ k (qs.take j)).length = j := by rw [mrkQ_len, List.length_take]; omega
  unfold mrq
  rw [List.getD_eq_getElem?_getD, List.getElem?_append_right (by omega), hl, Nat.sub_self, List.getElem?_drop]
  simp [List.getD]
theorem mrq_step (qs : List (List Int)) (k : Int) {j : Nat} (h : j < qs.length) : (mrq qs k j).set j (markL (k + total (qs.take j)) (qs.getD j []).length) = mrq qs k (j + 1) := by
  have hl : (mrkQ k (qs.take j)).length = j := by rw [mrkQ_len, List.length_take]; omega
  unfold mrq
  rw [List.set_append_right _ _ (by omega), hl, Nat.sub_self, List.drop_eq_getElem_cons h, List.set_cons_zero, List.take_succ_eq_append_getElem h, mrkQ_app, List.append_assoc]
  have e3 : qs.getD j [] = qs[j] := by simp [List.getD, h]
  rw [e3]
  rfl

set_option maxHeartbeats 1000000 in
theorem markSS_any (A : Option Addr) (n c : Nat) (hs : Nat → Option Addr × Nat) (qs : List (List Int)) (k : Int) (w : World) (lo hi : Nat) (h : OwnQ w lo hi (.slice A n c) hs qs) (hn : qs.length = n) (hn1 : n ≤ 1048576) (ht : total qs ≤ 1048576) (hk0 : 0 ≤ k) (hk1 : k ≤ 536870912) :
    Calls Tryd.prog 49 #[.slice A n c, .int .i64 k] w fun e w' => e = .returned (.int .i64 (k + total qs)) ∧ OwnQ w' lo hi (.slice A n c) hs (mrkQ k qs) ∧ Kept lo hi w w' := by
  subst hn
  go_enter Tryd.func49, Tryd.ntmps49
  go_wp2
  go_loopw [1, 5] (fun v i wr => ∃ j : Nat, j ≤ qs.length ∧ i = .int .i64 j ∧ v = .int .i64 (k + total (qs.take j)) ∧ OwnQ wr lo hi (.slice A qs.length c) hs (mrq qs k j) ∧ Kept lo hi w wr) (fun _ i _ => qs.length - (intOf i).toNat)
  case atStart => exact ⟨0, Nat.zero_le _, rfl, by simp [total], by rw [mrq_zero]; exact h, Kept.refl _ _ _⟩
  case round =>
    obtain ⟨j, hj, rfl, rfl, hown, hkp⟩ := hrel
    clear h
    by_cases hlt : j < qs.length
    · have hml := mrq_len qs k hj
      have hstep := mrq_step qs k hlt
      have hget := mrq_get qs k hlt
      have htt := total_take hlt
      have htl := total_le hlt
      obtain ⟨g, cap, hv', hlo, hgl⟩ := hown.outer.form (by omega)
      have hA : A = some ⟨g, 0, none⟩ ∧ c = cap := by rw [hml] at hv'; injection hv' with a b c'; exact ⟨a, c'⟩
      obtain ⟨rfl, rfl⟩ := hA
      obtain ⟨_, hcell⟩ := hown.at hml hlt
      have hin := hown.inner j (by rw [hml]; exact hlt)
      rw [hget] at hin
      have hvv : hv hs (mrq qs k j) j = .slice (hs j).1 (qs.getD j []).length (hs j).2 := by unfold hv; rw [hget]
      have hput := fun (w' : World) (a : _) (b : _) => hown.put (w' := w') (q := markL (k + total (qs.take j)) (qs.getD j []).length) (by rw [hml]; exact hlt) (by rw [hget, markL_len]) a b
      rw [hstep] at hput
      have hgr : ∀ b, (hv hs (mrq qs k j) j).ownBlock = some b → lo ≤ b ∧ b < hi := fun b e => ⟨(hin.lt b e).1, hown.top j b (by rw [hml]; exact hlt) e⟩
      rw [hvv] at hin hcell hput hgr
      rw [markL_len] at hput
      have HM := Lib.hid (mark_any (hs j).1 (qs.getD j []).length (hs j).2 (qs.getD j []) (k + total (qs.take j)) wr lo hin (by omega) (by omega) (by omega))
      have HP := Lib.hid hput; have HG := Lib.hid hgr; have HK := Lib.hid hkp
      have HT : Hid (k + (total (qs.take (j + 1)) : Nat) = k + total (qs.take j) + (qs.getD j []).length) := Lib.hid (by rw [htt]; omega)
      clear hin hput hgr hkp hown hstep hget hvv htt hml hv'
      generalize (qs.getD j []).length = M at *
      generalize total (qs.take j) = T at *
      go_wp2_with (fail)
      refine HM.out.mono ?_
      rintro e w2 ⟨rfl, own2, gr2⟩
      have HO2 := Lib.hid (HP.out w2 own2 gr2)
      have HK2 := Lib.hid (HK.out.trans (Kept.of_grown gr2 HG.out))
      clear own2 gr2
      go_wp2
      go_roundw
      case rel => exact ⟨j + 1, by omega, by go_num, by rw [HT.out], HO2.out, HK2.out⟩
      case measure => simp [intOf]; omega
    · have hkl : j = qs.length := by omega
      subst hkl
      rw [mrq_all] at hown
      rw [total_all qs (Nat.le_refl _)]
      have HS := Lib.hid hown; have HK := Lib.hid hkp
      clear hown hkp
      go_wp2
      go_ret
      exact ⟨rfl, HS.out, HK.out⟩

set_option maxHeartbeats 1000000 in
theorem heldSS_any (A : Option Addr) (n c : Nat) (qs : List (List Int)) (k : Int) (w : World) (h : RdQ w w.heap.size A n (mrkQ k qs)) (hn1 : n ≤ 1048576) (ht : total qs ≤ 1048576) (hk0 : 0 ≤ k) (hk1 : k ≤ 536870912) :
    Calls Tryd.prog 51 #[.slice A n c, .int .i64 k] w fun e w' => e = .returned (.int .i64 (k + total qs)) ∧ w = w' := by
  have hl := h.len
  rw [mrkQ_len] at hl
  subst hl
  go_enter Tryd.func51, Tryd.ntmps51
  go_wp2
  go_loop [1, 5] (fun v i => ∃ j : Nat, j ≤ qs.length ∧ i = .int .i64 j ∧ v = .int .i64 (k + total (qs.take j))) (fun _ i => qs.length - (intOf i).toNat)
  case atStart => exact ⟨0, Nat.zero_le _, rfl, by simp [total]⟩
  case round =>
    obtain ⟨j, hj, rfl, rfl⟩ := hrel
    by_cases hlt : j < qs.length
    · obtain ⟨b, off, rfl, hbb, hcells⟩ := h.2 (by omega)
      obtain ⟨A', c', hcell, _, hrd⟩ := hcells j hlt
      rw [mrkQ_at k hlt, markL_len] at hcell hrd
      have htt := total_take hlt
      have htl := total_le hlt
      have HM := Lib.hid (held_any A' (qs.getD j []).length c' (k + total (qs.take j)) w hrd (by omega) (by omega) (by omega))
      have HT : Hid (k + (total (qs.take (j + 1)) : Nat) = k + total (qs.take j) + (qs.getD j []).length) := Lib.hid (by rw [htt]; omega)
      clear hcells h hrd htt
      generalize (qs.getD j []).length = M at *
      generalize total (qs.take j) = T at *
      have hd : decide (k + (T : Int) + (M : Int) < 0) = false := decide_eq_false (by omega)
      go_wp2_with (fail)
      refine HM.out.mono ?_
      rintro e w' ⟨rfl, rfl⟩
      go_wp2
      go_round
      case rel => exact ⟨j + 1, by omega, by go_num, by rw [HT.out]⟩
      case measure => simp [intOf]; omega
    · have hkl : j = qs.length := by omega
      subst hkl
      rw [total_all qs (Nat.le_refl _)]
      clear h
      go_wp2
      go_ret
      exact ⟨rfl, rfl⟩
end
section
open Go.ChangeAt Go.ChangeShapes Go.RowKit Go.WideShapes

/-- .. and a bool. -/
def GivesSeqB (w : World) (V : List (List Int)) (b : Bool) (e : Ending) (w' : World) : Prop :=
  ∃ hs A c, e = .returned (.tuple #[.agg #[.slice A V.length c], .bool b]) ∧ OwnQ w' w.heap.size w'.heap.size (.slice A V.length c) hs V ∧ Below w.heap.size w w'
theorem two_heap (w : World) (a b : Obj) : ((w.alloc a).alloc b).heap[w.heap.size]? = some a ∧ ((w.alloc a).alloc b).heap[w.heap.size + 1]? = some b := by
  have h : (w.alloc a).heap.size = w.heap.size + 1 := by simp
  refine ⟨?_, ?_⟩
  · rw [Below.heap_alloc _ _ _ (by simp)]; exact heap_alloc_new _ _
  · rw [← h]; exact heap_alloc_new _ _
/-- The store of a struct of one cell into a variable of one's own. -/
theorem cell_set {w : World} {b : Nat} {v u : Value} {t : TypeId} (h : w.heap[b]? = some (.cells #[v] t (0, 0))) : (w.setCell ⟨b, 0, none⟩ u).heap[b]? = some (.cells #[u] t (0, 0)) := by
  have := heap_setCell_same w b 0 #[v] t u h
  simpa using this
/-- .. where the variable lies below the parts. -/
theorem seq_out2 {w wr : World} {V : List (List Int)} {A : Option Addr} {n c b lo b0 : Nat} {t : TypeId} {v : Value} {hs : Nat → Option Addr × Nat} (hb : Below b0 w wr) (hlo : b0 ≤ b) (hlt : b < lo) (hh : wr.heap[b]? = some (.cells #[v] t (0, 0)))
    (own : OwnQ wr lo wr.heap.size (.slice A n c) hs V) :
    (wr.setCell ⟨b, 0, none⟩ (.slice A n c)).heap[b]? = some (.cells #[.slice A n c] t (0, 0)) ∧
      OwnQ (wr.setCell ⟨b, 0, none⟩ (.slice A n c)) b0 (wr.setCell ⟨b, 0, none⟩ (.slice A n c)).heap.size (.slice A n c) hs V ∧ Below b0 w (wr.setCell ⟨b, 0, none⟩ (.slice A n c)) := by
  have e : (wr.setCell ⟨b, 0, none⟩ (.slice A n c)).heap.size = wr.heap.size := by simp
  refine ⟨cell_set hh, ?_, hb.setCell hlo _⟩
  rw [e]
  exact (own.setBelow hlt _).more (by omega) (Nat.le_refl _)

/-- The append of a new part to a row in a variable of one's own (block b): what it asks. -/
theorem push_in {w5 w6 : World} {lo k c2 c6 : Nat} {A2 A6 : Option Addr} {hs : Nat → Option Addr × Nat} {cur : List (List Int)} {dq : List Int} (own5 : OwnQ w5 lo w5.heap.size (.slice A2 k c2) hs cur) (hlen : cur.length = k) (hlo : lo ≤ w5.heap.size)
    (bel6 : Below w5.heap.size w5 w6) :
    (w6.alloc (.cells #[.slice A6 dq.length c6] 24)).ownsRow lo 24 1 (.slice A2 k c2) k (rowV hs cur) ∧
      (∀ j u, [Value.slice A6 dq.length c6][j]? = some u → (w6.alloc (.cells #[.slice A6 dq.length c6] 24)).cell? ((⟨w6.heap.size, 0, none⟩ : Addr).add j) = some u) ∧ lo ≤ (w6.alloc (.cells #[.slice A6 dq.length c6] 24)).heap.size := by
  have h := ((own5.below bel6).below (box_below w6 (.slice A6 dq.length c6) 24)).outer
  rw [hlen] at h
  have hs6 := bel6.size
  exact ⟨h, World.news_of_block (heap_alloc_new w6 (.cells #[.slice A6 dq.length c6] 24)), by simp; omega⟩
/-- .. and what it leaves, the store behind it done. -/
theorem push_out {w3 w5 w6 w7 : World} {b lo k c2 c6 g cap : Nat} {A2 A6 : Option Addr} {t : TypeId} {hs : Nat → Option Addr × Nat} {cur : List (List Int)} {dq : List Int} (own5 : OwnQ w5 lo w5.heap.size (.slice A2 k c2) hs cur) (hlen : cur.length = k) (hlo : lo ≤ w5.heap.size) (hbl : b < lo)
    (bl5 : Below b w3 w5) (hb5 : w5.heap[b]? = some (.cells #[.slice A2 k c2] t (0, 0))) (bel6 : Below w5.heap.size w5 w6) (own6 : w6.ownsRow w5.heap.size 2 1 (.slice A6 dq.length c6) dq.length (dq.map (Value.int .i64)))
    (hown7 : w7.ownsRow lo 24 1 (.slice (some ⟨g, 0, none⟩) (k + 1) cap) (k + 1) (rowV hs cur ++ [.slice A6 dq.length c6])) (hgrow7 : (w6.alloc (.cells #[.slice A6 dq.length c6] 24)).grownBy w7 (Value.slice A2 k c2).ownBlock)
    (hat7 : (Value.slice A2 k c2).ownBlock = some g ∨ g = (w6.alloc (.cells #[.slice A6 dq.length c6] 24)).heap.size) :
    (∀ p : Addr, p.block < lo → w7.cell? p = w5.cell? p) ∧ w7.frozen? ⟨b, 0, none⟩ = false ∧
      (w7.setCell ⟨b, 0, none⟩ (.slice (some ⟨g, 0, none⟩) (k + 1) cap)).heap[b]? = some (.cells #[.slice (some ⟨g, 0, none⟩) (k + 1) cap] t (0, 0)) ∧
      OwnQ (w7.setCell ⟨b, 0, none⟩ (.slice (some ⟨g, 0, none⟩) (k + 1) cap)) lo (w7.setCell ⟨b, 0, none⟩ (.slice (some ⟨g, 0, none⟩) (k + 1) cap)).heap.size (.slice (some ⟨g, 0, none⟩) (k + 1) cap) (upd hs cur.length (A6, c6)) (cur ++ [dq]) ∧
      Below b w3 (w7.setCell ⟨b, 0, none⟩ (.slice (some ⟨g, 0, none⟩) (k + 1) cap)) := by
  have hbx := box_below w6 (.slice A6 dq.length c6) 24
  have hs6 := bel6.size
  have hsx := hbx.size
  have ob : ∀ q, (Value.slice A2 k c2).ownBlock = some q → lo ≤ q := fun q e => (own5.outer.lt q e).1
  have b67 : Below lo w5 w7 := ((bel6.mono hlo).trans (hbx.mono (by omega))).grown hgrow7 (by omega) ob
  have hb7 := (b67.block b hbl).trans hb5
  have own6a := (own5.below bel6).below hbx
  subst hlen
  have hq := OwnQ.push (hi' := w7.heap.size) own6a ((own6.mono hlo).alloc (.cells #[.slice A6 dq.length c6] 24)) (fun q e => (own6.lt q e).1) hown7 hgrow7
    (fun q e => by
      obtain rfl : g = q := by simpa [Value.ownBlock] using e
      rcases hat7 with h | h
      · exact .inl h
      · exact .inr (Nat.le_of_eq h.symm)) (by omega) (Nat.le_refl _)
  have e : (w7.setCell ⟨b, 0, none⟩ (.slice (some ⟨g, 0, none⟩) (cur.length + 1) cap)).heap.size = w7.heap.size := by simp
  refine ⟨fun p hp => b67.cell hp, frozen_of_row _ _ 0 _ _ hb7, cell_set hb7, ?_, (bl5.trans (b67.mono (by omega))).setCell (Nat.le_refl _) _⟩
  rw [e]
  exact hq.setBelow hbl _

/-- What a function leaves that hands back a row of slices in memory of its own. -/
def GivesSS (w : World) (V : List (List Int)) (e : Ending) (w' : World) : Prop :=
  ∃ hs A c, e = .returned (.slice A V.length c) ∧ OwnQ w' w.heap.size w'.heap.size (.slice A V.length c) hs V ∧ Below w.heap.size w w'
/-- A part pushed onto a row in a slot. -/
theorem push_own {w5 w6 w7 : World} {lo k c2 c6 g cap : Nat} {A2 A6 : Option Addr} {hs : Nat → Option Addr × Nat} {cur : List (List Int)} {dq : List Int} (own5 : OwnQ w5 lo w5.heap.size (.slice A2 k c2) hs cur) (hlen : cur.length = k) (hlo : lo ≤ w5.heap.size)
    (bel6 : Below w5.heap.size w5 w6) (own6 : w6.ownsRow w5.heap.size 2 1 (.slice A6 dq.length c6) dq.length (dq.map (Value.int .i64)))
    (hown7 : w7.ownsRow lo 24 1 (.slice (some ⟨g, 0, none⟩) (k + 1) cap) (k + 1) (rowV hs cur ++ [.slice A6 dq.length c6])) (hgrow7 : (w6.alloc (.cells #[.slice A6 dq.length c6] 24)).grownBy w7 (Value.slice A2 k c2).ownBlock)
    (hat7 : (Value.slice A2 k c2).ownBlock = some g ∨ g = (w6.alloc (.cells #[.slice A6 dq.length c6] 24)).heap.size) :
    OwnQ w7 lo w7.heap.size (.slice (some ⟨g, 0, none⟩) (k + 1) cap) (upd hs cur.length (A6, c6)) (cur ++ [dq]) ∧ Below lo w5 w7 := by
  have hbx := box_below w6 (.slice A6 dq.length c6) 24
  have hs6 := bel6.size
  have hsx := hbx.size
  have ob : ∀ q, (Value.slice A2 k c2).ownBlock = some q → lo ≤ q := fun q e => (own5.outer.lt q e).1
  have b67 : Below lo w5 w7 := ((bel6.mono hlo).trans (hbx.mono (by omega))).grown hgrow7 (by omega) ob
  have own6a := (own5.below bel6).below hbx
  subst hlen
  exact ⟨OwnQ.push (hi' := w7.heap.size) own6a ((own6.mono hlo).alloc (.cells #[.slice A6 dq.length c6] 24)) (fun q e => (own6.lt q e).1) hown7 hgrow7
    (fun q e => by
      obtain rfl : g = q := by simpa [Value.ownBlock] using e
      rcases hat7 with h | h
      · exact .inl h
      · exact .inr (Nat.le_of_eq h.symm)) (by omega) (Nat.le_refl _), b67⟩
/-- An empty row just made. -/
theorem OwnQ.made (w : World) (hs : Nat → Option Addr × Nat) : OwnQ (w.alloc (.cells #[] 24)) w.heap.size (w.alloc (.cells #[] 24)).heap.size (.slice (some ⟨w.heap.size, 0, none⟩) 0 0) hs [] where
  outer := by simpa [rowV] using World.ownsRow_made (e := 24) (base := w.heap.size) (size := 1) w #[] 0 (Nat.le_refl _) (by simp [maxLen]) rfl
  inner i hi := by simp at hi
  apart i _ hi := by simp at hi
  apart0 i hi := by simp at hi
  top0 k e := by
    obtain rfl : w.heap.size = k := by simpa [Value.ownBlock] using e
    simp
  top i _ hi := by simp at hi
theorem take_push {qs : List (List Int)} {k : Nat} (h : k < qs.length) : qs.take k ++ [qs.getD k []] = qs.take (k + 1) := by
  rw [List.take_succ_eq_append_getElem h]
  simp [List.getD, h]

set_option maxHeartbeats 2000000 in
theorem sCopyForms_any (A : Option Addr) (n c : Nat) (qs : List (List Int)) (w : World) (h : RdQ w w.heap.size A n qs) (hn : n ≤ 1000) (hq : ∀ q ∈ qs, q.length ≤ 1000) (hp : ∀ q ∈ qs, 0 < q.length) :
    Calls Tryd.prog 79 #[.slice A n c] w (GivesSS w qs) := by
  obtain ⟨i0, hi0, hz0, hz1, hz2⟩ := info_parts_s
  have hl := h.len
  subst hl
  have hw0 := OwnQ.made w (fun _ => (none, 0))
  have hb0 : Below w.heap.size w (w.alloc (.cells #[] 24)) := (Below.refl _ _).alloc (Nat.le_refl _) _
  have HI := Lib.hid hi0; have HZ0 := Lib.hid hz0; have HZ1 := Lib.hid hz1; have HZ2 := Lib.hid hz2
  have H0 := Lib.hid hw0; have HB0 := Lib.hid hb0
  clear hi0 hz0 hz1 hz2 hw0 hb0
  go_enter Tryd.func79, Tryd.ntmps79
  go_wp2
  generalize w.alloc (.cells #[] 24) = w1 at *
  go_loopw [3, 4] (fun o i wr => ∃ k : Nat, k ≤ qs.length ∧ i = .int .i64 k ∧ ∃ hs A2 c2, o = .slice A2 k c2 ∧ OwnQ wr w.heap.size wr.heap.size (.slice A2 k c2) hs (qs.take k) ∧ Below w.heap.size w wr) (fun _ i _ => qs.length - (intOf i).toNat)
  case atStart => exact ⟨0, Nat.zero_le _, rfl, _, _, _, rfl, H0.out, HB0.out⟩
  case round =>
    obtain ⟨k, hk, rfl, hs, A2, c2, rfl, hown, hb⟩ := hrel
    by_cases hlt : k < qs.length
    · have h' := (h.below hb).more hb.size
      obtain ⟨b, off, rfl, hbb, hcells⟩ := h'.2 (by omega)
      obtain ⟨A', c', hcell, hcc, hrd⟩ := hcells k hlt
      have hm := hq _ (getD_mem hlt)
      have hpos := hp _ (getD_mem hlt)
      have HLEN : Hid ((qs.take k).length = k) := Lib.hid (by rw [List.length_take]; omega)
      have HNX := Lib.hid (take_push hlt)
      generalize hQ : qs.getD k [] = q at *
      have HT := Lib.hid (copyInts_any (.slice A' q.length c') q wr (Part.of_rd hrd hpos) hm)
      have HO := Lib.hid hown; have HB := Lib.hid hb
      clear hown hb h h' hcells hrd hQ H0 HB0
      go_wp2_with (first
        | (go_at_call 83; refine HT.out.mono ?_; rintro e w6 ⟨A6, c6, rfl, own6, bel6⟩; obtain ⟨o6, n6, bs6⟩ := push_in (A6 := A6) (c6 := c6) (dq := q) HO.out HLEN.out HB.out.size bel6; have O6 := Lib.hid o6; have N6 := Lib.hid n6; have BS6 := Lib.hid bs6; have OW6 := Lib.hid own6; have BE6 := Lib.hid bel6; clear own6 bel6 o6 n6 bs6)
        | (at_builtin; refine wpList_append_lies _ rfl _ _ _ rfl w.heap.size 24 i0 (.slice none 0 0) 1 24 Tryd.underlying22 HI.out HZ0.out HZ1.out HZ2.out rfl (by decide) _ _ _ rfl O6.out ⟨w6.heap.size, 0, none⟩ 1 1 [.slice A6 q.length c6] rfl rfl N6.out (by simp [Value.oneCell']) (by decide) (by simp only [maxLen]; omega) (by omega) BS6.out _ rfl ?_; intro g cap w7 hown7 hgrow7 hat7 hlt7))
      obtain ⟨G1, G2⟩ := push_own HO.out HLEN.out HB.out.size BE6.out OW6.out hown7 hgrow7 hat7
      rw [HNX.out] at G1
      have J1 := Lib.hid G1; have J2 := Lib.hid (HB.out.trans G2)
      clear hown7 hgrow7 hat7 G1 G2
      go_roundw
      case rel => exact ⟨k + 1, by omega, by go_num, _, _, _, rfl, J1.out, J2.out⟩
      case measure => simp [intOf]; omega
    · have hkl : k = qs.length := by omega
      subst hkl
      rw [List.take_of_length_le (Nat.le_refl _)] at hown
      have HO := Lib.hid hown; have HB := Lib.hid hb
      clear hown hb h hq hp H0 HB0
      go_wp2
      go_ret
      exact ⟨_, _, _, rfl, HO.out, HB.out⟩
end
section
open Go.ChangeShapes Go.WideShapes Go.ChangeAt Go.RowKit

theorem array_one {α : Type} {cs : Array α} (h : cs.size = 1) : ∃ c0, cs = #[c0] := by
  obtain ⟨l⟩ := cs
  match l, h with
  | [c0], _ => exact ⟨c0, rfl⟩

/-- A struct of one field of one cell, opened. -/
theorem open_agg1 {H : Type} {enc : TypeId × Value → H} {P : Program} {w : World} {base : Nat} {spare : Nat → Bool} {held : Bool} {r : Reach} {b0 : Nat} {t : TypeId} {f0 : Field} {v : Value} {d : DataW H} {p : List MemPlace} (hs : P.underlying t = some (.struct #[f0]))
    (ho : f0.offset = 0) (hk : P.cellsOf f0.type = 1) (hC : P.cellsOf t = 1) (hv : Value.okWide P w r b0 t v) (h : DataW.Trod enc P w base spare held t v d p) :
    ∃ (v0 : Value) (y0 : DataW H × List MemPlace) (n : Nat), v = .agg #[v0] ∧ DataW.trod enc P w base spare held n f0.type [v0] = some y0 := by
  obtain ⟨cs, rfl, hsz⟩ := okWide_struct hs hv
  obtain ⟨c0, rfl⟩ := array_one (hsz.trans hC)
  obtain ⟨fuel, hf⟩ := h
  obtain ⟨xs, n, _, _, _, hlen, hx⟩ := DataW.trod_struct hs hf
  match xs, hlen with
  | [y0], _ => exact ⟨c0, y0, n, rfl, by simpa [Value.cells, ho, hk] using hx 0 f0 rfl⟩

theorem spot_of {w : World} {b off : Nat} {s : Option Nat} {v : Value} (h : w.cell? ((⟨b, off, s⟩ : Addr).add 0) = some v) : s = none := by
  simpa [Addr.add] using World.cell?_spot h

/-- A slice of slices of 64-bit integers that came in reads as a list of lists. -/
theorem open_rows {H : Type} {enc : TypeId × Value → H} {W : World} {fuel : Nat} {v : Value} {x : DataW H × List MemPlace}
    (h : DataW.trod enc Tryd.prog W 0 (fun _ => true) true fuel 22 [v] = some x) :
    ∃ a n c qs, v = .slice a n c ∧ RdQ W W.heap.size a n qs ∧ n ≤ c ∧ n ≤ maxLen ∧ (∀ q ∈ qs, q.length ≤ maxLen) ∧ ∀ q ∈ qs, ∀ z ∈ q, (Lit.int .i64 z).wf = true := by
  rcases Go.Deep.open_int_rows Tryd.underlying22 Tryd.underlying24 Tryd.underlying2 (by kernel_rfl) (by kernel_rfl) h with ⟨hcs, _⟩ | ⟨a, len, cap, A, L, C, Z, hcs, _, hl, hm, _, hr⟩
  · obtain rfl : v = .slice none 0 0 := by simpa using hcs
    exact ⟨none, 0, 0, [], rfl, RdQ.nil _ _ _, Nat.le_refl _, Nat.zero_le _, by simp, by simp⟩
  · obtain rfl : v = .slice (some a) len cap := by simpa using hcs
    have hlen : ∀ j, j < len → ((Z j).take (L j)).length = L j := fun j hj => by
      obtain ⟨_, h1, _, h3, _⟩ := hr j (by omega)
      rw [List.length_take]; omega
    have hget : ∀ j, j < len → ((List.range len).map fun r => (Z r).take (L r)).getD j [] = (Z j).take (L j) := fun j hj => by simp [List.getD, hj]
    refine ⟨some a, len, cap, (List.range len).map fun r => (Z r).take (L r), rfl, ⟨by simp, fun hn => ?_⟩, hl, by omega, ?_, ?_⟩
    · obtain ⟨b, off, spot⟩ := a
      have hspot : spot = none := spot_of (hr 0 (by omega)).1
      subst hspot
      refine ⟨b, off, rfl, by have := World.block_lt_of_cell? W _ (hr 0 (by omega)).1; simpa [Addr.add] using this, fun j hj => ?_⟩
      obtain ⟨h0, h1, h2, h3, h4, h5, h6⟩ := hr j (by omega)
      rw [hget j hj, hlen j hj]
      refine ⟨A j, C j, ?_, h1, hlen j hj, fun hpos => ?_⟩
      · by_cases e : j = 0
        · subst e; simpa [Addr.add] using h0
        · simpa [Addr.add, e] using h0
      · cases hA : A j with
        | none => have := h5 hA; omega
        | some a' =>
          obtain ⟨b', off', spot'⟩ := a'
          obtain ⟨_, hc⟩ := h6 _ hA
          have hspot : spot' = none := spot_of (hc 0 (by omega))
          subst hspot
          refine ⟨b', off', rfl, by have := World.block_lt_of_cell? W _ (hc 0 (by omega)); simpa [Addr.add] using this, fun c hcl => ?_⟩
          have h7 := hc c (by omega)
          have e : ((Z j).take (L j)).getD c 0 = (Z j).getD c 0 := by simp [List.getD, hcl]
          rw [e]
          by_cases e0 : c = 0
          · subst e0; simpa [Addr.add] using h7
          · simpa [Addr.add, e0] using h7
    · intro q hq
      obtain ⟨j, hj, rfl⟩ := List.mem_map.1 hq
      have hj' := List.mem_range.1 hj
      obtain ⟨_, h1, h2, _⟩ := hr j (by omega)
      rw [hlen j hj']; omega
    · intro q hq z hz
      obtain ⟨j, hj, rfl⟩ := List.mem_map.1 hq
      have hj' := List.mem_range.1 hj
      exact (hr j (by omega)).2.2.2.2.1 z (List.mem_of_mem_take hz)

theorem mem_total {qs : List (List Int)} {q : List Int} (h : q ∈ qs) : q.length ≤ total qs := by
  induction qs with
  | nil => cases h
  | cons x xs ih =>
    have e : total (x :: xs) = x.length + total xs := by simp [total]
    rcases List.mem_cons.1 h with rfl | h
    · omega
    · have := ih h; omega
theorem sz_cases' (left : Int) (n : Nat) (qs : List (List Int)) : szR left (n + total qs) = -1 ∨ (szR left (n + total qs) = left - (n + total qs : Nat) ∧ 0 ≤ left - (n + total qs : Nat) ∧ (n : Int) ≤ left ∧ ∀ q ∈ qs, (q.length : Int) ≤ left) := by
  by_cases h : left - (n + total qs : Nat) < 0
  · exact .inl (szR_neg h)
  · exact .inr ⟨szR_pos h, by omega, by omega, fun q hq => by have := mem_total hq; omega⟩
/-- Too great, or within the laws' bound. -/
theorem sz_cases (n : Nat) (qs : List (List Int)) : szR 1048576 (n + total qs) = -1 ∨ (szR 1048576 (n + total qs) = 1048576 - (n + total qs : Nat) ∧ (0 : Int) ≤ 1048576 - (n + total qs : Nat) ∧ n ≤ 1048576 ∧ ∀ q ∈ qs, q.length ≤ 1048576) := by
  rcases sz_cases' 1048576 n qs with h | ⟨h1, h2, h3, h4⟩
  · exact .inl h
  · exact .inr ⟨h1, h2, by omega, fun q hq => by have := h4 q hq; omega⟩
theorem sz_casesL (left : Int) (hl : left ≤ 1048576) (n : Nat) (qs : List (List Int)) : szR left (n + total qs) = -1 ∨ ∃ L, szR left (n + total qs) = L ∧ 0 ≤ L ∧ L ≤ 1048576 ∧ n ≤ 1048576 ∧ total qs ≤ 1048576 := by
  by_cases h : left - (n + total qs : Nat) < 0
  · exact .inl (szR_neg h)
  · exact .inr ⟨left - (n + total qs : Nat), szR_pos h, by omega, by omega, by omega, by omega⟩
theorem kept_cell {lo hi : Nat} {w w' : World} (h : Kept lo hi w w') {p : Addr} (hp : p.block < w.heap.size) (ho : p.block < lo ∨ hi ≤ p.block) : w'.cell? p = w.cell? p := World.cell?_of_block (h.block p.block hp ho)
end
section
open Go.ChangeAt Go.ChangeShapes Go.RowKit Go.WideShapes

set_option maxRecDepth 100000 in
/-- A row of lists that came in. -/
theorem open_q {H : Type} {enc : TypeId × Value → H} {W : World} {base : Nat} {v : Value} {d : DataW H} {p : List MemPlace} (hv : Value.okWide Tryd.prog W .any base 22 v) (h : DataW.Trod enc Tryd.prog W 0 (fun _ => true) true 22 v d p) :
    ∃ a n c qs, v = .slice a n c ∧ RdQ W W.heap.size a n qs ∧ n ≤ c ∧ n ≤ maxLen ∧ (∀ q ∈ qs, q.length ≤ maxLen) ∧ ∀ q ∈ qs, ∀ z ∈ q, (Lit.int .i64 z).wf = true := by
  obtain ⟨A, l, c, rfl⟩ := okWide_slice Tryd.underlying22 hv
  obtain ⟨fuel, hf⟩ := h
  exact open_rows (v := .slice A l c) (by simpa [Value.cells] using hf)

/-- A list of integers in memory of its own, its block in [lo, hi). -/
structure OwnI (w : World) (lo hi : Nat) (v : Value) (n : Nat) (xs : List Int) : Prop where
  outer : w.ownsRow lo 2 1 v n (xs.map (Value.int .i64))
  top : ∀ k, v.ownBlock = some k → k < hi
theorem OwnI.of_own {w : World} {lo n : Nat} {v : Value} {xs : List Int} (h : w.ownsRow lo 2 1 v n (xs.map (Value.int .i64))) : OwnI w lo w.heap.size v n xs := ⟨h, fun k hk => (h.lt k hk).2⟩
theorem OwnI.below {w w' : World} {lo hi n : Nat} {v : Value} {xs : List Int} (h : OwnI w lo hi v n xs) (hb : Below w.heap.size w w') : OwnI w' lo hi v n xs := ⟨own_below h.outer hb (Nat.le_refl _), h.top⟩
theorem OwnI.kept {w w' : World} {lo hi lo' hi' n : Nat} {v : Value} {xs : List Int} (h : OwnI w lo hi v n xs) (hk : Kept lo' hi' w w') (hd : hi ≤ lo' ∨ hi' ≤ lo) : OwnI w' lo hi v n xs :=
  ⟨own_same h.outer fun k e => hk.block k (h.outer.lt k e).2 (by have h1 := (h.outer.lt k e).1; have h2 := h.top k e; omega), h.top⟩
theorem OwnI.rd {w : World} {lo hi n c : Nat} {A : Option Addr} {xs : List Int} (h : OwnI w lo hi (.slice A n c) n xs) : RdI w w.heap.size A n xs := RdI.of_own h.outer
theorem OwnI.len {w : World} {lo hi n c : Nat} {A : Option Addr} {xs : List Int} (h : OwnI w lo hi (.slice A n c) n xs) : xs.length = n := by have := h.outer.1; simpa using this
theorem toI_x (A : Option Addr) (n c : Nat) (xs : List Int) (w : World) (h : RdI w w.heap.size A n xs) (hn : n ≤ 1048576) :
    Calls Tryd.prog 42 #[.slice A n c] w fun e w' => ∃ g, e = .returned (.slice (some ⟨g, 0, none⟩) n n) ∧ OwnI w' w.heap.size w'.heap.size (.slice (some ⟨g, 0, none⟩) n n) n xs ∧ Below w.heap.size w w' :=
  (toInts_any A n c xs w h hn).mono fun _ _ ⟨he, ho, hb⟩ => ⟨_, he, OwnI.of_own ho, hb⟩
theorem eqI_x (A B : Option Addr) (n c d : Nat) (xs : List Int) (w : World) (h : RdI w w.heap.size A n xs) (h' : RdI w w.heap.size B n xs) (hn : n ≤ 1048576) :
    Calls Tryd.prog 20 #[.slice A n c, .slice B n d] w fun e w' => e = .returned (.bool true) ∧ Below w.heap.size w w' :=
  (eqInts_any A B n n c d xs xs w h h' hn hn).mono fun _ _ ⟨he, hb⟩ => ⟨by rw [he, decide_eq_true rfl], hb⟩
theorem markI_x (A : Option Addr) (n c : Nat) (xs : List Int) (k : Int) (w : World) (lo hi : Nat) (h : OwnI w lo hi (.slice A n c) n xs) (hn : n ≤ 1048576) (hk0 : 0 ≤ k) (hk1 : k ≤ 1073741824) :
    Calls Tryd.prog 21 #[.slice A n c, .int .i64 k] w fun e w' => e = .returned (.int .i64 (k + n)) ∧ OwnI w' lo hi (.slice A n c) n (markL k n) ∧ Kept lo hi w w' :=
  (mark_any A n c xs k w lo h.outer hn hk0 hk1).mono fun _ _ ⟨he, ho, hg⟩ => ⟨he, ⟨ho, h.top⟩, Kept.of_grown hg fun b hb => ⟨(h.outer.lt b hb).1, h.top b hb⟩⟩
theorem heldI_x (A : Option Addr) (n c : Nat) (k : Int) (w : World) (h : RdI w w.heap.size A n (markL k n)) (hn : n ≤ 1048576) (hk0 : 0 ≤ k) (hk1 : k ≤ 1073741824) :
    Calls Tryd.prog 22 #[.slice A n c, .int .i64 k] w fun e w' => e = .returned (.int .i64 (k + n)) ∧ Below w.heap.size w w' :=
  (held_any A n c k w h hn hk0 hk1).mono fun _ _ ⟨he, hw⟩ => ⟨he, hw ▸ Below.refl _ _⟩
theorem toQ_x (A : Option Addr) (n c : Nat) (qs : List (List Int)) (w : World) (h : RdQ w w.heap.size A n qs) (hq : ∀ q ∈ qs, q.length ≤ 1048576) (hn : n ≤ 1048576) :
    Calls Tryd.prog 40 #[.slice A n c] w fun e w' => ∃ hs g, e = .returned (.slice (some ⟨g, 0, none⟩) n n) ∧ OwnQ w' w.heap.size w'.heap.size (.slice (some ⟨g, 0, none⟩) n n) hs qs ∧ Below w.heap.size w w' :=
  (toSS_any A n c qs w h hq hn).mono fun _ _ ⟨hs, he, ho, hb⟩ => ⟨hs, _, he, ho, hb⟩
theorem eqQ_x (A B : Option Addr) (n c d : Nat) (qs : List (List Int)) (w : World) (h : RdQ w w.heap.size A n qs) (h' : RdQ w w.heap.size B n qs) (hn : n ≤ 1048576) (hq : ∀ q ∈ qs, q.length ≤ 1048576) :
    Calls Tryd.prog 47 #[.slice A n c, .slice B n d] w fun e w' => e = .returned (.bool true) ∧ Below w.heap.size w w' :=
  (eqSS_any A B n n c d qs qs w _ _ h h' hn hn hq hq).mono fun _ _ ⟨he, hd⟩ => ⟨by rw [he, decide_eq_true rfl], drewN_below hd _⟩
theorem markQ_x (A : Option Addr) (n c : Nat) (hs : Nat → Option Addr × Nat) (qs : List (List Int)) (k : Int) (w : World) (lo hi : Nat) (h : OwnQ w lo hi (.slice A n c) hs qs) (hn : qs.length = n) (hn1 : n ≤ 1048576) (ht : total qs ≤ 1048576) (hk0 : 0 ≤ k) (hk1 : k ≤ 536870912) :
    Calls Tryd.prog 49 #[.slice A n c, .int .i64 k] w fun e w' => e = .returned (.int .i64 (k + total qs)) ∧ OwnQ w' lo hi (.slice A n c) hs (mrkQ k qs) ∧ Kept lo hi w w' :=
  markSS_any A n c hs qs k w lo hi h hn hn1 ht hk0 hk1
theorem heldQ_x (A : Option Addr) (n c : Nat) (qs : List (List Int)) (k : Int) (w : World) (h : RdQ w w.heap.size A n (mrkQ k qs)) (hn1 : n ≤ 1048576) (ht : total qs ≤ 1048576) (hk0 : 0 ≤ k) (hk1 : k ≤ 536870912) :
    Calls Tryd.prog 51 #[.slice A n c, .int .i64 k] w fun e w' => e = .returned (.int .i64 (k + total qs)) ∧ Below w.heap.size w w' :=
  (heldSS_any A n c qs k w h hn1 ht hk0 hk1).mono fun _ _ ⟨he, hw⟩ => ⟨he, hw ▸ Below.refl _ _⟩
theorem szQ_x (A : Option Addr) (n c : Nat) (qs : List (List Int)) (left : Int) (w : World) (h : RdQ w w.heap.size A n qs) (hq : ∀ q ∈ qs, q.length ≤ maxLen) (hn : n ≤ maxLen) (h0 : 0 ≤ left) (h1 : left ≤ 1073741824) :
    Calls Tryd.prog 36 #[.slice A n c, .int .i64 left] w fun e w' => e = .returned (.int .i64 (szR left (n + total qs))) ∧ Below w.heap.size w w' :=
  (szSS_any A n c qs left w _ h hq hn h0 h1).mono fun _ _ ⟨he, hw⟩ => ⟨he, hw ▸ Below.refl _ _⟩
/-- .. a row of lists and a bool. -/
def GivesSSB (w : World) (V : List (List Int)) (b : Bool) (e : Ending) (w' : World) : Prop :=
  ∃ hs A c, e = .returned (.tuple #[.slice A V.length c, .bool b]) ∧ OwnQ w' w.heap.size w'.heap.size (.slice A V.length c) hs V ∧ Below w.heap.size w w'
end
end Go.Proofs.YtdcommmefehlgaaDoor
