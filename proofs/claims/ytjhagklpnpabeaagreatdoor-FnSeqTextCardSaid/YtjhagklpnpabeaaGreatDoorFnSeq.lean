/- Mathematics for FnSeqText: what SeqText, ReadSeq, SortedSeq, SameSeq and SameMultiset answer at a valid sequent. The draw of SeqText's argument. -/
import Derived.Test.YtjhagklpnpabeaaGreatDoorSplS
import Derived.Test.YtjhagklpnpabeaaGreatDoorSrtK
import Derived.Test.YtjhagklpnpabeaaGreatDoorSwapM
import Derived.Test.YtjhagklpnpabeaaGreatDoorDrawP
import Derived.Test.YtjhagklpnpabeaaGreatDoorCmp
namespace Go.Proofs.YtjhagklpnpabeaaGreatDoor
open Go.ChangeAt Go.ChangeShapes Go.RowKit Go.WideShapes

theorem hv_cell (hs : Nat → Option Addr × Nat) (qs : List (List Int)) (m : Nat) : hv hs qs m = .slice (hs m).1 (qs.getD m []).length (hs m).2 := rfl
theorem sorted_not_before {V : List (List Int)} {i : Nat} (h1 : 1 ≤ i) (hi : i < (srtL V).length) : befB ((srtL V).getD i []) ((srtL V).getD (i - 1) []) = false := by
  have h := UpTo.of_sol (srtL_sol V) (i - 1) i (by omega) hi
  have hn := cmpL_neg ((srtL V).getD i []) ((srtL V).getD (i - 1) [])
  unfold befB
  rw [decide_eq_false (show ¬ cmpL ((srtL V).getD i []) ((srtL V).getD (i - 1) []) < 0 by omega), Bool.and_false]
theorem seqT_size (V : List (List Int)) : (seqT V).size ≤ 1048576 := by
  cases hv : validQ V with
  | false => rw [seqT_no hv]; decide
  | true =>
    rw [seqT_yes hv, mkB_size]
    have := seqL_len V
    have := validQ_len hv
    omega
theorem sameQ_no {V : List (List Int)} (hv : validQ V = false) : sameQ V V = false := by unfold sameQ; rw [hv]; rfl
theorem seq_facts {V : List (List Int)} (hv : validQ V = true) : ∃ T, srtQ V = T ∧ rqL (seqT V) = V ∧ rqB (seqT V) = true ∧ srtQ T = T ∧ sameQ V V = true ∧ msQ V T = true ∧ sameQ T T = true ∧
    T.length = V.length ∧ V.length ≤ 10 ∧ (∀ q ∈ V, q.length ≤ 24) ∧ (∀ q ∈ T, q.length ≤ 24) ∧ ∀ i, 1 ≤ i → i < T.length → befB (T.getD i []) (T.getD (i - 1) []) = false := by
  have hT : validQ (srtL V) = true := (validQ_perm (srtL_perm V)).trans hv
  obtain ⟨h1, h2⟩ := rq_only (s := seqT V) hv (seqT_yes hv).symm
  have hss : srtL (srtL V) = srtL V := (srt_same (List.Perm.refl _) (srtL_sol V)).symm
  refine ⟨srtL V, srtQ_yes hv, h2, h1, (srtQ_yes hT).trans hss, by unfold sameQ; rw [hv]; simp, by unfold msQ; rw [hv, hT, hss]; simp, by unfold sameQ; rw [hT]; simp, srtL_len V, validQ_len hv,
    fun q hq => (valid_len (validQ_mem hv hq)).2.1, fun q hq => (valid_len (validQ_mem hT hq)).2.1, fun i a b => sorted_not_before a b⟩

/-- What the draw of a sequent hands back. -/
def DrawnSq (w : World) (e : Ending) (w' : World) : Prop :=
  ∃ V hs A c, e = .returned (.agg #[.slice A V.length c]) ∧ OwnQ w' w.heap.size w'.heap.size (.slice A V.length c) hs V ∧ V.length ≤ 12 ∧ (∀ q ∈ V, q.length ≤ 64) ∧ Below w.heap.size w w'

set_option maxRecDepth 100000 in
theorem drawSeqText_any (A : Option Addr) (n c : Nat) (code : List Int) (w : World) (h : RdB w w.heap.size A n code) (hn : n ≤ 4096) :
    Calls Tryz.prog 10 #[.slice A n c] w (DrawnSq w) := by
  obtain ⟨w0, hw0⟩ : ∃ w0, w0 = w.alloc (.cells #[.slice none 0 0] 26) := ⟨_, rfl⟩
  have hh0 : w0.heap[w.heap.size]? = some (.cells #[.slice none 0 0] 26 (0, 0)) := by rw [hw0]; exact heap_alloc_new _ _
  have hb0 : Below w.heap.size w w0 := by rw [hw0]; exact (Below.refl _ _).alloc (Nat.le_refl _) _
  have hz0 : w0.heap.size = w.heap.size + 1 := by rw [hw0]; simp
  have h0 : RdB w0 w0.heap.size A n code := by
    have := h.keep (w' := w0) (fun p hp => hb0.cell hp)
    obtain ⟨a1, a2, a3⟩ := this
    exact ⟨a1, a2, fun hn => by obtain ⟨b, off, e, hb, hc⟩ := a3 hn; exact ⟨b, off, e, by omega, hc⟩⟩
  have HF := Lib.hid (fromCode_any A n c code w0 h0 hn)
  clear h h0
  go_enter Tryz.func10, Tryz.ntmps10
  go_wp2_with (fail)
  rw [← hw0]
  clear hw0
  refine HF.out.mono ?_
  rintro e w1 ⟨rfl, S1, B1⟩
  have hh1 := (B1.block w.heap.size (by omega)).trans hh0
  have hz1 := B1.size
  have hg1 := S1.lt
  have HB1 := Lib.hid (hb0.trans (B1.mono (by omega)))
  have hzg : w.heap.size < w0.heap.size := by omega
  clear hz0 B1 hh0 hb0 HF
  generalize w0.heap.size = g at *
  go_wp2_with (fail)
  refine (drawSeq_any g n c A code w1 S1).mono ?_
  rintro e w2 ⟨V, hs, A2, c2, rfl, o2, hV, hq, S2, G2⟩
  have hz2 := G2.size
  have hh2 := (G2.block w.heap.size (by omega) (fun e => by injection e with e; omega)).trans hh1
  have cr2 : w2.cell? ⟨w.heap.size, 0, none⟩ = some (.slice none 0 0) := cell_of_row _ _ 0 _ _ (0, 0) hh2
  have fr2 : w2.frozen? ⟨w.heap.size, 0, none⟩ = false := frozen_of_row _ _ 0 _ _ hh2
  have e8 : (w2.setCell ⟨w.heap.size, 0, none⟩ (.slice A2 V.length c2)).heap.size = w2.heap.size := by simp
  have H8 := Lib.hid (cell_set (u := .slice A2 V.length c2) hh2)
  have O8 : Hid (OwnQ (w2.setCell ⟨w.heap.size, 0, none⟩ (.slice A2 V.length c2)) w.heap.size (w2.setCell ⟨w.heap.size, 0, none⟩ (.slice A2 V.length c2)).heap.size (.slice A2 V.length c2) hs V) := Lib.hid (by
    rw [e8]
    exact (o2.setBelow (by show w.heap.size < w1.heap.size; omega) _).more (by omega) (Nat.le_refl _))
  have B8 := Lib.hid ((HB1.out.grown G2 (by omega) (fun k hk => by injection hk with hk; omega)).setCell (p := ⟨w.heap.size, 0, none⟩) (Nat.le_refl _) (.slice A2 V.length c2))
  have HQ := Lib.hid hq
  clear S1 S2 G2 o2 hq hh1 hh2 HB1 e8
  go_wp2
  generalize w2.setCell ⟨w.heap.size, 0, none⟩ (.slice A2 V.length c2) = w8 at *
  (try simp only [Exit.inBlock, Exit.then])
  refine bodyPost_ret (results_cell_row rfl _ _ w.heap.size _ _ (0, 0) _ rfl H8.out Tryz.underlying26 rfl (by kernel_rfl)) rfl ?_
  exact ⟨V, hs, A2, c2, rfl, O8.out, hV, HQ.out, B8.out⟩
end Go.Proofs.YtjhagklpnpabeaaGreatDoor
