/- SortedSeq of the program. -/
import Derived.Test.YtdgejhlpncnenaaDoorSrtJ
import Derived.Test.YtdgejhlpncnenaaDoorMapd
import Derived.Test.YtdgejhlpncnenaaDoorSwap
namespace Go.Proofs.YtdgejhlpncnenaaDoor
open Go.ChangeShapes Go.WideShapes Go.ChangeAt Go.RowKit

/-- The sorted sequent. -/
def srtQ (qs : List (List Int)) : List (List Int) := if validQ qs = true then srtL qs else []
theorem srtQ_no {qs : List (List Int)} (h : validQ qs = false) : srtQ qs = [] := by unfold srtQ; rw [h]; rfl
theorem srtQ_yes {qs : List (List Int)} (h : validQ qs = true) : srtQ qs = srtL qs := by unfold srtQ; rw [if_pos h]
theorem srtQ_small (qs : List (List Int)) : (srtQ qs).length ≤ 1048576 ∧ total (srtQ qs) ≤ 1048576 := by
  cases hv : validQ qs with
  | false => rw [srtQ_no hv]; simp [total]
  | true =>
    rw [srtQ_yes hv]
    have hl := validQ_len hv
    have ht := total_small (qs := srtL qs) fun q hq => (valid_len (validQ_mem hv ((srtL_perm qs).mem_iff.1 hq))).2.1
    rw [srtL_len] at ht
    rw [srtL_len]
    omega

set_option maxHeartbeats 4000000 in
theorem sortedSeq_impl (A : Option Addr) (n c : Nat) (qs : List (List Int)) (w : World) (h : RdQ w w.heap.size A n qs) (hn : n ≤ 1048576) (ht : Arit w) :
    Calls Tryd.prog 26 #[.agg #[.slice A n c]] w (GivesSeq w (srtQ qs)) := by
  have hl := h.len
  subst hl
  obtain ⟨w2, hw2⟩ : ∃ w2, w2 = (w.alloc (.cells #[Value.slice A qs.length c] 34)).alloc (.cells #[.slice none 0 0] 34) := ⟨_, rfl⟩
  obtain ⟨hb, ca, _, hsz⟩ := two_boxes w (.slice A qs.length c) (.slice none 0 0) 34
  obtain ⟨_, hh2⟩ := two_heap w (.cells #[Value.slice A qs.length c] 34) (.cells #[.slice none 0 0] 34)
  have ha : ((w.alloc (.cells #[Value.slice A qs.length c] 34)).alloc (.cells #[.slice none 0 0] 34)).cell? ⟨w.heap.size, 0, none⟩ = some (.slice A qs.length c) := ca
  rw [← hw2] at hb hsz hh2 ca
  have hszl : w.heap.size + 1 < w2.heap.size := by omega
  have hV := validSeq_impl A qs.length c qs w2 ((h.below hb).more hb.size) (Nat.le_trans hn (by decide)) (ht.below hb ht.lt)
  clear hsz
  have HBA := Lib.hid hb; have HH := Lib.hid hh2
  clear hh2
  cases hv : validQ qs with
  | false =>
    have HN := Lib.hid (srtQ_no hv)
    rw [hv] at hV
    have HV := Lib.hid hV
    clear hV h hb
    go_enter Tryd.func26, Tryd.ntmps26
    go_wp2_with (fail)
    rw [← hw2]
    clear hw2 ha
    refine HV.out.mono ?_
    rintro e w3 ⟨rfl, hb2⟩
    obtain ⟨hcx, hfx, h5, o5, b5⟩ := seq_out (V := []) (A := none) (c := 0) HBA.out (b := w.heap.size + 1) (by omega) hszl HH.out (OwnQ.nil w3 w2.heap.size w3.heap.size (fun _ => (none, 0))) hb2
    have H5 := Lib.hid h5; have O5 := Lib.hid o5; have B5 := Lib.hid b5
    clear hb2 h5 o5 b5
    go_wp2
    (try simp only [Exit.inBlock, Exit.then])
    refine bodyPost_ret (results_cell_row rfl _ _ (w.heap.size + 1) _ _ (0, 0) _ rfl H5.out Tryd.underlying34 rfl (by kernel_rfl)) rfl ?_
    exact ⟨_, none, 0, by rw [HN.out], by rw [HN.out]; exact O5.out, B5.out⟩
  | true =>
    rw [hv] at hV
    have HV := Lib.hid hV
    have HN := Lib.hid (srtQ_yes hv)
    have h10 := validQ_len hv
    have hq : ∀ q ∈ qs, q.length ≤ 1000 := fun q hq' => by have := valid_len (validQ_mem hv hq'); omega
    have hp : ∀ q ∈ qs, 0 < q.length := fun q hq' => (valid_len (validQ_mem hv hq')).1
    have HVB := Lib.hid (fun q (hq' : q ∈ qs) => validQ_mem hv hq')
    have hag : 0 < w2.heap.size := Nat.lt_of_lt_of_le ht.lt hb.size
    have HT2 := Lib.hid (ht.below hb ht.lt)
    clear hV hv
    go_enter Tryd.func26, Tryd.ntmps26
    go_wp2_with (fail)
    rw [← hw2]
    clear hw2 ha
    refine HV.out.mono ?_
    rintro e w3 ⟨rfl, bel3⟩
    have ca3 := (bel3.cell (p := ⟨w.heap.size, 0, none⟩) (by show w.heap.size < _; omega)).trans ca
    have s3 := bel3.size
    have b03 := hb.trans (bel3.mono hb.size)
    have HC := Lib.hid (copyOfSeq_any A qs.length c qs w3 ((h.below b03).more b03.size) h10 hq hp)
    have HB3 := Lib.hid bel3
    have HT3 := Lib.hid (HT2.out.below bel3 hag)
    clear bel3 ca HV
    go_wp2_with (fail)
    refine HC.out.mono ?_
    rintro e w6 ⟨hs, A6, c6, rfl, own6, bel6⟩
    clear HC hq hp
    have bel7 := box_below w6 (.slice A6 qs.length c6) 34
    have hh7 : (w6.alloc (.cells #[.slice A6 qs.length c6] 34)).heap[w6.heap.size]? = some (.cells #[.slice A6 qs.length c6] 34 (0, 0)) := heap_alloc_new _ _
    have s7 : (w6.alloc (.cells #[.slice A6 qs.length c6] 34)).heap.size = w6.heap.size + 1 := by simp
    have own7 := (own6.below bel7).more (Nat.le_refl _) bel7.size
    have b37 := bel6.trans (bel7.mono bel6.size)
    have hag3 : 0 < w3.heap.size := Nat.lt_of_lt_of_le hag s3
    have HSO := Lib.hid (sort_own A6 qs.length c6 w3.heap.size w6.heap.size hs qs _ own7 rfl h10 HVB.out (HT3.out.below b37 hag3) hag3 b37.size (by omega) (fun k hk e => by have := (own6.outer.lt k hk).2; omega))
    have s6 := bel6.size
    have hlt3 : w.heap.size + 1 < w3.heap.size := Nat.lt_of_lt_of_le hszl s3
    have hh3 := (HB3.out.block (w.heap.size + 1) hszl).trans HH.out
    have HB37 := Lib.hid b37
    clear own6 bel6 bel7 own7 b37 HVB
    go_wp2_with (fail)
    generalize hbs : w6.heap.size = bs at *
    generalize (w6.alloc (.cells #[.slice A6 qs.length c6] 34)) = w7 at *
    refine HSO.out.mono ?_
    rintro e w8 ⟨rfl, ⟨hs8, own8⟩, bel8, hb8⟩
    have cs8 : w8.cell? ⟨bs, 0, none⟩ = some (.slice A6 qs.length c6) := cell_of_row _ _ 0 _ _ (0, 0) (hb8.trans hh7)
    have HL : Hid ((srtL qs).length = qs.length) := Lib.hid (srtL_len qs)
    obtain ⟨hcx, hfx, h5, o5, b5⟩ := seq_out (V := srtL qs) (A := A6) (c := c6) b03 (b := w.heap.size + 1) (by omega) hlt3 hh3 (by rw [HL.out]; exact own8) (HB37.out.trans bel8)
    rw [HL.out] at h5 o5 b5
    have H5 := Lib.hid h5; have O5 := Lib.hid o5; have B5 := Lib.hid b5
    clear own8 bel8 hb8 h5 o5 b5 HSO hh3 hh7
    go_wp2
    (try simp only [Exit.inBlock, Exit.then])
    refine bodyPost_ret (results_cell_row rfl _ _ (w.heap.size + 1) _ _ (0, 0) _ rfl H5.out Tryd.underlying34 rfl (by kernel_rfl)) rfl ?_
    exact ⟨_, A6, c6, by rw [HN.out, HL.out], by rw [HN.out, HL.out]; exact O5.out, B5.out⟩
end Go.Proofs.YtdgejhlpncnenaaDoor
