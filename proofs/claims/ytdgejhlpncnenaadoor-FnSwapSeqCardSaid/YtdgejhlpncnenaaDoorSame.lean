/- Two sequents compared: SameSeq of the program and of the model. -/
import Derived.Test.YtdgejhlpncnenaaDoorSeqV
import Derived.Test.YtdgejhlpncnenaaDoorSeqH
namespace Go.Proofs.YtdgejhlpncnenaaDoor
open Go.ChangeShapes Go.WideShapes Go.ChangeAt Go.RowKit

set_option maxHeartbeats 1000000 in
theorem sameForms_any (A B : Option Addr) (n m c d : Nat) (zs ys : List (List Int)) (w : World) (P Q : Nat) (h : RdQ w P A n zs) (h' : RdQ w Q B m ys) (hn : n ≤ 1048576) (hm : m ≤ 1048576) (hz : ∀ q ∈ zs, q.length ≤ 1048576) (hy : ∀ q ∈ ys, q.length ≤ 1048576) :
    Calls Tryd.prog 68 #[.slice A n c, .slice B m d] w (SameD zs ys w) := by
  have hl := h.len
  have hl' := h'.len
  subst hl hl'
  by_cases hlen : zs.length = ys.length
  · have hd : ((zs.length : Int) != (ys.length : Int)) = false := by simp; omega
    have H := Lib.hid hlen; clear hlen
    go_enter Tryd.func68, Tryd.ntmps68
    go_wp2
    go_loopw [5] (fun i wr => ∃ k : Nat, k ≤ zs.length ∧ i = .int .i64 k ∧ zs.take k = ys.take k ∧ ∃ m, wr = w.drewN m) (fun i _ => zs.length - (intOf i).toNat)
    case atStart => exact ⟨0, Nat.zero_le _, rfl, by simp, 0, rfl⟩
    case round =>
      obtain ⟨k, hk, rfl, htk, hb⟩ := hrel
      clear hd
      by_cases hlt : k < zs.length
      · have hlt' : k < ys.length := by have := H.out; omega
        obtain ⟨b, off, rfl, hbb, hcells⟩ := h.2 (by omega)
        obtain ⟨b', off', rfl, hbb', hcells'⟩ := h'.2 (by omega)
        obtain ⟨A1, c1, hc1, _, hr1⟩ := hcells k hlt
        obtain ⟨A2, c2, hc2, _, hr2⟩ := hcells' k hlt'
        have hc := drewN_cell hb hc1
        have hc' := drewN_cell hb hc2
        have HT := Lib.hid htk; have HB := Lib.hid hb
        have HZ := Lib.hid (hz _ (getD_mem hlt)); have HY := Lib.hid (hy _ (getD_mem hlt'))
        have HC : Hid (∀ j, Calls Tryd.prog 95 #[.slice A1 (zs.getD k []).length c1, .slice A2 (ys.getD k []).length c2] (wr.drewN j) fun e w' => e = .returned (.bool (decide (zs.getD k [] = ys.getD k []))) ∧ ∃ m, w' = (wr.drewN j).drewN m) :=
          Lib.hid fun j => sameInts_d A1 A2 _ _ c1 c2 _ _ _ P Q (hr1.keep fun p _ => by obtain ⟨m, rfl⟩ := hb; rfl) (hr2.keep fun p _ => by obtain ⟨m, rfl⟩ := hb; rfl) HZ.out HY.out
        clear hcells hcells' htk hb h h' hz hy hr1 hr2 hc1 hc2
        by_cases he : zs.getD k [] = ys.getD k []
        · have HE := Lib.hid (takeq_step HT.out hlt hlt' he)
          rw [decide_eq_true he] at HC
          clear he HZ HY
          generalize (zs.getD k []).length = l1 at *
          generalize (ys.getD k []).length = l2 at *
          go_wp2
          go_quiet (first | (go_at_call 95; refine Calls.quiet_of (HC.out _)))
          go_wp2
          go_roundw
          case rel => exact ⟨k + 1, by omega, by go_num, HE.out, drewN_more HB.out _⟩
          case measure => simp [intOf]; omega
        · have HE := Lib.hid (neq_at he)
          rw [decide_eq_false he] at HC
          clear he HZ HY
          generalize (zs.getD k []).length = l1 at *
          generalize (ys.getD k []).length = l2 at *
          go_wp2
          go_quiet (first | (go_at_call 95; refine Calls.quiet_of (HC.out _)))
          go_wp2
          go_ret
          exact ⟨ret_no HE.out, drewN_more HB.out _⟩
      · have hkl : k = zs.length := by omega
        subst hkl
        have e : zs = ys := by
          have := htk
          rw [List.take_of_length_le (Nat.le_refl _), List.take_of_length_le (by have := H.out; omega)] at this
          exact this
        have HE := Lib.hid e; have HB := Lib.hid hb
        clear e htk hb h h' hz hy
        go_wp2
        go_ret
        exact ⟨ret_yes HE.out, HB.out⟩
  · have hd : ((zs.length : Int) != (ys.length : Int)) = true := by simp; omega
    have HE : Hid (¬ zs = ys) := Lib.hid fun e => hlen (by rw [e])
    clear hlen h h' hz hy
    go_enter Tryd.func68, Tryd.ntmps68
    go_wp2
    go_ret
    exact ⟨ret_no HE.out, 0, rfl⟩

set_option maxHeartbeats 1000000 in
theorem equalFunc_any (A B : Option Addr) (n m c d : Nat) (zs ys : List (List Int)) (w : World) (P Q : Nat) (h : RdQ w P A n zs) (h' : RdQ w Q B m ys) (hn : n ≤ 1048576) (hm : m ≤ 1048576) (hz : ∀ q ∈ zs, q.length ≤ 1048576) (hy : ∀ q ∈ ys, q.length ≤ 1048576) :
    Calls Tryd.prog 55 #[.slice A n c, .slice B m d, .func (.func 41) #[] #[]] w (SameD zs ys w) := by
  have hl := h.len
  have hl' := h'.len
  subst hl hl'
  by_cases hlen : zs.length = ys.length
  · have hd : ((zs.length : Int) != (ys.length : Int)) = false := by simp; omega
    have H := Lib.hid hlen; clear hlen
    go_enter Tryd.func55, Tryd.ntmps55
    go_wp2
    go_loopw [17] (fun i wr => ∃ k : Nat, k ≤ zs.length ∧ i = .int .i64 k ∧ zs.take k = ys.take k ∧ ∃ m, wr = w.drewN m) (fun i _ => zs.length - (intOf i).toNat)
    case atStart => exact ⟨0, Nat.zero_le _, rfl, by simp, 0, rfl⟩
    case round =>
      obtain ⟨k, hk, rfl, htk, hb⟩ := hrel
      clear hd
      by_cases hlt : k < zs.length
      · have hlt' : k < ys.length := by have := H.out; omega
        obtain ⟨b, off, rfl, hbb, hcells⟩ := h.2 (by omega)
        obtain ⟨b', off', rfl, hbb', hcells'⟩ := h'.2 (by omega)
        obtain ⟨A1, c1, hc1, _, hr1⟩ := hcells k hlt
        obtain ⟨A2, c2, hc2, _, hr2⟩ := hcells' k hlt'
        have hc := drewN_cell hb hc1
        have hc' := drewN_cell hb hc2
        have HT := Lib.hid htk; have HB := Lib.hid hb
        have HZ := Lib.hid (hz _ (getD_mem hlt)); have HY := Lib.hid (hy _ (getD_mem hlt'))
        have HC : Hid (Calls Tryd.prog 41 #[.slice A1 (zs.getD k []).length c1, .slice A2 (ys.getD k []).length c2] wr fun e w' => e = .returned (.bool (decide (zs.getD k [] = ys.getD k []))) ∧ ∃ m, w' = wr.drewN m) :=
          Lib.hid (equal_d A1 A2 _ _ c1 c2 _ _ _ P Q (hr1.keep fun p _ => by obtain ⟨m, rfl⟩ := hb; rfl) (hr2.keep fun p _ => by obtain ⟨m, rfl⟩ := hb; rfl) HZ.out HY.out)
        clear hcells hcells' htk hb h h' hz hy hr1 hr2 hc1 hc2
        by_cases he : zs.getD k [] = ys.getD k []
        · have HE := Lib.hid (takeq_step HT.out hlt hlt' he)
          rw [decide_eq_true he] at HC
          clear he HZ HY
          generalize (zs.getD k []).length = l1 at *
          generalize (ys.getD k []).length = l2 at *
          go_wp2_with (fail)
          refine HC.out.mono ?_
          rintro e wr2 ⟨rfl, hb2⟩
          have HB2 := Lib.hid (drewN_trans HB.out hb2)
          clear hb2
          go_wp2
          go_roundw
          case rel => exact ⟨k + 1, by omega, by go_num, HE.out, HB2.out⟩
          case measure => simp [intOf]; omega
        · have HE := Lib.hid (neq_at he)
          rw [decide_eq_false he] at HC
          clear he HZ HY
          generalize (zs.getD k []).length = l1 at *
          generalize (ys.getD k []).length = l2 at *
          go_wp2_with (fail)
          refine HC.out.mono ?_
          rintro e wr2 ⟨rfl, hb2⟩
          have HB2 := Lib.hid (drewN_trans HB.out hb2)
          clear hb2
          go_wp2
          go_ret
          exact ⟨ret_no HE.out, HB2.out⟩
      · have hkl : k = zs.length := by omega
        subst hkl
        have e : zs = ys := by
          have := htk
          rw [List.take_of_length_le (Nat.le_refl _), List.take_of_length_le (by have := H.out; omega)] at this
          exact this
        have HE := Lib.hid e; have HB := Lib.hid hb
        clear e htk hb h h' hz hy
        go_wp2
        go_ret
        exact ⟨ret_yes HE.out, HB.out⟩
  · have hd : ((zs.length : Int) != (ys.length : Int)) = true := by simp; omega
    have HE : Hid (¬ zs = ys) := Lib.hid fun e => hlen (by rw [e])
    clear hlen h h' hz hy
    go_enter Tryd.func55, Tryd.ntmps55
    go_wp2
    go_ret
    exact ⟨ret_no HE.out, 0, rfl⟩

/-- Both are valid and equal. -/
def sameQ (zs ys : List (List Int)) : Bool := validQ zs && (validQ ys && decide (zs = ys))
theorem two_boxes (w : World) (a b : Value) (t : TypeId) : Below w.heap.size w ((w.alloc (.cells #[a] t)).alloc (.cells #[b] t)) ∧ ((w.alloc (.cells #[a] t)).alloc (.cells #[b] t)).cell? ⟨w.heap.size, 0, none⟩ = some a ∧
    ((w.alloc (.cells #[a] t)).alloc (.cells #[b] t)).cell? ⟨w.heap.size + 1, 0, none⟩ = some b ∧ ((w.alloc (.cells #[a] t)).alloc (.cells #[b] t)).heap.size = w.heap.size + 1 + 1 := by
  have e : (w.alloc (.cells #[a] t)).heap.size = w.heap.size + 1 := by simp
  refine ⟨((Below.refl _ _).alloc (Nat.le_refl _) _).alloc (by simp) _, ?_, ?_, by simp⟩
  · refine cell_of_row _ _ 0 #[a] t (0, 0) ?_
    rw [Below.heap_alloc _ _ _ (by simp)]
    exact heap_alloc_new _ _
  · refine cell_of_row _ _ 0 #[b] t (0, 0) ?_
    rw [← e]
    exact heap_alloc_new _ _

set_option maxHeartbeats 1000000 in
theorem sameSeq_impl (A B : Option Addr) (n m c d : Nat) (zs ys : List (List Int)) (w : World) (h : RdQ w w.heap.size A n zs) (h' : RdQ w w.heap.size B m ys) (hn : n ≤ 1048576) (hm : m ≤ 1048576) (_hnc : n ≤ c) (_hmd : m ≤ d) (hz : ∀ q ∈ zs, q.length ≤ 1048576) (hy : ∀ q ∈ ys, q.length ≤ 1048576) (ht : Arit w) :
    Calls Tryd.prog 19 #[.agg #[.slice A n c], .agg #[.slice B m d]] w fun e w' => e = .returned (.bool (sameQ zs ys)) ∧ Below w.heap.size w w' := by
  obtain ⟨w2, hw2⟩ : ∃ w2, w2 = (w.alloc (.cells #[Value.slice A n c] 34)).alloc (.cells #[.slice B m d] 34) := ⟨_, rfl⟩
  obtain ⟨hb, ca, cb, hsz⟩ := two_boxes w (.slice A n c) (.slice B m d) 34
  rw [← hw2] at hb ca cb hsz
  have h2 := (h.below hb).more hb.size
  have h2' := (h'.below hb).more hb.size
  have HV1 := Lib.hid (validSeq_impl A n c zs w2 h2 (Nat.le_trans hn (by decide)) (ht.below hb ht.lt))
  have HB2 := Lib.hid hb
  cases hva : validQ zs with
  | false =>
    have HE : Hid (false = sameQ zs ys) := Lib.hid (by simp [sameQ, hva])
    rw [hva] at HV1
    clear h h' h2 h2' hb hz hy
    go_enter Tryd.func19, Tryd.ntmps19
    go_wp2_with (fail)
    rw [← hw2]
    clear hw2
    refine HV1.out.mono ?_
    rintro e w3 ⟨rfl, bel3⟩
    have HB3 := Lib.hid (HB2.out.trans (bel3.mono HB2.out.size))
    have ca3 := (bel3.cell (p := ⟨w.heap.size, 0, none⟩) (by show w.heap.size < w2.heap.size; omega)).trans ca
    have cb3 := (bel3.cell (p := ⟨w.heap.size + 1, 0, none⟩) (by show w.heap.size + 1 < w2.heap.size; omega)).trans cb
    clear bel3
    go_wp2
    go_ret
    exact ⟨ret_bool' HE.out, HB3.out⟩
  | true =>
    rw [hva] at HV1
    cases hvb : validQ ys with
    | false =>
      have HE : Hid (false = sameQ zs ys) := Lib.hid (by simp [sameQ, hvb])
      go_enter Tryd.func19, Tryd.ntmps19
      go_wp2_with (fail)
      rw [← hw2]
      clear hw2
      refine HV1.out.mono ?_
      rintro e w3 ⟨rfl, bel3⟩
      have b3 := hb.trans (bel3.mono hb.size)
      have HB3 := Lib.hid b3
      have ca3 := (bel3.cell (p := ⟨w.heap.size, 0, none⟩) (by show w.heap.size < w2.heap.size; omega)).trans ca
      have cb3 := (bel3.cell (p := ⟨w.heap.size + 1, 0, none⟩) (by show w.heap.size + 1 < w2.heap.size; omega)).trans cb
      have HV2 := Lib.hid (validSeq_impl B m d ys w3 ((h'.below b3).more b3.size) (Nat.le_trans hm (by decide)) (ht.below b3 ht.lt))
      rw [hvb] at HV2
      clear bel3 h h' h2 h2' hb hz hy b3
      go_wp2_with (fail)
      refine HV2.out.mono ?_
      rintro e w4 ⟨rfl, bel4⟩
      have HB4 := Lib.hid (HB3.out.trans (bel4.mono HB3.out.size))
      clear bel4
      go_wp2
      go_ret
      exact ⟨ret_bool' HE.out, HB4.out⟩
    | true =>
      have HE : Hid (decide (zs = ys) = sameQ zs ys) := Lib.hid (by simp [sameQ, hva, hvb])
      go_enter Tryd.func19, Tryd.ntmps19
      go_wp2_with (fail)
      rw [← hw2]
      clear hw2
      refine HV1.out.mono ?_
      rintro e w3 ⟨rfl, bel3⟩
      have b3 := hb.trans (bel3.mono hb.size)
      have HB3 := Lib.hid b3
      have ca3 := (bel3.cell (p := ⟨w.heap.size, 0, none⟩) (by show w.heap.size < w2.heap.size; omega)).trans ca
      have cb3 := (bel3.cell (p := ⟨w.heap.size + 1, 0, none⟩) (by show w.heap.size + 1 < w2.heap.size; omega)).trans cb
      have hs3 := bel3.size
      have HV2 := Lib.hid (validSeq_impl B m d ys w3 ((h'.below b3).more b3.size) (Nat.le_trans hm (by decide)) (ht.below b3 ht.lt))
      rw [hvb] at HV2
      go_wp2_with (fail)
      refine HV2.out.mono ?_
      rintro e w4 ⟨rfl, bel4⟩
      have b4 := b3.trans (bel4.mono b3.size)
      have HB4 := Lib.hid b4
      have ca4 := (bel4.cell (p := ⟨w.heap.size, 0, none⟩) (by show w.heap.size < w3.heap.size; omega)).trans ca3
      have cb4 := (bel4.cell (p := ⟨w.heap.size + 1, 0, none⟩) (by show w.heap.size + 1 < w3.heap.size; omega)).trans cb3
      have HS : Hid (Calls Tryd.prog 55 #[.slice A n c, .slice B m d, .func (.func 41) #[] #[]] w4 fun e w' => e = .returned (.bool (decide (zs = ys))) ∧ ∃ m, w' = w4.drewN m) :=
        Lib.hid (equalFunc_any A B n m c d zs ys w4 w.heap.size w.heap.size (h.below b4) (h'.below b4) hn hm hz hy)
      clear bel3 bel4 h h' h2 h2' hb hz hy b3 b4 ca cb ca3 cb3
      generalize decide (zs = ys) = D at *
      go_wp2_with (fail)
      refine HS.out.mono ?_
      rintro e w5 ⟨rfl, hd⟩
      have HB5 := Lib.hid (HB4.out.trans (drewN_below hd _))
      clear hd
      go_wp2
      go_ret
      exact ⟨ret_bool' HE.out, HB5.out⟩

end Go.Proofs.YtdgejhlpncnenaaDoor
