/- The laws' helpers at rows of slices and at sequents: size, copy, comparison, marks. -/
import Derived.Test.YtdgejhlpncnenaaDoorRow
import Derived.Test.YtdgejhlpncnenaaDoorEqD
namespace Go.Proofs.YtdgejhlpncnenaaDoor
open Go.ChangeShapes Go.WideShapes Go.ChangeAt Go.RowKit

/-- The number of all symbols. -/
def total (qs : List (List Int)) : Nat := (qs.map List.length).sum
theorem total_take {qs : List (List Int)} {k : Nat} (h : k < qs.length) : total (qs.take (k + 1)) = total (qs.take k) + (qs.getD k []).length := by
  unfold total
  rw [List.take_succ_eq_append_getElem h, List.map_append, List.sum_append]
  simp [List.getD, h]
theorem total_le {qs : List (List Int)} {k : Nat} (h : k < qs.length) : total (qs.take k) + (qs.getD k []).length ≤ total qs := by
  rw [← total_take h]
  unfold total
  have e : qs = qs.take (k + 1) ++ qs.drop (k + 1) := (List.take_append_drop _ _).symm
  conv => rhs; rw [e, List.map_append, List.sum_append]
  omega
theorem total_all (qs : List (List Int)) {k : Nat} (h : qs.length ≤ k) : total (qs.take k) = total qs := by rw [List.take_of_length_le h]
theorem getD_mem {qs : List (List Int)} {k : Nat} (h : k < qs.length) : qs.getD k [] ∈ qs := by
  simp [List.getD, h]

/-- What is left. -/
def szR (left : Int) (m : Nat) : Int := if left - m < 0 then -1 else left - m
theorem szR_neg {left : Int} {m : Nat} (h : left - m < 0) : szR left m = -1 := if_pos h
theorem szR_pos {left : Int} {m : Nat} (h : ¬ left - m < 0) : szR left m = left - m := if_neg h

theorem sz_any (A : Option Addr) (n c : Nat) (left : Int) (w : World) (hn : n ≤ maxLen) (h0 : 0 ≤ left) (h1 : left ≤ 1073741824) :
    Calls Tryd.prog 88 #[.slice A n c, .int .i64 left] w fun e w' => e = .returned (.int .i64 (szR left n)) ∧ w = w' := by
  unfold maxLen at hn
  by_cases h : left - n < 0
  · rw [szR_neg h]
    have hd : decide (left - n < 0) = true := decide_eq_true h
    go_enter Tryd.func88, Tryd.ntmps88
    go_wp2
    go_ret
    exact ⟨rfl, rfl⟩
  · rw [szR_pos h]
    have hd : decide (left - n < 0) = false := decide_eq_false h
    go_enter Tryd.func88, Tryd.ntmps88
    go_wp2
    go_ret
    exact ⟨rfl, rfl⟩

set_option maxHeartbeats 1000000 in
theorem szSS_any (A : Option Addr) (n c : Nat) (qs : List (List Int)) (left : Int) (w : World) (B : Nat) (h : RdQ w B A n qs) (hq : ∀ q ∈ qs, q.length ≤ maxLen) (hn : n ≤ maxLen) (h0 : 0 ≤ left) (h1 : left ≤ 1073741824) :
    Calls Tryd.prog 61 #[.slice A n c, .int .i64 left] w fun e w' => e = .returned (.int .i64 (szR left (n + total qs))) ∧ w = w' := by
  have hl := h.len
  subst hl
  have hn' := hn
  unfold maxLen at hn'
  by_cases hc : left - qs.length < 0
  · have HE : Hid ((-1 : Int) = szR left (qs.length + total qs)) := Lib.hid (szR_neg (by omega)).symm
    have hd : decide (left - (qs.length : Int) < 0) = true := decide_eq_true hc
    clear h hq hc
    go_enter Tryd.func61, Tryd.ntmps61
    go_wp2
    go_ret
    exact ⟨ret_i64 HE.out, rfl⟩
  · have hd : decide (left - (qs.length : Int) < 0) = false := decide_eq_false hc
    go_enter Tryd.func61, Tryd.ntmps61
    go_wp2
    go_loop [1, 5] (fun l i => ∃ k : Nat, k ≤ qs.length ∧ i = .int .i64 k ∧ l = .int .i64 (left - (qs.length + total (qs.take k) : Nat)) ∧ 0 ≤ left - (qs.length + total (qs.take k) : Nat)) (fun _ i => qs.length - (intOf i).toNat)
    case atStart => exact ⟨0, Nat.zero_le _, rfl, by simp [total], by simp [total]; omega⟩
    case round =>
      obtain ⟨k, hk, rfl, rfl, hp⟩ := hrel
      clear hd
      by_cases hlt : k < qs.length
      · obtain ⟨b, off, rfl, hbb, hcells⟩ := h.2 (by omega)
        obtain ⟨A', c', hcell, _, _⟩ := hcells k hlt
        have hm := hq _ (getD_mem hlt)
        have ht := total_take hlt
        have htl := total_le hlt
        have hm' := hm
        unfold maxLen at hm'
        clear hcells h hq
        generalize hM : (qs.getD k []).length = M at *
        generalize hT : total (qs.take k) = T at *
        obtain ⟨L, hL⟩ : ∃ L : Int, left - (qs.length + T : Nat) = L := ⟨_, rfl⟩
        rw [hL] at hp ⊢
        have HS := Lib.hid (sz_any A' M c' L w hm hp (by omega))
        by_cases hneg : L - M < 0
        · rw [szR_neg hneg] at HS
          have HE : Hid ((-1 : Int) = szR left (qs.length + total qs)) := Lib.hid (szR_neg (by omega)).symm
          clear ht htl hL hM hT hneg
          go_wp2_with (go_at_call 88; refine HS.out.mono ?_; rintro e w' ⟨rfl, rfl⟩)
          go_ret
          exact ⟨ret_i64 HE.out, rfl⟩
        · rw [szR_pos hneg] at HS
          have hd2 : decide (L - (M : Int) < 0) = false := decide_eq_false hneg
          have HR : Hid (L - M = left - (qs.length + total (qs.take (k + 1)) : Nat)) := Lib.hid (by rw [ht]; omega)
          have HP : Hid (0 ≤ L - M) := Lib.hid (by omega)
          clear ht htl hL hM hT hneg
          go_wp2_with (go_at_call 88; refine HS.out.mono ?_; rintro e w' ⟨rfl, rfl⟩)
          go_round
          case rel => exact ⟨k + 1, by omega, by go_num, by rw [HR.out], by rw [← HR.out]; exact HP.out⟩
          case measure => simp [intOf]; omega
      · have hkl : k = qs.length := by omega
        subst hkl
        rw [total_all qs (Nat.le_refl _)] at hp ⊢
        have HE : Hid (left - (qs.length + total qs : Nat) = szR left (qs.length + total qs)) := Lib.hid (szR_pos (by omega)).symm
        clear h hq hp
        go_wp2
        go_ret
        exact ⟨ret_i64 HE.out, rfl⟩

/-- How far the copy of a row has come. -/
def cpq (qs : List (List Int)) (k : Nat) : List (List Int) := qs.take k ++ List.replicate (qs.length - k) []
theorem cpq_zero (qs : List (List Int)) : List.replicate qs.length [] = cpq qs 0 := by simp [cpq]
theorem cpq_all (qs : List (List Int)) : cpq qs qs.length = qs := by simp [cpq]
theorem cpq_len {qs : List (List Int)} {k : Nat} (h : k ≤ qs.length) : (cpq qs k).length = qs.length := by simp [cpq]; omega
theorem cpq_step {qs : List (List Int)} {k : Nat} (h : k < qs.length) : (cpq qs k).set k (qs.getD k []) = cpq qs (k + 1) := by
  unfold cpq
  rw [List.set_append_right _ _ (by simp; omega)]
  have e1 : k - (qs.take k).length = 0 := by simp; omega
  rw [e1]
  have e2 : qs.length - k = (qs.length - (k + 1)) + 1 := by omega
  rw [e2, List.replicate_succ, List.set_cons_zero, List.take_succ_eq_append_getElem h, List.append_assoc]
  have e3 : qs.getD k [] = qs[k] := by simp [List.getD, h]
  rw [e3]
  rfl
theorem info_is : (Tryd.prog.info? 24).map (fun i => (i.zero, i.size, i.bytes)) = some (some (.slice none 0 0), 1, 24) := by kernel_rfl
/-- The parts of a type's facts at one cell. -/
theorem info_parts_s : ∃ i, Tryd.prog.info? 24 = some i ∧ i.zero = some (.slice none 0 0) ∧ i.size = 1 ∧ i.bytes = 24 := by
  obtain ⟨i, hi, he⟩ := Option.map_eq_some_iff.1 info_is
  simp only [Prod.mk.injEq] at he
  exact ⟨i, hi, he.1, he.2.1, he.2.2⟩
/-- What the copy of a row leaves. -/
def CopiedQ (w : World) (n : Nat) (qs : List (List Int)) (e : Ending) (w' : World) : Prop :=
  ∃ hs, e = .returned (.slice (some ⟨w.heap.size, 0, none⟩) n n) ∧ OwnQ w' w.heap.size w'.heap.size (.slice (some ⟨w.heap.size, 0, none⟩) n n) hs qs ∧ Below w.heap.size w w'
/-- The store of a new part, with what is left of the world below. -/
theorem OwnQ.fill {w wr w1 : World} {A : Option Addr} {n c k g m c' : Nat} {hs : Nat → Option Addr × Nat} {cur : List (List Int)} {q : List Int} (hown : OwnQ wr w.heap.size wr.heap.size (.slice (some ⟨g, 0, none⟩) n c) hs cur) (hn : cur.length = n) (hk : k < n) (hm : m = q.length)
    (hb : Below w.heap.size w wr) (own1 : w1.ownsRow wr.heap.size 2 1 (.slice A m c') m (q.map (Value.int .i64))) (bel1 : Below wr.heap.size wr w1) :
    OwnQ (w1.setCell ⟨g, k, none⟩ (.slice A m c')) w.heap.size (w1.setCell ⟨g, k, none⟩ (.slice A m c')).heap.size (.slice (some ⟨g, 0, none⟩) n c) (upd hs k (A, c')) (cur.set k q) ∧ Below w.heap.size w (w1.setCell ⟨g, k, none⟩ (.slice A m c')) := by
  subst hm
  have e : (w1.setCell ⟨g, k, none⟩ (.slice A q.length c')).heap.size = w1.heap.size := by simp
  rw [e]
  have hg := (hown.outer.lt g rfl).1
  refine ⟨(hown.below bel1).store hn hk (own1.mono hb.size) (fun b hb' => own1.lt b hb') bel1.size, (hb.trans (bel1.mono hb.size)).setCell hg _⟩

set_option maxHeartbeats 1000000 in
theorem toSS_any (A : Option Addr) (n c : Nat) (qs : List (List Int)) (w : World) (h : RdQ w w.heap.size A n qs) (hq : ∀ q ∈ qs, q.length ≤ 1048576) (hn : n ≤ 1048576) :
    Calls Tryd.prog 63 #[.slice A n c] w (CopiedQ w n qs) := by
  obtain ⟨i0, hi0, hz0, hz1, hz2⟩ := info_parts_s
  have hl := h.len
  subst hl
  go_enter Tryd.func63, Tryd.ntmps63
  have b2 : i0.bytes * qs.length ≤ 281474976710656 := by rw [hz2]; omega
  have b3 : qs.length ≤ maxLen := by unfold maxLen; omega
  go_wp2_with (at_make; refine wpList_make_full _ rfl _ _ _ rfl w.heap.size 24 i0 (.slice none 0 0) 1 Tryd.underlying26 hi0 hz0 hz1 _ _ _ _ qs.length rfl rfl rfl rfl b2 b3 (Nat.le_refl _) ?_; intro w1 hown hg)
  have hbel : Below w.heap.size w w1 := (Below.refl _ _).grown hg (Nat.le_refl _) (by intro k hk; cases hk)
  have hown0 : w1.ownsRow w.heap.size 24 1 (.slice (some ⟨w.heap.size, 0, none⟩) qs.length qs.length) qs.length (List.replicate qs.length (.slice none 0 0)) := by
    rw [← toList_madeCells_one]; simpa [Value.cells] using hown
  have hlt1 : w.heap.size < w1.heap.size := (hown0.lt _ rfl).2
  have hown1 : OwnQ w1 w.heap.size w1.heap.size (.slice (some ⟨w.heap.size, 0, none⟩) qs.length qs.length) (fun _ => (none, 0)) (cpq qs 0) := by
    rw [← cpq_zero]; exact OwnQ.fresh hown0 _ (fun _ => rfl) _ hlt1
  clear hg hown hown0 hlt1 b2 b3 hi0 hz0 hz1 hz2
  go_loopw [4] (fun i wr => ∃ k : Nat, k ≤ qs.length ∧ i = .int .i64 k ∧ ∃ hs, OwnQ wr w.heap.size wr.heap.size (.slice (some ⟨w.heap.size, 0, none⟩) qs.length qs.length) hs (cpq qs k) ∧ Below w.heap.size w wr)
    (fun i _ => qs.length - (intOf i).toNat)
  case atStart => exact ⟨0, Nat.zero_le _, rfl, _, hown1, hbel⟩
  case round =>
    obtain ⟨k, hk, rfl, hs, hown, hb⟩ := hrel
    clear hown1 hbel
    by_cases hlt : k < qs.length
    · have h' := (h.below hb).more hb.size
      obtain ⟨b, off, rfl, hbb, hcells⟩ := h'.2 (by omega)
      obtain ⟨A', c', hcell, _, hrd⟩ := hcells k hlt
      have hm := hq _ (getD_mem hlt)
      have hl2 := cpq_len hk
      have HSTEP := Lib.hid (cpq_step hlt)
      generalize hQ : qs.getD k [] = q at *
      have HT := Lib.hid (toInts_any A' q.length c' q wr hrd hm)
      have hgg : w.heap.size < wr.heap.size := hown.top0 _ rfl
      have HO := Lib.hid hown; have HB := Lib.hid hb; have HL2 := Lib.hid hl2
      clear hown hb h h' hcells hrd hQ hl2
      go_wp2_with (fail)
      refine HT.out.mono ?_
      rintro e w2 ⟨rfl, own2, bel2⟩
      obtain ⟨hF, hFb⟩ := HO.out.fill HL2.out hlt rfl HB.out own2 bel2
      rw [HSTEP.out] at hF
      have hO2 := HO.out.below bel2
      obtain ⟨hf, ho⟩ := hO2.at HL2.out hlt
      obtain ⟨o, hoo⟩ : ∃ o, hv hs (cpq qs k) k = o := ⟨_, rfl⟩
      rw [hoo] at ho
      have HF := Lib.hid hF; have HFB := Lib.hid hFb
      clear hF hFb hoo hO2 own2 bel2
      go_wp2
      go_roundw
      case rel => exact ⟨k + 1, by omega, by go_num, _, HF.out, HFB.out⟩
      case measure => simp [intOf]; omega
    · have hkl : k = qs.length := by omega
      subst hkl
      rw [cpq_all] at hown
      have HS := Lib.hid hown; have HB := Lib.hid hb
      clear hown hb h hq
      go_wp2
      go_ret
      exact ⟨_, rfl, HS.out, HB.out⟩

theorem takeq_step {zs ys : List (List Int)} {k : Nat} (h : zs.take k = ys.take k) (hz : k < zs.length) (hy : k < ys.length) (he : zs.getD k [] = ys.getD k []) : zs.take (k + 1) = ys.take (k + 1) := by
  rw [List.take_succ_eq_append_getElem hz, List.take_succ_eq_append_getElem hy, h]
  simp [List.getD, hz, hy] at he
  rw [he]
theorem neq_at {zs ys : List (List Int)} {k : Nat} (he : ¬ zs.getD k [] = ys.getD k []) : ¬ zs = ys := fun h => he (by rw [h])

set_option maxHeartbeats 1000000 in
theorem eqSS_any (A B : Option Addr) (n m c d : Nat) (zs ys : List (List Int)) (w : World) (P Q : Nat) (h : RdQ w P A n zs) (h' : RdQ w Q B m ys) (hn : n ≤ 1048576) (hm : m ≤ 1048576) (hz : ∀ q ∈ zs, q.length ≤ 1048576) (hy : ∀ q ∈ ys, q.length ≤ 1048576) :
    Calls Tryd.prog 65 #[.slice A n c, .slice B m d] w (SameD zs ys w) := by
  have hl := h.len
  have hl' := h'.len
  subst hl hl'
  by_cases hlen : zs.length = ys.length
  · have hd : ((zs.length : Int) != (ys.length : Int)) = false := by simp; omega
    have H := Lib.hid hlen; clear hlen
    go_enter Tryd.func65, Tryd.ntmps65
    go_wp2
    go_loopw [5] (fun i wr => ∃ k : Nat, k ≤ zs.length ∧ i = .int .i64 k ∧ zs.take k = ys.take k ∧ ∃ m, wr = w.drewN m) (fun i _ => zs.length - (intOf i).toNat)
    case atStart => exact ⟨0, Nat.zero_le _, rfl, by simp, 0, rfl⟩
    case round =>
      obtain ⟨k, hk, rfl, htk, hb⟩ := hrel
      clear hd
      by_cases hlt : k < zs.length
      · have hlt' : k < ys.length := by have := H.out; omega
        obtain ⟨b, off, rfl, hbb, hcells⟩ := h.2 (by omega)
        obtain ⟨b', off', rfl, hbb', hcells'⟩ := h'.2 (by omega)
        obtain ⟨A1, c1, hc1, _, hr1⟩ := hcells k hlt
        obtain ⟨A2, c2, hc2, _, hr2⟩ := hcells' k hlt'
        have hc := drewN_cell hb hc1
        have hc' := drewN_cell hb hc2
        have HT := Lib.hid htk; have HB := Lib.hid hb
        have HZ := Lib.hid (hz _ (getD_mem hlt)); have HY := Lib.hid (hy _ (getD_mem hlt'))
        have HC : Hid (∀ j, Calls Tryd.prog 92 #[.slice A1 (zs.getD k []).length c1, .slice A2 (ys.getD k []).length c2] (wr.drewN j) fun e w' => e = .returned (.bool (decide (zs.getD k [] = ys.getD k []))) ∧ ∃ m, w' = (wr.drewN j).drewN m) :=
          Lib.hid fun j => eqInts_d A1 A2 _ _ c1 c2 _ _ _ P Q (hr1.keep fun p _ => by obtain ⟨m, rfl⟩ := hb; rfl) (hr2.keep fun p _ => by obtain ⟨m, rfl⟩ := hb; rfl) HZ.out HY.out
        clear hcells hcells' htk hb h h' hz hy hr1 hr2 hc1 hc2
        by_cases he : zs.getD k [] = ys.getD k []
        · have HE := Lib.hid (takeq_step HT.out hlt hlt' he)
          rw [decide_eq_true he] at HC
          clear he HZ HY
          generalize (zs.getD k []).length = l1 at *
          generalize (ys.getD k []).length = l2 at *
          go_wp2
          go_quiet (first | (go_at_call 92; refine Calls.quiet_of (HC.out _)))
          go_wp2
          go_roundw
          case rel => exact ⟨k + 1, by omega, by go_num, HE.out, drewN_more HB.out _⟩
          case measure => simp [intOf]; omega
        · have HE := Lib.hid (neq_at he)
          rw [decide_eq_false he] at HC
          clear he HZ HY
          generalize (zs.getD k []).length = l1 at *
          generalize (ys.getD k []).length = l2 at *
          go_wp2
          go_quiet (first | (go_at_call 92; refine Calls.quiet_of (HC.out _)))
          go_wp2
          go_ret
          exact ⟨ret_no HE.out, drewN_more HB.out _⟩
      · have hkl : k = zs.length := by omega
        subst hkl
        have e : zs = ys := by
          have := htk
          rw [List.take_of_length_le (Nat.le_refl _), List.take_of_length_le (by have := H.out; omega)] at this
          exact this
        have HE := Lib.hid e; have HB := Lib.hid hb
        clear e htk hb h h' hz hy
        go_wp2
        go_ret
        exact ⟨ret_yes HE.out, HB.out⟩
  · have hd : ((zs.length : Int) != (ys.length : Int)) = true := by simp; omega
    have HE : Hid (¬ zs = ys) := Lib.hid fun e => hlen (by rw [e])
    clear hlen h h' hz hy
    go_enter Tryd.func65, Tryd.ntmps65
    go_wp2
    go_ret
    exact ⟨ret_no HE.out, 0, rfl⟩
end Go.Proofs.YtdgejhlpncnenaaDoor
