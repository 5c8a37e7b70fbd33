/- SeqText of the program: the texts in a slice of strings, joined. -/
import Derived.Test.YtjgmgaccmcepdaaGreatDoorSeqT
import Derived.Test.YtjgmgaccmcepdaaGreatDoorShelfJ
namespace Go.Proofs.YtjgmgaccmcepdaaGreatDoor
open Go.ChangeShapes Go.WideShapes Go.ChangeAt Go.RowKit

theorem info_str : (Tryz.prog.info? 9).map (fun i => (i.zero, i.size, i.bytes)) = some (some (.string ⟨#[]⟩), 1, 16) := by kernel_rfl
theorem info_parts_str : ∃ i, Tryz.prog.info? 9 = some i ∧ i.zero = some (.string ⟨#[]⟩) ∧ i.size = 1 ∧ i.bytes = 16 := by
  obtain ⟨i, hi, he⟩ := Option.map_eq_some_iff.1 info_str
  simp only [Prod.mk.injEq] at he
  exact ⟨i, hi, he.1, he.2.1, he.2.2⟩
theorem mkB_list (t : List Int) : (mkB t).data.toList = t.map fun z => UInt8.ofNat z.toNat := by simp [mkB]
theorem joinTail_text (qs : List (List Int)) : Lib.joinTail [44, 32] ((qs.map fun q => mkB (textL q)).map (·.data.toList)) = (tailT qs).map fun z => UInt8.ofNat z.toNat := by
  induction qs with
  | nil => rfl
  | cons q qs ih =>
    have e : Lib.joinTail [44, 32] (((q :: qs).map fun q => mkB (textL q)).map (·.data.toList)) = ([44, 32] ++ (mkB (textL q)).data.toList) ++ Lib.joinTail [44, 32] ((qs.map fun q => mkB (textL q)).map (·.data.toList)) := by simp [Lib.joinTail]
    rw [e, ih, mkB_list, tailT, List.map_append, List.map_append, List.append_assoc]
    rfl
theorem join_text (qs : List (List Int)) : (⟨(Lib.join ((qs.map fun q => mkB (textL q)).map (·.data.toList)) [44, 32]).toArray⟩ : ByteArray) = mkB (seqL qs) := by
  apply ba_ext
  rw [mkB_list]
  cases qs with
  | nil => rfl
  | cons q qs =>
    show Lib.join (((mkB (textL q)).data.toList) :: ((qs.map fun q => mkB (textL q)).map (·.data.toList))) [44, 32] = _
    rw [Lib.join_cons, joinTail_text, mkB_list, seqL, List.map_append]
/-- How far the row of texts has come. -/
def cpT (T : List ByteArray) (k : Nat) : List Value := (T.take k).map Value.string ++ List.replicate (T.length - k) (.string ⟨#[]⟩)
theorem cpT_zero (T : List ByteArray) : List.replicate T.length (Value.string ⟨#[]⟩) = cpT T 0 := by simp [cpT]
theorem cpT_all (T : List ByteArray) : cpT T T.length = T.map Value.string := by simp [cpT]
theorem cpT_len {T : List ByteArray} {k : Nat} (h : k ≤ T.length) : (cpT T k).length = T.length := by simp [cpT]; omega
theorem cpT_step {T : List ByteArray} {k : Nat} (h : k < T.length) {x : ByteArray} (hx : T[k]? = some x) : (cpT T k).set k (.string x) = cpT T (k + 1) := by
  unfold cpT
  rw [List.set_append_right _ _ (by simp; omega)]
  have e1 : k - ((T.take k).map Value.string).length = 0 := by simp; omega
  rw [e1]
  have e2 : T.length - k = (T.length - (k + 1)) + 1 := by omega
  rw [e2, List.replicate_succ, List.set_cons_zero, List.take_succ_eq_append_getElem h, List.map_append, List.append_assoc]
  have e3 : T[k] = x := by rw [List.getElem?_eq_getElem h] at hx; exact Option.some.inj hx
  rw [e3]
  rfl

set_option maxHeartbeats 2000000 in
theorem seqText_impl (A : Option Addr) (n c : Nat) (qs : List (List Int)) (w : World) (h : RdQ w w.heap.size A n qs) (hn : n ≤ maxLen) (ht : Arit w) :
    Calls Tryz.prog 81 #[.agg #[.slice A n c]] w fun e w' => e = .returned (.string (seqT qs)) ∧ Below w.heap.size w w' := by
  obtain ⟨i0, hi0, hz0, hz1, hz2⟩ := info_parts_str
  have hl := h.len
  subst hl
  have hb := box_below w (.slice A qs.length c) 39
  have hc1 : (w.alloc (.cells #[Value.slice A qs.length c] 39)).cell? ⟨w.heap.size, 0, none⟩ = some (.slice A qs.length c) := by simp
  have hs1 : w.heap.size < (w.alloc (.cells #[Value.slice A qs.length c] 39)).heap.size := by simp
  obtain ⟨w1, hw1⟩ : ∃ x, x = w.alloc (.cells #[Value.slice A qs.length c] 39) := ⟨_, rfl⟩
  have hc1' := hc1
  rw [← hw1] at hb hc1' hs1
  have h1 := (h.below hb).more hb.size
  have hV := validSeq_impl A qs.length c qs w1 h1 hn (ht.below hb ht.lt)
  have HB := Lib.hid hb
  cases hv : validQ qs with
  | false =>
    rw [hv] at hV
    have HV := Lib.hid hV
    have HE : Hid ((⟨#[]⟩ : ByteArray) = seqT qs) := Lib.hid (seqT_no hv).symm
    clear hV h h1 ht hb hi0 hz0 hz1 hz2
    go_enter Tryz.func81, Tryz.ntmps81
    go_wp2_with (fail)
    rw [← hw1]
    refine HV.out.mono ?_
    rintro e w2 ⟨rfl, bel2⟩
    have HB2 := Lib.hid (HB.out.trans (bel2.mono HB.out.size))
    clear bel2
    go_wp2
    go_ret
    exact ⟨ret_str HE.out, HB2.out⟩
  | true =>
    rw [hv] at hV
    have HV := Lib.hid hV
    have h10 := validQ_len hv
    have hlT : (qs.map fun q => mkB (textL q)).length = qs.length := List.length_map _
    have HE : Hid ((⟨(Lib.join ((qs.map fun q => mkB (textL q)).map (·.data.toList)) [44, 32]).toArray⟩ : ByteArray) = seqT qs) := Lib.hid (by rw [join_text, seqT_yes hv])
    have hjl : (Lib.join ((qs.map fun q => mkB (textL q)).map (·.data.toList)) [44, 32]).length ≤ 140737488355328 := by
      have e := congrArg ByteArray.size (join_text qs)
      rw [mkB_size] at e
      have e' : (Lib.join ((qs.map fun q => mkB (textL q)).map (·.data.toList)) [44, 32]).length = (seqL qs).length := by simpa [ByteArray.size] using e
      have := seqL_len qs
      omega
    have HTX : Hid (∀ k, k < qs.length → (qs.map fun q => mkB (textL q))[k]? = some (mkB (textL (qs.getD k [])))) := Lib.hid (fun k hk => by simp [List.getD, hk])
    generalize hT : (qs.map fun q => mkB (textL q)) = T at *
    have HJL := Lib.hid hjl
    clear hV hT hjl h
    go_enter Tryz.func81, Tryz.ntmps81
    go_wp2_with (fail)
    rw [← hw1]
    clear hw1 hc1
    refine HV.out.mono ?_
    rintro e w2 ⟨rfl, bel2⟩
    have b2 := hb.trans (bel2.mono hb.size)
    have hc2 := (bel2.cell (p := ⟨w.heap.size, 0, none⟩) hs1).trans hc1'
    have hs2 := Nat.lt_of_lt_of_le hs1 bel2.size
    have h2 := (h1.below bel2).more bel2.size
    have ht2 := ht.below b2 ht.lt
    have HB2 := Lib.hid b2
    clear bel2 b2 hb h1 HV hc1'
    have b2 : i0.bytes * qs.length ≤ 281474976710656 := by rw [hz2]; omega
    have b3 : qs.length ≤ maxLen := by unfold maxLen; omega
    go_wp2_with (at_make; refine wpList_make_full _ rfl _ _ _ rfl _ 9 i0 (.string ⟨#[]⟩) 1 Tryz.underlying132 hi0 hz0 hz1 _ _ _ _ qs.length rfl rfl rfl rfl b2 b3 (Nat.le_refl _) ?_; intro w3 hown hg; have hc3 := (World.cell?_of_block (hg.block w.heap.size hs2 (by simp))).trans hc2)
    have hbel : Below w2.heap.size w2 w3 := (Below.refl _ _).grown hg (Nat.le_refl _) (by intro k hk; cases hk)
    have hown1 : w3.ownsRow w2.heap.size 9 1 (.slice (some ⟨w2.heap.size, 0, none⟩) qs.length qs.length) qs.length (cpT T 0) := by
      rw [← cpT_zero, hlT, ← toList_madeCells_one]; simpa [Value.cells] using hown
    have hg2 : w2.heap.size < w3.heap.size := (hown1.lt _ rfl).2
    clear hg hown b2 b3 hi0 hz0 hz1 hz2 hc2 hc3
    go_loopw [4, 5, 16] (fun _ _ i wr => ∃ k : Nat, k ≤ qs.length ∧ i = .int .i64 k ∧ wr.ownsRow w2.heap.size 9 1 (.slice (some ⟨w2.heap.size, 0, none⟩) qs.length qs.length) qs.length (cpT T k) ∧ Below w2.heap.size w2 wr) (fun _ _ i _ => qs.length - (intOf i).toNat)
    case atStart => exact ⟨0, Nat.zero_le _, rfl, hown1, hbel⟩
    case round =>
      obtain ⟨k, hk, rfl, hown, hb⟩ := hrel
      clear hown1 hbel
      by_cases hlt : k < qs.length
      · have h' := (h2.below hb).more hb.size
        obtain ⟨b, off, rfl, hbb, hcells⟩ := h'.2 (by omega)
        obtain ⟨A', c', hcell, hcc, hrd⟩ := hcells k hlt
        have HF := Lib.hid (formText_impl A' (qs.getD k []).length c' (qs.getD k []) wr hrd (ht2.below hb ht2.lt) hcc)
        have hst := (hown.stored k (.string (mkB (textL (qs.getD k []))))).1
        rw [cpT_step (by omega) (HTX.out k hlt)] at hst
        have hbs := hb.setCell (p := ⟨w2.heap.size, k, none⟩) (Nat.le_refl _) (.string (mkB (textL (qs.getD k []))))
        have hf := hown.frozenAt k
        have ho := hown.cellAt k (by omega)
        rw [List.getElem?_eq_getElem (by rw [cpT_len (by omega)]; omega)] at ho
        generalize (cpT T k)[k]'(by rw [cpT_len (by omega)]; omega) = o at ho
        generalize hX : mkB (textL (qs.getD k [])) = X at *
        generalize (qs.getD k []).length = M at *
        have HS := Lib.hid hst; have HBS := Lib.hid hbs
        clear hst hbs hown hb h2 h' hcells hrd hX
        go_wp2_with (fail)
        refine HF.out.mono ?_
        rintro e w' ⟨rfl, rfl⟩
        go_wp2
        go_roundw
        case rel => exact ⟨k + 1, by omega, by go_num, HS.out, HBS.out⟩
        case measure => simp [intOf]; omega
      · have hkl : k = qs.length := by omega
        subst hkl
        rw [← hlT, cpT_all, hlT] at hown
        have hgg := (hown.lt _ rfl).2
        have HJ := Lib.hid (Any.strings_Join Tryz.joinL Tryz.joinX w2.heap.size 0 qs.length T ⟨#[44, 32]⟩ wr (fun j x hj => by
          have hj' : j < qs.length := by rw [← hlT]; exact (List.getElem?_eq_some_iff.1 hj).1
          rw [Nat.zero_add, hown.cellAt j (by omega), List.getElem?_map, hj]
          rfl) hgg (by omega) (by omega) HJL.out)
        rw [hlT] at HJ
        have HBB := Lib.hid (HB2.out.trans (hb.mono HB2.out.size))
        clear hown hb h2
        go_wp2_with (fail)
        refine HJ.out.mono ?_
        rintro e w4 ⟨rfl, bel4⟩
        have HB4 := Lib.hid (HBB.out.trans (bel4.mono HBB.out.size))
        clear bel4
        go_wp2
        go_ret
        exact ⟨ret_str HE.out, HB4.out⟩
end Go.Proofs.YtjgmgaccmcepdaaGreatDoor
