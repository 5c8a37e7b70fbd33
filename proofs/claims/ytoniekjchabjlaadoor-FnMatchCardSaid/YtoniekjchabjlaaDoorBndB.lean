/- The program's bindingOf and IsBinding. -/
import Derived.Test.YtoniekjchabjlaaDoorBndA
import Derived.Deep.Cut
namespace Go.Proofs.YtoniekjchabjlaaDoor
open Go.ChangeAt Go.ChangeShapes Go.RowKit Go.WideShapes

theorem size_bnd : (Tryd.prog.info? 62).map (·.size) = some 8 := by kernel_rfl
theorem size_sl : (Tryd.prog.info? 24).map (·.size) = some 1 := by kernel_rfl
theorem add_block (b off j : Nat) : ((⟨b, off, none⟩ : Addr).add j).block = b := by unfold Addr.add; split <;> simp_all
/-- What bindingOf leaves. -/
def GivesB8 (w : World) (qs : List (List Int)) (e : Ending) (w' : World) : Prop :=
  ∃ cs, e = .returned (.tuple #[.agg cs, .bool (bndB qs)]) ∧ BndV w' cs (bndQ qs) ∧ Below w.heap.size w w'
theorem two_boxesA (w : World) (cs : Array Value) : Below w.heap.size w ((w.alloc (.cells cs 62)).alloc (.cells cs 62)) ∧ ((w.alloc (.cells cs 62)).alloc (.cells cs 62)).heap.size = w.heap.size + 2 := by
  refine ⟨((Below.refl _ _).alloc (Nat.le_refl _) _).alloc (by simp) _, by simp⟩
theorem bnd_out {w0 w w' : World} {g : Nat} {cs : Array Value} {qs : List (List Int)} (hb : Below w0.heap.size w0 w) (hg : w0.heap.size ≤ g) (h : BndV w0 cs qs) (hw : w' = w.setRow g cs) : BndV w' cs qs ∧ Below w0.heap.size w0 w' := by
  subst hw
  have := below_setRow hb hg cs
  exact ⟨h.below this, this⟩

set_option maxRecDepth 100000 in
set_option maxHeartbeats 4000000 in
theorem bindingOf_any (A : Option Addr) (n c : Nat) (qs : List (List Int)) (w : World) (h : RdQ w w.heap.size A n qs) (hn : n ≤ 1048576) (ht : Arit w) :
    Calls Tryd.prog 46 #[.slice A n c] w (GivesB8 w qs) := by
  have hl := h.len
  obtain ⟨w2, hw2⟩ : ∃ w2, w2 = (w.alloc (.cells #[Value.slice none 0 0, Value.slice none 0 0, Value.slice none 0 0, Value.slice none 0 0, Value.slice none 0 0, Value.slice none 0 0, Value.slice none 0 0, Value.slice none 0 0] 62)).alloc (.cells #[Value.slice none 0 0, Value.slice none 0 0, Value.slice none 0 0, Value.slice none 0 0, Value.slice none 0 0, Value.slice none 0 0, Value.slice none 0 0, Value.slice none 0 0] 62) := ⟨_, rfl⟩
  obtain ⟨hb2, hs2⟩ := two_boxesA w #[Value.slice none 0 0, Value.slice none 0 0, Value.slice none 0 0, Value.slice none 0 0, Value.slice none 0 0, Value.slice none 0 0, Value.slice none 0 0, Value.slice none 0 0]
  obtain ⟨hg2, hg4⟩ := two_heap w (.cells #[Value.slice none 0 0, Value.slice none 0 0, Value.slice none 0 0, Value.slice none 0 0, Value.slice none 0 0, Value.slice none 0 0, Value.slice none 0 0, Value.slice none 0 0] 62) (.cells #[Value.slice none 0 0, Value.slice none 0 0, Value.slice none 0 0, Value.slice none 0 0, Value.slice none 0 0, Value.slice none 0 0, Value.slice none 0 0, Value.slice none 0 0] 62)
  rw [← hw2] at hb2 hs2 hg2 hg4
  have HW2 := Lib.hid hw2
  have HZ := Lib.hid (bnd_zero w)
  have HB2 := Lib.hid hb2; have HS2 := Lib.hid hs2; have HG2 := Lib.hid hg2; have HG4 := Lib.hid hg4
  clear hw2 hb2 hs2 hg2 hg4
  by_cases h8 : n = 8
  · subst h8
    have HL := Lib.hid hl
    have H2 := Lib.hid ((h.below HB2.out).more HB2.out.size)
    obtain ⟨bA, oA, rfl, hbbA, _⟩ := h.2 (by omega)
    have HRQ := Lib.hid h
    clear h hl
    go_enter Tryd.func46, Tryd.ntmps46
    go_upto_region 2 with (fail)
    rw [← HW2.out]
    go_wp2
    go_loopw [6, 13] (fun _ i wr => ∃ k : Nat, k ≤ 8 ∧ i = .int .i64 k ∧ (qs.take k).all elB = true ∧ Below w2.heap.size w2 wr) (fun _ i _ => 8 - (intOf i).toNat)
    case atStart => exact ⟨0, Nat.zero_le _, rfl, by simp, Below.refl _ _⟩
    case round =>
      obtain ⟨k, hk, rfl, hall, hb⟩ := hrel
      have HB := Lib.hid hb
      have hs2 := HS2.out
      have HG2r : Hid (wr.heap[w.heap.size]? = _) := Lib.hid ((hb.block w.heap.size (by omega)).trans HG2.out)
      have HG4r : Hid (wr.heap[w.heap.size + 1]? = _) := Lib.hid ((hb.block (w.heap.size + 1) (by omega)).trans HG4.out)
      have HBr := Lib.hid (HB2.out.trans (hb.mono HB2.out.size))
      have HALL := Lib.hid hall
      clear hs2 hall
      by_cases hlt : k < 8
      · have hd8 : decide ((k : Int) < 8) = true := decide_eq_true (by omega)
        have h1 := (H2.out.below hb).more hb.size
        have hl8 := HL.out
        obtain ⟨b, off, e, hbb, hcells⟩ := h1.2 (by omega)
        cases e
        obtain ⟨A', c', hcell, hcc, hrd⟩ := hcells k (by omega)
        have HS := Lib.hid (fun hb : elB (qs.getD k []) = true => bnd_step (qs := qs) (by omega) HALL.out hb)
        have HN := Lib.hid (fun hb : elB (qs.getD k []) = false => bnd_bad (qs := qs) (by omega) hb)
        have hV := Lib.hid (validForm_impl A' _ c' _ wr hrd (ht.below HBr.out ht.lt) hcc)
        clear hl8
        by_cases h0 : 0 < (qs.getD k []).length
        · have hd : decide (0 < ((qs.getD k []).length : Int)) = true := decide_eq_true (by omega)
          have he : elB (qs.getD k []) = validB (qs.getD k []) := by unfold elB; rw [decide_eq_false (by omega), Bool.false_or]
          rw [he] at HS HN
          clear hcells h1 hrd he hb
          cases hv : validB (qs.getD k []) with
          | false =>
            have hbad : bndB qs = false := HN.out hv
            have HE := Lib.hid (bndQ_no hbad)
            have HBAD := Lib.hid hbad
            rw [hv] at hV
            clear HS HN hv hbad
            generalize (qs.getD k []).length = M at *
            go_wp2_with (first
              | (go_at_call 47; refine hV.out.mono ?_; rintro e w' ⟨rfl, rfl⟩)
              | (refine wpList_load_row rfl _ _ rfl (w.heap.size + 1) rfl _ _ _ _ HG4r.out Tryd.underlying62 rfl size_bnd ?_)
              | (refine wpList_store_row rfl _ _ _ rfl w.heap.size _ rfl rfl _ _ HG2r.out size_bnd rfl (by simp [Value.oneCell']) ?_))
            obtain ⟨w3, hw3⟩ : ∃ w3, w3 = wr.setRow w.heap.size #[Value.slice none 0 0, Value.slice none 0 0, Value.slice none 0 0, Value.slice none 0 0, Value.slice none 0 0, Value.slice none 0 0, Value.slice none 0 0, Value.slice none 0 0] := ⟨_, rfl⟩
            obtain ⟨o3, b3⟩ := bnd_out HBr.out (Nat.le_refl _) HZ.out hw3
            have hg3 := setRow_heap wr w.heap.size _ #[Value.slice none 0 0, Value.slice none 0 0, Value.slice none 0 0, Value.slice none 0 0, Value.slice none 0 0, Value.slice none 0 0, Value.slice none 0 0, Value.slice none 0 0] _ _ HG2r.out
            rw [← hw3] at hg3 ⊢
            have HG3 := Lib.hid hg3; have HO3 := Lib.hid o3; have HB3 := Lib.hid b3
            clear hw3 hg3 o3 b3
            go_wp2
            (try simp only [Exit.inBlock, Exit.then])
            refine bodyPost_ret (results_cell_row_tmp rfl _ _ w.heap.size _ _ (0, 0) _ rfl HG3.out Tryd.underlying62 rfl size_bnd) rfl ?_
            exact ⟨_, by rw [HBAD.out]; rfl, by rw [HE.out]; exact HO3.out, HB3.out⟩
          | true =>
            have HA := Lib.hid (HS.out hv)
            rw [hv] at hV
            clear HS HN hv
            generalize (qs.getD k []).length = M at *
            go_wp2_with (go_at_call 47; refine hV.out.mono ?_; rintro e w' ⟨rfl, rfl⟩)
            go_roundw
            case rel => exact ⟨k + 1, by omega, by go_num, HA.out, HB.out⟩
            case measure => simp [intOf]; omega
        · have hd : decide (0 < ((qs.getD k []).length : Int)) = false := decide_eq_false (by omega)
          have HA := Lib.hid (HS.out (by unfold elB; rw [decide_eq_true (by omega), Bool.true_or]))
          clear hcells h1 hrd hb HS HN hV
          generalize (qs.getD k []).length = M at *
          go_wp2
          go_roundw
          case rel => exact ⟨k + 1, by omega, by go_num, HA.out, HB.out⟩
          case measure => simp [intOf]; omega
      · have hkl : k = 8 := by omega
        subst hkl
        have hok : bndB qs = true := by
          have h := HALL.out
          rw [← HL.out] at h
          rw [bnd_end h, decide_eq_true HL.out]
        have hrow := bnd_row HRQ.out
        obtain ⟨cs, hc8, hbv, hsrc, h1c⟩ := hrow
        have HBV := Lib.hid hbv; have HSRC := Lib.hid (fun j v hv => (HBr.out.cell (p := (⟨bA, oA, none⟩ : Addr).add j) (by rw [add_block]; exact hbbA)).trans (hsrc j v hv)); have H1C := Lib.hid h1c; have HC8 := Lib.hid hc8
        have HOK := Lib.hid hok
        have HQY := Lib.hid (bndQ_yes hok)
        have hsp : splice [Value.slice none 0 0, Value.slice none 0 0, Value.slice none 0 0, Value.slice none 0 0, Value.slice none 0 0, Value.slice none 0 0, Value.slice none 0 0, Value.slice none 0 0] 0 cs = cs := by
          unfold splice
          rw [List.take_zero, List.nil_append, Nat.zero_add, hc8]
          simp
        have HSP := Lib.hid hsp
        clear hb hbv hsrc h1c hok hsp hc8
        go_wp2_with (first
          | (refine wpList_copy_splice rfl _ _ _ _ rfl 24 Tryd.underlying25 size_sl _ _ _ _ _ _ rfl rfl (w.heap.size + 1) 0 [Value.slice none 0 0, Value.slice none 0 0, Value.slice none 0 0, Value.slice none 0 0, Value.slice none 0 0, Value.slice none 0 0, Value.slice none 0 0, Value.slice none 0 0] _ HG4r.out cs (by rw [HC8.out]; rfl) (fun _ => ⟨rfl, _, rfl, HSRC.out⟩) (by rw [HC8.out]; exact Nat.le_refl _) H1C.out (w.heap.size + 1) wr (Below.refl _ _) (Nat.le_refl _) ?_; intro w5 HG5 hb5; have HG25 : Hid (w5.heap[w.heap.size]? = _) := Lib.hid ((hb5.block w.heap.size (Nat.lt_succ_self _)).trans HG2r.out); have HB5 := Lib.hid (HBr.out.trans (hb5.mono (Nat.le_succ _))); rw [HSP.out] at HG5; clear hb5)
          | (refine wpList_load_row rfl _ _ rfl (w.heap.size + 1) rfl _ _ _ _ HG5.out Tryd.underlying62 rfl (by rw [List.size_toArray, HC8.out]; exact size_bnd) ?_)
          | (refine wpList_store_row rfl _ _ _ rfl w.heap.size cs.toArray rfl rfl _ _ HG25.out ?i1 ?i2 ?i3 ?_; (case i1 => rw [List.size_toArray, HC8.out]; exact size_bnd); (case i2 => simp [HC8.out]); (case i3 => exact HBV.out.one)))
        obtain ⟨w6, hw6⟩ : ∃ w6, w6 = w5.setRow w.heap.size cs.toArray := ⟨_, rfl⟩
        obtain ⟨o6, b6⟩ := bnd_out HB5.out (Nat.le_refl _) HBV.out hw6
        have hg6 := setRow_heap w5 w.heap.size _ cs.toArray _ _ HG25.out
        rw [← hw6] at hg6 ⊢
        have HG6 := Lib.hid hg6; have HO6 := Lib.hid o6; have HB6 := Lib.hid b6
        clear hw6 hg6 o6 b6
        go_wp2
        (try simp only [Exit.inBlock, Exit.then])
        refine bodyPost_ret (results_cell_row_tmp rfl _ _ w.heap.size _ _ (0, 0) _ rfl HG6.out Tryd.underlying62 rfl (by rw [List.size_toArray, HC8.out]; exact size_bnd)) rfl ?_
        exact ⟨_, by rw [HOK.out]; rfl, by rw [HQY.out]; exact HO6.out, HB6.out⟩
  · have hne : ((n : Int) != 8) = true := by simp; omega
    have hbad : bndB qs = false := by unfold bndB; rw [decide_eq_false (by omega)]; rfl
    have HE := Lib.hid (bndQ_no hbad)
    have HBAD := Lib.hid hbad
    clear hbad hl h
    go_enter Tryd.func46, Tryd.ntmps46
    go_upto_region 2 with (fail)
    rw [← HW2.out]
    go_wp2_with (first
      | (refine wpList_load_row rfl _ _ rfl (w.heap.size + 1) rfl _ _ _ _ HG4.out Tryd.underlying62 rfl size_bnd ?_)
      | (refine wpList_store_row rfl _ _ _ rfl w.heap.size _ rfl rfl _ _ HG2.out size_bnd rfl (by simp [Value.oneCell']) ?_))
    obtain ⟨w3, hw3⟩ : ∃ w3, w3 = w2.setRow w.heap.size #[Value.slice none 0 0, Value.slice none 0 0, Value.slice none 0 0, Value.slice none 0 0, Value.slice none 0 0, Value.slice none 0 0, Value.slice none 0 0, Value.slice none 0 0] := ⟨_, rfl⟩
    obtain ⟨o3, b3⟩ := bnd_out HB2.out (Nat.le_refl _) HZ.out hw3
    have hg3 := setRow_heap w2 w.heap.size _ #[Value.slice none 0 0, Value.slice none 0 0, Value.slice none 0 0, Value.slice none 0 0, Value.slice none 0 0, Value.slice none 0 0, Value.slice none 0 0, Value.slice none 0 0] _ _ HG2.out
    rw [← hw3] at hg3 ⊢
    have HG3 := Lib.hid hg3; have HO3 := Lib.hid o3; have HB3 := Lib.hid b3
    clear hw3 hg3 o3 b3
    go_wp2
    (try simp only [Exit.inBlock, Exit.then])
    refine bodyPost_ret (results_cell_row_tmp rfl _ _ w.heap.size _ _ (0, 0) _ rfl HG3.out Tryd.underlying62 rfl size_bnd) rfl ?_
    exact ⟨_, by rw [HBAD.out]; rfl, by rw [HE.out]; exact HO3.out, HB3.out⟩
end Go.Proofs.YtoniekjchabjlaaDoor
