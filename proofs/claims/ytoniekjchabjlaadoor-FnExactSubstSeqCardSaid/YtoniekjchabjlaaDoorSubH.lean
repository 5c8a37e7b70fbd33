/- The model's SubstSeq. -/
import Derived.Test.YtoniekjchabjlaaDoorSubB
import Derived.Deep.RegionHeldLaw
import Derived.Test.YtoniekjchabjlaaDoorSwap
namespace Go.Proofs.YtoniekjchabjlaaDoor
open Go.ChangeAt Go.ChangeShapes Go.RowKit Go.WideShapes

def sqB (qs ps : List (List Int)) : Bool := validQ qs && (bndB ps && validQ (qs.map (sbL ps)))
def sqL (qs ps : List (List Int)) : List (List Int) := if sqB qs ps = true then qs.map (sbL ps) else []
theorem sqB_no1 {qs ps : List (List Int)} (h : validQ qs = false) : sqB qs ps = false := by unfold sqB; rw [h]; rfl
theorem sqB_no2 {qs ps : List (List Int)} (h : bndB ps = false) : sqB qs ps = false := by unfold sqB; rw [h, Bool.false_and, Bool.and_false]
theorem sqB_is {qs ps : List (List Int)} (h : validQ qs = true) (h2 : bndB ps = true) : sqB qs ps = validQ (qs.map (sbL ps)) := by unfold sqB; rw [h, h2]; rfl
theorem sqL_no {qs ps : List (List Int)} (h : sqB qs ps = false) : sqL qs ps = [] := by unfold sqL; rw [h]; rfl
theorem sqL_yes {qs ps : List (List Int)} (h : sqB qs ps = true) : sqL qs ps = qs.map (sbL ps) := by unfold sqL; rw [if_pos h]
theorem sqL_small (qs ps : List (List Int)) : (sqL qs ps).length ≤ 1048576 ∧ total (sqL qs ps) ≤ 1048576 := by
  cases h : sqB qs ps with
  | false => rw [sqL_no h]; exact ⟨Nat.zero_le _, by simp [total]⟩
  | true =>
    have hv : validQ (qs.map (sbL ps)) = true := by
      unfold sqB at h
      simp only [Bool.and_eq_true] at h
      exact h.2.2
    have hl := validQ_len hv
    have ht := total_small (qs := qs.map (sbL ps)) fun q hq => (valid_len (validQ_mem hv hq)).2.1
    rw [sqL_yes h]
    omega
theorem map_take {qs ps : List (List Int)} {k : Nat} (h : k < qs.length) : (qs.take k).map (sbL ps) ++ [sbL ps (qs.getD k [])] = (qs.take (k + 1)).map (sbL ps) := by
  rw [← take_push h, List.map_append, List.map_singleton]
theorem givesSeqB_mk {w w' : World} {V V' : List (List Int)} {b b' : Bool} {hs : Nat → Option Addr × Nat} {A : Option Addr} {c n : Nat} (h1 : V.length = n) (own : OwnQ w' w.heap.size w'.heap.size (.slice A n c) hs V) (bel : Below w.heap.size w w') (hV : V = V') (hb : b = b') :
    GivesSeqB w V' b' (.returned (.tuple #[.agg #[.slice A n c], .bool b])) w' := by
  subst hV; subst hb; subst h1
  exact ⟨hs, A, c, rfl, own, bel⟩

set_option maxRecDepth 100000 in
set_option maxHeartbeats 8000000 in
theorem sSubstSeq_any (A : Option Addr) (n c : Nat) (qs : List (List Int)) (B : Option Addr) (m d : Nat) (ps : List (List Int)) (w : World) (h : RdQ w w.heap.size A n qs) (h' : RdQ w w.heap.size B m ps) (hn : n ≤ 1048576) (hnc : n ≤ c) (hm : m ≤ 1048576) :
    Calls Tryd.prog 35 #[.agg #[.slice A n c], .slice B m d] w (GivesSeqB w (sqL qs ps) (sqB qs ps)) := by
  obtain ⟨i0, hi0, hz0, hz1, hz2⟩ := info_parts_s
  have hl := h.len
  subst hl
  obtain ⟨w2, hw2⟩ : ∃ w2, w2 = (w.alloc (.cells #[Value.slice A qs.length c] 50)).alloc (.cells #[.slice none 0 0] 50) := ⟨_, rfl⟩
  obtain ⟨hb, ca, _, hsz⟩ := two_boxes w (.slice A qs.length c) (.slice none 0 0) 50
  obtain ⟨hh1, hh2⟩ := two_heap w (.cells #[Value.slice A qs.length c] 50) (.cells #[.slice none 0 0] 50)
  have ha : ((w.alloc (.cells #[Value.slice A qs.length c] 50)).alloc (.cells #[.slice none 0 0] 50)).cell? ⟨w.heap.size, 0, none⟩ = some (.slice A qs.length c) := ca
  rw [← hw2] at hb hsz hh1 hh2
  have hszl : w.heap.size + 1 < w2.heap.size := by omega
  have hV := sValidSeq_any A qs.length c qs w2 ((h.below hb).more hb.size) hn hnc
  have HBA := Lib.hid hb; have HH := Lib.hid hh2; have HH1 := Lib.hid hh1
  have HI := Lib.hid hi0; have HZ0 := Lib.hid hz0; have HZ1 := Lib.hid hz1; have HZ2 := Lib.hid hz2
  clear hh2 hh1 hi0 hz0 hz1 hz2 ca
  cases hv : validQ qs with
  | false =>
    have hs := sqB_no1 (ps := ps) hv
    have HN := Lib.hid (And.intro (sqL_no hs) hs)
    rw [hv] at hV
    have HV := Lib.hid hV
    clear hV h h' hb hs
    go_enter Tryd.func35, Tryd.ntmps35
    go_wp2_with (fail)
    rw [← hw2]
    clear hw2 ha
    refine HV.out.mono ?_
    rintro e w3 ⟨rfl, bel3⟩
    have q7 := (bel3.block (w.heap.size + 1) hszl).trans HH.out
    have y0 := cell_of_row _ _ 0 _ _ (0, 0) q7; have y1 := frozen_of_row _ _ 0 _ _ q7
    have HB7 := Lib.hid ((HBA.out.trans (bel3.mono HBA.out.size)).setCell (p := ⟨w.heap.size + 1, 0, none⟩) (by show w.heap.size ≤ w.heap.size + 1; omega) (.slice none 0 0))
    have H7 := Lib.hid (cell_set (u := .slice none 0 0) q7)
    clear q7 bel3
    go_wp2
    (try simp only [Exit.inBlock, Exit.then])
    refine bodyPost_ret (results_cell_row_tmp rfl _ _ (w.heap.size + 1) _ _ (0, 0) _ rfl H7.out Tryd.underlying50 rfl (by kernel_rfl)) rfl ?_
    exact givesSeqB_mk (hs := fun _ => (none, 0)) rfl (OwnQ.nil _ _ _ _) HB7.out HN.out.1.symm HN.out.2.symm
  | true =>
    rw [hv] at hV
    have HV := Lib.hid hV
    have HBD := Lib.hid (fun w3 (bel : Below w.heap.size w w3) => sIsBinding_any B m d ps w3 ((h'.below bel).more bel.size) hm)
    clear hV
    cases hbd : bndB ps with
    | false =>
      have hs := sqB_no2 (qs := qs) hbd
      have HN := Lib.hid (And.intro (sqL_no hs) hs)
      rw [hbd] at HBD
      clear h h' hs hb
      go_enter Tryd.func35, Tryd.ntmps35
      go_wp2_with (fail)
      rw [← hw2]
      clear hw2 ha
      refine HV.out.mono ?_
      rintro e w3 ⟨rfl, bel3⟩
      have HB3 := Lib.hid bel3
      clear bel3
      go_wp2_with (fail)
      refine (HBD.out w3 (HBA.out.trans (HB3.out.mono HBA.out.size))).mono ?_
      rintro e w4 ⟨rfl, bel4⟩
      have bel5 := HB3.out.trans (bel4.mono HB3.out.size)
      clear bel4
      have q7 := (bel5.block (w.heap.size + 1) hszl).trans HH.out
      have y0 := cell_of_row _ _ 0 _ _ (0, 0) q7; have y1 := frozen_of_row _ _ 0 _ _ q7
      have HB7 := Lib.hid ((HBA.out.trans (bel5.mono HBA.out.size)).setCell (p := ⟨w.heap.size + 1, 0, none⟩) (by show w.heap.size ≤ w.heap.size + 1; omega) (.slice none 0 0))
      have H7 := Lib.hid (cell_set (u := .slice none 0 0) q7)
      clear q7 bel5
      go_wp2
      (try simp only [Exit.inBlock, Exit.then])
      refine bodyPost_ret (results_cell_row_tmp rfl _ _ (w.heap.size + 1) _ _ (0, 0) _ rfl H7.out Tryd.underlying50 rfl (by kernel_rfl)) rfl ?_
      exact givesSeqB_mk (hs := fun _ => (none, 0)) rfl (OwnQ.nil _ _ _ _) HB7.out HN.out.1.symm HN.out.2.symm
    | true =>
      rw [hbd] at HBD
      have his := sqB_is hv hbd
      have h10 := validQ_len hv
      have HVQ := Lib.hid (fun k (hk : k < qs.length) => validQ_at hv hk)
      have HSB := Lib.hid (fun (k : Nat) (hk : k < qs.length) (A' : Option Addr) (c' : Nat) (wx : World) (hr : RdI wx wx.heap.size A' (qs.getD k []).length (qs.getD k [])) (hr' : RdQ wx wx.heap.size B m ps) => sSubst_any A' (qs.getD k []).length c' (qs.getD k []) B m d ps wx hr (validQ_at hv hk) hr' hbd)
      have H := Lib.hid h; have H' := Lib.hid h'
      clear h h' hb hv hbd
      go_enter Tryd.func35, Tryd.ntmps35
      go_wp2_with (fail)
      rw [← hw2]
      clear hw2 ha
      refine HV.out.mono ?_
      rintro e w3 ⟨rfl, bel3⟩
      have HB3 := Lib.hid (HBA.out.trans (bel3.mono HBA.out.size))
      have s3 := bel3.size
      have q3 := (bel3.block (w.heap.size + 1) (by omega)).trans HH.out
      have r3 := (bel3.block w.heap.size (by omega)).trans HH1.out
      clear bel3
      go_wp2_with (fail)
      refine (HBD.out w3 HB3.out).mono ?_
      rintro e w4 ⟨rfl, bel4⟩
      have HB4 := Lib.hid (HB3.out.trans (bel4.mono HB3.out.size))
      have s4 := bel4.size
      have q4 := (bel4.block (w.heap.size + 1) (by omega)).trans q3
      have r4 := (bel4.block w.heap.size (by omega)).trans r3
      clear bel4 q3 r3
      have bx := box_below w4 (.slice none 0 0) 50
      obtain ⟨w5, hw5⟩ : ∃ w5, w5 = w4.alloc (.cells #[.slice none 0 0] 50) := ⟨_, rfl⟩
      have p5 : w5.heap[w4.heap.size]? = some (.cells #[.slice none 0 0] 50 (0, 0)) := by rw [hw5]; exact heap_alloc_new _ _
      have s5 : w5.heap.size = w4.heap.size + 1 := by rw [hw5]; simp
      rw [← hw5] at bx
      have HB5 := Lib.hid (HB4.out.trans (bx.mono HB4.out.size))
      have Q5 := Lib.hid ((bx.block (w.heap.size + 1) (by omega)).trans q4)
      have R5 := Lib.hid ((bx.block w.heap.size (by omega)).trans r4)
      have P5 := Lib.hid p5
      have hb01 : w.heap.size + 1 < w4.heap.size := by omega
      clear bx p5 q4 r4
      go_wp2_with (fail)
      rw [← hw5]
      clear hw5
      generalize w4.heap.size = b6 at *
      go_loopw [7] (fun i wr => ∃ (k : Nat) (hs : Nat → Option Addr × Nat) (A2 : Option Addr) (c2 : Nat), k ≤ qs.length ∧ i = .int .i64 k ∧ wr.heap[b6]? = some (.cells #[.slice A2 k c2] 50 (0, 0)) ∧
        OwnQ wr w5.heap.size wr.heap.size (.slice A2 k c2) hs ((qs.take k).map (sbL ps)) ∧ Below b6 w5 wr) (fun i _ => qs.length - (intOf i).toNat)
      case atStart => exact ⟨0, fun _ => (none, 0), none, 0, Nat.zero_le _, rfl, P5.out, OwnQ.nil _ _ _ _, Below.refl _ _⟩
      case round =>
        obtain ⟨k, hs, A2, c2, hk, rfl, hb6, hown, hbl⟩ := hrel
        have hsr := hbl.size
        have k1 := cell_of_row _ _ 0 _ _ (0, 0) hb6
        have k2 : wr.cell? ⟨w.heap.size, 0, none⟩ = some (.slice A qs.length c) := cell_of_row _ _ 0 _ _ (0, 0) ((hbl.block w.heap.size (by omega)).trans R5.out)
        have q6 := (hbl.block (w.heap.size + 1) (by omega)).trans Q5.out
        have HBW := Lib.hid (HB5.out.trans (hbl.mono (by omega)))
        have HLEN : Hid (((qs.take k).map (sbL ps)).length = k) := Lib.hid (by rw [List.length_map, List.length_take]; omega)
        by_cases hlt : k < qs.length
        · have hR := (H.out.below HBW.out).more HBW.out.size
          obtain ⟨b, off, rfl, hbb, hcells⟩ := H.out.2 (by omega)
          obtain ⟨A', c', hcell, hcc, hrd⟩ := hcells k hlt
          have k3 := (HBW.out.cell (p := ⟨b, off + k, none⟩) hbb).trans hcell
          have HNX := Lib.hid (map_take (ps := ps) hlt)
          have HD := Lib.hid (HSB.out k hlt A' c' wr.drew ((hrd.below HBW.out).more HBW.out.size) ((H'.out.below HBW.out).more HBW.out.size))
          generalize sbL ps (qs.getD k []) = dq at *
          generalize (qs.getD k []).length = M at *
          have HO := Lib.hid hown; have HB6 := Lib.hid hb6; have HBL := Lib.hid hbl
          clear hown hb6 hbl hR hcells hcell hrd q6
          go_wp2_with (fail)
          go_region_law
            (first
              | (go_simp
                 go_at_call 51
                 refine HD.out.mono ?_
                 rintro e w6 ⟨A6, c6, rfl, own6, bel6'⟩
                 have bel6 := undrew bel6'
                 obtain ⟨o6, n6, bs6⟩ := push_in (A6 := A6) (c6 := c6) (dq := dq) HO.out HLEN.out (by omega) bel6
                 have O6 := Lib.hid o6
                 have N6 := Lib.hid n6
                 have BS6 := Lib.hid bs6
                 have k1' := (bel6.cell (p := ⟨b6, 0, none⟩) (by show b6 < _; omega)).trans k1
                 have hx6 := bel6.trans ((box_below w6 (.slice A6 dq.length c6) 24).mono bel6.size)
                 have k1'' := (hx6.cell (p := ⟨b6, 0, none⟩) (by show b6 < _; omega)).trans k1
                 have OW6 := Lib.hid own6
                 have BE6 := Lib.hid bel6
                 clear own6 bel6 bel6' o6 n6 bs6 hx6
                 dsimp only)
              | (refine step_append_lies _ rfl _ _ _ rfl _ 24 i0 (.slice none 0 0) 1 24 Tryd.underlying25 HI.out HZ0.out HZ1.out HZ2.out rfl (by decide) _ _ _ rfl O6.out ⟨w6.heap.size, 0, none⟩ 1 1 [.slice A6 dq.length c6] rfl rfl N6.out (by simp [Value.oneCell']) (by decide) (by simp only [maxLen]; omega) (by omega) BS6.out _ rfl ?_
                 intro g cap w7 hown7 hgrow7 hat7 hlt7
                 obtain ⟨cl7, hf7, F1, F2, F3⟩ := push_out HO.out HLEN.out (by omega) (by omega) HBL.out HB6.out BE6.out OW6.out hown7 hgrow7 hat7
                 have hk8 := (cl7 ⟨b6, 0, none⟩ (by show b6 < _; omega)).trans k1
                 rw [HNX.out] at F2
                 have G1 := Lib.hid F1
                 have G2 := Lib.hid F2
                 have G3 := Lib.hid F3
                 clear hown7 hgrow7 hat7 cl7 F1 F2 F3))
          all_goals
            go_wp2
            go_roundw
            case rel => exact ⟨k + 1, _, _, _, by omega, by go_num, G1.out, G2.out, G3.out⟩
            case measure => simp [intOf]; omega
        · have hkl : k = qs.length := by omega
          subst hkl
          rw [List.take_of_length_le (Nat.le_refl _)] at hown HLEN
          have hcap : qs.length ≤ c2 := by
            have := hown.outer
            rw [HLEN.out] at this
            exact (own_cap this).1
          have HVS := Lib.hid (sValidSeq_any A2 qs.length c2 (qs.map (sbL ps)) wr (hown.rd HLEN.out) hn hcap)
          have HO := Lib.hid hown; have HB6 := Lib.hid hb6; have HBL := Lib.hid hbl; have Q6 := Lib.hid q6
          clear hown hb6 hbl q6
          cases hvv : validQ (qs.map (sbL ps)) with
          | false =>
            rw [hvv] at HVS his
            have HN := Lib.hid (And.intro (sqL_no his) his)
            go_wp2_with (fail)
            refine HVS.out.mono ?_
            rintro e w7 ⟨rfl, bel7⟩
            have q7 := (bel7.block (w.heap.size + 1) (by omega)).trans Q6.out
            have y0 := cell_of_row _ _ 0 _ _ (0, 0) q7; have y1 := frozen_of_row _ _ 0 _ _ q7
            have HB7 := Lib.hid ((HBW.out.trans (bel7.mono HBW.out.size)).setCell (p := ⟨w.heap.size + 1, 0, none⟩) (by show w.heap.size ≤ w.heap.size + 1; omega) (.slice none 0 0))
            have H7 := Lib.hid (cell_set (u := .slice none 0 0) q7)
            clear q7 bel7
            go_wp2
            (try simp only [Exit.inBlock, Exit.then])
            refine bodyPost_ret (results_cell_row_tmp rfl _ _ (w.heap.size + 1) _ _ (0, 0) _ rfl H7.out Tryd.underlying50 rfl (by kernel_rfl)) rfl ?_
            exact givesSeqB_mk (hs := fun _ => (none, 0)) rfl (OwnQ.nil _ _ _ _) HB7.out HN.out.1.symm HN.out.2.symm
          | true =>
            rw [hvv] at HVS his
            have HN := Lib.hid (And.intro (sqL_yes his) his)
            go_wp2_with (fail)
            refine HVS.out.mono ?_
            rintro e w7 ⟨rfl, bel7⟩
            have q7 := (bel7.block (w.heap.size + 1) (by omega)).trans Q6.out
            have p7 := (bel7.block b6 (by omega)).trans HB6.out
            have y0 := cell_of_row _ _ 0 _ _ (0, 0) q7; have y1 := frozen_of_row _ _ 0 _ _ q7
            have y2 := cell_of_row _ _ 0 _ _ (0, 0) p7
            obtain ⟨h7, o7, b7⟩ := seq_out2 (HBW.out.trans (bel7.mono HBW.out.size)) (b := w.heap.size + 1) (by omega) (show w.heap.size + 1 < w5.heap.size by omega) q7 ((HO.out.below bel7).more (Nat.le_refl _) bel7.size)
            have H7 := Lib.hid h7; have O7 := Lib.hid o7; have B7 := Lib.hid b7
            clear q7 p7 h7 o7 b7 bel7
            go_wp2
            (try simp only [Exit.inBlock, Exit.then])
            refine bodyPost_ret (results_cell_row_tmp rfl _ _ (w.heap.size + 1) _ _ (0, 0) _ rfl H7.out Tryd.underlying50 rfl (by kernel_rfl)) rfl ?_
            exact givesSeqB_mk HLEN.out O7.out B7.out HN.out.1.symm HN.out.2.symm
end Go.Proofs.YtoniekjchabjlaaDoor
