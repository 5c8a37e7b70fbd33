/- The program's IsBinding, atomOf, forSymbol. The model's subst and SubstForm. The program's inForm: substitution in a list of symbols. -/
import Derived.Test.YthbkcpacgnmcfaaGreatDoorQSubA
import Derived.Test.YthbkcpacgnmcfaaGreatDoorQClone
import Derived.Deep.QuietTactic
import Derived.BigQuiet
import Derived.Deep.RegionLaw
import Derived.Deep.AppendLies
namespace Go.Proofs.YthbkcpacgnmcfaaGreatDoor
set_option linter.unusedSimpArgs false
set_option linter.unusedVariables false
section
open Go.ChangeAt Go.ChangeShapes Go.RowKit Go.WideShapes

/-- A variable of a binding's own: laid, then filled. -/
theorem bnd_var {w0 w1 : World} {cs : Array Value} {qs : List (List Int)} (hb : Below w0.heap.size w0 w1) (h : BndV w1 cs qs) :
    (w1.alloc (.cells #[Value.slice none 0 0, Value.slice none 0 0, Value.slice none 0 0, Value.slice none 0 0, Value.slice none 0 0, Value.slice none 0 0, Value.slice none 0 0, Value.slice none 0 0] 48)).heap[w1.heap.size]? = some (.cells #[Value.slice none 0 0, Value.slice none 0 0, Value.slice none 0 0, Value.slice none 0 0, Value.slice none 0 0, Value.slice none 0 0, Value.slice none 0 0, Value.slice none 0 0] 48 (0, 0)) ∧
    ∃ w2, w2 = (w1.alloc (.cells #[Value.slice none 0 0, Value.slice none 0 0, Value.slice none 0 0, Value.slice none 0 0, Value.slice none 0 0, Value.slice none 0 0, Value.slice none 0 0, Value.slice none 0 0] 48)).setRow w1.heap.size cs ∧ w2.heap[w1.heap.size]? = some (.cells cs 48 (0, 0)) ∧ BndV w2 cs qs ∧ Below w0.heap.size w0 w2 ∧ w2.heap.size = w1.heap.size + 1 := by
  have e := heap_alloc_new w1 (.cells #[Value.slice none 0 0, Value.slice none 0 0, Value.slice none 0 0, Value.slice none 0 0, Value.slice none 0 0, Value.slice none 0 0, Value.slice none 0 0, Value.slice none 0 0] 48)
  have b1 : Below w1.heap.size w1 ((w1.alloc (.cells #[Value.slice none 0 0, Value.slice none 0 0, Value.slice none 0 0, Value.slice none 0 0, Value.slice none 0 0, Value.slice none 0 0, Value.slice none 0 0, Value.slice none 0 0] 48)).setRow w1.heap.size cs) := below_setRow ((Below.refl _ _).alloc (Nat.le_refl _) _) (Nat.le_refl _) _
  exact ⟨e, _, rfl, setRow_heap _ _ _ cs _ _ e, h.below b1, hb.trans (b1.mono hb.size), by simp [World.setRow]⟩

set_option maxRecDepth 100000 in
set_option maxHeartbeats 4000000 in
theorem atomOf_any (x : Int) (w : World) (hx : leafB x = true) : Calls Tryz.prog 50 #[.int .i64 x] w fun e w' => e = .returned (.int .i64 (x.natAbs : Nat)) ∧ w = w' := by
  have hr := leaf_range hx
  have hneg : IntKind.i64.wrap (-x) = -x := IntWalk.i64_in _ (by omega)
  have hmx : max x (-x) = ((x.natAbs : Nat) : Int) := by omega
  go_enter Tryz.func50, Tryz.ntmps50
  go_wp2_with (fail)
  go_ret
  exact ⟨rfl, rfl⟩

theorem rd_one (w : World) (x : Int) : RdI (w.alloc (.cells #[Value.int .i64 x] 2)) (w.alloc (.cells #[Value.int .i64 x] 2)).heap.size (some ⟨w.heap.size, 0, none⟩) 1 [x] :=
  ⟨rfl, fun _ => ⟨w.heap.size, 0, rfl, by simp, fun j hj => by
    have e : j = 0 := by simp at hj; omega
    subst e
    simp⟩⟩
/-- What forSymbol leaves: a slice that reads as X, of whomever. -/
def GivesR (w : World) (X : List Int) (e : Ending) (w' : World) : Prop :=
  ∃ A c, e = .returned (.slice A X.length c) ∧ RdI w' w'.heap.size A X.length X ∧ X.length ≤ c ∧ Below w.heap.size w w'

set_option maxRecDepth 100000 in
set_option maxHeartbeats 4000000 in
theorem forSymbol_any (cs : Array Value) (qs : List (List Int)) (x : Int) (w : World) (h : BndV w cs qs) (hok : ∀ k, elB (qs.getD k []) = true) (ht : Arit w) (hu : Dual w) :
    Calls Tryz.prog 39 #[.agg cs, .int .i64 x] w (GivesR w (sub1 qs x)) := by
  obtain ⟨w2, hw2⟩ : ∃ w2, w2 = w.alloc (.cells cs 48) := ⟨_, rfl⟩
  have hb2 := al hw2
  have hg2 := an hw2
  have hs2 : w2.heap.size = w.heap.size + 1 := by rw [hw2]; simp
  have HW2 := Lib.hid hw2; have HB2 := Lib.hid hb2; have HG2 := Lib.hid hg2; have HS2 := Lib.hid hs2; have HV := Lib.hid h; have HOK := Lib.hid hok
  clear hw2 hb2 hg2 hs2 h hok
  have HNEW := Lib.hid (rd_one w2 x)
  have HBN := Lib.hid (HB2.out.alloc HB2.out.size (.cells #[Value.int .i64 x] 2))
  cases hl : leafB x with
  | false =>
    have e1 : sub1 qs x = [x] := by unfold sub1; rw [if_neg (by rw [hl]; simp)]
    rw [e1]
    clear e1
    go_enter Tryz.func39, Tryz.ntmps39
    go_wp2_with (fail)
    rw [← HW2.out]
    go_wp2_with (go_at_call 49; refine (isLeaf_any x _).mono ?_; rintro e w' ⟨rfl, rfl⟩; rw [hl])
    go_ret
    exact ⟨_, _, rfl, HNEW.out, Nat.le_refl _, HBN.out⟩
  | true =>
    obtain ⟨j, hj⟩ : ∃ j : Nat, j = x.natAbs - 1 := ⟨_, rfl⟩
    have hr := leaf_range hl
    have hidx : IntKind.i64.wrap (((x.natAbs : Nat) : Int) - 1) = (j : Int) := by
      rw [IntWalk.i64_in _ (by omega)]; omega
    have hj8 : j < 8 := by omega
    obtain ⟨A', c', hcell, hcc, hrd⟩ := HV.out.part j hj8
    have hc2 : w2.cell? ⟨w.heap.size, j, none⟩ = some (.slice A' (qs.getD j []).length c') := (cell_of_row _ _ j _ _ _ HG2.out).trans hcell
    have HRD := Lib.hid ((hrd.below HB2.out).more HB2.out.size)
    have hel : elt qs x = qs.getD j [] := by unfold elt; rw [hj]
    have hE := HOK.out j
    have HS : Hid (sub1 qs x = if 0 < (qs.getD j []).length then (if 0 < x then qs.getD j [] else dualL (qs.getD j [])) else [x]) := Lib.hid (by
      unfold sub1
      rw [hel]
      by_cases h0 : 0 < (qs.getD j []).length
      · rw [if_pos ⟨hl, h0⟩, if_pos h0]
      · rw [if_neg (fun h => h0 h.2), if_neg h0])
    have HD := Lib.hid (dualOf_impl A' _ c' _ w2 HRD.out (ht.below HB2.out ht.lt) (hu.below HB2.out hu.lt) hcc)
    have hj8' : (j : Int) < 8 := by omega
    have hl24 := elB_len hE
    have hne : x ≠ 0 := by omega
    have HL := Lib.hid hl
    have hlw : Hid (leafB x = true) := Lib.hid hl
    clear hcell hrd hel hj hE hr
    generalize qs.getD j [] = E at *
    go_enter Tryz.func39, Tryz.ntmps39
    go_wp2_with (fail)
    rw [← HW2.out]
    by_cases h0 : 0 < E.length
    · have hz : ((E.length : Int) == 0) = false := beq_eq_false_iff_ne.2 (by omega)
      by_cases hx0 : 0 < x
      · have hd : decide (x < 0) = false := decide_eq_false (by omega)
        have HX : Hid (sub1 qs x = E) := Lib.hid (by rw [HS.out, if_pos h0, if_pos hx0])
        clear HS HD
        go_wp2_with (first | (go_at_call 49; refine (isLeaf_any x _).mono ?_; rintro e w' ⟨rfl, rfl⟩; rw [HL.out]) | (go_at_call 50; refine (atomOf_any x _ HL.out).mono ?_; rintro e w' ⟨rfl, rfl⟩))
        go_ret
        exact ⟨A', c', by rw [HX.out]; rfl, by rw [HX.out]; exact HRD.out, by rw [HX.out]; exact hcc, HB2.out⟩
      · have hd : decide (x < 0) = true := decide_eq_true (by omega)
        have HX : Hid (sub1 qs x = dualL E) := Lib.hid (by rw [HS.out, if_pos h0, if_neg hx0])
        clear HS
        obtain ⟨D, hD⟩ : ∃ D, dualL E = D := ⟨_, rfl⟩
        rw [hD] at HX HD
        clear hD
        go_wp2_with (first | (go_at_call 49; refine (isLeaf_any x _).mono ?_; rintro e w' ⟨rfl, rfl⟩; rw [HL.out]) | (go_at_call 50; refine (atomOf_any x _ HL.out).mono ?_; rintro e w' ⟨rfl, rfl⟩) | (go_at_call 51; refine HD.out.mono ?_; rintro e w3 ⟨A3, c3, rfl, o3, bel3⟩))
        have HO3 := Lib.hid (RdI.of_own o3); have HC3 := Lib.hid (own_cap o3).1; have HB3 := Lib.hid (HB2.out.trans (bel3.mono HB2.out.size))
        clear o3 bel3
        go_wp2
        go_ret
        exact ⟨A3, c3, by rw [HX.out]; rfl, by rw [HX.out]; exact HO3.out, by rw [HX.out]; exact HC3.out, HB3.out⟩
    · have hz : ((E.length : Int) == 0) = true := beq_iff_eq.2 (by omega)
      have HX : Hid (sub1 qs x = [x]) := Lib.hid (by rw [HS.out, if_neg h0])
      clear HS HD
      go_wp2_with (first | (go_at_call 49; refine (isLeaf_any x _).mono ?_; rintro e w' ⟨rfl, rfl⟩; rw [HL.out]) | (go_at_call 50; refine (atomOf_any x _ HL.out).mono ?_; rintro e w' ⟨rfl, rfl⟩))
      go_ret
      exact ⟨_, _, by rw [HX.out]; rfl, by rw [HX.out]; exact HNEW.out, by rw [HX.out]; exact Nat.le_refl _, HBN.out⟩
end
section
open Go.ChangeAt Go.ChangeShapes Go.RowKit Go.WideShapes

/-- What an append of a list leaves of a row of one's own. -/
theorem row_more {w0 wr w7 : World} {base c L : Nat} {A : Option Addr} {T X : List Int} {v7 : Value} (hL : L = (T ++ X).length) (hbel : Below base w0 wr) (hbase : base ≤ wr.heap.size)
    (own : wr.ownsRow base 2 1 (.slice A T.length c) T.length (T.map (Value.int .i64)))
    (hown7 : w7.ownsRow base 2 1 v7 (T.length + X.length) (T.map (Value.int .i64) ++ X.map (Value.int .i64)))
    (hgrow7 : wr.grownBy w7 (Value.slice A T.length c).ownBlock) :
    ∃ A7 c7, v7 = .slice A7 L c7 ∧ Below base w0 w7 ∧ w7.ownsRow base 2 1 (.slice A7 L c7) L ((T ++ X).map (Value.int .i64)) := by
  obtain ⟨A7, c7, rfl⟩ := own_shape hown7
  have e : (T ++ X).length = T.length + X.length := List.length_append
  rw [hL, e, List.map_append]
  exact ⟨A7, c7, rfl, hbel.grown hgrow7 hbase (fun k hk => (own.lt k hk).1), hown7⟩

set_option maxRecDepth 100000 in
set_option maxHeartbeats 8000000 in
theorem sSubst_any (A : Option Addr) (n c : Nat) (f : List Int) (B : Option Addr) (m d : Nat) (qs : List (List Int)) (w : World) (h : RdI w w.heap.size A n f) (hv : validB f = true) (h' : RdQ w w.heap.size B m qs) (hb : bndB qs = true) :
    Calls Tryz.prog 20 #[.slice A n c, .slice B m d] w (Gives w (sbL qs f)) := by
  obtain ⟨i0, hi0, hz0, hz1, hz2⟩ := info_parts info_i64
  have hl := h.len
  subst hl
  have hm := h'.len
  have hm8 := bnd_len hb
  obtain rfl : m = 8 := by omega
  have hlen := valid_len hv
  have HAT := Lib.hid (fun k (hk : k < f.length) => valid_at hv hk)
  have HI := Lib.hid hi0; have HZ0 := Lib.hid hz0; have HZ1 := Lib.hid hz1; have HZ2 := Lib.hid hz2
  have HBN := Lib.hid hb
  have HSL := Lib.hid (sbL_len hb f)
  have h0 : (w.alloc (.cells #[] 2)).ownsRow w.heap.size 2 1 (.slice (some ⟨w.heap.size, 0, none⟩) 0 0) 0 [] := World.ownsRow_made w #[] 0 (Nat.le_refl _) (by simp [maxLen]) rfl
  have H0 := Lib.hid h0
  have HB0 := Lib.hid ((Below.refl w.heap.size w).alloc (Nat.le_refl _) (.cells #[] 2))
  obtain ⟨bq, oq, hBq, hbbq, hcq⟩ := h'.2 (by omega)
  subst hBq
  have HCQ := Lib.hid hcq
  have H := Lib.hid h
  clear hi0 hz0 hz1 hz2 hb h0 h h' hcq hm hm8
  go_enter Tryz.func20, Tryz.ntmps20
  go_wp2
  go_loopw [5, 6] (fun o i wr => ∃ (k : Nat) (Ar : Option Addr) (cr : Nat), k ≤ f.length ∧ i = .int .i64 k ∧ o = .slice Ar (sbL qs (f.take k)).length cr ∧ wr.ownsRow w.heap.size 2 1 (.slice Ar (sbL qs (f.take k)).length cr) (sbL qs (f.take k)).length ((sbL qs (f.take k)).map (Value.int .i64)) ∧ Below w.heap.size w wr) (fun _ i _ => f.length - (intOf i).toNat)
  case atStart => exact ⟨0, _, _, Nat.zero_le _, rfl, rfl, H0.out, HB0.out⟩
  case round =>
    obtain ⟨k, Ar, cr, hk, rfl, rfl, ho, hb⟩ := hrel
    have hsz := hb.size
    have HO := Lib.hid ho; have HB := Lib.hid hb
    have HTL : Hid ((sbL qs (f.take k)).length ≤ 576) := Lib.hid (by have := sbL_len HBN.out (f.take k); rw [List.length_take] at this; omega)
    clear ho
    by_cases hlt : k < f.length
    · obtain ⟨b, off, rfl, hbb, hcells⟩ := H.out.2 (by omega)
      have hc := (hb.cell (p := ⟨b, off + k, none⟩) hbb).trans (hcells k hlt)
      have hcase := HAT.out k hlt
      have HST := Lib.hid (sbL_take (qs := qs) hlt)
      generalize f.getD k 0 = x at *
      have hneg : IntKind.i64.wrap (-x) = -x := by
        refine IntWalk.i64_in _ ?_
        rcases hcase with h1 | ⟨_, h1⟩
        · unfold leafB at h1; have := of_decide_eq_true h1; omega
        · unfold operB at h1; have := of_decide_eq_true h1; omega
      clear hcells hb
      go_wp2_with (fail)
      go_quiet (fail)
      have bd := below_drewN (Below.refl wr.heap.size wr) nq
      obtain ⟨w2, hw2⟩ : ∃ w2, w2 = wr.drewN nq := ⟨_, rfl⟩
      rw [← hw2] at bd ⊢
      have hs2' : wr.heap.size ≤ w2.heap.size := bd.size
      have hs2 : w.heap.size ≤ w2.heap.size := by omega
      have HO2 := Lib.hid (own_below HO.out bd (Nat.le_refl _))
      have HB2 := Lib.hid (HB.out.trans (bd.mono hsz))
      have hc2 := (bd.cell (p := ⟨b, off + k, none⟩) (by show b < _; omega)).trans hc
      generalize hmx : max x (-x) = mx at *
      have HMX := Lib.hid hmx
      have HTL2 := HTL.out
      clear bd hw2 hmx hc HO HB hsz
      cases hleaf : leafB x with
      | false =>
        have e1 : sub1 qs x = [x] := by unfold sub1; rw [if_neg (by rw [hleaf]; simp)]
        rw [e1] at HST
        obtain ⟨L7, hL7⟩ : ∃ L7, L7 = (sbL qs (f.take k) ++ [x]).length := ⟨_, rfl⟩
        have HL7 := Lib.hid hL7
        clear hL7
        clear e1 hcase
        go_wp2_with (first | (go_at_call 35; refine (isAtom_any x _).mono ?_; rintro e w' ⟨rfl, rfl⟩; rw [hleaf]) | (at_builtin; refine wpList_append_own _ rfl _ _ 36 rfl w.heap.size 2 i0 (.int .i64 0) 1 8 Tryz.underlying36 HI.out HZ0.out HZ1.out HZ2.out rfl (by decide) _ _ _ rfl (HO2.out.alloc _) ⟨w2.heap.size, 0, none⟩ 1 1 [.int .i64 x] rfl rfl (cell_one_new _ _ _) (ints_one [x]) (by unfold maxLen; omega) (by omega) (by simp; omega) ?_; intro v7 w7 hown7 hgrow7 _; obtain ⟨A7, c7, rfl, hb7, ho7⟩ := row_more (X := [x]) HL7.out (HB2.out.alloc hs2 (.cells #[.int .i64 x] 2)) (by simp; omega) (HO2.out.alloc _) hown7 hgrow7; have HB7 := Lib.hid hb7; have HO7 := Lib.hid ho7; clear hown7 hgrow7 hb7 ho7))
        go_wp2
        go_roundw
        case rel => exact ⟨k + 1, A7, c7, by omega, by go_num, by rw [HST.out, HL7.out], by rw [HST.out, ← HL7.out]; exact HO7.out, HB7.out⟩
        case measure => simp [intOf]; omega
      | true =>
        have hlr := leaf_range hleaf
        obtain ⟨j, hj⟩ : ∃ j : Nat, j = x.natAbs - 1 := ⟨_, rfl⟩
        have hidx : IntKind.i64.wrap (mx - 1) = (j : Int) := by
          have e := HMX.out
          rw [IntWalk.i64_in _ (by omega)]
          omega
        have hj8 : j < 8 := by omega
        have hj8' : (j : Int) < 8 := by omega
        obtain ⟨A', c', hcell, hcc, hrd⟩ := HCQ.out j hj8
        have hcl2 := (HB2.out.cell (p := ⟨bq, oq + j, none⟩) hbbq).trans hcell
        have hel : elt qs x = qs.getD j [] := by unfold elt; rw [hj]
        clear hj hlr
        have HS1 : Hid (sub1 qs x = if 0 < (qs.getD j []).length then (if 0 < x then qs.getD j [] else dualL (qs.getD j [])) else [x]) := Lib.hid (by
          unfold sub1
          rw [hel]
          by_cases h0 : 0 < (qs.getD j []).length
          · rw [if_pos ⟨hleaf, h0⟩, if_pos h0]
          · rw [if_neg (fun h => h0 h.2), if_neg h0])
        have hok : elB (qs.getD j []) = true := bnd_at HBN.out j
        have HRD := Lib.hid ((hrd.below HB2.out).more HB2.out.size)
        clear hcell hrd hel hcase
        generalize qs.getD j [] = E at *
        have hE24 := elB_len hok
        by_cases h0 : 0 < E.length
        · have hl0 : ((E.length : Int) == 0) = false := beq_eq_false_iff_ne.2 (by omega)
          have hvE := elB_valid hok h0
          rw [HS1.out, if_pos h0] at HST
          by_cases hx0 : 0 < x
          · have hxd : decide (0 < x) = true := decide_eq_true hx0
            rw [if_pos hx0] at HST
            obtain ⟨L7, hL7⟩ : ∃ L7, L7 = (sbL qs (f.take k) ++ E).length := ⟨_, rfl⟩
            have HL7 := Lib.hid hL7
            clear hL7
            obtain ⟨be, oe, rfl, hbe, hce⟩ := HRD.out.2 h0
            have HN1 := Lib.hid (part_news hce)
            have HL1 : Hid ((E.map (Value.int .i64)).length = E.length * 1) := Lib.hid (by simp)
            have HHO := Lib.hid (ints_one E)
            clear hce HRD
            go_wp2_with (first | (go_at_call 35; refine (isAtom_any x _).mono ?_; rintro e w' ⟨rfl, rfl⟩; rw [hleaf]) | (at_builtin; refine wpList_append_own _ rfl _ _ 36 rfl w.heap.size 2 i0 (.int .i64 0) 1 8 Tryz.underlying36 HI.out HZ0.out HZ1.out HZ2.out rfl (by decide) _ _ _ rfl HO2.out ⟨be, oe, none⟩ E.length c' (E.map (Value.int .i64)) rfl HL1.out HN1.out HHO.out (by unfold maxLen; omega) (by omega) hs2 ?_; intro v7 w7 hown7 hgrow7 _; obtain ⟨A7, c7, rfl, hb7, ho7⟩ := row_more (X := E) HL7.out HB2.out hs2 HO2.out hown7 hgrow7; have HB7 := Lib.hid hb7; have HO7 := Lib.hid ho7; clear hown7 hgrow7 hb7 ho7))
            go_wp2
            go_roundw
            case rel => exact ⟨k + 1, A7, c7, by omega, by go_num, by rw [HST.out, HL7.out], by rw [HST.out, ← HL7.out]; exact HO7.out, HB7.out⟩
            case measure => simp [intOf]; omega
          · have hxd : decide (0 < x) = false := decide_eq_false hx0
            rw [if_neg hx0] at HST
            have hdu : E.map duZ = dualL E := by unfold dualL; rw [if_pos hvE]
            have HD := Lib.hid (sdual_any A' c' E w2 HRD.out hvE)
            rw [hdu] at HD
            have hD24 := dualL_len E
            have hD0 : 0 < (dualL E).length := by rw [← hdu, List.length_map]; exact h0
            clear HRD hdu
            generalize dualL E = D at *
            obtain ⟨L7, hL7⟩ : ∃ L7, L7 = (sbL qs (f.take k) ++ D).length := ⟨_, rfl⟩
            have HL7 := Lib.hid hL7
            clear hL7
            go_wp2_with (fail)
            refine (isAtom_any x _).mono ?_
            rintro e w' ⟨rfl, rfl⟩
            rw [hleaf]
            go_wp2_with (fail)
            refine HD.out.mono ?_
            rintro e w4 ⟨Ad, cd, rfl, ownd, beld⟩
            have hs4 := beld.size
            have HO4 := Lib.hid (own_below HO2.out beld (Nat.le_refl _))
            have HB4 := Lib.hid (HB2.out.trans (beld.mono hs2))
            obtain ⟨be, oe, rfl, hbe, hce⟩ := (RdI.of_own ownd).2 hD0
            have HN1 := Lib.hid (part_news hce)
            have HL1 : Hid ((D.map (Value.int .i64)).length = D.length * 1) := Lib.hid (by simp)
            have HHO := Lib.hid (ints_one D)
            have hs5 : w.heap.size ≤ w4.heap.size := by omega
            clear hce ownd beld
            go_wp2_with (at_builtin; refine wpList_append_own _ rfl _ _ 36 rfl w.heap.size 2 i0 (.int .i64 0) 1 8 Tryz.underlying36 HI.out HZ0.out HZ1.out HZ2.out rfl (by decide) _ _ _ rfl HO4.out ⟨be, oe, none⟩ D.length cd (D.map (Value.int .i64)) rfl HL1.out HN1.out HHO.out (by unfold maxLen; omega) (by omega) hs5 ?_; intro v7 w7 hown7 hgrow7 _; obtain ⟨A7, c7, rfl, hb7, ho7⟩ := row_more (X := D) HL7.out HB4.out hs5 HO4.out hown7 hgrow7; have HB7 := Lib.hid hb7; have HO7 := Lib.hid ho7; clear hown7 hgrow7 hb7 ho7)
            go_wp2
            go_roundw
            case rel => exact ⟨k + 1, A7, c7, by omega, by go_num, by rw [HST.out, HL7.out], by rw [HST.out, ← HL7.out]; exact HO7.out, HB7.out⟩
            case measure => simp [intOf]; omega
        · have hl0 : ((E.length : Int) == 0) = true := beq_iff_eq.2 (by omega)
          rw [HS1.out, if_neg h0] at HST
          obtain ⟨L7, hL7⟩ : ∃ L7, L7 = (sbL qs (f.take k) ++ [x]).length := ⟨_, rfl⟩
          have HL7 := Lib.hid hL7
          clear hL7
          clear HRD
          go_wp2_with (first | (go_at_call 35; refine (isAtom_any x _).mono ?_; rintro e w' ⟨rfl, rfl⟩; rw [hleaf]) | (at_builtin; refine wpList_append_own _ rfl _ _ 36 rfl w.heap.size 2 i0 (.int .i64 0) 1 8 Tryz.underlying36 HI.out HZ0.out HZ1.out HZ2.out rfl (by decide) _ _ _ rfl (HO2.out.alloc _) ⟨w2.heap.size, 0, none⟩ 1 1 [.int .i64 x] rfl rfl (cell_one_new _ _ _) (ints_one [x]) (by unfold maxLen; omega) (by omega) (by simp; omega) ?_; intro v7 w7 hown7 hgrow7 _; obtain ⟨A7, c7, rfl, hb7, ho7⟩ := row_more (X := [x]) HL7.out (HB2.out.alloc hs2 (.cells #[.int .i64 x] 2)) (by simp; omega) (HO2.out.alloc _) hown7 hgrow7; have HB7 := Lib.hid hb7; have HO7 := Lib.hid ho7; clear hown7 hgrow7 hb7 ho7))
          go_wp2
          go_roundw
          case rel => exact ⟨k + 1, A7, c7, by omega, by go_num, by rw [HST.out, HL7.out], by rw [HST.out, ← HL7.out]; exact HO7.out, HB7.out⟩
          case measure => simp [intOf]; omega
    · have hkl : k = f.length := by omega
      subst hkl
      rw [List.take_of_length_le (Nat.le_refl _)] at HO ⊢
      clear hb HTL
      generalize sbL qs f = R at *
      go_wp2
      go_ret
      exact ⟨Ar, cr, rfl, HO.out, HB.out⟩
end
section
open Go.ChangeAt Go.ChangeShapes Go.RowKit Go.WideShapes

theorem sub1_pos' {qs : List (List Int)} (hok : ∀ k, elB (qs.getD k []) = true) (x : Int) : 0 < (sub1 qs x).length ∧ (sub1 qs x).length ≤ 24 := by
  unfold sub1
  split
  · rename_i h
    have he : elB (elt qs x) = true := hok _
    have hv := elB_valid he h.2
    have hl := elB_len he
    split
    · exact ⟨h.2, hl⟩
    · rw [dualL_yes hv, List.length_map]; exact ⟨h.2, hl⟩
  · simp
theorem own_base {w : World} {b b' n size : Nat} {e : TypeId} {v : Value} {xs : List Value} (h : w.ownsRow b e size v n xs) (hb : b' ≤ b) : w.ownsRow b' e size v n xs :=
  ⟨h.1, h.2.imp id fun ⟨g, cap, cur, h1, h2, h3⟩ => ⟨g, cap, cur, h1, Nat.le_trans hb h2, h3⟩⟩
theorem sbL_len' {qs : List (List Int)} (hok : ∀ k, elB (qs.getD k []) = true) (f : List Int) : (sbL qs f).length ≤ 24 * f.length := by
  induction f with
  | nil => simp [sbL]
  | cons x f ih =>
    have e : sbL qs (x :: f) = sub1 qs x ++ sbL qs f := by simp [sbL]
    have := (sub1_pos' hok x).2
    rw [e, List.length_append, List.length_cons, Nat.mul_add]
    omega
set_option maxRecDepth 100000 in
set_option maxHeartbeats 8000000 in
theorem inForm_any (cs : Array Value) (qs : List (List Int)) (A : Option Addr) (n c : Nat) (f : List Int) (w : World) (h : BndV w cs qs) (hok : ∀ k, elB (qs.getD k []) = true) (hr : RdI w w.heap.size A n f) (hn : n ≤ 1000) (ht : Arit w) (hu : Dual w) :
    Calls Tryz.prog 26 #[.agg cs, .slice A n c] w (Gives w (sbL qs f)) := by
  obtain ⟨i0, hi0, hz0, hz1, hz2⟩ := info_parts info_i64
  have hl := hr.len
  subst hl
  obtain ⟨w2, hw2⟩ : ∃ w2, w2 = w.alloc (.cells cs 48) := ⟨_, rfl⟩
  have hb2 := al hw2
  have hg2 := an hw2
  have hs2 : w2.heap.size = w.heap.size + 1 := by rw [hw2]; simp
  have HW2 := Lib.hid hw2; have HB2 := Lib.hid hb2; have HG2 := Lib.hid hg2; have HS2 := Lib.hid hs2; have HV := Lib.hid h; have HOK := Lib.hid hok; have HR := Lib.hid hr
  have HI := Lib.hid hi0; have HZ0 := Lib.hid hz0; have HZ1 := Lib.hid hz1; have HZ2 := Lib.hid hz2
  clear hw2 hb2 hg2 hs2 h hok hr hi0 hz0 hz1 hz2
  go_enter Tryz.func26, Tryz.ntmps26
  go_upto_region 1 with (fail)
  rw [← HW2.out]
  go_wp2
  go_loopw [5, 7, 10] (fun o _ i wr => ∃ (k : Nat) (Ar : Option Addr) (cr : Nat), k ≤ f.length ∧ i = .int .i64 k ∧ o = .slice Ar (sbL qs (f.take k)).length cr ∧ wr.ownsRow w2.heap.size 2 1 (.slice Ar (sbL qs (f.take k)).length cr) (sbL qs (f.take k)).length ((sbL qs (f.take k)).map (Value.int .i64)) ∧ Below w2.heap.size w2 wr) (fun _ _ i _ => f.length - (intOf i).toNat)
  case atStart => exact ⟨0, none, 0, Nat.zero_le _, rfl, rfl, World.ownsRow_nil _ _ _ _, Below.refl _ _⟩
  case round =>
    obtain ⟨k, Ar, cr, hk, rfl, rfl, ho, hb⟩ := hrel
    have HO := Lib.hid ho; have HB := Lib.hid hb
    have HBW := Lib.hid (HB2.out.trans (hb.mono HB2.out.size))
    have hs1 := hb.size
    have HTL : Hid ((sbL qs (f.take k)).length ≤ 24000) := Lib.hid (by have := sbL_len' HOK.out (f.take k); rw [List.length_take] at this; omega)
    clear ho
    by_cases hlt : k < f.length
    · obtain ⟨b, off, rfl, hbb, hcells⟩ := HR.out.2 (by omega)
      have hc := (HBW.out.cell (p := ⟨b, off + k, none⟩) hbb).trans (hcells k hlt)
      have HST := Lib.hid (sbL_take (qs := qs) hlt)
      have hkd : decide ((k : Int) < (f.length : Int)) = true := decide_eq_true (by omega)
      generalize f.getD k 0 = x at *
      have HG2r : Hid (wr.heap[w.heap.size]? = _) := Lib.hid ((hb.block w.heap.size (by have := HS2.out; omega)).trans HG2.out)
      have HV1 := Lib.hid (HV.out.below HBW.out)
      have HF := Lib.hid (forSymbol_any cs qs x wr HV1.out HOK.out (ht.below HBW.out ht.lt) (hu.below HBW.out hu.lt))
      obtain ⟨hp0, hp24⟩ := sub1_pos' HOK.out x
      generalize sub1 qs x = X at *
      obtain ⟨L7, hL7⟩ : ∃ L7, L7 = (sbL qs (f.take k) ++ X).length := ⟨_, rfl⟩
      have HL7 := Lib.hid hL7
      have HTL' := HTL.out
      clear hcells hb hL7
      go_wp2_with (refine wpList_load_row rfl _ _ rfl w.heap.size rfl _ _ _ _ HG2r.out Tryz.underlying48 rfl (by rw [HV1.out.size]; exact size_bnd) ?_)
      refine HF.out.mono ?_
      rintro e w3 ⟨A3, c3, rfl, rd3, cc3, bel3⟩
      obtain ⟨be, oe, rfl, hbe, hce⟩ := rd3.2 hp0
      have HO3 := Lib.hid (own_below HO.out bel3 (Nat.le_refl _))
      have HB3 := Lib.hid (HB.out.trans (bel3.mono hs1))
      have hs3 : w2.heap.size ≤ w3.heap.size := HB3.out.size
      have HN1 := Lib.hid (part_news hce)
      have HL1 : Hid ((X.map (Value.int .i64)).length = X.length * 1) := Lib.hid (by simp)
      have HHO := Lib.hid (ints_one X)
      clear hce rd3 HF bel3 HO HB hc
      go_wp2_with (at_builtin; refine wpList_append_own _ rfl _ _ 36 rfl w2.heap.size 2 i0 (.int .i64 0) 1 8 Tryz.underlying36 HI.out HZ0.out HZ1.out HZ2.out rfl (by decide) _ _ _ rfl HO3.out ⟨be, oe, none⟩ X.length c3 (X.map (Value.int .i64)) rfl HL1.out HN1.out HHO.out (by unfold maxLen; omega) (by omega) hs3 ?_; intro v7 w7 hown7 hgrow7 _; obtain ⟨A7, c7, rfl, hb7, ho7⟩ := row_more (X := X) HL7.out HB3.out hs3 HO3.out hown7 hgrow7; have HB7 := Lib.hid hb7; have HO7 := Lib.hid ho7; clear hown7 hgrow7 hb7 ho7)
      go_roundw
      case rel => exact ⟨k + 1, A7, c7, by omega, by go_num, by rw [HST.out, HL7.out], by rw [HST.out, ← HL7.out]; exact HO7.out, HB7.out⟩
      case measure => simp [intOf]; omega
    · have hkl : k = f.length := by omega
      subst hkl
      have e : f.take f.length = f := List.take_of_length_le (Nat.le_refl _)
      rw [e] at HO
      have HE := Lib.hid e
      clear hb e HTL
      go_wp2
      go_ret
      exact ⟨Ar, cr, by rw [HE.out]; rfl, own_base HO.out HB2.out.size, HBW.out⟩
end
end Go.Proofs.YthbkcpacgnmcfaaGreatDoor
