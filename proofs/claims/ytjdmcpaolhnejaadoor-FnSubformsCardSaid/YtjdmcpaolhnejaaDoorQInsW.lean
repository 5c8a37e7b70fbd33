/- The model's insertForm, walked. OperandOf: of the program and of the model. DepthOf: of the program and of the model. SubformsOf of the model. SubformsOf of the program, given what slices.CompactFunc does. -/
import Derived.Test.YtjdmcpaolhnejaaDoorQInsF
import Derived.Test.YtjdmcpaolhnejaaDoorQBytes
import Derived.Test.YtjdmcpaolhnejaaDoorQValid
namespace Go.Proofs.YtjdmcpaolhnejaaDoor
set_option linter.unusedSimpArgs false
set_option linter.unusedVariables false
section
open Go.ChangeShapes Go.WideShapes Go.ChangeAt Go.RowKit

/-- How far the new row has come. -/
def insV (hs : Nat → Option Addr × Nat) (qs : List (List Int)) (x : Value) (i : Nat) (d : Option Nat) : List Value :=
  match d with
  | none => (rowV hs qs).take i
  | some p => (rowV hs qs).take p ++ x :: ((rowV hs qs).drop p).take (i - p)
theorem insV_push {hs : Nat → Option Addr × Nat} {qs : List (List Int)} {x : Value} {i : Nat} (hi : i < qs.length) : insV hs qs x i none ++ [hv hs qs i] = insV hs qs x (i + 1) none := by
  unfold insV
  have h : i < (rowV hs qs).length := by rw [rowV_len]; exact hi
  have e : (rowV hs qs)[i] = hv hs qs i := by have := rowV_at (hs := hs) hi; rw [List.getElem?_eq_getElem h] at this; exact Option.some.inj this
  show (rowV hs qs).take i ++ [hv hs qs i] = (rowV hs qs).take (i + 1)
  rw [List.take_succ_eq_append_getElem h, e]
theorem insV_new {hs : Nat → Option Addr × Nat} {qs : List (List Int)} {x : Value} {i : Nat} : insV hs qs x i none ++ [x] = insV hs qs x i (some i) := by
  simp [insV]
theorem insV_more {hs : Nat → Option Addr × Nat} {qs : List (List Int)} {x : Value} {i p : Nat} (hi : i < qs.length) (hp : p ≤ i) : insV hs qs x i (some p) ++ [hv hs qs i] = insV hs qs x (i + 1) (some p) := by
  have h : i - p < ((rowV hs qs).drop p).length := by rw [List.length_drop, rowV_len]; omega
  have e : ((rowV hs qs).drop p)[i - p] = hv hs qs i := by
    have h2 : (rowV hs qs)[i]? = some (hv hs qs i) := rowV_at hi
    have h3 : ((rowV hs qs).drop p)[i - p]? = some (hv hs qs i) := by rw [List.getElem?_drop, show p + (i - p) = i by omega]; exact h2
    rw [List.getElem?_eq_getElem h] at h3; exact Option.some.inj h3
  have e2 : i + 1 - p = (i - p) + 1 := by omega
  show ((rowV hs qs).take p ++ x :: ((rowV hs qs).drop p).take (i - p)) ++ [hv hs qs i] = (rowV hs qs).take p ++ x :: ((rowV hs qs).drop p).take (i + 1 - p)
  rw [e2, List.take_succ_eq_append_getElem h, e]
  simp
theorem insV_end {hs : Nat → Option Addr × Nat} {qs : List (List Int)} {x : Value} {p : Nat} (_hp : p ≤ qs.length) : insV hs qs x qs.length (some p) = (rowV hs qs).take p ++ x :: (rowV hs qs).drop p := by
  have e : ((rowV hs qs).drop p).take (qs.length - p) = (rowV hs qs).drop p := List.take_of_length_le (by rw [List.length_drop, rowV_len]; omega)
  show (rowV hs qs).take p ++ x :: ((rowV hs qs).drop p).take (qs.length - p) = _
  rw [e]

/-- The place of the new part, and what is known of it. -/
def InsAt (qs : List (List Int)) (q : List Int) (i : Nat) (d : Option Nat) : Prop :=
  match d with
  | none => ∀ j, j < i → q ≠ qs.getD j [] ∧ ¬ cmpL q (qs.getD j []) < 0
  | some p => p < qs.length ∧ p ≤ i ∧ (∀ j, j < p → q ≠ qs.getD j [] ∧ ¬ cmpL q (qs.getD j []) < 0) ∧ q ≠ qs.getD p [] ∧ cmpL q (qs.getD p []) < 0
theorem InsAt.ne {qs : List (List Int)} {q : List Int} {i p : Nat} (h : InsAt qs q i (some p)) (hs : SoS qs) (hi : i < qs.length) : q ≠ qs.getD i [] := by
  obtain ⟨_, h2, _, h4, h5⟩ := h
  by_cases e : p = i
  · subst e; exact h4
  · intro e'
    have h6 := sos_get hs (show p < i by omega) hi
    have h7 := cmpL_trans h5 h6
    rw [← e'] at h7
    have : cmpL q q = 0 := cmpL_zero.2 rfl
    omega
theorem ret_len {A : Option Addr} {n m c : Nat} (h : n = m) : Ending.returned (.slice A n c) = .returned (.slice A m c) := by rw [h]
/-- What insertForm leaves. -/
def InsGives (w : World) (lo : Nat) (R : List (List Int)) (e : Ending) (w' : World) : Prop :=
  ∃ hs A c, e = .returned (.slice A R.length c) ∧ OwnQ w' lo w'.heap.size (.slice A R.length c) hs R ∧ Below w.heap.size w w'

set_option maxRecDepth 100000 in
set_option maxHeartbeats 8000000 in
theorem insertForm_any (A Af : Option Addr) (n c cf lo hi : Nat) (hs : Nat → Option Addr × Nat) (qs : List (List Int)) (q : List Int) (w : World) (h : OwnQ w lo hi (.slice A n c) hs qs) (hn : qs.length = n) (hlo : lo ≤ w.heap.size) (hhi : hi ≤ w.heap.size)
    (hq : w.ownsRow lo 2 1 (.slice Af q.length cf) q.length (q.map (Value.int .i64))) (hge : ∀ b, (Value.slice Af q.length cf).ownBlock = some b → hi ≤ b) (hsos : SoS qs) (hn1 : n ≤ 1000) (hl1 : ∀ x ∈ qs, x.length ≤ 1000) (hl2 : q.length ≤ 1000) :
    Calls Tryd.prog 27 #[.slice A n c, .slice Af q.length cf] w (InsGives w lo (insL q qs)) := by
  obtain ⟨i0, hi0, hz0, hz1, hz2⟩ := info_parts_s
  subst hn
  have hrd := h.rd rfl
  have hrq := RdI.of_own hq
  have H0 := Lib.hid (World.ownsRow_made (e := 22) (base := w.heap.size) (size := 1) w #[] 0 (Nat.le_refl _) (by simp [maxLen]) rfl)
  have HB0 := Lib.hid ((Below.refl w.heap.size w).alloc (Nat.le_refl _) (.cells #[] 22))
  have HI := Lib.hid hi0; have HZ0 := Lib.hid hz0; have HZ1 := Lib.hid hz1; have HZ2 := Lib.hid hz2
  have HH := Lib.hid h; have HQ := Lib.hid hq; have HGE := Lib.hid hge; have HRD := Lib.hid hrd; have HRQ := Lib.hid hrq; have HL1 := Lib.hid hl1
  have HSO := Lib.hid hsos
  clear hi0 hz0 hz1 hz2 h hq hge hrd hrq hl1 hsos
  go_enter Tryd.func27, Tryd.ntmps27
  go_wp2
  generalize w.alloc (.cells #[] 22) = w1 at *
  go_loopw [5, 6, 7] (fun o d i wr => ∃ (k m : Nat) (dd : Option Nat) (A2 : Option Addr) (c2 : Nat), k ≤ qs.length ∧ i = .int .i64 k ∧ d = .bool dd.isSome ∧ o = .slice A2 m c2 ∧ m ≤ 1 + 2 * k ∧
      wr.ownsRow w.heap.size 22 1 (.slice A2 m c2) m (insV hs qs (.slice Af q.length cf) k dd) ∧ InsAt qs q k dd ∧ Below w.heap.size w wr) (fun _ _ i _ => qs.length - (intOf i).toNat)
  case atStart => exact ⟨0, 0, none, _, _, Nat.zero_le _, rfl, rfl, rfl, by omega, H0.out, fun j hj => absurd hj (by omega), HB0.out⟩
  case round =>
    obtain ⟨k, m, dd, A2, c2, hk, rfl, rfl, rfl, hmk, hown, hat, hb⟩ := hrel
    have HO := Lib.hid hown; have HB := Lib.hid hb; have HAT := Lib.hid hat
    by_cases hlt : k < qs.length
    · obtain ⟨g, cap, hgf, _, hgl⟩ := HH.out.outer.form (by omega)
      have hA : A = some ⟨g, 0, none⟩ ∧ c = cap := by injection hgf with x y z; exact ⟨x, z⟩
      obtain ⟨rfl, rfl⟩ := hA
      have hcell := (hb.cell (p := ⟨g, k, none⟩) hgl).trans (HH.out.at rfl hlt).2
      have hlk := HL1.out _ (getD_mem hlt)
      have hrk := RdI.of_own (HH.out.inner k hlt)
      have HK : Hid (hv hs qs k = .slice (hs k).1 (qs.getD k []).length (hs k).2) := Lib.hid rfl
      rw [HK.out] at hcell
      have HSM := Lib.hid (sameInts_d (hs k).1 Af _ _ (hs k).2 cf (qs.getD k []) q wr w.heap.size w.heap.size (hrk.below hb) (HRQ.out.below hb) (by omega) (by omega))
      have HFB := Lib.hid (fun (wx : World) (hbx : Below w.heap.size w wx) => sformBefore_any Af (hs k).1 cf (hs k).2 q (qs.getD k []) wx ((HRQ.out.below hbx).more hbx.size) ((hrk.below hbx).more hbx.size) (by omega) (by omega))
      clear hown hb hat hgf hrk
      by_cases heq : qs.getD k [] = q
      · have HSM' : Hid (Calls Tryd.prog 54 #[.slice (hs k).1 (qs.getD k []).length (hs k).2, .slice Af q.length cf] wr fun e w' => e = .returned (.bool true) ∧ ∃ m, w' = wr.drewN m) := Lib.hid (by have h := HSM.out; unfold SameD at h; rw [decide_eq_true heq] at h; exact h)
        have HE : Hid (qs = insL q qs) := Lib.hid (by
          cases dd with
          | none => exact (ins_same hlt HAT.out heq.symm).symm
          | some p => exact absurd heq.symm (HAT.out.ne HSO.out hlt))
        have HR : Hid (OwnQ wr lo wr.heap.size (.slice (some ⟨g, 0, none⟩) qs.length c) hs qs) := Lib.hid ((HH.out.below HB.out).more (Nat.le_refl _) (by have := HB.out.size; omega))
        clear HSM HFB heq
        generalize (qs.getD k []).length = l at *
        go_wp2_with (fail)
        refine HSM'.out.mono ?_
        rintro e wr2 ⟨rfl, hdr⟩
        have HR2 : Hid (OwnQ wr2 lo wr2.heap.size (.slice (some ⟨g, 0, none⟩) qs.length c) hs qs) := Lib.hid (by obtain ⟨m, rfl⟩ := hdr; exact HR.out.same (fun _ _ _ _ => rfl))
        have HB2 := Lib.hid (HB.out.trans (drewN_below hdr _))
        clear hdr HR
        go_wp2
        go_ret
        exact ⟨hs, some ⟨g, 0, none⟩, c, ret_len (congrArg List.length HE.out), by rw [← HE.out]; exact HR2.out, HB2.out⟩
      · have HSM' : Hid (Calls Tryd.prog 54 #[.slice (hs k).1 (qs.getD k []).length (hs k).2, .slice Af q.length cf] wr fun e w' => e = .returned (.bool false) ∧ ∃ m, w' = wr.drewN m) := Lib.hid (by have h := HSM.out; unfold SameD at h; rw [decide_eq_false heq] at h; exact h)
        have HNE : Hid (q ≠ qs.getD k []) := Lib.hid (fun e => heq e.symm)
        clear HSM heq
        cases dd with
        | some p =>
          have HPS := Lib.hid (insV_more (hs := hs) (x := .slice Af q.length cf) hlt HAT.out.2.1)
          rw [HK.out] at HPS
          have HAT' : Hid (InsAt qs q (k + 1) (some p)) := Lib.hid (by obtain ⟨h1, h2, h3, h4, h5⟩ := HAT.out; exact ⟨h1, by omega, h3, h4, h5⟩)
          clear HFB
          generalize (qs.getD k []).length = l at *
          go_wp2_with (fail)
          refine HSM'.out.mono ?_
          rintro e wr2 ⟨rfl, hdr⟩
          have HB2 := Lib.hid (HB.out.trans (drewN_below hdr _))
          have HO2 : Hid (wr2.ownsRow w.heap.size 22 1 (.slice A2 m c2) m (insV hs qs (.slice Af q.length cf) k (some p))) := Lib.hid (by obtain ⟨m, rfl⟩ := hdr; exact HO.out)
          have hcell2 := drewN_cell hdr hcell
          clear hdr hcell HO
          obtain ⟨o4, n4, l4⟩ := app_in HO2.out (by have := HB2.out.size; omega) (.slice (hs k).1 l (hs k).2)
          have O4 := Lib.hid o4; have N4 := Lib.hid n4; have L4 := Lib.hid l4
          have tokA : True := trivial
          clear o4 n4 l4
          go_wp2_with (at_builtin; have _t := tokA; refine wpList_append_lies _ rfl _ _ _ rfl w.heap.size 22 i0 (.slice none 0 0) 1 24 Tryd.underlying23 HI.out HZ0.out HZ1.out HZ2.out rfl (by decide) _ _ _ rfl O4.out ⟨wr2.heap.size, 0, none⟩ 1 1 [.slice (hs k).1 l (hs k).2] rfl rfl N4.out (by simp [Value.oneCell']) (by decide) (by simp only [maxLen]; omega) (by omega) L4.out _ rfl ?_; intro g4 cap4 w4 hown4 hgrow4 hat4 hlt4; clear tokA)
          have B4 := Lib.hid (app_out HO2.out HB2.out (by have := HB2.out.size; omega) hgrow4)
          rw [HPS.out] at hown4
          have HO4 := Lib.hid hown4
          clear hown4 hgrow4 hat4
          go_roundw
          case rel => exact ⟨k + 1, m + 1, some p, _, _, by omega, by go_num, rfl, rfl, by omega, HO4.out, HAT'.out, B4.out⟩
          case measure => simp [intOf]; omega
        | none =>
          by_cases hlt2 : cmpL q (qs.getD k []) < 0
          · have hd : decide (cmpL q (qs.getD k []) < 0) = true := decide_eq_true hlt2
            have HP1 := Lib.hid (insV_new (hs := hs) (qs := qs) (x := .slice Af q.length cf) (i := k))
            have HP2 := Lib.hid (insV_more (hs := hs) (x := .slice Af q.length cf) hlt (Nat.le_refl k))
            rw [HK.out] at HP2
            have HAT' : Hid (InsAt qs q (k + 1) (some k)) := Lib.hid ⟨hlt, by omega, HAT.out, HNE.out, hlt2⟩
            rw [hd] at HFB
            clear hd hlt2
            generalize (qs.getD k []).length = l at *
            go_wp2_with (fail)
            refine HSM'.out.mono ?_
            rintro e wr2 ⟨rfl, hdr⟩
            have HB2 := Lib.hid (HB.out.trans (drewN_below hdr _))
            have HO2 : Hid (wr2.ownsRow w.heap.size 22 1 (.slice A2 m c2) m (insV hs qs (.slice Af q.length cf) k none)) := Lib.hid (by obtain ⟨m, rfl⟩ := hdr; exact HO.out)
            have hcell2 := drewN_cell hdr hcell
            have HF := Lib.hid (HFB.out wr2 HB2.out)
            clear hdr hcell HO HFB
            go_wp2_with (fail)
            refine HF.out.mono ?_
            rintro e wr3 ⟨rfl, bel3⟩
            have HB3 := Lib.hid (HB2.out.trans (bel3.mono HB2.out.size))
            have HO3 := Lib.hid (own_same HO2.out (fun q e => bel3.block q (HO2.out.lt q e).2))
            have hcell3 := (bel3.cell (p := ⟨g, k, none⟩) (by show g < _; have := HB2.out.size; omega)).trans hcell2
            clear bel3 hcell2 HF HO2
            obtain ⟨o4, n4, l4⟩ := app_in HO3.out (by have := HB3.out.size; omega) (.slice Af q.length cf)
            have O4 := Lib.hid o4; have N4 := Lib.hid n4; have L4 := Lib.hid l4
            have tokA : True := trivial
            clear o4 n4 l4
            go_wp2_with (first
              | (at_builtin; have _t := tokA; refine wpList_append_lies _ rfl _ _ _ rfl w.heap.size 22 i0 (.slice none 0 0) 1 24 Tryd.underlying23 HI.out HZ0.out HZ1.out HZ2.out rfl (by decide) _ _ _ rfl O4.out ⟨wr3.heap.size, 0, none⟩ 1 1 [.slice Af q.length cf] rfl rfl N4.out (by simp [Value.oneCell']) (by decide) (by simp only [maxLen]; omega) (by omega) L4.out _ rfl ?_; intro g4 cap4 w4 hown4 hgrow4 hat4 hlt4; have B4 := Lib.hid (app_out HO3.out HB3.out (by have := HB3.out.size; omega) hgrow4); have e1 := ((box_below wr3 (.slice Af q.length cf) 22).cell (p := ⟨g, k, none⟩) (by show g < _; have := HB3.out.size; omega)).trans hcell3; have hcell4 := hgrow4.cell e1 (by intro e; have := (O4.out.lt g e.symm).1; omega); rw [HP1.out] at hown4; have HO4 := Lib.hid hown4; obtain ⟨o5, n5, l5⟩ := app_in HO4.out (by have := B4.out.size; omega) (.slice (hs k).1 l (hs k).2); have O5 := Lib.hid o5; have N5 := Lib.hid n5; have L5 := Lib.hid l5; clear tokA o5 n5 l5 e1 hown4 hgrow4 hat4 hcell3)
              | (at_builtin; refine wpList_append_lies _ rfl _ _ _ rfl w.heap.size 22 i0 (.slice none 0 0) 1 24 Tryd.underlying23 HI.out HZ0.out HZ1.out HZ2.out rfl (by decide) _ _ _ rfl O5.out ⟨w4.heap.size, 0, none⟩ 1 1 [.slice (hs k).1 l (hs k).2] rfl rfl N5.out (by simp [Value.oneCell']) (by decide) (by simp only [maxLen]; omega) (by omega) L5.out _ rfl ?_; intro g5 cap5 w5 hown5 hgrow5 hat5 hlt5))
            have s4 := B4.out.size
            have B5 := Lib.hid (app_out HO4.out B4.out s4 hgrow5)
            rw [HP2.out] at hown5
            have HO5 := Lib.hid hown5
            clear hown5 hgrow5 hat5
            go_roundw
            case rel => exact ⟨k + 1, m + 1 + 1, some k, _, _, by omega, by go_num, rfl, rfl, by omega, HO5.out, HAT'.out, B5.out⟩
            case measure => simp [intOf]; omega
          · have hd : decide (cmpL q (qs.getD k []) < 0) = false := decide_eq_false hlt2
            have HP2 := Lib.hid (insV_push (hs := hs) (x := .slice Af q.length cf) hlt)
            rw [HK.out] at HP2
            have HAT' : Hid (InsAt qs q (k + 1) none) := Lib.hid (fun j hj => by
              by_cases e : j = k
              · subst e; exact ⟨HNE.out, hlt2⟩
              · exact HAT.out j (by omega))
            rw [hd] at HFB
            clear hd hlt2
            generalize (qs.getD k []).length = l at *
            go_wp2_with (fail)
            refine HSM'.out.mono ?_
            rintro e wr2 ⟨rfl, hdr⟩
            have HB2 := Lib.hid (HB.out.trans (drewN_below hdr _))
            have HO2 : Hid (wr2.ownsRow w.heap.size 22 1 (.slice A2 m c2) m (insV hs qs (.slice Af q.length cf) k none)) := Lib.hid (by obtain ⟨m, rfl⟩ := hdr; exact HO.out)
            have hcell2 := drewN_cell hdr hcell
            have HF := Lib.hid (HFB.out wr2 HB2.out)
            clear hdr hcell HO HFB
            go_wp2_with (fail)
            refine HF.out.mono ?_
            rintro e wr3 ⟨rfl, bel3⟩
            have HB3 := Lib.hid (HB2.out.trans (bel3.mono HB2.out.size))
            have HO3 := Lib.hid (own_same HO2.out (fun q e => bel3.block q (HO2.out.lt q e).2))
            have hcell3 := (bel3.cell (p := ⟨g, k, none⟩) (by show g < _; have := HB2.out.size; omega)).trans hcell2
            clear bel3 hcell2 HF HO2
            obtain ⟨o4, n4, l4⟩ := app_in HO3.out (by have := HB3.out.size; omega) (.slice (hs k).1 l (hs k).2)
            have O4 := Lib.hid o4; have N4 := Lib.hid n4; have L4 := Lib.hid l4
            have tokA : True := trivial
            clear o4 n4 l4
            go_wp2_with (at_builtin; have _t := tokA; refine wpList_append_lies _ rfl _ _ _ rfl w.heap.size 22 i0 (.slice none 0 0) 1 24 Tryd.underlying23 HI.out HZ0.out HZ1.out HZ2.out rfl (by decide) _ _ _ rfl O4.out ⟨wr3.heap.size, 0, none⟩ 1 1 [.slice (hs k).1 l (hs k).2] rfl rfl N4.out (by simp [Value.oneCell']) (by decide) (by simp only [maxLen]; omega) (by omega) L4.out _ rfl ?_; intro g4 cap4 w4 hown4 hgrow4 hat4 hlt4; clear tokA)
            have B4 := Lib.hid (app_out HO3.out HB3.out (by have := HB3.out.size; omega) hgrow4)
            rw [HP2.out] at hown4
            have HO4 := Lib.hid hown4
            clear hown4 hgrow4 hat4
            go_roundw
            case rel => exact ⟨k + 1, m + 1, none, _, _, by omega, by go_num, rfl, rfl, by omega, HO4.out, HAT'.out, B4.out⟩
            case measure => simp [intOf]; omega
    · have hkl : k = qs.length := by omega
      subst hkl
      clear hown hb hat
      cases dd with
      | some p =>
        have hp := HAT.out.1
        have HE := Lib.hid (ins_at (f := q) (qs := qs) (p := p) (by omega) HAT.out.2.2.1 (.inr HAT.out.2.2.2))
        have e1 := insAt_len (show p ≤ qs.length by omega) q
        have hm : m = qs.length + 1 := by
          have := HO.out.1
          rw [insV_end (by omega), List.length_append, List.length_take, List.length_cons, List.length_drop, rowV_len] at this
          omega
        subst hm
        have HR := Lib.hid (HH.out.insert (p := p) (by omega) hlo HQ.out (fun b e => HGE.out b e) HB.out (by have := HO.out; rw [insV_end (by omega)] at this; exact this))
        have HL := Lib.hid e1
        clear e1
        go_wp2
        go_ret
        exact ⟨_, A2, c2, ret_len (by rw [HE.out, HL.out]), by rw [HE.out, HL.out]; exact HR.out, HB.out⟩
      | none =>
        have HE := Lib.hid (ins_at (f := q) (qs := qs) (p := qs.length) (Nat.le_refl _) HAT.out (.inl rfl))
        have HL := Lib.hid (insAt_len (Nat.le_refl qs.length) q)
        have hm : m = qs.length := by
          have := HO.out.1
          unfold insV at this
          rw [List.length_take, rowV_len] at this
          omega
        subst hm
        obtain ⟨o4, n4, l4⟩ := app_in HO.out (by have := HB.out.size; omega) (.slice Af q.length cf)
        have O4 := Lib.hid o4; have N4 := Lib.hid n4; have L4 := Lib.hid l4
        have tokA : True := trivial
        clear o4 n4 l4
        go_wp2_with (at_builtin; have _t := tokA; refine wpList_append_lies _ rfl _ _ _ rfl w.heap.size 22 i0 (.slice none 0 0) 1 24 Tryd.underlying23 HI.out HZ0.out HZ1.out HZ2.out rfl (by decide) _ _ _ rfl O4.out ⟨wr.heap.size, 0, none⟩ 1 1 [.slice Af q.length cf] rfl rfl N4.out (by simp [Value.oneCell']) (by decide) (by simp only [maxLen]; omega) (by omega) L4.out _ rfl ?_; intro g4 cap4 w4 hown4 hgrow4 hat4 hlt4; clear tokA)
        have B4 := Lib.hid (app_out HO.out HB.out (by have := HB.out.size; omega) hgrow4)
        have HR := Lib.hid (HH.out.insert (p := qs.length) (Nat.le_refl _) hlo HQ.out (fun b e => HGE.out b e) B4.out (by
          have e2 := hown4
          unfold insV at e2
          rw [List.drop_of_length_le (by rw [rowV_len]; exact Nat.le_refl _)]
          exact e2))
        clear hown4 hgrow4 hat4
        go_ret
        exact ⟨_, some ⟨g4, 0, none⟩, cap4, ret_len (by rw [HE.out, HL.out]), by rw [HE.out, HL.out]; exact HR.out, B4.out⟩
end
section
open Go.RowKit

/-- m + 1 formulas, one behind the other: the first m end where the last begins. -/
theorem scan_split : ∀ (xs : List Int) (m a : Int), 1 ≤ m → scan xs (m + 1) a ≠ -1 → ∃ q : Nat, q ≤ xs.length ∧ 1 ≤ q ∧ scan xs m a = a + q ∧ scan xs (m + 1) a = scan (xs.drop q) 1 (a + q)
  | [], _, _, _, h => absurd rfl h
  | x :: xs, m, a, hm, h => by
    by_cases hb : arZ x = -1
    · exact absurd (scan_bad _ _ _ hb) h
    · have hx : 0 ≤ arZ x := by have := arZ_lo x; omega
      rw [scan_on _ _ _ hx (by omega)] at h
      by_cases hr : m + arZ x = 1
      · refine ⟨1, by simp, Nat.le_refl _, by rw [scan_end _ _ _ hx hr]; rfl, ?_⟩
        rw [scan_on _ _ _ hx (by omega), show m + 1 + arZ x - 1 = 1 by omega]
        rfl
      · rw [show m + 1 + arZ x - 1 = (m + arZ x - 1) + 1 by omega] at h
        obtain ⟨q, h1, h2, h3, h4⟩ := scan_split xs (m + arZ x - 1) (a + 1) (by omega) h
        refine ⟨q + 1, by simp; omega, by omega, ?_, ?_⟩
        · rw [scan_on _ _ _ hx hr, h3]; omega
        · rw [scan_on _ _ _ hx (by omega), show m + 1 + arZ x - 1 = (m + arZ x - 1) + 1 by omega, h4, show a + 1 + (q : Int) = a + ((q + 1 : Nat) : Int) by omega]
          rfl

/-- The operands of a valid formula. -/
theorem operands {f : List Int} (h : validB f = true) (ha : 1 ≤ arZ (f.getD 0 0)) : ∃ q : Nat, fe f 1 = q ∧ 1 < q ∧ q ≤ f.length ∧ (arZ (f.getD 0 0) = 1 → q = f.length) ∧ (arZ (f.getD 0 0) = 2 → q < f.length ∧ fe f q = f.length) := by
  obtain ⟨h1, h2, h3⟩ := valid_len h
  have e0 := fe_any f 0
  rw [show ((0 : Nat) : Int) = 0 from rfl, h3, show f.drop 0 = f.getD 0 0 :: f.drop 1 from drop_cons (by omega)] at e0
  rw [scan_on _ _ _ (by omega) (by omega)] at e0
  have e1 : fe f 1 = scan (f.drop 1) 1 1 := fe_any f 1
  by_cases h' : arZ (f.getD 0 0) = 1
  · rw [h'] at e0
    have e2 : fe f 1 = f.length := by rw [e1]; exact e0.symm
    refine ⟨f.length, e2, ?_, Nat.le_refl _, fun _ => rfl, fun h => by omega⟩
    have := fe_bd f 1
    omega
  · have h'' : arZ (f.getD 0 0) = 2 := by have := arZ_cases (f.getD 0 0); omega
    rw [h''] at e0
    have hne : scan (f.drop 1) (1 + 1) 1 ≠ -1 := by
      have e : scan (f.drop 1) (1 + 1) 1 = f.length := e0.symm
      rw [e]; omega
    obtain ⟨q, q1, q2, q3, q4⟩ := scan_split (f.drop 1) 1 1 (by omega) hne
    rw [List.length_drop] at q1
    have e3 : fe f ((1 + q : Nat) : Int) = f.length := by
      rw [fe_any f (1 + q), ← List.drop_drop]
      have e : scan (f.drop 1) (1 + 1) 1 = f.length := e0.symm
      rw [← e, q4]
      rfl
    refine ⟨1 + q, by rw [e1, q3]; rfl, by omega, by omega, fun h => by omega, fun _ => ⟨?_, e3⟩⟩
    have := fe_bd f ((1 + q : Nat) : Int)
    omega

/-- Has the formula an operand with this index? -/
def opndB (f : List Int) (k : Int) : Bool := decide (validB f = true ∧ 0 ≤ k ∧ k < arZ (f.getD 0 0))
/-- Where the operand with an index begins, and where it ends. -/
def opS (f : List Int) (k : Int) : Nat := if k = 0 then 1 else (fe f 1).toNat
def opE (f : List Int) (k : Int) : Nat := (fe f (opS f k)).toNat
/-- OperandOf. -/
def opndL (f : List Int) (k : Int) : List Int := if opndB f k then (f.drop (opS f k)).take (opE f k - opS f k) else []
theorem opndB_no {f : List Int} {k : Int} (h : ¬ (validB f = true ∧ 0 ≤ k ∧ k < arZ (f.getD 0 0))) : opndB f k = false := decide_eq_false h
theorem opndB_yes {f : List Int} {k : Int} (h : validB f = true ∧ 0 ≤ k ∧ k < arZ (f.getD 0 0)) : opndB f k = true := decide_eq_true h
theorem opndL_yes {f : List Int} {k : Int} (h : opndB f k = true) : opndL f k = (f.drop (opS f k)).take (opE f k - opS f k) := by simp [opndL, h]
theorem opndL_no {f : List Int} {k : Int} (h : opndB f k = false) : opndL f k = [] := by simp [opndL, h]
theorem opndL_len (f : List Int) (k : Int) : (opndL f k).length ≤ 24 := by
  cases h : opndB f k with
  | false => rw [opndL_no h]; simp
  | true =>
    rw [opndL_yes h]
    have := (valid_len (of_decide_eq_true h).1).2.1
    simp; omega
/-- What both need of an operand: it lies within the list. -/
theorem opnd_in {f : List Int} {k : Int} (h : opndB f k = true) : fe f (opS f k) = opE f k ∧ opS f k < opE f k ∧ opE f k ≤ f.length ∧ 1 ≤ opS f k ∧ (k = 0 ∧ opS f k = 1 ∨ k = 1 ∧ fe f 1 = opS f k) := by
  obtain ⟨hv, h0, hk⟩ := of_decide_eq_true h
  obtain ⟨q, q1, q2, q3, q4, q5⟩ := operands hv (by omega)
  have ha := arZ_hi (f.getD 0 0)
  by_cases hk0 : k = 0
  · subst hk0
    have e1 : opS f 0 = 1 := rfl
    have e2 : opE f 0 = q := by unfold opE; rw [e1]; show (fe f 1).toNat = q; rw [q1]; rfl
    rw [e1, e2]
    exact ⟨q1, q2, q3, Nat.le_refl _, .inl ⟨rfl, rfl⟩⟩
  · have hk1 : k = 1 := by omega
    subst hk1
    have e1 : opS f 1 = q := by unfold opS; rw [if_neg (by decide), q1]; rfl
    obtain ⟨q6, q7⟩ := q5 (by omega)
    have e2 : opE f 1 = f.length := by unfold opE; rw [e1, q7]; rfl
    rw [e1, e2]
    exact ⟨q7, q6, Nat.le_refl _, by omega, .inr ⟨rfl, q1⟩⟩

/-- A cut of a list that lies in memory is a part. -/
theorem part_cut {w : World} {B b off lo hi c : Nat} {f : List Int} (hB : b < B) (hc : ∀ j, j < f.length → w.cell? ⟨b, off + j, none⟩ = some (.int .i64 (f.getD j 0))) (h1 : lo < hi) (h2 : hi ≤ f.length) : Part w B (.slice (some ⟨b, off + lo, none⟩) (hi - lo) c) ((f.drop lo).take (hi - lo)) := by
  have hl : ((f.drop lo).take (hi - lo)).length = hi - lo := by simp; omega
  refine ⟨b, off + lo, c, by rw [hl], hB, by omega, fun j hj => ?_⟩
  rw [hl] at hj
  rw [Nat.add_assoc, hc (lo + j) (by omega)]
  simp [List.getD, hj]
end
section
open Go.ChangeShapes Go.WideShapes Go.ChangeAt Go.RowKit

theorem scan_less : ∀ (xs : List Int) (m n a : Int), 1 ≤ m → m ≤ n → 0 ≤ a → scan xs n a ≠ -1 → scan xs m a ≠ -1
  | [], _, _, _, _, _, _, h => absurd rfl h
  | x :: xs, m, n, a, h1, h2, h3, h => by
    rcases arZ_cases x with hx | hx
    · rw [scan_bad _ _ _ hx] at h; exact absurd rfl h
    · have hx0 : 0 ≤ arZ x := by omega
      by_cases hm : m + arZ x = 1
      · rw [scan_end _ _ _ hx0 hm]; omega
      · rw [scan_on _ _ _ hx0 hm]
        rw [scan_on _ _ _ hx0 (by omega)] at h
        exact scan_less xs _ _ _ (by omega) (by omega) (by omega) h
theorem scan_tail {f : List Int} (h : scan f 1 0 = f.length) : ∀ k : Nat, k < f.length → ∃ n : Int, 1 ≤ n ∧ scan (f.drop k) n k = f.length
  | 0, _ => ⟨1, by omega, by simpa using h⟩
  | k + 1, hk => by
    obtain ⟨n, hn, hs⟩ := scan_tail h k (by omega)
    rw [drop_cons (by omega)] at hs
    generalize f.getD k 0 = x at hs
    rcases arZ_cases x with hx | hx
    · rw [scan_bad _ _ _ hx] at hs; omega
    · have hx0 : 0 ≤ arZ x := by omega
      by_cases hm : n + arZ x = 1
      · rw [scan_end _ _ _ hx0 hm] at hs; omega
      · rw [scan_on _ _ _ hx0 hm] at hs
        exact ⟨n + arZ x - 1, by omega, by push_cast; exact hs⟩
/-- A formula begins at every symbol of a formula. -/
theorem fe_some {f : List Int} (hv : validB f = true) {k : Nat} (hk : k < f.length) : (k : Int) + 1 ≤ fe f k ∧ fe f k ≤ f.length := by
  have h0 := (valid_len hv).2.2
  have h0' : scan f 1 0 = f.length := by
    have := fe_nat (f := f) (a := 0) (by omega)
    rw [List.drop_zero] at this
    have e : ((0 : Nat) : Int) = 0 := rfl
    rw [e] at this
    rw [← this]; exact h0
  obtain ⟨n, hn, hs⟩ := scan_tail h0' k hk
  have h1 := scan_less (f.drop k) 1 n k (by omega) hn (by omega) (by omega)
  rw [← fe_nat hk] at h1
  rcases fe_bd f k with h | h
  · exact absurd h h1
  · exact ⟨h.2.1, h.2.2⟩
/-- The formula that begins at symbol k. -/
def partAt (f : List Int) (k : Nat) : List Int := (f.drop k).take ((fe f k).toNat - k)
theorem partAt_len {f : List Int} (hv : validB f = true) {k : Nat} (hk : k < f.length) : 0 < (partAt f k).length ∧ (partAt f k).length ≤ 24 := by
  have h1 := fe_some hv hk
  have h2 := valid_len hv
  unfold partAt
  rw [List.length_take, List.length_drop]
  omega
/-- All of them, in the order of their places. -/
def parts (f : List Int) : List (List Int) := (List.range f.length).map (partAt f)
/-- The first k of them, put in one by one. -/
def insK (f : List Int) (k : Nat) : List (List Int) := ((List.range k).map (partAt f)).foldl (fun l q => insL q l) []
theorem insK_step (f : List Int) (k : Nat) : insK f (k + 1) = insL (partAt f k) (insK f k) := by
  unfold insK
  rw [List.range_succ, List.map_append, List.foldl_append]
  rfl
theorem insK_sos (f : List Int) : ∀ k, SoS (insK f k)
  | 0 => by simp [insK, SoS]
  | k + 1 => by rw [insK_step]; exact insL_sos _ _ (insK_sos f k)
theorem insL_len (q : List Int) : ∀ xs : List (List Int), (insL q xs).length ≤ xs.length + 1
  | [] => by simp [insL]
  | x :: xs => by
    have ih := insL_len q xs
    unfold insL
    by_cases e : q = x
    · rw [if_pos e]; simp
    · rw [if_neg e]
      by_cases h : cmpL q x < 0
      · rw [if_pos h]; simp
      · rw [if_neg h]; simp; exact ih
theorem insK_len (f : List Int) : ∀ k, (insK f k).length ≤ k
  | 0 => by simp [insK]
  | k + 1 => by rw [insK_step]; have := insL_len (partAt f k) (insK f k); have := insK_len f k; omega
theorem insK_mem {f : List Int} (hv : validB f = true) : ∀ k, k ≤ f.length → ∀ x ∈ insK f k, 0 < x.length ∧ x.length ≤ 24
  | 0, _ => by simp [insK]
  | k + 1, hk => by
    rw [insK_step]
    intro x hx
    rcases (insL_mem _ _ _).1 hx with rfl | hx
    · exact partAt_len hv (by omega)
    · exact insK_mem hv k (by omega) x hx
/-- The subformulas. -/
def subL (f : List Int) : List (List Int) := if validB f = true then insK f f.length else []
theorem subL_no {f : List Int} (h : validB f = false) : subL f = [] := by unfold subL; rw [h]; rfl
theorem subL_yes {f : List Int} (h : validB f = true) : subL f = insK f f.length := by unfold subL; rw [if_pos h]
theorem subL_small (f : List Int) : (subL f).length ≤ 1048576 ∧ total (subL f) ≤ 1048576 := by
  cases hv : validB f with
  | false => rw [subL_no hv]; simp [total]
  | true =>
    rw [subL_yes hv]
    have h1 := insK_len f f.length
    have h2 := (valid_len hv).2.1
    have h3 := total_small (qs := insK f f.length) fun x hx => (insK_mem hv f.length (Nat.le_refl _) x hx).2
    omega

set_option maxRecDepth 100000 in
set_option maxHeartbeats 4000000 in
theorem sSubformsOf_any (A : Option Addr) (n c : Nat) (f : List Int) (w : World) (h : RdI w w.heap.size A n f) (hn : n ≤ 1048576) (hnc : n ≤ c) :
    Calls Tryd.prog 6 #[.slice A n c] w (GivesSS w (subL f)) := by
  have hl := h.len
  subst hl
  have hw0 := OwnQ.made w (fun _ => (none, 0))
  have hb0 : Below w.heap.size w (w.alloc (.cells #[] 22)) := (Below.refl _ _).alloc (Nat.le_refl _) _
  have H0 := Lib.hid hw0; have HB0 := Lib.hid hb0
  have HH := Lib.hid h
  clear hw0 hb0 h
  go_enter Tryd.func6, Tryd.ntmps6
  go_wp2
  generalize w.alloc (.cells #[] 22) = w1 at *
  go_loopw [3, 4] (fun o i wr => ∃ (k : Nat) (hs : Nat → Option Addr × Nat) (A2 : Option Addr) (c2 : Nat), k ≤ f.length ∧ i = .int .i64 k ∧ o = .slice A2 (insK f k).length c2 ∧ (validB f = false → k = 0) ∧
      OwnQ wr w.heap.size wr.heap.size (.slice A2 (insK f k).length c2) hs (insK f k) ∧ Below w.heap.size w wr) (fun _ i _ => f.length - (intOf i).toNat)
  case atStart => exact ⟨0, _, _, _, Nat.zero_le _, rfl, rfl, fun _ => rfl, H0.out, HB0.out⟩
  case round =>
    obtain ⟨k, hs, A2, c2, hk, rfl, rfl, hk0, hown, hb⟩ := hrel
    have HO := Lib.hid hown; have HB := Lib.hid hb
    have hrd := (HH.out.below hb).more hb.size
    have hV := sValidForm_any A f.length c f wr hrd
    clear hown hb
    by_cases hlt : k < f.length
    · cases hv : validB f with
      | false =>
        rw [hv] at hV
        have HV := Lib.hid hV
        obtain rfl := hk0 hv
        have HE := Lib.hid (subL_no hv)
        clear hV hrd hk0
        go_wp2_with (fail)
        refine HV.out.mono ?_
        rintro e w' ⟨rfl, rfl⟩
        go_wp2
        go_ret
        exact ⟨hs, A2, c2, ret_len (by rw [HE.out]; rfl), by rw [HE.out]; exact HO.out, HB.out⟩
      | true =>
        rw [hv] at hV
        have HV := Lib.hid hV
        have h1 := fe_some hv hlt
        have h24 := (valid_len hv).2.1
        have hFE := sformEnd_any A f.length c f k wr hrd hn
        have hpl := partAt_len hv hlt
        have HST := Lib.hid (insK_step f k)
        have HSO := Lib.hid (insK_sos f k)
        have HKL := Lib.hid (insK_len f k)
        have HKM := Lib.hid (insK_mem hv k (by omega))
        obtain ⟨b, off, rfl, hbb, hcells⟩ := hrd.2 (by omega)
        obtain ⟨E, hE⟩ : ∃ E : Nat, fe f k = E := ⟨(fe f k).toNat, by omega⟩
        rw [hE] at hFE h1
        have hPd : partAt f k = (f.drop k).take (E - k) := by unfold partAt; rw [hE, Int.toNat_natCast]
        have hP := part_cut (c := c - k) (lo := k) (hi := E) hbb hcells (by omega) (by omega)
        rw [← hPd] at hP
        have hPl : (partAt f k).length = E - k := by rw [hPd, List.length_take, List.length_drop]; omega
        have HC := Lib.hid (copyInts_any _ (partAt f k) wr hP (by omega))
        have HFE := Lib.hid hFE
        have hcS : ¬ c = k := by omega
        have hSE : k ≤ E := by omega
        have hEc : E ≤ c := by omega

        generalize partAt f k = q at *
        clear hV hFE hP hPd hPl hcells hrd hk0 hE hv
        go_wp2_with (fail)
        refine HV.out.mono ?_
        rintro e w' ⟨rfl, rfl⟩
        go_wp2_with (fail)
        refine HFE.out.mono ?_
        rintro e w' ⟨rfl, rfl⟩
        go_wp2_with (fail)
        refine HC.out.mono ?_
        rintro e w6 ⟨A6, c6, rfl, own6, bel6⟩
        have hlo : w.heap.size ≤ wr.heap.size := HB.out.size
        have HIN := Lib.hid (insertForm_any A2 A6 (insK f k).length c2 c6 w.heap.size wr.heap.size hs (insK f k) q w6 (HO.out.below bel6) rfl (by have := bel6.size; omega) bel6.size (own6.mono hlo) (fun b e => (own6.lt b e).1) HSO.out (by have := HKL.out; omega) (fun x hx => by have := HKM.out x hx; omega) (by omega))
        rw [← HST.out] at HIN
        have HB6 := Lib.hid (HB.out.trans (bel6.mono hlo))
        clear own6 bel6
        go_wp2_with (fail)
        refine HIN.out.mono ?_
        rintro e w7 ⟨hs7, A7, c7, rfl, own7, bel7⟩
        have HO7 := Lib.hid own7
        have HB7 := Lib.hid (HB6.out.trans (bel7.mono HB6.out.size))
        clear own7 bel7
        go_wp2
        go_roundw
        case rel => exact ⟨k + 1, hs7, A7, c7, by omega, by go_num, rfl, fun h => Bool.noConfusion h, HO7.out, HB7.out⟩
        case measure => simp [intOf]; omega
    · have hkl : k = f.length := by omega
      subst hkl
      have HE : Hid (insK f f.length = subL f) := Lib.hid (by
        cases hv : validB f with
        | true => rw [subL_yes hv]
        | false =>
          have := hk0 hv
          rw [subL_no hv, this]; rfl)
      clear hV hrd hk0
      go_wp2
      go_ret
      exact ⟨hs, A2, c2, ret_len (by rw [HE.out]), by rw [← HE.out]; exact HO.out, HB.out⟩
end
section
open Go.ChangeShapes Go.WideShapes Go.ChangeAt Go.RowKit

/-- What slices.CompactFunc is to do at a row of parts in memory of one's own. -/
def CompactOk : Prop := ∀ (w : World) (lo hi n c g : Nat) (hs : Nat → Option Addr × Nat) (qs : List (List Int)), OwnQ w lo hi (.slice (some ⟨g, 0, none⟩) n c) hs qs → qs.length = n → n ≤ 1000 → n ≤ c → (∀ q ∈ qs, q.length ≤ 1000) →
  Calls Tryd.prog 34 #[.slice (some ⟨g, 0, none⟩) n c, .func (.func 35) #[] #[]] w fun e w' => ∃ hs', e = .returned (.slice (some ⟨g, 0, none⟩) (cmpctL qs).length c) ∧
    OwnQ w' lo hi (.slice (some ⟨g, 0, none⟩) (cmpctL qs).length c) hs' (cmpctL qs) ∧ Below lo w w'
theorem parts_len (f : List Int) : (parts f).length = f.length := by simp [parts]
theorem parts_at {f : List Int} {k : Nat} (h : k < f.length) : (parts f).getD k [] = partAt f k := by simp [parts, List.getD, h]
theorem parts_mem {f : List Int} (hv : validB f = true) : ∀ q ∈ parts f, q.length ≤ 24 := by
  intro q hq
  obtain ⟨k, hk, rfl⟩ := List.mem_map.1 hq
  exact (partAt_len hv (List.mem_range.1 hk)).2
theorem selQ_all (qs : List (List Int)) : selQ qs (List.range qs.length) = qs := by
  apply List.ext_getElem?
  intro j
  by_cases hj : j < qs.length
  · simp [selQ, List.getD, hj]
  · simp [selQ, hj]
theorem selQ_perm {qs : List (List Int)} {sel : List Nat} (h : sel.Perm (List.range qs.length)) : (selQ qs sel).Perm qs := by
  have := h.map (fun i => qs.getD i [])
  rw [show (List.range qs.length).map (fun i => qs.getD i []) = qs from selQ_all qs] at this
  exact this
theorem selQ_mem {qs : List (List Int)} {sel : List Nat} (h : sel.Perm (List.range qs.length)) {q : List Int} (hq : q ∈ selQ qs sel) : q ∈ qs := (selQ_perm h).mem_iff.1 hq
theorem sub_sorted {f : List Int} (hv : validB f = true) {sel : List Nat} (h : sel.Perm (List.range (parts f).length)) (hs : SoL (selQ (parts f) sel)) : cmpctL (selQ (parts f) sel) = subL f := by
  rw [subL_yes hv, sub_same (selQ_perm h) hs]; rfl

theorem subforms_no (A : Option Addr) (c : Nat) (f : List Int) (w : World) (h : RdI w w.heap.size A f.length f) (ht : Arit w) (hnc : f.length ≤ c) (hv : validB f = false) :
    Calls Tryd.prog 8 #[.slice A f.length c] w (GivesSS w (subL f)) := by
  have HV : Hid _ := Lib.hid (hv ▸ validForm_impl A f.length c f w h ht hnc)
  have HE := Lib.hid (subL_no hv)
  clear h ht
  go_enter Tryd.func8, Tryd.ntmps8
  go_wp2_with (go_at_call 30; refine HV.out.mono ?_; rintro e w' ⟨rfl, rfl⟩)
  go_ret
  rw [HE.out]
  exact ⟨fun _ => (none, 0), none, 0, rfl, OwnQ.nil _ _ _ _, Below.refl _ _⟩

set_option maxHeartbeats 4000000 in
theorem formsWithin_any (A : Option Addr) (c : Nat) (f : List Int) (w : World) (h : RdI w w.heap.size A f.length f) (ht : Arit w) (hnc : f.length ≤ c) (hv : validB f = true) :
    Calls Tryd.prog 31 #[.slice A f.length c] w fun e w' => ∃ g hs, e = .returned (.slice (some ⟨g, 0, none⟩) f.length f.length) ∧ OwnQ w' w.heap.size w'.heap.size (.slice (some ⟨g, 0, none⟩) f.length f.length) hs (parts f) ∧ Below w.heap.size w w' := by
  obtain ⟨i0, hi0, hz0, hz1, hz2⟩ := info_parts_s
  have h24 : f.length ≤ 24 := (valid_len hv).2.1
  have HR := Lib.hid h; have HTA := Lib.hid ht; have HVB := Lib.hid hv
  have HPL := Lib.hid (parts_len f)
  clear h ht hv
  go_enter Tryd.func31, Tryd.ntmps31
  have b2 : i0.bytes * f.length ≤ 281474976710656 := by rw [hz2]; omega
  have b3 : f.length ≤ maxLen := by unfold maxLen; omega
  go_wp2_with (at_make; refine wpList_make_full _ rfl _ _ _ rfl _ 22 i0 (.slice none 0 0) 1 Tryd.underlying23 hi0 hz0 hz1 _ _ _ _ f.length rfl rfl rfl rfl b2 b3 (Nat.le_refl _) ?_; intro w1 hown hg)
  have hbel : Below w.heap.size w w1 := (Below.refl _ _).grown hg (Nat.le_refl _) (by intro k hk; cases hk)
  have hown0 : w1.ownsRow w.heap.size 22 1 (.slice (some ⟨w.heap.size, 0, none⟩) f.length f.length) f.length (List.replicate f.length (.slice none 0 0)) := by
    rw [← toList_madeCells_one]; simpa [Value.cells] using hown
  have hlt1 : w.heap.size < w1.heap.size := (hown0.lt _ rfl).2
  have hown1 : OwnQ w1 w.heap.size w1.heap.size (.slice (some ⟨w.heap.size, 0, none⟩) f.length f.length) (fun _ => (none, 0)) (cpq (parts f) 0) := by
    rw [← cpq_zero, HPL.out]; exact OwnQ.fresh hown0 _ (fun _ => rfl) _ hlt1
  have HO1 := Lib.hid hown1; have HB1 := Lib.hid hbel
  clear hg hown hown0 hlt1 b2 b3 hi0 hz0 hz1 hz2 hown1 hbel
  obtain ⟨g, hgd⟩ : ∃ g, w.heap.size = g := ⟨_, rfl⟩
  have HGD := Lib.hid hgd
  simp only [hgd]
  clear hgd
  go_loopw [10] (fun i wr => ∃ k : Nat, k ≤ f.length ∧ i = .int .i64 k ∧ ∃ hs, OwnQ wr w.heap.size wr.heap.size (.slice (some ⟨g, 0, none⟩) f.length f.length) hs (cpq (parts f) k) ∧ Below w.heap.size w wr)
    (fun i _ => f.length - (intOf i).toNat)
  case atStart => exact ⟨0, Nat.zero_le _, rfl, _, by have := HO1.out; rw [HGD.out] at this ⊢; exact this, HB1.out⟩
  case round =>
    obtain ⟨k, hk, rfl, hs, hown, hb⟩ := hrel
    by_cases hlt : k < f.length
    · have hrd := (HR.out.below hb).more hb.size
      have hta := HTA.out.below hb HTA.out.lt
      have h1 := fe_some HVB.out hlt
      have hFE := formEnd_impl A f.length c f k wr hrd hta hnc
      have hpl := partAt_len HVB.out hlt
      obtain ⟨b, off, rfl, hbb, hcells⟩ := hrd.2 (by omega)
      obtain ⟨E, hE⟩ : ∃ E : Nat, fe f k = E := ⟨(fe f k).toNat, by omega⟩
      rw [feI_small h24, hE] at hFE
      rw [hE] at h1
      have hPd : partAt f k = (f.drop k).take (E - k) := by unfold partAt; rw [hE, Int.toNat_natCast]
      have hP := part_cut (c := c - k) (lo := k) (hi := E) hbb hcells (by omega) (by omega)
      rw [← hPd] at hP
      have hCL := clone_any _ (partAt f k) wr hP (by omega)
      have HFE := Lib.hid hFE; have HCL := Lib.hid hCL
      have hcS : ¬ c = k := by omega
      have hSE : k ≤ E := by omega
      have hEc : E ≤ c := by omega
      have hl2 := (cpq_len (qs := parts f) (k := k) (by rw [HPL.out]; omega)).trans HPL.out
      have hst := cpq_step (qs := parts f) (k := k) (by rw [HPL.out]; exact hlt)
      rw [parts_at hlt] at hst
      have HSTEP := Lib.hid hst
      have hgg : g < wr.heap.size := hown.top0 _ rfl
      have HO := Lib.hid hown; have HB := Lib.hid hb; have HL2 := Lib.hid hl2
      generalize partAt f k = q at *
      clear hst hown hb hl2 hrd hta hFE hCL hP hPd hE hcells hpl
      go_wp2_with (fail)
      refine HFE.out.mono ?_
      rintro e w' ⟨rfl, rfl⟩
      go_wp2_with (fail)
      refine HCL.out.mono ?_
      rintro e w3 ⟨A3, c3, rfl, own3, bel3⟩
      obtain ⟨hF, hFb⟩ := HO.out.fill HL2.out hlt rfl HB.out own3 bel3
      rw [HSTEP.out] at hF
      have hO2 := HO.out.below bel3
      obtain ⟨hf, ho⟩ := hO2.at HL2.out hlt
      obtain ⟨o, hoo⟩ : ∃ o, hv hs (cpq (parts f) k) k = o := ⟨_, rfl⟩
      rw [hoo] at ho
      have HF := Lib.hid hF; have HFB := Lib.hid hFb
      clear hF hFb hoo hO2 own3 bel3
      go_wp2
      go_roundw
      case rel => exact ⟨k + 1, by omega, by go_num, _, HF.out, HFB.out⟩
      case measure => simp [intOf]; omega
    · have hkl : k = f.length := by omega
      subst hkl
      rw [← HPL.out, cpq_all, HPL.out] at hown
      have HOW := Lib.hid hown; have HB := Lib.hid hb
      clear hown hb
      go_wp2
      go_ret
      exact ⟨g, hs, rfl, HOW.out, HB.out⟩

set_option maxHeartbeats 4000000 in
theorem subforms_yes (hC : CompactOk) (A : Option Addr) (c : Nat) (f : List Int) (w : World) (h : RdI w w.heap.size A f.length f) (ht : Arit w) (hnc : f.length ≤ c) (hv : validB f = true) :
    Calls Tryd.prog 8 #[.slice A f.length c] w (GivesSS w (subL f)) := by
  have HV : Hid _ := Lib.hid (hv ▸ validForm_impl A f.length c f w h ht hnc)
  have HFW := Lib.hid (formsWithin_any A c f w h ht hnc hv)
  have h24 : f.length ≤ 24 := (valid_len hv).2.1
  have HC := Lib.hid hC; have HVB := Lib.hid hv
  have HPL := Lib.hid (parts_len f)
  clear h ht hC hv
  go_enter Tryd.func8, Tryd.ntmps8
  go_wp2_with (fail)
  refine HV.out.mono ?_
  rintro e w' ⟨rfl, rfl⟩
  go_wp2_with (fail)
  refine HFW.out.mono ?_
  rintro e wr ⟨g, hs, rfl, hown, hb⟩
  have HS := Lib.hid (sortQ_any hown HPL.out (by omega) (fun q hq => by have := parts_mem HVB.out q hq; omega))
  have HB := Lib.hid hb
  clear hown hb
  go_wp2_with (fail)
  refine HS.out.mono ?_
  rintro e w2 ⟨rfl, sel, hp, hso, own2, bel2⟩
  rw [← HPL.out] at hp
  have hE := sub_sorted HVB.out hp hso
  have hsl : (selQ (parts f) sel).length = f.length := by rw [(selQ_perm hp).length_eq]; exact HPL.out
  have hcc := HC.out w2 _ _ _ _ _ _ _ own2 hsl (by omega) (Nat.le_refl _) (fun q hq => by have := parts_mem HVB.out q (selQ_mem hp hq); omega)
  rw [hE] at hcc
  have hz2 := bel2.size
  have HCC := Lib.hid hcc; have HB2 := Lib.hid (HB.out.trans bel2)
  clear own2 bel2 hcc hE hp hso hsl
  go_wp2_with (fail)
  refine HCC.out.mono ?_
  rintro e w4 ⟨hs4, rfl, own4, bel4⟩
  have hz4 := bel4.size
  have HO4 := Lib.hid own4; have HB4 := Lib.hid (HB2.out.trans bel4)
  clear own4 bel4
  go_wp2
  go_ret
  exact ⟨hs4, some ⟨g, 0, none⟩, f.length, rfl, HO4.out.more (Nat.le_refl _) (by omega), HB4.out⟩
end
end Go.Proofs.YtjdmcpaolhnejaaDoor
