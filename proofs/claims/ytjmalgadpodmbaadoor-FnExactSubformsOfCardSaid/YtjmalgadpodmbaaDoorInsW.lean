/- The model's insertForm, walked. -/
import Derived.Test.YtjmalgadpodmbaaDoorInsF
import Derived.Test.YtjmalgadpodmbaaDoorEqD
namespace Go.Proofs.YtjmalgadpodmbaaDoor
open Go.ChangeShapes Go.WideShapes Go.ChangeAt Go.RowKit

/-- How far the new row has come. -/
def insV (hs : Nat → Option Addr × Nat) (qs : List (List Int)) (x : Value) (i : Nat) (d : Option Nat) : List Value :=
  match d with
  | none => (rowV hs qs).take i
  | some p => (rowV hs qs).take p ++ x :: ((rowV hs qs).drop p).take (i - p)
theorem insV_push {hs : Nat → Option Addr × Nat} {qs : List (List Int)} {x : Value} {i : Nat} (hi : i < qs.length) : insV hs qs x i none ++ [hv hs qs i] = insV hs qs x (i + 1) none := by
  unfold insV
  have h : i < (rowV hs qs).length := by rw [rowV_len]; exact hi
  have e : (rowV hs qs)[i] = hv hs qs i := by have := rowV_at (hs := hs) hi; rw [List.getElem?_eq_getElem h] at this; exact Option.some.inj this
  show (rowV hs qs).take i ++ [hv hs qs i] = (rowV hs qs).take (i + 1)
  rw [List.take_succ_eq_append_getElem h, e]
theorem insV_new {hs : Nat → Option Addr × Nat} {qs : List (List Int)} {x : Value} {i : Nat} : insV hs qs x i none ++ [x] = insV hs qs x i (some i) := by
  simp [insV]
theorem insV_more {hs : Nat → Option Addr × Nat} {qs : List (List Int)} {x : Value} {i p : Nat} (hi : i < qs.length) (hp : p ≤ i) : insV hs qs x i (some p) ++ [hv hs qs i] = insV hs qs x (i + 1) (some p) := by
  have h : i - p < ((rowV hs qs).drop p).length := by rw [List.length_drop, rowV_len]; omega
  have e : ((rowV hs qs).drop p)[i - p] = hv hs qs i := by
    have h2 : (rowV hs qs)[i]? = some (hv hs qs i) := rowV_at hi
    have h3 : ((rowV hs qs).drop p)[i - p]? = some (hv hs qs i) := by rw [List.getElem?_drop, show p + (i - p) = i by omega]; exact h2
    rw [List.getElem?_eq_getElem h] at h3; exact Option.some.inj h3
  have e2 : i + 1 - p = (i - p) + 1 := by omega
  show ((rowV hs qs).take p ++ x :: ((rowV hs qs).drop p).take (i - p)) ++ [hv hs qs i] = (rowV hs qs).take p ++ x :: ((rowV hs qs).drop p).take (i + 1 - p)
  rw [e2, List.take_succ_eq_append_getElem h, e]
  simp
theorem insV_end {hs : Nat → Option Addr × Nat} {qs : List (List Int)} {x : Value} {p : Nat} (_hp : p ≤ qs.length) : insV hs qs x qs.length (some p) = (rowV hs qs).take p ++ x :: (rowV hs qs).drop p := by
  have e : ((rowV hs qs).drop p).take (qs.length - p) = (rowV hs qs).drop p := List.take_of_length_le (by rw [List.length_drop, rowV_len]; omega)
  show (rowV hs qs).take p ++ x :: ((rowV hs qs).drop p).take (qs.length - p) = _
  rw [e]

/-- The place of the new part, and what is known of it. -/
def InsAt (qs : List (List Int)) (q : List Int) (i : Nat) (d : Option Nat) : Prop :=
  match d with
  | none => ∀ j, j < i → q ≠ qs.getD j [] ∧ ¬ cmpL q (qs.getD j []) < 0
  | some p => p < qs.length ∧ p ≤ i ∧ (∀ j, j < p → q ≠ qs.getD j [] ∧ ¬ cmpL q (qs.getD j []) < 0) ∧ q ≠ qs.getD p [] ∧ cmpL q (qs.getD p []) < 0
theorem InsAt.ne {qs : List (List Int)} {q : List Int} {i p : Nat} (h : InsAt qs q i (some p)) (hs : SoS qs) (hi : i < qs.length) : q ≠ qs.getD i [] := by
  obtain ⟨_, h2, _, h4, h5⟩ := h
  by_cases e : p = i
  · subst e; exact h4
  · intro e'
    have h6 := sos_get hs (show p < i by omega) hi
    have h7 := cmpL_trans h5 h6
    rw [← e'] at h7
    have : cmpL q q = 0 := cmpL_zero.2 rfl
    omega
theorem ret_len {A : Option Addr} {n m c : Nat} (h : n = m) : Ending.returned (.slice A n c) = .returned (.slice A m c) := by rw [h]
/-- What insertForm leaves. -/
def InsGives (w : World) (lo : Nat) (R : List (List Int)) (e : Ending) (w' : World) : Prop :=
  ∃ hs A c, e = .returned (.slice A R.length c) ∧ OwnQ w' lo w'.heap.size (.slice A R.length c) hs R ∧ Below w.heap.size w w'

set_option maxRecDepth 100000 in
set_option maxHeartbeats 8000000 in
theorem insertForm_any (A Af : Option Addr) (n c cf lo hi : Nat) (hs : Nat → Option Addr × Nat) (qs : List (List Int)) (q : List Int) (w : World) (h : OwnQ w lo hi (.slice A n c) hs qs) (hn : qs.length = n) (hlo : lo ≤ w.heap.size) (hhi : hi ≤ w.heap.size)
    (hq : w.ownsRow lo 2 1 (.slice Af q.length cf) q.length (q.map (Value.int .i64))) (hge : ∀ b, (Value.slice Af q.length cf).ownBlock = some b → hi ≤ b) (hsos : SoS qs) (hn1 : n ≤ 1000) (hl1 : ∀ x ∈ qs, x.length ≤ 1000) (hl2 : q.length ≤ 1000) :
    Calls Tryd.prog 83 #[.slice A n c, .slice Af q.length cf] w (InsGives w lo (insL q qs)) := by
  obtain ⟨i0, hi0, hz0, hz1, hz2⟩ := info_parts_s
  subst hn
  have hrd := h.rd rfl
  have hrq := RdI.of_own hq
  have H0 := Lib.hid (World.ownsRow_made (e := 44) (base := w.heap.size) (size := 1) w #[] 0 (Nat.le_refl _) (by simp [maxLen]) rfl)
  have HB0 := Lib.hid ((Below.refl w.heap.size w).alloc (Nat.le_refl _) (.cells #[] 44))
  have HI := Lib.hid hi0; have HZ0 := Lib.hid hz0; have HZ1 := Lib.hid hz1; have HZ2 := Lib.hid hz2
  have HH := Lib.hid h; have HQ := Lib.hid hq; have HGE := Lib.hid hge; have HRD := Lib.hid hrd; have HRQ := Lib.hid hrq; have HL1 := Lib.hid hl1
  have HSO := Lib.hid hsos
  clear hi0 hz0 hz1 hz2 h hq hge hrd hrq hl1 hsos
  go_enter Tryd.func83, Tryd.ntmps83
  go_wp2
  generalize w.alloc (.cells #[] 44) = w1 at *
  go_loopw [5, 6, 7] (fun o d i wr => ∃ (k m : Nat) (dd : Option Nat) (A2 : Option Addr) (c2 : Nat), k ≤ qs.length ∧ i = .int .i64 k ∧ d = .bool dd.isSome ∧ o = .slice A2 m c2 ∧ m ≤ 1 + 2 * k ∧
      wr.ownsRow w.heap.size 44 1 (.slice A2 m c2) m (insV hs qs (.slice Af q.length cf) k dd) ∧ InsAt qs q k dd ∧ Below w.heap.size w wr) (fun _ _ i _ => qs.length - (intOf i).toNat)
  case atStart => exact ⟨0, 0, none, _, _, Nat.zero_le _, rfl, rfl, rfl, by omega, H0.out, fun j hj => absurd hj (by omega), HB0.out⟩
  case round =>
    obtain ⟨k, m, dd, A2, c2, hk, rfl, rfl, rfl, hmk, hown, hat, hb⟩ := hrel
    have HO := Lib.hid hown; have HB := Lib.hid hb; have HAT := Lib.hid hat
    by_cases hlt : k < qs.length
    · obtain ⟨g, cap, hgf, _, hgl⟩ := HH.out.outer.form (by omega)
      have hA : A = some ⟨g, 0, none⟩ ∧ c = cap := by injection hgf with x y z; exact ⟨x, z⟩
      obtain ⟨rfl, rfl⟩ := hA
      have hcell := (hb.cell (p := ⟨g, k, none⟩) hgl).trans (HH.out.at rfl hlt).2
      have hlk := HL1.out _ (getD_mem hlt)
      have hrk := RdI.of_own (HH.out.inner k hlt)
      have HK : Hid (hv hs qs k = .slice (hs k).1 (qs.getD k []).length (hs k).2) := Lib.hid rfl
      rw [HK.out] at hcell
      have HSM := Lib.hid (sameInts_d (hs k).1 Af _ _ (hs k).2 cf (qs.getD k []) q wr w.heap.size w.heap.size (hrk.below hb) (HRQ.out.below hb) (by omega) (by omega))
      have HFB := Lib.hid (fun (wx : World) (hbx : Below w.heap.size w wx) => sformBefore_any Af (hs k).1 cf (hs k).2 q (qs.getD k []) wx ((HRQ.out.below hbx).more hbx.size) ((hrk.below hbx).more hbx.size) (by omega) (by omega))
      clear hown hb hat hgf hrk
      by_cases heq : qs.getD k [] = q
      · have HSM' : Hid (Calls Tryd.prog 103 #[.slice (hs k).1 (qs.getD k []).length (hs k).2, .slice Af q.length cf] wr fun e w' => e = .returned (.bool true) ∧ ∃ m, w' = wr.drewN m) := Lib.hid (by have h := HSM.out; unfold SameD at h; rw [decide_eq_true heq] at h; exact h)
        have HE : Hid (qs = insL q qs) := Lib.hid (by
          cases dd with
          | none => exact (ins_same hlt HAT.out heq.symm).symm
          | some p => exact absurd heq.symm (HAT.out.ne HSO.out hlt))
        have HR : Hid (OwnQ wr lo wr.heap.size (.slice (some ⟨g, 0, none⟩) qs.length c) hs qs) := Lib.hid ((HH.out.below HB.out).more (Nat.le_refl _) (by have := HB.out.size; omega))
        clear HSM HFB heq
        generalize (qs.getD k []).length = l at *
        go_wp2_with (fail)
        refine HSM'.out.mono ?_
        rintro e wr2 ⟨rfl, hdr⟩
        have HR2 : Hid (OwnQ wr2 lo wr2.heap.size (.slice (some ⟨g, 0, none⟩) qs.length c) hs qs) := Lib.hid (by obtain ⟨m, rfl⟩ := hdr; exact HR.out.same (fun _ _ _ _ => rfl))
        have HB2 := Lib.hid (HB.out.trans (drewN_below hdr _))
        clear hdr HR
        go_wp2
        go_ret
        exact ⟨hs, some ⟨g, 0, none⟩, c, ret_len (congrArg List.length HE.out), by rw [← HE.out]; exact HR2.out, HB2.out⟩
      · have HSM' : Hid (Calls Tryd.prog 103 #[.slice (hs k).1 (qs.getD k []).length (hs k).2, .slice Af q.length cf] wr fun e w' => e = .returned (.bool false) ∧ ∃ m, w' = wr.drewN m) := Lib.hid (by have h := HSM.out; unfold SameD at h; rw [decide_eq_false heq] at h; exact h)
        have HNE : Hid (q ≠ qs.getD k []) := Lib.hid (fun e => heq e.symm)
        clear HSM heq
        cases dd with
        | some p =>
          have HPS := Lib.hid (insV_more (hs := hs) (x := .slice Af q.length cf) hlt HAT.out.2.1)
          rw [HK.out] at HPS
          have HAT' : Hid (InsAt qs q (k + 1) (some p)) := Lib.hid (by obtain ⟨h1, h2, h3, h4, h5⟩ := HAT.out; exact ⟨h1, by omega, h3, h4, h5⟩)
          clear HFB
          generalize (qs.getD k []).length = l at *
          go_wp2_with (fail)
          refine HSM'.out.mono ?_
          rintro e wr2 ⟨rfl, hdr⟩
          have HB2 := Lib.hid (HB.out.trans (drewN_below hdr _))
          have HO2 : Hid (wr2.ownsRow w.heap.size 44 1 (.slice A2 m c2) m (insV hs qs (.slice Af q.length cf) k (some p))) := Lib.hid (by obtain ⟨m, rfl⟩ := hdr; exact HO.out)
          have hcell2 := drewN_cell hdr hcell
          clear hdr hcell HO
          obtain ⟨o4, n4, l4⟩ := app_in HO2.out (by have := HB2.out.size; omega) (.slice (hs k).1 l (hs k).2)
          have O4 := Lib.hid o4; have N4 := Lib.hid n4; have L4 := Lib.hid l4
          have tokA : True := trivial
          clear o4 n4 l4
          go_wp2_with (at_builtin; have _t := tokA; refine wpList_append_lies _ rfl _ _ _ rfl w.heap.size 44 i0 (.slice none 0 0) 1 24 Tryd.underlying24 HI.out HZ0.out HZ1.out HZ2.out rfl (by decide) _ _ _ rfl O4.out ⟨wr2.heap.size, 0, none⟩ 1 1 [.slice (hs k).1 l (hs k).2] rfl rfl N4.out (by simp [Value.oneCell']) (by decide) (by simp only [maxLen]; omega) (by omega) L4.out _ rfl ?_; intro g4 cap4 w4 hown4 hgrow4 hat4 hlt4; clear tokA)
          have B4 := Lib.hid (app_out HO2.out HB2.out (by have := HB2.out.size; omega) hgrow4)
          rw [HPS.out] at hown4
          have HO4 := Lib.hid hown4
          clear hown4 hgrow4 hat4
          go_roundw
          case rel => exact ⟨k + 1, m + 1, some p, _, _, by omega, by go_num, rfl, rfl, by omega, HO4.out, HAT'.out, B4.out⟩
          case measure => simp [intOf]; omega
        | none =>
          by_cases hlt2 : cmpL q (qs.getD k []) < 0
          · have hd : decide (cmpL q (qs.getD k []) < 0) = true := decide_eq_true hlt2
            have HP1 := Lib.hid (insV_new (hs := hs) (qs := qs) (x := .slice Af q.length cf) (i := k))
            have HP2 := Lib.hid (insV_more (hs := hs) (x := .slice Af q.length cf) hlt (Nat.le_refl k))
            rw [HK.out] at HP2
            have HAT' : Hid (InsAt qs q (k + 1) (some k)) := Lib.hid ⟨hlt, by omega, HAT.out, HNE.out, hlt2⟩
            rw [hd] at HFB
            clear hd hlt2
            generalize (qs.getD k []).length = l at *
            go_wp2_with (fail)
            refine HSM'.out.mono ?_
            rintro e wr2 ⟨rfl, hdr⟩
            have HB2 := Lib.hid (HB.out.trans (drewN_below hdr _))
            have HO2 : Hid (wr2.ownsRow w.heap.size 44 1 (.slice A2 m c2) m (insV hs qs (.slice Af q.length cf) k none)) := Lib.hid (by obtain ⟨m, rfl⟩ := hdr; exact HO.out)
            have hcell2 := drewN_cell hdr hcell
            have HF := Lib.hid (HFB.out wr2 HB2.out)
            clear hdr hcell HO HFB
            go_wp2_with (fail)
            refine HF.out.mono ?_
            rintro e wr3 ⟨rfl, bel3⟩
            have HB3 := Lib.hid (HB2.out.trans (bel3.mono HB2.out.size))
            have HO3 := Lib.hid (own_same HO2.out (fun q e => bel3.block q (HO2.out.lt q e).2))
            have hcell3 := (bel3.cell (p := ⟨g, k, none⟩) (by show g < _; have := HB2.out.size; omega)).trans hcell2
            clear bel3 hcell2 HF HO2
            obtain ⟨o4, n4, l4⟩ := app_in HO3.out (by have := HB3.out.size; omega) (.slice Af q.length cf)
            have O4 := Lib.hid o4; have N4 := Lib.hid n4; have L4 := Lib.hid l4
            have tokA : True := trivial
            clear o4 n4 l4
            go_wp2_with (first
              | (at_builtin; have _t := tokA; refine wpList_append_lies _ rfl _ _ _ rfl w.heap.size 44 i0 (.slice none 0 0) 1 24 Tryd.underlying24 HI.out HZ0.out HZ1.out HZ2.out rfl (by decide) _ _ _ rfl O4.out ⟨wr3.heap.size, 0, none⟩ 1 1 [.slice Af q.length cf] rfl rfl N4.out (by simp [Value.oneCell']) (by decide) (by simp only [maxLen]; omega) (by omega) L4.out _ rfl ?_; intro g4 cap4 w4 hown4 hgrow4 hat4 hlt4; have B4 := Lib.hid (app_out HO3.out HB3.out (by have := HB3.out.size; omega) hgrow4); have e1 := ((box_below wr3 (.slice Af q.length cf) 44).cell (p := ⟨g, k, none⟩) (by show g < _; have := HB3.out.size; omega)).trans hcell3; have hcell4 := hgrow4.cell e1 (by intro e; have := (O4.out.lt g e.symm).1; omega); rw [HP1.out] at hown4; have HO4 := Lib.hid hown4; obtain ⟨o5, n5, l5⟩ := app_in HO4.out (by have := B4.out.size; omega) (.slice (hs k).1 l (hs k).2); have O5 := Lib.hid o5; have N5 := Lib.hid n5; have L5 := Lib.hid l5; clear tokA o5 n5 l5 e1 hown4 hgrow4 hat4 hcell3)
              | (at_builtin; refine wpList_append_lies _ rfl _ _ _ rfl w.heap.size 44 i0 (.slice none 0 0) 1 24 Tryd.underlying24 HI.out HZ0.out HZ1.out HZ2.out rfl (by decide) _ _ _ rfl O5.out ⟨w4.heap.size, 0, none⟩ 1 1 [.slice (hs k).1 l (hs k).2] rfl rfl N5.out (by simp [Value.oneCell']) (by decide) (by simp only [maxLen]; omega) (by omega) L5.out _ rfl ?_; intro g5 cap5 w5 hown5 hgrow5 hat5 hlt5))
            have s4 := B4.out.size
            have B5 := Lib.hid (app_out HO4.out B4.out s4 hgrow5)
            rw [HP2.out] at hown5
            have HO5 := Lib.hid hown5
            clear hown5 hgrow5 hat5
            go_roundw
            case rel => exact ⟨k + 1, m + 1 + 1, some k, _, _, by omega, by go_num, rfl, rfl, by omega, HO5.out, HAT'.out, B5.out⟩
            case measure => simp [intOf]; omega
          · have hd : decide (cmpL q (qs.getD k []) < 0) = false := decide_eq_false hlt2
            have HP2 := Lib.hid (insV_push (hs := hs) (x := .slice Af q.length cf) hlt)
            rw [HK.out] at HP2
            have HAT' : Hid (InsAt qs q (k + 1) none) := Lib.hid (fun j hj => by
              by_cases e : j = k
              · subst e; exact ⟨HNE.out, hlt2⟩
              · exact HAT.out j (by omega))
            rw [hd] at HFB
            clear hd hlt2
            generalize (qs.getD k []).length = l at *
            go_wp2_with (fail)
            refine HSM'.out.mono ?_
            rintro e wr2 ⟨rfl, hdr⟩
            have HB2 := Lib.hid (HB.out.trans (drewN_below hdr _))
            have HO2 : Hid (wr2.ownsRow w.heap.size 44 1 (.slice A2 m c2) m (insV hs qs (.slice Af q.length cf) k none)) := Lib.hid (by obtain ⟨m, rfl⟩ := hdr; exact HO.out)
            have hcell2 := drewN_cell hdr hcell
            have HF := Lib.hid (HFB.out wr2 HB2.out)
            clear hdr hcell HO HFB
            go_wp2_with (fail)
            refine HF.out.mono ?_
            rintro e wr3 ⟨rfl, bel3⟩
            have HB3 := Lib.hid (HB2.out.trans (bel3.mono HB2.out.size))
            have HO3 := Lib.hid (own_same HO2.out (fun q e => bel3.block q (HO2.out.lt q e).2))
            have hcell3 := (bel3.cell (p := ⟨g, k, none⟩) (by show g < _; have := HB2.out.size; omega)).trans hcell2
            clear bel3 hcell2 HF HO2
            obtain ⟨o4, n4, l4⟩ := app_in HO3.out (by have := HB3.out.size; omega) (.slice (hs k).1 l (hs k).2)
            have O4 := Lib.hid o4; have N4 := Lib.hid n4; have L4 := Lib.hid l4
            have tokA : True := trivial
            clear o4 n4 l4
            go_wp2_with (at_builtin; have _t := tokA; refine wpList_append_lies _ rfl _ _ _ rfl w.heap.size 44 i0 (.slice none 0 0) 1 24 Tryd.underlying24 HI.out HZ0.out HZ1.out HZ2.out rfl (by decide) _ _ _ rfl O4.out ⟨wr3.heap.size, 0, none⟩ 1 1 [.slice (hs k).1 l (hs k).2] rfl rfl N4.out (by simp [Value.oneCell']) (by decide) (by simp only [maxLen]; omega) (by omega) L4.out _ rfl ?_; intro g4 cap4 w4 hown4 hgrow4 hat4 hlt4; clear tokA)
            have B4 := Lib.hid (app_out HO3.out HB3.out (by have := HB3.out.size; omega) hgrow4)
            rw [HP2.out] at hown4
            have HO4 := Lib.hid hown4
            clear hown4 hgrow4 hat4
            go_roundw
            case rel => exact ⟨k + 1, m + 1, none, _, _, by omega, by go_num, rfl, rfl, by omega, HO4.out, HAT'.out, B4.out⟩
            case measure => simp [intOf]; omega
    · have hkl : k = qs.length := by omega
      subst hkl
      clear hown hb hat
      cases dd with
      | some p =>
        have hp := HAT.out.1
        have HE := Lib.hid (ins_at (f := q) (qs := qs) (p := p) (by omega) HAT.out.2.2.1 (.inr HAT.out.2.2.2))
        have e1 := insAt_len (show p ≤ qs.length by omega) q
        have hm : m = qs.length + 1 := by
          have := HO.out.1
          rw [insV_end (by omega), List.length_append, List.length_take, List.length_cons, List.length_drop, rowV_len] at this
          omega
        subst hm
        have HR := Lib.hid (HH.out.insert (p := p) (by omega) hlo HQ.out (fun b e => HGE.out b e) HB.out (by have := HO.out; rw [insV_end (by omega)] at this; exact this))
        have HL := Lib.hid e1
        clear e1
        go_wp2
        go_ret
        exact ⟨_, A2, c2, ret_len (by rw [HE.out, HL.out]), by rw [HE.out, HL.out]; exact HR.out, HB.out⟩
      | none =>
        have HE := Lib.hid (ins_at (f := q) (qs := qs) (p := qs.length) (Nat.le_refl _) HAT.out (.inl rfl))
        have HL := Lib.hid (insAt_len (Nat.le_refl qs.length) q)
        have hm : m = qs.length := by
          have := HO.out.1
          unfold insV at this
          rw [List.length_take, rowV_len] at this
          omega
        subst hm
        obtain ⟨o4, n4, l4⟩ := app_in HO.out (by have := HB.out.size; omega) (.slice Af q.length cf)
        have O4 := Lib.hid o4; have N4 := Lib.hid n4; have L4 := Lib.hid l4
        have tokA : True := trivial
        clear o4 n4 l4
        go_wp2_with (at_builtin; have _t := tokA; refine wpList_append_lies _ rfl _ _ _ rfl w.heap.size 44 i0 (.slice none 0 0) 1 24 Tryd.underlying24 HI.out HZ0.out HZ1.out HZ2.out rfl (by decide) _ _ _ rfl O4.out ⟨wr.heap.size, 0, none⟩ 1 1 [.slice Af q.length cf] rfl rfl N4.out (by simp [Value.oneCell']) (by decide) (by simp only [maxLen]; omega) (by omega) L4.out _ rfl ?_; intro g4 cap4 w4 hown4 hgrow4 hat4 hlt4; clear tokA)
        have B4 := Lib.hid (app_out HO.out HB.out (by have := HB.out.size; omega) hgrow4)
        have HR := Lib.hid (HH.out.insert (p := qs.length) (Nat.le_refl _) hlo HQ.out (fun b e => HGE.out b e) B4.out (by
          have e2 := hown4
          unfold insV at e2
          rw [List.drop_of_length_le (by rw [rowV_len]; exact Nat.le_refl _)]
          exact e2))
        clear hown4 hgrow4 hat4
        go_ret
        exact ⟨_, some ⟨g4, 0, none⟩, cap4, ret_len (by rw [HE.out, HL.out]), by rw [HE.out, HL.out]; exact HR.out, B4.out⟩
end Go.Proofs.YtjmalgadpodmbaaDoor
