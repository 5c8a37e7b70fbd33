/- RenumberNet of the model. Placing the parts of a net under given numbers: plain mathematics. -/
import Derived.Test.YtjfhbofgnagfaaaDoorNetN
import Derived.Test.YtjfhbofgnagfaaaDoorQNetO
import Derived.Test.YtjfhbofgnagfaaaDoorQNetV
import Derived.Test.YtjfhbofgnagfaaaDoorQMath
namespace Go.Proofs.YtjfhbofgnagfaaaDoor
set_option linter.unusedSimpArgs false
set_option linter.unusedVariables false
section
open Go.ChangeAt Go.ChangeShapes Go.RowKit Go.WideShapes

/-- RenumberNet. -/
def rnB (N : Nt) (P R : List Int) : Bool := valN N && (permB P N.w.length && permB R N.l.length)
def rnV (N : Nt) (P R : List Int) : Nt := if rnB N P R = true then rnN N P R else Nt.nil
theorem rnV_no {N : Nt} {P R : List Int} (h : rnB N P R = false) : rnV N P R = Nt.nil := by unfold rnV; rw [h]; rfl
theorem rnV_yes {N : Nt} {P R : List Int} (h : rnB N P R = true) : rnV N P R = rnN N P R := by unfold rnV; rw [if_pos h]
theorem permB_all {xs : List Int} {n : Nat} (h : permB xs n = true) : xs.all (inW n) = true ∧ xs.length = n := by
  unfold permB perm1 at h
  simp only [Bool.and_eq_true, List.take_length] at h
  exact ⟨h.1.1, of_decide_eq_true h.2⟩
theorem mem_set {α : Type} {l : List α} {k : Nat} {x y : α} (h : y ∈ l.set k x) : y ∈ l ∨ y = x := by
  rcases List.mem_or_eq_of_mem_set h with h | h
  · exact .inl h
  · exact .inr h
theorem rnW_mem (N : Nt) (P : List Int) : ∀ k, k ≤ N.w.length → ∀ q ∈ rnW N P k, q ∈ N.w
  | 0, _, q, h => h
  | k + 1, hk, q, h => by
    rw [rnW_step] at h
    rcases mem_set h with h | h
    · exact rnW_mem N P k (by omega) q h
    · rw [h]; exact getL_mem (by omega)
theorem rnV_small (N : Nt) (P R : List Int) : SmallN (rnV N P R) := by
  cases h : rnB N P R with
  | false => rw [rnV_no h]; exact nil_small
  | true =>
    rw [rnV_yes h]
    unfold rnB at h
    simp only [Bool.and_eq_true] at h
    have h1 := valN_size h.1
    have h2 := valN_conc_le h.1
    have h3 : total (rnN N P R).w ≤ 24 * (rnN N P R).w.length := total_valid (List.all_eq_true.2 fun q hq => formN_valid (List.all_eq_true.1 (valN_forms h.1) q (rnW_mem N P N.w.length (Nat.le_refl _) q hq)))
    have e1 : (rnN N P R).w.length = N.w.length := rnW_len _ _ _
    have e2 : (rnN N P R).l.length = N.l.length := rnL_len _ _ _ _
    have e3 : (rnN N P R).c.length = N.c.length := rnC_len _ _ _
    exact ⟨by omega, by omega, by omega, by omega⟩
set_option maxRecDepth 100000 in
set_option maxHeartbeats 2000000 in
theorem sRenumberNet_any (h : NH) (N : Nt) (AP AR : Option Addr) (nP nR cP cR : Nat) (P R : List Int) (w : World) (r : RdN w w.heap.size h N) (rp : RdI w w.heap.size AP nP P) (rr : RdI w w.heap.size AR nR R) (hn : N.w.length ≤ 1048576) (hl : N.l.length ≤ 1048576) (hc : N.c.length ≤ 1048576) (hp : nP ≤ 1048576) (hr : nR ≤ 1048576) :
    Calls Tryd.prog 51 #[.agg #[.slice h.A N.w.length h.c, .slice h.L N.l.length h.d, .slice h.C N.c.length h.e], .slice AP nP cP, .slice AR nR cR] w (GivesNB w (rnV N P R) (rnB N P R)) := by
  have lp := rp.len; have lr := rr.len
  subst lp lr
  obtain ⟨w0, hw0⟩ : ∃ w0, w0 = (w.alloc (.cells #[.slice h.A N.w.length h.c, .slice h.L N.l.length h.d, .slice h.C N.c.length h.e] 28)).alloc (.cells #[.slice none 0 0, .slice none 0 0, .slice none 0 0] 28) := ⟨_, rfl⟩
  obtain ⟨hb, g0, g1, hsz⟩ := two_any' w (.cells #[.slice h.A N.w.length h.c, .slice h.L N.l.length h.d, .slice h.C N.c.length h.e] 28) (.cells #[.slice none 0 0, .slice none 0 0, .slice none 0 0] 28)
  rw [← hw0] at hb g0 g1 hsz
  have hs0 : w.heap.size + 2 ≤ w0.heap.size := by omega
  have HKF : Hid (∀ wx, Below w0.heap.size w0 wx → wx.cell? ⟨w.heap.size, 0, none⟩ = some (.slice h.A N.w.length h.c) ∧ wx.cell? ⟨w.heap.size, 1, none⟩ = some (.slice h.L N.l.length h.d) ∧ wx.cell? ⟨w.heap.size, 2, none⟩ = some (.slice h.C N.c.length h.e)) := Lib.hid fun wx hx => three_cells ((hx.block _ (by omega)).trans g0)
  have HKR : Hid (∀ wx, Below w0.heap.size w0 wx → wx.heap[w.heap.size + 1]? = some (.cells #[.slice none 0 0, .slice none 0 0, .slice none 0 0] 28 (0, 0))) := Lib.hid fun wx hx => (hx.block _ (by omega)).trans g1
  have HV := Lib.hid (sValidNet_any h N w0 ((r.below hb).more hb.size) hn hl hc)
  have HP := Lib.hid (fun (w' : World) (hw : Below w0.heap.size w0 w') => sIsPerm_any AP P.length cP N.w.length P w' ((rp.below (hb.trans (hw.mono hb.size))).more (Nat.le_trans hb.size hw.size)) hp hn)
  have HQ := Lib.hid (fun (w' : World) (hw : Below w0.heap.size w0 w') => sIsPerm_any AR R.length cR N.l.length R w' ((rr.below (hb.trans (hw.mono hb.size))).more (Nat.le_trans hb.size hw.size)) hr hl)
  have HR := Lib.hid (fun (w' : World) (hw : Below w0.heap.size w0 w') => sRenumber_any h N AP AR cP cR P R w' ((r.below (hb.trans (hw.mono hb.size))).more (Nat.le_trans hb.size hw.size)) ((rp.below (hb.trans (hw.mono hb.size))).more (Nat.le_trans hb.size hw.size)) ((rr.below (hb.trans (hw.mono hb.size))).more (Nat.le_trans hb.size hw.size)))
  have HB0 := Lib.hid hb
  obtain ⟨y0, y1, y2⟩ := HKF.out _ (Below.refl _ w0)
  clear hb g0 g1 hsz r rp rr
  have fin : ∀ u, Below w0.heap.size w0 u → rnB N P R = false → GivesNB w (rnV N P R) (rnB N P R) (.returned (.tuple #[.agg #[.slice none 0 0, .slice none 0 0, .slice none 0 0], .bool false])) ((((u.setCell ⟨w.heap.size + 1, 0, none⟩ (.slice none 0 0)).setCell ⟨w.heap.size + 1, 1, none⟩ (.slice none 0 0)).setCell ⟨w.heap.size + 1, 2, none⟩ (.slice none 0 0))) := fun u bu e => by
    rw [rnV_no e, e]
    exact givesNB_of (own_done HB0.out bu (OwnN.nil u w0.heap.size u.heap.size) hs0)
  have FIN := Lib.hid fin
  clear fin
  cases hv : valN N with
  | false =>
    rw [hv] at HV
    have HE : Hid (rnB N P R = false) := Lib.hid (by unfold rnB; rw [hv]; rfl)
    clear hv
    generalize rnV N P R = VV at *
    generalize rnB N P R = BB at *
    go_enter Tryd.func51, Tryd.ntmps51
    go_wp2_with (fail)
    rw [← hw0]
    clear hw0
    refine HV.out.mono ?_
    rintro e u1 ⟨rfl, bel⟩
    have B1 := Lib.hid bel
    have q1 := HKR.out _ bel
    obtain ⟨a0, a1, a2⟩ := three_cells q1
    have f0 := frozen_of_row _ _ 0 _ _ q1; have f1 := frozen_of_row _ _ 1 _ _ q1; have f2 := frozen_of_row _ _ 2 _ _ q1
    have Q1 := Lib.hid q1
    clear q1 bel y0 y1 y2
    go_wp2
    (try simp only [Exit.inBlock, Exit.then])
    refine bodyPost_ret (results_cell_row_tmp rfl _ _ (w.heap.size + 1) _ _ (0, 0) _ rfl (set3_at Q1.out _ _ _) Tryd.underlying28 rfl (by kernel_rfl)) rfl ?_
    exact FIN.out u1 B1.out HE.out
  | true =>
  rw [hv] at HV
  cases hP : permB P N.w.length with
  | false =>
    rw [hP] at HP
    have HE : Hid (rnB N P R = false) := Lib.hid (by unfold rnB; rw [hv, hP]; rfl)
    clear hv hP
    generalize rnV N P R = VV at *
    generalize rnB N P R = BB at *
    go_enter Tryd.func51, Tryd.ntmps51
    go_wp2_with (fail)
    rw [← hw0]
    clear hw0
    refine HV.out.mono ?_
    rintro e u1 ⟨rfl, bel⟩
    have B1 := Lib.hid bel
    clear bel y0 y1 y2
    obtain ⟨y0, y1, y2⟩ := HKF.out _ B1.out
    go_wp2_with (fail)
    refine (HP.out u1 B1.out).mono ?_
    rintro e u2 ⟨rfl, bel2⟩
    have B2 := Lib.hid (B1.out.trans (bel2.mono B1.out.size))
    have q1 := HKR.out _ B2.out
    obtain ⟨a0, a1, a2⟩ := three_cells q1
    have f0 := frozen_of_row _ _ 0 _ _ q1; have f1 := frozen_of_row _ _ 1 _ _ q1; have f2 := frozen_of_row _ _ 2 _ _ q1
    have Q1 := Lib.hid q1
    clear q1 bel2 y0 y1 y2
    go_wp2
    (try simp only [Exit.inBlock, Exit.then])
    refine bodyPost_ret (results_cell_row_tmp rfl _ _ (w.heap.size + 1) _ _ (0, 0) _ rfl (set3_at Q1.out _ _ _) Tryd.underlying28 rfl (by kernel_rfl)) rfl ?_
    exact FIN.out u2 B2.out HE.out
  | true =>
  rw [hP] at HP
  cases hQ : permB R N.l.length with
  | false =>
    rw [hQ] at HQ
    have HE : Hid (rnB N P R = false) := Lib.hid (by unfold rnB; rw [hv, hP, hQ]; rfl)
    clear hv hP hQ
    generalize rnV N P R = VV at *
    generalize rnB N P R = BB at *
    go_enter Tryd.func51, Tryd.ntmps51
    go_wp2_with (fail)
    rw [← hw0]
    clear hw0
    refine HV.out.mono ?_
    rintro e u1 ⟨rfl, bel⟩
    have B1 := Lib.hid bel
    clear bel y0 y1 y2
    obtain ⟨y0, y1, y2⟩ := HKF.out _ B1.out
    go_wp2_with (fail)
    refine (HP.out u1 B1.out).mono ?_
    rintro e u2 ⟨rfl, bel2⟩
    have B2 := Lib.hid (B1.out.trans (bel2.mono B1.out.size))
    clear bel2 y0 y1 y2
    obtain ⟨y0, y1, y2⟩ := HKF.out _ B2.out
    go_wp2_with (fail)
    refine (HQ.out u2 B2.out).mono ?_
    rintro e u3 ⟨rfl, bel3⟩
    have B3 := Lib.hid (B2.out.trans (bel3.mono B2.out.size))
    have q1 := HKR.out _ B3.out
    obtain ⟨a0, a1, a2⟩ := three_cells q1
    have f0 := frozen_of_row _ _ 0 _ _ q1; have f1 := frozen_of_row _ _ 1 _ _ q1; have f2 := frozen_of_row _ _ 2 _ _ q1
    have Q1 := Lib.hid q1
    clear q1 bel3 y0 y1 y2
    go_wp2
    (try simp only [Exit.inBlock, Exit.then])
    refine bodyPost_ret (results_cell_row_tmp rfl _ _ (w.heap.size + 1) _ _ (0, 0) _ rfl (set3_at Q1.out _ _ _) Tryd.underlying28 rfl (by kernel_rfl)) rfl ?_
    exact FIN.out u3 B3.out HE.out
  | true =>
    rw [hQ] at HQ
    obtain ⟨pa, pl⟩ := permB_all hP
    obtain ⟨qa, ql⟩ := permB_all hQ
    have hB : rnB N P R = true := by unfold rnB; rw [hv, hP, hQ]; rfl
    have HRN := Lib.hid (fun (w' : World) (hw : Below w0.heap.size w0 w') => HR.out w' hw hv pa pl qa ql)
    rw [rnV_yes hB, hB]
    clear hv hP hQ hB pa pl qa ql FIN HR
    generalize rnN N P R = X at *
    go_enter Tryd.func51, Tryd.ntmps51
    go_wp2_with (fail)
    rw [← hw0]
    clear hw0
    refine HV.out.mono ?_
    rintro e u1 ⟨rfl, bel⟩
    have B1 := Lib.hid bel
    clear bel y0 y1 y2
    obtain ⟨y0, y1, y2⟩ := HKF.out _ B1.out
    go_wp2_with (fail)
    refine (HP.out u1 B1.out).mono ?_
    rintro e u2 ⟨rfl, bel2⟩
    have B2 := Lib.hid (B1.out.trans (bel2.mono B1.out.size))
    clear bel2 y0 y1 y2
    obtain ⟨y0, y1, y2⟩ := HKF.out _ B2.out
    go_wp2_with (fail)
    refine (HQ.out u2 B2.out).mono ?_
    rintro e u3 ⟨rfl, bel3⟩
    have B3 := Lib.hid (B2.out.trans (bel3.mono B2.out.size))
    clear bel3 y0 y1 y2
    obtain ⟨y0, y1, y2⟩ := HKF.out _ B3.out
    go_wp2_with (fail)
    refine (HRN.out u3 B3.out).mono ?_
    rintro e u4 ⟨x, rfl, own, bel4⟩
    have s3 := B3.out.size
    have b4 := B3.out.trans (bel4.mono s3)
    have q1 := HKR.out _ b4
    obtain ⟨a0, a1, a2⟩ := three_cells q1
    have f0 := frozen_of_row _ _ 0 _ _ q1; have f1 := frozen_of_row _ _ 1 _ _ q1; have f2 := frozen_of_row _ _ 2 _ _ q1
    have Q1 := Lib.hid q1
    have B4 := Lib.hid b4
    have ON := Lib.hid (own.more s3 (Nat.le_refl _))
    clear q1 bel4 own b4 y0 y1 y2
    go_wp2
    (try simp only [Exit.inBlock, Exit.then])
    refine bodyPost_ret (results_cell_row_tmp rfl _ _ (w.heap.size + 1) _ _ (0, 0) _ rfl (set3_at Q1.out _ _ _) Tryd.underlying28 rfl (by kernel_rfl)) rfl ?_
    exact givesNB_of (own_done HB0.out B4.out ON.out hs0)
end
section
set_option linter.unusedSimpArgs false
set_option linter.unusedVariables false
open Go.ChangeAt Go.ChangeShapes Go.RowKit Go.WideShapes

/-- The first k elements of xs set at the places R. -/
def plS {α : Type} (d : α) (R : List Int) (xs : List α) (k : Nat) (T : List α) : List α := (List.range k).foldl (fun acc t => acc.set (R.getD t 0).toNat (xs.getD t d)) T
section
variable {α : Type} {d : α} {R : List Int} {xs T T' : List α} {k : Nat}
theorem plS_step : plS d R xs (k + 1) T = (plS d R xs k T).set (R.getD k 0).toNat (xs.getD k d) := by unfold plS; rw [List.range_succ, List.foldl_append]; rfl
theorem plS_len (k : Nat) : (plS d R xs k T).length = T.length := by
  induction k with
  | zero => rfl
  | succ k ih => rw [plS_step, List.length_set, ih]
/-- What lay there before counts for nothing, when each place is set. -/
theorem plS_same (hT : T.length = T'.length) : ∀ (k i : Nat), (∃ t, t < k ∧ (R.getD t 0).toNat = i) → (plS d R xs k T)[i]? = (plS d R xs k T')[i]?
  | 0, _, h => by obtain ⟨t, h, _⟩ := h; omega
  | k + 1, i, h => by
    rw [plS_step, plS_step]
    by_cases e : (R.getD k 0).toNat = i
    · rw [e, List.getElem?_set, List.getElem?_set, if_pos rfl, if_pos rfl, plS_len, plS_len, hT]
    · rw [List.getElem?_set_ne e, List.getElem?_set_ne e]
      obtain ⟨t, h1, h2⟩ := h
      refine plS_same hT k i ⟨t, ?_, h2⟩
      have : t ≠ k := fun e2 => e (by rw [← e2]; exact h2)
      omega
theorem plS_all (hT : T.length = T'.length) (h : ∀ i, i < T.length → ∃ t, t < k ∧ (R.getD t 0).toNat = i) : plS d R xs k T = plS d R xs k T' := by
  apply List.ext_getElem?
  intro i
  by_cases hi : i < T.length
  · exact plS_same hT k i (h i hi)
  · rw [List.getElem?_eq_none (by rw [plS_len]; omega), List.getElem?_eq_none (by rw [plS_len]; omega)]
end
/-- A link under new numbers. -/
def mapL (P : List Int) (l : Lk) : Lk := ⟨l.k, P.getD l.a.toNat 0, P.getD l.b.toNat 0, if l.k = 3 ∨ l.k = 4 then P.getD l.c.toNat 0 else 0⟩
/-- The net N placed in T. -/
def plN (P R : List Int) (N T : Nt) : Nt := ⟨plS [] P N.w N.w.length T.w, plS Lk.nil R (N.l.map (mapL P)) N.l.length T.l, T.c ++ N.c.map fun x => P.getD x.toNat 0⟩
/-- Room for a net. -/
def roomN (n m : Nat) : Nt := ⟨List.replicate n [], List.replicate m Lk.nil, []⟩
theorem strict_mark : ∀ (ys : List Int) (a : Int), ys.Pairwise (· < ·) → (∀ y ∈ ys, a ≤ y ∧ y < a + ys.length) → ys = markL a ys.length
  | [], _, _, _ => by simp [markL]
  | y :: t, a, hp, hb => by
    obtain ⟨h1, h2⟩ := List.pairwise_cons.1 hp
    have hy := hb y (List.mem_cons_self ..)
    have ht : t = markL (a + 1) t.length := strict_mark t (a + 1) h2 fun z hz => by
      have := h1 z hz
      have := (hb z (List.mem_cons_of_mem _ hz)).2
      simp only [List.length_cons] at this
      omega
    have e : y = a := by
      cases t with
      | nil => simp at hy; omega
      | cons z t' =>
        have hz : z = a + 1 := by
          have h3 := congrArg (fun l => l.getD 0 0) ht
          simp only [List.length_cons] at h3
          rw [markL_at _ _ _ (by omega)] at h3
          simpa using h3
        have := h1 z (List.mem_cons_self ..)
        omega
    have hm : markL a (y :: t).length = a :: markL (a + 1) t.length := by rw [List.length_cons]; exact markL_succ a t.length
    rw [hm, ← ht, e]
end
end Go.Proofs.YtjfhbofgnagfaaaDoor
