/- The program's checkedNet and AxiomNet. -/
import Derived.Test.YtnomackljlnehaaDoorQPgG
import Derived.Test.YtnomackljlnehaaDoorQNetK
namespace Go.Proofs.YtnomackljlnehaaDoor
set_option linter.unusedSimpArgs false
set_option linter.unusedVariables false
set_option linter.unusedSimpArgs false
set_option linter.unusedVariables false
open Go.ChangeAt Go.ChangeShapes Go.RowKit Go.WideShapes

theorem checked_yes (h : NH) (N : Nt) (w : World) (r : RdN w w.heap.size h N) (sm : SmallN N) (ht : Arit w) (hu : Dual w) (hv : valN N = true) :
    Calls Tryd.prog 78 #[.agg #[.slice h.A N.w.length h.c, .slice h.L N.l.length h.d, .slice h.C N.c.length h.e]] w fun e w' => e = .returned (.tuple #[.agg #[.slice h.A N.w.length h.c, .slice h.L N.l.length h.d, .slice h.C N.c.length h.e], .bool true]) ∧ Below w.heap.size w w' := by
  obtain ⟨w3, hw3⟩ : ∃ w3, w3 = (w.alloc (.cells #[.slice h.A N.w.length h.c, .slice h.L N.l.length h.d, .slice h.C N.c.length h.e] 31)).alloc (.cells #[.slice none 0 0, .slice none 0 0, .slice none 0 0] 31) := ⟨_, rfl⟩
  obtain ⟨hb, g0, g1, hsz⟩ := two_any' w (.cells #[.slice h.A N.w.length h.c, .slice h.L N.l.length h.d, .slice h.C N.c.length h.e] 31) (.cells #[.slice none 0 0, .slice none 0 0, .slice none 0 0] 31)
  rw [← hw3] at hb g0 g1 hsz
  obtain ⟨y0, y1, y2⟩ := three_cells g0
  have hs3 : w.heap.size + 2 ≤ w3.heap.size := by omega
  have hV := validNet_impl h N w3 ((r.below hb).more hb.size) sm (ht.below hb ht.lt) (hu.below hb hu.lt)
  rw [hv] at hV
  have HV := Lib.hid hV; have G0 := Lib.hid g0; have G1 := Lib.hid g1; have HB0 := Lib.hid hb
  clear hV hv r sm ht hu g0 g1 hb hsz
  go_enter Tryd.func78, Tryd.ntmps78
  go_wp2_with (fail)
  rw [← hw3]
  clear hw3
  refine HV.out.mono ?_
  rintro e w4 ⟨rfl, bel⟩
  have q7 := (bel.block (w.heap.size + 1) (by omega)).trans G1.out
  have q8 := (bel.block w.heap.size (by omega)).trans G0.out
  clear y0 y1 y2
  obtain ⟨a0, a1, a2⟩ := three_cells q7
  obtain ⟨y0, y1, y2⟩ := three_cells q8
  have f0 := frozen_of_row _ _ 0 _ _ q7; have f1 := frozen_of_row _ _ 1 _ _ q7; have f2 := frozen_of_row _ _ 2 _ _ q7
  have HB7 := Lib.hid (set3_below (HB0.out.trans (bel.mono HB0.out.size)) (show w.heap.size ≤ w.heap.size + 1 by omega) (.slice h.A N.w.length h.c) (.slice h.L N.l.length h.d) (.slice h.C N.c.length h.e))
  have H7 := Lib.hid (set3_at q7 (.slice h.A N.w.length h.c) (.slice h.L N.l.length h.d) (.slice h.C N.c.length h.e))
  clear q7 q8 bel
  go_wp2
  (try simp only [Exit.inBlock, Exit.then])
  refine bodyPost_ret (results_cell_row_tmp rfl _ _ (w.heap.size + 1) _ _ (0, 0) _ rfl H7.out Tryd.underlying31 rfl (by kernel_rfl)) rfl ?_
  exact ⟨rfl, HB7.out⟩
theorem checked_no (h : NH) (N : Nt) (w : World) (r : RdN w w.heap.size h N) (sm : SmallN N) (ht : Arit w) (hu : Dual w) (hv : valN N = false) :
    Calls Tryd.prog 78 #[.agg #[.slice h.A N.w.length h.c, .slice h.L N.l.length h.d, .slice h.C N.c.length h.e]] w fun e w' => e = .returned (.tuple #[.agg #[.slice none 0 0, .slice none 0 0, .slice none 0 0], .bool false]) ∧ Below w.heap.size w w' := by
  obtain ⟨w3, hw3⟩ : ∃ w3, w3 = (w.alloc (.cells #[.slice h.A N.w.length h.c, .slice h.L N.l.length h.d, .slice h.C N.c.length h.e] 31)).alloc (.cells #[.slice none 0 0, .slice none 0 0, .slice none 0 0] 31) := ⟨_, rfl⟩
  obtain ⟨hb, g0, g1, hsz⟩ := two_any' w (.cells #[.slice h.A N.w.length h.c, .slice h.L N.l.length h.d, .slice h.C N.c.length h.e] 31) (.cells #[.slice none 0 0, .slice none 0 0, .slice none 0 0] 31)
  rw [← hw3] at hb g0 g1 hsz
  obtain ⟨y0, y1, y2⟩ := three_cells g0
  have hs3 : w.heap.size + 2 ≤ w3.heap.size := by omega
  have hV := validNet_impl h N w3 ((r.below hb).more hb.size) sm (ht.below hb ht.lt) (hu.below hb hu.lt)
  rw [hv] at hV
  have HV := Lib.hid hV; have G1 := Lib.hid g1; have HB0 := Lib.hid hb
  clear hV hv r sm ht hu g0 g1 hb hsz
  go_enter Tryd.func78, Tryd.ntmps78
  go_wp2_with (fail)
  rw [← hw3]
  clear hw3
  refine HV.out.mono ?_
  rintro e w4 ⟨rfl, bel⟩
  have q7 := (bel.block (w.heap.size + 1) (by omega)).trans G1.out
  clear y0 y1 y2
  obtain ⟨a0, a1, a2⟩ := three_cells q7
  have f0 := frozen_of_row _ _ 0 _ _ q7; have f1 := frozen_of_row _ _ 1 _ _ q7; have f2 := frozen_of_row _ _ 2 _ _ q7
  have HB7 := Lib.hid (set3_below (HB0.out.trans (bel.mono HB0.out.size)) (show w.heap.size ≤ w.heap.size + 1 by omega) (.slice none 0 0) (.slice none 0 0) (.slice none 0 0))
  have H7 := Lib.hid (set3_at q7 (.slice none 0 0) (.slice none 0 0) (.slice none 0 0))
  clear q7 bel
  go_wp2
  (try simp only [Exit.inBlock, Exit.then])
  refine bodyPost_ret (results_cell_row_tmp rfl _ _ (w.heap.size + 1) _ _ (0, 0) _ rfl H7.out Tryd.underlying31 rfl (by kernel_rfl)) rfl ?_
  exact ⟨rfl, HB7.out⟩
set_option maxRecDepth 100000 in
set_option maxHeartbeats 1000000 in
theorem clone_x (A : Option Addr) (n c : Nat) (zs : List Int) (w : World) (h : RdI w w.heap.size A n zs) (hn : n ≤ 1048576) :
    Calls Tryd.prog 100 #[.slice A n c] w (Gives w zs) := by
  obtain ⟨i0, hi0, hz0, hz1, hz2⟩ := info_parts info_i64
  have hl := h.len
  subst hl
  cases A with
  | none =>
    have h0 : zs.length = 0 := by
      by_cases e : 0 < zs.length
      · obtain ⟨b, off, e2, _⟩ := h.2 e
        cases e2
      · omega
    obtain rfl : zs = [] := List.eq_nil_of_length_eq_zero h0
    have hnil : ∀ wx : World, (binOp .eql 24 (.slice none 0 c) (.slice none 0 0)).run Tryd.prog wx = .ok (.bool true) wx := fun wx => Lib.run_eql_slice_nil wx 24 2 _ _ _ _ _ Tryd.underlying24
    have HG := Lib.hid (gives_nil (Below.refl w.heap.size w))
    clear h h0 hi0 hz0 hz1 hz2 hn
    rw [List.length_nil]
    go_enter Tryd.func100, Tryd.ntmps100
    go_wp2
    go_ret
    exact HG.out
  | some a =>
    have hnil : ∀ wx : World, (binOp .eql 24 (.slice (some a) zs.length c) (.slice none 0 0)).run Tryd.prog wx = .ok (.bool false) wx := fun wx => Lib.run_eql_slice_nil wx 24 2 _ _ _ _ _ Tryd.underlying24
    have hb0 : Below w.heap.size w (w.alloc (.cells #[] 2)) := (Below.refl _ _).alloc (Nat.le_refl _) _
    have H0 := Lib.hid (World.ownsRow_made (e := 2) (base := w.heap.size) (size := 1) w #[] 0 (Nat.le_refl _) (by simp [maxLen]) rfl)
    have HN1 : Hid (∀ j u, (zs.map (Value.int .i64))[j]? = some u → (w.alloc (.cells #[] 2)).cell? (a.add j) = some u) := Lib.hid (fun j u hu => by
      by_cases e : 0 < zs.length
      · obtain ⟨b1, off1, e2, hb1, hc1⟩ := h.2 e
        injection e2 with e2
        subst e2
        exact part_news (fun j hj => (hb0.cell (p := ⟨b1, off1 + j, none⟩) hb1).trans (hc1 j hj)) j u hu
      · rw [List.eq_nil_of_length_eq_zero (by omega : zs.length = 0)] at hu
        simp at hu)
    have HB0 := Lib.hid hb0
    have HL1 : Hid ((zs.map (Value.int .i64)).length = zs.length * 1) := Lib.hid (by simp)
    have HHO := Lib.hid (ints_one zs)
    have HM1 : Hid (0 + zs.length ≤ maxLen) := Lib.hid (by unfold maxLen; omega)
    have HS1 : Hid ((0 + zs.length) * 8 ≤ 140737488355328) := Lib.hid (by omega)
    have HJ : Hid ([] ++ zs.map (Value.int .i64) = zs.map (Value.int .i64)) := Lib.hid (by simp)
    have HI := Lib.hid hi0; have HZ0 := Lib.hid hz0; have HZ1 := Lib.hid hz1; have HZ2 := Lib.hid hz2
    have HLL : Hid (0 + zs.length = zs.length) := Lib.hid (by omega)
    clear hb0 hi0 hz0 hz1 hz2 h
    go_enter Tryd.func100, Tryd.ntmps100
    go_wp2_with (at_builtin; refine wpList_append_own _ rfl _ _ 24 rfl w.heap.size 2 i0 (.int .i64 0) 1 8 Tryd.underlying24 HI.out HZ0.out HZ1.out HZ2.out rfl (by decide) _ _ _ rfl H0.out a zs.length c (zs.map (Value.int .i64)) rfl HL1.out HN1.out HHO.out HM1.out HS1.out HB0.out.size ?_; intro v2 w2 hown2 hgrow2 _; obtain ⟨A2, c2, rfl, HO2, HB2⟩ := app_news HB0 H0 hown2 hgrow2 HJ HLL.out; clear hown2 hgrow2)
    go_ret
    exact ⟨_, _, rfl, HO2.out, HB2.out⟩
theorem du_symN {x : Int} (h : 0 ≤ arZ x) : arZ (duZ x) = arZ x ∧ duZ (duZ x) = x ∧ leafB (duZ x) = leafB x ∧ bitZ (duZ x) = bitZ x ∧ (leafB x = true → duZ x = -x) := by
  rcases sym_cases x with ⟨hl, ha, hb⟩ | ⟨hl, ho, h8⟩ | ⟨_, _, hn, _⟩
  · have e : duZ x = -x := duZ_leaf hl
    have hl2 : leafB (-x) = true := leaf_iff.2 (by omega)
    refine ⟨by rw [e, ha, arZ_leaf hl2], by rw [e, duZ_leaf hl2]; omega, by rw [e, hl, hl2], by rw [e, bitZ_other (by omega), bitZ_other (by omega)], fun _ => e⟩
  · refine ⟨?_, ?_, ?_, ?_, fun h => by rw [hl] at h; cases h⟩ <;> rcases h8 with ⟨rfl, _⟩ | ⟨rfl, _⟩ | ⟨rfl, _⟩ | ⟨rfl, _⟩ | ⟨rfl, _⟩ | ⟨rfl, _⟩ | ⟨rfl, _⟩ | ⟨rfl, _⟩ <;> decide
  · omega
theorem scan_dualN : ∀ (xs : List Int) (m a : Int), (∀ x ∈ xs, 0 ≤ arZ x) → scan (xs.map duZ) m a = scan xs m a
  | [], _, _, _ => rfl
  | x :: xs, m, a, h => by
    have hx := h x (by simp)
    have e := (du_symN hx).1
    simp only [List.map_cons, scan, e, scan_dualN xs _ _ (fun y hy => h y (by simp [hy]))]
theorem fe_dualN {f : List Int} (h : ∀ x ∈ f, 0 ≤ arZ x) (a : Nat) : fe (f.map duZ) a = fe f a := by
  rw [fe_any, fe_any, ← List.map_drop, scan_dualN _ _ _ (fun x hx => h x (List.mem_of_mem_drop hx))]
theorem valid_dualN {f : List Int} (h : validB f = true) : validB (f.map duZ) = true := by
  obtain ⟨h1, h2, h3⟩ := valid_len h
  have e := fe_dualN (valid_all h) 0
  rw [show ((0 : Nat) : Int) = 0 from rfl, h3] at e
  simp only [validB, decide_eq_true_eq]
  rw [feI_small (by simpa using h2), e]
  simp
theorem frag_dualN {f : List Int} (h : validB f = true) : fragV (f.map duZ) = fragV f := by
  rw [fragV_yes h, fragV_yes (valid_dualN h)]
  have e : ∀ v, occ (f.map duZ) v (f.map duZ).length = occ f v f.length := by
    intro v
    unfold occ
    rw [List.take_of_length_le (Nat.le_refl _), List.take_of_length_le (Nat.le_refl _), List.any_map]
    have e2 : ∀ x ∈ f, ((fun n => bitZ n == v) ∘ duZ) x = (fun n => bitZ n == v) x := fun x hx => by
      show (bitZ (duZ x) == v) = (bitZ x == v)
      rw [(du_symN (valid_all h x hx)).2.2.2.1]
    rw [Bool.eq_iff_iff, List.any_eq_true, List.any_eq_true]
    constructor
    · rintro ⟨x, hx, h'⟩; exact ⟨x, hx, (e2 x hx).symm.trans h'⟩
    · rintro ⟨x, hx, h'⟩; exact ⟨x, hx, (e2 x hx).trans h'⟩
  unfold fragK
  rw [e, e, e, e]
theorem gives_eq {w w' : World} {N M : Nt} {b : Bool} {e : Ending} (h : GivesNB w N b e w') (hN : N = M) : GivesNB w M b e w' := hN ▸ h
/-- The net of an axiom, before it is checked. -/
def axD (f : List Int) : Nt := ⟨[f, dualL f], [⟨1, 0, 1, 0⟩], [0, 1]⟩
theorem axD_small {f : List Int} (h : f.length ≤ 1048576) : SmallN (axD f) := by
  refine ⟨by simp [axD], ?_, by simp [axD], by simp [axD]⟩
  unfold axD
  dsimp only
  cases hv : validB f with
  | true =>
    have := valid_len hv
    have := dualL_len f
    simp [total]
    omega
  | false => rw [dualL_no hv]; simpa [total] using h
theorem formN_dual {f : List Int} (h : formN f = true) : formN (f.map duZ) = true := by
  unfold formN at h ⊢
  rw [frag_dualN (formN_valid h)]; exact h
theorem axD_val (f : List Int) : valN (axD f) = formN f := by
  cases hf : formN f with
  | false => exact valN_badw (N := axD f) (k := 0) (by simp [axD]) (by simpa [axD] using hf)
  | true =>
    have hd := dualL_yes (formN_valid hf)
    refine valN_yes (by simp [axD]) (by simp [axD, hf, hd, formN_dual hf]) ?_ (by simp [axD, inW]) ?_
    · simp only [axD, List.all_cons, List.all_nil, Bool.and_true]
      unfold fitsN rightN
      simp [inW, wAt, hd]
    · intro x hx
      have hx2 : x < 2 := by simpa [axD] using hx
      rcases x with _ | _ | x
      · simp [axD, madeN, usedN, concN, mk1, us1, one]
      · simp [axD, madeN, usedN, concN, mk1, us1, one]
      · omega
theorem axD_yes {f : List Int} (h : formN f = true) : axD f = axN f := by unfold axD axN; rw [dualL_yes (formN_valid h)]
theorem ax_own {w0 u2 u4 : World} {A1 A2 : Option Addr} {c1 c2 : Nat} {f df : List Int} {u1 : World}
    (o1 : u1.ownsRow w0.heap.size 2 1 (.slice A1 f.length c1) f.length (f.map (Value.int .i64))) (b1 : Below w0.heap.size w0 u1)
    (o2 : u2.ownsRow u1.heap.size 2 1 (.slice A2 df.length c2) df.length (df.map (Value.int .i64))) (b2 : Below u1.heap.size u1 u2)
    (b4 : Below (u2.alloc (.cells #[.slice A1 f.length c1, .slice A2 df.length c2] 24)).heap.size (u2.alloc (.cells #[.slice A1 f.length c1, .slice A2 df.length c2] 24)) u4) :
    ∃ g1 g2 g3 : Nat, g1 = u2.heap.size ∧ g2 = u4.heap.size ∧ g3 = u4.heap.size + 1 ∧
      OwnN ((u4.alloc (.cells #[.int .i64 1, .int .i64 0, .int .i64 1, .int .i64 0] 69)).alloc (.cells #[.int .i64 0, .int .i64 1] 2)) w0.heap.size ((u4.alloc (.cells #[.int .i64 1, .int .i64 0, .int .i64 1, .int .i64 0] 69)).alloc (.cells #[.int .i64 0, .int .i64 1] 2)).heap.size
        ⟨some ⟨g1, 0, none⟩, 2, fun i => if i = 0 then (A1, c1) else (A2, c2), some ⟨g2, 0, none⟩, 1, some ⟨g3, 0, none⟩, 2⟩ ⟨[f, df], [⟨1, 0, 1, 0⟩], [0, 1]⟩ ∧
      Below w0.heap.size w0 ((u4.alloc (.cells #[.int .i64 1, .int .i64 0, .int .i64 1, .int .i64 0] 69)).alloc (.cells #[.int .i64 0, .int .i64 1] 2)) := by
  have s1 := b1.size
  have s2 := b2.size
  have hq := OwnQ.two o1 o2 b2 s1
  have bq : Below u2.heap.size u2 (u2.alloc (.cells #[.slice A1 f.length c1, .slice A2 df.length c2] 24)) := (Below.refl _ _).alloc (Nat.le_refl _) _
  obtain ⟨u3, hu3⟩ : ∃ u3, u3 = u2.alloc (.cells #[.slice A1 f.length c1, .slice A2 df.length c2] 24) := ⟨_, rfl⟩
  have s3 : u3.heap.size = u2.heap.size + 1 := by rw [hu3]; simp
  rw [← hu3] at hq bq b4
  have s4 := b4.size
  have hl4 := own_lit (w := u4) (n := 1) (e := 69) (base := u4.heap.size) (size := 4) #[.int .i64 1, .int .i64 0, .int .i64 1, .int .i64 0] (Nat.le_refl _) (by simp [maxLen]) rfl
  have b5 : Below u4.heap.size u4 (u4.alloc (.cells #[.int .i64 1, .int .i64 0, .int .i64 1, .int .i64 0] 69)) := (Below.refl _ _).alloc (Nat.le_refl _) _
  obtain ⟨u5, hu5⟩ : ∃ u5, u5 = u4.alloc (.cells #[.int .i64 1, .int .i64 0, .int .i64 1, .int .i64 0] 69) := ⟨_, rfl⟩
  have s5 : u5.heap.size = u4.heap.size + 1 := by rw [hu5]; simp
  rw [← hu5] at hl4 b5 ⊢
  have hc5 := own_lit (w := u5) (n := 2) (e := 2) (base := u5.heap.size) (size := 1) #[.int .i64 0, .int .i64 1] (Nat.le_refl _) (by simp [maxLen]) rfl
  have b6 : Below u5.heap.size u5 (u5.alloc (.cells #[.int .i64 0, .int .i64 1] 2)) := (Below.refl _ _).alloc (Nat.le_refl _) _
  obtain ⟨u6, hu6⟩ : ∃ u6, u6 = u5.alloc (.cells #[.int .i64 0, .int .i64 1] 2) := ⟨_, rfl⟩
  have s6 : u6.heap.size = u5.heap.size + 1 := by rw [hu6]; simp
  rw [← hu6] at hc5 b6 ⊢
  have b46 := b5.trans (b6.mono b5.size)
  have b36 := b4.trans (b46.mono b4.size)
  have B6 : Below w0.heap.size w0 u6 := b1.trans ((b2.trans ((bq.trans (b36.mono bq.size)).mono b2.size)).mono s1)
  refine ⟨u2.heap.size, u4.heap.size, u5.heap.size, rfl, rfl, s5, ?_, B6⟩
  have hq6 : OwnQ u6 w0.heap.size u3.heap.size (.slice (some ⟨u2.heap.size, 0, none⟩) 2 2) (fun i => if i = 0 then (A1, c1) else (A2, c2)) [f, df] := (hq.below b36).more (Nat.le_refl _) (by omega)
  exact OwnN.mk' (m1 := u4.heap.size) (m2 := u5.heap.size) (hq6.more (Nat.le_refl _) (by omega)) (own_below hl4 b6 (Nat.le_refl _)) (fun b e => by have h9 : u4.heap.size = b := (by simpa [Value.ownBlock] using e); omega) hc5 (by omega) (by omega) (Nat.le_refl _) (by omega)
end Go.Proofs.YtnomackljlnehaaDoor
