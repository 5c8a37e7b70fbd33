/- The program's checkedNet and AxiomNet. Sources and targets, and the program's LinksOfKind. LeavesOf: of the program and of the model. Placing the parts of a net under given numbers: plain mathematics. -/
import Derived.Test.YtgpocnapkflihaaGreatDoorQPgG
import Derived.Test.YtgpocnapkflihaaGreatDoorQNetK
import Derived.Test.YtgpocnapkflihaaGreatDoorQDual
import Derived.Test.YtgpocnapkflihaaGreatDoorQNetV
import Derived.Test.YtgpocnapkflihaaGreatDoorQMath
namespace Go.Proofs.YtgpocnapkflihaaGreatDoor
set_option linter.unusedSimpArgs false
set_option linter.unusedVariables false
section
set_option linter.unusedSimpArgs false
set_option linter.unusedVariables false
open Go.ChangeAt Go.ChangeShapes Go.RowKit Go.WideShapes

set_option maxRecDepth 100000 in
set_option maxHeartbeats 1000000 in
theorem clone_x (A : Option Addr) (n c : Nat) (zs : List Int) (w : World) (h : RdI w w.heap.size A n zs) (hn : n ≤ 1048576) :
    Calls Tryz.prog 69 #[.slice A n c] w (Gives w zs) := by
  obtain ⟨i0, hi0, hz0, hz1, hz2⟩ := info_parts info_i64
  have hl := h.len
  subst hl
  cases A with
  | none =>
    have h0 : zs.length = 0 := by
      by_cases e : 0 < zs.length
      · obtain ⟨b, off, e2, _⟩ := h.2 e
        cases e2
      · omega
    obtain rfl : zs = [] := List.eq_nil_of_length_eq_zero h0
    have hnil : ∀ wx : World, (binOp .eql 24 (.slice none 0 c) (.slice none 0 0)).run Tryz.prog wx = .ok (.bool true) wx := fun wx => Lib.run_eql_slice_nil wx 24 2 _ _ _ _ _ Tryz.underlying24
    have HG := Lib.hid (gives_nil (Below.refl w.heap.size w))
    clear h h0 hi0 hz0 hz1 hz2 hn
    rw [List.length_nil]
    go_enter Tryz.func69, Tryz.ntmps69
    go_wp2
    go_ret
    exact HG.out
  | some a =>
    have hnil : ∀ wx : World, (binOp .eql 24 (.slice (some a) zs.length c) (.slice none 0 0)).run Tryz.prog wx = .ok (.bool false) wx := fun wx => Lib.run_eql_slice_nil wx 24 2 _ _ _ _ _ Tryz.underlying24
    have hb0 : Below w.heap.size w (w.alloc (.cells #[] 2)) := (Below.refl _ _).alloc (Nat.le_refl _) _
    have H0 := Lib.hid (World.ownsRow_made (e := 2) (base := w.heap.size) (size := 1) w #[] 0 (Nat.le_refl _) (by simp [maxLen]) rfl)
    have HN1 : Hid (∀ j u, (zs.map (Value.int .i64))[j]? = some u → (w.alloc (.cells #[] 2)).cell? (a.add j) = some u) := Lib.hid (fun j u hu => by
      by_cases e : 0 < zs.length
      · obtain ⟨b1, off1, e2, hb1, hc1⟩ := h.2 e
        injection e2 with e2
        subst e2
        exact part_news (fun j hj => (hb0.cell (p := ⟨b1, off1 + j, none⟩) hb1).trans (hc1 j hj)) j u hu
      · rw [List.eq_nil_of_length_eq_zero (by omega : zs.length = 0)] at hu
        simp at hu)
    have HB0 := Lib.hid hb0
    have HL1 : Hid ((zs.map (Value.int .i64)).length = zs.length * 1) := Lib.hid (by simp)
    have HHO := Lib.hid (ints_one zs)
    have HM1 : Hid (0 + zs.length ≤ maxLen) := Lib.hid (by unfold maxLen; omega)
    have HS1 : Hid ((0 + zs.length) * 8 ≤ 140737488355328) := Lib.hid (by omega)
    have HJ : Hid ([] ++ zs.map (Value.int .i64) = zs.map (Value.int .i64)) := Lib.hid (by simp)
    have HI := Lib.hid hi0; have HZ0 := Lib.hid hz0; have HZ1 := Lib.hid hz1; have HZ2 := Lib.hid hz2
    have HLL : Hid (0 + zs.length = zs.length) := Lib.hid (by omega)
    clear hb0 hi0 hz0 hz1 hz2 h
    go_enter Tryz.func69, Tryz.ntmps69
    go_wp2_with (at_builtin; refine wpList_append_own _ rfl _ _ 24 rfl w.heap.size 2 i0 (.int .i64 0) 1 8 Tryz.underlying24 HI.out HZ0.out HZ1.out HZ2.out rfl (by decide) _ _ _ rfl H0.out a zs.length c (zs.map (Value.int .i64)) rfl HL1.out HN1.out HHO.out HM1.out HS1.out HB0.out.size ?_; intro v2 w2 hown2 hgrow2 _; obtain ⟨A2, c2, rfl, HO2, HB2⟩ := app_news HB0 H0 hown2 hgrow2 HJ HLL.out; clear hown2 hgrow2)
    go_ret
    exact ⟨_, _, rfl, HO2.out, HB2.out⟩
theorem du_symN {x : Int} (h : 0 ≤ arZ x) : arZ (duZ x) = arZ x ∧ duZ (duZ x) = x ∧ leafB (duZ x) = leafB x ∧ bitZ (duZ x) = bitZ x ∧ (leafB x = true → duZ x = -x) := by
  rcases sym_cases x with ⟨hl, ha, hb⟩ | ⟨hl, ho, h8⟩ | ⟨_, _, hn, _⟩
  · have e : duZ x = -x := duZ_leaf hl
    have hl2 : leafB (-x) = true := leaf_iff.2 (by omega)
    refine ⟨by rw [e, ha, arZ_leaf hl2], by rw [e, duZ_leaf hl2]; omega, by rw [e, hl, hl2], by rw [e, bitZ_other (by omega), bitZ_other (by omega)], fun _ => e⟩
  · refine ⟨?_, ?_, ?_, ?_, fun h => by rw [hl] at h; cases h⟩ <;> rcases h8 with ⟨rfl, _⟩ | ⟨rfl, _⟩ | ⟨rfl, _⟩ | ⟨rfl, _⟩ | ⟨rfl, _⟩ | ⟨rfl, _⟩ | ⟨rfl, _⟩ | ⟨rfl, _⟩ <;> decide
  · omega
theorem scan_dualN : ∀ (xs : List Int) (m a : Int), (∀ x ∈ xs, 0 ≤ arZ x) → scan (xs.map duZ) m a = scan xs m a
  | [], _, _, _ => rfl
  | x :: xs, m, a, h => by
    have hx := h x (by simp)
    have e := (du_symN hx).1
    simp only [List.map_cons, scan, e, scan_dualN xs _ _ (fun y hy => h y (by simp [hy]))]
theorem fe_dualN {f : List Int} (h : ∀ x ∈ f, 0 ≤ arZ x) (a : Nat) : fe (f.map duZ) a = fe f a := by
  rw [fe_any, fe_any, ← List.map_drop, scan_dualN _ _ _ (fun x hx => h x (List.mem_of_mem_drop hx))]
theorem valid_dualN {f : List Int} (h : validB f = true) : validB (f.map duZ) = true := by
  obtain ⟨h1, h2, h3⟩ := valid_len h
  have e := fe_dualN (valid_all h) 0
  rw [show ((0 : Nat) : Int) = 0 from rfl, h3] at e
  simp only [validB, decide_eq_true_eq]
  rw [feI_small (by simpa using h2), e]
  simp
theorem frag_dualN {f : List Int} (h : validB f = true) : fragV (f.map duZ) = fragV f := by
  rw [fragV_yes h, fragV_yes (valid_dualN h)]
  have e : ∀ v, occ (f.map duZ) v (f.map duZ).length = occ f v f.length := by
    intro v
    unfold occ
    rw [List.take_of_length_le (Nat.le_refl _), List.take_of_length_le (Nat.le_refl _), List.any_map]
    have e2 : ∀ x ∈ f, ((fun n => bitZ n == v) ∘ duZ) x = (fun n => bitZ n == v) x := fun x hx => by
      show (bitZ (duZ x) == v) = (bitZ x == v)
      rw [(du_symN (valid_all h x hx)).2.2.2.1]
    rw [Bool.eq_iff_iff, List.any_eq_true, List.any_eq_true]
    constructor
    · rintro ⟨x, hx, h'⟩; exact ⟨x, hx, (e2 x hx).symm.trans h'⟩
    · rintro ⟨x, hx, h'⟩; exact ⟨x, hx, (e2 x hx).trans h'⟩
  unfold fragK
  rw [e, e, e, e]
theorem gives_eq {w w' : World} {N M : Nt} {b : Bool} {e : Ending} (h : GivesNB w N b e w') (hN : N = M) : GivesNB w M b e w' := hN ▸ h
/-- The net of an axiom, before it is checked. -/
def axD (f : List Int) : Nt := ⟨[f, dualL f], [⟨1, 0, 1, 0⟩], [0, 1]⟩
theorem axD_small {f : List Int} (h : f.length ≤ 1048576) : SmallN (axD f) := by
  refine ⟨by simp [axD], ?_, by simp [axD], by simp [axD]⟩
  unfold axD
  dsimp only
  cases hv : validB f with
  | true =>
    have := valid_len hv
    have := dualL_len f
    simp [total]
    omega
  | false => rw [dualL_no hv]; simpa [total] using h
theorem formN_dual {f : List Int} (h : formN f = true) : formN (f.map duZ) = true := by
  unfold formN at h ⊢
  rw [frag_dualN (formN_valid h)]; exact h
theorem axD_val (f : List Int) : valN (axD f) = formN f := by
  cases hf : formN f with
  | false => exact valN_badw (N := axD f) (k := 0) (by simp [axD]) (by simpa [axD] using hf)
  | true =>
    have hd := dualL_yes (formN_valid hf)
    refine valN_yes (by simp [axD]) (by simp [axD, hf, hd, formN_dual hf]) ?_ (by simp [axD, inW]) ?_
    · simp only [axD, List.all_cons, List.all_nil, Bool.and_true]
      unfold fitsN rightN
      simp [inW, wAt, hd]
    · intro x hx
      have hx2 : x < 2 := by simpa [axD] using hx
      rcases x with _ | _ | x
      · simp [axD, madeN, usedN, concN, mk1, us1, one]
      · simp [axD, madeN, usedN, concN, mk1, us1, one]
      · omega
theorem axD_yes {f : List Int} (h : formN f = true) : axD f = axN f := by unfold axD axN; rw [dualL_yes (formN_valid h)]
theorem ax_own {w0 u2 u4 : World} {A1 A2 : Option Addr} {c1 c2 : Nat} {f df : List Int} {u1 : World}
    (o1 : u1.ownsRow w0.heap.size 2 1 (.slice A1 f.length c1) f.length (f.map (Value.int .i64))) (b1 : Below w0.heap.size w0 u1)
    (o2 : u2.ownsRow u1.heap.size 2 1 (.slice A2 df.length c2) df.length (df.map (Value.int .i64))) (b2 : Below u1.heap.size u1 u2)
    (b4 : Below (u2.alloc (.cells #[.slice A1 f.length c1, .slice A2 df.length c2] 24)).heap.size (u2.alloc (.cells #[.slice A1 f.length c1, .slice A2 df.length c2] 24)) u4) :
    ∃ g1 g2 g3 : Nat, g1 = u2.heap.size ∧ g2 = u4.heap.size ∧ g3 = u4.heap.size + 1 ∧
      OwnN ((u4.alloc (.cells #[.int .i64 1, .int .i64 0, .int .i64 1, .int .i64 0] 54)).alloc (.cells #[.int .i64 0, .int .i64 1] 2)) w0.heap.size ((u4.alloc (.cells #[.int .i64 1, .int .i64 0, .int .i64 1, .int .i64 0] 54)).alloc (.cells #[.int .i64 0, .int .i64 1] 2)).heap.size
        ⟨some ⟨g1, 0, none⟩, 2, fun i => if i = 0 then (A1, c1) else (A2, c2), some ⟨g2, 0, none⟩, 1, some ⟨g3, 0, none⟩, 2⟩ ⟨[f, df], [⟨1, 0, 1, 0⟩], [0, 1]⟩ ∧
      Below w0.heap.size w0 ((u4.alloc (.cells #[.int .i64 1, .int .i64 0, .int .i64 1, .int .i64 0] 54)).alloc (.cells #[.int .i64 0, .int .i64 1] 2)) := by
  have s1 := b1.size
  have s2 := b2.size
  have hq := OwnQ.two o1 o2 b2 s1
  have bq : Below u2.heap.size u2 (u2.alloc (.cells #[.slice A1 f.length c1, .slice A2 df.length c2] 24)) := (Below.refl _ _).alloc (Nat.le_refl _) _
  obtain ⟨u3, hu3⟩ : ∃ u3, u3 = u2.alloc (.cells #[.slice A1 f.length c1, .slice A2 df.length c2] 24) := ⟨_, rfl⟩
  have s3 : u3.heap.size = u2.heap.size + 1 := by rw [hu3]; simp
  rw [← hu3] at hq bq b4
  have s4 := b4.size
  have hl4 := own_lit (w := u4) (n := 1) (e := 54) (base := u4.heap.size) (size := 4) #[.int .i64 1, .int .i64 0, .int .i64 1, .int .i64 0] (Nat.le_refl _) (by simp [maxLen]) rfl
  have b5 : Below u4.heap.size u4 (u4.alloc (.cells #[.int .i64 1, .int .i64 0, .int .i64 1, .int .i64 0] 54)) := (Below.refl _ _).alloc (Nat.le_refl _) _
  obtain ⟨u5, hu5⟩ : ∃ u5, u5 = u4.alloc (.cells #[.int .i64 1, .int .i64 0, .int .i64 1, .int .i64 0] 54) := ⟨_, rfl⟩
  have s5 : u5.heap.size = u4.heap.size + 1 := by rw [hu5]; simp
  rw [← hu5] at hl4 b5 ⊢
  have hc5 := own_lit (w := u5) (n := 2) (e := 2) (base := u5.heap.size) (size := 1) #[.int .i64 0, .int .i64 1] (Nat.le_refl _) (by simp [maxLen]) rfl
  have b6 : Below u5.heap.size u5 (u5.alloc (.cells #[.int .i64 0, .int .i64 1] 2)) := (Below.refl _ _).alloc (Nat.le_refl _) _
  obtain ⟨u6, hu6⟩ : ∃ u6, u6 = u5.alloc (.cells #[.int .i64 0, .int .i64 1] 2) := ⟨_, rfl⟩
  have s6 : u6.heap.size = u5.heap.size + 1 := by rw [hu6]; simp
  rw [← hu6] at hc5 b6 ⊢
  have b46 := b5.trans (b6.mono b5.size)
  have b36 := b4.trans (b46.mono b4.size)
  have B6 : Below w0.heap.size w0 u6 := b1.trans ((b2.trans ((bq.trans (b36.mono bq.size)).mono b2.size)).mono s1)
  refine ⟨u2.heap.size, u4.heap.size, u5.heap.size, rfl, rfl, s5, ?_, B6⟩
  have hq6 : OwnQ u6 w0.heap.size u3.heap.size (.slice (some ⟨u2.heap.size, 0, none⟩) 2 2) (fun i => if i = 0 then (A1, c1) else (A2, c2)) [f, df] := (hq.below b36).more (Nat.le_refl _) (by omega)
  exact OwnN.mk' (m1 := u4.heap.size) (m2 := u5.heap.size) (hq6.more (Nat.le_refl _) (by omega)) (own_below hl4 b6 (Nat.le_refl _)) (fun b e => by have h9 : u4.heap.size = b := (by simpa [Value.ownBlock] using e); omega) hc5 (by omega) (by omega) (Nat.le_refl _) (by omega)
end
section
set_option linter.unusedSimpArgs false
set_option linter.unusedVariables false
open Go.ChangeAt Go.ChangeShapes Go.RowKit Go.WideShapes

theorem srcB_is {l : Lk} {x : Int} (h : l.k = 1 ∨ l.k = 2 ∨ l.k = 3 ∨ l.k = 4) : srcB x l = decide (x ∈ outL l) := by
  obtain ⟨k, a, b, c⟩ := l
  dsimp only at h
  rw [Bool.eq_iff_iff, decide_eq_true_iff]
  rcases h with rfl | rfl | rfl | rfl <;> simp [srcB, outL] <;> omega
theorem tgtB_is (l : Lk) (x : Int) : tgtB x l = decide (x ∈ inL l) := by
  obtain ⟨k, a, b, c⟩ := l
  rw [Bool.eq_iff_iff, decide_eq_true_iff]
  by_cases h : k = 1
  · subst h
    simp [tgtB, inL]
  · simp [tgtB, inL, h]
    omega
theorem first_ext {p q : Lk → Bool} {ls : List Lk} (h : ∀ l ∈ ls, p l = q l) : firstN p ls = firstN q ls := by
  unfold firstN
  have : ls.findIdx? p = ls.findIdx? q := by
    induction ls with
    | nil => rfl
    | cons l t ih =>
      rw [List.findIdx?_cons, List.findIdx?_cons, h l (List.mem_cons_self ..), ih fun k hk => h k (List.mem_cons_of_mem _ hk)]
  rw [this]
theorem srcN_val {N : Nt} {x : Int} (hv : valN N = true) : srcN N x = firstN (srcB x) N.l := by
  unfold srcN
  rw [hv, Bool.true_and]
  cases hx : inW N.w.length x with
  | true => rfl
  | false =>
    symm
    refine firstN_none fun j hj => ?_
    have hk := all_at (d := Lk.nil) (valN_fits hv) hj
    obtain ⟨h1, h2, h3, _⟩ := fitsN_yes hk
    rw [srcB_is (fitsN_kind hk), decide_eq_false]
    intro hm
    have := (List.all_eq_true.1 (outL_in (Nat.le_refl _) h1 h2 h3)) x hm
    rw [hx] at this; cases this
theorem tgtN_val {N : Nt} {x : Int} (hv : valN N = true) : tgtN N x = firstN (tgtB x) N.l := by
  unfold tgtN
  rw [hv, Bool.true_and]
  cases hx : inW N.w.length x with
  | true => rfl
  | false =>
    symm
    refine firstN_none fun j hj => ?_
    have hk := all_at (d := Lk.nil) (valN_fits hv) hj
    obtain ⟨h1, h2, h3, _⟩ := fitsN_yes hk
    rw [tgtB_is, decide_eq_false]
    intro hm
    have := (List.all_eq_true.1 (inL_in (Nat.le_refl _) h1 h2)) x hm
    rw [hx] at this; cases this
set_option maxHeartbeats 4000000 in
theorem linksOfKind_impl (h : NH) (N : Nt) (x : Int) (w : World) (r : RdN w w.heap.size h N) (sm : SmallN N) (ht : Arit w) (hu : Dual w) :
    Calls Tryz.prog 76 #[.agg #[.slice h.A N.w.length h.c, .slice h.L N.l.length h.d, .slice h.C N.c.length h.e], .int .i64 x] w (Gives w (kinN N x)) := by
  obtain ⟨i0, hi0, hz0, hz1, hz2⟩ := info_parts info_i64
  have HI := Lib.hid hi0; have HZ0 := Lib.hid hz0; have HZ1 := Lib.hid hz1; have HZ2 := Lib.hid hz2
  have s1 := sm.w; have s2 := sm.l; have s3 := sm.c
  obtain ⟨w0, hw0⟩ : ∃ w0, w0 = w.alloc (.cells #[.slice h.A N.w.length h.c, .slice h.L N.l.length h.d, .slice h.C N.c.length h.e] 30) := ⟨_, rfl⟩
  obtain ⟨hb, hh, hsz⟩ := box3_any w (.slice h.A N.w.length h.c) (.slice h.L N.l.length h.d) (.slice h.C N.c.length h.e) 30
  rw [← hw0] at hb hh hsz
  have HK : Hid (∀ w', Below w0.heap.size w0 w' → w'.cell? ⟨w.heap.size, 0, none⟩ = some (.slice h.A N.w.length h.c) ∧ w'.cell? ⟨w.heap.size, 1, none⟩ = some (.slice h.L N.l.length h.d) ∧ w'.cell? ⟨w.heap.size, 2, none⟩ = some (.slice h.C N.c.length h.e)) := Lib.hid fun w' hw => three_cells ((hw.block _ (by omega)).trans hh)
  have HR := Lib.hid (fun (w' : World) (hw : Below w0.heap.size w0 w') => ((r.below (hb.trans (hw.mono hb.size))).more (Nat.le_trans hb.size hw.size)))
  have hV := validNet_impl h N w0 (HR.out _ (Below.refl _ _)) sm (ht.below hb ht.lt) (hu.below hb hu.lt)
  have HB0 := Lib.hid hb
  obtain ⟨y0, y1, y2⟩ := three_cells hh
  clear hb hh hsz r hi0 hz0 hz1 hz2 ht hu sm
  cases hv : valN N with
  | false =>
    rw [hv] at hV
    have HV := Lib.hid hV
    rw [show kinN N x = [] by unfold kinN; rw [hv]; rfl]
    clear hV hv
    go_enter Tryz.func76, Tryz.ntmps76
    go_wp2_with (fail)
    rw [← hw0]
    clear hw0
    refine HV.out.mono ?_
    rintro e w1 ⟨rfl, bel⟩
    have HG := Lib.hid (gives_nil (HB0.out.trans (bel.mono HB0.out.size)))
    clear bel y0 y1 y2
    go_wp2
    go_ret
    exact HG.out
  | true =>
    rw [hv] at hV
    have HV := Lib.hid hV
    rw [show kinN N x = kinU x N.l N.l.length by unfold kinN; rw [hv]; rfl]
    clear hV hv
    go_enter Tryz.func76, Tryz.ntmps76
    go_wp2_with (fail)
    rw [← hw0]
    clear hw0
    refine HV.out.mono ?_
    rintro e w1 ⟨rfl, bel⟩
    have HB1 := Lib.hid bel
    clear bel y0 y1 y2
    obtain ⟨y0, y1, y2⟩ := HK.out _ HB1.out
    go_wp2
    go_loopw [5, 14] (fun v i wx => ∃ k : Nat, k ≤ N.l.length ∧ i = .int .i64 k ∧ wx.ownsRow w0.heap.size 2 1 v (kinU x N.l k).length ((kinU x N.l k).map (Value.int .i64)) ∧ Below w0.heap.size w0 wx) (fun _ i _ => N.l.length - (intOf i).toNat)
    case atStart => exact ⟨0, Nat.zero_le _, rfl, World.ownsRow_nil _ _ _ _, HB1.out⟩
    case round =>
      obtain ⟨k, hk, rfl, hO, hB⟩ := hrel
      clear y0 y1 y2 HB1
      by_cases hlt : k < N.l.length
      · obtain ⟨b, off, hA, hbb, hcells⟩ := (HR.out _ hB).2.1.at (show 0 < N.l.length by omega)
        obtain ⟨x0, x1, x2, x3⟩ := hcells k hlt
        have hln := kinU_len x N.l k
        have hyes := fun e => kinU_yes (x := x) (ls := N.l) (k := k) e
        have hno := fun e => kinU_no (x := x) (ls := N.l) (k := k) e
        obtain ⟨⟨lk, la, lb, lc⟩, hl⟩ : ∃ l, N.l.getD k Lk.nil = l := ⟨_, rfl⟩
        rw [hl] at x0 x1 x2 x3 hyes hno
        dsimp only at x0 x1 x2 x3 hyes hno
        obtain ⟨bl, z0, z1, z2, z3, zs⟩ := lnk_any wr ⟨lk, la, lb, lc⟩ 54
        dsimp only at bl z0 z1 z2 z3
        obtain ⟨u1, hu1⟩ : ∃ u1, u1 = wr.alloc (.cells #[.int .i64 lk, .int .i64 la, .int .i64 lb, .int .i64 lc] 54) := ⟨_, rfl⟩
        have HU1 := Lib.hid hu1
        rw [← hu1] at bl
        have BL := Lib.hid (hB.trans (bl.mono hB.size))
        have HO1 := Lib.hid (own_below hO bl (Nat.le_refl _))
        have HA := Lib.hid hA
        clear hcells hB hO bl zs hl hu1
        obtain ⟨hAd, hcd, hhs, hL, hd, hC, he⟩ := h
        dsimp only at hA
        subst hA
        by_cases hkd : lk = x
        · have hd : (lk == x) = true := by simpa using hkd
          have HS := Lib.hid (hyes hkd)
          have HLN : Hid ((kinU x N.l (k + 1)).length = (kinU x N.l k).length + 1) := Lib.hid (by rw [HS.out]; simp)
          clear hkd hyes hno
          go_upto_region 8 with (fail)
          rw [← HU1.out]
          clear z0 z1 z2 z3 x0 x1 x2 x3 HU1
          have hsz1 := BL.out.size
          go_wp2_with (at_builtin; refine wpList_append_own _ rfl _ _ 24 rfl w0.heap.size 2 i0 (.int .i64 0) 1 8 Tryz.underlying24 HI.out HZ0.out HZ1.out HZ2.out rfl (by decide) _ _ _ rfl (HO1.out.alloc _) ⟨u1.heap.size, 0, none⟩ 1 1 [.int .i64 k] rfl rfl ?c1 ?c2 ?c3 ?c4 ?c5 ?_)
          (try (case c1 => exact cell_one_new _ _ _))
          case c2 => first | rfl | (intro u hu; simp at hu; subst hu; rfl)
          case c3 => unfold maxLen; omega
          case c4 => omega
          case c5 => first | omega | (simp; omega)
          intro v' w2 hown' hgrow _
          have hb2 := Lib.hid ((BL.out.alloc hsz1 (.cells #[.int .i64 k] 2)).grown hgrow (by simp; omega) (fun q hq => (HO1.out.lt q hq).1))
          have hown2 : w2.ownsRow w0.heap.size 2 1 v' (kinU x N.l (k + 1)).length ((kinU x N.l (k + 1)).map (Value.int .i64)) := by
            rw [HLN.out, HS.out, List.map_append]; exact hown'
          have hown1 := Lib.hid hown2
          clear hown' hgrow hown2 hsz1
          go_wp2
          go_roundw
          case rel => exact ⟨k + 1, by omega, by go_num, hown1.out, hb2.out⟩
          case measure => simp [intOf]; omega
        · have hd : (lk == x) = false := by simpa using hkd
          have HO2 := HO1.out
          rw [← hno hkd] at HO2
          have HO3 := Lib.hid HO2
          have BL2 := BL.out
          rw [HU1.out] at BL2 HO2
          have HO4 := Lib.hid HO2; have BL3 := Lib.hid BL2
          clear hkd hyes hno HO2 BL2
          go_wp2
          go_roundw
          case rel => exact ⟨k + 1, by omega, by go_num, HO4.out, BL3.out⟩
          case measure => simp [intOf]; omega
      · have hkl : k = N.l.length := by omega
        subst hkl
        have HG := Lib.hid (gives_own hO HB0.out.size (HB0.out.trans (hB.mono HB0.out.size)))
        clear hO hB
        go_wp2
        go_ret
        exact HG.out
end
section
open Go.RowKit

/-- The leaves among the first k symbols. -/
def flt (f : List Int) (k : Nat) : List Int := (f.take k).filter leafB
theorem flt_zero (f : List Int) : flt f 0 = [] := by simp [flt]
theorem flt_yes {f : List Int} {k : Nat} (hk : k < f.length) (h : leafB (f.getD k 0) = true) : flt f (k + 1) = flt f k ++ [f.getD k 0] := by
  unfold flt
  have e : f.getD k 0 = f[k] := by simp [List.getD, hk]
  have e2 : List.filter leafB [f.getD k 0] = [f.getD k 0] := by rw [List.filter_cons, if_pos h]; rfl
  rw [List.take_succ_eq_append_getElem hk, List.filter_append, ← e, e2]
theorem flt_no {f : List Int} {k : Nat} (hk : k < f.length) (h : leafB (f.getD k 0) = false) : flt f (k + 1) = flt f k := by
  unfold flt
  have e : f.getD k 0 = f[k] := by simp [List.getD, hk]
  have e2 : List.filter leafB [f.getD k 0] = [] := by rw [List.filter_cons, if_neg (by rw [h]; decide)]; rfl
  rw [List.take_succ_eq_append_getElem hk, List.filter_append, ← e, e2, List.append_nil]
theorem flt_len (f : List Int) (k : Nat) : (flt f k).length ≤ k := by
  unfold flt; exact Nat.le_trans (List.length_filter_le _ _) (List.length_take_le _ _)
theorem flt_all (f : List Int) : flt f f.length = f.filter leafB := by simp [flt]
/-- LeavesOf. -/
def leavesL (f : List Int) : List Int := if validB f then f.filter leafB else []
theorem leavesL_yes {f : List Int} (h : validB f = true) : leavesL f = flt f f.length := by simp [leavesL, h, flt_all]
theorem leavesL_no {f : List Int} (h : validB f = false) : leavesL f = [] := by simp [leavesL, h]
theorem leavesL_len (f : List Int) : (leavesL f).length ≤ 24 := by
  cases h : validB f with
  | true => rw [leavesL_yes h]; exact Nat.le_trans (flt_len _ _) (valid_len h).2.1
  | false => rw [leavesL_no h]; simp

theorem own_form {w : World} {base n : Nat} {e : TypeId} {v : Value} {xs : List Value} (h : w.ownsRow base e 1 v n xs) : ∃ A c, v = .slice A n c := by
  rcases h.2 with ⟨rfl, rfl⟩ | ⟨g, cap, cur, rfl, _⟩
  · exact ⟨_, _, rfl⟩
  · exact ⟨_, _, rfl⟩

theorem flt_push {w : World} {base : Nat} {v : Value} {f : List Int} {k : Nat} {x : Int} (hk : k < f.length) (hx : f.getD k 0 = x) (h : leafB x = true) (hown : w.ownsRow base 2 1 v ((flt f k).length + 1) ((flt f k).map (Value.int .i64) ++ [.int .i64 x])) :
    w.ownsRow base 2 1 v (flt f (k + 1)).length ((flt f (k + 1)).map (Value.int .i64)) := by
  subst hx
  rw [flt_yes hk h, List.length_append, List.map_append]
  exact hown

end
section
set_option linter.unusedSimpArgs false
set_option linter.unusedVariables false
open Go.ChangeAt Go.ChangeShapes Go.RowKit Go.WideShapes
end
end Go.Proofs.YtgpocnapkflihaaGreatDoor
