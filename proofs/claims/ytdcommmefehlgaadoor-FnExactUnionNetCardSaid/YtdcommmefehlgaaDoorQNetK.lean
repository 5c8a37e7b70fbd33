/- The links of a kind, of the model. A list without two of its elements, of the model. The program's SourceOf, TargetOf, LinksOfKind. -/
import Derived.Test.YtdcommmefehlgaaDoorQPgK
import Derived.Test.YtdcommmefehlgaaDoorQMath
import Derived.Test.YtdcommmefehlgaaDoorQPgG
namespace Go.Proofs.YtdcommmefehlgaaDoor
set_option linter.unusedSimpArgs false
set_option linter.unusedVariables false
section
open Go.ChangeAt Go.ChangeShapes Go.RowKit Go.WideShapes

/-- The links of a kind among the first k. -/
def kinU (x : Int) (ls : List Lk) (k : Nat) : List Int := ((List.range k).filter fun i => (ls.getD i Lk.nil).k == x).map fun i : Nat => (i : Int)
theorem kinU_zero (x : Int) (ls : List Lk) : kinU x ls 0 = [] := rfl
theorem kinU_yes {x : Int} {ls : List Lk} {k : Nat} (h : (ls.getD k Lk.nil).k = x) : kinU x ls (k + 1) = kinU x ls k ++ [(k : Int)] := by
  unfold kinU; rw [List.range_succ, List.filter_append, List.map_append]
  simp only [List.filter_cons, List.filter_nil]
  rw [if_pos (by simpa using h)]; rfl
theorem kinU_no {x : Int} {ls : List Lk} {k : Nat} (h : ¬ (ls.getD k Lk.nil).k = x) : kinU x ls (k + 1) = kinU x ls k := by
  unfold kinU; rw [List.range_succ, List.filter_append, List.map_append]
  simp only [List.filter_cons, List.filter_nil]
  rw [if_neg (by simpa using h)]; simp
theorem kinU_len (x : Int) (ls : List Lk) (k : Nat) : (kinU x ls k).length ≤ k := by
  unfold kinU
  rw [List.length_map]
  exact Nat.le_trans (List.length_filter_le _ _) (by simp)
/-- LinksOfKind. -/
def kinN (N : Nt) (x : Int) : List Int := if valN N then kinU x N.l N.l.length else []
theorem kinN_len (N : Nt) (x : Int) : (kinN N x).length ≤ 48 := by
  unfold kinN
  cases hv : valN N with
  | false => simp
  | true => rw [if_pos rfl]; exact Nat.le_trans (kinU_len x N.l _) (valN_size hv).2
/-- No round, or the net is valid. -/
def OrV (k : Nat) (N : Nt) : Prop := k = 0 ∨ valN N = true
theorem gives_of {w w' : World} {v : Value} {n : Nat} {xs ys : List Int} {b : Nat} (h : w'.ownsRow b 2 1 v n (xs.map (Value.int .i64))) (hn : n = xs.length) (hx : xs = ys) (hb : w.heap.size ≤ b) (bel : Below w.heap.size w w') : Gives w ys (.returned v) w' := by
  subst hn; subst hx
  obtain ⟨A, c, rfl⟩ := own_shape h
  exact ⟨A, c, rfl, h.mono hb, bel⟩
end
section
open Go.ChangeAt Go.ChangeShapes Go.RowKit Go.WideShapes

/-- The first k elements but those at i and j. -/
def lessU (cs : List Int) (i j : Int) (k : Nat) : List Int := ((List.range k).filter fun (t : Nat) => (t : Int) != i && (t : Int) != j).map fun t => cs.getD t 0
def lessL (cs : List Int) (i j : Int) : List Int := lessU cs i j cs.length
theorem lessU_yes {cs : List Int} {i j : Int} {k : Nat} (h : ((k : Int) != i && (k : Int) != j) = true) : lessU cs i j (k + 1) = lessU cs i j k ++ [cs.getD k 0] := by
  unfold lessU; rw [List.range_succ, List.filter_append, List.map_append]
  simp only [List.filter_cons, List.filter_nil]
  rw [if_pos h]; rfl
theorem lessU_no {cs : List Int} {i j : Int} {k : Nat} (h : ((k : Int) != i && (k : Int) != j) = false) : lessU cs i j (k + 1) = lessU cs i j k := by
  unfold lessU; rw [List.range_succ, List.filter_append, List.map_append]
  simp only [List.filter_cons, List.filter_nil]
  rw [if_neg (by rw [h]; decide)]; simp
theorem lessU_len (cs : List Int) (i j : Int) (k : Nat) : (lessU cs i j k).length ≤ k := by
  unfold lessU
  rw [List.length_map]
  exact Nat.le_trans (List.length_filter_le _ _) (by simp)
set_option maxHeartbeats 2000000 in
theorem sLess_any (A : Option Addr) (n c : Nat) (cs : List Int) (i j : Int) (w : World) (r : RdI w w.heap.size A n cs) (hn : n ≤ 1048576) :
    Calls Tryd.prog 55 #[.slice A n c, .int .i64 i, .int .i64 j] w (Gives w (lessL cs i j)) := by
  obtain ⟨i0, hi0, hz0, hz1, hz2⟩ := info_parts info_i64
  have HI := Lib.hid hi0; have HZ0 := Lib.hid hz0; have HZ1 := Lib.hid hz1; have HZ2 := Lib.hid hz2
  have hl := r.len
  subst hl
  have h0 : (w.alloc (.cells #[] 2)).ownsRow w.heap.size 2 1 (.slice (some ⟨w.heap.size, 0, none⟩) 0 0) 0 ((lessU cs i j 0).map (Value.int .i64)) := World.ownsRow_made w #[] 0 (Nat.le_refl _) (by simp [maxLen]) rfl
  have hb0 : Below w.heap.size w (w.alloc (.cells #[] 2)) := (Below.refl _ _).alloc (Nat.le_refl _) _
  have H0 := Lib.hid h0; have HB0 := Lib.hid hb0
  clear hi0 hz0 hz1 hz2 h0 hb0
  go_enter Tryd.func55, Tryd.ntmps55
  go_wp2
  go_loopw [7, 8] (fun v t wx => ∃ k : Nat, k ≤ cs.length ∧ t = .int .i64 k ∧ wx.ownsRow w.heap.size 2 1 v (lessU cs i j k).length ((lessU cs i j k).map (Value.int .i64)) ∧ Below w.heap.size w wx) (fun _ t _ => cs.length - (intOf t).toNat)
  case atStart => exact ⟨0, Nat.zero_le _, rfl, H0.out, HB0.out⟩
  case round =>
    obtain ⟨k, hk, rfl, hO, hB⟩ := hrel
    clear H0 HB0
    by_cases hlt : k < cs.length
    · obtain ⟨b, off, rfl, hbb, hcells⟩ := r.2 (by omega)
      have hc := (hB.cell (p := ⟨b, off + k, none⟩) hbb).trans (hcells k hlt)
      cases ht : ((k : Int) != i && (k : Int) != j) with
      | true =>
        have HS := Lib.hid (lessU_yes (cs := cs) ht)
        have hln := lessU_len cs i j k
        obtain ⟨z, hz⟩ : ∃ z, cs.getD k 0 = z := ⟨_, rfl⟩
        rw [hz] at hc HS
        simp only [Bool.and_eq_true] at ht
        obtain ⟨d1, d2⟩ := ht
        have HLN : Hid ((lessU cs i j (k + 1)).length = (lessU cs i j k).length + 1) := Lib.hid (by rw [HS.out]; simp)
        have HO := Lib.hid hO; have HB := Lib.hid hB
        have hsz := hB.size
        clear hO hB hz hcells
        go_wp2_with (at_builtin; refine wpList_append_own _ rfl _ _ 24 rfl w.heap.size 2 i0 (.int .i64 0) 1 8 Tryd.underlying24 HI.out HZ0.out HZ1.out HZ2.out rfl (by decide) _ _ _ rfl (HO.out.alloc _) ⟨wr.heap.size, 0, none⟩ 1 1 [.int .i64 z] rfl rfl ?c1 ?c2 ?c3 ?c4 ?c5 ?_)
        case c1 => exact cell_one_new _ _ _
        case c2 => intro u hu; simp at hu; subst hu; rfl
        case c3 => unfold maxLen; omega
        case c4 => omega
        case c5 => simp; omega
        intro v' w2 hown' hgrow _
        have hb2 := Lib.hid ((HB.out.alloc hsz (.cells #[.int .i64 z] 2)).grown hgrow (by simp; omega) (fun q hq => (HO.out.lt q hq).1))
        have hown2 : w2.ownsRow w.heap.size 2 1 v' (lessU cs i j (k + 1)).length ((lessU cs i j (k + 1)).map (Value.int .i64)) := by
          rw [HLN.out, HS.out, List.map_append]; exact hown'
        have hown1 := Lib.hid hown2
        clear hown' hgrow hown2 hsz
        go_wp2
        go_roundw
        case rel => exact ⟨k + 1, by omega, by go_num, hown1.out, hb2.out⟩
        case measure => simp [intOf]; omega
      | false =>
        have HS := Lib.hid (lessU_no (cs := cs) ht)
        have hO2 := hO
        rw [← HS.out] at hO2
        have HO2 := Lib.hid hO2; have HB := Lib.hid hB
        clear hO hB hO2 hcells
        cases d1 : ((k : Int) != i) with
        | false =>
          clear ht
          go_wp2
          go_roundw
          case rel => exact ⟨k + 1, by omega, by go_num, HO2.out, HB.out⟩
          case measure => simp [intOf]; omega
        | true =>
          rw [d1, Bool.true_and] at ht
          go_wp2
          go_roundw
          case rel => exact ⟨k + 1, by omega, by go_num, HO2.out, HB.out⟩
          case measure => simp [intOf]; omega
    · have hkl : k = cs.length := by omega
      subst hkl
      have HG := Lib.hid (gives_of hO rfl (rfl : lessU cs i j cs.length = lessL cs i j) (Nat.le_refl _) hB)
      clear hO hB
      go_wp2
      go_ret
      exact HG.out
end
section
set_option linter.unusedSimpArgs false
set_option linter.unusedVariables false
open Go.ChangeAt Go.ChangeShapes Go.RowKit Go.WideShapes

theorem srcB_is {l : Lk} {x : Int} (h : l.k = 1 ∨ l.k = 2 ∨ l.k = 3 ∨ l.k = 4) : srcB x l = decide (x ∈ outL l) := by
  obtain ⟨k, a, b, c⟩ := l
  dsimp only at h
  rw [Bool.eq_iff_iff, decide_eq_true_iff]
  rcases h with rfl | rfl | rfl | rfl <;> simp [srcB, outL] <;> omega
theorem tgtB_is (l : Lk) (x : Int) : tgtB x l = decide (x ∈ inL l) := by
  obtain ⟨k, a, b, c⟩ := l
  rw [Bool.eq_iff_iff, decide_eq_true_iff]
  by_cases h : k = 1
  · subst h
    simp [tgtB, inL]
  · simp [tgtB, inL, h]
    omega
theorem first_ext {p q : Lk → Bool} {ls : List Lk} (h : ∀ l ∈ ls, p l = q l) : firstN p ls = firstN q ls := by
  unfold firstN
  have : ls.findIdx? p = ls.findIdx? q := by
    induction ls with
    | nil => rfl
    | cons l t ih =>
      rw [List.findIdx?_cons, List.findIdx?_cons, h l (List.mem_cons_self ..), ih fun k hk => h k (List.mem_cons_of_mem _ hk)]
  rw [this]
theorem srcN_val {N : Nt} {x : Int} (hv : valN N = true) : srcN N x = firstN (srcB x) N.l := by
  unfold srcN
  rw [hv, Bool.true_and]
  cases hx : inW N.w.length x with
  | true => rfl
  | false =>
    symm
    refine firstN_none fun j hj => ?_
    have hk := all_at (d := Lk.nil) (valN_fits hv) hj
    obtain ⟨h1, h2, h3, _⟩ := fitsN_yes hk
    rw [srcB_is (fitsN_kind hk), decide_eq_false]
    intro hm
    have := (List.all_eq_true.1 (outL_in (Nat.le_refl _) h1 h2 h3)) x hm
    rw [hx] at this; cases this
theorem tgtN_val {N : Nt} {x : Int} (hv : valN N = true) : tgtN N x = firstN (tgtB x) N.l := by
  unfold tgtN
  rw [hv, Bool.true_and]
  cases hx : inW N.w.length x with
  | true => rfl
  | false =>
    symm
    refine firstN_none fun j hj => ?_
    have hk := all_at (d := Lk.nil) (valN_fits hv) hj
    obtain ⟨h1, h2, h3, _⟩ := fitsN_yes hk
    rw [tgtB_is, decide_eq_false]
    intro hm
    have := (List.all_eq_true.1 (inL_in (Nat.le_refl _) h1 h2)) x hm
    rw [hx] at this; cases this
set_option maxHeartbeats 4000000 in
theorem srcW (h : NH) (N : Nt) (x : Int) (w : World) (r : RdN w w.heap.size h N) (sm : SmallN N) (ht : Arit w) (hu : Dual w) :
    Calls Tryd.prog 69 #[.agg #[.slice h.A N.w.length h.c, .slice h.L N.l.length h.d, .slice h.C N.c.length h.e], .int .i64 x, .func (.func 70) #[] #[]] w fun e w' => e = .returned (.int .i64 (if valN N = true then firstN (fun l => decide (x ∈ outL l)) N.l else -1)) ∧ Below w.heap.size w w' := by
  have s1 := sm.w; have s2 := sm.l; have s3 := sm.c
  obtain ⟨w0, hw0⟩ : ∃ w0, w0 = w.alloc (.cells #[.slice h.A N.w.length h.c, .slice h.L N.l.length h.d, .slice h.C N.c.length h.e] 30) := ⟨_, rfl⟩
  obtain ⟨hb, hh, hsz⟩ := box3_any w (.slice h.A N.w.length h.c) (.slice h.L N.l.length h.d) (.slice h.C N.c.length h.e) 30
  rw [← hw0] at hb hh hsz
  have HK : Hid (∀ w', Below w0.heap.size w0 w' → w'.cell? ⟨w.heap.size, 0, none⟩ = some (.slice h.A N.w.length h.c) ∧ w'.cell? ⟨w.heap.size, 1, none⟩ = some (.slice h.L N.l.length h.d) ∧ w'.cell? ⟨w.heap.size, 2, none⟩ = some (.slice h.C N.c.length h.e)) := Lib.hid fun w' hw => three_cells ((hw.block _ (by omega)).trans hh)
  have HR := Lib.hid (fun (w' : World) (hw : Below w0.heap.size w0 w') => ((r.below (hb.trans (hw.mono hb.size))).more (Nat.le_trans hb.size hw.size)))
  have hV := validNet_impl h N w0 (HR.out _ (Below.refl _ _)) sm (ht.below hb ht.lt) (hu.below hb hu.lt)
  have HB0 := Lib.hid hb
  obtain ⟨y0, y1, y2⟩ := three_cells hh
  clear hb hh hsz r ht hu sm
  cases hv : valN N with
  | false =>
    rw [hv] at hV
    have HV := Lib.hid hV
    rw [if_neg (by decide)]
    clear hV hv
    go_enter Tryd.func69, Tryd.ntmps69
    go_wp2_with (fail)
    rw [← hw0]
    clear hw0
    refine HV.out.mono ?_
    rintro e w1 ⟨rfl, bel⟩
    have HG := Lib.hid (HB0.out.trans (bel.mono HB0.out.size))
    clear bel y0 y1 y2
    go_wp2
    go_ret
    exact ⟨rfl, HG.out⟩
  | true =>
    rw [hv] at hV
    have HV := Lib.hid hV
    rw [if_pos rfl]
    clear hV hv
    go_enter Tryd.func69, Tryd.ntmps69
    go_wp2_with (fail)
    rw [← hw0]
    clear hw0
    refine HV.out.mono ?_
    rintro e w1 ⟨rfl, bel⟩
    have HB1 := Lib.hid bel
    clear bel y0 y1 y2
    obtain ⟨y0, y1, y2⟩ := HK.out _ HB1.out
    go_wp2
    go_loopw [15] (fun i wx => ∃ k : Nat, k ≤ N.l.length ∧ i = .int .i64 k ∧ (∀ j, j < k → (fun l => decide (x ∈ outL l)) (N.l.getD j Lk.nil) = false) ∧ Below w0.heap.size w0 wx) (fun i _ => N.l.length - (intOf i).toNat)
    case atStart => exact ⟨0, Nat.zero_le _, rfl, fun j hj => absurd hj (by omega), HB1.out⟩
    case round =>
      obtain ⟨k, hk, rfl, hno, hB⟩ := hrel
      clear y0 y1 y2 HB1
      by_cases hlt : k < N.l.length
      · obtain ⟨b, off, hA, hbb, hcells⟩ := (HR.out _ hB).2.1.at (show 0 < N.l.length by omega)
        obtain ⟨x0, x1, x2, x3⟩ := hcells k hlt
        have hyes := fun e => firstN_at (p := fun l => decide (x ∈ outL l)) hlt hno e
        have hst := fun e => below_step (p := fun l => decide (x ∈ outL l)) hno e
        obtain ⟨⟨lk, la, lb, lc⟩, hl⟩ : ∃ l, N.l.getD k Lk.nil = l := ⟨_, rfl⟩
        rw [hl] at x0 x1 x2 x3 hyes hst
        dsimp only at x0 x1 x2 x3 hyes hst
        obtain ⟨bl, z0, z1, z2, z3, zs⟩ := lnk_any wr ⟨lk, la, lb, lc⟩ 72
        dsimp only at bl z0 z1 z2 z3
        obtain ⟨u1, hu1⟩ : ∃ u1, u1 = wr.alloc (.cells #[.int .i64 lk, .int .i64 la, .int .i64 lb, .int .i64 lc] 72) := ⟨_, rfl⟩
        have HU1 := Lib.hid hu1
        rw [← hu1] at bl
        have BL := Lib.hid (hB.trans (bl.mono hB.size))
        have HY := Lib.hid hyes; have HST := Lib.hid hst
        clear hcells hB bl zs hl hu1 hno hyes hst
        obtain ⟨hAd, hcd, hhs, hL, hd, hC, he⟩ := h
        dsimp only at hA
        subst hA
        go_wp2_with (fail)
        rw [← HU1.out]
        clear z0 z1 z2 z3 x0 x1 x2 x3 HU1
        refine (show Calls Tryd.prog 70 #[.agg #[.int .i64 lk, .int .i64 la, .int .i64 lb, .int .i64 lc]] u1 (Gives u1 (outL ⟨lk, la, lb, lc⟩)) from outputsOf_any ⟨lk, la, lb, lc⟩ u1).mono ?_
        rintro e u2 ⟨A2, c2, rfl, o2, b2⟩
        have BL2 := Lib.hid (BL.out.trans (b2.mono BL.out.size))
        have HCN := Lib.hid (containsI_any A2 _ c2 (outL ⟨lk, la, lb, lc⟩) x u2 (RdI.of_own o2) (Nat.le_trans (outL_len _) (by decide)))
        clear o2 b2
        cases hm : decide (x ∈ outL ⟨lk, la, lb, lc⟩) with
        | true =>
          rw [hm] at HCN
          have HE := Lib.hid (HY.out hm)
          have HBX := Lib.hid (HB0.out.trans (BL2.out.mono HB0.out.size))
          clear hm
          go_wp2_with (fail)
          refine HCN.out.mono ?_
          rintro e u3 ⟨rfl, rfl⟩
          go_wp2
          go_ret
          exact ⟨ret_i64 HE.out.symm, HBX.out⟩
        | false =>
          rw [hm] at HCN
          have HE := Lib.hid (HST.out hm)
          clear hm
          go_wp2_with (fail)
          refine HCN.out.mono ?_
          rintro e u3 ⟨rfl, rfl⟩
          go_wp2
          go_roundw
          case rel => exact ⟨k + 1, by omega, by go_num, HE.out, BL2.out⟩
          case measure => simp [intOf]; omega
      · have hkl : k = N.l.length := by omega
        subst hkl
        have HE := Lib.hid (firstN_none (p := fun l => decide (x ∈ outL l)) hno)
        have HBX := Lib.hid (HB0.out.trans (hB.mono HB0.out.size))
        clear hno hB
        go_wp2
        go_ret
        exact ⟨ret_i64 HE.out.symm, HBX.out⟩
set_option maxHeartbeats 4000000 in
theorem tgtW (h : NH) (N : Nt) (x : Int) (w : World) (r : RdN w w.heap.size h N) (sm : SmallN N) (ht : Arit w) (hu : Dual w) :
    Calls Tryd.prog 69 #[.agg #[.slice h.A N.w.length h.c, .slice h.L N.l.length h.d, .slice h.C N.c.length h.e], .int .i64 x, .func (.func 71) #[] #[]] w fun e w' => e = .returned (.int .i64 (if valN N = true then firstN (fun l => decide (x ∈ inL l)) N.l else -1)) ∧ Below w.heap.size w w' := by
  have s1 := sm.w; have s2 := sm.l; have s3 := sm.c
  obtain ⟨w0, hw0⟩ : ∃ w0, w0 = w.alloc (.cells #[.slice h.A N.w.length h.c, .slice h.L N.l.length h.d, .slice h.C N.c.length h.e] 30) := ⟨_, rfl⟩
  obtain ⟨hb, hh, hsz⟩ := box3_any w (.slice h.A N.w.length h.c) (.slice h.L N.l.length h.d) (.slice h.C N.c.length h.e) 30
  rw [← hw0] at hb hh hsz
  have HK : Hid (∀ w', Below w0.heap.size w0 w' → w'.cell? ⟨w.heap.size, 0, none⟩ = some (.slice h.A N.w.length h.c) ∧ w'.cell? ⟨w.heap.size, 1, none⟩ = some (.slice h.L N.l.length h.d) ∧ w'.cell? ⟨w.heap.size, 2, none⟩ = some (.slice h.C N.c.length h.e)) := Lib.hid fun w' hw => three_cells ((hw.block _ (by omega)).trans hh)
  have HR := Lib.hid (fun (w' : World) (hw : Below w0.heap.size w0 w') => ((r.below (hb.trans (hw.mono hb.size))).more (Nat.le_trans hb.size hw.size)))
  have hV := validNet_impl h N w0 (HR.out _ (Below.refl _ _)) sm (ht.below hb ht.lt) (hu.below hb hu.lt)
  have HB0 := Lib.hid hb
  obtain ⟨y0, y1, y2⟩ := three_cells hh
  clear hb hh hsz r ht hu sm
  cases hv : valN N with
  | false =>
    rw [hv] at hV
    have HV := Lib.hid hV
    rw [if_neg (by decide)]
    clear hV hv
    go_enter Tryd.func69, Tryd.ntmps69
    go_wp2_with (fail)
    rw [← hw0]
    clear hw0
    refine HV.out.mono ?_
    rintro e w1 ⟨rfl, bel⟩
    have HG := Lib.hid (HB0.out.trans (bel.mono HB0.out.size))
    clear bel y0 y1 y2
    go_wp2
    go_ret
    exact ⟨rfl, HG.out⟩
  | true =>
    rw [hv] at hV
    have HV := Lib.hid hV
    rw [if_pos rfl]
    clear hV hv
    go_enter Tryd.func69, Tryd.ntmps69
    go_wp2_with (fail)
    rw [← hw0]
    clear hw0
    refine HV.out.mono ?_
    rintro e w1 ⟨rfl, bel⟩
    have HB1 := Lib.hid bel
    clear bel y0 y1 y2
    obtain ⟨y0, y1, y2⟩ := HK.out _ HB1.out
    go_wp2
    go_loopw [15] (fun i wx => ∃ k : Nat, k ≤ N.l.length ∧ i = .int .i64 k ∧ (∀ j, j < k → (fun l => decide (x ∈ inL l)) (N.l.getD j Lk.nil) = false) ∧ Below w0.heap.size w0 wx) (fun i _ => N.l.length - (intOf i).toNat)
    case atStart => exact ⟨0, Nat.zero_le _, rfl, fun j hj => absurd hj (by omega), HB1.out⟩
    case round =>
      obtain ⟨k, hk, rfl, hno, hB⟩ := hrel
      clear y0 y1 y2 HB1
      by_cases hlt : k < N.l.length
      · obtain ⟨b, off, hA, hbb, hcells⟩ := (HR.out _ hB).2.1.at (show 0 < N.l.length by omega)
        obtain ⟨x0, x1, x2, x3⟩ := hcells k hlt
        have hyes := fun e => firstN_at (p := fun l => decide (x ∈ inL l)) hlt hno e
        have hst := fun e => below_step (p := fun l => decide (x ∈ inL l)) hno e
        obtain ⟨⟨lk, la, lb, lc⟩, hl⟩ : ∃ l, N.l.getD k Lk.nil = l := ⟨_, rfl⟩
        rw [hl] at x0 x1 x2 x3 hyes hst
        dsimp only at x0 x1 x2 x3 hyes hst
        obtain ⟨bl, z0, z1, z2, z3, zs⟩ := lnk_any wr ⟨lk, la, lb, lc⟩ 72
        dsimp only at bl z0 z1 z2 z3
        obtain ⟨u1, hu1⟩ : ∃ u1, u1 = wr.alloc (.cells #[.int .i64 lk, .int .i64 la, .int .i64 lb, .int .i64 lc] 72) := ⟨_, rfl⟩
        have HU1 := Lib.hid hu1
        rw [← hu1] at bl
        have BL := Lib.hid (hB.trans (bl.mono hB.size))
        have HY := Lib.hid hyes; have HST := Lib.hid hst
        clear hcells hB bl zs hl hu1 hno hyes hst
        obtain ⟨hAd, hcd, hhs, hL, hd, hC, he⟩ := h
        dsimp only at hA
        subst hA
        go_wp2_with (fail)
        rw [← HU1.out]
        clear z0 z1 z2 z3 x0 x1 x2 x3 HU1
        refine (show Calls Tryd.prog 71 #[.agg #[.int .i64 lk, .int .i64 la, .int .i64 lb, .int .i64 lc]] u1 (Gives u1 (inL ⟨lk, la, lb, lc⟩)) from inputsOf_any ⟨lk, la, lb, lc⟩ u1).mono ?_
        rintro e u2 ⟨A2, c2, rfl, o2, b2⟩
        have BL2 := Lib.hid (BL.out.trans (b2.mono BL.out.size))
        have HCN := Lib.hid (containsI_any A2 _ c2 (inL ⟨lk, la, lb, lc⟩) x u2 (RdI.of_own o2) (Nat.le_trans (inL_len _) (by decide)))
        clear o2 b2
        cases hm : decide (x ∈ inL ⟨lk, la, lb, lc⟩) with
        | true =>
          rw [hm] at HCN
          have HE := Lib.hid (HY.out hm)
          have HBX := Lib.hid (HB0.out.trans (BL2.out.mono HB0.out.size))
          clear hm
          go_wp2_with (fail)
          refine HCN.out.mono ?_
          rintro e u3 ⟨rfl, rfl⟩
          go_wp2
          go_ret
          exact ⟨ret_i64 HE.out.symm, HBX.out⟩
        | false =>
          rw [hm] at HCN
          have HE := Lib.hid (HST.out hm)
          clear hm
          go_wp2_with (fail)
          refine HCN.out.mono ?_
          rintro e u3 ⟨rfl, rfl⟩
          go_wp2
          go_roundw
          case rel => exact ⟨k + 1, by omega, by go_num, HE.out, BL2.out⟩
          case measure => simp [intOf]; omega
      · have hkl : k = N.l.length := by omega
        subst hkl
        have HE := Lib.hid (firstN_none (p := fun l => decide (x ∈ inL l)) hno)
        have HBX := Lib.hid (HB0.out.trans (hB.mono HB0.out.size))
        clear hno hB
        go_wp2
        go_ret
        exact ⟨ret_i64 HE.out.symm, HBX.out⟩
theorem sourceOf_impl (h : NH) (N : Nt) (x : Int) (w : World) (r : RdN w w.heap.size h N) (sm : SmallN N) (ht : Arit w) (hu : Dual w) :
    Calls Tryd.prog 26 #[.agg #[.slice h.A N.w.length h.c, .slice h.L N.l.length h.d, .slice h.C N.c.length h.e], .int .i64 x] w fun e w' => e = .returned (.int .i64 (srcN N x)) ∧ Below w.heap.size w w' := by
  obtain ⟨w0, hw0⟩ : ∃ w0, w0 = w.alloc (.cells #[.slice h.A N.w.length h.c, .slice h.L N.l.length h.d, .slice h.C N.c.length h.e] 30) := ⟨_, rfl⟩
  obtain ⟨hb, hh, hsz⟩ := box3_any w (.slice h.A N.w.length h.c) (.slice h.L N.l.length h.d) (.slice h.C N.c.length h.e) 30
  rw [← hw0] at hb hh hsz
  obtain ⟨y0, y1, y2⟩ := three_cells hh
  have hW := srcW h N x w0 ((r.below hb).more hb.size) sm (ht.below hb ht.lt) (hu.below hb hu.lt)
  have he : (if valN N = true then firstN (fun l => decide (x ∈ outL l)) N.l else -1) = srcN N x := by
    cases hv : valN N with
    | true => rw [if_pos rfl, srcN_val hv]; exact first_ext fun l hl => (srcB_is (fitsN_kind ((List.all_eq_true.1 (valN_fits hv)) l hl))).symm
    | false => rw [if_neg (by decide)]; unfold srcN; rw [hv]; rfl
  rw [he] at hW
  have HW := Lib.hid hW; have HB0 := Lib.hid hb
  clear hb hh hsz r sm ht hu hW he
  generalize srcN N x = v at *
  go_enter Tryd.func26, Tryd.ntmps26
  go_wp2_with (fail)
  rw [← hw0]
  clear hw0
  refine HW.out.mono ?_
  rintro e w1 ⟨rfl, bel⟩
  have HG := Lib.hid (HB0.out.trans (bel.mono HB0.out.size))
  clear bel
  go_wp2
  go_ret
  exact ⟨rfl, HG.out⟩
theorem targetOf_impl (h : NH) (N : Nt) (x : Int) (w : World) (r : RdN w w.heap.size h N) (sm : SmallN N) (ht : Arit w) (hu : Dual w) :
    Calls Tryd.prog 27 #[.agg #[.slice h.A N.w.length h.c, .slice h.L N.l.length h.d, .slice h.C N.c.length h.e], .int .i64 x] w fun e w' => e = .returned (.int .i64 (tgtN N x)) ∧ Below w.heap.size w w' := by
  obtain ⟨w0, hw0⟩ : ∃ w0, w0 = w.alloc (.cells #[.slice h.A N.w.length h.c, .slice h.L N.l.length h.d, .slice h.C N.c.length h.e] 30) := ⟨_, rfl⟩
  obtain ⟨hb, hh, hsz⟩ := box3_any w (.slice h.A N.w.length h.c) (.slice h.L N.l.length h.d) (.slice h.C N.c.length h.e) 30
  rw [← hw0] at hb hh hsz
  obtain ⟨y0, y1, y2⟩ := three_cells hh
  have hW := tgtW h N x w0 ((r.below hb).more hb.size) sm (ht.below hb ht.lt) (hu.below hb hu.lt)
  have he : (if valN N = true then firstN (fun l => decide (x ∈ inL l)) N.l else -1) = tgtN N x := by
    cases hv : valN N with
    | true => rw [if_pos rfl, tgtN_val hv]; exact first_ext fun l _ => (tgtB_is l x).symm
    | false => rw [if_neg (by decide)]; unfold tgtN; rw [hv]; rfl
  rw [he] at hW
  have HW := Lib.hid hW; have HB0 := Lib.hid hb
  clear hb hh hsz r sm ht hu hW he
  generalize tgtN N x = v at *
  go_enter Tryd.func27, Tryd.ntmps27
  go_wp2_with (fail)
  rw [← hw0]
  clear hw0
  refine HW.out.mono ?_
  rintro e w1 ⟨rfl, bel⟩
  have HG := Lib.hid (HB0.out.trans (bel.mono HB0.out.size))
  clear bel
  go_wp2
  go_ret
  exact ⟨rfl, HG.out⟩
end
end Go.Proofs.YtdcommmefehlgaaDoor
