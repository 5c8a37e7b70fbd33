/- The laws' helpers at graphs with paired edges: eq, mark, held, copies, sizes. -/
import Derived.Test.YtlcapifgpcimpaaDoorEgM
import Derived.Deep.RegionHeldLaw
import Derived.Deep.DeepCutAuto
import Derived.BigQuiet
namespace Go.Proofs.YtlcapifgpcimpaaDoor
set_option linter.unusedSimpArgs false
set_option linter.unusedVariables false
open Go.ChangeAt Go.ChangeShapes Go.RowKit Go.WideShapes

theorem eqEd_any (x : Ed) (w : World) : Calls Tryd.prog 66 #[.agg #[.int .i64 x.a, .int .i64 x.b, .int .i64 x.p], .agg #[.int .i64 x.a, .int .i64 x.b, .int .i64 x.p]] w fun e w' => e = .returned (.bool true) ∧ Below w.heap.size w w' := by
  obtain ⟨k, a, b⟩ := x
  dsimp only
  have e1 : (k != k) = false := by simp
  have e2 : (a != a) = false := by simp
  have e3 : (b != b) = false := by simp
  go_enter Tryd.func66, Tryd.ntmps66
  go_wp2
  go_ret
  exact ⟨rfl, ((Below.refl _ _).alloc (Nat.le_refl _) _).alloc (by simp) _⟩
set_option maxHeartbeats 2000000 in
theorem eqES_any (A A2 : Option Addr) (n c c2 : Nat) (es : List Ed) (w : World) (h : RdE w w.heap.size A n es) (h' : RdE w w.heap.size A2 n es) (hn : n ≤ 1048576) :
    Calls Tryd.prog 33 #[.slice A n c, .slice A2 n c2] w fun e w' => e = .returned (.bool true) ∧ Below w.heap.size w w' := by
  have hl := h.1
  have hnn : (n != n) = false := by simp
  have HR := Lib.hid h; have HR2 := Lib.hid h'
  clear h h'
  go_enter Tryd.func33, Tryd.ntmps33
  go_wp2
  go_loopw [5] (fun i wr => ∃ k : Nat, k ≤ n ∧ i = .int .i64 k ∧ Below w.heap.size w wr) (fun i _ => n - (intOf i).toNat)
  case atStart => exact ⟨0, Nat.zero_le _, rfl, Below.refl _ _⟩
  case round =>
    obtain ⟨k, hk, rfl, hB⟩ := hrel
    have HB := Lib.hid hB
    by_cases hlt : k < n
    · obtain ⟨b, off, rfl, hbb, hcells⟩ := HR.out.at (by omega)
      obtain ⟨b2, off2, rfl, hbb2, hcells2⟩ := HR2.out.at (by omega)
      obtain ⟨x0, x1, x2⟩ := hcells k hlt
      obtain ⟨y0, y1, y2⟩ := hcells2 k hlt
      replace x0 := (hB.cell (p := ⟨b, off + k * 3, none⟩) hbb).trans x0
      replace x1 := (hB.cell (p := ⟨b, off + k * 3 + 1, none⟩) hbb).trans x1
      replace x2 := (hB.cell (p := ⟨b, off + k * 3 + 2, none⟩) hbb).trans x2
      replace y0 := (hB.cell (p := ⟨b2, off2 + k * 3, none⟩) hbb2).trans y0
      replace y1 := (hB.cell (p := ⟨b2, off2 + k * 3 + 1, none⟩) hbb2).trans y1
      replace y2 := (hB.cell (p := ⟨b2, off2 + k * 3 + 2, none⟩) hbb2).trans y2
      have HE := Lib.hid (eqEd_any (es.getD k Ed.nil) wr.drew)
      have hi1 : (k : Int) < (n : Int) := by omega
      clear hcells hcells2 hB hl
      generalize (es.getD k Ed.nil).a = sk at *; generalize (es.getD k Ed.nil).b = sa at *; generalize (es.getD k Ed.nil).p = sb at *
      go_wp2_with (fail)
      go_region_with (go_at_call 66; refine HE.out.mono ?_; rintro e wf ⟨rfl, bf'⟩; have bf := undrew bf'; clear bf')
      all_goals go_wp2
      all_goals
        go_roundw
        case rel => exact ⟨k + 1, by omega, by go_num, HB.out.trans (bf.mono HB.out.size)⟩
        case measure => simp [intOf]; omega
    · have hkl : k = n := by omega
      subst hkl
      clear hB
      go_wp2
      go_ret
      exact ⟨rfl, HB.out⟩
set_option maxHeartbeats 1000000 in
theorem eqG_any (h h' : GH) (G : Gr) (w : World) (r : RdG w w.heap.size h G) (r' : RdG w w.heap.size h' G) (_ : True) (hn : G.e.length ≤ 1048576) (_ _ : True) :
    Calls Tryd.prog 11 #[.agg #[.int .i64 G.n, .slice h.A G.e.length h.c], .agg #[.int .i64 G.n, .slice h'.A G.e.length h'.c]] w fun e w' => e = .returned (.bool true) ∧ Below w.heap.size w w' := by
  obtain ⟨A, c⟩ := h
  obtain ⟨A2, c2⟩ := h'
  obtain ⟨nd, es⟩ := G
  dsimp only at hn ⊢
  have r1 : RdE w w.heap.size A es.length es := r
  have r2 : RdE w w.heap.size A2 es.length es := r'
  have hz : (nd != nd) = false := by simp
  obtain ⟨w2, hw2⟩ : ∃ w2, w2 = (w.alloc (.cells #[.int .i64 nd, .slice A es.length c] 30)).alloc (.cells #[.int .i64 nd, .slice A2 es.length c2] 30) := ⟨_, rfl⟩
  have hb : Below w.heap.size w w2 := by
    rw [hw2]
    exact ((Below.refl _ _).alloc (Nat.le_refl _) _).alloc (by simp) _
  have p0 : w2.heap[w.heap.size]? = some (.cells #[.int .i64 nd, .slice A es.length c] 30 (0, 0)) := by
    rw [hw2, Below.heap_alloc _ _ _ (by simp)]; exact heap_alloc_new _ _
  have p1 : w2.heap[w.heap.size + 1]? = some (.cells #[.int .i64 nd, .slice A2 es.length c2] 30 (0, 0)) := by
    rw [hw2]
    have e : (w.alloc (.cells #[.int .i64 nd, .slice A es.length c] 30)).heap.size = w.heap.size + 1 := by simp
    rw [← e]; exact heap_alloc_new _ _
  have HE1 := Lib.hid (eqES_any A A2 es.length c c2 es w2 ((r1.below hb).more hb.size) ((r2.below hb).more hb.size) hn)
  have HB := Lib.hid hb
  obtain ⟨a0, a1⟩ := twE_cells p0
  obtain ⟨b0, b1⟩ := twE_cells p1
  clear hb r r' r1 r2 p0 p1
  go_enter Tryd.func11, Tryd.ntmps11
  go_wp2_with (fail)
  rw [← hw2]
  clear hw2
  refine HE1.out.mono ?_
  rintro e w3 ⟨rfl, bel3⟩
  have HB3 := Lib.hid (HB.out.trans (bel3.mono HB.out.size))
  clear bel3
  go_wp2
  go_ret
  exact ⟨rfl, HB3.out⟩
set_option maxHeartbeats 2000000 in
theorem markES_any (A : Option Addr) (n c : Nat) (es : List Ed) (k : Int) (w : World) (base : Nat) (h : w.ownsRow base 52 3 (.slice A n c) n ((flE es).map (Value.int .i64))) (hn : n ≤ 1048576) (hk0 : 0 ≤ k) (hk1 : k ≤ 1073741824) :
    Calls Tryd.prog 40 #[.slice A n c, .int .i64 k] w fun e w' => e = .returned (.int .i64 (k + (n * 3 : Nat))) ∧ w'.ownsRow base 52 3 (.slice A n c) n ((flE (mkE k n)).map (Value.int .i64)) ∧ w.grownBy w' (Value.slice A n c).ownBlock := by
  have hl : es.length = n := by have := h.1; rw [List.length_map, flE_len] at this; omega
  have H0 := Lib.hid h
  have HL0 := Lib.hid hl
  clear h hl
  go_enter Tryd.func40, Tryd.ntmps40
  go_wp2
  go_loopw [1, 5] (fun v i wr => ∃ (j : Nat) (as' : List Ed), j ≤ n ∧ i = .int .i64 j ∧ v = .int .i64 (k + (j * 3 : Nat)) ∧ as'.length = n ∧ (∀ m, m < j → as'.getD m Ed.nil = mkEt k m) ∧ wr.ownsRow base 52 3 (.slice A n c) n ((flE as').map (Value.int .i64)) ∧ w.grownBy wr (Value.slice A n c).ownBlock)
    (fun _ i _ => n - (intOf i).toNat)
  case atStart => exact ⟨0, _, Nat.zero_le _, rfl, by simp, HL0.out, fun m hm => absurd hm (by omega), H0.out, World.grownBy.refl w _⟩
  case round =>
    obtain ⟨j, ys, hj, rfl, rfl, hyl, hU, hO, hG⟩ := hrel
    clear H0 HL0
    by_cases hlt : j < n
    · obtain ⟨g, cap, hv, hbg, hgl⟩ := hO.form (by omega)
      have hA : A = some ⟨g, 0, none⟩ ∧ c = cap := by injection hv with a b c'; exact ⟨a, c'⟩
      obtain ⟨rfl, rfl⟩ := hA
      have hfl : ((flE ys).map (Value.int .i64)).length = n * 3 := by rw [List.length_map, flE_len, hyl]
      have HY : Hid (∀ m, m < j + 1 → (ys.set j (mkEt k j)).getD m Ed.nil = mkEt k m) := Lib.hid fun m hm => by
        rw [setE_at (by omega)]
        by_cases e : m = j
        · rw [if_pos e, e]
        · rw [if_neg e]; exact hU m (by omega)
      have HYL : Hid ((ys.set j (mkEt k j)).length = n) := Lib.hid (by rw [List.length_set]; exact hyl)
      have HFS := Lib.hid (flE_set ys j (mkEt k j) (by omega))
      have HMK : Hid (mkEt k j = ⟨k + (j * 3 : Nat), k + (j * 3 : Nat) + 1, k + (j * 3 : Nat) + 1 + 1⟩) := Lib.hid rfl
      obtain ⟨q, hq⟩ : ∃ q : Int, k + (j * 3 : Nat) = q := ⟨_, rfl⟩
      have HN : Hid (q + 1 + 1 + 1 = k + ((j + 1) * 3 : Nat)) := Lib.hid (by omega)
      have hq0 : 0 ≤ q := by omega
      have hq1 : q ≤ 1090000000 := by omega
      rw [hq] at HMK ⊢
      clear hq hU
      generalize mkEt k j = ma at *
      have hi1 : (j : Int) < (n : Int) := by omega
      obtain ⟨q1, q2⟩ := th_own (o := j * 3) hO (.int .i64 q) (.int .i64 (q + 1)) (.int .i64 (q + 1 + 1))
      have HFS2 := HFS.out
      rw [HMK.out] at HFS2
      dsimp only at HFS2
      rw [← HFS2] at q1
      rw [← HMK.out] at q1
      have HQ1 := Lib.hid q1; have HG := Lib.hid (grownBy_trans hG q2)
      have cl := fun t (ht : t < 3) => hO.cellAt (g := g) (j * 3 + t) (by omega)
      have fr := fun t => hO.frozenAt (g := g) (j * 3 + t)
      obtain ⟨d0, e0⟩ : ∃ u, wr.cell? ⟨g, j * 3, none⟩ = some u := ⟨_, (cl 0 (by omega)).trans (List.getElem?_eq_getElem (show j * 3 + 0 < ((flE ys).map (Value.int .i64)).length by omega))⟩
      obtain ⟨d1, e1⟩ : ∃ u, wr.cell? ⟨g, j * 3 + 1, none⟩ = some u := ⟨_, (cl 1 (by omega)).trans (List.getElem?_eq_getElem (show j * 3 + 1 < ((flE ys).map (Value.int .i64)).length by omega))⟩
      obtain ⟨d2, e2⟩ : ∃ u, wr.cell? ⟨g, j * 3 + 2, none⟩ = some u := ⟨_, (cl 2 (by omega)).trans (List.getElem?_eq_getElem (show j * 3 + 2 < ((flE ys).map (Value.int .i64)).length by omega))⟩
      have fr0 : wr.frozen? ⟨g, j * 3, none⟩ = false := fr 0
      have fr1 := fr 1; have fr2 := fr 2
      clear cl fr hO hG q1 q2 hv hyl hbg hgl HFS2 HFS hfl HMK
      go_wp2
      go_roundw
      case rel => exact ⟨j + 1, _, by omega, by go_num, by rw [HN.out], HYL.out, HY.out, HQ1.out, HG.out⟩
      case measure => simp [intOf]; omega
    · have hkl : j = n := by omega
      subst hkl
      have hd := mkE_is hyl hU
      subst hd
      have HO := Lib.hid hO; have HG := Lib.hid hG
      clear hO hU hG hyl
      go_wp2
      go_ret
      exact ⟨rfl, HO.out, HG.out⟩
theorem markG_any (h : GH) (G : Gr) (k : Int) (w : World) (lo hi : Nat) (o : OwnG w lo hi h G) (hn : G.e.length ≤ 1048576) (_ _ _ : True) (hk0 : 0 ≤ k) (hk1 : k ≤ 536870912) :
    Calls Tryd.prog 14 #[.agg #[.int .i64 G.n, .slice h.A G.e.length h.c], .int .i64 k] w fun e w' => e = .returned (.int .i64 (k + (gtot G : Nat))) ∧ OwnG w' lo hi h (mrkG k G) ∧ Kept lo hi w w' := by
  obtain ⟨A, c⟩ := h
  obtain ⟨nd, es⟩ := G
  obtain ⟨o1, o2⟩ := o
  dsimp only at o1 o2 hn ⊢
  obtain ⟨w0, hw0⟩ : ∃ w0, w0 = w.alloc (.cells #[.int .i64 nd, .slice A es.length c] 30) := ⟨_, rfl⟩
  obtain ⟨hb, hh, hsz⟩ := box2E w (.int .i64 nd) (.slice A es.length c) 30
  rw [← hw0] at hb hh hsz
  obtain ⟨y0, y1⟩ := twE_cells hh
  have HM := Lib.hid (markES_any A es.length c es k w0 lo (own_same o1 fun k e => hb.block k (o1.lt k e).2) hn hk0 (by omega))
  have HB := Lib.hid hb
  have HL := Lib.hid o1
  have HT := Lib.hid o2
  clear hb hh hsz o1 o2
  go_enter Tryd.func14, Tryd.ntmps14
  go_wp2_with (fail)
  rw [← hw0]
  clear hw0
  refine HM.out.mono ?_
  rintro e w1 ⟨rfl, own1, g1⟩
  have HO : Hid (OwnG w1 lo hi ⟨A, c⟩ (mrkG k ⟨nd, es⟩)) := Lib.hid ⟨by show w1.ownsRow lo 52 3 (.slice A (mkE k es.length).length c) (mkE k es.length).length ((flE (mkE k es.length)).map (Value.int .i64)); rw [mkE_len]; exact own1, by show ∀ b, (Value.slice A (mkE k es.length).length c).ownBlock = some b → b < hi; rw [mkE_len]; exact HT.out⟩
  have HKP : Hid (Kept lo hi w w1) := Lib.hid ((Kept.of_below HB.out lo hi).trans (Kept.of_grown g1 fun b hb => ⟨(HL.out.lt b hb).1, HT.out b hb⟩))
  clear own1 g1
  go_wp2
  go_ret
  exact ⟨rfl, HO.out, HKP.out⟩
set_option maxHeartbeats 2000000 in
theorem heldES_any (A : Option Addr) (n c : Nat) (k : Int) (w : World) (h : RdE w w.heap.size A n (mkE k n)) (hn : n ≤ 1048576) (hk0 : 0 ≤ k) (hk1 : k ≤ 1073741824) :
    Calls Tryd.prog 41 #[.slice A n c, .int .i64 k] w fun e w' => e = .returned (.int .i64 (k + (n * 3 : Nat))) ∧ w = w' := by
  have H := Lib.hid h
  clear h
  go_enter Tryd.func41, Tryd.ntmps41
  go_wp2
  go_loop [1, 5] (fun v i => ∃ j : Nat, j ≤ n ∧ i = .int .i64 j ∧ v = .int .i64 (k + (j * 3 : Nat))) (fun _ i => n - (intOf i).toNat)
  case atStart => exact ⟨0, Nat.zero_le _, rfl, by simp⟩
  case round =>
    obtain ⟨j, hj, rfl, rfl⟩ := hrel
    by_cases hlt : j < n
    · obtain ⟨b, off, rfl, hbb, hcells⟩ := H.out.at (by omega)
      obtain ⟨x0, x1, x2⟩ := hcells j hlt
      rw [mkE_at k hlt] at x0 x1 x2
      unfold mkEt at x0 x1 x2
      obtain ⟨q, hq⟩ : ∃ q : Int, k + (j * 3 : Nat) = q := ⟨_, rfl⟩
      have HN : Hid (q + 1 + 1 + 1 = k + ((j + 1) * 3 : Nat)) := Lib.hid (by omega)
      have hq0 : 0 ≤ q := by omega
      have hq1 : q ≤ 1090000000 := by omega
      rw [hq] at x0 x1 x2 ⊢
      dsimp only at x0 x1 x2
      clear hq hcells
      have hi1 : (j : Int) < (n : Int) := by omega
      have z0 : (q != q) = false := by simp
      have z1 : (q + 1 != q + 1) = false := by simp
      have z2 : (q + 1 + 1 != q + 1 + 1) = false := by simp
      go_wp2
      go_round
      case rel => exact ⟨j + 1, by omega, by go_num, by rw [HN.out]⟩
      case measure => simp [intOf]; omega
    · have hkl : j = n := by omega
      subst hkl
      go_wp2
      go_ret
      exact ⟨rfl, rfl⟩
theorem heldG_any (h : GH) (G : Gr) (k : Int) (w : World) (r : RdG w w.heap.size h (mrkG k G)) (hn : G.e.length ≤ 1048576) (_ _ _ : True) (hk0 : 0 ≤ k) (hk1 : k ≤ 536870912) :
    Calls Tryd.prog 15 #[.agg #[.int .i64 G.n, .slice h.A G.e.length h.c], .int .i64 k] w fun e w' => e = .returned (.int .i64 (k + (gtot G : Nat))) ∧ Below w.heap.size w w' := by
  obtain ⟨A, c⟩ := h
  obtain ⟨nd, es⟩ := G
  dsimp only at hn ⊢
  have r1 : RdE w w.heap.size A es.length (mkE k es.length) := by
    have r2 : RdE w w.heap.size A (mkE k es.length).length (mkE k es.length) := r
    rw [mkE_len] at r2; exact r2
  obtain ⟨w0, hw0⟩ : ∃ w0, w0 = w.alloc (.cells #[.int .i64 nd, .slice A es.length c] 30) := ⟨_, rfl⟩
  obtain ⟨hb, hh, hsz⟩ := box2E w (.int .i64 nd) (.slice A es.length c) 30
  rw [← hw0] at hb hh hsz
  obtain ⟨y0, y1⟩ := twE_cells hh
  have HM := Lib.hid (heldES_any A es.length c k w0 ((r1.below hb).more hb.size) hn hk0 (by omega))
  have HB := Lib.hid hb
  have hd : decide (k + (es.length * 3 : Nat) < 0) = false := decide_eq_false (by omega)
  clear hb hh hsz r r1
  have HE : Hid (gtot ⟨nd, es⟩ = es.length * 3) := Lib.hid rfl
  rw [HE.out]
  generalize es.length * 3 = m at *
  go_enter Tryd.func15, Tryd.ntmps15
  go_wp2_with (fail)
  rw [← hw0]
  clear hw0
  refine HM.out.mono ?_
  rintro e w1 ⟨rfl, rfl⟩
  go_wp2
  go_ret
  exact ⟨rfl, HB.out⟩
/-- The first k edges of a row that is being filled. -/
def Upto3 (xs : List Value) (es : List Ed) (k : Nat) : Prop := xs.length = es.length * 3 ∧ ∀ j, j < k * 3 → xs[j]? = some (.int .i64 ((flE es).getD j 0))
theorem pu3_at {xs : List Value} {o : Nat} (h : o + 3 ≤ xs.length) (v0 v1 v2 : Value) : (pu3 xs o v0 v1 v2)[o]? = some v0 ∧ (pu3 xs o v0 v1 v2)[o + 1]? = some v1 ∧ (pu3 xs o v0 v1 v2)[o + 2]? = some v2 := by
  unfold pu3
  refine ⟨?_, ?_, ?_⟩
  · rw [List.getElem?_set_ne (by omega), List.getElem?_set_ne (by omega), List.getElem?_set_self (by omega)]
  · rw [List.getElem?_set_ne (by omega), List.getElem?_set_self (by simp; omega)]
  · rw [List.getElem?_set_self (by simp; omega)]
theorem pu3_far {xs : List Value} {o j : Nat} (h : j < o ∨ o + 3 ≤ j) (v0 v1 v2 : Value) : (pu3 xs o v0 v1 v2)[j]? = xs[j]? := by
  unfold pu3
  rw [List.getElem?_set_ne (by omega), List.getElem?_set_ne (by omega), List.getElem?_set_ne (by omega)]
theorem Upto3.step {xs : List Value} {es : List Ed} {k : Nat} (h : Upto3 xs es k) (hk : k < es.length) : Upto3 (pu3 xs (k * 3) (.int .i64 (es.getD k Ed.nil).a) (.int .i64 (es.getD k Ed.nil).b) (.int .i64 (es.getD k Ed.nil).p)) es (k + 1) := by
  obtain ⟨hl, hc⟩ := h
  refine ⟨by rw [pu3_len]; exact hl, fun j hj => ?_⟩
  obtain ⟨f0, f1, f2⟩ := flE_at es k hk
  obtain ⟨p0, p1, p2⟩ := pu3_at (xs := xs) (o := k * 3) (by omega) (.int .i64 (es.getD k Ed.nil).a) (.int .i64 (es.getD k Ed.nil).b) (.int .i64 (es.getD k Ed.nil).p)
  by_cases e : j < k * 3
  · rw [pu3_far (.inl e)]; exact hc j e
  · have : j = k * 3 ∨ j = k * 3 + 1 ∨ j = k * 3 + 2 := by omega
    rcases this with rfl | rfl | rfl
    · rw [p0, f0]
    · rw [p1, f1]
    · rw [p2, f2]
theorem Upto3.done {xs : List Value} {es : List Ed} (h : Upto3 xs es es.length) : xs = (flE es).map (Value.int .i64) := by
  obtain ⟨hl, hc⟩ := h
  apply List.ext_getElem?
  intro j
  by_cases e : j < es.length * 3
  · rw [hc j e]
    simp [List.getD, flE_len, e]
  · rw [List.getElem?_eq_none (by omega), List.getElem?_eq_none (by rw [List.length_map, flE_len]; omega)]
theorem thr_any (w : World) (o p q : Obj) : Below w.heap.size w (((w.alloc o).alloc p).alloc q) ∧ (((w.alloc o).alloc p).alloc q).heap[w.heap.size]? = some o ∧ (((w.alloc o).alloc p).alloc q).heap[w.heap.size + 1]? = some p ∧ (((w.alloc o).alloc p).alloc q).heap[w.heap.size + 1 + 1]? = some q ∧ (((w.alloc o).alloc p).alloc q).heap.size = w.heap.size + 1 + 1 + 1 := by
  refine ⟨(((Below.refl _ _).alloc (Nat.le_refl _) _).alloc (by simp) _).alloc (by simp; omega) _, ?_, heap_two _ _ _ _, ?_, by simp⟩
  · rw [Below.heap_alloc _ _ _ (by simp; omega), Below.heap_alloc _ _ _ (by simp)]; exact heap_alloc_new _ _
  · have e : ((w.alloc o).alloc p).heap.size = w.heap.size + 1 + 1 := by simp
    rw [← e]; exact heap_alloc_new _ _
end Go.Proofs.YtlcapifgpcimpaaDoor
