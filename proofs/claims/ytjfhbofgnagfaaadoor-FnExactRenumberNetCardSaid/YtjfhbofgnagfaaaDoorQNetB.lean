/- The laws' helpers at links and nets: sizes, copies. The laws' helpers at nets: the copy, the comparison. -/
import Derived.Test.YtjfhbofgnagfaaaDoorQSeqV
namespace Go.Proofs.YtjfhbofgnagfaaaDoor
set_option linter.unusedSimpArgs false
set_option linter.unusedVariables false
section
open Go.ChangeAt Go.ChangeShapes Go.RowKit Go.WideShapes

theorem szL_any (A : Option Addr) (n c : Nat) (left : Int) (w : World) (hn : n ≤ maxLen) (h0 : 0 ≤ left) (h1 : left ≤ 1073741824) :
    Calls Tryd.prog 76 #[.slice A n c, .int .i64 left] w fun e w' => e = .returned (.int .i64 (szR left n)) ∧ w = w' := by
  unfold maxLen at hn
  by_cases hc : left - n < 0
  · have HE : Hid ((-1 : Int) = szR left n) := Lib.hid (szR_neg (by omega)).symm
    have hd : decide (left - (n : Int) < 0) = true := decide_eq_true hc
    go_enter Tryd.func76, Tryd.ntmps76
    go_wp2
    go_ret
    exact ⟨ret_i64 HE.out, rfl⟩
  · have HE : Hid (left - (n : Int) = szR left n) := Lib.hid (szR_pos (by omega)).symm
    have hd : decide (left - (n : Int) < 0) = false := decide_eq_false hc
    go_enter Tryd.func76, Tryd.ntmps76
    go_wp2
    go_ret
    exact ⟨ret_i64 HE.out, rfl⟩
theorem szI_any (A : Option Addr) (n c : Nat) (left : Int) (w : World) (hn : n ≤ maxLen) (h0 : 0 ≤ left) (h1 : left ≤ 1073741824) :
    Calls Tryd.prog 77 #[.slice A n c, .int .i64 left] w fun e w' => e = .returned (.int .i64 (szR left n)) ∧ w = w' := by
  unfold maxLen at hn
  by_cases hc : left - n < 0
  · have HE : Hid ((-1 : Int) = szR left n) := Lib.hid (szR_neg (by omega)).symm
    have hd : decide (left - (n : Int) < 0) = true := decide_eq_true hc
    go_enter Tryd.func77, Tryd.ntmps77
    go_wp2
    go_ret
    exact ⟨ret_i64 HE.out, rfl⟩
  · have HE : Hid (left - (n : Int) = szR left n) := Lib.hid (szR_pos (by omega)).symm
    have hd : decide (left - (n : Int) < 0) = false := decide_eq_false hc
    go_enter Tryd.func77, Tryd.ntmps77
    go_wp2
    go_ret
    exact ⟨ret_i64 HE.out, rfl⟩
/-- The size of a net. -/
def nsz (N : Nt) : Nat := N.w.length + total N.w + N.l.length + N.c.length
theorem box3_any (w : World) (a b c : Value) (t : TypeId) : Below w.heap.size w (w.alloc (.cells #[a, b, c] t)) ∧ (w.alloc (.cells #[a, b, c] t)).heap[w.heap.size]? = some (.cells #[a, b, c] t (0, 0)) ∧ (w.alloc (.cells #[a, b, c] t)).heap.size = w.heap.size + 1 :=
  ⟨(Below.refl _ _).alloc (Nat.le_refl _) _, heap_alloc_new _ _, by simp⟩
/-- The three cells of a net. -/
theorem three_cells {w : World} {b : Nat} {a0 a1 a2 : Value} {t : TypeId} (h : w.heap[b]? = some (.cells #[a0, a1, a2] t (0, 0))) :
    w.cell? ⟨b, 0, none⟩ = some a0 ∧ w.cell? ⟨b, 1, none⟩ = some a1 ∧ w.cell? ⟨b, 2, none⟩ = some a2 :=
  ⟨cell_of_row _ _ 0 _ _ (0, 0) h, cell_of_row _ _ 1 _ _ (0, 0) h, cell_of_row _ _ 2 _ _ (0, 0) h⟩
set_option maxHeartbeats 1000000 in
theorem szN_any (h : NH) (N : Nt) (left : Int) (w : World) (r : RdN w w.heap.size h N) (hq : ∀ q ∈ N.w, q.length ≤ maxLen) (hn : N.w.length ≤ maxLen) (hl : N.l.length ≤ maxLen) (hc : N.c.length ≤ maxLen) (h0 : 0 ≤ left) (h1 : left ≤ 1073741824) :
    Calls Tryd.prog 27 #[.agg #[.slice h.A N.w.length h.c, .slice h.L N.l.length h.d, .slice h.C N.c.length h.e], .int .i64 left] w fun e w' => e = .returned (.int .i64 (szR left (nsz N))) ∧ Below w.heap.size w w' := by
  obtain ⟨A, c, hs, L, d, C, e0⟩ := h
  obtain ⟨ws, ls, cs⟩ := N
  obtain ⟨w0, hw0⟩ : ∃ w0, w0 = w.alloc (.cells #[.slice A ws.length c, .slice L ls.length d, .slice C cs.length e0] 46) := ⟨_, rfl⟩
  obtain ⟨hb, hh, hsz⟩ := box3_any w (.slice A ws.length c) (.slice L ls.length d) (.slice C cs.length e0) 46
  rw [← hw0] at hb hh hsz
  obtain ⟨y0, y1, y2⟩ := three_cells hh
  have HS := Lib.hid (szSS_any A ws.length c ws left w0 _ (r.1.below hb) hq hn h0 h1)
  have HB := Lib.hid hb
  have hez : nsz ⟨ws, ls, cs⟩ = ws.length + total ws + ls.length + cs.length := rfl
  have HEZ := Lib.hid hez
  clear r hb hh hq hsz hez
  dsimp only at hn hl hc ⊢
  rw [HEZ.out]
  generalize total ws = T at *
  by_cases c1 : left - (ws.length + T : Nat) < 0
  · rw [szR_neg c1] at HS
    have HE : Hid ((-1 : Int) = szR left (ws.length + T + ls.length + cs.length)) := Lib.hid (szR_neg (by omega)).symm
    clear c1
    go_enter Tryd.func27, Tryd.ntmps27
    go_wp2_with (fail)
    rw [← hw0]
    clear hw0
    refine HS.out.mono ?_
    rintro e w' ⟨rfl, rfl⟩
    go_wp2
    go_ret
    exact ⟨ret_i64 HE.out, HB.out⟩
  · rw [szR_pos c1] at HS
    obtain ⟨M, hM⟩ : ∃ M : Int, left - (ws.length + T : Nat) = M := ⟨_, rfl⟩
    rw [hM] at HS
    have HSL := Lib.hid (szL_any L ls.length d M w0 hl (by omega) (by omega))
    have hd1 : decide (M < 0) = false := decide_eq_false (by omega)
    by_cases c2 : M - ls.length < 0
    · rw [szR_neg c2] at HSL
      have HE : Hid ((-1 : Int) = szR left (ws.length + T + ls.length + cs.length)) := Lib.hid (szR_neg (by omega)).symm
      clear c1 c2 hM
      go_enter Tryd.func27, Tryd.ntmps27
      go_wp2_with (fail)
      rw [← hw0]
      clear hw0
      refine HS.out.mono ?_
      rintro e w' ⟨rfl, rfl⟩
      go_wp2_with (fail)
      refine HSL.out.mono ?_
      rintro e w' ⟨rfl, rfl⟩
      go_wp2
      go_ret
      exact ⟨ret_i64 HE.out, HB.out⟩
    · rw [szR_pos c2] at HSL
      obtain ⟨M2, hM2⟩ : ∃ M2 : Int, M - ls.length = M2 := ⟨_, rfl⟩
      rw [hM2] at HSL
      have HSI := Lib.hid (szI_any C cs.length e0 M2 w0 hc (by omega) (by omega))
      have hd2 : decide (M2 < 0) = false := decide_eq_false (by omega)
      have HE : Hid (szR M2 cs.length = szR left (ws.length + T + ls.length + cs.length)) := Lib.hid (by
        unfold szR
        rw [show left - ((ws.length + T + ls.length + cs.length : Nat) : Int) = M2 - (cs.length : Nat) by omega])
      clear c1 c2 hM hM2
      generalize szR M2 cs.length = R at *
      by_cases c3 : R < 0
      · have hd3 : decide (R < 0) = true := decide_eq_true c3
        have HR : Hid ((-1 : Int) = R) := Lib.hid (by
          have := HE.out
          unfold szR at this
          by_cases h5 : left - (ws.length + T + ls.length + cs.length : Nat) < 0
          · rw [if_pos h5] at this; exact this.symm
          · rw [if_neg h5] at this; omega)
        clear c3
        go_enter Tryd.func27, Tryd.ntmps27
        go_wp2_with (fail)
        rw [← hw0]
        clear hw0
        refine HS.out.mono ?_
        rintro e w' ⟨rfl, rfl⟩
        go_wp2_with (fail)
        refine HSL.out.mono ?_
        rintro e w' ⟨rfl, rfl⟩
        go_wp2_with (fail)
        refine HSI.out.mono ?_
        rintro e w' ⟨rfl, rfl⟩
        go_wp2
        go_ret
        exact ⟨ret_i64 (HR.out.trans HE.out), HB.out⟩
      · have hd3 : decide (R < 0) = false := decide_eq_false c3
        clear c3
        go_enter Tryd.func27, Tryd.ntmps27
        go_wp2_with (fail)
        rw [← hw0]
        clear hw0
        refine HS.out.mono ?_
        rintro e w' ⟨rfl, rfl⟩
        go_wp2_with (fail)
        refine HSL.out.mono ?_
        rintro e w' ⟨rfl, rfl⟩
        go_wp2_with (fail)
        refine HSI.out.mono ?_
        rintro e w' ⟨rfl, rfl⟩
        go_wp2
        go_ret
        exact ⟨ret_i64 HE.out, HB.out⟩
/-- A link copied. -/
theorem set4_at {w : World} {b : Nat} {c0 c1 c2 c3 : Value} {t : TypeId} (h : w.heap[b]? = some (.cells #[c0, c1, c2, c3] t (0, 0))) (v0 v1 v2 v3 : Value) :
    ((((w.setCell ⟨b, 0, none⟩ v0).setCell ⟨b, 1, none⟩ v1).setCell ⟨b, 2, none⟩ v2).setCell ⟨b, 3, none⟩ v3).heap[b]? = some (.cells #[v0, v1, v2, v3] t (0, 0)) := by
  have h0 := heap_setCell_same w b 0 _ t v0 h
  have h1 := heap_setCell_same _ b 1 _ t v1 h0
  have h2 := heap_setCell_same _ b 2 _ t v2 h1
  have h3 := heap_setCell_same _ b 3 _ t v3 h2
  simpa using h3
theorem set4_below {w0 w : World} {B b : Nat} (h : Below B w0 w) (hb : B ≤ b) (v0 v1 v2 v3 : Value) : Below B w0 ((((w.setCell ⟨b, 0, none⟩ v0).setCell ⟨b, 1, none⟩ v1).setCell ⟨b, 2, none⟩ v2).setCell ⟨b, 3, none⟩ v3) :=
  (((h.setCell (p := ⟨b, 0, none⟩) hb v0).setCell (p := ⟨b, 1, none⟩) hb v1).setCell (p := ⟨b, 2, none⟩) hb v2).setCell (p := ⟨b, 3, none⟩) hb v3
theorem toLk_any (x : Lk) (w : World) :
    Calls Tryd.prog 116 #[.agg #[.int .i64 x.k, .int .i64 x.a, .int .i64 x.b, .int .i64 x.c]] w fun e w' => e = .returned (.agg #[.int .i64 x.k, .int .i64 x.a, .int .i64 x.b, .int .i64 x.c]) ∧ Below w.heap.size w w' := by
  obtain ⟨k, a, b, c⟩ := x
  dsimp only
  go_enter Tryd.func116, Tryd.ntmps116
  go_wp2
  (try simp only [Exit.inBlock, Exit.then])
  refine bodyPost_ret (results_cell_row rfl _ _ (w.heap.size + 1) _ _ (0, 0) _ rfl (heap_two _ _ _ _) Tryd.underlying75 rfl (by kernel_rfl)) rfl ?_
  exact ⟨rfl, (((Below.refl _ _).alloc (Nat.le_refl _) _).alloc (by simp) _).alloc (by simp; omega) _⟩
/-- Four cells of a row stored, one after another. -/
def fourW (w : World) (b o : Nat) (v0 v1 v2 v3 : Value) : World := (((w.setCell ⟨b, o, none⟩ v0).setCell ⟨b, o + 1, none⟩ v1).setCell ⟨b, o + 2, none⟩ v2).setCell ⟨b, o + 3, none⟩ v3
def put4 (xs : List Value) (o : Nat) (v0 v1 v2 v3 : Value) : List Value := (((xs.set o v0).set (o + 1) v1).set (o + 2) v2).set (o + 3) v3
theorem put4_len (xs : List Value) (o : Nat) (v0 v1 v2 v3 : Value) : (put4 xs o v0 v1 v2 v3).length = xs.length := by simp [put4]
theorem put4_at {xs : List Value} {o : Nat} (h : o + 4 ≤ xs.length) (v0 v1 v2 v3 : Value) : (put4 xs o v0 v1 v2 v3)[o]? = some v0 ∧ (put4 xs o v0 v1 v2 v3)[o + 1]? = some v1 ∧ (put4 xs o v0 v1 v2 v3)[o + 2]? = some v2 ∧ (put4 xs o v0 v1 v2 v3)[o + 3]? = some v3 := by
  unfold put4
  refine ⟨?_, ?_, ?_, ?_⟩
  · rw [List.getElem?_set_ne (by omega), List.getElem?_set_ne (by omega), List.getElem?_set_ne (by omega), List.getElem?_set_self (by omega)]
  · rw [List.getElem?_set_ne (by omega), List.getElem?_set_ne (by omega), List.getElem?_set_self (by simp; omega)]
  · rw [List.getElem?_set_ne (by omega), List.getElem?_set_self (by simp; omega)]
  · rw [List.getElem?_set_self (by simp; omega)]
theorem put4_far {xs : List Value} {o j : Nat} (h : j < o ∨ o + 4 ≤ j) (v0 v1 v2 v3 : Value) : (put4 xs o v0 v1 v2 v3)[j]? = xs[j]? := by
  unfold put4
  rw [List.getElem?_set_ne (by omega), List.getElem?_set_ne (by omega), List.getElem?_set_ne (by omega), List.getElem?_set_ne (by omega)]
theorem four_own {w : World} {base g n cap o : Nat} {e : TypeId} {xs : List Value} (h : w.ownsRow base e 4 (.slice (some ⟨g, 0, none⟩) n cap) n xs) (v0 v1 v2 v3 : Value) :
    (fourW w g o v0 v1 v2 v3).ownsRow base e 4 (.slice (some ⟨g, 0, none⟩) n cap) n (put4 xs o v0 v1 v2 v3) ∧ w.grownBy (fourW w g o v0 v1 v2 v3) (some g) := by
  have h0 := h.stored o v0
  have h1 := h0.1.stored (o + 1) v1
  have h2 := h1.1.stored (o + 2) v2
  have h3 := h2.1.stored (o + 3) v3
  exact ⟨h3.1, grownBy_trans (grownBy_trans (grownBy_trans h0.2 h1.2) h2.2) h3.2⟩
/-- The first k links of a row that is being filled. -/
def Upto4 (xs : List Value) (ls : List Lk) (k : Nat) : Prop := xs.length = ls.length * 4 ∧ ∀ j, j < k * 4 → xs[j]? = some (.int .i64 ((flL ls).getD j 0))
theorem Upto4.step {xs : List Value} {ls : List Lk} {k : Nat} (h : Upto4 xs ls k) (hk : k < ls.length) : Upto4 (put4 xs (k * 4) (.int .i64 (ls.getD k Lk.nil).k) (.int .i64 (ls.getD k Lk.nil).a) (.int .i64 (ls.getD k Lk.nil).b) (.int .i64 (ls.getD k Lk.nil).c)) ls (k + 1) := by
  obtain ⟨hl, hc⟩ := h
  refine ⟨by rw [put4_len]; exact hl, fun j hj => ?_⟩
  obtain ⟨f0, f1, f2, f3⟩ := flL_at ls k hk
  obtain ⟨p0, p1, p2, p3⟩ := put4_at (xs := xs) (o := k * 4) (by omega) (.int .i64 (ls.getD k Lk.nil).k) (.int .i64 (ls.getD k Lk.nil).a) (.int .i64 (ls.getD k Lk.nil).b) (.int .i64 (ls.getD k Lk.nil).c)
  by_cases e : j < k * 4
  · rw [put4_far (.inl e)]; exact hc j e
  · have : j = k * 4 ∨ j = k * 4 + 1 ∨ j = k * 4 + 2 ∨ j = k * 4 + 3 := by omega
    rcases this with rfl | rfl | rfl | rfl
    · rw [p0, f0]
    · rw [p1, f1]
    · rw [p2, f2]
    · rw [p3, f3]
theorem Upto4.done {xs : List Value} {ls : List Lk} (h : Upto4 xs ls ls.length) : xs = (flL ls).map (Value.int .i64) := by
  obtain ⟨hl, hc⟩ := h
  apply List.ext_getElem?
  intro j
  by_cases e : j < ls.length * 4
  · rw [hc j e]
    simp [List.getD, flL_len, e]
  · rw [List.getElem?_eq_none (by omega), List.getElem?_eq_none (by rw [List.length_map, flL_len]; omega)]
theorem info_link : (Tryd.prog.info? 75).map (fun i => (i.zero, i.size, i.bytes)) = some (some (.agg #[.int .i64 0, .int .i64 0, .int .i64 0, .int .i64 0]), 4, 32) := by kernel_rfl
theorem info_parts_link : ∃ i, Tryd.prog.info? 75 = some i ∧ i.zero = some (.agg #[.int .i64 0, .int .i64 0, .int .i64 0, .int .i64 0]) ∧ i.size = 4 ∧ i.bytes = 32 := by
  obtain ⟨i, hi, he⟩ := Option.map_eq_some_iff.1 info_link
  simp only [Prod.mk.injEq] at he
  exact ⟨i, hi, he.1, he.2.1, he.2.2⟩
set_option maxHeartbeats 4000000 in
theorem toLS_any (A : Option Addr) (n c : Nat) (ls : List Lk) (w : World) (h : RdL w w.heap.size A n ls) (hn : n ≤ 1048576) :
    Calls Tryd.prog 79 #[.slice A n c] w fun e w' => e = .returned (.slice (some ⟨w.heap.size, 0, none⟩) n n) ∧ w'.ownsRow w.heap.size 75 4 (.slice (some ⟨w.heap.size, 0, none⟩) n n) n ((flL ls).map (Value.int .i64)) ∧ Below w.heap.size w w' := by
  obtain ⟨i0, hi0, hz0, hz1, hz2⟩ := info_parts_link
  have hl := h.len
  subst hl
  have b2 : i0.bytes * ls.length ≤ 281474976710656 := by rw [hz2]; omega
  have b3 : ls.length ≤ maxLen := by unfold maxLen; omega
  go_enter Tryd.func79, Tryd.ntmps79
  go_wp2_with (at_make; refine wpList_make_full _ rfl _ _ _ rfl w.heap.size 75 i0 (.agg #[.int .i64 0, .int .i64 0, .int .i64 0, .int .i64 0]) 4 Tryd.underlying25 hi0 hz0 hz1 _ _ _ _ ls.length rfl rfl rfl rfl b2 b3 (Nat.le_refl _) ?_; intro w1 hown hg)
  have hbel : Below w.heap.size w w1 := (Below.refl _ _).grown hg (Nat.le_refl _) (by intro k hk; cases hk)
  obtain ⟨xs, hxs, hxl⟩ : ∃ xs : List Value, w1.ownsRow w.heap.size 75 4 (.slice (some ⟨w.heap.size, 0, none⟩) ls.length ls.length) ls.length xs ∧ xs.length = ls.length * 4 := ⟨_, hown, hown.1⟩
  have HO := Lib.hid hxs
  have HU : Hid (Upto4 xs ls 0) := Lib.hid ⟨hxl, fun j hj => absurd hj (by omega)⟩
  have HB := Lib.hid hbel
  have HR := Lib.hid h
  clear hg hown b2 b3 hi0 hz0 hz1 hz2 hbel hxs hxl h
  go_loopw [4] (fun i wr => ∃ (k : Nat) (xs : List Value), k ≤ ls.length ∧ i = .int .i64 k ∧ Upto4 xs ls k ∧ wr.ownsRow w.heap.size 75 4 (.slice (some ⟨w.heap.size, 0, none⟩) ls.length ls.length) ls.length xs ∧ Below w.heap.size w wr) (fun i _ => ls.length - (intOf i).toNat)
  case atStart => exact ⟨0, xs, Nat.zero_le _, rfl, HU.out, HO.out, HB.out⟩
  case round =>
    obtain ⟨k, ys, hk, rfl, hU, hO, hB⟩ := hrel
    clear HU HO HB
    by_cases hlt : k < ls.length
    · obtain ⟨b, off, rfl, hbb, hcells⟩ := HR.out.at (by omega)
      obtain ⟨x0, x1, x2, x3⟩ := hcells k hlt
      have hblt := hbb
      replace x0 := (hB.cell (p := ⟨b, off + k * 4, none⟩) hbb).trans x0
      replace x1 := (hB.cell (p := ⟨b, off + k * 4 + 1, none⟩) hbb).trans x1
      replace x2 := (hB.cell (p := ⟨b, off + k * 4 + 2, none⟩) hbb).trans x2
      replace x3 := (hB.cell (p := ⟨b, off + k * 4 + 3, none⟩) hbb).trans x3
      have HT := Lib.hid (toLk_any (ls.getD k Lk.nil) wr)
      have HS := Lib.hid (hU.step hlt)
      have HO := Lib.hid hO; have HB := Lib.hid hB
      have hyl := hU.1
      clear hcells hU hO hB
      generalize (ls.getD k Lk.nil).k = sk at *; generalize (ls.getD k Lk.nil).a = sa at *; generalize (ls.getD k Lk.nil).b = sb at *; generalize (ls.getD k Lk.nil).c = sc at *
      go_wp2_with (fail)
      refine HT.out.mono ?_
      rintro e w2 ⟨rfl, bel⟩
      have o2 := own_below HO.out bel (Nat.le_refl _)
      have B2 := Lib.hid (HB.out.trans (bel.mono HB.out.size))
      obtain ⟨q1, q2⟩ := four_own (o := k * 4) o2 (.int .i64 sk) (.int .i64 sa) (.int .i64 sb) (.int .i64 sc)
      have HQ1 := Lib.hid q1
      have HQ2 := Lib.hid (B2.out.grown q2 B2.out.size (by intro r hr; injection hr with hr; omega))
      have cl := fun t (ht : t < 4) => o2.cellAt (g := w.heap.size) (k * 4 + t) (by omega)
      have fr := fun t => o2.frozenAt (g := w.heap.size) (k * 4 + t)
      obtain ⟨d0, e0⟩ : ∃ u, w2.cell? ⟨w.heap.size, k * 4, none⟩ = some u := ⟨_, (cl 0 (by omega)).trans (List.getElem?_eq_getElem (show k * 4 + 0 < ys.length by omega))⟩
      obtain ⟨d1, e1⟩ : ∃ u, w2.cell? ⟨w.heap.size, k * 4 + 1, none⟩ = some u := ⟨_, (cl 1 (by omega)).trans (List.getElem?_eq_getElem (show k * 4 + 1 < ys.length by omega))⟩
      obtain ⟨d2, e2⟩ : ∃ u, w2.cell? ⟨w.heap.size, k * 4 + 2, none⟩ = some u := ⟨_, (cl 2 (by omega)).trans (List.getElem?_eq_getElem (show k * 4 + 2 < ys.length by omega))⟩
      obtain ⟨d3, e3⟩ : ∃ u, w2.cell? ⟨w.heap.size, k * 4 + 3, none⟩ = some u := ⟨_, (cl 3 (by omega)).trans (List.getElem?_eq_getElem (show k * 4 + 3 < ys.length by omega))⟩
      have fr0 : w2.frozen? ⟨w.heap.size, k * 4, none⟩ = false := fr 0
      have fr1 := fr 1; have fr2 := fr 2; have fr3 := fr 3
      clear cl fr o2 bel q1 q2 HT x0 x1 x2 x3 HO HB hyl
      go_wp2
      go_roundw
      case rel => exact ⟨k + 1, _, by omega, by go_num, HS.out, HQ1.out, HQ2.out⟩
      case measure => simp [intOf]; omega
    · have hkl : k = ls.length := by omega
      subst hkl
      have hd := hU.done
      subst hd
      have HO := Lib.hid hO; have HB := Lib.hid hB
      clear hU hO hB
      go_wp2
      go_ret
      exact ⟨rfl, HO.out, HB.out⟩
end
section
open Go.ChangeAt Go.ChangeShapes Go.RowKit Go.WideShapes

/-- What the copy of a net leaves. -/
def CopiedN (w : World) (N : Nt) (e : Ending) (w' : World) : Prop :=
  ∃ h : NH, e = .returned (.agg #[.slice h.A N.w.length h.c, .slice h.L N.l.length h.d, .slice h.C N.c.length h.e]) ∧ OwnN w' w.heap.size w'.heap.size h N ∧ Below w.heap.size w w'
theorem set3_at {w : World} {b : Nat} {c0 c1 c2 : Value} {t : TypeId} (h : w.heap[b]? = some (.cells #[c0, c1, c2] t (0, 0))) (v0 v1 v2 : Value) :
    (((w.setCell ⟨b, 0, none⟩ v0).setCell ⟨b, 1, none⟩ v1).setCell ⟨b, 2, none⟩ v2).heap[b]? = some (.cells #[v0, v1, v2] t (0, 0)) := by
  have h0 := heap_setCell_same w b 0 _ t v0 h
  have h1 := heap_setCell_same _ b 1 _ t v1 h0
  have h2 := heap_setCell_same _ b 2 _ t v2 h1
  simpa using h2
theorem set3_below {w0 w : World} {B b : Nat} (h : Below B w0 w) (hb : B ≤ b) (v0 v1 v2 : Value) : Below B w0 (((w.setCell ⟨b, 0, none⟩ v0).setCell ⟨b, 1, none⟩ v1).setCell ⟨b, 2, none⟩ v2) :=
  ((h.setCell (p := ⟨b, 0, none⟩) hb v0).setCell (p := ⟨b, 1, none⟩) hb v1).setCell (p := ⟨b, 2, none⟩) hb v2
theorem own_setN {w : World} {lo hi b o : Nat} {h : NH} {N : Nt} (r : OwnN w lo hi h N) (hb : b < lo) (u : Value) : OwnN (w.setCell ⟨b, o, none⟩ u) lo hi h N := r.same fun k h1 _ _ => Below.heap_setCell _ _ _ _ (by show k ≠ b; omega)
theorem three_any' (w : World) (o p q : Obj) : Below w.heap.size w (((w.alloc o).alloc p).alloc q) ∧ (((w.alloc o).alloc p).alloc q).heap[w.heap.size]? = some o ∧ (((w.alloc o).alloc p).alloc q).heap[w.heap.size + 1]? = some p ∧ (((w.alloc o).alloc p).alloc q).heap[w.heap.size + 1 + 1]? = some q ∧ (((w.alloc o).alloc p).alloc q).heap.size = w.heap.size + 1 + 1 + 1 := by
  refine ⟨(((Below.refl _ _).alloc (Nat.le_refl _) _).alloc (by simp) _).alloc (by simp; omega) _, ?_, heap_two _ _ _ _, ?_, by simp⟩
  · rw [Below.heap_alloc _ _ _ (by simp; omega), Below.heap_alloc _ _ _ (by simp)]; exact heap_alloc_new _ _
  · have e : ((w.alloc o).alloc p).heap.size = w.heap.size + 1 + 1 := by simp
    rw [← e]; exact heap_alloc_new _ _
set_option maxHeartbeats 2000000 in
theorem toN_any (h : NH) (N : Nt) (w : World) (r : RdN w w.heap.size h N) (hq : ∀ q ∈ N.w, q.length ≤ 1048576) (hn : N.w.length ≤ 1048576) (hl : N.l.length ≤ 1048576) (hc : N.c.length ≤ 1048576) :
    Calls Tryd.prog 28 #[.agg #[.slice h.A N.w.length h.c, .slice h.L N.l.length h.d, .slice h.C N.c.length h.e]] w (CopiedN w N) := by
  obtain ⟨A, c, hs0, L, d, C, e0⟩ := h
  obtain ⟨ws, ls, cs⟩ := N
  obtain ⟨r1, r2, r3⟩ := r
  dsimp only at r1 r2 r3 hq hn hl hc ⊢
  obtain ⟨w3, hw3⟩ : ∃ w3, w3 = ((w.alloc (.cells #[.slice A ws.length c, .slice L ls.length d, .slice C cs.length e0] 46)).alloc (.cells #[.slice none 0 0, .slice none 0 0, .slice none 0 0] 28)).alloc (.cells #[.slice none 0 0, .slice none 0 0, .slice none 0 0] 28) := ⟨_, rfl⟩
  obtain ⟨hb, p0, p1, p2, hsz⟩ := three_any' w (.cells #[.slice A ws.length c, .slice L ls.length d, .slice C cs.length e0] 46) (.cells #[.slice none 0 0, .slice none 0 0, .slice none 0 0] 28) (.cells #[.slice none 0 0, .slice none 0 0, .slice none 0 0] 28)
  rw [← hw3] at hb p0 p1 p2 hsz
  have HQ := Lib.hid (toSS_any A ws.length c ws w3 ((r1.below hb).more hb.size) hq hn)
  have HR2 := Lib.hid r2; have HR3 := Lib.hid r3
  have HB3 := Lib.hid hb
  obtain ⟨a0, a1, a2⟩ := three_cells p0
  have P0 := Lib.hid p0; have P1 := Lib.hid p1; have P2 := Lib.hid p2
  clear hb r1 r2 r3 p0 p1 p2 hq
  go_enter Tryd.func28, Tryd.ntmps28
  go_wp2_with (fail)
  rw [← hw3]
  clear hw3
  refine HQ.out.mono ?_
  rintro e w4 ⟨hs, rfl, own4, bel4⟩
  have q0 := (bel4.block w.heap.size (by omega)).trans P0.out
  have q1 := (bel4.block (w.heap.size + 1) (by omega)).trans P1.out
  have q2 := (bel4.block (w.heap.size + 1 + 1) (by omega)).trans P2.out
  have hs4 := bel4.size
  have B4 := Lib.hid (HB3.out.trans (bel4.mono HB3.out.size))
  have O4 := Lib.hid own4
  clear bel4 own4 HB3 HQ a0 a1 a2 P0 P1 P2
  have hg3 : w.heap.size + 1 + 1 < w3.heap.size := by omega
  clear hsz
  generalize w3.heap.size = g at *
  -- the wires stored
  have B5 : Hid (Below w.heap.size w (w4.setCell ⟨w.heap.size + 1 + 1, 0, none⟩ (.slice (some ⟨g, 0, none⟩) ws.length ws.length))) := Lib.hid (B4.out.setCell (p := ⟨w.heap.size + 1 + 1, 0, none⟩) (by show w.heap.size ≤ w.heap.size + 1 + 1; omega) _)
  have s0 : (w4.setCell ⟨w.heap.size + 1 + 1, 0, none⟩ (.slice (some ⟨g, 0, none⟩) ws.length ws.length)).heap[w.heap.size + 1 + 1]? = some (.cells #[.slice (some ⟨g, 0, none⟩) ws.length ws.length, .slice none 0 0, .slice none 0 0] 28 (0, 0)) := by simpa using heap_setCell_same w4 (w.heap.size + 1 + 1) 0 _ _ (.slice (some ⟨g, 0, none⟩) ws.length ws.length) q2
  have s1 : (w4.setCell ⟨w.heap.size + 1 + 1, 0, none⟩ (.slice (some ⟨g, 0, none⟩) ws.length ws.length)).heap[w.heap.size + 1]? = _ := (Below.heap_setCell _ _ _ _ (by show w.heap.size + 1 ≠ w.heap.size + 1 + 1; omega)).trans q1
  have s2 : (w4.setCell ⟨w.heap.size + 1 + 1, 0, none⟩ (.slice (some ⟨g, 0, none⟩) ws.length ws.length)).heap[w.heap.size]? = _ := (Below.heap_setCell _ _ _ _ (by show w.heap.size ≠ w.heap.size + 1 + 1; omega)).trans q0
  have O5 : Hid (OwnQ (w4.setCell ⟨w.heap.size + 1 + 1, 0, none⟩ (.slice (some ⟨g, 0, none⟩) ws.length ws.length)) g w4.heap.size (.slice (some ⟨g, 0, none⟩) ws.length ws.length) hs ws) := Lib.hid (O4.out.setBelow (p := ⟨w.heap.size + 1 + 1, 0, none⟩) (by show w.heap.size + 1 + 1 < g; omega) _)
  obtain ⟨y0, y1, y2⟩ := three_cells q2
  have z0 := frozen_of_row _ _ 0 _ _ q2
  obtain ⟨a0, a1, a2⟩ := three_cells q0
  have S0 := Lib.hid s0; have S1 := Lib.hid s1; have S2 := Lib.hid s2
  clear s0 s1 s2 q0 q1 q2 O4 B4
  go_wp2_with (fail)
  have es5 : (w4.setCell ⟨w.heap.size + 1 + 1, 0, none⟩ (.slice (some ⟨g, 0, none⟩) ws.length ws.length)).heap.size = w4.heap.size := by simp
  clear y0 y1 y2 z0 a0 a1 a2
  generalize w4.setCell ⟨w.heap.size + 1 + 1, 0, none⟩ (.slice (some ⟨g, 0, none⟩) ws.length ws.length) = w5 at *
  refine (toLS_any L ls.length d ls w5 ((HR2.out.below B5.out).more B5.out.size) hl).mono ?_
  rintro e w6 ⟨rfl, own6, bel6⟩
  have q0 := (bel6.block w.heap.size (by omega)).trans S2.out
  have q1 := (bel6.block (w.heap.size + 1) (by omega)).trans S1.out
  have q2 := (bel6.block (w.heap.size + 1 + 1) (by omega)).trans S0.out
  have hs6 := bel6.size
  have B6 := Lib.hid (B5.out.trans (bel6.mono B5.out.size))
  have O6 := Lib.hid (O5.out.below bel6)
  have L6 := Lib.hid own6
  clear bel6 own6 B5 O5 S0 S1 S2
  generalize w5.heap.size = g5 at *
  subst es5
  -- the links stored
  obtain ⟨m, hm⟩ : ∃ m, w4.heap.size = m := ⟨_, rfl⟩
  rw [hm] at hs4 hs6 O6 L6 ⊢
  clear hm
  have B7 : Hid (Below w.heap.size w (w6.setCell ⟨w.heap.size + 1 + 1, 1, none⟩ (.slice (some ⟨m, 0, none⟩) ls.length ls.length))) := Lib.hid (B6.out.setCell (p := ⟨w.heap.size + 1 + 1, 1, none⟩) (by show w.heap.size ≤ w.heap.size + 1 + 1; omega) _)
  have s0 : (w6.setCell ⟨w.heap.size + 1 + 1, 1, none⟩ (.slice (some ⟨m, 0, none⟩) ls.length ls.length)).heap[w.heap.size + 1 + 1]? = some (.cells #[.slice (some ⟨g, 0, none⟩) ws.length ws.length, .slice (some ⟨m, 0, none⟩) ls.length ls.length, .slice none 0 0] 28 (0, 0)) := by simpa using heap_setCell_same w6 (w.heap.size + 1 + 1) 1 _ _ (.slice (some ⟨m, 0, none⟩) ls.length ls.length) q2
  have s1 : (w6.setCell ⟨w.heap.size + 1 + 1, 1, none⟩ (.slice (some ⟨m, 0, none⟩) ls.length ls.length)).heap[w.heap.size + 1]? = _ := (Below.heap_setCell _ _ _ _ (by show w.heap.size + 1 ≠ w.heap.size + 1 + 1; omega)).trans q1
  have s2 : (w6.setCell ⟨w.heap.size + 1 + 1, 1, none⟩ (.slice (some ⟨m, 0, none⟩) ls.length ls.length)).heap[w.heap.size]? = _ := (Below.heap_setCell _ _ _ _ (by show w.heap.size ≠ w.heap.size + 1 + 1; omega)).trans q0
  have O7 : Hid (OwnQ (w6.setCell ⟨w.heap.size + 1 + 1, 1, none⟩ (.slice (some ⟨m, 0, none⟩) ls.length ls.length)) g m (.slice (some ⟨g, 0, none⟩) ws.length ws.length) hs ws) := Lib.hid (O6.out.setBelow (p := ⟨w.heap.size + 1 + 1, 1, none⟩) (by show w.heap.size + 1 + 1 < g; omega) _)
  have L7 := Lib.hid (ownsRow_setCell_below L6.out (a := ⟨w.heap.size + 1 + 1, 1, none⟩) (by show w.heap.size + 1 + 1 < m; omega) (.slice (some ⟨m, 0, none⟩) ls.length ls.length))
  have hLb : Hid (∀ b, (Value.slice (some ⟨m, 0, none⟩) ls.length ls.length).ownBlock = some b → b < w6.heap.size) := Lib.hid fun b e => (L6.out.lt b e).2
  obtain ⟨y0, y1, y2⟩ := three_cells q2
  have z0 := frozen_of_row _ _ 1 _ _ q2
  obtain ⟨a0, a1, a2⟩ := three_cells q0
  have S0 := Lib.hid s0; have S1 := Lib.hid s1; have S2 := Lib.hid s2
  clear s0 s1 s2 q0 q1 q2 O6 B6 L6
  go_wp2_with (fail)
  have es7 : (w6.setCell ⟨w.heap.size + 1 + 1, 1, none⟩ (.slice (some ⟨m, 0, none⟩) ls.length ls.length)).heap.size = w6.heap.size := by simp
  clear y0 y1 y2 z0 a0 a1 a2
  generalize w6.setCell ⟨w.heap.size + 1 + 1, 1, none⟩ (.slice (some ⟨m, 0, none⟩) ls.length ls.length) = w7 at *
  refine (toInts_any C cs.length e0 cs w7 ((HR3.out.below B7.out).more B7.out.size) hc).mono ?_
  rintro e w8 ⟨rfl, own8, bel8⟩
  have q1 := (bel8.block (w.heap.size + 1) (by omega)).trans S1.out
  have q2 := (bel8.block (w.heap.size + 1 + 1) (by omega)).trans S0.out
  have hs8 := bel8.size
  have B8 := Lib.hid (B7.out.trans (bel8.mono B7.out.size))
  have O8 := Lib.hid (O7.out.below bel8)
  have L8 := Lib.hid (own_below L7.out bel8 (Nat.le_refl _))
  have C8 := Lib.hid own8
  clear bel8 own8 B7 O7 S0 S1 S2 L7
  generalize w7.heap.size = g7 at *
  subst es7
  obtain ⟨m2, hm2⟩ : ∃ m, w6.heap.size = m := ⟨_, rfl⟩
  rw [hm2] at hs6 hs8 C8 hLb ⊢
  clear hm2
  -- the conclusions stored; the whole copied
  have s0 : (w8.setCell ⟨w.heap.size + 1 + 1, 2, none⟩ (.slice (some ⟨m2, 0, none⟩) cs.length cs.length)).heap[w.heap.size + 1 + 1]? = some (.cells #[.slice (some ⟨g, 0, none⟩) ws.length ws.length, .slice (some ⟨m, 0, none⟩) ls.length ls.length, .slice (some ⟨m2, 0, none⟩) cs.length cs.length] 28 (0, 0)) := by simpa using heap_setCell_same w8 (w.heap.size + 1 + 1) 2 _ _ (.slice (some ⟨m2, 0, none⟩) cs.length cs.length) q2
  have s1 : (w8.setCell ⟨w.heap.size + 1 + 1, 2, none⟩ (.slice (some ⟨m2, 0, none⟩) cs.length cs.length)).heap[w.heap.size + 1]? = _ := (Below.heap_setCell _ _ _ _ (by show w.heap.size + 1 ≠ w.heap.size + 1 + 1; omega)).trans q1
  have F := set3_at s1 (.slice (some ⟨g, 0, none⟩) ws.length ws.length) (.slice (some ⟨m, 0, none⟩) ls.length ls.length) (.slice (some ⟨m2, 0, none⟩) cs.length cs.length)
  have HF := Lib.hid F
  have ON : Hid (OwnN w8 g w8.heap.size ⟨some ⟨g, 0, none⟩, ws.length, hs, some ⟨m, 0, none⟩, ls.length, some ⟨m2, 0, none⟩, cs.length⟩ ⟨ws, ls, cs⟩) := Lib.hid ((OwnN.mk' (lo := g) (hi := w8.heap.size) (m1 := m) (m2 := m2) (h := ⟨some ⟨g, 0, none⟩, ws.length, hs, some ⟨m, 0, none⟩, ls.length, some ⟨m2, 0, none⟩, cs.length⟩) (N := ⟨ws, ls, cs⟩) O8.out L8.out hLb.out C8.out hs4 hs6 (Nat.le_refl _) hs8))
  obtain ⟨y0, y1, y2⟩ := three_cells q2
  have z0 := frozen_of_row _ _ 2 _ _ q2
  obtain ⟨a0, a1, a2⟩ := three_cells q1
  have f0 := frozen_of_row _ _ 0 _ _ q1; have f1 := frozen_of_row _ _ 1 _ _ q1; have f2 := frozen_of_row _ _ 2 _ _ q1
  have hsz8 : w.heap.size + 1 + 1 < w8.heap.size := by omega
  clear s0 s1 q1 q2 O8 L8 C8 hLb F
  go_wp2
  (try simp only [Exit.inBlock, Exit.then])
  refine bodyPost_ret (results_cell_row rfl _ _ (w.heap.size + 1) _ _ (0, 0) _ rfl HF.out Tryd.underlying28 rfl (by kernel_rfl)) rfl ?_
  refine ⟨⟨some ⟨g, 0, none⟩, ws.length, hs, some ⟨m, 0, none⟩, ls.length, some ⟨m2, 0, none⟩, cs.length⟩, rfl, ?_, ?_⟩
  · have o := own_setN (own_setN (own_setN (own_setN ON.out (b := w.heap.size + 1 + 1) (o := 2) (by omega) (.slice (some ⟨m2, 0, none⟩) cs.length cs.length)) (b := w.heap.size + 1) (o := 0) (by omega) (.slice (some ⟨g, 0, none⟩) ws.length ws.length)) (b := w.heap.size + 1) (o := 1) (by omega) (.slice (some ⟨m, 0, none⟩) ls.length ls.length)) (b := w.heap.size + 1) (o := 2) (by omega) (.slice (some ⟨m2, 0, none⟩) cs.length cs.length)
    exact o.more (by omega) (by simp)
  · exact set3_below (B8.out.setCell (p := ⟨w.heap.size + 1 + 1, 2, none⟩) (by show w.heap.size ≤ w.heap.size + 1 + 1; omega) _) (by omega) _ _ _
theorem eqLk_any (x : Lk) (w : World) : Calls Tryd.prog 117 #[.agg #[.int .i64 x.k, .int .i64 x.a, .int .i64 x.b, .int .i64 x.c], .agg #[.int .i64 x.k, .int .i64 x.a, .int .i64 x.b, .int .i64 x.c]] w fun e w' => e = .returned (.bool true) ∧ Below w.heap.size w w' := by
  obtain ⟨k, a, b, c⟩ := x
  dsimp only
  have e1 : (k != k) = false := by simp
  have e2 : (a != a) = false := by simp
  have e3 : (b != b) = false := by simp
  have e4 : (c != c) = false := by simp
  go_enter Tryd.func117, Tryd.ntmps117
  go_wp2
  go_ret
  exact ⟨rfl, ((Below.refl _ _).alloc (Nat.le_refl _) _).alloc (by simp) _⟩
set_option maxHeartbeats 2000000 in
theorem eqLS_any (A A2 : Option Addr) (n c c2 : Nat) (ls : List Lk) (w : World) (h : RdL w w.heap.size A n ls) (h' : RdL w w.heap.size A2 n ls) (hn : n ≤ 1048576) :
    Calls Tryd.prog 81 #[.slice A n c, .slice A2 n c2] w fun e w' => e = .returned (.bool true) ∧ Below w.heap.size w w' := by
  have hl := h.len
  have hnn : (n != n) = false := by simp
  have HR := Lib.hid h; have HR2 := Lib.hid h'
  clear h h'
  go_enter Tryd.func81, Tryd.ntmps81
  go_wp2
  go_loopw [5] (fun i wr => ∃ k : Nat, k ≤ n ∧ i = .int .i64 k ∧ Below w.heap.size w wr) (fun i _ => n - (intOf i).toNat)
  case atStart => exact ⟨0, Nat.zero_le _, rfl, Below.refl _ _⟩
  case round =>
    obtain ⟨k, hk, rfl, hB⟩ := hrel
    have HB := Lib.hid hB
    by_cases hlt : k < n
    · obtain ⟨b, off, rfl, hbb, hcells⟩ := HR.out.at (by omega)
      obtain ⟨b2, off2, rfl, hbb2, hcells2⟩ := HR2.out.at (by omega)
      obtain ⟨x0, x1, x2, x3⟩ := hcells k hlt
      obtain ⟨y0, y1, y2, y3⟩ := hcells2 k hlt
      replace x0 := (hB.cell (p := ⟨b, off + k * 4, none⟩) hbb).trans x0
      replace x1 := (hB.cell (p := ⟨b, off + k * 4 + 1, none⟩) hbb).trans x1
      replace x2 := (hB.cell (p := ⟨b, off + k * 4 + 2, none⟩) hbb).trans x2
      replace x3 := (hB.cell (p := ⟨b, off + k * 4 + 3, none⟩) hbb).trans x3
      replace y0 := (hB.cell (p := ⟨b2, off2 + k * 4, none⟩) hbb2).trans y0
      replace y1 := (hB.cell (p := ⟨b2, off2 + k * 4 + 1, none⟩) hbb2).trans y1
      replace y2 := (hB.cell (p := ⟨b2, off2 + k * 4 + 2, none⟩) hbb2).trans y2
      replace y3 := (hB.cell (p := ⟨b2, off2 + k * 4 + 3, none⟩) hbb2).trans y3
      have HE := Lib.hid (eqLk_any (ls.getD k Lk.nil) wr.drew)
      have hi1 : (k : Int) < (n : Int) := by omega
      clear hcells hcells2 hB
      generalize (ls.getD k Lk.nil).k = sk at *; generalize (ls.getD k Lk.nil).a = sa at *; generalize (ls.getD k Lk.nil).b = sb at *; generalize (ls.getD k Lk.nil).c = sc at *
      go_wp2_with (fail)
      go_region_with (go_at_call 117; refine HE.out.mono ?_; rintro e wf ⟨rfl, bf'⟩; have bf := undrew bf'; clear bf')
      all_goals go_wp2
      all_goals
        go_roundw
        case rel => exact ⟨k + 1, by omega, by go_num, HB.out.trans (bf.mono HB.out.size)⟩
        case measure => simp [intOf]; omega
    · have hkl : k = n := by omega
      subst hkl
      clear hB
      go_wp2
      go_ret
      exact ⟨rfl, HB.out⟩
set_option maxHeartbeats 1000000 in
theorem eqN_any (h h' : NH) (N : Nt) (w : World) (r : RdN w w.heap.size h N) (r' : RdN w w.heap.size h' N) (hq : ∀ q ∈ N.w, q.length ≤ 1048576) (hn : N.w.length ≤ 1048576) (hl : N.l.length ≤ 1048576) (hc : N.c.length ≤ 1048576) :
    Calls Tryd.prog 29 #[.agg #[.slice h.A N.w.length h.c, .slice h.L N.l.length h.d, .slice h.C N.c.length h.e], .agg #[.slice h'.A N.w.length h'.c, .slice h'.L N.l.length h'.d, .slice h'.C N.c.length h'.e]] w fun e w' => e = .returned (.bool true) ∧ Below w.heap.size w w' := by
  obtain ⟨A, c, hs0, L, d, C, e0⟩ := h
  obtain ⟨A2, c2, hs2, L2, d2, C2, e2⟩ := h'
  obtain ⟨ws, ls, cs⟩ := N
  obtain ⟨r1, r2, r3⟩ := r
  obtain ⟨t1, t2, t3⟩ := r'
  dsimp only at r1 r2 r3 t1 t2 t3 hq hn hl hc ⊢
  obtain ⟨w2, hw2⟩ : ∃ w2, w2 = (w.alloc (.cells #[.slice A ws.length c, .slice L ls.length d, .slice C cs.length e0] 28)).alloc (.cells #[.slice A2 ws.length c2, .slice L2 ls.length d2, .slice C2 cs.length e2] 28) := ⟨_, rfl⟩
  have hb : Below w.heap.size w w2 := by
    rw [hw2]
    exact ((Below.refl _ _).alloc (Nat.le_refl _) _).alloc (by simp) _
  have p0 : w2.heap[w.heap.size]? = some (.cells #[.slice A ws.length c, .slice L ls.length d, .slice C cs.length e0] 28 (0, 0)) := by
    rw [hw2, Below.heap_alloc _ _ _ (by simp)]; exact heap_alloc_new _ _
  have p1 : w2.heap[w.heap.size + 1]? = some (.cells #[.slice A2 ws.length c2, .slice L2 ls.length d2, .slice C2 cs.length e2] 28 (0, 0)) := by
    rw [hw2]
    have e : (w.alloc (.cells #[.slice A ws.length c, .slice L ls.length d, .slice C cs.length e0] 28)).heap.size = w.heap.size + 1 := by simp
    rw [← e]; exact heap_alloc_new _ _
  have hsz : w.heap.size + 1 < w2.heap.size := by rw [hw2]; simp
  have HE1 := Lib.hid (eqQ_x A A2 ws.length c c2 ws w2 ((r1.below hb).more hb.size) ((t1.below hb).more hb.size) hn hq)
  have HL1 := Lib.hid r2; have HL2 := Lib.hid t2; have HC1 := Lib.hid r3; have HC2 := Lib.hid t3
  have HB := Lib.hid hb
  obtain ⟨a0, a1, a2⟩ := three_cells p0
  obtain ⟨b0, b1, b2⟩ := three_cells p1
  clear hb r1 r2 r3 t1 t2 t3 hq
  go_enter Tryd.func29, Tryd.ntmps29
  go_wp2_with (fail)
  rw [← hw2]
  clear hw2
  refine HE1.out.mono ?_
  rintro e w3 ⟨rfl, bel3⟩
  replace p0 := (bel3.block _ (by omega)).trans p0
  replace p1 := (bel3.block _ (by omega)).trans p1
  have hs3 := bel3.size
  have HB3 := Lib.hid (HB.out.trans (bel3.mono HB.out.size))
  clear a0 a1 a2 b0 b1 b2 bel3 HB HE1
  obtain ⟨a0, a1, a2⟩ := three_cells p0
  obtain ⟨b0, b1, b2⟩ := three_cells p1
  go_wp2_with (fail)
  refine (eqLS_any L L2 ls.length d d2 ls w3 ((HL1.out.below HB3.out).more HB3.out.size) ((HL2.out.below HB3.out).more HB3.out.size) hl).mono ?_
  rintro e w4 ⟨rfl, bel4⟩
  replace p0 := (bel4.block _ (by omega)).trans p0
  replace p1 := (bel4.block _ (by omega)).trans p1
  have HB4 := Lib.hid (HB3.out.trans (bel4.mono HB3.out.size))
  clear a0 a1 a2 b0 b1 b2 bel4 HB3
  obtain ⟨a0, a1, a2⟩ := three_cells p0
  obtain ⟨b0, b1, b2⟩ := three_cells p1
  go_wp2_with (fail)
  refine (eqI_x C C2 cs.length e0 e2 cs w4 ((HC1.out.below HB4.out).more HB4.out.size) ((HC2.out.below HB4.out).more HB4.out.size) hc).mono ?_
  rintro e w5 ⟨rfl, bel5⟩
  have HB5 := Lib.hid (HB4.out.trans (bel5.mono HB4.out.size))
  clear bel5
  go_wp2
  go_ret
  exact ⟨rfl, HB5.out⟩
end
end Go.Proofs.YtjfhbofgnagfaaaDoor
