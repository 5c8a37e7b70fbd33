/- The net of an axiom, of the model. -/
import Derived.Test.YtjfhbofgnagfaaaDoorNetO
import Derived.Test.YtjfhbofgnagfaaaDoorSwap
namespace Go.Proofs.YtjfhbofgnagfaaaDoor
open Go.ChangeAt Go.ChangeShapes Go.RowKit Go.WideShapes

def axN (f : List Int) : Nt := ⟨[f, f.map duZ], [⟨1, 0, 1, 0⟩], [0, 1]⟩
/-- AxiomNet. -/
def axV (f : List Int) : Nt := if formN f then axN f else Nt.nil
/-- A row written out. -/
theorem own_lit {w : World} {base n size : Nat} {e : TypeId} (cur : Array Value) (hb : base ≤ w.heap.size) (hm : n ≤ maxLen) (hs : cur.size = n * size) : (w.alloc (.cells cur e)).ownsRow base e size (.slice (some ⟨w.heap.size, 0, none⟩) n n) n cur.toList :=
  ⟨by simpa using hs, .inr ⟨w.heap.size, n, cur, rfl, hb, heap_alloc_new w _, Nat.le_refl _, hm, hs, by rw [← hs]; simp [List.take_of_length_le]⟩⟩
/-- Two slices in memory of their own, in a row. -/
theorem OwnQ.two {u1 u2 : World} {lo : Nat} {A1 A2 : Option Addr} {c1 c2 : Nat} {p q : List Int} (o1 : u1.ownsRow lo 2 1 (.slice A1 p.length c1) p.length (p.map (Value.int .i64))) (o2 : u2.ownsRow u1.heap.size 2 1 (.slice A2 q.length c2) q.length (q.map (Value.int .i64))) (hb : Below u1.heap.size u1 u2) (hlo : lo ≤ u1.heap.size) :
    OwnQ (u2.alloc (.cells #[.slice A1 p.length c1, .slice A2 q.length c2] 26)) lo (u2.heap.size + 1) (.slice (some ⟨u2.heap.size, 0, none⟩) 2 2) (fun i => if i = 0 then (A1, c1) else (A2, c2)) [p, q] := by
  have hb2 : Below u2.heap.size u2 (u2.alloc (.cells #[.slice A1 p.length c1, .slice A2 q.length c2] 26)) := (Below.refl _ _).alloc (Nat.le_refl _) _
  have s1 := hb.size
  have e1 := own_below (own_below o1 hb (Nat.le_refl _)) hb2 (Nat.le_refl _)
  have e2 := (own_below o2 hb2 (Nat.le_refl _)).mono hlo
  refine ⟨own_lit #[.slice A1 p.length c1, .slice A2 q.length c2] (by omega) (by simp [maxLen]) rfl, ?_, ?_, ?_, ?_, ?_⟩
  · intro i hi
    match i, hi with
    | 0, _ => exact e1
    | 1, _ => exact e2
  · intro i j hi hj hne
    match i, j, hi, hj with
    | 0, 0, _, _ => exact absurd rfl hne
    | 1, 1, _, _ => exact absurd rfl hne
    | 0, 1, _, _ =>
      by_cases h : (Value.slice A1 p.length c1).ownBlock = none
      · exact .inl h
      · refine .inr fun e => ?_
        obtain ⟨k, hk⟩ := Option.ne_none_iff_exists'.1 h
        have h1 := (o1.lt k hk).2
        have h2 := (o2.lt k (e.symm.trans hk)).1
        omega
    | 1, 0, _, _ =>
      by_cases h : (Value.slice A2 q.length c2).ownBlock = none
      · exact .inl h
      · refine .inr fun e => ?_
        obtain ⟨k, hk⟩ := Option.ne_none_iff_exists'.1 h
        have h1 := (o2.lt k hk).1
        have h2 := (o1.lt k (e.symm.trans hk)).2
        omega
  · intro i hi
    match i, hi with
    | 0, _ =>
      by_cases h : (Value.slice A1 p.length c1).ownBlock = none
      · exact .inl h
      · refine .inr fun e => ?_
        obtain ⟨k, hk⟩ := Option.ne_none_iff_exists'.1 h
        have h1 := (o1.lt k hk).2
        have h2 : k = u2.heap.size := by have := e.symm.trans hk; injection this with this; exact this.symm
        omega
    | 1, _ =>
      by_cases h : (Value.slice A2 q.length c2).ownBlock = none
      · exact .inl h
      · refine .inr fun e => ?_
        obtain ⟨k, hk⟩ := Option.ne_none_iff_exists'.1 h
        have h1 := (o2.lt k hk).2
        have h2 : k = u2.heap.size := by have := e.symm.trans hk; injection this with this; exact this.symm
        omega
  · intro k e
    obtain rfl : u2.heap.size = k := by simpa [Value.ownBlock] using e
    omega
  · intro i k hi e
    match i, hi, e with
    | 0, _, e => have := (o1.lt k e).2; omega
    | 1, _, e => have := (o2.lt k e).2; omega
theorem own_done0 {w w0 u : World} {N : Nt} {h : NH} (hb : Below w.heap.size w w0) (b4 : Below w0.heap.size w0 u) (o : OwnN u w0.heap.size u.heap.size h N) (hs : w.heap.size + 1 ≤ w0.heap.size) :
    CopiedN w N (.returned (.agg #[.slice h.A N.w.length h.c, .slice h.L N.l.length h.d, .slice h.C N.c.length h.e])) ((((u.setCell ⟨w.heap.size, 0, none⟩ (.slice h.A N.w.length h.c)).setCell ⟨w.heap.size, 1, none⟩ (.slice h.L N.l.length h.d)).setCell ⟨w.heap.size, 2, none⟩ (.slice h.C N.c.length h.e))) :=
  ⟨h, rfl, (own_setN (own_setN (own_setN o (by omega) _) (by omega) _) (by omega) _).more (by omega) (by simp), set3_below (hb.trans (b4.mono hb.size)) (by omega) _ _ _⟩
theorem givesNB_of {w w' : World} {N : Nt} {v : Value} {b : Bool} (h : CopiedN w N (.returned v) w') : GivesNB w N b (.returned (.tuple #[v, .bool b])) w' := by
  obtain ⟨x, e, o, bel⟩ := h
  injection e with e
  subst e
  exact ⟨x, rfl, o, bel⟩
set_option maxHeartbeats 2000000 in
theorem sAxiom_any (A : Option Addr) (c : Nat) (f : List Int) (w : World) (r : RdI w w.heap.size A f.length f) (hv : validB f = true) :
    Calls Tryd.prog 94 #[.slice A f.length c] w (CopiedN w (axN f)) := by
  have hb : Below w.heap.size w (w.alloc (.cells #[.slice none 0 0, .slice none 0 0, .slice none 0 0] 28)) := (Below.refl _ _).alloc (Nat.le_refl _) _
  obtain ⟨w0, hw0⟩ : ∃ w0, w0 = w.alloc (.cells #[.slice none 0 0, .slice none 0 0, .slice none 0 0] 28) := ⟨_, rfl⟩
  have hg : w0.heap[w.heap.size]? = some (.cells #[.slice none 0 0, .slice none 0 0, .slice none 0 0] 28 (0, 0)) := by rw [hw0]; exact heap_alloc_new _ _
  have hs0 : w.heap.size + 1 ≤ w0.heap.size := by rw [hw0]; simp
  rw [← hw0] at hb
  have hl := valid_len hv
  have HC := Lib.hid (copyInts_x A f.length c f w0 ((r.below hb).more hb.size) (by omega))
  have HD := Lib.hid (fun (w' : World) (hw : Below w0.heap.size w0 w') => sdual_any A c f w' ((r.below (hb.trans (hw.mono hb.size))).more (Nat.le_trans hb.size hw.size)) hv)
  have HB0 := Lib.hid hb
  have HG := Lib.hid hg
  have HAX : Hid (axN f = ⟨[f, f.map duZ], [⟨1, 0, 1, 0⟩], [0, 1]⟩) := Lib.hid rfl
  rw [HAX.out]
  clear hb hg hl r hv
  generalize f.map duZ = df at *
  go_enter Tryd.func94, Tryd.ntmps94
  go_wp2_with (fail)
  rw [← hw0]
  clear hw0
  refine HC.out.mono ?_
  rintro e u1 ⟨A1, c1, rfl, own1, bel1⟩
  have B1 := Lib.hid bel1
  have O1 := Lib.hid own1
  clear bel1 own1
  go_wp2_with (fail)
  refine (HD.out u1 B1.out).mono ?_
  rintro e u2 ⟨A2, c2, rfl, own2, bel2⟩
  have B2 := Lib.hid bel2
  have s1 := B1.out.size
  have s2 := bel2.size
  have hq := OwnQ.two O1.out own2 bel2 s1
  have bq : Below u2.heap.size u2 (u2.alloc (.cells #[.slice A1 f.length c1, .slice A2 df.length c2] 26)) := (Below.refl _ _).alloc (Nat.le_refl _) _
  obtain ⟨u3, hu3⟩ : ∃ u3, u3 = u2.alloc (.cells #[.slice A1 f.length c1, .slice A2 df.length c2] 26) := ⟨_, rfl⟩
  have s3 : u3.heap.size = u2.heap.size + 1 := by rw [hu3]; simp
  rw [← hu3] at hq bq
  have hl3 := own_lit (w := u3) (n := 1) (e := 75) (base := u3.heap.size) (size := 4) #[.int .i64 1, .int .i64 0, .int .i64 1, .int .i64 0] (Nat.le_refl _) (by simp [maxLen]) rfl
  have b4 : Below u3.heap.size u3 (u3.alloc (.cells #[.int .i64 1, .int .i64 0, .int .i64 1, .int .i64 0] 75)) := (Below.refl _ _).alloc (Nat.le_refl _) _
  obtain ⟨u4, hu4⟩ : ∃ u4, u4 = u3.alloc (.cells #[.int .i64 1, .int .i64 0, .int .i64 1, .int .i64 0] 75) := ⟨_, rfl⟩
  have s4 : u4.heap.size = u3.heap.size + 1 := by rw [hu4]; simp
  rw [← hu4] at hl3 b4
  have hc4 := own_lit (w := u4) (n := 2) (e := 2) (base := u4.heap.size) (size := 1) #[.int .i64 0, .int .i64 1] (Nat.le_refl _) (by simp [maxLen]) rfl
  have b5 : Below u4.heap.size u4 (u4.alloc (.cells #[.int .i64 0, .int .i64 1] 2)) := (Below.refl _ _).alloc (Nat.le_refl _) _
  obtain ⟨u5, hu5⟩ : ∃ u5, u5 = u4.alloc (.cells #[.int .i64 0, .int .i64 1] 2) := ⟨_, rfl⟩
  have s5 : u5.heap.size = u4.heap.size + 1 := by rw [hu5]; simp
  rw [← hu5] at hc4 b5
  have B5 : Below w0.heap.size w0 u5 := B1.out.trans ((bel2.trans ((bq.trans ((b4.trans (b5.mono b4.size)).mono bq.size)).mono bel2.size)).mono s1)
  have ON : Hid (OwnN u5 w0.heap.size u5.heap.size ⟨some ⟨u2.heap.size, 0, none⟩, 2, fun i => if i = 0 then (A1, c1) else (A2, c2), some ⟨u3.heap.size, 0, none⟩, 1, some ⟨u4.heap.size, 0, none⟩, 2⟩ ⟨[f, df], [⟨1, 0, 1, 0⟩], [0, 1]⟩) := Lib.hid
    (OwnN.mk' (m1 := u3.heap.size) (m2 := u4.heap.size) ((hq.below (b4.trans (b5.mono b4.size))).more (Nat.le_refl _) (by omega)) (own_below hl3 b5 (Nat.le_refl _)) (fun b e => by have h9 : u3.heap.size = b := (by simpa [Value.ownBlock] using e); omega) hc4 (by omega) (by omega) (Nat.le_refl _) (by omega))
  have q1 := (B5.block _ hs0).trans HG.out
  obtain ⟨a0, a1, a2⟩ := three_cells q1
  have f0 := frozen_of_row _ _ 0 _ _ q1; have f1 := frozen_of_row _ _ 1 _ _ q1; have f2 := frozen_of_row _ _ 2 _ _ q1
  have Q1 := Lib.hid q1
  have HB5 := Lib.hid B5
  clear own2 bel2 hq bq hl3 b4 hc4 b5 B5 q1
  rw [s3] at s4 ON
  rw [s4] at ON
  have S5 := Lib.hid (show u5.heap.size = u2.heap.size + 1 + 1 + 1 by omega)
  have HU : Hid (u5 = ((u2.alloc (.cells #[.slice A1 f.length c1, .slice A2 df.length c2] 26)).alloc (.cells #[.int .i64 1, .int .i64 0, .int .i64 1, .int .i64 0] 75)).alloc (.cells #[.int .i64 0, .int .i64 1] 2)) := Lib.hid (by rw [hu5, hu4, hu3])
  clear s3 s4 s5
  rw [HU.out] at a0 a1 a2 f0 f1 f2
  clear hu3 hu4 hu5
  go_wp2
  (try simp only [Exit.inBlock, Exit.then])
  rw [← HU.out]
  refine bodyPost_ret (results_cell_row rfl _ _ w.heap.size _ _ (0, 0) _ rfl (set3_at Q1.out _ _ _) Tryd.underlying28 rfl (by kernel_rfl)) rfl ?_
  exact own_done0 HB0.out HB5.out ON.out hs0
set_option maxHeartbeats 1000000 in
theorem sAxiomNet_any (A : Option Addr) (n c : Nat) (f : List Int) (w : World) (r : RdI w w.heap.size A n f) :
    Calls Tryd.prog 45 #[.slice A n c] w (GivesNB w (axV f) (formN f)) := by
  have hl := r.len
  subst hl
  have hb : Below w.heap.size w (w.alloc (.cells #[.slice none 0 0, .slice none 0 0, .slice none 0 0] 28)) := (Below.refl _ _).alloc (Nat.le_refl _) _
  obtain ⟨w0, hw0⟩ : ∃ w0, w0 = w.alloc (.cells #[.slice none 0 0, .slice none 0 0, .slice none 0 0] 28) := ⟨_, rfl⟩
  have hg : w0.heap[w.heap.size]? = some (.cells #[.slice none 0 0, .slice none 0 0, .slice none 0 0] 28 (0, 0)) := by rw [hw0]; exact heap_alloc_new _ _
  have hs0 : w.heap.size + 1 ≤ w0.heap.size := by rw [hw0]; simp
  rw [← hw0] at hb
  have HF := Lib.hid (sForm_any A f.length c f w0 ((r.below hb).more hb.size))
  have HB0 := Lib.hid hb
  have HG := Lib.hid hg
  cases hv : formN f with
  | false =>
    rw [hv] at HF
    have HE : Hid (axV f = Nt.nil) := Lib.hid (by unfold axV; rw [hv]; rfl)
    rw [HE.out]
    clear hb hg r hv
    go_enter Tryd.func45, Tryd.ntmps45
    go_wp2_with (fail)
    rw [← hw0]
    clear hw0
    refine HF.out.mono ?_
    rintro e u ⟨rfl, bel⟩
    have q1 := (bel.block _ hs0).trans HG.out
    obtain ⟨a0, a1, a2⟩ := three_cells q1
    have f0 := frozen_of_row _ _ 0 _ _ q1; have f1 := frozen_of_row _ _ 1 _ _ q1; have f2 := frozen_of_row _ _ 2 _ _ q1
    have Q1 := Lib.hid q1
    have BU := Lib.hid bel
    clear q1 bel
    go_wp2
    (try simp only [Exit.inBlock, Exit.then])
    refine bodyPost_ret (results_cell_row_tmp rfl _ _ w.heap.size _ _ (0, 0) _ rfl (set3_at Q1.out _ _ _) Tryd.underlying28 rfl (by kernel_rfl)) rfl ?_
    exact givesNB_of (own_done0 HB0.out BU.out (OwnN.nil u w0.heap.size u.heap.size) hs0)
  | true =>
    rw [hv] at HF
    have HE : Hid (axV f = axN f) := Lib.hid (by unfold axV; rw [hv]; rfl)
    rw [HE.out]
    have HA := Lib.hid (fun (w' : World) (hw : Below w0.heap.size w0 w') => sAxiom_any A c f w' ((r.below (hb.trans (hw.mono hb.size))).more (Nat.le_trans hb.size hw.size)) (formN_valid hv))
    clear hb hg r hv
    generalize axN f = X at *
    go_enter Tryd.func45, Tryd.ntmps45
    go_wp2_with (fail)
    rw [← hw0]
    clear hw0
    refine HF.out.mono ?_
    rintro e u ⟨rfl, bel⟩
    have BU := Lib.hid bel
    clear bel
    go_wp2_with (fail)
    refine (HA.out u BU.out).mono ?_
    rintro e u2 ⟨h, rfl, own, bel2⟩
    have su := BU.out.size
    have B2 := BU.out.trans (bel2.mono BU.out.size)
    have q1 := (B2.block _ hs0).trans HG.out
    obtain ⟨a0, a1, a2⟩ := three_cells q1
    have f0 := frozen_of_row _ _ 0 _ _ q1; have f1 := frozen_of_row _ _ 1 _ _ q1; have f2 := frozen_of_row _ _ 2 _ _ q1
    have Q1 := Lib.hid q1
    have HB2 := Lib.hid B2
    have ON := Lib.hid (own.more su (Nat.le_refl _))
    clear q1 bel2 own B2
    go_wp2
    (try simp only [Exit.inBlock, Exit.then])
    refine bodyPost_ret (results_cell_row_tmp rfl _ _ w.heap.size _ _ (0, 0) _ rfl (set3_at Q1.out _ _ _) Tryd.underlying28 rfl (by kernel_rfl)) rfl ?_
    exact givesNB_of (own_done0 HB0.out HB2.out ON.out hs0)
end Go.Proofs.YtjfhbofgnagfaaaDoor
