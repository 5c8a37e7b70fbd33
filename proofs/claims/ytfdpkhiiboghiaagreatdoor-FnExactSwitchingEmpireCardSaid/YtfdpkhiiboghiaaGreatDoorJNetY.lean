/- ValidNet of the model. -/
import Derived.Test.YtfdpkhiiboghiaaGreatDoorJNetX
namespace Go.Proofs.YtfdpkhiiboghiaaGreatDoor
set_option linter.unusedSimpArgs false
set_option linter.unusedVariables false
open Go.ChangeAt Go.ChangeShapes Go.RowKit Go.WideShapes

/-- A row of counts lies here. -/
def CntAt (w : World) (g n : Nat) (f : Nat → Int) : Prop := w.ownsRow g 2 1 (.slice (some ⟨g, 0, none⟩) n n) n ((cnts n f).map (Value.int .i64))
section
variable {w w' : World} {g n : Nat} {f f' : Nat → Int}
theorem CntAt.below (h : CntAt w g n f) (hb : Below w.heap.size w w') : CntAt w' g n f := own_below h hb (Nat.le_refl _)
theorem CntAt.ext (h : CntAt w g n f) (he : ∀ x, x < n → f x = f' x) : CntAt w g n f' := by unfold CntAt at h ⊢; rw [← cnts_ext he]; exact h
theorem CntAt.cell (h : CntAt w g n f) {i : Nat} (hi : i < n) : w.cell? ⟨g, i, none⟩ = some (.int .i64 (f i)) := by
  have := World.ownsRow.cellAt h i (by omega)
  rw [this]
  simp [cnts, hi]
theorem CntAt.frozen (h : CntAt w g n f) (i : Nat) : w.frozen? ⟨g, i, none⟩ = false := World.ownsRow.frozenAt h i
theorem CntAt.far (h : CntAt w g n f) {p : Addr} (hp : p.block ≠ g) (v : Value) : CntAt (w.setCell p v) g n f :=
  own_same h fun k e => by
    obtain rfl : g = k := by simpa [Value.ownBlock] using e
    exact Below.heap_setCell _ _ _ _ fun e => hp e.symm
theorem CntAt.bump (h : CntAt w g n f) {i : Nat} (hi : i < n) : CntAt (w.setCell ⟨g, i, none⟩ (.int .i64 (f i + 1))) g n fun x => f x + one (i = x) := by
  have := (World.ownsRow.stored h i (.int .i64 (f i + 1))).1
  unfold CntAt
  rw [← cnts_bump hi, List.map_set]
  exact this
end
theorem cnt_new {w : World} {g n : Nat} (h : w.ownsRow g 2 1 (.slice (some ⟨g, 0, none⟩) n n) n (madeCells (Value.int .i64 0).cells (n * 1)).toList) : CntAt w g n fun _ => 0 := by
  unfold CntAt
  rw [← cnts_zero, List.map_replicate, ← toList_madeCells_one]
  simpa [Value.cells] using h
theorem mk1_ax {a b c x : Nat} : mk1 ⟨1, a, b, c⟩ x = one (a = x) + one (b = x) := by simp [mk1]
theorem mk1_cut {a b c x : Nat} : mk1 ⟨2, a, b, c⟩ x = 0 := by simp [mk1]
theorem mk1_out {k : Int} {a b c x : Nat} (h1 : ¬ k = 1) (h2 : ¬ k = 2) : mk1 ⟨k, a, b, c⟩ x = one (c = x) := by simp [mk1, h1, h2]
theorem us1_ax {a b c x : Nat} : us1 ⟨1, a, b, c⟩ x = 0 := by simp [us1]
theorem us1_no {k : Int} {a b c x : Nat} (h1 : ¬ k = 1) : us1 ⟨k, a, b, c⟩ x = one (a = x) + one (b = x) := by simp [us1, h1]
/-- Two rows of counts and a link, while the links are counted. -/
structure StL (w0 w : World) (g1 g2 n gl : Nat) (F G : Nat → Int) (bm bu : Int) (l : Lk) : Prop where
  m : CntAt w g1 n F
  u : CntAt w g2 n G
  mb : ∀ x, 0 ≤ F x ∧ F x ≤ bm
  ub : ∀ x, 0 ≤ G x ∧ G x ≤ bu
  b : Below w0.heap.size w0 w
  lt : gl < w.heap.size
  c0 : w.cell? ⟨gl, 0, none⟩ = some (.int .i64 l.k)
  c1 : w.cell? ⟨gl, 1, none⟩ = some (.int .i64 l.a)
  c2 : w.cell? ⟨gl, 2, none⟩ = some (.int .i64 l.b)
  c3 : w.cell? ⟨gl, 3, none⟩ = some (.int .i64 l.c)
section
variable {w0 w w' : World} {g1 g2 n gl : Nat} {F G F' G' : Nat → Int} {bm bu : Int} {l : Lk}
theorem StL.mk' {wr : World} (hM : CntAt wr g1 n F) (hU : CntAt wr g2 n G) (mb : ∀ x, 0 ≤ F x ∧ F x ≤ bm) (ub : ∀ x, 0 ≤ G x ∧ G x ≤ bu) (hB : Below w0.heap.size w0 wr) (bl : Below wr.heap.size wr w)
    (z0 : w.cell? ⟨wr.heap.size, 0, none⟩ = some (.int .i64 l.k)) (z1 : w.cell? ⟨wr.heap.size, 1, none⟩ = some (.int .i64 l.a)) (z2 : w.cell? ⟨wr.heap.size, 2, none⟩ = some (.int .i64 l.b)) (z3 : w.cell? ⟨wr.heap.size, 3, none⟩ = some (.int .i64 l.c)) (zs : w.heap.size = wr.heap.size + 1) :
    StL w0 w g1 g2 n wr.heap.size F G bm bu l := ⟨hM.below bl, hU.below bl, mb, ub, hB.trans (bl.mono hB.size), by omega, z0, z1, z2, z3⟩
theorem StL.cells (h : StL w0 w g1 g2 n gl F G bm bu l) : w.cell? ⟨gl, 0, none⟩ = some (.int .i64 l.k) ∧ w.cell? ⟨gl, 1, none⟩ = some (.int .i64 l.a) ∧ w.cell? ⟨gl, 2, none⟩ = some (.int .i64 l.b) ∧ w.cell? ⟨gl, 3, none⟩ = some (.int .i64 l.c) := ⟨h.c0, h.c1, h.c2, h.c3⟩
theorem StL.below (h : StL w0 w g1 g2 n gl F G bm bu l) (hb : Below w.heap.size w w') : StL w0 w' g1 g2 n gl F G bm bu l :=
  ⟨h.m.below hb, h.u.below hb, h.mb, h.ub, h.b.trans (hb.mono h.b.size), Nat.lt_of_lt_of_le h.lt hb.size, (hb.cell (p := ⟨gl, 0, none⟩) h.lt).trans h.c0, (hb.cell (p := ⟨gl, 1, none⟩) h.lt).trans h.c1, (hb.cell (p := ⟨gl, 2, none⟩) h.lt).trans h.c2, (hb.cell (p := ⟨gl, 3, none⟩) h.lt).trans h.c3⟩
theorem farW_cell {w : World} {g i gl j : Nat} {v u : Value} (h : w.cell? ⟨gl, j, none⟩ = some v) (hne : g ≠ gl) : (w.setCell ⟨g, i, none⟩ u).cell? ⟨gl, j, none⟩ = some v := by
  rw [World.cell?_setCell_far _ _ _ _ hne]; exact h
theorem StL.bump1 (h : StL w0 w g1 g2 n gl F G bm bu l) {i : Nat} (hi : i < n) (h1 : w0.heap.size ≤ g1) (h2 : g1 ≠ g2) (h3 : g1 ≠ gl) : StL w0 (w.setCell ⟨g1, i, none⟩ (.int .i64 (F i + 1))) g1 g2 n gl (fun x => F x + one (i = x)) G (bm + 1) bu l :=
  ⟨h.m.bump hi, h.u.far h2 _, fun x => by have := h.mb x; have := one_le (i = x); omega, h.ub, h.b.setCell (p := ⟨g1, i, none⟩) h1 _, by simpa using h.lt, farW_cell h.c0 h3, farW_cell h.c1 h3, farW_cell h.c2 h3, farW_cell h.c3 h3⟩
theorem StL.bump2 (h : StL w0 w g1 g2 n gl F G bm bu l) {i : Nat} (hi : i < n) (h1 : w0.heap.size ≤ g2) (h2 : g2 ≠ g1) (h3 : g2 ≠ gl) : StL w0 (w.setCell ⟨g2, i, none⟩ (.int .i64 (G i + 1))) g1 g2 n gl F (fun x => G x + one (i = x)) bm (bu + 1) l :=
  ⟨h.m.far h2 _, h.u.bump hi, h.mb, fun x => by have := h.ub x; have := one_le (i = x); omega, h.b.setCell (p := ⟨g2, i, none⟩) h1 _, by simpa using h.lt, farW_cell h.c0 h3, farW_cell h.c1 h3, farW_cell h.c2 h3, farW_cell h.c3 h3⟩
end
/-- A link in a block of its own. -/
theorem lnk_any (w : World) (l : Lk) (t : TypeId) : Below w.heap.size w (w.alloc (.cells #[.int .i64 l.k, .int .i64 l.a, .int .i64 l.b, .int .i64 l.c] t)) ∧ (w.alloc (.cells #[.int .i64 l.k, .int .i64 l.a, .int .i64 l.b, .int .i64 l.c] t)).cell? ⟨w.heap.size, 0, none⟩ = some (.int .i64 l.k) ∧
    (w.alloc (.cells #[.int .i64 l.k, .int .i64 l.a, .int .i64 l.b, .int .i64 l.c] t)).cell? ⟨w.heap.size, 1, none⟩ = some (.int .i64 l.a) ∧ (w.alloc (.cells #[.int .i64 l.k, .int .i64 l.a, .int .i64 l.b, .int .i64 l.c] t)).cell? ⟨w.heap.size, 2, none⟩ = some (.int .i64 l.b) ∧
    (w.alloc (.cells #[.int .i64 l.k, .int .i64 l.a, .int .i64 l.b, .int .i64 l.c] t)).cell? ⟨w.heap.size, 3, none⟩ = some (.int .i64 l.c) ∧ (w.alloc (.cells #[.int .i64 l.k, .int .i64 l.a, .int .i64 l.b, .int .i64 l.c] t)).heap.size = w.heap.size + 1 := by
  have p2 : (w.alloc (.cells #[.int .i64 l.k, .int .i64 l.a, .int .i64 l.b, .int .i64 l.c] t)).heap[w.heap.size]? = some (.cells #[.int .i64 l.k, .int .i64 l.a, .int .i64 l.b, .int .i64 l.c] t (0, 0)) := heap_alloc_new _ _
  exact ⟨(Below.refl _ _).alloc (Nat.le_refl _) _, cell_of_row _ _ 0 _ _ (0, 0) p2, cell_of_row _ _ 1 _ _ (0, 0) p2, cell_of_row _ _ 2 _ _ (0, 0) p2, cell_of_row _ _ 3 _ _ (0, 0) p2, by simp⟩
set_option maxRecDepth 100000 in
set_option maxHeartbeats 4000000 in
theorem sValidNet_in (A L C : Option Addr) (c d e0 : Nat) (ws : List (List Int)) (ls : List Lk) (cs : List Int) (w : World) (r : RdQ w w.heap.size A ws.length ws) (rl : RdL w w.heap.size L ls.length ls) (rc : RdI w w.heap.size C cs.length cs) (h1 : ws.length ≤ 48) (h2 : ls.length ≤ 48) (h3 : cs.length ≤ 1048576) :
    Calls Tryz.prog 89 #[.agg #[.slice A ws.length c, .slice L ls.length d, .slice C cs.length e0]] w fun e w' => e = .returned (.bool (valN ⟨ws, ls, cs⟩)) ∧ Below w.heap.size w w' := by
  obtain ⟨i0, hi0, hz0, hz1, hz2⟩ := info_parts info_i64
  have HI := Lib.hid hi0; have HZ0 := Lib.hid hz0; have HZ1 := Lib.hid hz1
  have HBY : Hid (i0.bytes * ws.length ≤ 281474976710656) := Lib.hid (by rw [hz2]; omega)
  have hml : ws.length ≤ maxLen := by unfold maxLen; omega
  clear hi0 hz0 hz1 hz2
  obtain ⟨w0, hw0⟩ : ∃ w0, w0 = w.alloc (.cells #[.slice A ws.length c, .slice L ls.length d, .slice C cs.length e0] 30) := ⟨_, rfl⟩
  obtain ⟨hb, hh, hsz⟩ := box3_any w (.slice A ws.length c) (.slice L ls.length d) (.slice C cs.length e0) 30
  rw [← hw0] at hb hh hsz
  have hs0 : w.heap.size + 1 ≤ w0.heap.size := by omega
  have HK : Hid (∀ w', Below w0.heap.size w0 w' → w'.cell? ⟨w.heap.size, 0, none⟩ = some (.slice A ws.length c) ∧ w'.cell? ⟨w.heap.size, 1, none⟩ = some (.slice L ls.length d) ∧ w'.cell? ⟨w.heap.size, 2, none⟩ = some (.slice C cs.length e0)) := Lib.hid fun w' hw => three_cells ((hw.block _ (by omega)).trans hh)
  have HR := Lib.hid (fun (w' : World) (hw : Below w0.heap.size w0 w') => show RdQ w' w'.heap.size A ws.length ws from (r.below (hb.trans (hw.mono hb.size))).more (Nat.le_trans hb.size hw.size))
  have HRL := Lib.hid (fun (w' : World) (hw : Below w0.heap.size w0 w') => show RdL w' w'.heap.size L ls.length ls from (rl.below (hb.trans (hw.mono hb.size))).more (Nat.le_trans hb.size hw.size))
  have HRC := Lib.hid (fun (w' : World) (hw : Below w0.heap.size w0 w') => show RdI w' w'.heap.size C cs.length cs from (rc.below (hb.trans (hw.mono hb.size))).more (Nat.le_trans hb.size hw.size))
  have HB0 := Lib.hid hb
  obtain ⟨y0, y1, y2⟩ := three_cells hh
  have d1 : decide ((48 : Int) < (ws.length : Int)) = false := decide_eq_false (by omega)
  have d2 : decide ((48 : Int) < (ls.length : Int)) = false := decide_eq_false (by omega)
  clear hb hh hsz r rl rc
  go_enter Tryz.func89, Tryz.ntmps89
  go_wp2
  rw [← hw0]
  clear hw0
  go_loopw [3] (fun i wr => ∃ k : Nat, k ≤ ws.length ∧ i = .int .i64 k ∧ (ws.take k).all formN = true ∧ Below w0.heap.size w0 wr) (fun i _ => ws.length - (intOf i).toNat)
  case atStart => exact ⟨0, Nat.zero_le _, rfl, by simp, Below.refl _ _⟩
  case round =>
    obtain ⟨k, hk, rfl, hall, hB⟩ := hrel
    clear y0 y1 y2
    obtain ⟨y0, y1, y2⟩ := HK.out _ hB
    by_cases hlt : k < ws.length
    · obtain ⟨b, off, hA, hbb, hcells⟩ := (HR.out _ hB).2 (by omega)
      subst hA
      obtain ⟨A', c', hcell, hcc, hrd⟩ := hcells k hlt
      have hF := sForm_any A' _ c' _ wr hrd
      cases hv : formN (ws.getD k []) with
      | false =>
        have HE : Hid (false = valN ⟨ws, ls, cs⟩) := Lib.hid (valN_badw (N := ⟨ws, ls, cs⟩) hlt hv).symm
        rw [hv] at hF
        have HF := Lib.hid hF; have HB := Lib.hid hB
        clear hF hcells hrd hv hall hB hcc
        generalize (ws.getD k []).length = M at *
        go_wp2_with (fail)
        refine HF.out.mono ?_
        rintro e w1 ⟨rfl, bel⟩
        have HB1 := Lib.hid (HB0.out.trans ((HB.out.trans (bel.mono HB.out.size)).mono HB0.out.size))
        clear bel
        go_wp2
        go_ret
        exact ⟨ret_bool' HE.out, HB1.out⟩
      | true =>
        have HA := Lib.hid (all_step hlt hall hv)
        rw [hv] at hF
        have HF := Lib.hid hF; have HB := Lib.hid hB
        clear hF hcells hrd hv hall hB hcc
        generalize (ws.getD k []).length = M at *
        go_wp2_with (fail)
        refine HF.out.mono ?_
        rintro e w1 ⟨rfl, bel⟩
        have HB1 := Lib.hid (HB.out.trans (bel.mono HB.out.size))
        clear bel
        go_wp2
        go_roundw
        case rel => exact ⟨k + 1, by omega, by go_num, HA.out, HB1.out⟩
        case measure => simp [intOf]; omega
    · have hkl : k = ws.length := by omega
      subst hkl
      rw [List.take_of_length_le (Nat.le_refl _)] at hall
      have hlt2 : decide ((ws.length : Int) < (ws.length : Int)) = false := decide_eq_false (by omega)
      have HW := Lib.hid hall; have HB := Lib.hid hB
      clear hall hB
      have tok1 : True := trivial
      go_wp2_with (first | (have _t := tok1; at_make; refine wpList_make_full _ rfl _ _ _ rfl wr.heap.size 2 i0 (.int .i64 0) 1 Tryz.underlying24 HI.out HZ0.out HZ1.out _ _ _ _ ws.length rfl rfl rfl rfl HBY.out hml (Nat.le_refl _) ?_; intro w1 hown hg; have hbel : Below wr.heap.size wr w1 := (Below.refl _ _).grown hg (Nat.le_refl _) (by intro k hk; cases hk); have HO1 := Lib.hid (cnt_new hown); have hlt1 := (World.ownsRow.lt hown _ rfl).2; have HB1 := Lib.hid (HB.out.trans (hbel.mono HB.out.size)); have Hb1 := Lib.hid hbel; clear y0 y1 y2 tok1 hown hg hbel; have tok2 : True := trivial; obtain ⟨y0, y1, y2⟩ := HK.out _ HB1.out) | (have _t := tok2; at_make; refine wpList_make_full _ rfl _ _ _ rfl w1.heap.size 2 i0 (.int .i64 0) 1 Tryz.underlying24 HI.out HZ0.out HZ1.out _ _ _ _ ws.length rfl rfl rfl rfl HBY.out hml (Nat.le_refl _) ?_; intro w2 hown hg; have hbel : Below w1.heap.size w1 w2 := (Below.refl _ _).grown hg (Nat.le_refl _) (by intro k hk; cases hk); have HO2 := Lib.hid (cnt_new hown); have hlt2 := (World.ownsRow.lt hown _ rfl).2; have HB2 := Lib.hid (HB1.out.trans (hbel.mono HB1.out.size)); have Hb2 := Lib.hid hbel; clear y0 y1 y2 tok2 hown hg hbel; have tok3 : True := trivial; obtain ⟨y0, y1, y2⟩ := HK.out _ HB2.out))
      have HO1' := Lib.hid (HO1.out.below Hb2.out)
      have hg0 := HB.out.size
      generalize wr.heap.size = g1 at *
      generalize w1.heap.size = g2 at *
      go_loopw [6] (fun i wx => ∃ k : Nat, k ≤ ls.length ∧ i = .int .i64 k ∧ (ls.take k).all (fitsN ws) = true ∧ CntAt wx g1 ws.length (fun x => madeN (ls.take k) x) ∧ CntAt wx g2 ws.length (fun x => usedN (ls.take k) x) ∧ Below w0.heap.size w0 wx) (fun i _ => ls.length - (intOf i).toNat)
      case atStart => exact ⟨0, Nat.zero_le _, rfl, by simp, HO1'.out, HO2.out, HB2.out⟩
      case round =>
        obtain ⟨k, hk, rfl, hall, hM, hU, hB⟩ := hrel
        clear y0 y1 y2 HO1 HO1' HO2 Hb1 Hb2 HB1 HB2 HB
        obtain ⟨y0, y1, y2⟩ := HK.out _ hB
        by_cases hlt : k < ls.length
        · obtain ⟨b, off, hA, hbb, hcells⟩ := (HRL.out _ hB).at (by omega)
          subst hA
          obtain ⟨x0, x1, x2, x3⟩ := hcells k hlt
          obtain ⟨⟨lk, la, lb, lc⟩, hl⟩ : ∃ l, ls.getD k Lk.nil = l := ⟨_, rfl⟩
          rw [hl] at x0 x1 x2 x3
          dsimp only at x0 x1 x2 x3
          cases hfit : fitsN ws ⟨lk, la, lb, lc⟩ with
          | false =>
            have HE : Hid (false = valN ⟨ws, ls, cs⟩) := Lib.hid (valN_badl (N := ⟨ws, ls, cs⟩) hlt (by rw [hl]; exact hfit)).symm
            obtain ⟨bl, z0, z1, z2, z3, zs⟩ := lnk_any wr ⟨lk, la, lb, lc⟩ 103
            obtain ⟨q0, q1, q2⟩ := HK.out _ (hB.trans (bl.mono hB.size))
            have hF := sFits_any ⟨A, c, fun _ => (none, 0), some ⟨b, off, none⟩, d, C, e0⟩ ⟨ws, ls, cs⟩ ⟨lk, la, lb, lc⟩ _ (HR.out _ (hB.trans (bl.mono hB.size))) hml HW.out
            rw [hfit] at hF
            dsimp only at hF bl z0 z1 z2 z3 zs q0 q1 q2
            have HF := Lib.hid hF
            have BL := Lib.hid (hB.trans (bl.mono hB.size))
            clear hF hfit hl hall hcells hM hU hB bl zs
            go_wp2_with (fail)
            generalize hwl : wr.alloc (.cells #[.int .i64 lk, .int .i64 la, .int .i64 lb, .int .i64 lc] 103) = wl at *
            clear hwl
            refine HF.out.mono ?_
            rintro e u ⟨rfl, belu⟩
            have HBu := Lib.hid (HB0.out.trans ((BL.out.trans (belu.mono BL.out.size)).mono HB0.out.size))
            clear belu
            go_wp2
            go_ret
            exact ⟨ret_bool' HE.out, HBu.out⟩
          | true =>
            have hkind := fitsN_kind hfit
            obtain ⟨wa, wb, wc, _⟩ := fitsN_yes hfit
            obtain ⟨_, hia, ea⟩ := inW_yes wa
            obtain ⟨_, hib, eb⟩ := inW_yes wb
            obtain ⟨_, hic, ec⟩ := inW_yes wc
            dsimp only at hia hib hic ea eb ec hkind
            have HST := Lib.hid (all_step (d := Lk.nil) hlt hall (by rw [hl]; exact hfit))
            have HMS : Hid (∀ x, madeN (ls.take (k + 1)) x = madeN (ls.take k) x + mk1 ⟨lk, la, lb, lc⟩ x) := Lib.hid fun x => by rw [madeN_step hlt, hl]
            have HUS : Hid (∀ x, usedN (ls.take (k + 1)) x = usedN (ls.take k) x + us1 ⟨lk, la, lb, lc⟩ x) := Lib.hid fun x => by rw [usedN_step hlt, hl]
            have hmb : ∀ x, 0 ≤ madeN (ls.take k) x ∧ madeN (ls.take k) x ≤ 96 := fun x => by have := madeN_le (ls.take k) x; rw [List.length_take] at this; omega
            have hub : ∀ x, 0 ≤ usedN (ls.take k) x ∧ usedN (ls.take k) x ≤ 96 := fun x => by have := usedN_le (ls.take k) x; rw [List.length_take] at this; omega
            generalize la.toNat = ia at *
            generalize lb.toNat = ib at *
            generalize lc.toNat = ic at *
            subst ea eb ec
            obtain ⟨bl, z0, z1, z2, z3, zs⟩ := lnk_any wr ⟨lk, ia, ib, ic⟩ 103
            obtain ⟨q0, q1, q2⟩ := HK.out _ (hB.trans (bl.mono hB.size))
            have hF := sFits_any ⟨A, c, fun _ => (none, 0), some ⟨b, off, none⟩, d, C, e0⟩ ⟨ws, ls, cs⟩ ⟨lk, ia, ib, ic⟩ _ (HR.out _ (hB.trans (bl.mono hB.size))) hml HW.out
            rw [hfit] at hF
            dsimp only at hF bl z0 z1 z2 z3 zs q0 q1 q2
            have HF := Lib.hid hF
            have hsl := hB.size
            have hsm := (World.ownsRow.lt hM _ rfl).2
            have hsu := (World.ownsRow.lt hU _ rfl).2
            obtain ⟨F1, hF1⟩ : ∃ F : Nat → Int, (fun x => madeN (ls.take k) x) = F := ⟨_, rfl⟩
            obtain ⟨G1, hG1⟩ : ∃ F : Nat → Int, (fun x => usedN (ls.take k) x) = F := ⟨_, rfl⟩
            rw [hF1] at hM
            rw [hG1] at hU
            have HF1 : Hid (∀ x, madeN (ls.take k) x = F1 x) := Lib.hid fun x => congrFun hF1 x
            have HG1 : Hid (∀ x, usedN (ls.take k) x = G1 x) := Lib.hid fun x => congrFun hG1 x
            have hmb : ∀ x, 0 ≤ F1 x ∧ F1 x ≤ 96 := fun x => by rw [← HF1.out x]; exact hmb x
            have hub : ∀ x, 0 ≤ G1 x ∧ G1 x ≤ 96 := fun x => by rw [← HG1.out x]; exact hub x
            clear hF1 hG1
            have HS := Lib.hid (StL.mk' (l := ⟨lk, ia, ib, ic⟩) hM hU hmb hub hB bl z0 z1 z2 z3 zs)
            have BL := Lib.hid bl
            clear hF hfit hl hall hcells hM hU hB bl zs hmb hub wa wb wc
            go_wp2_with (fail)
            generalize hwl : wr.alloc (.cells #[.int .i64 lk, .int .i64 ia, .int .i64 ib, .int .i64 ic] 103) = wl at *
            clear hwl
            refine HF.out.mono ?_
            rintro e u ⟨rfl, belu⟩
            have HS1 := Lib.hid (HS.out.below belu)
            clear belu z0 z1 z2 z3 q0 q1 q2 HS
            generalize wr.heap.size = gl at *
            -- ROUND
            by_cases h1 : lk = 1
            · subst h1

              obtain ⟨v1, hv1⟩ : ∃ v, F1 ia = v := ⟨_, rfl⟩
              have hc := HS1.out.m.cell hia
              have hf := HS1.out.m.frozen ia
              have hb' := HS1.out.mb ia
              have hp := HS1.out.bump1 hia (by omega) (by omega) (by omega)
              rw [hv1] at hc hb' hp
              have HP := Lib.hid hp
              obtain ⟨z0, z1, z2, z3⟩ := HS1.out.cells
              clear hv1 hp
              go_upto_region 17 with (fail)
              go_cut [] (fun wx => StL w0 wx g1 g2 ws.length gl (fun x => F1 x + one (ia = x)) G1 97 96 ⟨1, ia, ib, ic⟩)
              case first =>
                go_wp2
                go_meet
                exact HP.out
              case rest =>
              clear hc hf hb' HP z0 z1 z2 z3
              rename World => u2
              obtain ⟨F2, hF⟩ : ∃ F : Nat → Int, (fun x => F1 x + one (ia = x)) = F := ⟨_, rfl⟩
              rw [hF] at hcut
              have HF2 : Hid (∀ x, F2 x = F1 x + one (ia = x)) := Lib.hid fun x => (congrFun hF x).symm
              obtain ⟨G2, ho⟩ : ∃ F : Nat → Int, G1 = F := ⟨_, rfl⟩
              rw [ho] at hcut
              have HG2 : Hid (∀ x, G2 x = G1 x) := Lib.hid fun x => (congrFun ho x).symm
              have HS2 := Lib.hid hcut
              clear hcut hF ho HS1

              obtain ⟨v2, hv2⟩ : ∃ v, F2 ib = v := ⟨_, rfl⟩
              have hc := HS2.out.m.cell hib
              have hf := HS2.out.m.frozen ib
              have hb' := HS2.out.mb ib
              have hp := HS2.out.bump1 hib (by omega) (by omega) (by omega)
              rw [hv2] at hc hb' hp
              have HP := Lib.hid hp
              obtain ⟨z0, z1, z2, z3⟩ := HS2.out.cells
              clear hv2 hp
              go_upto_region 18 with (fail)
              go_cut [] (fun wx => StL w0 wx g1 g2 ws.length gl (fun x => F2 x + one (ib = x)) G2 98 96 ⟨1, ia, ib, ic⟩)
              case first =>
                go_wp2
                go_meet
                exact HP.out
              case rest =>
              clear hc hf hb' HP z0 z1 z2 z3
              rename World => u3
              obtain ⟨F3, hF⟩ : ∃ F : Nat → Int, (fun x => F2 x + one (ib = x)) = F := ⟨_, rfl⟩
              rw [hF] at hcut
              have HF3 : Hid (∀ x, F3 x = F2 x + one (ib = x)) := Lib.hid fun x => (congrFun hF x).symm
              obtain ⟨G3, ho⟩ : ∃ F : Nat → Int, G2 = F := ⟨_, rfl⟩
              rw [ho] at hcut
              have HG3 : Hid (∀ x, G3 x = G2 x) := Lib.hid fun x => (congrFun ho x).symm
              have HS3 := Lib.hid hcut
              clear hcut hF ho HS2

              obtain ⟨z0, z1, z2, z3⟩ := HS3.out.cells
              have HM2 := Lib.hid (HS3.out.m.ext (f' := fun x => madeN (ls.take (k + 1)) x) fun x _ => by rw [HF3.out x, HF2.out x, HMS.out x, HF1.out x, mk1_ax]; omega)
              have HU2 := Lib.hid (HS3.out.u.ext (f' := fun x => usedN (ls.take (k + 1)) x) fun x _ => by rw [HG3.out x, HG2.out x, HUS.out x, HG1.out x, us1_ax]; omega)
              have HB2 := Lib.hid HS3.out.b
              go_wp2
              go_roundw
              case rel => exact ⟨k + 1, by omega, by go_num, HST.out, HM2.out, HU2.out, HB2.out⟩
              case measure => simp [intOf]; omega
            · have e1 : (lk == 1) = false := by simpa using h1

              obtain ⟨v1, hv1⟩ : ∃ v, G1 ia = v := ⟨_, rfl⟩
              have hc := HS1.out.u.cell hia
              have hf := HS1.out.u.frozen ia
              have hb' := HS1.out.ub ia
              have hp := HS1.out.bump2 hia (by omega) (by omega) (by omega)
              rw [hv1] at hc hb' hp
              have HP := Lib.hid hp
              obtain ⟨z0, z1, z2, z3⟩ := HS1.out.cells
              clear hv1 hp
              go_upto_region 19 with (fail)
              go_cut [] (fun wx => StL w0 wx g1 g2 ws.length gl F1 (fun x => G1 x + one (ia = x)) 96 97 ⟨lk, ia, ib, ic⟩)
              case first =>
                go_wp2
                go_meet
                exact HP.out
              case rest =>
              clear hc hf hb' HP z0 z1 z2 z3
              rename World => u2
              obtain ⟨G2, hF⟩ : ∃ F : Nat → Int, (fun x => G1 x + one (ia = x)) = F := ⟨_, rfl⟩
              rw [hF] at hcut
              have HG2 : Hid (∀ x, G2 x = G1 x + one (ia = x)) := Lib.hid fun x => (congrFun hF x).symm
              obtain ⟨F2, ho⟩ : ∃ F : Nat → Int, F1 = F := ⟨_, rfl⟩
              rw [ho] at hcut
              have HF2 : Hid (∀ x, F2 x = F1 x) := Lib.hid fun x => (congrFun ho x).symm
              have HS2 := Lib.hid hcut
              clear hcut hF ho HS1

              obtain ⟨v2, hv2⟩ : ∃ v, G2 ib = v := ⟨_, rfl⟩
              have hc := HS2.out.u.cell hib
              have hf := HS2.out.u.frozen ib
              have hb' := HS2.out.ub ib
              have hp := HS2.out.bump2 hib (by omega) (by omega) (by omega)
              rw [hv2] at hc hb' hp
              have HP := Lib.hid hp
              obtain ⟨z0, z1, z2, z3⟩ := HS2.out.cells
              clear hv2 hp
              go_upto_region 20 with (fail)
              go_cut [] (fun wx => StL w0 wx g1 g2 ws.length gl F2 (fun x => G2 x + one (ib = x)) 96 98 ⟨lk, ia, ib, ic⟩)
              case first =>
                go_wp2
                go_meet
                exact HP.out
              case rest =>
              clear hc hf hb' HP z0 z1 z2 z3
              rename World => u3
              obtain ⟨G3, hF⟩ : ∃ F : Nat → Int, (fun x => G2 x + one (ib = x)) = F := ⟨_, rfl⟩
              rw [hF] at hcut
              have HG3 : Hid (∀ x, G3 x = G2 x + one (ib = x)) := Lib.hid fun x => (congrFun hF x).symm
              obtain ⟨F3, ho⟩ : ∃ F : Nat → Int, F2 = F := ⟨_, rfl⟩
              rw [ho] at hcut
              have HF3 : Hid (∀ x, F3 x = F2 x) := Lib.hid fun x => (congrFun ho x).symm
              have HS3 := Lib.hid hcut
              clear hcut hF ho HS2
              by_cases h2 : lk = 2
              · subst h2
                clear e1

                obtain ⟨z0, z1, z2, z3⟩ := HS3.out.cells
                have HM2 := Lib.hid (HS3.out.m.ext (f' := fun x => madeN (ls.take (k + 1)) x) fun x _ => by rw [HF3.out x, HF2.out x, HMS.out x, HF1.out x, mk1_cut]; omega)
                have HU2 := Lib.hid (HS3.out.u.ext (f' := fun x => usedN (ls.take (k + 1)) x) fun x _ => by rw [HG3.out x, HG2.out x, HUS.out x, HG1.out x, us1_no (k := 2) (by decide)]; omega)
                have HB2 := Lib.hid HS3.out.b
                go_wp2
                go_roundw
                case rel => exact ⟨k + 1, by omega, by go_num, HST.out, HM2.out, HU2.out, HB2.out⟩
                case measure => simp [intOf]; omega
              · have e2 : (lk != 2) = true := by simpa using h2
                obtain ⟨v3, hv3⟩ : ∃ v, F3 ic = v := ⟨_, rfl⟩
                have hc := HS3.out.m.cell hic
                have hf := HS3.out.m.frozen ic
                have hb' := HS3.out.mb ic
                have hp := HS3.out.bump1 hic (by omega) (by omega) (by omega)
                rw [hv3] at hc hb' hp
                have HP := Lib.hid hp
                obtain ⟨z0, z1, z2, z3⟩ := HS3.out.cells
                clear hv3 hp
                have HM2 := Lib.hid (HP.out.m.ext (f' := fun x => madeN (ls.take (k + 1)) x) fun x _ => by rw [HF3.out x, HF2.out x, HMS.out x, HF1.out x, mk1_out h1 h2])
                have HU2 := Lib.hid (HP.out.u.ext (f' := fun x => usedN (ls.take (k + 1)) x) fun x _ => by rw [HG3.out x, HG2.out x, HUS.out x, HG1.out x, us1_no h1]; omega)
                have HB2 := Lib.hid HP.out.b
                go_wp2
                go_roundw
                case rel => exact ⟨k + 1, by omega, by go_num, HST.out, HM2.out, HU2.out, HB2.out⟩
                case measure => simp [intOf]; omega
            -- END ROUND
        · have hkl : k = ls.length := by omega
          subst hkl
          rw [List.take_of_length_le (Nat.le_refl _)] at hall hM hU
          have HF2 := Lib.hid hall
          have HM := Lib.hid hM; have HB := Lib.hid hB
          have HU : Hid (CntAt wr g2 ws.length fun x => usedN ls x + concN (cs.take 0) x) := Lib.hid (hU.ext fun x _ => by simp [concN])
          clear hall hM hU hB
          go_wp2
          go_loopw [8] (fun i wx => ∃ k : Nat, k ≤ cs.length ∧ i = .int .i64 k ∧ (cs.take k).all (inW ws.length) = true ∧ CntAt wx g1 ws.length (fun x => madeN ls x) ∧ CntAt wx g2 ws.length (fun x => usedN ls x + concN (cs.take k) x) ∧ Below w0.heap.size w0 wx) (fun i _ => cs.length - (intOf i).toNat)
          case atStart => exact ⟨0, Nat.zero_le _, rfl, by simp, HM.out, HU.out, HB.out⟩
          case round =>
            obtain ⟨k, hk, rfl, hall, hM, hU, hB⟩ := hrel
            clear y0 y1 y2 HM HU HB
            obtain ⟨y0, y1, y2⟩ := HK.out _ hB
            have hsw := hB.size
            by_cases hlt : k < cs.length
            · obtain ⟨bc, offc, hA, hbc, hcells⟩ := (HRC.out _ hB).2 (by omega)
              subst hA
              have hcell := hcells k hlt
              obtain ⟨z, hz⟩ : ∃ z, cs.getD k 0 = z := ⟨_, rfl⟩
              rw [hz] at hcell
              clear hcells
              cases hin : inW ws.length z with
              | false =>
                have HE : Hid (false = valN ⟨ws, ls, cs⟩) := Lib.hid (valN_badc (N := ⟨ws, ls, cs⟩) hlt (by rw [hz]; exact hin)).symm
                have HB := Lib.hid hB
                clear hall hM hU hB hz
                have K0 : Hid (wr.cell? ⟨w.heap.size, 0, none⟩ = some (.slice A ws.length c) ∧ wr.cell? ⟨w.heap.size, 1, none⟩ = some (.slice L ls.length d) ∧ wr.cell? ⟨w.heap.size, 2, none⟩ = some (.slice (some ⟨bc, offc, none⟩) cs.length e0) ∧ wr.cell? ⟨bc, offc + k, none⟩ = some (.int .i64 z)) := Lib.hid ⟨y0, y1, y2, hcell⟩
                have HKF : Hid (∀ wx, Below wr.heap.size wr wx → wx.cell? ⟨w.heap.size, 0, none⟩ = some (.slice A ws.length c) ∧ wx.cell? ⟨w.heap.size, 1, none⟩ = some (.slice L ls.length d) ∧ wx.cell? ⟨w.heap.size, 2, none⟩ = some (.slice (some ⟨bc, offc, none⟩) cs.length e0) ∧ wx.cell? ⟨bc, offc + k, none⟩ = some (.int .i64 z)) := Lib.hid fun wx hx => by
                  have hk : ∀ (q : Addr) (v : Value), q.block < wr.heap.size → wr.cell? q = some v → wx.cell? q = some v := fun q v hq e => (hx.cell hq).trans e
                  exact ⟨hk _ _ (by show w.heap.size < _; omega) y0, hk _ _ (by show w.heap.size < _; omega) y1, hk _ _ (by show w.heap.size < _; omega) y2, hk _ _ hbc hcell⟩
                have HC := Lib.hid (sWire_no A L (some ⟨bc, offc, none⟩) ws.length c ls.length d cs.length e0 z wr.drew hml hin)
                have tok1 : True := trivial
                clear hin
                go_wp2_with (fail)
                go_region_held3 (fun wx => wx.cell? ⟨w.heap.size, 0, none⟩ = some (.slice A ws.length c) ∧ wx.cell? ⟨w.heap.size, 1, none⟩ = some (.slice L ls.length d) ∧ wx.cell? ⟨w.heap.size, 2, none⟩ = some (.slice (some ⟨bc, offc, none⟩) cs.length e0) ∧ wx.cell? ⟨bc, offc + k, none⟩ = some (.int .i64 z)) (first | exact K0.out | exact K1.out) (first | (have _t := tok1; go_at_call 138; refine HC.out.mono ?_; rintro e u ⟨rfl, bel'⟩; have bel := undrew bel'; have H1 := Lib.hid bel; have K1 := Lib.hid (HKF.out _ H1.out); clear bel bel' tok1))
                have HBu := Lib.hid (HB0.out.trans ((HB.out.trans (H1.out.mono HB.out.size)).mono HB0.out.size))
                go_wp2
                go_ret
                exact ⟨ret_bool' HE.out, HBu.out⟩
              | true =>
                have HST := Lib.hid (all_step (d := 0) hlt hall (by rw [hz]; exact hin))
                obtain ⟨_, hix, ez⟩ := inW_yes hin
                have HCS : Hid (∀ x, concN (cs.take (k + 1)) x = concN (cs.take k) x + one (z.toNat = x)) := Lib.hid fun x => by rw [concN_step hlt, hz]
                have hub := usedN_le ls z.toNat
                have hcb := concN_le (cs.take k) z.toNat
                rw [List.length_take] at hcb
                have hsu := (World.ownsRow.lt hU _ rfl).2
                have HB := Lib.hid hB; have HM := Lib.hid hM; have HU := Lib.hid hU
                clear hall hM hU hB hz
                generalize z.toNat = ix at *
                subst ez
                have K0 : Hid (wr.cell? ⟨w.heap.size, 0, none⟩ = some (.slice A ws.length c) ∧ wr.cell? ⟨w.heap.size, 1, none⟩ = some (.slice L ls.length d) ∧ wr.cell? ⟨w.heap.size, 2, none⟩ = some (.slice (some ⟨bc, offc, none⟩) cs.length e0) ∧ wr.cell? ⟨bc, offc + k, none⟩ = some (.int .i64 (ix : Nat))) := Lib.hid ⟨y0, y1, y2, hcell⟩
                have HKF : Hid (∀ wx, Below wr.heap.size wr wx → wx.cell? ⟨w.heap.size, 0, none⟩ = some (.slice A ws.length c) ∧ wx.cell? ⟨w.heap.size, 1, none⟩ = some (.slice L ls.length d) ∧ wx.cell? ⟨w.heap.size, 2, none⟩ = some (.slice (some ⟨bc, offc, none⟩) cs.length e0) ∧ wx.cell? ⟨bc, offc + k, none⟩ = some (.int .i64 (ix : Nat))) := Lib.hid fun wx hx => by
                  have hk : ∀ (q : Addr) (v : Value), q.block < wr.heap.size → wr.cell? q = some v → wx.cell? q = some v := fun q v hq e => (hx.cell hq).trans e
                  exact ⟨hk _ _ (by show w.heap.size < _; omega) y0, hk _ _ (by show w.heap.size < _; omega) y1, hk _ _ (by show w.heap.size < _; omega) y2, hk _ _ hbc hcell⟩
                have HC := Lib.hid (sWire_yes A L (some ⟨bc, offc, none⟩) ws.length c ls.length d cs.length e0 (ix : Nat) wr.drew hml hin)
                have tok1 : True := trivial
                clear hin
                go_wp2_with (fail)
                go_region_held3 (fun wx => wx.cell? ⟨w.heap.size, 0, none⟩ = some (.slice A ws.length c) ∧ wx.cell? ⟨w.heap.size, 1, none⟩ = some (.slice L ls.length d) ∧ wx.cell? ⟨w.heap.size, 2, none⟩ = some (.slice (some ⟨bc, offc, none⟩) cs.length e0) ∧ wx.cell? ⟨bc, offc + k, none⟩ = some (.int .i64 (ix : Nat))) (first | exact K0.out | exact K1.out) (first | (have _t := tok1; go_at_call 138; refine HC.out.mono ?_; rintro e u ⟨rfl, bel'⟩; have bel := undrew bel'; have H1 := Lib.hid bel; have K1 := Lib.hid (HKF.out _ H1.out); clear bel bel' tok1))
                have hU2 := HU.out.below H1.out
                have hc := hU2.cell hix
                have hf := hU2.frozen ix
                have hp := hU2.bump hix
                have hm := (HM.out.below H1.out).far (p := ⟨g2, ix, none⟩) (by show g2 ≠ g1; omega) (.int .i64 (usedN ls ix + concN (cs.take k) ix + 1))
                have hb := (HB.out.trans (H1.out.mono HB.out.size)).setCell (p := ⟨g2, ix, none⟩) (by show w0.heap.size ≤ g2; omega) (.int .i64 (usedN ls ix + concN (cs.take k) ix + 1))
                obtain ⟨q0, q1, q2, q3⟩ := K1.out
                clear y0 y1 y2 hcell hU2
                obtain ⟨v, hv⟩ : ∃ v, usedN ls ix + concN (cs.take k) ix = v := ⟨_, rfl⟩
                rw [hv] at hc hp hm hb
                have hv0 : 0 ≤ v ∧ v ≤ 2000000 := by omega
                have HM2 := Lib.hid hm; have HB2 := Lib.hid hb
                have HU2 := Lib.hid (hp.ext (f' := fun x => usedN ls x + concN (cs.take (k + 1)) x) fun x _ => by rw [HCS.out x]; omega)
                clear hv hp hm hb hub hcb
                go_wp2
                go_roundw
                case rel => exact ⟨k + 1, by omega, by go_num, HST.out, HM2.out, HU2.out, HB2.out⟩
                case measure => simp [intOf]; omega
            · have hkl : k = cs.length := by omega
              subst hkl
              rw [List.take_of_length_le (Nat.le_refl _)] at hall hU
              have HF3 := Lib.hid hall
              have HM := Lib.hid hM; have HU := Lib.hid hU; have HB := Lib.hid hB
              have hub := fun x => usedN_le ls x
              have hcb := fun x => concN_le cs x
              have hmb := fun x => madeN_le ls x
              have HUB := Lib.hid hub; have HCB := Lib.hid hcb; have HMB := Lib.hid hmb
              clear hall hM hU hB hub hcb hmb
              go_wp2
              go_loop [9] (fun i => ∃ k : Nat, k ≤ ws.length ∧ i = .int .i64 k ∧ ∀ x, x < k → madeN ls x = 1 ∧ usedN ls x + concN cs x = 1) (fun i => ws.length - (intOf i).toNat)
              case atStart => exact ⟨0, Nat.zero_le _, rfl, fun x hx => absurd hx (by omega)⟩
              case round =>
                obtain ⟨k, hk, rfl, hev⟩ := hrel
                have HEV := Lib.hid hev
                clear hev
                by_cases hlt : k < ws.length
                · have hc1 := HM.out.cell hlt
                  have hc2 := HU.out.cell hlt
                  by_cases e1 : madeN ls k = 1
                  · rw [e1] at hc1
                    by_cases e2 : usedN ls k + concN cs k = 1
                    · rw [e2] at hc2
                      have HN : Hid (∀ x, x < k + 1 → madeN ls x = 1 ∧ usedN ls x + concN cs x = 1) := Lib.hid fun x hx => by
                        by_cases e : x < k
                        · exact HEV.out x e
                        · obtain rfl : x = k := by omega
                          exact ⟨e1, e2⟩
                      clear e1 e2
                      go_wp2
                      go_round
                      case rel => exact ⟨k + 1, by omega, by go_num, HN.out⟩
                      case measure => simp [intOf]; omega
                    · have HE : Hid (false = valN ⟨ws, ls, cs⟩) := Lib.hid (valN_uneven (N := ⟨ws, ls, cs⟩) hlt (fun h => e2 h.2)).symm
                      have d2 : (usedN ls k + concN cs k != 1) = true := by simpa using e2
                      clear e1 e2
                      generalize usedN ls k + concN cs k = v at *
                      have HB2 := Lib.hid (HB0.out.trans (HB.out.mono HB0.out.size))
                      go_wp2
                      go_ret
                      exact ⟨ret_bool' HE.out, HB2.out⟩
                  · have HE : Hid (false = valN ⟨ws, ls, cs⟩) := Lib.hid (valN_uneven (N := ⟨ws, ls, cs⟩) hlt (fun h => e1 h.1)).symm
                    have d1 : (madeN ls k != 1) = true := by simpa using e1
                    clear e1
                    generalize madeN ls k = v at *
                    have HB2 := Lib.hid (HB0.out.trans (HB.out.mono HB0.out.size))
                    go_wp2
                    go_ret
                    exact ⟨ret_bool' HE.out, HB2.out⟩
                · have hkl : k = ws.length := by omega
                  subst hkl
                  have HE : Hid (true = valN ⟨ws, ls, cs⟩) := Lib.hid (valN_yes (N := ⟨ws, ls, cs⟩) ⟨h1, h2⟩ HW.out HF2.out HF3.out HEV.out).symm
                  have HB2 := Lib.hid (HB0.out.trans (HB.out.mono HB0.out.size))
                  go_wp2
                  go_ret
                  exact ⟨ret_bool' HE.out, HB2.out⟩
/-- ValidNet of the model. -/
theorem sValidNet_any (h : NH) (N : Nt) (w : World) (r : RdN w w.heap.size h N) (hn : N.w.length ≤ 1048576) (hl : N.l.length ≤ 1048576) (hc : N.c.length ≤ 1048576) :
    Calls Tryz.prog 89 #[.agg #[.slice h.A N.w.length h.c, .slice h.L N.l.length h.d, .slice h.C N.c.length h.e]] w fun e w' => e = .returned (.bool (valN N)) ∧ Below w.heap.size w w' := by
  obtain ⟨A, c, hs, L, d, C, e0⟩ := h
  obtain ⟨ws, ls, cs⟩ := N
  dsimp only at hn hl hc ⊢
  by_cases h1 : ws.length ≤ 48
  · by_cases h2 : ls.length ≤ 48
    · exact sValidNet_in A L C c d e0 ws ls cs w r.1 r.2.1 r.2.2 h1 h2 hc
    · have HE : Hid (false = valN ⟨ws, ls, cs⟩) := Lib.hid (valN_great (N := ⟨ws, ls, cs⟩) (.inr (by show 48 < ls.length; omega))).symm
      obtain ⟨hb, hh, hsz⟩ := box3_any w (.slice A ws.length c) (.slice L ls.length d) (.slice C cs.length e0) 30
      obtain ⟨y0, y1, y2⟩ := three_cells hh
      have d1 : decide ((48 : Int) < (ws.length : Int)) = false := decide_eq_false (by omega)
      have d2 : decide ((48 : Int) < (ls.length : Int)) = true := decide_eq_true (by omega)
      have HB := Lib.hid hb
      clear hb hh hsz r h1 h2
      go_enter Tryz.func89, Tryz.ntmps89
      go_wp2
      go_ret
      exact ⟨ret_bool' HE.out, HB.out⟩
  · have HE : Hid (false = valN ⟨ws, ls, cs⟩) := Lib.hid (valN_great (N := ⟨ws, ls, cs⟩) (.inl (by show 48 < ws.length; omega))).symm
    obtain ⟨hb, hh, hsz⟩ := box3_any w (.slice A ws.length c) (.slice L ls.length d) (.slice C cs.length e0) 30
    obtain ⟨y0, y1, y2⟩ := three_cells hh
    have d1 : decide ((48 : Int) < (ws.length : Int)) = true := decide_eq_true (by omega)
    have HB := Lib.hid hb
    clear hb hh hsz r h1
    go_enter Tryz.func89, Tryz.ntmps89
    go_wp2
    go_ret
    exact ⟨ret_bool' HE.out, HB.out⟩
end Go.Proofs.YtfdpkhiiboghiaaGreatDoor
