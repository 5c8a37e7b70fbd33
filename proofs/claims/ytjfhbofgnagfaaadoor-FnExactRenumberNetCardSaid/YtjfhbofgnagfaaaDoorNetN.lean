/- A net renumbered, of the model. -/
import Derived.Test.YtjfhbofgnagfaaaDoorQNetO
import Derived.Test.YtjfhbofgnagfaaaDoorQNetV
namespace Go.Proofs.YtjfhbofgnagfaaaDoor
set_option linter.unusedSimpArgs false
set_option linter.unusedVariables false
open Go.ChangeAt Go.ChangeShapes Go.RowKit Go.WideShapes

/-- Where the copy stands, while it is renumbered. -/
def RnSt (w0 wx : World) (bo : Nat) (h : NH) (N : Nt) (x y z : Value) : Prop := OwnN wx w0.heap.size wx.heap.size h N ∧ FarN h N bo ∧ wx.heap[bo]? = some (.cells #[x, y, z] 28 (0, 0)) ∧ Below w0.heap.size w0 wx
theorem RnSt.drew {w0 wx : World} {bo : Nat} {h : NH} {N : Nt} {x y z : Value} (r : RnSt w0 wx bo h N x y z) : RnSt w0 wx.drew bo h N x y z := ⟨r.1.same (fun _ _ _ _ => rfl), r.2.1, r.2.2.1, r.2.2.2.drew⟩
theorem own_done2 {w w0 u : World} {N : Nt} {h : NH} {a b c : Nat} (hb : Below w.heap.size w w0) (b4 : Below w0.heap.size w0 u) (o : OwnN u w0.heap.size u.heap.size h N) (hs : w.heap.size + 2 ≤ w0.heap.size) (e1 : N.w.length = a) (e2 : N.l.length = b) (e3 : N.c.length = c) :
    CopiedN w N (.returned (.agg #[.slice h.A a h.c, .slice h.L b h.d, .slice h.C c h.e])) ((((u.setCell ⟨w.heap.size + 1, 0, none⟩ (.slice h.A a h.c)).setCell ⟨w.heap.size + 1, 1, none⟩ (.slice h.L b h.d)).setCell ⟨w.heap.size + 1, 2, none⟩ (.slice h.C c h.e))) := by
  subst e1 e2 e3; exact own_done hb b4 o hs
theorem four_far {u : World} {g o b j : Nat} {v0 v1 v2 v3 : Value} (h : g ≠ b) : (fourW u g o v0 v1 v2 v3).cell? ⟨b, j, none⟩ = u.cell? ⟨b, j, none⟩ := by
  unfold fourW
  rw [World.cell?_setCell_far _ _ _ _ (by exact h), World.cell?_setCell_far _ _ _ _ (by exact h), World.cell?_setCell_far _ _ _ _ (by exact h), World.cell?_setCell_far _ _ _ _ (by exact h)]
theorem four_heap {u : World} {g o b : Nat} {v0 v1 v2 v3 : Value} (h : b ≠ g) : (fourW u g o v0 v1 v2 v3).heap[b]? = u.heap[b]? := by
  unfold fourW
  exact (Below.heap_setCell _ _ _ _ h).trans ((Below.heap_setCell _ _ _ _ h).trans ((Below.heap_setCell _ _ _ _ h).trans (Below.heap_setCell _ _ _ _ h)))
theorem four_below {w0 u : World} {B g o : Nat} (hb : Below B w0 u) (h : B ≤ g) (v0 v1 v2 v3 : Value) : Below B w0 (fourW u g o v0 v1 v2 v3) :=
  (((hb.setCell (p := ⟨g, o, none⟩) h v0).setCell (p := ⟨g, o + 1, none⟩) h v1).setCell (p := ⟨g, o + 2, none⟩) h v2).setCell (p := ⟨g, o + 3, none⟩) h v3
/-- The wires, links and conclusions when k of them are set. -/
def rnW (N : Nt) (P : List Int) (k : Nat) : List (List Int) := (List.range k).foldl (fun acc t => acc.set (P.getD t 0).toNat (N.w.getD t [])) N.w
def mapK (P : List Int) (l : Lk) : Lk := ⟨l.k, P.getD l.a.toNat 0, P.getD l.b.toNat 0, if l.k = 3 ∨ l.k = 4 then P.getD l.c.toNat 0 else l.c⟩
def rnL (N : Nt) (P R : List Int) (k : Nat) : List Lk := (List.range k).foldl (fun acc t => acc.set (R.getD t 0).toNat (mapK P (N.l.getD t Lk.nil))) N.l
def rnC (N : Nt) (P : List Int) (k : Nat) : List Int := (List.range k).foldl (fun acc t => acc.set t (P.getD (N.c.getD t 0).toNat 0)) N.c
/-- The net renumbered. -/
def rnN (N : Nt) (P R : List Int) : Nt := ⟨rnW N P N.w.length, rnL N P R N.l.length, rnC N P N.c.length⟩
theorem rnW_step (N : Nt) (P : List Int) (k : Nat) : rnW N P (k + 1) = (rnW N P k).set (P.getD k 0).toNat (N.w.getD k []) := by unfold rnW; rw [List.range_succ, List.foldl_append]; rfl
theorem rnL_step (N : Nt) (P R : List Int) (k : Nat) : rnL N P R (k + 1) = (rnL N P R k).set (R.getD k 0).toNat (mapK P (N.l.getD k Lk.nil)) := by unfold rnL; rw [List.range_succ, List.foldl_append]; rfl
theorem rnC_step (N : Nt) (P : List Int) (k : Nat) : rnC N P (k + 1) = (rnC N P k).set k (P.getD (N.c.getD k 0).toNat 0) := by unfold rnC; rw [List.range_succ, List.foldl_append]; rfl
theorem rnW_len (N : Nt) (P : List Int) : ∀ k, (rnW N P k).length = N.w.length
  | 0 => rfl
  | k + 1 => by rw [rnW_step, List.length_set, rnW_len N P k]
theorem rnL_len (N : Nt) (P R : List Int) : ∀ k, (rnL N P R k).length = N.l.length
  | 0 => rfl
  | k + 1 => by rw [rnL_step, List.length_set, rnL_len N P R k]
theorem rnC_len (N : Nt) (P : List Int) : ∀ k, (rnC N P k).length = N.c.length
  | 0 => rfl
  | k + 1 => by rw [rnC_step, List.length_set, rnC_len N P k]
set_option linter.unusedSimpArgs false in
set_option maxRecDepth 100000 in
set_option maxHeartbeats 8000000 in
theorem sRenumber_any (h : NH) (N : Nt) (AP AR : Option Addr) (cP cR : Nat) (P R : List Int) (w : World) (r : RdN w w.heap.size h N) (rp : RdI w w.heap.size AP P.length P) (rr : RdI w w.heap.size AR R.length R) (hv : valN N = true) (hP : P.all (inW N.w.length) = true) (hPl : P.length = N.w.length) (hR : R.all (inW N.l.length) = true) (hRl : R.length = N.l.length) :
    Calls Tryd.prog 103 #[.agg #[.slice h.A N.w.length h.c, .slice h.L N.l.length h.d, .slice h.C N.c.length h.e], .slice AP P.length cP, .slice AR R.length cR] w (CopiedN w (rnN N P R)) := by
  obtain ⟨w0, hw0⟩ : ∃ w0, w0 = (w.alloc (.cells #[.slice h.A N.w.length h.c, .slice h.L N.l.length h.d, .slice h.C N.c.length h.e] 28)).alloc (.cells #[.slice none 0 0, .slice none 0 0, .slice none 0 0] 28) := ⟨_, rfl⟩
  obtain ⟨hb, g0, g1, hsz⟩ := two_any' w (.cells #[.slice h.A N.w.length h.c, .slice h.L N.l.length h.d, .slice h.C N.c.length h.e] 28) (.cells #[.slice none 0 0, .slice none 0 0, .slice none 0 0] 28)
  rw [← hw0] at hb g0 g1 hsz
  have hs0 : w.heap.size + 2 ≤ w0.heap.size := by omega
  have HKF : Hid (∀ wx, Below w0.heap.size w0 wx → wx.cell? ⟨w.heap.size, 0, none⟩ = some (.slice h.A N.w.length h.c) ∧ wx.cell? ⟨w.heap.size, 1, none⟩ = some (.slice h.L N.l.length h.d) ∧ wx.cell? ⟨w.heap.size, 2, none⟩ = some (.slice h.C N.c.length h.e)) := Lib.hid fun wx hx => three_cells ((hx.block _ (by omega)).trans g0)
  have HKR : Hid (∀ wx, Below w0.heap.size w0 wx → wx.heap[w.heap.size + 1]? = some (.cells #[.slice none 0 0, .slice none 0 0, .slice none 0 0] 28 (0, 0))) := Lib.hid fun wx hx => (hx.block _ (by omega)).trans g1
  obtain ⟨hs1, hs2⟩ := valN_size hv
  have hcl := valN_conc_le hv
  have HVF : Hid (∀ q ∈ N.w, validB q = true) := Lib.hid fun q hq => formN_valid (List.all_eq_true.1 (valN_forms hv) q hq)
  have HOW := Lib.hid (sOwn_any h N w0 ((r.below hb).more hb.size) (by omega) (fun q hq => by have := (valid_len (HVF.out q hq)).2.1; omega) (fun q hq => by have := (valid_len (HVF.out q hq)).1; omega) (by omega) (by omega))
  have HR1 := Lib.hid r; have HRP := Lib.hid rp; have HRR := Lib.hid rr
  have HPW := Lib.hid (fun t (ht : t < P.length) => all_at (d := 0) hP ht)
  have HRW := Lib.hid (fun t (ht : t < R.length) => all_at (d := 0) hR ht)
  have HFT := Lib.hid (fun t (ht : t < N.l.length) => all_at (d := Lk.nil) (valN_fits hv) ht)
  have HCW := Lib.hid (fun t (ht : t < N.c.length) => all_at (d := 0) (valN_concl hv) ht)
  have hPn : P.length ≤ N.w.length := Nat.le_of_eq hPl
  have hPn2 : N.w.length ≤ P.length := Nat.le_of_eq hPl.symm
  have hRn : R.length ≤ N.l.length := Nat.le_of_eq hRl
  have hRn2 : N.l.length ≤ R.length := Nat.le_of_eq hRl.symm
  have HB0 := Lib.hid hb
  obtain ⟨y0, y1, y2⟩ := HKF.out _ (Below.refl _ w0)
  clear hb g0 g1 hsz r rp rr hv hP hPl hR hRl
  go_enter Tryd.func103, Tryd.ntmps103
  go_wp2_with (fail)
  rw [← hw0]
  clear hw0
  refine HOW.out.mono ?_
  rintro e u2 ⟨⟨A2, c2, hsx, L2, d2, C2, e2⟩, rfl, own2, bel2⟩
  obtain ⟨u3, hu3⟩ : ∃ u3, u3 = u2.alloc (.cells #[.slice A2 N.w.length c2, .slice L2 N.l.length d2, .slice C2 N.c.length e2] 28) := ⟨_, rfl⟩
  have bx : Below u2.heap.size u2 u3 := by rw [hu3]; exact (Below.refl _ _).alloc (Nat.le_refl _) _
  have p3 : u3.heap[u2.heap.size]? = some (.cells #[.slice A2 N.w.length c2, .slice L2 N.l.length d2, .slice C2 N.c.length e2] 28 (0, 0)) := by rw [hu3]; exact heap_alloc_new _ _
  have s3 : u2.heap.size < u3.heap.size := by rw [hu3]; simp
  have s2 := bel2.size
  have B3 := Lib.hid (bel2.trans (bx.mono s2))
  have O3 := Lib.hid (own2.below bx).size
  have F3 := Lib.hid (own2.far_ge (Nat.le_refl _))
  obtain ⟨bo, hbo⟩ : ∃ bo, u2.heap.size = bo := ⟨_, rfl⟩
  rw [hbo] at p3 s2 s3 F3
  have P3 := Lib.hid p3
  clear bx own2 bel2 y0 y1 y2
  obtain ⟨k0, k1, k2⟩ := three_cells p3
  clear p3
  rw [hu3] at k0 k1 k2
  obtain ⟨y0, y1, y2⟩ := HKF.out _ B3.out
  rw [hu3] at y0 y1 y2
  go_wp2
  (try rw [hbo])
  rw [← hu3]
  clear hu3 hbo y0 y1 y2 k0 k1 k2
  -- the wires
  go_loopw [8] (fun i wx => ∃ (k : Nat) (hs' : Nat → Option Addr × Nat), k ≤ N.w.length ∧ i = .int .i64 k ∧ RnSt w0 wx bo ⟨A2, c2, hs', L2, d2, C2, e2⟩ ⟨rnW N P k, N.l, N.c⟩ (.slice A2 N.w.length c2) (.slice L2 N.l.length d2) (.slice C2 N.c.length e2)) (fun i _ => N.w.length - (intOf i).toNat)
  case atStart => exact ⟨0, hsx, Nat.zero_le _, rfl, ⟨O3.out, F3.out, P3.out, B3.out⟩⟩
  case round =>
    obtain ⟨k, hs', hk, rfl, ⟨hO, hF, hbo, hB⟩⟩ := hrel
    clear O3 F3 P3 B3
    have hsb : bo < wr.heap.size := by
      by_cases e : bo < wr.heap.size
      · exact e
      · rw [Array.getElem?_eq_none (by omega)] at hbo; cases hbo
    by_cases hlt : k < N.w.length
    · obtain ⟨bp, offp, rfl, hbp, hcp⟩ := HRP.out.2 (by omega)
      have hb := HB0.out.trans (hB.mono HB0.out.size)
      have cp := (hb.cell (p := ⟨bp, offp + k, none⟩) hbp).trans (hcp k (by omega))
      have hpw := HPW.out k (by omega)
      obtain ⟨z, hz⟩ : ∃ z, P.getD k 0 = z := ⟨_, rfl⟩
      rw [hz] at cp hpw
      obtain ⟨_, hip, ez⟩ := inW_yes hpw
      obtain ⟨bw, offw, hA, hbw, hcw⟩ := HR1.out.1.2 (by omega)
      obtain ⟨Aq, cq, kq, _, rq⟩ := hcw k hlt
      have kw := (hb.cell (p := ⟨bw, offw + k, none⟩) hbw).trans kq
      have hvq := valid_len (HVF.out _ (getD_mem hlt))
      have HST := Lib.hid (rnW_step N P k)
      rw [hz] at HST
      have HCI := Lib.hid (copyInts_x Aq (N.w.getD k []).length cq (N.w.getD k []) wr.drew ((rq.below hb).more hb.size) (by omega))
      have hlen := rnW_len N P k
      obtain ⟨g, cap, hgv, hglo, hglt⟩ := hO.q.outer.form (show 0 < (rnW N P k).length by omega)
      obtain ⟨rfl, rfl⟩ : A2 = some ⟨g, 0, none⟩ ∧ c2 = cap := by injection hgv with a b c'; exact ⟨a, c'⟩
      have hgb : g ≠ bo := fun e => hF.a (by show (Value.slice (some ⟨g, 0, none⟩) _ _).ownBlock = _; rw [e]; rfl)
      have hs00 := HB0.out.size
      generalize N.w.getD k [] = q at *
      generalize z.toNat = ip at *
      subst ez
      have hip2 : ip < (rnW N P k).length := by omega
      obtain ⟨gf, gc⟩ := hO.q.at rfl hip2
      have HSX : Hid (∀ wx, Below w0.heap.size w0 wx → wx.heap[bo]? = some (.cells #[.slice (some ⟨g, 0, none⟩) N.w.length c2, .slice L2 N.l.length d2, .slice C2 N.c.length e2] 28 (0, 0)) → wx.cell? ⟨bo, 0, none⟩ = some (.slice (some ⟨g, 0, none⟩) N.w.length c2) ∧ wx.cell? ⟨bp, offp + k, none⟩ = some (.int .i64 (ip : Nat)) ∧ wx.cell? ⟨w.heap.size, 0, none⟩ = some (.slice (some ⟨bw, offw, none⟩) N.w.length h.c) ∧ wx.cell? ⟨bw, offw + k, none⟩ = some (.slice Aq q.length cq)) := Lib.hid fun wx hx hbx => by
        have hb2 := HB0.out.trans (hx.mono HB0.out.size)
        obtain ⟨k0, _, _⟩ := HKF.out _ hx
        rw [hA] at k0
        exact ⟨cell_of_row _ _ 0 _ _ (0, 0) hbx, (hx.cell (p := ⟨bp, offp + k, none⟩) (by show bp < w0.heap.size; omega)).trans ((hB.cell (p := ⟨bp, offp + k, none⟩) (by show bp < w0.heap.size; omega)).symm.trans cp), k0, (hx.cell (p := ⟨bw, offw + k, none⟩) (by show bw < w0.heap.size; omega)).trans ((hB.cell (p := ⟨bw, offw + k, none⟩) (by show bw < w0.heap.size; omega)).symm.trans kw)⟩
      have K0 := Lib.hid (HSX.out wr hB hbo)
      have HO := Lib.hid hO; have HF := Lib.hid hF; have HBO := Lib.hid hbo; have HB := Lib.hid hB; have HAA := Lib.hid hA; have GF := Lib.hid gf; have GC := Lib.hid gc
      obtain ⟨y0, y1, y2⟩ := HKF.out _ hB
      have hkp : k < P.length := by omega
      have tok1 : True := trivial
      clear hO hF hbo hB hA gf gc cp kw kq rq hcp hcw hpw hz hgv hvq hlen hb
      go_wp2_with (fail)
      go_region_held3 (fun wx => wx.cell? ⟨bo, 0, none⟩ = some (.slice (some ⟨g, 0, none⟩) N.w.length c2) ∧ wx.cell? ⟨bp, offp + k, none⟩ = some (.int .i64 (ip : Nat)) ∧ wx.cell? ⟨w.heap.size, 0, none⟩ = some (.slice (some ⟨bw, offw, none⟩) N.w.length h.c) ∧ wx.cell? ⟨bw, offw + k, none⟩ = some (.slice Aq q.length cq))
        (first | exact K0.out | exact K4.out | exact K5.out)
        (first
          | (have _t := tok1
             go_at_call 82
             refine HCI.out.mono ?_
             rintro e u4 ⟨A4, c4, rfl, own4, bel4'⟩
             have bel4 := undrew bel4'
             obtain ⟨o5, far5⟩ := HO.out.storeW (g := g) (k := ip) rfl hip2 HB.out own4 bel4
             have b4 := HB.out.trans (bel4.mono HB.out.size)
             have p4 := (bel4.block bo hsb).trans HBO.out
             have kc4 := (bel4.cell (p := ⟨g, ip, none⟩) hglt).trans GC.out
             have kf4 := (bel4.frozen (p := ⟨g, ip, none⟩) hglt).trans GF.out
             have b5 := b4.setCell (p := ⟨g, ip, none⟩) hglo (.slice A4 q.length c4)
             have p5 : (u4.setCell ⟨g, ip, none⟩ (.slice A4 q.length c4)).heap[bo]? = some (.cells #[.slice (some ⟨g, 0, none⟩) N.w.length c2, .slice L2 N.l.length d2, .slice C2 N.c.length e2] 28 (0, 0)) := (Below.heap_setCell _ _ _ _ (fun e => hgb e.symm)).trans p4
             have K4 := Lib.hid (HSX.out u4 b4 p4)
             have K5 := Lib.hid (HSX.out _ b5 p5)
             have O5 := Lib.hid o5; have F5 := Lib.hid (far5 bo hsb HF.out); have P5 := Lib.hid p5; have B5 := Lib.hid b5
             clear o5 far5 b4 p4 b5 p5 own4 bel4 bel4' tok1))
      all_goals
        rw [← HST.out] at O5 F5
        go_wp2
        go_roundw
        case rel => exact ⟨k + 1, _, by omega, by go_num, ⟨O5.out.size, F5.out, P5.out, B5.out⟩⟩
        case measure => simp [intOf]; omega
    · have hkl : k = N.w.length := by omega
      subst hkl
      have hO3 : OwnN wr w0.heap.size wr.heap.size ⟨A2, c2, hs', L2, d2, C2, e2⟩ ⟨rnW N P N.w.length, rnL N P R 0, N.c⟩ := hO
      have hF3 : FarN ⟨A2, c2, hs', L2, d2, C2, e2⟩ ⟨rnW N P N.w.length, rnL N P R 0, N.c⟩ bo := hF
      have O3 := Lib.hid hO3; have F3 := Lib.hid hF3; have P3 := Lib.hid hbo; have B3 := Lib.hid hB
      obtain ⟨y0, y1, y2⟩ := HKF.out _ hB
      have HWN : Hid ((rnW N P N.w.length).length = N.w.length) := Lib.hid (rnW_len _ _ _)
      clear hO hF hbo hB hO3 hF3
      obtain ⟨WS, hWS⟩ : ∃ x, rnW N P N.w.length = x := ⟨_, rfl⟩
      rw [hWS] at O3 F3 HWN
      have HWS := Lib.hid hWS
      clear hWS
      have tok0 : True := trivial
      go_wp2
      clear y0 y1 y2
      go_loopw [9] (fun i wx => ∃ k : Nat, k ≤ N.l.length ∧ i = .int .i64 k ∧ RnSt w0 wx bo ⟨A2, c2, hs', L2, d2, C2, e2⟩ ⟨WS, rnL N P R k, N.c⟩ (.slice A2 N.w.length c2) (.slice L2 N.l.length d2) (.slice C2 N.c.length e2)) (fun i _ => N.l.length - (intOf i).toNat)
      case atStart => exact ⟨0, Nat.zero_le _, rfl, ⟨O3.out, F3.out, P3.out, B3.out⟩⟩
      case round =>
        obtain ⟨k, hk, rfl, ⟨hO, hF, hbo, hB⟩⟩ := hrel
        clear O3 F3 P3 B3 hsb
        have hsb : bo < wr.heap.size := by
          by_cases e : bo < wr.heap.size
          · exact e
          · rw [Array.getElem?_eq_none (by omega)] at hbo; cases hbo
        by_cases hlt : k < N.l.length
        · have hb := HB0.out.trans (hB.mono HB0.out.size)
          have hs00 := HB0.out.size
          have hs01 := hB.size
          obtain ⟨br, offr, rfl, hbr, hcr⟩ := HRR.out.2 (by omega)
          have cr := (hb.cell (p := ⟨br, offr + k, none⟩) hbr).trans (hcr k (by omega))
          have hrw := HRW.out k (by omega)
          obtain ⟨zr, hzr⟩ : ∃ z, R.getD k 0 = z := ⟨_, rfl⟩
          rw [hzr] at cr hrw
          obtain ⟨_, hir, er⟩ := inW_yes hrw
          have HST := rnL_step N P R k
          rw [hzr] at HST
          obtain ⟨b0, off0, hL2, hb0', hcells⟩ := HR1.out.2.1.at (by omega)
          obtain ⟨x0, x1, x2, x3⟩ := hcells k hlt
          have hfit := HFT.out k hlt
          obtain ⟨⟨lk, la, lb, lc⟩, hl⟩ : ∃ l, N.l.getD k Lk.nil = l := ⟨_, rfl⟩
          rw [hl] at x0 x1 x2 x3 hfit HST
          dsimp only at x0 x1 x2 x3
          replace x0 := (hb.cell (p := ⟨b0, off0 + k * 4, none⟩) hb0').trans x0
          replace x1 := (hb.cell (p := ⟨b0, off0 + k * 4 + 1, none⟩) hb0').trans x1
          replace x2 := (hb.cell (p := ⟨b0, off0 + k * 4 + 2, none⟩) hb0').trans x2
          replace x3 := (hb.cell (p := ⟨b0, off0 + k * 4 + 3, none⟩) hb0').trans x3
          obtain ⟨wa, wb, wc, _⟩ := fitsN_yes hfit
          obtain ⟨_, hia, ea⟩ := inW_yes wa
          obtain ⟨_, hib, eb⟩ := inW_yes wb
          obtain ⟨_, hic, ec⟩ := inW_yes wc
          dsimp only at hia hib hic ea eb ec
          obtain ⟨bp, offp, rfl, hbp, hcp⟩ := HRP.out.2 (by omega)
          have ca := (hb.cell (p := ⟨bp, offp + la.toNat, none⟩) hbp).trans (hcp la.toNat (by omega))
          have cb := (hb.cell (p := ⟨bp, offp + lb.toNat, none⟩) hbp).trans (hcp lb.toNat (by omega))
          have cc := (hb.cell (p := ⟨bp, offp + lc.toNat, none⟩) hbp).trans (hcp lc.toNat (by omega))
          have HMP : mapK P ⟨lk, la, lb, lc⟩ = ⟨lk, P.getD la.toNat 0, P.getD lb.toNat 0, if lk = 3 ∨ lk = 4 then P.getD lc.toNat 0 else lc⟩ := rfl
          generalize zr.toNat = ir at *
          generalize P.getD la.toNat 0 = pa at *
          generalize P.getD lb.toNat 0 = pb at *
          generalize P.getD lc.toNat 0 = pc at *
          generalize la.toNat = ia at *
          generalize lb.toNat = ib at *
          generalize lc.toNat = ic at *
          subst er ea eb ec
          have hlen := rnL_len N P R k
          obtain ⟨g, cap, hgv, hglo, hglt⟩ := hO.l.form (show 0 < (rnL N P R k).length by omega)
          obtain ⟨rfl, rfl⟩ : L2 = some ⟨g, 0, none⟩ ∧ d2 = cap := by injection hgv with a b c'; exact ⟨a, c'⟩
          have hgb : g ≠ bo := fun e => hF.l (by show (Value.slice (some ⟨g, 0, none⟩) _ _).ownBlock = _; rw [e]; rfl)
          have HST := Lib.hid HST; have HMP := Lib.hid HMP
          have hiap : ia < P.length := by omega
          have hibp : ib < P.length := by omega
          have hicp : ic < P.length := by omega
          have hkr : k < R.length := by omega
          have hbpw : bp < wr.heap.size := by omega
          clear hcr hcells hfit hl hrw hzr hcp wa wb wc hgv
          by_cases h3 : lk = 3
          · have h4 : True := trivial
            have e3 : (lk == 3) = true := by simpa using h3

            have HMK : Hid (rnL N P R (k + 1) = (rnL N P R k).set ir ⟨lk, pa, pb, pc⟩) := Lib.hid (by rw [HST.out, HMP.out]; simp [mapK, h3])
            obtain ⟨b1, z10, z11, z12, z13, _⟩ := lnk_any wr ⟨lk, ia, ib, ic⟩ 75
            obtain ⟨b2, z20, z21, z22, z23, _⟩ := lnk_any wr ⟨lk, pa, ib, ic⟩ 75
            obtain ⟨b3, z30, z31, z32, z33, zs3⟩ := lnk_any wr ⟨lk, pa, pb, ic⟩ 75
            obtain ⟨b4, z40, z41, z42, z43, zs4⟩ := lnk_any wr ⟨lk, pa, pb, pc⟩ 75
            dsimp only at b1 b2 b3 b4 z10 z11 z12 z13 z20 z21 z22 z23 z30 z31 z32 z33 z40 z41 z42 z43 zs3 zs4
            have c1 := (b1.cell (p := ⟨bp, offp + ia, none⟩) (by show bp < _; omega)).trans ca
            have c2' := (b2.cell (p := ⟨bp, offp + ib, none⟩) (by show bp < _; omega)).trans cb
            have c3 := (b3.cell (p := ⟨bp, offp + ic, none⟩) (by show bp < _; omega)).trans cc
            have hO2 := (hO.below b4).size
            have hb2 := (b4.block bo hsb).trans hbo
            have hB2 := hB.trans (b4.mono hB.size)
            have HZ := Lib.hid (And.intro z40 (And.intro z41 (And.intro z42 z43)))
            have hzl : wr.heap.size < (wr.alloc (.cells #[.int .i64 lk, .int .i64 pa, .int .i64 pb, .int .i64 pc] 75)).heap.size := by omega
            have hfb := hO.far_ge (Nat.le_refl _)
            have hO3 := Lib.hid hO2; have HB3 := Lib.hid hB2; have HBO := Lib.hid hb2; have HF := Lib.hid hF; have HFB := Lib.hid hfb; have HCR := Lib.hid ((b4.cell (p := ⟨br, offr + k, none⟩) (by show br < _; omega)).trans cr)
            have HL := Lib.hid hL2
            obtain ⟨y0, y1, y2⟩ := HKF.out _ hB
            clear hO hF hbo hB b1 b2 b3 b4 zs3 zs4 hO2 hb2 hB2 hfb ca cb cc cr h3 h4 hb
            go_upto_region 14 with (fail)
            clear z10 z11 z12 z13 z20 z21 z22 z23 z30 z31 z32 z33 z40 z41 z42 z43 c1 c2' c3 x0 x1 x2 x3 y0 y1 y2
            generalize (wr.alloc (.cells #[.int .i64 lk, .int .i64 pa, .int .i64 pb, .int .i64 pc] 75)) = u at *
            generalize wr.heap.size = bl at *
            have hiru : ir < (rnL N P R k).length := by omega
            have hflu : (flL (rnL N P R k)).length = (rnL N P R k).length * 4 := flL_len _
            have cl := fun t (ht : t < 4) => hO3.out.l.cellAt (g := g) (ir * 4 + t) (by show ir * 4 + t < (rnL N P R k).length * 4; omega)
            have fr := fun t => hO3.out.l.frozenAt (g := g) (ir * 4 + t)
            obtain ⟨d0, e0⟩ : ∃ x, u.cell? ⟨g, ir * 4, none⟩ = some x := ⟨_, (cl 0 (by omega)).trans (List.getElem?_eq_getElem (show ir * 4 + 0 < _ by rw [List.length_map, hflu]; omega))⟩
            obtain ⟨d1, e1⟩ : ∃ x, u.cell? ⟨g, ir * 4 + 1, none⟩ = some x := ⟨_, (cl 1 (by omega)).trans (List.getElem?_eq_getElem (show ir * 4 + 1 < _ by rw [List.length_map, hflu]; omega))⟩
            obtain ⟨d2', e2'⟩ : ∃ x, u.cell? ⟨g, ir * 4 + 2, none⟩ = some x := ⟨_, (cl 2 (by omega)).trans (List.getElem?_eq_getElem (show ir * 4 + 2 < _ by rw [List.length_map, hflu]; omega))⟩
            obtain ⟨d3, e3'⟩ : ∃ x, u.cell? ⟨g, ir * 4 + 3, none⟩ = some x := ⟨_, (cl 3 (by omega)).trans (List.getElem?_eq_getElem (show ir * 4 + 3 < _ by rw [List.length_map, hflu]; omega))⟩
            have fr0 : u.frozen? ⟨g, ir * 4, none⟩ = false := fr 0
            have fr1 := fr 1; have fr2 := fr 2; have fr3 := fr 3
            obtain ⟨o5, far5⟩ := hO3.out.storeL (g := g) (k := ir) (l := ⟨lk, pa, pb, pc⟩) rfl hiru
            have hbl' : bl < u.heap.size := by omega
            have cr0 : u.cell? ⟨br, offr + k, none⟩ = some (.int .i64 (ir : Nat)) := HCR.out
            have kb := cell_of_row _ _ 1 _ _ (0, 0) HBO.out
            have hgr : g ≠ br := by omega
            have hgl : g ≠ bl := fun e => HFB.out.l (by show (Value.slice (some ⟨g, 0, none⟩) _ _).ownBlock = _; rw [e]; rfl)
            have K0 : Hid (u.cell? ⟨bo, 1, none⟩ = some (.slice (some ⟨g, 0, none⟩) N.l.length d2) ∧ u.cell? ⟨br, offr + k, none⟩ = some (.int .i64 (ir : Nat)) ∧ u.cell? ⟨bl, 0, none⟩ = some (.int .i64 lk) ∧ u.cell? ⟨bl, 1, none⟩ = some (.int .i64 pa) ∧ u.cell? ⟨bl, 2, none⟩ = some (.int .i64 pb) ∧ u.cell? ⟨bl, 3, none⟩ = some (.int .i64 pc)) := Lib.hid ⟨kb, cr0, HZ.out⟩
            have K5 : Hid ((fourW u g (ir * 4) (.int .i64 lk) (.int .i64 pa) (.int .i64 pb) (.int .i64 pc)).cell? ⟨bo, 1, none⟩ = some (.slice (some ⟨g, 0, none⟩) N.l.length d2) ∧ (fourW u g (ir * 4) (.int .i64 lk) (.int .i64 pa) (.int .i64 pb) (.int .i64 pc)).cell? ⟨br, offr + k, none⟩ = some (.int .i64 (ir : Nat)) ∧ (fourW u g (ir * 4) (.int .i64 lk) (.int .i64 pa) (.int .i64 pb) (.int .i64 pc)).cell? ⟨bl, 0, none⟩ = some (.int .i64 lk) ∧ (fourW u g (ir * 4) (.int .i64 lk) (.int .i64 pa) (.int .i64 pb) (.int .i64 pc)).cell? ⟨bl, 1, none⟩ = some (.int .i64 pa) ∧ (fourW u g (ir * 4) (.int .i64 lk) (.int .i64 pa) (.int .i64 pb) (.int .i64 pc)).cell? ⟨bl, 2, none⟩ = some (.int .i64 pb) ∧ (fourW u g (ir * 4) (.int .i64 lk) (.int .i64 pa) (.int .i64 pb) (.int .i64 pc)).cell? ⟨bl, 3, none⟩ = some (.int .i64 pc)) := Lib.hid ⟨(four_far hgb).trans kb, (four_far hgr).trans cr0, (four_far hgl).trans HZ.out.1, (four_far hgl).trans HZ.out.2.1, (four_far hgl).trans HZ.out.2.2.1, (four_far hgl).trans HZ.out.2.2.2⟩
            have p5 : (fourW u g (ir * 4) (.int .i64 lk) (.int .i64 pa) (.int .i64 pb) (.int .i64 pc)).heap[bo]? = _ := (four_heap (fun e => hgb e.symm)).trans HBO.out
            have b5 := four_below HB3.out hglo (.int .i64 lk) (.int .i64 pa) (.int .i64 pb) (.int .i64 pc) (o := ir * 4)
            have O5 := Lib.hid o5; have F5 := Lib.hid (far5 bo HF.out); have P5 := Lib.hid p5; have B5 := Lib.hid b5
            rw [← HMK.out] at O5 F5
            clear cl fr o5 far5 kb cr0 p5 b5 hflu
            go_region_held3 (fun wx => wx.cell? ⟨bo, 1, none⟩ = some (.slice (some ⟨g, 0, none⟩) N.l.length d2) ∧ wx.cell? ⟨br, offr + k, none⟩ = some (.int .i64 (ir : Nat)) ∧ wx.cell? ⟨bl, 0, none⟩ = some (.int .i64 lk) ∧ wx.cell? ⟨bl, 1, none⟩ = some (.int .i64 pa) ∧ wx.cell? ⟨bl, 2, none⟩ = some (.int .i64 pb) ∧ wx.cell? ⟨bl, 3, none⟩ = some (.int .i64 pc)) (first | exact K0.out | exact K5.out) (first | fail)
            all_goals
              go_wp2
              go_roundw
              case rel => first | exact ⟨k + 1, by omega, by go_num, ⟨O5.out.size, F5.out, P5.out, B5.out⟩⟩ | exact ⟨k + 1, by omega, by go_num, RnSt.drew ⟨O5.out.size, F5.out, P5.out, B5.out⟩⟩
              case measure => simp [intOf]; omega
          by_cases h4 : lk = 4
          · skip
            have e3 : (lk == 3) = false := by simpa using h3
            have e4 : (lk == 4) = true := by simpa using h4
            have HMK : Hid (rnL N P R (k + 1) = (rnL N P R k).set ir ⟨lk, pa, pb, pc⟩) := Lib.hid (by rw [HST.out, HMP.out]; simp [mapK, h3, h4])
            obtain ⟨b1, z10, z11, z12, z13, _⟩ := lnk_any wr ⟨lk, ia, ib, ic⟩ 75
            obtain ⟨b2, z20, z21, z22, z23, _⟩ := lnk_any wr ⟨lk, pa, ib, ic⟩ 75
            obtain ⟨b3, z30, z31, z32, z33, zs3⟩ := lnk_any wr ⟨lk, pa, pb, ic⟩ 75
            obtain ⟨b4, z40, z41, z42, z43, zs4⟩ := lnk_any wr ⟨lk, pa, pb, pc⟩ 75
            dsimp only at b1 b2 b3 b4 z10 z11 z12 z13 z20 z21 z22 z23 z30 z31 z32 z33 z40 z41 z42 z43 zs3 zs4
            have c1 := (b1.cell (p := ⟨bp, offp + ia, none⟩) (by show bp < _; omega)).trans ca
            have c2' := (b2.cell (p := ⟨bp, offp + ib, none⟩) (by show bp < _; omega)).trans cb
            have c3 := (b3.cell (p := ⟨bp, offp + ic, none⟩) (by show bp < _; omega)).trans cc
            have hO2 := (hO.below b4).size
            have hb2 := (b4.block bo hsb).trans hbo
            have hB2 := hB.trans (b4.mono hB.size)
            have HZ := Lib.hid (And.intro z40 (And.intro z41 (And.intro z42 z43)))
            have hzl : wr.heap.size < (wr.alloc (.cells #[.int .i64 lk, .int .i64 pa, .int .i64 pb, .int .i64 pc] 75)).heap.size := by omega
            have hfb := hO.far_ge (Nat.le_refl _)
            have hO3 := Lib.hid hO2; have HB3 := Lib.hid hB2; have HBO := Lib.hid hb2; have HF := Lib.hid hF; have HFB := Lib.hid hfb; have HCR := Lib.hid ((b4.cell (p := ⟨br, offr + k, none⟩) (by show br < _; omega)).trans cr)
            have HL := Lib.hid hL2
            obtain ⟨y0, y1, y2⟩ := HKF.out _ hB
            clear hO hF hbo hB b1 b2 b3 b4 zs3 zs4 hO2 hb2 hB2 hfb ca cb cc cr h3 h4 hb
            go_upto_region 14 with (fail)
            clear z10 z11 z12 z13 z20 z21 z22 z23 z30 z31 z32 z33 z40 z41 z42 z43 c1 c2' c3 x0 x1 x2 x3 y0 y1 y2
            generalize (wr.alloc (.cells #[.int .i64 lk, .int .i64 pa, .int .i64 pb, .int .i64 pc] 75)) = u at *
            generalize wr.heap.size = bl at *
            have hiru : ir < (rnL N P R k).length := by omega
            have hflu : (flL (rnL N P R k)).length = (rnL N P R k).length * 4 := flL_len _
            have cl := fun t (ht : t < 4) => hO3.out.l.cellAt (g := g) (ir * 4 + t) (by show ir * 4 + t < (rnL N P R k).length * 4; omega)
            have fr := fun t => hO3.out.l.frozenAt (g := g) (ir * 4 + t)
            obtain ⟨d0, e0⟩ : ∃ x, u.cell? ⟨g, ir * 4, none⟩ = some x := ⟨_, (cl 0 (by omega)).trans (List.getElem?_eq_getElem (show ir * 4 + 0 < _ by rw [List.length_map, hflu]; omega))⟩
            obtain ⟨d1, e1⟩ : ∃ x, u.cell? ⟨g, ir * 4 + 1, none⟩ = some x := ⟨_, (cl 1 (by omega)).trans (List.getElem?_eq_getElem (show ir * 4 + 1 < _ by rw [List.length_map, hflu]; omega))⟩
            obtain ⟨d2', e2'⟩ : ∃ x, u.cell? ⟨g, ir * 4 + 2, none⟩ = some x := ⟨_, (cl 2 (by omega)).trans (List.getElem?_eq_getElem (show ir * 4 + 2 < _ by rw [List.length_map, hflu]; omega))⟩
            obtain ⟨d3, e3'⟩ : ∃ x, u.cell? ⟨g, ir * 4 + 3, none⟩ = some x := ⟨_, (cl 3 (by omega)).trans (List.getElem?_eq_getElem (show ir * 4 + 3 < _ by rw [List.length_map, hflu]; omega))⟩
            have fr0 : u.frozen? ⟨g, ir * 4, none⟩ = false := fr 0
            have fr1 := fr 1; have fr2 := fr 2; have fr3 := fr 3
            obtain ⟨o5, far5⟩ := hO3.out.storeL (g := g) (k := ir) (l := ⟨lk, pa, pb, pc⟩) rfl hiru
            have hbl' : bl < u.heap.size := by omega
            have cr0 : u.cell? ⟨br, offr + k, none⟩ = some (.int .i64 (ir : Nat)) := HCR.out
            have kb := cell_of_row _ _ 1 _ _ (0, 0) HBO.out
            have hgr : g ≠ br := by omega
            have hgl : g ≠ bl := fun e => HFB.out.l (by show (Value.slice (some ⟨g, 0, none⟩) _ _).ownBlock = _; rw [e]; rfl)
            have K0 : Hid (u.cell? ⟨bo, 1, none⟩ = some (.slice (some ⟨g, 0, none⟩) N.l.length d2) ∧ u.cell? ⟨br, offr + k, none⟩ = some (.int .i64 (ir : Nat)) ∧ u.cell? ⟨bl, 0, none⟩ = some (.int .i64 lk) ∧ u.cell? ⟨bl, 1, none⟩ = some (.int .i64 pa) ∧ u.cell? ⟨bl, 2, none⟩ = some (.int .i64 pb) ∧ u.cell? ⟨bl, 3, none⟩ = some (.int .i64 pc)) := Lib.hid ⟨kb, cr0, HZ.out⟩
            have K5 : Hid ((fourW u g (ir * 4) (.int .i64 lk) (.int .i64 pa) (.int .i64 pb) (.int .i64 pc)).cell? ⟨bo, 1, none⟩ = some (.slice (some ⟨g, 0, none⟩) N.l.length d2) ∧ (fourW u g (ir * 4) (.int .i64 lk) (.int .i64 pa) (.int .i64 pb) (.int .i64 pc)).cell? ⟨br, offr + k, none⟩ = some (.int .i64 (ir : Nat)) ∧ (fourW u g (ir * 4) (.int .i64 lk) (.int .i64 pa) (.int .i64 pb) (.int .i64 pc)).cell? ⟨bl, 0, none⟩ = some (.int .i64 lk) ∧ (fourW u g (ir * 4) (.int .i64 lk) (.int .i64 pa) (.int .i64 pb) (.int .i64 pc)).cell? ⟨bl, 1, none⟩ = some (.int .i64 pa) ∧ (fourW u g (ir * 4) (.int .i64 lk) (.int .i64 pa) (.int .i64 pb) (.int .i64 pc)).cell? ⟨bl, 2, none⟩ = some (.int .i64 pb) ∧ (fourW u g (ir * 4) (.int .i64 lk) (.int .i64 pa) (.int .i64 pb) (.int .i64 pc)).cell? ⟨bl, 3, none⟩ = some (.int .i64 pc)) := Lib.hid ⟨(four_far hgb).trans kb, (four_far hgr).trans cr0, (four_far hgl).trans HZ.out.1, (four_far hgl).trans HZ.out.2.1, (four_far hgl).trans HZ.out.2.2.1, (four_far hgl).trans HZ.out.2.2.2⟩
            have p5 : (fourW u g (ir * 4) (.int .i64 lk) (.int .i64 pa) (.int .i64 pb) (.int .i64 pc)).heap[bo]? = _ := (four_heap (fun e => hgb e.symm)).trans HBO.out
            have b5 := four_below HB3.out hglo (.int .i64 lk) (.int .i64 pa) (.int .i64 pb) (.int .i64 pc) (o := ir * 4)
            have O5 := Lib.hid o5; have F5 := Lib.hid (far5 bo HF.out); have P5 := Lib.hid p5; have B5 := Lib.hid b5
            rw [← HMK.out] at O5 F5
            clear cl fr o5 far5 kb cr0 p5 b5 hflu
            go_region_held3 (fun wx => wx.cell? ⟨bo, 1, none⟩ = some (.slice (some ⟨g, 0, none⟩) N.l.length d2) ∧ wx.cell? ⟨br, offr + k, none⟩ = some (.int .i64 (ir : Nat)) ∧ wx.cell? ⟨bl, 0, none⟩ = some (.int .i64 lk) ∧ wx.cell? ⟨bl, 1, none⟩ = some (.int .i64 pa) ∧ wx.cell? ⟨bl, 2, none⟩ = some (.int .i64 pb) ∧ wx.cell? ⟨bl, 3, none⟩ = some (.int .i64 pc)) (first | exact K0.out | exact K5.out) (first | fail)
            all_goals
              go_wp2
              go_roundw
              case rel => first | exact ⟨k + 1, by omega, by go_num, ⟨O5.out.size, F5.out, P5.out, B5.out⟩⟩ | exact ⟨k + 1, by omega, by go_num, RnSt.drew ⟨O5.out.size, F5.out, P5.out, B5.out⟩⟩
              case measure => simp [intOf]; omega
          have e3 : (lk == 3) = false := by simpa using h3
          have e4 : (lk == 4) = false := by simpa using h4
          have HMK : Hid (rnL N P R (k + 1) = (rnL N P R k).set ir ⟨lk, pa, pb, (ic : Nat)⟩) := Lib.hid (by rw [HST.out, HMP.out]; simp [mapK, h3, h4])
          obtain ⟨b1, z10, z11, z12, z13, _⟩ := lnk_any wr ⟨lk, ia, ib, ic⟩ 75
          obtain ⟨b2, z20, z21, z22, z23, _⟩ := lnk_any wr ⟨lk, pa, ib, ic⟩ 75
          obtain ⟨b3, z30, z31, z32, z33, zs3⟩ := lnk_any wr ⟨lk, pa, pb, ic⟩ 75
          obtain ⟨b4, z40, z41, z42, z43, zs4⟩ := lnk_any wr ⟨lk, pa, pb, pc⟩ 75
          dsimp only at b1 b2 b3 b4 z10 z11 z12 z13 z20 z21 z22 z23 z30 z31 z32 z33 z40 z41 z42 z43 zs3 zs4
          have c1 := (b1.cell (p := ⟨bp, offp + ia, none⟩) (by show bp < _; omega)).trans ca
          have c2' := (b2.cell (p := ⟨bp, offp + ib, none⟩) (by show bp < _; omega)).trans cb
          have c3 := (b3.cell (p := ⟨bp, offp + ic, none⟩) (by show bp < _; omega)).trans cc
          have hO2 := (hO.below b3).size
          have hb2 := (b3.block bo hsb).trans hbo
          have hB2 := hB.trans (b3.mono hB.size)
          have HZ := Lib.hid (And.intro z30 (And.intro z31 (And.intro z32 z33)))
          have hzl : wr.heap.size < (wr.alloc (.cells #[.int .i64 lk, .int .i64 pa, .int .i64 pb, .int .i64 (ic : Nat)] 75)).heap.size := by omega
          have hfb := hO.far_ge (Nat.le_refl _)
          have hO3 := Lib.hid hO2; have HB3 := Lib.hid hB2; have HBO := Lib.hid hb2; have HF := Lib.hid hF; have HFB := Lib.hid hfb; have HCR := Lib.hid ((b3.cell (p := ⟨br, offr + k, none⟩) (by show br < _; omega)).trans cr)
          have HL := Lib.hid hL2
          obtain ⟨y0, y1, y2⟩ := HKF.out _ hB
          clear hO hF hbo hB b1 b2 b3 b4 zs3 zs4 hO2 hb2 hB2 hfb ca cb cc cr h3 h4 hb
          go_upto_region 14 with (fail)
          clear z10 z11 z12 z13 z20 z21 z22 z23 z30 z31 z32 z33 z40 z41 z42 z43 c1 c2' c3 x0 x1 x2 x3 y0 y1 y2
          generalize (wr.alloc (.cells #[.int .i64 lk, .int .i64 pa, .int .i64 pb, .int .i64 (ic : Nat)] 75)) = u at *
          generalize wr.heap.size = bl at *
          have hiru : ir < (rnL N P R k).length := by omega
          have hflu : (flL (rnL N P R k)).length = (rnL N P R k).length * 4 := flL_len _
          have cl := fun t (ht : t < 4) => hO3.out.l.cellAt (g := g) (ir * 4 + t) (by show ir * 4 + t < (rnL N P R k).length * 4; omega)
          have fr := fun t => hO3.out.l.frozenAt (g := g) (ir * 4 + t)
          obtain ⟨d0, e0⟩ : ∃ x, u.cell? ⟨g, ir * 4, none⟩ = some x := ⟨_, (cl 0 (by omega)).trans (List.getElem?_eq_getElem (show ir * 4 + 0 < _ by rw [List.length_map, hflu]; omega))⟩
          obtain ⟨d1, e1⟩ : ∃ x, u.cell? ⟨g, ir * 4 + 1, none⟩ = some x := ⟨_, (cl 1 (by omega)).trans (List.getElem?_eq_getElem (show ir * 4 + 1 < _ by rw [List.length_map, hflu]; omega))⟩
          obtain ⟨d2', e2'⟩ : ∃ x, u.cell? ⟨g, ir * 4 + 2, none⟩ = some x := ⟨_, (cl 2 (by omega)).trans (List.getElem?_eq_getElem (show ir * 4 + 2 < _ by rw [List.length_map, hflu]; omega))⟩
          obtain ⟨d3, e3'⟩ : ∃ x, u.cell? ⟨g, ir * 4 + 3, none⟩ = some x := ⟨_, (cl 3 (by omega)).trans (List.getElem?_eq_getElem (show ir * 4 + 3 < _ by rw [List.length_map, hflu]; omega))⟩
          have fr0 : u.frozen? ⟨g, ir * 4, none⟩ = false := fr 0
          have fr1 := fr 1; have fr2 := fr 2; have fr3 := fr 3
          obtain ⟨o5, far5⟩ := hO3.out.storeL (g := g) (k := ir) (l := ⟨lk, pa, pb, (ic : Nat)⟩) rfl hiru
          have hbl' : bl < u.heap.size := by omega
          have cr0 : u.cell? ⟨br, offr + k, none⟩ = some (.int .i64 (ir : Nat)) := HCR.out
          have kb := cell_of_row _ _ 1 _ _ (0, 0) HBO.out
          have hgr : g ≠ br := by omega
          have hgl : g ≠ bl := fun e => HFB.out.l (by show (Value.slice (some ⟨g, 0, none⟩) _ _).ownBlock = _; rw [e]; rfl)
          have K0 : Hid (u.cell? ⟨bo, 1, none⟩ = some (.slice (some ⟨g, 0, none⟩) N.l.length d2) ∧ u.cell? ⟨br, offr + k, none⟩ = some (.int .i64 (ir : Nat)) ∧ u.cell? ⟨bl, 0, none⟩ = some (.int .i64 lk) ∧ u.cell? ⟨bl, 1, none⟩ = some (.int .i64 pa) ∧ u.cell? ⟨bl, 2, none⟩ = some (.int .i64 pb) ∧ u.cell? ⟨bl, 3, none⟩ = some (.int .i64 (ic : Nat))) := Lib.hid ⟨kb, cr0, HZ.out⟩
          have K5 : Hid ((fourW u g (ir * 4) (.int .i64 lk) (.int .i64 pa) (.int .i64 pb) (.int .i64 (ic : Nat))).cell? ⟨bo, 1, none⟩ = some (.slice (some ⟨g, 0, none⟩) N.l.length d2) ∧ (fourW u g (ir * 4) (.int .i64 lk) (.int .i64 pa) (.int .i64 pb) (.int .i64 (ic : Nat))).cell? ⟨br, offr + k, none⟩ = some (.int .i64 (ir : Nat)) ∧ (fourW u g (ir * 4) (.int .i64 lk) (.int .i64 pa) (.int .i64 pb) (.int .i64 (ic : Nat))).cell? ⟨bl, 0, none⟩ = some (.int .i64 lk) ∧ (fourW u g (ir * 4) (.int .i64 lk) (.int .i64 pa) (.int .i64 pb) (.int .i64 (ic : Nat))).cell? ⟨bl, 1, none⟩ = some (.int .i64 pa) ∧ (fourW u g (ir * 4) (.int .i64 lk) (.int .i64 pa) (.int .i64 pb) (.int .i64 (ic : Nat))).cell? ⟨bl, 2, none⟩ = some (.int .i64 pb) ∧ (fourW u g (ir * 4) (.int .i64 lk) (.int .i64 pa) (.int .i64 pb) (.int .i64 (ic : Nat))).cell? ⟨bl, 3, none⟩ = some (.int .i64 (ic : Nat))) := Lib.hid ⟨(four_far hgb).trans kb, (four_far hgr).trans cr0, (four_far hgl).trans HZ.out.1, (four_far hgl).trans HZ.out.2.1, (four_far hgl).trans HZ.out.2.2.1, (four_far hgl).trans HZ.out.2.2.2⟩
          have p5 : (fourW u g (ir * 4) (.int .i64 lk) (.int .i64 pa) (.int .i64 pb) (.int .i64 (ic : Nat))).heap[bo]? = _ := (four_heap (fun e => hgb e.symm)).trans HBO.out
          have b5 := four_below HB3.out hglo (.int .i64 lk) (.int .i64 pa) (.int .i64 pb) (.int .i64 (ic : Nat)) (o := ir * 4)
          have O5 := Lib.hid o5; have F5 := Lib.hid (far5 bo HF.out); have P5 := Lib.hid p5; have B5 := Lib.hid b5
          rw [← HMK.out] at O5 F5
          clear cl fr o5 far5 kb cr0 p5 b5 hflu
          go_region_held3 (fun wx => wx.cell? ⟨bo, 1, none⟩ = some (.slice (some ⟨g, 0, none⟩) N.l.length d2) ∧ wx.cell? ⟨br, offr + k, none⟩ = some (.int .i64 (ir : Nat)) ∧ wx.cell? ⟨bl, 0, none⟩ = some (.int .i64 lk) ∧ wx.cell? ⟨bl, 1, none⟩ = some (.int .i64 pa) ∧ wx.cell? ⟨bl, 2, none⟩ = some (.int .i64 pb) ∧ wx.cell? ⟨bl, 3, none⟩ = some (.int .i64 (ic : Nat))) (first | exact K0.out | exact K5.out) (first | fail)
          all_goals
            go_wp2
            go_roundw
            case rel => first | exact ⟨k + 1, by omega, by go_num, ⟨O5.out.size, F5.out, P5.out, B5.out⟩⟩ | exact ⟨k + 1, by omega, by go_num, RnSt.drew ⟨O5.out.size, F5.out, P5.out, B5.out⟩⟩
            case measure => simp [intOf]; omega
        · have hkl : k = N.l.length := by omega
          subst hkl
          have hO3 : OwnN wr w0.heap.size wr.heap.size ⟨A2, c2, hs', L2, d2, C2, e2⟩ ⟨WS, rnL N P R N.l.length, rnC N P 0⟩ := hO
          have hF3 : FarN ⟨A2, c2, hs', L2, d2, C2, e2⟩ ⟨WS, rnL N P R N.l.length, rnC N P 0⟩ bo := hF
          have O3 := Lib.hid hO3; have F3 := Lib.hid hF3; have P3 := Lib.hid hbo; have B3 := Lib.hid hB
          obtain ⟨y0, y1, y2⟩ := HKF.out _ hB
          have HLNN : Hid ((rnL N P R N.l.length).length = N.l.length) := Lib.hid (rnL_len _ _ _ _)
          clear hO hF hbo hB hO3 hF3
          obtain ⟨LX, hLX⟩ : ∃ x, rnL N P R N.l.length = x := ⟨_, rfl⟩
          rw [hLX] at O3 F3 HLNN
          have HLX := Lib.hid hLX
          clear hLX
          go_wp2
          clear y0 y1 y2
          go_loopw [11] (fun i wx => ∃ k : Nat, k ≤ N.c.length ∧ i = .int .i64 k ∧ RnSt w0 wx bo ⟨A2, c2, hs', L2, d2, C2, e2⟩ ⟨WS, LX, rnC N P k⟩ (.slice A2 N.w.length c2) (.slice L2 N.l.length d2) (.slice C2 N.c.length e2)) (fun i _ => N.c.length - (intOf i).toNat)
          case atStart => exact ⟨0, Nat.zero_le _, rfl, ⟨O3.out, F3.out, P3.out, B3.out⟩⟩
          case round =>
            obtain ⟨k, hk, rfl, ⟨hO, hF, hbo, hB⟩⟩ := hrel
            clear O3 F3 P3 B3 hsb
            have hsb : bo < wr.heap.size := by
              by_cases e : bo < wr.heap.size
              · exact e
              · rw [Array.getElem?_eq_none (by omega)] at hbo; cases hbo
            by_cases hlt : k < N.c.length
            · have hb := HB0.out.trans (hB.mono HB0.out.size)
              have hs00 := HB0.out.size
              have hs01 := hB.size
              obtain ⟨bc, offc, hC, hbc, hcc⟩ := HR1.out.2.2.2 (by omega)
              have cc := (hb.cell (p := ⟨bc, offc + k, none⟩) hbc).trans (hcc k hlt)
              have hcw := HCW.out k hlt
              have HST := rnC_step N P k
              obtain ⟨z, hz⟩ : ∃ z, N.c.getD k 0 = z := ⟨_, rfl⟩
              rw [hz] at cc hcw HST
              obtain ⟨_, hic, ez⟩ := inW_yes hcw
              obtain ⟨bp, offp, rfl, hbp, hcp⟩ := HRP.out.2 (by omega)
              have cp := (hb.cell (p := ⟨bp, offp + z.toNat, none⟩) hbp).trans (hcp z.toNat (by omega))
              obtain ⟨pv, hpv⟩ : ∃ v, P.getD z.toNat 0 = v := ⟨_, rfl⟩
              rw [hpv] at cp HST
              generalize z.toNat = ic at *
              subst ez
              have hicp : ic < P.length := by omega
              have hlen := rnC_len N P k
              obtain ⟨g, cap, hgv, hglo, hglt⟩ := hO.c.form (show 0 < (rnC N P k).length by omega)
              obtain ⟨rfl, rfl⟩ : C2 = some ⟨g, 0, none⟩ ∧ e2 = cap := by injection hgv with a b c'; exact ⟨a, c'⟩
              have hgb : g ≠ bo := fun e => hF.c (by show (Value.slice (some ⟨g, 0, none⟩) _ _).ownBlock = _; rw [e]; rfl)
              have hkc : k < (rnC N P k).length := by omega
              have kg := hO.c.cellAt (g := g) k (by show k < (rnC N P k).length * 1; omega)
              obtain ⟨dg, eg⟩ : ∃ x, wr.cell? ⟨g, k, none⟩ = some x := ⟨_, kg.trans (List.getElem?_eq_getElem (by rw [List.length_map]; exact hkc))⟩
              have fg := hO.c.frozenAt (g := g) k
              obtain ⟨o5, far5⟩ := hO.storeC (g := g) (k := k) (x := pv) rfl
              obtain ⟨y0, y1, y2⟩ := HKF.out _ hB
              rw [hC] at y2
              have kb := cell_of_row _ _ 2 _ _ (0, 0) hbo
              have K0 : Hid (wr.cell? ⟨bo, 2, none⟩ = some (.slice (some ⟨g, 0, none⟩) N.c.length e2) ∧ wr.cell? ⟨w.heap.size, 2, none⟩ = some (.slice (some ⟨bc, offc, none⟩) N.c.length h.e) ∧ wr.cell? ⟨bc, offc + k, none⟩ = some (.int .i64 (ic : Nat)) ∧ wr.cell? ⟨bp, offp + ic, none⟩ = some (.int .i64 pv)) := Lib.hid ⟨kb, y2, cc, cp⟩
              have K5 : Hid ((wr.setCell ⟨g, k, none⟩ (.int .i64 pv)).cell? ⟨bo, 2, none⟩ = some (.slice (some ⟨g, 0, none⟩) N.c.length e2) ∧ (wr.setCell ⟨g, k, none⟩ (.int .i64 pv)).cell? ⟨w.heap.size, 2, none⟩ = some (.slice (some ⟨bc, offc, none⟩) N.c.length h.e) ∧ (wr.setCell ⟨g, k, none⟩ (.int .i64 pv)).cell? ⟨bc, offc + k, none⟩ = some (.int .i64 (ic : Nat)) ∧ (wr.setCell ⟨g, k, none⟩ (.int .i64 pv)).cell? ⟨bp, offp + ic, none⟩ = some (.int .i64 pv)) := Lib.hid ⟨(World.cell?_setCell_far _ _ _ _ (by exact hgb)).trans kb, (World.cell?_setCell_far _ _ _ _ (by show g ≠ w.heap.size; omega)).trans y2, (World.cell?_setCell_far _ _ _ _ (by show g ≠ bc; omega)).trans cc, (World.cell?_setCell_far _ _ _ _ (by show g ≠ bp; omega)).trans cp⟩
              have p5 : (wr.setCell ⟨g, k, none⟩ (.int .i64 pv)).heap[bo]? = _ := (Below.heap_setCell _ _ _ _ (fun e => hgb e.symm)).trans hbo
              have b5 := hB.setCell (p := ⟨g, k, none⟩) hglo (.int .i64 pv)
              have s5 : (wr.setCell ⟨g, k, none⟩ (.int .i64 pv)).heap.size = wr.heap.size := by simp
              rw [← s5, ← HST] at o5
              have far6 := far5 bo hF
              rw [← HST] at far6
              have R5 := Lib.hid (show RnSt w0 (wr.setCell ⟨g, k, none⟩ (.int .i64 pv)) bo ⟨A2, c2, hs', L2, d2, some ⟨g, 0, none⟩, e2⟩ ⟨WS, LX, rnC N P (k + 1)⟩ (.slice A2 N.w.length c2) (.slice L2 N.l.length d2) (.slice (some ⟨g, 0, none⟩) N.c.length e2) from ⟨o5, far6, p5, b5⟩)
              clear hO hF hbo hB o5 far5 far6 p5 b5 s5 kb cc cp kg hcp hcc hcw hz hpv hgv hlen hb HST hC y0 y1
              go_wp2_with (fail)
              go_region_held3 (fun wx => wx.cell? ⟨bo, 2, none⟩ = some (.slice (some ⟨g, 0, none⟩) N.c.length e2) ∧ wx.cell? ⟨w.heap.size, 2, none⟩ = some (.slice (some ⟨bc, offc, none⟩) N.c.length h.e) ∧ wx.cell? ⟨bc, offc + k, none⟩ = some (.int .i64 (ic : Nat)) ∧ wx.cell? ⟨bp, offp + ic, none⟩ = some (.int .i64 pv)) (first | exact K0.out | exact K5.out) (first | fail)
              all_goals
                go_wp2
                go_roundw
                case rel => first | exact ⟨k + 1, by omega, by go_num, R5.out⟩ | exact ⟨k + 1, by omega, by go_num, R5.out.drew⟩
                case measure => simp [intOf]; omega
            · have hkl : k = N.c.length := by omega
              subst hkl
              obtain ⟨k0, k1, k2⟩ := three_cells hbo
              have q1 := HKR.out _ hB
              obtain ⟨a0, a1, a2⟩ := three_cells q1
              have f0 := frozen_of_row _ _ 0 _ _ q1; have f1 := frozen_of_row _ _ 1 _ _ q1; have f2 := frozen_of_row _ _ 2 _ _ q1
              obtain ⟨y0, y1, y2⟩ := HKF.out _ hB
              have Q1 := Lib.hid q1
              have hE : (⟨WS, LX, rnC N P N.c.length⟩ : Nt) = rnN N P R := by rw [← HWS.out, ← HLX.out]; rfl
              rw [hE] at hO
              have HO := Lib.hid hO; have HB := Lib.hid hB
              have HL1 : Hid ((rnN N P R).w.length = N.w.length) := Lib.hid (rnW_len _ _ _)
              have HL2 : Hid ((rnN N P R).l.length = N.l.length) := Lib.hid (rnL_len _ _ _ _)
              have HL3 : Hid ((rnN N P R).c.length = N.c.length) := Lib.hid (rnC_len _ _ _)
              clear hO hF hbo hB q1 hE
              go_wp2
              (try simp only [Exit.inBlock, Exit.then])
              refine bodyPost_ret (results_cell_row rfl _ _ (w.heap.size + 1) _ _ (0, 0) _ rfl (set3_at Q1.out _ _ _) Tryd.underlying28 rfl (by kernel_rfl)) rfl ?_
              exact own_done2 HB0.out HB.out HO.out hs0 HL1.out HL2.out HL3.out
end Go.Proofs.YtjfhbofgnagfaaaDoor
