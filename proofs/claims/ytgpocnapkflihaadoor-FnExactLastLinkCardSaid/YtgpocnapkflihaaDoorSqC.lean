/- The program's terminal links: isTerminal, TerminalLinks. -/
import Derived.Test.YtgpocnapkflihaaDoorSqB
import Derived.Test.YtgpocnapkflihaaDoorSqN
import Derived.Deep.RegionHeldLaw
import Derived.Deep.DeepCutAuto
import Derived.BigQuiet
namespace Go.Proofs.YtgpocnapkflihaaDoor
set_option linter.unusedSimpArgs false
set_option linter.unusedVariables false
open Go.ChangeAt Go.ChangeShapes Go.RowKit Go.WideShapes

set_option maxHeartbeats 500000 in
theorem isTm1_any (bx : Nat) (h : NH) (N : Nt) (x : Int) (w : World) (y2 : w.cell? ⟨bx, 2, none⟩ = some (.slice h.C N.c.length h.e)) (r : RdI w w.heap.size h.C N.c.length N.c) (hc : N.c.length ≤ 1048576) :
    Calls Tryd.prog 65 #[.int .i64 x, .pointer (some ⟨bx, 0, none⟩)] w fun e w' => e = .returned (.bool (!N.c.contains x)) ∧ Below w.heap.size w w' := by
  have HC := Lib.hid (containsI_any h.C N.c.length h.e N.c x w r hc)
  have HE : Hid ((!decide (x ∈ N.c)) = !N.c.contains x) := Lib.hid (by
    congr 1
    rw [Bool.eq_iff_iff, decide_eq_true_eq, List.contains_iff_mem])
  clear r
  generalize decide (x ∈ N.c) = b at *
  go_enter Tryd.func65, Tryd.ntmps65
  go_wp2_with (fail)
  refine HC.out.mono ?_
  rintro e w1 ⟨rfl, rfl⟩
  go_wp2
  go_ret
  exact ⟨ret_bool HE.out, Below.refl _ _⟩
set_option maxRecDepth 100000 in
set_option maxHeartbeats 500000 in
theorem containsTm_any (bx : Nat) (d : Int → Bool) (A : Option Addr) (c : Nat) (xs : List Int) (w : World) (r : RdI w w.heap.size A xs.length xs) (hl : xs.length ≤ 1048576)
    (hd : ∀ wx, Below w.heap.size w wx → ∀ x ∈ xs, Calls Tryd.prog 65 #[.int .i64 x, .pointer (some ⟨bx, 0, none⟩)] wx fun e w' => e = .returned (.bool (d x)) ∧ Below wx.heap.size wx w') :
    Calls Tryd.prog 67 #[.slice A xs.length c, .func (.func 65) #[] #[.pointer (some ⟨bx, 0, none⟩)]] w fun e w' => e = .returned (.bool (xs.any d)) ∧ Below w.heap.size w w' := by
  have HI := Lib.hid (indexIsTm_any bx d A c xs w r hl hd)
  clear hd r
  go_enter Tryd.func67, Tryd.ntmps67
  go_wp2_with (fail)
  refine HI.out.mono ?_
  rintro e w1 ⟨hcase, bel⟩
  have B1 := Lib.hid bel
  clear bel
  rcases hcase with ⟨rfl, hall⟩ | ⟨k, rfl, hk, hall, hdk⟩
  · have HE : Hid (false = xs.any d) := Lib.hid (by
      symm
      rw [List.any_eq_false]
      intro x hx
      obtain ⟨m, hm, e⟩ := List.getElem_of_mem hx
      have := hall m hm
      rw [show xs.getD m 0 = x by simp [List.getD, hm, e]] at this
      rw [this]; decide)
    clear hall
    go_wp2
    go_ret
    exact ⟨ret_bool HE.out, B1.out⟩
  · have HE : Hid (true = xs.any d) := Lib.hid (by
      symm
      rw [List.any_eq_true]
      exact ⟨_, getL_mem (d := (0 : Int)) hk, hdk⟩)
    have d1 : decide (0 ≤ (k : Int)) = true := by simp
    clear hall hdk
    go_wp2
    go_ret
    exact ⟨ret_bool HE.out, B1.out⟩
set_option maxRecDepth 100000 in
set_option maxHeartbeats 500000 in
theorem isTerminal_any (h : NH) (N : Nt) (l : Lk) (w : World) (r : RdN w w.heap.size h N) (hc : N.c.length ≤ 1048576) :
    Calls Tryd.prog 38 #[.agg #[.slice h.A N.w.length h.c, .slice h.L N.l.length h.d, .slice h.C N.c.length h.e], .agg #[.int .i64 l.k, .int .i64 l.a, .int .i64 l.b, .int .i64 l.c]] w fun e w' => e = .returned (.bool ((outL l).all fun x => N.c.contains x)) ∧ Below w.heap.size w w' := by
  have hmf : ∀ (fn : Fn) (first cap : Array Value) (w : World), (Instr.makeFunc fn first cap).run Tryd.prog w = .ok (.func fn first cap) w := fun _ _ _ _ => rfl
  obtain ⟨w1, hw1⟩ : ∃ w1, w1 = w.alloc (.cells #[.slice h.A N.w.length h.c, .slice h.L N.l.length h.d, .slice h.C N.c.length h.e] 31) := ⟨_, rfl⟩
  obtain ⟨hb, hh, hsz⟩ := box3_any w (.slice h.A N.w.length h.c) (.slice h.L N.l.length h.d) (.slice h.C N.c.length h.e) 31
  rw [← hw1] at hb hh hsz
  obtain ⟨bl, z0, z1, z2, z3, zs⟩ := lnk_any w1 l 54
  obtain ⟨w0, hw0⟩ : ∃ w0, w0 = w1.alloc (.cells #[.int .i64 l.k, .int .i64 l.a, .int .i64 l.b, .int .i64 l.c] 54) := ⟨_, rfl⟩
  rw [← hw0] at bl z0 z1 z2 z3 zs
  have hbb := hb.trans (bl.mono hb.size)
  have HK : Hid (∀ w', Below w0.heap.size w0 w' → w'.cell? ⟨w.heap.size, 2, none⟩ = some (.slice h.C N.c.length h.e)) := Lib.hid fun w' hw => (three_cells ((hw.block _ (by omega)).trans ((bl.block _ (by omega)).trans hh))).2.2
  have HR := Lib.hid (fun (wx : World) (hx : Below w0.heap.size w0 wx) => show RdI wx wx.heap.size h.C N.c.length N.c from (r.2.2.below (hbb.trans (hx.mono hbb.size))).more (Nat.le_trans hbb.size hx.size))
  have HB0 := Lib.hid hbb
  have HO := Lib.hid (outputsOf_any l w0)
  have HE : Hid ((!(outL l).any fun x => !N.c.contains x) = (outL l).all fun x => N.c.contains x) := Lib.hid (by
    generalize outL l = X
    induction X with
    | nil => rfl
    | cons x X ih => simp only [List.any_cons, List.all_cons, ← ih]; cases N.c.contains x <;> simp)
  have hol := outL_len l
  have HW1 := Lib.hid hw1
  have HW0 := Lib.hid hw0
  clear hb hh bl zs r hbb
  rw [hsz] at z0 z1 z2 z3
  have HSZ := Lib.hid hsz
  clear hsz
  obtain ⟨k, a, b, c⟩ := l
  dsimp only at z0 z1 z2 z3
  go_enter Tryd.func38, Tryd.ntmps38
  go_upto_region 1 with (fail)
  rw [← HW1.out, ← HW0.out]
  clear hw1 hw0
  (try rw [HSZ.out])
  go_wp2_with (fail)
  refine HO.out.mono ?_
  rintro e w2 ⟨A2, c2, rfl, own2, bel2⟩
  have B2 := Lib.hid bel2
  have HCF := Lib.hid (containsTm_any w.heap.size (fun x => !N.c.contains x) A2 c2 (outL ⟨k, a, b, c⟩) w2 (RdI.of_own own2) (by omega) fun wx hx x _ => isTm1_any w.heap.size h N x wx (HK.out wx (B2.out.trans (hx.mono B2.out.size))) (HR.out wx (B2.out.trans (hx.mono B2.out.size))) hc)
  clear own2 bel2 z0 z1 z2 z3
  generalize (outL ⟨k, a, b, c⟩).length = q at *
  generalize ((outL ⟨k, a, b, c⟩).any fun x => !N.c.contains x) = p at *
  go_wp2_with (fail)
  refine HCF.out.mono ?_
  rintro e w3 ⟨rfl, bel3⟩
  have B3 := Lib.hid (HB0.out.trans ((B2.out.trans (bel3.mono B2.out.size)).mono HB0.out.size))
  clear bel3
  go_wp2
  go_ret
  exact ⟨ret_bool HE.out, B3.out⟩
set_option maxRecDepth 100000 in
set_option maxHeartbeats 500000 in
theorem tmL1_any (bx : Nat) (h : NH) (N : Nt) (x : Int) (w : World) (y : w.heap[bx]? = some (.cells #[.slice h.A N.w.length h.c, .slice h.L N.l.length h.d, .slice h.C N.c.length h.e] 31 (0, 0))) (r : RdN w w.heap.size h N) (hc : N.c.length ≤ 1048576) (hx : inW N.l.length x = true) :
    Calls Tryd.prog 37 #[.int .i64 x, .pointer (some ⟨bx, 0, none⟩)] w fun e w' => e = .returned (.bool (!tmB N x.toNat)) ∧ Below w.heap.size w w' := by
  obtain ⟨hx0, hx1, hx2⟩ := inW_yes hx
  obtain ⟨b, off, hLe, hbb, hcells⟩ := r.2.1.at (by omega)
  obtain ⟨l0, l1, l2, l3⟩ := hcells x.toNat hx1
  have HT := Lib.hid (fun (wx : World) (hb : Below w.heap.size w wx) => isTerminal_any h N (N.l.getD x.toNat Lk.nil) wx ((r.below hb).more hb.size) hc)
  have hTm : ((outL (N.l.getD x.toNat Lk.nil)).all fun x => N.c.contains x) = tmB N x.toNat := rfl
  rw [hTm] at HT
  have hbl : bx < w.heap.size := (Array.getElem?_eq_some_iff.1 y).1
  have HS : Hid (∀ wx, Below w.heap.size w wx → wx.cell? ⟨bx, 0, none⟩ = some (.slice h.A N.w.length h.c) ∧ wx.cell? ⟨bx, 1, none⟩ = some (.slice h.L N.l.length h.d) ∧ wx.cell? ⟨bx, 2, none⟩ = some (.slice h.C N.c.length h.e) ∧ wx.cell? ⟨b, off + x.toNat * 4, none⟩ = some (.int .i64 (N.l.getD x.toNat Lk.nil).k) ∧ wx.cell? ⟨b, off + x.toNat * 4 + 1, none⟩ = some (.int .i64 (N.l.getD x.toNat Lk.nil).a) ∧ wx.cell? ⟨b, off + x.toNat * 4 + 2, none⟩ = some (.int .i64 (N.l.getD x.toNat Lk.nil).b) ∧ wx.cell? ⟨b, off + x.toNat * 4 + 3, none⟩ = some (.int .i64 (N.l.getD x.toNat Lk.nil).c)) := Lib.hid fun wx hb => by
    obtain ⟨a0, a1, a2⟩ := three_cells ((hb.block _ hbl).trans y)
    exact ⟨a0, a1, a2, (hb.cell hbb).trans l0, (hb.cell hbb).trans l1, (hb.cell hbb).trans l2, (hb.cell hbb).trans l3⟩
  have BD : Hid (Below w.heap.size w w.drew) := Lib.hid ((Below.refl w.heap.size w).drew)
  have K0 := Lib.hid (HS.out _ (Below.refl _ w))
  have K1 := Lib.hid (HS.out _ BD.out)
  clear y r hcells l0 l1 l2 l3 hTm
  generalize (N.l.getD x.toNat Lk.nil) = l at *
  generalize tmB N x.toNat = p at *
  generalize x.toNat = ix at *
  obtain ⟨k, a, bb, c⟩ := l
  dsimp only at HS HT K0 K1
  subst hx2
  rw [hLe] at HS HT K0 K1
  clear hLe
  go_enter Tryd.func37, Tryd.ntmps37
  go_upto_region 1 with (fail)
  go_region_held3 (fun wx => wx.cell? ⟨bx, 0, none⟩ = some (.slice h.A N.w.length h.c) ∧ wx.cell? ⟨bx, 1, none⟩ = some (.slice (some ⟨b, off, none⟩) N.l.length h.d) ∧ wx.cell? ⟨bx, 2, none⟩ = some (.slice h.C N.c.length h.e) ∧ wx.cell? ⟨b, off + ix * 4, none⟩ = some (.int .i64 k) ∧ wx.cell? ⟨b, off + ix * 4 + 1, none⟩ = some (.int .i64 a) ∧ wx.cell? ⟨b, off + ix * 4 + 2, none⟩ = some (.int .i64 bb) ∧ wx.cell? ⟨b, off + ix * 4 + 3, none⟩ = some (.int .i64 c))
    (first | exact K1.out | exact K0.out | exact HS.out _ B1.out)
    (first | (go_at_call 38; refine (HT.out _ BD.out).mono ?_; rintro e w1 ⟨rfl, bel1⟩; have B1 := Lib.hid (BD.out.trans (bel1.mono BD.out.size)); clear bel1))
  go_wp2
  go_ret
  exact ⟨rfl, B1.out⟩
theorem mark_inQ {n : Nat} {x : Int} (hx : x ∈ markL 0 n) : inW n x = true := by
  unfold markL at hx
  obtain ⟨i, hi, rfl⟩ := List.mem_map.1 hx
  have := List.mem_range.1 hi
  exact decide_eq_true (by omega)
/-- The answers. -/
def tmV (N : Nt) : List Int := if valN N = true then tmL N else []
def tpV (N : Nt) : List Int := if valN N = true then tpL N else []
set_option maxRecDepth 100000 in
set_option maxHeartbeats 500000 in
theorem terminal_impl (h : NH) (N : Nt) (w : World) (r : RdN w w.heap.size h N) (sm : SmallN N) (ht : Arit w) (hu : Dual w) :
    Calls Tryd.prog 13 #[.agg #[.slice h.A N.w.length h.c, .slice h.L N.l.length h.d, .slice h.C N.c.length h.e]] w (Gives w (tmV N)) := by
  have hmf : ∀ (fn : Fn) (first cap : Array Value) (w : World), (Instr.makeFunc fn first cap).run Tryd.prog w = .ok (.func fn first cap) w := fun _ _ _ _ => rfl
  obtain ⟨w0, hw0⟩ : ∃ w0, w0 = w.alloc (.cells #[.slice h.A N.w.length h.c, .slice h.L N.l.length h.d, .slice h.C N.c.length h.e] 31) := ⟨_, rfl⟩
  obtain ⟨hb, hh, hsz⟩ := box3_any w (.slice h.A N.w.length h.c) (.slice h.L N.l.length h.d) (.slice h.C N.c.length h.e) 31
  rw [← hw0] at hb hh hsz
  have HKB := Lib.hid (fun (wx : World) (hw : Below w0.heap.size w0 wx) => (hw.block w.heap.size (by omega)).trans hh)
  have HV := Lib.hid (validNet_impl h N w0 ((r.below hb).more hb.size) sm (ht.below hb ht.lt) (hu.below hb hu.lt))
  have HR := Lib.hid (fun (wx : World) (hx : Below w0.heap.size w0 wx) => show RdN wx wx.heap.size h N from (r.below (hb.trans (hx.mono hb.size))).more (Nat.le_trans hb.size hx.size))
  have HB0 := Lib.hid hb
  have hc := sm.c
  obtain ⟨y0, y1, y2⟩ := three_cells hh
  clear hb hh hsz r ht hu sm
  cases hv : valN N with
  | false =>
    rw [hv] at HV
    have HVV := Lib.hid hv
    clear hv
    go_enter Tryd.func13, Tryd.ntmps13
    go_wp2_with (fail)
    rw [← hw0]
    clear hw0
    refine HV.out.mono ?_
    rintro e w1 ⟨rfl, bel1⟩
    have HB1 := Lib.hid (HB0.out.trans (bel1.mono HB0.out.size))
    clear bel1 y0 y1 y2
    have HG : Hid (Gives w (tmV N) (.returned (.slice none 0 0)) w1) := Lib.hid (by
      rw [show tmV N = [] from if_neg (by rw [HVV.out]; decide)]
      exact ⟨none, 0, rfl, World.ownsRow_nil _ _ _ _, HB1.out⟩)
    go_wp2
    go_ret
    exact HG.out
  | true =>
    rw [hv] at HV
    have HVV := Lib.hid hv
    have h48 := (valN_size hv).2
    have HNF := Lib.hid (fun (wx : World) => numbersFrom_any 0 N.l.length wx (by omega) (by omega))
    have HFIL : Hid (kpI (fun x => !tmB N x.toNat) (markL 0 N.l.length) (markL 0 N.l.length).length = tmL N) := Lib.hid (by
      rw [kpI_end]
      simp only [Bool.not_not]
      rw [selU_mark]
      exact selU_ext fun j _ => by rw [Int.toNat_natCast])
    have HVS : Hid (tmV N = tmL N) := Lib.hid (if_pos hv)
    clear hv
    go_enter Tryd.func13, Tryd.ntmps13
    go_wp2_with (fail)
    rw [← hw0]
    clear hw0
    refine HV.out.mono ?_
    rintro e w1 ⟨rfl, bel1⟩
    have B1 := Lib.hid bel1
    clear bel1 y0 y1 y2
    obtain ⟨y0, y1, y2⟩ := three_cells (HKB.out _ B1.out)
    have hmk : (markL 0 N.l.length).length = N.l.length := markL_len _ _
    go_wp2_with (fail)
    refine (HNF.out w1).mono ?_
    rintro e w2 ⟨A2, c2, rfl, own2, bel2⟩
    have B2 := Lib.hid (B1.out.trans (bel2.mono B1.out.size))
    have O2 := Lib.hid own2
    have HD := Lib.hid (delTmL_any w.heap.size (fun x => !tmB N x.toNat) A2 c2 (markL 0 N.l.length) w2 w1.heap.size own2 (by omega) (fun wx hx x hm => by
      have hB := B2.out.grown hx B2.out.size fun q hq => Nat.le_trans B1.out.size (O2.out.lt q hq).1
      exact tmL1_any w.heap.size h N x wx (HKB.out wx hB) (HR.out wx hB) hc (mark_inQ hm)))
    rw [HFIL.out] at HD
    clear own2 bel2 y0 y1 y2 hmk
    generalize (markL 0 N.l.length).length = q at *
    go_wp2_with (fail)
    refine HD.out.mono ?_
    rintro e w3 ⟨A3, c3, rfl, own3, gr3⟩
    have HG : Hid (Gives w (tmV N) (.returned (.slice A3 (tmL N).length c3)) w3) := Lib.hid (by
      rw [HVS.out]
      have hB := B2.out.grown gr3 B2.out.size fun q hq => Nat.le_trans B1.out.size (O2.out.lt q hq).1
      exact ⟨A3, c3, rfl, own3.mono (Nat.le_trans HB0.out.size B1.out.size), HB0.out.trans (hB.mono HB0.out.size)⟩)
    clear own3 gr3
    generalize (tmL N).length = q3 at *
    go_wp2
    go_ret
    exact HG.out
theorem selU_filter (p : Nat → Bool) (q : Int → Bool) (n : Nat) : (selU p n).filter q = selU (fun k => q (k : Int) && p k) n := by
  unfold selU
  rw [List.filter_map, List.filter_filter]
  rfl
set_option maxHeartbeats 500000 in
theorem tpL1_any (bx : Nat) (h : NH) (N : Nt) (x : Int) (w : World) (y1 : w.cell? ⟨bx, 1, none⟩ = some (.slice h.L N.l.length h.d)) (r : RdL w w.heap.size h.L N.l.length N.l) (hx : inW N.l.length x = true) :
    Calls Tryd.prog 75 #[.int .i64 x, .pointer (some ⟨bx, 0, none⟩)] w fun e w' => e = .returned (.bool (!decide ((N.l.getD x.toNat Lk.nil).k = 4))) ∧ Below w.heap.size w w' := by
  obtain ⟨hx0, hx1, hx2⟩ := inW_yes hx
  obtain ⟨b, off, hLe, hbb, hcells⟩ := r.at (by omega)
  have l0 := (hcells x.toNat hx1).1
  clear hcells r
  generalize (N.l.getD x.toNat Lk.nil).k = k at *
  generalize x.toNat = ix at *
  subst hx2
  rw [hLe] at y1
  clear hLe
  go_enter Tryd.func75, Tryd.ntmps75
  go_wp2
  go_ret
  exact ⟨rfl, Below.refl _ _⟩
set_option maxRecDepth 100000 in
set_option maxHeartbeats 500000 in
theorem terminalPars_any (h : NH) (N : Nt) (w : World) (r : RdN w w.heap.size h N) (sm : SmallN N) (ht : Arit w) (hu : Dual w) :
    Calls Tryd.prog 48 #[.agg #[.slice h.A N.w.length h.c, .slice h.L N.l.length h.d, .slice h.C N.c.length h.e]] w (Gives w (tpV N)) := by
  have hmf : ∀ (fn : Fn) (first cap : Array Value) (w : World), (Instr.makeFunc fn first cap).run Tryd.prog w = .ok (.func fn first cap) w := fun _ _ _ _ => rfl
  obtain ⟨w0, hw0⟩ : ∃ w0, w0 = w.alloc (.cells #[.slice h.A N.w.length h.c, .slice h.L N.l.length h.d, .slice h.C N.c.length h.e] 31) := ⟨_, rfl⟩
  obtain ⟨hb, hh, hsz⟩ := box3_any w (.slice h.A N.w.length h.c) (.slice h.L N.l.length h.d) (.slice h.C N.c.length h.e) 31
  rw [← hw0] at hb hh hsz
  have HKB := Lib.hid (fun (wx : World) (hw : Below w0.heap.size w0 wx) => (hw.block w.heap.size (by omega)).trans hh)
  have HT := Lib.hid (terminal_impl h N w0 ((r.below hb).more hb.size) sm (ht.below hb ht.lt) (hu.below hb hu.lt))
  have HR := Lib.hid (fun (wx : World) (hx : Below w0.heap.size w0 wx) => show RdN wx wx.heap.size h N from (r.below (hb.trans (hx.mono hb.size))).more (Nat.le_trans hb.size hx.size))
  have HB0 := Lib.hid hb
  have hl := sm.l
  have HMEM : Hid (∀ x ∈ tmV N, inW N.l.length x = true) := Lib.hid fun x hx => by
    unfold tmV at hx
    cases hv : valN N with
    | false => rw [hv] at hx; cases hx
    | true =>
      rw [if_pos hv] at hx
      obtain ⟨j, h1, _, rfl⟩ := selU_mem.1 hx
      exact decide_eq_true (by omega)
  have HFIL : Hid (kpI (fun x => !decide ((N.l.getD x.toNat Lk.nil).k = 4)) (tmV N) (tmV N).length = tpV N) := Lib.hid (by
    rw [kpI_end]
    simp only [Bool.not_not]
    unfold tmV tpV
    cases hv : valN N with
    | false => rfl
    | true =>
      rw [if_pos rfl, if_pos rfl]
      unfold tmL tpL
      rw [selU_filter]
      exact selU_ext fun j _ => by unfold tpB; rw [Int.toNat_natCast])
  have HTL : Hid ((tmV N).length ≤ 1048576) := Lib.hid (by
    unfold tmV
    have := selU_len (tmB N) N.l.length
    split
    · exact Nat.le_trans this hl
    · simp)
  obtain ⟨y0, y1, y2⟩ := three_cells hh
  clear hb hh hsz r ht hu sm
  go_enter Tryd.func48, Tryd.ntmps48
  go_upto_region 2 with (fail)
  rw [← hw0]
  clear hw0
  go_wp2_with (fail)
  refine HT.out.mono ?_
  rintro e w2 ⟨A2, c2, rfl, own2, bel2⟩
  have B2 := Lib.hid bel2
  have O2 := Lib.hid own2
  have HD := Lib.hid (delTpL_any w.heap.size (fun x => !decide ((N.l.getD x.toNat Lk.nil).k = 4)) A2 c2 (tmV N) w2 w0.heap.size own2 HTL.out (fun wx hx x hm => by
    have hB := B2.out.grown hx B2.out.size fun q hq => (O2.out.lt q hq).1
    exact tpL1_any w.heap.size h N x wx (three_cells (HKB.out wx hB)).2.1 (HR.out wx hB).2.1 (HMEM.out x hm)))
  rw [HFIL.out] at HD
  clear own2 bel2 y0 y1 y2
  generalize (tmV N).length = q at *
  go_wp2_with (fail)
  refine HD.out.mono ?_
  rintro e w3 ⟨A3, c3, rfl, own3, gr3⟩
  have HG : Hid (Gives w (tpV N) (.returned (.slice A3 (tpV N).length c3)) w3) := Lib.hid (by
    have hB := B2.out.grown gr3 B2.out.size fun q hq => (O2.out.lt q hq).1
    exact ⟨A3, c3, rfl, own3.mono HB0.out.size, HB0.out.trans (hB.mono HB0.out.size)⟩)
  clear own3 gr3
  generalize (tpV N).length = q3 at *
  go_wp2
  go_ret
  exact HG.out
end Go.Proofs.YtgpocnapkflihaaDoor
