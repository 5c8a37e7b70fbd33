/- The program's terminal links: isTerminal, TerminalLinks. The model: terminal links. -/
import Derived.Test.YtgpocnapkflihaaGreatDoorSqB
import Derived.Test.YtgpocnapkflihaaGreatDoorSqN
import Derived.Deep.RegionHeldLaw
import Derived.Deep.DeepCutAuto
import Derived.BigQuiet
import Derived.Test.YtgpocnapkflihaaGreatDoorSmF
namespace Go.Proofs.YtgpocnapkflihaaGreatDoor
set_option linter.unusedSimpArgs false
set_option linter.unusedVariables false
open Go.ChangeAt Go.ChangeShapes Go.RowKit Go.WideShapes

set_option maxHeartbeats 500000 in
theorem isTm1_any (bx : Nat) (h : NH) (N : Nt) (x : Int) (w : World) (y2 : w.cell? ⟨bx, 2, none⟩ = some (.slice h.C N.c.length h.e)) (r : RdI w w.heap.size h.C N.c.length N.c) (hc : N.c.length ≤ 1048576) :
    Calls Tryz.prog 101 #[.int .i64 x, .pointer (some ⟨bx, 0, none⟩)] w fun e w' => e = .returned (.bool (!N.c.contains x)) ∧ Below w.heap.size w w' := by
  have HC := Lib.hid (containsI_any h.C N.c.length h.e N.c x w r hc)
  have HE : Hid ((!decide (x ∈ N.c)) = !N.c.contains x) := Lib.hid (by
    congr 1
    rw [Bool.eq_iff_iff, decide_eq_true_eq, List.contains_iff_mem])
  clear r
  generalize decide (x ∈ N.c) = b at *
  go_enter Tryz.func101, Tryz.ntmps101
  go_wp2_with (fail)
  refine HC.out.mono ?_
  rintro e w1 ⟨rfl, rfl⟩
  go_wp2
  go_ret
  exact ⟨ret_bool HE.out, Below.refl _ _⟩
set_option maxRecDepth 100000 in
set_option maxHeartbeats 500000 in
theorem containsTm_any (bx : Nat) (d : Int → Bool) (A : Option Addr) (c : Nat) (xs : List Int) (w : World) (r : RdI w w.heap.size A xs.length xs) (hl : xs.length ≤ 1048576)
    (hd : ∀ wx, Below w.heap.size w wx → ∀ x ∈ xs, Calls Tryz.prog 101 #[.int .i64 x, .pointer (some ⟨bx, 0, none⟩)] wx fun e w' => e = .returned (.bool (d x)) ∧ Below wx.heap.size wx w') :
    Calls Tryz.prog 102 #[.slice A xs.length c, .func (.func 101) #[] #[.pointer (some ⟨bx, 0, none⟩)]] w fun e w' => e = .returned (.bool (xs.any d)) ∧ Below w.heap.size w w' := by
  have HI := Lib.hid (indexIsTm_any bx d A c xs w r hl hd)
  clear hd r
  go_enter Tryz.func102, Tryz.ntmps102
  go_wp2_with (fail)
  refine HI.out.mono ?_
  rintro e w1 ⟨hcase, bel⟩
  have B1 := Lib.hid bel
  clear bel
  rcases hcase with ⟨rfl, hall⟩ | ⟨k, rfl, hk, hall, hdk⟩
  · have HE : Hid (false = xs.any d) := Lib.hid (by
      symm
      rw [List.any_eq_false]
      intro x hx
      obtain ⟨m, hm, e⟩ := List.getElem_of_mem hx
      have := hall m hm
      rw [show xs.getD m 0 = x by simp [List.getD, hm, e]] at this
      rw [this]; decide)
    clear hall
    go_wp2
    go_ret
    exact ⟨ret_bool HE.out, B1.out⟩
  · have HE : Hid (true = xs.any d) := Lib.hid (by
      symm
      rw [List.any_eq_true]
      exact ⟨_, getL_mem (d := (0 : Int)) hk, hdk⟩)
    have d1 : decide (0 ≤ (k : Int)) = true := by simp
    clear hall hdk
    go_wp2
    go_ret
    exact ⟨ret_bool HE.out, B1.out⟩
set_option maxRecDepth 100000 in
set_option maxHeartbeats 500000 in
theorem isTerminal_any (h : NH) (N : Nt) (l : Lk) (w : World) (r : RdN w w.heap.size h N) (hc : N.c.length ≤ 1048576) :
    Calls Tryz.prog 86 #[.agg #[.slice h.A N.w.length h.c, .slice h.L N.l.length h.d, .slice h.C N.c.length h.e], .agg #[.int .i64 l.k, .int .i64 l.a, .int .i64 l.b, .int .i64 l.c]] w fun e w' => e = .returned (.bool ((outL l).all fun x => N.c.contains x)) ∧ Below w.heap.size w w' := by
  have hmf : ∀ (fn : Fn) (first cap : Array Value) (w : World), (Instr.makeFunc fn first cap).run Tryz.prog w = .ok (.func fn first cap) w := fun _ _ _ _ => rfl
  obtain ⟨w1, hw1⟩ : ∃ w1, w1 = w.alloc (.cells #[.slice h.A N.w.length h.c, .slice h.L N.l.length h.d, .slice h.C N.c.length h.e] 30) := ⟨_, rfl⟩
  obtain ⟨hb, hh, hsz⟩ := box3_any w (.slice h.A N.w.length h.c) (.slice h.L N.l.length h.d) (.slice h.C N.c.length h.e) 30
  rw [← hw1] at hb hh hsz
  obtain ⟨bl, z0, z1, z2, z3, zs⟩ := lnk_any w1 l 54
  obtain ⟨w0, hw0⟩ : ∃ w0, w0 = w1.alloc (.cells #[.int .i64 l.k, .int .i64 l.a, .int .i64 l.b, .int .i64 l.c] 54) := ⟨_, rfl⟩
  rw [← hw0] at bl z0 z1 z2 z3 zs
  have hbb := hb.trans (bl.mono hb.size)
  have HK : Hid (∀ w', Below w0.heap.size w0 w' → w'.cell? ⟨w.heap.size, 2, none⟩ = some (.slice h.C N.c.length h.e)) := Lib.hid fun w' hw => (three_cells ((hw.block _ (by omega)).trans ((bl.block _ (by omega)).trans hh))).2.2
  have HR := Lib.hid (fun (wx : World) (hx : Below w0.heap.size w0 wx) => show RdI wx wx.heap.size h.C N.c.length N.c from (r.2.2.below (hbb.trans (hx.mono hbb.size))).more (Nat.le_trans hbb.size hx.size))
  have HB0 := Lib.hid hbb
  have HO := Lib.hid (outputsOf_any l w0)
  have HE : Hid ((!(outL l).any fun x => !N.c.contains x) = (outL l).all fun x => N.c.contains x) := Lib.hid (by
    generalize outL l = X
    induction X with
    | nil => rfl
    | cons x X ih => simp only [List.any_cons, List.all_cons, ← ih]; cases N.c.contains x <;> simp)
  have hol := outL_len l
  have HW1 := Lib.hid hw1
  have HW0 := Lib.hid hw0
  clear hb hh bl zs r hbb
  rw [hsz] at z0 z1 z2 z3
  have HSZ := Lib.hid hsz
  clear hsz
  obtain ⟨k, a, b, c⟩ := l
  dsimp only at z0 z1 z2 z3
  go_enter Tryz.func86, Tryz.ntmps86
  go_upto_region 1 with (fail)
  rw [← HW1.out, ← HW0.out]
  clear hw1 hw0
  (try rw [HSZ.out])
  go_wp2_with (fail)
  refine HO.out.mono ?_
  rintro e w2 ⟨A2, c2, rfl, own2, bel2⟩
  have B2 := Lib.hid bel2
  have HCF := Lib.hid (containsTm_any w.heap.size (fun x => !N.c.contains x) A2 c2 (outL ⟨k, a, b, c⟩) w2 (RdI.of_own own2) (by omega) fun wx hx x _ => isTm1_any w.heap.size h N x wx (HK.out wx (B2.out.trans (hx.mono B2.out.size))) (HR.out wx (B2.out.trans (hx.mono B2.out.size))) hc)
  clear own2 bel2 z0 z1 z2 z3
  generalize (outL ⟨k, a, b, c⟩).length = q at *
  generalize ((outL ⟨k, a, b, c⟩).any fun x => !N.c.contains x) = p at *
  go_wp2_with (fail)
  refine HCF.out.mono ?_
  rintro e w3 ⟨rfl, bel3⟩
  have B3 := Lib.hid (HB0.out.trans ((B2.out.trans (bel3.mono B2.out.size)).mono HB0.out.size))
  clear bel3
  go_wp2
  go_ret
  exact ⟨ret_bool HE.out, B3.out⟩
set_option maxRecDepth 100000 in
set_option maxHeartbeats 500000 in
theorem tmL1_any (bx : Nat) (h : NH) (N : Nt) (x : Int) (w : World) (y : w.heap[bx]? = some (.cells #[.slice h.A N.w.length h.c, .slice h.L N.l.length h.d, .slice h.C N.c.length h.e] 30 (0, 0))) (r : RdN w w.heap.size h N) (hc : N.c.length ≤ 1048576) (hx : inW N.l.length x = true) :
    Calls Tryz.prog 85 #[.int .i64 x, .pointer (some ⟨bx, 0, none⟩)] w fun e w' => e = .returned (.bool (!tmB N x.toNat)) ∧ Below w.heap.size w w' := by
  obtain ⟨hx0, hx1, hx2⟩ := inW_yes hx
  obtain ⟨b, off, hLe, hbb, hcells⟩ := r.2.1.at (by omega)
  obtain ⟨l0, l1, l2, l3⟩ := hcells x.toNat hx1
  have HT := Lib.hid (fun (wx : World) (hb : Below w.heap.size w wx) => isTerminal_any h N (N.l.getD x.toNat Lk.nil) wx ((r.below hb).more hb.size) hc)
  have hTm : ((outL (N.l.getD x.toNat Lk.nil)).all fun x => N.c.contains x) = tmB N x.toNat := rfl
  rw [hTm] at HT
  have hbl : bx < w.heap.size := (Array.getElem?_eq_some_iff.1 y).1
  have HS : Hid (∀ wx, Below w.heap.size w wx → wx.cell? ⟨bx, 0, none⟩ = some (.slice h.A N.w.length h.c) ∧ wx.cell? ⟨bx, 1, none⟩ = some (.slice h.L N.l.length h.d) ∧ wx.cell? ⟨bx, 2, none⟩ = some (.slice h.C N.c.length h.e) ∧ wx.cell? ⟨b, off + x.toNat * 4, none⟩ = some (.int .i64 (N.l.getD x.toNat Lk.nil).k) ∧ wx.cell? ⟨b, off + x.toNat * 4 + 1, none⟩ = some (.int .i64 (N.l.getD x.toNat Lk.nil).a) ∧ wx.cell? ⟨b, off + x.toNat * 4 + 2, none⟩ = some (.int .i64 (N.l.getD x.toNat Lk.nil).b) ∧ wx.cell? ⟨b, off + x.toNat * 4 + 3, none⟩ = some (.int .i64 (N.l.getD x.toNat Lk.nil).c)) := Lib.hid fun wx hb => by
    obtain ⟨a0, a1, a2⟩ := three_cells ((hb.block _ hbl).trans y)
    exact ⟨a0, a1, a2, (hb.cell hbb).trans l0, (hb.cell hbb).trans l1, (hb.cell hbb).trans l2, (hb.cell hbb).trans l3⟩
  have BD : Hid (Below w.heap.size w w.drew) := Lib.hid ((Below.refl w.heap.size w).drew)
  have K0 := Lib.hid (HS.out _ (Below.refl _ w))
  have K1 := Lib.hid (HS.out _ BD.out)
  clear y r hcells l0 l1 l2 l3 hTm
  generalize (N.l.getD x.toNat Lk.nil) = l at *
  generalize tmB N x.toNat = p at *
  generalize x.toNat = ix at *
  obtain ⟨k, a, bb, c⟩ := l
  dsimp only at HS HT K0 K1
  subst hx2
  rw [hLe] at HS HT K0 K1
  clear hLe
  go_enter Tryz.func85, Tryz.ntmps85
  go_upto_region 1 with (fail)
  go_region_held3 (fun wx => wx.cell? ⟨bx, 0, none⟩ = some (.slice h.A N.w.length h.c) ∧ wx.cell? ⟨bx, 1, none⟩ = some (.slice (some ⟨b, off, none⟩) N.l.length h.d) ∧ wx.cell? ⟨bx, 2, none⟩ = some (.slice h.C N.c.length h.e) ∧ wx.cell? ⟨b, off + ix * 4, none⟩ = some (.int .i64 k) ∧ wx.cell? ⟨b, off + ix * 4 + 1, none⟩ = some (.int .i64 a) ∧ wx.cell? ⟨b, off + ix * 4 + 2, none⟩ = some (.int .i64 bb) ∧ wx.cell? ⟨b, off + ix * 4 + 3, none⟩ = some (.int .i64 c))
    (first | exact K1.out | exact K0.out | exact HS.out _ B1.out)
    (first | (go_at_call 86; refine (HT.out _ BD.out).mono ?_; rintro e w1 ⟨rfl, bel1⟩; have B1 := Lib.hid (BD.out.trans (bel1.mono BD.out.size)); clear bel1))
  go_wp2
  go_ret
  exact ⟨rfl, B1.out⟩
theorem mark_inQ {n : Nat} {x : Int} (hx : x ∈ markL 0 n) : inW n x = true := by
  unfold markL at hx
  obtain ⟨i, hi, rfl⟩ := List.mem_map.1 hx
  have := List.mem_range.1 hi
  exact decide_eq_true (by omega)
/-- The answers. -/
def tmV (N : Nt) : List Int := if valN N = true then tmL N else []
def tpV (N : Nt) : List Int := if valN N = true then tpL N else []
set_option maxRecDepth 100000 in
set_option maxHeartbeats 500000 in
theorem terminal_impl (h : NH) (N : Nt) (w : World) (r : RdN w w.heap.size h N) (sm : SmallN N) (ht : Arit w) (hu : Dual w) :
    Calls Tryz.prog 62 #[.agg #[.slice h.A N.w.length h.c, .slice h.L N.l.length h.d, .slice h.C N.c.length h.e]] w (Gives w (tmV N)) := by
  have hmf : ∀ (fn : Fn) (first cap : Array Value) (w : World), (Instr.makeFunc fn first cap).run Tryz.prog w = .ok (.func fn first cap) w := fun _ _ _ _ => rfl
  obtain ⟨w0, hw0⟩ : ∃ w0, w0 = w.alloc (.cells #[.slice h.A N.w.length h.c, .slice h.L N.l.length h.d, .slice h.C N.c.length h.e] 30) := ⟨_, rfl⟩
  obtain ⟨hb, hh, hsz⟩ := box3_any w (.slice h.A N.w.length h.c) (.slice h.L N.l.length h.d) (.slice h.C N.c.length h.e) 30
  rw [← hw0] at hb hh hsz
  have HKB := Lib.hid (fun (wx : World) (hw : Below w0.heap.size w0 wx) => (hw.block w.heap.size (by omega)).trans hh)
  have HV := Lib.hid (validNet_impl h N w0 ((r.below hb).more hb.size) sm (ht.below hb ht.lt) (hu.below hb hu.lt))
  have HR := Lib.hid (fun (wx : World) (hx : Below w0.heap.size w0 wx) => show RdN wx wx.heap.size h N from (r.below (hb.trans (hx.mono hb.size))).more (Nat.le_trans hb.size hx.size))
  have HB0 := Lib.hid hb
  have hc := sm.c
  obtain ⟨y0, y1, y2⟩ := three_cells hh
  clear hb hh hsz r ht hu sm
  cases hv : valN N with
  | false =>
    rw [hv] at HV
    have HVV := Lib.hid hv
    clear hv
    go_enter Tryz.func62, Tryz.ntmps62
    go_wp2_with (fail)
    rw [← hw0]
    clear hw0
    refine HV.out.mono ?_
    rintro e w1 ⟨rfl, bel1⟩
    have HB1 := Lib.hid (HB0.out.trans (bel1.mono HB0.out.size))
    clear bel1 y0 y1 y2
    have HG : Hid (Gives w (tmV N) (.returned (.slice none 0 0)) w1) := Lib.hid (by
      rw [show tmV N = [] from if_neg (by rw [HVV.out]; decide)]
      exact ⟨none, 0, rfl, World.ownsRow_nil _ _ _ _, HB1.out⟩)
    go_wp2
    go_ret
    exact HG.out
  | true =>
    rw [hv] at HV
    have HVV := Lib.hid hv
    have h48 := (valN_size hv).2
    have HNF := Lib.hid (fun (wx : World) => numbersFrom_any 0 N.l.length wx (by omega) (by omega))
    have HFIL : Hid (kpI (fun x => !tmB N x.toNat) (markL 0 N.l.length) (markL 0 N.l.length).length = tmL N) := Lib.hid (by
      rw [kpI_end]
      simp only [Bool.not_not]
      rw [selU_mark]
      exact selU_ext fun j _ => by rw [Int.toNat_natCast])
    have HVS : Hid (tmV N = tmL N) := Lib.hid (if_pos hv)
    clear hv
    go_enter Tryz.func62, Tryz.ntmps62
    go_wp2_with (fail)
    rw [← hw0]
    clear hw0
    refine HV.out.mono ?_
    rintro e w1 ⟨rfl, bel1⟩
    have B1 := Lib.hid bel1
    clear bel1 y0 y1 y2
    obtain ⟨y0, y1, y2⟩ := three_cells (HKB.out _ B1.out)
    have hmk : (markL 0 N.l.length).length = N.l.length := markL_len _ _
    go_wp2_with (fail)
    refine (HNF.out w1).mono ?_
    rintro e w2 ⟨A2, c2, rfl, own2, bel2⟩
    have B2 := Lib.hid (B1.out.trans (bel2.mono B1.out.size))
    have O2 := Lib.hid own2
    have HD := Lib.hid (delTmL_any w.heap.size (fun x => !tmB N x.toNat) A2 c2 (markL 0 N.l.length) w2 w1.heap.size own2 (by omega) (fun wx hx x hm => by
      have hB := B2.out.grown hx B2.out.size fun q hq => Nat.le_trans B1.out.size (O2.out.lt q hq).1
      exact tmL1_any w.heap.size h N x wx (HKB.out wx hB) (HR.out wx hB) hc (mark_inQ hm)))
    rw [HFIL.out] at HD
    clear own2 bel2 y0 y1 y2 hmk
    generalize (markL 0 N.l.length).length = q at *
    go_wp2_with (fail)
    refine HD.out.mono ?_
    rintro e w3 ⟨A3, c3, rfl, own3, gr3⟩
    have HG : Hid (Gives w (tmV N) (.returned (.slice A3 (tmL N).length c3)) w3) := Lib.hid (by
      rw [HVS.out]
      have hB := B2.out.grown gr3 B2.out.size fun q hq => Nat.le_trans B1.out.size (O2.out.lt q hq).1
      exact ⟨A3, c3, rfl, own3.mono (Nat.le_trans HB0.out.size B1.out.size), HB0.out.trans (hB.mono HB0.out.size)⟩)
    clear own3 gr3
    generalize (tmL N).length = q3 at *
    go_wp2
    go_ret
    exact HG.out
theorem selU_filter (p : Nat → Bool) (q : Int → Bool) (n : Nat) : (selU p n).filter q = selU (fun k => q (k : Int) && p k) n := by
  unfold selU
  rw [List.filter_map, List.filter_filter]
  rfl
set_option maxHeartbeats 500000 in
theorem tpL1_any (bx : Nat) (h : NH) (N : Nt) (x : Int) (w : World) (y1 : w.cell? ⟨bx, 1, none⟩ = some (.slice h.L N.l.length h.d)) (r : RdL w w.heap.size h.L N.l.length N.l) (hx : inW N.l.length x = true) :
    Calls Tryz.prog 72 #[.int .i64 x, .pointer (some ⟨bx, 0, none⟩)] w fun e w' => e = .returned (.bool (!decide ((N.l.getD x.toNat Lk.nil).k = 4))) ∧ Below w.heap.size w w' := by
  obtain ⟨hx0, hx1, hx2⟩ := inW_yes hx
  obtain ⟨b, off, hLe, hbb, hcells⟩ := r.at (by omega)
  have l0 := (hcells x.toNat hx1).1
  clear hcells r
  generalize (N.l.getD x.toNat Lk.nil).k = k at *
  generalize x.toNat = ix at *
  subst hx2
  rw [hLe] at y1
  clear hLe
  go_enter Tryz.func72, Tryz.ntmps72
  go_wp2
  go_ret
  exact ⟨rfl, Below.refl _ _⟩
set_option maxRecDepth 100000 in
set_option maxHeartbeats 500000 in
theorem terminalPars_any (h : NH) (N : Nt) (w : World) (r : RdN w w.heap.size h N) (sm : SmallN N) (ht : Arit w) (hu : Dual w) :
    Calls Tryz.prog 42 #[.agg #[.slice h.A N.w.length h.c, .slice h.L N.l.length h.d, .slice h.C N.c.length h.e]] w (Gives w (tpV N)) := by
  have hmf : ∀ (fn : Fn) (first cap : Array Value) (w : World), (Instr.makeFunc fn first cap).run Tryz.prog w = .ok (.func fn first cap) w := fun _ _ _ _ => rfl
  obtain ⟨w0, hw0⟩ : ∃ w0, w0 = w.alloc (.cells #[.slice h.A N.w.length h.c, .slice h.L N.l.length h.d, .slice h.C N.c.length h.e] 30) := ⟨_, rfl⟩
  obtain ⟨hb, hh, hsz⟩ := box3_any w (.slice h.A N.w.length h.c) (.slice h.L N.l.length h.d) (.slice h.C N.c.length h.e) 30
  rw [← hw0] at hb hh hsz
  have HKB := Lib.hid (fun (wx : World) (hw : Below w0.heap.size w0 wx) => (hw.block w.heap.size (by omega)).trans hh)
  have HT := Lib.hid (terminal_impl h N w0 ((r.below hb).more hb.size) sm (ht.below hb ht.lt) (hu.below hb hu.lt))
  have HR := Lib.hid (fun (wx : World) (hx : Below w0.heap.size w0 wx) => show RdN wx wx.heap.size h N from (r.below (hb.trans (hx.mono hb.size))).more (Nat.le_trans hb.size hx.size))
  have HB0 := Lib.hid hb
  have hl := sm.l
  have HMEM : Hid (∀ x ∈ tmV N, inW N.l.length x = true) := Lib.hid fun x hx => by
    unfold tmV at hx
    cases hv : valN N with
    | false => rw [hv] at hx; cases hx
    | true =>
      rw [if_pos hv] at hx
      obtain ⟨j, h1, _, rfl⟩ := selU_mem.1 hx
      exact decide_eq_true (by omega)
  have HFIL : Hid (kpI (fun x => !decide ((N.l.getD x.toNat Lk.nil).k = 4)) (tmV N) (tmV N).length = tpV N) := Lib.hid (by
    rw [kpI_end]
    simp only [Bool.not_not]
    unfold tmV tpV
    cases hv : valN N with
    | false => rfl
    | true =>
      rw [if_pos rfl, if_pos rfl]
      unfold tmL tpL
      rw [selU_filter]
      exact selU_ext fun j _ => by unfold tpB; rw [Int.toNat_natCast])
  have HTL : Hid ((tmV N).length ≤ 1048576) := Lib.hid (by
    unfold tmV
    have := selU_len (tmB N) N.l.length
    split
    · exact Nat.le_trans this hl
    · simp)
  obtain ⟨y0, y1, y2⟩ := three_cells hh
  clear hb hh hsz r ht hu sm
  go_enter Tryz.func42, Tryz.ntmps42
  go_upto_region 2 with (fail)
  rw [← hw0]
  clear hw0
  go_wp2_with (fail)
  refine HT.out.mono ?_
  rintro e w2 ⟨A2, c2, rfl, own2, bel2⟩
  have B2 := Lib.hid bel2
  have O2 := Lib.hid own2
  have HD := Lib.hid (delTpL_any w.heap.size (fun x => !decide ((N.l.getD x.toNat Lk.nil).k = 4)) A2 c2 (tmV N) w2 w0.heap.size own2 HTL.out (fun wx hx x hm => by
    have hB := B2.out.grown hx B2.out.size fun q hq => (O2.out.lt q hq).1
    exact tpL1_any w.heap.size h N x wx (three_cells (HKB.out wx hB)).2.1 (HR.out wx hB).2.1 (HMEM.out x hm)))
  rw [HFIL.out] at HD
  clear own2 bel2 y0 y1 y2
  generalize (tmV N).length = q at *
  go_wp2_with (fail)
  refine HD.out.mono ?_
  rintro e w3 ⟨A3, c3, rfl, own3, gr3⟩
  have HG : Hid (Gives w (tpV N) (.returned (.slice A3 (tpV N).length c3)) w3) := Lib.hid (by
    have hB := B2.out.grown gr3 B2.out.size fun q hq => (O2.out.lt q hq).1
    exact ⟨A3, c3, rfl, own3.mono HB0.out.size, HB0.out.trans (hB.mono HB0.out.size)⟩)
  clear own3 gr3
  generalize (tpV N).length = q3 at *
  go_wp2
  go_ret
  exact HG.out
theorem from_lxQ {N : Nt} (hv : valN N = true) (x : Int) : firstN (srcB x) N.l = lxN outL N x := first_ext fun l hl => srcB_is (fitsN_kind ((List.all_eq_true.1 (valN_fits hv)) l hl))
theorem to_lxQ {N : Nt} (x : Int) : firstN (tgtB x) N.l = lxN inL N x := first_ext fun l _ => tgtB_is l x
theorem tm_is {N : Nt} (hv : valN N = true) {k : Nat} (hk : k < N.l.length) : tmB N k = (outL (N.l.getD k Lk.nil)).all fun x => decide (lxN inL N x < 0) := by
  unfold tmB
  have h : ∀ x ∈ outL (N.l.getD k Lk.nil), N.c.contains x = decide (lxN inL N x < 0) := fun x hx => by
    rw [concl_is hv (out_in hv hk hx)]
    have := (lxN_q inL N x).1
    rw [Bool.eq_iff_iff, decide_eq_true_eq, decide_eq_true_eq]; omega
  generalize outL (N.l.getD k Lk.nil) = X at *
  induction X with
  | nil => rfl
  | cons x X ih => rw [List.all_cons, List.all_cons, h x (by simp), ih fun y hy => h y (by simp [hy])]
set_option maxRecDepth 100000 in
set_option maxHeartbeats 800000 in
theorem sTerminal_any (h : NH) (N : Nt) (k : Nat) (w : World) (hv : valN N = true) (r : RdN w w.heap.size h N) (hk : k < N.l.length) :
    Calls Tryz.prog 40 #[.agg #[.slice h.A N.w.length h.c, .slice h.L N.l.length h.d, .slice h.C N.c.length h.e], .int .i64 k] w fun e w' => e = .returned (.bool (tmB N k)) ∧ Below w.heap.size w w' := by
  obtain ⟨h48, h48l⟩ := valN_size hv
  obtain ⟨w0, hw0⟩ : ∃ w0, w0 = w.alloc (.cells #[.slice h.A N.w.length h.c, .slice h.L N.l.length h.d, .slice h.C N.c.length h.e] 30) := ⟨_, rfl⟩
  obtain ⟨hb, hh, hsz⟩ := box3_any w (.slice h.A N.w.length h.c) (.slice h.L N.l.length h.d) (.slice h.C N.c.length h.e) 30
  rw [← hw0] at hb hh hsz
  have HK := Lib.hid (fun (wx : World) (hw : Below w0.heap.size w0 wx) => three_cells ((hw.block w.heap.size (by omega)).trans hh))
  have HTO := Lib.hid (fun (x : Int) (wx : World) (hw : Below w0.heap.size w0 wx) => smTo_any h.A h.L h.C N.w.length h.c h.d N.c.length h.e N.l x wx ((r.2.1.below (hb.trans (hw.mono hb.size))).more (Nat.le_trans hb.size hw.size)) (by omega))
  have HB0 := Lib.hid hb
  obtain ⟨b, off, hLe, hbb, hcells⟩ := r.2.1.at (by omega)
  obtain ⟨l0, l1, l2, l3⟩ := hcells k hk
  have l0 := (hb.cell (p := ⟨b, off + k * 4, none⟩) hbb).trans l0
  have l1 := (hb.cell (p := ⟨b, off + k * 4 + 1, none⟩) hbb).trans l1
  have l2 := (hb.cell (p := ⟨b, off + k * 4 + 2, none⟩) hbb).trans l2
  have l3 := (hb.cell (p := ⟨b, off + k * 4 + 3, none⟩) hbb).trans l3
  obtain ⟨bl, z0, z1, z2, z3, zs⟩ := lnk_any w0 (N.l.getD k Lk.nil) 54
  obtain ⟨u2, hu2⟩ : ∃ u2, u2 = w0.alloc (.cells #[.int .i64 (N.l.getD k Lk.nil).k, .int .i64 (N.l.getD k Lk.nil).a, .int .i64 (N.l.getD k Lk.nil).b, .int .i64 (N.l.getD k Lk.nil).c] 54) := ⟨_, rfl⟩
  rw [← hu2] at bl z0 z1 z2 z3 zs
  have HBL := Lib.hid bl
  have hzl : w0.heap.size < u2.heap.size := by omega
  have HZK := Lib.hid (fun (wx : World) (hx : Below u2.heap.size u2 wx) => (hx.cell (p := ⟨w0.heap.size, 2, none⟩) hzl).trans z2)
  have HB2 : Hid (Below w.heap.size w u2) := Lib.hid (hb.trans (bl.mono hb.size))
  have hk2 : (k : Int) < (N.l.length : Int) := by omega
  obtain ⟨y0, y1, y2⟩ := three_cells hh
  have HTI := Lib.hid (tm_is hv hk)
  have hkd := fitsN_kind (link_fits hv hk)
  have HU2 := Lib.hid hu2
  rw [hLe] at y1
  clear hb hh hsz r hcells bl zs hv hLe
  generalize N.l.getD k Lk.nil = l at *
  obtain ⟨lk, la, lb, lc⟩ := l
  dsimp only at l0 l1 l2 l3 z0 z1 z2 z3 hkd HU2 hu2
  have HTA := Lib.hid (HTO.out la u2 HBL.out)
  rw [to_lxQ (N := N)] at HTA
  have HTB := Lib.hid (fun (wx : World) (hx : Below u2.heap.size u2 wx) => HTO.out lb wx (HBL.out.trans (hx.mono HBL.out.size)))
  rw [to_lxQ (N := N)] at HTB
  have HTC := Lib.hid (HTO.out lc u2 HBL.out)
  rw [to_lxQ (N := N)] at HTC
  have HKU := Lib.hid (fun (wx : World) (hx : Below u2.heap.size u2 wx) => HK.out wx (HBL.out.trans (hx.mono HBL.out.size)))
  obtain ⟨v0, v1, v2⟩ := HKU.out u2 (Below.refl _ _)
  by_cases h2 : lk = 2
  · subst h2
    have HE : Hid (true = tmB N k) := Lib.hid (by rw [HTI.out]; rfl)
    clear HTA HTB HTC hkd
    go_enter Tryz.func40, Tryz.ntmps40
    go_upto_region 1 with (fail)
    rw [← hw0]
    clear hw0
    go_upto_region 2 with (fail)
    rw [← HU2.out]
    clear hu2 y0 y1 y2 l0 l1 l2 l3
    go_wp2
    go_ret
    exact ⟨ret_bool HE.out, HB2.out⟩
  · by_cases h1 : lk = 1
    · subst h1
      have HE : Hid ((decide (lxN inL N la < 0) && decide (lxN inL N lb < 0)) = tmB N k) := Lib.hid (by rw [HTI.out]; simp [outL])
      have d2 : ((1 : Int) == 2) = false := by decide
      clear HTC hkd h2
      generalize lxN inL N la = p at *
      generalize lxN inL N lb = q at *
      go_enter Tryz.func40, Tryz.ntmps40
      go_upto_region 1 with (fail)
      rw [← hw0]
      clear hw0
      go_upto_region 2 with (fail)
      rw [← HU2.out]
      clear hu2 y0 y1 y2 l0 l1 l2 l3
      go_wp2_with (fail)
      refine HTA.out.mono ?_
      rintro e w3 ⟨rfl, bel3⟩
      have B3 := Lib.hid bel3
      clear bel3 z0 z1 z2 z3 v0 v1 v2
      have z2 := HZK.out w3 B3.out
      obtain ⟨v0, v1, v2⟩ := HKU.out w3 B3.out
      by_cases hp : p < 0
      · have d3 : decide (p < 0) = true := decide_eq_true hp
        have HE2 : Hid (decide (q < 0) = tmB N k) := Lib.hid (by rw [← HE.out, d3, Bool.true_and])
        clear hp
        go_wp2_with (fail)
        refine (HTB.out w3 B3.out).mono ?_
        rintro e w4 ⟨rfl, bel4⟩
        have B4 := Lib.hid (HB2.out.trans ((B3.out.trans (bel4.mono B3.out.size)).mono HB2.out.size))
        clear bel4 z2 v0 v1 v2
        go_wp2
        go_ret
        exact ⟨ret_bool HE2.out, B4.out⟩
      · have d3 : decide (p < 0) = false := decide_eq_false hp
        have HE2 : Hid (false = tmB N k) := Lib.hid (by rw [← HE.out, d3, Bool.false_and])
        have B4 := Lib.hid (HB2.out.trans (B3.out.mono HB2.out.size))
        clear hp z2
        go_wp2
        go_ret
        exact ⟨ret_bool HE2.out, B4.out⟩
    · have d2 : (lk == 2) = false := by simpa using h2
      have d1 : (lk == 1) = false := by simpa using h1
      have HE : Hid (decide (lxN inL N lc < 0) = tmB N k) := Lib.hid (by rw [HTI.out]; unfold outL; rw [if_neg h1, if_neg h2]; simp)
      clear HTA HTB h1 h2
      generalize lxN inL N lc = p at *
      go_enter Tryz.func40, Tryz.ntmps40
      go_upto_region 1 with (fail)
      rw [← hw0]
      clear hw0
      go_upto_region 2 with (fail)
      rw [← HU2.out]
      clear hu2 y0 y1 y2 l0 l1 l2 l3
      go_wp2_with (fail)
      refine HTC.out.mono ?_
      rintro e w3 ⟨rfl, bel3⟩
      have B3 := Lib.hid (HB2.out.trans (bel3.mono HB2.out.size))
      clear bel3 z0 z1 z2 z3 v0 v1 v2
      go_wp2
      go_ret
      exact ⟨ret_bool HE.out, B3.out⟩
end Go.Proofs.YtgpocnapkflihaaGreatDoor
