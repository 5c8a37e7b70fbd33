/- The program's FiringOrder, LastFiringOrder, StuckLinks, CorrectByParsing. Made by mkpaj.py. -/
import Derived.Test.YtedigjkmolnjcaaDoorPaI
import Derived.Deep.RegionHeldLaw
import Derived.Deep.DeepCutAuto
import Derived.BigQuiet
namespace Go.Proofs.YtedigjkmolnjcaaDoor
set_option linter.unusedSimpArgs false
set_option linter.unusedVariables false
open Go.ChangeAt Go.ChangeShapes Go.RowKit Go.WideShapes

/-- The answers. -/
def foV (N : Nt) (last : Bool) : List Int := if valN N = true then ordN N last else []
def stU (N : Nt) (fs : List Int) (k : Nat) : List Int := ((List.range k).map fun x : Nat => (x : Int)).filter fun x => !fs.contains x
def stV (N : Nt) : List Int := if valN N = true then stU N (ordN N false) N.l.length else []
def cbV (N : Nt) : Bool := valN N && (decide ((ordN N false).length = N.l.length) && decide (cntQ (qN N (ordN N false)) = 1))
set_option maxRecDepth 100000 in
set_option maxHeartbeats 1000000 in
theorem orderMin_impl (h : NH) (N : Nt) (w : World) (r : RdN w w.heap.size h N) (sm : SmallN N) (ht : Arit w) (hu : Dual w) :
    Calls Tryd.prog 28 #[.agg #[.slice h.A N.w.length h.c, .slice h.L N.l.length h.d, .slice h.C N.c.length h.e]] w (Gives w (foV N false)) := by
  obtain ⟨w0, hw0⟩ : ∃ w0, w0 = w.alloc (.cells #[.slice h.A N.w.length h.c, .slice h.L N.l.length h.d, .slice h.C N.c.length h.e] 31) := ⟨_, rfl⟩
  obtain ⟨hb, hh, hsz⟩ := box3_any w (.slice h.A N.w.length h.c) (.slice h.L N.l.length h.d) (.slice h.C N.c.length h.e) 31
  rw [← hw0] at hb hh hsz
  have hs0 : w.heap.size + 1 ≤ w0.heap.size := by omega
  have HK : Hid (∀ w', Below w0.heap.size w0 w' → w'.cell? ⟨w.heap.size, 0, none⟩ = some (.slice h.A N.w.length h.c) ∧ w'.cell? ⟨w.heap.size, 1, none⟩ = some (.slice h.L N.l.length h.d) ∧ w'.cell? ⟨w.heap.size, 2, none⟩ = some (.slice h.C N.c.length h.e)) := Lib.hid fun w' hw => three_cells ((hw.block _ (by omega)).trans hh)
  have HV := Lib.hid (validNet_impl h N w0 ((r.below hb).more hb.size) sm (ht.below hb ht.lt) (hu.below hb hu.lt))
  have HPW := Lib.hid (fun hv (wx : World) (hx : Below w0.heap.size w0 wx) => parsedWithMin_any h N wx hv ((r.below (hb.trans (hx.mono hb.size))).more (Nat.le_trans hb.size hx.size)))
  have HB0 := Lib.hid hb
  obtain ⟨y0, y1, y2⟩ := three_cells hh
  clear hb hh hsz r ht hu sm
  cases hv : valN N with
  | false =>
    rw [hv] at HV
    have HVV := Lib.hid hv
    clear hv HPW
    go_enter Tryd.func28, Tryd.ntmps28
    go_wp2_with (fail)
    rw [← hw0]
    clear hw0
    refine HV.out.mono ?_
    rintro e w1 ⟨rfl, bel1⟩
    have HB1 := Lib.hid (HB0.out.trans (bel1.mono HB0.out.size))
    clear bel1 y0 y1 y2
    have HG : Hid (Gives w (foV N false) (.returned (.slice none 0 0)) w1) := Lib.hid (by
      rw [show foV N false = [] from if_neg (by rw [HVV.out]; decide)]
      exact ⟨none, 0, rfl, World.ownsRow_nil _ _ _ _, HB1.out⟩)
    go_wp2
    go_ret
    exact HG.out
  | true =>
    rw [hv] at HV
    have HVV := Lib.hid hv
    have h48 := valN_size hv
    clear hv
    go_enter Tryd.func28, Tryd.ntmps28
    go_wp2_with (fail)
    rw [← hw0]
    clear hw0
    refine HV.out.mono ?_
    rintro e w1 ⟨rfl, bel1⟩
    have B1 := Lib.hid bel1
    clear bel1 y0 y1 y2
    obtain ⟨y0, y1, y2⟩ := HK.out _ B1.out
    go_wp2_with (fail)
    refine (HPW.out HVV.out w1 B1.out).mono ?_
    rintro e w2 ⟨g, r1, rfl, hg, hP, bel2⟩
    have B2 := Lib.hid (B1.out.trans (bel2.mono B1.out.size))
    have HB2 := Lib.hid (HB0.out.trans (B2.out.mono HB0.out.size))
    have hwg : w.heap.size ≤ g := Nat.le_trans HB0.out.size (Nat.le_trans B1.out.size hg)
    clear bel2 y0 y1 y2 hg
    have x52 := hP.box.row hP.uf.len
    have HG : Hid (Gives w (foV N false) (.returned (.slice r1.A (ordN N false).length r1.a)) w2) := Lib.hid (by
      rw [show foV N false = ordN N false from if_pos HVV.out]
      exact ⟨r1.A, r1.a, rfl, hP.own.mono (by omega), HB2.out⟩)
    clear hP hwg
    generalize (ordN N false).length = q at *
    go_wp2
    go_ret
    exact HG.out
set_option maxRecDepth 100000 in
set_option maxHeartbeats 1000000 in
theorem orderMax_impl (h : NH) (N : Nt) (w : World) (r : RdN w w.heap.size h N) (sm : SmallN N) (ht : Arit w) (hu : Dual w) :
    Calls Tryd.prog 30 #[.agg #[.slice h.A N.w.length h.c, .slice h.L N.l.length h.d, .slice h.C N.c.length h.e]] w (Gives w (foV N true)) := by
  obtain ⟨w0, hw0⟩ : ∃ w0, w0 = w.alloc (.cells #[.slice h.A N.w.length h.c, .slice h.L N.l.length h.d, .slice h.C N.c.length h.e] 31) := ⟨_, rfl⟩
  obtain ⟨hb, hh, hsz⟩ := box3_any w (.slice h.A N.w.length h.c) (.slice h.L N.l.length h.d) (.slice h.C N.c.length h.e) 31
  rw [← hw0] at hb hh hsz
  have hs0 : w.heap.size + 1 ≤ w0.heap.size := by omega
  have HK : Hid (∀ w', Below w0.heap.size w0 w' → w'.cell? ⟨w.heap.size, 0, none⟩ = some (.slice h.A N.w.length h.c) ∧ w'.cell? ⟨w.heap.size, 1, none⟩ = some (.slice h.L N.l.length h.d) ∧ w'.cell? ⟨w.heap.size, 2, none⟩ = some (.slice h.C N.c.length h.e)) := Lib.hid fun w' hw => three_cells ((hw.block _ (by omega)).trans hh)
  have HV := Lib.hid (validNet_impl h N w0 ((r.below hb).more hb.size) sm (ht.below hb ht.lt) (hu.below hb hu.lt))
  have HPW := Lib.hid (fun hv (wx : World) (hx : Below w0.heap.size w0 wx) => parsedWithMax_any h N wx hv ((r.below (hb.trans (hx.mono hb.size))).more (Nat.le_trans hb.size hx.size)))
  have HB0 := Lib.hid hb
  obtain ⟨y0, y1, y2⟩ := three_cells hh
  clear hb hh hsz r ht hu sm
  cases hv : valN N with
  | false =>
    rw [hv] at HV
    have HVV := Lib.hid hv
    clear hv HPW
    go_enter Tryd.func30, Tryd.ntmps30
    go_wp2_with (fail)
    rw [← hw0]
    clear hw0
    refine HV.out.mono ?_
    rintro e w1 ⟨rfl, bel1⟩
    have HB1 := Lib.hid (HB0.out.trans (bel1.mono HB0.out.size))
    clear bel1 y0 y1 y2
    have HG : Hid (Gives w (foV N true) (.returned (.slice none 0 0)) w1) := Lib.hid (by
      rw [show foV N true = [] from if_neg (by rw [HVV.out]; decide)]
      exact ⟨none, 0, rfl, World.ownsRow_nil _ _ _ _, HB1.out⟩)
    go_wp2
    go_ret
    exact HG.out
  | true =>
    rw [hv] at HV
    have HVV := Lib.hid hv
    have h48 := valN_size hv
    clear hv
    go_enter Tryd.func30, Tryd.ntmps30
    go_wp2_with (fail)
    rw [← hw0]
    clear hw0
    refine HV.out.mono ?_
    rintro e w1 ⟨rfl, bel1⟩
    have B1 := Lib.hid bel1
    clear bel1 y0 y1 y2
    obtain ⟨y0, y1, y2⟩ := HK.out _ B1.out
    go_wp2_with (fail)
    refine (HPW.out HVV.out w1 B1.out).mono ?_
    rintro e w2 ⟨g, r1, rfl, hg, hP, bel2⟩
    have B2 := Lib.hid (B1.out.trans (bel2.mono B1.out.size))
    have HB2 := Lib.hid (HB0.out.trans (B2.out.mono HB0.out.size))
    have hwg : w.heap.size ≤ g := Nat.le_trans HB0.out.size (Nat.le_trans B1.out.size hg)
    clear bel2 y0 y1 y2 hg
    have x52 := hP.box.row hP.uf.len
    have HG : Hid (Gives w (foV N true) (.returned (.slice r1.A (ordN N true).length r1.a)) w2) := Lib.hid (by
      rw [show foV N true = ordN N true from if_pos HVV.out]
      exact ⟨r1.A, r1.a, rfl, hP.own.mono (by omega), HB2.out⟩)
    clear hP hwg
    generalize (ordN N true).length = q at *
    go_wp2
    go_ret
    exact HG.out
theorem mark_in {n : Nat} {x : Int} (hx : x ∈ markL 0 n) : inW n x = true := by
  rw [mark_cast] at hx
  obtain ⟨k, hk, rfl⟩ := List.mem_map.1 hx
  have := List.mem_range.1 hk
  exact decide_eq_true (by omega)
set_option maxRecDepth 100000 in
set_option maxHeartbeats 1000000 in
theorem stuck_impl (h : NH) (N : Nt) (w : World) (r : RdN w w.heap.size h N) (sm : SmallN N) (ht : Arit w) (hu : Dual w) :
    Calls Tryd.prog 32 #[.agg #[.slice h.A N.w.length h.c, .slice h.L N.l.length h.d, .slice h.C N.c.length h.e]] w (Gives w (stV N)) := by
  have hmf : ∀ (fn : Fn) (first cap : Array Value) (w : World), (Instr.makeFunc fn first cap).run Tryd.prog w = .ok (.func fn first cap) w := fun _ _ _ _ => rfl
  obtain ⟨w0, hw0⟩ : ∃ w0, w0 = w.alloc (.cells #[.slice h.A N.w.length h.c, .slice h.L N.l.length h.d, .slice h.C N.c.length h.e] 31) := ⟨_, rfl⟩
  obtain ⟨hb, hh, hsz⟩ := box3_any w (.slice h.A N.w.length h.c) (.slice h.L N.l.length h.d) (.slice h.C N.c.length h.e) 31
  rw [← hw0] at hb hh hsz
  have hs0 : w.heap.size + 1 ≤ w0.heap.size := by omega
  have HK : Hid (∀ w', Below w0.heap.size w0 w' → w'.cell? ⟨w.heap.size, 0, none⟩ = some (.slice h.A N.w.length h.c) ∧ w'.cell? ⟨w.heap.size, 1, none⟩ = some (.slice h.L N.l.length h.d) ∧ w'.cell? ⟨w.heap.size, 2, none⟩ = some (.slice h.C N.c.length h.e)) := Lib.hid fun w' hw => three_cells ((hw.block _ (by omega)).trans hh)
  have HV := Lib.hid (validNet_impl h N w0 ((r.below hb).more hb.size) sm (ht.below hb ht.lt) (hu.below hb hu.lt))
  have HPW := Lib.hid (fun hv (wx : World) (hx : Below w0.heap.size w0 wx) => parsedWithMin_any h N wx hv ((r.below (hb.trans (hx.mono hb.size))).more (Nat.le_trans hb.size hx.size)))
  have HB0 := Lib.hid hb
  obtain ⟨y0, y1, y2⟩ := three_cells hh
  clear hb hh hsz r ht hu sm
  cases hv : valN N with
  | false =>
    rw [hv] at HV
    have HVV := Lib.hid hv
    clear hv HPW
    go_enter Tryd.func32, Tryd.ntmps32
    go_wp2_with (fail)
    rw [← hw0]
    clear hw0
    refine HV.out.mono ?_
    rintro e w1 ⟨rfl, bel1⟩
    have HB1 := Lib.hid (HB0.out.trans (bel1.mono HB0.out.size))
    clear bel1 y0 y1 y2
    have HG : Hid (Gives w (stV N) (.returned (.slice none 0 0)) w1) := Lib.hid (by
      rw [show stV N = [] from if_neg (by rw [HVV.out]; decide)]
      exact ⟨none, 0, rfl, World.ownsRow_nil _ _ _ _, HB1.out⟩)
    go_wp2
    go_ret
    exact HG.out
  | true =>
    rw [hv] at HV
    have HVV := Lib.hid hv
    have h48 := valN_size hv
    clear hv
    go_enter Tryd.func32, Tryd.ntmps32
    go_wp2_with (fail)
    rw [← hw0]
    clear hw0
    refine HV.out.mono ?_
    rintro e w1 ⟨rfl, bel1⟩
    have B1 := Lib.hid bel1
    clear bel1 y0 y1 y2
    obtain ⟨y0, y1, y2⟩ := HK.out _ B1.out
    go_wp2_with (fail)
    refine (HPW.out HVV.out w1 B1.out).mono ?_
    rintro e w2 ⟨g, r1, rfl, hg, hP, bel2⟩
    have B2 := Lib.hid (B1.out.trans (bel2.mono B1.out.size))
    have HB2 := Lib.hid (HB0.out.trans (B2.out.mono HB0.out.size))
    have hwg : w.heap.size ≤ g := Nat.le_trans HB0.out.size (Nat.le_trans B1.out.size hg)
    clear bel2 y0 y1 y2 hg
    have HVS : Hid (stV N = stU N (ordN N false) N.l.length) := Lib.hid (if_pos HVV.out)
    have hok := hP.ok
    have HFI := Lib.hid (fun (x : Int) (hx : inW N.l.length x = true) (wx : World) (hb : Below w2.heap.size w2 wx) => show Calls Tryd.prog 64 #[.pointer (some ⟨g, 3, none⟩), .int .i64 x] wx fun e w' => e = .returned (.bool (decide (qN N (ordN N false) x.toNat ≠ -1))) ∧ Below wx.heap.size wx w' from by
      have h1 := (inW_yes hx).2.1
      have h2 := (inW_yes hx).2.2
      have := fired_any (hP.below hb) (k := x.toNat) (by omega)
      rw [← h2] at this
      exact this.mono fun e w' ⟨he, hw⟩ => ⟨he, by rw [← hw]; exact Below.refl _ _⟩)
    have HNF := Lib.hid (fun (wx : World) => numbersFrom_any 0 N.l.length wx (by omega) (by omega))
    have HFIL : Hid (kpI (fun x => decide (qN N (ordN N false) x.toNat ≠ -1)) (markL 0 N.l.length) (markL 0 N.l.length).length = stU N (ordN N false) N.l.length) := Lib.hid (by
      rw [kpI_end, mark_cast]
      unfold stU
      refine List.filter_congr fun x hx => ?_
      obtain ⟨k, _, rfl⟩ := List.mem_map.1 hx
      congr 1
      rw [Int.toNat_natCast, Bool.eq_iff_iff, List.contains_iff_mem, decide_eq_true_eq]
      exact hok.mem k)
    have HKX := Lib.hid (fun (wx : World) (hx : Below w2.heap.size w2 wx) => HK.out wx (B2.out.trans (hx.mono B2.out.size)))
    have BD : Hid (Below w2.heap.size w2 w2.drew) := Lib.hid ((Below.refl w2.heap.size w2).drew)
    have K0 := Lib.hid (HKX.out _ (Below.refl _ w2))
    have tok1 : True := trivial
    clear hP hok HPW
    go_upto_region 4 with (fail)
    go_region_held3 (fun wx => wx.cell? ⟨w.heap.size, 0, none⟩ = some (.slice h.A N.w.length h.c) ∧ wx.cell? ⟨w.heap.size, 1, none⟩ = some (.slice h.L N.l.length h.d) ∧ wx.cell? ⟨w.heap.size, 2, none⟩ = some (.slice h.C N.c.length h.e))
      (first | exact K0.out | exact HKX.out _ BD.out | exact HKX.out _ B3.out | exact HKX.out _ B4.out)
      (first
        | (have _t := tok1; go_at_call 58; refine (HNF.out w2.drew).mono ?_; rintro e w3 ⟨A3, c3, rfl, own3, bel3⟩; have B3 := Lib.hid (BD.out.trans (bel3.mono BD.out.size)); have O3 := Lib.hid (own3.mono (show w2.heap.size ≤ w2.drew.heap.size from BD.out.size)); have tok2 : True := trivial; clear own3 bel3 tok1)
        | (have _t := tok2; go_at_call 57; refine (delFired_any g (fun x => decide (qN N (ordN N false) x.toNat ≠ -1)) A3 c3 (markL 0 N.l.length) w3 w2.heap.size O3.out (by rw [markL_len]; omega) (fun wx hx x hm => HFI.out x (mark_in hm) wx (B3.out.grown hx B3.out.size fun q hq => (O3.out.lt q hq).1))).mono ?_; rintro e w4 ⟨A4, c4, rfl, own4, gr4⟩; rw [HFIL.out] at own4 ⊢; have B4 := Lib.hid (B3.out.grown gr4 B3.out.size fun q hq => (O3.out.lt q hq).1); have O4 := Lib.hid own4; clear own4 gr4 tok2))
    all_goals
      have HG : Hid (Gives w (stV N) (.returned (.slice A4 (stU N (ordN N false) N.l.length).length c4)) w4) := Lib.hid (by
        rw [HVS.out]
        exact ⟨A4, c4, rfl, O4.out.mono HB2.out.size, HB2.out.trans (B4.out.mono HB2.out.size)⟩)
      generalize (stU N (ordN N false) N.l.length).length = q at *
      go_wp2
      go_ret
      exact HG.out
set_option maxRecDepth 100000 in
set_option maxHeartbeats 1000000 in
theorem parsing_impl (h : NH) (N : Nt) (w : World) (r : RdN w w.heap.size h N) (sm : SmallN N) (ht : Arit w) (hu : Dual w) :
    Calls Tryd.prog 34 #[.agg #[.slice h.A N.w.length h.c, .slice h.L N.l.length h.d, .slice h.C N.c.length h.e]] w fun e w' => e = .returned (.bool (cbV N)) ∧ Below w.heap.size w w' := by
  obtain ⟨w0, hw0⟩ : ∃ w0, w0 = w.alloc (.cells #[.slice h.A N.w.length h.c, .slice h.L N.l.length h.d, .slice h.C N.c.length h.e] 31) := ⟨_, rfl⟩
  obtain ⟨hb, hh, hsz⟩ := box3_any w (.slice h.A N.w.length h.c) (.slice h.L N.l.length h.d) (.slice h.C N.c.length h.e) 31
  rw [← hw0] at hb hh hsz
  have hs0 : w.heap.size + 1 ≤ w0.heap.size := by omega
  have HK : Hid (∀ w', Below w0.heap.size w0 w' → w'.cell? ⟨w.heap.size, 0, none⟩ = some (.slice h.A N.w.length h.c) ∧ w'.cell? ⟨w.heap.size, 1, none⟩ = some (.slice h.L N.l.length h.d) ∧ w'.cell? ⟨w.heap.size, 2, none⟩ = some (.slice h.C N.c.length h.e)) := Lib.hid fun w' hw => three_cells ((hw.block _ (by omega)).trans hh)
  have HV := Lib.hid (validNet_impl h N w0 ((r.below hb).more hb.size) sm (ht.below hb ht.lt) (hu.below hb hu.lt))
  have HPW := Lib.hid (fun hv (wx : World) (hx : Below w0.heap.size w0 wx) => parsedWithMin_any h N wx hv ((r.below (hb.trans (hx.mono hb.size))).more (Nat.le_trans hb.size hx.size)))
  have HB0 := Lib.hid hb
  obtain ⟨y0, y1, y2⟩ := three_cells hh
  clear hb hh hsz r ht hu sm
  cases hv : valN N with
  | false =>
    rw [hv] at HV
    have HVV := Lib.hid hv
    clear hv HPW
    go_enter Tryd.func34, Tryd.ntmps34
    go_wp2_with (fail)
    rw [← hw0]
    clear hw0
    refine HV.out.mono ?_
    rintro e w1 ⟨rfl, bel1⟩
    have HB1 := Lib.hid (HB0.out.trans (bel1.mono HB0.out.size))
    clear bel1 y0 y1 y2
    have HG : Hid (false = cbV N) := Lib.hid (by unfold cbV; rw [HVV.out]; rfl)
    go_wp2
    go_ret
    exact ⟨ret_bool HG.out, HB1.out⟩
  | true =>
    rw [hv] at HV
    have HVV := Lib.hid hv
    have h48 := valN_size hv
    clear hv
    go_enter Tryd.func34, Tryd.ntmps34
    go_wp2_with (fail)
    rw [← hw0]
    clear hw0
    refine HV.out.mono ?_
    rintro e w1 ⟨rfl, bel1⟩
    have B1 := Lib.hid bel1
    clear bel1 y0 y1 y2
    obtain ⟨y0, y1, y2⟩ := HK.out _ B1.out
    go_wp2_with (fail)
    refine (HPW.out HVV.out w1 B1.out).mono ?_
    rintro e w2 ⟨g, r1, rfl, hg, hP, bel2⟩
    have B2 := Lib.hid (B1.out.trans (bel2.mono B1.out.size))
    have HB2 := Lib.hid (HB0.out.trans (B2.out.mono HB0.out.size))
    have hwg : w.heap.size ≤ g := Nat.le_trans HB0.out.size (Nat.le_trans B1.out.size hg)
    clear bel2 y0 y1 y2 hg
    have hT := hP.uf.len
    have x52 := hP.box.row hT
    have x51 := hP.box.cnt hT
    have hol := hP.ok.len
    obtain ⟨y0, y1, y2⟩ := HK.out _ B2.out
    have HC : Hid (cbV N = (decide ((ordN N false).length = N.l.length) && decide (cntQ (qN N (ordN N false)) = 1))) := Lib.hid (by unfold cbV; rw [HVV.out, Bool.true_and])
    have HBD := Lib.hid (fun n => below_drewN HB2.out n)
    clear hP hwg HPW hT
    generalize cntQ (qN N (ordN N false)) = c at *
    generalize (ordN N false).length = q at *
    by_cases he : q = N.l.length
    · have d1 : ((q : Int) == (N.l.length : Int)) = true := by simp [he]
      have HCC : Hid ((c == 1) = cbV N) := Lib.hid (by rw [HC.out, decide_eq_true he, Bool.true_and]; rfl)
      have HE := Lib.hid he
      clear he
      go_upto_region 4 with (fail)
      go_quiet (fail)
      have HBE := Lib.hid (HBD.out nq)
      go_wp2
      go_ret
      exact ⟨ret_bool HCC.out, HBE.out⟩
    · have d1 : ((q : Int) == (N.l.length : Int)) = false := by simp; omega
      have HCC : Hid (false = cbV N) := Lib.hid (by rw [HC.out, decide_eq_false he]; rfl)
      clear he
      go_upto_region 4 with (fail)
      go_quiet (fail)
      have HBE := Lib.hid (HBD.out nq)
      go_wp2
      go_ret
      exact ⟨ret_bool HCC.out, HBE.out⟩
end Go.Proofs.YtedigjkmolnjcaaDoor
