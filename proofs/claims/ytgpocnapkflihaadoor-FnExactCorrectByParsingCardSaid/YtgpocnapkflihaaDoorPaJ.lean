/- The program's FiringOrder, LastFiringOrder, StuckLinks, CorrectByParsing. Made by mkpaj.py; isWhole and what follows by hand (round 14). -/
import Derived.Test.YtgpocnapkflihaaDoorPaI
import Derived.Deep.RegionHeldLaw
import Derived.Deep.DeepCutAuto
import Derived.BigQuiet
namespace Go.Proofs.YtgpocnapkflihaaDoor
set_option linter.unusedSimpArgs false
set_option linter.unusedVariables false
open Go.ChangeAt Go.ChangeShapes Go.RowKit Go.WideShapes

/-- The answers. -/
def foV (N : Nt) (last : Bool) : List Int := if valN N = true then ordN N last else []
def stU (N : Nt) (fs : List Int) (k : Nat) : List Int := ((List.range k).map fun x : Nat => (x : Int)).filter fun x => !fs.contains x
def stV (N : Nt) : List Int := if valN N = true then stU N (ordN N false) N.l.length else []
def cbV (N : Nt) : Bool := valN N && (decide ((ordN N false).length = N.l.length) && decide (cntQ (qN N (ordN N false)) = 1))
theorem mark_in {n : Nat} {x : Int} (hx : x ∈ markL 0 n) : inW n x = true := by
  rw [mark_cast] at hx
  obtain ⟨k, hk, rfl⟩ := List.mem_map.1 hx
  have := List.mem_range.1 hk
  exact decide_eq_true (by omega)
set_option maxRecDepth 100000 in
set_option maxHeartbeats 1000000 in
/-- isWhole: all links have been fired, into one part. -/
theorem isWhole_any (h : NH) (N : Nt) (g : Nat) (fs : List Int) (r : PzH) (w : World) (hP : PzS w g h N fs r) (h48 : N.l.length ≤ 48) :
    Calls Tryd.prog 33 #[.pointer (some ⟨g, 0, none⟩)] w fun e w' => e = .returned (.bool (decide (fs.length = N.l.length) && decide (cntQ (qN N fs) = 1))) ∧ ∃ m, w' = w.drewN m := by
  have hT := hP.uf.len
  have x52 := hP.box.row hT
  have x51 := hP.box.cnt hT
  have hol := hP.ok.len
  have y0 := hP.box.three.1
  clear hP hT
  generalize cntQ (qN N fs) = c at *
  generalize fs.length = q at *
  by_cases he : q = N.l.length
  · have d1 : ((q : Int) == (N.l.length : Int)) = true := by simp [he]
    have HCC : Hid ((c == 1) = (decide (q = N.l.length) && decide (c = 1))) := Lib.hid (by rw [decide_eq_true he, Bool.true_and]; rfl)
    clear he
    generalize (decide (q = N.l.length) && decide (c = 1)) = res at *
    go_enter Tryd.func33, Tryd.ntmps33
    go_upto_region 1 with (fail)
    go_quiet (fail)
    go_wp2
    go_ret
    exact ⟨ret_bool HCC.out, _, rfl⟩
  · have d1 : ((q : Int) == (N.l.length : Int)) = false := by simp; omega
    have HCC : Hid (false = (decide (q = N.l.length) && decide (c = 1))) := Lib.hid (by rw [decide_eq_false he]; rfl)
    clear he
    generalize (decide (q = N.l.length) && decide (c = 1)) = res at *
    go_enter Tryd.func33, Tryd.ntmps33
    go_upto_region 1 with (fail)
    go_quiet (fail)
    go_wp2
    go_ret
    exact ⟨ret_bool HCC.out, _, rfl⟩
set_option maxRecDepth 100000 in
set_option maxHeartbeats 1000000 in
theorem parsing_impl (h : NH) (N : Nt) (w : World) (r : RdN w w.heap.size h N) (sm : SmallN N) (ht : Arit w) (hu : Dual w) :
    Calls Tryd.prog 10 #[.agg #[.slice h.A N.w.length h.c, .slice h.L N.l.length h.d, .slice h.C N.c.length h.e]] w fun e w' => e = .returned (.bool (cbV N)) ∧ Below w.heap.size w w' := by
  obtain ⟨w0, hw0⟩ : ∃ w0, w0 = w.alloc (.cells #[.slice h.A N.w.length h.c, .slice h.L N.l.length h.d, .slice h.C N.c.length h.e] 31) := ⟨_, rfl⟩
  obtain ⟨hb, hh, hsz⟩ := box3_any w (.slice h.A N.w.length h.c) (.slice h.L N.l.length h.d) (.slice h.C N.c.length h.e) 31
  rw [← hw0] at hb hh hsz
  have hs0 : w.heap.size + 1 ≤ w0.heap.size := by omega
  have HK : Hid (∀ w', Below w0.heap.size w0 w' → w'.cell? ⟨w.heap.size, 0, none⟩ = some (.slice h.A N.w.length h.c) ∧ w'.cell? ⟨w.heap.size, 1, none⟩ = some (.slice h.L N.l.length h.d) ∧ w'.cell? ⟨w.heap.size, 2, none⟩ = some (.slice h.C N.c.length h.e)) := Lib.hid fun w' hw => three_cells ((hw.block _ (by omega)).trans hh)
  have HV := Lib.hid (validNet_impl h N w0 ((r.below hb).more hb.size) sm (ht.below hb ht.lt) (hu.below hb hu.lt))
  have HPW := Lib.hid (fun hv (wx : World) (hx : Below w0.heap.size w0 wx) => parsedWithMin_any h N wx hv ((r.below (hb.trans (hx.mono hb.size))).more (Nat.le_trans hb.size hx.size)))
  have HB0 := Lib.hid hb
  obtain ⟨y0, y1, y2⟩ := three_cells hh
  clear hb hh hsz r ht hu sm
  cases hv : valN N with
  | false =>
    rw [hv] at HV
    have HVV := Lib.hid hv
    clear hv HPW
    go_enter Tryd.func10, Tryd.ntmps10
    go_wp2_with (fail)
    rw [← hw0]
    clear hw0
    refine HV.out.mono ?_
    rintro e w1 ⟨rfl, bel1⟩
    have HB1 := Lib.hid (HB0.out.trans (bel1.mono HB0.out.size))
    clear bel1 y0 y1 y2
    have HG : Hid (false = cbV N) := Lib.hid (by unfold cbV; rw [HVV.out]; rfl)
    go_wp2
    go_ret
    exact ⟨ret_bool HG.out, HB1.out⟩
  | true =>
    rw [hv] at HV
    have HVV := Lib.hid hv
    have h48 := valN_size hv
    clear hv
    go_enter Tryd.func10, Tryd.ntmps10
    go_wp2_with (fail)
    rw [← hw0]
    clear hw0
    refine HV.out.mono ?_
    rintro e w1 ⟨rfl, bel1⟩
    have B1 := Lib.hid bel1
    clear bel1 y0 y1 y2
    obtain ⟨y0, y1, y2⟩ := HK.out _ B1.out
    go_wp2_with (fail)
    refine (HPW.out HVV.out w1 B1.out).mono ?_
    rintro e w2 ⟨g, r1, rfl, hg, hP, bel2⟩
    have B2 := Lib.hid (B1.out.trans (bel2.mono B1.out.size))
    have HB2 := Lib.hid (HB0.out.trans (B2.out.mono HB0.out.size))
    have hwg : w.heap.size ≤ g := Nat.le_trans HB0.out.size (Nat.le_trans B1.out.size hg)
    clear bel2 y0 y1 y2 hg
    have HW := Lib.hid (isWhole_any h N g (ordN N false) r1 w2 hP h48.2)
    have HC : Hid ((decide ((ordN N false).length = N.l.length) && decide (cntQ (qN N (ordN N false)) = 1)) = cbV N) := Lib.hid (by unfold cbV; rw [HVV.out, Bool.true_and])
    rw [HC.out] at HW
    have HBD := Lib.hid (fun n => below_drewN HB2.out n)
    clear hP hwg HPW
    go_wp2_with (fail)
    refine HW.out.mono ?_
    rintro e w3 ⟨rfl, m, rfl⟩
    have HBE := Lib.hid (HBD.out m)
    go_wp2
    go_ret
    exact ⟨rfl, HBE.out⟩
end Go.Proofs.YtgpocnapkflihaaDoor
