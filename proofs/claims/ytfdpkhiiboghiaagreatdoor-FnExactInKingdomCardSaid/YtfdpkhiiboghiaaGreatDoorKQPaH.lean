/- slices.Min and slices.Max at increasing rows; parsedWith. Made by mkpah.py. The program's OpenWires, FiringOrder, LastFiringOrder, StuckLinks, CorrectByParsing. The program's FiringOrder, LastFiringOrder, StuckLinks, CorrectByParsing. Made by mkpaj.py; isWhole and what follows by hand (round 14). Mathematics of chapter 15: subnet sets, kingdoms, empires. The model's ParLinks, SwitchingCount, SwitchingOf. The model's sources and targets of wires, of chapter 11. Two rows that grow; the answer of RemovePar; the model's l11Has. slices.IndexFunc and slices.DeleteFunc at chapter 14's closures. Made by mksqb.py. The program's terminal links: isTerminal, TerminalLinks. The model: terminal links. Placing the parts of a net under given numbers: plain mathematics. A net in memory of its own: parts of its rows replaced. -/
import Derived.Test.YtfdpkhiiboghiaaGreatDoorKQPaD
import Derived.Deep.RegionHeldLaw
import Derived.Deep.DeepCutAuto
import Derived.Deep.LoopGhost
import Derived.BigQuiet
import Derived.Test.YtfdpkhiiboghiaaGreatDoorKQSqM
import Derived.Test.YtfdpkhiiboghiaaGreatDoorKQPgG
import Derived.Test.YtfdpkhiiboghiaaGreatDoorKQNetZ
import Derived.Lib.SliceRun
import Derived.Test.YtfdpkhiiboghiaaGreatDoorKQFrag
import Derived.Test.YtfdpkhiiboghiaaGreatDoorKQMath
import Derived.Test.YtfdpkhiiboghiaaGreatDoorKQPaB
namespace Go.Proofs.YtfdpkhiiboghiaaGreatDoor
set_option linter.unusedSimpArgs false
set_option linter.unusedVariables false
section
set_option linter.unusedSimpArgs false
set_option linter.unusedVariables false
open Go.ChangeAt Go.ChangeShapes Go.RowKit Go.WideShapes

theorem allQ_inc (N : Nt) (fs : List Int) : (allQ N fs).Pairwise (· < ·) := by
  unfold allQ
  apply List.Pairwise.filter
  rw [List.pairwise_map]
  refine List.Pairwise.imp (R := fun a b : Nat => a < b) (fun h => by omega) List.pairwise_lt_range
theorem inc_at {L : List Int} (h : L.Pairwise (· < ·)) {i j : Nat} (hij : i < j) (hj : j < L.length) : L.getD i 0 < L.getD j 0 := by
  have := List.pairwise_iff_getElem.1 h i j (by omega) hj hij
  simpa [List.getD, show i < L.length by omega, hj] using this
theorem allQ_nat {N : Nt} {fs : List Int} {x : Int} (h : x ∈ allQ N fs) : ∃ k : Nat, x = (k : Int) ∧ k < N.l.length := by
  have h1 := (okF_yes (allQ_ok h)).1
  exact ⟨x.toNat, (inW_yes h1).2.2, (inW_yes h1).2.1⟩
set_option maxHeartbeats 1000000 in
theorem min_any (A : Option Addr) (c : Nat) (L : List Int) (w : World) (r : RdI w w.heap.size A L.length L) (hl : L.length ≤ 1048576) (h0 : 0 < L.length) (hs : L.Pairwise (· < ·)) :
    Calls Tryz.prog 116 #[.slice A L.length c] w fun e w' => e = .returned (.int .i64 (pkF false L)) ∧ w = w' := by
  obtain ⟨b, off, rfl, hbb, hcells⟩ := r.2 h0
  have HC := Lib.hid hcells
  have x0 := hcells 0 h0
  rw [Nat.add_zero] at x0
  have HM := Lib.hid (fun (k : Nat) (hk : k < L.length) (hk1 : 1 ≤ k) => show min (L.getD 0 0) (L.getD k 0) = L.getD 0 0 by
    have := inc_at hs (i := 0) (j := k) (by omega) hk
    omega)
  have HE : Hid (L.getD 0 0 = pkF false L) := Lib.hid rfl
  have d1 : decide ((L.length : Int) < 1) = false := decide_eq_false (by omega)
  have hli : (0 : Int) < (L.length : Int) := by omega
  clear r hs hcells
  generalize L.getD 0 0 = z0 at *
  generalize pkF false L = res at *
  go_enter Tryz.func116, Tryz.ntmps116
  go_wp2
  clear x0 d1
  go_loopw [3, 4] (fun m i wr => ∃ k : Nat, 1 ≤ k ∧ k ≤ L.length ∧ i = .int .i64 k ∧ m = .int .i64 z0 ∧ w = wr) (fun _ i _ => L.length - (intOf i).toNat)
  case atStart => exact ⟨1, by omega, by omega, by go_num, rfl, rfl⟩
  case round =>
    obtain ⟨k, hk1, hk, rfl, rfl, rfl⟩ := hrel
    by_cases hlt : k < L.length
    · have x1 := HC.out k hlt
      have hm := HM.out k hlt hk1
      generalize L.getD k 0 = z at *
      go_wp2
      go_roundw
      case rel => exact ⟨k + 1, by omega, by omega, by go_num, rfl, by first | rfl | trivial⟩
      case measure => simp [intOf]; omega
    · have hkl : k = L.length := by omega
      subst hkl
      go_wp2
      go_ret
      exact ⟨ret_i64 HE.out, rfl⟩
set_option maxRecDepth 100000 in
set_option maxHeartbeats 1000000 in
theorem parsedWithMin_any (h : NH) (N : Nt) (w : World) (hv : valN N = true) (r : RdN w w.heap.size h N) :
    Calls Tryz.prog 115 #[.agg #[.slice h.A N.w.length h.c, .slice h.L N.l.length h.d, .slice h.C N.c.length h.e], .func (.func 116) #[] #[]] w (GivesPz w h N (ordN N false)) := by
  have h48l := (valN_size hv).2
  obtain ⟨w0, hw0⟩ : ∃ w0, w0 = w.alloc (.cells #[.slice h.A N.w.length h.c, .slice h.L N.l.length h.d, .slice h.C N.c.length h.e] 30) := ⟨_, rfl⟩
  obtain ⟨hb, hh, hsz⟩ := box3_any w (.slice h.A N.w.length h.c) (.slice h.L N.l.length h.d) (.slice h.C N.c.length h.e) 30
  rw [← hw0] at hb hh hsz
  have HPO := Lib.hid (parsingOf_any h N w0 hv ((r.below hb).more hb.size))
  have HB0 := Lib.hid hb
  have HRL := Lib.hid (fun (g : Nat) (fs : List Int) (r1 : PzH) (wx : World) (s : PzS wx g h N fs r1) => readyLinks_any h N g fs r1 wx hv s)
  have HFI := Lib.hid (fun (g f : Nat) (fs : List Int) (r1 : PzH) (wx : World) (s : PzS wx g h N fs r1) (ho : okF N fs (f : Int) = true) => fire_any h N g f fs r1 wx hv s ho)
  obtain ⟨y0, y1, y2⟩ := three_cells hh
  clear hb hh hsz r hv
  go_enter Tryz.func115, Tryz.ntmps115
  go_wp2_with (fail)
  rw [← hw0]
  clear hw0
  refine HPO.out.mono ?_
  rintro e w1 ⟨g, r1, rfl, hg, hP, bel1⟩
  have B1 := Lib.hid bel1
  have HP1 := Lib.hid hP
  have HG : Hid (w0.heap.size ≤ g) := Lib.hid hg
  clear bel1 hP y0 y1 y2 hg
  go_wp2_with (fail)
  refine (HRL.out g [] r1 w1 HP1.out).mono ?_
  rintro e w2 ⟨A2, c2, rfl, own2, bel2⟩
  have B2 := Lib.hid (B1.out.trans (bel2.mono B1.out.size))
  have HP2 := Lib.hid (HP1.out.below bel2)
  have R2 := Lib.hid (RdI.of_own own2)
  clear own2 bel2
  have HLQ := Lib.hid (fun (fs : List Int) => show (allQ N fs).length ≤ 48 from by have := alU_len N fs N.l.length; rw [alU_all] at this; omega)
  have hl2 := HLQ.out []
  go_wp2
  go_loopg [6] N.l.length (fun k v wr => ∃ (fs : List Int) (r3 : PzH) (A : Option Addr) (c : Nat), Hid (k = N.l.length - fs.length) ∧ v = .slice A (allQ N fs).length c ∧ Hid (OrdS N false fs) ∧ PzS wr g h N fs r3 ∧ RdI wr wr.heap.size A (allQ N fs).length (allQ N fs) ∧ Below w0.heap.size w0 wr)
  case atStart => exact ⟨[], r1, A2, c2, Lib.hid rfl, rfl, Lib.hid (OrdS.start N false), HP2.out, R2.out, B2.out⟩
  case round =>
    obtain ⟨fs, r3, A, c, hk, rfl, hO, hP, hR, hB⟩ := hrel
    clear HP2 R2 B2 HP1 B1 hl2
    by_cases hne : allQ N fs = []
    · have hstop := hO.out.stop hne
      have hlen : (allQ N fs).length = 0 := by rw [hne]; rfl
      rw [hstop] at hP
      have HE : Hid (GivesPz w h N (ordN N false) (.returned (.pointer (some ⟨g, 0, none⟩))) wr) := Lib.hid ⟨g, r3, rfl, Nat.le_trans HB0.out.size HG.out, hP, HB0.out.trans (hB.mono HB0.out.size)⟩
      clear hP hR hB hstop hne hO
      generalize (allQ N fs).length = q at *
      subst hlen
      go_wp2
      go_ret
      exact HE.out
    · have hpos : 0 < (allQ N fs).length := List.length_pos_iff.2 hne
      have d1 : decide ((0 : Int) < ((allQ N fs).length : Int)) = true := decide_eq_true (by omega)
      have hl48 := HLQ.out fs
      have hmem := pkF_mem (last := false) hne
      obtain ⟨f, hf, hfl⟩ := allQ_nat hmem
      have hok := allQ_ok hmem
      rw [hf] at hok
      have HMIN := Lib.hid (min_any A c (allQ N fs) wr hR (by omega) hpos (allQ_inc N fs))
      rw [hf] at HMIN
      have hos := hO.out.step hne
      rw [hf] at hos
      have hosl := hos.len
      rw [List.length_append, List.length_singleton] at hosl
      have HOS := Lib.hid hos
      have HKK : Hid (N.l.length - (fs ++ [(f : Int)]).length < gk) := Lib.hid (by rw [hk.out, List.length_append, List.length_singleton]; omega)
      have HFF := Lib.hid (HFI.out g f fs r3 wr hP hok)
      have HB := Lib.hid hB
      clear hne hmem hf hok hos hosl hP hR hB hO hk
      have hl48b := HLQ.out (fs ++ [(f : Int)])
      generalize allQ N fs = L at *
      go_wp2_with (fail)
      refine HMIN.out.mono ?_
      rintro e w3 ⟨rfl, rfl⟩
      go_wp2_with (fail)
      refine HFF.out.mono ?_
      rintro e w4 ⟨rfl, ⟨r4, hP4⟩, bel4⟩
      have HP4 := Lib.hid hP4
      have HB4 := Lib.hid (HB.out.trans (bel4.mono HG.out))
      clear hP4 bel4 d1
      go_wp2_with (fail)
      refine (HRL.out g _ r4 w4 HP4.out).mono ?_
      rintro e w5 ⟨A5, c5, rfl, own5, bel5⟩
      have HP5 := Lib.hid (HP4.out.below bel5)
      have R5 := Lib.hid (RdI.of_own own5)
      have HB5 := Lib.hid (HB4.out.trans (bel5.mono HB4.out.size))
      clear own5 bel5
      go_wp2
      go_roundg (N.l.length - (fs ++ [(f : Int)]).length)
      case measure => exact HKK.out
      case rel => exact ⟨fs ++ [(f : Int)], r4, A5, c5, Lib.hid rfl, rfl, HOS, HP5.out, R5.out, HB5.out⟩
end
section
set_option linter.unusedSimpArgs false
set_option linter.unusedVariables false
open Go.ChangeAt Go.ChangeShapes Go.RowKit Go.WideShapes

end
section
set_option linter.unusedSimpArgs false
set_option linter.unusedVariables false
open Go.ChangeAt Go.ChangeShapes Go.RowKit Go.WideShapes

def cbV (N : Nt) : Bool := valN N && (decide ((ordN N false).length = N.l.length) && decide (cntQ (qN N (ordN N false)) = 1))
set_option maxRecDepth 100000 in
set_option maxHeartbeats 1000000 in
/-- isWhole: all links have been fired, into one part. -/
theorem isWhole_any (h : NH) (N : Nt) (g : Nat) (fs : List Int) (r : PzH) (w : World) (hP : PzS w g h N fs r) (h48 : N.l.length ≤ 48) :
    Calls Tryz.prog 117 #[.pointer (some ⟨g, 0, none⟩)] w fun e w' => e = .returned (.bool (decide (fs.length = N.l.length) && decide (cntQ (qN N fs) = 1))) ∧ ∃ m, w' = w.drewN m := by
  have hT := hP.uf.len
  have x52 := hP.box.row hT
  have x51 := hP.box.cnt hT
  have hol := hP.ok.len
  have y0 := hP.box.three.1
  clear hP hT
  generalize cntQ (qN N fs) = c at *
  generalize fs.length = q at *
  by_cases he : q = N.l.length
  · have d1 : ((q : Int) == (N.l.length : Int)) = true := by simp [he]
    have HCC : Hid ((c == 1) = (decide (q = N.l.length) && decide (c = 1))) := Lib.hid (by rw [decide_eq_true he, Bool.true_and]; rfl)
    clear he
    generalize (decide (q = N.l.length) && decide (c = 1)) = res at *
    go_enter Tryz.func117, Tryz.ntmps117
    go_upto_region 1 with (fail)
    go_quiet (fail)
    go_wp2
    go_ret
    exact ⟨ret_bool HCC.out, _, rfl⟩
  · have d1 : ((q : Int) == (N.l.length : Int)) = false := by simp; omega
    have HCC : Hid (false = (decide (q = N.l.length) && decide (c = 1))) := Lib.hid (by rw [decide_eq_false he]; rfl)
    clear he
    generalize (decide (q = N.l.length) && decide (c = 1)) = res at *
    go_enter Tryz.func117, Tryz.ntmps117
    go_upto_region 1 with (fail)
    go_quiet (fail)
    go_wp2
    go_ret
    exact ⟨ret_bool HCC.out, _, rfl⟩
set_option maxRecDepth 100000 in
set_option maxHeartbeats 1000000 in
theorem parsing_impl (h : NH) (N : Nt) (w : World) (r : RdN w w.heap.size h N) (sm : SmallN N) (ht : Arit w) (hu : Dual w) :
    Calls Tryz.prog 60 #[.agg #[.slice h.A N.w.length h.c, .slice h.L N.l.length h.d, .slice h.C N.c.length h.e]] w fun e w' => e = .returned (.bool (cbV N)) ∧ Below w.heap.size w w' := by
  obtain ⟨w0, hw0⟩ : ∃ w0, w0 = w.alloc (.cells #[.slice h.A N.w.length h.c, .slice h.L N.l.length h.d, .slice h.C N.c.length h.e] 30) := ⟨_, rfl⟩
  obtain ⟨hb, hh, hsz⟩ := box3_any w (.slice h.A N.w.length h.c) (.slice h.L N.l.length h.d) (.slice h.C N.c.length h.e) 30
  rw [← hw0] at hb hh hsz
  have hs0 : w.heap.size + 1 ≤ w0.heap.size := by omega
  have HK : Hid (∀ w', Below w0.heap.size w0 w' → w'.cell? ⟨w.heap.size, 0, none⟩ = some (.slice h.A N.w.length h.c) ∧ w'.cell? ⟨w.heap.size, 1, none⟩ = some (.slice h.L N.l.length h.d) ∧ w'.cell? ⟨w.heap.size, 2, none⟩ = some (.slice h.C N.c.length h.e)) := Lib.hid fun w' hw => three_cells ((hw.block _ (by omega)).trans hh)
  have HV := Lib.hid (validNet_impl h N w0 ((r.below hb).more hb.size) sm (ht.below hb ht.lt) (hu.below hb hu.lt))
  have HPW := Lib.hid (fun hv (wx : World) (hx : Below w0.heap.size w0 wx) => parsedWithMin_any h N wx hv ((r.below (hb.trans (hx.mono hb.size))).more (Nat.le_trans hb.size hx.size)))
  have HB0 := Lib.hid hb
  obtain ⟨y0, y1, y2⟩ := three_cells hh
  clear hb hh hsz r ht hu sm
  cases hv : valN N with
  | false =>
    rw [hv] at HV
    have HVV := Lib.hid hv
    clear hv HPW
    go_enter Tryz.func60, Tryz.ntmps60
    go_wp2_with (fail)
    rw [← hw0]
    clear hw0
    refine HV.out.mono ?_
    rintro e w1 ⟨rfl, bel1⟩
    have HB1 := Lib.hid (HB0.out.trans (bel1.mono HB0.out.size))
    clear bel1 y0 y1 y2
    have HG : Hid (false = cbV N) := Lib.hid (by unfold cbV; rw [HVV.out]; rfl)
    go_wp2
    go_ret
    exact ⟨ret_bool HG.out, HB1.out⟩
  | true =>
    rw [hv] at HV
    have HVV := Lib.hid hv
    have h48 := valN_size hv
    clear hv
    go_enter Tryz.func60, Tryz.ntmps60
    go_wp2_with (fail)
    rw [← hw0]
    clear hw0
    refine HV.out.mono ?_
    rintro e w1 ⟨rfl, bel1⟩
    have B1 := Lib.hid bel1
    clear bel1 y0 y1 y2
    obtain ⟨y0, y1, y2⟩ := HK.out _ B1.out
    go_wp2_with (fail)
    refine (HPW.out HVV.out w1 B1.out).mono ?_
    rintro e w2 ⟨g, r1, rfl, hg, hP, bel2⟩
    have B2 := Lib.hid (B1.out.trans (bel2.mono B1.out.size))
    have HB2 := Lib.hid (HB0.out.trans (B2.out.mono HB0.out.size))
    have hwg : w.heap.size ≤ g := Nat.le_trans HB0.out.size (Nat.le_trans B1.out.size hg)
    clear bel2 y0 y1 y2 hg
    have HW := Lib.hid (isWhole_any h N g (ordN N false) r1 w2 hP h48.2)
    have HC : Hid ((decide ((ordN N false).length = N.l.length) && decide (cntQ (qN N (ordN N false)) = 1)) = cbV N) := Lib.hid (by unfold cbV; rw [HVV.out, Bool.true_and])
    rw [HC.out] at HW
    have HBD := Lib.hid (fun n => below_drewN HB2.out n)
    clear hP hwg HPW
    go_wp2_with (fail)
    refine HW.out.mono ?_
    rintro e w3 ⟨rfl, m, rfl⟩
    have HBE := Lib.hid (HBD.out m)
    go_wp2
    go_ret
    exact ⟨rfl, HBE.out⟩
end
section
set_option linter.unusedSimpArgs false
set_option linter.unusedVariables false
open Go.ChangeAt Go.ChangeShapes Go.RowKit Go.WideShapes

/-- Has a wire a kingdom? -/
def kgB (N : Nt) (x : Int) : Bool := cbV N && (decide (N.l.length ≤ 10) && inW N.w.length x)
theorem kgB_yes {N : Nt} {x : Int} (h : kgB N x = true) : valN N = true ∧ cbV N = true ∧ N.l.length ≤ 10 ∧ inW N.w.length x = true := by
  simp only [kgB, Bool.and_eq_true, decide_eq_true_eq] at h
  have h1 := h.1
  unfold cbV at h1
  rw [Bool.and_eq_true] at h1
  exact ⟨h1.1, h.1, h.2.1, h.2.2⟩
/-- Is a set a subnet set with a wire in its border? -/
def okS (N : Nt) (x : Int) (s : Nat) : Bool := bdB N s.testBit x && (clS N s && cbV (sbN N s.testBit))
theorem okS_zero (N : Nt) (x : Int) : okS N x 0 = false := by
  unfold okS bdB; rw [Nat.zero_testBit]; rfl
/-- These sets below j; all of them. -/
def setU (N : Nt) (x : Int) (j : Nat) : List Nat := (List.range j).filter (okS N x)
def setsL (N : Nt) (x : Int) : List Nat := setU N x (2 ^ N.l.length)
theorem setU_yes {N : Nt} {x : Int} {j : Nat} (h : okS N x j = true) : setU N x (j + 1) = setU N x j ++ [j] := by
  unfold setU; rw [List.range_succ, List.filter_append]; simp [h]
theorem setU_no {N : Nt} {x : Int} {j : Nat} (h : okS N x j = false) : setU N x (j + 1) = setU N x j := by
  unfold setU; rw [List.range_succ, List.filter_append]; simp [h]
theorem setU_one (N : Nt) (x : Int) : setU N x 1 = [] := by rw [setU_no (okS_zero N x)]; rfl
theorem setU_len (N : Nt) (x : Int) (j : Nat) : (setU N x j).length ≤ j := Nat.le_trans (List.length_filter_le _ _) (by rw [List.length_range]; exact Nat.le_refl _)
theorem setU_lt {N : Nt} {x : Int} {j s : Nat} (h : s ∈ setU N x j) : s < j := List.mem_range.1 (List.mem_filter.1 h).1
theorem pow_le10 {n : Nat} (h : n ≤ 10) : 2 ^ n ≤ 1024 := Nat.pow_le_pow_right (n := 2) (by decide) h
theorem setsL_len {N : Nt} (x : Int) (h : N.l.length ≤ 10) : (setsL N x).length ≤ 1024 := Nat.le_trans (setU_len _ _ _) (pow_le10 h)
theorem setsL_in {N : Nt} {x : Int} {s : Nat} (h : s ∈ setsL N x) : inS N.l.length s := inS_lt (setU_lt h)
/-- Is a list a subnet set? -/
def ssB (N : Nt) (ks : List Int) : Bool := csB N ks && cbV (snV N ks)
-- the answers
def scX (N : Nt) (x : Int) : Int := if kgB N x = true then ((setsL N x).length : Int) else -1
def kgK (N : Nt) (x : Int) (i : Nat) : Bool := (setsL N x).all fun s => s.testBit i
def emK (N : Nt) (x : Int) (i : Nat) : Bool := (setsL N x).any fun s => s.testBit i
def kgV (N : Nt) (x : Int) : List Int := if kgB N x = true then selU (kgK N x) N.l.length else []
def emV (N : Nt) (x : Int) : List Int := if kgB N x = true then selU (emK N x) N.l.length else []
theorem kgV_len (N : Nt) (x : Int) : (kgV N x).length ≤ 1048576 := by
  unfold kgV
  split
  · next h => have := (kgB_yes h).2.2.1; have := selU_len (kgK N x) N.l.length; omega
  · simp
theorem emV_len (N : Nt) (x : Int) : (emV N x).length ≤ 1048576 := by
  unfold emV
  split
  · next h => have := (kgB_yes h).2.2.1; have := selU_len (emK N x) N.l.length; omega
  · simp
def ikB (N : Nt) (x y : Int) : Bool := kgB N y && (inW N.w.length x && kgK N y (frN N x))
-- the program: one set combined with all others
def andU (S : Nat) (ss : List Nat) (j : Nat) : Nat := (ss.take j).foldl (fun a b => a &&& b) S
def iorU (S : Nat) (ss : List Nat) (j : Nat) : Nat := (ss.take j).foldl (fun a b => a ||| b) S
theorem andU_succ {S : Nat} {ss : List Nat} {j : Nat} (h : j < ss.length) : andU S ss (j + 1) = andU S ss j &&& ss.getD j 0 := by
  unfold andU; rw [takeL_succ (d := (0 : Nat)) h, List.foldl_append]; rfl
theorem iorU_succ {S : Nat} {ss : List Nat} {j : Nat} (h : j < ss.length) : iorU S ss (j + 1) = iorU S ss j ||| ss.getD j 0 := by
  unfold iorU; rw [takeL_succ (d := (0 : Nat)) h, List.foldl_append]; rfl
theorem and_bit (ss : List Nat) (k : Nat) : ∀ S : Nat, (ss.foldl (fun a b => a &&& b) S).testBit k = (S.testBit k && ss.all fun s => s.testBit k) := by
  induction ss with
  | nil => intro S; simp
  | cons x ss ih => intro S; rw [List.foldl_cons, ih, Nat.testBit_and, List.all_cons, Bool.and_assoc]
theorem or_bit (ss : List Nat) (k : Nat) : ∀ S : Nat, (ss.foldl (fun a b => a ||| b) S).testBit k = (S.testBit k || ss.any fun s => s.testBit k) := by
  induction ss with
  | nil => intro S; simp
  | cons x ss ih => intro S; rw [List.foldl_cons, ih, Nat.testBit_or, List.any_cons, Bool.or_assoc]
theorem andU_bit (S : Nat) (ss : List Nat) (k : Nat) : (andU S ss ss.length).testBit k = (S.testBit k && ss.all fun s => s.testBit k) := by
  unfold andU; rw [List.take_length, and_bit]
theorem iorU_bit (S : Nat) (ss : List Nat) (k : Nat) : (iorU S ss ss.length).testBit k = (S.testBit k || ss.any fun s => s.testBit k) := by
  unfold iorU; rw [List.take_length, or_bit]
theorem andU_lt {S : Nat} {ss : List Nat} (h : S < 2 ^ 64) (hs : ∀ s ∈ ss, s < 2 ^ 64) : ∀ j, andU S ss j < 2 ^ 64 := fun j => by
  unfold andU
  have : ∀ (L : List Nat) (a : Nat), a < 2 ^ 64 → L.foldl (fun a b => a &&& b) a < 2 ^ 64 := fun L => by
    induction L with
    | nil => intro a h; exact h
    | cons x L ih => intro a h; exact ih _ (Nat.lt_of_le_of_lt Nat.and_le_left h)
  exact this _ _ h
theorem iorU_lt {S : Nat} {ss : List Nat} (h : S < 2 ^ 64) (hs : ∀ s ∈ ss, s < 2 ^ 64) : ∀ j, iorU S ss j < 2 ^ 64 := fun j => by
  unfold iorU
  have : ∀ (L : List Nat) (a : Nat), (∀ s ∈ L, s < 2 ^ 64) → a < 2 ^ 64 → L.foldl (fun a b => a ||| b) a < 2 ^ 64 := fun L => by
    induction L with
    | nil => intro a _ h; exact h
    | cons x L ih => intro a hL h; exact ih _ (fun s q => hL s (by simp [q])) (Nat.or_lt_two_pow h (hL x (by simp)))
  exact this _ _ (fun s q => hs s (List.mem_of_mem_take q)) h
/-- All links. -/
theorem all_bit {n : Nat} (hn : n ≤ 64) (k : Nat) : (orS (markL 0 n)).testBit k = decide (k < n) := by
  rw [orS_bit, decide_eq_decide]
  have : (k : Int) ∈ markL 0 n ↔ k < n := by
    unfold markL
    rw [List.mem_map]
    constructor
    · rintro ⟨i, hi, e⟩; have := List.mem_range.1 hi; omega
    · intro h; exact ⟨k, List.mem_range.2 h, by omega⟩
  rw [this]; omega
theorem lks_of {n s : Nat} {p : Nat → Bool} (hn : n ≤ 64) (h : ∀ k, s.testBit k = (decide (k < n) && p k)) : lkS s = selU p n := by
  have hi : inS n s := fun k hk => by
    rw [h, Bool.and_eq_true, decide_eq_true_eq] at hk; exact hk.1
  rw [inS_lks hi hn]
  exact selU_ext fun j hj => by rw [h, decide_eq_true hj]; rfl
theorem kg_prog {N : Nt} (x : Int) (h : N.l.length ≤ 10) : lkS (andU (orS (markL 0 N.l.length)) (setsL N x) (setsL N x).length) = selU (kgK N x) N.l.length :=
  lks_of (by omega) fun k => by rw [andU_bit, all_bit (by omega)]; rfl
theorem em_prog {N : Nt} (x : Int) (h : N.l.length ≤ 10) : lkS (iorU 0 (setsL N x) (setsL N x).length) = selU (emK N x) N.l.length :=
  lks_of (by omega) fun k => by
    rw [iorU_bit, Nat.zero_testBit, Bool.false_or]
    unfold emK
    cases e : (setsL N x).any fun s => s.testBit k with
    | false => rw [Bool.and_false]
    | true =>
      obtain ⟨s, h1, h2⟩ := List.any_eq_true.1 e
      rw [decide_eq_true (setsL_in h1 k h2)]; rfl
-- the model: in how many sets is a link?
def cnS (ss : List Nat) (i j : Nat) : Nat := ((ss.take j).filter fun s => s.testBit i).length
theorem cnS_all (ss : List Nat) (i : Nat) : decide (ss.length ≤ cnS ss i ss.length) = ss.all fun s => s.testBit i := by
  unfold cnS; rw [List.take_length, Bool.eq_iff_iff, decide_eq_true_eq]
  have h := List.length_filter_le (fun s : Nat => s.testBit i) ss
  constructor
  · intro e
    have : (ss.filter fun s => s.testBit i).length = ss.length := by omega
    rw [List.all_eq_true]
    exact List.length_filter_eq_length_iff.1 this
  · intro e
    rw [List.length_filter_eq_length_iff.2 (List.all_eq_true.1 e)]; exact Nat.le_refl _
theorem cnS_any (ss : List Nat) (i : Nat) : decide (1 ≤ cnS ss i ss.length) = ss.any fun s => s.testBit i := by
  unfold cnS; rw [List.take_length, Bool.eq_iff_iff, decide_eq_true_eq, List.any_eq_true]
  constructor
  · intro e
    obtain ⟨s, hs⟩ := List.exists_mem_of_length_pos (show 0 < (ss.filter fun s => s.testBit i).length by omega)
    exact ⟨s, (List.mem_filter.1 hs).1, (List.mem_filter.1 hs).2⟩
  · rintro ⟨s, h1, h2⟩
    exact List.length_pos_of_mem (List.mem_filter.2 ⟨h1, h2⟩)
-- the model's questions about a list
theorem pw_step {ks : List Int} {k : Nat} (h : k < ks.length) (hp : (ks.take k).Pairwise (· < ·)) : (ks.take (k + 1)).Pairwise (· < ·) ↔ (k = 0 ∨ ks.getD (k - 1) 0 < ks.getD k 0) := by
  rw [takeL_succ (d := (0 : Int)) h, List.pairwise_append]
  constructor
  · rintro ⟨_, _, h3⟩
    by_cases e : k = 0
    · exact .inl e
    · right
      obtain ⟨m, rfl⟩ : ∃ m, k = m + 1 := ⟨k - 1, by omega⟩
      refine h3 _ ?_ _ (by simp)
      rw [takeL_succ (d := (0 : Int)) (by omega)]; simp
  · intro e
    refine ⟨hp, by simp, fun a ha b hb => ?_⟩
    rw [List.mem_singleton] at hb
    subst hb
    rcases e with e | e
    · subst e; simp at ha
    · by_cases e0 : k = 0
      · subst e0; simp at ha
      · obtain ⟨m, rfl⟩ : ∃ m, k = m + 1 := ⟨k - 1, by omega⟩
        rw [Nat.add_sub_cancel] at e
        rw [takeL_succ (d := (0 : Int)) (by omega)] at ha hp
        rw [List.pairwise_append] at hp
        rw [List.mem_append, List.mem_singleton] at ha
        rcases ha with ha | ha
        · have := hp.2.2 a ha _ List.mem_cons_self; omega
        · rw [ha]; exact e
/-- Is a number a link, and greater than the one ahead of it? -/
def inQ (n : Nat) (ks : List Int) (k : Nat) : Bool := inW n (ks.getD k 0) && !(decide (0 < k) && decide (ks.getD k 0 ≤ ks.getD (k - 1) 0))
theorem inQ_all (n : Nat) (ks : List Int) : ((List.range ks.length).all (inQ n ks)) = (ks.all (inW n) && decide (ks.Pairwise (· < ·))) := by
  have key : ∀ k, k ≤ ks.length → ((List.range k).all (inQ n ks)) = ((ks.take k).all (inW n) && decide ((ks.take k).Pairwise (· < ·))) := fun k => by
    induction k with
    | zero => intro _; simp
    | succ k ih =>
      intro hk
      rw [List.range_succ, List.all_append, ih (by omega)]
      by_cases hp : (ks.take k).Pairwise (· < ·)
      · rw [decide_eq_true hp, Bool.and_true]
        have hs := pw_step (show k < ks.length by omega) hp
        rw [show decide ((ks.take (k + 1)).Pairwise (· < ·)) = decide (k = 0 ∨ ks.getD (k - 1) 0 < ks.getD k 0) from by rw [decide_eq_decide]; exact hs]
        rw [takeL_succ (d := (0 : Int)) (show k < ks.length by omega), List.all_append]
        simp only [List.all_cons, List.all_nil, Bool.and_true]
        unfold inQ
        rw [Bool.and_assoc]
        congr 2
        rw [Bool.eq_iff_iff, Bool.not_eq_true', decide_eq_true_eq, Bool.and_eq_false_iff, decide_eq_false_iff_not, decide_eq_false_iff_not]
        omega
      · have hp2 : ¬ (ks.take (k + 1)).Pairwise (· < ·) := fun q => hp (by
          rw [takeL_succ (d := (0 : Int)) (show k < ks.length by omega), List.pairwise_append] at q; exact q.1)
        rw [decide_eq_false hp, decide_eq_false hp2]; simp
  have := key _ (Nat.le_refl _)
  rwa [List.take_length] at this
/-- What the model says of a list, of a valid net. -/
def ccM (N : Nt) (ks : List Int) : Bool := (List.range ks.length).all (inQ N.l.length ks) && (ks.all (inKB N (kS ks)) && decide (0 < ks.length))
theorem ccM_is {N : Nt} (hv : valN N = true) (ks : List Int) : ccM N ks = csB N ks := by
  unfold ccM csB clKB
  rw [inQ_all, hv, Bool.true_and, Bool.and_assoc, Bool.and_comm (ks.all (inKB N (kS ks)))]
  congr 3
  cases ks <;> simp
/-- The model's list of a set. -/
def mlS (n s : Nat) : List Int := selU s.testBit n
theorem mlS_kS {n s k : Nat} (hk : k < n) : kS (mlS n s) k = s.testBit k := by
  unfold kS mlS
  rw [Bool.eq_iff_iff, decide_eq_true_eq, selU_mem]
  constructor
  · rintro ⟨j, _, h, e⟩; rwa [show k = j by omega]
  · intro h; exact ⟨k, hk, h, rfl⟩
theorem mlS_in {n s : Nat} {x : Int} (h : x ∈ mlS n s) : inW n x = true := by
  obtain ⟨j, h1, _, rfl⟩ := selU_mem.1 h; exact decide_eq_true (by omega)
/-- The model's conditions for a set are those of the program. -/
theorem ml_cs {N : Nt} (hv : valN N = true) {s : Nat} (hs : s < 2 ^ N.l.length) : csB N (mlS N.l.length s) = clS N s ∧ sbN N (kS (mlS N.l.length s)) = sbN N s.testBit := by
  have h48 := (valN_size hv).2
  have e : ∀ k, k < N.l.length → kS (mlS N.l.length s) k = s.testBit k := fun k hk => mlS_kS hk
  refine ⟨?_, sbN_same hv e⟩
  have hin : (mlS N.l.length s).all (inW N.l.length) = true := List.all_eq_true.2 fun x hx => mlS_in hx
  have hlk : lkS s = mlS N.l.length s := inS_lks (inS_lt hs) (by omega)
  unfold csB
  have hpw : decide ((mlS N.l.length s).Pairwise (· < ·)) = true := decide_eq_true (selU_lt _ _)
  rw [hv, hin, hpw, Bool.true_and, Bool.true_and, Bool.true_and]
  unfold clS
  rw [hlk]
  exact cl_same hv e fun x hx => mlS_in hx
end
section
set_option linter.unusedSimpArgs false
set_option linter.unusedVariables false
open Go.ChangeAt Go.ChangeShapes Go.RowKit Go.WideShapes

theorem bit_i64 (a : Nat) (h : a < 9223372036854775808) : bits .and .i64 (a : Int) 1 = (a : Int) % 2 := by
  have h1 : (BitVec.ofInt 64 (a : Int)).toNat = a := by
    rw [BitVec.ofInt_natCast, BitVec.toNat_ofNat]; exact Nat.mod_eq_of_lt (by omega)
  show IntKind.i64.wrap ((BitVec.ofInt 64 (a : Int) &&& BitVec.ofInt 64 ((1 : Nat) : Int)).toNat : Int) = _
  have h2 : (BitVec.ofInt 64 ((1 : Nat) : Int)).toNat = 1 := rfl
  have h3 : a &&& 1 = a % 2 := Nat.and_two_pow_sub_one_eq_mod a 1
  rw [BitVec.toNat_and, h1, h2, h3, IntWalk.i64_in _ (by omega)]
  omega
end
section
set_option linter.unusedSimpArgs false
set_option linter.unusedVariables false
open Go.ChangeAt Go.ChangeShapes Go.RowKit Go.WideShapes

set_option maxRecDepth 100000 in
set_option maxHeartbeats 4000000 in
theorem smFrom_any (A L C : Option Addr) (n c d m e0 : Nat) (ls : List Lk) (x : Int) (w : World) (rl : RdL w w.heap.size L ls.length ls) (hl : ls.length ≤ 1048576) :
    Calls Tryz.prog 77 #[.agg #[.slice A n c, .slice L ls.length d, .slice C m e0], .int .i64 x] w fun e w' => e = .returned (.int .i64 (firstN (srcB x) ls)) ∧ Below w.heap.size w w' := by
  obtain ⟨w0, hw0⟩ : ∃ w0, w0 = w.alloc (.cells #[.slice A n c, .slice L ls.length d, .slice C m e0] 30) := ⟨_, rfl⟩
  obtain ⟨hb, hh, hsz⟩ := box3_any w (.slice A n c) (.slice L ls.length d) (.slice C m e0) 30
  rw [← hw0] at hb hh hsz
  have hs0 : w.heap.size + 1 ≤ w0.heap.size := by omega
  have HK : Hid (∀ w', Below w0.heap.size w0 w' → w'.cell? ⟨w.heap.size, 0, none⟩ = some (.slice A n c) ∧ w'.cell? ⟨w.heap.size, 1, none⟩ = some (.slice L ls.length d) ∧ w'.cell? ⟨w.heap.size, 2, none⟩ = some (.slice C m e0)) := Lib.hid fun w' hw => three_cells ((hw.block _ (by omega)).trans hh)
  have HRL := Lib.hid (fun (w' : World) (hw : Below w0.heap.size w0 w') => show RdL w' w'.heap.size L ls.length ls from (rl.below (hb.trans (hw.mono hb.size))).more (Nat.le_trans hb.size hw.size))
  have HB0 := Lib.hid hb
  obtain ⟨y0, y1, y2⟩ := three_cells hh
  clear hb hh hsz rl
  go_enter Tryz.func77, Tryz.ntmps77
  go_wp2
  rw [← hw0]
  clear hw0
  go_loopw [5] (fun i wx => ∃ k : Nat, k ≤ ls.length ∧ i = .int .i64 k ∧ (∀ j, j < k → srcB x (ls.getD j Lk.nil) = false) ∧ Below w0.heap.size w0 wx) (fun i _ => ls.length - (intOf i).toNat)
  case atStart => exact ⟨0, Nat.zero_le _, rfl, fun j hj => absurd hj (by omega), Below.refl _ _⟩
  case round =>
    obtain ⟨k, hk, rfl, hno, hB⟩ := hrel
    clear y0 y1 y2
    obtain ⟨y0, y1, y2⟩ := HK.out _ hB
    by_cases hlt : k < ls.length
    · obtain ⟨b, off, hA, hbb, hcells⟩ := (HRL.out _ hB).at (by omega)
      subst hA
      obtain ⟨x0, x1, x2, x3⟩ := hcells k hlt
      obtain ⟨⟨lk, la, lb, lc⟩, hl⟩ : ∃ l, ls.getD k Lk.nil = l := ⟨_, rfl⟩
      rw [hl] at x0 x1 x2 x3
      dsimp only at x0 x1 x2 x3
      obtain ⟨bl, z0, z1, z2, z3, zs⟩ := lnk_any wr ⟨lk, la, lb, lc⟩ 103
      dsimp only at bl z0 z1 z2 z3
      have BL := Lib.hid (hB.trans (bl.mono hB.size))
      have HNO := Lib.hid hno
      have HL := Lib.hid hl
      clear hcells hB bl zs hno hl
      by_cases h1 : lk = 1
      · subst h1
        by_cases ha : la = x
        · have da : (la == x) = true := by simpa using ha
          have HE : Hid ((k : Int) = firstN (srcB x) ls) := Lib.hid (firstN_at hlt HNO.out (by rw [HL.out]; simp [srcB, ha])).symm
          have HBB := Lib.hid (HB0.out.trans (BL.out.mono HB0.out.size))
          clear ha
          go_wp2
          go_ret
          exact ⟨ret_i64 HE.out, HBB.out⟩
        · have da : (la == x) = false := by simpa using ha
          by_cases hb : lb = x
          · have db : (lb == x) = true := by simpa using hb
            have HE : Hid ((k : Int) = firstN (srcB x) ls) := Lib.hid (firstN_at hlt HNO.out (by rw [HL.out]; simp [srcB, hb])).symm
            have HBB := Lib.hid (HB0.out.trans (BL.out.mono HB0.out.size))
            clear ha hb
            go_wp2
            go_ret
            exact ⟨ret_i64 HE.out, HBB.out⟩
          · have db : (lb == x) = false := by simpa using hb
            have HST := Lib.hid (below_step HNO.out (by rw [HL.out]; simp [srcB, ha, hb]))
            clear ha hb
            go_wp2
            go_roundw
            case rel => exact ⟨k + 1, by omega, by go_num, HST.out, BL.out⟩
            case measure => simp [intOf]; omega
      by_cases h3 : lk = 3
      · subst h3
        by_cases hc : lc = x
        · have dc : (lc == x) = true := by simpa using hc
          have HE : Hid ((k : Int) = firstN (srcB x) ls) := Lib.hid (firstN_at hlt HNO.out (by rw [HL.out]; simp [srcB, hc])).symm
          have HBB := Lib.hid (HB0.out.trans (BL.out.mono HB0.out.size))
          clear hc h1
          go_wp2
          go_ret
          exact ⟨ret_i64 HE.out, HBB.out⟩
        · have dc : (lc == x) = false := by simpa using hc
          have HST := Lib.hid (below_step HNO.out (by rw [HL.out]; simp [srcB, hc]))
          clear hc h1
          go_wp2
          go_roundw
          case rel => exact ⟨k + 1, by omega, by go_num, HST.out, BL.out⟩
          case measure => simp [intOf]; omega
      by_cases h4 : lk = 4
      · subst h4
        by_cases hc : lc = x
        · have dc : (lc == x) = true := by simpa using hc
          have HE : Hid ((k : Int) = firstN (srcB x) ls) := Lib.hid (firstN_at hlt HNO.out (by rw [HL.out]; simp [srcB, hc])).symm
          have HBB := Lib.hid (HB0.out.trans (BL.out.mono HB0.out.size))
          clear hc h1 h3
          go_wp2
          go_ret
          exact ⟨ret_i64 HE.out, HBB.out⟩
        · have dc : (lc == x) = false := by simpa using hc
          have HST := Lib.hid (below_step HNO.out (by rw [HL.out]; simp [srcB, hc]))
          clear hc h1 h3
          go_wp2
          go_roundw
          case rel => exact ⟨k + 1, by omega, by go_num, HST.out, BL.out⟩
          case measure => simp [intOf]; omega
      have d1 : (lk == 1) = false := by simpa using h1
      have d3 : (lk == 3) = false := by simpa using h3
      have d4 : (lk == 4) = false := by simpa using h4
      have HST := Lib.hid (below_step HNO.out (by rw [HL.out]; simp [srcB, h1, h3, h4]))
      clear h1 h3 h4
      go_wp2
      go_roundw
      case rel => exact ⟨k + 1, by omega, by go_num, HST.out, BL.out⟩
      case measure => simp [intOf]; omega
    · have hkl : k = ls.length := by omega
      subst hkl
      have HE : Hid ((-1 : Int) = firstN (srcB x) ls) := Lib.hid (firstN_none hno).symm
      have HBB := Lib.hid (HB0.out.trans (hB.mono HB0.out.size))
      clear hno
      go_wp2
      go_ret
      exact ⟨ret_i64 HE.out, HBB.out⟩
set_option maxRecDepth 100000 in
set_option maxHeartbeats 4000000 in
theorem smTo_any (A L C : Option Addr) (n c d m e0 : Nat) (ls : List Lk) (x : Int) (w : World) (rl : RdL w w.heap.size L ls.length ls) (hl : ls.length ≤ 1048576) :
    Calls Tryz.prog 108 #[.agg #[.slice A n c, .slice L ls.length d, .slice C m e0], .int .i64 x] w fun e w' => e = .returned (.int .i64 (firstN (tgtB x) ls)) ∧ Below w.heap.size w w' := by
  obtain ⟨w0, hw0⟩ : ∃ w0, w0 = w.alloc (.cells #[.slice A n c, .slice L ls.length d, .slice C m e0] 30) := ⟨_, rfl⟩
  obtain ⟨hb, hh, hsz⟩ := box3_any w (.slice A n c) (.slice L ls.length d) (.slice C m e0) 30
  rw [← hw0] at hb hh hsz
  have hs0 : w.heap.size + 1 ≤ w0.heap.size := by omega
  have HK : Hid (∀ w', Below w0.heap.size w0 w' → w'.cell? ⟨w.heap.size, 0, none⟩ = some (.slice A n c) ∧ w'.cell? ⟨w.heap.size, 1, none⟩ = some (.slice L ls.length d) ∧ w'.cell? ⟨w.heap.size, 2, none⟩ = some (.slice C m e0)) := Lib.hid fun w' hw => three_cells ((hw.block _ (by omega)).trans hh)
  have HRL := Lib.hid (fun (w' : World) (hw : Below w0.heap.size w0 w') => show RdL w' w'.heap.size L ls.length ls from (rl.below (hb.trans (hw.mono hb.size))).more (Nat.le_trans hb.size hw.size))
  have HB0 := Lib.hid hb
  obtain ⟨y0, y1, y2⟩ := three_cells hh
  clear hb hh hsz rl
  go_enter Tryz.func108, Tryz.ntmps108
  go_wp2
  rw [← hw0]
  clear hw0
  go_loopw [5] (fun i wx => ∃ k : Nat, k ≤ ls.length ∧ i = .int .i64 k ∧ (∀ j, j < k → tgtB x (ls.getD j Lk.nil) = false) ∧ Below w0.heap.size w0 wx) (fun i _ => ls.length - (intOf i).toNat)
  case atStart => exact ⟨0, Nat.zero_le _, rfl, fun j hj => absurd hj (by omega), Below.refl _ _⟩
  case round =>
    obtain ⟨k, hk, rfl, hno, hB⟩ := hrel
    clear y0 y1 y2
    obtain ⟨y0, y1, y2⟩ := HK.out _ hB
    by_cases hlt : k < ls.length
    · obtain ⟨b, off, hA, hbb, hcells⟩ := (HRL.out _ hB).at (by omega)
      subst hA
      obtain ⟨x0, x1, x2, x3⟩ := hcells k hlt
      obtain ⟨⟨lk, la, lb, lc⟩, hl⟩ : ∃ l, ls.getD k Lk.nil = l := ⟨_, rfl⟩
      rw [hl] at x0 x1 x2 x3
      dsimp only at x0 x1 x2 x3
      obtain ⟨bl, z0, z1, z2, z3, zs⟩ := lnk_any wr ⟨lk, la, lb, lc⟩ 103
      dsimp only at bl z0 z1 z2 z3
      have BL := Lib.hid (hB.trans (bl.mono hB.size))
      have HNO := Lib.hid hno
      have HL := Lib.hid hl
      clear hcells hB bl zs hno hl
      by_cases h1 : lk = 1
      · subst h1
        have HST := Lib.hid (below_step HNO.out (by rw [HL.out]; simp [tgtB]))
        skip
        go_wp2
        go_roundw
        case rel => exact ⟨k + 1, by omega, by go_num, HST.out, BL.out⟩
        case measure => simp [intOf]; omega
      have d1 : (lk != 1) = true := by simpa using h1
      by_cases ha : la = x
      · have da : (la == x) = true := by simpa using ha
        have HE : Hid ((k : Int) = firstN (tgtB x) ls) := Lib.hid (firstN_at hlt HNO.out (by rw [HL.out]; simp [tgtB, ha, h1])).symm
        have HBB := Lib.hid (HB0.out.trans (BL.out.mono HB0.out.size))
        clear ha h1
        go_wp2
        go_ret
        exact ⟨ret_i64 HE.out, HBB.out⟩
      have da : (la == x) = false := by simpa using ha
      by_cases hb : lb = x
      · have db : (lb == x) = true := by simpa using hb
        have HE : Hid ((k : Int) = firstN (tgtB x) ls) := Lib.hid (firstN_at hlt HNO.out (by rw [HL.out]; simp [tgtB, hb, h1])).symm
        have HBB := Lib.hid (HB0.out.trans (BL.out.mono HB0.out.size))
        clear ha hb h1
        go_wp2
        go_ret
        exact ⟨ret_i64 HE.out, HBB.out⟩
      have db : (lb == x) = false := by simpa using hb
      have HST := Lib.hid (below_step HNO.out (by rw [HL.out]; simp [tgtB, ha, hb]))
      clear ha hb h1
      go_wp2
      go_roundw
      case rel => exact ⟨k + 1, by omega, by go_num, HST.out, BL.out⟩
      case measure => simp [intOf]; omega
    · have hkl : k = ls.length := by omega
      subst hkl
      have HE : Hid ((-1 : Int) = firstN (tgtB x) ls) := Lib.hid (firstN_none hno).symm
      have HBB := Lib.hid (HB0.out.trans (hB.mono HB0.out.size))
      clear hno
      go_wp2
      go_ret
      exact ⟨ret_i64 HE.out, HBB.out⟩
end
section
set_option linter.unusedSimpArgs false
set_option linter.unusedVariables false
open Go.ChangeAt Go.ChangeShapes Go.RowKit Go.WideShapes

/-- Two rows that grow. -/
structure TwQ (wl wx : World) (v1 v2 : Value) (L1 L2 : List Int) : Prop where
  o1 : wx.ownsRow wl.heap.size 2 1 v1 L1.length (L1.map (Value.int .i64))
  o2 : wx.ownsRow wl.heap.size 2 1 v2 L2.length (L2.map (Value.int .i64))
  ap : ∀ b, v1.ownBlock = some b → v2.ownBlock ≠ some b
  bel : Below wl.heap.size wl wx
theorem TwQ.below {wl wx u : World} {v1 v2 : Value} {L1 L2 : List Int} (s : TwQ wl wx v1 v2 L1 L2) (hb : Below wx.heap.size wx u) : TwQ wl u v1 v2 L1 L2 := ⟨own_below s.o1 hb (Nat.le_refl _), own_below s.o2 hb (Nat.le_refl _), s.ap, s.bel.trans (hb.mono s.bel.size)⟩
theorem memAtQ {p : List Int} {v : Int} (h : v ∈ p) : ∃ i, i < p.length ∧ p.getD i 0 = v := by
  obtain ⟨i, hi, e⟩ := List.getElem_of_mem h
  exact ⟨i, hi, by simp [List.getD, hi, e]⟩
set_option maxRecDepth 100000 in
set_option maxHeartbeats 1000000 in
theorem sHasQ_any (A : Option Addr) (n c : Nat) (p : List Int) (x : Int) (w : World) (hl : n ≤ 1048576) (r : RdI w w.heap.size A n p) :
    Calls Tryz.prog 87 #[.slice A n c, .int .i64 x] w fun e w' => e = .returned (.bool (decide (x ∈ p))) ∧ w' = w := by
  have RS := Lib.hid r
  have hlen := r.1
  have HLN := Lib.hid hlen
  clear r hlen
  go_enter Tryz.func87, Tryz.ntmps87
  go_wp2
  go_loopw [5] (fun i wr => ∃ k : Nat, k ≤ n ∧ i = .int .i64 k ∧ (∀ m, m < k → ¬ p.getD m 0 = x) ∧ wr = w) (fun i _ => n - (intOf i).toNat)
  case atStart => exact ⟨0, Nat.zero_le _, rfl, fun m hm => absurd hm (by omega), rfl⟩
  case round =>
    obtain ⟨k, hk, rfl, hpl, rfl⟩ := hrel
    have HP := Lib.hid hpl
    clear hpl
    by_cases hlt : k < n
    · obtain ⟨b, off, hA, hbb, hcells⟩ := RS.out.2 (show 0 < n by omega)
      have x0 := hcells k hlt
      have HM := Lib.hid (getL_mem (d := 0) (show k < p.length by have := HLN.out; omega))
      have HPP : Hid (¬ p.getD k 0 = x → ∀ m, m < k + 1 → ¬ p.getD m 0 = x) := Lib.hid fun e m hm => by
        by_cases e2 : m < k
        · exact HP.out m e2
        · obtain rfl : m = k := by omega
          exact e
      generalize p.getD k 0 = z at *
      subst hA
      clear hcells
      by_cases hz : z = x
      · have hd : (z == x) = true := by simp [hz]
        have HE : Hid (true = decide (x ∈ p)) := Lib.hid (decide_eq_true (by rw [← hz]; exact HM.out)).symm
        clear hz
        go_wp2
        go_ret
        exact ⟨ret_bool HE.out, rfl⟩
      · have hd : (z == x) = false := by simp [hz]
        have HQ := Lib.hid (HPP.out hz)
        clear hz
        go_wp2
        go_roundw
        case rel => exact ⟨k + 1, by omega, by go_num, HQ.out, by first | rfl | trivial⟩
        case measure => simp [intOf]; omega
    · have hkl : k = n := by omega
      subst hkl
      have HE : Hid (false = decide (x ∈ p)) := Lib.hid (decide_eq_false fun hm => by
        obtain ⟨i, hi, e⟩ := memAtQ hm
        exact HP.out i (by have := HLN.out; omega) e).symm
      go_wp2
      go_ret
      exact ⟨ret_bool HE.out, rfl⟩
end
section
set_option linter.unusedSimpArgs false
set_option linter.unusedVariables false
open Go.ChangeAt Go.ChangeShapes Go.RowKit Go.WideShapes
end
section
set_option linter.unusedSimpArgs false
set_option linter.unusedVariables false
open Go.ChangeAt Go.ChangeShapes Go.RowKit Go.WideShapes

theorem from_lxQ {N : Nt} (hv : valN N = true) (x : Int) : firstN (srcB x) N.l = lxN outL N x := first_ext fun l hl => srcB_is (fitsN_kind ((List.all_eq_true.1 (valN_fits hv)) l hl))
theorem to_lxQ {N : Nt} (x : Int) : firstN (tgtB x) N.l = lxN inL N x := first_ext fun l _ => tgtB_is l x
end
section
set_option linter.unusedSimpArgs false
set_option linter.unusedVariables false
open Go.ChangeAt Go.ChangeShapes Go.RowKit Go.WideShapes
end
section
open Go.ChangeAt Go.ChangeShapes Go.RowKit Go.WideShapes
end
end Go.Proofs.YtfdpkhiiboghiaaGreatDoor
