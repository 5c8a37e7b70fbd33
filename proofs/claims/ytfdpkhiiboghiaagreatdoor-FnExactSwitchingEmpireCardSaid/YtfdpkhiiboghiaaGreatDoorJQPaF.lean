/- slices.IndexFunc and slices.DeleteFunc at rows of numbers. Made by mkpaf.py. The program's IsFiringSequence, ReadyLinks, PartsAfter, OpenWires. slices.Min and slices.Max at increasing rows; parsedWith. Made by mkpah.py. The program's OpenWires, FiringOrder, LastFiringOrder, StuckLinks, CorrectByParsing. The program's FiringOrder, LastFiringOrder, StuckLinks, CorrectByParsing. Made by mkpaj.py; isWhole and what follows by hand (round 14). Mathematics of chapter 15: subnet sets, kingdoms, empires. The model's ParLinks, SwitchingCount, SwitchingOf. The model's sources and targets of wires, of chapter 11. Two rows that grow; the answer of RemovePar; the model's l11Has. slices.IndexFunc and slices.DeleteFunc at chapter 14's closures. Made by mksqb.py. The program's terminal links: isTerminal, TerminalLinks. The model: terminal links. Placing the parts of a net under given numbers: plain mathematics. A net in memory of its own that grows: its parts set and appended to. A net in memory of its own: parts of its rows replaced. Permutations, of the model. A net renumbered, of the model. -/
import Derived.Test.YtfdpkhiiboghiaaGreatDoorJQPaC
import Derived.Deep.RegionHeldLaw
import Derived.Deep.DeepCutAuto
import Derived.BigQuiet
import Derived.Lib.SliceRun
import Derived.Deep.LoopGhost
import Derived.Test.YtfdpkhiiboghiaaGreatDoorJQSqM
import Derived.Test.YtfdpkhiiboghiaaGreatDoorJQSwM
import Derived.Test.YtfdpkhiiboghiaaGreatDoorJQNetZ
import Derived.Test.YtfdpkhiiboghiaaGreatDoorJQNetV
import Derived.Test.YtfdpkhiiboghiaaGreatDoorJQMath
import Derived.Test.YtfdpkhiiboghiaaGreatDoorJQPgA
namespace Go.Proofs.YtfdpkhiiboghiaaGreatDoor
set_option linter.unusedSimpArgs false
set_option linter.unusedVariables false
section
set_option linter.unusedSimpArgs false
set_option linter.unusedVariables false
open Go.ChangeAt Go.ChangeShapes Go.RowKit Go.WideShapes

/-- What is kept of the first j numbers. -/
def kpI (d : Int → Bool) (xs : List Int) (j : Nat) : List Int := (xs.take j).filter fun x => !d x
theorem kpI_yes {d : Int → Bool} {xs : List Int} {j : Nat} (h : j < xs.length) (hk : d (xs.getD j 0) = false) : kpI d xs (j + 1) = kpI d xs j ++ [xs.getD j 0] := by
  unfold kpI; rw [takeL_succ (d := (0 : Int)) h, List.filter_append]
  simp only [List.filter_cons, List.filter_nil, hk, Bool.not_false, if_true]
theorem kpI_no {d : Int → Bool} {xs : List Int} {j : Nat} (h : j < xs.length) (hk : d (xs.getD j 0) = true) : kpI d xs (j + 1) = kpI d xs j := by
  unfold kpI; rw [takeL_succ (d := (0 : Int)) h, List.filter_append]
  simp only [List.filter_cons, List.filter_nil, hk, Bool.not_true]
  simp
theorem kpI_all {d : Int → Bool} {xs : List Int} {k : Nat} (hk : k ≤ xs.length) (h : ∀ m, m < k → d (xs.getD m 0) = false) : kpI d xs k = xs.take k := by
  unfold kpI
  rw [List.filter_eq_self]
  intro a ha
  obtain ⟨m, hm, e⟩ := List.getElem_of_mem ha
  rw [List.length_take] at hm
  have := h m (by omega)
  have e2 : xs.getD m 0 = a := by
    rw [← e, List.getElem_take]
    simp [List.getD, show m < xs.length by omega]
  rw [e2] at this
  rw [this]; rfl
/-- The row while it is being filtered: m are kept of the first j. -/
structure FltI (d : Int → Bool) (xs cur : List Int) (j m : Nat) : Prop where
  len : cur.length = xs.length
  kept : m = (kpI d xs j).length
  lt : m < j
  front : cur.take m = kpI d xs j
  back : ∀ x, j ≤ x → x < xs.length → cur.getD x 0 = xs.getD x 0
theorem FltI.start {d : Int → Bool} {xs : List Int} {k : Nat} (hk : k < xs.length) (h : ∀ m, m < k → d (xs.getD m 0) = false) (hd : d (xs.getD k 0) = true) : FltI d xs xs (k + 1) k := by
  have e : kpI d xs (k + 1) = xs.take k := by rw [kpI_no hk hd, kpI_all (by omega) h]
  exact ⟨rfl, by rw [e, List.length_take]; omega, by omega, e.symm, fun _ _ _ => rfl⟩
theorem FltI.drop {d : Int → Bool} {xs cur : List Int} {j m : Nat} (s : FltI d xs cur j m) (hj : j < xs.length) (hd : d (xs.getD j 0) = true) : FltI d xs cur (j + 1) m :=
  ⟨s.len, by rw [kpI_no hj hd]; exact s.kept, by have := s.lt; omega, by rw [kpI_no hj hd]; exact s.front, fun x h1 h2 => s.back x (by omega) h2⟩
theorem FltI.keep {d : Int → Bool} {xs cur : List Int} {j m : Nat} (s : FltI d xs cur j m) (hj : j < xs.length) (hd : d (xs.getD j 0) = false) : FltI d xs (cur.set m (xs.getD j 0)) (j + 1) (m + 1) := by
  have hm := s.lt
  have hlen := s.len
  refine ⟨by rw [List.length_set]; exact s.len, by rw [kpI_yes hj hd, List.length_append, ← s.kept]; rfl, by omega, ?_, fun x h1 h2 => ?_⟩
  · rw [kpI_yes hj hd, ← s.front]
    generalize xs.getD j 0 = a
    rw [List.take_succ_eq_append_getElem (by rw [List.length_set]; omega), List.take_set_of_le (Nat.le_refl m)]
    simp
  · rw [← s.back x (by omega) h2]
    generalize xs.getD j 0 = a
    simp only [List.getD]
    rw [List.getElem?_set_ne (by omega)]
end
section
set_option linter.unusedSimpArgs false
set_option linter.unusedVariables false
open Go.ChangeAt Go.ChangeShapes Go.RowKit Go.WideShapes

def paU (N : Nt) (fs : List Int) (k : Nat) : List Int := (List.range k).map fun x : Nat => qN N fs (frN N (x : Int))
theorem paU_len (N : Nt) (fs : List Int) (k : Nat) : (paU N fs k).length = k := by simp [paU]
end
section
set_option linter.unusedSimpArgs false
set_option linter.unusedVariables false
open Go.ChangeAt Go.ChangeShapes Go.RowKit Go.WideShapes

theorem allQ_inc (N : Nt) (fs : List Int) : (allQ N fs).Pairwise (· < ·) := by
  unfold allQ
  apply List.Pairwise.filter
  rw [List.pairwise_map]
  refine List.Pairwise.imp (R := fun a b : Nat => a < b) (fun h => by omega) List.pairwise_lt_range
theorem inc_at {L : List Int} (h : L.Pairwise (· < ·)) {i j : Nat} (hij : i < j) (hj : j < L.length) : L.getD i 0 < L.getD j 0 := by
  have := List.pairwise_iff_getElem.1 h i j (by omega) hj hij
  simpa [List.getD, show i < L.length by omega, hj] using this
theorem allQ_nat {N : Nt} {fs : List Int} {x : Int} (h : x ∈ allQ N fs) : ∃ k : Nat, x = (k : Int) ∧ k < N.l.length := by
  have h1 := (okF_yes (allQ_ok h)).1
  exact ⟨x.toNat, (inW_yes h1).2.2, (inW_yes h1).2.1⟩
set_option maxHeartbeats 1000000 in
theorem min_any (A : Option Addr) (c : Nat) (L : List Int) (w : World) (r : RdI w w.heap.size A L.length L) (hl : L.length ≤ 1048576) (h0 : 0 < L.length) (hs : L.Pairwise (· < ·)) :
    Calls Tryz.prog 116 #[.slice A L.length c] w fun e w' => e = .returned (.int .i64 (pkF false L)) ∧ w = w' := by
  obtain ⟨b, off, rfl, hbb, hcells⟩ := r.2 h0
  have HC := Lib.hid hcells
  have x0 := hcells 0 h0
  rw [Nat.add_zero] at x0
  have HM := Lib.hid (fun (k : Nat) (hk : k < L.length) (hk1 : 1 ≤ k) => show min (L.getD 0 0) (L.getD k 0) = L.getD 0 0 by
    have := inc_at hs (i := 0) (j := k) (by omega) hk
    omega)
  have HE : Hid (L.getD 0 0 = pkF false L) := Lib.hid rfl
  have d1 : decide ((L.length : Int) < 1) = false := decide_eq_false (by omega)
  have hli : (0 : Int) < (L.length : Int) := by omega
  clear r hs hcells
  generalize L.getD 0 0 = z0 at *
  generalize pkF false L = res at *
  go_enter Tryz.func116, Tryz.ntmps116
  go_wp2
  clear x0 d1
  go_loopw [3, 4] (fun m i wr => ∃ k : Nat, 1 ≤ k ∧ k ≤ L.length ∧ i = .int .i64 k ∧ m = .int .i64 z0 ∧ w = wr) (fun _ i _ => L.length - (intOf i).toNat)
  case atStart => exact ⟨1, by omega, by omega, by go_num, rfl, rfl⟩
  case round =>
    obtain ⟨k, hk1, hk, rfl, rfl, rfl⟩ := hrel
    by_cases hlt : k < L.length
    · have x1 := HC.out k hlt
      have hm := HM.out k hlt hk1
      generalize L.getD k 0 = z at *
      go_wp2
      go_roundw
      case rel => exact ⟨k + 1, by omega, by omega, by go_num, rfl, by first | rfl | trivial⟩
      case measure => simp [intOf]; omega
    · have hkl : k = L.length := by omega
      subst hkl
      go_wp2
      go_ret
      exact ⟨ret_i64 HE.out, rfl⟩
set_option maxRecDepth 100000 in
set_option maxHeartbeats 1000000 in
theorem parsedWithMin_any (h : NH) (N : Nt) (w : World) (hv : valN N = true) (r : RdN w w.heap.size h N) :
    Calls Tryz.prog 115 #[.agg #[.slice h.A N.w.length h.c, .slice h.L N.l.length h.d, .slice h.C N.c.length h.e], .func (.func 116) #[] #[]] w (GivesPz w h N (ordN N false)) := by
  have h48l := (valN_size hv).2
  obtain ⟨w0, hw0⟩ : ∃ w0, w0 = w.alloc (.cells #[.slice h.A N.w.length h.c, .slice h.L N.l.length h.d, .slice h.C N.c.length h.e] 30) := ⟨_, rfl⟩
  obtain ⟨hb, hh, hsz⟩ := box3_any w (.slice h.A N.w.length h.c) (.slice h.L N.l.length h.d) (.slice h.C N.c.length h.e) 30
  rw [← hw0] at hb hh hsz
  have HPO := Lib.hid (parsingOf_any h N w0 hv ((r.below hb).more hb.size))
  have HB0 := Lib.hid hb
  have HRL := Lib.hid (fun (g : Nat) (fs : List Int) (r1 : PzH) (wx : World) (s : PzS wx g h N fs r1) => readyLinks_any h N g fs r1 wx hv s)
  have HFI := Lib.hid (fun (g f : Nat) (fs : List Int) (r1 : PzH) (wx : World) (s : PzS wx g h N fs r1) (ho : okF N fs (f : Int) = true) => fire_any h N g f fs r1 wx hv s ho)
  obtain ⟨y0, y1, y2⟩ := three_cells hh
  clear hb hh hsz r hv
  go_enter Tryz.func115, Tryz.ntmps115
  go_wp2_with (fail)
  rw [← hw0]
  clear hw0
  refine HPO.out.mono ?_
  rintro e w1 ⟨g, r1, rfl, hg, hP, bel1⟩
  have B1 := Lib.hid bel1
  have HP1 := Lib.hid hP
  have HG : Hid (w0.heap.size ≤ g) := Lib.hid hg
  clear bel1 hP y0 y1 y2 hg
  go_wp2_with (fail)
  refine (HRL.out g [] r1 w1 HP1.out).mono ?_
  rintro e w2 ⟨A2, c2, rfl, own2, bel2⟩
  have B2 := Lib.hid (B1.out.trans (bel2.mono B1.out.size))
  have HP2 := Lib.hid (HP1.out.below bel2)
  have R2 := Lib.hid (RdI.of_own own2)
  clear own2 bel2
  have HLQ := Lib.hid (fun (fs : List Int) => show (allQ N fs).length ≤ 48 from by have := alU_len N fs N.l.length; rw [alU_all] at this; omega)
  have hl2 := HLQ.out []
  go_wp2
  go_loopg [6] N.l.length (fun k v wr => ∃ (fs : List Int) (r3 : PzH) (A : Option Addr) (c : Nat), Hid (k = N.l.length - fs.length) ∧ v = .slice A (allQ N fs).length c ∧ Hid (OrdS N false fs) ∧ PzS wr g h N fs r3 ∧ RdI wr wr.heap.size A (allQ N fs).length (allQ N fs) ∧ Below w0.heap.size w0 wr)
  case atStart => exact ⟨[], r1, A2, c2, Lib.hid rfl, rfl, Lib.hid (OrdS.start N false), HP2.out, R2.out, B2.out⟩
  case round =>
    obtain ⟨fs, r3, A, c, hk, rfl, hO, hP, hR, hB⟩ := hrel
    clear HP2 R2 B2 HP1 B1 hl2
    by_cases hne : allQ N fs = []
    · have hstop := hO.out.stop hne
      have hlen : (allQ N fs).length = 0 := by rw [hne]; rfl
      rw [hstop] at hP
      have HE : Hid (GivesPz w h N (ordN N false) (.returned (.pointer (some ⟨g, 0, none⟩))) wr) := Lib.hid ⟨g, r3, rfl, Nat.le_trans HB0.out.size HG.out, hP, HB0.out.trans (hB.mono HB0.out.size)⟩
      clear hP hR hB hstop hne hO
      generalize (allQ N fs).length = q at *
      subst hlen
      go_wp2
      go_ret
      exact HE.out
    · have hpos : 0 < (allQ N fs).length := List.length_pos_iff.2 hne
      have d1 : decide ((0 : Int) < ((allQ N fs).length : Int)) = true := decide_eq_true (by omega)
      have hl48 := HLQ.out fs
      have hmem := pkF_mem (last := false) hne
      obtain ⟨f, hf, hfl⟩ := allQ_nat hmem
      have hok := allQ_ok hmem
      rw [hf] at hok
      have HMIN := Lib.hid (min_any A c (allQ N fs) wr hR (by omega) hpos (allQ_inc N fs))
      rw [hf] at HMIN
      have hos := hO.out.step hne
      rw [hf] at hos
      have hosl := hos.len
      rw [List.length_append, List.length_singleton] at hosl
      have HOS := Lib.hid hos
      have HKK : Hid (N.l.length - (fs ++ [(f : Int)]).length < gk) := Lib.hid (by rw [hk.out, List.length_append, List.length_singleton]; omega)
      have HFF := Lib.hid (HFI.out g f fs r3 wr hP hok)
      have HB := Lib.hid hB
      clear hne hmem hf hok hos hosl hP hR hB hO hk
      have hl48b := HLQ.out (fs ++ [(f : Int)])
      generalize allQ N fs = L at *
      go_wp2_with (fail)
      refine HMIN.out.mono ?_
      rintro e w3 ⟨rfl, rfl⟩
      go_wp2_with (fail)
      refine HFF.out.mono ?_
      rintro e w4 ⟨rfl, ⟨r4, hP4⟩, bel4⟩
      have HP4 := Lib.hid hP4
      have HB4 := Lib.hid (HB.out.trans (bel4.mono HG.out))
      clear hP4 bel4 d1
      go_wp2_with (fail)
      refine (HRL.out g _ r4 w4 HP4.out).mono ?_
      rintro e w5 ⟨A5, c5, rfl, own5, bel5⟩
      have HP5 := Lib.hid (HP4.out.below bel5)
      have R5 := Lib.hid (RdI.of_own own5)
      have HB5 := Lib.hid (HB4.out.trans (bel5.mono HB4.out.size))
      clear own5 bel5
      go_wp2
      go_roundg (N.l.length - (fs ++ [(f : Int)]).length)
      case measure => exact HKK.out
      case rel => exact ⟨fs ++ [(f : Int)], r4, A5, c5, Lib.hid rfl, rfl, HOS, HP5.out, R5.out, HB5.out⟩
end
section
set_option linter.unusedSimpArgs false
set_option linter.unusedVariables false
open Go.ChangeAt Go.ChangeShapes Go.RowKit Go.WideShapes
end
section
set_option linter.unusedSimpArgs false
set_option linter.unusedVariables false
open Go.ChangeAt Go.ChangeShapes Go.RowKit Go.WideShapes

def cbV (N : Nt) : Bool := valN N && (decide ((ordN N false).length = N.l.length) && decide (cntQ (qN N (ordN N false)) = 1))
set_option maxRecDepth 100000 in
set_option maxHeartbeats 1000000 in
/-- isWhole: all links have been fired, into one part. -/
theorem isWhole_any (h : NH) (N : Nt) (g : Nat) (fs : List Int) (r : PzH) (w : World) (hP : PzS w g h N fs r) (h48 : N.l.length ≤ 48) :
    Calls Tryz.prog 117 #[.pointer (some ⟨g, 0, none⟩)] w fun e w' => e = .returned (.bool (decide (fs.length = N.l.length) && decide (cntQ (qN N fs) = 1))) ∧ ∃ m, w' = w.drewN m := by
  have hT := hP.uf.len
  have x52 := hP.box.row hT
  have x51 := hP.box.cnt hT
  have hol := hP.ok.len
  have y0 := hP.box.three.1
  clear hP hT
  generalize cntQ (qN N fs) = c at *
  generalize fs.length = q at *
  by_cases he : q = N.l.length
  · have d1 : ((q : Int) == (N.l.length : Int)) = true := by simp [he]
    have HCC : Hid ((c == 1) = (decide (q = N.l.length) && decide (c = 1))) := Lib.hid (by rw [decide_eq_true he, Bool.true_and]; rfl)
    clear he
    generalize (decide (q = N.l.length) && decide (c = 1)) = res at *
    go_enter Tryz.func117, Tryz.ntmps117
    go_upto_region 1 with (fail)
    go_quiet (fail)
    go_wp2
    go_ret
    exact ⟨ret_bool HCC.out, _, rfl⟩
  · have d1 : ((q : Int) == (N.l.length : Int)) = false := by simp; omega
    have HCC : Hid (false = (decide (q = N.l.length) && decide (c = 1))) := Lib.hid (by rw [decide_eq_false he]; rfl)
    clear he
    generalize (decide (q = N.l.length) && decide (c = 1)) = res at *
    go_enter Tryz.func117, Tryz.ntmps117
    go_upto_region 1 with (fail)
    go_quiet (fail)
    go_wp2
    go_ret
    exact ⟨ret_bool HCC.out, _, rfl⟩
set_option maxRecDepth 100000 in
set_option maxHeartbeats 1000000 in
theorem parsing_impl (h : NH) (N : Nt) (w : World) (r : RdN w w.heap.size h N) (sm : SmallN N) (ht : Arit w) (hu : Dual w) :
    Calls Tryz.prog 60 #[.agg #[.slice h.A N.w.length h.c, .slice h.L N.l.length h.d, .slice h.C N.c.length h.e]] w fun e w' => e = .returned (.bool (cbV N)) ∧ Below w.heap.size w w' := by
  obtain ⟨w0, hw0⟩ : ∃ w0, w0 = w.alloc (.cells #[.slice h.A N.w.length h.c, .slice h.L N.l.length h.d, .slice h.C N.c.length h.e] 30) := ⟨_, rfl⟩
  obtain ⟨hb, hh, hsz⟩ := box3_any w (.slice h.A N.w.length h.c) (.slice h.L N.l.length h.d) (.slice h.C N.c.length h.e) 30
  rw [← hw0] at hb hh hsz
  have hs0 : w.heap.size + 1 ≤ w0.heap.size := by omega
  have HK : Hid (∀ w', Below w0.heap.size w0 w' → w'.cell? ⟨w.heap.size, 0, none⟩ = some (.slice h.A N.w.length h.c) ∧ w'.cell? ⟨w.heap.size, 1, none⟩ = some (.slice h.L N.l.length h.d) ∧ w'.cell? ⟨w.heap.size, 2, none⟩ = some (.slice h.C N.c.length h.e)) := Lib.hid fun w' hw => three_cells ((hw.block _ (by omega)).trans hh)
  have HV := Lib.hid (validNet_impl h N w0 ((r.below hb).more hb.size) sm (ht.below hb ht.lt) (hu.below hb hu.lt))
  have HPW := Lib.hid (fun hv (wx : World) (hx : Below w0.heap.size w0 wx) => parsedWithMin_any h N wx hv ((r.below (hb.trans (hx.mono hb.size))).more (Nat.le_trans hb.size hx.size)))
  have HB0 := Lib.hid hb
  obtain ⟨y0, y1, y2⟩ := three_cells hh
  clear hb hh hsz r ht hu sm
  cases hv : valN N with
  | false =>
    rw [hv] at HV
    have HVV := Lib.hid hv
    clear hv HPW
    go_enter Tryz.func60, Tryz.ntmps60
    go_wp2_with (fail)
    rw [← hw0]
    clear hw0
    refine HV.out.mono ?_
    rintro e w1 ⟨rfl, bel1⟩
    have HB1 := Lib.hid (HB0.out.trans (bel1.mono HB0.out.size))
    clear bel1 y0 y1 y2
    have HG : Hid (false = cbV N) := Lib.hid (by unfold cbV; rw [HVV.out]; rfl)
    go_wp2
    go_ret
    exact ⟨ret_bool HG.out, HB1.out⟩
  | true =>
    rw [hv] at HV
    have HVV := Lib.hid hv
    have h48 := valN_size hv
    clear hv
    go_enter Tryz.func60, Tryz.ntmps60
    go_wp2_with (fail)
    rw [← hw0]
    clear hw0
    refine HV.out.mono ?_
    rintro e w1 ⟨rfl, bel1⟩
    have B1 := Lib.hid bel1
    clear bel1 y0 y1 y2
    obtain ⟨y0, y1, y2⟩ := HK.out _ B1.out
    go_wp2_with (fail)
    refine (HPW.out HVV.out w1 B1.out).mono ?_
    rintro e w2 ⟨g, r1, rfl, hg, hP, bel2⟩
    have B2 := Lib.hid (B1.out.trans (bel2.mono B1.out.size))
    have HB2 := Lib.hid (HB0.out.trans (B2.out.mono HB0.out.size))
    have hwg : w.heap.size ≤ g := Nat.le_trans HB0.out.size (Nat.le_trans B1.out.size hg)
    clear bel2 y0 y1 y2 hg
    have HW := Lib.hid (isWhole_any h N g (ordN N false) r1 w2 hP h48.2)
    have HC : Hid ((decide ((ordN N false).length = N.l.length) && decide (cntQ (qN N (ordN N false)) = 1)) = cbV N) := Lib.hid (by unfold cbV; rw [HVV.out, Bool.true_and])
    rw [HC.out] at HW
    have HBD := Lib.hid (fun n => below_drewN HB2.out n)
    clear hP hwg HPW
    go_wp2_with (fail)
    refine HW.out.mono ?_
    rintro e w3 ⟨rfl, m, rfl⟩
    have HBE := Lib.hid (HBD.out m)
    go_wp2
    go_ret
    exact ⟨rfl, HBE.out⟩
end
section
set_option linter.unusedSimpArgs false
set_option linter.unusedVariables false
open Go.ChangeAt Go.ChangeShapes Go.RowKit Go.WideShapes

/-- Has a wire a kingdom? -/
def kgB (N : Nt) (x : Int) : Bool := cbV N && (decide (N.l.length ≤ 10) && inW N.w.length x)
theorem kgB_yes {N : Nt} {x : Int} (h : kgB N x = true) : valN N = true ∧ cbV N = true ∧ N.l.length ≤ 10 ∧ inW N.w.length x = true := by
  simp only [kgB, Bool.and_eq_true, decide_eq_true_eq] at h
  have h1 := h.1
  unfold cbV at h1
  rw [Bool.and_eq_true] at h1
  exact ⟨h1.1, h.1, h.2.1, h.2.2⟩
theorem pow_le10 {n : Nat} (h : n ≤ 10) : 2 ^ n ≤ 1024 := Nat.pow_le_pow_right (n := 2) (by decide) h
/-- All links. -/
theorem all_bit {n : Nat} (hn : n ≤ 64) (k : Nat) : (orS (markL 0 n)).testBit k = decide (k < n) := by
  rw [orS_bit, decide_eq_decide]
  have : (k : Int) ∈ markL 0 n ↔ k < n := by
    unfold markL
    rw [List.mem_map]
    constructor
    · rintro ⟨i, hi, e⟩; have := List.mem_range.1 hi; omega
    · intro h; exact ⟨k, List.mem_range.2 h, by omega⟩
  rw [this]; omega
theorem lks_of {n s : Nat} {p : Nat → Bool} (hn : n ≤ 64) (h : ∀ k, s.testBit k = (decide (k < n) && p k)) : lkS s = selU p n := by
  have hi : inS n s := fun k hk => by
    rw [h, Bool.and_eq_true, decide_eq_true_eq] at hk; exact hk.1
  rw [inS_lks hi hn]
  exact selU_ext fun j hj => by rw [h, decide_eq_true hj]; rfl
/-- The model's list of a set. -/
def mlS (n s : Nat) : List Int := selU s.testBit n
end
section
set_option linter.unusedSimpArgs false
set_option linter.unusedVariables false
open Go.ChangeAt Go.ChangeShapes Go.RowKit Go.WideShapes

theorem bit_i64 (a : Nat) (h : a < 9223372036854775808) : bits .and .i64 (a : Int) 1 = (a : Int) % 2 := by
  have h1 : (BitVec.ofInt 64 (a : Int)).toNat = a := by
    rw [BitVec.ofInt_natCast, BitVec.toNat_ofNat]; exact Nat.mod_eq_of_lt (by omega)
  show IntKind.i64.wrap ((BitVec.ofInt 64 (a : Int) &&& BitVec.ofInt 64 ((1 : Nat) : Int)).toNat : Int) = _
  have h2 : (BitVec.ofInt 64 ((1 : Nat) : Int)).toNat = 1 := rfl
  have h3 : a &&& 1 = a % 2 := Nat.and_two_pow_sub_one_eq_mod a 1
  rw [BitVec.toNat_and, h1, h2, h3, IntWalk.i64_in _ (by omega)]
  omega
theorem bit_u64 (a : Nat) (h : a < 9223372036854775808) : bits .and .u64 (a : Int) 1 = (a : Int) % 2 := by
  have h3 : a &&& 1 = a % 2 := Nat.and_two_pow_sub_one_eq_mod a 1
  have := bits_and_u64_nat a 1 (by omega) (by omega)
  rw [h3] at this
  exact this.trans (by omega)
set_option maxRecDepth 100000 in
set_option maxHeartbeats 2000000 in
theorem sPars_any (h : NH) (N : Nt) (w : World) (r : RdN w w.heap.size h N) (hl : N.l.length ≤ 1048576) :
    Calls Tryz.prog 72 #[.agg #[.slice h.A N.w.length h.c, .slice h.L N.l.length h.d, .slice h.C N.c.length h.e]] w (Gives w (prkN N)) := by
  obtain ⟨i0, hi0, hz0, hz1, hz2⟩ := info_parts info_i64
  have HI := Lib.hid hi0; have HZ0 := Lib.hid hz0; have HZ1 := Lib.hid hz1; have HZ2 := Lib.hid hz2
  obtain ⟨w0, hw0⟩ : ∃ w0, w0 = w.alloc (.cells #[.slice h.A N.w.length h.c, .slice h.L N.l.length h.d, .slice h.C N.c.length h.e] 30) := ⟨_, rfl⟩
  obtain ⟨hb, hh, hsz⟩ := box3_any w (.slice h.A N.w.length h.c) (.slice h.L N.l.length h.d) (.slice h.C N.c.length h.e) 30
  rw [← hw0] at hb hh hsz
  have hs0 : w.heap.size + 1 ≤ w0.heap.size := by omega
  have HK : Hid (∀ w', Below w0.heap.size w0 w' → w'.cell? ⟨w.heap.size, 0, none⟩ = some (.slice h.A N.w.length h.c) ∧ w'.cell? ⟨w.heap.size, 1, none⟩ = some (.slice h.L N.l.length h.d) ∧ w'.cell? ⟨w.heap.size, 2, none⟩ = some (.slice h.C N.c.length h.e)) := Lib.hid fun w' hw => three_cells ((hw.block _ (by omega)).trans hh)
  have HR := Lib.hid (fun (w' : World) (hw : Below w0.heap.size w0 w') => ((r.below (hb.trans (hw.mono hb.size))).more (Nat.le_trans hb.size hw.size)))
  have HB0 := Lib.hid hb
  have h0 : (w0.alloc (.cells #[] 2)).ownsRow w0.heap.size 2 1 (.slice (some ⟨w.heap.size + 1, 0, none⟩) 0 0) 0 ((kinU 4 N.l 0).map (Value.int .i64)) := by rw [← hsz]; exact World.ownsRow_made w0 #[] 0 (Nat.le_refl _) (by simp [maxLen]) rfl
  have hb1 : Below w0.heap.size w0 (w0.alloc (.cells #[] 2)) := (Below.refl _ _).alloc (Nat.le_refl _) _
  have H0 := Lib.hid h0; have HB1 := Lib.hid hb1
  clear hb hh hsz r hi0 hz0 hz1 hz2 h0 hb1
  go_enter Tryz.func72, Tryz.ntmps72
  go_wp2
  rw [← hw0]
  clear hw0
  go_loopw [3, 4] (fun v i wx => ∃ k : Nat, k ≤ N.l.length ∧ i = .int .i64 k ∧ wx.ownsRow w0.heap.size 2 1 v (kinU 4 N.l k).length ((kinU 4 N.l k).map (Value.int .i64)) ∧ Below w0.heap.size w0 wx) (fun _ i _ => N.l.length - (intOf i).toNat)
  case atStart => exact ⟨0, Nat.zero_le _, rfl, H0.out, HB1.out⟩
  case round =>
    obtain ⟨k, hk, rfl, hO, hB⟩ := hrel
    clear H0 HB1
    obtain ⟨y0, y1, y2⟩ := HK.out _ hB
    by_cases hlt : k < N.l.length
    · obtain ⟨b, off, hA, hbb, hcells⟩ := (HR.out _ hB).2.1.at (by omega)
      obtain ⟨x0, _, _, _⟩ := hcells k hlt
      obtain ⟨l, hl'⟩ : ∃ l, N.l.getD k Lk.nil = l := ⟨_, rfl⟩
      rw [hl'] at x0
      rw [hA] at y1
      have HO := Lib.hid hO; have HB := Lib.hid hB
      have hsz1 := hB.size
      clear hO hB hcells hA
      by_cases hkd : l.k = 4
      · have hd : (l.k == 4) = true := by simpa using hkd
        have HS := Lib.hid (kinU_yes (x := 4) (ls := N.l) (k := k) (by rw [hl']; exact hkd))
        clear hkd hl'
        have hln := kinU_len 4 N.l k
        have HLN : Hid ((kinU 4 N.l (k + 1)).length = (kinU 4 N.l k).length + 1) := Lib.hid (by rw [HS.out]; simp)
        go_wp2_with (at_builtin; refine wpList_append_own _ rfl _ _ 24 rfl w0.heap.size 2 i0 (.int .i64 0) 1 8 Tryz.underlying24 HI.out HZ0.out HZ1.out HZ2.out rfl (by decide) _ _ _ rfl (HO.out.alloc _) ⟨wr.heap.size, 0, none⟩ 1 1 [.int .i64 k] rfl rfl ?c1 ?c2 ?c3 ?c4 ?c5 ?_)
        case c1 => exact cell_one_new _ _ _
        case c2 => intro u hu; simp at hu; subst hu; rfl
        case c3 => unfold maxLen; omega
        case c4 => omega
        case c5 => simp; omega
        intro v' w2 hown' hgrow _
        have hb2 := Lib.hid ((HB.out.alloc hsz1 (.cells #[.int .i64 k] 2)).grown hgrow (by simp; omega) (fun q hq => (HO.out.lt q hq).1))
        have hown2 : w2.ownsRow w0.heap.size 2 1 v' (kinU 4 N.l (k + 1)).length ((kinU 4 N.l (k + 1)).map (Value.int .i64)) := by
          rw [HLN.out, HS.out, List.map_append]; exact hown'
        have hown1 := Lib.hid hown2
        clear hown' hgrow hown2 hsz1
        go_wp2
        go_roundw
        case rel => exact ⟨k + 1, by omega, by go_num, hown1.out, hb2.out⟩
        case measure => simp [intOf]; omega
      · have hd : (l.k == 4) = false := by simpa using hkd
        have HS := Lib.hid (kinU_no (x := 4) (ls := N.l) (k := k) (by rw [hl']; exact hkd))
        have HO1 := HO.out
        rw [← HS.out] at HO1
        have HO2 := Lib.hid HO1
        clear hkd hl' HO1
        go_wp2
        go_roundw
        case rel => exact ⟨k + 1, by omega, by go_num, HO2.out, HB.out⟩
        case measure => simp [intOf]; omega
    · have hkl : k = N.l.length := by omega
      subst hkl
      have HG := Lib.hid (gives_of (ys := prkN N) hO rfl rfl (Nat.le_trans (Nat.le_succ _) hs0) (HB0.out.trans (hB.mono HB0.out.size)))
      clear hO hB
      go_wp2
      go_ret
      exact HG.out
/-- ParLinks. -/
theorem kin_prk {N : Nt} (hv : valN N = true) : kinN N 4 = prkN N := by unfold kinN; rw [hv]; rfl
end
section
set_option linter.unusedSimpArgs false
set_option linter.unusedVariables false
open Go.ChangeAt Go.ChangeShapes Go.RowKit Go.WideShapes

set_option maxRecDepth 100000 in
set_option maxHeartbeats 4000000 in
theorem smFrom_any (A L C : Option Addr) (n c d m e0 : Nat) (ls : List Lk) (x : Int) (w : World) (rl : RdL w w.heap.size L ls.length ls) (hl : ls.length ≤ 1048576) :
    Calls Tryz.prog 77 #[.agg #[.slice A n c, .slice L ls.length d, .slice C m e0], .int .i64 x] w fun e w' => e = .returned (.int .i64 (firstN (srcB x) ls)) ∧ Below w.heap.size w w' := by
  obtain ⟨w0, hw0⟩ : ∃ w0, w0 = w.alloc (.cells #[.slice A n c, .slice L ls.length d, .slice C m e0] 30) := ⟨_, rfl⟩
  obtain ⟨hb, hh, hsz⟩ := box3_any w (.slice A n c) (.slice L ls.length d) (.slice C m e0) 30
  rw [← hw0] at hb hh hsz
  have hs0 : w.heap.size + 1 ≤ w0.heap.size := by omega
  have HK : Hid (∀ w', Below w0.heap.size w0 w' → w'.cell? ⟨w.heap.size, 0, none⟩ = some (.slice A n c) ∧ w'.cell? ⟨w.heap.size, 1, none⟩ = some (.slice L ls.length d) ∧ w'.cell? ⟨w.heap.size, 2, none⟩ = some (.slice C m e0)) := Lib.hid fun w' hw => three_cells ((hw.block _ (by omega)).trans hh)
  have HRL := Lib.hid (fun (w' : World) (hw : Below w0.heap.size w0 w') => show RdL w' w'.heap.size L ls.length ls from (rl.below (hb.trans (hw.mono hb.size))).more (Nat.le_trans hb.size hw.size))
  have HB0 := Lib.hid hb
  obtain ⟨y0, y1, y2⟩ := three_cells hh
  clear hb hh hsz rl
  go_enter Tryz.func77, Tryz.ntmps77
  go_wp2
  rw [← hw0]
  clear hw0
  go_loopw [5] (fun i wx => ∃ k : Nat, k ≤ ls.length ∧ i = .int .i64 k ∧ (∀ j, j < k → srcB x (ls.getD j Lk.nil) = false) ∧ Below w0.heap.size w0 wx) (fun i _ => ls.length - (intOf i).toNat)
  case atStart => exact ⟨0, Nat.zero_le _, rfl, fun j hj => absurd hj (by omega), Below.refl _ _⟩
  case round =>
    obtain ⟨k, hk, rfl, hno, hB⟩ := hrel
    clear y0 y1 y2
    obtain ⟨y0, y1, y2⟩ := HK.out _ hB
    by_cases hlt : k < ls.length
    · obtain ⟨b, off, hA, hbb, hcells⟩ := (HRL.out _ hB).at (by omega)
      subst hA
      obtain ⟨x0, x1, x2, x3⟩ := hcells k hlt
      obtain ⟨⟨lk, la, lb, lc⟩, hl⟩ : ∃ l, ls.getD k Lk.nil = l := ⟨_, rfl⟩
      rw [hl] at x0 x1 x2 x3
      dsimp only at x0 x1 x2 x3
      obtain ⟨bl, z0, z1, z2, z3, zs⟩ := lnk_any wr ⟨lk, la, lb, lc⟩ 103
      dsimp only at bl z0 z1 z2 z3
      have BL := Lib.hid (hB.trans (bl.mono hB.size))
      have HNO := Lib.hid hno
      have HL := Lib.hid hl
      clear hcells hB bl zs hno hl
      by_cases h1 : lk = 1
      · subst h1
        by_cases ha : la = x
        · have da : (la == x) = true := by simpa using ha
          have HE : Hid ((k : Int) = firstN (srcB x) ls) := Lib.hid (firstN_at hlt HNO.out (by rw [HL.out]; simp [srcB, ha])).symm
          have HBB := Lib.hid (HB0.out.trans (BL.out.mono HB0.out.size))
          clear ha
          go_wp2
          go_ret
          exact ⟨ret_i64 HE.out, HBB.out⟩
        · have da : (la == x) = false := by simpa using ha
          by_cases hb : lb = x
          · have db : (lb == x) = true := by simpa using hb
            have HE : Hid ((k : Int) = firstN (srcB x) ls) := Lib.hid (firstN_at hlt HNO.out (by rw [HL.out]; simp [srcB, hb])).symm
            have HBB := Lib.hid (HB0.out.trans (BL.out.mono HB0.out.size))
            clear ha hb
            go_wp2
            go_ret
            exact ⟨ret_i64 HE.out, HBB.out⟩
          · have db : (lb == x) = false := by simpa using hb
            have HST := Lib.hid (below_step HNO.out (by rw [HL.out]; simp [srcB, ha, hb]))
            clear ha hb
            go_wp2
            go_roundw
            case rel => exact ⟨k + 1, by omega, by go_num, HST.out, BL.out⟩
            case measure => simp [intOf]; omega
      by_cases h3 : lk = 3
      · subst h3
        by_cases hc : lc = x
        · have dc : (lc == x) = true := by simpa using hc
          have HE : Hid ((k : Int) = firstN (srcB x) ls) := Lib.hid (firstN_at hlt HNO.out (by rw [HL.out]; simp [srcB, hc])).symm
          have HBB := Lib.hid (HB0.out.trans (BL.out.mono HB0.out.size))
          clear hc h1
          go_wp2
          go_ret
          exact ⟨ret_i64 HE.out, HBB.out⟩
        · have dc : (lc == x) = false := by simpa using hc
          have HST := Lib.hid (below_step HNO.out (by rw [HL.out]; simp [srcB, hc]))
          clear hc h1
          go_wp2
          go_roundw
          case rel => exact ⟨k + 1, by omega, by go_num, HST.out, BL.out⟩
          case measure => simp [intOf]; omega
      by_cases h4 : lk = 4
      · subst h4
        by_cases hc : lc = x
        · have dc : (lc == x) = true := by simpa using hc
          have HE : Hid ((k : Int) = firstN (srcB x) ls) := Lib.hid (firstN_at hlt HNO.out (by rw [HL.out]; simp [srcB, hc])).symm
          have HBB := Lib.hid (HB0.out.trans (BL.out.mono HB0.out.size))
          clear hc h1 h3
          go_wp2
          go_ret
          exact ⟨ret_i64 HE.out, HBB.out⟩
        · have dc : (lc == x) = false := by simpa using hc
          have HST := Lib.hid (below_step HNO.out (by rw [HL.out]; simp [srcB, hc]))
          clear hc h1 h3
          go_wp2
          go_roundw
          case rel => exact ⟨k + 1, by omega, by go_num, HST.out, BL.out⟩
          case measure => simp [intOf]; omega
      have d1 : (lk == 1) = false := by simpa using h1
      have d3 : (lk == 3) = false := by simpa using h3
      have d4 : (lk == 4) = false := by simpa using h4
      have HST := Lib.hid (below_step HNO.out (by rw [HL.out]; simp [srcB, h1, h3, h4]))
      clear h1 h3 h4
      go_wp2
      go_roundw
      case rel => exact ⟨k + 1, by omega, by go_num, HST.out, BL.out⟩
      case measure => simp [intOf]; omega
    · have hkl : k = ls.length := by omega
      subst hkl
      have HE : Hid ((-1 : Int) = firstN (srcB x) ls) := Lib.hid (firstN_none hno).symm
      have HBB := Lib.hid (HB0.out.trans (hB.mono HB0.out.size))
      clear hno
      go_wp2
      go_ret
      exact ⟨ret_i64 HE.out, HBB.out⟩
set_option maxRecDepth 100000 in
set_option maxHeartbeats 4000000 in
theorem smTo_any (A L C : Option Addr) (n c d m e0 : Nat) (ls : List Lk) (x : Int) (w : World) (rl : RdL w w.heap.size L ls.length ls) (hl : ls.length ≤ 1048576) :
    Calls Tryz.prog 108 #[.agg #[.slice A n c, .slice L ls.length d, .slice C m e0], .int .i64 x] w fun e w' => e = .returned (.int .i64 (firstN (tgtB x) ls)) ∧ Below w.heap.size w w' := by
  obtain ⟨w0, hw0⟩ : ∃ w0, w0 = w.alloc (.cells #[.slice A n c, .slice L ls.length d, .slice C m e0] 30) := ⟨_, rfl⟩
  obtain ⟨hb, hh, hsz⟩ := box3_any w (.slice A n c) (.slice L ls.length d) (.slice C m e0) 30
  rw [← hw0] at hb hh hsz
  have hs0 : w.heap.size + 1 ≤ w0.heap.size := by omega
  have HK : Hid (∀ w', Below w0.heap.size w0 w' → w'.cell? ⟨w.heap.size, 0, none⟩ = some (.slice A n c) ∧ w'.cell? ⟨w.heap.size, 1, none⟩ = some (.slice L ls.length d) ∧ w'.cell? ⟨w.heap.size, 2, none⟩ = some (.slice C m e0)) := Lib.hid fun w' hw => three_cells ((hw.block _ (by omega)).trans hh)
  have HRL := Lib.hid (fun (w' : World) (hw : Below w0.heap.size w0 w') => show RdL w' w'.heap.size L ls.length ls from (rl.below (hb.trans (hw.mono hb.size))).more (Nat.le_trans hb.size hw.size))
  have HB0 := Lib.hid hb
  obtain ⟨y0, y1, y2⟩ := three_cells hh
  clear hb hh hsz rl
  go_enter Tryz.func108, Tryz.ntmps108
  go_wp2
  rw [← hw0]
  clear hw0
  go_loopw [5] (fun i wx => ∃ k : Nat, k ≤ ls.length ∧ i = .int .i64 k ∧ (∀ j, j < k → tgtB x (ls.getD j Lk.nil) = false) ∧ Below w0.heap.size w0 wx) (fun i _ => ls.length - (intOf i).toNat)
  case atStart => exact ⟨0, Nat.zero_le _, rfl, fun j hj => absurd hj (by omega), Below.refl _ _⟩
  case round =>
    obtain ⟨k, hk, rfl, hno, hB⟩ := hrel
    clear y0 y1 y2
    obtain ⟨y0, y1, y2⟩ := HK.out _ hB
    by_cases hlt : k < ls.length
    · obtain ⟨b, off, hA, hbb, hcells⟩ := (HRL.out _ hB).at (by omega)
      subst hA
      obtain ⟨x0, x1, x2, x3⟩ := hcells k hlt
      obtain ⟨⟨lk, la, lb, lc⟩, hl⟩ : ∃ l, ls.getD k Lk.nil = l := ⟨_, rfl⟩
      rw [hl] at x0 x1 x2 x3
      dsimp only at x0 x1 x2 x3
      obtain ⟨bl, z0, z1, z2, z3, zs⟩ := lnk_any wr ⟨lk, la, lb, lc⟩ 103
      dsimp only at bl z0 z1 z2 z3
      have BL := Lib.hid (hB.trans (bl.mono hB.size))
      have HNO := Lib.hid hno
      have HL := Lib.hid hl
      clear hcells hB bl zs hno hl
      by_cases h1 : lk = 1
      · subst h1
        have HST := Lib.hid (below_step HNO.out (by rw [HL.out]; simp [tgtB]))
        skip
        go_wp2
        go_roundw
        case rel => exact ⟨k + 1, by omega, by go_num, HST.out, BL.out⟩
        case measure => simp [intOf]; omega
      have d1 : (lk != 1) = true := by simpa using h1
      by_cases ha : la = x
      · have da : (la == x) = true := by simpa using ha
        have HE : Hid ((k : Int) = firstN (tgtB x) ls) := Lib.hid (firstN_at hlt HNO.out (by rw [HL.out]; simp [tgtB, ha, h1])).symm
        have HBB := Lib.hid (HB0.out.trans (BL.out.mono HB0.out.size))
        clear ha h1
        go_wp2
        go_ret
        exact ⟨ret_i64 HE.out, HBB.out⟩
      have da : (la == x) = false := by simpa using ha
      by_cases hb : lb = x
      · have db : (lb == x) = true := by simpa using hb
        have HE : Hid ((k : Int) = firstN (tgtB x) ls) := Lib.hid (firstN_at hlt HNO.out (by rw [HL.out]; simp [tgtB, hb, h1])).symm
        have HBB := Lib.hid (HB0.out.trans (BL.out.mono HB0.out.size))
        clear ha hb h1
        go_wp2
        go_ret
        exact ⟨ret_i64 HE.out, HBB.out⟩
      have db : (lb == x) = false := by simpa using hb
      have HST := Lib.hid (below_step HNO.out (by rw [HL.out]; simp [tgtB, ha, hb]))
      clear ha hb h1
      go_wp2
      go_roundw
      case rel => exact ⟨k + 1, by omega, by go_num, HST.out, BL.out⟩
      case measure => simp [intOf]; omega
    · have hkl : k = ls.length := by omega
      subst hkl
      have HE : Hid ((-1 : Int) = firstN (tgtB x) ls) := Lib.hid (firstN_none hno).symm
      have HBB := Lib.hid (HB0.out.trans (hB.mono HB0.out.size))
      clear hno
      go_wp2
      go_ret
      exact ⟨ret_i64 HE.out, HBB.out⟩
end
section
set_option linter.unusedSimpArgs false
set_option linter.unusedVariables false
open Go.ChangeAt Go.ChangeShapes Go.RowKit Go.WideShapes

/-- Two rows that grow. -/
structure TwQ (wl wx : World) (v1 v2 : Value) (L1 L2 : List Int) : Prop where
  o1 : wx.ownsRow wl.heap.size 2 1 v1 L1.length (L1.map (Value.int .i64))
  o2 : wx.ownsRow wl.heap.size 2 1 v2 L2.length (L2.map (Value.int .i64))
  ap : ∀ b, v1.ownBlock = some b → v2.ownBlock ≠ some b
  bel : Below wl.heap.size wl wx
theorem TwQ.below {wl wx u : World} {v1 v2 : Value} {L1 L2 : List Int} (s : TwQ wl wx v1 v2 L1 L2) (hb : Below wx.heap.size wx u) : TwQ wl u v1 v2 L1 L2 := ⟨own_below s.o1 hb (Nat.le_refl _), own_below s.o2 hb (Nat.le_refl _), s.ap, s.bel.trans (hb.mono s.bel.size)⟩
end
section
set_option linter.unusedSimpArgs false
set_option linter.unusedVariables false
open Go.ChangeAt Go.ChangeShapes Go.RowKit Go.WideShapes
end
section
set_option linter.unusedSimpArgs false
set_option linter.unusedVariables false
open Go.ChangeAt Go.ChangeShapes Go.RowKit Go.WideShapes

theorem from_lxQ {N : Nt} (hv : valN N = true) (x : Int) : firstN (srcB x) N.l = lxN outL N x := first_ext fun l hl => srcB_is (fitsN_kind ((List.all_eq_true.1 (valN_fits hv)) l hl))
end
section
set_option linter.unusedSimpArgs false
set_option linter.unusedVariables false
open Go.ChangeAt Go.ChangeShapes Go.RowKit Go.WideShapes
end
section
open Go.ChangeAt Go.ChangeShapes Go.RowKit Go.WideShapes

/-- No part of the net lies in block b. -/
structure FarN (h : NH) (N : Nt) (b : Nat) : Prop where
  a : (Value.slice h.A N.w.length h.c).ownBlock ≠ some b
  i : ∀ i, i < N.w.length → (hv h.hs N.w i).ownBlock ≠ some b
  l : (Value.slice h.L N.l.length h.d).ownBlock ≠ some b
  c : (Value.slice h.C N.c.length h.e).ownBlock ≠ some b
section
variable {w w1 w' : World} {lo hi b : Nat} {h : NH} {N : Nt}
theorem OwnN.far_ge (o : OwnN w lo hi h N) (hb : hi ≤ b) : FarN h N b where
  a e := by have := o.q.top0 b e; omega
  i i hi e := by have := o.q.top i b hi e; omega
  l e := by have := o.lt b e; omega
  c e := by have := o.ct b e; omega
theorem OwnN.size (o : OwnN w lo hi h N) : OwnN w lo w.heap.size h N where
  q := ⟨o.q.outer, o.q.inner, o.q.apart, o.q.apart0, fun k e => (o.q.outer.lt k e).2, fun i k hi e => ((o.q.inner i hi).lt k e).2⟩
  l := o.l
  c := o.c
  lt b e := (o.l.lt b e).2
  ct b e := (o.c.lt b e).2
  lq := o.lq
  cq := o.cq
  lc := o.lc
/-- All blocks of the net are as they were. -/
theorem OwnN.stay (o : OwnN w lo hi h N) (hk : ∀ b, ¬ FarN h N b → w'.heap[b]? = w.heap[b]?) : OwnN w' lo hi h N where
  q := o.q.fine (fun b e => hk b fun f => f.a e) (fun i hi b e => hk b fun f => f.i i hi e)
  l := own_same o.l fun b e => hk b fun f => f.l e
  c := own_same o.c fun b e => hk b fun f => f.c e
  lt := o.lt
  ct := o.ct
  lq := o.lq
  cq := o.cq
  lc := o.lc
theorem OwnN.farSet (o : OwnN w lo hi h N) (f : FarN h N b) (j : Nat) (v : Value) : OwnN (w.setCell ⟨b, j, none⟩ v) lo hi h N :=
  o.stay fun k hk => Below.heap_setCell _ _ _ _ (fun e => hk (by have e' : k = b := e; rw [e']; exact f))
/-- Another row of conclusions. -/
theorem OwnN.setC {C : Option Addr} {e : Nat} {cs : List Int} (o : OwnN w lo w.heap.size h N) (hb : Below w.heap.size w w') (hlo : lo ≤ w.heap.size) (hc : w'.ownsRow w.heap.size 2 1 (.slice C cs.length e) cs.length (cs.map (Value.int .i64))) :
    OwnN w' lo w'.heap.size ⟨h.A, h.c, h.hs, h.L, h.d, C, e⟩ ⟨N.w, N.l, cs⟩ := by
  have o2 := (o.below hb).size
  exact {
    q := o2.q
    l := o2.l
    c := hc.mono hlo
    lt := o2.lt
    ct := fun b e => (hc.lt b e).2
    lq := o2.lq
    cq := fun b e => by
      have h1 := (hc.lt b e).1
      have f := o.far_ge h1
      exact ⟨f.a, f.i⟩
    lc := fun b e e2 => by
      have h1 := (hc.lt b e2).1
      exact (o.far_ge h1).l e }
theorem FarN.setC {C : Option Addr} {e m : Nat} {cs : List Int} (f : FarN h N b) (hc : w'.ownsRow m 2 1 (.slice C cs.length e) cs.length (cs.map (Value.int .i64))) (hb : b < m) : FarN ⟨h.A, h.c, h.hs, h.L, h.d, C, e⟩ ⟨N.w, N.l, cs⟩ b :=
  ⟨f.a, f.i, f.l, fun e => by have := (hc.lt b e).1; omega⟩
end
end
section
open Go.ChangeAt Go.ChangeShapes Go.RowKit Go.WideShapes
end
section
open Go.ChangeAt Go.ChangeShapes Go.RowKit Go.WideShapes
end
section
open Go.ChangeAt Go.ChangeShapes Go.RowKit Go.WideShapes

/-- Where the copy stands, while it is renumbered. -/
def RnSt (w0 wx : World) (bo : Nat) (h : NH) (N : Nt) (x y z : Value) : Prop := OwnN wx w0.heap.size wx.heap.size h N ∧ FarN h N bo ∧ wx.heap[bo]? = some (.cells #[x, y, z] 30 (0, 0)) ∧ Below w0.heap.size w0 wx
theorem RnSt.drew {w0 wx : World} {bo : Nat} {h : NH} {N : Nt} {x y z : Value} (r : RnSt w0 wx bo h N x y z) : RnSt w0 wx.drew bo h N x y z := ⟨r.1.same (fun _ _ _ _ => rfl), r.2.1, r.2.2.1, r.2.2.2.drew⟩
end
end Go.Proofs.YtfdpkhiiboghiaaGreatDoor
