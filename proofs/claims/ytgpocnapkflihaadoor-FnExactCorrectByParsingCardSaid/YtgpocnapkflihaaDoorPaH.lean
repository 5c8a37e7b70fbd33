/- slices.Min and slices.Max at increasing rows; parsedWith. Made by mkpah.py. -/
import Derived.Test.YtgpocnapkflihaaDoorPaG
import Derived.Deep.RegionHeldLaw
import Derived.Deep.DeepCutAuto
import Derived.Deep.LoopGhost
import Derived.BigQuiet
namespace Go.Proofs.YtgpocnapkflihaaDoor
set_option linter.unusedSimpArgs false
set_option linter.unusedVariables false
open Go.ChangeAt Go.ChangeShapes Go.RowKit Go.WideShapes

theorem allQ_inc (N : Nt) (fs : List Int) : (allQ N fs).Pairwise (· < ·) := by
  unfold allQ
  apply List.Pairwise.filter
  rw [List.pairwise_map]
  refine List.Pairwise.imp (R := fun a b : Nat => a < b) (fun h => by omega) List.pairwise_lt_range
theorem inc_at {L : List Int} (h : L.Pairwise (· < ·)) {i j : Nat} (hij : i < j) (hj : j < L.length) : L.getD i 0 < L.getD j 0 := by
  have := List.pairwise_iff_getElem.1 h i j (by omega) hj hij
  simpa [List.getD, show i < L.length by omega, hj] using this
theorem allQ_nat {N : Nt} {fs : List Int} {x : Int} (h : x ∈ allQ N fs) : ∃ k : Nat, x = (k : Int) ∧ k < N.l.length := by
  have h1 := (okF_yes (allQ_ok h)).1
  exact ⟨x.toNat, (inW_yes h1).2.2, (inW_yes h1).2.1⟩
set_option maxHeartbeats 1000000 in
theorem min_any (A : Option Addr) (c : Nat) (L : List Int) (w : World) (r : RdI w w.heap.size A L.length L) (hl : L.length ≤ 1048576) (h0 : 0 < L.length) (hs : L.Pairwise (· < ·)) :
    Calls Tryd.prog 32 #[.slice A L.length c] w fun e w' => e = .returned (.int .i64 (pkF false L)) ∧ w = w' := by
  obtain ⟨b, off, rfl, hbb, hcells⟩ := r.2 h0
  have HC := Lib.hid hcells
  have x0 := hcells 0 h0
  rw [Nat.add_zero] at x0
  have HM := Lib.hid (fun (k : Nat) (hk : k < L.length) (hk1 : 1 ≤ k) => show min (L.getD 0 0) (L.getD k 0) = L.getD 0 0 by
    have := inc_at hs (i := 0) (j := k) (by omega) hk
    omega)
  have HE : Hid (L.getD 0 0 = pkF false L) := Lib.hid rfl
  have d1 : decide ((L.length : Int) < 1) = false := decide_eq_false (by omega)
  have hli : (0 : Int) < (L.length : Int) := by omega
  clear r hs hcells
  generalize L.getD 0 0 = z0 at *
  generalize pkF false L = res at *
  go_enter Tryd.func32, Tryd.ntmps32
  go_wp2
  clear x0 d1
  go_loopw [3, 4] (fun m i wr => ∃ k : Nat, 1 ≤ k ∧ k ≤ L.length ∧ i = .int .i64 k ∧ m = .int .i64 z0 ∧ w = wr) (fun _ i _ => L.length - (intOf i).toNat)
  case atStart => exact ⟨1, by omega, by omega, by go_num, rfl, rfl⟩
  case round =>
    obtain ⟨k, hk1, hk, rfl, rfl, rfl⟩ := hrel
    by_cases hlt : k < L.length
    · have x1 := HC.out k hlt
      have hm := HM.out k hlt hk1
      generalize L.getD k 0 = z at *
      go_wp2
      go_roundw
      case rel => exact ⟨k + 1, by omega, by omega, by go_num, rfl, by first | rfl | trivial⟩
      case measure => simp [intOf]; omega
    · have hkl : k = L.length := by omega
      subst hkl
      go_wp2
      go_ret
      exact ⟨ret_i64 HE.out, rfl⟩
set_option maxRecDepth 100000 in
set_option maxHeartbeats 1000000 in
theorem parsedWithMin_any (h : NH) (N : Nt) (w : World) (hv : valN N = true) (r : RdN w w.heap.size h N) :
    Calls Tryd.prog 31 #[.agg #[.slice h.A N.w.length h.c, .slice h.L N.l.length h.d, .slice h.C N.c.length h.e], .func (.func 32) #[] #[]] w (GivesPz w h N (ordN N false)) := by
  have h48l := (valN_size hv).2
  obtain ⟨w0, hw0⟩ : ∃ w0, w0 = w.alloc (.cells #[.slice h.A N.w.length h.c, .slice h.L N.l.length h.d, .slice h.C N.c.length h.e] 31) := ⟨_, rfl⟩
  obtain ⟨hb, hh, hsz⟩ := box3_any w (.slice h.A N.w.length h.c) (.slice h.L N.l.length h.d) (.slice h.C N.c.length h.e) 31
  rw [← hw0] at hb hh hsz
  have HPO := Lib.hid (parsingOf_any h N w0 hv ((r.below hb).more hb.size))
  have HB0 := Lib.hid hb
  have HRL := Lib.hid (fun (g : Nat) (fs : List Int) (r1 : PzH) (wx : World) (s : PzS wx g h N fs r1) => readyLinks_any h N g fs r1 wx hv s)
  have HFI := Lib.hid (fun (g f : Nat) (fs : List Int) (r1 : PzH) (wx : World) (s : PzS wx g h N fs r1) (ho : okF N fs (f : Int) = true) => fire_any h N g f fs r1 wx hv s ho)
  obtain ⟨y0, y1, y2⟩ := three_cells hh
  clear hb hh hsz r hv
  go_enter Tryd.func31, Tryd.ntmps31
  go_wp2_with (fail)
  rw [← hw0]
  clear hw0
  refine HPO.out.mono ?_
  rintro e w1 ⟨g, r1, rfl, hg, hP, bel1⟩
  have B1 := Lib.hid bel1
  have HP1 := Lib.hid hP
  have HG : Hid (w0.heap.size ≤ g) := Lib.hid hg
  clear bel1 hP y0 y1 y2 hg
  go_wp2_with (fail)
  refine (HRL.out g [] r1 w1 HP1.out).mono ?_
  rintro e w2 ⟨A2, c2, rfl, own2, bel2⟩
  have B2 := Lib.hid (B1.out.trans (bel2.mono B1.out.size))
  have HP2 := Lib.hid (HP1.out.below bel2)
  have R2 := Lib.hid (RdI.of_own own2)
  clear own2 bel2
  have HLQ := Lib.hid (fun (fs : List Int) => show (allQ N fs).length ≤ 48 from by have := alU_len N fs N.l.length; rw [alU_all] at this; omega)
  have hl2 := HLQ.out []
  go_wp2
  go_loopg [6] N.l.length (fun k v wr => ∃ (fs : List Int) (r3 : PzH) (A : Option Addr) (c : Nat), Hid (k = N.l.length - fs.length) ∧ v = .slice A (allQ N fs).length c ∧ Hid (OrdS N false fs) ∧ PzS wr g h N fs r3 ∧ RdI wr wr.heap.size A (allQ N fs).length (allQ N fs) ∧ Below w0.heap.size w0 wr)
  case atStart => exact ⟨[], r1, A2, c2, Lib.hid rfl, rfl, Lib.hid (OrdS.start N false), HP2.out, R2.out, B2.out⟩
  case round =>
    obtain ⟨fs, r3, A, c, hk, rfl, hO, hP, hR, hB⟩ := hrel
    clear HP2 R2 B2 HP1 B1 hl2
    by_cases hne : allQ N fs = []
    · have hstop := hO.out.stop hne
      have hlen : (allQ N fs).length = 0 := by rw [hne]; rfl
      rw [hstop] at hP
      have HE : Hid (GivesPz w h N (ordN N false) (.returned (.pointer (some ⟨g, 0, none⟩))) wr) := Lib.hid ⟨g, r3, rfl, Nat.le_trans HB0.out.size HG.out, hP, HB0.out.trans (hB.mono HB0.out.size)⟩
      clear hP hR hB hstop hne hO
      generalize (allQ N fs).length = q at *
      subst hlen
      go_wp2
      go_ret
      exact HE.out
    · have hpos : 0 < (allQ N fs).length := List.length_pos_iff.2 hne
      have d1 : decide ((0 : Int) < ((allQ N fs).length : Int)) = true := decide_eq_true (by omega)
      have hl48 := HLQ.out fs
      have hmem := pkF_mem (last := false) hne
      obtain ⟨f, hf, hfl⟩ := allQ_nat hmem
      have hok := allQ_ok hmem
      rw [hf] at hok
      have HMIN := Lib.hid (min_any A c (allQ N fs) wr hR (by omega) hpos (allQ_inc N fs))
      rw [hf] at HMIN
      have hos := hO.out.step hne
      rw [hf] at hos
      have hosl := hos.len
      rw [List.length_append, List.length_singleton] at hosl
      have HOS := Lib.hid hos
      have HKK : Hid (N.l.length - (fs ++ [(f : Int)]).length < gk) := Lib.hid (by rw [hk.out, List.length_append, List.length_singleton]; omega)
      have HFF := Lib.hid (HFI.out g f fs r3 wr hP hok)
      have HB := Lib.hid hB
      clear hne hmem hf hok hos hosl hP hR hB hO hk
      have hl48b := HLQ.out (fs ++ [(f : Int)])
      generalize allQ N fs = L at *
      go_wp2_with (fail)
      refine HMIN.out.mono ?_
      rintro e w3 ⟨rfl, rfl⟩
      go_wp2_with (fail)
      refine HFF.out.mono ?_
      rintro e w4 ⟨rfl, ⟨r4, hP4⟩, bel4⟩
      have HP4 := Lib.hid hP4
      have HB4 := Lib.hid (HB.out.trans (bel4.mono HG.out))
      clear hP4 bel4 d1
      go_wp2_with (fail)
      refine (HRL.out g _ r4 w4 HP4.out).mono ?_
      rintro e w5 ⟨A5, c5, rfl, own5, bel5⟩
      have HP5 := Lib.hid (HP4.out.below bel5)
      have R5 := Lib.hid (RdI.of_own own5)
      have HB5 := Lib.hid (HB4.out.trans (bel5.mono HB4.out.size))
      clear own5 bel5
      go_wp2
      go_roundg (N.l.length - (fs ++ [(f : Int)]).length)
      case measure => exact HKK.out
      case rel => exact ⟨fs ++ [(f : Int)], r4, A5, c5, Lib.hid rfl, rfl, HOS, HP5.out, R5.out, HB5.out⟩
end Go.Proofs.YtgpocnapkflihaaDoor
