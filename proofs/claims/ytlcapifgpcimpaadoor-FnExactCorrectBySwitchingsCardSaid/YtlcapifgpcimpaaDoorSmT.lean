/- The model: the fault of a switching's graph; SwitchingIsTree of the model and of the program. -/
import Derived.Test.YtlcapifgpcimpaaDoorSmR
import Derived.Test.YtlcapifgpcimpaaDoorSwL
import Derived.Deep.RegionHeldLaw
import Derived.Deep.DeepCutAuto
import Derived.BigQuiet
namespace Go.Proofs.YtlcapifgpcimpaaDoor
set_option linter.unusedSimpArgs false
set_option linter.unusedVariables false
open Go.ChangeAt Go.ChangeShapes Go.RowKit Go.WideShapes


theorem src_noS {l : Lk} {x : Nat} {ws : List (List Int)} (hf : fitsN ws l = true) (h : srcB (x : Int) l = false) : mk1 l x = 0 := by
  obtain ⟨ha, hb, hc, _⟩ := fitsN_yes hf
  obtain ⟨_, _, ea⟩ := inW_yes ha
  obtain ⟨_, _, eb⟩ := inW_yes hb
  obtain ⟨_, _, ec⟩ := inW_yes hc
  unfold srcB at h
  unfold mk1 one
  rcases fitsN_kind hf with e | e | e | e
  · rw [if_pos e]
    simp only [e] at h
    have h1 : ¬ l.a = (x : Int) := fun q => by simp [q] at h
    have h2 : ¬ l.b = (x : Int) := fun q => by simp [q] at h
    rw [if_neg (by omega), if_neg (by omega)]; rfl
  · rw [if_neg (by omega), if_pos e]
  · rw [if_neg (by omega), if_neg (by omega)]
    have h1 : ¬ l.c = (x : Int) := fun q => by simp [e, q] at h
    rw [if_neg (by omega)]
  · rw [if_neg (by omega), if_neg (by omega)]
    have h1 : ¬ l.c = (x : Int) := fun q => by simp [e, q] at h
    rw [if_neg (by omega)]
theorem src_someS {N : Nt} (hv : valN N = true) {x : Int} (hx : inW N.w.length x = true) : ∃ k, N.l.findIdx? (srcB x) = some k := by
  obtain ⟨_, h1, h2⟩ := inW_yes hx
  cases hs : N.l.findIdx? (srcB x) with
  | some k => exact ⟨k, rfl⟩
  | none =>
    exfalso
    have hm := (valN_at hv h1).1
    have h0 : madeN N.l x.toNat = 0 := by
      unfold madeN
      have hz : ∀ z ∈ N.l.map (fun l => mk1 l x.toNat), z = 0 := fun z hz => by
        obtain ⟨l, hl, rfl⟩ := List.mem_map.1 hz
        have hq := List.findIdx?_eq_none_iff.1 hs l hl
        exact src_noS ((List.all_eq_true.1 (valN_fits hv)) l hl) (by rw [← h2]; exact hq)
      generalize N.l.map (fun l => mk1 l x.toNat) = L at hz
      induction L with
      | nil => rfl
      | cons a L ih =>
        rw [List.sum_cons, hz a (by simp), ih fun z h => hz z (by simp [h])]
        rfl
    omega
theorem first_some {p : Lk → Bool} {ls : List Lk} {k : Nat} (h : ls.findIdx? p = some k) : firstN p ls = (k : Int) := by unfold firstN; rw [h]
theorem arcs_in {N : Nt} {s : List Int} (hv : valN N = true) : ArcsIn N.l.length (mgU N s N.w.length) := fun a ha => by
  unfold mgU at ha
  obtain ⟨x, hx, rfl⟩ := List.mem_map.1 ha
  obtain ⟨hr, hp⟩ := List.mem_filter.1 hx
  have hxl : x < N.w.length := List.mem_range.1 hr
  have h1 := (Bool.and_eq_true _ _ ▸ hp).1
  have h2 := of_decide_eq_true h1
  obtain ⟨k, hk⟩ := src_someS hv (x := (x : Int)) (decide_eq_true (by omega))
  have h3 := first_some hk
  rw [from_lx hv] at h3
  have h4 := lxN_in outL N (x : Int)
  have h5 := lxN_in inL N (x : Int)
  constructor
  · show inW N.l.length (lxN outL N (x : Int)) = true
    exact decide_eq_true (by omega)
  · show inW N.l.length (lxN inL N (x : Int)) = true
    exact decide_eq_true (by omega)
/-- SwitchingIsTree's answer. -/
def itB (N : Nt) (s : List Int) : Bool := isSw N s && decide (ftV N.l.length (sgL N s) = 0)
theorem itB_no {N : Nt} {s : List Int} (h : isSw N s = false) : itB N s = false := by unfold itB; rw [h]; rfl
theorem itB_yes {N : Nt} {s : List Int} (h : isSw N s = true) : itB N s = decide (ftV N.l.length (mgU N s N.w.length) = 0) := by unfold itB; rw [h, sgL_yes h]; rfl
theorem itB_model {N : Nt} {s : List Int} (h : isSw N s = true) : itB N s = decide (ftM N.l.length (mgU N s N.w.length) = 0) := by rw [itB_yes h, ft_same (arcs_in (isSw_yes h).1)]
set_option maxRecDepth 100000 in
set_option maxHeartbeats 1000000 in
theorem sFault_any (h : NH) (N : Nt) (s : List Int) (S : Option Addr) (sc : Nat) (w : World) (hsw : isSw N s = true) (r : RdN w w.heap.size h N) (rS : RdI w w.heap.size S s.length s) :
    Calls Tryd.prog 47 #[.agg #[.slice h.A N.w.length h.c, .slice h.L N.l.length h.d, .slice h.C N.c.length h.e], .slice S s.length sc] w fun e w' => e = .returned (.int .i64 (ftM N.l.length (mgU N s N.w.length))) ∧ Below w.heap.size w w' := by
  obtain ⟨h48, h48l⟩ := valN_size (isSw_yes hsw).1
  obtain ⟨w0, hw0⟩ : ∃ w0, w0 = w.alloc (.cells #[.slice h.A N.w.length h.c, .slice h.L N.l.length h.d, .slice h.C N.c.length h.e] 35) := ⟨_, rfl⟩
  obtain ⟨hb, hh, hsz⟩ := box3_any w (.slice h.A N.w.length h.c) (.slice h.L N.l.length h.d) (.slice h.C N.c.length h.e) 35
  rw [← hw0] at hb hh hsz
  have hs0 : w.heap.size + 1 ≤ w0.heap.size := by omega
  have HK : Hid (∀ w', Below w0.heap.size w0 w' → w'.cell? ⟨w.heap.size, 0, none⟩ = some (.slice h.A N.w.length h.c) ∧ w'.cell? ⟨w.heap.size, 1, none⟩ = some (.slice h.L N.l.length h.d) ∧ w'.cell? ⟨w.heap.size, 2, none⟩ = some (.slice h.C N.c.length h.e)) := Lib.hid fun w' hw => three_cells ((hw.block _ (by omega)).trans hh)
  have HAR := Lib.hid (fun (w' : World) (hw : Below w0.heap.size w0 w') => sArcs_any h N s S sc w' hsw ((r.below (hb.trans (hw.mono hb.size))).more (Nat.le_trans hb.size hw.size)) (show RdI w' w'.heap.size S s.length s from ((rS.below (hb.trans (hw.mono hb.size))).more (Nat.le_trans hb.size hw.size))))
  have hma := mgU_len N s N.w.length
  have hAI := arcs_in (s := s) (isSw_yes hsw).1
  have HB0 := Lib.hid hb
  generalize mgU N s N.w.length = ar at *
  have HRO := Lib.hid (fun (A : Option Addr) (c : Nat) (w' : World) rA => sRoots_any N.l.length ar A c w' (by omega) (by omega) hAI rA)
  have hrl := runR_len N.l.length ar ar.length (Nat.le_refl _)
  have HFT : Hid (ftM N.l.length ar = if (runR N.l.length ar ar.length).2 = true then 1 else if (runR N.l.length ar ar.length).1.all (fun x => decide (x = 0)) = true ∧ ¬ N.l.length = 0 then 0 else 2) := Lib.hid rfl
  generalize ftM N.l.length ar = FT at *
  obtain ⟨⟨R, cy⟩, hR⟩ : ∃ p, runR N.l.length ar ar.length = p := ⟨_, rfl⟩
  rw [hR] at HRO hrl HFT
  dsimp only at HRO hrl HFT
  have HRL := Lib.hid hrl
  obtain ⟨y0, y1, y2⟩ := three_cells hh
  clear hb hh hsz r rS hsw hma hAI hR hrl
  go_enter Tryd.func47, Tryd.ntmps47
  go_upto_region 1 with (fail)
  rw [← hw0]
  clear hw0
  go_cut [5, 6] (fun v b wx => ∃ A c, v = .slice A R.length c ∧ b = .bool cy ∧ RdI wx wx.heap.size A R.length R ∧ Below w0.heap.size w0 wx)
  case first =>
    go_region_with (first
      | (go_at_call 76; refine (HAR.out _ (Below.refl _ _).drew).mono ?_; rintro e w3 ⟨A3, c3, rfl, own3, bel3⟩; have B3 := Lib.hid (((Below.refl w0.heap.size w0).drew).trans bel3); have R3 := Lib.hid (RdA.of_own own3); have y1' := HK.out _ B3.out; obtain ⟨z0, z1, z2⟩ := y1'; clear own3 bel3 HAR)
      | (go_at_call 75; refine (HRO.out _ _ _ R3.out).mono ?_; rintro e w4 ⟨A4, c4, rfl, own4, bel4⟩; have B4 := Lib.hid (B3.out.trans (bel4.mono B3.out.size)); have R4 := Lib.hid (RdI.of_own own4); clear own4 bel4))
    all_goals (try go_wp2_with (fail))
    all_goals go_meet
    all_goals exact ⟨A4, c4, rfl, rfl, R4.out, B4.out⟩
  case rest =>
    obtain ⟨A, c, rfl, rfl, RA, hBc⟩ := hcut
    have RA1 := Lib.hid RA
    have HBB := Lib.hid (HB0.out.trans (hBc.mono HB0.out.size))
    have hrb : R.length ≤ 1048576 := by have := HRL.out; omega
    clear RA hBc y0 y1 y2 HRO HAR
    cases cy with
    | true =>
      have HE : Hid (1 = FT) := Lib.hid (by rw [HFT.out, if_pos rfl])
      go_wp2
      go_ret
      exact ⟨ret_i64 HE.out, HBB.out⟩
    | false =>
      have HNZ : Hid (∀ m, m < R.length → ¬ R.getD m 0 = 0 → 2 = FT) := Lib.hid fun m hm hne => by
        rw [HFT.out, if_neg (by simp), if_neg]
        rintro ⟨ha, _⟩
        exact hne (of_decide_eq_true ((List.all_eq_true.1 ha) _ (getL_mem (d := 0) hm)))
      have HZ : Hid (R.length = 0 → 2 = FT) := Lib.hid fun e => by
        rw [HFT.out, if_neg (by simp), if_neg]
        rintro ⟨_, hne⟩
        exact hne (by have := HRL.out; omega)
      have HOK : Hid ((∀ m, m < R.length → R.getD m 0 = 0) → ¬ R.length = 0 → 0 = FT) := Lib.hid fun hall hne => by
        rw [HFT.out, if_neg (by simp), if_pos]
        refine ⟨List.all_eq_true.2 fun x hx => ?_, by have := HRL.out; omega⟩
        obtain ⟨j, hj, rfl⟩ := List.getElem_of_mem hx
        have := hall j hj
        simpa [List.getD, hj] using this
      clear HFT
      go_wp2
      go_loopw [7] (fun i wr => ∃ k : Nat, k ≤ R.length ∧ i = .int .i64 k ∧ (∀ m, m < k → R.getD m 0 = 0) ∧ wr = wc) (fun i _ => R.length - (intOf i).toNat)
      case atStart => exact ⟨0, Nat.zero_le _, rfl, fun m hm => absurd hm (by omega), rfl⟩
      case round =>
        obtain ⟨k, hk, rfl, hpl, rfl⟩ := hrel
        have HQ := Lib.hid hpl
        clear hpl
        by_cases hlt : k < R.length
        · obtain ⟨b, off, hA, hbb, hcells⟩ := RA1.out.2 (show 0 < R.length by omega)
          have x0 := hcells k hlt
          have HN1 := Lib.hid (HNZ.out k hlt)
          have HPP : Hid (R.getD k 0 = 0 → ∀ m, m < k + 1 → R.getD m 0 = 0) := Lib.hid fun e m hm => by
            by_cases e2 : m < k
            · exact HQ.out m e2
            · obtain rfl : m = k := by omega
              exact e
          generalize R.getD k 0 = z at *
          subst hA
          clear hcells
          by_cases hz : z = 0
          · have hd : (z != 0) = false := by simp [hz]
            have HP2 := Lib.hid (HPP.out hz)
            clear hz
            go_wp2
            go_roundw
            case rel => exact ⟨k + 1, by omega, by go_num, HP2.out, by first | rfl | trivial⟩
            case measure => simp [intOf]; omega
          · have hd : (z != 0) = true := by simp [hz]
            have HE := Lib.hid (HN1.out hz)
            clear hz
            go_wp2
            go_ret
            exact ⟨ret_i64 HE.out, HBB.out⟩
        · have hkl : k = R.length := by omega
          subst hkl
          by_cases hz : R.length = 0
          · have hd : ((R.length : Int) == 0) = true := by simp [hz]
            have HE := Lib.hid (HZ.out hz)
            clear hz
            go_wp2
            go_ret
            exact ⟨ret_i64 HE.out, HBB.out⟩
          · have hd : ((R.length : Int) == 0) = false := show decide ((R.length : Int) = 0) = false from decide_eq_false (by omega)
            have HE := Lib.hid (HOK.out HQ.out hz)
            clear hz
            go_wp2
            go_ret
            exact ⟨ret_i64 HE.out, HBB.out⟩
end Go.Proofs.YtlcapifgpcimpaaDoor
