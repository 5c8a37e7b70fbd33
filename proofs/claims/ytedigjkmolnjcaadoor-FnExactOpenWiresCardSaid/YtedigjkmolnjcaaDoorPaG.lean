/- The program's IsFiringSequence, ReadyLinks, PartsAfter, OpenWires. -/
import Derived.Test.YtedigjkmolnjcaaDoorPaF
import Derived.Deep.RegionHeldLaw
import Derived.Deep.DeepCutAuto
import Derived.BigQuiet
namespace Go.Proofs.YtedigjkmolnjcaaDoor
set_option linter.unusedSimpArgs false
set_option linter.unusedVariables false
open Go.ChangeAt Go.ChangeShapes Go.RowKit Go.WideShapes

/-- The answers. -/
def ifB (N : Nt) (fs : List Int) : Bool := valN N && isF N fs
def rlV (N : Nt) (fs : List Int) : List Int := if ifB N fs = true then allQ N fs else []
def paU (N : Nt) (fs : List Int) (k : Nat) : List Int := (List.range k).map fun x : Nat => qN N fs (frN N (x : Int))
def paV (N : Nt) (fs : List Int) : List Int := if ifB N fs = true then paU N fs N.w.length else []
def opU (N : Nt) (fs : List Int) (k : Nat) : List Int := ((List.range k).map fun x : Nat => (x : Int)).filter fun x => opnQ N (qN N fs) x
def owV (N : Nt) (fs : List Int) : List Int := if ifB N fs = true then opU N fs N.w.length else []
theorem boxN_any (w : World) (h : NH) (N : Nt) : Below w.heap.size w (w.alloc (.cells #[.slice h.A N.w.length h.c, .slice h.L N.l.length h.d, .slice h.C N.c.length h.e] 31)) := (Below.refl _ _).alloc (Nat.le_refl _) _
set_option maxRecDepth 100000 in
set_option maxHeartbeats 1000000 in
theorem isFiring_impl (h : NH) (N : Nt) (fs : List Int) (F : Option Addr) (fc : Nat) (w : World) (r : RdN w w.heap.size h N) (sm : SmallN N) (hfl : fs.length ≤ 1048576) (rF : RdI w w.heap.size F fs.length fs) (ht : Arit w) (hu : Dual w) :
    Calls Tryd.prog 15 #[.agg #[.slice h.A N.w.length h.c, .slice h.L N.l.length h.d, .slice h.C N.c.length h.e], .slice F fs.length fc] w fun e w' => e = .returned (.bool (ifB N fs)) ∧ Below w.heap.size w w' := by
  obtain ⟨w0, hw0⟩ : ∃ w0, w0 = w.alloc (.cells #[.slice h.A N.w.length h.c, .slice h.L N.l.length h.d, .slice h.C N.c.length h.e] 31) := ⟨_, rfl⟩
  obtain ⟨hb, hh, hsz⟩ := box3_any w (.slice h.A N.w.length h.c) (.slice h.L N.l.length h.d) (.slice h.C N.c.length h.e) 31
  rw [← hw0] at hb hh hsz
  have HP := Lib.hid (parsedBy_any h N fs F fc w0 ((r.below hb).more hb.size) sm hfl ((rF.below hb).more hb.size) (ht.below hb ht.lt) (hu.below hb hu.lt))
  have HB0 := Lib.hid hb
  obtain ⟨y0, y1, y2⟩ := three_cells hh
  clear hb hh hsz r rF ht hu sm
  go_enter Tryd.func15, Tryd.ntmps15
  go_wp2_with (fail)
  rw [← hw0]
  clear hw0
  refine HP.out.mono ?_
  rintro e w1 ⟨bel1, hc⟩
  have HB1 := Lib.hid (HB0.out.trans (bel1.mono HB0.out.size))
  clear bel1 y0 y1 y2
  rcases hc with ⟨hi, g, r1, rfl, _, _⟩ | ⟨hi, rfl⟩
  · have HE : Hid (true = ifB N fs) := Lib.hid hi.symm
    clear hi
    go_wp2
    go_ret
    exact ⟨ret_bool HE.out, HB1.out⟩
  · have HE : Hid (false = ifB N fs) := Lib.hid hi.symm
    clear hi
    go_wp2
    go_ret
    exact ⟨ret_bool HE.out, HB1.out⟩
set_option maxRecDepth 100000 in
set_option maxHeartbeats 1000000 in
theorem readyL_impl (h : NH) (N : Nt) (fs : List Int) (F : Option Addr) (fc : Nat) (w : World) (r : RdN w w.heap.size h N) (sm : SmallN N) (hfl : fs.length ≤ 1048576) (rF : RdI w w.heap.size F fs.length fs) (ht : Arit w) (hu : Dual w) :
    Calls Tryd.prog 19 #[.agg #[.slice h.A N.w.length h.c, .slice h.L N.l.length h.d, .slice h.C N.c.length h.e], .slice F fs.length fc] w (GivesB w (rlV N fs) (ifB N fs)) := by
  obtain ⟨w0, hw0⟩ : ∃ w0, w0 = w.alloc (.cells #[.slice h.A N.w.length h.c, .slice h.L N.l.length h.d, .slice h.C N.c.length h.e] 31) := ⟨_, rfl⟩
  obtain ⟨hb, hh, hsz⟩ := box3_any w (.slice h.A N.w.length h.c) (.slice h.L N.l.length h.d) (.slice h.C N.c.length h.e) 31
  rw [← hw0] at hb hh hsz
  have HP := Lib.hid (parsedBy_any h N fs F fc w0 ((r.below hb).more hb.size) sm hfl ((rF.below hb).more hb.size) (ht.below hb ht.lt) (hu.below hb hu.lt))
  have HB0 := Lib.hid hb
  obtain ⟨y0, y1, y2⟩ := three_cells hh
  clear hb hh hsz r rF ht hu sm
  go_enter Tryd.func19, Tryd.ntmps19
  go_wp2_with (fail)
  rw [← hw0]
  clear hw0
  refine HP.out.mono ?_
  rintro e w1 ⟨bel1, hc⟩
  have HB1 := Lib.hid (HB0.out.trans (bel1.mono HB0.out.size))
  clear bel1 y0 y1 y2
  rcases hc with ⟨hi, g, r1, rfl, _, hP⟩ | ⟨hi, rfl⟩
  · have HV : Hid (rlV N fs = allQ N fs) := Lib.hid (if_pos hi)
    have HE : Hid (true = ifB N fs) := Lib.hid hi.symm
    have hv : valN N = true := (Bool.and_eq_true _ _ ▸ hi : valN N = true ∧ isF N fs = true).1
    have HRL := Lib.hid (readyLinks_any h N g fs r1 w1 hv hP)
    clear hi hv hP
    go_wp2_with (fail)
    refine HRL.out.mono ?_
    rintro e w2 ⟨A2, c2, rfl, own2, bel2⟩
    have HG : Hid (GivesB w (rlV N fs) (ifB N fs) (.returned (.tuple #[.slice A2 (allQ N fs).length c2, .bool true])) w2) := Lib.hid ⟨A2, c2, by rw [HV.out, ← HE.out], by rw [HV.out]; exact own2.mono HB1.out.size, HB1.out.trans (bel2.mono HB1.out.size)⟩
    clear own2 bel2
    generalize (allQ N fs).length = q at *
    go_wp2
    go_ret2
    exact HG.out
  · have HG : Hid (GivesB w (rlV N fs) (ifB N fs) (.returned (.tuple #[.slice none 0 0, .bool false])) w1) := Lib.hid (by
      have e1 : ifB N fs = false := hi
      have e2 : rlV N fs = [] := if_neg (by rw [e1]; decide)
      rw [e1, e2]
      exact ⟨none, 0, rfl, World.ownsRow_nil _ _ _ _, HB1.out⟩)
    clear hi
    go_wp2
    go_ret2
    exact HG.out
/-- The row of parts while it is being filled. -/
def paR (N : Nt) (fs : List Int) (k : Nat) : List Int := paU N fs k ++ List.replicate (N.w.length - k) 0
theorem paU_len (N : Nt) (fs : List Int) (k : Nat) : (paU N fs k).length = k := by simp [paU]
theorem paR_len {N : Nt} {fs : List Int} {k : Nat} (h : k ≤ N.w.length) : (paR N fs k).length = N.w.length := by
  unfold paR; rw [List.length_append, paU_len, List.length_replicate]; omega
theorem paR_all (N : Nt) (fs : List Int) : paR N fs N.w.length = paU N fs N.w.length := by unfold paR; simp
theorem paR_step {N : Nt} {fs : List Int} {k : Nat} (h : k < N.w.length) : (paR N fs k).set k (qN N fs (frN N (k : Int))) = paR N fs (k + 1) := by
  have e1 : paU N fs (k + 1) = paU N fs k ++ [qN N fs (frN N (k : Int))] := by unfold paU; rw [List.range_succ, List.map_append]; rfl
  unfold paR
  rw [List.set_append_right _ _ (by rw [paU_len]; omega), paU_len, Nat.sub_self, e1, List.append_assoc]
  obtain ⟨m, hm⟩ : ∃ m, N.w.length - k = m + 1 := ⟨N.w.length - k - 1, by omega⟩
  rw [hm, show N.w.length - (k + 1) = m by omega]
  rfl
set_option maxRecDepth 100000 in
set_option maxHeartbeats 1000000 in
theorem partsAfter_impl (h : NH) (N : Nt) (fs : List Int) (F : Option Addr) (fc : Nat) (w : World) (r : RdN w w.heap.size h N) (sm : SmallN N) (hfl : fs.length ≤ 1048576) (rF : RdI w w.heap.size F fs.length fs) (ht : Arit w) (hu : Dual w) :
    Calls Tryd.prog 24 #[.agg #[.slice h.A N.w.length h.c, .slice h.L N.l.length h.d, .slice h.C N.c.length h.e], .slice F fs.length fc] w (GivesB w (paV N fs) (ifB N fs)) := by
  obtain ⟨i0, hi0, hz0, hz1, hz2⟩ := info_parts info_i64
  obtain ⟨w0, hw0⟩ : ∃ w0, w0 = w.alloc (.cells #[.slice h.A N.w.length h.c, .slice h.L N.l.length h.d, .slice h.C N.c.length h.e] 31) := ⟨_, rfl⟩
  obtain ⟨hb, hh, hsz⟩ := box3_any w (.slice h.A N.w.length h.c) (.slice h.L N.l.length h.d) (.slice h.C N.c.length h.e) 31
  rw [← hw0] at hb hh hsz
  have hs0 : w.heap.size + 1 ≤ w0.heap.size := by omega
  have HK : Hid (∀ w', Below w0.heap.size w0 w' → w'.cell? ⟨w.heap.size, 0, none⟩ = some (.slice h.A N.w.length h.c) ∧ w'.cell? ⟨w.heap.size, 1, none⟩ = some (.slice h.L N.l.length h.d) ∧ w'.cell? ⟨w.heap.size, 2, none⟩ = some (.slice h.C N.c.length h.e)) := Lib.hid fun w' hw => three_cells ((hw.block _ (by omega)).trans hh)
  have HP := Lib.hid (parsedBy_any h N fs F fc w0 ((r.below hb).more hb.size) sm hfl ((rF.below hb).more hb.size) (ht.below hb ht.lt) (hu.below hb hu.lt))
  have HB0 := Lib.hid hb
  obtain ⟨y0, y1, y2⟩ := three_cells hh
  have HI := Lib.hid hi0; have HZ0 := Lib.hid hz0; have HZ1 := Lib.hid hz1; have HZ2 := Lib.hid hz2
  clear hb hh hsz r rF ht hu sm hi0 hz0 hz1 hz2
  go_enter Tryd.func24, Tryd.ntmps24
  go_wp2_with (fail)
  rw [← hw0]
  clear hw0
  refine HP.out.mono ?_
  rintro e w1 ⟨bel1, hc⟩
  have B1 := Lib.hid bel1
  have HB1 := Lib.hid (HB0.out.trans (bel1.mono HB0.out.size))
  clear bel1 y0 y1 y2
  rcases hc with ⟨hi, g, r1, rfl, hg, hP⟩ | ⟨hi, rfl⟩
  · have HV : Hid (paV N fs = paU N fs N.w.length) := Lib.hid (if_pos hi)
    have HE : Hid (true = ifB N fs) := Lib.hid hi.symm
    have hv : valN N = true := (Bool.and_eq_true _ _ ▸ hi : valN N = true ∧ isF N fs = true).1
    have h48 := (valN_size hv).1
    have HPW := Lib.hid (fun (k : Nat) (hk : k < N.w.length) (wx : World) (hx : Below w1.heap.size w1 wx) => partOfWire_any h N g fs r1 (k : Int) wx hv (hP.below hx) (decide_eq_true (by omega)))
    obtain ⟨y0, y1, y2⟩ := HK.out _ B1.out
    have b2 : i0.bytes * N.w.length ≤ 281474976710656 := by rw [HZ2.out]; omega
    have b3 : N.w.length ≤ maxLen := by unfold maxLen; omega
    clear hi hv hP hg
    go_wp2_with (at_make; refine wpList_make_full _ rfl _ _ _ rfl w1.heap.size 2 i0 (.int .i64 0) 1 Tryd.underlying24 HI.out HZ0.out HZ1.out _ _ _ _ N.w.length rfl rfl rfl rfl b2 b3 (Nat.le_refl _) ?_; intro w2 hown hgr)
    have hbel : Below w1.heap.size w1 w2 := (Below.refl _ _).grown hgr (Nat.le_refl _) (by intro k hk; cases hk)
    have hz : (List.map (Value.int .i64) (paR N fs 0)) = List.replicate N.w.length (Value.int .i64 0) := by simp [paR, paU]
    have h1 : w2.ownsRow w1.heap.size 2 1 (.slice (some ⟨w1.heap.size, 0, none⟩) N.w.length N.w.length) N.w.length ((paR N fs 0).map (Value.int .i64)) := by
      rw [hz, ← toList_madeCells_one]
      simpa [Value.cells] using hown
    have HO := Lib.hid h1
    have HB := Lib.hid hbel
    clear hgr hown b2 b3 hbel hz h1 y0 y1 y2
    go_wp2
    go_loopw [24] (fun i wr => ∃ k : Nat, k ≤ N.w.length ∧ i = .int .i64 k ∧ wr.ownsRow w1.heap.size 2 1 (.slice (some ⟨w1.heap.size, 0, none⟩) N.w.length N.w.length) N.w.length ((paR N fs k).map (Value.int .i64)) ∧ Below w1.heap.size w1 wr) (fun i _ => N.w.length - (intOf i).toNat)
    case atStart => exact ⟨0, Nat.zero_le _, rfl, HO.out, HB.out⟩
    case round =>
      obtain ⟨k, hk, rfl, hO, hB⟩ := hrel
      clear HO HB
      by_cases hlt : k < N.w.length
      · have HPK := Lib.hid (HPW.out k hlt _ hB)
        have HST := Lib.hid (paR_step (fs := fs) hlt)
        have HLN := Lib.hid (paR_len (N := N) (fs := fs) hk)
        have HO := Lib.hid hO; have HB := Lib.hid hB
        clear hO hB
        generalize qN N fs (frN N (k : Int)) = z at *
        go_wp2_with (fail)
        refine HPK.out.mono ?_
        rintro e w3 ⟨rfl, hd⟩
        have b3 := drewN_below hd wr.heap.size
        have hB3 := HB.out.trans (b3.mono HB.out.size)
        have hO3 := own_below HO.out b3 (Nat.le_refl _)
        obtain ⟨d0, e0⟩ : ∃ x, w3.cell? ⟨w1.heap.size, k, none⟩ = some x := ⟨_, (hO3.cellAt (g := w1.heap.size) k (by omega)).trans (List.getElem?_eq_getElem (by rw [List.length_map, HLN.out]; exact hlt))⟩
        have fr0 := hO3.frozenAt (g := w1.heap.size) k
        have hs := (hO3.stored k (.int .i64 z)).1
        rw [← List.map_set, HST.out] at hs
        have HS := Lib.hid hs
        have HB4 := Lib.hid (hB3.setCell (p := ⟨w1.heap.size, k, none⟩) (Nat.le_refl _) (.int .i64 z))
        clear hd b3 hB3 hO3 hs
        go_wp2
        go_roundw
        case rel => exact ⟨k + 1, by omega, by go_num, HS.out, HB4.out⟩
        case measure => simp [intOf]; omega
      · have hkl : k = N.w.length := by omega
        rw [hkl, paR_all] at hO
        have HG : Hid (GivesB w (paV N fs) (ifB N fs) (.returned (.tuple #[.slice (some ⟨w1.heap.size, 0, none⟩) N.w.length N.w.length, .bool true])) wr) := Lib.hid ⟨some ⟨w1.heap.size, 0, none⟩, N.w.length, by rw [HV.out, ← HE.out, paU_len], by rw [HV.out, paU_len]; exact hO.mono HB1.out.size, HB1.out.trans (hB.mono HB1.out.size)⟩
        clear hO hB
        subst hkl
        go_wp2
        go_ret2
        exact HG.out
  · have HG : Hid (GivesB w (paV N fs) (ifB N fs) (.returned (.tuple #[.slice none 0 0, .bool false])) w1) := Lib.hid (by
      have e1 : ifB N fs = false := hi
      have e2 : paV N fs = [] := if_neg (by rw [e1]; decide)
      rw [e1, e2]
      exact ⟨none, 0, rfl, World.ownsRow_nil _ _ _ _, HB1.out⟩)
    clear hi
    go_wp2
    go_ret2
    exact HG.out
end Go.Proofs.YtedigjkmolnjcaaDoor
