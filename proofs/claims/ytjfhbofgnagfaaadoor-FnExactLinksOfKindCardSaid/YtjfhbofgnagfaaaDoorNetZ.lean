/- Sources, targets and kinds of links, of the model. -/
import Derived.Test.YtjfhbofgnagfaaaDoorNetY
namespace Go.Proofs.YtjfhbofgnagfaaaDoor
open Go.ChangeAt Go.ChangeShapes Go.RowKit Go.WideShapes

/-- The wire is an output, or an input, of the link. -/
def srcB (x : Int) (l : Lk) : Bool := (l.k == 1 && (l.a == x || l.b == x)) || ((l.k == 3 || l.k == 4) && l.c == x)
def tgtB (x : Int) (l : Lk) : Bool := l.k != 1 && (l.a == x || l.b == x)
/-- The first link for which p holds, or -1. -/
def firstN (p : Lk → Bool) (ls : List Lk) : Int := match ls.findIdx? p with | some i => i | none => -1
theorem firstN_at {p : Lk → Bool} {ls : List Lk} {k : Nat} (hk : k < ls.length) (h : ∀ j, j < k → p (ls.getD j Lk.nil) = false) (hp : p (ls.getD k Lk.nil) = true) : firstN p ls = k := by
  have e : ls.findIdx? p = some k := by
    rw [List.findIdx?_eq_some_iff_getElem]
    refine ⟨hk, by simpa [List.getD, hk] using hp, fun j hj => ?_⟩
    have := h j hj
    have hj2 : j < ls.length := by omega
    simpa [List.getD, hj2] using this
  unfold firstN; rw [e]
theorem firstN_none {p : Lk → Bool} {ls : List Lk} (h : ∀ j, j < ls.length → p (ls.getD j Lk.nil) = false) : firstN p ls = -1 := by
  have e : ls.findIdx? p = none := by
    rw [List.findIdx?_eq_none_iff]
    intro l hl
    obtain ⟨j, hj, rfl⟩ := List.getElem_of_mem hl
    have := h j hj
    simpa [List.getD, hj] using this
  unfold firstN; rw [e]
theorem below_step {p : Lk → Bool} {ls : List Lk} {k : Nat} (h : ∀ j, j < k → p (ls.getD j Lk.nil) = false) (hp : p (ls.getD k Lk.nil) = false) : ∀ j, j < k + 1 → p (ls.getD j Lk.nil) = false := fun j hj => by
  by_cases e : j < k
  · exact h j e
  · obtain rfl : j = k := by omega
    exact hp
set_option maxRecDepth 100000 in
set_option maxHeartbeats 4000000 in
theorem sFrom_any (A L C : Option Addr) (n c d m e0 : Nat) (ls : List Lk) (x : Int) (w : World) (rl : RdL w w.heap.size L ls.length ls) (hl : ls.length ≤ 1048576) :
    Calls Tryd.prog 89 #[.agg #[.slice A n c, .slice L ls.length d, .slice C m e0], .int .i64 x] w fun e w' => e = .returned (.int .i64 (firstN (srcB x) ls)) ∧ Below w.heap.size w w' := by
  obtain ⟨w0, hw0⟩ : ∃ w0, w0 = w.alloc (.cells #[.slice A n c, .slice L ls.length d, .slice C m e0] 28) := ⟨_, rfl⟩
  obtain ⟨hb, hh, hsz⟩ := box3_any w (.slice A n c) (.slice L ls.length d) (.slice C m e0) 28
  rw [← hw0] at hb hh hsz
  have hs0 : w.heap.size + 1 ≤ w0.heap.size := by omega
  have HK : Hid (∀ w', Below w0.heap.size w0 w' → w'.cell? ⟨w.heap.size, 0, none⟩ = some (.slice A n c) ∧ w'.cell? ⟨w.heap.size, 1, none⟩ = some (.slice L ls.length d) ∧ w'.cell? ⟨w.heap.size, 2, none⟩ = some (.slice C m e0)) := Lib.hid fun w' hw => three_cells ((hw.block _ (by omega)).trans hh)
  have HRL := Lib.hid (fun (w' : World) (hw : Below w0.heap.size w0 w') => show RdL w' w'.heap.size L ls.length ls from (rl.below (hb.trans (hw.mono hb.size))).more (Nat.le_trans hb.size hw.size))
  have HB0 := Lib.hid hb
  obtain ⟨y0, y1, y2⟩ := three_cells hh
  clear hb hh hsz rl
  go_enter Tryd.func89, Tryd.ntmps89
  go_wp2
  rw [← hw0]
  clear hw0
  go_loopw [5] (fun i wx => ∃ k : Nat, k ≤ ls.length ∧ i = .int .i64 k ∧ (∀ j, j < k → srcB x (ls.getD j Lk.nil) = false) ∧ Below w0.heap.size w0 wx) (fun i _ => ls.length - (intOf i).toNat)
  case atStart => exact ⟨0, Nat.zero_le _, rfl, fun j hj => absurd hj (by omega), Below.refl _ _⟩
  case round =>
    obtain ⟨k, hk, rfl, hno, hB⟩ := hrel
    clear y0 y1 y2
    obtain ⟨y0, y1, y2⟩ := HK.out _ hB
    by_cases hlt : k < ls.length
    · obtain ⟨b, off, hA, hbb, hcells⟩ := (HRL.out _ hB).at (by omega)
      subst hA
      obtain ⟨x0, x1, x2, x3⟩ := hcells k hlt
      obtain ⟨⟨lk, la, lb, lc⟩, hl⟩ : ∃ l, ls.getD k Lk.nil = l := ⟨_, rfl⟩
      rw [hl] at x0 x1 x2 x3
      dsimp only at x0 x1 x2 x3
      obtain ⟨bl, z0, z1, z2, z3, zs⟩ := lnk_any wr ⟨lk, la, lb, lc⟩ 75
      dsimp only at bl z0 z1 z2 z3
      have BL := Lib.hid (hB.trans (bl.mono hB.size))
      have HNO := Lib.hid hno
      have HL := Lib.hid hl
      clear hcells hB bl zs hno hl
      by_cases h1 : lk = 1
      · subst h1
        by_cases ha : la = x
        · have da : (la == x) = true := by simpa using ha
          have HE : Hid ((k : Int) = firstN (srcB x) ls) := Lib.hid (firstN_at hlt HNO.out (by rw [HL.out]; simp [srcB, ha])).symm
          have HBB := Lib.hid (HB0.out.trans (BL.out.mono HB0.out.size))
          clear ha
          go_wp2
          go_ret
          exact ⟨ret_i64 HE.out, HBB.out⟩
        · have da : (la == x) = false := by simpa using ha
          by_cases hb : lb = x
          · have db : (lb == x) = true := by simpa using hb
            have HE : Hid ((k : Int) = firstN (srcB x) ls) := Lib.hid (firstN_at hlt HNO.out (by rw [HL.out]; simp [srcB, hb])).symm
            have HBB := Lib.hid (HB0.out.trans (BL.out.mono HB0.out.size))
            clear ha hb
            go_wp2
            go_ret
            exact ⟨ret_i64 HE.out, HBB.out⟩
          · have db : (lb == x) = false := by simpa using hb
            have HST := Lib.hid (below_step HNO.out (by rw [HL.out]; simp [srcB, ha, hb]))
            clear ha hb
            go_wp2
            go_roundw
            case rel => exact ⟨k + 1, by omega, by go_num, HST.out, BL.out⟩
            case measure => simp [intOf]; omega
      by_cases h3 : lk = 3
      · subst h3
        by_cases hc : lc = x
        · have dc : (lc == x) = true := by simpa using hc
          have HE : Hid ((k : Int) = firstN (srcB x) ls) := Lib.hid (firstN_at hlt HNO.out (by rw [HL.out]; simp [srcB, hc])).symm
          have HBB := Lib.hid (HB0.out.trans (BL.out.mono HB0.out.size))
          clear hc h1
          go_wp2
          go_ret
          exact ⟨ret_i64 HE.out, HBB.out⟩
        · have dc : (lc == x) = false := by simpa using hc
          have HST := Lib.hid (below_step HNO.out (by rw [HL.out]; simp [srcB, hc]))
          clear hc h1
          go_wp2
          go_roundw
          case rel => exact ⟨k + 1, by omega, by go_num, HST.out, BL.out⟩
          case measure => simp [intOf]; omega
      by_cases h4 : lk = 4
      · subst h4
        by_cases hc : lc = x
        · have dc : (lc == x) = true := by simpa using hc
          have HE : Hid ((k : Int) = firstN (srcB x) ls) := Lib.hid (firstN_at hlt HNO.out (by rw [HL.out]; simp [srcB, hc])).symm
          have HBB := Lib.hid (HB0.out.trans (BL.out.mono HB0.out.size))
          clear hc h1 h3
          go_wp2
          go_ret
          exact ⟨ret_i64 HE.out, HBB.out⟩
        · have dc : (lc == x) = false := by simpa using hc
          have HST := Lib.hid (below_step HNO.out (by rw [HL.out]; simp [srcB, hc]))
          clear hc h1 h3
          go_wp2
          go_roundw
          case rel => exact ⟨k + 1, by omega, by go_num, HST.out, BL.out⟩
          case measure => simp [intOf]; omega
      have d1 : (lk == 1) = false := by simpa using h1
      have d3 : (lk == 3) = false := by simpa using h3
      have d4 : (lk == 4) = false := by simpa using h4
      have HST := Lib.hid (below_step HNO.out (by rw [HL.out]; simp [srcB, h1, h3, h4]))
      clear h1 h3 h4
      go_wp2
      go_roundw
      case rel => exact ⟨k + 1, by omega, by go_num, HST.out, BL.out⟩
      case measure => simp [intOf]; omega
    · have hkl : k = ls.length := by omega
      subst hkl
      have HE : Hid ((-1 : Int) = firstN (srcB x) ls) := Lib.hid (firstN_none hno).symm
      have HBB := Lib.hid (HB0.out.trans (hB.mono HB0.out.size))
      clear hno
      go_wp2
      go_ret
      exact ⟨ret_i64 HE.out, HBB.out⟩
set_option maxRecDepth 100000 in
set_option maxHeartbeats 4000000 in
theorem sTo_any (A L C : Option Addr) (n c d m e0 : Nat) (ls : List Lk) (x : Int) (w : World) (rl : RdL w w.heap.size L ls.length ls) (hl : ls.length ≤ 1048576) :
    Calls Tryd.prog 92 #[.agg #[.slice A n c, .slice L ls.length d, .slice C m e0], .int .i64 x] w fun e w' => e = .returned (.int .i64 (firstN (tgtB x) ls)) ∧ Below w.heap.size w w' := by
  obtain ⟨w0, hw0⟩ : ∃ w0, w0 = w.alloc (.cells #[.slice A n c, .slice L ls.length d, .slice C m e0] 28) := ⟨_, rfl⟩
  obtain ⟨hb, hh, hsz⟩ := box3_any w (.slice A n c) (.slice L ls.length d) (.slice C m e0) 28
  rw [← hw0] at hb hh hsz
  have hs0 : w.heap.size + 1 ≤ w0.heap.size := by omega
  have HK : Hid (∀ w', Below w0.heap.size w0 w' → w'.cell? ⟨w.heap.size, 0, none⟩ = some (.slice A n c) ∧ w'.cell? ⟨w.heap.size, 1, none⟩ = some (.slice L ls.length d) ∧ w'.cell? ⟨w.heap.size, 2, none⟩ = some (.slice C m e0)) := Lib.hid fun w' hw => three_cells ((hw.block _ (by omega)).trans hh)
  have HRL := Lib.hid (fun (w' : World) (hw : Below w0.heap.size w0 w') => show RdL w' w'.heap.size L ls.length ls from (rl.below (hb.trans (hw.mono hb.size))).more (Nat.le_trans hb.size hw.size))
  have HB0 := Lib.hid hb
  obtain ⟨y0, y1, y2⟩ := three_cells hh
  clear hb hh hsz rl
  go_enter Tryd.func92, Tryd.ntmps92
  go_wp2
  rw [← hw0]
  clear hw0
  go_loopw [5] (fun i wx => ∃ k : Nat, k ≤ ls.length ∧ i = .int .i64 k ∧ (∀ j, j < k → tgtB x (ls.getD j Lk.nil) = false) ∧ Below w0.heap.size w0 wx) (fun i _ => ls.length - (intOf i).toNat)
  case atStart => exact ⟨0, Nat.zero_le _, rfl, fun j hj => absurd hj (by omega), Below.refl _ _⟩
  case round =>
    obtain ⟨k, hk, rfl, hno, hB⟩ := hrel
    clear y0 y1 y2
    obtain ⟨y0, y1, y2⟩ := HK.out _ hB
    by_cases hlt : k < ls.length
    · obtain ⟨b, off, hA, hbb, hcells⟩ := (HRL.out _ hB).at (by omega)
      subst hA
      obtain ⟨x0, x1, x2, x3⟩ := hcells k hlt
      obtain ⟨⟨lk, la, lb, lc⟩, hl⟩ : ∃ l, ls.getD k Lk.nil = l := ⟨_, rfl⟩
      rw [hl] at x0 x1 x2 x3
      dsimp only at x0 x1 x2 x3
      obtain ⟨bl, z0, z1, z2, z3, zs⟩ := lnk_any wr ⟨lk, la, lb, lc⟩ 75
      dsimp only at bl z0 z1 z2 z3
      have BL := Lib.hid (hB.trans (bl.mono hB.size))
      have HNO := Lib.hid hno
      have HL := Lib.hid hl
      clear hcells hB bl zs hno hl
      by_cases h1 : lk = 1
      · subst h1
        have HST := Lib.hid (below_step HNO.out (by rw [HL.out]; simp [tgtB]))
        skip
        go_wp2
        go_roundw
        case rel => exact ⟨k + 1, by omega, by go_num, HST.out, BL.out⟩
        case measure => simp [intOf]; omega
      have d1 : (lk != 1) = true := by simpa using h1
      by_cases ha : la = x
      · have da : (la == x) = true := by simpa using ha
        have HE : Hid ((k : Int) = firstN (tgtB x) ls) := Lib.hid (firstN_at hlt HNO.out (by rw [HL.out]; simp [tgtB, ha, h1])).symm
        have HBB := Lib.hid (HB0.out.trans (BL.out.mono HB0.out.size))
        clear ha h1
        go_wp2
        go_ret
        exact ⟨ret_i64 HE.out, HBB.out⟩
      have da : (la == x) = false := by simpa using ha
      by_cases hb : lb = x
      · have db : (lb == x) = true := by simpa using hb
        have HE : Hid ((k : Int) = firstN (tgtB x) ls) := Lib.hid (firstN_at hlt HNO.out (by rw [HL.out]; simp [tgtB, hb, h1])).symm
        have HBB := Lib.hid (HB0.out.trans (BL.out.mono HB0.out.size))
        clear ha hb h1
        go_wp2
        go_ret
        exact ⟨ret_i64 HE.out, HBB.out⟩
      have db : (lb == x) = false := by simpa using hb
      have HST := Lib.hid (below_step HNO.out (by rw [HL.out]; simp [tgtB, ha, hb]))
      clear ha hb h1
      go_wp2
      go_roundw
      case rel => exact ⟨k + 1, by omega, by go_num, HST.out, BL.out⟩
      case measure => simp [intOf]; omega
    · have hkl : k = ls.length := by omega
      subst hkl
      have HE : Hid ((-1 : Int) = firstN (tgtB x) ls) := Lib.hid (firstN_none hno).symm
      have HBB := Lib.hid (HB0.out.trans (hB.mono HB0.out.size))
      clear hno
      go_wp2
      go_ret
      exact ⟨ret_i64 HE.out, HBB.out⟩
/-- SourceOf. -/
def srcN (N : Nt) (x : Int) : Int := if valN N && inW N.w.length x then firstN (srcB x) N.l else -1
set_option maxRecDepth 100000 in
set_option maxHeartbeats 1000000 in
theorem sSourceOf_any (h : NH) (N : Nt) (x : Int) (w : World) (r : RdN w w.heap.size h N) (hn : N.w.length ≤ 1048576) (hl : N.l.length ≤ 1048576) (hc : N.c.length ≤ 1048576) :
    Calls Tryd.prog 36 #[.agg #[.slice h.A N.w.length h.c, .slice h.L N.l.length h.d, .slice h.C N.c.length h.e], .int .i64 x] w fun e w' => e = .returned (.int .i64 (srcN N x)) ∧ Below w.heap.size w w' := by
  obtain ⟨w0, hw0⟩ : ∃ w0, w0 = w.alloc (.cells #[.slice h.A N.w.length h.c, .slice h.L N.l.length h.d, .slice h.C N.c.length h.e] 28) := ⟨_, rfl⟩
  obtain ⟨hb, hh, hsz⟩ := box3_any w (.slice h.A N.w.length h.c) (.slice h.L N.l.length h.d) (.slice h.C N.c.length h.e) 28
  rw [← hw0] at hb hh hsz
  have hs0 : w.heap.size + 1 ≤ w0.heap.size := by omega
  have HK : Hid (∀ w', Below w0.heap.size w0 w' → w'.cell? ⟨w.heap.size, 0, none⟩ = some (.slice h.A N.w.length h.c) ∧ w'.cell? ⟨w.heap.size, 1, none⟩ = some (.slice h.L N.l.length h.d) ∧ w'.cell? ⟨w.heap.size, 2, none⟩ = some (.slice h.C N.c.length h.e)) := Lib.hid fun w' hw => three_cells ((hw.block _ (by omega)).trans hh)
  have HV := Lib.hid (sValidNet_any h N w0 ((r.below hb).more hb.size) hn hl hc)
  have HR := Lib.hid (fun (w' : World) (hw : Below w0.heap.size w0 w') => ((r.below (hb.trans (hw.mono hb.size))).more (Nat.le_trans hb.size hw.size)))
  have HB0 := Lib.hid hb
  obtain ⟨y0, y1, y2⟩ := three_cells hh
  clear hb hh hsz r
  cases hv : valN N with
  | false =>
    have HE : Hid ((-1 : Int) = srcN N x) := Lib.hid (by unfold srcN; rw [hv]; rfl)
    rw [hv] at HV
    clear hv
    go_enter Tryd.func36, Tryd.ntmps36
    go_wp2_with (fail)
    rw [← hw0]
    clear hw0
    refine HV.out.mono ?_
    rintro e w1 ⟨rfl, bel⟩
    have HB1 := Lib.hid (HB0.out.trans (bel.mono HB0.out.size))
    clear bel
    go_wp2
    go_ret
    exact ⟨ret_i64 HE.out, HB1.out⟩
  | true =>
    rw [hv] at HV
    cases hx : inW N.w.length x with
    | false =>
      have HE : Hid ((-1 : Int) = srcN N x) := Lib.hid (by unfold srcN; rw [hv, hx]; rfl)
      clear hv
      go_enter Tryd.func36, Tryd.ntmps36
      go_wp2_with (fail)
      rw [← hw0]
      clear hw0
      refine HV.out.mono ?_
      rintro e w1 ⟨rfl, bel⟩
      have HB1 := Lib.hid bel
      clear y0 y1 y2
      obtain ⟨y0, y1, y2⟩ := HK.out _ bel
      clear bel
      have HX := Lib.hid (sWire_no h.A h.L h.C N.w.length h.c N.l.length h.d N.c.length h.e x w1 (by unfold maxLen; omega) hx)
      clear hx
      go_wp2_with (fail)
      refine HX.out.mono ?_
      rintro e w2 ⟨rfl, bel⟩
      have HB2 := Lib.hid (HB0.out.trans ((HB1.out.trans (bel.mono HB1.out.size)).mono HB0.out.size))
      clear bel
      go_wp2
      go_ret
      exact ⟨ret_i64 HE.out, HB2.out⟩
    | true =>
      have HE : Hid (firstN (srcB x) N.l = srcN N x) := Lib.hid (by unfold srcN; rw [hv, hx]; rfl)
      clear hv
      go_enter Tryd.func36, Tryd.ntmps36
      go_wp2_with (fail)
      rw [← hw0]
      clear hw0
      refine HV.out.mono ?_
      rintro e w1 ⟨rfl, bel⟩
      have HB1 := Lib.hid bel
      clear y0 y1 y2
      obtain ⟨y0, y1, y2⟩ := HK.out _ bel
      clear bel
      have HX := Lib.hid (sWire_yes h.A h.L h.C N.w.length h.c N.l.length h.d N.c.length h.e x w1 (by unfold maxLen; omega) hx)
      clear hx
      go_wp2_with (fail)
      refine HX.out.mono ?_
      rintro e w2 ⟨rfl, bel⟩
      have HB2 := Lib.hid (HB1.out.trans (bel.mono HB1.out.size))
      clear y0 y1 y2 bel
      obtain ⟨y0, y1, y2⟩ := HK.out _ HB2.out
      have HF := Lib.hid (sFrom_any h.A h.L h.C N.w.length h.c h.d N.c.length h.e N.l x w2 (HR.out w2 HB2.out).2.1 hl)
      go_wp2_with (fail)
      refine HF.out.mono ?_
      rintro e w3 ⟨rfl, bel⟩
      have HB3 := Lib.hid (HB0.out.trans ((HB2.out.trans (bel.mono HB2.out.size)).mono HB0.out.size))
      clear bel
      go_wp2
      go_ret
      exact ⟨ret_i64 HE.out, HB3.out⟩
/-- TargetOf. -/
def tgtN (N : Nt) (x : Int) : Int := if valN N && inW N.w.length x then firstN (tgtB x) N.l else -1
set_option maxRecDepth 100000 in
set_option maxHeartbeats 1000000 in
theorem sTargetOf_any (h : NH) (N : Nt) (x : Int) (w : World) (r : RdN w w.heap.size h N) (hn : N.w.length ≤ 1048576) (hl : N.l.length ≤ 1048576) (hc : N.c.length ≤ 1048576) :
    Calls Tryd.prog 38 #[.agg #[.slice h.A N.w.length h.c, .slice h.L N.l.length h.d, .slice h.C N.c.length h.e], .int .i64 x] w fun e w' => e = .returned (.int .i64 (tgtN N x)) ∧ Below w.heap.size w w' := by
  obtain ⟨w0, hw0⟩ : ∃ w0, w0 = w.alloc (.cells #[.slice h.A N.w.length h.c, .slice h.L N.l.length h.d, .slice h.C N.c.length h.e] 28) := ⟨_, rfl⟩
  obtain ⟨hb, hh, hsz⟩ := box3_any w (.slice h.A N.w.length h.c) (.slice h.L N.l.length h.d) (.slice h.C N.c.length h.e) 28
  rw [← hw0] at hb hh hsz
  have hs0 : w.heap.size + 1 ≤ w0.heap.size := by omega
  have HK : Hid (∀ w', Below w0.heap.size w0 w' → w'.cell? ⟨w.heap.size, 0, none⟩ = some (.slice h.A N.w.length h.c) ∧ w'.cell? ⟨w.heap.size, 1, none⟩ = some (.slice h.L N.l.length h.d) ∧ w'.cell? ⟨w.heap.size, 2, none⟩ = some (.slice h.C N.c.length h.e)) := Lib.hid fun w' hw => three_cells ((hw.block _ (by omega)).trans hh)
  have HV := Lib.hid (sValidNet_any h N w0 ((r.below hb).more hb.size) hn hl hc)
  have HR := Lib.hid (fun (w' : World) (hw : Below w0.heap.size w0 w') => ((r.below (hb.trans (hw.mono hb.size))).more (Nat.le_trans hb.size hw.size)))
  have HB0 := Lib.hid hb
  obtain ⟨y0, y1, y2⟩ := three_cells hh
  clear hb hh hsz r
  cases hv : valN N with
  | false =>
    have HE : Hid ((-1 : Int) = tgtN N x) := Lib.hid (by unfold tgtN; rw [hv]; rfl)
    rw [hv] at HV
    clear hv
    go_enter Tryd.func38, Tryd.ntmps38
    go_wp2_with (fail)
    rw [← hw0]
    clear hw0
    refine HV.out.mono ?_
    rintro e w1 ⟨rfl, bel⟩
    have HB1 := Lib.hid (HB0.out.trans (bel.mono HB0.out.size))
    clear bel
    go_wp2
    go_ret
    exact ⟨ret_i64 HE.out, HB1.out⟩
  | true =>
    rw [hv] at HV
    cases hx : inW N.w.length x with
    | false =>
      have HE : Hid ((-1 : Int) = tgtN N x) := Lib.hid (by unfold tgtN; rw [hv, hx]; rfl)
      clear hv
      go_enter Tryd.func38, Tryd.ntmps38
      go_wp2_with (fail)
      rw [← hw0]
      clear hw0
      refine HV.out.mono ?_
      rintro e w1 ⟨rfl, bel⟩
      have HB1 := Lib.hid bel
      clear y0 y1 y2
      obtain ⟨y0, y1, y2⟩ := HK.out _ bel
      clear bel
      have HX := Lib.hid (sWire_no h.A h.L h.C N.w.length h.c N.l.length h.d N.c.length h.e x w1 (by unfold maxLen; omega) hx)
      clear hx
      go_wp2_with (fail)
      refine HX.out.mono ?_
      rintro e w2 ⟨rfl, bel⟩
      have HB2 := Lib.hid (HB0.out.trans ((HB1.out.trans (bel.mono HB1.out.size)).mono HB0.out.size))
      clear bel
      go_wp2
      go_ret
      exact ⟨ret_i64 HE.out, HB2.out⟩
    | true =>
      have HE : Hid (firstN (tgtB x) N.l = tgtN N x) := Lib.hid (by unfold tgtN; rw [hv, hx]; rfl)
      clear hv
      go_enter Tryd.func38, Tryd.ntmps38
      go_wp2_with (fail)
      rw [← hw0]
      clear hw0
      refine HV.out.mono ?_
      rintro e w1 ⟨rfl, bel⟩
      have HB1 := Lib.hid bel
      clear y0 y1 y2
      obtain ⟨y0, y1, y2⟩ := HK.out _ bel
      clear bel
      have HX := Lib.hid (sWire_yes h.A h.L h.C N.w.length h.c N.l.length h.d N.c.length h.e x w1 (by unfold maxLen; omega) hx)
      clear hx
      go_wp2_with (fail)
      refine HX.out.mono ?_
      rintro e w2 ⟨rfl, bel⟩
      have HB2 := Lib.hid (HB1.out.trans (bel.mono HB1.out.size))
      clear y0 y1 y2 bel
      obtain ⟨y0, y1, y2⟩ := HK.out _ HB2.out
      have HF := Lib.hid (sTo_any h.A h.L h.C N.w.length h.c h.d N.c.length h.e N.l x w2 (HR.out w2 HB2.out).2.1 hl)
      go_wp2_with (fail)
      refine HF.out.mono ?_
      rintro e w3 ⟨rfl, bel⟩
      have HB3 := Lib.hid (HB0.out.trans ((HB2.out.trans (bel.mono HB2.out.size)).mono HB0.out.size))
      clear bel
      go_wp2
      go_ret
      exact ⟨ret_i64 HE.out, HB3.out⟩
end Go.Proofs.YtjfhbofgnagfaaaDoor
