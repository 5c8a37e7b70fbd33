/- The model's sources and targets of wires, of chapter 11. -/
import Derived.Test.YtgpocnapkflihaaGreatDoorSwS
import Derived.Test.YtgpocnapkflihaaGreatDoorFaM
namespace Go.Proofs.YtgpocnapkflihaaGreatDoor
set_option linter.unusedSimpArgs false
set_option linter.unusedVariables false
open Go.ChangeAt Go.ChangeShapes Go.RowKit Go.WideShapes

set_option maxRecDepth 100000 in
set_option maxHeartbeats 4000000 in
theorem smFrom_any (A L C : Option Addr) (n c d m e0 : Nat) (ls : List Lk) (x : Int) (w : World) (rl : RdL w w.heap.size L ls.length ls) (hl : ls.length ≤ 1048576) :
    Calls Tryz.prog 55 #[.agg #[.slice A n c, .slice L ls.length d, .slice C m e0], .int .i64 x] w fun e w' => e = .returned (.int .i64 (firstN (srcB x) ls)) ∧ Below w.heap.size w w' := by
  obtain ⟨w0, hw0⟩ : ∃ w0, w0 = w.alloc (.cells #[.slice A n c, .slice L ls.length d, .slice C m e0] 30) := ⟨_, rfl⟩
  obtain ⟨hb, hh, hsz⟩ := box3_any w (.slice A n c) (.slice L ls.length d) (.slice C m e0) 30
  rw [← hw0] at hb hh hsz
  have hs0 : w.heap.size + 1 ≤ w0.heap.size := by omega
  have HK : Hid (∀ w', Below w0.heap.size w0 w' → w'.cell? ⟨w.heap.size, 0, none⟩ = some (.slice A n c) ∧ w'.cell? ⟨w.heap.size, 1, none⟩ = some (.slice L ls.length d) ∧ w'.cell? ⟨w.heap.size, 2, none⟩ = some (.slice C m e0)) := Lib.hid fun w' hw => three_cells ((hw.block _ (by omega)).trans hh)
  have HRL := Lib.hid (fun (w' : World) (hw : Below w0.heap.size w0 w') => show RdL w' w'.heap.size L ls.length ls from (rl.below (hb.trans (hw.mono hb.size))).more (Nat.le_trans hb.size hw.size))
  have HB0 := Lib.hid hb
  obtain ⟨y0, y1, y2⟩ := three_cells hh
  clear hb hh hsz rl
  go_enter Tryz.func55, Tryz.ntmps55
  go_wp2
  rw [← hw0]
  clear hw0
  go_loopw [5] (fun i wx => ∃ k : Nat, k ≤ ls.length ∧ i = .int .i64 k ∧ (∀ j, j < k → srcB x (ls.getD j Lk.nil) = false) ∧ Below w0.heap.size w0 wx) (fun i _ => ls.length - (intOf i).toNat)
  case atStart => exact ⟨0, Nat.zero_le _, rfl, fun j hj => absurd hj (by omega), Below.refl _ _⟩
  case round =>
    obtain ⟨k, hk, rfl, hno, hB⟩ := hrel
    clear y0 y1 y2
    obtain ⟨y0, y1, y2⟩ := HK.out _ hB
    by_cases hlt : k < ls.length
    · obtain ⟨b, off, hA, hbb, hcells⟩ := (HRL.out _ hB).at (by omega)
      subst hA
      obtain ⟨x0, x1, x2, x3⟩ := hcells k hlt
      obtain ⟨⟨lk, la, lb, lc⟩, hl⟩ : ∃ l, ls.getD k Lk.nil = l := ⟨_, rfl⟩
      rw [hl] at x0 x1 x2 x3
      dsimp only at x0 x1 x2 x3
      obtain ⟨bl, z0, z1, z2, z3, zs⟩ := lnk_any wr ⟨lk, la, lb, lc⟩ 54
      dsimp only at bl z0 z1 z2 z3
      have BL := Lib.hid (hB.trans (bl.mono hB.size))
      have HNO := Lib.hid hno
      have HL := Lib.hid hl
      clear hcells hB bl zs hno hl
      by_cases h1 : lk = 1
      · subst h1
        by_cases ha : la = x
        · have da : (la == x) = true := by simpa using ha
          have HE : Hid ((k : Int) = firstN (srcB x) ls) := Lib.hid (firstN_at hlt HNO.out (by rw [HL.out]; simp [srcB, ha])).symm
          have HBB := Lib.hid (HB0.out.trans (BL.out.mono HB0.out.size))
          clear ha
          go_wp2
          go_ret
          exact ⟨ret_i64 HE.out, HBB.out⟩
        · have da : (la == x) = false := by simpa using ha
          by_cases hb : lb = x
          · have db : (lb == x) = true := by simpa using hb
            have HE : Hid ((k : Int) = firstN (srcB x) ls) := Lib.hid (firstN_at hlt HNO.out (by rw [HL.out]; simp [srcB, hb])).symm
            have HBB := Lib.hid (HB0.out.trans (BL.out.mono HB0.out.size))
            clear ha hb
            go_wp2
            go_ret
            exact ⟨ret_i64 HE.out, HBB.out⟩
          · have db : (lb == x) = false := by simpa using hb
            have HST := Lib.hid (below_step HNO.out (by rw [HL.out]; simp [srcB, ha, hb]))
            clear ha hb
            go_wp2
            go_roundw
            case rel => exact ⟨k + 1, by omega, by go_num, HST.out, BL.out⟩
            case measure => simp [intOf]; omega
      by_cases h3 : lk = 3
      · subst h3
        by_cases hc : lc = x
        · have dc : (lc == x) = true := by simpa using hc
          have HE : Hid ((k : Int) = firstN (srcB x) ls) := Lib.hid (firstN_at hlt HNO.out (by rw [HL.out]; simp [srcB, hc])).symm
          have HBB := Lib.hid (HB0.out.trans (BL.out.mono HB0.out.size))
          clear hc h1
          go_wp2
          go_ret
          exact ⟨ret_i64 HE.out, HBB.out⟩
        · have dc : (lc == x) = false := by simpa using hc
          have HST := Lib.hid (below_step HNO.out (by rw [HL.out]; simp [srcB, hc]))
          clear hc h1
          go_wp2
          go_roundw
          case rel => exact ⟨k + 1, by omega, by go_num, HST.out, BL.out⟩
          case measure => simp [intOf]; omega
      by_cases h4 : lk = 4
      · subst h4
        by_cases hc : lc = x
        · have dc : (lc == x) = true := by simpa using hc
          have HE : Hid ((k : Int) = firstN (srcB x) ls) := Lib.hid (firstN_at hlt HNO.out (by rw [HL.out]; simp [srcB, hc])).symm
          have HBB := Lib.hid (HB0.out.trans (BL.out.mono HB0.out.size))
          clear hc h1 h3
          go_wp2
          go_ret
          exact ⟨ret_i64 HE.out, HBB.out⟩
        · have dc : (lc == x) = false := by simpa using hc
          have HST := Lib.hid (below_step HNO.out (by rw [HL.out]; simp [srcB, hc]))
          clear hc h1 h3
          go_wp2
          go_roundw
          case rel => exact ⟨k + 1, by omega, by go_num, HST.out, BL.out⟩
          case measure => simp [intOf]; omega
      have d1 : (lk == 1) = false := by simpa using h1
      have d3 : (lk == 3) = false := by simpa using h3
      have d4 : (lk == 4) = false := by simpa using h4
      have HST := Lib.hid (below_step HNO.out (by rw [HL.out]; simp [srcB, h1, h3, h4]))
      clear h1 h3 h4
      go_wp2
      go_roundw
      case rel => exact ⟨k + 1, by omega, by go_num, HST.out, BL.out⟩
      case measure => simp [intOf]; omega
    · have hkl : k = ls.length := by omega
      subst hkl
      have HE : Hid ((-1 : Int) = firstN (srcB x) ls) := Lib.hid (firstN_none hno).symm
      have HBB := Lib.hid (HB0.out.trans (hB.mono HB0.out.size))
      clear hno
      go_wp2
      go_ret
      exact ⟨ret_i64 HE.out, HBB.out⟩
set_option maxRecDepth 100000 in
set_option maxHeartbeats 4000000 in
theorem smTo_any (A L C : Option Addr) (n c d m e0 : Nat) (ls : List Lk) (x : Int) (w : World) (rl : RdL w w.heap.size L ls.length ls) (hl : ls.length ≤ 1048576) :
    Calls Tryz.prog 71 #[.agg #[.slice A n c, .slice L ls.length d, .slice C m e0], .int .i64 x] w fun e w' => e = .returned (.int .i64 (firstN (tgtB x) ls)) ∧ Below w.heap.size w w' := by
  obtain ⟨w0, hw0⟩ : ∃ w0, w0 = w.alloc (.cells #[.slice A n c, .slice L ls.length d, .slice C m e0] 30) := ⟨_, rfl⟩
  obtain ⟨hb, hh, hsz⟩ := box3_any w (.slice A n c) (.slice L ls.length d) (.slice C m e0) 30
  rw [← hw0] at hb hh hsz
  have hs0 : w.heap.size + 1 ≤ w0.heap.size := by omega
  have HK : Hid (∀ w', Below w0.heap.size w0 w' → w'.cell? ⟨w.heap.size, 0, none⟩ = some (.slice A n c) ∧ w'.cell? ⟨w.heap.size, 1, none⟩ = some (.slice L ls.length d) ∧ w'.cell? ⟨w.heap.size, 2, none⟩ = some (.slice C m e0)) := Lib.hid fun w' hw => three_cells ((hw.block _ (by omega)).trans hh)
  have HRL := Lib.hid (fun (w' : World) (hw : Below w0.heap.size w0 w') => show RdL w' w'.heap.size L ls.length ls from (rl.below (hb.trans (hw.mono hb.size))).more (Nat.le_trans hb.size hw.size))
  have HB0 := Lib.hid hb
  obtain ⟨y0, y1, y2⟩ := three_cells hh
  clear hb hh hsz rl
  go_enter Tryz.func71, Tryz.ntmps71
  go_wp2
  rw [← hw0]
  clear hw0
  go_loopw [5] (fun i wx => ∃ k : Nat, k ≤ ls.length ∧ i = .int .i64 k ∧ (∀ j, j < k → tgtB x (ls.getD j Lk.nil) = false) ∧ Below w0.heap.size w0 wx) (fun i _ => ls.length - (intOf i).toNat)
  case atStart => exact ⟨0, Nat.zero_le _, rfl, fun j hj => absurd hj (by omega), Below.refl _ _⟩
  case round =>
    obtain ⟨k, hk, rfl, hno, hB⟩ := hrel
    clear y0 y1 y2
    obtain ⟨y0, y1, y2⟩ := HK.out _ hB
    by_cases hlt : k < ls.length
    · obtain ⟨b, off, hA, hbb, hcells⟩ := (HRL.out _ hB).at (by omega)
      subst hA
      obtain ⟨x0, x1, x2, x3⟩ := hcells k hlt
      obtain ⟨⟨lk, la, lb, lc⟩, hl⟩ : ∃ l, ls.getD k Lk.nil = l := ⟨_, rfl⟩
      rw [hl] at x0 x1 x2 x3
      dsimp only at x0 x1 x2 x3
      obtain ⟨bl, z0, z1, z2, z3, zs⟩ := lnk_any wr ⟨lk, la, lb, lc⟩ 54
      dsimp only at bl z0 z1 z2 z3
      have BL := Lib.hid (hB.trans (bl.mono hB.size))
      have HNO := Lib.hid hno
      have HL := Lib.hid hl
      clear hcells hB bl zs hno hl
      by_cases h1 : lk = 1
      · subst h1
        have HST := Lib.hid (below_step HNO.out (by rw [HL.out]; simp [tgtB]))
        skip
        go_wp2
        go_roundw
        case rel => exact ⟨k + 1, by omega, by go_num, HST.out, BL.out⟩
        case measure => simp [intOf]; omega
      have d1 : (lk != 1) = true := by simpa using h1
      by_cases ha : la = x
      · have da : (la == x) = true := by simpa using ha
        have HE : Hid ((k : Int) = firstN (tgtB x) ls) := Lib.hid (firstN_at hlt HNO.out (by rw [HL.out]; simp [tgtB, ha, h1])).symm
        have HBB := Lib.hid (HB0.out.trans (BL.out.mono HB0.out.size))
        clear ha h1
        go_wp2
        go_ret
        exact ⟨ret_i64 HE.out, HBB.out⟩
      have da : (la == x) = false := by simpa using ha
      by_cases hb : lb = x
      · have db : (lb == x) = true := by simpa using hb
        have HE : Hid ((k : Int) = firstN (tgtB x) ls) := Lib.hid (firstN_at hlt HNO.out (by rw [HL.out]; simp [tgtB, hb, h1])).symm
        have HBB := Lib.hid (HB0.out.trans (BL.out.mono HB0.out.size))
        clear ha hb h1
        go_wp2
        go_ret
        exact ⟨ret_i64 HE.out, HBB.out⟩
      have db : (lb == x) = false := by simpa using hb
      have HST := Lib.hid (below_step HNO.out (by rw [HL.out]; simp [tgtB, ha, hb]))
      clear ha hb h1
      go_wp2
      go_roundw
      case rel => exact ⟨k + 1, by omega, by go_num, HST.out, BL.out⟩
      case measure => simp [intOf]; omega
    · have hkl : k = ls.length := by omega
      subst hkl
      have HE : Hid ((-1 : Int) = firstN (tgtB x) ls) := Lib.hid (firstN_none hno).symm
      have HBB := Lib.hid (HB0.out.trans (hB.mono HB0.out.size))
      clear hno
      go_wp2
      go_ret
      exact ⟨ret_i64 HE.out, HBB.out⟩
end Go.Proofs.YtgpocnapkflihaaGreatDoor
