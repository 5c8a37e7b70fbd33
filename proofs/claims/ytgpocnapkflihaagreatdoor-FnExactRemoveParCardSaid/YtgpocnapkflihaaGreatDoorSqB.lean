/- slices.IndexFunc and slices.DeleteFunc at chapter 14's closures. Made by mksqb.py. -/
import Derived.Test.YtgpocnapkflihaaGreatDoorPaF
import Derived.Deep.RegionHeldLaw
import Derived.Deep.DeepCutAuto
import Derived.BigQuiet
import Derived.Lib.SliceRun
namespace Go.Proofs.YtgpocnapkflihaaGreatDoor
set_option linter.unusedSimpArgs false
set_option linter.unusedVariables false
open Go.ChangeAt Go.ChangeShapes Go.RowKit Go.WideShapes

set_option maxRecDepth 100000 in
set_option maxHeartbeats 1000000 in
theorem indexIsTm_any (bx : Nat) (d : Int → Bool) (A : Option Addr) (c : Nat) (xs : List Int) (w : World) (r : RdI w w.heap.size A xs.length xs) (hl : xs.length ≤ 1048576)
    (hd : ∀ wx, Below w.heap.size w wx → ∀ x ∈ xs, Calls Tryz.prog 101 #[.int .i64 x, .pointer (some ⟨bx, 0, none⟩)] wx fun e w' => e = .returned (.bool (d x)) ∧ Below (wx).heap.size wx w') :
    Calls Tryz.prog 83 #[.slice A xs.length c, .func (.func 101) #[] #[.pointer (some ⟨bx, 0, none⟩)]] w fun e w' => ((e = .returned (.int .i64 (-1)) ∧ ∀ m, m < xs.length → d (xs.getD m 0) = false) ∨ (∃ k : Nat, e = .returned (.int .i64 k) ∧ k < xs.length ∧ (∀ m, m < k → d (xs.getD m 0) = false) ∧ d (xs.getD k 0) = true)) ∧ Below w.heap.size w w' := by
  have R := Lib.hid (fun (wx : World) (hx : Below w.heap.size w wx) => show RdI wx w.heap.size A xs.length xs from r.below hx)
  have HD := Lib.hid hd
  clear r hd
  go_enter Tryz.func83, Tryz.ntmps83
  go_wp2
  go_loopw [8] (fun i wr => ∃ k : Nat, k ≤ xs.length ∧ i = .int .i64 k ∧ (∀ m, m < k → d (xs.getD m 0) = false) ∧ Below w.heap.size w wr) (fun i _ => xs.length - (intOf i).toNat)
  case atStart => exact ⟨0, Nat.zero_le _, rfl, fun m hm => absurd hm (by omega), Below.refl _ _⟩
  case round =>
    obtain ⟨k, hk, rfl, hno, hB⟩ := hrel
    by_cases hlt : k < xs.length
    · obtain ⟨b, off, rfl, hbb, hcells⟩ := (R.out _ hB).2 (by omega)
      have x0 := hcells k hlt
      have HC := Lib.hid (HD.out _ hB _ (getL_mem (d := (0 : Int)) hlt))
      have HNO := Lib.hid hno; have HB := Lib.hid hB
      have HST : Hid (d (xs.getD k 0) = false → ∀ m, m < k + 1 → d (xs.getD m 0) = false) := Lib.hid fun e m hm => by
        by_cases e2 : m < k
        · exact HNO.out m e2
        · obtain rfl : m = k := by omega
          exact e
      clear hcells hno hB
      cases hdk : d (xs.getD k 0) with
      | true =>
        rw [hdk] at HC
        have HDK := Lib.hid hdk
        clear hdk
        generalize hz : xs.getD k 0 = z at x0 HC
        clear hz
        go_wp2_with (fail)
        refine HC.out.mono ?_
        rintro e w1 ⟨rfl, b1⟩
        have HB1 := Lib.hid (HB.out.trans (b1.mono HB.out.size))
        clear b1 x0
        go_wp2
        go_ret
        exact ⟨.inr ⟨k, rfl, hlt, HNO.out, HDK.out⟩, HB1.out⟩
      | false =>
        rw [hdk] at HC
        have HS := Lib.hid (HST.out hdk)
        clear hdk
        generalize hz : xs.getD k 0 = z at x0 HC
        clear hz
        go_wp2_with (fail)
        refine HC.out.mono ?_
        rintro e w1 ⟨rfl, b1⟩
        have HB1 := Lib.hid (HB.out.trans (b1.mono HB.out.size))
        clear b1 x0
        go_wp2
        go_roundw
        case rel => exact ⟨k + 1, by omega, by go_num, HS.out, HB1.out⟩
        case measure => simp [intOf]; omega
    · have hkl : k = xs.length := by omega
      subst hkl
      have HNO := Lib.hid hno; have HB := Lib.hid hB
      clear hno hB
      go_wp2
      go_ret
      exact ⟨.inl ⟨rfl, HNO.out⟩, HB.out⟩
set_option maxRecDepth 100000 in
set_option maxHeartbeats 1000000 in
theorem delIsTm_any (bx : Nat) (d : Int → Bool) (A : Option Addr) (c : Nat) (xs : List Int) (w : World) (lo : Nat) (hO : w.ownsRow lo 2 1 (.slice A xs.length c) xs.length (xs.map (Value.int .i64))) (hl : xs.length ≤ 1048576)
    (hd : ∀ wx, w.grownBy wx (Value.slice A xs.length c).ownBlock → ∀ x ∈ xs, Calls Tryz.prog 101 #[.int .i64 x, .pointer (some ⟨bx, 0, none⟩)] wx fun e w' => e = .returned (.bool (d x)) ∧ Below (wx).heap.size wx w') :
    Calls Tryz.prog 61 #[.slice A xs.length c, .func (.func 101) #[] #[.pointer (some ⟨bx, 0, none⟩)]] w (GivesDI w lo (Value.slice A xs.length c).ownBlock (kpI d xs xs.length)) := by
  have HIX := Lib.hid (indexIsTm_any bx d A c xs w (RdI.of_own hO) hl fun wx hx => hd wx (grown_of_belowP hx _))
  have HO := Lib.hid hO
  have HFAR := Lib.hid hd
  clear hd hO
  go_enter Tryz.func61, Tryz.ntmps61
  go_wp2_with (fail)
  refine HIX.out.mono ?_
  rintro e w1 ⟨hcase, bel⟩
  have GR1 := Lib.hid (grown_of_belowP bel (Value.slice A xs.length c).ownBlock)
  have O1 := Lib.hid (own_below HO.out bel (Nat.le_refl _))
  clear bel
  rcases hcase with ⟨rfl, hall⟩ | ⟨k, rfl, hk, hall, hdk⟩
  · have HK : Hid (kpI d xs xs.length = xs) := Lib.hid (by rw [kpI_all (Nat.le_refl _) hall, List.take_length])
    clear hall
    go_wp2
    go_ret
    exact ⟨A, c, by rw [HK.out]; rfl, by rw [HK.out]; exact O1.out, GR1.out⟩
  · obtain ⟨g, cap, hv, hlo, hhi⟩ := O1.out.form (by omega)
    have hAg : A = some ⟨g, 0, none⟩ ∧ c = cap := by injection hv with x y z; exact ⟨x, z⟩
    obtain ⟨rfl, rfl⟩ := hAg
    have HST := Lib.hid (FltI.start hk hall hdk)
    have hkm : ((k : Int) == -1) = false := by simp <;> omega
    have hcap := own_capI O1.out
    have hw1 : IntKind.i64.wrap ((k : Int) + 1) = (k : Int) + 1 := IntWalk.i64_in _ (by omega)
    clear hall hdk hv HIX
    go_wp2
    go_loopw [5, 6] (fun i j wr => ∃ (jn m : Nat) (cur : List Int), i = .int .i64 m ∧ j = .int .i64 jn ∧ jn ≤ xs.length ∧ FltI d xs cur jn m ∧ wr.ownsRow lo 2 1 (.slice (some ⟨g, 0, none⟩) xs.length c) xs.length (cur.map (Value.int .i64)) ∧ w.grownBy wr (some g)) (fun _ j _ => xs.length - (intOf j).toNat)
    case atStart => exact ⟨k + 1, k, xs, rfl, by go_num, by omega, HST.out, O1.out, GR1.out⟩
    case round =>
      obtain ⟨jn, m, cur, rfl, rfl, hjn, hF, hown, hgr⟩ := hrel
      clear GR1 O1 HST
      have hFl := hF.len; have hFm := hF.lt
      by_cases hlt : jn < xs.length
      · have x0 := hown.cellAt (g := g) jn (by omega)
        have hbk := hF.back jn (Nat.le_refl _) hlt
        rw [List.getElem?_map, show cur[jn]? = some (xs.getD jn 0) by rw [← hbk]; simp [List.getD, show jn < cur.length by omega]] at x0
        have HKP := Lib.hid (fun e => hF.keep hlt e)
        have HDR := Lib.hid (fun e => hF.drop hlt e)
        have HC := Lib.hid (HFAR.out _ hgr _ (getL_mem (d := (0 : Int)) hlt))
        have GU := Lib.hid hgr; have OU := Lib.hid hown
        have x1 : wr.cell? ⟨g, jn, none⟩ = some (.int .i64 (xs.getD jn 0)) := x0
        clear hbk hgr hF hown x0
        generalize xs.getD jn 0 = z at *
        obtain ⟨p, hp⟩ : ∃ p, d z = p := ⟨_, rfl⟩
        rw [hp] at HKP HDR HC
        clear hp
        go_wp2_with (fail)
        refine HC.out.mono ?_
        rintro e u2 ⟨rfl, b2⟩
        have G2 := Lib.hid (grown_transx GU.out (grown_of_belowP b2 (some g)))
        have O2 := Lib.hid (own_below OU.out b2 (Nat.le_refl _))
        clear b2 x1
        cases p with
        | true =>
          have S2 := Lib.hid (HDR.out rfl)
          go_wp2
          go_roundw
          case rel => exact ⟨jn + 1, m, cur, rfl, by go_num, by omega, S2.out, O2.out, G2.out⟩
          case measure => simp [intOf]; omega
        | false =>
          have S2 := Lib.hid (HKP.out rfl)
          obtain ⟨d0, e0⟩ : ∃ x, u2.cell? ⟨g, m, none⟩ = some x := ⟨_, (O2.out.cellAt (g := g) m (by omega)).trans (List.getElem?_eq_getElem (by rw [List.length_map]; omega))⟩
          have fr0 := O2.out.frozenAt (g := g) m
          have own5 := O2.out.stored m (.int .i64 z)
          rw [← List.map_set] at own5
          have O5 := Lib.hid own5.1
          have G5 := Lib.hid (grown_transx G2.out own5.2)
          have hml2 : (m : Int) < (xs.length : Int) := by omega
          have hwm : IntKind.i64.wrap ((m : Int) + 1) = (m : Int) + 1 := IntWalk.i64_in _ (by omega)
          clear own5
          go_wp2
          go_roundw
          case rel => exact ⟨jn + 1, m + 1, _, by go_num, by go_num, by omega, S2.out, O5.out, G5.out⟩
          case measure => simp [intOf]; omega
      · have hjl : jn = xs.length := by omega
        subst hjl
        have hmn : m < xs.length := by omega
        have hmc : m ≤ c := by omega
        have hnm : ¬ xs.length = m := by omega
        have hcl1 : ∀ ty, (Builtin.clear_ #[24] ty #[.slice (some ⟨g, m, none⟩) (xs.length - m) (c - m)]).run Tryz.prog wr = .ok (.tuple #[]) (wr.setCells g m (List.replicate (xs.length - m) (.int .i64 0))) := fun ty =>
          Lib.run_clear_slice wr _ 2 ty (.int .i64 0) Tryz.underlying24 zeroI64 rfl rfl g m (xs.length - m) (c - m) (by omega) (fun j hj => by rw [hown.cellAt (g := g) (m + j) (by omega), List.getElem?_eq_getElem (by rw [List.length_map]; omega)]; rfl) (fun j _ => hown.frozenAt (g := g) _)
        obtain ⟨xs', o1, o2, o3⟩ := own_setCellsI (List.replicate (xs.length - m) (Value.int .i64 0)) m wr _ hown
        have o4 := own_shortI o1 (show m ≤ xs.length by omega)
        rw [o2, ← List.map_take, hF.front] at o4
        have HM := Lib.hid hF.kept
        have O4 := Lib.hid o4
        have G4 := Lib.hid (grown_transx hgr o3)
        clear hown hgr hF o1 o2 o3 o4
        go_wp2
        go_ret
        exact ⟨some ⟨g, 0, none⟩, c, by rw [← HM.out]; rfl, by rw [← HM.out]; exact O4.out, G4.out⟩
set_option maxRecDepth 100000 in
set_option maxHeartbeats 1000000 in
theorem indexTmL_any (bx : Nat) (d : Int → Bool) (A : Option Addr) (c : Nat) (xs : List Int) (w : World) (r : RdI w w.heap.size A xs.length xs) (hl : xs.length ≤ 1048576)
    (hd : ∀ wx, Below w.heap.size w wx → ∀ x ∈ xs, Calls Tryz.prog 85 #[.int .i64 x, .pointer (some ⟨bx, 0, none⟩)] wx fun e w' => e = .returned (.bool (d x)) ∧ Below (wx).heap.size wx w') :
    Calls Tryz.prog 83 #[.slice A xs.length c, .func (.func 85) #[] #[.pointer (some ⟨bx, 0, none⟩)]] w fun e w' => ((e = .returned (.int .i64 (-1)) ∧ ∀ m, m < xs.length → d (xs.getD m 0) = false) ∨ (∃ k : Nat, e = .returned (.int .i64 k) ∧ k < xs.length ∧ (∀ m, m < k → d (xs.getD m 0) = false) ∧ d (xs.getD k 0) = true)) ∧ Below w.heap.size w w' := by
  have R := Lib.hid (fun (wx : World) (hx : Below w.heap.size w wx) => show RdI wx w.heap.size A xs.length xs from r.below hx)
  have HD := Lib.hid hd
  clear r hd
  go_enter Tryz.func83, Tryz.ntmps83
  go_wp2
  go_loopw [8] (fun i wr => ∃ k : Nat, k ≤ xs.length ∧ i = .int .i64 k ∧ (∀ m, m < k → d (xs.getD m 0) = false) ∧ Below w.heap.size w wr) (fun i _ => xs.length - (intOf i).toNat)
  case atStart => exact ⟨0, Nat.zero_le _, rfl, fun m hm => absurd hm (by omega), Below.refl _ _⟩
  case round =>
    obtain ⟨k, hk, rfl, hno, hB⟩ := hrel
    by_cases hlt : k < xs.length
    · obtain ⟨b, off, rfl, hbb, hcells⟩ := (R.out _ hB).2 (by omega)
      have x0 := hcells k hlt
      have HC := Lib.hid (HD.out _ hB _ (getL_mem (d := (0 : Int)) hlt))
      have HNO := Lib.hid hno; have HB := Lib.hid hB
      have HST : Hid (d (xs.getD k 0) = false → ∀ m, m < k + 1 → d (xs.getD m 0) = false) := Lib.hid fun e m hm => by
        by_cases e2 : m < k
        · exact HNO.out m e2
        · obtain rfl : m = k := by omega
          exact e
      clear hcells hno hB
      cases hdk : d (xs.getD k 0) with
      | true =>
        rw [hdk] at HC
        have HDK := Lib.hid hdk
        clear hdk
        generalize hz : xs.getD k 0 = z at x0 HC
        clear hz
        go_wp2_with (fail)
        refine HC.out.mono ?_
        rintro e w1 ⟨rfl, b1⟩
        have HB1 := Lib.hid (HB.out.trans (b1.mono HB.out.size))
        clear b1 x0
        go_wp2
        go_ret
        exact ⟨.inr ⟨k, rfl, hlt, HNO.out, HDK.out⟩, HB1.out⟩
      | false =>
        rw [hdk] at HC
        have HS := Lib.hid (HST.out hdk)
        clear hdk
        generalize hz : xs.getD k 0 = z at x0 HC
        clear hz
        go_wp2_with (fail)
        refine HC.out.mono ?_
        rintro e w1 ⟨rfl, b1⟩
        have HB1 := Lib.hid (HB.out.trans (b1.mono HB.out.size))
        clear b1 x0
        go_wp2
        go_roundw
        case rel => exact ⟨k + 1, by omega, by go_num, HS.out, HB1.out⟩
        case measure => simp [intOf]; omega
    · have hkl : k = xs.length := by omega
      subst hkl
      have HNO := Lib.hid hno; have HB := Lib.hid hB
      clear hno hB
      go_wp2
      go_ret
      exact ⟨.inl ⟨rfl, HNO.out⟩, HB.out⟩
set_option maxRecDepth 100000 in
set_option maxHeartbeats 1000000 in
theorem delTmL_any (bx : Nat) (d : Int → Bool) (A : Option Addr) (c : Nat) (xs : List Int) (w : World) (lo : Nat) (hO : w.ownsRow lo 2 1 (.slice A xs.length c) xs.length (xs.map (Value.int .i64))) (hl : xs.length ≤ 1048576)
    (hd : ∀ wx, w.grownBy wx (Value.slice A xs.length c).ownBlock → ∀ x ∈ xs, Calls Tryz.prog 85 #[.int .i64 x, .pointer (some ⟨bx, 0, none⟩)] wx fun e w' => e = .returned (.bool (d x)) ∧ Below (wx).heap.size wx w') :
    Calls Tryz.prog 61 #[.slice A xs.length c, .func (.func 85) #[] #[.pointer (some ⟨bx, 0, none⟩)]] w (GivesDI w lo (Value.slice A xs.length c).ownBlock (kpI d xs xs.length)) := by
  have HIX := Lib.hid (indexTmL_any bx d A c xs w (RdI.of_own hO) hl fun wx hx => hd wx (grown_of_belowP hx _))
  have HO := Lib.hid hO
  have HFAR := Lib.hid hd
  clear hd hO
  go_enter Tryz.func61, Tryz.ntmps61
  go_wp2_with (fail)
  refine HIX.out.mono ?_
  rintro e w1 ⟨hcase, bel⟩
  have GR1 := Lib.hid (grown_of_belowP bel (Value.slice A xs.length c).ownBlock)
  have O1 := Lib.hid (own_below HO.out bel (Nat.le_refl _))
  clear bel
  rcases hcase with ⟨rfl, hall⟩ | ⟨k, rfl, hk, hall, hdk⟩
  · have HK : Hid (kpI d xs xs.length = xs) := Lib.hid (by rw [kpI_all (Nat.le_refl _) hall, List.take_length])
    clear hall
    go_wp2
    go_ret
    exact ⟨A, c, by rw [HK.out]; rfl, by rw [HK.out]; exact O1.out, GR1.out⟩
  · obtain ⟨g, cap, hv, hlo, hhi⟩ := O1.out.form (by omega)
    have hAg : A = some ⟨g, 0, none⟩ ∧ c = cap := by injection hv with x y z; exact ⟨x, z⟩
    obtain ⟨rfl, rfl⟩ := hAg
    have HST := Lib.hid (FltI.start hk hall hdk)
    have hkm : ((k : Int) == -1) = false := by simp <;> omega
    have hcap := own_capI O1.out
    have hw1 : IntKind.i64.wrap ((k : Int) + 1) = (k : Int) + 1 := IntWalk.i64_in _ (by omega)
    clear hall hdk hv HIX
    go_wp2
    go_loopw [5, 6] (fun i j wr => ∃ (jn m : Nat) (cur : List Int), i = .int .i64 m ∧ j = .int .i64 jn ∧ jn ≤ xs.length ∧ FltI d xs cur jn m ∧ wr.ownsRow lo 2 1 (.slice (some ⟨g, 0, none⟩) xs.length c) xs.length (cur.map (Value.int .i64)) ∧ w.grownBy wr (some g)) (fun _ j _ => xs.length - (intOf j).toNat)
    case atStart => exact ⟨k + 1, k, xs, rfl, by go_num, by omega, HST.out, O1.out, GR1.out⟩
    case round =>
      obtain ⟨jn, m, cur, rfl, rfl, hjn, hF, hown, hgr⟩ := hrel
      clear GR1 O1 HST
      have hFl := hF.len; have hFm := hF.lt
      by_cases hlt : jn < xs.length
      · have x0 := hown.cellAt (g := g) jn (by omega)
        have hbk := hF.back jn (Nat.le_refl _) hlt
        rw [List.getElem?_map, show cur[jn]? = some (xs.getD jn 0) by rw [← hbk]; simp [List.getD, show jn < cur.length by omega]] at x0
        have HKP := Lib.hid (fun e => hF.keep hlt e)
        have HDR := Lib.hid (fun e => hF.drop hlt e)
        have HC := Lib.hid (HFAR.out _ hgr _ (getL_mem (d := (0 : Int)) hlt))
        have GU := Lib.hid hgr; have OU := Lib.hid hown
        have x1 : wr.cell? ⟨g, jn, none⟩ = some (.int .i64 (xs.getD jn 0)) := x0
        clear hbk hgr hF hown x0
        generalize xs.getD jn 0 = z at *
        obtain ⟨p, hp⟩ : ∃ p, d z = p := ⟨_, rfl⟩
        rw [hp] at HKP HDR HC
        clear hp
        go_wp2_with (fail)
        refine HC.out.mono ?_
        rintro e u2 ⟨rfl, b2⟩
        have G2 := Lib.hid (grown_transx GU.out (grown_of_belowP b2 (some g)))
        have O2 := Lib.hid (own_below OU.out b2 (Nat.le_refl _))
        clear b2 x1
        cases p with
        | true =>
          have S2 := Lib.hid (HDR.out rfl)
          go_wp2
          go_roundw
          case rel => exact ⟨jn + 1, m, cur, rfl, by go_num, by omega, S2.out, O2.out, G2.out⟩
          case measure => simp [intOf]; omega
        | false =>
          have S2 := Lib.hid (HKP.out rfl)
          obtain ⟨d0, e0⟩ : ∃ x, u2.cell? ⟨g, m, none⟩ = some x := ⟨_, (O2.out.cellAt (g := g) m (by omega)).trans (List.getElem?_eq_getElem (by rw [List.length_map]; omega))⟩
          have fr0 := O2.out.frozenAt (g := g) m
          have own5 := O2.out.stored m (.int .i64 z)
          rw [← List.map_set] at own5
          have O5 := Lib.hid own5.1
          have G5 := Lib.hid (grown_transx G2.out own5.2)
          have hml2 : (m : Int) < (xs.length : Int) := by omega
          have hwm : IntKind.i64.wrap ((m : Int) + 1) = (m : Int) + 1 := IntWalk.i64_in _ (by omega)
          clear own5
          go_wp2
          go_roundw
          case rel => exact ⟨jn + 1, m + 1, _, by go_num, by go_num, by omega, S2.out, O5.out, G5.out⟩
          case measure => simp [intOf]; omega
      · have hjl : jn = xs.length := by omega
        subst hjl
        have hmn : m < xs.length := by omega
        have hmc : m ≤ c := by omega
        have hnm : ¬ xs.length = m := by omega
        have hcl1 : ∀ ty, (Builtin.clear_ #[24] ty #[.slice (some ⟨g, m, none⟩) (xs.length - m) (c - m)]).run Tryz.prog wr = .ok (.tuple #[]) (wr.setCells g m (List.replicate (xs.length - m) (.int .i64 0))) := fun ty =>
          Lib.run_clear_slice wr _ 2 ty (.int .i64 0) Tryz.underlying24 zeroI64 rfl rfl g m (xs.length - m) (c - m) (by omega) (fun j hj => by rw [hown.cellAt (g := g) (m + j) (by omega), List.getElem?_eq_getElem (by rw [List.length_map]; omega)]; rfl) (fun j _ => hown.frozenAt (g := g) _)
        obtain ⟨xs', o1, o2, o3⟩ := own_setCellsI (List.replicate (xs.length - m) (Value.int .i64 0)) m wr _ hown
        have o4 := own_shortI o1 (show m ≤ xs.length by omega)
        rw [o2, ← List.map_take, hF.front] at o4
        have HM := Lib.hid hF.kept
        have O4 := Lib.hid o4
        have G4 := Lib.hid (grown_transx hgr o3)
        clear hown hgr hF o1 o2 o3 o4
        go_wp2
        go_ret
        exact ⟨some ⟨g, 0, none⟩, c, by rw [← HM.out]; rfl, by rw [← HM.out]; exact O4.out, G4.out⟩
set_option maxRecDepth 100000 in
set_option maxHeartbeats 1000000 in
theorem indexTpL_any (bx : Nat) (d : Int → Bool) (A : Option Addr) (c : Nat) (xs : List Int) (w : World) (r : RdI w w.heap.size A xs.length xs) (hl : xs.length ≤ 1048576)
    (hd : ∀ wx, Below w.heap.size w wx → ∀ x ∈ xs, Calls Tryz.prog 72 #[.int .i64 x, .pointer (some ⟨bx, 0, none⟩)] wx fun e w' => e = .returned (.bool (d x)) ∧ Below (wx).heap.size wx w') :
    Calls Tryz.prog 83 #[.slice A xs.length c, .func (.func 72) #[] #[.pointer (some ⟨bx, 0, none⟩)]] w fun e w' => ((e = .returned (.int .i64 (-1)) ∧ ∀ m, m < xs.length → d (xs.getD m 0) = false) ∨ (∃ k : Nat, e = .returned (.int .i64 k) ∧ k < xs.length ∧ (∀ m, m < k → d (xs.getD m 0) = false) ∧ d (xs.getD k 0) = true)) ∧ Below w.heap.size w w' := by
  have R := Lib.hid (fun (wx : World) (hx : Below w.heap.size w wx) => show RdI wx w.heap.size A xs.length xs from r.below hx)
  have HD := Lib.hid hd
  clear r hd
  go_enter Tryz.func83, Tryz.ntmps83
  go_wp2
  go_loopw [8] (fun i wr => ∃ k : Nat, k ≤ xs.length ∧ i = .int .i64 k ∧ (∀ m, m < k → d (xs.getD m 0) = false) ∧ Below w.heap.size w wr) (fun i _ => xs.length - (intOf i).toNat)
  case atStart => exact ⟨0, Nat.zero_le _, rfl, fun m hm => absurd hm (by omega), Below.refl _ _⟩
  case round =>
    obtain ⟨k, hk, rfl, hno, hB⟩ := hrel
    by_cases hlt : k < xs.length
    · obtain ⟨b, off, rfl, hbb, hcells⟩ := (R.out _ hB).2 (by omega)
      have x0 := hcells k hlt
      have HC := Lib.hid (HD.out _ hB _ (getL_mem (d := (0 : Int)) hlt))
      have HNO := Lib.hid hno; have HB := Lib.hid hB
      have HST : Hid (d (xs.getD k 0) = false → ∀ m, m < k + 1 → d (xs.getD m 0) = false) := Lib.hid fun e m hm => by
        by_cases e2 : m < k
        · exact HNO.out m e2
        · obtain rfl : m = k := by omega
          exact e
      clear hcells hno hB
      cases hdk : d (xs.getD k 0) with
      | true =>
        rw [hdk] at HC
        have HDK := Lib.hid hdk
        clear hdk
        generalize hz : xs.getD k 0 = z at x0 HC
        clear hz
        go_wp2_with (fail)
        refine HC.out.mono ?_
        rintro e w1 ⟨rfl, b1⟩
        have HB1 := Lib.hid (HB.out.trans (b1.mono HB.out.size))
        clear b1 x0
        go_wp2
        go_ret
        exact ⟨.inr ⟨k, rfl, hlt, HNO.out, HDK.out⟩, HB1.out⟩
      | false =>
        rw [hdk] at HC
        have HS := Lib.hid (HST.out hdk)
        clear hdk
        generalize hz : xs.getD k 0 = z at x0 HC
        clear hz
        go_wp2_with (fail)
        refine HC.out.mono ?_
        rintro e w1 ⟨rfl, b1⟩
        have HB1 := Lib.hid (HB.out.trans (b1.mono HB.out.size))
        clear b1 x0
        go_wp2
        go_roundw
        case rel => exact ⟨k + 1, by omega, by go_num, HS.out, HB1.out⟩
        case measure => simp [intOf]; omega
    · have hkl : k = xs.length := by omega
      subst hkl
      have HNO := Lib.hid hno; have HB := Lib.hid hB
      clear hno hB
      go_wp2
      go_ret
      exact ⟨.inl ⟨rfl, HNO.out⟩, HB.out⟩
set_option maxRecDepth 100000 in
set_option maxHeartbeats 1000000 in
theorem delTpL_any (bx : Nat) (d : Int → Bool) (A : Option Addr) (c : Nat) (xs : List Int) (w : World) (lo : Nat) (hO : w.ownsRow lo 2 1 (.slice A xs.length c) xs.length (xs.map (Value.int .i64))) (hl : xs.length ≤ 1048576)
    (hd : ∀ wx, w.grownBy wx (Value.slice A xs.length c).ownBlock → ∀ x ∈ xs, Calls Tryz.prog 72 #[.int .i64 x, .pointer (some ⟨bx, 0, none⟩)] wx fun e w' => e = .returned (.bool (d x)) ∧ Below (wx).heap.size wx w') :
    Calls Tryz.prog 61 #[.slice A xs.length c, .func (.func 72) #[] #[.pointer (some ⟨bx, 0, none⟩)]] w (GivesDI w lo (Value.slice A xs.length c).ownBlock (kpI d xs xs.length)) := by
  have HIX := Lib.hid (indexTpL_any bx d A c xs w (RdI.of_own hO) hl fun wx hx => hd wx (grown_of_belowP hx _))
  have HO := Lib.hid hO
  have HFAR := Lib.hid hd
  clear hd hO
  go_enter Tryz.func61, Tryz.ntmps61
  go_wp2_with (fail)
  refine HIX.out.mono ?_
  rintro e w1 ⟨hcase, bel⟩
  have GR1 := Lib.hid (grown_of_belowP bel (Value.slice A xs.length c).ownBlock)
  have O1 := Lib.hid (own_below HO.out bel (Nat.le_refl _))
  clear bel
  rcases hcase with ⟨rfl, hall⟩ | ⟨k, rfl, hk, hall, hdk⟩
  · have HK : Hid (kpI d xs xs.length = xs) := Lib.hid (by rw [kpI_all (Nat.le_refl _) hall, List.take_length])
    clear hall
    go_wp2
    go_ret
    exact ⟨A, c, by rw [HK.out]; rfl, by rw [HK.out]; exact O1.out, GR1.out⟩
  · obtain ⟨g, cap, hv, hlo, hhi⟩ := O1.out.form (by omega)
    have hAg : A = some ⟨g, 0, none⟩ ∧ c = cap := by injection hv with x y z; exact ⟨x, z⟩
    obtain ⟨rfl, rfl⟩ := hAg
    have HST := Lib.hid (FltI.start hk hall hdk)
    have hkm : ((k : Int) == -1) = false := by simp <;> omega
    have hcap := own_capI O1.out
    have hw1 : IntKind.i64.wrap ((k : Int) + 1) = (k : Int) + 1 := IntWalk.i64_in _ (by omega)
    clear hall hdk hv HIX
    go_wp2
    go_loopw [5, 6] (fun i j wr => ∃ (jn m : Nat) (cur : List Int), i = .int .i64 m ∧ j = .int .i64 jn ∧ jn ≤ xs.length ∧ FltI d xs cur jn m ∧ wr.ownsRow lo 2 1 (.slice (some ⟨g, 0, none⟩) xs.length c) xs.length (cur.map (Value.int .i64)) ∧ w.grownBy wr (some g)) (fun _ j _ => xs.length - (intOf j).toNat)
    case atStart => exact ⟨k + 1, k, xs, rfl, by go_num, by omega, HST.out, O1.out, GR1.out⟩
    case round =>
      obtain ⟨jn, m, cur, rfl, rfl, hjn, hF, hown, hgr⟩ := hrel
      clear GR1 O1 HST
      have hFl := hF.len; have hFm := hF.lt
      by_cases hlt : jn < xs.length
      · have x0 := hown.cellAt (g := g) jn (by omega)
        have hbk := hF.back jn (Nat.le_refl _) hlt
        rw [List.getElem?_map, show cur[jn]? = some (xs.getD jn 0) by rw [← hbk]; simp [List.getD, show jn < cur.length by omega]] at x0
        have HKP := Lib.hid (fun e => hF.keep hlt e)
        have HDR := Lib.hid (fun e => hF.drop hlt e)
        have HC := Lib.hid (HFAR.out _ hgr _ (getL_mem (d := (0 : Int)) hlt))
        have GU := Lib.hid hgr; have OU := Lib.hid hown
        have x1 : wr.cell? ⟨g, jn, none⟩ = some (.int .i64 (xs.getD jn 0)) := x0
        clear hbk hgr hF hown x0
        generalize xs.getD jn 0 = z at *
        obtain ⟨p, hp⟩ : ∃ p, d z = p := ⟨_, rfl⟩
        rw [hp] at HKP HDR HC
        clear hp
        go_wp2_with (fail)
        refine HC.out.mono ?_
        rintro e u2 ⟨rfl, b2⟩
        have G2 := Lib.hid (grown_transx GU.out (grown_of_belowP b2 (some g)))
        have O2 := Lib.hid (own_below OU.out b2 (Nat.le_refl _))
        clear b2 x1
        cases p with
        | true =>
          have S2 := Lib.hid (HDR.out rfl)
          go_wp2
          go_roundw
          case rel => exact ⟨jn + 1, m, cur, rfl, by go_num, by omega, S2.out, O2.out, G2.out⟩
          case measure => simp [intOf]; omega
        | false =>
          have S2 := Lib.hid (HKP.out rfl)
          obtain ⟨d0, e0⟩ : ∃ x, u2.cell? ⟨g, m, none⟩ = some x := ⟨_, (O2.out.cellAt (g := g) m (by omega)).trans (List.getElem?_eq_getElem (by rw [List.length_map]; omega))⟩
          have fr0 := O2.out.frozenAt (g := g) m
          have own5 := O2.out.stored m (.int .i64 z)
          rw [← List.map_set] at own5
          have O5 := Lib.hid own5.1
          have G5 := Lib.hid (grown_transx G2.out own5.2)
          have hml2 : (m : Int) < (xs.length : Int) := by omega
          have hwm : IntKind.i64.wrap ((m : Int) + 1) = (m : Int) + 1 := IntWalk.i64_in _ (by omega)
          clear own5
          go_wp2
          go_roundw
          case rel => exact ⟨jn + 1, m + 1, _, by go_num, by go_num, by omega, S2.out, O5.out, G5.out⟩
          case measure => simp [intOf]; omega
      · have hjl : jn = xs.length := by omega
        subst hjl
        have hmn : m < xs.length := by omega
        have hmc : m ≤ c := by omega
        have hnm : ¬ xs.length = m := by omega
        have hcl1 : ∀ ty, (Builtin.clear_ #[24] ty #[.slice (some ⟨g, m, none⟩) (xs.length - m) (c - m)]).run Tryz.prog wr = .ok (.tuple #[]) (wr.setCells g m (List.replicate (xs.length - m) (.int .i64 0))) := fun ty =>
          Lib.run_clear_slice wr _ 2 ty (.int .i64 0) Tryz.underlying24 zeroI64 rfl rfl g m (xs.length - m) (c - m) (by omega) (fun j hj => by rw [hown.cellAt (g := g) (m + j) (by omega), List.getElem?_eq_getElem (by rw [List.length_map]; omega)]; rfl) (fun j _ => hown.frozenAt (g := g) _)
        obtain ⟨xs', o1, o2, o3⟩ := own_setCellsI (List.replicate (xs.length - m) (Value.int .i64 0)) m wr _ hown
        have o4 := own_shortI o1 (show m ≤ xs.length by omega)
        rw [o2, ← List.map_take, hF.front] at o4
        have HM := Lib.hid hF.kept
        have O4 := Lib.hid o4
        have G4 := Lib.hid (grown_transx hgr o3)
        clear hown hgr hF o1 o2 o3 o4
        go_wp2
        go_ret
        exact ⟨some ⟨g, 0, none⟩, c, by rw [← HM.out]; rfl, by rw [← HM.out]; exact O4.out, G4.out⟩
set_option maxRecDepth 100000 in
set_option maxHeartbeats 1000000 in
theorem indexSpL_any (bx : Nat) (d : Int → Bool) (A : Option Addr) (c : Nat) (xs : List Int) (w : World) (r : RdI w w.heap.size A xs.length xs) (hl : xs.length ≤ 1048576)
    (hd : ∀ wx, Below w.heap.size w wx → ∀ x ∈ xs, Calls Tryz.prog 60 #[.int .i64 x, .pointer (some ⟨bx, 0, none⟩)] wx fun e w' => e = .returned (.bool (d x)) ∧ Below (wx).heap.size wx w') :
    Calls Tryz.prog 83 #[.slice A xs.length c, .func (.func 60) #[] #[.pointer (some ⟨bx, 0, none⟩)]] w fun e w' => ((e = .returned (.int .i64 (-1)) ∧ ∀ m, m < xs.length → d (xs.getD m 0) = false) ∨ (∃ k : Nat, e = .returned (.int .i64 k) ∧ k < xs.length ∧ (∀ m, m < k → d (xs.getD m 0) = false) ∧ d (xs.getD k 0) = true)) ∧ Below w.heap.size w w' := by
  have R := Lib.hid (fun (wx : World) (hx : Below w.heap.size w wx) => show RdI wx w.heap.size A xs.length xs from r.below hx)
  have HD := Lib.hid hd
  clear r hd
  go_enter Tryz.func83, Tryz.ntmps83
  go_wp2
  go_loopw [8] (fun i wr => ∃ k : Nat, k ≤ xs.length ∧ i = .int .i64 k ∧ (∀ m, m < k → d (xs.getD m 0) = false) ∧ Below w.heap.size w wr) (fun i _ => xs.length - (intOf i).toNat)
  case atStart => exact ⟨0, Nat.zero_le _, rfl, fun m hm => absurd hm (by omega), Below.refl _ _⟩
  case round =>
    obtain ⟨k, hk, rfl, hno, hB⟩ := hrel
    by_cases hlt : k < xs.length
    · obtain ⟨b, off, rfl, hbb, hcells⟩ := (R.out _ hB).2 (by omega)
      have x0 := hcells k hlt
      have HC := Lib.hid (HD.out _ hB _ (getL_mem (d := (0 : Int)) hlt))
      have HNO := Lib.hid hno; have HB := Lib.hid hB
      have HST : Hid (d (xs.getD k 0) = false → ∀ m, m < k + 1 → d (xs.getD m 0) = false) := Lib.hid fun e m hm => by
        by_cases e2 : m < k
        · exact HNO.out m e2
        · obtain rfl : m = k := by omega
          exact e
      clear hcells hno hB
      cases hdk : d (xs.getD k 0) with
      | true =>
        rw [hdk] at HC
        have HDK := Lib.hid hdk
        clear hdk
        generalize hz : xs.getD k 0 = z at x0 HC
        clear hz
        go_wp2_with (fail)
        refine HC.out.mono ?_
        rintro e w1 ⟨rfl, b1⟩
        have HB1 := Lib.hid (HB.out.trans (b1.mono HB.out.size))
        clear b1 x0
        go_wp2
        go_ret
        exact ⟨.inr ⟨k, rfl, hlt, HNO.out, HDK.out⟩, HB1.out⟩
      | false =>
        rw [hdk] at HC
        have HS := Lib.hid (HST.out hdk)
        clear hdk
        generalize hz : xs.getD k 0 = z at x0 HC
        clear hz
        go_wp2_with (fail)
        refine HC.out.mono ?_
        rintro e w1 ⟨rfl, b1⟩
        have HB1 := Lib.hid (HB.out.trans (b1.mono HB.out.size))
        clear b1 x0
        go_wp2
        go_roundw
        case rel => exact ⟨k + 1, by omega, by go_num, HS.out, HB1.out⟩
        case measure => simp [intOf]; omega
    · have hkl : k = xs.length := by omega
      subst hkl
      have HNO := Lib.hid hno; have HB := Lib.hid hB
      clear hno hB
      go_wp2
      go_ret
      exact ⟨.inl ⟨rfl, HNO.out⟩, HB.out⟩
set_option maxRecDepth 100000 in
set_option maxHeartbeats 1000000 in
theorem delSpL_any (bx : Nat) (d : Int → Bool) (A : Option Addr) (c : Nat) (xs : List Int) (w : World) (lo : Nat) (hO : w.ownsRow lo 2 1 (.slice A xs.length c) xs.length (xs.map (Value.int .i64))) (hl : xs.length ≤ 1048576)
    (hd : ∀ wx, w.grownBy wx (Value.slice A xs.length c).ownBlock → ∀ x ∈ xs, Calls Tryz.prog 60 #[.int .i64 x, .pointer (some ⟨bx, 0, none⟩)] wx fun e w' => e = .returned (.bool (d x)) ∧ Below (wx).heap.size wx w') :
    Calls Tryz.prog 61 #[.slice A xs.length c, .func (.func 60) #[] #[.pointer (some ⟨bx, 0, none⟩)]] w (GivesDI w lo (Value.slice A xs.length c).ownBlock (kpI d xs xs.length)) := by
  have HIX := Lib.hid (indexSpL_any bx d A c xs w (RdI.of_own hO) hl fun wx hx => hd wx (grown_of_belowP hx _))
  have HO := Lib.hid hO
  have HFAR := Lib.hid hd
  clear hd hO
  go_enter Tryz.func61, Tryz.ntmps61
  go_wp2_with (fail)
  refine HIX.out.mono ?_
  rintro e w1 ⟨hcase, bel⟩
  have GR1 := Lib.hid (grown_of_belowP bel (Value.slice A xs.length c).ownBlock)
  have O1 := Lib.hid (own_below HO.out bel (Nat.le_refl _))
  clear bel
  rcases hcase with ⟨rfl, hall⟩ | ⟨k, rfl, hk, hall, hdk⟩
  · have HK : Hid (kpI d xs xs.length = xs) := Lib.hid (by rw [kpI_all (Nat.le_refl _) hall, List.take_length])
    clear hall
    go_wp2
    go_ret
    exact ⟨A, c, by rw [HK.out]; rfl, by rw [HK.out]; exact O1.out, GR1.out⟩
  · obtain ⟨g, cap, hv, hlo, hhi⟩ := O1.out.form (by omega)
    have hAg : A = some ⟨g, 0, none⟩ ∧ c = cap := by injection hv with x y z; exact ⟨x, z⟩
    obtain ⟨rfl, rfl⟩ := hAg
    have HST := Lib.hid (FltI.start hk hall hdk)
    have hkm : ((k : Int) == -1) = false := by simp <;> omega
    have hcap := own_capI O1.out
    have hw1 : IntKind.i64.wrap ((k : Int) + 1) = (k : Int) + 1 := IntWalk.i64_in _ (by omega)
    clear hall hdk hv HIX
    go_wp2
    go_loopw [5, 6] (fun i j wr => ∃ (jn m : Nat) (cur : List Int), i = .int .i64 m ∧ j = .int .i64 jn ∧ jn ≤ xs.length ∧ FltI d xs cur jn m ∧ wr.ownsRow lo 2 1 (.slice (some ⟨g, 0, none⟩) xs.length c) xs.length (cur.map (Value.int .i64)) ∧ w.grownBy wr (some g)) (fun _ j _ => xs.length - (intOf j).toNat)
    case atStart => exact ⟨k + 1, k, xs, rfl, by go_num, by omega, HST.out, O1.out, GR1.out⟩
    case round =>
      obtain ⟨jn, m, cur, rfl, rfl, hjn, hF, hown, hgr⟩ := hrel
      clear GR1 O1 HST
      have hFl := hF.len; have hFm := hF.lt
      by_cases hlt : jn < xs.length
      · have x0 := hown.cellAt (g := g) jn (by omega)
        have hbk := hF.back jn (Nat.le_refl _) hlt
        rw [List.getElem?_map, show cur[jn]? = some (xs.getD jn 0) by rw [← hbk]; simp [List.getD, show jn < cur.length by omega]] at x0
        have HKP := Lib.hid (fun e => hF.keep hlt e)
        have HDR := Lib.hid (fun e => hF.drop hlt e)
        have HC := Lib.hid (HFAR.out _ hgr _ (getL_mem (d := (0 : Int)) hlt))
        have GU := Lib.hid hgr; have OU := Lib.hid hown
        have x1 : wr.cell? ⟨g, jn, none⟩ = some (.int .i64 (xs.getD jn 0)) := x0
        clear hbk hgr hF hown x0
        generalize xs.getD jn 0 = z at *
        obtain ⟨p, hp⟩ : ∃ p, d z = p := ⟨_, rfl⟩
        rw [hp] at HKP HDR HC
        clear hp
        go_wp2_with (fail)
        refine HC.out.mono ?_
        rintro e u2 ⟨rfl, b2⟩
        have G2 := Lib.hid (grown_transx GU.out (grown_of_belowP b2 (some g)))
        have O2 := Lib.hid (own_below OU.out b2 (Nat.le_refl _))
        clear b2 x1
        cases p with
        | true =>
          have S2 := Lib.hid (HDR.out rfl)
          go_wp2
          go_roundw
          case rel => exact ⟨jn + 1, m, cur, rfl, by go_num, by omega, S2.out, O2.out, G2.out⟩
          case measure => simp [intOf]; omega
        | false =>
          have S2 := Lib.hid (HKP.out rfl)
          obtain ⟨d0, e0⟩ : ∃ x, u2.cell? ⟨g, m, none⟩ = some x := ⟨_, (O2.out.cellAt (g := g) m (by omega)).trans (List.getElem?_eq_getElem (by rw [List.length_map]; omega))⟩
          have fr0 := O2.out.frozenAt (g := g) m
          have own5 := O2.out.stored m (.int .i64 z)
          rw [← List.map_set] at own5
          have O5 := Lib.hid own5.1
          have G5 := Lib.hid (grown_transx G2.out own5.2)
          have hml2 : (m : Int) < (xs.length : Int) := by omega
          have hwm : IntKind.i64.wrap ((m : Int) + 1) = (m : Int) + 1 := IntWalk.i64_in _ (by omega)
          clear own5
          go_wp2
          go_roundw
          case rel => exact ⟨jn + 1, m + 1, _, by go_num, by go_num, by omega, S2.out, O5.out, G5.out⟩
          case measure => simp [intOf]; omega
      · have hjl : jn = xs.length := by omega
        subst hjl
        have hmn : m < xs.length := by omega
        have hmc : m ≤ c := by omega
        have hnm : ¬ xs.length = m := by omega
        have hcl1 : ∀ ty, (Builtin.clear_ #[24] ty #[.slice (some ⟨g, m, none⟩) (xs.length - m) (c - m)]).run Tryz.prog wr = .ok (.tuple #[]) (wr.setCells g m (List.replicate (xs.length - m) (.int .i64 0))) := fun ty =>
          Lib.run_clear_slice wr _ 2 ty (.int .i64 0) Tryz.underlying24 zeroI64 rfl rfl g m (xs.length - m) (c - m) (by omega) (fun j hj => by rw [hown.cellAt (g := g) (m + j) (by omega), List.getElem?_eq_getElem (by rw [List.length_map]; omega)]; rfl) (fun j _ => hown.frozenAt (g := g) _)
        obtain ⟨xs', o1, o2, o3⟩ := own_setCellsI (List.replicate (xs.length - m) (Value.int .i64 0)) m wr _ hown
        have o4 := own_shortI o1 (show m ≤ xs.length by omega)
        rw [o2, ← List.map_take, hF.front] at o4
        have HM := Lib.hid hF.kept
        have O4 := Lib.hid o4
        have G4 := Lib.hid (grown_transx hgr o3)
        clear hown hgr hF o1 o2 o3 o4
        go_wp2
        go_ret
        exact ⟨some ⟨g, 0, none⟩, c, by rw [← HM.out]; rfl, by rw [← HM.out]; exact O4.out, G4.out⟩
set_option maxRecDepth 100000 in
set_option maxHeartbeats 1000000 in
theorem indexSpP_any (bx : Nat) (d : Int → Bool) (A : Option Addr) (c : Nat) (xs : List Int) (w : World) (r : RdI w w.heap.size A xs.length xs) (hl : xs.length ≤ 1048576)
    (hd : ∀ wx, Below w.heap.size w wx → ∀ x ∈ xs, Calls Tryz.prog 68 #[.int .i64 x, .pointer (some ⟨bx, 0, none⟩)] wx fun e w' => e = .returned (.bool (d x)) ∧ Below (wx).heap.size wx w') :
    Calls Tryz.prog 83 #[.slice A xs.length c, .func (.func 68) #[] #[.pointer (some ⟨bx, 0, none⟩)]] w fun e w' => ((e = .returned (.int .i64 (-1)) ∧ ∀ m, m < xs.length → d (xs.getD m 0) = false) ∨ (∃ k : Nat, e = .returned (.int .i64 k) ∧ k < xs.length ∧ (∀ m, m < k → d (xs.getD m 0) = false) ∧ d (xs.getD k 0) = true)) ∧ Below w.heap.size w w' := by
  have R := Lib.hid (fun (wx : World) (hx : Below w.heap.size w wx) => show RdI wx w.heap.size A xs.length xs from r.below hx)
  have HD := Lib.hid hd
  clear r hd
  go_enter Tryz.func83, Tryz.ntmps83
  go_wp2
  go_loopw [8] (fun i wr => ∃ k : Nat, k ≤ xs.length ∧ i = .int .i64 k ∧ (∀ m, m < k → d (xs.getD m 0) = false) ∧ Below w.heap.size w wr) (fun i _ => xs.length - (intOf i).toNat)
  case atStart => exact ⟨0, Nat.zero_le _, rfl, fun m hm => absurd hm (by omega), Below.refl _ _⟩
  case round =>
    obtain ⟨k, hk, rfl, hno, hB⟩ := hrel
    by_cases hlt : k < xs.length
    · obtain ⟨b, off, rfl, hbb, hcells⟩ := (R.out _ hB).2 (by omega)
      have x0 := hcells k hlt
      have HC := Lib.hid (HD.out _ hB _ (getL_mem (d := (0 : Int)) hlt))
      have HNO := Lib.hid hno; have HB := Lib.hid hB
      have HST : Hid (d (xs.getD k 0) = false → ∀ m, m < k + 1 → d (xs.getD m 0) = false) := Lib.hid fun e m hm => by
        by_cases e2 : m < k
        · exact HNO.out m e2
        · obtain rfl : m = k := by omega
          exact e
      clear hcells hno hB
      cases hdk : d (xs.getD k 0) with
      | true =>
        rw [hdk] at HC
        have HDK := Lib.hid hdk
        clear hdk
        generalize hz : xs.getD k 0 = z at x0 HC
        clear hz
        go_wp2_with (fail)
        refine HC.out.mono ?_
        rintro e w1 ⟨rfl, b1⟩
        have HB1 := Lib.hid (HB.out.trans (b1.mono HB.out.size))
        clear b1 x0
        go_wp2
        go_ret
        exact ⟨.inr ⟨k, rfl, hlt, HNO.out, HDK.out⟩, HB1.out⟩
      | false =>
        rw [hdk] at HC
        have HS := Lib.hid (HST.out hdk)
        clear hdk
        generalize hz : xs.getD k 0 = z at x0 HC
        clear hz
        go_wp2_with (fail)
        refine HC.out.mono ?_
        rintro e w1 ⟨rfl, b1⟩
        have HB1 := Lib.hid (HB.out.trans (b1.mono HB.out.size))
        clear b1 x0
        go_wp2
        go_roundw
        case rel => exact ⟨k + 1, by omega, by go_num, HS.out, HB1.out⟩
        case measure => simp [intOf]; omega
    · have hkl : k = xs.length := by omega
      subst hkl
      have HNO := Lib.hid hno; have HB := Lib.hid hB
      clear hno hB
      go_wp2
      go_ret
      exact ⟨.inl ⟨rfl, HNO.out⟩, HB.out⟩
set_option maxRecDepth 100000 in
set_option maxHeartbeats 1000000 in
theorem delSpP_any (bx : Nat) (d : Int → Bool) (A : Option Addr) (c : Nat) (xs : List Int) (w : World) (lo : Nat) (hO : w.ownsRow lo 2 1 (.slice A xs.length c) xs.length (xs.map (Value.int .i64))) (hl : xs.length ≤ 1048576)
    (hd : ∀ wx, w.grownBy wx (Value.slice A xs.length c).ownBlock → ∀ x ∈ xs, Calls Tryz.prog 68 #[.int .i64 x, .pointer (some ⟨bx, 0, none⟩)] wx fun e w' => e = .returned (.bool (d x)) ∧ Below (wx).heap.size wx w') :
    Calls Tryz.prog 61 #[.slice A xs.length c, .func (.func 68) #[] #[.pointer (some ⟨bx, 0, none⟩)]] w (GivesDI w lo (Value.slice A xs.length c).ownBlock (kpI d xs xs.length)) := by
  have HIX := Lib.hid (indexSpP_any bx d A c xs w (RdI.of_own hO) hl fun wx hx => hd wx (grown_of_belowP hx _))
  have HO := Lib.hid hO
  have HFAR := Lib.hid hd
  clear hd hO
  go_enter Tryz.func61, Tryz.ntmps61
  go_wp2_with (fail)
  refine HIX.out.mono ?_
  rintro e w1 ⟨hcase, bel⟩
  have GR1 := Lib.hid (grown_of_belowP bel (Value.slice A xs.length c).ownBlock)
  have O1 := Lib.hid (own_below HO.out bel (Nat.le_refl _))
  clear bel
  rcases hcase with ⟨rfl, hall⟩ | ⟨k, rfl, hk, hall, hdk⟩
  · have HK : Hid (kpI d xs xs.length = xs) := Lib.hid (by rw [kpI_all (Nat.le_refl _) hall, List.take_length])
    clear hall
    go_wp2
    go_ret
    exact ⟨A, c, by rw [HK.out]; rfl, by rw [HK.out]; exact O1.out, GR1.out⟩
  · obtain ⟨g, cap, hv, hlo, hhi⟩ := O1.out.form (by omega)
    have hAg : A = some ⟨g, 0, none⟩ ∧ c = cap := by injection hv with x y z; exact ⟨x, z⟩
    obtain ⟨rfl, rfl⟩ := hAg
    have HST := Lib.hid (FltI.start hk hall hdk)
    have hkm : ((k : Int) == -1) = false := by simp <;> omega
    have hcap := own_capI O1.out
    have hw1 : IntKind.i64.wrap ((k : Int) + 1) = (k : Int) + 1 := IntWalk.i64_in _ (by omega)
    clear hall hdk hv HIX
    go_wp2
    go_loopw [5, 6] (fun i j wr => ∃ (jn m : Nat) (cur : List Int), i = .int .i64 m ∧ j = .int .i64 jn ∧ jn ≤ xs.length ∧ FltI d xs cur jn m ∧ wr.ownsRow lo 2 1 (.slice (some ⟨g, 0, none⟩) xs.length c) xs.length (cur.map (Value.int .i64)) ∧ w.grownBy wr (some g)) (fun _ j _ => xs.length - (intOf j).toNat)
    case atStart => exact ⟨k + 1, k, xs, rfl, by go_num, by omega, HST.out, O1.out, GR1.out⟩
    case round =>
      obtain ⟨jn, m, cur, rfl, rfl, hjn, hF, hown, hgr⟩ := hrel
      clear GR1 O1 HST
      have hFl := hF.len; have hFm := hF.lt
      by_cases hlt : jn < xs.length
      · have x0 := hown.cellAt (g := g) jn (by omega)
        have hbk := hF.back jn (Nat.le_refl _) hlt
        rw [List.getElem?_map, show cur[jn]? = some (xs.getD jn 0) by rw [← hbk]; simp [List.getD, show jn < cur.length by omega]] at x0
        have HKP := Lib.hid (fun e => hF.keep hlt e)
        have HDR := Lib.hid (fun e => hF.drop hlt e)
        have HC := Lib.hid (HFAR.out _ hgr _ (getL_mem (d := (0 : Int)) hlt))
        have GU := Lib.hid hgr; have OU := Lib.hid hown
        have x1 : wr.cell? ⟨g, jn, none⟩ = some (.int .i64 (xs.getD jn 0)) := x0
        clear hbk hgr hF hown x0
        generalize xs.getD jn 0 = z at *
        obtain ⟨p, hp⟩ : ∃ p, d z = p := ⟨_, rfl⟩
        rw [hp] at HKP HDR HC
        clear hp
        go_wp2_with (fail)
        refine HC.out.mono ?_
        rintro e u2 ⟨rfl, b2⟩
        have G2 := Lib.hid (grown_transx GU.out (grown_of_belowP b2 (some g)))
        have O2 := Lib.hid (own_below OU.out b2 (Nat.le_refl _))
        clear b2 x1
        cases p with
        | true =>
          have S2 := Lib.hid (HDR.out rfl)
          go_wp2
          go_roundw
          case rel => exact ⟨jn + 1, m, cur, rfl, by go_num, by omega, S2.out, O2.out, G2.out⟩
          case measure => simp [intOf]; omega
        | false =>
          have S2 := Lib.hid (HKP.out rfl)
          obtain ⟨d0, e0⟩ : ∃ x, u2.cell? ⟨g, m, none⟩ = some x := ⟨_, (O2.out.cellAt (g := g) m (by omega)).trans (List.getElem?_eq_getElem (by rw [List.length_map]; omega))⟩
          have fr0 := O2.out.frozenAt (g := g) m
          have own5 := O2.out.stored m (.int .i64 z)
          rw [← List.map_set] at own5
          have O5 := Lib.hid own5.1
          have G5 := Lib.hid (grown_transx G2.out own5.2)
          have hml2 : (m : Int) < (xs.length : Int) := by omega
          have hwm : IntKind.i64.wrap ((m : Int) + 1) = (m : Int) + 1 := IntWalk.i64_in _ (by omega)
          clear own5
          go_wp2
          go_roundw
          case rel => exact ⟨jn + 1, m + 1, _, by go_num, by go_num, by omega, S2.out, O5.out, G5.out⟩
          case measure => simp [intOf]; omega
      · have hjl : jn = xs.length := by omega
        subst hjl
        have hmn : m < xs.length := by omega
        have hmc : m ≤ c := by omega
        have hnm : ¬ xs.length = m := by omega
        have hcl1 : ∀ ty, (Builtin.clear_ #[24] ty #[.slice (some ⟨g, m, none⟩) (xs.length - m) (c - m)]).run Tryz.prog wr = .ok (.tuple #[]) (wr.setCells g m (List.replicate (xs.length - m) (.int .i64 0))) := fun ty =>
          Lib.run_clear_slice wr _ 2 ty (.int .i64 0) Tryz.underlying24 zeroI64 rfl rfl g m (xs.length - m) (c - m) (by omega) (fun j hj => by rw [hown.cellAt (g := g) (m + j) (by omega), List.getElem?_eq_getElem (by rw [List.length_map]; omega)]; rfl) (fun j _ => hown.frozenAt (g := g) _)
        obtain ⟨xs', o1, o2, o3⟩ := own_setCellsI (List.replicate (xs.length - m) (Value.int .i64 0)) m wr _ hown
        have o4 := own_shortI o1 (show m ≤ xs.length by omega)
        rw [o2, ← List.map_take, hF.front] at o4
        have HM := Lib.hid hF.kept
        have O4 := Lib.hid o4
        have G4 := Lib.hid (grown_transx hgr o3)
        clear hown hgr hF o1 o2 o3 o4
        go_wp2
        go_ret
        exact ⟨some ⟨g, 0, none⟩, c, by rw [← HM.out]; rfl, by rw [← HM.out]; exact O4.out, G4.out⟩
end Go.Proofs.YtgpocnapkflihaaGreatDoor
