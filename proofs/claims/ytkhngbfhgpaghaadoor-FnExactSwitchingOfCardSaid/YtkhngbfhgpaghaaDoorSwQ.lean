/- A switching by its number, of the model and of the program. -/
import Derived.Test.YtkhngbfhgpaghaaDoorSwP
import Derived.Test.YtkhngbfhgpaghaaDoorLxR
import Derived.Deep.RegionHeldLaw
import Derived.Deep.DeepCutAuto
import Derived.BigQuiet
namespace Go.Proofs.YtkhngbfhgpaghaaDoor
set_option linter.unusedSimpArgs false
set_option linter.unusedVariables false
open Go.ChangeAt Go.ChangeShapes Go.RowKit Go.WideShapes

theorem div_cast (y i : Nat) : ((y / 2 ^ i : Nat) : Int) = (y : Int) / 2 ^ i := by
  rw [Int.natCast_ediv, Int.natCast_pow]; rfl
theorem bit_at (y i : Nat) (h : y < 1048576) : bits .and .i64 ((y : Int) / 2 ^ i) 1 = (y : Int) / 2 ^ i % 2 := by
  rw [← div_cast]
  exact bit_i64 _ (Nat.lt_of_le_of_lt (Nat.div_le_self _ _) (by omega))
theorem bit_atu (y i : Nat) (h : y < 1048576) : bits .and .u64 ((y : Int) / 2 ^ i) 1 = (y : Int) / 2 ^ i % 2 := by
  rw [← div_cast]
  exact bit_u64 _ (Nat.lt_of_le_of_lt (Nat.div_le_self _ _) (by omega))
set_option maxRecDepth 100000 in
set_option maxHeartbeats 2000000 in
theorem sBits_any (n y : Nat) (w : World) (hn : n ≤ 48) (hy : y < 1048576) :
    Calls Tryd.prog 58 #[.int .i64 n, .int .i64 y] w (Gives w (swU y n)) := by
  obtain ⟨i0, hi0, hz0, hz1, hz2⟩ := info_parts info_i64
  have HI := Lib.hid hi0; have HZ0 := Lib.hid hz0; have HZ1 := Lib.hid hz1; have HZ2 := Lib.hid hz2
  have h0 : (w.alloc (.cells #[] 2)).ownsRow w.heap.size 2 1 (.slice (some ⟨w.heap.size, 0, none⟩) 0 0) (swU y 0).length ((swU y 0).map (Value.int .i64)) := World.ownsRow_made w #[] 0 (Nat.le_refl _) (by simp [maxLen]) rfl
  have hb1 : Below w.heap.size w (w.alloc (.cells #[] 2)) := (Below.refl _ _).alloc (Nat.le_refl _) _
  have H0 := Lib.hid h0; have HB1 := Lib.hid hb1
  clear hi0 hz0 hz1 hz2 h0 hb1
  go_enter Tryd.func58, Tryd.ntmps58
  go_wp2
  go_loopw [5, 6] (fun v i wx => ∃ k : Nat, k ≤ n ∧ i = .int .i64 k ∧ wx.ownsRow w.heap.size 2 1 v (swU y k).length ((swU y k).map (Value.int .i64)) ∧ Below w.heap.size w wx) (fun _ i _ => n - (intOf i).toNat)
  case atStart => exact ⟨0, Nat.zero_le _, rfl, H0.out, HB1.out⟩
  case round =>
    obtain ⟨k, hk, rfl, hO, hB⟩ := hrel
    clear H0 HB1
    by_cases hlt : k < n
    · have hcn : IntKind.u64.wrap (k : Int) = (k : Int) := by rw [IntKind.wrap_u64]; omega
      have hbit := bit_at y k hy
      have HS := Lib.hid (swU_succ (y : Int) k)
      have HLN : Hid ((swU (y : Int) (k + 1)).length = (swU (y : Int) k).length + 1) := Lib.hid (by rw [HS.out]; simp)
      have hln := swU_len (y : Int) k
      have HL := Lib.hid hln
      have hlb : (swU (y : Int) k).length ≤ 48 := by omega
      have HO := Lib.hid hO; have HB := Lib.hid hB
      have hsz1 := hB.size
      clear hO hB hln
      obtain ⟨z, hz⟩ : ∃ z, (y : Int) / 2 ^ k % 2 = z := ⟨_, rfl⟩
      rw [hz] at HS hbit
      clear hz
      go_wp2_with (at_builtin; refine wpList_append_own _ rfl _ _ 24 rfl w.heap.size 2 i0 (.int .i64 0) 1 8 Tryd.underlying24 HI.out HZ0.out HZ1.out HZ2.out rfl (by decide) _ _ _ rfl (HO.out.alloc _) ⟨wr.heap.size, 0, none⟩ 1 1 [.int .i64 z] rfl rfl ?c1 ?c2 ?c3 ?c4 ?c5 ?_)
      case c1 => exact cell_one_new _ _ _
      case c2 => intro u hu; simp at hu; subst hu; rfl
      case c3 => unfold maxLen; omega
      case c4 => omega
      case c5 => simp; omega
      intro v' w2 hown' hgrow _
      have hb2 := Lib.hid ((HB.out.alloc hsz1 (.cells #[.int .i64 z] 2)).grown hgrow (by simp; omega) (fun q hq => (HO.out.lt q hq).1))
      have hown2 : w2.ownsRow w.heap.size 2 1 v' (swU (y : Int) (k + 1)).length ((swU (y : Int) (k + 1)).map (Value.int .i64)) := by
        rw [HLN.out, HS.out, List.map_append]; exact hown'
      have hown1 := Lib.hid hown2
      clear hown' hgrow hown2 hsz1 hbit hcn
      go_wp2
      go_roundw
      case rel => exact ⟨k + 1, by omega, by go_num, hown1.out, hb2.out⟩
      case measure => simp [intOf]; omega
    · have hkl : k = n := by omega
      subst hkl
      have HG := Lib.hid (gives_of hO rfl rfl (Nat.le_refl _) hB)
      clear hO hB
      go_wp2
      go_ret
      exact HG.out
theorem inW_cnt {N : Nt} {x : Int} : decide (0 ≤ x ∧ x ≤ scV N - 1) = soB N x := by
  unfold soB
  rw [Bool.eq_iff_iff, decide_eq_true_iff, decide_eq_true_iff]
  omega
theorem soB_yes {N : Nt} {x : Int} (h : soB N x = true) : ∃ y : Nat, x = (y : Int) ∧ y < 1048576 ∧ (prkN N).length ≤ 10 ∧ valN N = true ∧ soV N x = swU (y : Int) (prkN N).length := by
  have h1 : 0 ≤ x ∧ x < scV N := of_decide_eq_true h
  have h2 : valN N = true ∧ (prkN N).length ≤ 10 := by
    unfold scV at h1
    split at h1
    · next q => exact q
    · omega
  have h3 := scV_yes h2.1 h2.2
  have h4 : 2 ^ (prkN N).length ≤ 2 ^ 10 := Nat.pow_le_pow_right (by omega) h2.2
  refine ⟨x.toNat, by omega, by omega, h2.2, h2.1, ?_⟩
  unfold soV
  rw [if_pos h1, show (x.toNat : Int) = x by omega]
theorem soB_no {N : Nt} {x : Int} (h : soB N x = false) : soV N x = [] := by
  unfold soV; rw [if_neg (of_decide_eq_false h)]
set_option maxRecDepth 100000 in
set_option maxHeartbeats 2000000 in
theorem sSwOf_any (h : NH) (N : Nt) (x : Int) (w : World) (r : RdN w w.heap.size h N) (hn : N.w.length ≤ 1048576) (hl : N.l.length ≤ 1048576) (hc : N.c.length ≤ 1048576) :
    Calls Tryd.prog 24 #[.agg #[.slice h.A N.w.length h.c, .slice h.L N.l.length h.d, .slice h.C N.c.length h.e], .int .i64 x] w (GivesB w (soV N x) (soB N x)) := by
  obtain ⟨w0, hw0⟩ : ∃ w0, w0 = w.alloc (.cells #[.slice h.A N.w.length h.c, .slice h.L N.l.length h.d, .slice h.C N.c.length h.e] 31) := ⟨_, rfl⟩
  obtain ⟨hb, hh, hsz⟩ := box3_any w (.slice h.A N.w.length h.c) (.slice h.L N.l.length h.d) (.slice h.C N.c.length h.e) 31
  rw [← hw0] at hb hh hsz
  have HK : Hid (∀ w', Below w0.heap.size w0 w' → w'.cell? ⟨w.heap.size, 0, none⟩ = some (.slice h.A N.w.length h.c) ∧ w'.cell? ⟨w.heap.size, 1, none⟩ = some (.slice h.L N.l.length h.d) ∧ w'.cell? ⟨w.heap.size, 2, none⟩ = some (.slice h.C N.c.length h.e)) := Lib.hid fun w' hw => three_cells ((hw.block _ (by omega)).trans hh)
  have HC := Lib.hid (sSwCount_any h N w0 ((r.below hb).more hb.size) hn hl hc)
  have HP := Lib.hid (fun (w' : World) (hw : Below w0.heap.size w0 w') => sPars_any h N w' ((r.below (hb.trans (hw.mono hb.size))).more (Nat.le_trans hb.size hw.size)) hl)
  have HB0 := Lib.hid hb
  have hsc : -1 ≤ scV N ∧ scV N ≤ 1024 := by
    unfold scV
    split
    · next q =>
      have h4 : 2 ^ (prkN N).length ≤ 2 ^ 10 := Nat.pow_le_pow_right (by omega) q.2
      generalize 2 ^ (prkN N).length = P at h4 ⊢
      omega
    · omega
  have hws : IntKind.i64.wrap (scV N - 1) = scV N - 1 := IntWalk.i64_in _ (by omega)
  have HIR := Lib.hid (fun wx => inRange_any x 0 (scV N - 1) wx)
  simp only [inW_cnt] at HIR
  obtain ⟨y0, y1, y2⟩ := three_cells hh
  clear hb hh hsz r
  cases hq : soB N x with
  | false =>
    rw [soB_no hq]
    simp only [hq] at HIR
    clear hq
    generalize scV N = q at *
    go_enter Tryd.func24, Tryd.ntmps24
    go_wp2_with (fail)
    rw [← hw0]
    clear hw0
    refine HC.out.mono ?_
    rintro e w1 ⟨rfl, bel⟩
    have B1 := Lib.hid bel
    clear bel y0 y1 y2 HC
    go_wp2_with (fail)
    refine (HIR.out w1).mono ?_
    rintro e w2 ⟨rfl, rfl⟩
    have HG := Lib.hid (gives_made (HB0.out.trans (B1.out.mono HB0.out.size)))
    go_wp2
    go_ret2
    obtain ⟨A, c, e, o, b⟩ := HG.out
    injection e with e
    injection e with e1 e2 e3
    subst e1; subst e3
    exact ⟨_, _, rfl, o, b⟩
  | true =>
    obtain ⟨y, hxy, hy, hp10, hvt, hso⟩ := soB_yes hq
    rw [hso]
    simp only [hq] at HIR
    clear hq hso hvt
    subst hxy
    have HBT := Lib.hid (fun wx => sBits_any (prkN N).length y wx (by omega) hy)
    generalize scV N = q at *
    go_enter Tryd.func24, Tryd.ntmps24
    go_wp2_with (fail)
    rw [← hw0]
    clear hw0
    refine HC.out.mono ?_
    rintro e w1 ⟨rfl, bel⟩
    have B1 := Lib.hid bel
    clear bel y0 y1 y2 HC
    obtain ⟨y0, y1, y2⟩ := HK.out _ B1.out
    go_wp2_with (fail)
    refine (HIR.out w1).mono ?_
    rintro e w2 ⟨rfl, rfl⟩
    go_wp2_with (fail)
    refine (HP.out _ B1.out).mono ?_
    rintro e w3 ⟨A, c, rfl, own3, bel3⟩
    have B3 := Lib.hid (B1.out.trans (bel3.mono B1.out.size))
    clear own3 bel3 y0 y1 y2
    go_wp2_with (fail)
    refine (HBT.out w3).mono ?_
    rintro e w4 ⟨A4, c4, rfl, own4, bel4⟩
    have HG : Hid (GivesB w (swU (y : Int) (prkN N).length) true (.returned (.tuple #[.slice A4 (swU (y : Int) (prkN N).length).length c4, .bool true])) w4) := Lib.hid ⟨A4, c4, rfl, own4.mono (Nat.le_trans HB0.out.size B3.out.size), HB0.out.trans ((B3.out.trans (bel4.mono B3.out.size)).mono HB0.out.size)⟩
    clear own4 bel4
    go_wp2
    go_ret2
    exact HG.out
theorem made_intsx (w : World) (n : Nat) (hn : n ≤ 1048576) : (w.alloc (.cells (repC 0 0 n).toArray 2)).ownsRow w.heap.size 2 1 (.slice (some ⟨w.heap.size, 0, none⟩) n n) n ((List.replicate n 0).map (Value.int .i64)) := by
  have := own_lit (w := w) (base := w.heap.size) (n := n) (size := 1) (e := 2) (repC 0 0 n).toArray (Nat.le_refl _) (by unfold maxLen; omega) (by rw [List.size_toArray, repC_len (by omega)]; omega)
  rw [repC_zero] at this ⊢
  rw [List.map_replicate]
  exact this
theorem set_mid {xs : List Int} {n k : Nat} {v : Int} (hl : xs.length = k) (h : k < n) : (xs ++ List.replicate (n - k) 0).set k v = (xs ++ [v]) ++ List.replicate (n - (k + 1)) 0 := by
  subst hl
  rw [List.set_append_right _ _ (Nat.le_refl _), Nat.sub_self, show n - xs.length = (n - (xs.length + 1)) + 1 by omega, List.replicate_succ, List.set_cons_zero, List.append_assoc]
  rfl
set_option maxRecDepth 100000 in
set_option maxHeartbeats 2000000 in
theorem bits_any (n y : Nat) (w : World) (hn : n ≤ 48) (hy : y < 1048576) :
    Calls Tryd.prog 59 #[.int .u64 y, .int .i64 n] w (Gives w (swU y n)) := by
  obtain ⟨i0, hi0, hz0, hz1, hz2⟩ := info_parts info_i64
  have mk2 : ∀ wx : World, (Instr.makeSlice 24 (.int .i64 (n : Nat)) (.int .i64 (n : Nat))).run Tryd.prog wx = .ok (.slice (some ⟨wx.heap.size, 0, none⟩) n n) (wx.alloc (.cells (repC 0 0 n).toArray 2)) := fun wx => by
    have hr := run_make (P := Tryd.prog) wx 24 2 i0 (.int .i64 0) Tryd.underlying24 hi0 hz0 .i64 .i64 n n (by omega) (Int.le_refl _) (by rw [hz2]; omega) (by omega)
    simp only [Int.toNat_natCast, hz1] at hr
    rw [repC_zero, ← made1x]
    exact hr
  clear hi0 hz0 hz1 hz2
  have hown := made_intsx w n (by omega)
  have hb1 : Below w.heap.size w (w.alloc (.cells (repC 0 0 n).toArray 2)) := (Below.refl _ _).alloc (Nat.le_refl _) _
  obtain ⟨w1, hw1⟩ : ∃ u, u = w.alloc (.cells (repC 0 0 n).toArray 2) := ⟨_, rfl⟩
  obtain ⟨g, hg⟩ : ∃ g, w.heap.size = g := ⟨_, rfl⟩
  rw [← hw1] at hown hb1
  rw [hg] at hown
  have HG := Lib.hid hg
  have HW1 := Lib.hid hw1; have OW := Lib.hid hown; have HB1 := Lib.hid hb1
  clear hown hb1 hw1
  go_enter Tryd.func59, Tryd.ntmps59
  go_upto_region 2 with (fail)
  rw [← HW1.out]
  clear mk2 hg
  go_wp2
  go_loopw [11] (fun i wr => ∃ k : Nat, k ≤ n ∧ i = .int .i64 k ∧ wr.ownsRow g 2 1 (.slice (some ⟨g, 0, none⟩) n n) n ((swU (y : Int) k ++ List.replicate (n - k) 0).map (Value.int .i64)) ∧ Below w.heap.size w wr) (fun i _ => n - (intOf i).toNat)
  case atStart => exact ⟨0, Nat.zero_le _, rfl, OW.out, HB1.out⟩
  case round =>
    obtain ⟨k, hk, rfl, hO, hB⟩ := hrel
    clear OW HB1
    by_cases hlt : k < n
    · have hbit := bit_atu y k hy
      have HS := Lib.hid (swU_succ (y : Int) k)
      have HSM := Lib.hid (set_mid (v := (y : Int) / 2 ^ k % 2) (swU_len (y : Int) k) hlt)
      have hcl : (swU (y : Int) k ++ List.replicate (n - k) 0).length = n := by rw [List.length_append, swU_len, List.length_replicate]; omega
      have ca := hO.cellAt (g := g) k (by omega)
      have fa := hO.frozenAt (g := g) k
      obtain ⟨d0, e0⟩ : ∃ x, wr.cell? ⟨g, k, none⟩ = some x := ⟨_, ca.trans (List.getElem?_eq_getElem (by rw [List.length_map, hcl]; omega))⟩
      have hz01 : 0 ≤ (y : Int) / 2 ^ k % 2 ∧ (y : Int) / 2 ^ k % 2 ≤ 1 := by omega
      have hs1' := hO.stored k (.int .i64 ((y : Int) / 2 ^ k % 2))
      rw [← List.map_set, HSM.out, ← HS.out] at hs1'
      have OW5 := Lib.hid hs1'.1
      have BB5 := Lib.hid (hB.grown hs1'.2 (by have := hB.size; omega) (fun q hq => by injection hq with hq; have := HG.out; omega))
      have hwc : IntKind.i64.wrap ((y : Int) / 2 ^ k % 2) = (y : Int) / 2 ^ k % 2 := IntWalk.i64_in _ (by omega)
      clear hs1' hO hB ca hcl HS HSM
      obtain ⟨z, hz⟩ : ∃ z, (y : Int) / 2 ^ k % 2 = z := ⟨_, rfl⟩
      rw [hz] at OW5 BB5 hbit hwc hz01
      clear hz
      go_wp2
      go_roundw
      case rel => exact ⟨k + 1, by omega, by go_num, OW5.out, BB5.out⟩
      case measure => simp [intOf]; omega
    · have hkl : k = n := by omega
      subst hkl
      rw [Nat.sub_self, List.replicate_zero, List.append_nil] at hO
      have HGG : Hid (Gives w (swU (y : Int) k) (.returned (.slice (some ⟨g, 0, none⟩) k k)) wr) := Lib.hid ⟨some ⟨g, 0, none⟩, k, by rw [swU_len], by rw [swU_len]; exact hO.mono (by rw [HG.out]; exact Nat.le_refl _), hB⟩
      clear hO hB
      go_wp2
      go_ret
      exact HGG.out
theorem givesB_nil {w w' : World} (hb : Below w.heap.size w w') : GivesB w [] false (.returned (.tuple #[.slice none 0 0, .bool false])) w' := ⟨none, 0, rfl, World.ownsRow_nil _ _ _ _, hb⟩
set_option maxRecDepth 100000 in
set_option maxHeartbeats 2000000 in
theorem swOf_impl (h : NH) (N : Nt) (x : Int) (w : World) (r : RdN w w.heap.size h N) (sm : SmallN N) (ht : Arit w) (hu : Dual w) :
    Calls Tryd.prog 25 #[.agg #[.slice h.A N.w.length h.c, .slice h.L N.l.length h.d, .slice h.C N.c.length h.e], .int .i64 x] w (GivesB w (soV N x) (soB N x)) := by
  obtain ⟨w0, hw0⟩ : ∃ w0, w0 = w.alloc (.cells #[.slice h.A N.w.length h.c, .slice h.L N.l.length h.d, .slice h.C N.c.length h.e] 31) := ⟨_, rfl⟩
  obtain ⟨hb, hh, hsz⟩ := box3_any w (.slice h.A N.w.length h.c) (.slice h.L N.l.length h.d) (.slice h.C N.c.length h.e) 31
  rw [← hw0] at hb hh hsz
  have HK : Hid (∀ w', Below w0.heap.size w0 w' → w'.cell? ⟨w.heap.size, 0, none⟩ = some (.slice h.A N.w.length h.c) ∧ w'.cell? ⟨w.heap.size, 1, none⟩ = some (.slice h.L N.l.length h.d) ∧ w'.cell? ⟨w.heap.size, 2, none⟩ = some (.slice h.C N.c.length h.e)) := Lib.hid fun w' hw => three_cells ((hw.block _ (by omega)).trans hh)
  have HR := Lib.hid (fun (w' : World) (hw : Below w0.heap.size w0 w') => show RdN w' w'.heap.size h N from ((r.below (hb.trans (hw.mono hb.size))).more (Nat.le_trans hb.size hw.size)))
  have HT := Lib.hid (fun (wx : World) (hx : Below w0.heap.size w0 wx) => show Arit wx from (ht.below hb ht.lt).below hx (Nat.lt_of_lt_of_le ht.lt hb.size))
  have HU := Lib.hid (fun (wx : World) (hx : Below w0.heap.size w0 wx) => show Dual wx from (hu.below hb hu.lt).below hx (Nat.lt_of_lt_of_le hu.lt hb.size))
  have HP := Lib.hid (fun (wx : World) (hx : Below w0.heap.size w0 wx) => parLinks_impl h N wx (HR.out _ hx) sm (HT.out _ hx) (HU.out _ hx))
  have HC := Lib.hid (swCount_impl h N w0 (HR.out _ (Below.refl _ _)) sm (HT.out _ (Below.refl _ _)) (HU.out _ (Below.refl _ _)))
  have HB0 := Lib.hid hb
  obtain ⟨y0, y1, y2⟩ := three_cells hh
  clear hb hh hsz r ht hu sm
  by_cases hneg : x < 0
  · have d1 : decide (x < 0) = true := decide_eq_true hneg
    have hq : soB N x = false := by unfold soB; rw [decide_eq_false (by omega)]
    rw [soB_no hq, hq]
    have HG := Lib.hid (givesB_nil HB0.out)
    clear hq hneg
    go_enter Tryd.func25, Tryd.ntmps25
    go_wp2_with (fail)
    rw [← hw0]
    clear hw0
    go_wp2
    go_ret2
    exact HG.out
  · have d1 : decide (x < 0) = false := decide_eq_false hneg
    cases hq : soB N x with
    | false =>
      have d2 : decide (scV N ≤ x) = true := decide_eq_true (by have : ¬ (0 ≤ x ∧ x < scV N) := of_decide_eq_false hq; omega)
      rw [soB_no hq]
      clear hq hneg
      generalize scV N = q at *
      go_enter Tryd.func25, Tryd.ntmps25
      go_wp2_with (fail)
      rw [← hw0]
      clear hw0
      go_wp2_with (fail)
      refine HC.out.mono ?_
      rintro e w1 ⟨rfl, bel⟩
      have HG := Lib.hid (givesB_nil (HB0.out.trans (bel.mono HB0.out.size)))
      clear bel y0 y1 y2 HC
      go_wp2
      go_ret2
      exact HG.out
    | true =>
      have d2 : decide (scV N ≤ x) = false := decide_eq_false (by have : 0 ≤ x ∧ x < scV N := of_decide_eq_true hq; omega)
      obtain ⟨y, hxy, hy, hp10, hvt, hso⟩ := soB_yes hq
      rw [hso]
      have hkp := kin_prk hvt
      rw [hkp] at HP
      clear hq hso hvt hkp hneg
      subst hxy
      have HBT := Lib.hid (fun wx => bits_any (prkN N).length y wx (by omega) hy)
      have hcn : IntKind.u64.wrap (y : Int) = (y : Int) := by rw [IntKind.wrap_u64]; omega
      generalize scV N = q at *
      go_enter Tryd.func25, Tryd.ntmps25
      go_wp2_with (fail)
      rw [← hw0]
      clear hw0
      go_wp2_with (fail)
      refine HC.out.mono ?_
      rintro e w1 ⟨rfl, bel⟩
      have B1 := Lib.hid bel
      clear bel y0 y1 y2 HC
      obtain ⟨y0, y1, y2⟩ := HK.out _ B1.out
      go_wp2_with (fail)
      refine (HP.out _ B1.out).mono ?_
      rintro e w3 ⟨A, c, rfl, own3, bel3⟩
      have B3 := Lib.hid (B1.out.trans (bel3.mono B1.out.size))
      clear own3 bel3 y0 y1 y2
      go_wp2_with (fail)
      refine (HBT.out w3).mono ?_
      rintro e w4 ⟨A4, c4, rfl, own4, bel4⟩
      have HG : Hid (GivesB w (swU (y : Int) (prkN N).length) true (.returned (.tuple #[.slice A4 (swU (y : Int) (prkN N).length).length c4, .bool true])) w4) := Lib.hid ⟨A4, c4, rfl, own4.mono (Nat.le_trans HB0.out.size B3.out.size), HB0.out.trans ((B3.out.trans (bel4.mono B3.out.size)).mono HB0.out.size)⟩
      clear own4 bel4
      go_wp2
      go_ret2
      exact HG.out
end Go.Proofs.YtkhngbfhgpaghaaDoor
