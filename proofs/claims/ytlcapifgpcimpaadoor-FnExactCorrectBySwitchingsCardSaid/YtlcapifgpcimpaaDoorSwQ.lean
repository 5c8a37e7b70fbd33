/- A switching by its number, of the model and of the program. -/
import Derived.Test.YtlcapifgpcimpaaDoorSwP
import Derived.Test.YtlcapifgpcimpaaDoorLxR
import Derived.Deep.RegionHeldLaw
import Derived.Deep.DeepCutAuto
import Derived.BigQuiet
namespace Go.Proofs.YtlcapifgpcimpaaDoor
set_option linter.unusedSimpArgs false
set_option linter.unusedVariables false
open Go.ChangeAt Go.ChangeShapes Go.RowKit Go.WideShapes

theorem div_cast (y i : Nat) : ((y / 2 ^ i : Nat) : Int) = (y : Int) / 2 ^ i := by
  rw [Int.natCast_ediv, Int.natCast_pow]; rfl
theorem bit_at (y i : Nat) (h : y < 1048576) : bits .and .i64 ((y : Int) / 2 ^ i) 1 = (y : Int) / 2 ^ i % 2 := by
  rw [← div_cast]
  exact bit_i64 _ (Nat.lt_of_le_of_lt (Nat.div_le_self _ _) (by omega))
theorem bit_atu (y i : Nat) (h : y < 1048576) : bits .and .u64 ((y : Int) / 2 ^ i) 1 = (y : Int) / 2 ^ i % 2 := by
  rw [← div_cast]
  exact bit_u64 _ (Nat.lt_of_le_of_lt (Nat.div_le_self _ _) (by omega))
set_option maxRecDepth 100000 in
set_option maxHeartbeats 2000000 in
theorem sBits_any (n y : Nat) (w : World) (hn : n ≤ 48) (hy : y < 1048576) :
    Calls Tryd.prog 48 #[.int .i64 n, .int .i64 y] w (Gives w (swU y n)) := by
  obtain ⟨i0, hi0, hz0, hz1, hz2⟩ := info_parts info_i64
  have HI := Lib.hid hi0; have HZ0 := Lib.hid hz0; have HZ1 := Lib.hid hz1; have HZ2 := Lib.hid hz2
  have h0 : (w.alloc (.cells #[] 2)).ownsRow w.heap.size 2 1 (.slice (some ⟨w.heap.size, 0, none⟩) 0 0) (swU y 0).length ((swU y 0).map (Value.int .i64)) := World.ownsRow_made w #[] 0 (Nat.le_refl _) (by simp [maxLen]) rfl
  have hb1 : Below w.heap.size w (w.alloc (.cells #[] 2)) := (Below.refl _ _).alloc (Nat.le_refl _) _
  have H0 := Lib.hid h0; have HB1 := Lib.hid hb1
  clear hi0 hz0 hz1 hz2 h0 hb1
  go_enter Tryd.func48, Tryd.ntmps48
  go_wp2
  go_loopw [5, 6] (fun v i wx => ∃ k : Nat, k ≤ n ∧ i = .int .i64 k ∧ wx.ownsRow w.heap.size 2 1 v (swU y k).length ((swU y k).map (Value.int .i64)) ∧ Below w.heap.size w wx) (fun _ i _ => n - (intOf i).toNat)
  case atStart => exact ⟨0, Nat.zero_le _, rfl, H0.out, HB1.out⟩
  case round =>
    obtain ⟨k, hk, rfl, hO, hB⟩ := hrel
    clear H0 HB1
    by_cases hlt : k < n
    · have hcn : IntKind.u64.wrap (k : Int) = (k : Int) := by rw [IntKind.wrap_u64]; omega
      have hbit := bit_at y k hy
      have HS := Lib.hid (swU_succ (y : Int) k)
      have HLN : Hid ((swU (y : Int) (k + 1)).length = (swU (y : Int) k).length + 1) := Lib.hid (by rw [HS.out]; simp)
      have hln := swU_len (y : Int) k
      have HL := Lib.hid hln
      have hlb : (swU (y : Int) k).length ≤ 48 := by omega
      have HO := Lib.hid hO; have HB := Lib.hid hB
      have hsz1 := hB.size
      clear hO hB hln
      obtain ⟨z, hz⟩ : ∃ z, (y : Int) / 2 ^ k % 2 = z := ⟨_, rfl⟩
      rw [hz] at HS hbit
      clear hz
      go_wp2_with (at_builtin; refine wpList_append_own _ rfl _ _ 24 rfl w.heap.size 2 i0 (.int .i64 0) 1 8 Tryd.underlying24 HI.out HZ0.out HZ1.out HZ2.out rfl (by decide) _ _ _ rfl (HO.out.alloc _) ⟨wr.heap.size, 0, none⟩ 1 1 [.int .i64 z] rfl rfl ?c1 ?c2 ?c3 ?c4 ?c5 ?_)
      case c1 => exact cell_one_new _ _ _
      case c2 => intro u hu; simp at hu; subst hu; rfl
      case c3 => unfold maxLen; omega
      case c4 => omega
      case c5 => simp; omega
      intro v' w2 hown' hgrow _
      have hb2 := Lib.hid ((HB.out.alloc hsz1 (.cells #[.int .i64 z] 2)).grown hgrow (by simp; omega) (fun q hq => (HO.out.lt q hq).1))
      have hown2 : w2.ownsRow w.heap.size 2 1 v' (swU (y : Int) (k + 1)).length ((swU (y : Int) (k + 1)).map (Value.int .i64)) := by
        rw [HLN.out, HS.out, List.map_append]; exact hown'
      have hown1 := Lib.hid hown2
      clear hown' hgrow hown2 hsz1 hbit hcn
      go_wp2
      go_roundw
      case rel => exact ⟨k + 1, by omega, by go_num, hown1.out, hb2.out⟩
      case measure => simp [intOf]; omega
    · have hkl : k = n := by omega
      subst hkl
      have HG := Lib.hid (gives_of hO rfl rfl (Nat.le_refl _) hB)
      clear hO hB
      go_wp2
      go_ret
      exact HG.out
theorem inW_cnt {N : Nt} {x : Int} : decide (0 ≤ x ∧ x ≤ scV N - 1) = soB N x := by
  unfold soB
  rw [Bool.eq_iff_iff, decide_eq_true_iff, decide_eq_true_iff]
  omega
theorem soB_yes {N : Nt} {x : Int} (h : soB N x = true) : ∃ y : Nat, x = (y : Int) ∧ y < 1048576 ∧ (prkN N).length ≤ 10 ∧ valN N = true ∧ soV N x = swU (y : Int) (prkN N).length := by
  have h1 : 0 ≤ x ∧ x < scV N := of_decide_eq_true h
  have h2 : valN N = true ∧ (prkN N).length ≤ 10 := by
    unfold scV at h1
    split at h1
    · next q => exact q
    · omega
  have h3 := scV_yes h2.1 h2.2
  have h4 : 2 ^ (prkN N).length ≤ 2 ^ 10 := Nat.pow_le_pow_right (by omega) h2.2
  refine ⟨x.toNat, by omega, by omega, h2.2, h2.1, ?_⟩
  unfold soV
  rw [if_pos h1, show (x.toNat : Int) = x by omega]
theorem soB_no {N : Nt} {x : Int} (h : soB N x = false) : soV N x = [] := by
  unfold soV; rw [if_neg (of_decide_eq_false h)]
theorem made_intsx (w : World) (n : Nat) (hn : n ≤ 1048576) : (w.alloc (.cells (repC 0 0 n).toArray 2)).ownsRow w.heap.size 2 1 (.slice (some ⟨w.heap.size, 0, none⟩) n n) n ((List.replicate n 0).map (Value.int .i64)) := by
  have := own_lit (w := w) (base := w.heap.size) (n := n) (size := 1) (e := 2) (repC 0 0 n).toArray (Nat.le_refl _) (by unfold maxLen; omega) (by rw [List.size_toArray, repC_len (by omega)]; omega)
  rw [repC_zero] at this ⊢
  rw [List.map_replicate]
  exact this
theorem set_mid {xs : List Int} {n k : Nat} {v : Int} (hl : xs.length = k) (h : k < n) : (xs ++ List.replicate (n - k) 0).set k v = (xs ++ [v]) ++ List.replicate (n - (k + 1)) 0 := by
  subst hl
  rw [List.set_append_right _ _ (Nat.le_refl _), Nat.sub_self, show n - xs.length = (n - (xs.length + 1)) + 1 by omega, List.replicate_succ, List.set_cons_zero, List.append_assoc]
  rfl
set_option maxRecDepth 100000 in
set_option maxHeartbeats 2000000 in
theorem bits_any (n y : Nat) (w : World) (hn : n ≤ 48) (hy : y < 1048576) :
    Calls Tryd.prog 79 #[.int .u64 y, .int .i64 n] w (Gives w (swU y n)) := by
  obtain ⟨i0, hi0, hz0, hz1, hz2⟩ := info_parts info_i64
  have mk2 : ∀ wx : World, (Instr.makeSlice 24 (.int .i64 (n : Nat)) (.int .i64 (n : Nat))).run Tryd.prog wx = .ok (.slice (some ⟨wx.heap.size, 0, none⟩) n n) (wx.alloc (.cells (repC 0 0 n).toArray 2)) := fun wx => by
    have hr := run_make (P := Tryd.prog) wx 24 2 i0 (.int .i64 0) Tryd.underlying24 hi0 hz0 .i64 .i64 n n (by omega) (Int.le_refl _) (by rw [hz2]; omega) (by omega)
    simp only [Int.toNat_natCast, hz1] at hr
    rw [repC_zero, ← made1x]
    exact hr
  clear hi0 hz0 hz1 hz2
  have hown := made_intsx w n (by omega)
  have hb1 : Below w.heap.size w (w.alloc (.cells (repC 0 0 n).toArray 2)) := (Below.refl _ _).alloc (Nat.le_refl _) _
  obtain ⟨w1, hw1⟩ : ∃ u, u = w.alloc (.cells (repC 0 0 n).toArray 2) := ⟨_, rfl⟩
  obtain ⟨g, hg⟩ : ∃ g, w.heap.size = g := ⟨_, rfl⟩
  rw [← hw1] at hown hb1
  rw [hg] at hown
  have HG := Lib.hid hg
  have HW1 := Lib.hid hw1; have OW := Lib.hid hown; have HB1 := Lib.hid hb1
  clear hown hb1 hw1
  go_enter Tryd.func79, Tryd.ntmps79
  go_upto_region 2 with (fail)
  rw [← HW1.out]
  clear mk2 hg
  go_wp2
  go_loopw [11] (fun i wr => ∃ k : Nat, k ≤ n ∧ i = .int .i64 k ∧ wr.ownsRow g 2 1 (.slice (some ⟨g, 0, none⟩) n n) n ((swU (y : Int) k ++ List.replicate (n - k) 0).map (Value.int .i64)) ∧ Below w.heap.size w wr) (fun i _ => n - (intOf i).toNat)
  case atStart => exact ⟨0, Nat.zero_le _, rfl, OW.out, HB1.out⟩
  case round =>
    obtain ⟨k, hk, rfl, hO, hB⟩ := hrel
    clear OW HB1
    by_cases hlt : k < n
    · have hbit := bit_atu y k hy
      have HS := Lib.hid (swU_succ (y : Int) k)
      have HSM := Lib.hid (set_mid (v := (y : Int) / 2 ^ k % 2) (swU_len (y : Int) k) hlt)
      have hcl : (swU (y : Int) k ++ List.replicate (n - k) 0).length = n := by rw [List.length_append, swU_len, List.length_replicate]; omega
      have ca := hO.cellAt (g := g) k (by omega)
      have fa := hO.frozenAt (g := g) k
      obtain ⟨d0, e0⟩ : ∃ x, wr.cell? ⟨g, k, none⟩ = some x := ⟨_, ca.trans (List.getElem?_eq_getElem (by rw [List.length_map, hcl]; omega))⟩
      have hz01 : 0 ≤ (y : Int) / 2 ^ k % 2 ∧ (y : Int) / 2 ^ k % 2 ≤ 1 := by omega
      have hs1' := hO.stored k (.int .i64 ((y : Int) / 2 ^ k % 2))
      rw [← List.map_set, HSM.out, ← HS.out] at hs1'
      have OW5 := Lib.hid hs1'.1
      have BB5 := Lib.hid (hB.grown hs1'.2 (by have := hB.size; omega) (fun q hq => by injection hq with hq; have := HG.out; omega))
      have hwc : IntKind.i64.wrap ((y : Int) / 2 ^ k % 2) = (y : Int) / 2 ^ k % 2 := IntWalk.i64_in _ (by omega)
      clear hs1' hO hB ca hcl HS HSM
      obtain ⟨z, hz⟩ : ∃ z, (y : Int) / 2 ^ k % 2 = z := ⟨_, rfl⟩
      rw [hz] at OW5 BB5 hbit hwc hz01
      clear hz
      go_wp2
      go_roundw
      case rel => exact ⟨k + 1, by omega, by go_num, OW5.out, BB5.out⟩
      case measure => simp [intOf]; omega
    · have hkl : k = n := by omega
      subst hkl
      rw [Nat.sub_self, List.replicate_zero, List.append_nil] at hO
      have HGG : Hid (Gives w (swU (y : Int) k) (.returned (.slice (some ⟨g, 0, none⟩) k k)) wr) := Lib.hid ⟨some ⟨g, 0, none⟩, k, by rw [swU_len], by rw [swU_len]; exact hO.mono (by rw [HG.out]; exact Nat.le_refl _), hB⟩
      clear hO hB
      go_wp2
      go_ret
      exact HGG.out
theorem givesB_nil {w w' : World} (hb : Below w.heap.size w w') : GivesB w [] false (.returned (.tuple #[.slice none 0 0, .bool false])) w' := ⟨none, 0, rfl, World.ownsRow_nil _ _ _ _, hb⟩
end Go.Proofs.YtlcapifgpcimpaaDoor
