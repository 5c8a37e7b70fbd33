/- DualOf: of the program and of the model. Joined and Wrapped: of the program and of the model. Joined and Wrapped of the model. The model's draws: a source of numbers in a block of the call's own, and what is picked from it. Nothing is said of which numbers are drawn, only of their range and of the memory. The model's draw of a formula: some list of small numbers, in memory of its own. The model's source made of a code, and its draw of a list that is mostly a formula. What the laws over a code share: its bytes opened, its length asked, two lists compared. Two lists compared: slices.Equal, and the model's sameInts. Two slices of integers compared, with the very world behind the call: the laws' helper, the model's, slices.Equal. The order of formulas: of the program and of the model. -/
import Derived.Test.YtfdpkhiiboghiaaGreatDoorJQValid
import Derived.Test.YtfdpkhiiboghiaaGreatDoorJQMath
import Derived.Deep.DeepCutAuto
import Derived.StillTailTactics
namespace Go.Proofs.YtfdpkhiiboghiaaGreatDoor
set_option linter.unusedSimpArgs false
set_option linter.unusedVariables false
section
open Go.RowKit

/-- The dual of a symbol. -/
def duZ (n : Int) : Int := if operB n then duTab.getD n.toNat 0 else -n
theorem duZ_leaf {n : Int} (h : leafB n = true) : duZ n = -n := by
  have := leaf_iff.1 h
  have ho : operB n = false := oper_not.2 (by omega)
  simp [duZ, ho]
/-- DualOf. -/
def dualL (f : List Int) : List Int := if validB f then f.map duZ else []
theorem dualL_yes {f : List Int} (h : validB f = true) : dualL f = f.map duZ := by simp [dualL, h]
theorem dualL_no {f : List Int} (h : validB f = false) : dualL f = [] := by simp [dualL, h]

theorem dualL_len (f : List Int) : (dualL f).length ≤ 24 := by
  cases h : validB f with
  | true => rw [dualL_yes h, List.length_map]; exact (valid_len h).2.1
  | false => rw [dualL_no h]; simp

theorem scan_all : ∀ (xs : List Int) (m a : Int), 1 ≤ m → 0 ≤ a → scan xs m a = a + xs.length → ∀ x ∈ xs, 0 ≤ arZ x
  | [], _, _, _, _, _ => by simp
  | x :: xs, m, a, hm, ha, hs => by
    rw [List.length_cons] at hs
    have hx : 0 ≤ arZ x := by
      rcases arZ_cases x with h | h | h | h
      · rw [scan_bad _ _ _ h] at hs; omega
      all_goals omega
    intro y hy
    rcases List.mem_cons.1 hy with rfl | hy
    · exact hx
    · by_cases hr : m + arZ x = 1
      · rw [scan_end _ _ _ hx hr] at hs
        have : xs.length = 0 := by omega
        rw [List.eq_nil_of_length_eq_zero this] at hy
        simp at hy
      · rw [scan_on _ _ _ hx hr] at hs
        exact scan_all xs (m + arZ x - 1) (a + 1) (by omega) (by omega) (by omega) y hy
theorem valid_all {f : List Int} (h : validB f = true) : ∀ x ∈ f, 0 ≤ arZ x := by
  obtain ⟨h1, h2, h3⟩ := valid_len h
  rw [show (0 : Int) = ((0 : Nat) : Int) from rfl, fe_nat (by omega)] at h3
  exact scan_all f 1 0 (by omega) (by omega) (by simpa using h3)
theorem valid_at {f : List Int} (h : validB f = true) {k : Nat} (hk : k < f.length) : leafB (f.getD k 0) = true ∨ leafB (f.getD k 0) = false ∧ operB (f.getD k 0) = true := by
  have hm : f.getD k 0 ∈ f := by simp [List.getD, hk]
  have := valid_all h _ hm
  rcases sym_cases (f.getD k 0) with ⟨h, _⟩ | ⟨h, h', _⟩ | ⟨_, _, h, _⟩
  · exact .inl h
  · exact .inr ⟨h, h'⟩
  · omega
theorem map_at (f : List Int) (g : Int → Int) (k : Nat) (hk : k < f.length) : (f.map g).getD k 0 = g (f.getD k 0) := by simp [List.getD, hk]

/-- A symbol of a formula. -/
def symB (x : Int) : Prop := leafB x = true ∨ leafB x = false ∧ operB x = true
theorem valid_sym {f : List Int} (h : validB f = true) : ∀ x ∈ f, symB x := by
  intro x hx
  have := valid_all h x hx
  rcases sym_cases x with ⟨h, _⟩ | ⟨h, h', _⟩ | ⟨_, _, h, _⟩
  · exact .inl h
  · exact .inr ⟨h, h'⟩
  · omega

/-- How far the turning of a list into its dual, from off on, has come. -/
def dulL (S : List Int) (off k : Nat) : List Int := S.take off ++ ((S.drop off).take k).map duZ ++ S.drop (off + k)
def dul (S : List Int) (off k : Nat) : List Value := (dulL S off k).map (Value.int .i64)
theorem dul_zero (S : List Int) (off : Nat) : S.map (Value.int .i64) = dul S off 0 := by simp [dul, dulL]
theorem dul_all (S : List Int) (off m : Nat) (h : off + m = S.length) : dul S off m = (S.take off ++ (S.drop off).map duZ).map (Value.int .i64) := by
  have e : m = (S.drop off).length := by rw [List.length_drop]; omega
  have hd : S.drop (off + (S.drop off).length) = [] := List.drop_of_length_le (by rw [List.length_drop]; omega)
  unfold dul dulL
  rw [e, List.take_length, hd, List.append_nil]
theorem dulL_head (S : List Int) (off k : Nat) (h : off + k ≤ S.length) : (S.take off ++ ((S.drop off).take k).map duZ).length = off + k := by
  simp only [List.length_map, List.length_append, List.length_take, List.length_drop]; omega
theorem dul_at (S : List Int) (off k : Nat) (h : off + k < S.length) : (dul S off k)[off + k]? = some (.int .i64 (S.getD (off + k) 0)) := by
  unfold dul dulL
  rw [List.getElem?_map, List.getElem?_append_right (by rw [dulL_head S off k (by omega)]; omega), dulL_head S off k (by omega), Nat.sub_self, drop_cons h]
  rfl
theorem dul_step (S : List Int) (off k : Nat) (h : off + k < S.length) : (dul S off k).set (off + k) (.int .i64 (duZ (S.getD (off + k) 0))) = dul S off (k + 1) := by
  unfold dul
  rw [← List.map_set]
  congr 1
  unfold dulL
  have hl := dulL_head S off k (by omega)
  rw [List.set_append_right _ _ (by omega), hl, Nat.sub_self, drop_cons h, List.set_cons_zero]
  have hk : k < (S.drop off).length := by rw [List.length_drop]; omega
  have e3 : (S.drop off)[k] = S.getD (off + k) 0 := by
    rw [List.getElem_drop]; simp [List.getD, h]
  rw [List.take_succ_eq_append_getElem hk, List.map_append, e3, List.append_assoc, List.append_assoc, List.append_assoc]
  rfl

/-- What the turning of a list into its dual leaves. -/
def Dualised (w : World) (base g off N cap : Nat) (S : List Int) (e : Ending) (w' : World) : Prop :=
  e = .returned (.tuple #[]) ∧ w'.ownsRow base 2 1 (.slice (some ⟨g, 0, none⟩) N cap) N ((S.take off ++ (S.drop off).map duZ).map (Value.int .i64)) ∧ w.grownBy w' (some g)

set_option maxHeartbeats 2000000 in
theorem dualise_any (base g off N cap m c : Nat) (S : List Int) (w : World) (hown : w.ownsRow base 2 1 (.slice (some ⟨g, 0, none⟩) N cap) N (S.map (Value.int .i64))) (hm : off + m = N) (hm0 : 0 < m) (hN : N ≤ 1000) (hs : ∀ x ∈ S.drop off, symB x) (hu : Dual w) (hub : 1 < base) :
    Calls Tryz.prog 195 #[.slice (some ⟨g, off, none⟩) m c] w (Dualised w base g off N cap S) := by
  have hl : S.length = N := by have := hown.1; simpa using this
  subst hl
  have hgl : base ≤ g ∧ g < w.heap.size := by
    obtain ⟨g', cap', hv, h1, h2⟩ := hown.form (by omega)
    have hA : g = g' := by injection hv with a; injection a with a; injection a
    rw [hA]; exact ⟨h1, h2⟩
  have HA : Hid (∀ k, k < m → symB (S.getD (off + k) 0)) := Lib.hid fun k hk => hs _ (by
    have h1 : off + k < S.length := by omega
    have h2 : k < (S.drop off).length := by rw [List.length_drop]; omega
    have e : S.getD (off + k) 0 = (S.drop off)[k] := by rw [List.getElem_drop]; simp [List.getD, h1]
    rw [e]; exact List.getElem_mem h2)
  go_enter Tryz.func195, Tryz.ntmps195
  go_wp2
  go_loopw [6] (fun i wr => ∃ k : Nat, k ≤ m ∧ i = .int .i64 k ∧ wr.ownsRow base 2 1 (.slice (some ⟨g, 0, none⟩) S.length cap) S.length (dul S off k) ∧ w.grownBy wr (some g))
    (fun i _ => m - (intOf i).toNat)
  case atStart => exact ⟨0, Nat.zero_le _, rfl, by rw [← dul_zero]; exact hown, World.grownBy.refl w _⟩
  case round =>
    obtain ⟨k, hk, rfl, ho1, hg1⟩ := hrel
    by_cases hlt : k < m
    · have hf := ho1.frozenAt (off + k)
      have hc : wr.cell? ⟨g, off + k, none⟩ = some (.int .i64 (S.getD (off + k) 0)) := by
        rw [ho1.cellAt (off + k) (by omega)]; exact dul_at S off k (by omega)
      have hst := ho1.stored (off + k) (.int .i64 (duZ (S.getD (off + k) 0)))
      rw [dul_step S off k (by omega)] at hst
      have HS := Lib.hid hst.1
      have HG := Lib.hid (grownBy_trans hg1 hst.2)
      have hcase := HA.out k hlt
      clear hst
      generalize S.getD (off + k) 0 = x at hc HS HG hcase
      rcases hcase with hleaf | ⟨hleaf, hoper⟩
      · rw [duZ_leaf hleaf] at HS HG
        have hx := leaf_iff.1 hleaf
        have hx1 : -8 ≤ x := by omega
        have hx2 : x ≤ 8 := by omega
        clear hown ho1 hg1 hs hu HA hx
        go_wp2_with (go_at_call 213; refine (isLeaf_any x _).mono ?_; rintro e w' ⟨rfl, rfl⟩)
        go_roundw
        case rel => exact ⟨k + 1, by omega, by go_num, HS.out, HG.out⟩
        case measure => simp [intOf]; omega
      · have hx := oper_iff.1 hoper
        have hdu : duZ x = duTab.getD x.toNat 0 := by unfold duZ; rw [if_pos hoper]
        obtain ⟨kx, rfl⟩ : ∃ q : Nat, x = q := ⟨x.toNat, by omega⟩
        have e : ((kx : Nat) : Int).toNat = kx := by omega
        rw [e] at hdu
        have hct : wr.cell? ⟨1, kx, none⟩ = some (.int .i64 (duTab.getD kx 0)) := by
          refine Eq.trans (World.cell?_of_block (w := w) (hg1.block _ hu.lt ?_)) (hu kx (by omega))
          intro hh; injection hh with hh; have hh' : 1 = g := hh; omega
        rw [hdu] at HS HG
        generalize duTab.getD kx 0 = z at hct HS HG
        clear hown ho1 hg1 hs hu HA e hdu hoper
        go_wp2_with (go_at_call 213; refine (isLeaf_any kx _).mono ?_; rintro e w' ⟨rfl, rfl⟩)
        go_roundw
        case rel => exact ⟨k + 1, by omega, by go_num, HS.out, HG.out⟩
        case measure => simp [intOf]; omega
    · have hkl : k = m := by omega
      subst hkl
      rw [dul_all S off k hm] at ho1
      have HS := Lib.hid ho1; have HG := Lib.hid hg1
      clear hown ho1 hg1 hs hu HA
      go_wp2
      first
        | go_end0
        | refine bodyPost_ret (results_none rfl _ _ _) rfl ?_
      exact ⟨rfl, HS.out, HG.out⟩

set_option maxHeartbeats 1000000 in
theorem dualOf_in (A : Option Addr) (c : Nat) (f : List Int) (w : World) (h : RdI w w.heap.size A f.length f) (ht : Arit w) (hu : Dual w) (hnc : f.length ≤ c) (hv : validB f = true) :
    Calls Tryz.prog 180 #[.slice A f.length c] w (Gives w (f.map duZ)) := by
  have hlen := valid_len hv
  have hC := clone_any (.slice A f.length c) f w (Part.of_rd h (by omega)) (by omega)
  have HE : Hid (f.take 0 ++ (f.drop 0).map duZ = f.map duZ) := Lib.hid (by simp)
  have HL : Hid ((f.map duZ).length = f.length) := Lib.hid (by simp)
  have HS := Lib.hid (valid_sym hv)
  go_enter Tryz.func180, Tryz.ntmps180
  go_wp2_with (first | (go_at_call 193; refine (validForm_impl _ _ _ f _ h ht hnc).mono ?_; rintro e w' ⟨rfl, rfl⟩) | (go_at_call 147; refine hC.mono ?_; rintro e w1 ⟨A1, c1, rfl, o1, bel1⟩))
  obtain ⟨g, cap, hv1, hg1, hg2⟩ := o1.form (by omega)
  have hA : A1 = some ⟨g, 0, none⟩ ∧ c1 = cap := by injection hv1 with a b c'; exact ⟨a, c'⟩
  obtain ⟨rfl, rfl⟩ := hA
  have hD := dualise_any w.heap.size g 0 f.length c1 f.length c1 f w1 o1 (by omega) (by omega) (by omega) HS.out (hu.below bel1 hu.lt) hu.lt
  have HB := Lib.hid bel1
  have H1 := Lib.hid o1
  clear bel1 o1 hv1 h ht hu hC
  go_wp2_with (fail)
  refine hD.mono ?_
  rintro e w2 ⟨rfl, o2, gr2⟩
  rw [HE.out] at o2
  rw [← HL.out] at o2
  have HO := Lib.hid o2
  have HB2 := Lib.hid (HB.out.grown gr2 HB.out.size (fun k hk => by injection hk with hk; omega))
  clear o2 gr2 hD
  go_wp2
  go_ret
  exact ⟨_, _, by rw [HL.out]; rfl, HO.out, HB2.out⟩

set_option maxHeartbeats 400000 in
theorem dualOf_impl (A : Option Addr) (n c : Nat) (f : List Int) (w : World) (h : RdI w w.heap.size A n f) (ht : Arit w) (hu : Dual w) (hnc : n ≤ c) :
    Calls Tryz.prog 180 #[.slice A n c] w (Gives w (dualL f)) := by
  have hl := h.len
  subst hl
  cases hv : validB f with
  | true => rw [dualL_yes hv]; exact dualOf_in A c f w h ht hu hnc hv
  | false =>
    rw [dualL_no hv]
    go_enter Tryz.func180, Tryz.ntmps180
    go_wp2_with (go_at_call 193; refine (validForm_impl _ _ _ f _ h ht hnc).mono ?_; rintro e w' ⟨rfl, rfl⟩)
    go_ret
    exact ⟨_, _, rfl, World.ownsRow_nil _ _ _ _, Below.refl _ _⟩

set_option maxHeartbeats 1000000 in
theorem dualSymbol_any (n : Int) (w : World) (hn : leafB n = true ∨ leafB n = false ∧ operB n = true) : Calls Tryz.prog 190 #[.int .i64 n] w fun e w' => e = .returned (.int .i64 (duZ n)) ∧ w = w' := by
  rcases hn with hl | ⟨_, ho⟩
  · rw [duZ_leaf hl]
    have hb := leaf_iff.1 hl
    have e1 : (n == 11) = false := by simp; omega
    have e2 : (n == 12) = false := by simp; omega
    have e3 : (n == 13) = false := by simp; omega
    have e4 : (n == 14) = false := by simp; omega
    have e5 : (n == 15) = false := by simp; omega
    have e6 : (n == 16) = false := by simp; omega
    have e7 : (n == 17) = false := by simp; omega
    have e8 : (n == 18) = false := by simp; omega
    have hx1 : -8 ≤ n := by omega
    have hx2 : n ≤ 8 := by omega
    clear hb
    go_enter Tryz.func190, Tryz.ntmps190
    go_wp2
    go_ret
    exact ⟨rfl, rfl⟩
  · have h := oper_iff.1 ho
    have : n = 11 ∨ n = 12 ∨ n = 13 ∨ n = 14 ∨ n = 15 ∨ n = 16 ∨ n = 17 ∨ n = 18 := by omega
    clear h ho
    rcases this with rfl | rfl | rfl | rfl | rfl | rfl | rfl | rfl
    all_goals
      go_enter Tryz.func190, Tryz.ntmps190
      go_wp2
      go_ret
      exact ⟨rfl, rfl⟩

set_option maxHeartbeats 1000000 in
theorem sdual_any (A : Option Addr) (c : Nat) (f : List Int) (w : World) (h : RdI w w.heap.size A f.length f) (hv : validB f = true) :
    Calls Tryz.prog 169 #[.slice A f.length c] w (Gives w (f.map duZ)) := by
  obtain ⟨i0, hi0, hz0, hz1, hz2⟩ := info_parts info_i64
  have hlen := valid_len hv
  have HA := Lib.hid (fun k (hk : k < f.length) => valid_at hv hk)
  go_enter Tryz.func169, Tryz.ntmps169
  go_wp2
  have h0 : (w.alloc (.cells #[] 2)).ownsRow w.heap.size 2 1 (.slice (some ⟨w.heap.size, 0, none⟩) 0 0) 0 (pre (f.map duZ) 0) := by rw [pre_zero]; exact World.ownsRow_made w #[] 0 (Nat.le_refl _) (by simp [maxLen]) rfl
  have hb0 : Below w.heap.size w (w.alloc (.cells #[] 2)) := (Below.refl _ _).alloc (Nat.le_refl _) _
  have H0 := Lib.hid h0; have HB0 := Lib.hid hb0
  clear h0 hb0
  go_loopw [3, 4] (fun v i wr => ∃ k : Nat, k ≤ f.length ∧ i = .int .i64 k ∧ wr.ownsRow w.heap.size 2 1 v k (pre (f.map duZ) k) ∧ Below w.heap.size w wr)
    (fun _ i _ => f.length - (intOf i).toNat)
  case atStart => exact ⟨0, Nat.zero_le _, rfl, H0.out, HB0.out⟩
  case round =>
    obtain ⟨k, hk, rfl, hown, hb⟩ := hrel
    by_cases hlt : k < f.length
    · obtain ⟨b, off, rfl, hbb, hcells⟩ := h.2 (by omega)
      have hc := (hb.cell (p := ⟨b, off + k, none⟩) hbb).trans (hcells k hlt)
      have hcase := HA.out k hlt
      have hstep : pre (f.map duZ) k ++ [.int .i64 (duZ (f.getD k 0))] = pre (f.map duZ) (k + 1) := pre_step (by simpa using hlt) (map_at f duZ k hlt)
      generalize f.getD k 0 = x at hc hcase hstep
      have HS := Lib.hid hstep
      have hsz := hb.size
      clear hstep hcells
      go_wp2_with (first | (go_at_call 190; refine (dualSymbol_any x _ hcase).mono ?_; rintro e w' ⟨rfl, rfl⟩) | (at_builtin; refine wpList_append_own _ rfl _ _ 24 rfl w.heap.size 2 i0 (.int .i64 0) 1 8 Tryz.underlying24 hi0 hz0 hz1 hz2 rfl (by decide) _ _ _ rfl (hown.alloc _) ⟨wr.heap.size, 0, none⟩ 1 1 [.int .i64 (duZ x)] rfl rfl ?c1 ?c2 ?c3 ?c4 ?c5 ?_))
      case c1 => exact cell_one_new _ _ _
      case c2 => intro u hu; simp at hu; subst hu; rfl
      case c3 => unfold maxLen; omega
      case c4 => omega
      case c5 => simp; omega
      intro v' w1 hown' hgrow _
      have hb1 := Lib.hid ((hb.alloc hsz (.cells #[.int .i64 (duZ x)] 2)).grown hgrow (by simp; omega) (fun q hq => (hown.lt q hq).1))
      rw [HS.out] at hown'
      have hown1 := Lib.hid hown'
      clear hown' hgrow hown hb HA
      go_wp2
      go_roundw
      case rel => exact ⟨k + 1, by omega, by go_num, hown1.out, hb1.out⟩
      case measure => simp [intOf]; omega
    · have hkl : k = f.length := by omega
      subst hkl
      obtain ⟨g, cap, rfl, _, _⟩ := hown.form (by omega)
      have hown2 : wr.ownsRow w.heap.size 2 1 (.slice (some ⟨g, 0, none⟩) (f.map duZ).length cap) (f.map duZ).length ((f.map duZ).map (Value.int .i64)) := by
        have e : pre (f.map duZ) f.length = (f.map duZ).map (Value.int .i64) := pre_all (by simp)
        have e2 : (f.map duZ).length = f.length := by simp
        rw [e] at hown; rw [e2]; exact hown
      have HS := Lib.hid hown2; have HB := Lib.hid hb
      have HL : Hid ((f.map duZ).length = f.length) := Lib.hid (by simp)
      clear hown hown2 hb HA
      go_wp2
      go_ret
      exact ⟨_, _, by rw [HL.out]; rfl, HS.out, HB.out⟩
end
section
open Go.RowKit

/-- What the first append leaves, as the second asks for it. -/
theorem second_news {w wa w1 : World} {e : TypeId} {v0 v1 : Value} {n0 n1 b2 off2 : Nat} {xs ys xb : List Value} {b : List Int} (HB0 : Hid (Below w.heap.size w wa)) (H0 : wa.ownsRow w.heap.size e 1 v0 n0 xs) (hown1 : w1.ownsRow w.heap.size e 1 v1 n1 ys) (hgrow1 : wa.grownBy w1 v0.ownBlock)
    (HC2 : Hid (∀ j, j < b.length → w.cell? ⟨b2, off2 + j, none⟩ = some (.int .i64 (b.getD j 0)))) (HBS : Hid (b.map (Value.int .i64) = xb)) (hb2 : b2 < w.heap.size) :
    Hid (w1.ownsRow w.heap.size e 1 v1 n1 ys) ∧ Hid (Below w.heap.size w w1) ∧ Hid (∀ j u, xb[j]? = some u → w1.cell? ((⟨b2, off2, none⟩ : Addr).add j) = some u) := by
  have hb1' : Below w.heap.size w w1 := HB0.out.grown hgrow1 HB0.out.size (fun q hq => (H0.lt q hq).1)
  refine ⟨hown1, hb1', ?_⟩
  have := part_news (w := w1) (b := b2) (off := off2) (zs := b) (fun j hj => (hb1'.cell (p := ⟨b2, off2 + j, none⟩) hb2).trans (HC2.out j hj))
  rw [HBS.out] at this
  exact this
theorem last_news {w w1 w2 : World} {e : TypeId} {v1 v2 : Value} {n1 n2 : Nat} {xs ys : List Value} {J : List Int} (HB1 : Hid (Below w.heap.size w w1)) (HO1 : Hid (w1.ownsRow w.heap.size e 1 v1 n1 xs)) (hown2 : w2.ownsRow w.heap.size e 1 v2 n2 ys) (hgrow2 : w1.grownBy w2 v1.ownBlock)
    (HJ : Hid (ys = J.map (Value.int .i64))) (HL : Hid (J.length = n2)) :
    ∃ A c, v2 = .slice A n2 c ∧ Hid (w2.ownsRow w.heap.size e 1 (.slice A J.length c) J.length (J.map (Value.int .i64))) ∧ Hid (Below w.heap.size w w2) := by
  have hb2' : Below w.heap.size w w2 := HB1.out.grown hgrow2 HB1.out.size (fun q hq => (HO1.out.lt q hq).1)
  obtain ⟨A2, c2, rfl⟩ := own_shape hown2
  rw [HJ.out] at hown2
  refine ⟨A2, c2, rfl, ?_, hb2'⟩
  rw [HL.out]
  exact hown2

set_option maxHeartbeats 1000000 in
theorem sjoined_any (op : Int) (A : Option Addr) (n c : Nat) (a : List Int) (B : Option Addr) (m d : Nat) (b : List Int) (w : World) (h : RdI w w.heap.size A n a) (h' : RdI w w.heap.size B m b) (hn0 : 0 < n) (hm0 : 0 < m) (hn : n ≤ 1000) (hm : m ≤ 1000) :
    Calls Tryz.prog 170 #[.int .i64 op, .slice A n c, .slice B m d] w (Gives w (op :: (a ++ b))) := by
  obtain ⟨i0, hi0, hz0, hz1, hz2⟩ := info_parts info_i64
  have hl := h.len
  have hl' := h'.len
  subst hl hl'
  obtain ⟨b1, off1, rfl, hb1, hc1⟩ := h.2 hn0
  obtain ⟨b2, off2, rfl, hb2, hc2⟩ := h'.2 hm0
  have H0 := World.ownsRow_lit (base := w.heap.size) (e := 2) (size := 1) w #[.int .i64 op] 1 (Nat.le_refl _) (by simp [maxLen]) rfl
  have hb0 : Below w.heap.size w (w.alloc (.cells #[.int .i64 op] 2)) := (Below.refl _ _).alloc (Nat.le_refl _) _
  have hn1 : ∀ j u, (a.map (Value.int .i64))[j]? = some u → (w.alloc (.cells #[.int .i64 op] 2)).cell? ((⟨b1, off1, none⟩ : Addr).add j) = some u := part_news (fun j hj => (hb0.cell (p := ⟨b1, off1 + j, none⟩) hb1).trans (hc1 j hj))
  have HN1 := Lib.hid hn1
  have HJ : Hid (([Value.int .i64 op] ++ a.map (Value.int .i64)) ++ b.map (Value.int .i64) = (op :: (a ++ b)).map (Value.int .i64)) := Lib.hid (by simp)
  have HL : Hid ((op :: (a ++ b)).length = 1 + a.length + b.length) := Lib.hid (by simp; omega)
  have hlen1 : (a.map (Value.int .i64)).length = a.length * 1 := by simp
  have hlen2 : (b.map (Value.int .i64)).length = b.length * 1 := by simp
  have HO := ints_one a
  have HO2 := ints_one b
  obtain ⟨xa, hxa⟩ : ∃ xa, a.map (Value.int .i64) = xa := ⟨_, rfl⟩
  obtain ⟨xb, hxb⟩ : ∃ xb, b.map (Value.int .i64) = xb := ⟨_, rfl⟩
  rw [hxa] at HN1 HJ hlen1 HO
  rw [hxb] at HJ hlen2 HO2
  have HBS := Lib.hid hxb
  have HHO := Lib.hid HO; have HHO2 := Lib.hid HO2; have HL1 := Lib.hid hlen1; have HL2 := Lib.hid hlen2
  have HC2 := Lib.hid hc2
  obtain ⟨J, hJ⟩ : ∃ J, op :: (a ++ b) = J := ⟨_, rfl⟩
  rw [hJ] at HJ HL ⊢
  clear hn1 hxa hxb hJ HO HO2 hlen1 hlen2 hc1 hc2 h h'
  go_enter Tryz.func170, Tryz.ntmps170
  have hM1 : 1 + a.length ≤ maxLen := by unfold maxLen; omega
  have hM2 : 1 + a.length + b.length ≤ maxLen := by unfold maxLen; omega
  have hS1 : (1 + a.length) * 8 ≤ 140737488355328 := by omega
  have hS2 : (1 + a.length + b.length) * 8 ≤ 140737488355328 := by omega
  have HM1 := Lib.hid hM1; have HM2 := Lib.hid hM2; have HS1 := Lib.hid hS1; have HS2 := Lib.hid hS2; have HB0 := Lib.hid hb0
  have HI := Lib.hid hi0; have HZ0 := Lib.hid hz0; have HZ1 := Lib.hid hz1; have HZ2 := Lib.hid hz2
  clear hM1 hM2 hS1 hS2 hb0 hi0 hz0 hz1 hz2
  go_wp2_with (first
    | (at_builtin; refine wpList_append_own _ rfl (.tmp 8) (.tmp 9) 24 rfl w.heap.size 2 i0 (.int .i64 0) 1 8 Tryz.underlying24 HI.out HZ0.out HZ1.out HZ2.out rfl (by decide) _ _ _ rfl H0 ⟨b1, off1, none⟩ a.length c xa rfl HL1.out HN1.out HHO.out HM1.out HS1.out HB0.out.size ?_; intro v1 w1 hown1 hgrow1 _; obtain ⟨HO1, HB1, HN2⟩ := second_news HB0 H0 hown1 hgrow1 HC2 HBS hb2; clear hown1 hgrow1)
    | (at_builtin; refine wpList_append_own _ rfl (.tmp 10) (.tmp 11) 24 rfl w.heap.size 2 i0 (.int .i64 0) 1 8 Tryz.underlying24 HI.out HZ0.out HZ1.out HZ2.out rfl (by decide) _ _ _ rfl HO1.out ⟨b2, off2, none⟩ b.length d xb rfl HL2.out HN2.out HHO2.out HM2.out HS2.out HB1.out.size ?_; intro v2 w2 hown2 hgrow2 _; obtain ⟨A2, c2, rfl, HO2, HB2⟩ := last_news HB1 HO1 hown2 hgrow2 HJ HL; clear hown2 hgrow2))
  go_ret
  exact ⟨_, _, by rw [HL.out]; rfl, HO2.out, HB2.out⟩
end
section
open Go.RowKit

/-- The slice value '.slice A n c' reads as the bytes code, its cells below block B. -/
def RdB (w : World) (B : Nat) (A : Option Addr) (n : Nat) (code : List Int) : Prop :=
  code.length = n ∧ (∀ z ∈ code, 0 ≤ z ∧ z ≤ 255) ∧ (0 < n → ∃ b off, A = some ⟨b, off, none⟩ ∧ b < B ∧ ∀ j, j < n → w.cell? ⟨b, off + j, none⟩ = some (.int .u8 (code.getD j 0)))
theorem RdB.keep {w w' : World} {B n : Nat} {A : Option Addr} {code : List Int} (h : RdB w B A n code) (hk : ∀ p : Addr, p.block < B → w'.cell? p = w.cell? p) : RdB w' B A n code :=
  ⟨h.1, h.2.1, fun hn => by
    obtain ⟨b, off, e, hb, hc⟩ := h.2.2 hn
    exact ⟨b, off, e, hb, fun j hj => (hk _ hb).trans (hc j hj)⟩⟩
theorem grown_alloc (w : World) (o : Obj) (r : Option Nat) : w.grownBy (w.alloc o) r := ⟨rfl, rfl, rfl, by simp, fun k hk _ => Below.heap_alloc w o k hk⟩
/-- What grew by blocks of its own still has turned one row alone. -/
theorem grown_own {w wx w2 : World} {g : Nat} {row : Option Nat} (h : w.grownBy wx (some g)) (h2 : wx.grownBy w2 row) (hr : ∀ q, row = some q → w.heap.size ≤ q) : w.grownBy w2 (some g) :=
  ⟨h2.os.trans h.os, h2.tape.trans h.tape, h2.output.trans h.output, Nat.le_trans h.size h2.size, fun k hk hne => (h2.block k (Nat.lt_of_lt_of_le hk h.size) (fun e => by have := hr k e.symm; omega)).trans (h.block k hk hne)⟩
end
section
open Go.ChangeShapes Go.WideShapes Go.ChangeAt Go.RowKit
end
section
open Go.ChangeAt Go.ChangeShapes Go.RowKit Go.WideShapes

set_option maxHeartbeats 1000000 in
theorem sameInts_any (A B : Option Addr) (n m c d : Nat) (zs ys : List Int) (w : World) (h : RdI w w.heap.size A n zs) (h' : RdI w w.heap.size B m ys) (hn : n ≤ 1048576) (hm : m ≤ 1048576) :
    Calls Tryz.prog 168 #[.slice A n c, .slice B m d] w (Same zs ys w) := by
  have hl := h.len
  have hl' := h'.len
  subst hl hl'
  by_cases hlen : zs.length = ys.length
  · have hd : ((zs.length : Int) != (ys.length : Int)) = false := by simp; omega
    have H := Lib.hid hlen; clear hlen
    go_enter Tryz.func168, Tryz.ntmps168
    go_wp2
    go_loopw [5] (fun i wr => ∃ k : Nat, k ≤ zs.length ∧ i = .int .i64 k ∧ zs.take k = ys.take k ∧ Below w.heap.size w wr) (fun i _ => zs.length - (intOf i).toNat)
    case atStart => exact ⟨0, Nat.zero_le _, rfl, by simp, Below.refl _ _⟩
    case round =>
      obtain ⟨k, hk, rfl, htk, hb⟩ := hrel
      clear hd
      by_cases hlt : k < zs.length
      · have hlt' : k < ys.length := by have := H.out; omega
        obtain ⟨b, off, rfl, hbb, hcells⟩ := h.2 (by omega)
        obtain ⟨b', off', rfl, hbb', hcells'⟩ := h'.2 (by omega)
        have hc := (hb.cell (p := ⟨b, off + k, none⟩) hbb).trans (hcells k hlt)
        have hc' := (hb.cell (p := ⟨b', off' + k, none⟩) hbb').trans (hcells' k hlt')
        have HT := Lib.hid htk; have HB := Lib.hid hb
        clear hcells hcells' htk hb h h'
        by_cases he : zs.getD k 0 = ys.getD k 0
        · have HE := Lib.hid (take_step HT.out hlt hlt' he)
          rw [← he] at hc'
          clear he
          generalize zs.getD k 0 = z at hc hc'
          have hneq : (z != z) = false := by simp
          go_wp2
          go_quiet (fail)
          go_wp2
          go_roundw
          case rel => exact ⟨k + 1, by omega, by go_num, HE.out, below_drewN HB.out _⟩
          case measure => simp [intOf]; omega
        · have HE := Lib.hid (ne_at he)
          have hneq : (zs.getD k 0 != ys.getD k 0) = true := by simpa using he
          clear he
          generalize zs.getD k 0 = z at hc hneq
          generalize ys.getD k 0 = y at hc' hneq
          go_wp2
          go_quiet (fail)
          go_wp2
          go_ret
          exact ⟨ret_no HE.out, below_drewN HB.out _⟩
      · have hkl : k = zs.length := by omega
        subst hkl
        have e : zs = ys := by
          have := htk
          rw [List.take_of_length_le (Nat.le_refl _), List.take_of_length_le (by have := H.out; omega)] at this
          exact this
        have HE := Lib.hid e; have HB := Lib.hid hb
        clear e htk hb
        go_wp2
        go_ret
        exact ⟨ret_yes HE.out, HB.out⟩
  · have hd : ((zs.length : Int) != (ys.length : Int)) = true := by simp; omega
    have HE : Hid (¬ zs = ys) := Lib.hid fun e => hlen (by rw [e])
    clear hlen
    go_enter Tryz.func168, Tryz.ntmps168
    go_wp2
    go_ret
    exact ⟨ret_no HE.out, Below.refl _ _⟩
/-- What a comparison leaves that reads and draws alone. -/
def SameD {α : Type} [DecidableEq α] (zs ys : α) (w : World) (e : Ending) (w' : World) : Prop := e = .returned (.bool (decide (zs = ys))) ∧ ∃ m, w' = w.drewN m
theorem drewN_cell {w wr : World} {p : Addr} {v : Value} (h : ∃ m, wr = w.drewN m) (hc : w.cell? p = some v) : wr.cell? p = some v := by
  obtain ⟨m, rfl⟩ := h
  exact hc
theorem drewN_more {w wr : World} (h : ∃ m, wr = w.drewN m) (k : Nat) : ∃ m, wr.drewN k = w.drewN m := by
  obtain ⟨m, rfl⟩ := h
  exact ⟨m + k, by simp [World.drewN, Nat.add_assoc]⟩
theorem drewN_below {w wr : World} (h : ∃ m, wr = w.drewN m) (B : Nat) : Below B w wr := by
  obtain ⟨m, rfl⟩ := h
  exact below_drewN (Below.refl _ _) m

set_option maxHeartbeats 1000000 in
theorem eqInts_d (A B : Option Addr) (n m c d : Nat) (zs ys : List Int) (w : World) (P Q : Nat) (h : RdI w P A n zs) (h' : RdI w Q B m ys) (hn : n ≤ 1048576) (hm : m ≤ 1048576) :
    Calls Tryz.prog 19 #[.slice A n c, .slice B m d] w (SameD zs ys w) := by
  have hl := h.len
  have hl' := h'.len
  subst hl hl'
  by_cases hlen : zs.length = ys.length
  · have hd : ((zs.length : Int) != (ys.length : Int)) = false := by simp; omega
    have H := Lib.hid hlen; clear hlen
    go_enter Tryz.func19, Tryz.ntmps19
    go_wp2
    go_loopw [5] (fun i wr => ∃ k : Nat, k ≤ zs.length ∧ i = .int .i64 k ∧ zs.take k = ys.take k ∧ ∃ m, wr = w.drewN m) (fun i _ => zs.length - (intOf i).toNat)
    case atStart => exact ⟨0, Nat.zero_le _, rfl, by simp, 0, rfl⟩
    case round =>
      obtain ⟨k, hk, rfl, htk, hb⟩ := hrel
      clear hd
      by_cases hlt : k < zs.length
      · have hlt' : k < ys.length := by have := H.out; omega
        obtain ⟨b, off, rfl, hbb, hcells⟩ := h.2 (by omega)
        obtain ⟨b', off', rfl, hbb', hcells'⟩ := h'.2 (by omega)
        have hc := drewN_cell hb (hcells k hlt)
        have hc' := drewN_cell hb (hcells' k hlt')
        have HT := Lib.hid htk; have HB := Lib.hid hb
        clear hcells hcells' htk hb h h'
        by_cases he : zs.getD k 0 = ys.getD k 0
        · have HE := Lib.hid (take_step HT.out hlt hlt' he)
          rw [← he] at hc'
          clear he
          generalize zs.getD k 0 = z at hc hc'
          have hneq : (z != z) = false := by simp
          go_wp2
          go_quiet (fail)
          go_wp2
          go_roundw
          case rel => exact ⟨k + 1, by omega, by go_num, HE.out, drewN_more HB.out _⟩
          case measure => simp [intOf]; omega
        · have HE := Lib.hid (ne_at he)
          have hneq : (zs.getD k 0 != ys.getD k 0) = true := by simpa using he
          clear he
          generalize zs.getD k 0 = z at hc hneq
          generalize ys.getD k 0 = y at hc' hneq
          go_wp2
          go_quiet (fail)
          go_wp2
          go_ret
          exact ⟨ret_no HE.out, drewN_more HB.out _⟩
      · have hkl : k = zs.length := by omega
        subst hkl
        have e : zs = ys := by
          have := htk
          rw [List.take_of_length_le (Nat.le_refl _), List.take_of_length_le (by have := H.out; omega)] at this
          exact this
        have HE := Lib.hid e; have HB := Lib.hid hb
        clear e htk hb
        go_wp2
        go_ret
        exact ⟨ret_yes HE.out, HB.out⟩
  · have hd : ((zs.length : Int) != (ys.length : Int)) = true := by simp; omega
    have HE : Hid (¬ zs = ys) := Lib.hid fun e => hlen (by rw [e])
    clear hlen
    go_enter Tryz.func19, Tryz.ntmps19
    go_wp2
    go_ret
    exact ⟨ret_no HE.out, 0, rfl⟩
set_option maxHeartbeats 1000000 in
theorem equal_d (A B : Option Addr) (n m c d : Nat) (zs ys : List Int) (w : World) (P Q : Nat) (h : RdI w P A n zs) (h' : RdI w Q B m ys) (hn : n ≤ 1048576) (hm : m ≤ 1048576) :
    Calls Tryz.prog 104 #[.slice A n c, .slice B m d] w (SameD zs ys w) := by
  have hl := h.len
  have hl' := h'.len
  subst hl hl'
  by_cases hlen : zs.length = ys.length
  · have hd : ((zs.length : Int) != (ys.length : Int)) = false := by simp; omega
    have H := Lib.hid hlen; clear hlen
    go_enter Tryz.func104, Tryz.ntmps104
    go_wp2
    go_loopw [13] (fun i wr => ∃ k : Nat, k ≤ zs.length ∧ i = .int .i64 k ∧ zs.take k = ys.take k ∧ ∃ m, wr = w.drewN m) (fun i _ => zs.length - (intOf i).toNat)
    case atStart => exact ⟨0, Nat.zero_le _, rfl, by simp, 0, rfl⟩
    case round =>
      obtain ⟨k, hk, rfl, htk, hb⟩ := hrel
      clear hd
      by_cases hlt : k < zs.length
      · have hlt' : k < ys.length := by have := H.out; omega
        obtain ⟨b, off, rfl, hbb, hcells⟩ := h.2 (by omega)
        obtain ⟨b', off', rfl, hbb', hcells'⟩ := h'.2 (by omega)
        have hc := drewN_cell hb (hcells k hlt)
        have hc' := drewN_cell hb (hcells' k hlt')
        have HT := Lib.hid htk; have HB := Lib.hid hb
        clear hcells hcells' htk hb h h'
        by_cases he : zs.getD k 0 = ys.getD k 0
        · have HE := Lib.hid (take_step HT.out hlt hlt' he)
          rw [← he] at hc'
          clear he
          generalize zs.getD k 0 = z at hc hc'
          have hneq : (z != z) = false := by simp
          go_wp2
          go_quiet (fail)
          go_wp2
          go_roundw
          case rel => exact ⟨k + 1, by omega, by go_num, HE.out, drewN_more HB.out _⟩
          case measure => simp [intOf]; omega
        · have HE := Lib.hid (ne_at he)
          have hneq : (zs.getD k 0 != ys.getD k 0) = true := by simpa using he
          clear he
          generalize zs.getD k 0 = z at hc hneq
          generalize ys.getD k 0 = y at hc' hneq
          go_wp2
          go_quiet (fail)
          go_wp2
          go_ret
          exact ⟨ret_no HE.out, drewN_more HB.out _⟩
      · have hkl : k = zs.length := by omega
        subst hkl
        have e : zs = ys := by
          have := htk
          rw [List.take_of_length_le (Nat.le_refl _), List.take_of_length_le (by have := H.out; omega)] at this
          exact this
        have HE := Lib.hid e; have HB := Lib.hid hb
        clear e htk hb
        go_wp2
        go_ret
        exact ⟨ret_yes HE.out, HB.out⟩
  · have hd : ((zs.length : Int) != (ys.length : Int)) = true := by simp; omega
    have HE : Hid (¬ zs = ys) := Lib.hid fun e => hlen (by rw [e])
    clear hlen
    go_enter Tryz.func104, Tryz.ntmps104
    go_wp2
    go_ret
    exact ⟨ret_no HE.out, 0, rfl⟩
end
section
open Go.RowKit

theorem ret_bool' {a b : Bool} (h : a = b) : Ending.returned (.bool a) = .returned (.bool b) := by rw [h]
end
end Go.Proofs.YtfdpkhiiboghiaaGreatDoor
