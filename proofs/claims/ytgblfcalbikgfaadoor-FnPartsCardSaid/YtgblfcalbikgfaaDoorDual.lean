/- DualOf: of the program and of the model. -/
import Derived.Test.YtgblfcalbikgfaaDoorValid
import Derived.Test.YtgblfcalbikgfaaDoorMark
namespace Go.Proofs.YtgblfcalbikgfaaDoor
open Go.RowKit

/-- The dual of a symbol. -/
def duZ (n : Int) : Int := if operB n then duTab.getD n.toNat 0 else -n
theorem duZ_leaf {n : Int} (h : leafB n = true) : duZ n = -n := by
  have := leaf_iff.1 h
  have ho : operB n = false := oper_not.2 (by omega)
  simp [duZ, ho]
/-- DualOf. -/
def dualL (f : List Int) : List Int := if validB f then f.map duZ else []
theorem dualL_yes {f : List Int} (h : validB f = true) : dualL f = f.map duZ := by simp [dualL, h]
theorem dualL_no {f : List Int} (h : validB f = false) : dualL f = [] := by simp [dualL, h]

theorem dualL_len (f : List Int) : (dualL f).length ≤ 24 := by
  cases h : validB f with
  | true => rw [dualL_yes h, List.length_map]; exact (valid_len h).2.1
  | false => rw [dualL_no h]; simp

theorem scan_all : ∀ (xs : List Int) (m a : Int), 1 ≤ m → 0 ≤ a → scan xs m a = a + xs.length → ∀ x ∈ xs, 0 ≤ arZ x
  | [], _, _, _, _, _ => by simp
  | x :: xs, m, a, hm, ha, hs => by
    rw [List.length_cons] at hs
    have hx : 0 ≤ arZ x := by
      rcases arZ_cases x with h | h | h | h
      · rw [scan_bad _ _ _ h] at hs; omega
      all_goals omega
    intro y hy
    rcases List.mem_cons.1 hy with rfl | hy
    · exact hx
    · by_cases hr : m + arZ x = 1
      · rw [scan_end _ _ _ hx hr] at hs
        have : xs.length = 0 := by omega
        rw [List.eq_nil_of_length_eq_zero this] at hy
        simp at hy
      · rw [scan_on _ _ _ hx hr] at hs
        exact scan_all xs (m + arZ x - 1) (a + 1) (by omega) (by omega) (by omega) y hy
theorem valid_all {f : List Int} (h : validB f = true) : ∀ x ∈ f, 0 ≤ arZ x := by
  obtain ⟨h1, h2, h3⟩ := valid_len h
  rw [show (0 : Int) = ((0 : Nat) : Int) from rfl, fe_nat (by omega)] at h3
  exact scan_all f 1 0 (by omega) (by omega) (by simpa using h3)
theorem valid_at {f : List Int} (h : validB f = true) {k : Nat} (hk : k < f.length) : leafB (f.getD k 0) = true ∨ leafB (f.getD k 0) = false ∧ operB (f.getD k 0) = true := by
  have hm : f.getD k 0 ∈ f := by simp [List.getD, hk]
  have := valid_all h _ hm
  rcases sym_cases (f.getD k 0) with ⟨h, _⟩ | ⟨h, h', _⟩ | ⟨_, _, h, _⟩
  · exact .inl h
  · exact .inr ⟨h, h'⟩
  · omega
theorem map_at (f : List Int) (g : Int → Int) (k : Nat) (hk : k < f.length) : (f.map g).getD k 0 = g (f.getD k 0) := by simp [List.getD, hk]

set_option maxHeartbeats 1000000 in
theorem dualOf_in (A : Option Addr) (c : Nat) (f : List Int) (w : World) (h : RdI w w.heap.size A f.length f) (ht : Arit w) (hu : Dual w) (hnc : f.length ≤ c) (hv : validB f = true) :
    Calls Tryd.prog 17 #[.slice A f.length c] w (Gives w (f.map duZ)) := by
  obtain ⟨i0, hi0, hz0, hz1, hz2⟩ := info_parts info_i64
  have hlen := valid_len hv
  have b2 : i0.bytes * f.length ≤ 281474976710656 := by rw [hz2]; omega
  have b3 : f.length ≤ maxLen := by unfold maxLen; omega
  have hml : (f.map duZ).length = f.length := by simp
  have HA := Lib.hid (fun k (hk : k < f.length) => valid_at hv hk)
  have HL := Lib.hid hml
  clear hml
  go_enter Tryd.func17, Tryd.ntmps17
  go_wp2_with (first | (go_at_call 19; refine (validForm_impl _ _ _ f _ h ht hnc).mono ?_; rintro e w' ⟨rfl, rfl⟩) | (at_make; refine wpList_make_full _ rfl _ _ _ rfl w.heap.size 2 i0 (.int .i64 0) 1 Tryd.underlying24 hi0 hz0 hz1 _ _ _ _ f.length rfl rfl rfl rfl b2 b3 (Nat.le_refl _) ?_; intro w1 hown hg))
  have hbel : Below w.heap.size w w1 := (Below.refl _ _).grown hg (Nat.le_refl _) (by intro k hk; cases hk)
  have hown1 : w1.ownsRow w.heap.size 2 1 (.slice (some ⟨w.heap.size, 0, none⟩) f.length f.length) f.length (cpy (f.map duZ) 0) := by
    rw [← cpy_zero, ← toList_madeCells_one, HL.out]; simpa [Value.cells] using hown
  clear hg hown b2 b3 hi0 hz0 hz1 hz2 hv
  go_loopw [14] (fun i wr => ∃ k : Nat, k ≤ f.length ∧ i = .int .i64 k ∧ wr.ownsRow w.heap.size 2 1 (.slice (some ⟨w.heap.size, 0, none⟩) f.length f.length) f.length (cpy (f.map duZ) k) ∧ Below w.heap.size w wr)
    (fun i _ => f.length - (intOf i).toNat)
  case atStart => exact ⟨0, Nat.zero_le _, rfl, hown1, hbel⟩
  case round =>
    obtain ⟨k, hk, rfl, hown, hb⟩ := hrel
    clear hown1 hbel
    have hm1 : k ≤ (f.map duZ).length := by rw [HL.out]; exact hk
    by_cases hlt : k < f.length
    · obtain ⟨b, off, rfl, hbb, hcells⟩ := h.2 (by omega)
      have hc := (hb.cell (p := ⟨b, off + k, none⟩) hbb).trans (hcells k hlt)
      have hf := hown.frozenAt k
      have ho : wr.cell? ⟨w.heap.size, k, none⟩ = some ((cpy (f.map duZ) k)[k]'(by rw [cpy_len _ k hm1, HL.out]; exact hlt)) := by
        rw [hown.cellAt k (by omega)]; exact List.getElem?_eq_getElem _
      have hst := (hown.stored k (.int .i64 ((f.map duZ).getD k 0))).1
      rw [cpy_step _ k (by rw [HL.out]; exact hlt)] at hst
      have hbs := hb.setCell (p := ⟨w.heap.size, k, none⟩) (Nat.le_refl _) (.int .i64 ((f.map duZ).getD k 0))
      rw [map_at f duZ k hlt] at hst hbs
      have hcase := HA.out k hlt
      obtain ⟨o, hoo⟩ : ∃ o, ((cpy (f.map duZ) k)[k]'(by rw [cpy_len _ k hm1, HL.out]; exact hlt)) = o := ⟨_, rfl⟩
      rw [hoo] at ho
      generalize f.getD k 0 = x at hc hst hbs hcase
      rcases hcase with hleaf | ⟨hleaf, hoper⟩
      · rw [duZ_leaf hleaf] at hst hbs
        have hx := leaf_iff.1 hleaf
        have hx1 : -8 ≤ x := by omega
        have hx2 : x ≤ 8 := by omega
        have HS := Lib.hid hst; have HB := Lib.hid hbs
        clear hst hbs hoo hown hb hcells hm1 hx
        go_wp2_with (go_at_call 45; refine (isLeaf_any x _).mono ?_; rintro e w' ⟨rfl, rfl⟩)
        go_roundw
        case rel => exact ⟨k + 1, by omega, by go_num, HS.out, HB.out⟩
        case measure => simp [intOf]; omega
      · have hx := oper_iff.1 hoper
        have hdu : duZ x = duTab.getD x.toNat 0 := by unfold duZ; rw [if_pos hoper]
        have hct := ((hu.below hb hu.lt) x.toNat (by omega))
        obtain ⟨kx, rfl⟩ : ∃ q : Nat, x = q := ⟨x.toNat, by omega⟩
        have e : ((kx : Nat) : Int).toNat = kx := by omega
        rw [e] at hct hdu
        rw [hdu] at hst hbs
        generalize duTab.getD kx 0 = z at hct hst hbs
        have HS := Lib.hid hst; have HB := Lib.hid hbs
        clear hst hbs hoo hown hb hcells hm1 e hdu hoper
        go_wp2_with (go_at_call 45; refine (isLeaf_any kx _).mono ?_; rintro e w' ⟨rfl, rfl⟩)
        go_roundw
        case rel => exact ⟨k + 1, by omega, by go_num, HS.out, HB.out⟩
        case measure => simp [intOf]; omega
    · have hkl : k = f.length := by omega
      subst hkl
      have hown2 : wr.ownsRow w.heap.size 2 1 (.slice (some ⟨w.heap.size, 0, none⟩) (f.map duZ).length f.length) (f.map duZ).length ((f.map duZ).map (Value.int .i64)) := by
        rw [← cpy_all, HL.out]; exact hown
      have HS := Lib.hid hown2; have HB := Lib.hid hb
      clear hown hown2 hb hm1
      go_wp2
      go_ret
      exact ⟨_, _, by rw [HL.out]; rfl, HS.out, HB.out⟩

set_option maxHeartbeats 400000 in
theorem dualOf_impl (A : Option Addr) (n c : Nat) (f : List Int) (w : World) (h : RdI w w.heap.size A n f) (ht : Arit w) (hu : Dual w) (hnc : n ≤ c) :
    Calls Tryd.prog 17 #[.slice A n c] w (Gives w (dualL f)) := by
  have hl := h.len
  subst hl
  cases hv : validB f with
  | true => rw [dualL_yes hv]; exact dualOf_in A c f w h ht hu hnc hv
  | false =>
    rw [dualL_no hv]
    go_enter Tryd.func17, Tryd.ntmps17
    go_wp2_with (go_at_call 19; refine (validForm_impl _ _ _ f _ h ht hnc).mono ?_; rintro e w' ⟨rfl, rfl⟩)
    go_ret
    exact ⟨_, _, rfl, World.ownsRow_nil _ _ _ _, Below.refl _ _⟩

set_option maxHeartbeats 1000000 in
theorem dualSymbol_any (n : Int) (w : World) (hn : leafB n = true ∨ leafB n = false ∧ operB n = true) : Calls Tryd.prog 65 #[.int .i64 n] w fun e w' => e = .returned (.int .i64 (duZ n)) ∧ w = w' := by
  rcases hn with hl | ⟨_, ho⟩
  · rw [duZ_leaf hl]
    have hb := leaf_iff.1 hl
    have e1 : (n == 11) = false := by simp; omega
    have e2 : (n == 12) = false := by simp; omega
    have e3 : (n == 13) = false := by simp; omega
    have e4 : (n == 14) = false := by simp; omega
    have e5 : (n == 15) = false := by simp; omega
    have e6 : (n == 16) = false := by simp; omega
    have e7 : (n == 17) = false := by simp; omega
    have e8 : (n == 18) = false := by simp; omega
    have hx1 : -8 ≤ n := by omega
    have hx2 : n ≤ 8 := by omega
    clear hb
    go_enter Tryd.func65, Tryd.ntmps65
    go_wp2
    go_ret
    exact ⟨rfl, rfl⟩
  · have h := oper_iff.1 ho
    have : n = 11 ∨ n = 12 ∨ n = 13 ∨ n = 14 ∨ n = 15 ∨ n = 16 ∨ n = 17 ∨ n = 18 := by omega
    clear h ho
    rcases this with rfl | rfl | rfl | rfl | rfl | rfl | rfl | rfl
    all_goals
      go_enter Tryd.func65, Tryd.ntmps65
      go_wp2
      go_ret
      exact ⟨rfl, rfl⟩

set_option maxHeartbeats 1000000 in
theorem sdual_any (A : Option Addr) (c : Nat) (f : List Int) (w : World) (h : RdI w w.heap.size A f.length f) (hv : validB f = true) :
    Calls Tryd.prog 52 #[.slice A f.length c] w (Gives w (f.map duZ)) := by
  obtain ⟨i0, hi0, hz0, hz1, hz2⟩ := info_parts info_i64
  have hlen := valid_len hv
  have HA := Lib.hid (fun k (hk : k < f.length) => valid_at hv hk)
  go_enter Tryd.func52, Tryd.ntmps52
  go_wp2
  have h0 : (w.alloc (.cells #[] 2)).ownsRow w.heap.size 2 1 (.slice (some ⟨w.heap.size, 0, none⟩) 0 0) 0 (pre (f.map duZ) 0) := by rw [pre_zero]; exact World.ownsRow_made w #[] 0 (Nat.le_refl _) (by simp [maxLen]) rfl
  have hb0 : Below w.heap.size w (w.alloc (.cells #[] 2)) := (Below.refl _ _).alloc (Nat.le_refl _) _
  have H0 := Lib.hid h0; have HB0 := Lib.hid hb0
  clear h0 hb0
  go_loopw [3, 4] (fun v i wr => ∃ k : Nat, k ≤ f.length ∧ i = .int .i64 k ∧ wr.ownsRow w.heap.size 2 1 v k (pre (f.map duZ) k) ∧ Below w.heap.size w wr)
    (fun _ i _ => f.length - (intOf i).toNat)
  case atStart => exact ⟨0, Nat.zero_le _, rfl, H0.out, HB0.out⟩
  case round =>
    obtain ⟨k, hk, rfl, hown, hb⟩ := hrel
    by_cases hlt : k < f.length
    · obtain ⟨b, off, rfl, hbb, hcells⟩ := h.2 (by omega)
      have hc := (hb.cell (p := ⟨b, off + k, none⟩) hbb).trans (hcells k hlt)
      have hcase := HA.out k hlt
      have hstep : pre (f.map duZ) k ++ [.int .i64 (duZ (f.getD k 0))] = pre (f.map duZ) (k + 1) := pre_step (by simpa using hlt) (map_at f duZ k hlt)
      generalize f.getD k 0 = x at hc hcase hstep
      have HS := Lib.hid hstep
      have hsz := hb.size
      clear hstep hcells
      go_wp2_with (first | (go_at_call 65; refine (dualSymbol_any x _ hcase).mono ?_; rintro e w' ⟨rfl, rfl⟩) | (at_builtin; refine wpList_append_own _ rfl _ _ 24 rfl w.heap.size 2 i0 (.int .i64 0) 1 8 Tryd.underlying24 hi0 hz0 hz1 hz2 rfl (by decide) _ _ _ rfl (hown.alloc _) ⟨wr.heap.size, 0, none⟩ 1 1 [.int .i64 (duZ x)] rfl rfl ?c1 ?c2 ?c3 ?c4 ?c5 ?_))
      case c1 => exact cell_one_new _ _ _
      case c2 => intro u hu; simp at hu; subst hu; rfl
      case c3 => unfold maxLen; omega
      case c4 => omega
      case c5 => simp; omega
      intro v' w1 hown' hgrow _
      have hb1 := Lib.hid ((hb.alloc hsz (.cells #[.int .i64 (duZ x)] 2)).grown hgrow (by simp; omega) (fun q hq => (hown.lt q hq).1))
      rw [HS.out] at hown'
      have hown1 := Lib.hid hown'
      clear hown' hgrow hown hb HA
      go_wp2
      go_roundw
      case rel => exact ⟨k + 1, by omega, by go_num, hown1.out, hb1.out⟩
      case measure => simp [intOf]; omega
    · have hkl : k = f.length := by omega
      subst hkl
      obtain ⟨g, cap, rfl, _, _⟩ := hown.form (by omega)
      have hown2 : wr.ownsRow w.heap.size 2 1 (.slice (some ⟨g, 0, none⟩) (f.map duZ).length cap) (f.map duZ).length ((f.map duZ).map (Value.int .i64)) := by
        have e : pre (f.map duZ) f.length = (f.map duZ).map (Value.int .i64) := pre_all (by simp)
        have e2 : (f.map duZ).length = f.length := by simp
        rw [e] at hown; rw [e2]; exact hown
      have HS := Lib.hid hown2; have HB := Lib.hid hb
      have HL : Hid ((f.map duZ).length = f.length) := Lib.hid (by simp)
      clear hown hown2 hb HA
      go_wp2
      go_ret
      exact ⟨_, _, by rw [HL.out]; rfl, HS.out, HB.out⟩

set_option maxHeartbeats 400000 in
theorem sDualOf_any (A : Option Addr) (n c : Nat) (f : List Int) (w : World) (h : RdI w w.heap.size A n f) :
    Calls Tryd.prog 33 #[.slice A n c] w (Gives w (dualL f)) := by
  have hl := h.len
  subst hl
  cases hv : validB f with
  | true =>
    rw [dualL_yes hv]
    go_enter Tryd.func33, Tryd.ntmps33
    go_wp2_with (first | (go_at_call 18; refine (sValidForm_any _ _ _ f _ h).mono ?_; rintro e w' ⟨rfl, rfl⟩) | (go_at_call 52; refine (sdual_any _ _ f _ h hv).mono ?_; rintro e w1 ⟨A1, c1, rfl, hown, hbel⟩))
    go_ret
    exact ⟨_, _, by rw [List.length_map]; rfl, hown, hbel⟩
  | false =>
    rw [dualL_no hv]
    go_enter Tryd.func33, Tryd.ntmps33
    go_wp2_with (go_at_call 18; refine (sValidForm_any _ _ _ f _ h).mono ?_; rintro e w' ⟨rfl, rfl⟩)
    go_ret
    exact ⟨_, _, rfl, World.ownsRow_nil _ _ _ _, Below.refl _ _⟩
end Go.Proofs.YtgblfcalbikgfaaDoor
