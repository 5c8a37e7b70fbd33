/- The library's slices.Grow, slices.Concat and slices.Clone as the program calls them, and the model's copyInts: what each leaves. slices.Clone as the program calls it, and the model's copyInts: what each leaves. DualOf: of the program and of the model. -/
import Derived.Test.YthbkcpacgnmcfaaGreatDoorQMark
import Derived.Lib.AppendZerosOnto
import Derived.Lib.SliceRun
import Derived.Lib.Walk
import Derived.Deep.Matrix
namespace Go.Proofs.YthbkcpacgnmcfaaGreatDoor
set_option linter.unusedSimpArgs false
set_option linter.unusedVariables false
section
open Go.RowKit

/-- A slice value that reads as a list with at least one number, its cells below block B. -/
def Part (w : World) (B : Nat) (v : Value) (zs : List Int) : Prop :=
  ∃ b off c, v = .slice (some ⟨b, off, none⟩) zs.length c ∧ b < B ∧ 0 < zs.length ∧ ∀ j, j < zs.length → w.cell? ⟨b, off + j, none⟩ = some (.int .i64 (zs.getD j 0))
theorem Part.below {w w' : World} {B : Nat} {v : Value} {zs : List Int} (h : Part w B v zs) (hb : Below B w w') : Part w' B v zs := by
  obtain ⟨b, off, c, hv, hB, hp, hc⟩ := h
  exact ⟨b, off, c, hv, hB, hp, fun j hj => (hb.cell (p := ⟨b, off + j, none⟩) hB).trans (hc j hj)⟩
theorem Part.more {w : World} {B B' : Nat} {v : Value} {zs : List Int} (h : Part w B v zs) (hb : B ≤ B') : Part w B' v zs := by
  obtain ⟨b, off, c, hv, hB, hp, hc⟩ := h
  exact ⟨b, off, c, hv, by omega, hp, hc⟩
theorem Part.of_rd {w : World} {B : Nat} {A : Option Addr} {n c : Nat} {zs : List Int} (h : RdI w B A n zs) (hn : 0 < n) : Part w B (.slice A n c) zs := by
  have hl := h.len
  subst hl
  obtain ⟨b, off, rfl, hb, hc⟩ := h.2 hn
  exact ⟨b, off, c, rfl, hb, hn, hc⟩
/-- The cells of a part, as an append asks for them. -/
theorem part_news {w : World} {b off : Nat} {zs : List Int} (hc : ∀ j, j < zs.length → w.cell? ⟨b, off + j, none⟩ = some (.int .i64 (zs.getD j 0))) : ∀ j u, (zs.map (Value.int .i64))[j]? = some u → w.cell? ((⟨b, off, none⟩ : Addr).add j) = some u := by
  intro j u hu
  have hj : j < zs.length := by
    rcases Nat.lt_or_ge j zs.length with h | h
    · exact h
    · rw [List.getElem?_eq_none (by simpa using h)] at hu; cases hu
  have e : (⟨b, off, none⟩ : Addr).add j = ⟨b, off + j, none⟩ := by
    by_cases h0 : j = 0
    · subst h0; simp [Addr.add]
    · simp [Addr.add, h0]
  rw [e, hc j hj]
  simp [hj] at hu
  simp [List.getD, hj, hu]
theorem ints_one (zs : List Int) : ∀ u ∈ zs.map (Value.int .i64), u.oneCell' = true := by
  intro u hu
  obtain ⟨z, _, rfl⟩ := List.mem_map.1 hu
  rfl

theorem own_shape {w : World} {base n : Nat} {e : TypeId} {v : Value} {xs : List Value} (h : w.ownsRow base e 1 v n xs) : ∃ A c, v = .slice A n c := by
  rcases h.2 with ⟨rfl, rfl⟩ | ⟨g, cap, cur, rfl, _⟩
  · exact ⟨_, _, rfl⟩
  · exact ⟨_, _, rfl⟩

/-- What slices.Grow(nil, n) leaves: an empty row of the call's own. -/
def Grew (w : World) (e : Ending) (w' : World) : Prop :=
  ∃ c, e = .returned (.slice (some ⟨w.heap.size, 0, none⟩) 0 c) ∧ w'.ownsRow w.heap.size 2 1 (.slice (some ⟨w.heap.size, 0, none⟩) 0 c) 0 [] ∧ Below w.heap.size w w'

set_option maxHeartbeats 1000000 in
theorem grow_nil (n : Nat) (w : World) (hn : 0 < n) (hm : n ≤ 1000) : Calls Tryz.prog 111 #[.slice none 0 0, .int .i64 n] w (Grew w) := by
  obtain ⟨i0, hi0, hz0, hz1, hz2⟩ := info_parts info_i64
  have hrz : ∀ ty, (Builtin.append_ #[36, 3] ty #[.slice none 0 0, .int .i64 n]).run Tryz.prog w =
      .ok (.slice (some ⟨w.heap.size, 0, none⟩) (0 + n) (grownCap w (0 + n) 0 2)) (w.drew.alloc (.cells (([] : List Value).toArray ++ Builtin.zeroCells (Value.int .i64 0).cells n ++ Builtin.zeroCells (Value.int .i64 0).cells (grownCap w (0 + n) 0 2 - (0 + n))) 2)) := fun ty =>
    Lib.run_append_grow_zeros w 36 3 ty 2 i0 (.int .i64 0) .i64 .i64 Tryz.underlying36 Tryz.underlying3 hi0 hz0 none 0 0 [] (run_firstCells_none w.drew i0.size 0 0 0) n hn (by rw [hz1]; decide) (by omega) (by omega) (by rw [hz2]; omega)
      (growslice_fits (by omega) (by rw [hz2]; omega))
  have hge : n ≤ grownCap w (0 + n) 0 2 := by have := grownCap_ge w (0 + n) 0 2; omega
  have hle : grownCap w (0 + n) 0 2 ≤ maxLen := grownCap_le_maxLen w _ _ _ (by unfold maxLen; omega)
  simp only [Nat.zero_add] at hrz hge hle
  obtain ⟨G, hG⟩ : ∃ G, grownCap w n 0 2 = G := ⟨_, rfl⟩
  rw [hG] at hrz hge hle
  obtain ⟨cur, hcur⟩ : ∃ cur, (([] : List Value).toArray ++ Builtin.zeroCells (Value.int .i64 0).cells n ++ Builtin.zeroCells (Value.int .i64 0).cells (G - n)) = cur := ⟨_, rfl⟩
  have hsize : cur.size = G * 1 := by
    rw [← hcur]; simp [size_zeroCells, Value.cells]; omega
  rw [hcur] at hrz
  have H1 := Lib.hid (World.ownsRow_made (e := 2) (base := w.heap.size) (size := 1) w.drew cur G (Nat.le_refl _) hle hsize)
  have H2 := Lib.hid ((Below.refl w.heap.size w).drew.alloc (Nat.le_refl _) (.cells cur 2))
  have hge0 : 0 < (n : Int) := by omega
  unfold maxLen at hle
  clear hG hcur hsize hz0 hz1 hz2 hi0
  go_enter Tryz.func111, Tryz.ntmps111
  go_wp2_with (at_builtin; refine Lib.wpList_append_run _ rfl _ _ _ _ rfl _ _ rfl rfl _ _ (hrz _) ?_)
  go_ret
  exact ⟨_, rfl, H1.out, H2.out⟩

/-- The first k parts, one behind the other. -/
def catL (ls : List (List Int)) (k : Nat) : List Int := (ls.take k).flatten
theorem catL_zero (ls : List (List Int)) : catL ls 0 = [] := by simp [catL]
theorem catL_step {ls : List (List Int)} {k : Nat} (h : k < ls.length) : catL ls (k + 1) = catL ls k ++ ls.getD k [] := by
  unfold catL
  rw [List.take_succ_eq_append_getElem h, List.flatten_append]
  simp [List.getD, h]
theorem catL_all (ls : List (List Int)) : catL ls ls.length = ls.flatten := by simp [catL]
theorem catL_le (ls : List (List Int)) (k : Nat) : (catL ls k).length ≤ ls.flatten.length := by
  unfold catL
  conv => rhs; rw [← List.take_append_drop k ls, List.flatten_append, List.length_append]
  omega
theorem catL_len_step {ls : List (List Int)} {k : Nat} (h : k < ls.length) : (catL ls (k + 1)).length = (catL ls k).length + (ls.getD k []).length := by
  rw [catL_step h, List.length_append]

theorem cat_push {w : World} {base : Nat} {v : Value} {ls : List (List Int)} {k : Nat} {zs : List Int} (hk : k < ls.length) (hz : ls.getD k [] = zs)
    (hown : w.ownsRow base 2 1 v ((catL ls k).length + zs.length) ((catL ls k).map (Value.int .i64) ++ zs.map (Value.int .i64))) :
    w.ownsRow base 2 1 v (catL ls (k + 1)).length ((catL ls (k + 1)).map (Value.int .i64)) := by
  subst hz
  rw [catL_step hk, List.length_append, List.map_append]
  exact hown

set_option maxHeartbeats 2000000 in
theorem concat_any (g m c : Nat) (vs : List Value) (ls : List (List Int)) (w : World) (hm : ls.length = m) (hm0 : 0 < m) (hmx : m ≤ 1000)
    (hcell : ∀ i, i < m → w.cell? ⟨g, i, none⟩ = some (vs.getD i undef)) (hgB : g < w.heap.size) (hpart : ∀ i, i < m → Part w w.heap.size (vs.getD i undef) (ls.getD i [])) (htot : ls.flatten.length ≤ 1000) :
    Calls Tryz.prog 110 #[.slice (some ⟨g, 0, none⟩) m c] w (Gives w ls.flatten) := by
  obtain ⟨i0, hi0, hz0, hz1, hz2⟩ := info_parts info_i64
  have HC := Lib.hid hcell; have HP := Lib.hid hpart
  have HM := Lib.hid hm
  have hle := catL_le ls
  have HLE := Lib.hid hle
  have hpos : 0 < ls.flatten.length := by
    obtain ⟨b, off, c', _, _, hp, _⟩ := hpart 0 hm0
    have h1 := catL_len_step (ls := ls) (k := 0) (by omega)
    have h2 := catL_le ls (0 + 1)
    omega
  have HT := Lib.hid (show (catL ls m).length = ls.flatten.length by rw [← hm, catL_all])
  obtain ⟨T, hT⟩ : ∃ T, ls.flatten.length = T := ⟨_, rfl⟩
  rw [hT] at HT HLE hpos htot
  have HTT := Lib.hid hT
  clear hcell hpart hle hm hT
  go_enter Tryz.func110, Tryz.ntmps110
  go_wp2
  go_loop [3, 11] (fun v3 v11 => ∃ k : Nat, k ≤ m ∧ v11 = .int .i64 k ∧ v3 = .int .i64 ((catL ls k).length : Nat)) (fun _ v11 => m - (intOf v11).toNat)
  case atStart => exact ⟨0, Nat.zero_le _, rfl, by simp [catL]⟩
  case round =>
    obtain ⟨k, hk, rfl, rfl⟩ := hrel
    by_cases hlt : k < m
    · have hc := HC.out k hlt
      obtain ⟨b, off, c', hv, hbb, hpz, hcells⟩ := HP.out k hlt
      rw [hv] at hc
      have hst := catL_len_step (ls := ls) (k := k) (by have := HM.out; omega)
      have h1 := HLE.out k
      have h2 := HLE.out (k + 1)
      have HS := Lib.hid hst
      have hbd : (catL ls k).length + (ls.getD k []).length ≤ 1000 := by omega
      clear hv hcells hst h2
      generalize (ls.getD k []).length = q at hc HS hpz hbd
      generalize (catL ls k).length = p at HS h1 hbd
      have hneg : ¬ ((p : Int) + (q : Int) < 0) := by omega
      go_wp2
      go_round
      case rel => exact ⟨k + 1, by omega, by go_num, by rw [HS.out]; go_num⟩
      case measure => simp [intOf]; omega
    · have hkm : m = k := by omega
      subst hkm
      rw [HT.out]
      go_wp2_with (go_at_call 111; refine (grow_nil T _ hpos htot).mono ?_; rintro e w1 ⟨c1, rfl, hown1, hb1⟩)
      have HO1 := Lib.hid hown1; have HB1 := Lib.hid hb1
      clear hown1 hb1
      go_loopw [6, 27] (fun v i wr => ∃ k : Nat, k ≤ m ∧ i = .int .i64 k ∧ wr.ownsRow w.heap.size 2 1 v (catL ls k).length ((catL ls k).map (Value.int .i64)) ∧ Below w.heap.size w wr) (fun _ i _ => m - (intOf i).toNat)
      case atStart => exact ⟨0, Nat.zero_le _, rfl, by rw [catL_zero]; exact HO1.out, HB1.out⟩
      case round =>
        obtain ⟨k, hk, rfl, hown, hb⟩ := hrel
        by_cases hkm : k < m
        · have hlt : k < ls.length := by have := HM.out; omega
          obtain ⟨b, off, c', hv, hbb, hpz, hcells⟩ := ((HP.out k hkm).below hb).more hb.size
          have hc := (hb.cell (p := ⟨g, k, none⟩) hgB).trans (HC.out k hkm)
          rw [hv] at hc
          have hst := catL_len_step hlt
          have h2 := HLE.out (k + 1)
          have hsz := hb.size
          obtain ⟨zs, hzs⟩ : ∃ zs, ls.getD k [] = zs := ⟨_, rfl⟩
          rw [hzs] at hc hpz hcells hst
          have HZ := Lib.hid hzs
          have hbd : (catL ls k).length + zs.length ≤ 1000 := by omega
          clear hv hst h2 hzs
          go_wp2_with (at_builtin; refine wpList_append_own _ rfl _ _ 36 rfl w.heap.size 2 i0 (.int .i64 0) 1 8 Tryz.underlying36 hi0 hz0 hz1 hz2 rfl (by decide) _ _ _ rfl hown ⟨b, off, none⟩ zs.length c' (zs.map (Value.int .i64)) rfl ?c0 ?c1 ?c2 ?c3 ?c4 ?c5 ?_)
          case c0 => simp
          case c1 => exact part_news hcells
          case c2 => exact ints_one zs
          case c3 => unfold maxLen; omega
          case c4 => omega
          case c5 => exact hsz
          intro v' w2 hown' hgrow _
          have hb2 := Lib.hid (hb.grown hgrow hsz (fun q hq => (hown.lt q hq).1))
          have hown2 := Lib.hid (cat_push hlt HZ.out hown')
          clear hown' hgrow hown hb hcells hc hlt
          go_wp2
          go_roundw
          case rel => exact ⟨k + 1, by omega, by go_num, hown2.out, hb2.out⟩
          case measure => simp [intOf]; omega
        · have hkl : m = k := by omega
          subst hkl
          obtain ⟨A1, c1', rfl⟩ := own_shape hown
          have HE : Hid ((catL ls m).length = ls.flatten.length) := Lib.hid (by rw [← HM.out, catL_all])
          have hown2 : wr.ownsRow w.heap.size 2 1 (.slice A1 ls.flatten.length c1') ls.flatten.length (ls.flatten.map (Value.int .i64)) := by
            have e : catL ls m = ls.flatten := by rw [← HM.out, catL_all]
            rw [e] at hown; exact hown
          have HS := Lib.hid hown2; have HB := Lib.hid hb
          clear hown hown2 hb
          go_wp2
          go_ret
          exact ⟨_, _, by rw [← HE.out]; rfl, HS.out, HB.out⟩

theorem own_cap {w : World} {base n c : Nat} {e : TypeId} {A : Option Addr} {xs : List Value} (h : w.ownsRow base e 1 (.slice A n c) n xs) : n ≤ c ∧ c ≤ maxLen := by
  rcases h.2 with ⟨hv, rfl⟩ | ⟨g, cap, cur, hv, hb, hh, hn, hc, hs, ht⟩
  · injection hv with a1 a2 a3
    subst a3
    exact ⟨Nat.zero_le _, Nat.zero_le _⟩
  · injection hv with a1 a2 a3
    subst a3
    exact ⟨hn, hc⟩
/-- What an append of a part to an empty row of the call's own leaves. -/
theorem app_news {w wa w2 : World} {e : TypeId} {v0 v2 : Value} {n2 : Nat} {ys : List Value} {zs : List Int} (HB1 : Hid (Below w.heap.size w wa)) (HO1 : Hid (wa.ownsRow w.heap.size e 1 v0 0 [])) (hown2 : w2.ownsRow w.heap.size e 1 v2 n2 ys) (hgrow2 : wa.grownBy w2 v0.ownBlock)
    (HJ : Hid (ys = zs.map (Value.int .i64))) (hl : n2 = zs.length) : ∃ A c, v2 = .slice A zs.length c ∧ Hid (w2.ownsRow w.heap.size e 1 (.slice A zs.length c) zs.length (zs.map (Value.int .i64))) ∧ Hid (Below w.heap.size w w2) := by
  subst hl
  have hb2' : Below w.heap.size w w2 := HB1.out.grown hgrow2 HB1.out.size (fun q hq => (HO1.out.lt q hq).1)
  obtain ⟨A2, c2, rfl⟩ := own_shape hown2
  rw [HJ.out] at hown2
  exact ⟨A2, c2, rfl, hown2, hb2'⟩

set_option maxHeartbeats 1000000 in
theorem clone_any (v : Value) (zs : List Int) (w : World) (hp : Part w w.heap.size v zs) (hz : zs.length ≤ 1000) :
    Calls Tryz.prog 64 #[v] w (Gives w zs) := by
  obtain ⟨i0, hi0, hz0, hz1, hz2⟩ := info_parts info_i64
  obtain ⟨b1, off1, c, rfl, hb1, hpos, hc1⟩ := hp
  have hnil : ∀ wx : World, (binOp .eql 36 (.slice (some ⟨b1, off1, none⟩) zs.length c) (.slice none 0 0)).run Tryz.prog wx = .ok (.bool false) wx := fun wx => Lib.run_eql_slice_nil wx 36 2 _ _ _ _ _ Tryz.underlying36
  have hb0 : Below w.heap.size w (w.alloc (.cells #[] 2)) := (Below.refl _ _).alloc (Nat.le_refl _) _
  have H0 := Lib.hid (World.ownsRow_made (e := 2) (base := w.heap.size) (size := 1) w #[] 0 (Nat.le_refl _) (by simp [maxLen]) rfl)
  have HN1 : Hid (∀ j u, (zs.map (Value.int .i64))[j]? = some u → (w.alloc (.cells #[] 2)).cell? ((⟨b1, off1, none⟩ : Addr).add j) = some u) := Lib.hid (part_news (fun j hj => (hb0.cell (p := ⟨b1, off1 + j, none⟩) hb1).trans (hc1 j hj)))
  have HB0 := Lib.hid hb0
  have HL1 : Hid ((zs.map (Value.int .i64)).length = zs.length * 1) := Lib.hid (by simp)
  have HHO := Lib.hid (ints_one zs)
  have HM1 : Hid (0 + zs.length ≤ maxLen) := Lib.hid (by unfold maxLen; omega)
  have HS1 : Hid ((0 + zs.length) * 8 ≤ 140737488355328) := Lib.hid (by omega)
  have HJ : Hid ([] ++ zs.map (Value.int .i64) = zs.map (Value.int .i64)) := Lib.hid (by simp)
  have HI := Lib.hid hi0; have HZ0 := Lib.hid hz0; have HZ1 := Lib.hid hz1; have HZ2 := Lib.hid hz2
  have HLL : Hid (0 + zs.length = zs.length) := Lib.hid (by omega)
  clear hb0 hc1 hi0 hz0 hz1 hz2
  go_enter Tryz.func64, Tryz.ntmps64
  go_wp2_with (at_builtin; refine wpList_append_own _ rfl _ _ 36 rfl w.heap.size 2 i0 (.int .i64 0) 1 8 Tryz.underlying36 HI.out HZ0.out HZ1.out HZ2.out rfl (by decide) _ _ _ rfl H0.out ⟨b1, off1, none⟩ zs.length c (zs.map (Value.int .i64)) rfl HL1.out HN1.out HHO.out HM1.out HS1.out HB0.out.size ?_; intro v2 w2 hown2 hgrow2 _; obtain ⟨A2, c2, rfl, HO2, HB2⟩ := app_news HB0 H0 hown2 hgrow2 HJ HLL.out; clear hown2 hgrow2)
  go_ret
  exact ⟨_, _, rfl, HO2.out, HB2.out⟩

set_option maxHeartbeats 1000000 in
theorem copyInts_any (v : Value) (zs : List Int) (w : World) (hp : Part w w.heap.size v zs) (hz : zs.length ≤ 1000) :
    Calls Tryz.prog 44 #[v] w (Gives w zs) := by
  obtain ⟨i0, hi0, hz0, hz1, hz2⟩ := info_parts info_i64
  obtain ⟨b1, off1, c, rfl, hb1, hpos, hc1⟩ := hp
  have hb0 : Below w.heap.size w (w.alloc (.cells #[] 2)) := (Below.refl _ _).alloc (Nat.le_refl _) _
  have H0 := Lib.hid (World.ownsRow_made (e := 2) (base := w.heap.size) (size := 1) w #[] 0 (Nat.le_refl _) (by simp [maxLen]) rfl)
  have HN1 : Hid (∀ j u, (zs.map (Value.int .i64))[j]? = some u → (w.alloc (.cells #[] 2)).cell? ((⟨b1, off1, none⟩ : Addr).add j) = some u) := Lib.hid (part_news (fun j hj => (hb0.cell (p := ⟨b1, off1 + j, none⟩) hb1).trans (hc1 j hj)))
  have HB0 := Lib.hid hb0
  have HL1 : Hid ((zs.map (Value.int .i64)).length = zs.length * 1) := Lib.hid (by simp)
  have HHO := Lib.hid (ints_one zs)
  have HM1 : Hid (0 + zs.length ≤ maxLen) := Lib.hid (by unfold maxLen; omega)
  have HS1 : Hid ((0 + zs.length) * 8 ≤ 140737488355328) := Lib.hid (by omega)
  have HJ : Hid ([] ++ zs.map (Value.int .i64) = zs.map (Value.int .i64)) := Lib.hid (by simp)
  have HI := Lib.hid hi0; have HZ0 := Lib.hid hz0; have HZ1 := Lib.hid hz1; have HZ2 := Lib.hid hz2
  have HLL : Hid (0 + zs.length = zs.length) := Lib.hid (by omega)
  clear hb0 hc1 hi0 hz0 hz1 hz2
  go_enter Tryz.func44, Tryz.ntmps44
  go_wp2_with (at_builtin; refine wpList_append_own _ rfl _ _ 36 rfl w.heap.size 2 i0 (.int .i64 0) 1 8 Tryz.underlying36 HI.out HZ0.out HZ1.out HZ2.out rfl (by decide) _ _ _ rfl H0.out ⟨b1, off1, none⟩ zs.length c (zs.map (Value.int .i64)) rfl HL1.out HN1.out HHO.out HM1.out HS1.out HB0.out.size ?_; intro v2 w2 hown2 hgrow2 _; obtain ⟨A2, c2, rfl, HO2, HB2⟩ := app_news HB0 H0 hown2 hgrow2 HJ HLL.out; clear hown2 hgrow2)
  go_ret
  exact ⟨_, _, rfl, HO2.out, HB2.out⟩
end
section
open Go.RowKit

/-- The dual of a symbol. -/
def duZ (n : Int) : Int := if operB n then duTab.getD n.toNat 0 else -n
theorem duZ_leaf {n : Int} (h : leafB n = true) : duZ n = -n := by
  have := leaf_iff.1 h
  have ho : operB n = false := oper_not.2 (by omega)
  simp [duZ, ho]
/-- DualOf. -/
def dualL (f : List Int) : List Int := if validB f then f.map duZ else []
theorem dualL_yes {f : List Int} (h : validB f = true) : dualL f = f.map duZ := by simp [dualL, h]
theorem dualL_no {f : List Int} (h : validB f = false) : dualL f = [] := by simp [dualL, h]

theorem dualL_len (f : List Int) : (dualL f).length ≤ 24 := by
  cases h : validB f with
  | true => rw [dualL_yes h, List.length_map]; exact (valid_len h).2.1
  | false => rw [dualL_no h]; simp

theorem scan_all : ∀ (xs : List Int) (m a : Int), 1 ≤ m → 0 ≤ a → scan xs m a = a + xs.length → ∀ x ∈ xs, 0 ≤ arZ x
  | [], _, _, _, _, _ => by simp
  | x :: xs, m, a, hm, ha, hs => by
    rw [List.length_cons] at hs
    have hx : 0 ≤ arZ x := by
      rcases arZ_cases x with h | h | h | h
      · rw [scan_bad _ _ _ h] at hs; omega
      all_goals omega
    intro y hy
    rcases List.mem_cons.1 hy with rfl | hy
    · exact hx
    · by_cases hr : m + arZ x = 1
      · rw [scan_end _ _ _ hx hr] at hs
        have : xs.length = 0 := by omega
        rw [List.eq_nil_of_length_eq_zero this] at hy
        simp at hy
      · rw [scan_on _ _ _ hx hr] at hs
        exact scan_all xs (m + arZ x - 1) (a + 1) (by omega) (by omega) (by omega) y hy
theorem valid_all {f : List Int} (h : validB f = true) : ∀ x ∈ f, 0 ≤ arZ x := by
  obtain ⟨h1, h2, h3⟩ := valid_len h
  rw [show (0 : Int) = ((0 : Nat) : Int) from rfl, fe_nat (by omega)] at h3
  exact scan_all f 1 0 (by omega) (by omega) (by simpa using h3)
theorem valid_at {f : List Int} (h : validB f = true) {k : Nat} (hk : k < f.length) : leafB (f.getD k 0) = true ∨ leafB (f.getD k 0) = false ∧ operB (f.getD k 0) = true := by
  have hm : f.getD k 0 ∈ f := by simp [List.getD, hk]
  have := valid_all h _ hm
  rcases sym_cases (f.getD k 0) with ⟨h, _⟩ | ⟨h, h', _⟩ | ⟨_, _, h, _⟩
  · exact .inl h
  · exact .inr ⟨h, h'⟩
  · omega
theorem map_at (f : List Int) (g : Int → Int) (k : Nat) (hk : k < f.length) : (f.map g).getD k 0 = g (f.getD k 0) := by simp [List.getD, hk]

/-- A symbol of a formula. -/
def symB (x : Int) : Prop := leafB x = true ∨ leafB x = false ∧ operB x = true
theorem valid_sym {f : List Int} (h : validB f = true) : ∀ x ∈ f, symB x := by
  intro x hx
  have := valid_all h x hx
  rcases sym_cases x with ⟨h, _⟩ | ⟨h, h', _⟩ | ⟨_, _, h, _⟩
  · exact .inl h
  · exact .inr ⟨h, h'⟩
  · omega

/-- How far the turning of a list into its dual, from off on, has come. -/
def dulL (S : List Int) (off k : Nat) : List Int := S.take off ++ ((S.drop off).take k).map duZ ++ S.drop (off + k)
def dul (S : List Int) (off k : Nat) : List Value := (dulL S off k).map (Value.int .i64)
theorem dul_zero (S : List Int) (off : Nat) : S.map (Value.int .i64) = dul S off 0 := by simp [dul, dulL]
theorem dul_all (S : List Int) (off m : Nat) (h : off + m = S.length) : dul S off m = (S.take off ++ (S.drop off).map duZ).map (Value.int .i64) := by
  have e : m = (S.drop off).length := by rw [List.length_drop]; omega
  have hd : S.drop (off + (S.drop off).length) = [] := List.drop_of_length_le (by rw [List.length_drop]; omega)
  unfold dul dulL
  rw [e, List.take_length, hd, List.append_nil]
theorem dulL_head (S : List Int) (off k : Nat) (h : off + k ≤ S.length) : (S.take off ++ ((S.drop off).take k).map duZ).length = off + k := by
  simp only [List.length_map, List.length_append, List.length_take, List.length_drop]; omega
theorem dul_at (S : List Int) (off k : Nat) (h : off + k < S.length) : (dul S off k)[off + k]? = some (.int .i64 (S.getD (off + k) 0)) := by
  unfold dul dulL
  rw [List.getElem?_map, List.getElem?_append_right (by rw [dulL_head S off k (by omega)]; omega), dulL_head S off k (by omega), Nat.sub_self, drop_cons h]
  rfl
theorem dul_step (S : List Int) (off k : Nat) (h : off + k < S.length) : (dul S off k).set (off + k) (.int .i64 (duZ (S.getD (off + k) 0))) = dul S off (k + 1) := by
  unfold dul
  rw [← List.map_set]
  congr 1
  unfold dulL
  have hl := dulL_head S off k (by omega)
  rw [List.set_append_right _ _ (by omega), hl, Nat.sub_self, drop_cons h, List.set_cons_zero]
  have hk : k < (S.drop off).length := by rw [List.length_drop]; omega
  have e3 : (S.drop off)[k] = S.getD (off + k) 0 := by
    rw [List.getElem_drop]; simp [List.getD, h]
  rw [List.take_succ_eq_append_getElem hk, List.map_append, e3, List.append_assoc, List.append_assoc, List.append_assoc]
  rfl

/-- What the turning of a list into its dual leaves. -/
def Dualised (w : World) (base g off N cap : Nat) (S : List Int) (e : Ending) (w' : World) : Prop :=
  e = .returned (.tuple #[]) ∧ w'.ownsRow base 2 1 (.slice (some ⟨g, 0, none⟩) N cap) N ((S.take off ++ (S.drop off).map duZ).map (Value.int .i64)) ∧ w.grownBy w' (some g)

set_option maxHeartbeats 2000000 in
theorem dualise_any (base g off N cap m c : Nat) (S : List Int) (w : World) (hown : w.ownsRow base 2 1 (.slice (some ⟨g, 0, none⟩) N cap) N (S.map (Value.int .i64))) (hm : off + m = N) (hm0 : 0 < m) (hN : N ≤ 1000) (hs : ∀ x ∈ S.drop off, symB x) (hu : Dual w) (hub : 1 < base) :
    Calls Tryz.prog 65 #[.slice (some ⟨g, off, none⟩) m c] w (Dualised w base g off N cap S) := by
  have hl : S.length = N := by have := hown.1; simpa using this
  subst hl
  have hgl : base ≤ g ∧ g < w.heap.size := by
    obtain ⟨g', cap', hv, h1, h2⟩ := hown.form (by omega)
    have hA : g = g' := by injection hv with a; injection a with a; injection a
    rw [hA]; exact ⟨h1, h2⟩
  have HA : Hid (∀ k, k < m → symB (S.getD (off + k) 0)) := Lib.hid fun k hk => hs _ (by
    have h1 : off + k < S.length := by omega
    have h2 : k < (S.drop off).length := by rw [List.length_drop]; omega
    have e : S.getD (off + k) 0 = (S.drop off)[k] := by rw [List.getElem_drop]; simp [List.getD, h1]
    rw [e]; exact List.getElem_mem h2)
  go_enter Tryz.func65, Tryz.ntmps65
  go_wp2
  go_loopw [6] (fun i wr => ∃ k : Nat, k ≤ m ∧ i = .int .i64 k ∧ wr.ownsRow base 2 1 (.slice (some ⟨g, 0, none⟩) S.length cap) S.length (dul S off k) ∧ w.grownBy wr (some g))
    (fun i _ => m - (intOf i).toNat)
  case atStart => exact ⟨0, Nat.zero_le _, rfl, by rw [← dul_zero]; exact hown, World.grownBy.refl w _⟩
  case round =>
    obtain ⟨k, hk, rfl, ho1, hg1⟩ := hrel
    by_cases hlt : k < m
    · have hf := ho1.frozenAt (off + k)
      have hc : wr.cell? ⟨g, off + k, none⟩ = some (.int .i64 (S.getD (off + k) 0)) := by
        rw [ho1.cellAt (off + k) (by omega)]; exact dul_at S off k (by omega)
      have hst := ho1.stored (off + k) (.int .i64 (duZ (S.getD (off + k) 0)))
      rw [dul_step S off k (by omega)] at hst
      have HS := Lib.hid hst.1
      have HG := Lib.hid (grownBy_trans hg1 hst.2)
      have hcase := HA.out k hlt
      clear hst
      generalize S.getD (off + k) 0 = x at hc HS HG hcase
      rcases hcase with hleaf | ⟨hleaf, hoper⟩
      · rw [duZ_leaf hleaf] at HS HG
        have hx := leaf_iff.1 hleaf
        have hx1 : -8 ≤ x := by omega
        have hx2 : x ≤ 8 := by omega
        clear hown ho1 hg1 hs hu HA hx
        go_wp2_with (go_at_call 49; refine (isLeaf_any x _).mono ?_; rintro e w' ⟨rfl, rfl⟩)
        go_roundw
        case rel => exact ⟨k + 1, by omega, by go_num, HS.out, HG.out⟩
        case measure => simp [intOf]; omega
      · have hx := oper_iff.1 hoper
        have hdu : duZ x = duTab.getD x.toNat 0 := by unfold duZ; rw [if_pos hoper]
        obtain ⟨kx, rfl⟩ : ∃ q : Nat, x = q := ⟨x.toNat, by omega⟩
        have e : ((kx : Nat) : Int).toNat = kx := by omega
        rw [e] at hdu
        have hct : wr.cell? ⟨1, kx, none⟩ = some (.int .i64 (duTab.getD kx 0)) := by
          refine Eq.trans (World.cell?_of_block (w := w) (hg1.block _ hu.lt ?_)) (hu kx (by omega))
          intro hh; injection hh with hh; have hh' : 1 = g := hh; omega
        rw [hdu] at HS HG
        generalize duTab.getD kx 0 = z at hct HS HG
        clear hown ho1 hg1 hs hu HA e hdu hoper
        go_wp2_with (go_at_call 49; refine (isLeaf_any kx _).mono ?_; rintro e w' ⟨rfl, rfl⟩)
        go_roundw
        case rel => exact ⟨k + 1, by omega, by go_num, HS.out, HG.out⟩
        case measure => simp [intOf]; omega
    · have hkl : k = m := by omega
      subst hkl
      rw [dul_all S off k hm] at ho1
      have HS := Lib.hid ho1; have HG := Lib.hid hg1
      clear hown ho1 hg1 hs hu HA
      go_wp2
      first
        | go_end0
        | refine bodyPost_ret (results_none rfl _ _ _) rfl ?_
      exact ⟨rfl, HS.out, HG.out⟩

set_option maxHeartbeats 1000000 in
theorem dualOf_in (A : Option Addr) (c : Nat) (f : List Int) (w : World) (h : RdI w w.heap.size A f.length f) (ht : Arit w) (hu : Dual w) (hnc : f.length ≤ c) (hv : validB f = true) :
    Calls Tryz.prog 51 #[.slice A f.length c] w (Gives w (f.map duZ)) := by
  have hlen := valid_len hv
  have hC := clone_any (.slice A f.length c) f w (Part.of_rd h (by omega)) (by omega)
  have HE : Hid (f.take 0 ++ (f.drop 0).map duZ = f.map duZ) := Lib.hid (by simp)
  have HL : Hid ((f.map duZ).length = f.length) := Lib.hid (by simp)
  have HS := Lib.hid (valid_sym hv)
  go_enter Tryz.func51, Tryz.ntmps51
  go_wp2_with (first | (go_at_call 37; refine (validForm_impl _ _ _ f _ h ht hnc).mono ?_; rintro e w' ⟨rfl, rfl⟩) | (go_at_call 64; refine hC.mono ?_; rintro e w1 ⟨A1, c1, rfl, o1, bel1⟩))
  obtain ⟨g, cap, hv1, hg1, hg2⟩ := o1.form (by omega)
  have hA : A1 = some ⟨g, 0, none⟩ ∧ c1 = cap := by injection hv1 with a b c'; exact ⟨a, c'⟩
  obtain ⟨rfl, rfl⟩ := hA
  have hD := dualise_any w.heap.size g 0 f.length c1 f.length c1 f w1 o1 (by omega) (by omega) (by omega) HS.out (hu.below bel1 hu.lt) hu.lt
  have HB := Lib.hid bel1
  have H1 := Lib.hid o1
  clear bel1 o1 hv1 h ht hu hC
  go_wp2_with (fail)
  refine hD.mono ?_
  rintro e w2 ⟨rfl, o2, gr2⟩
  rw [HE.out] at o2
  rw [← HL.out] at o2
  have HO := Lib.hid o2
  have HB2 := Lib.hid (HB.out.grown gr2 HB.out.size (fun k hk => by injection hk with hk; omega))
  clear o2 gr2 hD
  go_wp2
  go_ret
  exact ⟨_, _, by rw [HL.out]; rfl, HO.out, HB2.out⟩

set_option maxHeartbeats 400000 in
theorem dualOf_impl (A : Option Addr) (n c : Nat) (f : List Int) (w : World) (h : RdI w w.heap.size A n f) (ht : Arit w) (hu : Dual w) (hnc : n ≤ c) :
    Calls Tryz.prog 51 #[.slice A n c] w (Gives w (dualL f)) := by
  have hl := h.len
  subst hl
  cases hv : validB f with
  | true => rw [dualL_yes hv]; exact dualOf_in A c f w h ht hu hnc hv
  | false =>
    rw [dualL_no hv]
    go_enter Tryz.func51, Tryz.ntmps51
    go_wp2_with (go_at_call 37; refine (validForm_impl _ _ _ f _ h ht hnc).mono ?_; rintro e w' ⟨rfl, rfl⟩)
    go_ret
    exact ⟨_, _, rfl, World.ownsRow_nil _ _ _ _, Below.refl _ _⟩

set_option maxHeartbeats 1000000 in
theorem dualSymbol_any (n : Int) (w : World) (hn : leafB n = true ∨ leafB n = false ∧ operB n = true) : Calls Tryz.prog 45 #[.int .i64 n] w fun e w' => e = .returned (.int .i64 (duZ n)) ∧ w = w' := by
  rcases hn with hl | ⟨_, ho⟩
  · rw [duZ_leaf hl]
    have hb := leaf_iff.1 hl
    have e1 : (n == 11) = false := by simp; omega
    have e2 : (n == 12) = false := by simp; omega
    have e3 : (n == 13) = false := by simp; omega
    have e4 : (n == 14) = false := by simp; omega
    have e5 : (n == 15) = false := by simp; omega
    have e6 : (n == 16) = false := by simp; omega
    have e7 : (n == 17) = false := by simp; omega
    have e8 : (n == 18) = false := by simp; omega
    have hx1 : -8 ≤ n := by omega
    have hx2 : n ≤ 8 := by omega
    clear hb
    go_enter Tryz.func45, Tryz.ntmps45
    go_wp2
    go_ret
    exact ⟨rfl, rfl⟩
  · have h := oper_iff.1 ho
    have : n = 11 ∨ n = 12 ∨ n = 13 ∨ n = 14 ∨ n = 15 ∨ n = 16 ∨ n = 17 ∨ n = 18 := by omega
    clear h ho
    rcases this with rfl | rfl | rfl | rfl | rfl | rfl | rfl | rfl
    all_goals
      go_enter Tryz.func45, Tryz.ntmps45
      go_wp2
      go_ret
      exact ⟨rfl, rfl⟩

set_option maxHeartbeats 1000000 in
theorem sdual_any (A : Option Addr) (c : Nat) (f : List Int) (w : World) (h : RdI w w.heap.size A f.length f) (hv : validB f = true) :
    Calls Tryz.prog 36 #[.slice A f.length c] w (Gives w (f.map duZ)) := by
  obtain ⟨i0, hi0, hz0, hz1, hz2⟩ := info_parts info_i64
  have hlen := valid_len hv
  have HA := Lib.hid (fun k (hk : k < f.length) => valid_at hv hk)
  go_enter Tryz.func36, Tryz.ntmps36
  go_wp2
  have h0 : (w.alloc (.cells #[] 2)).ownsRow w.heap.size 2 1 (.slice (some ⟨w.heap.size, 0, none⟩) 0 0) 0 (pre (f.map duZ) 0) := by rw [pre_zero]; exact World.ownsRow_made w #[] 0 (Nat.le_refl _) (by simp [maxLen]) rfl
  have hb0 : Below w.heap.size w (w.alloc (.cells #[] 2)) := (Below.refl _ _).alloc (Nat.le_refl _) _
  have H0 := Lib.hid h0; have HB0 := Lib.hid hb0
  clear h0 hb0
  go_loopw [3, 4] (fun v i wr => ∃ k : Nat, k ≤ f.length ∧ i = .int .i64 k ∧ wr.ownsRow w.heap.size 2 1 v k (pre (f.map duZ) k) ∧ Below w.heap.size w wr)
    (fun _ i _ => f.length - (intOf i).toNat)
  case atStart => exact ⟨0, Nat.zero_le _, rfl, H0.out, HB0.out⟩
  case round =>
    obtain ⟨k, hk, rfl, hown, hb⟩ := hrel
    by_cases hlt : k < f.length
    · obtain ⟨b, off, rfl, hbb, hcells⟩ := h.2 (by omega)
      have hc := (hb.cell (p := ⟨b, off + k, none⟩) hbb).trans (hcells k hlt)
      have hcase := HA.out k hlt
      have hstep : pre (f.map duZ) k ++ [.int .i64 (duZ (f.getD k 0))] = pre (f.map duZ) (k + 1) := pre_step (by simpa using hlt) (map_at f duZ k hlt)
      generalize f.getD k 0 = x at hc hcase hstep
      have HS := Lib.hid hstep
      have hsz := hb.size
      clear hstep hcells
      go_wp2_with (first | (go_at_call 45; refine (dualSymbol_any x _ hcase).mono ?_; rintro e w' ⟨rfl, rfl⟩) | (at_builtin; refine wpList_append_own _ rfl _ _ 36 rfl w.heap.size 2 i0 (.int .i64 0) 1 8 Tryz.underlying36 hi0 hz0 hz1 hz2 rfl (by decide) _ _ _ rfl (hown.alloc _) ⟨wr.heap.size, 0, none⟩ 1 1 [.int .i64 (duZ x)] rfl rfl ?c1 ?c2 ?c3 ?c4 ?c5 ?_))
      case c1 => exact cell_one_new _ _ _
      case c2 => intro u hu; simp at hu; subst hu; rfl
      case c3 => unfold maxLen; omega
      case c4 => omega
      case c5 => simp; omega
      intro v' w1 hown' hgrow _
      have hb1 := Lib.hid ((hb.alloc hsz (.cells #[.int .i64 (duZ x)] 2)).grown hgrow (by simp; omega) (fun q hq => (hown.lt q hq).1))
      rw [HS.out] at hown'
      have hown1 := Lib.hid hown'
      clear hown' hgrow hown hb HA
      go_wp2
      go_roundw
      case rel => exact ⟨k + 1, by omega, by go_num, hown1.out, hb1.out⟩
      case measure => simp [intOf]; omega
    · have hkl : k = f.length := by omega
      subst hkl
      obtain ⟨g, cap, rfl, _, _⟩ := hown.form (by omega)
      have hown2 : wr.ownsRow w.heap.size 2 1 (.slice (some ⟨g, 0, none⟩) (f.map duZ).length cap) (f.map duZ).length ((f.map duZ).map (Value.int .i64)) := by
        have e : pre (f.map duZ) f.length = (f.map duZ).map (Value.int .i64) := pre_all (by simp)
        have e2 : (f.map duZ).length = f.length := by simp
        rw [e] at hown; rw [e2]; exact hown
      have HS := Lib.hid hown2; have HB := Lib.hid hb
      have HL : Hid ((f.map duZ).length = f.length) := Lib.hid (by simp)
      clear hown hown2 hb HA
      go_wp2
      go_ret
      exact ⟨_, _, by rw [HL.out]; rfl, HS.out, HB.out⟩
end
end Go.Proofs.YthbkcpacgnmcfaaGreatDoor
