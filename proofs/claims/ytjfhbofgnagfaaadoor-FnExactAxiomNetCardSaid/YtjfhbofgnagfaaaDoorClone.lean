/- The library's slices.Grow, slices.Concat and slices.Clone as the program calls them, and the model's copyInts: what each leaves. slices.Clone as the program calls it, and the model's copyInts: what each leaves. -/
import Derived.Test.YtjfhbofgnagfaaaDoorMark
import Derived.Lib.AppendZerosOnto
import Derived.Lib.SliceRun
import Derived.Lib.Walk
import Derived.Deep.Matrix
namespace Go.Proofs.YtjfhbofgnagfaaaDoor
open Go.RowKit

/-- A slice value that reads as a list with at least one number, its cells below block B. -/
def Part (w : World) (B : Nat) (v : Value) (zs : List Int) : Prop :=
  ∃ b off c, v = .slice (some ⟨b, off, none⟩) zs.length c ∧ b < B ∧ 0 < zs.length ∧ ∀ j, j < zs.length → w.cell? ⟨b, off + j, none⟩ = some (.int .i64 (zs.getD j 0))
theorem Part.below {w w' : World} {B : Nat} {v : Value} {zs : List Int} (h : Part w B v zs) (hb : Below B w w') : Part w' B v zs := by
  obtain ⟨b, off, c, hv, hB, hp, hc⟩ := h
  exact ⟨b, off, c, hv, hB, hp, fun j hj => (hb.cell (p := ⟨b, off + j, none⟩) hB).trans (hc j hj)⟩
theorem Part.more {w : World} {B B' : Nat} {v : Value} {zs : List Int} (h : Part w B v zs) (hb : B ≤ B') : Part w B' v zs := by
  obtain ⟨b, off, c, hv, hB, hp, hc⟩ := h
  exact ⟨b, off, c, hv, by omega, hp, hc⟩
theorem Part.of_rd {w : World} {B : Nat} {A : Option Addr} {n c : Nat} {zs : List Int} (h : RdI w B A n zs) (hn : 0 < n) : Part w B (.slice A n c) zs := by
  have hl := h.len
  subst hl
  obtain ⟨b, off, rfl, hb, hc⟩ := h.2 hn
  exact ⟨b, off, c, rfl, hb, hn, hc⟩
/-- The cells of a part, as an append asks for them. -/
theorem part_news {w : World} {b off : Nat} {zs : List Int} (hc : ∀ j, j < zs.length → w.cell? ⟨b, off + j, none⟩ = some (.int .i64 (zs.getD j 0))) : ∀ j u, (zs.map (Value.int .i64))[j]? = some u → w.cell? ((⟨b, off, none⟩ : Addr).add j) = some u := by
  intro j u hu
  have hj : j < zs.length := by
    rcases Nat.lt_or_ge j zs.length with h | h
    · exact h
    · rw [List.getElem?_eq_none (by simpa using h)] at hu; cases hu
  have e : (⟨b, off, none⟩ : Addr).add j = ⟨b, off + j, none⟩ := by
    by_cases h0 : j = 0
    · subst h0; simp [Addr.add]
    · simp [Addr.add, h0]
  rw [e, hc j hj]
  simp [hj] at hu
  simp [List.getD, hj, hu]
theorem ints_one (zs : List Int) : ∀ u ∈ zs.map (Value.int .i64), u.oneCell' = true := by
  intro u hu
  obtain ⟨z, _, rfl⟩ := List.mem_map.1 hu
  rfl

theorem own_shape {w : World} {base n : Nat} {e : TypeId} {v : Value} {xs : List Value} (h : w.ownsRow base e 1 v n xs) : ∃ A c, v = .slice A n c := by
  rcases h.2 with ⟨rfl, rfl⟩ | ⟨g, cap, cur, rfl, _⟩
  · exact ⟨_, _, rfl⟩
  · exact ⟨_, _, rfl⟩

/-- What slices.Grow(nil, n) leaves: an empty row of the call's own. -/
def Grew (w : World) (e : Ending) (w' : World) : Prop :=
  ∃ c, e = .returned (.slice (some ⟨w.heap.size, 0, none⟩) 0 c) ∧ w'.ownsRow w.heap.size 2 1 (.slice (some ⟨w.heap.size, 0, none⟩) 0 c) 0 [] ∧ Below w.heap.size w w'

set_option maxHeartbeats 1000000 in
theorem grow_nil (n : Nat) (w : World) (hn : 0 < n) (hm : n ≤ 1000) : Calls Tryd.prog 127 #[.slice none 0 0, .int .i64 n] w (Grew w) := by
  obtain ⟨i0, hi0, hz0, hz1, hz2⟩ := info_parts info_i64
  have hrz : ∀ ty, (Builtin.append_ #[26, 3] ty #[.slice none 0 0, .int .i64 n]).run Tryd.prog w =
      .ok (.slice (some ⟨w.heap.size, 0, none⟩) (0 + n) (grownCap w (0 + n) 0 2)) (w.drew.alloc (.cells (([] : List Value).toArray ++ Builtin.zeroCells (Value.int .i64 0).cells n ++ Builtin.zeroCells (Value.int .i64 0).cells (grownCap w (0 + n) 0 2 - (0 + n))) 2)) := fun ty =>
    Lib.run_append_grow_zeros w 26 3 ty 2 i0 (.int .i64 0) .i64 .i64 Tryd.underlying26 Tryd.underlying3 hi0 hz0 none 0 0 [] (run_firstCells_none w.drew i0.size 0 0 0) n hn (by rw [hz1]; decide) (by omega) (by omega) (by rw [hz2]; omega)
      (growslice_fits (by omega) (by rw [hz2]; omega))
  have hge : n ≤ grownCap w (0 + n) 0 2 := by have := grownCap_ge w (0 + n) 0 2; omega
  have hle : grownCap w (0 + n) 0 2 ≤ maxLen := grownCap_le_maxLen w _ _ _ (by unfold maxLen; omega)
  simp only [Nat.zero_add] at hrz hge hle
  obtain ⟨G, hG⟩ : ∃ G, grownCap w n 0 2 = G := ⟨_, rfl⟩
  rw [hG] at hrz hge hle
  obtain ⟨cur, hcur⟩ : ∃ cur, (([] : List Value).toArray ++ Builtin.zeroCells (Value.int .i64 0).cells n ++ Builtin.zeroCells (Value.int .i64 0).cells (G - n)) = cur := ⟨_, rfl⟩
  have hsize : cur.size = G * 1 := by
    rw [← hcur]; simp [size_zeroCells, Value.cells]; omega
  rw [hcur] at hrz
  have H1 := Lib.hid (World.ownsRow_made (e := 2) (base := w.heap.size) (size := 1) w.drew cur G (Nat.le_refl _) hle hsize)
  have H2 := Lib.hid ((Below.refl w.heap.size w).drew.alloc (Nat.le_refl _) (.cells cur 2))
  have hge0 : 0 < (n : Int) := by omega
  unfold maxLen at hle
  clear hG hcur hsize hz0 hz1 hz2 hi0
  go_enter Tryd.func127, Tryd.ntmps127
  go_wp2_with (at_builtin; refine Lib.wpList_append_run _ rfl _ _ _ _ rfl _ _ rfl rfl _ _ (hrz _) ?_)
  go_ret
  exact ⟨_, rfl, H1.out, H2.out⟩

/-- The first k parts, one behind the other. -/
def catL (ls : List (List Int)) (k : Nat) : List Int := (ls.take k).flatten
theorem catL_zero (ls : List (List Int)) : catL ls 0 = [] := by simp [catL]
theorem catL_step {ls : List (List Int)} {k : Nat} (h : k < ls.length) : catL ls (k + 1) = catL ls k ++ ls.getD k [] := by
  unfold catL
  rw [List.take_succ_eq_append_getElem h, List.flatten_append]
  simp [List.getD, h]
theorem catL_all (ls : List (List Int)) : catL ls ls.length = ls.flatten := by simp [catL]
theorem catL_le (ls : List (List Int)) (k : Nat) : (catL ls k).length ≤ ls.flatten.length := by
  unfold catL
  conv => rhs; rw [← List.take_append_drop k ls, List.flatten_append, List.length_append]
  omega
theorem catL_len_step {ls : List (List Int)} {k : Nat} (h : k < ls.length) : (catL ls (k + 1)).length = (catL ls k).length + (ls.getD k []).length := by
  rw [catL_step h, List.length_append]

theorem cat_push {w : World} {base : Nat} {v : Value} {ls : List (List Int)} {k : Nat} {zs : List Int} (hk : k < ls.length) (hz : ls.getD k [] = zs)
    (hown : w.ownsRow base 2 1 v ((catL ls k).length + zs.length) ((catL ls k).map (Value.int .i64) ++ zs.map (Value.int .i64))) :
    w.ownsRow base 2 1 v (catL ls (k + 1)).length ((catL ls (k + 1)).map (Value.int .i64)) := by
  subst hz
  rw [catL_step hk, List.length_append, List.map_append]
  exact hown

set_option maxHeartbeats 2000000 in
theorem concat_any (g m c : Nat) (vs : List Value) (ls : List (List Int)) (w : World) (hm : ls.length = m) (hm0 : 0 < m) (hmx : m ≤ 1000)
    (hcell : ∀ i, i < m → w.cell? ⟨g, i, none⟩ = some (vs.getD i undef)) (hgB : g < w.heap.size) (hpart : ∀ i, i < m → Part w w.heap.size (vs.getD i undef) (ls.getD i [])) (htot : ls.flatten.length ≤ 1000) :
    Calls Tryd.prog 114 #[.slice (some ⟨g, 0, none⟩) m c] w (Gives w ls.flatten) := by
  obtain ⟨i0, hi0, hz0, hz1, hz2⟩ := info_parts info_i64
  have HC := Lib.hid hcell; have HP := Lib.hid hpart
  have HM := Lib.hid hm
  have hle := catL_le ls
  have HLE := Lib.hid hle
  have hpos : 0 < ls.flatten.length := by
    obtain ⟨b, off, c', _, _, hp, _⟩ := hpart 0 hm0
    have h1 := catL_len_step (ls := ls) (k := 0) (by omega)
    have h2 := catL_le ls (0 + 1)
    omega
  have HT := Lib.hid (show (catL ls m).length = ls.flatten.length by rw [← hm, catL_all])
  obtain ⟨T, hT⟩ : ∃ T, ls.flatten.length = T := ⟨_, rfl⟩
  rw [hT] at HT HLE hpos htot
  have HTT := Lib.hid hT
  clear hcell hpart hle hm hT
  go_enter Tryd.func114, Tryd.ntmps114
  go_wp2
  go_loop [3, 11] (fun v3 v11 => ∃ k : Nat, k ≤ m ∧ v11 = .int .i64 k ∧ v3 = .int .i64 ((catL ls k).length : Nat)) (fun _ v11 => m - (intOf v11).toNat)
  case atStart => exact ⟨0, Nat.zero_le _, rfl, by simp [catL]⟩
  case round =>
    obtain ⟨k, hk, rfl, rfl⟩ := hrel
    by_cases hlt : k < m
    · have hc := HC.out k hlt
      obtain ⟨b, off, c', hv, hbb, hpz, hcells⟩ := HP.out k hlt
      rw [hv] at hc
      have hst := catL_len_step (ls := ls) (k := k) (by have := HM.out; omega)
      have h1 := HLE.out k
      have h2 := HLE.out (k + 1)
      have HS := Lib.hid hst
      have hbd : (catL ls k).length + (ls.getD k []).length ≤ 1000 := by omega
      clear hv hcells hst h2
      generalize (ls.getD k []).length = q at hc HS hpz hbd
      generalize (catL ls k).length = p at HS h1 hbd
      have hneg : ¬ ((p : Int) + (q : Int) < 0) := by omega
      go_wp2
      go_round
      case rel => exact ⟨k + 1, by omega, by go_num, by rw [HS.out]; go_num⟩
      case measure => simp [intOf]; omega
    · have hkm : m = k := by omega
      subst hkm
      rw [HT.out]
      go_wp2_with (go_at_call 127; refine (grow_nil T _ hpos htot).mono ?_; rintro e w1 ⟨c1, rfl, hown1, hb1⟩)
      have HO1 := Lib.hid hown1; have HB1 := Lib.hid hb1
      clear hown1 hb1
      go_loopw [6, 27] (fun v i wr => ∃ k : Nat, k ≤ m ∧ i = .int .i64 k ∧ wr.ownsRow w.heap.size 2 1 v (catL ls k).length ((catL ls k).map (Value.int .i64)) ∧ Below w.heap.size w wr) (fun _ i _ => m - (intOf i).toNat)
      case atStart => exact ⟨0, Nat.zero_le _, rfl, by rw [catL_zero]; exact HO1.out, HB1.out⟩
      case round =>
        obtain ⟨k, hk, rfl, hown, hb⟩ := hrel
        by_cases hkm : k < m
        · have hlt : k < ls.length := by have := HM.out; omega
          obtain ⟨b, off, c', hv, hbb, hpz, hcells⟩ := ((HP.out k hkm).below hb).more hb.size
          have hc := (hb.cell (p := ⟨g, k, none⟩) hgB).trans (HC.out k hkm)
          rw [hv] at hc
          have hst := catL_len_step hlt
          have h2 := HLE.out (k + 1)
          have hsz := hb.size
          obtain ⟨zs, hzs⟩ : ∃ zs, ls.getD k [] = zs := ⟨_, rfl⟩
          rw [hzs] at hc hpz hcells hst
          have HZ := Lib.hid hzs
          have hbd : (catL ls k).length + zs.length ≤ 1000 := by omega
          clear hv hst h2 hzs
          go_wp2_with (at_builtin; refine wpList_append_own _ rfl _ _ 26 rfl w.heap.size 2 i0 (.int .i64 0) 1 8 Tryd.underlying26 hi0 hz0 hz1 hz2 rfl (by decide) _ _ _ rfl hown ⟨b, off, none⟩ zs.length c' (zs.map (Value.int .i64)) rfl ?c0 ?c1 ?c2 ?c3 ?c4 ?c5 ?_)
          case c0 => simp
          case c1 => exact part_news hcells
          case c2 => exact ints_one zs
          case c3 => unfold maxLen; omega
          case c4 => omega
          case c5 => exact hsz
          intro v' w2 hown' hgrow _
          have hb2 := Lib.hid (hb.grown hgrow hsz (fun q hq => (hown.lt q hq).1))
          have hown2 := Lib.hid (cat_push hlt HZ.out hown')
          clear hown' hgrow hown hb hcells hc hlt
          go_wp2
          go_roundw
          case rel => exact ⟨k + 1, by omega, by go_num, hown2.out, hb2.out⟩
          case measure => simp [intOf]; omega
        · have hkl : m = k := by omega
          subst hkl
          obtain ⟨A1, c1', rfl⟩ := own_shape hown
          have HE : Hid ((catL ls m).length = ls.flatten.length) := Lib.hid (by rw [← HM.out, catL_all])
          have hown2 : wr.ownsRow w.heap.size 2 1 (.slice A1 ls.flatten.length c1') ls.flatten.length (ls.flatten.map (Value.int .i64)) := by
            have e : catL ls m = ls.flatten := by rw [← HM.out, catL_all]
            rw [e] at hown; exact hown
          have HS := Lib.hid hown2; have HB := Lib.hid hb
          clear hown hown2 hb
          go_wp2
          go_ret
          exact ⟨_, _, by rw [← HE.out]; rfl, HS.out, HB.out⟩

theorem own_more {w : World} {base base' n size : Nat} {e : TypeId} {v : Value} {xs : List Value} (h : w.ownsRow base' e size v n xs) (hB : base ≤ base') : w.ownsRow base e size v n xs := h.mono hB
theorem own_cap {w : World} {base n c : Nat} {e : TypeId} {A : Option Addr} {xs : List Value} (h : w.ownsRow base e 1 (.slice A n c) n xs) : n ≤ c ∧ c ≤ maxLen := by
  rcases h.2 with ⟨hv, rfl⟩ | ⟨g, cap, cur, hv, hb, hh, hn, hc, hs, ht⟩
  · injection hv with a1 a2 a3
    subst a3
    exact ⟨Nat.zero_le _, Nat.zero_le _⟩
  · injection hv with a1 a2 a3
    subst a3
    exact ⟨hn, hc⟩
/-- What an append of a part to an empty row of the call's own leaves. -/
theorem app_news {w wa w2 : World} {e : TypeId} {v0 v2 : Value} {n2 : Nat} {ys : List Value} {zs : List Int} (HB1 : Hid (Below w.heap.size w wa)) (HO1 : Hid (wa.ownsRow w.heap.size e 1 v0 0 [])) (hown2 : w2.ownsRow w.heap.size e 1 v2 n2 ys) (hgrow2 : wa.grownBy w2 v0.ownBlock)
    (HJ : Hid (ys = zs.map (Value.int .i64))) (hl : n2 = zs.length) : ∃ A c, v2 = .slice A zs.length c ∧ Hid (w2.ownsRow w.heap.size e 1 (.slice A zs.length c) zs.length (zs.map (Value.int .i64))) ∧ Hid (Below w.heap.size w w2) := by
  subst hl
  have hb2' : Below w.heap.size w w2 := HB1.out.grown hgrow2 HB1.out.size (fun q hq => (HO1.out.lt q hq).1)
  obtain ⟨A2, c2, rfl⟩ := own_shape hown2
  rw [HJ.out] at hown2
  exact ⟨A2, c2, rfl, hown2, hb2'⟩

set_option maxHeartbeats 1000000 in
theorem clone_any (v : Value) (zs : List Int) (w : World) (hp : Part w w.heap.size v zs) (hz : zs.length ≤ 1000) :
    Calls Tryd.prog 84 #[v] w (Gives w zs) := by
  obtain ⟨i0, hi0, hz0, hz1, hz2⟩ := info_parts info_i64
  obtain ⟨b1, off1, c, rfl, hb1, hpos, hc1⟩ := hp
  have hnil : ∀ wx : World, (binOp .eql 26 (.slice (some ⟨b1, off1, none⟩) zs.length c) (.slice none 0 0)).run Tryd.prog wx = .ok (.bool false) wx := fun wx => Lib.run_eql_slice_nil wx 26 2 _ _ _ _ _ Tryd.underlying26
  have hb0 : Below w.heap.size w (w.alloc (.cells #[] 2)) := (Below.refl _ _).alloc (Nat.le_refl _) _
  have H0 := Lib.hid (World.ownsRow_made (e := 2) (base := w.heap.size) (size := 1) w #[] 0 (Nat.le_refl _) (by simp [maxLen]) rfl)
  have HN1 : Hid (∀ j u, (zs.map (Value.int .i64))[j]? = some u → (w.alloc (.cells #[] 2)).cell? ((⟨b1, off1, none⟩ : Addr).add j) = some u) := Lib.hid (part_news (fun j hj => (hb0.cell (p := ⟨b1, off1 + j, none⟩) hb1).trans (hc1 j hj)))
  have HB0 := Lib.hid hb0
  have HL1 : Hid ((zs.map (Value.int .i64)).length = zs.length * 1) := Lib.hid (by simp)
  have HHO := Lib.hid (ints_one zs)
  have HM1 : Hid (0 + zs.length ≤ maxLen) := Lib.hid (by unfold maxLen; omega)
  have HS1 : Hid ((0 + zs.length) * 8 ≤ 140737488355328) := Lib.hid (by omega)
  have HJ : Hid ([] ++ zs.map (Value.int .i64) = zs.map (Value.int .i64)) := Lib.hid (by simp)
  have HI := Lib.hid hi0; have HZ0 := Lib.hid hz0; have HZ1 := Lib.hid hz1; have HZ2 := Lib.hid hz2
  have HLL : Hid (0 + zs.length = zs.length) := Lib.hid (by omega)
  clear hb0 hc1 hi0 hz0 hz1 hz2
  go_enter Tryd.func84, Tryd.ntmps84
  go_wp2_with (at_builtin; refine wpList_append_own _ rfl _ _ 26 rfl w.heap.size 2 i0 (.int .i64 0) 1 8 Tryd.underlying26 HI.out HZ0.out HZ1.out HZ2.out rfl (by decide) _ _ _ rfl H0.out ⟨b1, off1, none⟩ zs.length c (zs.map (Value.int .i64)) rfl HL1.out HN1.out HHO.out HM1.out HS1.out HB0.out.size ?_; intro v2 w2 hown2 hgrow2 _; obtain ⟨A2, c2, rfl, HO2, HB2⟩ := app_news HB0 H0 hown2 hgrow2 HJ HLL.out; clear hown2 hgrow2)
  go_ret
  exact ⟨_, _, rfl, HO2.out, HB2.out⟩

set_option maxHeartbeats 1000000 in
theorem copyInts_any (v : Value) (zs : List Int) (w : World) (hp : Part w w.heap.size v zs) (hz : zs.length ≤ 1000) :
    Calls Tryd.prog 82 #[v] w (Gives w zs) := by
  obtain ⟨i0, hi0, hz0, hz1, hz2⟩ := info_parts info_i64
  obtain ⟨b1, off1, c, rfl, hb1, hpos, hc1⟩ := hp
  have hb0 : Below w.heap.size w (w.alloc (.cells #[] 2)) := (Below.refl _ _).alloc (Nat.le_refl _) _
  have H0 := Lib.hid (World.ownsRow_made (e := 2) (base := w.heap.size) (size := 1) w #[] 0 (Nat.le_refl _) (by simp [maxLen]) rfl)
  have HN1 : Hid (∀ j u, (zs.map (Value.int .i64))[j]? = some u → (w.alloc (.cells #[] 2)).cell? ((⟨b1, off1, none⟩ : Addr).add j) = some u) := Lib.hid (part_news (fun j hj => (hb0.cell (p := ⟨b1, off1 + j, none⟩) hb1).trans (hc1 j hj)))
  have HB0 := Lib.hid hb0
  have HL1 : Hid ((zs.map (Value.int .i64)).length = zs.length * 1) := Lib.hid (by simp)
  have HHO := Lib.hid (ints_one zs)
  have HM1 : Hid (0 + zs.length ≤ maxLen) := Lib.hid (by unfold maxLen; omega)
  have HS1 : Hid ((0 + zs.length) * 8 ≤ 140737488355328) := Lib.hid (by omega)
  have HJ : Hid ([] ++ zs.map (Value.int .i64) = zs.map (Value.int .i64)) := Lib.hid (by simp)
  have HI := Lib.hid hi0; have HZ0 := Lib.hid hz0; have HZ1 := Lib.hid hz1; have HZ2 := Lib.hid hz2
  have HLL : Hid (0 + zs.length = zs.length) := Lib.hid (by omega)
  clear hb0 hc1 hi0 hz0 hz1 hz2
  go_enter Tryd.func82, Tryd.ntmps82
  go_wp2_with (at_builtin; refine wpList_append_own _ rfl _ _ 26 rfl w.heap.size 2 i0 (.int .i64 0) 1 8 Tryd.underlying26 HI.out HZ0.out HZ1.out HZ2.out rfl (by decide) _ _ _ rfl H0.out ⟨b1, off1, none⟩ zs.length c (zs.map (Value.int .i64)) rfl HL1.out HN1.out HHO.out HM1.out HS1.out HB0.out.size ?_; intro v2 w2 hown2 hgrow2 _; obtain ⟨A2, c2, rfl, HO2, HB2⟩ := app_news HB0 H0 hown2 hgrow2 HJ HLL.out; clear hown2 hgrow2)
  go_ret
  exact ⟨_, _, rfl, HO2.out, HB2.out⟩
end Go.Proofs.YtjfhbofgnagfaaaDoor
