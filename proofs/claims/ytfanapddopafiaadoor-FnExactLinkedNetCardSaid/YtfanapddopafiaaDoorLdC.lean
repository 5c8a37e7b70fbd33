/- The library's slices.Grow and slices.Concat at rows of links, which may be empty. -/
import Derived.Test.YtfanapddopafiaaDoorLdB
import Derived.Lib.AppendZerosOnto
import Derived.Lib.SliceRun
import Derived.Lib.Walk
import Derived.Deep.Matrix
import Derived.Laws.AppendOwnNone
namespace Go.Proofs.YtfanapddopafiaaDoor
set_option linter.unusedSimpArgs false
set_option linter.unusedVariables false
open Go.ChangeAt Go.ChangeShapes Go.RowKit Go.WideShapes

theorem newsK {w : World} {B bl offl : Nat} {ls : List Lk} (h : RdL w B (some ⟨bl, offl, none⟩) ls.length ls) : ∀ j u, ((flL ls).map (Value.int .i64))[j]? = some u → w.cell? ((⟨bl, offl, none⟩ : Addr).add j) = some u := fun j u hu => by
  have hl := h.2.1
  by_cases hj : j < ls.length * 4
  · obtain ⟨b, off, e, _, hc⟩ := h.2.2 (by omega)
    injection e with e
    injection e with e1 e2 _
    subst e1 e2
    have ha : (⟨bl, offl, none⟩ : Addr).add j = ⟨bl, offl + j, none⟩ := by unfold Addr.add; split <;> simp_all
    rw [ha, hc j hj]
    rw [← hu]
    simp [List.getD, hl, hj]
  · rw [List.getElem?_eq_none (by rw [List.length_map, hl]; omega)] at hu
    cases hu
/-- A row of links that is to be appended: nil, or at an address. -/
def PartK (w : World) (B : Nat) (v : Value) (ls : List Lk) : Prop :=
  (v = .slice none 0 0 ∧ ls = []) ∨ ∃ ad c, v = .slice (some ad) ls.length c ∧ RdL w B (some ad) ls.length ls
theorem PartK.below {w w' : World} {B : Nat} {v : Value} {ls : List Lk} (h : PartK w B v ls) (hb : Below B w w') : PartK w' B v ls := by
  rcases h with h | ⟨ad, c, hv, hn⟩
  · exact .inl h
  · exact .inr ⟨ad, c, hv, hn.below hb⟩
theorem PartK.more {w : World} {B B' : Nat} {v : Value} {ls : List Lk} (h : PartK w B v ls) (hb : B ≤ B') : PartK w B' v ls := by
  rcases h with h | ⟨ad, c, hv, hn⟩
  · exact .inl h
  · exact .inr ⟨ad, c, hv, hn.more hb⟩
theorem newsR {w : World} {B : Nat} {ad : Addr} {ls : List Lk} (h : RdL w B (some ad) ls.length ls) : ∀ j u, ((flL ls).map (Value.int .i64))[j]? = some u → w.cell? (ad.add j) = some u := by
  by_cases h0 : ls = []
  · subst h0
    intro j u hu
    simp [flL] at hu
  · obtain ⟨b, off, e, hb, _⟩ := h.at (List.length_pos_iff.2 h0)
    injection e with e
    subst e
    exact newsK h
theorem PartK.of_own {w : World} {base c : Nat} {A : Option Addr} {ls : List Lk} (h : w.ownsRow base 71 4 (.slice A ls.length c) ls.length ((flL ls).map (Value.int .i64))) : PartK w w.heap.size (.slice A ls.length c) ls := by
  have r := RdL.of_own h
  rcases h.2 with ⟨e, e2⟩ | ⟨g, cap, cur, e, _⟩
  · have hl : ls = [] := List.eq_nil_of_length_eq_zero (by injection e)
    subst hl
    exact .inl ⟨e, rfl⟩
  · injection e with e1 e2 e3
    subst e1
    exact .inr ⟨_, c, rfl, r⟩

/-- What slices.Grow(nil, n) leaves: an empty row of the call's own. -/
def GrewK (w : World) (e : Ending) (w' : World) : Prop :=
  ∃ A c, e = .returned (.slice A 0 c) ∧ w'.ownsRow w.heap.size 71 4 (.slice A 0 c) 0 [] ∧ Below w.heap.size w w'
set_option maxHeartbeats 1000000 in
theorem growK_nil (n : Nat) (w : World) (hm : n ≤ 1000) : Calls Tryd.prog 96 #[.slice none 0 0, .int .i64 n] w (GrewK w) := by
  by_cases hn : n = 0
  · subst hn
    go_enter Tryd.func96, Tryd.ntmps96
    go_wp2_with (fail)
    go_ret
    exact ⟨_, _, rfl, ⟨by simp, .inl ⟨rfl, rfl⟩⟩, Below.refl _ _⟩
  obtain ⟨i0, hi0, hz0, hz1, hz2⟩ := info_parts_link
  have hrz : ∀ ty, (Builtin.append_ #[29, 3] ty #[.slice none 0 0, .int .i64 n]).run Tryd.prog w =
      .ok (.slice (some ⟨w.heap.size, 0, none⟩) (0 + n) (grownCap w (0 + n) 0 71)) (w.drew.alloc (.cells (([] : List Value).toArray ++ Builtin.zeroCells (Value.agg #[.int .i64 0, .int .i64 0, .int .i64 0, .int .i64 0]).cells n ++ Builtin.zeroCells (Value.agg #[.int .i64 0, .int .i64 0, .int .i64 0, .int .i64 0]).cells (grownCap w (0 + n) 0 71 - (0 + n))) 71)) := fun ty =>
    Lib.run_append_grow_zeros w 29 3 ty 71 i0 (.agg #[.int .i64 0, .int .i64 0, .int .i64 0, .int .i64 0]) .i64 .i64 Tryd.underlying29 Tryd.underlying3 hi0 hz0 none 0 0 [] (run_firstCells_none w.drew i0.size 0 0 0) n (by omega) (by rw [hz1]; decide) (by omega) (by omega) (by rw [hz2]; omega)
      (growslice_fits (by omega) (by rw [hz2]; omega))
  have hge : n ≤ grownCap w (0 + n) 0 71 := by have := grownCap_ge w (0 + n) 0 71; omega
  have hle : grownCap w (0 + n) 0 71 ≤ maxLen := grownCap_le_maxLen w _ _ _ (by unfold maxLen; omega)
  simp only [Nat.zero_add] at hrz hge hle
  obtain ⟨G, hG⟩ : ∃ G, grownCap w n 0 71 = G := ⟨_, rfl⟩
  rw [hG] at hrz hge hle
  obtain ⟨cur, hcur⟩ : ∃ cur, (([] : List Value).toArray ++ Builtin.zeroCells (Value.agg #[.int .i64 0, .int .i64 0, .int .i64 0, .int .i64 0]).cells n ++ Builtin.zeroCells (Value.agg #[.int .i64 0, .int .i64 0, .int .i64 0, .int .i64 0]).cells (G - n)) = cur := ⟨_, rfl⟩
  have hsize : cur.size = G * 4 := by
    rw [← hcur]; simp [size_zeroCells, Value.cells]; omega
  rw [hcur] at hrz
  have H1 := Lib.hid (World.ownsRow_made (e := 71) (base := w.heap.size) (size := 4) w.drew cur G (Nat.le_refl _) hle hsize)
  have H2 := Lib.hid ((Below.refl w.heap.size w).drew.alloc (Nat.le_refl _) (.cells cur 71))
  have hge0 : 0 < (n : Int) := by omega
  unfold maxLen at hle
  clear hG hcur hsize hz0 hz1 hz2 hi0
  go_enter Tryd.func96, Tryd.ntmps96
  go_wp2_with (at_builtin; refine Lib.wpList_append_run _ rfl _ _ _ _ rfl _ _ rfl rfl _ _ (hrz _) ?_)
  go_ret
  exact ⟨_, _, rfl, H1.out, H2.out⟩

/-- The first k rows, one behind the other. -/
def catK (ls : List (List Lk)) (k : Nat) : List Lk := (ls.take k).flatten
theorem catK_zero (ls : List (List Lk)) : catK ls 0 = [] := by simp [catK]
theorem catK_step {ls : List (List Lk)} {k : Nat} (h : k < ls.length) : catK ls (k + 1) = catK ls k ++ ls.getD k [] := by
  unfold catK
  rw [List.take_succ_eq_append_getElem h, List.flatten_append]
  simp [List.getD, h]
theorem catK_all (ls : List (List Lk)) : catK ls ls.length = ls.flatten := by simp [catK]
theorem catK_le (ls : List (List Lk)) (k : Nat) : (catK ls k).length ≤ ls.flatten.length := by
  unfold catK
  conv => rhs; rw [← List.take_append_drop k ls, List.flatten_append, List.length_append]
  omega
theorem catK_len_step {ls : List (List Lk)} {k : Nat} (h : k < ls.length) : (catK ls (k + 1)).length = (catK ls k).length + (ls.getD k []).length := by
  rw [catK_step h, List.length_append]
theorem catK_push {w : World} {base : Nat} {v : Value} {ls : List (List Lk)} {k : Nat} {zs : List Lk} (hk : k < ls.length) (hz : ls.getD k [] = zs)
    (hown : w.ownsRow base 71 4 v ((catK ls k).length + zs.length) ((flL (catK ls k)).map (Value.int .i64) ++ (flL zs).map (Value.int .i64))) :
    w.ownsRow base 71 4 v (catK ls (k + 1)).length ((flL (catK ls (k + 1))).map (Value.int .i64)) := by
  subst hz
  rw [catK_step hk, List.length_append, flL_appw, List.map_append]
  exact hown
theorem catK_none {w : World} {base : Nat} {v : Value} {ls : List (List Lk)} {k : Nat} {zs : List Lk} (hk : k < ls.length) (hz : ls.getD k [] = zs) (hn : zs = [])
    (hown : w.ownsRow base 71 4 v (catK ls k).length ((flL (catK ls k)).map (Value.int .i64))) :
    w.ownsRow base 71 4 v (catK ls (k + 1)).length ((flL (catK ls (k + 1))).map (Value.int .i64)) := by
  have e : catK ls (k + 1) = catK ls k := by rw [catK_step hk, hz, hn, List.append_nil]
  rw [e]; exact hown

set_option maxRecDepth 100000 in
set_option maxHeartbeats 2000000 in
theorem concatK_any (g m c : Nat) (vs : List Value) (ls : List (List Lk)) (w : World) (hm : ls.length = m) (hmx : m ≤ 1000)
    (hcell : ∀ i, i < m → w.cell? ⟨g, i, none⟩ = some (vs.getD i undef)) (hgB : g < w.heap.size) (hpart : ∀ i, i < m → PartK w w.heap.size (vs.getD i undef) (ls.getD i [])) (htot : ls.flatten.length ≤ 1000) :
    Calls Tryd.prog 61 #[.slice (some ⟨g, 0, none⟩) m c] w (GivesL w ls.flatten) := by
  obtain ⟨i0, hi0, hz0, hz1, hz2⟩ := info_parts_link
  have HI := Lib.hid hi0; have HZ0 := Lib.hid hz0; have HZ1 := Lib.hid hz1; have HZ2 := Lib.hid hz2
  have HC := Lib.hid hcell; have HP := Lib.hid hpart
  have HM := Lib.hid hm
  have HLE := Lib.hid (catK_le ls)
  have HT := Lib.hid (show (catK ls m).length = ls.flatten.length by rw [← hm, catK_all])
  have HSH : Hid (∀ i, i < m → ∃ A c, vs.getD i undef = .slice A (ls.getD i []).length c) := Lib.hid fun i hi => by
    rcases hpart i hi with ⟨h1, h2⟩ | ⟨ad, c, h1, _⟩
    · exact ⟨none, 0, by rw [h1, h2]; rfl⟩
    · exact ⟨some ad, c, h1⟩
  obtain ⟨T, hT⟩ : ∃ T, ls.flatten.length = T := ⟨_, rfl⟩
  rw [hT] at HT HLE htot
  have HTT := Lib.hid hT
  clear hcell hpart hm hT hi0 hz0 hz1 hz2
  go_enter Tryd.func61, Tryd.ntmps61
  go_wp2
  go_loop [3, 11] (fun v3 v11 => ∃ k : Nat, k ≤ m ∧ v11 = .int .i64 k ∧ v3 = .int .i64 ((catK ls k).length : Nat)) (fun _ v11 => m - (intOf v11).toNat)
  case atStart => exact ⟨0, Nat.zero_le _, rfl, by simp [catK]⟩
  case round =>
    obtain ⟨k, hk, rfl, rfl⟩ := hrel
    by_cases hlt : k < m
    · have hc := HC.out k hlt
      obtain ⟨Ak, ck, hv⟩ := HSH.out k hlt
      rw [hv] at hc
      have hst := catK_len_step (ls := ls) (k := k) (by have := HM.out; omega)
      have h1 := HLE.out k
      have h2 := HLE.out (k + 1)
      have HS := Lib.hid hst
      have hbd : (catK ls k).length + (ls.getD k []).length ≤ 1000 := by omega
      clear hv hst h2
      generalize (ls.getD k []).length = q at hc HS hbd
      generalize (catK ls k).length = p at HS h1 hbd
      have hneg : ¬ ((p : Int) + (q : Int) < 0) := by omega
      go_wp2
      go_round
      case rel => exact ⟨k + 1, by omega, by go_num, by rw [HS.out]; go_num⟩
      case measure => simp [intOf]; omega
    · have hkm : m = k := by omega
      subst hkm
      rw [HT.out]
      go_wp2_with (go_at_call 96; refine (growK_nil T _ htot).mono ?_; rintro e w1 ⟨A1, c1, rfl, hown1, hb1⟩)
      have HO1 := Lib.hid hown1; have HB1 := Lib.hid hb1
      clear hown1 hb1
      go_loopw [6, 27] (fun v i wr => ∃ k : Nat, k ≤ m ∧ i = .int .i64 k ∧ wr.ownsRow w.heap.size 71 4 v (catK ls k).length ((flL (catK ls k)).map (Value.int .i64)) ∧ Below w.heap.size w wr) (fun _ i _ => m - (intOf i).toNat)
      case atStart => exact ⟨0, Nat.zero_le _, rfl, by rw [catK_zero]; exact HO1.out, HB1.out⟩
      case round =>
        obtain ⟨k, hk, rfl, hown, hb⟩ := hrel
        by_cases hkm : k < m
        · have hlt : k < ls.length := by have := HM.out; omega
          have hc := (hb.cell (p := ⟨g, k, none⟩) hgB).trans (HC.out k hkm)
          have hsz := hb.size
          obtain ⟨zs, hzs⟩ : ∃ zs, ls.getD k [] = zs := ⟨_, rfl⟩
          rcases (HP.out k hkm).below hb with ⟨hv, hz0⟩ | ⟨ad, ck, hv, hnews⟩
          · rw [hv] at hc
            have hown2 := Lib.hid (catK_none hlt rfl hz0 hown)
            have HB := Lib.hid hb
            have HO := Lib.hid hown
            clear hv hz0 hown hb hzs
            go_wp2_with (at_builtin; refine wpList_append_own_none rfl _ _ 29 rfl w.heap.size 71 i0 4 Tryd.underlying29 HI.out _ _ _ rfl HO.out rfl ?_)
            go_roundw
            case rel => exact ⟨k + 1, by omega, by go_num, hown2.out, HB.out⟩
            case measure => simp [intOf]; omega
          · rw [hzs] at hv hnews
            rw [hv] at hc
            have hst := catK_len_step hlt
            rw [hzs] at hst
            have h2 := HLE.out (k + 1)
            have HZ := Lib.hid hzs
            have HN := Lib.hid (newsR hnews)
            have hbd : (catK ls k).length + zs.length ≤ 1000 := by omega
            have hfl : (flL zs).length = zs.length * 4 := flL_len zs
            clear hv hst h2 hzs hnews
            go_wp2_with (at_builtin; refine wpList_append_own _ rfl _ _ 29 rfl w.heap.size 71 i0 (.agg #[.int .i64 0, .int .i64 0, .int .i64 0, .int .i64 0]) 4 32 Tryd.underlying29 HI.out HZ0.out HZ1.out HZ2.out rfl (by decide) _ _ _ rfl hown ad zs.length ck ((flL zs).map (Value.int .i64)) rfl ?c0 ?c1 ?c2 ?c3 ?c4 ?c5 ?_)
            case c0 => rw [List.length_map, hfl]
            case c1 => exact HN.out
            case c2 => exact ints_one _
            case c3 => unfold maxLen; omega
            case c4 => omega
            case c5 => exact hsz
            intro v' w2 hown' hgrow _
            have hb2 := Lib.hid (hb.grown hgrow hsz (fun q hq => (hown.lt q hq).1))
            have hown2 := Lib.hid (catK_push hlt HZ.out hown')
            clear hown' hgrow hown hb hc hlt hfl
            go_wp2
            go_roundw
            case rel => exact ⟨k + 1, by omega, by go_num, hown2.out, hb2.out⟩
            case measure => simp [intOf]; omega
        · have hkl : m = k := by omega
          subst hkl
          obtain ⟨A1, c1', rfl⟩ := own_shape4w hown
          have HG : Hid (GivesL w ls.flatten (.returned (.slice A1 (catK ls m).length c1')) wr) := Lib.hid (givesL_of hown rfl (by rw [← HM.out, catK_all]) ⟨_, _, rfl⟩ hb)
          clear hown hb
          go_wp2
          go_ret
          exact HG.out
/-- Two rows of links. -/
theorem concat2_any (g c : Nat) (v1 v2 : Value) (l1 l2 : List Lk) (w : World) (c0 : w.cell? ⟨g, 0, none⟩ = some v1) (c1 : w.cell? ⟨g, 1, none⟩ = some v2) (hg : g < w.heap.size) (h1 : PartK w w.heap.size v1 l1) (h2 : PartK w w.heap.size v2 l2) (ht : l1.length + l2.length ≤ 1000) :
    Calls Tryd.prog 61 #[.slice (some ⟨g, 0, none⟩) (2 : Nat) c] w (GivesL w (l1 ++ l2)) := by
  have h := concatK_any g 2 c [v1, v2] [l1, l2] w rfl (by omega) (fun i hi => by match i, hi with | 0, _ => exact c0 | 1, _ => exact c1) hg (fun i hi => by match i, hi with | 0, _ => exact h1 | 1, _ => exact h2) (by simpa using ht)
  simpa using h
end Go.Proofs.YtfanapddopafiaaDoor
