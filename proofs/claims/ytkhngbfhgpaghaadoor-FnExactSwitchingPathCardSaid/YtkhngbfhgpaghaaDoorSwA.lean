/- The laws' helpers at rows of arcs: eq, mark, held. -/
import Derived.Test.YtkhngbfhgpaghaaDoorSgD
import Derived.Test.YtkhngbfhgpaghaaDoorQCopyS
import Derived.Deep.RegionHeldLaw
import Derived.Deep.DeepCutAuto
import Derived.BigQuiet
namespace Go.Proofs.YtkhngbfhgpaghaaDoor
set_option linter.unusedSimpArgs false
set_option linter.unusedVariables false
open Go.ChangeAt Go.ChangeShapes Go.RowKit Go.WideShapes

theorem eqAc_any (x : Ac) (w : World) : Calls Tryd.prog 65 #[.agg #[.int .i64 x.w, .int .i64 x.f, .int .i64 x.t], .agg #[.int .i64 x.w, .int .i64 x.f, .int .i64 x.t]] w fun e w' => e = .returned (.bool true) ∧ Below w.heap.size w w' := by
  obtain ⟨k, a, b⟩ := x
  dsimp only
  have e1 : (k != k) = false := by simp
  have e2 : (a != a) = false := by simp
  have e3 : (b != b) = false := by simp
  go_enter Tryd.func65, Tryd.ntmps65
  go_wp2
  go_ret
  exact ⟨rfl, ((Below.refl _ _).alloc (Nat.le_refl _) _).alloc (by simp) _⟩
set_option maxHeartbeats 2000000 in
theorem eqAS_any (A A2 : Option Addr) (n c c2 : Nat) (ar : List Ac) (w : World) (h : RdA w w.heap.size A n ar) (h' : RdA w w.heap.size A2 n ar) (hn : n ≤ 1048576) :
    Calls Tryd.prog 29 #[.slice A n c, .slice A2 n c2] w fun e w' => e = .returned (.bool true) ∧ Below w.heap.size w w' := by
  have hl := h.1
  have hnn : (n != n) = false := by simp
  have HR := Lib.hid h; have HR2 := Lib.hid h'
  clear h h'
  go_enter Tryd.func29, Tryd.ntmps29
  go_wp2
  go_loopw [5] (fun i wr => ∃ k : Nat, k ≤ n ∧ i = .int .i64 k ∧ Below w.heap.size w wr) (fun i _ => n - (intOf i).toNat)
  case atStart => exact ⟨0, Nat.zero_le _, rfl, Below.refl _ _⟩
  case round =>
    obtain ⟨k, hk, rfl, hB⟩ := hrel
    have HB := Lib.hid hB
    by_cases hlt : k < n
    · obtain ⟨b, off, rfl, hbb, hcells⟩ := HR.out.at (by omega)
      obtain ⟨b2, off2, rfl, hbb2, hcells2⟩ := HR2.out.at (by omega)
      obtain ⟨x0, x1, x2⟩ := hcells k hlt
      obtain ⟨y0, y1, y2⟩ := hcells2 k hlt
      replace x0 := (hB.cell (p := ⟨b, off + k * 3, none⟩) hbb).trans x0
      replace x1 := (hB.cell (p := ⟨b, off + k * 3 + 1, none⟩) hbb).trans x1
      replace x2 := (hB.cell (p := ⟨b, off + k * 3 + 2, none⟩) hbb).trans x2
      replace y0 := (hB.cell (p := ⟨b2, off2 + k * 3, none⟩) hbb2).trans y0
      replace y1 := (hB.cell (p := ⟨b2, off2 + k * 3 + 1, none⟩) hbb2).trans y1
      replace y2 := (hB.cell (p := ⟨b2, off2 + k * 3 + 2, none⟩) hbb2).trans y2
      have HE := Lib.hid (eqAc_any (ar.getD k Ac.nil) wr.drew)
      have hi1 : (k : Int) < (n : Int) := by omega
      clear hcells hcells2 hB hl
      generalize (ar.getD k Ac.nil).w = sk at *; generalize (ar.getD k Ac.nil).f = sa at *; generalize (ar.getD k Ac.nil).t = sb at *
      go_wp2_with (fail)
      go_region_with (go_at_call 65; refine HE.out.mono ?_; rintro e wf ⟨rfl, bf'⟩; have bf := undrew bf'; clear bf')
      all_goals go_wp2
      all_goals
        go_roundw
        case rel => exact ⟨k + 1, by omega, by go_num, HB.out.trans (bf.mono HB.out.size)⟩
        case measure => simp [intOf]; omega
    · have hkl : k = n := by omega
      subst hkl
      clear hB
      go_wp2
      go_ret
      exact ⟨rfl, HB.out⟩
/-- The marks of a row of arcs. -/
def mkAt (k : Int) (i : Nat) : Ac := ⟨k + (i * 3 : Nat), k + (i * 3 : Nat) + 1, k + (i * 3 : Nat) + 1 + 1⟩
def mkA (k : Int) (n : Nat) : List Ac := (List.range n).map fun i => mkAt k i
theorem mkA_len (k : Int) (n : Nat) : (mkA k n).length = n := by simp [mkA]
theorem mkA_at (k : Int) {n i : Nat} (h : i < n) : (mkA k n).getD i Ac.nil = mkAt k i := by simp [mkA, List.getD, h]
theorem mkA_is {k : Int} {n : Nat} {ar : List Ac} (hl : ar.length = n) (h : ∀ i, i < n → ar.getD i Ac.nil = mkAt k i) : ar = mkA k n := by
  refine List.ext_getElem? fun i => ?_
  by_cases hi : i < n
  · have e := h i hi
    have h1 : i < ar.length := by omega
    have h2 : i < (mkA k n).length := by rw [mkA_len]; exact hi
    rw [← mkA_at k hi] at e
    simp only [List.getD, List.getElem?_eq_getElem h1, List.getElem?_eq_getElem h2, Option.getD_some] at e
    rw [List.getElem?_eq_getElem h1, List.getElem?_eq_getElem h2, e]
  · rw [List.getElem?_eq_none (by omega), List.getElem?_eq_none (by rw [mkA_len]; omega)]
theorem setA_at {ar : List Ac} {j i : Nat} {a : Ac} (h : j < ar.length) : (ar.set j a).getD i Ac.nil = if i = j then a else ar.getD i Ac.nil := by
  by_cases e : i = j
  · subst e; simp [List.getD, h]
  · rw [if_neg e]; simp [List.getD, List.getElem?_set, Ne.symm e]
set_option maxHeartbeats 2000000 in
theorem markAS_any (A : Option Addr) (n c : Nat) (ar : List Ac) (k : Int) (w : World) (base : Nat) (h : w.ownsRow base 77 3 (.slice A n c) n ((flA ar).map (Value.int .i64))) (hn : n ≤ 1048576) (hk0 : 0 ≤ k) (hk1 : k ≤ 1073741824) :
    Calls Tryd.prog 30 #[.slice A n c, .int .i64 k] w fun e w' => e = .returned (.int .i64 (k + (n * 3 : Nat))) ∧ w'.ownsRow base 77 3 (.slice A n c) n ((flA (mkA k n)).map (Value.int .i64)) ∧ w.grownBy w' (Value.slice A n c).ownBlock := by
  have hl : ar.length = n := by have := h.1; rw [List.length_map, flA_len] at this; omega
  have H0 := Lib.hid h
  have HL0 := Lib.hid hl
  clear h hl
  go_enter Tryd.func30, Tryd.ntmps30
  go_wp2
  go_loopw [1, 5] (fun v i wr => ∃ (j : Nat) (as' : List Ac), j ≤ n ∧ i = .int .i64 j ∧ v = .int .i64 (k + (j * 3 : Nat)) ∧ as'.length = n ∧ (∀ m, m < j → as'.getD m Ac.nil = mkAt k m) ∧ wr.ownsRow base 77 3 (.slice A n c) n ((flA as').map (Value.int .i64)) ∧ w.grownBy wr (Value.slice A n c).ownBlock)
    (fun _ i _ => n - (intOf i).toNat)
  case atStart => exact ⟨0, _, Nat.zero_le _, rfl, by simp, HL0.out, fun m hm => absurd hm (by omega), H0.out, World.grownBy.refl w _⟩
  case round =>
    obtain ⟨j, ys, hj, rfl, rfl, hyl, hU, hO, hG⟩ := hrel
    clear H0 HL0
    by_cases hlt : j < n
    · obtain ⟨g, cap, hv, hbg, hgl⟩ := hO.form (by omega)
      have hA : A = some ⟨g, 0, none⟩ ∧ c = cap := by injection hv with a b c'; exact ⟨a, c'⟩
      obtain ⟨rfl, rfl⟩ := hA
      have hfl : ((flA ys).map (Value.int .i64)).length = n * 3 := by rw [List.length_map, flA_len, hyl]
      have HY : Hid (∀ m, m < j + 1 → (ys.set j (mkAt k j)).getD m Ac.nil = mkAt k m) := Lib.hid fun m hm => by
        rw [setA_at (by omega)]
        by_cases e : m = j
        · rw [if_pos e, e]
        · rw [if_neg e]; exact hU m (by omega)
      have HYL : Hid ((ys.set j (mkAt k j)).length = n) := Lib.hid (by rw [List.length_set]; exact hyl)
      have HFS := Lib.hid (flA_set ys j (mkAt k j) (by omega))
      have HMK : Hid (mkAt k j = ⟨k + (j * 3 : Nat), k + (j * 3 : Nat) + 1, k + (j * 3 : Nat) + 1 + 1⟩) := Lib.hid rfl
      obtain ⟨q, hq⟩ : ∃ q : Int, k + (j * 3 : Nat) = q := ⟨_, rfl⟩
      have HN : Hid (q + 1 + 1 + 1 = k + ((j + 1) * 3 : Nat)) := Lib.hid (by omega)
      have hq0 : 0 ≤ q := by omega
      have hq1 : q ≤ 1090000000 := by omega
      rw [hq] at HMK ⊢
      clear hq hU
      generalize mkAt k j = ma at *
      have hi1 : (j : Int) < (n : Int) := by omega
      obtain ⟨q1, q2⟩ := three_own (o := j * 3) hO (.int .i64 q) (.int .i64 (q + 1)) (.int .i64 (q + 1 + 1))
      have HFS2 := HFS.out
      rw [HMK.out] at HFS2
      dsimp only at HFS2
      rw [← HFS2] at q1
      rw [← HMK.out] at q1
      have HQ1 := Lib.hid q1; have HG := Lib.hid (grown_transx hG q2)
      have cl := fun t (ht : t < 3) => hO.cellAt (g := g) (j * 3 + t) (by omega)
      have fr := fun t => hO.frozenAt (g := g) (j * 3 + t)
      obtain ⟨d0, e0⟩ : ∃ u, wr.cell? ⟨g, j * 3, none⟩ = some u := ⟨_, (cl 0 (by omega)).trans (List.getElem?_eq_getElem (show j * 3 + 0 < ((flA ys).map (Value.int .i64)).length by omega))⟩
      obtain ⟨d1, e1⟩ : ∃ u, wr.cell? ⟨g, j * 3 + 1, none⟩ = some u := ⟨_, (cl 1 (by omega)).trans (List.getElem?_eq_getElem (show j * 3 + 1 < ((flA ys).map (Value.int .i64)).length by omega))⟩
      obtain ⟨d2, e2⟩ : ∃ u, wr.cell? ⟨g, j * 3 + 2, none⟩ = some u := ⟨_, (cl 2 (by omega)).trans (List.getElem?_eq_getElem (show j * 3 + 2 < ((flA ys).map (Value.int .i64)).length by omega))⟩
      have fr0 : wr.frozen? ⟨g, j * 3, none⟩ = false := fr 0
      have fr1 := fr 1; have fr2 := fr 2
      clear cl fr hO hG q1 q2 hv hyl hbg hgl HFS2 HFS hfl HMK
      go_wp2
      go_roundw
      case rel => exact ⟨j + 1, _, by omega, by go_num, by rw [HN.out], HYL.out, HY.out, HQ1.out, HG.out⟩
      case measure => simp [intOf]; omega
    · have hkl : j = n := by omega
      subst hkl
      have hd := mkA_is hyl hU
      subst hd
      have HO := Lib.hid hO; have HG := Lib.hid hG
      clear hO hU hG hyl
      go_wp2
      go_ret
      exact ⟨rfl, HO.out, HG.out⟩
set_option maxHeartbeats 2000000 in
theorem heldAS_any (A : Option Addr) (n c : Nat) (k : Int) (w : World) (h : RdA w w.heap.size A n (mkA k n)) (hn : n ≤ 1048576) (hk0 : 0 ≤ k) (hk1 : k ≤ 1073741824) :
    Calls Tryd.prog 31 #[.slice A n c, .int .i64 k] w fun e w' => e = .returned (.int .i64 (k + (n * 3 : Nat))) ∧ w = w' := by
  have H := Lib.hid h
  clear h
  go_enter Tryd.func31, Tryd.ntmps31
  go_wp2
  go_loop [1, 5] (fun v i => ∃ j : Nat, j ≤ n ∧ i = .int .i64 j ∧ v = .int .i64 (k + (j * 3 : Nat))) (fun _ i => n - (intOf i).toNat)
  case atStart => exact ⟨0, Nat.zero_le _, rfl, by simp⟩
  case round =>
    obtain ⟨j, hj, rfl, rfl⟩ := hrel
    by_cases hlt : j < n
    · obtain ⟨b, off, rfl, hbb, hcells⟩ := H.out.at (by omega)
      obtain ⟨x0, x1, x2⟩ := hcells j hlt
      rw [mkA_at k hlt] at x0 x1 x2
      unfold mkAt at x0 x1 x2
      obtain ⟨q, hq⟩ : ∃ q : Int, k + (j * 3 : Nat) = q := ⟨_, rfl⟩
      have HN : Hid (q + 1 + 1 + 1 = k + ((j + 1) * 3 : Nat)) := Lib.hid (by omega)
      have hq0 : 0 ≤ q := by omega
      have hq1 : q ≤ 1090000000 := by omega
      rw [hq] at x0 x1 x2 ⊢
      dsimp only at x0 x1 x2
      clear hq hcells
      have hi1 : (j : Int) < (n : Int) := by omega
      have z0 : (q != q) = false := by simp
      have z1 : (q + 1 != q + 1) = false := by simp
      have z2 : (q + 1 + 1 != q + 1 + 1) = false := by simp
      go_wp2
      go_round
      case rel => exact ⟨j + 1, by omega, by go_num, by rw [HN.out]⟩
      case measure => simp [intOf]; omega
    · have hkl : j = n := by omega
      subst hkl
      go_wp2
      go_ret
      exact ⟨rfl, rfl⟩
/-- A row of arcs in memory of its own, its block in [lo, hi). -/
structure OwnA (w : World) (lo hi : Nat) (v : Value) (n : Nat) (ar : List Ac) : Prop where
  outer : w.ownsRow lo 77 3 v n ((flA ar).map (Value.int .i64))
  top : ∀ k, v.ownBlock = some k → k < hi
theorem OwnA.of_own {w : World} {lo n : Nat} {v : Value} {ar : List Ac} (h : w.ownsRow lo 77 3 v n ((flA ar).map (Value.int .i64))) : OwnA w lo w.heap.size v n ar := ⟨h, fun k hk => (h.lt k hk).2⟩
theorem OwnA.below {w w' : World} {lo hi n : Nat} {v : Value} {ar : List Ac} (h : OwnA w lo hi v n ar) (hb : Below w.heap.size w w') : OwnA w' lo hi v n ar := ⟨own_same h.outer fun k e => hb.block k (h.outer.lt k e).2, h.top⟩
theorem OwnA.kept {w w' : World} {lo hi lo' hi' n : Nat} {v : Value} {ar : List Ac} (h : OwnA w lo hi v n ar) (hk : Kept lo' hi' w w') (hd : hi ≤ lo' ∨ hi' ≤ lo) : OwnA w' lo hi v n ar :=
  ⟨own_same h.outer fun k e => hk.block k (h.outer.lt k e).2 (by have h1 := (h.outer.lt k e).1; have h2 := h.top k e; omega), h.top⟩
theorem OwnA.rd {w : World} {lo hi n c : Nat} {A : Option Addr} {ar : List Ac} (h : OwnA w lo hi (.slice A n c) n ar) : RdA w w.heap.size A n ar := by
  have hl : ar.length = n := by have := h.outer.1; rw [List.length_map, flA_len] at this; omega
  subst hl
  exact RdA.of_own h.outer
/-- How many cells. -/
def aTot (n : Nat) : Nat := n * 3
theorem markA_x (A : Option Addr) (n c : Nat) (ar : List Ac) (k : Int) (w : World) (lo hi : Nat) (h : OwnA w lo hi (.slice A n c) n ar) (hn : n ≤ 1048576) (hk0 : 0 ≤ k) (hk1 : k ≤ 1073741824) :
    Calls Tryd.prog 30 #[.slice A n c, .int .i64 k] w fun e w' => e = .returned (.int .i64 (k + (aTot n : Nat))) ∧ OwnA w' lo hi (.slice A n c) n (mkA k n) ∧ Kept lo hi w w' :=
  (markAS_any A n c ar k w lo h.outer hn hk0 hk1).mono fun _ _ ⟨he, ho, hg⟩ => ⟨he, ⟨ho, h.top⟩, Kept.of_grown hg fun b hb => ⟨(h.outer.lt b hb).1, h.top b hb⟩⟩
theorem heldA_x (A : Option Addr) (n c : Nat) (k : Int) (w : World) (h : RdA w w.heap.size A n (mkA k n)) (hn : n ≤ 1048576) (hk0 : 0 ≤ k) (hk1 : k ≤ 1073741824) :
    Calls Tryd.prog 31 #[.slice A n c, .int .i64 k] w fun e w' => e = .returned (.int .i64 (k + (aTot n : Nat))) ∧ Below w.heap.size w w' :=
  (heldAS_any A n c k w h hn hk0 hk1).mono fun _ _ ⟨he, hw⟩ => ⟨he, hw ▸ Below.refl _ _⟩
end Go.Proofs.YtkhngbfhgpaghaaDoor
