/- The model's without, told by the headers; helpers of conclude. Steps copied: toStepS with what it owns; copyStep, copySteps of the model. PlainStep of the program: the walk. PlainStep of the model: the walk. -/
import Derived.Test.YthbkcpacgnmcfaaGreatDoorQCkX
import Derived.Test.YthbkcpacgnmcfaaGreatDoorQStepRow
import Derived.Test.YthbkcpacgnmcfaaGreatDoorQCkA
import Derived.Test.YthbkcpacgnmcfaaGreatDoorQSubA
import Derived.Test.YthbkcpacgnmcfaaGreatDoorQRule
namespace Go.Proofs.YthbkcpacgnmcfaaGreatDoor
set_option linter.unusedSimpArgs false
set_option linter.unusedVariables false
section
open Go.ChangeAt Go.ChangeShapes Go.RowKit Go.WideShapes

theorem own_some {w : World} {base n size : Nat} {e : TypeId} {v : Value} {xs : List Value} (h : w.ownsRow base e size v n xs) (hv : v ≠ .slice none 0 0) : ∃ g cap, v = .slice (some ⟨g, 0, none⟩) n cap := by
  rcases h.2 with ⟨h1, _⟩ | ⟨g, cap, cur, h1, _⟩
  · exact absurd h1 hv
  · exact ⟨g, cap, h1⟩
/-- Rows of different types lie apart. -/
theorem row_apart {w : World} {b1 b2 n1 n2 s1 s2 : Nat} {e1 e2 : TypeId} {v1 v2 : Value} {xs ys : List Value} (h1 : w.ownsRow b1 e1 s1 v1 n1 xs) (h2 : w.ownsRow b2 e2 s2 v2 n2 ys) (he : e1 ≠ e2) : v1.ownBlock = none ∨ v1.ownBlock ≠ v2.ownBlock := by
  rcases h1.2 with ⟨rfl, _⟩ | ⟨g, cap, cur, rfl, _, hh, _⟩
  · exact .inl rfl
  · rcases h2.2 with ⟨rfl, _⟩ | ⟨g2, cap2, cur2, rfl, _, hh2, _⟩
    · exact .inr (by simp [Value.ownBlock])
    · right
      intro e
      have e3 : g = g2 := by simpa [Value.ownBlock] using e
      subst e3
      rw [hh] at hh2
      injection hh2 with h3
      injection h3 with _ h4 _
      exact he h4
/-- A row of headers of one's own. -/
def GivesH (w : World) (vs : List Value) (e : Ending) (w' : World) : Prop :=
  ∃ g k, e = .returned (.slice (some ⟨g, 0, none⟩) vs.length k) ∧ w'.ownsRow w.heap.size 36 1 (.slice (some ⟨g, 0, none⟩) vs.length k) vs.length vs ∧ Below w.heap.size w w'
theorem givesH_mk {w w' : World} {vs : List Value} {g k n : Nat} (hn : n = vs.length) (o : w'.ownsRow w.heap.size 36 1 (.slice (some ⟨g, 0, none⟩) n k) n vs) (b : Below w.heap.size w w') : GivesH w vs (.returned (.slice (some ⟨g, 0, none⟩) n k)) w' := by
  subst hn; exact ⟨g, k, rfl, o, b⟩
/-- The headers without one. -/
def exV (vs : List Value) (i : Nat) : List Value := vs.take i ++ vs.drop (i + 1)
theorem exV_len {vs : List Value} {i : Nat} (h : i < vs.length) : (exV vs i).length = vs.length - 1 := by unfold exV; rw [List.length_append, List.length_take, List.length_drop]; omega
theorem exV_mem {vs : List Value} {i : Nat} {v : Value} (h : v ∈ exV vs i) : v ∈ vs := by
  rcases List.mem_append.1 h with h | h
  · exact List.mem_of_mem_take h
  · exact List.mem_of_mem_drop h
theorem RdV.ex {w : World} {vs : List Value} {P : List (List Int)} (h : RdV w vs P) (i : Nat) : RdV w (exV vs i) (woL P [(i : Int)]) := h.erase i

set_option maxRecDepth 100000 in
set_option maxHeartbeats 2000000 in
theorem sWithoutS_any (b off n c i : Nat) (vs : List Value) (w : World) (hlv : vs.length = n) (h1 : ∀ v ∈ vs, v.oneCell' = true) (hbb : b < w.heap.size) (hc : ∀ j u, vs[j]? = some u → w.cell? ((⟨b, off, none⟩ : Addr).add j) = some u) (hn : n ≤ 1000) (hnc : n ≤ c) (hi : i < n) :
    Calls Tryz.prog 71 #[.slice (some ⟨b, off, none⟩) n c, .int .i64 i] w (GivesH w (exV vs i)) := by
  obtain ⟨i0, hi0, hz0, hz1, hz2⟩ := info_parts_s
  have H1 := Lib.hid h1
  have hwr0 : True := trivial
  obtain ⟨w1, hw1⟩ : ∃ w1, w1 = (w.alloc (.cells #[] 36)).drew := ⟨_, rfl⟩
  have b1 : Below w.heap.size w w1 := by rw [hw1]; exact ((Below.refl _ _).alloc (Nat.le_refl _) _).drew
  have o1 : w1.ownsRow w.heap.size 36 1 (.slice (some ⟨w.heap.size, 0, none⟩) 0 0) 0 [] := by
    rw [hw1]; exact World.ownsRow_made (e := 36) (size := 1) w #[] 0 (Nat.le_refl _) (by simp [maxLen]) rfl
  have HC1 : Hid (∀ j u, vs[j]? = some u → w1.cell? ((⟨b, off, none⟩ : Addr).add j) = some u) := Lib.hid fun j u hu => by
    rw [← hc j u hu, add_off]; exact b1.cell hbb
  have N1 : Hid (∀ j u, (vs.take i)[j]? = some u → w1.cell? ((⟨b, off, none⟩ : Addr).add j) = some u) := Lib.hid fun j u hu => by
    refine HC1.out j u ?_
    rw [List.getElem?_take] at hu
    split at hu
    · exact hu
    · cases hu
  have HO1 := Lib.hid o1; have HB1 := Lib.hid b1; have HW1 := Lib.hid hw1
  have HI := Lib.hid hi0; have HZ0 := Lib.hid hz0; have HZ1 := Lib.hid hz1; have HZ2 := Lib.hid hz2
  have hiC : (i : Int) ≤ (c : Int) := by omega
  have hs1 := b1.size
  have hwr : IntKind.i64.wrap ((i : Int) + 1) = ((i + 1 : Nat) : Int) := IntWalk.i64_in _ (by omega)
  have hiN : (i : Int) + 1 ≤ (n : Int) := by omega
  have hi00 : (0 : Int) ≤ (i : Int) + 1 := by omega
  clear h1 hc hw1 b1 o1 hwr0 hi0 hz0 hz1 hz2
  have tokA : True := trivial
  by_cases hcc : i + 1 = c
  · have hcc' : c = i + 1 := hcc.symm
    have hd0 : vs.drop (i + 1) = [] := List.drop_of_length_le (by omega)
    have HD0 := Lib.hid hd0
    clear hd0 hcc
    have hni : n = i + 1 := by omega
    subst hcc'
    subst hni
    have hiI : (i : Int) ≤ (i : Int) + 1 := by omega
    go_enter Tryz.func71, Tryz.ntmps71
    go_wp2_with (fail)
    go_region_law (first
      | (have _t := tokA
         rw [← HW1.out]
         refine step_append_o rfl _ _ _ rfl w.heap.size 36 i0 (.slice none 0 0) 1 24 Tryz.underlying23 HI.out HZ0.out HZ1.out HZ2.out rfl (by decide) _ _ _ rfl HO1.out ⟨b, off, none⟩ i (i + 1) (vs.take i) rfl ?l1 N1.out ?l2 ?l3 ?l4 ?l5 ?_
         case l1 => rw [List.length_take]; omega
         case l2 => exact fun u hu => H1.out u (List.mem_of_mem_take hu)
         case l3 => simp only [maxLen]; omega
         case l4 => omega
         case l5 => exact hs1
         intro v8 w8 hown8 hgrow8 hiff8
         rw [Nat.zero_add, List.nil_append] at hown8
         obtain ⟨g8, c8, rfl⟩ := own_some hown8 (fun e => by have := (hiff8.1 e).1; cases this)
         clear hiff8
         have b8 : Below w.heap.size w w8 := HB1.out.grown hgrow8 hs1 (fun k hk => Nat.le_of_eq (blk_of hk))
         have HB8 := Lib.hid b8
         have HO8 := Lib.hid hown8
         have hs8 := b8.size
         have N8 : Hid (∀ j u, (vs.drop (i + 1))[j]? = some u → w8.cell? ((⟨b, off, none⟩ : Addr).add j) = some u) := Lib.hid fun j u hu => by
           rw [HD0.out] at hu
           simp at hu
         clear hown8 hgrow8 b8 tokA)
      | (refine step_append_o rfl _ _ _ rfl w.heap.size 36 i0 (.slice none 0 0) 1 24 Tryz.underlying23 HI.out HZ0.out HZ1.out HZ2.out rfl (by decide) _ _ _ rfl HO8.out ⟨b, off, none⟩ 0 0 (vs.drop (i + 1)) rfl ?m1 N8.out ?m2 ?m3 ?m4 ?m5 ?_
         case m1 => rw [List.length_drop]; omega
         case m2 => exact fun u hu => H1.out u (List.mem_of_mem_drop hu)
         case m3 => simp only [maxLen]; omega
         case m4 => omega
         case m5 => exact hs8
         intro v9 w9 hown9 hgrow9 hiff9
         obtain ⟨g9, c9, rfl⟩ := own_some hown9 (fun e => by have := (hiff9.1 e).1; cases this)
         have b9 := HB8.out.grown hgrow9 hs8 (fun k hk => (HO8.out.lt k hk).1)
         have o9 := hown9
         clear hiff9
         have HB9 := Lib.hid b9; have HO9 := Lib.hid o9
         clear hown9 hgrow9 b9 o9))
    go_wp2
    go_ret
    exact givesH_mk (by rw [exV_len (by omega)]; omega) HO9.out HB9.out
  · have hcc' : ¬ c = i + 1 := fun e => hcc e.symm
    go_enter Tryz.func71, Tryz.ntmps71
    go_wp2_with (fail)
    go_region_law (first
      | (have _t := tokA
         rw [← HW1.out]
         refine step_append_o rfl _ _ _ rfl w.heap.size 36 i0 (.slice none 0 0) 1 24 Tryz.underlying23 HI.out HZ0.out HZ1.out HZ2.out rfl (by decide) _ _ _ rfl HO1.out ⟨b, off, none⟩ i c (vs.take i) rfl ?l1 N1.out ?l2 ?l3 ?l4 ?l5 ?_
         case l1 => rw [List.length_take]; omega
         case l2 => exact fun u hu => H1.out u (List.mem_of_mem_take hu)
         case l3 => simp only [maxLen]; omega
         case l4 => omega
         case l5 => exact hs1
         intro v8 w8 hown8 hgrow8 hiff8
         rw [Nat.zero_add, List.nil_append] at hown8
         obtain ⟨g8, c8, rfl⟩ := own_some hown8 (fun e => by have := (hiff8.1 e).1; cases this)
         clear hiff8
         have b8 : Below w.heap.size w w8 := HB1.out.grown hgrow8 hs1 (fun k hk => Nat.le_of_eq (blk_of hk))
         have HB8 := Lib.hid b8
         have HO8 := Lib.hid hown8
         have hs8 := b8.size
         have N8 : Hid (∀ j u, (vs.drop (i + 1))[j]? = some u → w8.cell? ((⟨b, off + (i + 1), none⟩ : Addr).add j) = some u) := Lib.hid fun j u hu => by
           rw [List.getElem?_drop] at hu
           have h9 := HC1.out (i + 1 + j) u hu
           rw [add_off] at h9 ⊢
           rw [← h9, show off + (i + 1) + j = off + (i + 1 + j) by omega]
           exact (b8.cell (p := ⟨b, off + (i + 1 + j), none⟩) hbb).trans (HB1.out.cell (p := ⟨b, off + (i + 1 + j), none⟩) hbb).symm
         clear hown8 hgrow8 b8 tokA)
      | (refine step_append_o rfl _ _ _ rfl w.heap.size 36 i0 (.slice none 0 0) 1 24 Tryz.underlying23 HI.out HZ0.out HZ1.out HZ2.out rfl (by decide) _ _ _ rfl HO8.out ⟨b, off + (i + 1), none⟩ (n - (i + 1)) (c - (i + 1)) (vs.drop (i + 1)) rfl ?m1 N8.out ?m2 ?m3 ?m4 ?m5 ?_
         case m1 => rw [List.length_drop]; omega
         case m2 => exact fun u hu => H1.out u (List.mem_of_mem_drop hu)
         case m3 => simp only [maxLen]; omega
         case m4 => omega
         case m5 => exact hs8
         intro v9 w9 hown9 hgrow9 hiff9
         obtain ⟨g9, c9, rfl⟩ := own_some hown9 (fun e => by have := (hiff9.1 e).1; cases this)
         have b9 := HB8.out.grown hgrow9 hs8 (fun k hk => (HO8.out.lt k hk).1)
         have o9 := hown9
         clear hiff9
         have HB9 := Lib.hid b9; have HO9 := Lib.hid o9
         clear hown9 hgrow9 b9 o9))
    go_wp2
    go_ret
    exact givesH_mk (by rw [exV_len (by omega)]; omega) HO9.out HB9.out

set_option maxRecDepth 100000 in
set_option maxHeartbeats 2000000 in
theorem sTwoS_lt (b off n c : Nat) (vs : List Value) (x y i j : Nat) (w : World) (hlv : vs.length = n) (h1 : ∀ v ∈ vs, v.oneCell' = true) (hbb : b < w.heap.size) (hc : ∀ j u, vs[j]? = some u → w.cell? ((⟨b, off, none⟩ : Addr).add j) = some u) (hn : n ≤ 1000) (hnc : n ≤ c) (hij : i < j) (hj : j < n) (hmx : max ((x : Nat) : Int) ((y : Nat) : Int) = ((j : Nat) : Int)) (hmn : min ((x : Nat) : Int) ((y : Nat) : Int) = ((i : Nat) : Int)) :
    Calls Tryz.prog 73 #[.slice (some ⟨b, off, none⟩) n c, .int .i64 x, .int .i64 y] w (GivesH w (exV (exV vs j) i)) := by
  have H1 := Lib.hid (sWithoutS_any b off n c j vs w hlv h1 hbb hc hn hnc hj)
  have H9 : Hid (∀ v ∈ exV vs j, v.oneCell' = true) := Lib.hid fun v hv => h1 v (exV_mem hv)
  have HL : Hid ((exV vs j).length = n - 1) := Lib.hid (by rw [exV_len (by omega), hlv])
  generalize exV vs j = us at *
  clear hlv h1 hbb hc
  go_enter Tryz.func73, Tryz.ntmps73
  go_wp2_with (fail)
  refine H1.out.mono ?_
  rintro e w1 ⟨g1, k1, rfl, o1, b1⟩
  have H2 := Lib.hid (sWithoutS_any g1 0 us.length k1 i us w1 rfl H9.out (o1.lt g1 rfl).2 (o1.cells rfl) (by have := HL.out; omega) (own_cap1 o1) (by have := HL.out; omega))
  have HB := Lib.hid b1
  clear o1 b1 H1
  go_wp2_with (fail)
  refine H2.out.mono ?_
  rintro e w2 ⟨g2, k2, rfl, o2, b2⟩
  have HO2 := Lib.hid o2; have HB2 := Lib.hid b2
  clear o2 b2 H2
  go_wp2
  go_ret
  exact ⟨g2, k2, rfl, own_base HO2.out HB.out.size, HB.out.trans (HB2.out.mono HB.out.size)⟩
theorem RdV.ex2 {w : World} {vs : List Value} {P : List (List Int)} (h : RdV w vs P) {i j : Nat} (hij : i < j) : RdV w (exV (exV vs j) i) (woL P [(i : Int), (j : Int)]) := by
  rw [woL_two P hij]; exact (h.ex j).ex i
/-- The headers without two. -/
def exW (vs : List Value) (i j : Nat) : List Value := if i < j then exV (exV vs j) i else exV (exV vs i) j
theorem RdV.exW {w : World} {vs : List Value} {P : List (List Int)} (h : RdV w vs P) {i j : Nat} (hij : i ≠ j) : RdV w (exW vs i j) (woL P [(i : Int), (j : Int)]) := by
  unfold Proofs.YthbkcpacgnmcfaaGreatDoor.exW
  split
  · exact h.ex2 (by assumption)
  · rw [woL_swap]; exact h.ex2 (by omega)
theorem sTwoS_any (b off n c : Nat) (vs : List Value) (i j : Nat) (w : World) (hlv : vs.length = n) (h1 : ∀ v ∈ vs, v.oneCell' = true) (hbb : b < w.heap.size) (hc : ∀ j u, vs[j]? = some u → w.cell? ((⟨b, off, none⟩ : Addr).add j) = some u) (hn : n ≤ 1000) (hnc : n ≤ c) (hi : i < n) (hj : j < n) (hij : i ≠ j) :
    Calls Tryz.prog 73 #[.slice (some ⟨b, off, none⟩) n c, .int .i64 i, .int .i64 j] w (GivesH w (exW vs i j)) := by
  unfold exW
  split
  · exact sTwoS_lt b off n c vs i j i j w hlv h1 hbb hc hn hnc (by assumption) hj (by omega) (by omega)
  · exact sTwoS_lt b off n c vs i j j i w hlv h1 hbb hc hn hnc (by omega) hi (by omega) (by omega)
end
section
open Go.ChangeAt Go.ChangeShapes Go.RowKit Go.WideShapes
open List (setIfInBounds_toArray set_cons_zero set_cons_succ getElem_toArray getElem_cons_succ getElem_cons_zero)

theorem keep6 {w w' : World} {B : Nat} {g : Nat} {v0 v1 v2 v3 v4 v5 : Value} (hb : Below B w w') (h : w.cell? ⟨g, 0, none⟩ = some v0 ∧ w.cell? ⟨g, 1, none⟩ = some v1 ∧ w.cell? ⟨g, 2, none⟩ = some v2 ∧ w.cell? ⟨g, 3, none⟩ = some v3 ∧ w.cell? ⟨g, 4, none⟩ = some v4 ∧ w.cell? ⟨g, 5, none⟩ = some v5) (hg : g < B := by omega) :
    w'.cell? ⟨g, 0, none⟩ = some v0 ∧ w'.cell? ⟨g, 1, none⟩ = some v1 ∧ w'.cell? ⟨g, 2, none⟩ = some v2 ∧ w'.cell? ⟨g, 3, none⟩ = some v3 ∧ w'.cell? ⟨g, 4, none⟩ = some v4 ∧ w'.cell? ⟨g, 5, none⟩ = some v5 :=
  ⟨(hb.cell hg).trans h.1, (hb.cell hg).trans h.2.1, (hb.cell hg).trans h.2.2.1, (hb.cell hg).trans h.2.2.2.1, (hb.cell hg).trans h.2.2.2.2.1, (hb.cell hg).trans h.2.2.2.2.2⟩

set_option linter.unusedSimpArgs false in
set_option maxRecDepth 100000 in
set_option maxHeartbeats 4000000 in
theorem sCopyStep_any (r a b i j : Int) (B : Option Addr) (m d : Nat) (F : List Int) (w : World) (hf : RdI w w.heap.size B m F) (hm : m ≤ 1000) :
    Calls Tryz.prog 34 #[Value.agg #[Value.int .i64 r, Value.int .i64 a, Value.int .i64 b, Value.int .i64 i, Value.int .i64 j, Value.slice B m d]] w fun e w' => ∃ A' c', e = .returned (Value.agg #[Value.int .i64 r, Value.int .i64 a, Value.int .i64 b, Value.int .i64 i, Value.int .i64 j, Value.slice A' F.length c']) ∧ w'.ownsRow w.heap.size 2 1 (.slice A' F.length c') F.length (F.map (Value.int .i64)) ∧ Below w.heap.size w w' := by
  have hl := hf.1
  subst hl
  obtain ⟨u, hu0⟩ : ∃ u, u = (w.alloc (.cells #[Value.int .i64 r, Value.int .i64 a, Value.int .i64 b, Value.int .i64 i, Value.int .i64 j, Value.slice B F.length d] 43)).alloc (.cells #[Value.int .i64 0, Value.int .i64 0, Value.int .i64 0, Value.int .i64 0, Value.int .i64 0, Value.slice none 0 0] 43) := ⟨_, rfl⟩
  obtain ⟨hb, p0, p1, hsz⟩ := two_any w (.cells #[Value.int .i64 r, Value.int .i64 a, Value.int .i64 b, Value.int .i64 i, Value.int .i64 j, Value.slice B F.length d] 43) (.cells #[Value.int .i64 0, Value.int .i64 0, Value.int .i64 0, Value.int .i64 0, Value.int .i64 0, Value.slice none 0 0] 43)
  rw [← hu0] at hb p0 p1 hsz
  have HCI := Lib.hid (fun (wx : World) (hx : Below u.heap.size u wx) => copyInts_x B F.length d F wx ((hf.below (hb.trans (hx.mono hb.size))).more (Nat.le_trans hb.size hx.size)) hm)
  have HU0 := Lib.hid hu0; have HBU := Lib.hid hb; have HP1 := Lib.hid p1
  have HLT : Hid (w.heap.size + 1 < u.heap.size) := Lib.hid (by omega)
  have e0 := cell_of_row _ _ 0 _ _ (0, 0) p0; have e1 := cell_of_row _ _ 1 _ _ (0, 0) p0; have e2 := cell_of_row _ _ 2 _ _ (0, 0) p0; have e3 := cell_of_row _ _ 3 _ _ (0, 0) p0; have e4 := cell_of_row _ _ 4 _ _ (0, 0) p0; have e5 := cell_of_row _ _ 5 _ _ (0, 0) p0
  have HSX : Hid (∀ wx, Below u.heap.size u wx → wx.cell? ⟨w.heap.size, 0, none⟩ = some (.int .i64 r) ∧ wx.cell? ⟨w.heap.size, 1, none⟩ = some (.int .i64 a) ∧ wx.cell? ⟨w.heap.size, 2, none⟩ = some (.int .i64 b) ∧ wx.cell? ⟨w.heap.size, 3, none⟩ = some (.int .i64 i) ∧ wx.cell? ⟨w.heap.size, 4, none⟩ = some (.int .i64 j) ∧ wx.cell? ⟨w.heap.size, 5, none⟩ = some (.slice B F.length d)) := Lib.hid fun wx hx => by
    have q := (hx.block w.heap.size (Array.getElem?_eq_some_iff.1 p0).1).trans p0
    exact ⟨cell_of_row _ _ 0 _ _ (0, 0) q, cell_of_row _ _ 1 _ _ (0, 0) q, cell_of_row _ _ 2 _ _ (0, 0) q, cell_of_row _ _ 3 _ _ (0, 0) q, cell_of_row _ _ 4 _ _ (0, 0) q, cell_of_row _ _ 5 _ _ (0, 0) q⟩
  clear hu0 hb p0 p1 hsz hf
  go_enter Tryz.func34, Tryz.ntmps34
  go_upto_region 1 with (fail)
  rw [← HU0.out]
  have FB_0 := Lib.hid (Below.refl u.heap.size u)
  clear e0 e1 e2 e3 e4 e5
  refine wp_region_held_drew (S := fun wx => wx.cell? ⟨w.heap.size, 0, none⟩ = some (.int .i64 r) ∧ wx.cell? ⟨w.heap.size, 1, none⟩ = some (.int .i64 a) ∧ wx.cell? ⟨w.heap.size, 2, none⟩ = some (.int .i64 b) ∧ wx.cell? ⟨w.heap.size, 3, none⟩ = some (.int .i64 i) ∧ wx.cell? ⟨w.heap.size, 4, none⟩ = some (.int .i64 j) ∧ wx.cell? ⟨w.heap.size, 5, none⟩ = some (.slice B F.length d)) (by kernel_rfl) (HSX.out _ (Below.refl _ _).drew) (fun hHeld => ?_)
  obtain ⟨wq1, hwq1⟩ : ∃ w', w' = u.drew := ⟨_, rfl⟩
  rw [← hwq1] at hHeld ⊢
  have bq1 : Below u.heap.size u wq1 := by rw [hwq1]; exact (Below.refl _ _).drew
  clear hwq1
  have FB_q2 := Lib.hid ((FB_0.out).trans ((bq1).mono (FB_0.out).size))
  clear FB_0
  refine tk (i := 0) (h := ?_)
  (try simp only [Act.put, setIfInBounds_toArray, set_cons_zero, set_cons_succ, getElem_toArray, getElem_cons_succ, getElem_cons_zero])
  refine tk (i := 2) (h := ?_)
  (try simp only [Act.put, setIfInBounds_toArray, set_cons_zero, set_cons_succ, getElem_toArray, getElem_cons_succ, getElem_cons_zero])
  refine tk (i := 4) (h := ?_)
  (try simp only [Act.put, setIfInBounds_toArray, set_cons_zero, set_cons_succ, getElem_toArray, getElem_cons_succ, getElem_cons_zero])
  refine tk (i := 6) (h := ?_)
  (try simp only [Act.put, setIfInBounds_toArray, set_cons_zero, set_cons_succ, getElem_toArray, getElem_cons_succ, getElem_cons_zero])
  refine tk (i := 8) (h := ?_)
  (try simp only [Act.put, setIfInBounds_toArray, set_cons_zero, set_cons_succ, getElem_toArray, getElem_cons_succ, getElem_cons_zero])
  refine tk (i := 10) (h := ?_)
  (try simp only [Act.put, setIfInBounds_toArray, set_cons_zero, set_cons_succ, getElem_toArray, getElem_cons_succ, getElem_cons_zero])
  refine tk (i := 1) (h := ?_)
  (try simp only [Act.put, setIfInBounds_toArray, set_cons_zero, set_cons_succ, getElem_toArray, getElem_cons_succ, getElem_cons_zero])
  refine tk (i := 3) (h := ?_)
  (try simp only [Act.put, setIfInBounds_toArray, set_cons_zero, set_cons_succ, getElem_toArray, getElem_cons_succ, getElem_cons_zero])
  refine tk (i := 5) (h := ?_)
  (try simp only [Act.put, setIfInBounds_toArray, set_cons_zero, set_cons_succ, getElem_toArray, getElem_cons_succ, getElem_cons_zero])
  refine tk (i := 7) (h := ?_)
  (try simp only [Act.put, setIfInBounds_toArray, set_cons_zero, set_cons_succ, getElem_toArray, getElem_cons_succ, getElem_cons_zero])
  refine tk (i := 9) (h := ?_)
  (try simp only [Act.put, setIfInBounds_toArray, set_cons_zero, set_cons_succ, getElem_toArray, getElem_cons_succ, getElem_cons_zero])
  refine tk (i := 11) (h := ?_)
  (try simp only [Act.put, setIfInBounds_toArray, set_cons_zero, set_cons_succ, getElem_toArray, getElem_cons_succ, getElem_cons_zero])
  refine t1 (i := 12) (h := fun K hK => ?_)
  go_simp
  have HKB := Lib.hid FB_q2.out.size
  refine (HCI.out wq1 FB_q2.out).mono ?_
  rintro e wq15 ⟨A7, c7, rfl, ownq15, belq15⟩
  dsimp only
  have FB_q16 := Lib.hid ((FB_q2.out).trans ((belq15).mono (FB_q2.out).size))
  clear FB_q2
  have HO9 := Lib.hid ownq15
  have FR_q15 := Lib.hid ((Nat.le_refl wq15.heap.size))
  clear ownq15
  refine hK.out _ _ (HSX.out _ FB_q16.out) (fun hHeld => ?_)
  clear hK K
  (try simp only [Act.put, setIfInBounds_toArray, set_cons_zero, set_cons_succ, getElem_toArray, getElem_cons_succ, getElem_cons_zero])
  refine tk (i := 13) (h := ?_)
  (try simp only [Act.put, setIfInBounds_toArray, set_cons_zero, set_cons_succ, getElem_toArray, getElem_cons_succ, getElem_cons_zero])
  refine t1 (i := 14) (h := fun K hK => ?_)
  have q1 := (FB_q16.out.block (w.heap.size + 1) HLT.out).trans HP1.out
  have y0 := cell_of_row _ _ 0 _ _ (0, 0) q1; have u0 := frozen_of_row _ _ 0 _ _ q1
  have y1 := cell_of_row _ _ 1 _ _ (0, 0) q1; have u1 := frozen_of_row _ _ 1 _ _ q1
  have y2 := cell_of_row _ _ 2 _ _ (0, 0) q1; have u2 := frozen_of_row _ _ 2 _ _ q1
  have y3 := cell_of_row _ _ 3 _ _ (0, 0) q1; have u3 := frozen_of_row _ _ 3 _ _ q1
  have y4 := cell_of_row _ _ 4 _ _ (0, 0) q1; have u4 := frozen_of_row _ _ 4 _ _ q1
  have y5 := cell_of_row _ _ 5 _ _ (0, 0) q1; have u5 := frozen_of_row _ _ 5 _ _ q1
  have H6 := Lib.hid (set6_at q1 (.int .i64 r) (.int .i64 a) (.int .i64 b) (.int .i64 i) (.int .i64 j) (.slice A7 F.length c7))
  have HO6 := Lib.hid (set6_own HO9.out (show w.heap.size + 1 < wq1.heap.size from Nat.lt_of_lt_of_le HLT.out HKB.out) (.int .i64 r) (.int .i64 a) (.int .i64 b) (.int .i64 i) (.int .i64 j) (.slice A7 F.length c7))
  have HB6 := Lib.hid (set6_below (HBU.out.trans (FB_q16.out.mono HBU.out.size)) (show w.heap.size ≤ w.heap.size + 1 by omega) (.int .i64 r) (.int .i64 a) (.int .i64 b) (.int .i64 i) (.int .i64 j) (.slice A7 F.length c7))
  have HS6 := Lib.hid (set6_below (Below.refl (w.heap.size + 1) wq15) (Nat.le_refl _) (.int .i64 r) (.int .i64 a) (.int .i64 b) (.int .i64 i) (.int .i64 j) (.slice A7 F.length c7))
  go_simp
  clear y0 u0 y1 u1 y2 u2 y3 u3 y4 u4 y5 u5 q1
  refine hK.out _ _ (by have s9 := HSX.out _ FB_q16.out; exact keep6 HS6.out s9) (fun hHeld => ?_)
  clear hK K
  (try simp only [Act.put, setIfInBounds_toArray, set_cons_zero, set_cons_succ, getElem_toArray, getElem_cons_succ, getElem_cons_zero])
  refine wpAnyH_done (by kernel_rfl) ?_ _
  clear HSX
  go_wp2
  (try simp only [Exit.inBlock, Exit.then])
  refine bodyPost_ret (results_cell_row rfl _ _ (w.heap.size + 1) _ _ (0, 0) _ rfl H6.out Tryz.underlying43 rfl (by kernel_rfl)) rfl ?_
  exact ⟨A7, c7, rfl, HO6.out.mono (Nat.le_trans HBU.out.size HKB.out), HB6.out⟩

theorem takeS_succ {ss : List Stp} {k : Nat} (h : k < ss.length) : ss.take (k + 1) = ss.take k ++ [ss.getD k Stp.nil] := takeP_succ h
theorem made_p {w : World} {base : Nat} (hb : base ≤ w.heap.size) : (w.alloc (.cells #[] 43)).ownsRow base 43 6 (.slice (some ⟨w.heap.size, 0, none⟩) 0 0) 0 [] :=
  World.ownsRow_made w #[] 0 hb (by simp [maxLen]) rfl
theorem OwnP.made {w : World} {base hi : Nat} (hb : base ≤ w.heap.size) (hh : w.heap.size < hi) : OwnP (w.alloc (.cells #[] 43)) base hi (.slice (some ⟨w.heap.size, 0, none⟩) 0 0) (fun _ => (none, 0)) [] 0 where
  kle := Nat.le_refl _
  outer := by simpa [rowP] using made_p hb
  inner i hi := by simp at hi
  apart i _ hi := by simp at hi
  apart0 i hi := by simp at hi
  top0 k e := by
    have e' : w.heap.size = k := by simpa [Value.ownBlock] using e
    omega
  top i _ hi := by simp at hi

set_option maxRecDepth 100000 in
set_option maxHeartbeats 4000000 in
theorem sCopySteps_any (A : Option Addr) (n c : Nat) (ss : List Stp) (w : World) (h : RdP w w.heap.size A n ss) (hn : n ≤ 1000) (hq : ∀ q ∈ fsP ss, q.length ≤ 1000) :
    Calls Tryz.prog 19 #[.slice A n c] w (GivesP w ss) := by
  obtain ⟨i0, hi0, hz0, hz1, hz2⟩ := info_parts_step
  have hl := h.len
  subst hl
  have HI := Lib.hid hi0; have HZ0 := Lib.hid hz0; have HZ1 := Lib.hid hz1; have HZ2 := Lib.hid hz2
  have H := Lib.hid h; have HQ := Lib.hid hq
  obtain ⟨u, hu⟩ : ∃ u, u = w.alloc (.cells #[] 43) := ⟨_, rfl⟩
  have hbu : Below w.heap.size w u := by rw [hu]; exact box_any w _
  have hou : OwnP u w.heap.size u.heap.size (.slice (some ⟨w.heap.size, 0, none⟩) 0 0) (fun _ => (none, 0)) [] 0 := by rw [hu]; exact OwnP.made (Nat.le_refl _) (by simp)
  have HU := Lib.hid hu; have HBU := Lib.hid hbu; have HOU := Lib.hid hou
  clear hi0 hz0 hz1 hz2 h hq hu hbu hou
  go_enter Tryz.func19, Tryz.ntmps19
  go_wp2_with (fail)
  rw [← HU.out]
  go_loopw [3, 4] (fun o i wr => ∃ (k : Nat) (hs : Nat → Option Addr × Nat) (g c2 : Nat), k ≤ ss.length ∧ i = .int .i64 k ∧ o = .slice (some ⟨g, 0, none⟩) k c2 ∧ OwnP wr w.heap.size wr.heap.size (.slice (some ⟨g, 0, none⟩) k c2) hs (ss.take k) k ∧ Below w.heap.size w wr) (fun _ i _ => ss.length - (intOf i).toNat)
  case atStart => exact ⟨0, _, _, _, Nat.zero_le _, rfl, rfl, by simpa using HOU.out, HBU.out⟩
  case round =>
    obtain ⟨k, hs, g, c2, hk, rfl, rfl, hown, hb⟩ := hrel
    have HO := Lib.hid hown; have HB := Lib.hid hb
    by_cases hlt : k < ss.length
    · obtain ⟨b, off, rfl, hbb, hcells⟩ := H.out.2 (by omega)
      obtain ⟨A', c', hat⟩ := hcells k hlt
      have hm := HQ.out _ (getD_mem (show k < (fsP ss).length by rw [fsP_len]; omega))
      rw [fsP_getD ss k (by omega)] at hm
      obtain ⟨x0, x1, x2, x3, x4, x5, hx6, hx7⟩ := hat.keep (fun _ hp => hb.cell hp) hbb
      have HTK := Lib.hid (takeS_succ (ss := ss) hlt)
      have HTL : Hid ((ss.take k).length = k) := Lib.hid (by rw [List.length_take]; omega)
      have hcs := sCopyStep_any (ss.getD k Stp.nil).r (ss.getD k Stp.nil).a (ss.getD k Stp.nil).b (ss.getD k Stp.nil).i (ss.getD k Stp.nil).j A' (ss.getD k Stp.nil).f.length c' (ss.getD k Stp.nil).f wr (hx7.more hb.size) hm
      obtain ⟨s, hs9⟩ : ∃ s, ss.getD k Stp.nil = s := ⟨_, rfl⟩
      rw [hs9] at x0 x1 x2 x3 x4 x5 hcs HTK
      have HCS := Lib.hid hcs
      clear hcells hat hown hb hx6 hx7 hm hcs hs9
      obtain ⟨sr, sa, sb, si, sj, sf⟩ := s
      dsimp only at x0 x1 x2 x3 x4 x5
      have hd9 : decide ((k : Int) < (ss.length : Int)) = true := decide_eq_true (by omega)
      go_wp2_with (fail)
      refine HCS.out.mono ?_
      rintro e w1 ⟨A1, c1, rfl, own1, b1⟩
      obtain ⟨w2, hw2⟩ : ∃ w2, w2 = w1.alloc (.cells #[Value.int .i64 sr, Value.int .i64 sa, Value.int .i64 sb, Value.int .i64 si, Value.int .i64 sj, Value.slice A1 (sf.length) c1] 43) := ⟨_, rfl⟩
      have b2 : Below w1.heap.size w1 w2 := by rw [hw2]; exact box_any w1 _
      have g2 := an hw2
      have HW2 := Lib.hid hw2; have HG2 := Lib.hid g2
      have b12 := b1.trans (b2.mono b1.size)
      have HO2 := Lib.hid (HO.out.below b12)
      have HB2 := Lib.hid (HB.out.trans (b12.mono HB.out.size))
      have HN1 := Lib.hid (own_below own1 b2 (Nat.le_refl _))
      have hwz : wr.heap.size ≤ w2.heap.size := b12.size
      have hzz : w.heap.size ≤ w2.heap.size := HB2.out.size
      clear hw2 g2 b1 b2 b12 own1 HCS x0 x1 x2 x3 x4 x5
      go_wp2_with (at_builtin; rw [← HW2.out]; refine wpList_append_own _ rfl _ _ 26 rfl w.heap.size 43 i0 (Value.agg #[Value.int .i64 0, Value.int .i64 0, Value.int .i64 0, Value.int .i64 0, Value.int .i64 0, Value.slice none 0 0]) 6 64 Tryz.underlying26 HI.out HZ0.out HZ1.out HZ2.out rfl (by decide) _ _ _ rfl (by have h9 := HO2.out.outer; rw [HTL.out] at h9; exact h9) ⟨_, 0, none⟩ 1 1 (stC ⟨sr, sa, sb, si, sj, sf⟩ A1 c1) rfl rfl (World.news_of_block HG2.out) (by simp [stC, Value.oneCell']) (by unfold maxLen; omega) (by omega) hzz ?_; intro v7 w7 hown7 hgrow7 hiff7; obtain ⟨g7, c7, rfl⟩ := own_some hown7 (fun e => by have := (hiff7.1 e).1; cases this); have HP7 := Lib.hid hown7; have HG7 := Lib.hid hgrow7; clear hown7 hgrow7 hiff7)
      have HPU := Lib.hid (OwnP.push (s := ⟨sr, sa, sb, si, sj, sf⟩) (hi' := w7.heap.size) (by have h9 := HO2.out; rw [HTL.out]; exact h9) (own_base HN1.out HB.out.size) (fun b hb => (HN1.out.lt b hb).1) (by rw [HTL.out]; exact HP7.out) HG7.out (Nat.le_refl _))
      have HB7 := Lib.hid (HB2.out.grown HG7.out hzz (fun b hb => (HO2.out.outer.lt b hb).1))
      go_roundw
      case rel => exact ⟨k + 1, _, g7, c7, by omega, by go_num, rfl, by rw [HTK.out]; have h9 := HPU.out; rw [List.length_append, HTL.out] at h9; exact h9, HB7.out⟩
      case measure => simp [intOf]; omega
    · have hkl : k = ss.length := by omega
      subst hkl
      clear hown hb
      have hd9 : decide ((ss.length : Int) < (ss.length : Int)) = false := decide_eq_false (by omega)
      have HX : Hid (OwnP wr w.heap.size wr.heap.size (.slice (some ⟨g, 0, none⟩) ss.length c2) hs ss ss.length) := Lib.hid (by have h9 := HO.out; rw [List.take_length] at h9; exact h9)
      go_wp2
      go_ret
      exact ⟨hs, _, c2, rfl, HX.out, HB.out⟩
end
section
open Go.ChangeAt Go.ChangeShapes Go.RowKit Go.WideShapes
end
section
open Go.ChangeAt Go.ChangeShapes Go.RowKit Go.WideShapes

def ruK (r : Int) : Int :=
  if r = 1 then 0 else if r = 2 then 2 else if r = 3 then 2 else if r = 4 then 2 else if r = 5 then 0 else if r = 6 then 0 else if r = 7 then 2 else if r = 8 then 1 else if r = 9 then 1 else if r = 10 then 1 else if r = 11 then 1 else if r = 12 then 0 else if r = 13 then 2 else if r = 14 then 2 else -1
set_option maxHeartbeats 2000000 in
theorem premises_any (w : World) : ∀ r : Int, 1 ≤ r → r ≤ 14 → Calls Tryz.prog 52 #[.int .i64 r] w fun e w' => e = .returned (.int .i64 (ruP r)) ∧ w = w' := by
  have HI := Lib.hid (fun n h => inRange_yes n 1 14 w h)
  refine ru_cases ?_ ?_ ?_ ?_ ?_ ?_ ?_ ?_ ?_ ?_ ?_ ?_ ?_ ?_
  all_goals
    go_enter Tryz.func52, Tryz.ntmps52
    go_wp2_with (go_at_call 40; refine (HI.out _ (by decide)).mono ?_; rintro e w' ⟨rfl, rfl⟩)
    go_ret
    exact ⟨by kernel_rfl, rfl⟩
theorem premises_none (r : Int) (w : World) (h : ¬ (1 ≤ r ∧ r ≤ 14)) : Calls Tryz.prog 52 #[.int .i64 r] w fun e w' => e = .returned (.int .i64 (-1)) ∧ w = w' := by
  have HI := Lib.hid (inRange_any r 1 14 w)
  rw [decide_eq_false h] at HI
  have h1 : (r == 1) = false := by simp only [beq_eq_false_iff_ne, ne_eq]; omega
  have h5 : (r == 5) = false := by simp only [beq_eq_false_iff_ne, ne_eq]; omega
  have h2 : (r == 2) = false := by simp only [beq_eq_false_iff_ne, ne_eq]; omega
  have h3 : (r == 3) = false := by simp only [beq_eq_false_iff_ne, ne_eq]; omega
  have h7 : (r == 7) = false := by simp only [beq_eq_false_iff_ne, ne_eq]; omega
  go_enter Tryz.func52, Tryz.ntmps52
  go_wp2_with (fail)
  refine HI.out.mono ?_
  rintro e w' ⟨rfl, rfl⟩
  go_wp2
  go_ret
  exact ⟨rfl, rfl⟩
set_option maxHeartbeats 2000000 in
theorem positions_any (w : World) : ∀ r : Int, 1 ≤ r → r ≤ 14 → Calls Tryz.prog 66 #[.int .i64 r] w fun e w' => e = .returned (.int .i64 (ruK r)) ∧ w = w' := by
  refine ru_cases ?_ ?_ ?_ ?_ ?_ ?_ ?_ ?_ ?_ ?_ ?_ ?_ ?_ ?_
  all_goals
    go_enter Tryz.func66, Tryz.ntmps66
    go_wp2
    go_ret
    exact ⟨by kernel_rfl, rfl⟩
set_option maxHeartbeats 2000000 in
theorem usesForm_any (w : World) : ∀ r : Int, 1 ≤ r → r ≤ 14 → Calls Tryz.prog 67 #[.int .i64 r] w fun e w' => e = .returned (.bool (ruF r)) ∧ w = w' := by
  refine ru_cases ?_ ?_ ?_ ?_ ?_ ?_ ?_ ?_ ?_ ?_ ?_ ?_ ?_ ?_
  all_goals
    go_enter Tryz.func67, Tryz.ntmps67
    go_wp2
    go_ret
    exact ⟨by kernel_rfl, rfl⟩
end
end Go.Proofs.YthbkcpacgnmcfaaGreatDoor
