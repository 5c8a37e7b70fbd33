/- The model's source made of a code, and its draw of a list that is mostly a formula. -/
import Derived.Test.YtdgejhlpncnenaaDoorDraw
import Derived.Test.YtdgejhlpncnenaaDoorClone
import Derived.StillTailTactics
namespace Go.Proofs.YtdgejhlpncnenaaDoor
open Go.RowKit

theorem own_short {w : World} {base n k c : Nat} {e : TypeId} {A : Option Addr} {xs : List Value} (h : w.ownsRow base e 1 (.slice A n c) n xs) (hk : k ≤ n) : w.ownsRow base e 1 (.slice A k c) k (xs.take k) := by
  obtain ⟨h1, h2⟩ := h
  refine ⟨by rw [List.length_take]; omega, ?_⟩
  rcases h2 with ⟨hv, rfl⟩ | ⟨g, cap, cur, hv, hb, hh, hn, hc, hs, ht⟩
  · have : k = 0 := by omega
    subst this
    exact .inl ⟨hv, rfl⟩
  · refine .inr ⟨g, cap, cur, ?_, hb, hh, by omega, hc, hs, ?_⟩
    · injection hv with a1 a2 a3
      rw [a1, a3]
    · rw [← ht, List.take_take, Nat.mul_one, Nat.mul_one, Nat.min_eq_left hk]


/-- What the draw of a list leaves. -/
def DrawnAny (w : World) (g : Nat) (A : Option Addr) (n c : Nat) (code : List Int) (e : Ending) (w' : World) : Prop :=
  ∃ (L : List Int) (A' : Option Addr) (c' : Nat), e = .returned (.slice A' L.length c') ∧ L.length ≤ 64 ∧ (∀ z ∈ L, -18 ≤ z ∧ z ≤ 18) ∧ w'.ownsRow w.heap.size 2 1 (.slice A' L.length c') L.length (L.map (Value.int .i64)) ∧ Src w' g A n c code ∧ w.grownBy w' (some g)

theorem any_app {w wy wz : World} {g n c n2 : Nat} {A : Option Addr} {code L : List Int} {z : Int} {v0 v2 : Value} {o : Obj} (hg : w.grownBy wy (some g)) (hs : Src wy g A n c code) (hs0 : g < w.heap.size)
    (h0 : wy.ownsRow w.heap.size 2 1 v0 L.length (L.map (Value.int .i64))) (hown : wz.ownsRow w.heap.size 2 1 v2 n2 (L.map (Value.int .i64) ++ [.int .i64 z])) (hn : n2 = L.length + 1) (hgrow : (wy.alloc o).grownBy wz v0.ownBlock)
    (h1 : L.length + 1 ≤ 64) (hz : -18 ≤ z ∧ z ≤ 18) (ha : ∀ z ∈ L, -18 ≤ z ∧ z ≤ 18) : ∃ A2 c2, v2 = .slice A2 n2 c2 ∧ DrawnAny w g A n c code (.returned (.slice A2 n2 c2)) wz := by
  obtain ⟨A2, c2, rfl⟩ := own_shape hown
  have hr : ∀ q, v0.ownBlock = some q → w.heap.size ≤ q := fun q hq => (h0.lt q hq).1
  have e : (L ++ [z]).length = n2 := by rw [hn]; simp
  refine ⟨A2, c2, rfl, L ++ [z], A2, c2, by rw [e], by rw [e, hn]; exact h1, fun y hy => ?_, by rw [e, List.map_append]; exact hown, (hs.grown (grown_alloc wy o none) (by simp)).grown hgrow (fun r hr' => by have := hr r hr'; omega), grown_own (grown_own hg (grown_alloc wy o none) (by simp)) hgrow hr⟩
  rcases List.mem_append.1 hy with hy | hy
  · exact ha y hy
  · have : y = z := by simpa using hy
    subst this
    exact hz
theorem any_set {w wy : World} {g n c ba j cc : Nat} {A : Option Addr} {code L : List Int} {z : Int} (hg : w.grownBy wy (some g)) (hs : Src wy g A n c code) (hs0 : g < w.heap.size)
    (h0 : wy.ownsRow w.heap.size 2 1 (.slice (some ⟨ba, 0, none⟩) L.length cc) L.length (L.map (Value.int .i64))) (h1 : L.length ≤ 64) (hz : -18 ≤ z ∧ z ≤ 18) (ha : ∀ z ∈ L, -18 ≤ z ∧ z ≤ 18) :
    DrawnAny w g A n c code (.returned (.slice (some ⟨ba, 0, none⟩) L.length cc)) (wy.setCell ⟨ba, j, none⟩ (.int .i64 z)) := by
  obtain ⟨s1, s2⟩ := h0.stored j (.int .i64 z)
  have hb : w.heap.size ≤ ba := (h0.lt ba rfl).1
  have e : (L.map (Value.int .i64)).set j (.int .i64 z) = (L.set j z).map (Value.int .i64) := by rw [List.map_set]
  rw [e] at s1
  have el : (L.set j z).length = L.length := by simp
  refine ⟨L.set j z, _, cc, by rw [el], by rw [el]; exact h1, fun y hy => ?_, by rw [el]; exact s1, hs.grown s2 (fun r hr => by injection hr with hr; omega), grown_own hg s2 (fun q hq => by injection hq with hq; omega)⟩
  rcases List.mem_or_eq_of_mem_set hy with hy | rfl
  · exact ha y hy
  · exact hz

set_option maxHeartbeats 4000000 in
theorem drawAny_any (g n c : Nat) (A : Option Addr) (code : List Int) (w : World) (h : Src w g A n c code) :
    Calls Tryd.prog 33 #[.pointer (some ⟨g, 0, none⟩)] w (DrawnAny w g A n c code) := by
  obtain ⟨i0, hi0, hz0, hz1, hz2⟩ := info_parts info_i64
  have hgw : g < w.heap.size := h.lt
  go_enter Tryd.func33, Tryd.ntmps33
  go_wp2_with (fail)
  refine (pick_any g n c A code 16 w h (by omega) (by omega)).mono ?_
  rintro e w1 ⟨fr, _, _, rfl, S1, G1⟩
  go_wp2_with (fail)
  refine (pick_any g n c A code 12 w1 S1 (by omega) (by omega)).mono ?_
  rintro e w2 ⟨r1, p1, p2, rfl, S2, G2⟩
  obtain ⟨q1, rfl⟩ : ∃ q : Nat, r1 = q := ⟨r1.toNat, by omega⟩
  have hI := drawForm_any g n c A code fr (1 + q1) w2 S2 (by omega) (by omega)
  rw [show ((1 + q1 : Nat) : Int) = 1 + (q1 : Int) by omega] at hI
  have HI1 := Lib.hid hI
  clear hI
  go_wp2_with (fail)
  refine HI1.out.mono ?_
  rintro e w3 ⟨L, A3, c3, rfl, l1, l2, l3, o3, S3, G3⟩
  have G13 := grownBy_trans (grownBy_trans G1 G2) G3
  have o3' := o3.mono (grownBy_trans G1 G2).size
  go_wp2_with (fail)
  refine (pick_any g n c A code 12 w3 S3 (by omega) (by omega)).mono ?_
  rintro e w4 ⟨r, p3, p4, rfl, S4, G4⟩
  have HS := Lib.hid S4; have HG := Lib.hid (grownBy_trans G13 G4); have HO := Lib.hid (own_keep o3' G4 hgw); have HL3 := Lib.hid l3
  have HI := Lib.hid hi0; have HZ0 := Lib.hid hz0; have HZ1 := Lib.hid hz1; have HZ2 := Lib.hid hz2
  clear S1 G1 S2 G2 o3 S3 G3 G13 o3' S4 G4 l3 hi0 hz0 hz1 hz2 HI1
  have l1' : L.length + 1 ≤ 64 := by omega
  by_cases e0 : r = 0
  · subst e0
    go_wp2_with (fail)
    refine (drawAtom_any g n c A code w4 HS.out).mono ?_
    rintro e w5 ⟨z, z1, z2, rfl, S5, G5⟩
    have o5 := own_keep HO.out G5 hgw
    have hsz := (grownBy_trans HG.out G5).size
    have HD := Lib.hid (fun wz v2 n2 hown (hn : n2 = L.length + 1) hgrow => any_app (o := .cells #[.int .i64 z] 2) (wz := wz) (v2 := v2) (n2 := n2) (z := z) (grownBy_trans HG.out G5) S5 hgw o5 hown hn hgrow l1' (by omega) HL3.out)
    clear S5 G5
    go_wp2_with (at_builtin; refine wpList_append_own _ rfl (.tmp 15) (.tmp 18) 24 rfl w.heap.size 2 i0 (.int .i64 0) 1 8 Tryd.underlying24 HI.out HZ0.out HZ1.out HZ2.out rfl (by decide) _ _ _ rfl (o5.alloc _) ⟨w5.heap.size, 0, none⟩ 1 1 [.int .i64 z] rfl rfl ?c1 ?c2 ?c3 ?c4 ?c5 ?_)
    case c1 => exact cell_one_new _ _ _
    case c2 => intro u hu; simp at hu; subst hu; rfl
    case c3 => unfold maxLen; omega
    case c4 => omega
    case c5 => simp; omega
    intro v2 w6 hown2 hgrow2 _
    obtain ⟨A7, c7, rfl, hDr⟩ := HD.out w6 v2 _ hown2 rfl hgrow2
    have HDr := Lib.hid hDr
    clear hDr hown2 hgrow2 HD o5
    go_wp2
    go_ret
    exact HDr.out
  · have f0 : (r == 0) = false := by simpa using e0
    by_cases e1 : r = 1
    · subst e1
      obtain ⟨m, hm⟩ : ∃ m, L.length = m + 1 := ⟨L.length - 1, by omega⟩
      have HSh : Hid (DrawnAny w g A n c code (.returned (.slice A3 m c3)) w4) := by
        have ho := own_short HO.out (k := m) (by omega)
        refine ⟨L.take m, A3, c3, by rw [List.length_take, Nat.min_eq_left (by omega)], by rw [List.length_take]; omega, fun z hz => HL3.out z (List.mem_of_mem_take hz), ?_, HS.out, HG.out⟩
        rw [List.length_take, Nat.min_eq_left (by omega), List.map_take]
        exact ho
      have hcap := own_cap HO.out
      have hc1 : m + 1 ≤ c3 := by omega
      have hc2 : c3 ≤ 9223372036854775807 := by have := hcap.2; unfold maxLen at this; omega
      rw [hm]
      clear hcap l1 l2 l1' HO HL3 hm
      go_wp2
      go_ret
      exact HSh.out
    · have f1 : (r == 1) = false := by simpa using e1
      by_cases e2 : r = 2
      · subst e2
        go_wp2_with (fail)
        refine (pick_any g n c A code (L.length : Int) w4 HS.out (by omega) (by omega)).mono ?_
        rintro e w5 ⟨j0, j1, j2, rfl, S5, G5⟩
        obtain ⟨j, rfl⟩ : ∃ q : Nat, j0 = q := ⟨j0.toNat, by omega⟩
        go_wp2_with (fail)
        refine (pick_any g n c A code 24 w5 S5 (by omega) (by omega)).mono ?_
        rintro e w6 ⟨z, z1, z2, rfl, S6, G6⟩
        have hjl : j < L.length := by omega
        have G56 := grownBy_trans (grownBy_trans HG.out G5) G6
        have o6 := own_keep (own_keep HO.out G5 hgw) G6 hgw
        obtain ⟨ba, capa, hva, _, _⟩ := o6.form (by omega)
        have hA3 : A3 = some ⟨ba, 0, none⟩ := by injection hva
        subst hA3
        have hcell := o6.cellAt (g := ba) j (by omega)
        obtain ⟨o, hoo⟩ : ∃ o, (L.map (Value.int .i64))[j]? = some o := ⟨_, List.getElem?_eq_getElem (by simpa using hjl)⟩
        rw [hoo] at hcell
        have hfr := o6.frozenAt (g := ba) j
        have HD : Hid (DrawnAny w g A n c code (.returned (.slice (some ⟨ba, 0, none⟩) L.length c3)) (w6.setCell ⟨ba, j, none⟩ (.int .i64 (z - 10)))) := Lib.hid (any_set G56 S6 hgw o6 (by omega) (by omega) HL3.out)
        clear S5 G5 S6 G6 G56 o6 hva hoo HO HL3
        go_wp2
        go_ret
        exact HD.out
      · have f2 : (r == 2) = false := by simpa using e2
        by_cases e3 : r = 3
        · subst e3
          go_wp2_with (fail)
          refine (pick_any g n c A code 10 w4 HS.out (by omega) (by omega)).mono ?_
          rintro e w5 ⟨r5, j1, j2, rfl, S5, G5⟩
          obtain ⟨q5, rfl⟩ : ∃ q : Nat, r5 = q := ⟨r5.toNat, by omega⟩
          have hI := drawForm_any g n c A code 1 (20 + q5) w5 S5 (by omega) (by omega)
          rw [show ((20 + q5 : Nat) : Int) = 20 + (q5 : Int) by omega] at hI
          have HI5 := Lib.hid hI
          have HG5 := Lib.hid (grownBy_trans HG.out G5)
          clear hI S5 G5
          go_wp2_with (fail)
          refine HI5.out.mono ?_
          rintro e w6 ⟨L6, A6, c6, rfl, m1, m2, m3, o6, S6, G6⟩
          have HD : Hid (DrawnAny w g A n c code (.returned (.slice A6 L6.length c6)) w6) := Lib.hid ⟨L6, A6, c6, rfl, by omega, m3, o6.mono HG5.out.size, S6, grownBy_trans HG5.out G6⟩
          clear o6 S6 G6 m3 HI5
          go_wp2
          go_ret
          exact HD.out
        · have f3 : (r == 3) = false := by simpa using e3
          clear e0 e1 e2 e3
          go_wp2
          go_ret
          exact ⟨L, _, _, rfl, by omega, HL3.out, HO.out, HS.out, HG.out⟩

/-- What a source made of a code leaves. -/
def Coded (w : World) (A : Option Addr) (n c : Nat) (code : List Int) (e : Ending) (w' : World) : Prop :=
  e = .returned (.pointer (some ⟨w.heap.size, 0, none⟩)) ∧ Src w' w.heap.size A n c code ∧ Below w.heap.size w w'

set_option maxRecDepth 100000 in
set_option maxHeartbeats 2000000 in
theorem fromCode_any (A : Option Addr) (n c : Nat) (code : List Int) (w : World) (h : RdB w w.heap.size A n code) (hn : n ≤ 4096) :
    Calls Tryd.prog 34 #[.slice A n c] w (Coded w A n c code) := by
  have H0 : Hid ((w.alloc (.cells #[.slice A n c, .int .i64 0, .int .i64 12345] 83)).heap[w.heap.size]? = some (.cells #[.slice A n c, .int .i64 0, .int .i64 12345] 83 (0, 0))) := Lib.hid (heap_alloc_new w _)
  have HB0 : Hid (Below w.heap.size w (w.alloc (.cells #[.slice A n c, .int .i64 0, .int .i64 12345] 83))) := Lib.hid ((Below.refl _ _).alloc (Nat.le_refl _) _)
  go_enter Tryd.func34, Tryd.ntmps34
  go_wp2
  go_loopw [4] (fun i wr => ∃ (k : Nat) (s : Int), k ≤ n ∧ i = .int .i64 k ∧ 0 ≤ s ∧ s ≤ 2147483646 ∧ wr.heap[w.heap.size]? = some (.cells #[.slice A n c, .int .i64 0, .int .i64 s] 83 (0, 0)) ∧ Below w.heap.size w wr) (fun i _ => n - (intOf i).toNat)
  case atStart => exact ⟨0, 12345, Nat.zero_le _, rfl, by omega, by omega, H0.out, HB0.out⟩
  case round =>
    obtain ⟨k, s, hk, rfl, h4, h5, hrow, hb⟩ := hrel
    clear H0 HB0
    have HSrc : Hid (Src wr w.heap.size A n c code) := Lib.hid ⟨h.keep (fun p hp => hb.cell hp), hn, 0, s, Nat.zero_le _, h4, h5, hrow⟩
    have HB := Lib.hid hb
    by_cases hlt : k < n
    · have hd1 : decide ((k : Int) < (n : Int)) = true := decide_eq_true (by omega)
      by_cases h64 : k < 64
      · have hd2 : decide ((k : Int) < 64) = true := decide_eq_true (by omega)
        obtain ⟨b, off, rfl, hbb, hcells⟩ := h.2.2 (by omega)
        have hc := (hb.cell (p := ⟨b, off + k, none⟩) hbb).trans (hcells k hlt)
        have hr := h.at_range hlt
        generalize code.getD k 0 = x at hc hr
        have hx1 : 0 ≤ x := hr.1
        have hx2 : x ≤ 255 := hr.2
        have c2 : wr.cell? ⟨w.heap.size, 2, none⟩ = some (.int .i64 s) := cell_of_row wr w.heap.size 2 _ _ (0, 0) hrow
        have f2 : wr.frozen? ⟨w.heap.size, 2, none⟩ = false := frozen_of_row wr w.heap.size 2 _ _ hrow
        have hset := heap_setCell_same wr w.heap.size 2 _ _ (.int .i64 ((s * 31 + x) % 2147483647)) hrow
        have HS : Hid ((wr.setCell ⟨w.heap.size, 2, none⟩ (.int .i64 ((s * 31 + x) % 2147483647))).heap[w.heap.size]? = some (.cells #[.slice (some ⟨b, off, none⟩) n c, .int .i64 0, .int .i64 ((s * 31 + x) % 2147483647)] 83 (0, 0))) := Lib.hid (by simpa using hset)
        have HB2 := Lib.hid (hb.setCell (p := ⟨w.heap.size, 2, none⟩) (Nat.le_refl _) (.int .i64 ((s * 31 + x) % 2147483647)))
        have hs1 : 0 ≤ (s * 31 + x) % 2147483647 := Int.emod_nonneg _ (by omega)
        have hs2 : (s * 31 + x) % 2147483647 < 2147483647 := Int.emod_lt_of_pos _ (by omega)
        have HS1 := Lib.hid hs1; have HS2 := Lib.hid hs2
        clear hrow hb hcells hr hset hs1 hs2
        go_wp2
        go_still_tail 15, (by kernel_rfl)
        change wpList _ _ _ _ _ wr.drew
        go_wp2
        go_roundw
        case rel => exact ⟨k + 1, _, by omega, by go_num, HS1.out, by have := HS2.out; omega, HS.out, HB2.out.drew⟩
        case measure => simp [intOf]; omega
      · have hd2 : decide ((k : Int) < 64) = false := decide_eq_false (by omega)
        clear hrow hb
        go_wp2
        go_ret
        exact ⟨rfl, HSrc.out, HB.out⟩
    · have hd1 : decide ((k : Int) < (n : Int)) = false := decide_eq_false (by omega)
      clear hrow hb
      go_wp2
      go_ret
      exact ⟨rfl, HSrc.out, HB.out⟩

/-- What a draw from a code leaves. -/
def DrawnFrom (w : World) (e : Ending) (w' : World) : Prop :=
  ∃ (L : List Int) (A' : Option Addr) (c' : Nat), e = .returned (.slice A' L.length c') ∧ L.length ≤ 64 ∧ (∀ z ∈ L, -18 ≤ z ∧ z ≤ 18) ∧ w'.ownsRow w.heap.size 2 1 (.slice A' L.length c') L.length (L.map (Value.int .i64)) ∧ Below w.heap.size w w'
theorem drawnFrom_of {w w1 w2 : World} {A : Option Addr} {n c : Nat} {code : List Int} {e : Ending} (hb : Below w.heap.size w w1) (hd : DrawnAny w1 w.heap.size A n c code e w2) : DrawnFrom w e w2 := by
  obtain ⟨L, A', c', he, h1, h2, h3, h4, h5⟩ := hd
  refine ⟨L, A', c', he, h1, h2, h3.mono hb.size, hb.grown h5 hb.size (fun k hk => by injection hk with hk; omega)⟩

end Go.Proofs.YtdgejhlpncnenaaDoor
