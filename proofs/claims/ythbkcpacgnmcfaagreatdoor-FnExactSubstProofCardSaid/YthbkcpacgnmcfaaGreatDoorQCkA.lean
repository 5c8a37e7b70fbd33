/- Rows of headers: a row of one's own whose parts lie wherever. slices.Contains; the program's without. copyInts of the model at any length. The program's formOf. -/
import Derived.Test.YthbkcpacgnmcfaaGreatDoorQBndC
import Derived.Test.YthbkcpacgnmcfaaGreatDoorQClone
import Derived.Test.YthbkcpacgnmcfaaGreatDoorSeqV
import Derived.Laws.AppendOwnNone
import Derived.Test.YthbkcpacgnmcfaaGreatDoorQSubA
namespace Go.Proofs.YthbkcpacgnmcfaaGreatDoor
set_option linter.unusedSimpArgs false
set_option linter.unusedVariables false
section
open Go.ChangeAt Go.ChangeShapes Go.RowKit Go.WideShapes

/-- Headers that read as a list of lists. -/
structure RdV (w : World) (vs : List Value) (R : List (List Int)) : Prop where
  len : vs.length = R.length
  part : ∀ i, i < R.length → ∃ A c, vs[i]? = some (.slice A (R.getD i []).length c) ∧ (R.getD i []).length ≤ c ∧ RdI w w.heap.size A (R.getD i []).length (R.getD i [])
theorem RdV.below {w w' : World} {vs : List Value} {R : List (List Int)} (h : RdV w vs R) (hb : Below w.heap.size w w') : RdV w' vs R :=
  ⟨h.len, fun i hi => by
    obtain ⟨A, c, h1, h2, h3⟩ := h.part i hi
    exact ⟨A, c, h1, h2, (h3.below hb).more hb.size⟩⟩
theorem RdV.one {w : World} {vs : List Value} {R : List (List Int)} (h : RdV w vs R) : ∀ v ∈ vs, v.oneCell' = true := by
  intro v hv
  obtain ⟨i, hi, e⟩ := List.mem_iff_getElem.1 hv
  obtain ⟨A, c, h1, _⟩ := h.part i (by have := h.len; omega)
  rw [List.getElem?_eq_getElem hi, e] at h1
  injection h1 with h1
  rw [h1]; rfl
theorem RdV.nil (w : World) : RdV w [] [] := ⟨rfl, fun i hi => by simp at hi⟩
theorem RdV.app {w : World} {vs us : List Value} {R S : List (List Int)} (h : RdV w vs R) (h' : RdV w us S) : RdV w (vs ++ us) (R ++ S) := by
  have hl := h.len
  refine ⟨by rw [List.length_append, List.length_append, h.len, h'.len], fun i hi => ?_⟩
  rw [List.length_append] at hi
  by_cases e : i < R.length
  · have e1 : (R ++ S).getD i [] = R.getD i [] := by simp [List.getD, List.getElem?_append_left e]
    rw [e1, List.getElem?_append_left (by omega)]
    exact h.part i e
  · have e1 : (R ++ S).getD i [] = S.getD (i - R.length) [] := by simp [List.getD, List.getElem?_append_right (by omega : R.length ≤ i)]
    rw [e1, List.getElem?_append_right (by omega), hl]
    exact h'.part (i - R.length) (by omega)
theorem RdV.single {w : World} {A : Option Addr} {c : Nat} {q : List Int} (h : RdI w w.heap.size A q.length q) (hc : q.length ≤ c) : RdV w [.slice A q.length c] [q] :=
  ⟨rfl, fun i hi => by
    have e : i = 0 := by simp at hi; omega
    subst e
    exact ⟨A, c, rfl, hc, h⟩⟩
theorem RdV.of_q {w : World} {b off n : Nat} {R : List (List Int)} (h : RdQ w w.heap.size (some ⟨b, off, none⟩) n R) : ∃ vs, RdV w vs R ∧ ∀ j v, vs[j]? = some v → w.cell? ((⟨b, off, none⟩ : Addr).add j) = some v := by
  have hl := h.len
  subst hl
  by_cases h0 : 0 < R.length
  · obtain ⟨b', off', e, _, hc⟩ := h.2 h0
    cases e
    refine ⟨(List.range R.length).map fun j => (w.cell? ⟨b, off + j, none⟩).getD undef, ⟨by simp, fun i hi => ?_⟩, fun j v hv => ?_⟩
    · obtain ⟨A, c, h1, h2, h3⟩ := hc i hi
      refine ⟨A, c, ?_, h2, h3⟩
      rw [List.getElem?_map, List.getElem?_range hi, Option.map_some, h1]; rfl
    · have hj : j < R.length := by have := (List.getElem?_eq_some_iff.1 hv).1; simpa using this
      obtain ⟨A, c, h1, _⟩ := hc j hj
      have hadd : (⟨b, off, none⟩ : Addr).add j = ⟨b, off + j, none⟩ := by unfold Addr.add; split <;> simp_all
      rw [List.getElem?_map, List.getElem?_range hj, Option.map_some, h1] at hv
      rw [hadd, h1]
      exact hv
  · have e : R = [] := List.eq_nil_of_length_eq_zero (by omega)
    subst e
    exact ⟨[], RdV.nil w, fun j v hv => by simp at hv⟩
/-- What a function leaves that hands back a row of headers. -/
def GivesV (w : World) (R : List (List Int)) (e : Ending) (w' : World) : Prop :=
  ∃ A c vs, e = .returned (.slice A R.length c) ∧ w'.ownsRow w.heap.size 36 1 (.slice A R.length c) R.length vs ∧ RdV w' vs R ∧ Below w.heap.size w w'
theorem RdV.rd {w : World} {base c : Nat} {A : Option Addr} {vs : List Value} {R : List (List Int)} (h : RdV w vs R) (own : w.ownsRow base 36 1 (.slice A R.length c) R.length vs) : RdQ w w.heap.size A R.length R := by
  refine ⟨rfl, fun hn => ?_⟩
  obtain ⟨g, cap, hv', _, hlt⟩ := own.form hn
  injection hv' with e1 e2 e3
  subst e1; subst e3
  refine ⟨g, 0, rfl, hlt, fun j hj => ?_⟩
  obtain ⟨A, c, h1, h2, h3⟩ := h.part j hj
  refine ⟨A, c, ?_, h2, h3⟩
  rw [Nat.zero_add, own.cellAt j (by omega), h1]
/-- .. whose parts lay there before. -/
def GivesV0 (w : World) (R : List (List Int)) (e : Ending) (w' : World) : Prop :=
  ∃ A c vs, e = .returned (.slice A R.length c) ∧ w'.ownsRow w.heap.size 36 1 (.slice A R.length c) R.length vs ∧ RdV w vs R ∧ Below w.heap.size w w'
theorem rowv_more {w0 wr w7 : World} {base c n m : Nat} {A : Option Addr} {vs us : List Value} {v7 : Value} (hbel : Below base w0 wr) (hbase : base ≤ wr.heap.size)
    (own : wr.ownsRow base 36 1 (.slice A n c) n vs) (hown7 : w7.ownsRow base 36 1 v7 (n + m) (vs ++ us)) (hgrow7 : wr.grownBy w7 (Value.slice A n c).ownBlock) :
    ∃ A7 c7, v7 = .slice A7 (n + m) c7 ∧ Below base w0 w7 ∧ w7.ownsRow base 36 1 (.slice A7 (n + m) c7) (n + m) (vs ++ us) := by
  obtain ⟨A7, c7, rfl⟩ := own_shape hown7
  exact ⟨A7, c7, rfl, hbel.grown hgrow7 hbase (fun k hk => (own.lt k hk).1), hown7⟩

/-- The formulas that are not at one of the places L, of the first k. -/
def woK (P : List (List Int)) (L : List Int) (k : Nat) : List (List Int) := ((List.range k).filter fun (i : Nat) => !decide ((i : Int) ∈ L)).map fun (i : Nat) => P.getD i []
def woL (P : List (List Int)) (L : List Int) : List (List Int) := woK P L P.length
theorem woK_in {P : List (List Int)} {L : List Int} {k : Nat} (h : (k : Int) ∈ L) : woK P L (k + 1) = woK P L k := by
  unfold woK
  rw [List.range_succ, List.filter_append, List.map_append]
  simp [h]
theorem woK_out {P : List (List Int)} {L : List Int} {k : Nat} (h : ¬ (k : Int) ∈ L) : woK P L (k + 1) = woK P L k ++ [P.getD k []] := by
  unfold woK
  rw [List.range_succ, List.filter_append, List.map_append]
  simp [h]
theorem woK_len (P : List (List Int)) (L : List Int) (k : Nat) : (woK P L k).length ≤ k := by
  unfold woK
  rw [List.length_map]
  exact Nat.le_trans (List.length_filter_le _ _) (by simp)

theorem contains_any (A : Option Addr) (n c : Nat) (L : List Int) (x : Int) (w : World) (h : RdI w w.heap.size A n L) (hn : n ≤ 1048576) :
    Calls Tryz.prog 107 #[.slice A n c, .int .i64 x] w fun e w' => ∃ k : Int, e = .returned (.int .i64 k) ∧ w = w' ∧ (x ∈ L → 0 ≤ k) ∧ (x ∉ L → k = -1) := by
  have hl := h.len
  subst hl
  have H := Lib.hid h
  clear h
  go_enter Tryz.func107, Tryz.ntmps107
  go_wp2
  go_loopw [8] (fun i wr => ∃ k : Nat, k ≤ L.length ∧ i = .int .i64 k ∧ (∀ j, j < k → L.getD j 0 ≠ x) ∧ w = wr) (fun i _ => L.length - (intOf i).toNat)
  case atStart => exact ⟨0, Nat.zero_le _, rfl, fun j hj => absurd hj (by omega), rfl⟩
  case round =>
    obtain ⟨k, hk, rfl, hno, rfl⟩ := hrel
    have HNO := Lib.hid hno
    clear hno
    by_cases hlt : k < L.length
    · have hd : decide ((k : Int) < (L.length : Int)) = true := decide_eq_true (by omega)
      obtain ⟨b, off, rfl, hbb, hcells⟩ := H.out.2 (by omega)
      have hc := hcells k hlt
      have HME : Hid (L.getD k 0 ∈ L) := Lib.hid (by simp [List.getD, hlt])
      have HG : Hid (∀ y, L.getD k 0 = y → L.getD k 0 = y) := Lib.hid (fun _ h => h)
      generalize hy : L.getD k 0 = y at *
      have HY := Lib.hid hy
      clear hcells hy
      by_cases hxy : x = y
      · have he : (x == y) = true := by simpa using hxy
        have HX := Lib.hid hxy
        clear hxy
        go_wp2
        go_ret
        exact ⟨_, rfl, rfl, fun _ => by omega, fun hn => absurd (HX.out ▸ HME.out) hn⟩
      · have he : (x == y) = false := by simpa using hxy
        have HX := Lib.hid hxy
        clear hxy
        go_wp2
        go_roundw
        case rel => exact ⟨k + 1, by omega, by go_num, fun j hj => by
          rcases Nat.lt_or_ge j k with h1 | h1
          · exact HNO.out j h1
          · obtain rfl : j = k := by omega
            rw [HY.out]; exact fun e => HX.out e.symm, trivial⟩
        case measure => simp [intOf]; omega
    · have hkl : k = L.length := by omega
      subst hkl
      go_wp2
      go_ret
      exact ⟨_, rfl, rfl, fun hm => by
        obtain ⟨j, hj, e⟩ := List.mem_iff_getElem.1 hm
        exact absurd (by simp [List.getD, hj, e]) (HNO.out j hj), fun _ => rfl⟩
theorem containsI_any (A : Option Addr) (n c : Nat) (L : List Int) (x : Int) (w : World) (h : RdI w w.heap.size A n L) (hn : n ≤ 1048576) :
    Calls Tryz.prog 106 #[.slice A n c, .int .i64 x] w fun e w' => e = .returned (.bool (decide (x ∈ L))) ∧ w = w' := by
  have HI := Lib.hid (contains_any A n c L x w h hn)
  clear h
  go_enter Tryz.func106, Tryz.ntmps106
  go_wp2_with (fail)
  refine HI.out.mono ?_
  rintro e w' ⟨k, rfl, rfl, hin, hout⟩
  by_cases hm : x ∈ L
  · have hd : decide (0 ≤ k) = true := decide_eq_true (hin hm)
    have HE : Hid (decide (x ∈ L) = true) := Lib.hid (decide_eq_true hm)
    clear hin hout hm
    go_wp2
    go_ret
    exact ⟨ret_bool HE.out.symm, rfl⟩
  · have hd : decide (0 ≤ k) = false := decide_eq_false (by have := hout hm; omega)
    have HE : Hid (decide (x ∈ L) = false) := Lib.hid (decide_eq_false hm)
    clear hin hout hm
    go_wp2
    go_ret
    exact ⟨ret_bool HE.out.symm, rfl⟩

set_option maxRecDepth 100000 in
set_option maxHeartbeats 4000000 in
/-- without: a row of one's own of the headers that are left. -/
theorem without_any (A : Option Addr) (n c : Nat) (P : List (List Int)) (B : Option Addr) (m d : Nat) (L : List Int) (w : World) (h : RdQ w w.heap.size A n P) (h' : RdI w w.heap.size B m L) (hn : n ≤ 1000) (hm : m ≤ 1000) :
    Calls Tryz.prog 104 #[.slice A n c, .slice B m d] w (GivesV0 w (woL P L)) := by
  obtain ⟨i0, hi0, hz0, hz1, hz2⟩ := info_parts_s
  have hl := h.len
  subst hl
  have H := Lib.hid h; have H' := Lib.hid h'
  have HI := Lib.hid hi0; have HZ0 := Lib.hid hz0; have HZ1 := Lib.hid hz1; have HZ2 := Lib.hid hz2
  clear h h' hi0 hz0 hz1 hz2
  go_enter Tryz.func104, Tryz.ntmps104
  go_wp2
  go_loopw [5, 10] (fun o i wr => ∃ (k q : Nat) (Ar : Option Addr) (cr : Nat) (vs : List Value), k ≤ P.length ∧ i = .int .i64 k ∧ o = .slice Ar q cr ∧ q = (woK P L k).length ∧ wr.ownsRow w.heap.size 36 1 (.slice Ar q cr) q vs ∧ RdV w vs (woK P L k) ∧ Below w.heap.size w wr) (fun _ i _ => P.length - (intOf i).toNat)
  case atStart => exact ⟨0, 0, none, 0, [], Nat.zero_le _, rfl, rfl, rfl, World.ownsRow_nil _ _ _ _, RdV.nil w, Below.refl _ _⟩
  case round =>
    obtain ⟨k, q, Ar, cr, vs, hk, rfl, rfl, hq, ho, hr, hb⟩ := hrel
    have HO := Lib.hid ho; have HR := Lib.hid hr; have HB := Lib.hid hb; have HQ := Lib.hid hq
    have hq9 : q ≤ 1000 := by have := woK_len P L k; omega
    have hsz := hb.size
    clear ho hr hq
    by_cases hlt : k < P.length
    · have hd : decide ((k : Int) < (P.length : Int)) = true := decide_eq_true (by omega)
      obtain ⟨b, off, rfl, hbb, hcells⟩ := H.out.2 (by omega)
      obtain ⟨A', c', hcell, hcc, hrd⟩ := hcells k hlt
      have hc := (hb.cell (p := ⟨b, off + k, none⟩) hbb).trans hcell
      have HC := Lib.hid (containsI_any B m d L (k : Int) wr ((H'.out.below hb).more hsz) (by omega))
      by_cases hin : (k : Int) ∈ L
      · have hdd : decide ((k : Int) ∈ L) = true := decide_eq_true hin
        have HW := Lib.hid (woK_in (P := P) hin)
        rw [hdd] at HC
        clear hcells hrd hb hin hdd
        go_wp2_with (go_at_call 106; refine HC.out.mono ?_; rintro e w' ⟨rfl, rfl⟩)
        go_roundw
        case rel => exact ⟨k + 1, q, Ar, cr, vs, by omega, by go_num, rfl, by rw [HW.out]; exact HQ.out, HO.out, by rw [HW.out]; exact HR.out, HB.out⟩
        case measure => simp [intOf]; omega
      · have hdd : decide ((k : Int) ∈ L) = false := decide_eq_false hin
        have HW := Lib.hid (woK_out (P := P) hin)
        have HS := Lib.hid (RdV.app HR.out (RdV.single hrd hcc))
        rw [hdd] at HC
        have HWL : Hid ((woK P L (k + 1)).length = q + 1) := Lib.hid (by rw [HW.out, List.length_append, ← HQ.out]; rfl)
        generalize (P.getD k []).length = M at *
        obtain ⟨w6, hw6⟩ : ∃ w6, w6 = wr.alloc (.cells #[Value.slice A' M c'] 36) := ⟨_, rfl⟩
        have b6 : Below w.heap.size w w6 := by rw [hw6]; exact HB.out.alloc hsz _
        have o6 : w6.ownsRow w.heap.size 36 1 (.slice Ar q cr) q vs := own_below HO.out (by rw [hw6]; exact (Below.refl _ _).alloc (Nat.le_refl _) _) (Nat.le_refl _)
        have n6 : ∀ j u, [Value.slice A' M c'][j]? = some u → w6.cell? ((⟨wr.heap.size, 0, none⟩ : Addr).add j) = some u := by rw [hw6]; exact World.news_of_block (heap_alloc_new wr (.cells #[.slice A' M c'] 36))
        have HW6 := Lib.hid hw6; have HB6 := Lib.hid b6; have HO6 := Lib.hid o6; have HN6 := Lib.hid n6
        have hs6 : w.heap.size ≤ w6.heap.size := b6.size
        clear hcells hrd hb hin hdd hw6 b6 o6 n6
        go_wp2_with (first
          | (go_at_call 106; refine HC.out.mono ?_; rintro e w' ⟨rfl, rfl⟩)
          | (at_builtin; rw [← HW6.out]; refine wpList_append_own _ rfl _ _ 23 rfl w.heap.size 36 i0 (.slice none 0 0) 1 24 Tryz.underlying23 HI.out HZ0.out HZ1.out HZ2.out rfl (by decide) _ _ _ rfl HO6.out ⟨wr.heap.size, 0, none⟩ 1 1 [.slice A' M c'] rfl rfl HN6.out (by simp [Value.oneCell']) (by unfold maxLen; omega) (by omega) hs6 ?_; intro v7 w7 hown7 hgrow7 _; obtain ⟨A7, c7, rfl, hb7, ho7⟩ := rowv_more HB6.out hs6 HO6.out hown7 hgrow7; have HB7 := Lib.hid hb7; have HO7 := Lib.hid ho7; clear hown7 hgrow7 hb7 ho7))
        go_roundw
        case rel => exact ⟨k + 1, q + 1, A7, c7, vs ++ [.slice A' M c'], by omega, by go_num, rfl, HWL.out.symm, HO7.out, by rw [HW.out]; exact HS.out, HB7.out⟩
        case measure => simp [intOf]; omega
    · have hkl : k = P.length := by omega
      subst hkl
      have HQ2 : Hid (q = (woL P L).length) := Lib.hid HQ.out
      clear hb
      go_wp2
      go_ret
      exact ⟨Ar, cr, vs, by rw [← HQ2.out]; rfl, by rw [← HQ2.out]; exact HO.out, HR.out, HB.out⟩
end
section
open Go.ChangeAt Go.ChangeShapes Go.RowKit Go.WideShapes

set_option maxHeartbeats 1000000 in
theorem copyInts_nil (A : Option Addr) (c : Nat) (w : World) : Calls Tryz.prog 44 #[.slice A 0 c] w (Gives w []) := by
  obtain ⟨i0, hi0, hz0, hz1, hz2⟩ := info_parts info_i64
  have hb0 : Below w.heap.size w (w.alloc (.cells #[] 2)) := (Below.refl _ _).alloc (Nat.le_refl _) _
  have H0 := Lib.hid (World.ownsRow_made (e := 2) (base := w.heap.size) (size := 1) w #[] 0 (Nat.le_refl _) (by simp [maxLen]) rfl)
  have HB0 := Lib.hid hb0
  have HI := Lib.hid hi0; have HZ0 := Lib.hid hz0; have HZ1 := Lib.hid hz1; have HZ2 := Lib.hid hz2
  clear hb0 hi0 hz0 hz1 hz2
  cases A with
  | none =>
    go_enter Tryz.func44, Tryz.ntmps44
    go_wp2
    go_ret
    exact ⟨_, _, rfl, H0.out, HB0.out⟩
  | some ad =>
    go_enter Tryz.func44, Tryz.ntmps44
    go_wp2_with (at_builtin; refine wpList_append_own _ rfl _ _ 36 rfl w.heap.size 2 i0 (.int .i64 0) 1 8 Tryz.underlying36 HI.out HZ0.out HZ1.out HZ2.out rfl (by decide) _ _ _ rfl H0.out ad 0 c [] rfl rfl (by simp) (by simp) (by simp [maxLen]) (by simp) HB0.out.size ?_; intro v2 w2 hown2 hgrow2 _; obtain ⟨A2, c2, rfl⟩ := own_shape hown2; have HO := Lib.hid hown2; have HB := Lib.hid (HB0.out.grown hgrow2 HB0.out.size (fun q hq => (H0.out.lt q hq).1)); clear hown2 hgrow2)
    go_ret
    exact ⟨_, _, rfl, HO.out, HB.out⟩
theorem copyInts_x (A : Option Addr) (n c : Nat) (zs : List Int) (w : World) (h : RdI w w.heap.size A n zs) (hn : n ≤ 1000) : Calls Tryz.prog 44 #[.slice A n c] w (Gives w zs) := by
  have hl := h.len
  by_cases h0 : n = 0
  · subst h0
    obtain rfl : zs = [] := List.eq_nil_of_length_eq_zero hl
    exact copyInts_nil A c w
  · exact copyInts_any (.slice A n c) zs w (Part.of_rd h (by omega)) (by omega)
end
section
open Go.ChangeAt Go.ChangeShapes Go.RowKit Go.WideShapes

theorem lit_own (w : World) (x : Int) : (w.alloc (.cells #[Value.int .i64 x] 2)).ownsRow w.heap.size 2 1 (.slice (some ⟨w.heap.size, 0, none⟩) 1 1) 1 [Value.int .i64 x] :=
  ⟨rfl, .inr ⟨w.heap.size, 1, #[Value.int .i64 x], rfl, Nat.le_refl _, heap_alloc_new _ _, Nat.le_refl _, by decide, rfl, rfl⟩⟩
theorem grow_zero (w : World) : Calls Tryz.prog 111 #[.slice none 0 0, .int .i64 0] w fun e w' => e = .returned (.slice none 0 0) ∧ w = w' := by
  go_enter Tryz.func111, Tryz.ntmps111
  go_wp2
  go_ret
  exact ⟨rfl, rfl⟩
theorem concat_nil (w : World) : Calls Tryz.prog 110 #[.slice none 0 0] w fun e w' => e = .returned (.slice none 0 0) ∧ w = w' := by
  go_enter Tryz.func110, Tryz.ntmps110
  go_wp2
  go_loopw [3, 11] (fun s i wr => s = .int .i64 0 ∧ i = .int .i64 0 ∧ w = wr) (fun _ _ _ => 0)
  case atStart => exact ⟨rfl, rfl, rfl⟩
  case round =>
    obtain ⟨rfl, rfl, rfl⟩ := hrel
    go_wp2_with (go_at_call 111; refine (grow_zero _).mono ?_; rintro e w' ⟨rfl, rfl⟩)
    go_loopw [6, 27] (fun s i wr => s = .slice none 0 0 ∧ i = .int .i64 0 ∧ w = wr) (fun _ _ _ => 0)
    case atStart => exact ⟨rfl, rfl, rfl⟩
    case round =>
      obtain ⟨rfl, rfl, rfl⟩ := hrel
      go_wp2
      go_ret
      exact ⟨rfl, rfl⟩

/-- formOf at operands that are none. -/
theorem formOf_nil (op : Int) (w : World) : Calls Tryz.prog 109 #[.int .i64 op, .slice none 0 0] w (Gives w [op]) := by
  obtain ⟨i0, hi0, hz0, hz1, hz2⟩ := info_parts info_i64
  obtain ⟨w1, hw1⟩ : ∃ w1, w1 = w.alloc (.cells #[Value.int .i64 op] 2) := ⟨_, rfl⟩
  have hb1 := al hw1
  have ho1 : w1.ownsRow w.heap.size 2 1 (.slice (some ⟨w.heap.size, 0, none⟩) 1 1) 1 [Value.int .i64 op] := by rw [hw1]; exact lit_own w op
  have HW1 := Lib.hid hw1; have HB1 := Lib.hid hb1; have HO1 := Lib.hid ho1
  clear hw1 hb1 ho1
  go_enter Tryz.func109, Tryz.ntmps109
  go_wp2_with (first
    | (go_at_call 110; rw [← HW1.out]; refine (concat_nil _).mono ?_; rintro e w' ⟨rfl, rfl⟩)
    | (at_builtin; refine wpList_append_own_none rfl _ _ 36 rfl w.heap.size 2 i0 1 Tryz.underlying36 hi0 _ _ _ rfl HO1.out rfl ?_))
  go_ret
  exact ⟨_, _, rfl, HO1.out, HB1.out⟩

set_option maxHeartbeats 1000000 in
/-- formOf: the operator, then its operands. -/
theorem formOf_any (op : Int) (g m c : Nat) (vs : List Value) (ls : List (List Int)) (w : World) (hm : ls.length = m) (hm0 : 0 < m) (hmx : m ≤ 1000)
    (hcell : ∀ i, i < m → w.cell? ⟨g, i, none⟩ = some (vs.getD i undef)) (hgB : g < w.heap.size) (hpart : ∀ i, i < m → Part w w.heap.size (vs.getD i undef) (ls.getD i [])) (htot : ls.flatten.length ≤ 1000) (hpos : 0 < ls.flatten.length) :
    Calls Tryz.prog 109 #[.int .i64 op, .slice (some ⟨g, 0, none⟩) m c] w (Gives w (op :: ls.flatten)) := by
  obtain ⟨i0, hi0, hz0, hz1, hz2⟩ := info_parts info_i64
  have HI := Lib.hid hi0; have HZ0 := Lib.hid hz0; have HZ1 := Lib.hid hz1; have HZ2 := Lib.hid hz2
  obtain ⟨w1, hw1⟩ : ∃ w1, w1 = w.alloc (.cells #[Value.int .i64 op] 2) := ⟨_, rfl⟩
  have hb1 := al hw1
  have ho1 : w1.ownsRow w.heap.size 2 1 (.slice (some ⟨w.heap.size, 0, none⟩) 1 1) 1 [Value.int .i64 op] := by rw [hw1]; exact lit_own w op
  have hs1 : w1.heap.size = w.heap.size + 1 := by rw [hw1]; simp
  have HC := Lib.hid (concat_any g m c vs ls w1 hm hm0 hmx (fun i hi => (hb1.cell (p := ⟨g, i, none⟩) hgB).trans (hcell i hi)) (by omega) (fun i hi => ((hpart i hi).below hb1).more (by omega)) htot)
  have HW1 := Lib.hid hw1; have HB1 := Lib.hid hb1; have HO1 := Lib.hid ho1
  obtain ⟨T, hT⟩ : ∃ T, ls.flatten = T := ⟨_, rfl⟩
  rw [hT] at HC htot hpos ⊢
  clear hw1 hb1 ho1 hi0 hz0 hz1 hz2 hcell hpart hT
  go_enter Tryz.func109, Tryz.ntmps109
  go_wp2_with (go_at_call 110; fail)
  rw [← HW1.out]
  refine HC.out.mono ?_
  rintro e w2 ⟨A2, c2, rfl, o2, bel2⟩
  obtain ⟨b2, off2, c2', he, hb2, hc2⟩ : ∃ b off c', (Value.slice A2 T.length c2) = .slice (some ⟨b, off, none⟩) T.length c' ∧ b < w2.heap.size ∧ ∀ j, j < T.length → w2.cell? ⟨b, off + j, none⟩ = some (.int .i64 (T.getD j 0)) := by
    obtain ⟨b, off, e, hbb, hcc⟩ := (RdI.of_own o2).2 hpos
    exact ⟨b, off, c2, by rw [e], hbb, hcc⟩
  injection he with e1 e2 e3
  subst e1; subst e3
  have HN := Lib.hid (part_news hc2)
  have HO2 := Lib.hid (own_below HO1.out bel2 (Nat.le_refl _))
  have HB2 := Lib.hid (HB1.out.trans (bel2.mono HB1.out.size))
  have HHO := Lib.hid (ints_one T)
  have HLN : Hid ((T.map (Value.int .i64)).length = T.length * 1) := Lib.hid (by simp)
  have hs2 : w.heap.size ≤ w2.heap.size := HB2.out.size
  clear hc2 o2 bel2
  go_wp2_with (at_builtin; refine wpList_append_own _ rfl _ _ 36 rfl w.heap.size 2 i0 (.int .i64 0) 1 8 Tryz.underlying36 HI.out HZ0.out HZ1.out HZ2.out rfl (by decide) _ _ _ rfl HO2.out ⟨b2, off2, none⟩ T.length c2 (T.map (Value.int .i64)) rfl HLN.out HN.out HHO.out (by unfold maxLen; omega) (by omega) hs2 ?_; intro v7 w7 hown7 hgrow7 _)
  obtain ⟨A7, c7, rfl⟩ := own_shape hown7
  have HB7 := Lib.hid (HB2.out.grown hgrow7 hs2 (fun k hk => (HO2.out.lt k hk).1))
  have e : 1 + T.length = (op :: T).length := by rw [List.length_cons]; omega
  rw [e] at hown7 ⊢
  have HO7 := Lib.hid hown7
  clear hown7 hgrow7 e
  go_wp2
  go_ret
  exact ⟨A7, c7, rfl, HO7.out, HB7.out⟩
end
end Go.Proofs.YthbkcpacgnmcfaaGreatDoor
