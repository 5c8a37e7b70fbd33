/- The program's without at numbers, and joinsConclusions. RenumberNet of the model. Permutations by sorting; a net placed under permuted numbers. Plain mathematics. The program's isPermutation: slices.Sort at a row of one's own. The program's RenumberNet. The sequent of the conclusions of a net, of the model. -/
import Derived.Test.YtdcommmefehlgaaDoorQNetW
import Derived.Test.YtdcommmefehlgaaDoorNetT
import Derived.Test.YtdcommmefehlgaaDoorQPgG
import Derived.Test.YtdcommmefehlgaaDoorQSubA
import Derived.Test.YtdcommmefehlgaaDoorShelfI
import Derived.Lib.OwnBridge
import Derived.Test.YtdcommmefehlgaaDoorQPgK
import Derived.Test.YtdcommmefehlgaaDoorPgO
import Derived.Test.YtdcommmefehlgaaDoorQNetK
import Derived.Test.YtdcommmefehlgaaDoorQNetA
import Derived.Test.YtdcommmefehlgaaDoorQSeqV
import Derived.Test.YtdcommmefehlgaaDoorQNetO
import Derived.Deep.RegionHeldLaw
namespace Go.Proofs.YtdcommmefehlgaaDoor
set_option linter.unusedSimpArgs false
set_option linter.unusedVariables false
section
set_option linter.unusedSimpArgs false
set_option linter.unusedVariables false
open Go.ChangeAt Go.ChangeShapes Go.RowKit Go.WideShapes

set_option maxHeartbeats 4000000 in
theorem withoutI_any (A : Option Addr) (n c : Nat) (cs : List Int) (B : Option Addr) (d : Nat) (i j : Int) (w : World) (r : RdI w w.heap.size A n cs) (r2 : RdI w w.heap.size B 2 [i, j]) (hn : n ≤ 1048576) :
    Calls Tryd.prog 60 #[.slice A n c, .slice B 2 d] w (Gives w (lessL cs i j)) := by
  obtain ⟨i0, hi0, hz0, hz1, hz2⟩ := info_parts info_i64
  have HI := Lib.hid hi0; have HZ0 := Lib.hid hz0; have HZ1 := Lib.hid hz1; have HZ2 := Lib.hid hz2
  have hl := r.len
  subst hl
  have H := Lib.hid r; have H2 := Lib.hid r2
  have HLL : Hid (lessL cs i j = lessU cs i j cs.length) := Lib.hid rfl
  rw [HLL.out]
  clear r r2 hi0 hz0 hz1 hz2
  go_enter Tryd.func60, Tryd.ntmps60
  go_wp2
  go_loopw [5, 10] (fun v t wx => ∃ k : Nat, k ≤ cs.length ∧ t = .int .i64 k ∧ wx.ownsRow w.heap.size 2 1 v (lessU cs i j k).length ((lessU cs i j k).map (Value.int .i64)) ∧ Below w.heap.size w wx) (fun _ t _ => cs.length - (intOf t).toNat)
  case atStart => exact ⟨0, Nat.zero_le _, rfl, World.ownsRow_nil _ _ _ _, Below.refl _ _⟩
  case round =>
    obtain ⟨k, hk, rfl, hO, hB⟩ := hrel
    by_cases hlt : k < cs.length
    · obtain ⟨b, off, rfl, hbb, hcells⟩ := H.out.2 (by omega)
      have hc := (hB.cell (p := ⟨b, off + k, none⟩) hbb).trans (hcells k hlt)
      have HC := containsI_any B 2 d [i, j] (k : Int) wr ((H2.out.below hB).more hB.size) (by omega)
      have hln := lessU_len cs i j k
      have hyes := fun e => lessU_yes (cs := cs) (i := i) (j := j) (k := k) e
      have hno := fun e => lessU_no (cs := cs) (i := i) (j := j) (k := k) e
      obtain ⟨z, hz⟩ : ∃ z, cs.getD k 0 = z := ⟨_, rfl⟩
      rw [hz] at hc hyes
      have hdec : decide ((k : Int) ∈ [i, j]) = !((k : Int) != i && (k : Int) != j) := by
        rw [Bool.eq_iff_iff]
        simp
      rw [hdec] at HC
      cases hb : ((k : Int) != i && (k : Int) != j) with
      | false =>
        rw [hb] at HC
        have HCN := Lib.hid HC
        have HO := hO
        rw [← hno hb] at HO
        have HO2 := Lib.hid HO; have HB := Lib.hid hB
        clear HC hO hB hcells hz hyes hno hb hdec HO
        go_wp2_with (fail)
        refine HCN.out.mono ?_
        rintro e w1 ⟨rfl, rfl⟩
        go_wp2
        go_roundw
        case rel => exact ⟨k + 1, by omega, by go_num, HO2.out, HB.out⟩
        case measure => simp [intOf]; omega
      | true =>
        rw [hb] at HC
        have HCN := Lib.hid HC
        have HS := Lib.hid (hyes hb)
        have HLN : Hid ((lessU cs i j (k + 1)).length = (lessU cs i j k).length + 1) := Lib.hid (by rw [HS.out]; simp)
        have HO1 := Lib.hid hO; have HB := Lib.hid hB
        have hsz1 := hB.size
        clear HC hO hB hcells hz hyes hno hb hdec
        go_wp2_with (fail)
        refine HCN.out.mono ?_
        rintro e w1 ⟨rfl, rfl⟩
        go_wp2_with (at_builtin; refine wpList_append_own _ rfl _ _ 24 rfl w.heap.size 2 i0 (.int .i64 0) 1 8 Tryd.underlying24 HI.out HZ0.out HZ1.out HZ2.out rfl (by decide) _ _ _ rfl (HO1.out.alloc _) ⟨wr.heap.size, 0, none⟩ 1 1 [.int .i64 z] rfl rfl ?c1 ?c2 ?c3 ?c4 ?c5 ?_)
        (try (case c1 => exact cell_one_new _ _ _))
        case c2 => first | rfl | (intro u hu; simp at hu; subst hu; rfl)
        case c3 => unfold maxLen; omega
        case c4 => omega
        case c5 => first | omega | (simp; omega)
        intro v' w2 hown' hgrow _
        have hb2 := Lib.hid ((HB.out.alloc hsz1 (.cells #[.int .i64 z] 2)).grown hgrow (by simp; omega) (fun q hq => (HO1.out.lt q hq).1))
        have hown2 : w2.ownsRow w.heap.size 2 1 v' (lessU cs i j (k + 1)).length ((lessU cs i j (k + 1)).map (Value.int .i64)) := by
          rw [HLN.out, HS.out, List.map_append]; exact hown'
        have hown1 := Lib.hid hown2
        clear hown' hgrow hown2 hsz1
        go_wp2
        go_roundw
        case rel => exact ⟨k + 1, by omega, by go_num, hown1.out, hb2.out⟩
        case measure => simp [intOf]; omega
    · have hkl : k = cs.length := by omega
      subst hkl
      have HG := Lib.hid (gives_own hO (Nat.le_refl _) hB)
      clear hO hB
      go_wp2
      go_ret
      exact HG.out
theorem joins_any (k : Int) (w : World) : Calls Tryd.prog 57 #[.int .i64 k] w fun e w' => e = .returned (.bool (kindB k)) ∧ w = w' := by
  by_cases h2 : k = 2
  · subst h2
    go_enter Tryd.func57, Tryd.ntmps57
    go_wp2
    go_ret
    exact ⟨rfl, rfl⟩
  · have d2 : (k == 2) = false := by simpa using h2
    by_cases h3 : k = 3
    · subst h3
      clear h2
      go_enter Tryd.func57, Tryd.ntmps57
      go_wp2
      go_ret
      exact ⟨rfl, rfl⟩
    · have d3 : (k == 3) = false := by simpa using h3
      by_cases h4 : k = 4
      · subst h4
        clear h2 h3
        go_enter Tryd.func57, Tryd.ntmps57
        go_wp2
        go_ret
        exact ⟨rfl, rfl⟩
      · have d4 : (k == 4) = false := by simpa using h4
        have HR : Hid (false = kindB k) := Lib.hid (by unfold kindB; rw [decide_eq_false (by omega)])
        clear h2 h3 h4
        go_enter Tryd.func57, Tryd.ntmps57
        go_wp2
        go_ret
        exact ⟨ret_bool HR.out, rfl⟩
end
section
open Go.ChangeAt Go.ChangeShapes Go.RowKit Go.WideShapes

/-- RenumberNet. -/
def rnB (N : Nt) (P R : List Int) : Bool := valN N && (permB P N.w.length && permB R N.l.length)
def rnV (N : Nt) (P R : List Int) : Nt := if rnB N P R = true then rnN N P R else Nt.nil
theorem rnV_no {N : Nt} {P R : List Int} (h : rnB N P R = false) : rnV N P R = Nt.nil := by unfold rnV; rw [h]; rfl
theorem rnV_yes {N : Nt} {P R : List Int} (h : rnB N P R = true) : rnV N P R = rnN N P R := by unfold rnV; rw [if_pos h]
theorem permB_all {xs : List Int} {n : Nat} (h : permB xs n = true) : xs.all (inW n) = true ∧ xs.length = n := by
  unfold permB perm1 at h
  simp only [Bool.and_eq_true, List.take_length] at h
  exact ⟨h.1.1, of_decide_eq_true h.2⟩
end
section
set_option linter.unusedSimpArgs false
set_option linter.unusedVariables false
open Go.ChangeAt Go.ChangeShapes Go.RowKit Go.WideShapes

def srtI (xs : List Int) : List Int := xs.mergeSort fun x y => decide (x ≤ y)
theorem srtI_perm (xs : List Int) : (srtI xs).Perm xs := List.mergeSort_perm xs _
theorem srtI_le (xs : List Int) : (srtI xs).Pairwise (· ≤ ·) :=
  (List.pairwise_mergeSort (le := fun x y : Int => decide (x ≤ y)) (fun a b c h1 h2 => by simp only [decide_eq_true_eq] at *; omega) (fun a b => by simp only [Bool.or_eq_true, decide_eq_true_eq]; omega) xs).imp fun h => by simpa using h
theorem markL_nat (n : Nat) : (markL 0 n).map Int.toNat = List.range n := by
  unfold markL
  rw [List.map_map]
  conv => rhs; rw [← List.map_id (List.range n)]
  apply List.map_congr_left
  intro i _
  simp only [Function.comp, id]
  omega
theorem permB_all' {xs : List Int} {n : Nat} : permB xs n = true ↔ (∀ x ∈ xs, inW n x = true) ∧ (xs.map Int.toNat).Nodup ∧ xs.length = n := by
  unfold permB perm1
  rw [List.take_length]
  simp only [Bool.and_eq_true, List.all_eq_true, decide_eq_true_eq, and_assoc]
theorem permB_sort (xs : List Int) (n : Nat) : permB xs n = decide (srtI xs = markL 0 n) := by
  have hp := srtI_perm xs
  by_cases h : srtI xs = markL 0 n
  · rw [decide_eq_true h, permB_all']
    rw [h] at hp
    refine ⟨fun x hx => ?_, ?_, ?_⟩
    · have hm := hp.mem_iff.2 hx
      unfold markL at hm
      obtain ⟨i, hi, rfl⟩ := List.mem_map.1 hm
      have := List.mem_range.1 hi
      unfold inW
      exact decide_eq_true (by omega)
    · rw [← (hp.map Int.toNat).nodup_iff, markL_nat]
      exact List.nodup_range
    · rw [← hp.length_eq, markL_len]
  · rw [decide_eq_false h]
    cases hb : permB xs n with
    | false => rfl
    | true =>
      refine absurd ?_ h
      obtain ⟨h1, h2, h3⟩ := permB_all'.1 hb
      have hl : (srtI xs).length = n := by rw [hp.length_eq, h3]
      have hn : (srtI xs).Nodup := hp.nodup_iff.2 (List.Pairwise.of_map _ (fun a b e e2 => e (by rw [e2])) h2)
      have hs : (srtI xs).Pairwise (· < ·) := ((srtI_le xs).and hn).imp fun {a b} h => by
        have h1 := h.1
        have h2 : a ≠ b := h.2
        omega
      have := strict_mark (srtI xs) 0 hs fun y hy => by
        obtain ⟨h4, h5, _⟩ := inW_yes (h1 y (hp.mem_iff.1 hy))
        omega
      rw [this, hl]
theorem permB_hits {xs : List Int} {n : Nat} (h : permB xs n = true) (i : Nat) (hi : i < n) : ∃ t, t < xs.length ∧ (xs.getD t 0).toNat = i := by
  have h1 := of_decide_eq_true ((permB_sort xs n).symm.trans h)
  have hm : (i : Int) ∈ xs := by
    rw [← (srtI_perm xs).mem_iff, h1]
    unfold markL
    exact List.mem_map.2 ⟨i, List.mem_range.2 hi, by omega⟩
  obtain ⟨t, ht, e⟩ := List.getElem_of_mem hm
  refine ⟨t, ht, ?_⟩
  simp [List.getD, ht, e]
theorem rnC_is (N : Nt) (P : List Int) : ∀ k, k ≤ N.c.length → rnC N P k = ((N.c.take k).map fun x => P.getD x.toNat 0) ++ N.c.drop k
  | 0, _ => by simp [rnC]
  | k + 1, hk => by
    have hl : ((N.c.take k).map fun x => P.getD x.toNat 0).length = k := by rw [List.length_map, List.length_take]; omega
    have hd : N.c.drop k = N.c.getD k 0 :: N.c.drop (k + 1) := by
      rw [List.drop_eq_getElem_cons (by omega)]
      simp [List.getD, show k < N.c.length by omega]
    rw [rnC_step, rnC_is N P k (by omega), List.set_append_right _ _ (by omega), hl, Nat.sub_self, hd, List.set_cons_zero, takeL_succ (d := 0) (by omega), List.map_append, List.append_assoc]
    rfl
theorem rnN_place {N : Nt} {P R : List Int} (hv : valN N = true) (hP : permB P N.w.length = true) (hR : permB R N.l.length = true) : plN P R N (roomN N.w.length N.l.length) = rnN N P R := by
  have hPl := (permB_all hP).2
  have hRl := (permB_all hR).2
  unfold plN rnN roomN
  have e1 : plS [] P N.w N.w.length (List.replicate N.w.length []) = rnW N P N.w.length := plS_all (by simp) fun i hi => by
    rw [List.length_replicate] at hi
    have := permB_hits hP i hi
    rwa [hPl] at this
  have e2 : plS Lk.nil R (N.l.map (mapL P)) N.l.length (List.replicate N.l.length Lk.nil) = rnL N P R N.l.length := by
    rw [plS_all (T' := N.l) (by simp) fun i hi => by
      rw [List.length_replicate] at hi
      have := permB_hits hR i hi
      rwa [hRl] at this]
    unfold plS rnL
    have hf : ∀ t, t < N.l.length → (N.l.map (mapL P)).getD t Lk.nil = mapK P (N.l.getD t Lk.nil) := fun t ht => by
      have hk := all_at (d := Lk.nil) (valN_fits hv) ht
      have h1 := fitsN_kind hk
      have h2 := (fitsN_yes hk).2.2.2
      have e : (N.l.map (mapL P)).getD t Lk.nil = mapL P (N.l.getD t Lk.nil) := by simp [List.getD, ht]
      rw [e]
      generalize N.l.getD t Lk.nil = l at *
      unfold mapL mapK
      by_cases h3 : l.k = 3 ∨ l.k = 4
      · rw [if_pos h3, if_pos h3]
      · rw [if_neg h3, if_neg h3]
        have h12 : l.k = 1 ∨ l.k = 2 := by omega
        unfold rightN at h2
        rw [if_pos h12, Bool.and_eq_true] at h2
        rw [of_decide_eq_true h2.1]
    have gen : ∀ (L : List Nat) (T : List Lk), (∀ t ∈ L, t < N.l.length) → L.foldl (fun acc t => acc.set (R.getD t 0).toNat ((N.l.map (mapL P)).getD t Lk.nil)) T = L.foldl (fun acc t => acc.set (R.getD t 0).toNat (mapK P (N.l.getD t Lk.nil))) T := by
      intro L
      induction L with
      | nil => intro T _; rfl
      | cons t L ih =>
        intro T h
        rw [List.foldl_cons, List.foldl_cons, hf t (h t (List.mem_cons_self ..))]
        exact ih _ fun s hs => h s (List.mem_cons_of_mem _ hs)
    exact gen _ _ fun t ht => List.mem_range.1 ht
  have e3 : ([] : List Int) ++ N.c.map (fun x => P.getD x.toNat 0) = rnC N P N.c.length := by
    rw [rnC_is N P _ (Nat.le_refl _), List.take_length, List.drop_length]
    simp
  rw [e1, e2, e3]
end
section
set_option linter.unusedSimpArgs false
set_option linter.unusedVariables false
open Go.ChangeAt Go.ChangeShapes Go.RowKit Go.WideShapes Go.Shelf Go.Lib Go.Sort

theorem sortI_any (g c lo : Nat) (xs : List Int) (w : World) (own : w.ownsRow lo 2 1 (.slice (some ⟨g, 0, none⟩) xs.length c) xs.length (xs.map (Value.int .i64))) (h0 : 0 < xs.length) (hn : xs.length ≤ 1048576) :
    Calls Tryd.prog 96 #[.slice (some ⟨g, 0, none⟩) xs.length c] w fun e w' => e = .returned (.tuple #[]) ∧ w'.ownsRow lo 2 1 (.slice (some ⟨g, 0, none⟩) xs.length c) xs.length ((srtI xs).map (Value.int .i64)) ∧ Below lo w w' := by
  have hg := own.lt g rfl
  have hH : Holds (Value.int .i64) w g 0 xs.toArray := fun j hj => by
    have hj' : j < xs.length := by simpa using hj
    have h1 := own.frozenAt j
    have h2 := own.cellAt j (by omega)
    rw [Nat.zero_add]
    refine ⟨?_, h1⟩
    rw [h2]
    simp [getElem!_pos, hj']
  have hC := AnyM.slices_Sort_int Tryd.sortI g 0 c xs w hH hg.2 (by omega)
  refine (show Calls Tryd.prog 96 _ _ _ from hC).mono ?_
  rintro e w' ⟨he, m, os, rfl⟩
  refine ⟨he, ?_⟩
  have hlen : (srtI xs).length = xs.length := (srtI_perm xs).length_eq
  have ho := ownsRow_putRow (q := m) (k := xs.length) (ys := srtI xs) own hlen (Nat.le_refl _)
  rw [List.take_of_length_le (by omega)] at ho
  have hgl : (putRow (Value.int .i64) (Sort.ahead w m) g 0 (srtI xs).toArray).heap.size = w.heap.size := by simp [putRow, mapBlock, Sort.ahead]
  have hkeep : ∀ k, k ≠ g → k < w.heap.size → (grow (putRow (Value.int .i64) (Sort.ahead w m) g 0 (srtI xs).toArray) os).heap[k]? = w.heap[k]? := by
    intro k hk hkl
    rw [heap_grow_old _ _ (by simp [putRow, mapBlock, Sort.ahead]; exact hkl)]
    have hk' : ¬ g = k := fun e => hk e.symm
    simp [putRow, mapBlock, Sort.ahead, Array.getElem?_modify, hk']
  refine ⟨?_, ⟨rfl, rfl, rfl, ?_, fun k hk => hkeep k (by omega) (by omega)⟩⟩
  · exact own_same ho fun k e => by
      obtain rfl : g = k := by simpa [Value.ownBlock] using e
      exact heap_grow_old _ _ (Nat.lt_of_lt_of_eq hg.2 hgl.symm)
  · show w.heap.size ≤ (grow _ os).heap.size
    rw [size_grow]
    simp [putRow, mapBlock, Sort.ahead]
theorem sortI_x (A : Option Addr) (c : Nat) (xs : List Int) (w w0 : World) (hb : Below w0.heap.size w0 w) (own : w.ownsRow w0.heap.size 2 1 (.slice A xs.length c) xs.length (xs.map (Value.int .i64))) (hn : xs.length ≤ 1048576) :
    Calls Tryd.prog 96 #[.slice A xs.length c] w fun e w' => e = .returned (.tuple #[]) ∧ w'.ownsRow w0.heap.size 2 1 (.slice A xs.length c) (srtI xs).length ((srtI xs).map (Value.int .i64)) ∧ Below w0.heap.size w0 w' := by
  have hlen : (srtI xs).length = xs.length := (srtI_perm xs).length_eq
  by_cases h0 : 0 < xs.length
  · obtain ⟨g, cap, hv, _, _⟩ := own.form h0
    obtain ⟨rfl, rfl⟩ : A = some ⟨g, 0, none⟩ ∧ c = cap := by injection hv with a b c'; exact ⟨a, c'⟩
    refine (sortI_any g c w0.heap.size xs w own h0 hn).mono ?_
    rintro e w' ⟨he, o, b⟩
    exact ⟨he, by rw [hlen]; exact o, hb.trans b⟩
  · have e0 : xs.length = 0 := by omega
    obtain rfl : xs = [] := List.eq_nil_of_length_eq_zero e0
    have hs : srtI [] = [] := List.eq_nil_of_length_eq_zero hlen
    refine (show Calls Tryd.prog 96 #[.slice A 0 c] w _ from AnyM.slices_Sort_int_none Tryd.sortI A c w).mono ?_
    rintro e w' ⟨he, rfl⟩
    exact ⟨he, by rw [hs]; exact own, hb⟩
set_option maxHeartbeats 2000000 in
theorem isPerm_any (A : Option Addr) (m c n : Nat) (xs : List Int) (w : World) (r : RdI w w.heap.size A m xs) (hm : m ≤ 1048576) (hn : n ≤ 1048576) :
    Calls Tryd.prog 76 #[.slice A m c, .int .i64 n] w fun e w' => e = .returned (.bool (permB xs n)) ∧ Below w.heap.size w w' := by
  have hl := r.len
  subst hl
  have HC := Lib.hid (clone_x A xs.length c xs w r hm)
  have hlen : (srtI xs).length = xs.length := (srtI_perm xs).length_eq
  have hbv : permB xs n = decide (srtI xs = markL 0 n) := permB_sort xs n
  rw [hbv]
  obtain ⟨bv, hb2⟩ : ∃ b, decide (srtI xs = markL 0 n) = b := ⟨_, rfl⟩
  rw [hb2]
  have HB2 := Lib.hid hb2
  clear hb2
  have HM : Hid (xs.length ≤ 1048576) := Lib.hid hm; have HN := Lib.hid hn; have HLN := Lib.hid hlen
  clear r hbv hm hn hlen
  go_enter Tryd.func76, Tryd.ntmps76
  go_wp2_with (fail)
  refine HC.out.mono ?_
  rintro e w1 ⟨A1, c1, rfl, o1, b1⟩
  have HS := Lib.hid (sortI_x A1 c1 xs w1 w b1 o1 HM.out)
  clear o1 b1
  go_wp2_with (fail)
  refine HS.out.mono ?_
  rintro e w2 ⟨rfl, o2, b2⟩
  have O2 := Lib.hid o2; have B2 := Lib.hid b2
  have HNF := Lib.hid (show Calls Tryd.prog 45 #[.int .i64 0, .int .i64 n] w2 (Gives w2 (markL 0 n)) from numbersFrom_any 0 n w2 (by omega) HN.out)
  clear o2 b2
  go_wp2_with (fail)
  refine HNF.out.mono ?_
  rintro e w3 ⟨A3, c3, rfl, o3, b3⟩
  have hrd : RdI w3 w3.heap.size A1 xs.length (srtI xs) := by
    have h2 : w2.ownsRow w.heap.size 2 1 (.slice A1 (srtI xs).length c1) (srtI xs).length ((srtI xs).map (Value.int .i64)) := by
      have := O2.out
      rwa [← HLN.out] at this
    have := ((RdI.of_own h2).below b3).more b3.size
    rwa [HLN.out] at this
  have heq := eqI_b A1 A3 xs.length (markL 0 n).length c1 c3 (srtI xs) (markL 0 n) w3 hrd (RdI.of_own o3) HM.out (by rw [markL_len]; exact HN.out)
  rw [HB2.out] at heq
  have HEQ := Lib.hid heq
  have B3 := Lib.hid (B2.out.trans (b3.mono B2.out.size))
  clear o3 b3 hrd heq
  go_wp2_with (fail)
  refine HEQ.out.mono ?_
  rintro e w4 ⟨rfl, b4⟩
  have B4 := Lib.hid (B3.out.trans (b4.mono B3.out.size))
  clear b4
  go_wp2
  go_ret
  exact ⟨rfl, B4.out⟩
end
section
set_option linter.unusedSimpArgs false
set_option linter.unusedVariables false
open Go.ChangeAt Go.ChangeShapes Go.RowKit Go.WideShapes

theorem gives_refuse {w w' : World} (h : Below w.heap.size w w') : GivesNB w Nt.nil false (.returned (.tuple #[.agg #[.slice none 0 0, .slice none 0 0, .slice none 0 0], .bool false])) w' := ⟨NH.nil, rfl, OwnN.nil _ _ _, h⟩
theorem room_len (n m : Nat) : (roomN n m).w.length = n ∧ (roomN n m).l.length = m ∧ (roomN n m).c.length = 0 := by simp [roomN]
set_option maxHeartbeats 2000000 in
theorem rn_nv (h : NH) (N : Nt) (AP AR : Option Addr) (nP nR cP cR : Nat) (P R : List Int) (w : World) (r : RdN w w.heap.size h N) (sm : SmallN N) (rp : RdI w w.heap.size AP nP P) (rr : RdI w w.heap.size AR nR R) (hp : nP ≤ 1048576) (hr : nR ≤ 1048576) (ht : Arit w) (hu : Dual w) (hv : valN N = false) :
    Calls Tryd.prog 33 #[.agg #[.slice h.A N.w.length h.c, .slice h.L N.l.length h.d, .slice h.C N.c.length h.e], .slice AP nP cP, .slice AR nR cR] w (GivesNB w Nt.nil false) := by
  have hlp := rp.len
  have hlr := rr.len
  subst hlp hlr
  obtain ⟨w3, hw3⟩ : ∃ w3, w3 = (w.alloc (.cells #[.slice h.A N.w.length h.c, .slice h.L N.l.length h.d, .slice h.C N.c.length h.e] 30)).alloc (.cells #[.slice none 0 0, .slice none 0 0, .slice none 0 0] 30) := ⟨_, rfl⟩
  obtain ⟨hb, g0, g1, hsz⟩ := two_any' w (.cells #[.slice h.A N.w.length h.c, .slice h.L N.l.length h.d, .slice h.C N.c.length h.e] 30) (.cells #[.slice none 0 0, .slice none 0 0, .slice none 0 0] 30)
  rw [← hw3] at hb g0 g1 hsz
  obtain ⟨y0, y1, y2⟩ := three_cells g0
  have HK := Lib.hid (fun (wx : World) (hx : Below w3.heap.size w3 wx) => three_cells ((hx.block w.heap.size (by omega)).trans g0))
  have HK2 := Lib.hid (fun (wx : World) (hx : Below w3.heap.size w3 wx) => (hx.block (w.heap.size + 1) (by omega)).trans g1)
  have HB0 := Lib.hid hb
  have HS3 : Hid (w.heap.size + 2 = w3.heap.size) := Lib.hid (by omega)
  have s1' := sm.w; have s2' := sm.l
  have hV := validNet_impl h N w3 ((r.below hb).more hb.size) sm (ht.below hb ht.lt) (hu.below hb hu.lt)
  rw [hv] at hV
  have HV := Lib.hid hV
  clear hb g0 g1 hsz hV r sm rp rr hp hr ht hu hv
  go_enter Tryd.func33, Tryd.ntmps33
  go_wp2_with (fail)
  rw [← hw3]
  clear hw3
  refine HV.out.mono ?_
  rintro e w4 ⟨rfl, b4⟩
  have B4 := Lib.hid b4
  clear b4 y0 y1 y2
  have q7 := HK2.out _ B4.out
  obtain ⟨a0, a1, a2⟩ := three_cells q7
  have f0 := frozen_of_row _ _ 0 _ _ q7; have f1 := frozen_of_row _ _ 1 _ _ q7; have f2 := frozen_of_row _ _ 2 _ _ q7
  have H7 := Lib.hid (set3_at q7 (.slice none 0 0) (.slice none 0 0) (.slice none 0 0))
  have HF := Lib.hid (gives_refuse (set3_below (HB0.out.trans (B4.out.mono HB0.out.size)) (show w.heap.size ≤ w.heap.size + 1 by omega) (.slice none 0 0) (.slice none 0 0) (.slice none 0 0)))
  clear q7
  go_wp2
  (try simp only [Exit.inBlock, Exit.then])
  refine bodyPost_ret (results_cell_row_tmp rfl _ _ (w.heap.size + 1) _ _ (0, 0) _ rfl H7.out Tryd.underlying30 rfl (by kernel_rfl)) rfl ?_
  exact HF.out
set_option maxHeartbeats 2000000 in
theorem rn_np (h : NH) (N : Nt) (AP AR : Option Addr) (nP nR cP cR : Nat) (P R : List Int) (w : World) (r : RdN w w.heap.size h N) (sm : SmallN N) (rp : RdI w w.heap.size AP nP P) (rr : RdI w w.heap.size AR nR R) (hp : nP ≤ 1048576) (hr : nR ≤ 1048576) (ht : Arit w) (hu : Dual w) (hv : valN N = true) (hP : permB P N.w.length = false) :
    Calls Tryd.prog 33 #[.agg #[.slice h.A N.w.length h.c, .slice h.L N.l.length h.d, .slice h.C N.c.length h.e], .slice AP nP cP, .slice AR nR cR] w (GivesNB w Nt.nil false) := by
  have hlp := rp.len
  have hlr := rr.len
  subst hlp hlr
  obtain ⟨w3, hw3⟩ : ∃ w3, w3 = (w.alloc (.cells #[.slice h.A N.w.length h.c, .slice h.L N.l.length h.d, .slice h.C N.c.length h.e] 30)).alloc (.cells #[.slice none 0 0, .slice none 0 0, .slice none 0 0] 30) := ⟨_, rfl⟩
  obtain ⟨hb, g0, g1, hsz⟩ := two_any' w (.cells #[.slice h.A N.w.length h.c, .slice h.L N.l.length h.d, .slice h.C N.c.length h.e] 30) (.cells #[.slice none 0 0, .slice none 0 0, .slice none 0 0] 30)
  rw [← hw3] at hb g0 g1 hsz
  obtain ⟨y0, y1, y2⟩ := three_cells g0
  have HK := Lib.hid (fun (wx : World) (hx : Below w3.heap.size w3 wx) => three_cells ((hx.block w.heap.size (by omega)).trans g0))
  have HK2 := Lib.hid (fun (wx : World) (hx : Below w3.heap.size w3 wx) => (hx.block (w.heap.size + 1) (by omega)).trans g1)
  have HB0 := Lib.hid hb
  have HS3 : Hid (w.heap.size + 2 = w3.heap.size) := Lib.hid (by omega)
  have s1' := sm.w; have s2' := sm.l
  have hV := validNet_impl h N w3 ((r.below hb).more hb.size) sm (ht.below hb ht.lt) (hu.below hb hu.lt)
  rw [hv] at hV
  have HV := Lib.hid hV
  have hpp := fun (wx : World) (hx : Below w3.heap.size w3 wx) => isPerm_any AP P.length cP N.w.length P wx ((rp.below (HB0.out.trans (hx.mono HB0.out.size))).more (HB0.out.trans (hx.mono HB0.out.size)).size) hp s1'
  rw [hP] at hpp
  have HPP := Lib.hid hpp
  clear hpp
  clear hb g0 g1 hsz hV r sm rp rr hp hr ht hu hv hP
  go_enter Tryd.func33, Tryd.ntmps33
  go_wp2_with (fail)
  rw [← hw3]
  clear hw3
  refine HV.out.mono ?_
  rintro e w4 ⟨rfl, b4⟩
  have B4 := Lib.hid b4
  clear b4 y0 y1 y2
  obtain ⟨y0, y1, y2⟩ := HK.out _ B4.out
  go_wp2_with (fail)
  refine (HPP.out w4 B4.out).mono ?_
  rintro e w5 ⟨rfl, b5⟩
  have B5 := Lib.hid (B4.out.trans (b5.mono B4.out.size))
  clear b5 y0 y1 y2
  have q7 := HK2.out _ B5.out
  obtain ⟨a0, a1, a2⟩ := three_cells q7
  have f0 := frozen_of_row _ _ 0 _ _ q7; have f1 := frozen_of_row _ _ 1 _ _ q7; have f2 := frozen_of_row _ _ 2 _ _ q7
  have H7 := Lib.hid (set3_at q7 (.slice none 0 0) (.slice none 0 0) (.slice none 0 0))
  have HF := Lib.hid (gives_refuse (set3_below (HB0.out.trans (B5.out.mono HB0.out.size)) (show w.heap.size ≤ w.heap.size + 1 by omega) (.slice none 0 0) (.slice none 0 0) (.slice none 0 0)))
  clear q7
  go_wp2
  (try simp only [Exit.inBlock, Exit.then])
  refine bodyPost_ret (results_cell_row_tmp rfl _ _ (w.heap.size + 1) _ _ (0, 0) _ rfl H7.out Tryd.underlying30 rfl (by kernel_rfl)) rfl ?_
  exact HF.out
set_option maxHeartbeats 2000000 in
theorem rn_nr (h : NH) (N : Nt) (AP AR : Option Addr) (nP nR cP cR : Nat) (P R : List Int) (w : World) (r : RdN w w.heap.size h N) (sm : SmallN N) (rp : RdI w w.heap.size AP nP P) (rr : RdI w w.heap.size AR nR R) (hp : nP ≤ 1048576) (hr : nR ≤ 1048576) (ht : Arit w) (hu : Dual w) (hv : valN N = true) (hP : permB P N.w.length = true) (hR : permB R N.l.length = false) :
    Calls Tryd.prog 33 #[.agg #[.slice h.A N.w.length h.c, .slice h.L N.l.length h.d, .slice h.C N.c.length h.e], .slice AP nP cP, .slice AR nR cR] w (GivesNB w Nt.nil false) := by
  have hlp := rp.len
  have hlr := rr.len
  subst hlp hlr
  obtain ⟨w3, hw3⟩ : ∃ w3, w3 = (w.alloc (.cells #[.slice h.A N.w.length h.c, .slice h.L N.l.length h.d, .slice h.C N.c.length h.e] 30)).alloc (.cells #[.slice none 0 0, .slice none 0 0, .slice none 0 0] 30) := ⟨_, rfl⟩
  obtain ⟨hb, g0, g1, hsz⟩ := two_any' w (.cells #[.slice h.A N.w.length h.c, .slice h.L N.l.length h.d, .slice h.C N.c.length h.e] 30) (.cells #[.slice none 0 0, .slice none 0 0, .slice none 0 0] 30)
  rw [← hw3] at hb g0 g1 hsz
  obtain ⟨y0, y1, y2⟩ := three_cells g0
  have HK := Lib.hid (fun (wx : World) (hx : Below w3.heap.size w3 wx) => three_cells ((hx.block w.heap.size (by omega)).trans g0))
  have HK2 := Lib.hid (fun (wx : World) (hx : Below w3.heap.size w3 wx) => (hx.block (w.heap.size + 1) (by omega)).trans g1)
  have HB0 := Lib.hid hb
  have HS3 : Hid (w.heap.size + 2 = w3.heap.size) := Lib.hid (by omega)
  have s1' := sm.w; have s2' := sm.l
  have hV := validNet_impl h N w3 ((r.below hb).more hb.size) sm (ht.below hb ht.lt) (hu.below hb hu.lt)
  rw [hv] at hV
  have HV := Lib.hid hV
  have hpp := fun (wx : World) (hx : Below w3.heap.size w3 wx) => isPerm_any AP P.length cP N.w.length P wx ((rp.below (HB0.out.trans (hx.mono HB0.out.size))).more (HB0.out.trans (hx.mono HB0.out.size)).size) hp s1'
  rw [hP] at hpp
  have HPP := Lib.hid hpp
  clear hpp
  have hpr := fun (wx : World) (hx : Below w3.heap.size w3 wx) => isPerm_any AR R.length cR N.l.length R wx ((rr.below (HB0.out.trans (hx.mono HB0.out.size))).more (HB0.out.trans (hx.mono HB0.out.size)).size) hr s2'
  rw [hR] at hpr
  have HPR := Lib.hid hpr
  clear hpr
  clear hb g0 g1 hsz hV r sm rp rr hp hr ht hu hv hP hR
  go_enter Tryd.func33, Tryd.ntmps33
  go_wp2_with (fail)
  rw [← hw3]
  clear hw3
  refine HV.out.mono ?_
  rintro e w4 ⟨rfl, b4⟩
  have B4 := Lib.hid b4
  clear b4 y0 y1 y2
  obtain ⟨y0, y1, y2⟩ := HK.out _ B4.out
  go_wp2_with (fail)
  refine (HPP.out w4 B4.out).mono ?_
  rintro e w5 ⟨rfl, b5⟩
  have B5 := Lib.hid (B4.out.trans (b5.mono B4.out.size))
  clear b5 y0 y1 y2
  obtain ⟨y0, y1, y2⟩ := HK.out _ B5.out
  go_wp2_with (fail)
  refine (HPR.out w5 B5.out).mono ?_
  rintro e w6 ⟨rfl, b6⟩
  have B6 := Lib.hid (B5.out.trans (b6.mono B5.out.size))
  clear b6 y0 y1 y2
  have q7 := HK2.out _ B6.out
  obtain ⟨a0, a1, a2⟩ := three_cells q7
  have f0 := frozen_of_row _ _ 0 _ _ q7; have f1 := frozen_of_row _ _ 1 _ _ q7; have f2 := frozen_of_row _ _ 2 _ _ q7
  have H7 := Lib.hid (set3_at q7 (.slice none 0 0) (.slice none 0 0) (.slice none 0 0))
  have HF := Lib.hid (gives_refuse (set3_below (HB0.out.trans (B6.out.mono HB0.out.size)) (show w.heap.size ≤ w.heap.size + 1 by omega) (.slice none 0 0) (.slice none 0 0) (.slice none 0 0)))
  clear q7
  go_wp2
  (try simp only [Exit.inBlock, Exit.then])
  refine bodyPost_ret (results_cell_row_tmp rfl _ _ (w.heap.size + 1) _ _ (0, 0) _ rfl H7.out Tryd.underlying30 rfl (by kernel_rfl)) rfl ?_
  exact HF.out
theorem heap_drew {u : World} {b : Nat} {o : Option Obj} (h : u.heap[b]? = o) : u.drew.heap[b]? = o := h
theorem gives_drew {w w' : World} {N : Nt} {b : Bool} {e : Ending} (h : GivesNB w N b e w') : GivesNB w N b e w'.drew := by
  obtain ⟨x, e1, o, bel⟩ := h
  exact ⟨x, e1, o.same (fun _ _ _ _ => rfl), bel.drew⟩
theorem rn_out {w w3 wb u : World} {h2 : NH} {M : Nt} (hb : Below w.heap.size w w3) (hs : w.heap.size + 2 = w3.heap.size) (hw : Below w3.heap.size w3 u) (hwb : w3.heap.size ≤ wb.heap.size) (o : OwnN u wb.heap.size u.heap.size h2 M) :
    GivesNB w M true (.returned (.tuple #[.agg #[.slice h2.A M.w.length h2.c, .slice h2.L M.l.length h2.d, .slice h2.C M.c.length h2.e], .bool true])) (((u.setCell ⟨w.heap.size + 1, 0, none⟩ (.slice h2.A M.w.length h2.c)).setCell ⟨w.heap.size + 1, 1, none⟩ (.slice h2.L M.l.length h2.d)).setCell ⟨w.heap.size + 1, 2, none⟩ (.slice h2.C M.c.length h2.e)) :=
  ⟨h2, rfl, (own_setN (own_setN (own_setN o (by omega) _) (by omega) _) (by omega) _).more (by omega) (by simp), set3_below (hb.trans (hw.mono hb.size)) (show w.heap.size ≤ w.heap.size + 1 by omega) _ _ _⟩
set_option maxRecDepth 100000 in
set_option maxHeartbeats 4000000 in
theorem rn_ok (h : NH) (N : Nt) (AP AR : Option Addr) (nP nR cP cR : Nat) (P R : List Int) (w : World) (r : RdN w w.heap.size h N) (sm : SmallN N) (rp : RdI w w.heap.size AP nP P) (rr : RdI w w.heap.size AR nR R) (hp : nP ≤ 1048576) (hr : nR ≤ 1048576) (ht : Arit w) (hu : Dual w) (hv : valN N = true) (hP : permB P N.w.length = true) (hR : permB R N.l.length = true) :
    Calls Tryd.prog 33 #[.agg #[.slice h.A N.w.length h.c, .slice h.L N.l.length h.d, .slice h.C N.c.length h.e], .slice AP nP cP, .slice AR nR cR] w (GivesNB w (rnN N P R) true) := by
  have hlp := rp.len
  have hlr := rr.len
  subst hlp hlr
  obtain ⟨w3, hw3⟩ : ∃ w3, w3 = (w.alloc (.cells #[.slice h.A N.w.length h.c, .slice h.L N.l.length h.d, .slice h.C N.c.length h.e] 30)).alloc (.cells #[.slice none 0 0, .slice none 0 0, .slice none 0 0] 30) := ⟨_, rfl⟩
  obtain ⟨hb, g0, g1, hsz⟩ := two_any' w (.cells #[.slice h.A N.w.length h.c, .slice h.L N.l.length h.d, .slice h.C N.c.length h.e] 30) (.cells #[.slice none 0 0, .slice none 0 0, .slice none 0 0] 30)
  rw [← hw3] at hb g0 g1 hsz
  obtain ⟨y0, y1, y2⟩ := three_cells g0
  have HK := Lib.hid (fun (wx : World) (hx : Below w3.heap.size w3 wx) => three_cells ((hx.block w.heap.size (by omega)).trans g0))
  have HK2 := Lib.hid (fun (wx : World) (hx : Below w3.heap.size w3 wx) => (hx.block (w.heap.size + 1) (by omega)).trans g1)
  have HB0 := Lib.hid hb
  have HS3 : Hid (w.heap.size + 2 = w3.heap.size) := Lib.hid (by omega)
  have s1' := sm.w; have s2' := sm.l
  have hV := validNet_impl h N w3 ((r.below hb).more hb.size) sm (ht.below hb ht.lt) (hu.below hb hu.lt)
  rw [hv] at hV
  have HV := Lib.hid hV
  have hpp := fun (wx : World) (hx : Below w3.heap.size w3 wx) => isPerm_any AP P.length cP N.w.length P wx ((rp.below (HB0.out.trans (hx.mono HB0.out.size))).more (HB0.out.trans (hx.mono HB0.out.size)).size) hp s1'
  rw [hP] at hpp
  have HPP := Lib.hid hpp
  clear hpp
  have hpr := fun (wx : World) (hx : Below w3.heap.size w3 wx) => isPerm_any AR R.length cR N.l.length R wx ((rr.below (HB0.out.trans (hx.mono HB0.out.size))).more (HB0.out.trans (hx.mono HB0.out.size)).size) hr s2'
  rw [hR] at hpr
  have HPR := Lib.hid hpr
  clear hpr
  clear hb g0 g1 hsz hV
  have s1 := (valN_size hv).1; have s2 := (valN_size hv).2
  obtain ⟨M, hM⟩ : ∃ M, rnN N P R = M := ⟨_, rfl⟩
  have hpl := rnN_place hv hP hR
  rw [hM] at hpl ⊢
  obtain ⟨T, hT⟩ : ∃ T, roomN N.w.length N.l.length = T := ⟨_, rfl⟩
  have hTl := room_len N.w.length N.l.length
  rw [hT] at hpl hTl
  have HNR := Lib.hid (fun wx : World => show Calls Tryd.prog 43 #[.int .i64 N.w.length, .int .i64 N.l.length] wx (CopiedN wx T) from hT ▸ netWithRoom_any N.w.length N.l.length wx (by omega) (by omega))
  have HPL := Lib.hid (fun (wb wx : World) (hT : NH) (o : OwnN wx wb.heap.size wx.heap.size hT T) (hbx : Below wb.heap.size wb wx) (hw0 : Below w3.heap.size w3 wb) => by
    have hw := HB0.out.trans (hw0.mono HB0.out.size)
    have hwx := hw.trans (hbx.mono hw.size)
    have h3 := placed_any wb wx hT T h N AP AR cP cR P R o hbx ((r.below hw).more hw.size) ((rp.below hwx).more hwx.size)
      (fun h0 b off e => by
        obtain ⟨b', off', e', hb', _⟩ := rp.2 h0
        rw [e] at e'
        injection e' with e'
        injection e' with e4 e5 e6
        have := hw.size
        exact o.far_lt (by omega))
      ((rr.below hwx).more hwx.size)
      (fun h0 b off e => by
        obtain ⟨b', off', e', hb', _⟩ := rr.2 h0
        rw [e] at e'
        injection e' with e'
        injection e' with e4 e5 e6
        have := hw.size
        exact o.far_lt (by omega))
      hv (permB_all hP).2 (by rw [hTl.1]; exact (permB_all hP).1) (permB_all hR).2 (by rw [hTl.2.1]; exact (permB_all hR).1) (by omega) (by omega) (by omega)
    rw [hpl] at h3
    exact h3)
  clear hM hpl hT hTl r sm rp rr ht hu hv hP hR hp hr
  go_enter Tryd.func33, Tryd.ntmps33
  go_wp2_with (fail)
  rw [← hw3]
  clear hw3
  refine HV.out.mono ?_
  rintro e w4 ⟨rfl, b4⟩
  have B4 := Lib.hid b4
  clear b4 y0 y1 y2
  obtain ⟨y0, y1, y2⟩ := HK.out _ B4.out
  go_wp2_with (fail)
  refine (HPP.out w4 B4.out).mono ?_
  rintro e w5 ⟨rfl, b5⟩
  have B5 := Lib.hid (B4.out.trans (b5.mono B4.out.size))
  clear b5 y0 y1 y2
  obtain ⟨y0, y1, y2⟩ := HK.out _ B5.out
  go_wp2_with (fail)
  refine (HPR.out w5 B5.out).mono ?_
  rintro e w6 ⟨rfl, b6⟩
  have B6 := Lib.hid (B5.out.trans (b6.mono B5.out.size))
  clear b6 y0 y1 y2
  obtain ⟨y0, y1, y2⟩ := HK.out _ B6.out
  have K0 := Lib.hid (HK.out _ B6.out)
  have hHN := HNR.out w6.drew
  have HHN := Lib.hid hHN
  have tok1 : True := trivial
  clear hHN
  go_upto_region 3 with (fail)
  clear y0 y1 y2
  go_region_held3 (fun wx => wx.cell? ⟨w.heap.size, 0, none⟩ = some (.slice h.A N.w.length h.c) ∧ wx.cell? ⟨w.heap.size, 1, none⟩ = some (.slice h.L N.l.length h.d) ∧ wx.cell? ⟨w.heap.size, 2, none⟩ = some (.slice h.C N.c.length h.e))
    (first | exact K0.out | exact K1.out | exact K2.out | exact K5.out)
    (first
      | (have _t := tok1
         go_at_call 43
         refine HHN.out.mono ?_
         rintro e u1 ⟨hR1, rfl, oR, bR'⟩
         have bR := undrew bR'
         have HOR := Lib.hid (show OwnN u1 w6.heap.size u1.heap.size hR1 T from oR)
         have HBR := Lib.hid bR
         have K1 := Lib.hid (HK.out _ (B6.out.trans (bR.mono B6.out.size)))
         have tok2 : True := trivial
         clear oR bR bR' tok1)
      | (have _t := tok2
         go_at_call 44
         refine (HPL.out w6 u1 hR1 HOR.out HBR.out B6.out).mono ?_
         rintro e u2 ⟨h2, rfl, o2, b2, s2', k2⟩
         have bb := B6.out.trans (b2.mono B6.out.size)
         have K2 := Lib.hid (HK.out _ bb)
         have q7 := HK2.out _ bb
         obtain ⟨a0, a1, a2⟩ := three_cells q7
         have f0 := frozen_of_row _ _ 0 _ _ q7; have f1 := frozen_of_row _ _ 1 _ _ q7; have f2 := frozen_of_row _ _ 2 _ _ q7
         have h7 := set3_at q7 (.slice h2.A M.w.length h2.c) (.slice h2.L M.l.length h2.d) (.slice h2.C M.c.length h2.e)
         have k5 := HK.out _ bb
         have K5 := Lib.hid (And.intro (farW_cell (i := 2) (u := .slice h2.C M.c.length h2.e) (farW_cell (i := 1) (u := .slice h2.L M.l.length h2.d) (farW_cell (i := 0) (u := .slice h2.A M.w.length h2.c) k5.1 (show w.heap.size + 1 ≠ w.heap.size by omega)) (show w.heap.size + 1 ≠ w.heap.size by omega)) (show w.heap.size + 1 ≠ w.heap.size by omega))
           (And.intro (farW_cell (i := 2) (u := .slice h2.C M.c.length h2.e) (farW_cell (i := 1) (u := .slice h2.L M.l.length h2.d) (farW_cell (i := 0) (u := .slice h2.A M.w.length h2.c) k5.2.1 (show w.heap.size + 1 ≠ w.heap.size by omega)) (show w.heap.size + 1 ≠ w.heap.size by omega)) (show w.heap.size + 1 ≠ w.heap.size by omega))
             (farW_cell (i := 2) (u := .slice h2.C M.c.length h2.e) (farW_cell (i := 1) (u := .slice h2.L M.l.length h2.d) (farW_cell (i := 0) (u := .slice h2.A M.w.length h2.c) k5.2.2 (show w.heap.size + 1 ≠ w.heap.size by omega)) (show w.heap.size + 1 ≠ w.heap.size by omega)) (show w.heap.size + 1 ≠ w.heap.size by omega))))
         have H7 := Lib.hid h7
         have HF := Lib.hid (rn_out (w := w) HB0.out HS3.out bb B6.out.size o2)
         clear q7 h7 k5 bb o2 b2 s2' k2 tok2))
  all_goals
    go_wp2
    (try simp only [Exit.inBlock, Exit.then])
    first
      | (refine bodyPost_ret (results_cell_row_tmp rfl _ _ (w.heap.size + 1) _ _ (0, 0) _ rfl H7.out Tryd.underlying30 rfl (by kernel_rfl)) rfl ?_
         exact HF.out)
      | (refine bodyPost_ret (results_cell_row_tmp rfl _ _ (w.heap.size + 1) _ _ (0, 0) _ rfl (heap_drew H7.out) Tryd.underlying30 rfl (by kernel_rfl)) rfl ?_
         exact gives_drew HF.out)
theorem renumberNet_impl (h : NH) (N : Nt) (AP AR : Option Addr) (nP nR cP cR : Nat) (P R : List Int) (w : World) (r : RdN w w.heap.size h N) (sm : SmallN N) (rp : RdI w w.heap.size AP nP P) (rr : RdI w w.heap.size AR nR R) (hp : nP ≤ 1048576) (hr : nR ≤ 1048576) (ht : Arit w) (hu : Dual w) :
    Calls Tryd.prog 33 #[.agg #[.slice h.A N.w.length h.c, .slice h.L N.l.length h.d, .slice h.C N.c.length h.e], .slice AP nP cP, .slice AR nR cR] w (GivesNB w (rnV N P R) (rnB N P R)) := by
  cases hb : rnB N P R with
  | true =>
    rw [rnV_yes hb]
    unfold rnB at hb
    rw [Bool.and_eq_true, Bool.and_eq_true] at hb
    exact rn_ok h N AP AR nP nR cP cR P R w r sm rp rr hp hr ht hu hb.1 hb.2.1 hb.2.2
  | false =>
    rw [rnV_no hb]
    cases hv : valN N with
    | false => exact rn_nv h N AP AR nP nR cP cR P R w r sm rp rr hp hr ht hu hv
    | true =>
      cases hP : permB P N.w.length with
      | false => exact rn_np h N AP AR nP nR cP cR P R w r sm rp rr hp hr ht hu hv hP
      | true =>
        cases hR : permB R N.l.length with
        | false => exact rn_nr h N AP AR nP nR cP cR P R w r sm rp rr hp hr ht hu hv hP hR
        | true => unfold rnB at hb; rw [hv, hP, hR] at hb; cases hb
end
section
open Go.ChangeAt Go.ChangeShapes Go.RowKit Go.WideShapes

/-- The formulas of the conclusions. -/
def cfL (N : Nt) : List (List Int) := N.c.map (wAt N.w)
/-- ConclusionSeq. -/
def cqB (N : Nt) : Bool := valN N && validQ (cfL N)
def cqL (N : Nt) : List (List Int) := if cqB N = true then cfL N else []
theorem cqB_no {N : Nt} (h : valN N = false) : cqB N = false := by unfold cqB; rw [h]; rfl
theorem cqB_is {N : Nt} (h : valN N = true) : cqB N = validQ (cfL N) := by unfold cqB; rw [h]; rfl
theorem cqL_no {N : Nt} (h : cqB N = false) : cqL N = [] := by unfold cqL; rw [h]; rfl
theorem cqL_yes {N : Nt} (h : cqB N = true) : cqL N = cfL N := by unfold cqL; rw [if_pos h]
theorem mapW_take {ws : List (List Int)} {cs : List Int} {k : Nat} (h : k < cs.length) : (cs.take k).map (wAt ws) ++ [wAt ws (cs.getD k 0)] = (cs.take (k + 1)).map (wAt ws) := by
  rw [takeL_succ (d := 0) h, List.map_append]; rfl
theorem gSeqB_mk {w w' : World} {V V' : List (List Int)} {b b' : Bool} {hs : Nat → Option Addr × Nat} {A : Option Addr} {c n : Nat} (h1 : V.length = n) (own : OwnQ w' w.heap.size w'.heap.size (.slice A n c) hs V) (bel : Below w.heap.size w w') (hV : V = V') (hb : b = b') :
    GivesSeqB w V' b' (.returned (.tuple #[.agg #[.slice A n c], .bool b])) w' := by
  subst hV; subst hb; subst h1
  exact ⟨hs, A, c, rfl, own, bel⟩
end
end Go.Proofs.YtdcommmefehlgaaDoor
