/- The program's counts of uses: numbersFrom, add, the comparison of arrays. -/
import Derived.Test.YtjfhbofgnagfaaaDoorPgA
import Derived.Test.YtjfhbofgnagfaaaDoorPgM
import Derived.ChangeKeysEq
import Derived.Laws.StructEq
namespace Go.Proofs.YtjfhbofgnagfaaaDoor
set_option linter.unusedSimpArgs false
set_option linter.unusedVariables false
open Go.ChangeAt Go.ChangeShapes Go.RowKit Go.WideShapes

theorem gives_own {w w' : World} {v : Value} {n b : Nat} {xs : List Int} (h : w'.ownsRow b 2 1 v n (xs.map (Value.int .i64))) (hb : w.heap.size ≤ b) (bel : Below w.heap.size w w') : Gives w xs (.returned v) w' := by
  obtain ⟨A, c, rfl⟩ := own_shape h
  have hl := h.1
  rw [List.length_map, Nat.mul_one] at hl
  subst hl
  exact ⟨A, c, rfl, own_more h hb, bel⟩
theorem uptoL_at {s : Int} {n k : Nat} (h : k < n) : ((uptoL s n k).map (Value.int .i64))[k]? = some (.int .i64 0) := by
  unfold uptoL
  have h1 : (markL s k).length = k := markL_len s k
  rw [List.getElem?_map, List.getElem?_append_right (by omega), h1, Nat.sub_self, List.getElem?_replicate, if_pos (by omega)]
  rfl
theorem numbersFrom_any (s n : Nat) (w : World) (hs : s ≤ 1048576) (hn : n ≤ 1048576) :
    Calls Tryd.prog 56 #[.int .i64 s, .int .i64 n] w (Gives w (markL s n)) := by
  obtain ⟨i0, hi0, hz0, hz1, hz2⟩ := info_parts info_i64
  have b2 : i0.bytes * n ≤ 281474976710656 := by rw [hz2]; omega
  have b3 : n ≤ maxLen := by unfold maxLen; omega
  go_enter Tryd.func56, Tryd.ntmps56
  go_wp2_with (at_make; refine wpList_make_full _ rfl _ _ _ rfl w.heap.size 2 i0 (.int .i64 0) 1 Tryd.underlying26 hi0 hz0 hz1 _ _ _ _ n rfl rfl rfl rfl b2 b3 (Nat.le_refl _) ?_; intro w1 hown hg)
  have hbel : Below w.heap.size w w1 := (Below.refl _ _).grown hg (Nat.le_refl _) (by intro k hk; cases hk)
  have hz : (List.map (Value.int .i64) (uptoL s n 0)) = List.replicate n (Value.int .i64 0) := by simp [uptoL, markL]
  have h1 : w1.ownsRow w.heap.size 2 1 (.slice (some ⟨w.heap.size, 0, none⟩) n n) n ((uptoL s n 0).map (Value.int .i64)) := by
    rw [hz, ← toList_madeCells_one]
    simpa [Value.cells] using hown
  have HO := Lib.hid h1
  have HB := Lib.hid hbel
  clear hg hown b2 b3 hi0 hz0 hz1 hz2 hbel hz h1
  go_loopw [11] (fun i wr => ∃ k : Nat, k ≤ n ∧ i = .int .i64 k ∧ wr.ownsRow w.heap.size 2 1 (.slice (some ⟨w.heap.size, 0, none⟩) n n) n ((uptoL s n k).map (Value.int .i64)) ∧ Below w.heap.size w wr) (fun i _ => n - (intOf i).toNat)
  case atStart => exact ⟨0, Nat.zero_le _, rfl, HO.out, HB.out⟩
  case round =>
    obtain ⟨k, hk, rfl, hO, hB⟩ := hrel
    clear HO HB
    by_cases hlt : k < n
    · have ho := (hO.cellAt k (by omega)).trans (uptoL_at hlt)
      have hf := hO.frozenAt k
      have HS := Lib.hid (hO.stored k (.int .i64 ((s : Int) + (k : Nat)))).1
      rw [← List.map_set, uptoL_step hlt] at HS
      have HB := Lib.hid (hB.setCell (p := ⟨w.heap.size, k, none⟩) (Nat.le_refl _) (.int .i64 ((s : Int) + (k : Nat))))
      clear hO hB
      go_wp2
      go_roundw
      case rel => exact ⟨k + 1, by omega, by go_num, HS.out, HB.out⟩
      case measure => simp [intOf]; omega
    · have hkl : k = n := by omega
      subst hkl
      rw [uptoL_all] at hO
      have HO := Lib.hid hO; have HB := Lib.hid hB
      clear hO hB
      go_wp2
      go_ret
      exact gives_own HO.out (Nat.le_refl _) HB.out
/-- The cells of an array of counts. -/
def cntA (f : Nat → Int) : Array Value := ((cnts 48 f).map (Value.int .i64)).toArray
theorem cntA_len (f : Nat → Int) : (cntA f).size = 48 := by simp [cntA, cnts]
theorem cntA_at {f : Nat → Int} {i : Nat} (h : i < 48) : (cntA f)[i]? = some (.int .i64 (f i)) := by simp [cntA, cnts, h]
theorem cntA_set {f : Nat → Int} {i : Nat} (h : i < 48) : (cntA f).setIfInBounds i (.int .i64 (f i + 1)) = cntA fun x => f x + one (i = x) := by
  unfold cntA
  rw [List.setIfInBounds_toArray, ← List.map_set, cnts_bump h]
theorem cntA_ext {f g : Nat → Int} (h : ∀ x, x < 48 → f x = g x) : cntA f = cntA g := by unfold cntA; rw [cnts_ext h]
/-- One array of counts in block g. -/
def ArrU (w : World) (g : Nat) (f : Nat → Int) : Prop := w.heap[g]? = some (.cells (cntA f) 109 (0, 0))
theorem ArrU.keep {w w' : World} {g : Nat} {f : Nat → Int} (h : ArrU w g f) (hb : w'.heap[g]? = w.heap[g]?) : ArrU w' g f := hb.trans h
theorem ArrU.cell {w : World} {g : Nat} {f : Nat → Int} (h : ArrU w g f) {i : Nat} (hi : i < 48) : w.cell? ⟨g, i, none⟩ = some (.int .i64 (f i)) := by
  exact (cell_of_row _ _ i _ _ (0, 0) h).trans (cntA_at hi)
theorem ArrU.frozen {w : World} {g : Nat} {f : Nat → Int} (h : ArrU w g f) (i : Nat) : w.frozen? ⟨g, i, none⟩ = false := frozen_of_row _ _ i _ _ h
theorem ArrU.bump {w : World} {g : Nat} {f : Nat → Int} (h : ArrU w g f) {i : Nat} (hi : i < 48) : ArrU (w.setCell ⟨g, i, none⟩ (.int .i64 (f i + 1))) g fun x => f x + one (i = x) := by
  have := heap_setCell_same w g i _ _ (.int .i64 (f i + 1)) h
  rw [cntA_set hi] at this
  exact this
theorem ne_of_own {w : World} {base n c g : Nat} {t : TypeId} {A : Option Addr} {xs : List Value} (h : w.ownsRow base t 1 (.slice A n c) n xs) (hlt : g < base) : 0 < n → ∀ b off, A = some ⟨b, off, none⟩ → b ≠ g := by
  intro hn b off e
  obtain ⟨g', cap, hv, hlo, _⟩ := h.form hn
  subst e
  injection hv with h1 h2 h3
  injection h1 with h1
  injection h1 with h4 h5 h6
  omega
theorem ne_of_rd {w : World} {B n g : Nat} {A : Option Addr} {xs : List Int} (h : RdI w B A n xs) (hlt : B ≤ g) : 0 < n → ∀ b off, A = some ⟨b, off, none⟩ → b ≠ g := by
  intro hn b off e
  obtain ⟨b', off', e', hb, _⟩ := h.2 hn
  rw [e] at e'
  injection e' with e'
  injection e' with h4 h5 h6
  omega
set_option maxHeartbeats 2000000 in
/-- add: one use more of each of the wires. -/
theorem add_any (g : Nat) (f : Nat → Int) (A : Option Addr) (n c : Nat) (xs : List Int) (w : World) (B : Nat) (hg : ArrU w g f) (h : RdI w B A n xs) (hBg : 0 < n → ∀ b off, A = some ⟨b, off, none⟩ → b ≠ g) (hn : n ≤ 1048576) (hx : xs.all (inW 48) = true) (hf : ∀ x, 0 ≤ f x ∧ f x ≤ 1073741824) :
    Calls Tryd.prog 112 #[.pointer (some ⟨g, 0, none⟩), .slice A n c] w fun e w' => e = .returned (.tuple #[]) ∧ ArrU w' g (fun x => f x + concN xs x) ∧ KeptS (fun k => k = g) w w' := by
  have hl := h.len
  subst hl
  have H := Lib.hid h; have HBG := Lib.hid hBg; have HX := Lib.hid (fun t (ht : t < xs.length) => all_at (d := 0) hx ht); have HF := Lib.hid hf
  have HG := Lib.hid hg
  clear h hBg hx hf hg
  go_enter Tryd.func112, Tryd.ntmps112
  go_wp2
  go_loopw [8] (fun i wr => ∃ k : Nat, k ≤ xs.length ∧ i = .int .i64 k ∧ ArrU wr g (fun x => f x + concN (xs.take k) x) ∧ KeptS (fun k => k = g) w wr) (fun i _ => xs.length - (intOf i).toNat)
  case atStart => exact ⟨0, Nat.zero_le _, rfl, by
    have := HG.out
    unfold ArrU at this ⊢
    rw [this]
    exact congrArg (fun a => some (Obj.cells a _ _)) (cntA_ext fun x _ => by simp [concN, List.take_zero]), KeptS.refl _ _⟩
  case round =>
    obtain ⟨k, hk, rfl, hA, hK⟩ := hrel
    by_cases hlt : k < xs.length
    · obtain ⟨b, off, rfl, hbb, hcells⟩ := H.out.2 (by omega)
      have hne := HBG.out (by omega) b off rfl
      have hbw : b < w.heap.size := World.block_lt_of_cell? w _ (hcells k hlt)
      have hc : wr.cell? ⟨b, off + k, none⟩ = some (.int .i64 (xs.getD k 0)) := by
        have h5 := hcells k hlt
        unfold World.cell? at h5 ⊢
        rw [hK.block b hbw hne]
        exact h5
      have hin := HX.out k hlt
      have hstep := fun x => concN_step hlt x
      obtain ⟨z, hz⟩ : ∃ z, xs.getD k 0 = z := ⟨_, rfl⟩
      rw [hz] at hc hin hstep
      obtain ⟨_, hi, ez⟩ := inW_yes hin
      generalize z.toNat = i at *
      subst ez
      have hfb := HF.out i
      have hcb := concN_le (xs.take k) i
      have hlk : (xs.take k).length ≤ 1048576 := by rw [List.length_take]; omega
      have hu := hA.cell hi
      have hfr := hA.frozen i
      have hB := hA.bump hi
      obtain ⟨q, hq⟩ : ∃ q, f i + concN (xs.take k) i = q := ⟨_, rfl⟩
      have hqb : 0 ≤ q ∧ q ≤ 1074790400 := by omega
      rw [hq] at hu hB
      have HB : Hid (ArrU (wr.setCell ⟨g, i, none⟩ (.int .i64 (q + 1))) g (fun x => f x + concN (xs.take (k + 1)) x)) := Lib.hid (by
        unfold ArrU at hB ⊢
        rw [hB]
        exact congrArg (fun a => some (Obj.cells a _ _)) (cntA_ext fun x _ => by rw [hstep x]; omega))
      have HK2 : Hid (KeptS (fun k => k = g) w (wr.setCell ⟨g, i, none⟩ (.int .i64 (q + 1)))) := Lib.hid (hK.trans (KeptS.mk rfl rfl rfl ((Below.refl g wr).setCell (p := ⟨g, i, none⟩) (Nat.le_refl _) _).size fun p _ hp => Below.heap_setCell _ _ _ _ hp))
      clear hA hK hcells hin hstep hz hfb hcb hlk hq hB
      have hi48 : (i : Int) < 48 := by omega
      have K0 : Hid (wr.cell? ⟨g, i, none⟩ = some (.int .i64 q)) := Lib.hid hu
      go_wp2_with (fail)
      go_region
      all_goals go_wp2
      all_goals go_roundw
      all_goals (first | exact ⟨k + 1, by omega, by go_num, HB.out, ⟨HK2.out.os, HK2.out.tape, HK2.out.output, HK2.out.size, HK2.out.block⟩⟩ | (simp [intOf]; omega))
    · have hkl : k = xs.length := by omega
      subst hkl
      rw [List.take_length] at hA
      have HA := Lib.hid hA; have HK := Lib.hid hK
      clear hA hK
      go_wp2
      refine bodyPost_end (results_none rfl _ _ _) rfl ?_
      exact ⟨rfl, HA.out, HK.out⟩
end Go.Proofs.YtjfhbofgnagfaaaDoor
