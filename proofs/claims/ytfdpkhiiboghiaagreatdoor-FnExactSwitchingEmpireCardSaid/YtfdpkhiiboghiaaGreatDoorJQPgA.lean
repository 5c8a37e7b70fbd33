/- The program's small functions of chapter 8. The program's counts of uses: numbersFrom, add, the comparison of arrays. The laws' helpers at nets: marks. Laws over nets: sizes, marks. -/
import Derived.Test.YtfdpkhiiboghiaaGreatDoorJQNetZ
import Derived.Test.YtfdpkhiiboghiaaGreatDoorJNetY
import Derived.Test.YtfdpkhiiboghiaaGreatDoorJQDual
import Derived.Test.YtfdpkhiiboghiaaGreatDoorJQSeqV
import Derived.ChangeKeysEq
import Derived.Laws.StructEq
import Derived.Test.YtfdpkhiiboghiaaGreatDoorJQNetV
namespace Go.Proofs.YtfdpkhiiboghiaaGreatDoor
set_option linter.unusedSimpArgs false
set_option linter.unusedVariables false
section
set_option linter.unusedSimpArgs false
set_option linter.unusedVariables false
open Go.ChangeAt Go.ChangeShapes Go.RowKit Go.WideShapes

theorem cells4 {w : World} {b : Nat} {a0 a1 a2 a3 : Value} {t : TypeId} (h : w.heap[b]? = some (.cells #[a0, a1, a2, a3] t (0, 0))) :
    w.cell? ⟨b, 0, none⟩ = some a0 ∧ w.cell? ⟨b, 1, none⟩ = some a1 ∧ w.cell? ⟨b, 2, none⟩ = some a2 ∧ w.cell? ⟨b, 3, none⟩ = some a3 :=
  ⟨cell_of_row _ _ 0 _ _ (0, 0) h, cell_of_row _ _ 1 _ _ (0, 0) h, cell_of_row _ _ 2 _ _ (0, 0) h, cell_of_row _ _ 3 _ _ (0, 0) h⟩
theorem eqI_b (A B : Option Addr) (n m c d : Nat) (zs ys : List Int) (w : World) (h : RdI w w.heap.size A n zs) (h' : RdI w w.heap.size B m ys) (hn : n ≤ 1048576) (hm : m ≤ 1048576) :
    Calls Tryz.prog 104 #[.slice A n c, .slice B m d] w fun e w' => e = .returned (.bool (decide (zs = ys))) ∧ Below w.heap.size w w' :=
  (equal_d A B n m c d zs ys w _ _ h h' hn hm).mono fun _ _ ⟨h1, m, h2⟩ => ⟨h1, by rw [h2]; exact below_drewN (Below.refl _ _) m⟩
/-- The operator of a kind. -/
def opK (k : Int) : Int := if k = 3 then 11 else if k = 4 then 12 else -1
theorem linkOperator_any (k : Int) (w : World) : Calls Tryz.prog 182 #[.int .i64 k] w fun e w' => e = .returned (.int .i64 (opK k)) ∧ w = w' := by
  by_cases h3 : k = 3
  · subst h3
    go_enter Tryz.func182, Tryz.ntmps182
    go_wp2
    go_ret
    exact ⟨rfl, rfl⟩
  · have d3 : (k == 3) = false := by simpa using h3
    by_cases h4 : k = 4
    · subst h4
      clear h3
      go_enter Tryz.func182, Tryz.ntmps182
      go_wp2
      go_ret
      exact ⟨rfl, rfl⟩
    · have d4 : (k == 4) = false := by simpa using h4
      have HE : Hid ((-1 : Int) = opK k) := Lib.hid (by unfold opK; rw [if_neg h3, if_neg h4])
      clear h3 h4
      go_enter Tryz.func182, Tryz.ntmps182
      go_wp2
      go_ret
      exact ⟨ret_i64 HE.out, rfl⟩
/-- The link of a kind. -/
def lnk (k a b c : Int) : Lk := ⟨k, a, b, if k = 3 ∨ k = 4 then c else 0⟩
theorem linkOf_any (k a b c : Int) (w : World) : Calls Tryz.prog 158 #[.int .i64 k, .int .i64 a, .int .i64 b, .int .i64 c] w fun e w' => e = .returned (.agg #[.int .i64 (lnk k a b c).k, .int .i64 (lnk k a b c).a, .int .i64 (lnk k a b c).b, .int .i64 (lnk k a b c).c]) ∧ Below w.heap.size w w' := by
  have hb : Below w.heap.size w (w.alloc (.cells #[.int .i64 0, .int .i64 0, .int .i64 0, .int .i64 0] 103)) := (Below.refl _ _).alloc (Nat.le_refl _) _
  obtain ⟨u, hu⟩ : ∃ u, u = w.alloc (.cells #[.int .i64 0, .int .i64 0, .int .i64 0, .int .i64 0] 103) := ⟨_, rfl⟩
  have hg : u.heap[w.heap.size]? = some (.cells #[.int .i64 0, .int .i64 0, .int .i64 0, .int .i64 0] 103 (0, 0)) := by rw [hu]; exact heap_alloc_new _ _
  rw [← hu] at hb
  obtain ⟨x0, x1, x2, x3⟩ := cells4 hg
  have f0 := frozen_of_row _ _ 0 _ _ hg; have f1 := frozen_of_row _ _ 1 _ _ hg; have f2 := frozen_of_row _ _ 2 _ _ hg; have f3 := frozen_of_row _ _ 3 _ _ hg
  have HO := Lib.hid (linkOperator_any k u)
  by_cases h : k = 3 ∨ k = 4
  · have d : (opK k == -1) = false := by
      rcases h with rfl | rfl <;> rfl
    have HE : Hid (lnk k a b c = ⟨k, a, b, c⟩) := Lib.hid (by unfold lnk; rw [if_pos h])
    have HB := Lib.hid (set4_below hb (Nat.le_refl _) (.int .i64 k) (.int .i64 a) (.int .i64 b) (.int .i64 c))
    have HG := Lib.hid (set4_at hg (.int .i64 k) (.int .i64 a) (.int .i64 b) (.int .i64 c))
    rw [HE.out]
    clear hb hg h
    generalize opK k = o at *
    go_enter Tryz.func158, Tryz.ntmps158
    go_wp2_with (fail)
    rw [← hu]
    clear hu
    refine HO.out.mono ?_
    rintro e w' ⟨rfl, rfl⟩
    go_wp2
    (try simp only [Exit.inBlock, Exit.then])
    refine bodyPost_ret (results_cell_row rfl _ _ w.heap.size _ _ (0, 0) _ rfl HG.out Tryz.underlying103 rfl (by kernel_rfl)) rfl ?_
    exact ⟨rfl, HB.out⟩
  · have d : (opK k == -1) = true := by
      have h3 : ¬ k = 3 := fun e => h (.inl e)
      have h4 : ¬ k = 4 := fun e => h (.inr e)
      unfold opK
      rw [if_neg h3, if_neg h4]
      rfl
    have HE : Hid (lnk k a b c = ⟨k, a, b, 0⟩) := Lib.hid (by unfold lnk; rw [if_neg h])
    have HB := Lib.hid (set4_below hb (Nat.le_refl _) (.int .i64 k) (.int .i64 a) (.int .i64 b) (.int .i64 0))
    have HG := Lib.hid (set4_at hg (.int .i64 k) (.int .i64 a) (.int .i64 b) (.int .i64 0))
    rw [HE.out]
    clear hb hg h
    generalize opK k = o at *
    go_enter Tryz.func158, Tryz.ntmps158
    go_wp2_with (fail)
    rw [← hu]
    clear hu
    refine HO.out.mono ?_
    rintro e w' ⟨rfl, rfl⟩
    go_wp2
    (try simp only [Exit.inBlock, Exit.then])
    refine bodyPost_ret (results_cell_row rfl _ _ w.heap.size _ _ (0, 0) _ rfl HG.out Tryz.underlying103 rfl (by kernel_rfl)) rfl ?_
    exact ⟨rfl, HB.out⟩
theorem gives_nil {w w' : World} (h : Below w.heap.size w w') : Gives w [] (.returned (.slice none 0 0)) w' := ⟨none, 0, rfl, World.ownsRow_nil _ _ _ _, h⟩
theorem gives_lit2 {w u : World} {a b : Int} {g : Nat} (h : Below w.heap.size w u) (hg : u.heap.size = g) : Gives w [a, b] (.returned (.slice (some ⟨g, 0, none⟩) 2 2)) (u.alloc (.cells #[.int .i64 a, .int .i64 b] 2)) := by
  subst hg
  exact ⟨_, 2, rfl, own_lit (n := 2) (size := 1) #[.int .i64 a, .int .i64 b] h.size (by simp [maxLen]) rfl, h.trans (((Below.refl _ _).alloc (Nat.le_refl _) _).mono h.size)⟩
theorem gives_lit1 {w u : World} {a : Int} {g : Nat} (h : Below w.heap.size w u) (hg : u.heap.size = g) : Gives w [a] (.returned (.slice (some ⟨g, 0, none⟩) 1 1)) (u.alloc (.cells #[.int .i64 a] 2)) := by
  subst hg
  exact ⟨_, 1, rfl, own_lit (n := 1) (size := 1) #[.int .i64 a] h.size (by simp [maxLen]) rfl, h.trans (((Below.refl _ _).alloc (Nat.le_refl _) _).mono h.size)⟩
theorem outputsOf_any (l : Lk) (w : World) : Calls Tryz.prog 121 #[.agg #[.int .i64 l.k, .int .i64 l.a, .int .i64 l.b, .int .i64 l.c]] w (Gives w (outL l)) := by
  obtain ⟨k, a, b, c⟩ := l
  dsimp only
  obtain ⟨hb, x0, x1, x2, x3, hsz⟩ := lnk_any w ⟨k, a, b, c⟩ 103
  dsimp only at hb x0 x1 x2 x3 hsz
  obtain ⟨u, hu⟩ : ∃ u, u = w.alloc (.cells #[.int .i64 k, .int .i64 a, .int .i64 b, .int .i64 c] 103) := ⟨_, rfl⟩
  rw [← hu] at hb x0 x1 x2 x3 hsz
  have HB := Lib.hid hb; have HS := Lib.hid hsz
  clear hb hsz
  by_cases h1 : k = 1
  · subst h1
    rw [show outL ⟨1, a, b, c⟩ = [a, b] from rfl]
    go_enter Tryz.func121, Tryz.ntmps121
    go_wp2_with (fail)
    rw [← hu]
    clear hu
    go_wp2
    go_ret
    exact gives_lit2 HB.out HS.out
  · have d1 : (k == 1) = false := by simpa using h1
    by_cases h2 : k = 2
    · subst h2
      clear h1
      rw [show outL ⟨2, a, b, c⟩ = [] from rfl]
      go_enter Tryz.func121, Tryz.ntmps121
      go_wp2_with (fail)
      rw [← hu]
      clear hu
      go_wp2
      go_ret
      exact gives_nil HB.out
    · have d2 : (k == 2) = false := by simpa using h2
      rw [show outL ⟨k, a, b, c⟩ = [c] by unfold outL; rw [if_neg h1, if_neg h2]]
      clear h1 h2
      go_enter Tryz.func121, Tryz.ntmps121
      go_wp2_with (fail)
      rw [← hu]
      clear hu
      go_wp2
      go_ret
      exact gives_lit1 HB.out HS.out
theorem inputsOf_any (l : Lk) (w : World) : Calls Tryz.prog 122 #[.agg #[.int .i64 l.k, .int .i64 l.a, .int .i64 l.b, .int .i64 l.c]] w (Gives w (inL l)) := by
  obtain ⟨k, a, b, c⟩ := l
  dsimp only
  obtain ⟨hb, x0, x1, x2, x3, hsz⟩ := lnk_any w ⟨k, a, b, c⟩ 103
  dsimp only at hb x0 x1 x2 x3 hsz
  obtain ⟨u, hu⟩ : ∃ u, u = w.alloc (.cells #[.int .i64 k, .int .i64 a, .int .i64 b, .int .i64 c] 103) := ⟨_, rfl⟩
  rw [← hu] at hb x0 x1 x2 x3 hsz
  have HB := Lib.hid hb; have HS := Lib.hid hsz
  clear hb hsz
  by_cases h1 : k = 1
  · subst h1
    rw [show inL ⟨1, a, b, c⟩ = [] from rfl]
    go_enter Tryz.func122, Tryz.ntmps122
    go_wp2_with (fail)
    rw [← hu]
    clear hu
    go_wp2
    go_ret
    exact gives_nil HB.out
  · have d1 : (k == 1) = false := by simpa using h1
    rw [show inL ⟨k, a, b, c⟩ = [a, b] by unfold inL; rw [if_neg h1]]
    clear h1
    go_enter Tryz.func122, Tryz.ntmps122
    go_wp2_with (fail)
    rw [← hu]
    clear hu
    go_wp2
    go_ret
    exact gives_lit2 HB.out HS.out
theorem isWireForm_any (A : Option Addr) (n c : Nat) (f : List Int) (w : World) (h : RdI w w.heap.size A n f) (ht : Arit w) (hnc : n ≤ c) :
    Calls Tryz.prog 154 #[.slice A n c] w fun e w' => e = .returned (.bool (formN f)) ∧ w = w' := by
  have HF := Lib.hid (fragmentOf_impl A n c f w h ht hnc)
  obtain ⟨v, hv⟩ : ∃ v, fragV f = v := ⟨_, rfl⟩
  have HE : Hid (∀ b : Bool, b = decide (0 ≤ v ∧ v ≤ 1) → b = formN f) := Lib.hid fun b hb => by rw [hb, ← hv]; rfl
  rw [hv] at HF
  clear h ht hnc hv
  by_cases h0 : v = 0
  · subst h0
    have HR := Lib.hid (HE.out true rfl)
    clear HE
    go_enter Tryz.func154, Tryz.ntmps154
    go_wp2_with (fail)
    refine HF.out.mono ?_
    rintro e w' ⟨rfl, rfl⟩
    go_wp2
    go_ret
    exact ⟨ret_bool HR.out, rfl⟩
  · have d0 : (v == 0) = false := by simpa using h0
    by_cases h1 : v = 1
    · subst h1
      have HR := Lib.hid (HE.out true rfl)
      clear HE h0
      go_enter Tryz.func154, Tryz.ntmps154
      go_wp2_with (fail)
      refine HF.out.mono ?_
      rintro e w' ⟨rfl, rfl⟩
      go_wp2
      go_ret
      exact ⟨ret_bool HR.out, rfl⟩
    · have d1 : (v == 1) = false := by simpa using h1
      have HR := Lib.hid (HE.out false (by rw [decide_eq_false (by omega)]))
      clear HE h0 h1
      go_enter Tryz.func154, Tryz.ntmps154
      go_wp2_with (fail)
      refine HF.out.mono ?_
      rintro e w' ⟨rfl, rfl⟩
      go_wp2
      go_ret
      exact ⟨ret_bool HR.out, rfl⟩
theorem isWire_any (A L C : Option Addr) (n c m d k e0 : Nat) (x : Int) (w : World) (hn : n ≤ maxLen) :
    Calls Tryz.prog 119 #[.agg #[.slice A n c, .slice L m d, .slice C k e0], .int .i64 x] w fun e w' => e = .returned (.bool (inW n x)) ∧ Below w.heap.size w w' := by
  unfold maxLen at hn
  obtain ⟨hb, hh, hsz⟩ := box3_any w (.slice A n c) (.slice L m d) (.slice C k e0) 30
  obtain ⟨w0, hw0⟩ : ∃ w0, w0 = w.alloc (.cells #[.slice A n c, .slice L m d, .slice C k e0] 30) := ⟨_, rfl⟩
  rw [← hw0] at hb hh hsz
  obtain ⟨y0, y1, y2⟩ := three_cells hh
  have HB := Lib.hid hb
  clear hb hh hsz y1 y2
  by_cases h0 : 0 ≤ x
  · have d0 : decide (0 ≤ x) = true := decide_eq_true h0
    by_cases h1 : x < (n : Int)
    · have d1 : decide (x < (n : Int)) = true := decide_eq_true h1
      have HR : Hid (true = inW n x) := Lib.hid (by unfold inW; rw [decide_eq_true (by omega)])
      clear h0 h1
      go_enter Tryz.func119, Tryz.ntmps119
      go_wp2_with (fail)
      rw [← hw0]
      clear hw0
      go_wp2
      go_ret
      exact ⟨ret_bool HR.out, HB.out⟩
    · have d1 : decide (x < (n : Int)) = false := decide_eq_false h1
      have HR : Hid (false = inW n x) := Lib.hid (by unfold inW; rw [decide_eq_false (by omega)])
      clear h0 h1
      go_enter Tryz.func119, Tryz.ntmps119
      go_wp2_with (fail)
      rw [← hw0]
      clear hw0
      go_wp2
      go_ret
      exact ⟨ret_bool HR.out, HB.out⟩
  · have d0 : decide (0 ≤ x) = false := decide_eq_false h0
    have HR : Hid (false = inW n x) := Lib.hid (by unfold inW; rw [decide_eq_false (by omega)])
    clear h0
    go_enter Tryz.func119, Tryz.ntmps119
    go_wp2_with (fail)
    rw [← hw0]
    clear hw0
    go_wp2
    go_ret
    exact ⟨ret_bool HR.out, HB.out⟩
/-- Numbers one after another. -/
def uptoL (s : Int) (n k : Nat) : List Int := markL s k ++ List.replicate (n - k) 0
theorem uptoL_all (s : Int) (n : Nat) : uptoL s n n = markL s n := by simp [uptoL]
theorem uptoL_step {s : Int} {n k : Nat} (h : k < n) : (uptoL s n k).set k (s + (k : Nat)) = uptoL s n (k + 1) := by
  unfold uptoL
  have e1 : n - k = (n - (k + 1)) + 1 := by omega
  rw [List.set_append_right _ _ (by rw [markL_len]; omega), markL_len, Nat.sub_self, e1, List.replicate_succ, List.set_cons_zero]
  have e2 : markL s (k + 1) = markL s k ++ [s + (k : Nat)] := by unfold markL; rw [List.range_succ, List.map_append]; rfl
  rw [e2, List.append_assoc]; rfl
end
section
set_option linter.unusedSimpArgs false
set_option linter.unusedVariables false
open Go.ChangeAt Go.ChangeShapes Go.RowKit Go.WideShapes

theorem gives_own {w w' : World} {v : Value} {n b : Nat} {xs : List Int} (h : w'.ownsRow b 2 1 v n (xs.map (Value.int .i64))) (hb : w.heap.size ≤ b) (bel : Below w.heap.size w w') : Gives w xs (.returned v) w' := by
  obtain ⟨A, c, rfl⟩ := own_shape h
  have hl := h.1
  rw [List.length_map, Nat.mul_one] at hl
  subst hl
  exact ⟨A, c, rfl, own_more h hb, bel⟩
theorem uptoL_at {s : Int} {n k : Nat} (h : k < n) : ((uptoL s n k).map (Value.int .i64))[k]? = some (.int .i64 0) := by
  unfold uptoL
  have h1 : (markL s k).length = k := markL_len s k
  rw [List.getElem?_map, List.getElem?_append_right (by omega), h1, Nat.sub_self, List.getElem?_replicate, if_pos (by omega)]
  rfl
theorem numbersFrom_any (s n : Nat) (w : World) (hs : s ≤ 1048576) (hn : n ≤ 1048576) :
    Calls Tryz.prog 123 #[.int .i64 s, .int .i64 n] w (Gives w (markL s n)) := by
  obtain ⟨i0, hi0, hz0, hz1, hz2⟩ := info_parts info_i64
  have b2 : i0.bytes * n ≤ 281474976710656 := by rw [hz2]; omega
  have b3 : n ≤ maxLen := by unfold maxLen; omega
  go_enter Tryz.func123, Tryz.ntmps123
  go_wp2_with (at_make; refine wpList_make_full _ rfl _ _ _ rfl w.heap.size 2 i0 (.int .i64 0) 1 Tryz.underlying24 hi0 hz0 hz1 _ _ _ _ n rfl rfl rfl rfl b2 b3 (Nat.le_refl _) ?_; intro w1 hown hg)
  have hbel : Below w.heap.size w w1 := (Below.refl _ _).grown hg (Nat.le_refl _) (by intro k hk; cases hk)
  have hz : (List.map (Value.int .i64) (uptoL s n 0)) = List.replicate n (Value.int .i64 0) := by simp [uptoL, markL]
  have h1 : w1.ownsRow w.heap.size 2 1 (.slice (some ⟨w.heap.size, 0, none⟩) n n) n ((uptoL s n 0).map (Value.int .i64)) := by
    rw [hz, ← toList_madeCells_one]
    simpa [Value.cells] using hown
  have HO := Lib.hid h1
  have HB := Lib.hid hbel
  clear hg hown b2 b3 hi0 hz0 hz1 hz2 hbel hz h1
  go_loopw [11] (fun i wr => ∃ k : Nat, k ≤ n ∧ i = .int .i64 k ∧ wr.ownsRow w.heap.size 2 1 (.slice (some ⟨w.heap.size, 0, none⟩) n n) n ((uptoL s n k).map (Value.int .i64)) ∧ Below w.heap.size w wr) (fun i _ => n - (intOf i).toNat)
  case atStart => exact ⟨0, Nat.zero_le _, rfl, HO.out, HB.out⟩
  case round =>
    obtain ⟨k, hk, rfl, hO, hB⟩ := hrel
    clear HO HB
    by_cases hlt : k < n
    · have ho := (hO.cellAt k (by omega)).trans (uptoL_at hlt)
      have hf := hO.frozenAt k
      have HS := Lib.hid (hO.stored k (.int .i64 ((s : Int) + (k : Nat)))).1
      rw [← List.map_set, uptoL_step hlt] at HS
      have HB := Lib.hid (hB.setCell (p := ⟨w.heap.size, k, none⟩) (Nat.le_refl _) (.int .i64 ((s : Int) + (k : Nat))))
      clear hO hB
      go_wp2
      go_roundw
      case rel => exact ⟨k + 1, by omega, by go_num, HS.out, HB.out⟩
      case measure => simp [intOf]; omega
    · have hkl : k = n := by omega
      subst hkl
      rw [uptoL_all] at hO
      have HO := Lib.hid hO; have HB := Lib.hid hB
      clear hO hB
      go_wp2
      go_ret
      exact gives_own HO.out (Nat.le_refl _) HB.out
/-- The cells of an array of counts. -/
def cntA (f : Nat → Int) : Array Value := ((cnts 48 f).map (Value.int .i64)).toArray
theorem cntA_len (f : Nat → Int) : (cntA f).size = 48 := by simp [cntA, cnts]
theorem cntA_at {f : Nat → Int} {i : Nat} (h : i < 48) : (cntA f)[i]? = some (.int .i64 (f i)) := by simp [cntA, cnts, h]
theorem cntA_set {f : Nat → Int} {i : Nat} (h : i < 48) : (cntA f).setIfInBounds i (.int .i64 (f i + 1)) = cntA fun x => f x + one (i = x) := by
  unfold cntA
  rw [List.setIfInBounds_toArray, ← List.map_set, cnts_bump h]
theorem cntA_ext {f g : Nat → Int} (h : ∀ x, x < 48 → f x = g x) : cntA f = cntA g := by unfold cntA; rw [cnts_ext h]
/-- One array of counts in block g. -/
def ArrU (w : World) (g : Nat) (f : Nat → Int) : Prop := w.heap[g]? = some (.cells (cntA f) 162 (0, 0))
theorem ArrU.keep {w w' : World} {g : Nat} {f : Nat → Int} (h : ArrU w g f) (hb : w'.heap[g]? = w.heap[g]?) : ArrU w' g f := hb.trans h
theorem ArrU.cell {w : World} {g : Nat} {f : Nat → Int} (h : ArrU w g f) {i : Nat} (hi : i < 48) : w.cell? ⟨g, i, none⟩ = some (.int .i64 (f i)) := by
  exact (cell_of_row _ _ i _ _ (0, 0) h).trans (cntA_at hi)
theorem ArrU.frozen {w : World} {g : Nat} {f : Nat → Int} (h : ArrU w g f) (i : Nat) : w.frozen? ⟨g, i, none⟩ = false := frozen_of_row _ _ i _ _ h
theorem ArrU.bump {w : World} {g : Nat} {f : Nat → Int} (h : ArrU w g f) {i : Nat} (hi : i < 48) : ArrU (w.setCell ⟨g, i, none⟩ (.int .i64 (f i + 1))) g fun x => f x + one (i = x) := by
  have := heap_setCell_same w g i _ _ (.int .i64 (f i + 1)) h
  rw [cntA_set hi] at this
  exact this
theorem ne_of_own {w : World} {base n c g : Nat} {t : TypeId} {A : Option Addr} {xs : List Value} (h : w.ownsRow base t 1 (.slice A n c) n xs) (hlt : g < base) : 0 < n → ∀ b off, A = some ⟨b, off, none⟩ → b ≠ g := by
  intro hn b off e
  obtain ⟨g', cap, hv, hlo, _⟩ := h.form hn
  subst e
  injection hv with h1 h2 h3
  injection h1 with h1
  injection h1 with h4 h5 h6
  omega
theorem ne_of_rd {w : World} {B n g : Nat} {A : Option Addr} {xs : List Int} (h : RdI w B A n xs) (hlt : B ≤ g) : 0 < n → ∀ b off, A = some ⟨b, off, none⟩ → b ≠ g := by
  intro hn b off e
  obtain ⟨b', off', e', hb, _⟩ := h.2 hn
  rw [e] at e'
  injection e' with e'
  injection e' with h4 h5 h6
  omega
set_option maxHeartbeats 2000000 in
/-- add: one use more of each of the wires. -/
theorem add_any (g : Nat) (f : Nat → Int) (A : Option Addr) (n c : Nat) (xs : List Int) (w : World) (B : Nat) (hg : ArrU w g f) (h : RdI w B A n xs) (hBg : 0 < n → ∀ b off, A = some ⟨b, off, none⟩ → b ≠ g) (hn : n ≤ 1048576) (hx : xs.all (inW 48) = true) (hf : ∀ x, 0 ≤ f x ∧ f x ≤ 1073741824) :
    Calls Tryz.prog 183 #[.pointer (some ⟨g, 0, none⟩), .slice A n c] w fun e w' => e = .returned (.tuple #[]) ∧ ArrU w' g (fun x => f x + concN xs x) ∧ KeptS (fun k => k = g) w w' := by
  have hl := h.len
  subst hl
  have H := Lib.hid h; have HBG := Lib.hid hBg; have HX := Lib.hid (fun t (ht : t < xs.length) => all_at (d := 0) hx ht); have HF := Lib.hid hf
  have HG := Lib.hid hg
  clear h hBg hx hf hg
  go_enter Tryz.func183, Tryz.ntmps183
  go_wp2
  go_loopw [8] (fun i wr => ∃ k : Nat, k ≤ xs.length ∧ i = .int .i64 k ∧ ArrU wr g (fun x => f x + concN (xs.take k) x) ∧ KeptS (fun k => k = g) w wr) (fun i _ => xs.length - (intOf i).toNat)
  case atStart => exact ⟨0, Nat.zero_le _, rfl, by
    have := HG.out
    unfold ArrU at this ⊢
    rw [this]
    exact congrArg (fun a => some (Obj.cells a _ _)) (cntA_ext fun x _ => by simp [concN, List.take_zero]), KeptS.refl _ _⟩
  case round =>
    obtain ⟨k, hk, rfl, hA, hK⟩ := hrel
    by_cases hlt : k < xs.length
    · obtain ⟨b, off, rfl, hbb, hcells⟩ := H.out.2 (by omega)
      have hne := HBG.out (by omega) b off rfl
      have hbw : b < w.heap.size := World.block_lt_of_cell? w _ (hcells k hlt)
      have hc : wr.cell? ⟨b, off + k, none⟩ = some (.int .i64 (xs.getD k 0)) := by
        have h5 := hcells k hlt
        unfold World.cell? at h5 ⊢
        rw [hK.block b hbw hne]
        exact h5
      have hin := HX.out k hlt
      have hstep := fun x => concN_step hlt x
      obtain ⟨z, hz⟩ : ∃ z, xs.getD k 0 = z := ⟨_, rfl⟩
      rw [hz] at hc hin hstep
      obtain ⟨_, hi, ez⟩ := inW_yes hin
      generalize z.toNat = i at *
      subst ez
      have hfb := HF.out i
      have hcb := concN_le (xs.take k) i
      have hlk : (xs.take k).length ≤ 1048576 := by rw [List.length_take]; omega
      have hu := hA.cell hi
      have hfr := hA.frozen i
      have hB := hA.bump hi
      obtain ⟨q, hq⟩ : ∃ q, f i + concN (xs.take k) i = q := ⟨_, rfl⟩
      have hqb : 0 ≤ q ∧ q ≤ 1074790400 := by omega
      rw [hq] at hu hB
      have HB : Hid (ArrU (wr.setCell ⟨g, i, none⟩ (.int .i64 (q + 1))) g (fun x => f x + concN (xs.take (k + 1)) x)) := Lib.hid (by
        unfold ArrU at hB ⊢
        rw [hB]
        exact congrArg (fun a => some (Obj.cells a _ _)) (cntA_ext fun x _ => by rw [hstep x]; omega))
      have HK2 : Hid (KeptS (fun k => k = g) w (wr.setCell ⟨g, i, none⟩ (.int .i64 (q + 1)))) := Lib.hid (hK.trans (KeptS.mk rfl rfl rfl ((Below.refl g wr).setCell (p := ⟨g, i, none⟩) (Nat.le_refl _) _).size fun p _ hp => Below.heap_setCell _ _ _ _ hp))
      clear hA hK hcells hin hstep hz hfb hcb hlk hq hB
      have hi48 : (i : Int) < 48 := by omega
      have K0 : Hid (wr.cell? ⟨g, i, none⟩ = some (.int .i64 q)) := Lib.hid hu
      go_wp2_with (fail)
      go_region
      all_goals go_wp2
      all_goals go_roundw
      all_goals (first | exact ⟨k + 1, by omega, by go_num, HB.out, ⟨HK2.out.os, HK2.out.tape, HK2.out.output, HK2.out.size, HK2.out.block⟩⟩ | (simp [intOf]; omega))
    · have hkl : k = xs.length := by omega
      subst hkl
      rw [List.take_length] at hA
      have HA := Lib.hid hA; have HK := Lib.hid hK
      clear hA hK
      go_wp2
      refine bodyPost_end (results_none rfl _ _ _) rfl ?_
      exact ⟨rfl, HA.out, HK.out⟩
end
section
open Go.ChangeAt Go.ChangeShapes Go.RowKit Go.WideShapes

theorem mkL_at : ∀ (k : Int) (n j : Nat), j < n → (mkL k n).getD j Lk.nil = ⟨k + (j * 4 : Nat), k + (j * 4 : Nat) + 1, k + (j * 4 : Nat) + 1 + 1, k + (j * 4 : Nat) + 1 + 1 + 1⟩
  | _, 0, _, h => absurd h (by omega)
  | k, n + 1, 0, _ => by
    show (⟨k, k + 1, k + 2, k + 3⟩ : Lk) = _
    rw [show k + ((0 * 4 : Nat) : Int) = k by simp, show k + 1 + 1 = k + 2 by omega, show k + 2 + 1 = k + 3 by omega]
  | k, n + 1, j + 1, h => by
    have ih := mkL_at (k + 4) n j (by omega)
    have e : (mkL k (n + 1)).getD (j + 1) Lk.nil = (mkL (k + 4) n).getD j Lk.nil := rfl
    rw [e, ih, show k + 4 + ((j * 4 : Nat) : Int) = k + (((j + 1) * 4 : Nat) : Int) by omega]
set_option maxHeartbeats 2000000 in
theorem markLS_any (A : Option Addr) (n c : Nat) (ls : List Lk) (k : Int) (w : World) (base : Nat) (h : w.ownsRow base 103 4 (.slice A n c) n ((flL ls).map (Value.int .i64))) (hn : n ≤ 1048576) (hk0 : 0 ≤ k) (hk1 : k ≤ 1073741824) :
    Calls Tryz.prog 54 #[.slice A n c, .int .i64 k] w fun e w' => e = .returned (.int .i64 (k + (n * 4 : Nat))) ∧ w'.ownsRow base 103 4 (.slice A n c) n ((flL (mkL k n)).map (Value.int .i64)) ∧ w.grownBy w' (Value.slice A n c).ownBlock := by
  have hl : ls.length = n := by have := h.1; rw [List.length_map, flL_len] at this; omega
  have hml := mkL_len k n
  have H0 := Lib.hid h
  have HU0 : Hid (Upto4 ((flL ls).map (Value.int .i64)) (mkL k n) 0) := Lib.hid ⟨by rw [List.length_map, flL_len, hml, hl], fun j hj => absurd hj (by omega)⟩
  have HML := Lib.hid hml
  clear h hml hl
  go_enter Tryz.func54, Tryz.ntmps54
  go_wp2
  go_loopw [1, 5] (fun v i wr => ∃ (j : Nat) (xs : List Value), j ≤ n ∧ i = .int .i64 j ∧ v = .int .i64 (k + (j * 4 : Nat)) ∧ Upto4 xs (mkL k n) j ∧ wr.ownsRow base 103 4 (.slice A n c) n xs ∧ w.grownBy wr (Value.slice A n c).ownBlock)
    (fun _ i _ => n - (intOf i).toNat)
  case atStart => exact ⟨0, _, Nat.zero_le _, rfl, by simp, HU0.out, H0.out, World.grownBy.refl w _⟩
  case round =>
    obtain ⟨j, ys, hj, rfl, rfl, hU, hO, hG⟩ := hrel
    clear H0 HU0
    by_cases hlt : j < n
    · obtain ⟨g, cap, hv, hbg, hgl⟩ := hO.form (by omega)
      have hA : A = some ⟨g, 0, none⟩ ∧ c = cap := by injection hv with a b c'; exact ⟨a, c'⟩
      obtain ⟨rfl, rfl⟩ := hA
      have hs := hU.step (k := j) (by rw [HML.out]; exact hlt)
      rw [mkL_at k n j hlt] at hs
      have hyl : ys.length = n * 4 := by rw [hU.1, HML.out]
      obtain ⟨q, hq⟩ : ∃ q : Int, k + (j * 4 : Nat) = q := ⟨_, rfl⟩
      have HN : Hid (q + 1 + 1 + 1 + 1 = k + ((j + 1) * 4 : Nat)) := Lib.hid (by omega)
      have hq0 : 0 ≤ q := by omega
      have hq1 : q ≤ 1090000000 := by omega
      rw [hq] at hs ⊢
      dsimp only at hs
      clear hq
      have hi1 : (j : Int) < (n : Int) := by omega
      obtain ⟨q1, q2⟩ := four_own (o := j * 4) hO (.int .i64 q) (.int .i64 (q + 1)) (.int .i64 (q + 1 + 1)) (.int .i64 (q + 1 + 1 + 1))
      have HS := Lib.hid hs; have HQ1 := Lib.hid q1; have HG := Lib.hid (grownBy_trans hG q2)
      have cl := fun t (ht : t < 4) => hO.cellAt (g := g) (j * 4 + t) (by omega)
      have fr := fun t => hO.frozenAt (g := g) (j * 4 + t)
      obtain ⟨d0, e0⟩ : ∃ u, wr.cell? ⟨g, j * 4, none⟩ = some u := ⟨_, (cl 0 (by omega)).trans (List.getElem?_eq_getElem (show j * 4 + 0 < ys.length by omega))⟩
      obtain ⟨d1, e1⟩ : ∃ u, wr.cell? ⟨g, j * 4 + 1, none⟩ = some u := ⟨_, (cl 1 (by omega)).trans (List.getElem?_eq_getElem (show j * 4 + 1 < ys.length by omega))⟩
      obtain ⟨d2, e2⟩ : ∃ u, wr.cell? ⟨g, j * 4 + 2, none⟩ = some u := ⟨_, (cl 2 (by omega)).trans (List.getElem?_eq_getElem (show j * 4 + 2 < ys.length by omega))⟩
      obtain ⟨d3, e3⟩ : ∃ u, wr.cell? ⟨g, j * 4 + 3, none⟩ = some u := ⟨_, (cl 3 (by omega)).trans (List.getElem?_eq_getElem (show j * 4 + 3 < ys.length by omega))⟩
      have fr0 : wr.frozen? ⟨g, j * 4, none⟩ = false := fr 0
      have fr1 := fr 1; have fr2 := fr 2; have fr3 := fr 3
      clear cl fr hO hU hG hs q1 q2 hv hyl hbg hgl
      go_wp2
      go_roundw
      case rel => exact ⟨j + 1, _, by omega, by go_num, by rw [HN.out], HS.out, HQ1.out, HG.out⟩
      case measure => simp [intOf]; omega
    · have hkl : j = n := by omega
      subst hkl
      have hd := Upto4.done (ls := mkL k j) (by rw [HML.out]; exact hU)
      subst hd
      have HO := Lib.hid hO; have HG := Lib.hid hG
      clear hO hU hG
      go_wp2
      go_ret
      exact ⟨rfl, HO.out, HG.out⟩
theorem OwnQ.fine {w w' : World} {lo hi : Nat} {v : Value} {hs : Nat → Option Addr × Nat} {qs : List (List Int)} (h : OwnQ w lo hi v hs qs) (h0 : ∀ b, v.ownBlock = some b → w'.heap[b]? = w.heap[b]?) (h1 : ∀ i, i < qs.length → ∀ b, (hv hs qs i).ownBlock = some b → w'.heap[b]? = w.heap[b]?) : OwnQ w' lo hi v hs qs where
  outer := own_same h.outer h0
  inner i hi := own_same (h.inner i hi) (h1 i hi)
  apart := h.apart
  apart0 := h.apart0
  top0 := h.top0
  top := h.top
theorem hv_mrk (k : Int) (hs : Nat → Option Addr × Nat) (ws : List (List Int)) (i : Nat) (hi : i < ws.length) : hv hs (mrkQ k ws) i = hv hs ws i := by
  unfold hv; rw [mrkQ_at k hi, markL_len]
set_option maxHeartbeats 2000000 in
theorem markN_any (h : NH) (N : Nt) (k : Int) (w : World) (lo hi : Nat) (o : OwnN w lo hi h N) (hn : N.w.length ≤ 1048576) (ht : total N.w ≤ 1048576) (hl : N.l.length ≤ 1048576) (hc : N.c.length ≤ 1048576) (hk0 : 0 ≤ k) (hk1 : k ≤ 536870912) :
    Calls Tryz.prog 20 #[.agg #[.slice h.A N.w.length h.c, .slice h.L N.l.length h.d, .slice h.C N.c.length h.e], .int .i64 k] w fun e w' => e = .returned (.int .i64 (k + (ntot N : Nat))) ∧ OwnN w' lo hi h (mrkN k N) ∧ Kept lo hi w w' := by
  obtain ⟨A, c, hs, L, d, C, e0⟩ := h
  obtain ⟨ws, ls, cs⟩ := N
  obtain ⟨oq, ol, oc, olt, oct, olq, ocq, olc⟩ := o
  dsimp only at oq ol oc olt oct olq ocq olc hn ht hl hc ⊢
  obtain ⟨w1, hw1⟩ : ∃ w1, w1 = w.alloc (.cells #[.slice A ws.length c, .slice L ls.length d, .slice C cs.length e0] 30) := ⟨_, rfl⟩
  obtain ⟨hb, p0, hsz⟩ := box3_any w (.slice A ws.length c) (.slice L ls.length d) (.slice C cs.length e0) 30
  rw [← hw1] at hb p0 hsz
  have HK1 := Lib.hid (Kept.of_below hb lo hi)
  have q1 := oq.below hb
  have HL1 := Lib.hid (own_below ol hb (Nat.le_refl _))
  have HC1 := Lib.hid (own_below oc hb (Nat.le_refl _))
  have hSw : ∀ i b, i < ws.length → (hv hs ws i).ownBlock = some b → b < w.heap.size := fun i b hi e => oq.lt hi e
  have hLw : ∀ b, (Value.slice L ls.length d).ownBlock = some b → b < w.heap.size := fun b e => (ol.lt b e).2
  have hCw : ∀ b, (Value.slice C cs.length e0).ownBlock = some b → b < w.heap.size := fun b e => (oc.lt b e).2
  have hAw : ∀ b, (Value.slice A ws.length c).ownBlock = some b → b < w.heap.size := fun b e => (oq.outer.lt b e).2
  have hSr : ∀ b, (∃ i, i < ws.length ∧ (hv hs ws i).ownBlock = some b) → lo ≤ b ∧ b < hi := fun b ⟨i, hi', e⟩ => ⟨((oq.inner i hi').lt b e).1, oq.top i b hi' e⟩
  have hLr : ∀ b, (Value.slice L ls.length d).ownBlock = some b → lo ≤ b ∧ b < hi := fun b e => ⟨(ol.lt b e).1, olt b e⟩
  have hCr : ∀ b, (Value.slice C cs.length e0).ownBlock = some b → lo ≤ b ∧ b < hi := fun b e => ⟨(oc.lt b e).1, oct b e⟩
  have HM := Lib.hid (markSS_s A ws.length c hs ws k w1 lo hi q1 rfl hn ht hk0 hk1 (fun b => ∃ i, i < ws.length ∧ (hv hs ws i).ownBlock = some b) (fun i b hi' e => ⟨i, hi', e⟩))
  have HSw := Lib.hid hSw; have HLw := Lib.hid hLw; have HCw := Lib.hid hCw; have HAw := Lib.hid hAw; have HSr := Lib.hid hSr; have HLr := Lib.hid hLr; have HCr := Lib.hid hCr
  have HLQ := Lib.hid olq; have HCQ := Lib.hid ocq; have HLC := Lib.hid olc; have HLT := Lib.hid olt; have HCT := Lib.hid oct
  obtain ⟨a0, a1, a2⟩ := three_cells p0
  have P0 := Lib.hid p0
  have hz1 : w.heap.size < w1.heap.size := by omega
  clear hb p0 hsz oq ol oc olt oct olq ocq olc q1 hSw hLw hCw hAw hSr hLr hCr
  have HT : Hid (k + (total ws : Nat) + (ls.length * 4 : Nat) + (cs.length : Nat) = k + (ntot ⟨ws, ls, cs⟩ : Nat)) := Lib.hid (by unfold ntot; dsimp only; omega)
  have hk2 : k + (total ws : Nat) ≤ 540000000 := by omega
  go_enter Tryz.func20, Tryz.ntmps20
  go_wp2_with (fail)
  rw [← hw1]
  clear hw1
  refine HM.out.mono ?_
  rintro e w2 ⟨rfl, own2, ks2⟩
  have P2 := Lib.hid ((ks2.block w.heap.size hz1 (fun ⟨i, hi', e⟩ => by have := HSw.out i _ hi' e; omega)).trans P0.out)
  have HL2 := Lib.hid (own_same HL1.out fun b e => ks2.block b (HL1.out.lt b e).2 (fun ⟨i, hi', e2⟩ => (HLQ.out b e).2 i hi' e2))
  have HC2 := Lib.hid (own_same HC1.out fun b e => ks2.block b (HC1.out.lt b e).2 (fun ⟨i, hi', e2⟩ => (HCQ.out b e).2 i hi' e2))
  have HK2 := Lib.hid (HK1.out.trans (ks2.kept HSr.out))
  have hz2 : w.heap.size < w2.heap.size := by have := ks2.size; omega
  have HQ2 := Lib.hid own2
  clear ks2 own2 HM HL1 HC1 HK1 P0 a0 a1 a2
  obtain ⟨a0, a1, a2⟩ := three_cells P2.out
  obtain ⟨k2, hk2e⟩ : ∃ k2 : Int, k + (total ws : Nat) = k2 := ⟨_, rfl⟩
  have HK2E := Lib.hid hk2e
  rw [hk2e] at hk2 HT ⊢
  have hk20 : 0 ≤ k2 := by omega
  clear hk2e
  go_wp2_with (fail)
  refine (markLS_any L ls.length d ls k2 w2 lo HL2.out hl hk20 (by omega)).mono ?_
  rintro e w3 ⟨rfl, own3, gr3⟩
  have P3 := Lib.hid ((gr3.block w.heap.size hz2 (fun e => by have := HLw.out w.heap.size e.symm; omega)).trans P2.out)
  have HC3 := Lib.hid (own_same HC2.out fun b e => gr3.block b (HC2.out.lt b e).2 (fun e2 => HLC.out b e2.symm e))
  have hw2A : ∀ b, (Value.slice A ws.length c).ownBlock = some b → b < w2.heap.size := fun b e => by have := HAw.out b e; omega
  have HQ3 := Lib.hid (HQ2.out.fine (w' := w3) (fun b e => gr3.block b (hw2A b e) (fun e2 => (HLQ.out b e2.symm).1 e))
    (fun i hi' b e => gr3.block b (HQ2.out.lt hi' e) (fun e2 => (HLQ.out b e2.symm).2 i (by rw [mrkQ_len] at hi'; exact hi') (by rw [hv_mrk k hs ws i (by rw [mrkQ_len] at hi'; exact hi')] at e; exact e))))
  have HK3 := Lib.hid (HK2.out.trans (Kept.of_grown gr3 HLr.out))
  have hz3 : w.heap.size < w3.heap.size := by have := gr3.size; omega
  have HL3 := Lib.hid own3
  clear gr3 own3 HL2 HC2 HQ2 HK2 P2 a0 a1 a2 hw2A
  obtain ⟨a0, a1, a2⟩ := three_cells P3.out
  obtain ⟨k3, hk3e⟩ : ∃ k3 : Int, k2 + (ls.length * 4 : Nat) = k3 := ⟨_, rfl⟩
  have HK3E := Lib.hid hk3e
  rw [hk3e] at HT ⊢
  have hk30 : 0 ≤ k3 := by omega
  have hk31 : k3 ≤ 1073741824 := by omega
  clear hk3e
  go_wp2_with (fail)
  refine (mark_any C cs.length e0 cs k3 w3 lo HC3.out hc hk30 hk31).mono ?_
  rintro e w4 ⟨rfl, own4, gr4⟩
  have hw3A : ∀ b, (Value.slice A ws.length c).ownBlock = some b → b < w3.heap.size := fun b e => by have := HAw.out b e; omega
  have HQ4 := Lib.hid (HQ3.out.fine (w' := w4) (fun b e => gr4.block b (hw3A b e) (fun e2 => (HCQ.out b e2.symm).1 e))
    (fun i hi' b e => gr4.block b (HQ3.out.lt hi' e) (fun e2 => (HCQ.out b e2.symm).2 i (by rw [mrkQ_len] at hi'; exact hi') (by rw [hv_mrk k hs ws i (by rw [mrkQ_len] at hi'; exact hi')] at e; exact e))))
  have HL4 := Lib.hid (own_same HL3.out fun b e => gr4.block b (HL3.out.lt b e).2 (fun e2 => HLC.out b e e2.symm))
  have HK4 := Lib.hid (HK3.out.trans (Kept.of_grown gr4 HCr.out))
  have HC4 := Lib.hid own4
  clear gr4 own4 HL3 HC3 HQ3 HK3 P3 a0 a1 a2 hw3A
  have HON : Hid (OwnN w4 lo hi ⟨A, c, hs, L, d, C, e0⟩ (mrkN k ⟨ws, ls, cs⟩)) := Lib.hid (by
    have e1 : (mrkQ k ws).length = ws.length := mrkQ_len k ws
    have e2 : (mkL (k + total ws) ls.length).length = ls.length := mkL_len _ _
    have e3 : (markL (k + total ws + (ls.length * 4 : Nat)) cs.length).length = cs.length := markL_len _ _
    have c4 := HC4.out
    have l4 := HL4.out
    rw [← HK3E.out, ← HK2E.out] at c4
    rw [← HK2E.out] at l4
    refine ⟨?_, ?_, ?_, ?_, ?_, ?_, ?_, ?_⟩ <;> unfold mrkN <;> dsimp only <;> (try rw [e1]) <;> (try rw [e2]) <;> (try rw [e3])
    · exact HQ4.out
    · exact l4
    · exact c4
    · exact HLT.out
    · exact HCT.out
    · exact fun b e => ⟨(HLQ.out b e).1, fun i hi' => by rw [hv_mrk k hs ws i hi']; exact (HLQ.out b e).2 i hi'⟩
    · exact fun b e => ⟨(HCQ.out b e).1, fun i hi' => by rw [hv_mrk k hs ws i hi']; exact (HCQ.out b e).2 i hi'⟩
    · exact HLC.out)
  go_wp2
  go_ret
  exact ⟨ret_i64 HT.out, HON.out, HK4.out⟩
end
section
open Go.ChangeAt Go.ChangeShapes Go.RowKit Go.WideShapes

/-- A net no greater than the laws' bound. -/
structure SmallN (N : Nt) : Prop where
  w : N.w.length ≤ 1048576
  t : total N.w ≤ 1048576
  l : N.l.length ≤ 1048576
  c : N.c.length ≤ 1048576
/-- A net as great as any that came in. -/
structure GreatN (N : Nt) : Prop where
  w : N.w.length ≤ maxLen
  l : N.l.length ≤ maxLen
  c : N.c.length ≤ maxLen
  q : ∀ q ∈ N.w, q.length ≤ maxLen
theorem SmallN.q {N : Nt} (h : SmallN N) : ∀ q ∈ N.w, q.length ≤ 1048576 := fun _ hq => Nat.le_trans (mem_total hq) h.t
theorem SmallN.great {N : Nt} (h : SmallN N) : GreatN N := ⟨Nat.le_trans h.w (by decide), Nat.le_trans h.l (by decide), Nat.le_trans h.c (by decide), fun q hq => Nat.le_trans (h.q q hq) (by decide)⟩
theorem SmallN.tot {N : Nt} (h : SmallN N) : ntot N ≤ 6291456 := by
  have h1 := h.t; have h2 := h.l; have h3 := h.c
  unfold ntot; omega
end
end Go.Proofs.YtfdpkhiiboghiaaGreatDoor
