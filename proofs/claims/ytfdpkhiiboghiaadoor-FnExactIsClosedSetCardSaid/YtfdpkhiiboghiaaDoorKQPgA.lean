/- The program's small functions of chapter 8. The program's counts of uses: numbersFrom, add, the comparison of arrays. The laws' helpers at nets: marks. A net that came in, opened. Laws over nets: sizes, marks. -/
import Derived.Test.YtfdpkhiiboghiaaDoorKQNetZ
import Derived.Test.YtfdpkhiiboghiaaDoorKNetY
import Derived.Test.YtfdpkhiiboghiaaDoorKQDual
import Derived.Test.YtfdpkhiiboghiaaDoorKQSeqV
import Derived.ChangeKeysEq
import Derived.Laws.StructEq
import Derived.Test.YtfdpkhiiboghiaaDoorKNetB
import Derived.Deep.Slices
namespace Go.Proofs.YtfdpkhiiboghiaaDoor
set_option linter.unusedSimpArgs false
set_option linter.unusedVariables false
section
set_option linter.unusedSimpArgs false
set_option linter.unusedVariables false
open Go.ChangeAt Go.ChangeShapes Go.RowKit Go.WideShapes

theorem cells4 {w : World} {b : Nat} {a0 a1 a2 a3 : Value} {t : TypeId} (h : w.heap[b]? = some (.cells #[a0, a1, a2, a3] t (0, 0))) :
    w.cell? ⟨b, 0, none⟩ = some a0 ∧ w.cell? ⟨b, 1, none⟩ = some a1 ∧ w.cell? ⟨b, 2, none⟩ = some a2 ∧ w.cell? ⟨b, 3, none⟩ = some a3 :=
  ⟨cell_of_row _ _ 0 _ _ (0, 0) h, cell_of_row _ _ 1 _ _ (0, 0) h, cell_of_row _ _ 2 _ _ (0, 0) h, cell_of_row _ _ 3 _ _ (0, 0) h⟩
theorem eqI_b (A B : Option Addr) (n m c d : Nat) (zs ys : List Int) (w : World) (h : RdI w w.heap.size A n zs) (h' : RdI w w.heap.size B m ys) (hn : n ≤ 1048576) (hm : m ≤ 1048576) :
    Calls Tryd.prog 32 #[.slice A n c, .slice B m d] w fun e w' => e = .returned (.bool (decide (zs = ys))) ∧ Below w.heap.size w w' :=
  (equal_d A B n m c d zs ys w _ _ h h' hn hm).mono fun _ _ ⟨h1, m, h2⟩ => ⟨h1, by rw [h2]; exact below_drewN (Below.refl _ _) m⟩
/-- The operator of a kind. -/
def opK (k : Int) : Int := if k = 3 then 11 else if k = 4 then 12 else -1
theorem linkOperator_any (k : Int) (w : World) : Calls Tryd.prog 56 #[.int .i64 k] w fun e w' => e = .returned (.int .i64 (opK k)) ∧ w = w' := by
  by_cases h3 : k = 3
  · subst h3
    go_enter Tryd.func56, Tryd.ntmps56
    go_wp2
    go_ret
    exact ⟨rfl, rfl⟩
  · have d3 : (k == 3) = false := by simpa using h3
    by_cases h4 : k = 4
    · subst h4
      clear h3
      go_enter Tryd.func56, Tryd.ntmps56
      go_wp2
      go_ret
      exact ⟨rfl, rfl⟩
    · have d4 : (k == 4) = false := by simpa using h4
      have HE : Hid ((-1 : Int) = opK k) := Lib.hid (by unfold opK; rw [if_neg h3, if_neg h4])
      clear h3 h4
      go_enter Tryd.func56, Tryd.ntmps56
      go_wp2
      go_ret
      exact ⟨ret_i64 HE.out, rfl⟩
/-- The link of a kind. -/
def lnk (k a b c : Int) : Lk := ⟨k, a, b, if k = 3 ∨ k = 4 then c else 0⟩
theorem linkOf_any (k a b c : Int) (w : World) : Calls Tryd.prog 53 #[.int .i64 k, .int .i64 a, .int .i64 b, .int .i64 c] w fun e w' => e = .returned (.agg #[.int .i64 (lnk k a b c).k, .int .i64 (lnk k a b c).a, .int .i64 (lnk k a b c).b, .int .i64 (lnk k a b c).c]) ∧ Below w.heap.size w w' := by
  have hb : Below w.heap.size w (w.alloc (.cells #[.int .i64 0, .int .i64 0, .int .i64 0, .int .i64 0] 53)) := (Below.refl _ _).alloc (Nat.le_refl _) _
  obtain ⟨u, hu⟩ : ∃ u, u = w.alloc (.cells #[.int .i64 0, .int .i64 0, .int .i64 0, .int .i64 0] 53) := ⟨_, rfl⟩
  have hg : u.heap[w.heap.size]? = some (.cells #[.int .i64 0, .int .i64 0, .int .i64 0, .int .i64 0] 53 (0, 0)) := by rw [hu]; exact heap_alloc_new _ _
  rw [← hu] at hb
  obtain ⟨x0, x1, x2, x3⟩ := cells4 hg
  have f0 := frozen_of_row _ _ 0 _ _ hg; have f1 := frozen_of_row _ _ 1 _ _ hg; have f2 := frozen_of_row _ _ 2 _ _ hg; have f3 := frozen_of_row _ _ 3 _ _ hg
  have HO := Lib.hid (linkOperator_any k u)
  by_cases h : k = 3 ∨ k = 4
  · have d : (opK k == -1) = false := by
      rcases h with rfl | rfl <;> rfl
    have HE : Hid (lnk k a b c = ⟨k, a, b, c⟩) := Lib.hid (by unfold lnk; rw [if_pos h])
    have HB := Lib.hid (set4_below hb (Nat.le_refl _) (.int .i64 k) (.int .i64 a) (.int .i64 b) (.int .i64 c))
    have HG := Lib.hid (set4_at hg (.int .i64 k) (.int .i64 a) (.int .i64 b) (.int .i64 c))
    rw [HE.out]
    clear hb hg h
    generalize opK k = o at *
    go_enter Tryd.func53, Tryd.ntmps53
    go_wp2_with (fail)
    rw [← hu]
    clear hu
    refine HO.out.mono ?_
    rintro e w' ⟨rfl, rfl⟩
    go_wp2
    (try simp only [Exit.inBlock, Exit.then])
    refine bodyPost_ret (results_cell_row rfl _ _ w.heap.size _ _ (0, 0) _ rfl HG.out Tryd.underlying53 rfl (by kernel_rfl)) rfl ?_
    exact ⟨rfl, HB.out⟩
  · have d : (opK k == -1) = true := by
      have h3 : ¬ k = 3 := fun e => h (.inl e)
      have h4 : ¬ k = 4 := fun e => h (.inr e)
      unfold opK
      rw [if_neg h3, if_neg h4]
      rfl
    have HE : Hid (lnk k a b c = ⟨k, a, b, 0⟩) := Lib.hid (by unfold lnk; rw [if_neg h])
    have HB := Lib.hid (set4_below hb (Nat.le_refl _) (.int .i64 k) (.int .i64 a) (.int .i64 b) (.int .i64 0))
    have HG := Lib.hid (set4_at hg (.int .i64 k) (.int .i64 a) (.int .i64 b) (.int .i64 0))
    rw [HE.out]
    clear hb hg h
    generalize opK k = o at *
    go_enter Tryd.func53, Tryd.ntmps53
    go_wp2_with (fail)
    rw [← hu]
    clear hu
    refine HO.out.mono ?_
    rintro e w' ⟨rfl, rfl⟩
    go_wp2
    (try simp only [Exit.inBlock, Exit.then])
    refine bodyPost_ret (results_cell_row rfl _ _ w.heap.size _ _ (0, 0) _ rfl HG.out Tryd.underlying53 rfl (by kernel_rfl)) rfl ?_
    exact ⟨rfl, HB.out⟩
theorem gives_nil {w w' : World} (h : Below w.heap.size w w') : Gives w [] (.returned (.slice none 0 0)) w' := ⟨none, 0, rfl, World.ownsRow_nil _ _ _ _, h⟩
theorem gives_lit2 {w u : World} {a b : Int} {g : Nat} (h : Below w.heap.size w u) (hg : u.heap.size = g) : Gives w [a, b] (.returned (.slice (some ⟨g, 0, none⟩) 2 2)) (u.alloc (.cells #[.int .i64 a, .int .i64 b] 2)) := by
  subst hg
  exact ⟨_, 2, rfl, own_lit (n := 2) (size := 1) #[.int .i64 a, .int .i64 b] h.size (by simp [maxLen]) rfl, h.trans (((Below.refl _ _).alloc (Nat.le_refl _) _).mono h.size)⟩
theorem gives_lit1 {w u : World} {a : Int} {g : Nat} (h : Below w.heap.size w u) (hg : u.heap.size = g) : Gives w [a] (.returned (.slice (some ⟨g, 0, none⟩) 1 1)) (u.alloc (.cells #[.int .i64 a] 2)) := by
  subst hg
  exact ⟨_, 1, rfl, own_lit (n := 1) (size := 1) #[.int .i64 a] h.size (by simp [maxLen]) rfl, h.trans (((Below.refl _ _).alloc (Nat.le_refl _) _).mono h.size)⟩
theorem outputsOf_any (l : Lk) (w : World) : Calls Tryd.prog 45 #[.agg #[.int .i64 l.k, .int .i64 l.a, .int .i64 l.b, .int .i64 l.c]] w (Gives w (outL l)) := by
  obtain ⟨k, a, b, c⟩ := l
  dsimp only
  obtain ⟨hb, x0, x1, x2, x3, hsz⟩ := lnk_any w ⟨k, a, b, c⟩ 53
  dsimp only at hb x0 x1 x2 x3 hsz
  obtain ⟨u, hu⟩ : ∃ u, u = w.alloc (.cells #[.int .i64 k, .int .i64 a, .int .i64 b, .int .i64 c] 53) := ⟨_, rfl⟩
  rw [← hu] at hb x0 x1 x2 x3 hsz
  have HB := Lib.hid hb; have HS := Lib.hid hsz
  clear hb hsz
  by_cases h1 : k = 1
  · subst h1
    rw [show outL ⟨1, a, b, c⟩ = [a, b] from rfl]
    go_enter Tryd.func45, Tryd.ntmps45
    go_wp2_with (fail)
    rw [← hu]
    clear hu
    go_wp2
    go_ret
    exact gives_lit2 HB.out HS.out
  · have d1 : (k == 1) = false := by simpa using h1
    by_cases h2 : k = 2
    · subst h2
      clear h1
      rw [show outL ⟨2, a, b, c⟩ = [] from rfl]
      go_enter Tryd.func45, Tryd.ntmps45
      go_wp2_with (fail)
      rw [← hu]
      clear hu
      go_wp2
      go_ret
      exact gives_nil HB.out
    · have d2 : (k == 2) = false := by simpa using h2
      rw [show outL ⟨k, a, b, c⟩ = [c] by unfold outL; rw [if_neg h1, if_neg h2]]
      clear h1 h2
      go_enter Tryd.func45, Tryd.ntmps45
      go_wp2_with (fail)
      rw [← hu]
      clear hu
      go_wp2
      go_ret
      exact gives_lit1 HB.out HS.out
theorem inputsOf_any (l : Lk) (w : World) : Calls Tryd.prog 46 #[.agg #[.int .i64 l.k, .int .i64 l.a, .int .i64 l.b, .int .i64 l.c]] w (Gives w (inL l)) := by
  obtain ⟨k, a, b, c⟩ := l
  dsimp only
  obtain ⟨hb, x0, x1, x2, x3, hsz⟩ := lnk_any w ⟨k, a, b, c⟩ 53
  dsimp only at hb x0 x1 x2 x3 hsz
  obtain ⟨u, hu⟩ : ∃ u, u = w.alloc (.cells #[.int .i64 k, .int .i64 a, .int .i64 b, .int .i64 c] 53) := ⟨_, rfl⟩
  rw [← hu] at hb x0 x1 x2 x3 hsz
  have HB := Lib.hid hb; have HS := Lib.hid hsz
  clear hb hsz
  by_cases h1 : k = 1
  · subst h1
    rw [show inL ⟨1, a, b, c⟩ = [] from rfl]
    go_enter Tryd.func46, Tryd.ntmps46
    go_wp2_with (fail)
    rw [← hu]
    clear hu
    go_wp2
    go_ret
    exact gives_nil HB.out
  · have d1 : (k == 1) = false := by simpa using h1
    rw [show inL ⟨k, a, b, c⟩ = [a, b] by unfold inL; rw [if_neg h1]]
    clear h1
    go_enter Tryd.func46, Tryd.ntmps46
    go_wp2_with (fail)
    rw [← hu]
    clear hu
    go_wp2
    go_ret
    exact gives_lit2 HB.out HS.out
theorem isWireForm_any (A : Option Addr) (n c : Nat) (f : List Int) (w : World) (h : RdI w w.heap.size A n f) (ht : Arit w) (hnc : n ≤ c) :
    Calls Tryd.prog 40 #[.slice A n c] w fun e w' => e = .returned (.bool (formN f)) ∧ w = w' := by
  have HF := Lib.hid (fragmentOf_impl A n c f w h ht hnc)
  obtain ⟨v, hv⟩ : ∃ v, fragV f = v := ⟨_, rfl⟩
  have HE : Hid (∀ b : Bool, b = decide (0 ≤ v ∧ v ≤ 1) → b = formN f) := Lib.hid fun b hb => by rw [hb, ← hv]; rfl
  rw [hv] at HF
  clear h ht hnc hv
  by_cases h0 : v = 0
  · subst h0
    have HR := Lib.hid (HE.out true rfl)
    clear HE
    go_enter Tryd.func40, Tryd.ntmps40
    go_wp2_with (fail)
    refine HF.out.mono ?_
    rintro e w' ⟨rfl, rfl⟩
    go_wp2
    go_ret
    exact ⟨ret_bool HR.out, rfl⟩
  · have d0 : (v == 0) = false := by simpa using h0
    by_cases h1 : v = 1
    · subst h1
      have HR := Lib.hid (HE.out true rfl)
      clear HE h0
      go_enter Tryd.func40, Tryd.ntmps40
      go_wp2_with (fail)
      refine HF.out.mono ?_
      rintro e w' ⟨rfl, rfl⟩
      go_wp2
      go_ret
      exact ⟨ret_bool HR.out, rfl⟩
    · have d1 : (v == 1) = false := by simpa using h1
      have HR := Lib.hid (HE.out false (by rw [decide_eq_false (by omega)]))
      clear HE h0 h1
      go_enter Tryd.func40, Tryd.ntmps40
      go_wp2_with (fail)
      refine HF.out.mono ?_
      rintro e w' ⟨rfl, rfl⟩
      go_wp2
      go_ret
      exact ⟨ret_bool HR.out, rfl⟩
theorem isWire_any (A L C : Option Addr) (n c m d k e0 : Nat) (x : Int) (w : World) (hn : n ≤ maxLen) :
    Calls Tryd.prog 42 #[.agg #[.slice A n c, .slice L m d, .slice C k e0], .int .i64 x] w fun e w' => e = .returned (.bool (inW n x)) ∧ Below w.heap.size w w' := by
  unfold maxLen at hn
  obtain ⟨hb, hh, hsz⟩ := box3_any w (.slice A n c) (.slice L m d) (.slice C k e0) 31
  obtain ⟨w0, hw0⟩ : ∃ w0, w0 = w.alloc (.cells #[.slice A n c, .slice L m d, .slice C k e0] 31) := ⟨_, rfl⟩
  rw [← hw0] at hb hh hsz
  obtain ⟨y0, y1, y2⟩ := three_cells hh
  have HB := Lib.hid hb
  clear hb hh hsz y1 y2
  by_cases h0 : 0 ≤ x
  · have d0 : decide (0 ≤ x) = true := decide_eq_true h0
    by_cases h1 : x < (n : Int)
    · have d1 : decide (x < (n : Int)) = true := decide_eq_true h1
      have HR : Hid (true = inW n x) := Lib.hid (by unfold inW; rw [decide_eq_true (by omega)])
      clear h0 h1
      go_enter Tryd.func42, Tryd.ntmps42
      go_wp2_with (fail)
      rw [← hw0]
      clear hw0
      go_wp2
      go_ret
      exact ⟨ret_bool HR.out, HB.out⟩
    · have d1 : decide (x < (n : Int)) = false := decide_eq_false h1
      have HR : Hid (false = inW n x) := Lib.hid (by unfold inW; rw [decide_eq_false (by omega)])
      clear h0 h1
      go_enter Tryd.func42, Tryd.ntmps42
      go_wp2_with (fail)
      rw [← hw0]
      clear hw0
      go_wp2
      go_ret
      exact ⟨ret_bool HR.out, HB.out⟩
  · have d0 : decide (0 ≤ x) = false := decide_eq_false h0
    have HR : Hid (false = inW n x) := Lib.hid (by unfold inW; rw [decide_eq_false (by omega)])
    clear h0
    go_enter Tryd.func42, Tryd.ntmps42
    go_wp2_with (fail)
    rw [← hw0]
    clear hw0
    go_wp2
    go_ret
    exact ⟨ret_bool HR.out, HB.out⟩
/-- Numbers one after another. -/
def uptoL (s : Int) (n k : Nat) : List Int := markL s k ++ List.replicate (n - k) 0
theorem uptoL_all (s : Int) (n : Nat) : uptoL s n n = markL s n := by simp [uptoL]
theorem uptoL_step {s : Int} {n k : Nat} (h : k < n) : (uptoL s n k).set k (s + (k : Nat)) = uptoL s n (k + 1) := by
  unfold uptoL
  have e1 : n - k = (n - (k + 1)) + 1 := by omega
  rw [List.set_append_right _ _ (by rw [markL_len]; omega), markL_len, Nat.sub_self, e1, List.replicate_succ, List.set_cons_zero]
  have e2 : markL s (k + 1) = markL s k ++ [s + (k : Nat)] := by unfold markL; rw [List.range_succ, List.map_append]; rfl
  rw [e2, List.append_assoc]; rfl
end
section
set_option linter.unusedSimpArgs false
set_option linter.unusedVariables false
open Go.ChangeAt Go.ChangeShapes Go.RowKit Go.WideShapes

theorem gives_own {w w' : World} {v : Value} {n b : Nat} {xs : List Int} (h : w'.ownsRow b 2 1 v n (xs.map (Value.int .i64))) (hb : w.heap.size ≤ b) (bel : Below w.heap.size w w') : Gives w xs (.returned v) w' := by
  obtain ⟨A, c, rfl⟩ := own_shape h
  have hl := h.1
  rw [List.length_map, Nat.mul_one] at hl
  subst hl
  exact ⟨A, c, rfl, own_more h hb, bel⟩
theorem uptoL_at {s : Int} {n k : Nat} (h : k < n) : ((uptoL s n k).map (Value.int .i64))[k]? = some (.int .i64 0) := by
  unfold uptoL
  have h1 : (markL s k).length = k := markL_len s k
  rw [List.getElem?_map, List.getElem?_append_right (by omega), h1, Nat.sub_self, List.getElem?_replicate, if_pos (by omega)]
  rfl
theorem numbersFrom_any (s n : Nat) (w : World) (hs : s ≤ 1048576) (hn : n ≤ 1048576) :
    Calls Tryd.prog 58 #[.int .i64 s, .int .i64 n] w (Gives w (markL s n)) := by
  obtain ⟨i0, hi0, hz0, hz1, hz2⟩ := info_parts info_i64
  have b2 : i0.bytes * n ≤ 281474976710656 := by rw [hz2]; omega
  have b3 : n ≤ maxLen := by unfold maxLen; omega
  go_enter Tryd.func58, Tryd.ntmps58
  go_wp2_with (at_make; refine wpList_make_full _ rfl _ _ _ rfl w.heap.size 2 i0 (.int .i64 0) 1 Tryd.underlying24 hi0 hz0 hz1 _ _ _ _ n rfl rfl rfl rfl b2 b3 (Nat.le_refl _) ?_; intro w1 hown hg)
  have hbel : Below w.heap.size w w1 := (Below.refl _ _).grown hg (Nat.le_refl _) (by intro k hk; cases hk)
  have hz : (List.map (Value.int .i64) (uptoL s n 0)) = List.replicate n (Value.int .i64 0) := by simp [uptoL, markL]
  have h1 : w1.ownsRow w.heap.size 2 1 (.slice (some ⟨w.heap.size, 0, none⟩) n n) n ((uptoL s n 0).map (Value.int .i64)) := by
    rw [hz, ← toList_madeCells_one]
    simpa [Value.cells] using hown
  have HO := Lib.hid h1
  have HB := Lib.hid hbel
  clear hg hown b2 b3 hi0 hz0 hz1 hz2 hbel hz h1
  go_loopw [11] (fun i wr => ∃ k : Nat, k ≤ n ∧ i = .int .i64 k ∧ wr.ownsRow w.heap.size 2 1 (.slice (some ⟨w.heap.size, 0, none⟩) n n) n ((uptoL s n k).map (Value.int .i64)) ∧ Below w.heap.size w wr) (fun i _ => n - (intOf i).toNat)
  case atStart => exact ⟨0, Nat.zero_le _, rfl, HO.out, HB.out⟩
  case round =>
    obtain ⟨k, hk, rfl, hO, hB⟩ := hrel
    clear HO HB
    by_cases hlt : k < n
    · have ho := (hO.cellAt k (by omega)).trans (uptoL_at hlt)
      have hf := hO.frozenAt k
      have HS := Lib.hid (hO.stored k (.int .i64 ((s : Int) + (k : Nat)))).1
      rw [← List.map_set, uptoL_step hlt] at HS
      have HB := Lib.hid (hB.setCell (p := ⟨w.heap.size, k, none⟩) (Nat.le_refl _) (.int .i64 ((s : Int) + (k : Nat))))
      clear hO hB
      go_wp2
      go_roundw
      case rel => exact ⟨k + 1, by omega, by go_num, HS.out, HB.out⟩
      case measure => simp [intOf]; omega
    · have hkl : k = n := by omega
      subst hkl
      rw [uptoL_all] at hO
      have HO := Lib.hid hO; have HB := Lib.hid hB
      clear hO hB
      go_wp2
      go_ret
      exact gives_own HO.out (Nat.le_refl _) HB.out
/-- The cells of an array of counts. -/
def cntA (f : Nat → Int) : Array Value := ((cnts 48 f).map (Value.int .i64)).toArray
theorem cntA_len (f : Nat → Int) : (cntA f).size = 48 := by simp [cntA, cnts]
theorem cntA_at {f : Nat → Int} {i : Nat} (h : i < 48) : (cntA f)[i]? = some (.int .i64 (f i)) := by simp [cntA, cnts, h]
theorem cntA_set {f : Nat → Int} {i : Nat} (h : i < 48) : (cntA f).setIfInBounds i (.int .i64 (f i + 1)) = cntA fun x => f x + one (i = x) := by
  unfold cntA
  rw [List.setIfInBounds_toArray, ← List.map_set, cnts_bump h]
theorem cntA_ext {f g : Nat → Int} (h : ∀ x, x < 48 → f x = g x) : cntA f = cntA g := by unfold cntA; rw [cnts_ext h]
/-- One array of counts in block g. -/
def ArrU (w : World) (g : Nat) (f : Nat → Int) : Prop := w.heap[g]? = some (.cells (cntA f) 77 (0, 0))
theorem ArrU.keep {w w' : World} {g : Nat} {f : Nat → Int} (h : ArrU w g f) (hb : w'.heap[g]? = w.heap[g]?) : ArrU w' g f := hb.trans h
theorem ArrU.cell {w : World} {g : Nat} {f : Nat → Int} (h : ArrU w g f) {i : Nat} (hi : i < 48) : w.cell? ⟨g, i, none⟩ = some (.int .i64 (f i)) := by
  exact (cell_of_row _ _ i _ _ (0, 0) h).trans (cntA_at hi)
theorem ArrU.frozen {w : World} {g : Nat} {f : Nat → Int} (h : ArrU w g f) (i : Nat) : w.frozen? ⟨g, i, none⟩ = false := frozen_of_row _ _ i _ _ h
theorem ArrU.bump {w : World} {g : Nat} {f : Nat → Int} (h : ArrU w g f) {i : Nat} (hi : i < 48) : ArrU (w.setCell ⟨g, i, none⟩ (.int .i64 (f i + 1))) g fun x => f x + one (i = x) := by
  have := heap_setCell_same w g i _ _ (.int .i64 (f i + 1)) h
  rw [cntA_set hi] at this
  exact this
theorem ne_of_own {w : World} {base n c g : Nat} {t : TypeId} {A : Option Addr} {xs : List Value} (h : w.ownsRow base t 1 (.slice A n c) n xs) (hlt : g < base) : 0 < n → ∀ b off, A = some ⟨b, off, none⟩ → b ≠ g := by
  intro hn b off e
  obtain ⟨g', cap, hv, hlo, _⟩ := h.form hn
  subst e
  injection hv with h1 h2 h3
  injection h1 with h1
  injection h1 with h4 h5 h6
  omega
theorem ne_of_rd {w : World} {B n g : Nat} {A : Option Addr} {xs : List Int} (h : RdI w B A n xs) (hlt : B ≤ g) : 0 < n → ∀ b off, A = some ⟨b, off, none⟩ → b ≠ g := by
  intro hn b off e
  obtain ⟨b', off', e', hb, _⟩ := h.2 hn
  rw [e] at e'
  injection e' with e'
  injection e' with h4 h5 h6
  omega
set_option maxHeartbeats 2000000 in
/-- add: one use more of each of the wires. -/
theorem add_any (g : Nat) (f : Nat → Int) (A : Option Addr) (n c : Nat) (xs : List Int) (w : World) (B : Nat) (hg : ArrU w g f) (h : RdI w B A n xs) (hBg : 0 < n → ∀ b off, A = some ⟨b, off, none⟩ → b ≠ g) (hn : n ≤ 1048576) (hx : xs.all (inW 48) = true) (hf : ∀ x, 0 ≤ f x ∧ f x ≤ 1073741824) :
    Calls Tryd.prog 57 #[.pointer (some ⟨g, 0, none⟩), .slice A n c] w fun e w' => e = .returned (.tuple #[]) ∧ ArrU w' g (fun x => f x + concN xs x) ∧ KeptS (fun k => k = g) w w' := by
  have hl := h.len
  subst hl
  have H := Lib.hid h; have HBG := Lib.hid hBg; have HX := Lib.hid (fun t (ht : t < xs.length) => all_at (d := 0) hx ht); have HF := Lib.hid hf
  have HG := Lib.hid hg
  clear h hBg hx hf hg
  go_enter Tryd.func57, Tryd.ntmps57
  go_wp2
  go_loopw [8] (fun i wr => ∃ k : Nat, k ≤ xs.length ∧ i = .int .i64 k ∧ ArrU wr g (fun x => f x + concN (xs.take k) x) ∧ KeptS (fun k => k = g) w wr) (fun i _ => xs.length - (intOf i).toNat)
  case atStart => exact ⟨0, Nat.zero_le _, rfl, by
    have := HG.out
    unfold ArrU at this ⊢
    rw [this]
    exact congrArg (fun a => some (Obj.cells a _ _)) (cntA_ext fun x _ => by simp [concN, List.take_zero]), KeptS.refl _ _⟩
  case round =>
    obtain ⟨k, hk, rfl, hA, hK⟩ := hrel
    by_cases hlt : k < xs.length
    · obtain ⟨b, off, rfl, hbb, hcells⟩ := H.out.2 (by omega)
      have hne := HBG.out (by omega) b off rfl
      have hbw : b < w.heap.size := World.block_lt_of_cell? w _ (hcells k hlt)
      have hc : wr.cell? ⟨b, off + k, none⟩ = some (.int .i64 (xs.getD k 0)) := by
        have h5 := hcells k hlt
        unfold World.cell? at h5 ⊢
        rw [hK.block b hbw hne]
        exact h5
      have hin := HX.out k hlt
      have hstep := fun x => concN_step hlt x
      obtain ⟨z, hz⟩ : ∃ z, xs.getD k 0 = z := ⟨_, rfl⟩
      rw [hz] at hc hin hstep
      obtain ⟨_, hi, ez⟩ := inW_yes hin
      generalize z.toNat = i at *
      subst ez
      have hfb := HF.out i
      have hcb := concN_le (xs.take k) i
      have hlk : (xs.take k).length ≤ 1048576 := by rw [List.length_take]; omega
      have hu := hA.cell hi
      have hfr := hA.frozen i
      have hB := hA.bump hi
      obtain ⟨q, hq⟩ : ∃ q, f i + concN (xs.take k) i = q := ⟨_, rfl⟩
      have hqb : 0 ≤ q ∧ q ≤ 1074790400 := by omega
      rw [hq] at hu hB
      have HB : Hid (ArrU (wr.setCell ⟨g, i, none⟩ (.int .i64 (q + 1))) g (fun x => f x + concN (xs.take (k + 1)) x)) := Lib.hid (by
        unfold ArrU at hB ⊢
        rw [hB]
        exact congrArg (fun a => some (Obj.cells a _ _)) (cntA_ext fun x _ => by rw [hstep x]; omega))
      have HK2 : Hid (KeptS (fun k => k = g) w (wr.setCell ⟨g, i, none⟩ (.int .i64 (q + 1)))) := Lib.hid (hK.trans (KeptS.mk rfl rfl rfl ((Below.refl g wr).setCell (p := ⟨g, i, none⟩) (Nat.le_refl _) _).size fun p _ hp => Below.heap_setCell _ _ _ _ hp))
      clear hA hK hcells hin hstep hz hfb hcb hlk hq hB
      have hi48 : (i : Int) < 48 := by omega
      have K0 : Hid (wr.cell? ⟨g, i, none⟩ = some (.int .i64 q)) := Lib.hid hu
      go_wp2_with (fail)
      go_region
      all_goals go_wp2
      all_goals go_roundw
      all_goals (first | exact ⟨k + 1, by omega, by go_num, HB.out, ⟨HK2.out.os, HK2.out.tape, HK2.out.output, HK2.out.size, HK2.out.block⟩⟩ | (simp [intOf]; omega))
    · have hkl : k = xs.length := by omega
      subst hkl
      rw [List.take_length] at hA
      have HA := Lib.hid hA; have HK := Lib.hid hK
      clear hA hK
      go_wp2
      refine bodyPost_end (results_none rfl _ _ _) rfl ?_
      exact ⟨rfl, HA.out, HK.out⟩
end
section
open Go.ChangeAt Go.ChangeShapes Go.RowKit Go.WideShapes
end
section
open Go.ChangeShapes Go.WideShapes Go.ChangeAt Go.RowKit

theorem array_three {α : Type} {cs : Array α} (h : cs.size = 3) : ∃ c0 c1 c2, cs = #[c0, c1, c2] := by
  obtain ⟨l⟩ := cs
  match l, h with
  | [c0, c1, c2], _ => exact ⟨c0, c1, c2, rfl⟩
theorem open_agg3 {H : Type} {enc : TypeId × Value → H} {P : Program} {w : World} {base : Nat} {spare : Nat → Bool} {held : Bool} {r : Reach} {b0 : Nat} {t : TypeId} {f0 f1 f2 : Field} {v : Value} {d : DataW H} {p : List MemPlace} (hs : P.underlying t = some (.struct #[f0, f1, f2]))
    (o0 : f0.offset = 0) (o1 : f1.offset = 1) (o2 : f2.offset = 2) (k0 : P.cellsOf f0.type = 1) (k1 : P.cellsOf f1.type = 1) (k2 : P.cellsOf f2.type = 1)
    (hC : P.cellsOf t = 3) (hv : Value.okWide P w r b0 t v) (h : DataW.Trod enc P w base spare held t v d p) :
    ∃ (v0 v1 v2 : Value) (n : Nat) (y0 y1 y2 : DataW H × List MemPlace), v = .agg #[v0, v1, v2] ∧ DataW.trod enc P w base spare held n f0.type [v0] = some y0 ∧ DataW.trod enc P w base spare held n f1.type [v1] = some y1 ∧ DataW.trod enc P w base spare held n f2.type [v2] = some y2 := by
  obtain ⟨cs, rfl, hsz⟩ := okWide_struct hs hv
  obtain ⟨c0, c1, c2, rfl⟩ := array_three (hsz.trans hC)
  obtain ⟨fuel, hf⟩ := h
  obtain ⟨xs, n, _, _, _, hlen, hx⟩ := DataW.trod_struct hs hf
  match xs, hlen with
  | [y0, y1, y2], _ =>
    exact ⟨c0, c1, c2, n, y0, y1, y2, rfl, by simpa [Value.cells, o0, k0] using hx 0 f0 rfl, by simpa [Value.cells, o1, k1] using hx 1 f1 rfl, by simpa [Value.cells, o2, k2] using hx 2 f2 rfl⟩
theorem list_four {α : Type} {l : List α} (h : l.length = 4) : ∃ c0 c1 c2 c3, l = [c0, c1, c2, c3] := by
  match l, h with
  | [c0, c1, c2, c3], _ => exact ⟨c0, c1, c2, c3, rfl⟩
theorem trod_four {H : Type} {enc : TypeId × Value → H} {P : Program} {w : World} {base fuel : Nat} {spare : Nat → Bool} {held : Bool} {t : TypeId} {f0 f1 f2 f3 : Field} {cs : List Value} {x : DataW H × List MemPlace} (hs : P.underlying t = some (.struct #[f0, f1, f2, f3]))
    (o0 : f0.offset = 0) (o1 : f1.offset = 1) (o2 : f2.offset = 2) (o3 : f3.offset = 3) (k0 : P.cellsOf f0.type = 1) (k1 : P.cellsOf f1.type = 1) (k2 : P.cellsOf f2.type = 1) (k3 : P.cellsOf f3.type = 1)
    (hC : P.cellsOf t = 4) (h : DataW.trod enc P w base spare held fuel t cs = some x) :
    ∃ (v0 v1 v2 v3 : Value) (n : Nat) (y0 y1 y2 y3 : DataW H × List MemPlace), cs = [v0, v1, v2, v3] ∧ DataW.trod enc P w base spare held n f0.type [v0] = some y0 ∧ DataW.trod enc P w base spare held n f1.type [v1] = some y1 ∧
      DataW.trod enc P w base spare held n f2.type [v2] = some y2 ∧ DataW.trod enc P w base spare held n f3.type [v3] = some y3 := by
  obtain ⟨xs, n, _, _, hcl, hlen, hx⟩ := DataW.trod_struct hs h
  obtain ⟨c0, c1, c2, c3, rfl⟩ := list_four (hcl.trans hC)
  match xs, hlen with
  | [y0, y1, y2, y3], _ =>
    exact ⟨c0, c1, c2, c3, n, y0, y1, y2, y3, rfl, by simpa [o0, k0] using hx 0 f0 rfl, by simpa [o1, k1] using hx 1 f1 rfl, by simpa [o2, k2] using hx 2 f2 rfl, by simpa [o3, k3] using hx 3 f3 rfl⟩
set_option maxRecDepth 100000 in
/-- The four cells of a link that came in. -/
theorem cells_link {H : Type} {enc : TypeId × Value → H} {W : World} {fuel : Nat} {cs : List Value} {x : DataW H × List MemPlace} (h : DataW.trod enc Tryd.prog W 0 (fun _ => true) true fuel 60 cs = some x) :
    ∃ l : Lk, cs = [.int .i64 l.k, .int .i64 l.a, .int .i64 l.b, .int .i64 l.c] := by
  have e := trod_four (P := Tryd.prog) (w := W) (enc := enc) (base := 0) (spare := fun _ => true) (held := true) (cs := cs) (x := x) (fuel := fuel) Tryd.underlying60 (by kernel_rfl) (by kernel_rfl) (by kernel_rfl) (by kernel_rfl) (by kernel_rfl) (by kernel_rfl) (by kernel_rfl) (by kernel_rfl) (by kernel_rfl)
  obtain ⟨v0, v1, v2, v3, n, y0, y1, y2, y3, rfl, h0, h1, h2, h3⟩ := e h
  obtain ⟨r, e0, _, _⟩ := DataW.trod_int Tryd.underlying2 h0
  obtain ⟨a, e1, _, _⟩ := DataW.trod_int Tryd.underlying2 h1
  obtain ⟨b, e2, _, _⟩ := DataW.trod_int Tryd.underlying2 h2
  obtain ⟨i, e3, _, _⟩ := DataW.trod_int Tryd.underlying2 h3
  obtain rfl : v0 = _ := List.singleton_inj.1 e0
  obtain rfl : v1 = _ := List.singleton_inj.1 e1
  obtain rfl : v2 = _ := List.singleton_inj.1 e2
  obtain rfl : v3 = _ := List.singleton_inj.1 e3
  exact ⟨⟨r, a, b, i⟩, rfl⟩
theorem addN {b off : Nat} {m : Nat} : (⟨b, off, none⟩ : Addr).add m = ⟨b, off + m, none⟩ := by
  unfold Addr.add
  split <;> simp_all
instance : Inhabited Lk := ⟨Lk.nil⟩
/-- The row of links made of its cells. -/
theorem rdl_of {w : World} {B b off : Nat} {ls : List Lk} (hb : b < B) (hc : ∀ i, i < ls.length → w.cell? ⟨b, off + i * 4, none⟩ = some (.int .i64 (ls.getD i Lk.nil).k) ∧ w.cell? ⟨b, off + i * 4 + 1, none⟩ = some (.int .i64 (ls.getD i Lk.nil).a) ∧ w.cell? ⟨b, off + i * 4 + 2, none⟩ = some (.int .i64 (ls.getD i Lk.nil).b) ∧ w.cell? ⟨b, off + i * 4 + 3, none⟩ = some (.int .i64 (ls.getD i Lk.nil).c)) :
    RdL w B (some ⟨b, off, none⟩) ls.length ls := by
  refine ⟨rfl, flL_len ls, fun _ => ⟨b, off, rfl, hb, fun j hj => ?_⟩⟩
  have h4 : j / 4 < ls.length := by omega
  obtain ⟨c0, c1, c2, c3⟩ := hc (j / 4) h4
  obtain ⟨f0, f1, f2, f3⟩ := flL_at ls (j / 4) h4
  have : j = j / 4 * 4 ∨ j = j / 4 * 4 + 1 ∨ j = j / 4 * 4 + 2 ∨ j = j / 4 * 4 + 3 := by omega
  rcases this with e | e | e | e
  · rw [e, f0]; exact c0
  · rw [e, f1, ← Nat.add_assoc]; exact c1
  · rw [e, f2, ← Nat.add_assoc]; exact c2
  · rw [e, f3, ← Nat.add_assoc]; exact c3
/-- A slice of links that came in. -/
theorem open_links {H : Type} {enc : TypeId × Value → H} {W : World} {fuel : Nat} {v : Value} {x : DataW H × List MemPlace}
    (hf : DataW.trod enc Tryd.prog W 0 (fun _ => true) true fuel 23 [v] = some x) : ∃ a n c ls, v = .slice a n c ∧ RdL W W.heap.size a n ls ∧ n ≤ c ∧ n ≤ maxLen := by
  have c4 : Tryd.prog.cellsOf 60 = 4 := by kernel_rfl
  rcases DataW.trod_slice Tryd.underlying23 hf with ⟨hcs, _⟩ | ⟨x, l, c, elems, rest, n, _, hcs, _, _, hl, hm, hlen, hel, _⟩
  · obtain rfl : v = .slice none 0 0 := by simpa using hcs
    exact ⟨none, 0, 0, [], rfl, RdL.nil _ _ _, Nat.le_refl _, Nat.zero_le _⟩
  · obtain rfl : v = .slice (some x) l c := by simpa using hcs
    rw [c4] at hel
    have each : ∀ i, i < l → ∃ y : Lk, ∀ t, t < 4 → W.cell? ((x.add (i * 4)).add t) = [Value.int .i64 y.k, .int .i64 y.a, .int .i64 y.b, .int .i64 y.c][t]? := by
      intro i hi
      have he := hel i hi
      rw [List.getElem?_eq_getElem (by omega)] at he
      obtain ⟨cs, hc, ht⟩ := Option.bind_eq_some_iff.1 he
      obtain ⟨s, rfl⟩ := cells_link ht
      obtain ⟨_, hcl, hcc⟩ := World.cells?_some hc
      exact ⟨s, fun t ht => hcc t ht⟩
    obtain ⟨y, hy⟩ := Go.Deep.choose_lt each
    by_cases hn : 0 < l
    · obtain ⟨b, off, spot⟩ := x
      have h0 := hy 0 hn 0 (by omega)
      have hs : spot = none := by
        have : W.cell? ((⟨b, off, spot⟩ : Addr).add (0 * 4) |>.add 0) = some (.int .i64 (y 0).k) := h0
        simpa [Addr.add] using World.cell?_spot this
      subst hs
      have hlt : b < W.heap.size := by
        have : W.cell? ((⟨b, off, none⟩ : Addr).add (0 * 4) |>.add 0) = some (.int .i64 (y 0).k) := h0
        have := World.block_lt_of_cell? W _ this
        rw [addN, addN] at this
        exact this
      have hle : ((List.range l).map y).length = l := by simp
      have key := rdl_of (w := W) (b := b) (off := off) (ls := (List.range l).map y) hlt (fun k hk => by
        rw [hle] at hk
        have e : ((List.range l).map y).getD k Lk.nil = y k := by simp [List.getD, hk]
        rw [e]
        have gt : ∀ t, t < 4 → W.cell? ⟨b, off + k * 4 + t, none⟩ = [Value.int .i64 (y k).k, .int .i64 (y k).a, .int .i64 (y k).b, .int .i64 (y k).c][t]? := fun t ht => by
          have := hy k hk t ht
          rw [addN, addN] at this
          exact this
        exact ⟨gt 0 (by omega), gt 1 (by omega), gt 2 (by omega), gt 3 (by omega)⟩)
      rw [hle] at key
      exact ⟨_, l, c, _, rfl, key, hl, by omega⟩
    · obtain rfl : l = 0 := by omega
      exact ⟨_, 0, c, [], rfl, RdL.nil _ _ _, hl, Nat.zero_le _⟩
set_option maxRecDepth 100000 in
/-- A net that came in. -/
theorem open_net {H : Type} {enc : TypeId × Value → H} {W : World} {base : Nat} {v : Value} {d : DataW H} {p : List MemPlace} (hv : Value.okWide Tryd.prog W .any base 26 v)
    (h : DataW.Trod enc Tryd.prog W 0 (fun _ => true) true 26 v d p) :
    ∃ (h : NH) (N : Nt), v = .agg #[.slice h.A N.w.length h.c, .slice h.L N.l.length h.d, .slice h.C N.c.length h.e] ∧ RdN W W.heap.size h N ∧ (N.w.length ≤ maxLen ∧ N.l.length ≤ maxLen ∧ N.c.length ≤ maxLen) ∧ ∀ q ∈ N.w, q.length ≤ maxLen := by
  have e := open_agg3 (r := .any) (b0 := base) (v := v) (d := d) (p := p) (P := Tryd.prog) (w := W) (enc := enc) (base := 0) (spare := fun _ => true) (held := true) Tryd.underlying26 (by kernel_rfl) (by kernel_rfl) (by kernel_rfl) (by kernel_rfl) (by kernel_rfl) (by kernel_rfl) (by kernel_rfl)
  obtain ⟨v0, v1, v2, n, y0, y1, y2, rfl, h0, h1, h2⟩ := e hv h
  obtain ⟨a, n0, c, qs, rfl, r0, _, m0, q0, _⟩ := open_rows h0
  obtain ⟨L, n1, d1, ls, rfl, r1, _, m1⟩ := open_links h1
  have hsl : ∃ A l c, v2 = .slice A l c ∧ l ≤ maxLen := by
    rcases open_ints Tryd.underlying24 Tryd.underlying2 (by kernel_rfl) h2 with ⟨hcs, _⟩ | ⟨x, l, c, zs, hcs, _, hl, hm, _⟩
    · exact ⟨none, 0, 0, List.singleton_inj.1 hcs, Nat.zero_le _⟩
    · exact ⟨some x, l, c, List.singleton_inj.1 hcs, by omega⟩
  obtain ⟨C, n2, e2, rfl, m2⟩ := hsl
  obtain ⟨f, r2, _, _⟩ := open_i64s (d := y2.1) (p := y2.2) ⟨n, by simpa [Value.cells] using h2⟩
  have l0 := r0.len; have l1 := r1.len; have l2 := r2.len
  subst l0 l1 l2
  exact ⟨⟨a, c, fun _ => (none, 0), L, d1, C, e2⟩, ⟨qs, ls, f⟩, rfl, ⟨r0, r1, r2⟩, ⟨m0, m1, m2⟩, q0⟩
/-- Too great, or within the laws' bound. -/
theorem sz_casesN (left : Int) (hl : left ≤ 1048576) (N : Nt) : szR left (nsz N) = -1 ∨ ∃ L, szR left (nsz N) = L ∧ 0 ≤ L ∧ L ≤ 1048576 ∧ N.w.length ≤ 1048576 ∧ total N.w ≤ 1048576 ∧ N.l.length ≤ 1048576 ∧ N.c.length ≤ 1048576 := by
  by_cases h : left - (nsz N : Nat) < 0
  · exact .inl (szR_neg h)
  · have hz : nsz N = N.w.length + total N.w + N.l.length + N.c.length := rfl
    exact .inr ⟨left - (nsz N : Nat), szR_pos h, by omega, by omega, by omega, by omega, by omega, by omega⟩
end
section
open Go.ChangeAt Go.ChangeShapes Go.RowKit Go.WideShapes

/-- A net no greater than the laws' bound. -/
structure SmallN (N : Nt) : Prop where
  w : N.w.length ≤ 1048576
  t : total N.w ≤ 1048576
  l : N.l.length ≤ 1048576
  c : N.c.length ≤ 1048576
/-- A net as great as any that came in. -/
structure GreatN (N : Nt) : Prop where
  w : N.w.length ≤ maxLen
  l : N.l.length ≤ maxLen
  c : N.c.length ≤ maxLen
  q : ∀ q ∈ N.w, q.length ≤ maxLen
theorem SmallN.q {N : Nt} (h : SmallN N) : ∀ q ∈ N.w, q.length ≤ 1048576 := fun _ hq => Nat.le_trans (mem_total hq) h.t
theorem SmallN.great {N : Nt} (h : SmallN N) : GreatN N := ⟨Nat.le_trans h.w (by decide), Nat.le_trans h.l (by decide), Nat.le_trans h.c (by decide), fun q hq => Nat.le_trans (h.q q hq) (by decide)⟩
theorem SmallN.tot {N : Nt} (h : SmallN N) : ntot N ≤ 6291456 := by
  have h1 := h.t; have h2 := h.l; have h3 := h.c
  unfold ntot; omega
end
end Go.Proofs.YtfdpkhiiboghiaaDoor
