/- The program's small functions of chapter 8. -/
import Derived.Test.YtjfhbofgnagfaaaDoorNetP
import Derived.Test.YtjfhbofgnagfaaaDoorPgM
import Derived.Test.YtjfhbofgnagfaaaDoorNetY
import Derived.Test.YtjfhbofgnagfaaaDoorCkA
import Derived.Test.YtjfhbofgnagfaaaDoorEqD
import Derived.Test.YtjfhbofgnagfaaaDoorFrag
namespace Go.Proofs.YtjfhbofgnagfaaaDoor
set_option linter.unusedSimpArgs false
set_option linter.unusedVariables false
open Go.ChangeAt Go.ChangeShapes Go.RowKit Go.WideShapes

theorem cells4 {w : World} {b : Nat} {a0 a1 a2 a3 : Value} {t : TypeId} (h : w.heap[b]? = some (.cells #[a0, a1, a2, a3] t (0, 0))) :
    w.cell? ⟨b, 0, none⟩ = some a0 ∧ w.cell? ⟨b, 1, none⟩ = some a1 ∧ w.cell? ⟨b, 2, none⟩ = some a2 ∧ w.cell? ⟨b, 3, none⟩ = some a3 :=
  ⟨cell_of_row _ _ 0 _ _ (0, 0) h, cell_of_row _ _ 1 _ _ (0, 0) h, cell_of_row _ _ 2 _ _ (0, 0) h, cell_of_row _ _ 3 _ _ (0, 0) h⟩
theorem eqI_b (A B : Option Addr) (n m c d : Nat) (zs ys : List Int) (w : World) (h : RdI w w.heap.size A n zs) (h' : RdI w w.heap.size B m ys) (hn : n ≤ 1048576) (hm : m ≤ 1048576) :
    Calls Tryd.prog 111 #[.slice A n c, .slice B m d] w fun e w' => e = .returned (.bool (decide (zs = ys))) ∧ Below w.heap.size w w' :=
  (equal_d A B n m c d zs ys w _ _ h h' hn hm).mono fun _ _ ⟨h1, m, h2⟩ => ⟨h1, by rw [h2]; exact below_drewN (Below.refl _ _) m⟩
/-- The operator of a kind. -/
def opK (k : Int) : Int := if k = 3 then 11 else if k = 4 then 12 else -1
theorem linkOperator_any (k : Int) (w : World) : Calls Tryd.prog 71 #[.int .i64 k] w fun e w' => e = .returned (.int .i64 (opK k)) ∧ w = w' := by
  by_cases h3 : k = 3
  · subst h3
    go_enter Tryd.func71, Tryd.ntmps71
    go_wp2
    go_ret
    exact ⟨rfl, rfl⟩
  · have d3 : (k == 3) = false := by simpa using h3
    by_cases h4 : k = 4
    · subst h4
      clear h3
      go_enter Tryd.func71, Tryd.ntmps71
      go_wp2
      go_ret
      exact ⟨rfl, rfl⟩
    · have d4 : (k == 4) = false := by simpa using h4
      have HE : Hid ((-1 : Int) = opK k) := Lib.hid (by unfold opK; rw [if_neg h3, if_neg h4])
      clear h3 h4
      go_enter Tryd.func71, Tryd.ntmps71
      go_wp2
      go_ret
      exact ⟨ret_i64 HE.out, rfl⟩
/-- The link of a kind. -/
def lnk (k a b c : Int) : Lk := ⟨k, a, b, if k = 3 ∨ k = 4 then c else 0⟩
theorem linkOf_any (k a b c : Int) (w : World) : Calls Tryd.prog 69 #[.int .i64 k, .int .i64 a, .int .i64 b, .int .i64 c] w fun e w' => e = .returned (.agg #[.int .i64 (lnk k a b c).k, .int .i64 (lnk k a b c).a, .int .i64 (lnk k a b c).b, .int .i64 (lnk k a b c).c]) ∧ Below w.heap.size w w' := by
  have hb : Below w.heap.size w (w.alloc (.cells #[.int .i64 0, .int .i64 0, .int .i64 0, .int .i64 0] 75)) := (Below.refl _ _).alloc (Nat.le_refl _) _
  obtain ⟨u, hu⟩ : ∃ u, u = w.alloc (.cells #[.int .i64 0, .int .i64 0, .int .i64 0, .int .i64 0] 75) := ⟨_, rfl⟩
  have hg : u.heap[w.heap.size]? = some (.cells #[.int .i64 0, .int .i64 0, .int .i64 0, .int .i64 0] 75 (0, 0)) := by rw [hu]; exact heap_alloc_new _ _
  rw [← hu] at hb
  obtain ⟨x0, x1, x2, x3⟩ := cells4 hg
  have f0 := frozen_of_row _ _ 0 _ _ hg; have f1 := frozen_of_row _ _ 1 _ _ hg; have f2 := frozen_of_row _ _ 2 _ _ hg; have f3 := frozen_of_row _ _ 3 _ _ hg
  have HO := Lib.hid (linkOperator_any k u)
  by_cases h : k = 3 ∨ k = 4
  · have d : (opK k == -1) = false := by
      rcases h with rfl | rfl <;> rfl
    have HE : Hid (lnk k a b c = ⟨k, a, b, c⟩) := Lib.hid (by unfold lnk; rw [if_pos h])
    have HB := Lib.hid (set4_below hb (Nat.le_refl _) (.int .i64 k) (.int .i64 a) (.int .i64 b) (.int .i64 c))
    have HG := Lib.hid (set4_at hg (.int .i64 k) (.int .i64 a) (.int .i64 b) (.int .i64 c))
    rw [HE.out]
    clear hb hg h
    generalize opK k = o at *
    go_enter Tryd.func69, Tryd.ntmps69
    go_wp2_with (fail)
    rw [← hu]
    clear hu
    refine HO.out.mono ?_
    rintro e w' ⟨rfl, rfl⟩
    go_wp2
    (try simp only [Exit.inBlock, Exit.then])
    refine bodyPost_ret (results_cell_row rfl _ _ w.heap.size _ _ (0, 0) _ rfl HG.out Tryd.underlying75 rfl (by kernel_rfl)) rfl ?_
    exact ⟨rfl, HB.out⟩
  · have d : (opK k == -1) = true := by
      have h3 : ¬ k = 3 := fun e => h (.inl e)
      have h4 : ¬ k = 4 := fun e => h (.inr e)
      unfold opK
      rw [if_neg h3, if_neg h4]
      rfl
    have HE : Hid (lnk k a b c = ⟨k, a, b, 0⟩) := Lib.hid (by unfold lnk; rw [if_neg h])
    have HB := Lib.hid (set4_below hb (Nat.le_refl _) (.int .i64 k) (.int .i64 a) (.int .i64 b) (.int .i64 0))
    have HG := Lib.hid (set4_at hg (.int .i64 k) (.int .i64 a) (.int .i64 b) (.int .i64 0))
    rw [HE.out]
    clear hb hg h
    generalize opK k = o at *
    go_enter Tryd.func69, Tryd.ntmps69
    go_wp2_with (fail)
    rw [← hu]
    clear hu
    refine HO.out.mono ?_
    rintro e w' ⟨rfl, rfl⟩
    go_wp2
    (try simp only [Exit.inBlock, Exit.then])
    refine bodyPost_ret (results_cell_row rfl _ _ w.heap.size _ _ (0, 0) _ rfl HG.out Tryd.underlying75 rfl (by kernel_rfl)) rfl ?_
    exact ⟨rfl, HB.out⟩
theorem gives_nil {w w' : World} (h : Below w.heap.size w w') : Gives w [] (.returned (.slice none 0 0)) w' := ⟨none, 0, rfl, World.ownsRow_nil _ _ _ _, h⟩
theorem gives_lit2 {w u : World} {a b : Int} {g : Nat} (h : Below w.heap.size w u) (hg : u.heap.size = g) : Gives w [a, b] (.returned (.slice (some ⟨g, 0, none⟩) 2 2)) (u.alloc (.cells #[.int .i64 a, .int .i64 b] 2)) := by
  subst hg
  exact ⟨_, 2, rfl, own_lit (n := 2) (size := 1) #[.int .i64 a, .int .i64 b] h.size (by simp [maxLen]) rfl, h.trans (((Below.refl _ _).alloc (Nat.le_refl _) _).mono h.size)⟩
theorem gives_lit1 {w u : World} {a : Int} {g : Nat} (h : Below w.heap.size w u) (hg : u.heap.size = g) : Gives w [a] (.returned (.slice (some ⟨g, 0, none⟩) 1 1)) (u.alloc (.cells #[.int .i64 a] 2)) := by
  subst hg
  exact ⟨_, 1, rfl, own_lit (n := 1) (size := 1) #[.int .i64 a] h.size (by simp [maxLen]) rfl, h.trans (((Below.refl _ _).alloc (Nat.le_refl _) _).mono h.size)⟩
theorem outputsOf_any (l : Lk) (w : World) : Calls Tryd.prog 91 #[.agg #[.int .i64 l.k, .int .i64 l.a, .int .i64 l.b, .int .i64 l.c]] w (Gives w (outL l)) := by
  obtain ⟨k, a, b, c⟩ := l
  dsimp only
  obtain ⟨hb, x0, x1, x2, x3, hsz⟩ := lnk_any w ⟨k, a, b, c⟩ 75
  dsimp only at hb x0 x1 x2 x3 hsz
  obtain ⟨u, hu⟩ : ∃ u, u = w.alloc (.cells #[.int .i64 k, .int .i64 a, .int .i64 b, .int .i64 c] 75) := ⟨_, rfl⟩
  rw [← hu] at hb x0 x1 x2 x3 hsz
  have HB := Lib.hid hb; have HS := Lib.hid hsz
  clear hb hsz
  by_cases h1 : k = 1
  · subst h1
    rw [show outL ⟨1, a, b, c⟩ = [a, b] from rfl]
    go_enter Tryd.func91, Tryd.ntmps91
    go_wp2_with (fail)
    rw [← hu]
    clear hu
    go_wp2
    go_ret
    exact gives_lit2 HB.out HS.out
  · have d1 : (k == 1) = false := by simpa using h1
    by_cases h2 : k = 2
    · subst h2
      clear h1
      rw [show outL ⟨2, a, b, c⟩ = [] from rfl]
      go_enter Tryd.func91, Tryd.ntmps91
      go_wp2_with (fail)
      rw [← hu]
      clear hu
      go_wp2
      go_ret
      exact gives_nil HB.out
    · have d2 : (k == 2) = false := by simpa using h2
      rw [show outL ⟨k, a, b, c⟩ = [c] by unfold outL; rw [if_neg h1, if_neg h2]]
      clear h1 h2
      go_enter Tryd.func91, Tryd.ntmps91
      go_wp2_with (fail)
      rw [← hu]
      clear hu
      go_wp2
      go_ret
      exact gives_lit1 HB.out HS.out
theorem inputsOf_any (l : Lk) (w : World) : Calls Tryd.prog 93 #[.agg #[.int .i64 l.k, .int .i64 l.a, .int .i64 l.b, .int .i64 l.c]] w (Gives w (inL l)) := by
  obtain ⟨k, a, b, c⟩ := l
  dsimp only
  obtain ⟨hb, x0, x1, x2, x3, hsz⟩ := lnk_any w ⟨k, a, b, c⟩ 75
  dsimp only at hb x0 x1 x2 x3 hsz
  obtain ⟨u, hu⟩ : ∃ u, u = w.alloc (.cells #[.int .i64 k, .int .i64 a, .int .i64 b, .int .i64 c] 75) := ⟨_, rfl⟩
  rw [← hu] at hb x0 x1 x2 x3 hsz
  have HB := Lib.hid hb; have HS := Lib.hid hsz
  clear hb hsz
  by_cases h1 : k = 1
  · subst h1
    rw [show inL ⟨1, a, b, c⟩ = [] from rfl]
    go_enter Tryd.func93, Tryd.ntmps93
    go_wp2_with (fail)
    rw [← hu]
    clear hu
    go_wp2
    go_ret
    exact gives_nil HB.out
  · have d1 : (k == 1) = false := by simpa using h1
    rw [show inL ⟨k, a, b, c⟩ = [a, b] by unfold inL; rw [if_neg h1]]
    clear h1
    go_enter Tryd.func93, Tryd.ntmps93
    go_wp2_with (fail)
    rw [← hu]
    clear hu
    go_wp2
    go_ret
    exact gives_lit2 HB.out HS.out
theorem isWireForm_any (A : Option Addr) (n c : Nat) (f : List Int) (w : World) (h : RdI w w.heap.size A n f) (ht : Arit w) (hnc : n ≤ c) :
    Calls Tryd.prog 61 #[.slice A n c] w fun e w' => e = .returned (.bool (formN f)) ∧ w = w' := by
  have HF := Lib.hid (fragmentOf_impl A n c f w h ht hnc)
  obtain ⟨v, hv⟩ : ∃ v, fragV f = v := ⟨_, rfl⟩
  have HE : Hid (∀ b : Bool, b = decide (0 ≤ v ∧ v ≤ 1) → b = formN f) := Lib.hid fun b hb => by rw [hb, ← hv]; rfl
  rw [hv] at HF
  clear h ht hnc hv
  by_cases h0 : v = 0
  · subst h0
    have HR := Lib.hid (HE.out true rfl)
    clear HE
    go_enter Tryd.func61, Tryd.ntmps61
    go_wp2_with (fail)
    refine HF.out.mono ?_
    rintro e w' ⟨rfl, rfl⟩
    go_wp2
    go_ret
    exact ⟨ret_bool HR.out, rfl⟩
  · have d0 : (v == 0) = false := by simpa using h0
    by_cases h1 : v = 1
    · subst h1
      have HR := Lib.hid (HE.out true rfl)
      clear HE h0
      go_enter Tryd.func61, Tryd.ntmps61
      go_wp2_with (fail)
      refine HF.out.mono ?_
      rintro e w' ⟨rfl, rfl⟩
      go_wp2
      go_ret
      exact ⟨ret_bool HR.out, rfl⟩
    · have d1 : (v == 1) = false := by simpa using h1
      have HR := Lib.hid (HE.out false (by rw [decide_eq_false (by omega)]))
      clear HE h0 h1
      go_enter Tryd.func61, Tryd.ntmps61
      go_wp2_with (fail)
      refine HF.out.mono ?_
      rintro e w' ⟨rfl, rfl⟩
      go_wp2
      go_ret
      exact ⟨ret_bool HR.out, rfl⟩
theorem isWire_any (A L C : Option Addr) (n c m d k e0 : Nat) (x : Int) (w : World) (hn : n ≤ maxLen) :
    Calls Tryd.prog 63 #[.agg #[.slice A n c, .slice L m d, .slice C k e0], .int .i64 x] w fun e w' => e = .returned (.bool (inW n x)) ∧ Below w.heap.size w w' := by
  unfold maxLen at hn
  obtain ⟨hb, hh, hsz⟩ := box3_any w (.slice A n c) (.slice L m d) (.slice C k e0) 28
  obtain ⟨w0, hw0⟩ : ∃ w0, w0 = w.alloc (.cells #[.slice A n c, .slice L m d, .slice C k e0] 28) := ⟨_, rfl⟩
  rw [← hw0] at hb hh hsz
  obtain ⟨y0, y1, y2⟩ := three_cells hh
  have HB := Lib.hid hb
  clear hb hh hsz y1 y2
  by_cases h0 : 0 ≤ x
  · have d0 : decide (0 ≤ x) = true := decide_eq_true h0
    by_cases h1 : x < (n : Int)
    · have d1 : decide (x < (n : Int)) = true := decide_eq_true h1
      have HR : Hid (true = inW n x) := Lib.hid (by unfold inW; rw [decide_eq_true (by omega)])
      clear h0 h1
      go_enter Tryd.func63, Tryd.ntmps63
      go_wp2_with (fail)
      rw [← hw0]
      clear hw0
      go_wp2
      go_ret
      exact ⟨ret_bool HR.out, HB.out⟩
    · have d1 : decide (x < (n : Int)) = false := decide_eq_false h1
      have HR : Hid (false = inW n x) := Lib.hid (by unfold inW; rw [decide_eq_false (by omega)])
      clear h0 h1
      go_enter Tryd.func63, Tryd.ntmps63
      go_wp2_with (fail)
      rw [← hw0]
      clear hw0
      go_wp2
      go_ret
      exact ⟨ret_bool HR.out, HB.out⟩
  · have d0 : decide (0 ≤ x) = false := decide_eq_false h0
    have HR : Hid (false = inW n x) := Lib.hid (by unfold inW; rw [decide_eq_false (by omega)])
    clear h0
    go_enter Tryd.func63, Tryd.ntmps63
    go_wp2_with (fail)
    rw [← hw0]
    clear hw0
    go_wp2
    go_ret
    exact ⟨ret_bool HR.out, HB.out⟩
theorem isConclusion_any (A L C : Option Addr) (n c m d k e0 : Nat) (x : Int) (w : World) (hk : k ≤ maxLen) :
    Calls Tryd.prog 66 #[.agg #[.slice A n c, .slice L m d, .slice C k e0], .int .i64 x] w fun e w' => e = .returned (.bool (inW k x)) ∧ Below w.heap.size w w' := by
  unfold maxLen at hk
  obtain ⟨hb, hh, hsz⟩ := box3_any w (.slice A n c) (.slice L m d) (.slice C k e0) 28
  obtain ⟨w0, hw0⟩ : ∃ w0, w0 = w.alloc (.cells #[.slice A n c, .slice L m d, .slice C k e0] 28) := ⟨_, rfl⟩
  rw [← hw0] at hb hh hsz
  obtain ⟨y0, y1, y2⟩ := three_cells hh
  have HB := Lib.hid hb
  clear hb hh hsz y0 y1
  by_cases h0 : 0 ≤ x
  · have d0 : decide (0 ≤ x) = true := decide_eq_true h0
    by_cases h1 : x < (k : Int)
    · have d1 : decide (x < (k : Int)) = true := decide_eq_true h1
      have HR : Hid (true = inW k x) := Lib.hid (by unfold inW; rw [decide_eq_true (by omega)])
      clear h0 h1
      go_enter Tryd.func66, Tryd.ntmps66
      go_wp2_with (fail)
      rw [← hw0]
      clear hw0
      go_wp2
      go_ret
      exact ⟨ret_bool HR.out, HB.out⟩
    · have d1 : decide (x < (k : Int)) = false := decide_eq_false h1
      have HR : Hid (false = inW k x) := Lib.hid (by unfold inW; rw [decide_eq_false (by omega)])
      clear h0 h1
      go_enter Tryd.func66, Tryd.ntmps66
      go_wp2_with (fail)
      rw [← hw0]
      clear hw0
      go_wp2
      go_ret
      exact ⟨ret_bool HR.out, HB.out⟩
  · have d0 : decide (0 ≤ x) = false := decide_eq_false h0
    have HR : Hid (false = inW k x) := Lib.hid (by unfold inW; rw [decide_eq_false (by omega)])
    clear h0
    go_enter Tryd.func66, Tryd.ntmps66
    go_wp2_with (fail)
    rw [← hw0]
    clear hw0
    go_wp2
    go_ret
    exact ⟨ret_bool HR.out, HB.out⟩
/-- Numbers one after another. -/
def uptoL (s : Int) (n k : Nat) : List Int := markL s k ++ List.replicate (n - k) 0
theorem uptoL_all (s : Int) (n : Nat) : uptoL s n n = markL s n := by simp [uptoL]
theorem uptoL_len {s : Int} {n k : Nat} (h : k ≤ n) : (uptoL s n k).length = n := by simp [uptoL, markL]; omega
theorem uptoL_step {s : Int} {n k : Nat} (h : k < n) : (uptoL s n k).set k (s + (k : Nat)) = uptoL s n (k + 1) := by
  unfold uptoL
  have e1 : n - k = (n - (k + 1)) + 1 := by omega
  rw [List.set_append_right _ _ (by rw [markL_len]; omega), markL_len, Nat.sub_self, e1, List.replicate_succ, List.set_cons_zero]
  have e2 : markL s (k + 1) = markL s k ++ [s + (k : Nat)] := by unfold markL; rw [List.range_succ, List.map_append]; rfl
  rw [e2, List.append_assoc]; rfl
end Go.Proofs.YtjfhbofgnagfaaaDoor
