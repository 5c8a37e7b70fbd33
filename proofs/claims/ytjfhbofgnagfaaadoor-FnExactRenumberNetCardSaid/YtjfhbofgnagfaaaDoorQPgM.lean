/- Counts of uses: plain mathematics. The program's small functions of chapter 8. The program's counts of uses: numbersFrom, add, the comparison of arrays. The program's formOf. Links compared. -/
import Derived.Test.YtjfhbofgnagfaaaDoorQNetV
import Derived.Test.YtjfhbofgnagfaaaDoorQMath
import Derived.Test.YtjfhbofgnagfaaaDoorQNetO
import Derived.Test.YtjfhbofgnagfaaaDoorNetY
import Derived.Test.YtjfhbofgnagfaaaDoorQSubA
import Derived.Test.YtjfhbofgnagfaaaDoorQDual
import Derived.Test.YtjfhbofgnagfaaaDoorQNetD
import Derived.ChangeKeysEq
import Derived.Laws.StructEq
namespace Go.Proofs.YtjfhbofgnagfaaaDoor
set_option linter.unusedSimpArgs false
set_option linter.unusedVariables false
section
set_option linter.unusedSimpArgs false
set_option linter.unusedVariables false
open Go.ChangeAt Go.ChangeShapes Go.RowKit Go.WideShapes

/-- The wires that a link makes, and those that it uses. -/
def outL (l : Lk) : List Int := if l.k = 1 then [l.a, l.b] else if l.k = 2 then [] else [l.c]
def inL (l : Lk) : List Int := if l.k = 1 then [] else [l.a, l.b]
theorem mk1_is (l : Lk) (x : Nat) : mk1 l x = concN (outL l) x := by
  unfold mk1 outL concN
  split
  · simp
  · split <;> simp
theorem us1_is (l : Lk) (x : Nat) : us1 l x = concN (inL l) x := by
  unfold us1 inL concN
  split <;> simp
theorem inW_mono {n m : Nat} {x : Int} (h : n ≤ m) (hx : inW n x = true) : inW m x = true := by
  obtain ⟨h1, h2, h3⟩ := inW_yes hx
  unfold inW
  exact decide_eq_true (by omega)
theorem outL_in {n m : Nat} {l : Lk} (h : n ≤ m) (ha : inW n l.a = true) (hb : inW n l.b = true) (hc : inW n l.c = true) : (outL l).all (inW m) = true := by
  unfold outL
  split
  · simp [inW_mono h ha, inW_mono h hb]
  · split
    · rfl
    · simp [inW_mono h hc]
theorem inL_in {n m : Nat} {l : Lk} (h : n ≤ m) (ha : inW n l.a = true) (hb : inW n l.b = true) : (inL l).all (inW m) = true := by
  unfold inL
  split
  · rfl
  · simp [inW_mono h ha, inW_mono h hb]
theorem outL_len (l : Lk) : (outL l).length ≤ 2 := by
  unfold outL
  split
  · simp
  · split <;> simp
theorem inL_len (l : Lk) : (inL l).length ≤ 2 := by unfold inL; split <;> simp
theorem concN_zero {xs : List Int} {n x : Nat} (h : xs.all (inW n) = true) (hx : n ≤ x) : concN xs x = 0 := by
  induction xs with
  | nil => rfl
  | cons a t ih =>
    rw [List.all_cons, Bool.and_eq_true] at h
    obtain ⟨_, h2, _⟩ := inW_yes h.1
    have := ih h.2
    unfold concN at this ⊢
    rw [List.map_cons, List.sum_cons, this]
    have e : ¬ a.toNat = x := by omega
    simp [one, e]
theorem madeN_zero {ls : List Lk} {n x : Nat} (h : ∀ l ∈ ls, inW n l.a = true ∧ inW n l.b = true ∧ inW n l.c = true) (hx : n ≤ x) : madeN ls x = 0 := by
  induction ls with
  | nil => rfl
  | cons l t ih =>
    have := ih fun k hk => h k (List.mem_cons_of_mem _ hk)
    obtain ⟨h1, h2, h3⟩ := h l (List.mem_cons_self ..)
    unfold madeN at this ⊢
    rw [List.map_cons, List.sum_cons, this, mk1_is, concN_zero (outL_in (Nat.le_refl _) h1 h2 h3) hx]
    rfl
theorem usedN_zero {ls : List Lk} {n x : Nat} (h : ∀ l ∈ ls, inW n l.a = true ∧ inW n l.b = true ∧ inW n l.c = true) (hx : n ≤ x) : usedN ls x = 0 := by
  induction ls with
  | nil => rfl
  | cons l t ih =>
    have := ih fun k hk => h k (List.mem_cons_of_mem _ hk)
    obtain ⟨h1, h2, h3⟩ := h l (List.mem_cons_self ..)
    unfold usedN at this ⊢
    rw [List.map_cons, List.sum_cons, this, us1_is, concN_zero (inL_in (Nat.le_refl _) h1 h2) hx]
    rfl
theorem concN_mark (n x : Nat) : concN (markL 0 n) x = one (x < n) := by
  induction n with
  | zero => simp [markL, concN, one]
  | succ n ih =>
    have e : markL 0 (n + 1) = markL 0 n ++ [(0 : Int) + (n : Nat)] := by unfold markL; rw [List.range_succ, List.map_append]; rfl
    unfold concN at ih ⊢
    rw [e, List.map_append, List.sum_append, ih, List.map_singleton, List.sum_singleton]
    have e2 : ((0 : Int) + (n : Nat)).toNat = n := by omega
    rw [e2]
    unfold one
    by_cases h1 : x < n
    · rw [if_pos h1, if_neg (by omega), if_pos (by omega)]; rfl
    · by_cases h2 : n = x
      · rw [if_neg h1, if_pos h2, if_pos (by omega)]; rfl
      · rw [if_neg h1, if_neg h2, if_neg (by omega)]; rfl
theorem even_is {N : Nt} (hn : N.w.length ≤ 48) (hl : ∀ l ∈ N.l, inW N.w.length l.a = true ∧ inW N.w.length l.b = true ∧ inW N.w.length l.c = true) (hc : N.c.all (inW N.w.length) = true) :
    evenN N = (((List.range 48).all fun x => madeN N.l x == concN (markL 0 N.w.length) x) && ((List.range 48).all fun x => (usedN N.l x + concN N.c x) == concN (markL 0 N.w.length) x)) := by
  unfold evenN
  rw [Bool.eq_iff_iff]
  simp only [Bool.and_eq_true, List.all_eq_true, List.mem_range, decide_eq_true_eq, beq_iff_eq, concN_mark]
  constructor
  · intro h
    refine ⟨fun x hx => ?_, fun x hx => ?_⟩
    · by_cases h1 : x < N.w.length
      · rw [(h x h1).1]; unfold one; rw [if_pos h1]
      · rw [madeN_zero hl (by omega)]; unfold one; rw [if_neg h1]
    · by_cases h1 : x < N.w.length
      · rw [(h x h1).2]; unfold one; rw [if_pos h1]
      · rw [usedN_zero hl (by omega), concN_zero hc (by omega)]; unfold one; rw [if_neg h1]; rfl
  · intro h x hx
    have h1 := h.1 x (by omega)
    have h2 := h.2 x (by omega)
    unfold one at h1 h2
    rw [if_pos hx] at h1 h2
    exact ⟨h1, h2⟩
end
section
set_option linter.unusedSimpArgs false
set_option linter.unusedVariables false
open Go.ChangeAt Go.ChangeShapes Go.RowKit Go.WideShapes

theorem cells4 {w : World} {b : Nat} {a0 a1 a2 a3 : Value} {t : TypeId} (h : w.heap[b]? = some (.cells #[a0, a1, a2, a3] t (0, 0))) :
    w.cell? ⟨b, 0, none⟩ = some a0 ∧ w.cell? ⟨b, 1, none⟩ = some a1 ∧ w.cell? ⟨b, 2, none⟩ = some a2 ∧ w.cell? ⟨b, 3, none⟩ = some a3 :=
  ⟨cell_of_row _ _ 0 _ _ (0, 0) h, cell_of_row _ _ 1 _ _ (0, 0) h, cell_of_row _ _ 2 _ _ (0, 0) h, cell_of_row _ _ 3 _ _ (0, 0) h⟩
theorem eqI_b (A B : Option Addr) (n m c d : Nat) (zs ys : List Int) (w : World) (h : RdI w w.heap.size A n zs) (h' : RdI w w.heap.size B m ys) (hn : n ≤ 1048576) (hm : m ≤ 1048576) :
    Calls Tryd.prog 111 #[.slice A n c, .slice B m d] w fun e w' => e = .returned (.bool (decide (zs = ys))) ∧ Below w.heap.size w w' :=
  (equal_d A B n m c d zs ys w _ _ h h' hn hm).mono fun _ _ ⟨h1, m, h2⟩ => ⟨h1, by rw [h2]; exact below_drewN (Below.refl _ _) m⟩
/-- The operator of a kind. -/
def opK (k : Int) : Int := if k = 3 then 11 else if k = 4 then 12 else -1
theorem linkOperator_any (k : Int) (w : World) : Calls Tryd.prog 71 #[.int .i64 k] w fun e w' => e = .returned (.int .i64 (opK k)) ∧ w = w' := by
  by_cases h3 : k = 3
  · subst h3
    go_enter Tryd.func71, Tryd.ntmps71
    go_wp2
    go_ret
    exact ⟨rfl, rfl⟩
  · have d3 : (k == 3) = false := by simpa using h3
    by_cases h4 : k = 4
    · subst h4
      clear h3
      go_enter Tryd.func71, Tryd.ntmps71
      go_wp2
      go_ret
      exact ⟨rfl, rfl⟩
    · have d4 : (k == 4) = false := by simpa using h4
      have HE : Hid ((-1 : Int) = opK k) := Lib.hid (by unfold opK; rw [if_neg h3, if_neg h4])
      clear h3 h4
      go_enter Tryd.func71, Tryd.ntmps71
      go_wp2
      go_ret
      exact ⟨ret_i64 HE.out, rfl⟩
/-- The link of a kind. -/
def lnk (k a b c : Int) : Lk := ⟨k, a, b, if k = 3 ∨ k = 4 then c else 0⟩
theorem linkOf_any (k a b c : Int) (w : World) : Calls Tryd.prog 69 #[.int .i64 k, .int .i64 a, .int .i64 b, .int .i64 c] w fun e w' => e = .returned (.agg #[.int .i64 (lnk k a b c).k, .int .i64 (lnk k a b c).a, .int .i64 (lnk k a b c).b, .int .i64 (lnk k a b c).c]) ∧ Below w.heap.size w w' := by
  have hb : Below w.heap.size w (w.alloc (.cells #[.int .i64 0, .int .i64 0, .int .i64 0, .int .i64 0] 75)) := (Below.refl _ _).alloc (Nat.le_refl _) _
  obtain ⟨u, hu⟩ : ∃ u, u = w.alloc (.cells #[.int .i64 0, .int .i64 0, .int .i64 0, .int .i64 0] 75) := ⟨_, rfl⟩
  have hg : u.heap[w.heap.size]? = some (.cells #[.int .i64 0, .int .i64 0, .int .i64 0, .int .i64 0] 75 (0, 0)) := by rw [hu]; exact heap_alloc_new _ _
  rw [← hu] at hb
  obtain ⟨x0, x1, x2, x3⟩ := cells4 hg
  have f0 := frozen_of_row _ _ 0 _ _ hg; have f1 := frozen_of_row _ _ 1 _ _ hg; have f2 := frozen_of_row _ _ 2 _ _ hg; have f3 := frozen_of_row _ _ 3 _ _ hg
  have HO := Lib.hid (linkOperator_any k u)
  by_cases h : k = 3 ∨ k = 4
  · have d : (opK k == -1) = false := by
      rcases h with rfl | rfl <;> rfl
    have HE : Hid (lnk k a b c = ⟨k, a, b, c⟩) := Lib.hid (by unfold lnk; rw [if_pos h])
    have HB := Lib.hid (set4_below hb (Nat.le_refl _) (.int .i64 k) (.int .i64 a) (.int .i64 b) (.int .i64 c))
    have HG := Lib.hid (set4_at hg (.int .i64 k) (.int .i64 a) (.int .i64 b) (.int .i64 c))
    rw [HE.out]
    clear hb hg h
    generalize opK k = o at *
    go_enter Tryd.func69, Tryd.ntmps69
    go_wp2_with (fail)
    rw [← hu]
    clear hu
    refine HO.out.mono ?_
    rintro e w' ⟨rfl, rfl⟩
    go_wp2
    (try simp only [Exit.inBlock, Exit.then])
    refine bodyPost_ret (results_cell_row rfl _ _ w.heap.size _ _ (0, 0) _ rfl HG.out Tryd.underlying75 rfl (by kernel_rfl)) rfl ?_
    exact ⟨rfl, HB.out⟩
  · have d : (opK k == -1) = true := by
      have h3 : ¬ k = 3 := fun e => h (.inl e)
      have h4 : ¬ k = 4 := fun e => h (.inr e)
      unfold opK
      rw [if_neg h3, if_neg h4]
      rfl
    have HE : Hid (lnk k a b c = ⟨k, a, b, 0⟩) := Lib.hid (by unfold lnk; rw [if_neg h])
    have HB := Lib.hid (set4_below hb (Nat.le_refl _) (.int .i64 k) (.int .i64 a) (.int .i64 b) (.int .i64 0))
    have HG := Lib.hid (set4_at hg (.int .i64 k) (.int .i64 a) (.int .i64 b) (.int .i64 0))
    rw [HE.out]
    clear hb hg h
    generalize opK k = o at *
    go_enter Tryd.func69, Tryd.ntmps69
    go_wp2_with (fail)
    rw [← hu]
    clear hu
    refine HO.out.mono ?_
    rintro e w' ⟨rfl, rfl⟩
    go_wp2
    (try simp only [Exit.inBlock, Exit.then])
    refine bodyPost_ret (results_cell_row rfl _ _ w.heap.size _ _ (0, 0) _ rfl HG.out Tryd.underlying75 rfl (by kernel_rfl)) rfl ?_
    exact ⟨rfl, HB.out⟩
theorem gives_nil {w w' : World} (h : Below w.heap.size w w') : Gives w [] (.returned (.slice none 0 0)) w' := ⟨none, 0, rfl, World.ownsRow_nil _ _ _ _, h⟩
theorem gives_lit2 {w u : World} {a b : Int} {g : Nat} (h : Below w.heap.size w u) (hg : u.heap.size = g) : Gives w [a, b] (.returned (.slice (some ⟨g, 0, none⟩) 2 2)) (u.alloc (.cells #[.int .i64 a, .int .i64 b] 2)) := by
  subst hg
  exact ⟨_, 2, rfl, own_lit (n := 2) (size := 1) #[.int .i64 a, .int .i64 b] h.size (by simp [maxLen]) rfl, h.trans (((Below.refl _ _).alloc (Nat.le_refl _) _).mono h.size)⟩
theorem gives_lit1 {w u : World} {a : Int} {g : Nat} (h : Below w.heap.size w u) (hg : u.heap.size = g) : Gives w [a] (.returned (.slice (some ⟨g, 0, none⟩) 1 1)) (u.alloc (.cells #[.int .i64 a] 2)) := by
  subst hg
  exact ⟨_, 1, rfl, own_lit (n := 1) (size := 1) #[.int .i64 a] h.size (by simp [maxLen]) rfl, h.trans (((Below.refl _ _).alloc (Nat.le_refl _) _).mono h.size)⟩
theorem outputsOf_any (l : Lk) (w : World) : Calls Tryd.prog 91 #[.agg #[.int .i64 l.k, .int .i64 l.a, .int .i64 l.b, .int .i64 l.c]] w (Gives w (outL l)) := by
  obtain ⟨k, a, b, c⟩ := l
  dsimp only
  obtain ⟨hb, x0, x1, x2, x3, hsz⟩ := lnk_any w ⟨k, a, b, c⟩ 75
  dsimp only at hb x0 x1 x2 x3 hsz
  obtain ⟨u, hu⟩ : ∃ u, u = w.alloc (.cells #[.int .i64 k, .int .i64 a, .int .i64 b, .int .i64 c] 75) := ⟨_, rfl⟩
  rw [← hu] at hb x0 x1 x2 x3 hsz
  have HB := Lib.hid hb; have HS := Lib.hid hsz
  clear hb hsz
  by_cases h1 : k = 1
  · subst h1
    rw [show outL ⟨1, a, b, c⟩ = [a, b] from rfl]
    go_enter Tryd.func91, Tryd.ntmps91
    go_wp2_with (fail)
    rw [← hu]
    clear hu
    go_wp2
    go_ret
    exact gives_lit2 HB.out HS.out
  · have d1 : (k == 1) = false := by simpa using h1
    by_cases h2 : k = 2
    · subst h2
      clear h1
      rw [show outL ⟨2, a, b, c⟩ = [] from rfl]
      go_enter Tryd.func91, Tryd.ntmps91
      go_wp2_with (fail)
      rw [← hu]
      clear hu
      go_wp2
      go_ret
      exact gives_nil HB.out
    · have d2 : (k == 2) = false := by simpa using h2
      rw [show outL ⟨k, a, b, c⟩ = [c] by unfold outL; rw [if_neg h1, if_neg h2]]
      clear h1 h2
      go_enter Tryd.func91, Tryd.ntmps91
      go_wp2_with (fail)
      rw [← hu]
      clear hu
      go_wp2
      go_ret
      exact gives_lit1 HB.out HS.out
theorem inputsOf_any (l : Lk) (w : World) : Calls Tryd.prog 93 #[.agg #[.int .i64 l.k, .int .i64 l.a, .int .i64 l.b, .int .i64 l.c]] w (Gives w (inL l)) := by
  obtain ⟨k, a, b, c⟩ := l
  dsimp only
  obtain ⟨hb, x0, x1, x2, x3, hsz⟩ := lnk_any w ⟨k, a, b, c⟩ 75
  dsimp only at hb x0 x1 x2 x3 hsz
  obtain ⟨u, hu⟩ : ∃ u, u = w.alloc (.cells #[.int .i64 k, .int .i64 a, .int .i64 b, .int .i64 c] 75) := ⟨_, rfl⟩
  rw [← hu] at hb x0 x1 x2 x3 hsz
  have HB := Lib.hid hb; have HS := Lib.hid hsz
  clear hb hsz
  by_cases h1 : k = 1
  · subst h1
    rw [show inL ⟨1, a, b, c⟩ = [] from rfl]
    go_enter Tryd.func93, Tryd.ntmps93
    go_wp2_with (fail)
    rw [← hu]
    clear hu
    go_wp2
    go_ret
    exact gives_nil HB.out
  · have d1 : (k == 1) = false := by simpa using h1
    rw [show inL ⟨k, a, b, c⟩ = [a, b] by unfold inL; rw [if_neg h1]]
    clear h1
    go_enter Tryd.func93, Tryd.ntmps93
    go_wp2_with (fail)
    rw [← hu]
    clear hu
    go_wp2
    go_ret
    exact gives_lit2 HB.out HS.out
theorem isWireForm_any (A : Option Addr) (n c : Nat) (f : List Int) (w : World) (h : RdI w w.heap.size A n f) (ht : Arit w) (hnc : n ≤ c) :
    Calls Tryd.prog 61 #[.slice A n c] w fun e w' => e = .returned (.bool (formN f)) ∧ w = w' := by
  have HF := Lib.hid (fragmentOf_impl A n c f w h ht hnc)
  obtain ⟨v, hv⟩ : ∃ v, fragV f = v := ⟨_, rfl⟩
  have HE : Hid (∀ b : Bool, b = decide (0 ≤ v ∧ v ≤ 1) → b = formN f) := Lib.hid fun b hb => by rw [hb, ← hv]; rfl
  rw [hv] at HF
  clear h ht hnc hv
  by_cases h0 : v = 0
  · subst h0
    have HR := Lib.hid (HE.out true rfl)
    clear HE
    go_enter Tryd.func61, Tryd.ntmps61
    go_wp2_with (fail)
    refine HF.out.mono ?_
    rintro e w' ⟨rfl, rfl⟩
    go_wp2
    go_ret
    exact ⟨ret_bool HR.out, rfl⟩
  · have d0 : (v == 0) = false := by simpa using h0
    by_cases h1 : v = 1
    · subst h1
      have HR := Lib.hid (HE.out true rfl)
      clear HE h0
      go_enter Tryd.func61, Tryd.ntmps61
      go_wp2_with (fail)
      refine HF.out.mono ?_
      rintro e w' ⟨rfl, rfl⟩
      go_wp2
      go_ret
      exact ⟨ret_bool HR.out, rfl⟩
    · have d1 : (v == 1) = false := by simpa using h1
      have HR := Lib.hid (HE.out false (by rw [decide_eq_false (by omega)]))
      clear HE h0 h1
      go_enter Tryd.func61, Tryd.ntmps61
      go_wp2_with (fail)
      refine HF.out.mono ?_
      rintro e w' ⟨rfl, rfl⟩
      go_wp2
      go_ret
      exact ⟨ret_bool HR.out, rfl⟩
theorem isWire_any (A L C : Option Addr) (n c m d k e0 : Nat) (x : Int) (w : World) (hn : n ≤ maxLen) :
    Calls Tryd.prog 63 #[.agg #[.slice A n c, .slice L m d, .slice C k e0], .int .i64 x] w fun e w' => e = .returned (.bool (inW n x)) ∧ Below w.heap.size w w' := by
  unfold maxLen at hn
  obtain ⟨hb, hh, hsz⟩ := box3_any w (.slice A n c) (.slice L m d) (.slice C k e0) 28
  obtain ⟨w0, hw0⟩ : ∃ w0, w0 = w.alloc (.cells #[.slice A n c, .slice L m d, .slice C k e0] 28) := ⟨_, rfl⟩
  rw [← hw0] at hb hh hsz
  obtain ⟨y0, y1, y2⟩ := three_cells hh
  have HB := Lib.hid hb
  clear hb hh hsz y1 y2
  by_cases h0 : 0 ≤ x
  · have d0 : decide (0 ≤ x) = true := decide_eq_true h0
    by_cases h1 : x < (n : Int)
    · have d1 : decide (x < (n : Int)) = true := decide_eq_true h1
      have HR : Hid (true = inW n x) := Lib.hid (by unfold inW; rw [decide_eq_true (by omega)])
      clear h0 h1
      go_enter Tryd.func63, Tryd.ntmps63
      go_wp2_with (fail)
      rw [← hw0]
      clear hw0
      go_wp2
      go_ret
      exact ⟨ret_bool HR.out, HB.out⟩
    · have d1 : decide (x < (n : Int)) = false := decide_eq_false h1
      have HR : Hid (false = inW n x) := Lib.hid (by unfold inW; rw [decide_eq_false (by omega)])
      clear h0 h1
      go_enter Tryd.func63, Tryd.ntmps63
      go_wp2_with (fail)
      rw [← hw0]
      clear hw0
      go_wp2
      go_ret
      exact ⟨ret_bool HR.out, HB.out⟩
  · have d0 : decide (0 ≤ x) = false := decide_eq_false h0
    have HR : Hid (false = inW n x) := Lib.hid (by unfold inW; rw [decide_eq_false (by omega)])
    clear h0
    go_enter Tryd.func63, Tryd.ntmps63
    go_wp2_with (fail)
    rw [← hw0]
    clear hw0
    go_wp2
    go_ret
    exact ⟨ret_bool HR.out, HB.out⟩
/-- Numbers one after another. -/
def uptoL (s : Int) (n k : Nat) : List Int := markL s k ++ List.replicate (n - k) 0
theorem uptoL_all (s : Int) (n : Nat) : uptoL s n n = markL s n := by simp [uptoL]
theorem uptoL_step {s : Int} {n k : Nat} (h : k < n) : (uptoL s n k).set k (s + (k : Nat)) = uptoL s n (k + 1) := by
  unfold uptoL
  have e1 : n - k = (n - (k + 1)) + 1 := by omega
  rw [List.set_append_right _ _ (by rw [markL_len]; omega), markL_len, Nat.sub_self, e1, List.replicate_succ, List.set_cons_zero]
  have e2 : markL s (k + 1) = markL s k ++ [s + (k : Nat)] := by unfold markL; rw [List.range_succ, List.map_append]; rfl
  rw [e2, List.append_assoc]; rfl
end
section
set_option linter.unusedSimpArgs false
set_option linter.unusedVariables false
open Go.ChangeAt Go.ChangeShapes Go.RowKit Go.WideShapes

theorem gives_own {w w' : World} {v : Value} {n b : Nat} {xs : List Int} (h : w'.ownsRow b 2 1 v n (xs.map (Value.int .i64))) (hb : w.heap.size ≤ b) (bel : Below w.heap.size w w') : Gives w xs (.returned v) w' := by
  obtain ⟨A, c, rfl⟩ := own_shape h
  have hl := h.1
  rw [List.length_map, Nat.mul_one] at hl
  subst hl
  exact ⟨A, c, rfl, own_more h hb, bel⟩
theorem uptoL_at {s : Int} {n k : Nat} (h : k < n) : ((uptoL s n k).map (Value.int .i64))[k]? = some (.int .i64 0) := by
  unfold uptoL
  have h1 : (markL s k).length = k := markL_len s k
  rw [List.getElem?_map, List.getElem?_append_right (by omega), h1, Nat.sub_self, List.getElem?_replicate, if_pos (by omega)]
  rfl
theorem numbersFrom_any (s n : Nat) (w : World) (hs : s ≤ 1048576) (hn : n ≤ 1048576) :
    Calls Tryd.prog 56 #[.int .i64 s, .int .i64 n] w (Gives w (markL s n)) := by
  obtain ⟨i0, hi0, hz0, hz1, hz2⟩ := info_parts info_i64
  have b2 : i0.bytes * n ≤ 281474976710656 := by rw [hz2]; omega
  have b3 : n ≤ maxLen := by unfold maxLen; omega
  go_enter Tryd.func56, Tryd.ntmps56
  go_wp2_with (at_make; refine wpList_make_full _ rfl _ _ _ rfl w.heap.size 2 i0 (.int .i64 0) 1 Tryd.underlying26 hi0 hz0 hz1 _ _ _ _ n rfl rfl rfl rfl b2 b3 (Nat.le_refl _) ?_; intro w1 hown hg)
  have hbel : Below w.heap.size w w1 := (Below.refl _ _).grown hg (Nat.le_refl _) (by intro k hk; cases hk)
  have hz : (List.map (Value.int .i64) (uptoL s n 0)) = List.replicate n (Value.int .i64 0) := by simp [uptoL, markL]
  have h1 : w1.ownsRow w.heap.size 2 1 (.slice (some ⟨w.heap.size, 0, none⟩) n n) n ((uptoL s n 0).map (Value.int .i64)) := by
    rw [hz, ← toList_madeCells_one]
    simpa [Value.cells] using hown
  have HO := Lib.hid h1
  have HB := Lib.hid hbel
  clear hg hown b2 b3 hi0 hz0 hz1 hz2 hbel hz h1
  go_loopw [11] (fun i wr => ∃ k : Nat, k ≤ n ∧ i = .int .i64 k ∧ wr.ownsRow w.heap.size 2 1 (.slice (some ⟨w.heap.size, 0, none⟩) n n) n ((uptoL s n k).map (Value.int .i64)) ∧ Below w.heap.size w wr) (fun i _ => n - (intOf i).toNat)
  case atStart => exact ⟨0, Nat.zero_le _, rfl, HO.out, HB.out⟩
  case round =>
    obtain ⟨k, hk, rfl, hO, hB⟩ := hrel
    clear HO HB
    by_cases hlt : k < n
    · have ho := (hO.cellAt k (by omega)).trans (uptoL_at hlt)
      have hf := hO.frozenAt k
      have HS := Lib.hid (hO.stored k (.int .i64 ((s : Int) + (k : Nat)))).1
      rw [← List.map_set, uptoL_step hlt] at HS
      have HB := Lib.hid (hB.setCell (p := ⟨w.heap.size, k, none⟩) (Nat.le_refl _) (.int .i64 ((s : Int) + (k : Nat))))
      clear hO hB
      go_wp2
      go_roundw
      case rel => exact ⟨k + 1, by omega, by go_num, HS.out, HB.out⟩
      case measure => simp [intOf]; omega
    · have hkl : k = n := by omega
      subst hkl
      rw [uptoL_all] at hO
      have HO := Lib.hid hO; have HB := Lib.hid hB
      clear hO hB
      go_wp2
      go_ret
      exact gives_own HO.out (Nat.le_refl _) HB.out
/-- The cells of an array of counts. -/
def cntA (f : Nat → Int) : Array Value := ((cnts 48 f).map (Value.int .i64)).toArray
theorem cntA_len (f : Nat → Int) : (cntA f).size = 48 := by simp [cntA, cnts]
theorem cntA_at {f : Nat → Int} {i : Nat} (h : i < 48) : (cntA f)[i]? = some (.int .i64 (f i)) := by simp [cntA, cnts, h]
theorem cntA_set {f : Nat → Int} {i : Nat} (h : i < 48) : (cntA f).setIfInBounds i (.int .i64 (f i + 1)) = cntA fun x => f x + one (i = x) := by
  unfold cntA
  rw [List.setIfInBounds_toArray, ← List.map_set, cnts_bump h]
theorem cntA_ext {f g : Nat → Int} (h : ∀ x, x < 48 → f x = g x) : cntA f = cntA g := by unfold cntA; rw [cnts_ext h]
/-- One array of counts in block g. -/
def ArrU (w : World) (g : Nat) (f : Nat → Int) : Prop := w.heap[g]? = some (.cells (cntA f) 109 (0, 0))
theorem ArrU.keep {w w' : World} {g : Nat} {f : Nat → Int} (h : ArrU w g f) (hb : w'.heap[g]? = w.heap[g]?) : ArrU w' g f := hb.trans h
theorem ArrU.cell {w : World} {g : Nat} {f : Nat → Int} (h : ArrU w g f) {i : Nat} (hi : i < 48) : w.cell? ⟨g, i, none⟩ = some (.int .i64 (f i)) := by
  exact (cell_of_row _ _ i _ _ (0, 0) h).trans (cntA_at hi)
theorem ArrU.frozen {w : World} {g : Nat} {f : Nat → Int} (h : ArrU w g f) (i : Nat) : w.frozen? ⟨g, i, none⟩ = false := frozen_of_row _ _ i _ _ h
theorem ArrU.bump {w : World} {g : Nat} {f : Nat → Int} (h : ArrU w g f) {i : Nat} (hi : i < 48) : ArrU (w.setCell ⟨g, i, none⟩ (.int .i64 (f i + 1))) g fun x => f x + one (i = x) := by
  have := heap_setCell_same w g i _ _ (.int .i64 (f i + 1)) h
  rw [cntA_set hi] at this
  exact this
theorem ne_of_own {w : World} {base n c g : Nat} {t : TypeId} {A : Option Addr} {xs : List Value} (h : w.ownsRow base t 1 (.slice A n c) n xs) (hlt : g < base) : 0 < n → ∀ b off, A = some ⟨b, off, none⟩ → b ≠ g := by
  intro hn b off e
  obtain ⟨g', cap, hv, hlo, _⟩ := h.form hn
  subst e
  injection hv with h1 h2 h3
  injection h1 with h1
  injection h1 with h4 h5 h6
  omega
theorem ne_of_rd {w : World} {B n g : Nat} {A : Option Addr} {xs : List Int} (h : RdI w B A n xs) (hlt : B ≤ g) : 0 < n → ∀ b off, A = some ⟨b, off, none⟩ → b ≠ g := by
  intro hn b off e
  obtain ⟨b', off', e', hb, _⟩ := h.2 hn
  rw [e] at e'
  injection e' with e'
  injection e' with h4 h5 h6
  omega
set_option maxHeartbeats 2000000 in
/-- add: one use more of each of the wires. -/
theorem add_any (g : Nat) (f : Nat → Int) (A : Option Addr) (n c : Nat) (xs : List Int) (w : World) (B : Nat) (hg : ArrU w g f) (h : RdI w B A n xs) (hBg : 0 < n → ∀ b off, A = some ⟨b, off, none⟩ → b ≠ g) (hn : n ≤ 1048576) (hx : xs.all (inW 48) = true) (hf : ∀ x, 0 ≤ f x ∧ f x ≤ 1073741824) :
    Calls Tryd.prog 112 #[.pointer (some ⟨g, 0, none⟩), .slice A n c] w fun e w' => e = .returned (.tuple #[]) ∧ ArrU w' g (fun x => f x + concN xs x) ∧ KeptS (fun k => k = g) w w' := by
  have hl := h.len
  subst hl
  have H := Lib.hid h; have HBG := Lib.hid hBg; have HX := Lib.hid (fun t (ht : t < xs.length) => all_at (d := 0) hx ht); have HF := Lib.hid hf
  have HG := Lib.hid hg
  clear h hBg hx hf hg
  go_enter Tryd.func112, Tryd.ntmps112
  go_wp2
  go_loopw [8] (fun i wr => ∃ k : Nat, k ≤ xs.length ∧ i = .int .i64 k ∧ ArrU wr g (fun x => f x + concN (xs.take k) x) ∧ KeptS (fun k => k = g) w wr) (fun i _ => xs.length - (intOf i).toNat)
  case atStart => exact ⟨0, Nat.zero_le _, rfl, by
    have := HG.out
    unfold ArrU at this ⊢
    rw [this]
    exact congrArg (fun a => some (Obj.cells a _ _)) (cntA_ext fun x _ => by simp [concN, List.take_zero]), KeptS.refl _ _⟩
  case round =>
    obtain ⟨k, hk, rfl, hA, hK⟩ := hrel
    by_cases hlt : k < xs.length
    · obtain ⟨b, off, rfl, hbb, hcells⟩ := H.out.2 (by omega)
      have hne := HBG.out (by omega) b off rfl
      have hbw : b < w.heap.size := World.block_lt_of_cell? w _ (hcells k hlt)
      have hc : wr.cell? ⟨b, off + k, none⟩ = some (.int .i64 (xs.getD k 0)) := by
        have h5 := hcells k hlt
        unfold World.cell? at h5 ⊢
        rw [hK.block b hbw hne]
        exact h5
      have hin := HX.out k hlt
      have hstep := fun x => concN_step hlt x
      obtain ⟨z, hz⟩ : ∃ z, xs.getD k 0 = z := ⟨_, rfl⟩
      rw [hz] at hc hin hstep
      obtain ⟨_, hi, ez⟩ := inW_yes hin
      generalize z.toNat = i at *
      subst ez
      have hfb := HF.out i
      have hcb := concN_le (xs.take k) i
      have hlk : (xs.take k).length ≤ 1048576 := by rw [List.length_take]; omega
      have hu := hA.cell hi
      have hfr := hA.frozen i
      have hB := hA.bump hi
      obtain ⟨q, hq⟩ : ∃ q, f i + concN (xs.take k) i = q := ⟨_, rfl⟩
      have hqb : 0 ≤ q ∧ q ≤ 1074790400 := by omega
      rw [hq] at hu hB
      have HB : Hid (ArrU (wr.setCell ⟨g, i, none⟩ (.int .i64 (q + 1))) g (fun x => f x + concN (xs.take (k + 1)) x)) := Lib.hid (by
        unfold ArrU at hB ⊢
        rw [hB]
        exact congrArg (fun a => some (Obj.cells a _ _)) (cntA_ext fun x _ => by rw [hstep x]; omega))
      have HK2 : Hid (KeptS (fun k => k = g) w (wr.setCell ⟨g, i, none⟩ (.int .i64 (q + 1)))) := Lib.hid (hK.trans (KeptS.mk rfl rfl rfl ((Below.refl g wr).setCell (p := ⟨g, i, none⟩) (Nat.le_refl _) _).size fun p _ hp => Below.heap_setCell _ _ _ _ hp))
      clear hA hK hcells hin hstep hz hfb hcb hlk hq hB
      have hi48 : (i : Int) < 48 := by omega
      have K0 : Hid (wr.cell? ⟨g, i, none⟩ = some (.int .i64 q)) := Lib.hid hu
      go_wp2_with (fail)
      go_region
      all_goals go_wp2
      all_goals go_roundw
      all_goals (first | exact ⟨k + 1, by omega, by go_num, HB.out, ⟨HK2.out.os, HK2.out.tape, HK2.out.output, HK2.out.size, HK2.out.block⟩⟩ | (simp [intOf]; omega))
    · have hkl : k = xs.length := by omega
      subst hkl
      rw [List.take_length] at hA
      have HA := Lib.hid hA; have HK := Lib.hid hK
      clear hA hK
      go_wp2
      refine bodyPost_end (results_none rfl _ _ _) rfl ?_
      exact ⟨rfl, HA.out, HK.out⟩
end
section
open Go.ChangeAt Go.ChangeShapes Go.RowKit Go.WideShapes

theorem lit_own (w : World) (x : Int) : (w.alloc (.cells #[Value.int .i64 x] 2)).ownsRow w.heap.size 2 1 (.slice (some ⟨w.heap.size, 0, none⟩) 1 1) 1 [Value.int .i64 x] :=
  ⟨rfl, .inr ⟨w.heap.size, 1, #[Value.int .i64 x], rfl, Nat.le_refl _, heap_alloc_new _ _, Nat.le_refl _, by decide, rfl, rfl⟩⟩
set_option maxHeartbeats 1000000 in
/-- formOf: the operator, then its operands. -/
theorem formOf_any (op : Int) (g m c : Nat) (vs : List Value) (ls : List (List Int)) (w : World) (hm : ls.length = m) (hm0 : 0 < m) (hmx : m ≤ 1000)
    (hcell : ∀ i, i < m → w.cell? ⟨g, i, none⟩ = some (vs.getD i undef)) (hgB : g < w.heap.size) (hpart : ∀ i, i < m → Part w w.heap.size (vs.getD i undef) (ls.getD i [])) (htot : ls.flatten.length ≤ 1000) (hpos : 0 < ls.flatten.length) :
    Calls Tryd.prog 70 #[.int .i64 op, .slice (some ⟨g, 0, none⟩) m c] w (Gives w (op :: ls.flatten)) := by
  obtain ⟨i0, hi0, hz0, hz1, hz2⟩ := info_parts info_i64
  have HI := Lib.hid hi0; have HZ0 := Lib.hid hz0; have HZ1 := Lib.hid hz1; have HZ2 := Lib.hid hz2
  obtain ⟨w1, hw1⟩ : ∃ w1, w1 = w.alloc (.cells #[Value.int .i64 op] 2) := ⟨_, rfl⟩
  have hb1 : Below w.heap.size w w1 := by rw [hw1]; exact (Below.refl _ _).alloc (Nat.le_refl _) _
  have ho1 : w1.ownsRow w.heap.size 2 1 (.slice (some ⟨w.heap.size, 0, none⟩) 1 1) 1 [Value.int .i64 op] := by rw [hw1]; exact lit_own w op
  have hs1 : w1.heap.size = w.heap.size + 1 := by rw [hw1]; simp
  have HC := Lib.hid (concat_any g m c vs ls w1 hm hm0 hmx (fun i hi => (hb1.cell (p := ⟨g, i, none⟩) hgB).trans (hcell i hi)) (by omega) (fun i hi => ((hpart i hi).below hb1).more (by omega)) htot)
  have HW1 := Lib.hid hw1; have HB1 := Lib.hid hb1; have HO1 := Lib.hid ho1
  obtain ⟨T, hT⟩ : ∃ T, ls.flatten = T := ⟨_, rfl⟩
  rw [hT] at HC htot hpos ⊢
  clear hw1 hb1 ho1 hi0 hz0 hz1 hz2 hcell hpart hT
  go_enter Tryd.func70, Tryd.ntmps70
  go_wp2_with (go_at_call 114; fail)
  rw [← HW1.out]
  refine HC.out.mono ?_
  rintro e w2 ⟨A2, c2, rfl, o2, bel2⟩
  obtain ⟨b2, off2, c2', he, hb2, hc2⟩ : ∃ b off c', (Value.slice A2 T.length c2) = .slice (some ⟨b, off, none⟩) T.length c' ∧ b < w2.heap.size ∧ ∀ j, j < T.length → w2.cell? ⟨b, off + j, none⟩ = some (.int .i64 (T.getD j 0)) := by
    obtain ⟨b, off, e, hbb, hcc⟩ := (RdI.of_own o2).2 hpos
    exact ⟨b, off, c2, by rw [e], hbb, hcc⟩
  injection he with e1 e2 e3
  subst e1; subst e3
  have HN := Lib.hid (part_news hc2)
  have HO2 := Lib.hid (own_below HO1.out bel2 (Nat.le_refl _))
  have HB2 := Lib.hid (HB1.out.trans (bel2.mono HB1.out.size))
  have HHO := Lib.hid (ints_one T)
  have HLN : Hid ((T.map (Value.int .i64)).length = T.length * 1) := Lib.hid (by simp)
  have hs2 : w.heap.size ≤ w2.heap.size := HB2.out.size
  clear hc2 o2 bel2
  go_wp2_with (at_builtin; refine wpList_append_own _ rfl _ _ 26 rfl w.heap.size 2 i0 (.int .i64 0) 1 8 Tryd.underlying26 HI.out HZ0.out HZ1.out HZ2.out rfl (by decide) _ _ _ rfl HO2.out ⟨b2, off2, none⟩ T.length c2 (T.map (Value.int .i64)) rfl HLN.out HN.out HHO.out (by unfold maxLen; omega) (by omega) hs2 ?_; intro v7 w7 hown7 hgrow7 _)
  obtain ⟨A7, c7, rfl⟩ := own_shape hown7
  have HB7 := Lib.hid (HB2.out.grown hgrow7 hs2 (fun k hk => (HO2.out.lt k hk).1))
  have e : 1 + T.length = (op :: T).length := by rw [List.length_cons]; omega
  rw [e] at hown7 ⊢
  have HO7 := Lib.hid hown7
  clear hown7 hgrow7 e
  go_wp2
  go_ret
  exact ⟨A7, c7, rfl, HO7.out, HB7.out⟩
end
section
set_option linter.unusedSimpArgs false
set_option linter.unusedVariables false
open Go.ChangeAt Go.ChangeShapes Go.RowKit Go.WideShapes

theorem neq_link (k a b c z : Int) (w : World) : (binOp .neq 75 (.agg #[.int .i64 k, .int .i64 a, .int .i64 b, .int .i64 c]) (.agg #[.int .i64 k, .int .i64 a, .int .i64 b, .int .i64 z])).run Tryd.prog w = .ok (.bool (!(c == z))) w := by
  have hu : Tryd.prog.underlying 75 = some (.struct (Tryd.prog.fieldsOf 75)) := by kernel_rfl
  have hh : Tryd.prog.stoodInHeld 75 = false := by kernel_rfl
  have he := Tryd.underlying2
  have hm : (Tryd.prog.fieldsOf 75).toList.map (fun f => (f.name, f.type, f.offset)) = [("Kind", 2, 0), ("A", 2, 1), ("B", 2, 2), ("C", 2, 3)] := by kernel_rfl
  rw [run_neq_struct, run_equalIn_struct w 9999 _ _ _ hu hh]
  generalize (Tryd.prog.fieldsOf 75).toList = fs at hm ⊢
  rcases fs with _ | ⟨f0, _ | ⟨f1, _ | ⟨f2, _ | ⟨f3, _ | ⟨f4, t⟩⟩⟩⟩⟩ <;> simp only [List.map_nil, List.map_cons, List.cons.injEq, Prod.mk.injEq, reduceCtorEq, and_false, false_and, List.nil_eq, and_true] at hm
  obtain ⟨⟨n0, t0, o0⟩, ⟨n1, t1, o1⟩, ⟨n2, t2, o2⟩, n3, t3, o3⟩ := hm
  have px : ∀ (i : Nat) (x0 x1 x2 x3 : Int), i < 4 → (part 2 #[.int .i64 x0, .int .i64 x1, .int .i64 x2, .int .i64 x3] i).run Tryd.prog w = .ok (.int .i64 (([x0, x1, x2, x3] : List Int).getD i 0)) w := fun i x0 x1 x2 x3 hi => by
    rcases i with _ | _ | _ | _ | i
    · simp [part, isAgg, run_underlying he]
    · simp [part, isAgg, run_underlying he]
    · simp [part, isAgg, run_underlying he]
    · simp [part, isAgg, run_underlying he]
    · omega
  have pe : ∀ x y : Int, (Op.equalIn 9999 2 (.int .i64 x) (.int .i64 y)).run Tryd.prog w = .ok (x == y) w := fun x y => run_equalIn_int w 9998 2 .i64 .i64 x y he
  have q0 := fun x0 x1 x2 x3 => px 0 x0 x1 x2 x3 (by omega)
  have q1 := fun x0 x1 x2 x3 => px 1 x0 x1 x2 x3 (by omega)
  have q2 := fun x0 x1 x2 x3 => px 2 x0 x1 x2 x3 (by omega)
  have q3 := fun x0 x1 x2 x3 => px 3 x0 x1 x2 x3 (by omega)
  have e0 : ("Kind" ≠ "_") = True := eq_true (by decide)
  have e1 : ("A" ≠ "_") = True := eq_true (by decide)
  have e2 : ("B" ≠ "_") = True := eq_true (by decide)
  have e3 : ("C" ≠ "_") = True := eq_true (by decide)
  simp only [Op.eqFields, n0, t0, o0, n1, t1, o1, n2, t2, o2, n3, t3, o3, e0, e1, e2, e3, if_true, Sem.run_bind, Sem.run_ite, q0, q1, q2, q3, pe, Result.andThen_ok, List.getD_cons_zero, List.getD_cons_succ]
  cases hb : (c == z) <;> simp [hb]
end
end Go.Proofs.YtjfhbofgnagfaaaDoor
