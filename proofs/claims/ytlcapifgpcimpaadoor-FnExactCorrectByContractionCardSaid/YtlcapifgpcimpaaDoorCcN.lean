/- Mathematics: the first edge to contract; one contraction; all of them. -/
import Derived.Test.YtlcapifgpcimpaaDoorEgV
namespace Go.Proofs.YtlcapifgpcimpaaDoor
set_option linter.unusedSimpArgs false
set_option linter.unusedVariables false
open Go.ChangeAt Go.ChangeShapes Go.RowKit Go.WideShapes

def fstK (W : Nat → Ed → Bool) (es : List Ed) : Option Nat := (List.range es.length).find? fun k => W k (es.getD k Ed.nil) && canE es (es.getD k Ed.nil)
theorem fst_some {W : Nat → Ed → Bool} {es : List Ed} {k : Nat} (h : IsFst W es k) : fstK W es = some k := by
  obtain ⟨h1, h2, h3, h4⟩ := h
  unfold fstK
  rw [List.find?_range_eq_some]
  refine ⟨by rw [h2, h3]; rfl, by simpa using h1, fun j hj => ?_⟩
  rw [h4 j hj]; rfl
theorem fst_none {W : Nat → Ed → Bool} {es : List Ed} (h : NoFst W es) : fstK W es = none := by
  unfold fstK
  rw [List.find?_eq_none]
  intro k hk
  rw [h k (List.mem_range.1 hk)]
  decide
theorem fst_is {W : Nat → Ed → Bool} {es : List Ed} {k : Nat} (h : fstK W es = some k) : IsFst W es k := by
  unfold fstK at h
  rw [List.find?_range_eq_some] at h
  obtain ⟨h1, h2, h3⟩ := h
  rw [Bool.and_eq_true] at h1
  refine ⟨by simpa using h2, h1.1, h1.2, fun j hj => ?_⟩
  have h5 := h3 j hj
  rw [Bool.not_eq_true'] at h5
  exact h5
theorem fst_no {W : Nat → Ed → Bool} {es : List Ed} (h : fstK W es = none) : NoFst W es := fun j hj => by
  unfold fstK at h
  rw [List.find?_eq_none] at h
  have := h j (List.mem_range.2 hj)
  simpa using this
/-- One contraction: the graph and whether there is one. -/
def onV (W : Nat → Ed → Bool) (G : Gr) : Gr := if vgB G = true then (match fstK W G.e with | some k => ctrG G k | none => Gr.nil) else Gr.nil
def onB (W : Nat → Ed → Bool) (G : Gr) : Bool := vgB G && (fstK W G.e).isSome
theorem on_inv {W : Nat → Ed → Bool} {G : Gr} (h : vgB G = false) : onV W G = Gr.nil ∧ onB W G = false := by
  unfold onV onB
  rw [h]
  exact ⟨if_neg (by simp), rfl⟩
theorem on_none {W : Nat → Ed → Bool} {G : Gr} (hv : vgB G = true) (h : NoFst W G.e) : onV W G = Gr.nil ∧ onB W G = false := by
  unfold onV onB
  rw [hv, fst_none h]
  exact ⟨if_pos rfl, rfl⟩
theorem on_some {W : Nat → Ed → Bool} {G : Gr} {k : Nat} (hv : vgB G = true) (h : IsFst W G.e k) : onV W G = ctrG G k ∧ onB W G = true := by
  unfold onV onB
  rw [hv, fst_some h]
  exact ⟨if_pos rfl, rfl⟩
theorem ctrE_lt {es : List Ed} {k : Nat} (hk : k < es.length) : (ctrE es k).length < es.length := by
  unfold ctrE
  rw [List.length_map]
  by_cases hp : (es.getD k Ed.nil).p = -1
  · rw [if_pos hp, List.length_eraseIdx]
    rw [if_pos hk]; omega
  · rw [if_neg hp]
    rcases Nat.lt_or_ge (es.filter fun y => !decide (y.p = (es.getD k Ed.nil).p)).length es.length with h | h
    · exact h
    · exfalso
      have hle := List.length_filter_le (fun y => !decide (y.p = (es.getD k Ed.nil).p)) es
      have := List.length_filter_eq_length_iff.1 (Nat.le_antisymm hle h) _ (getE_mem hk)
      simp at this
theorem rnE_in {lo hi n x : Int} (h0 : 0 ≤ lo) (h1 : lo < hi) (h2 : hi < n) (h3 : 0 ≤ x) (h4 : x < n) : 0 ≤ rnE lo hi x ∧ rnE lo hi x ≤ n - 1 - 1 := by
  unfold rnE
  by_cases e : x = hi
  · rw [if_pos e]; omega
  · rw [if_neg e]
    by_cases e2 : x > hi
    · rw [if_pos e2]; omega
    · rw [if_neg e2]; omega
theorem mem_ctr {es : List Ed} {k : Nat} {e : Ed} (h : e ∈ ctrE es k) : ∃ y ∈ es, e = rnD (es.getD k Ed.nil) y := by
  unfold ctrE at h
  obtain ⟨y, hy, rfl⟩ := List.mem_map.1 h
  refine ⟨y, ?_, rfl⟩
  by_cases hp : (es.getD k Ed.nil).p = -1
  · rw [if_pos hp] at hy; exact List.mem_of_mem_eraseIdx hy
  · rw [if_neg hp] at hy; exact (List.mem_filter.1 hy).1
theorem canE_ne {es : List Ed} {e : Ed} (h : canE es e = true) : e.a ≠ e.b := by
  unfold canE at h
  simp only [Bool.and_eq_true, decide_eq_true_eq] at h
  exact h.1
theorem lohi {n : Int} {e : Ed} (ho : okE n e = true) (hc : e.a ≠ e.b) : 0 ≤ loE e ∧ loE e < hiE e ∧ hiE e < n := by
  unfold okE at ho
  simp only [Bool.and_eq_true, decide_eq_true_eq] at ho
  unfold loE hiE
  omega
/-- A contracted graph is valid. -/
theorem vgB_ctr {G : Gr} {k : Nat} (hv : vgB G = true) (hk : k < G.e.length) (hc : canE G.e (G.e.getD k Ed.nil) = true) : vgB (ctrG G k) = true := by
  have ho := vgB_ok hv _ (getE_mem hk)
  obtain ⟨l0, l1, l2⟩ := lohi ho (canE_ne hc)
  have hs := vgB_small hv
  have h2 := (vgB_two hv).ct hk
  have hlt := ctrE_lt hk
  refine vgB_yes ?_ ?_ fun j hj => ?_
  · show 0 ≤ G.n - 1 ∧ G.n - 1 ≤ 48; omega
  · show (ctrE G.e k).length ≤ 48; omega
  · have hm := getE_mem hj
    refine ⟨?_, h2 _ hm⟩
    obtain ⟨y, hy, e⟩ := mem_ctr hm
    have e' : (ctrE G.e k).getD j Ed.nil = rnD (G.e.getD k Ed.nil) y := e
    show okE (G.n - 1) ((ctrE G.e k).getD j Ed.nil) = true
    rw [e']
    have hoy := vgB_ok hv y hy
    unfold okE at hoy ⊢
    simp only [Bool.and_eq_true, decide_eq_true_eq] at hoy ⊢
    have ra := rnE_in (x := y.a) l0 l1 l2 (by omega) (by omega)
    have rb := rnE_in (x := y.b) l0 l1 l2 (by omega) (by omega)
    exact ⟨⟨⟨ra.1, ra.2⟩, rb.1, rb.2⟩, hoy.2⟩
def anyW : Nat → Ed → Bool := fun _ _ => true
/-- All contractions: the last graph and their number. -/
def runC : Nat → Gr → Gr × Int
  | 0, G => (G, 0)
  | f + 1, G => match fstK anyW G.e with
    | none => (G, 0)
    | some k => ((runC f (ctrG G k)).1, (runC f (ctrG G k)).2 + 1)
theorem runC_none {f : Nat} {G : Gr} (h : fstK anyW G.e = none) : runC f G = (G, 0) := by
  cases f with
  | zero => rfl
  | succ f => show (match fstK anyW G.e with | none => (G, (0 : Int)) | some k => ((runC f (ctrG G k)).1, (runC f (ctrG G k)).2 + 1)) = _; rw [h]
theorem runC_some {f k : Nat} {G : Gr} (h : fstK anyW G.e = some k) : runC (f + 1) G = ((runC f (ctrG G k)).1, (runC f (ctrG G k)).2 + 1) := by
  show (match fstK anyW G.e with | none => (G, (0 : Int)) | some k => ((runC f (ctrG G k)).1, (runC f (ctrG G k)).2 + 1)) = _; rw [h]
def alV (G : Gr) : Gr := if vgB G = true then (runC G.e.length G).1 else Gr.nil
def alI (G : Gr) : Int := if vgB G = true then (runC G.e.length G).2 else -1
/-- How far the contractions of G have come: s steps are done, at most f are to come. -/
def Run (G G' : Gr) (s f : Nat) : Prop := vgB G' = true ∧ G'.e.length ≤ f ∧ runC G.e.length G = ((runC f G').1, (runC f G').2 + (s : Int))
theorem Run.start {G : Gr} (hv : vgB G = true) : Run G G 0 G.e.length := ⟨hv, Nat.le_refl _, by simp⟩
theorem Run.step {G G' : Gr} {s f k : Nat} (h : Run G G' s f) (hk : IsFst anyW G'.e k) : ∃ f', f' < f ∧ Run G (ctrG G' k) (s + 1) f' := by
  obtain ⟨h1, h2, h3⟩ := h
  have hlt := ctrE_lt hk.1
  obtain ⟨f', rfl⟩ : ∃ f', f = f' + 1 := ⟨f - 1, by have := hk.1; omega⟩
  refine ⟨f', by omega, vgB_ctr h1 hk.1 hk.2.2.1, by show (ctrE G'.e k).length ≤ f'; omega, ?_⟩
  rw [h3, runC_some (fst_some hk)]
  show (_, _) = (_, _)
  simp only [Prod.mk.injEq, true_and]
  omega
theorem Run.done {G G' : Gr} {s f : Nat} (hv : vgB G = true) (h : Run G G' s f) (hk : NoFst anyW G'.e) : alV G = G' ∧ alI G = (s : Int) := by
  obtain ⟨h1, h2, h3⟩ := h
  unfold alV alI
  rw [if_pos hv, if_pos hv, h3, runC_none (fst_none hk)]
  simp
theorem al_inv {G : Gr} (h : vgB G = false) : alV G = Gr.nil ∧ alI G = -1 := by
  unfold alV alI
  rw [h]
  exact ⟨if_neg (by simp), if_neg (by simp)⟩
theorem runC_len : ∀ (f : Nat) (G : Gr), (runC f G).1.e.length ≤ G.e.length
  | 0, G => Nat.le_refl _
  | f + 1, G => by
    cases h : fstK anyW G.e with
    | none => rw [runC_none h]; exact Nat.le_refl _
    | some k =>
      rw [runC_some h]
      have h1 := runC_len f (ctrG G k)
      have h2 : (ctrG G k).e.length < G.e.length := ctrE_lt (fst_is h).1
      show (runC f (ctrG G k)).1.e.length ≤ _
      omega
theorem onV_small (W : Nat → Ed → Bool) (G : Gr) : SmallG (onV W G) := by
  refine ⟨?_, trivial, trivial, trivial⟩
  unfold onV
  cases hv : vgB G with
  | false => simp [Gr.nil]
  | true =>
    rw [if_pos rfl]
    have hs := vgB_small hv
    cases h : fstK W G.e with
    | none => simp [Gr.nil]
    | some k =>
      have h2 : (ctrG G k).e.length < G.e.length := ctrE_lt (fst_is h).1
      show (ctrG G k).e.length ≤ _
      omega
theorem alV_small (G : Gr) : SmallG (alV G) := by
  refine ⟨?_, trivial, trivial, trivial⟩
  unfold alV
  cases hv : vgB G with
  | false => simp [Gr.nil]
  | true =>
    rw [if_pos rfl]
    have hs := vgB_small hv
    have := runC_len G.e.length G
    omega
end Go.Proofs.YtlcapifgpcimpaaDoor
