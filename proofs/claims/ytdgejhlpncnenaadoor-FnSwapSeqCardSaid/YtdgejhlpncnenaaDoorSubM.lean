/- Plain mathematics of SubformsOf: a list of lists sorted and with equal neighbours struck is the list that insertion without repetition makes. -/
import Derived.Test.YtdgejhlpncnenaaDoorCmp
namespace Go.Proofs.YtdgejhlpncnenaaDoor

theorem cmZ_neg (x y : Int) : cmZ x y = -cmZ y x := by
  rcases cmZ_cases x y with ⟨h, e⟩ | ⟨h, e⟩ | ⟨h, e⟩ <;> rcases cmZ_cases y x with ⟨h', e'⟩ | ⟨h', e'⟩ | ⟨h', e'⟩ <;> omega
theorem cmZ_zero {x y : Int} : cmZ x y = 0 ↔ x = y := by
  rcases cmZ_cases x y with ⟨h, e⟩ | ⟨h, e⟩ | ⟨h, e⟩ <;> omega
theorem cmZ_neg1 {x y : Int} : cmZ x y < 0 ↔ x < y := by
  rcases cmZ_cases x y with ⟨h, e⟩ | ⟨h, e⟩ | ⟨h, e⟩ <;> omega
theorem lexZ_zero : ∀ {a b : List Int}, lexZ a b = 0 ↔ a = b
  | [], [] => by simp [lexZ]
  | [], _ :: _ => by simp [lexZ]
  | _ :: _, [] => by simp [lexZ]
  | x :: xs, y :: ys => by
    by_cases h : cmZ x y = 0
    · rw [lexZ_same _ _ h, lexZ_zero, cmZ_zero.1 h]; simp
    · rw [lexZ_diff _ _ h]
      constructor
      · intro e; exact absurd e h
      · intro e; injection e with e1 e2; exact absurd (cmZ_zero.2 e1) h
theorem lexZ_neg : ∀ a b : List Int, lexZ a b = -lexZ b a
  | [], [] => by simp [lexZ]
  | [], _ :: _ => by simp [lexZ]
  | _ :: _, [] => by simp [lexZ]
  | x :: xs, y :: ys => by
    have hn := cmZ_neg x y
    by_cases h : cmZ x y = 0
    · rw [lexZ_same _ _ h, lexZ_same _ _ (by omega)]; exact lexZ_neg xs ys
    · rw [lexZ_diff _ _ h, lexZ_diff _ _ (by omega)]; exact hn
theorem lexZ_trans : ∀ {a b c : List Int}, lexZ a b < 0 → lexZ b c < 0 → lexZ a c < 0
  | [], [], c, h, _ => by simp [lexZ] at h
  | [], _ :: _, [], _, h => by simp [lexZ] at h
  | [], _ :: _, _ :: _, _, _ => by simp [lexZ]
  | _ :: _, [], _, h, _ => by simp [lexZ] at h
  | _ :: _, _ :: _, [], _, h => by simp [lexZ] at h
  | x :: xs, y :: ys, z :: zs, h, h' => by
    by_cases e : cmZ x y = 0
    · rw [lexZ_same _ _ e] at h
      obtain rfl := cmZ_zero.1 e
      by_cases e' : cmZ x z = 0
      · rw [lexZ_same _ _ e'] at h' ⊢; exact lexZ_trans h h'
      · rw [lexZ_diff _ _ e'] at h' ⊢; exact h'
    · rw [lexZ_diff _ _ e] at h
      have l1 := cmZ_neg1.1 h
      by_cases e' : cmZ y z = 0
      · obtain rfl := cmZ_zero.1 e'
        rw [lexZ_diff _ _ e]; exact h
      · rw [lexZ_diff _ _ e'] at h'
        have l2 := cmZ_neg1.1 h'
        have l3 : cmZ x z < 0 := cmZ_neg1.2 (by omega)
        rw [lexZ_diff _ _ (by omega)]; exact l3
theorem cmpL_neg (a b : List Int) : cmpL a b = -cmpL b a := by
  unfold cmpL
  have hn := cmZ_neg a.length b.length
  by_cases h : cmZ a.length b.length = 0
  · rw [if_pos h, if_pos (by omega)]; exact lexZ_neg a b
  · rw [if_neg h, if_neg (by omega)]; exact hn
theorem cmpL_zero {a b : List Int} : cmpL a b = 0 ↔ a = b := by
  unfold cmpL
  by_cases h : cmZ a.length b.length = 0
  · rw [if_pos h]; exact lexZ_zero
  · rw [if_neg h]
    constructor
    · intro e; exact absurd e h
    · intro e; subst e; exact absurd (cmZ_zero.2 rfl) h
theorem cmpL_trans {a b c : List Int} (h : cmpL a b < 0) (h' : cmpL b c < 0) : cmpL a c < 0 := by
  unfold cmpL at *
  by_cases e : cmZ a.length b.length = 0
  · rw [if_pos e] at h
    have el := cmZ_zero.1 e
    rw [el]
    by_cases e' : cmZ b.length c.length = 0
    · rw [if_pos e'] at h' ⊢; exact lexZ_trans h h'
    · rw [if_neg e'] at h' ⊢; exact h'
  · rw [if_neg e] at h
    have l1 := cmZ_neg1.1 h
    by_cases e' : cmZ b.length c.length = 0
    · rw [← cmZ_zero.1 e', if_neg e]; exact h
    · rw [if_neg e'] at h'
      have l2 := cmZ_neg1.1 h'
      have l3 : cmZ a.length c.length < 0 := cmZ_neg1.2 (by omega)
      rw [if_neg (by omega)]; exact l3

/-- Strictly sorted. -/
def SoS (xs : List (List Int)) : Prop := xs.Pairwise fun a b => cmpL a b < 0
/-- Sorted. -/
def SoL (xs : List (List Int)) : Prop := xs.Pairwise fun a b => cmpL a b ≤ 0
theorem sos_ext : ∀ {xs ys : List (List Int)}, SoS xs → SoS ys → (∀ z, z ∈ xs ↔ z ∈ ys) → xs = ys
  | [], [], _, _, _ => rfl
  | [], y :: ys, _, _, h => by have := (h y).2 (by simp); simp at this
  | x :: xs, [], _, _, h => by have := (h x).1 (by simp); simp at this
  | x :: xs, y :: ys, hx, hy, h => by
    obtain ⟨hx1, hx2⟩ := List.pairwise_cons.1 hx
    obtain ⟨hy1, hy2⟩ := List.pairwise_cons.1 hy
    have exy : x = y := by
      rcases List.mem_cons.1 ((h x).1 (by simp)) with e | m
      · exact e
      · rcases List.mem_cons.1 ((h y).2 (by simp)) with e | m'
        · exact e.symm
        · have a1 := hy1 x m
          have a2 := hx1 y m'
          have := cmpL_neg x y
          omega
    subst exy
    have irr : ∀ {zs : List (List Int)}, (∀ z ∈ zs, cmpL x z < 0) → x ∉ zs := fun hz hm => by
      have := hz x hm
      rw [cmpL_zero.2 rfl] at this
      omega
    rw [sos_ext hx2 hy2 fun z => ⟨fun m => by
      rcases List.mem_cons.1 ((h z).1 (List.mem_cons_of_mem _ m)) with e | m'
      · subst e; exact absurd m (irr hx1)
      · exact m', fun m => by
      rcases List.mem_cons.1 ((h z).2 (List.mem_cons_of_mem _ m)) with e | m'
      · subst e; exact absurd m (irr hy1)
      · exact m'⟩]

/-- Insertion without repetition. -/
def insL (f : List Int) : List (List Int) → List (List Int)
  | [] => [f]
  | x :: xs => if f = x then x :: xs else if cmpL f x < 0 then f :: x :: xs else x :: insL f xs
theorem insL_mem (f : List Int) : ∀ (xs : List (List Int)) (z : List Int), z ∈ insL f xs ↔ z = f ∨ z ∈ xs
  | [], z => by simp [insL]
  | x :: xs, z => by
    unfold insL
    by_cases e : f = x
    · subst e
      rw [if_pos rfl]
      simp
    · rw [if_neg e]
      by_cases h : cmpL f x < 0
      · rw [if_pos h]; simp
      · rw [if_neg h]
        simp only [List.mem_cons, insL_mem f xs z]
        constructor
        · rintro (h | h | h)
          · exact .inr (.inl h)
          · exact .inl h
          · exact .inr (.inr h)
        · rintro (h | h | h)
          · exact .inr (.inl h)
          · exact .inl h
          · exact .inr (.inr h)
theorem insL_sos (f : List Int) : ∀ (xs : List (List Int)), SoS xs → SoS (insL f xs)
  | [], _ => by simp [insL, SoS]
  | x :: xs, h => by
    obtain ⟨h1, h2⟩ := List.pairwise_cons.1 h
    unfold insL
    by_cases e : f = x
    · rw [if_pos e]; exact h
    · rw [if_neg e]
      by_cases hlt : cmpL f x < 0
      · rw [if_pos hlt]
        refine List.pairwise_cons.2 ⟨fun z hz => ?_, h⟩
        rcases List.mem_cons.1 hz with rfl | hz
        · exact hlt
        · exact cmpL_trans hlt (h1 z hz)
      · rw [if_neg hlt]
        refine List.pairwise_cons.2 ⟨fun z hz => ?_, insL_sos f xs h2⟩
        rcases (insL_mem f xs z).1 hz with rfl | hz
        · have h0 : ¬ cmpL z x = 0 := fun e0 => e (cmpL_zero.1 e0)
          have := cmpL_neg x z
          omega
        · exact h1 z hz

/-- Equal neighbours struck. -/
def cmpctL : List (List Int) → List (List Int)
  | [] => []
  | [x] => [x]
  | x :: y :: r => if x = y then cmpctL (y :: r) else x :: cmpctL (y :: r)
theorem cmpct_mem : ∀ (xs : List (List Int)) (z : List Int), z ∈ cmpctL xs ↔ z ∈ xs
  | [], z => by simp [cmpctL]
  | [x], z => by simp [cmpctL]
  | x :: y :: r, z => by
    unfold cmpctL
    have ih := cmpct_mem (y :: r) z
    by_cases e : x = y
    · rw [if_pos e, ih, e]
      simp
    · rw [if_neg e, List.mem_cons, ih, List.mem_cons (a := z) (b := x)]
theorem cmpct_sos : ∀ (xs : List (List Int)), SoL xs → SoS (cmpctL xs)
  | [], _ => by simp [cmpctL, SoS]
  | [x], _ => by simp [cmpctL, SoS]
  | x :: y :: r, h => by
    obtain ⟨h1, h2⟩ := List.pairwise_cons.1 h
    have ih := cmpct_sos (y :: r) h2
    unfold cmpctL
    by_cases e : x = y
    · rw [if_pos e]; exact ih
    · rw [if_neg e]
      refine List.pairwise_cons.2 ⟨fun z hz => ?_, ih⟩
      have hxy : cmpL x y < 0 := by
        have l1 := h1 y (by simp)
        have l2 : ¬ cmpL x y = 0 := fun e0 => e (cmpL_zero.1 e0)
        omega
      rcases List.mem_cons.1 ((cmpct_mem (y :: r) z).1 hz) with rfl | hm
      · exact hxy
      · have l3 := (List.pairwise_cons.1 h2).1 z hm
        by_cases e3 : cmpL y z = 0
        · rw [← cmpL_zero.1 e3]; exact hxy
        · exact cmpL_trans hxy (by omega)
/-- Sorted and struck, or inserted one by one: the same list. -/
theorem sub_same {ps qs : List (List Int)} (hp : qs.Perm ps) (hs : SoL qs) : cmpctL qs = ps.foldl (fun l f => insL f l) [] := by
  have hfold : ∀ (xs acc : List (List Int)), SoS acc → SoS (xs.foldl (fun l f => insL f l) acc) ∧ ∀ z, z ∈ xs.foldl (fun l f => insL f l) acc ↔ z ∈ xs ∨ z ∈ acc := by
    intro xs
    induction xs with
    | nil => intro acc h; exact ⟨h, by simp⟩
    | cons x xs ih =>
      intro acc h
      obtain ⟨i1, i2⟩ := ih (insL x acc) (insL_sos x acc h)
      refine ⟨i1, fun z => ?_⟩
      rw [List.foldl_cons, i2, insL_mem, List.mem_cons]
      constructor
      · rintro (h | h | h)
        · exact .inl (.inr h)
        · exact .inl (.inl h)
        · exact .inr h
      · rintro ((h | h) | h)
        · exact .inr (.inl h)
        · exact .inl h
        · exact .inr (.inr h)
  obtain ⟨f1, f2⟩ := hfold ps [] (by simp [SoS])
  refine sos_ext (cmpct_sos qs hs) f1 fun z => ?_
  rw [cmpct_mem, f2, hp.mem_iff]
  simp
end Go.Proofs.YtdgejhlpncnenaaDoor
