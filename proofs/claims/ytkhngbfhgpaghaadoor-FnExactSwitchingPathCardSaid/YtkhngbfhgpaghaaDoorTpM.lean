/- Mathematics: paths in a tree: two searches find the same path, and find one. -/
import Derived.Test.YtkhngbfhgpaghaaDoorFaM
namespace Go.Proofs.YtkhngbfhgpaghaaDoor
set_option linter.unusedSimpArgs false
set_option linter.unusedVariables false
open Go.ChangeAt Go.ChangeShapes Go.RowKit Go.WideShapes

/-- The smallest equivalence over R. -/
def Con (R : Int → Int → Prop) (u v : Int) : Prop := ∀ E : Int → Int → Prop, (∀ x, E x x) → (∀ x y, E x y → E y x) → (∀ x y z, E x y → E y z → E x z) → (∀ x y, R x y → E x y) → E u v
theorem con_refl {R : Int → Int → Prop} (u : Int) : Con R u u := fun _ h _ _ _ => h u
theorem con_symm {R : Int → Int → Prop} {u v : Int} (h : Con R u v) : Con R v u := fun E a b c d => b _ _ (h E a b c d)
theorem con_trans {R : Int → Int → Prop} {u v x : Int} (h : Con R u v) (h2 : Con R v x) : Con R u x := fun E a b c d => c _ _ _ (h E a b c d) (h2 E a b c d)
theorem con_base {R : Int → Int → Prop} {u v : Int} (h : R u v) : Con R u v := fun _ _ _ _ d => d _ _ h
theorem con_mono {R S : Int → Int → Prop} (hs : ∀ u v, R u v → S u v) {u v : Int} (h : Con R u v) : Con S u v := fun E a b c d => h E a b c fun x y hr => d x y (hs x y hr)
theorem con_add {R S : Int → Int → Prop} {x y : Int} (hs : ∀ u v, S u v → R u v ∨ (u = x ∧ v = y)) {u v : Int} (h : Con S u v) : Con R u v ∨ (Con R u x ∧ Con R y v) ∨ (Con R u y ∧ Con R x v) := by
  refine h (fun u v => Con R u v ∨ (Con R u x ∧ Con R y v) ∨ (Con R u y ∧ Con R x v)) (fun u => .inl (con_refl u)) ?_ ?_ ?_
  · rintro a b (h | ⟨h, g⟩ | ⟨h, g⟩)
    · exact .inl (con_symm h)
    · exact .inr (.inr ⟨con_symm g, con_symm h⟩)
    · exact .inr (.inl ⟨con_symm g, con_symm h⟩)
  · rintro a b c (h | ⟨h, g⟩ | ⟨h, g⟩) (k | ⟨k, l⟩ | ⟨k, l⟩)
    · exact .inl (con_trans h k)
    · exact .inr (.inl ⟨con_trans h k, l⟩)
    · exact .inr (.inr ⟨con_trans h k, l⟩)
    · exact .inr (.inl ⟨h, con_trans g k⟩)
    · exact .inr (.inl ⟨h, l⟩)
    · exact .inl (con_trans h l)
    · exact .inr (.inr ⟨h, con_trans g k⟩)
    · exact .inl (con_trans h l)
    · exact .inr (.inr ⟨h, l⟩)
  · intro a b hr
    rcases hs a b hr with h | ⟨rfl, rfl⟩
    · exact .inl (con_base h)
    · exact .inr (.inl ⟨con_refl _, con_refl _⟩)
/-- An arc of those in S leads from u to v. -/
def ArcR (ar : List Ac) (S : Nat → Prop) (u v : Int) : Prop := ∃ j, j < ar.length ∧ S j ∧ (ar.getD j Ac.nil).f = u ∧ (ar.getD j Ac.nil).t = v
theorem tpArcIn {n : Nat} {ar : List Ac} (hin : ArcsIn n ar) {j : Nat} (hj : j < ar.length) : (0 ≤ (ar.getD j Ac.nil).f ∧ (ar.getD j Ac.nil).f.toNat < n ∧ (ar.getD j Ac.nil).f = ((ar.getD j Ac.nil).f.toNat : Nat)) ∧ 0 ≤ (ar.getD j Ac.nil).t ∧ (ar.getD j Ac.nil).t.toNat < n ∧ (ar.getD j Ac.nil).t = ((ar.getD j Ac.nil).t.toNat : Nat) := by
  have h := hin _ (getL_mem (d := Ac.nil) hj)
  exact ⟨inW_yes h.1, inW_yes h.2⟩
theorem tpRunLen {n : Nat} {ar : List Ac} : ∀ {k : Nat} {P : List Int}, k ≤ ar.length → runP n ar k = some P → P.length = n
  | 0, P, _, h => by rw [runP_zero] at h; injection h with h; rw [← h, parts0_len]
  | k + 1, P, hk, h => by
    rw [runP_succ (by omega)] at h
    cases hr : runP n ar k with
    | none => rw [hr] at h; exact absurd h (by simp [stepP])
    | some Q =>
      rw [hr] at h
      have := tpRunLen (by omega) hr
      unfold stepP at h
      dsimp only at h
      split at h
      · cases h
      · injection h with h; rw [← h, renP_len]; exact this
/-- One step that joins. -/
theorem tpRunStep {n : Nat} {ar : List Ac} {k : Nat} {P : List Int} (hk : k < ar.length) (h : runP n ar (k + 1) = some P) : ∃ Q, runP n ar k = some Q ∧ ¬ Q.getD (ar.getD k Ac.nil).f.toNat 0 = Q.getD (ar.getD k Ac.nil).t.toNat 0 ∧ P = renP Q (Q.getD (ar.getD k Ac.nil).f.toNat 0) (Q.getD (ar.getD k Ac.nil).t.toNat 0) := by
  rw [runP_succ hk] at h
  cases hr : runP n ar k with
  | none => rw [hr] at h; exact absurd h (by simp [stepP])
  | some Q =>
    rw [hr] at h
    unfold stepP at h
    dsimp only at h
    split at h
    · cases h
    · rename_i hne
      injection h with h
      exact ⟨Q, rfl, hne, h.symm⟩
theorem tpEndsSame {n : Nat} {ar : List Ac} (hin : ArcsIn n ar) : ∀ {k : Nat} {P : List Int}, k ≤ ar.length → runP n ar k = some P → ∀ j, j < k → P.getD (ar.getD j Ac.nil).f.toNat 0 = P.getD (ar.getD j Ac.nil).t.toNat 0
  | 0, _, _, _, j, hj => absurd hj (by omega)
  | k + 1, P, hk, h, j, hj => by
    obtain ⟨Q, hq, hne, rfl⟩ := tpRunStep (by omega) h
    have hl := tpRunLen (by omega) hq
    obtain ⟨⟨_, h1, _⟩, _, h2, _⟩ := tpArcIn hin (show j < ar.length by omega)
    rw [renP_at (by omega), renP_at (by omega)]
    by_cases e : j < k
    · rw [tpEndsSame hin (by omega) hq j e]
    · obtain rfl : j = k := by omega
      rw [if_neg hne, if_pos rfl]
theorem con_parts {n : Nat} {ar : List Ac} (hin : ArcsIn n ar) {k : Nat} {P : List Int} (hk : k ≤ ar.length) (h : runP n ar k = some P) {u v : Int} (hc : Con (ArcR ar (· < k)) u v) : P.getD u.toNat 0 = P.getD v.toNat 0 := by
  refine hc (fun u v => P.getD u.toNat 0 = P.getD v.toNat 0) (fun _ => rfl) (fun _ _ h => h.symm) (fun _ _ _ h g => h.trans g) ?_
  rintro x y ⟨j, _, hj, rfl, rfl⟩
  exact tpEndsSame hin hk h j hj
/-- Without an arc its ends are apart. -/
theorem no_round {n : Nat} {ar : List Ac} (hin : ArcsIn n ar) : ∀ {k : Nat} {P : List Int}, k ≤ ar.length → runP n ar k = some P → ∀ b, b < k → ¬ Con (ArcR ar fun j => j < k ∧ ¬ j = b) (ar.getD b Ac.nil).f (ar.getD b Ac.nil).t
  | 0, _, _, _, b, hb => absurd hb (by omega)
  | k + 1, P, hk, h, b, hb => fun hc => by
    obtain ⟨Q, hq, hne, rfl⟩ := tpRunStep (by omega) h
    by_cases e : b < k
    · have hs : ∀ u v, ArcR ar (fun j => j < k + 1 ∧ ¬ j = b) u v → ArcR ar (fun j => j < k ∧ ¬ j = b) u v ∨ (u = (ar.getD k Ac.nil).f ∧ v = (ar.getD k Ac.nil).t) := by
        rintro u v ⟨j, hj, ⟨h1, h2⟩, rfl, rfl⟩
        by_cases q : j < k
        · exact .inl ⟨j, hj, ⟨q, h2⟩, rfl, rfl⟩
        · obtain rfl : j = k := by omega
          exact .inr ⟨rfl, rfl⟩
      have hm : ∀ {u v : Int}, Con (ArcR ar fun j => j < k ∧ ¬ j = b) u v → Con (ArcR ar (· < k)) u v := fun hq => con_mono (by rintro u v ⟨j, hj, ⟨h1, _⟩, e1, e2⟩; exact ⟨j, hj, h1, e1, e2⟩) hq
      have hbb : Con (ArcR ar (· < k)) (ar.getD b Ac.nil).f (ar.getD b Ac.nil).t := con_base ⟨b, by omega, e, rfl, rfl⟩
      rcases con_add hs hc with g | ⟨g1, g2⟩ | ⟨g1, g2⟩
      · exact no_round hin (by omega) hq b e g
      · exact hne (con_parts hin (by omega) hq (con_trans (con_symm (hm g1)) (con_trans hbb (con_symm (hm g2)))))
      · exact hne (con_parts hin (by omega) hq (con_trans (hm g2) (con_trans (con_symm hbb) (hm g1))))
    · obtain rfl : b = k := by omega
      refine hne (con_parts hin (by omega) hq (con_mono ?_ hc))
      rintro u v ⟨j, hj, ⟨h1, h2⟩, e1, e2⟩
      exact ⟨j, hj, by omega, e1, e2⟩
/-- Nodes of one part are joined. -/
theorem parts_con {n : Nat} {ar : List Ac} (hin : ArcsIn n ar) : ∀ {k : Nat} {P : List Int}, k ≤ ar.length → runP n ar k = some P → ∀ u v : Int, inW n u = true → inW n v = true → P.getD u.toNat 0 = P.getD v.toNat 0 → Con (ArcR ar (· < k)) u v
  | 0, P, _, h, u, v, hu, hv, e => by
    rw [runP_zero] at h
    injection h with h
    subst h
    obtain ⟨_, h1, h2⟩ := inW_yes hu
    obtain ⟨_, h3, h4⟩ := inW_yes hv
    rw [parts0_at h1, parts0_at h3] at e
    have : u = v := by omega
    rw [this]; exact con_refl _
  | k + 1, P, hk, h, u, v, hu, hv, e => by
    obtain ⟨Q, hq, hne, rfl⟩ := tpRunStep (by omega) h
    have hl := tpRunLen (by omega) hq
    obtain ⟨_, h1, h2⟩ := inW_yes hu
    obtain ⟨_, h3, h4⟩ := inW_yes hv
    rw [renP_at (by omega), renP_at (by omega)] at e
    obtain ⟨hf, ht⟩ := hin _ (getL_mem (d := Ac.nil) (show k < ar.length by omega))
    have IH := parts_con hin (by omega) hq
    have hm : ∀ {u v : Int}, Con (ArcR ar (· < k)) u v → Con (ArcR ar (· < k + 1)) u v := fun hq => con_mono (by rintro u v ⟨j, hj, h1, e1, e2⟩; exact ⟨j, hj, by omega, e1, e2⟩) hq
    have hkk : Con (ArcR ar (· < k + 1)) (ar.getD k Ac.nil).f (ar.getD k Ac.nil).t := con_base ⟨k, by omega, by omega, rfl, rfl⟩
    by_cases a : Q.getD u.toNat 0 = Q.getD (ar.getD k Ac.nil).t.toNat 0
    · by_cases b : Q.getD v.toNat 0 = Q.getD (ar.getD k Ac.nil).t.toNat 0
      · exact hm (IH u v hu hv (a.trans b.symm))
      · rw [if_pos a, if_neg b] at e
        exact con_trans (hm (IH u _ hu ht a)) (con_trans (con_symm hkk) (hm (IH _ v hf hv e)))
    · by_cases b : Q.getD v.toNat 0 = Q.getD (ar.getD k Ac.nil).t.toNat 0
      · rw [if_neg a, if_pos b] at e
        exact con_trans (hm (IH u _ hu hf e)) (con_trans hkk (hm (con_symm (IH v _ hv ht b))))
      · rw [if_neg a, if_neg b] at e
        exact hm (IH u v hu hv e)

/-- The arc joins u and v. -/
def Joins (a : Ac) (u v : Int) : Prop := (a.f = u ∧ a.t = v) ∨ (a.f = v ∧ a.t = u)
theorem Joins.symm {a : Ac} {u v : Int} (h : Joins a u v) : Joins a v u := Or.symm h
theorem con_joins {ar : List Ac} {S : Nat → Prop} {j : Nat} {u v : Int} (hj : j < ar.length) (hS : S j) (h : Joins (ar.getD j Ac.nil) u v) : Con (ArcR ar S) u v := by
  rcases h with ⟨rfl, rfl⟩ | ⟨rfl, rfl⟩
  · exact con_base ⟨j, hj, hS, rfl, rfl⟩
  · exact con_symm (con_base ⟨j, hj, hS, rfl, rfl⟩)
/-- A way: no node twice, an arc from each to the next. -/
structure Way (ar : List Ac) (p : List Int) : Prop where
  nd : ∀ i j, i < p.length → j < p.length → p.getD i 0 = p.getD j 0 → i = j
  st : ∀ i, i + 1 < p.length → ∃ j, j < ar.length ∧ Joins (ar.getD j Ac.nil) (p.getD i 0) (p.getD (i + 1) 0)
theorem tpGetApp {p q : List Int} {i : Nat} : (p ++ q).getD i 0 = if i < p.length then p.getD i 0 else q.getD (i - p.length) 0 := by
  by_cases h : i < p.length
  · rw [if_pos h]; simp [List.getD, List.getElem?_append_left h]
  · rw [if_neg h]; simp [List.getD, List.getElem?_append_right (Nat.le_of_not_lt h)]
theorem Way.one (ar : List Ac) (u : Int) : Way ar [u] where
  nd i j hi hj _ := by simp at hi hj; omega
  st i hi := by simp at hi
theorem tpGetLt {p q : List Int} {i : Nat} (h : i < p.length) : (p ++ q).getD i 0 = p.getD i 0 := by rw [tpGetApp, if_pos h]
theorem tpGetEnd {p : List Int} {v : Int} {i : Nat} (h : i = p.length) : (p ++ [v]).getD i 0 = v := by subst h; rw [tpGetApp, if_neg (by omega), Nat.sub_self]; rfl
theorem Way.push {ar : List Ac} {p : List Int} {u v : Int} {l : Nat} (h : Way ar p) (hl : l + 1 = p.length) (hu : p.getD l 0 = u) (hn : ¬ v ∈ p) {b : Nat} (hb : b < ar.length) (hj : Joins (ar.getD b Ac.nil) u v) : Way ar (p ++ [v]) where
  nd i j hi hj e := by
    simp only [List.length_append, List.length_cons, List.length_nil] at hi hj
    by_cases a : i < p.length
    · by_cases b : j < p.length
      · rw [tpGetLt a, tpGetLt b] at e
        exact h.nd i j a b e
      · rw [tpGetLt a, tpGetEnd (by omega)] at e
        exact absurd (by rw [← e]; exact getL_mem a) hn
    · by_cases b : j < p.length
      · rw [tpGetLt b, tpGetEnd (by omega)] at e
        exact absurd (by rw [e]; exact getL_mem b) hn
      · omega
  st i hi := by
    simp only [List.length_append, List.length_cons, List.length_nil] at hi
    by_cases a : i + 1 < p.length
    · obtain ⟨j, h1, h2⟩ := h.st i a
      exact ⟨j, h1, by rw [tpGetLt (by omega), tpGetLt a]; exact h2⟩
    · have e : i = l := by omega
      subst e
      exact ⟨b, hb, by rw [tpGetLt (by omega), tpGetEnd (by omega), hu]; exact hj⟩
theorem way_con {ar : List Ac} {p : List Int} (h : Way ar p) {b : Nat} {i m : Nat} (hm : m < p.length) (him : i ≤ m) (hS : ∀ q, i ≤ q → q < m → ∀ j, j < ar.length → Joins (ar.getD j Ac.nil) (p.getD q 0) (p.getD (q + 1) 0) → ¬ j = b) : Con (ArcR ar fun j => j < ar.length ∧ ¬ j = b) (p.getD i 0) (p.getD m 0) := by
  induction m with
  | zero => obtain rfl : i = 0 := by omega
            exact con_refl _
  | succ m ih =>
    by_cases e : i = m + 1
    · subst e; exact con_refl _
    · obtain ⟨j, h1, h2⟩ := h.st m hm
      exact con_trans (ih (by omega) (by omega) fun q a c => hS q a (by omega)) (con_joins h1 ⟨h1, hS m (by omega) (by omega) j h1 h2⟩ h2)
/-- In a graph without a cycle no arc leads back into a way, but for its last step. -/
theorem no_close {n : Nat} {ar : List Ac} (hin : ArcsIn n ar) {P : List Int} (hr : runP n ar ar.length = some P) {p : List Int} (h : Way ar p) {l i b : Nat} (hl : l + 1 = p.length) (hi : i < p.length) (hb : b < ar.length) (hj : Joins (ar.getD b Ac.nil) (p.getD l 0) (p.getD i 0)) : i + 1 = l := by
  by_cases e : i + 1 = l
  · exact e
  · exfalso
    have hc : Con (ArcR ar fun j => j < ar.length ∧ ¬ j = b) (p.getD i 0) (p.getD l 0) := by
      refine way_con h (b := b) (by omega) (by omega) ?_
      rintro q h1 h2 j h3 h4 rfl
      have key : (p.getD q 0 = p.getD l 0 ∧ p.getD (q + 1) 0 = p.getD i 0) ∨ (p.getD q 0 = p.getD i 0 ∧ p.getD (q + 1) 0 = p.getD l 0) := by
        rcases hj with ⟨a1, a2⟩ | ⟨a1, a2⟩ <;> rcases h4 with ⟨b1, b2⟩ | ⟨b1, b2⟩
        · exact .inl ⟨b1.symm.trans a1, b2.symm.trans a2⟩
        · exact .inr ⟨b2.symm.trans a2, b1.symm.trans a1⟩
        · exact .inr ⟨b1.symm.trans a1, b2.symm.trans a2⟩
        · exact .inl ⟨b2.symm.trans a2, b1.symm.trans a1⟩
      rcases key with ⟨k1, _⟩ | ⟨k1, k2⟩
      · have := h.nd q l (by omega) (by omega) k1; omega
      · have e1 := h.nd q i (by omega) hi k1
        have e2 := h.nd (q + 1) l (by omega) (by omega) k2
        omega
    refine no_round hin (Nat.le_refl _) hr b hb ?_
    rcases hj with ⟨a1, a2⟩ | ⟨a1, a2⟩
    · rw [a1, a2]; exact con_symm hc
    · rw [a1, a2]; exact hc

/-- The other end of an arc at u. -/
def ox (a : Ac) (u : Int) : Option Int := if a.f = u then some a.t else if a.t = u then some a.f else none
theorem ox_joins {a : Ac} {u v : Int} (h : ox a u = some v) : Joins a u v := by
  unfold ox at h
  split at h
  · rename_i e; injection h with h; exact .inl ⟨e, h⟩
  · split at h
    · rename_i e; injection h with h; exact .inr ⟨h, e⟩
    · cases h
theorem joins_ox {a : Ac} {u v : Int} (h : Joins a u v) (hne : ¬ u = v) : ox a u = some v := by
  unfold ox
  rcases h with ⟨h1, h2⟩ | ⟨h1, h2⟩
  · rw [if_pos h1, h2]
  · rw [if_neg (by rw [h1]; exact fun e => hne e.symm), if_pos h2, h1]
/-- The program's search. -/
def pf : Nat → List Ac → Int → Int → Int → Option (List Int)
  | 0, _, _, _, _ => none
  | m + 1, ar, u, g, bf => if u = g then some [g] else ar.findSome? fun a => match ox a u with
    | none => none
    | some v => if v = bf then none else (pf m ar v g u).map (u :: ·)
/-- The model's search. -/
def mf : Nat → List Ac → List Int → Int → Option (List Int)
  | 0, _, _, _ => none
  | m + 1, ar, p, g => if p.getD (p.length - 1) 0 = g then some p else ar.findSome? fun a => match ox a (p.getD (p.length - 1) 0) with
    | none => none
    | some v => if v ∈ p then none else mf m ar (p ++ [v]) g
theorem tpFindMap {α β γ : Type} (f : α → Option β) (h : β → γ) : ∀ l : List α, (l.findSome? f).map h = l.findSome? fun a => (f a).map h
  | [] => rfl
  | a :: l => by
    simp only [List.findSome?_cons]
    cases f a with
    | some b => rfl
    | none => exact tpFindMap f h l
theorem tpFindExt {α β : Type} {f g : α → Option β} : ∀ {l : List α}, (∀ a ∈ l, f a = g a) → l.findSome? f = l.findSome? g
  | [], _ => rfl
  | a :: l, h => by
    simp only [List.findSome?_cons]
    rw [h a (List.mem_cons_self ..), tpFindExt fun b hb => h b (List.mem_cons_of_mem _ hb)]
theorem tpTakeLast {p : List Int} {l : Nat} (hl : l + 1 = p.length) (r : List Int) : p.take l ++ p.getD l 0 :: r = p ++ r := by
  have h : l < p.length := by omega
  have e : p.take (l + 1) = p.take l ++ [p.getD l 0] := by rw [List.take_add_one]; simp [List.getD, h]
  have e2 : p.take (l + 1) = p := by rw [hl]; exact List.take_length
  rw [show p.take l ++ p.getD l 0 :: r = (p.take l ++ [p.getD l 0]) ++ r by simp, ← e, e2]
theorem tpMemAt {p : List Int} {v : Int} (h : v ∈ p) : ∃ i, i < p.length ∧ p.getD i 0 = v := by
  obtain ⟨i, hi, e⟩ := List.getElem_of_mem h
  exact ⟨i, hi, by simp [List.getD, hi, e]⟩
theorem tpIdxOf {ar : List Ac} {a : Ac} (h : a ∈ ar) : ∃ b, b < ar.length ∧ ar.getD b Ac.nil = a := by
  obtain ⟨i, hi, e⟩ := List.getElem_of_mem h
  exact ⟨i, hi, by simp [List.getD, hi, e]⟩
/-- In a graph without a cycle both searches find the same. -/
theorem find_same {n : Nat} {ar : List Ac} (hin : ArcsIn n ar) {P : List Int} (hr : runP n ar ar.length = some P) (g : Int) : ∀ (m : Nat) (p : List Int) (l : Nat) (bf : Int), l + 1 = p.length → Way ar p → (l = 0 ∧ bf = -1 ∨ 0 < l ∧ bf = p.getD (l - 1) 0) → mf m ar p g = (pf m ar (p.getD l 0) g bf).map (p.take l ++ ·)
  | 0, _, _, _, _, _, _ => rfl
  | m + 1, p, l, bf, hl, hw, hb => by
    have el : p.length - 1 = l := by omega
    show (if p.getD (p.length - 1) 0 = g then some p else _) = Option.map _ (if p.getD l 0 = g then some [g] else _)
    rw [el]
    by_cases hg : p.getD l 0 = g
    · rw [if_pos hg, if_pos hg, ← hg]
      show some p = some (p.take l ++ [p.getD l 0])
      rw [tpTakeLast hl []]; simp
    · rw [if_neg hg, if_neg hg, tpFindMap]
      refine tpFindExt fun a ha => ?_
      obtain ⟨b, hb1, hb2⟩ := tpIdxOf ha
      cases ho : ox a (p.getD l 0) with
      | none => rfl
      | some v =>
        have hj := ox_joins ho
        rw [← hb2] at hj
        have hvin : inW n v = true := by
          obtain ⟨h1, h2⟩ := hin _ (getL_mem (d := Ac.nil) hb1)
          rcases hj with ⟨_, e⟩ | ⟨e, _⟩
          · rw [← e]; exact h2
          · rw [← e]; exact h1
        obtain ⟨hv0, _, _⟩ := inW_yes hvin
        dsimp only
        by_cases hm : v ∈ p
        · obtain ⟨i, hi, e⟩ := tpMemAt hm
          have hc := no_close hin hr hw hl hi hb1 (by rw [e]; exact hj)
          have ebf : v = bf := by
            rcases hb with ⟨h0, _⟩ | ⟨_, h1⟩
            · omega
            · rw [h1, ← e, ← hc]; rfl
          rw [if_pos hm, if_pos ebf]; rfl
        · have ebf : ¬ v = bf := by
            rcases hb with ⟨_, h0⟩ | ⟨hp, h1⟩
            · omega
            · intro e; exact hm (by rw [e, h1]; exact getL_mem (by omega))
          rw [if_neg hm, if_neg ebf]
          have hw2 := hw.push hl rfl hm hb1 hj
          have ih := find_same hin hr g m (p ++ [v]) (l + 1) (p.getD l 0) (by simp; omega) hw2 (.inr ⟨by omega, by rw [Nat.add_sub_cancel, tpGetLt (by omega)]⟩)
          rw [ih, tpGetEnd (by omega), Option.map_map]
          congr 1
          funext r
          show (p ++ [v]).take (l + 1) ++ r = p.take l ++ (p.getD l 0 :: r)
          rw [tpTakeLast hl r, List.take_append_of_le_length (by omega), hl, List.take_length]

/-- Numbers below n, each once, are at most n. -/
theorem tpFew : ∀ (n : Nat) (p : List Int), p.Nodup → (∀ x ∈ p, 0 ≤ x ∧ x < (n : Int)) → p.length ≤ n
  | 0, p, _, h => by
    cases p with
    | nil => exact Nat.le_refl _
    | cons x p => have := h x (List.mem_cons_self ..); omega
  | n + 1, p, hd, h => by
    by_cases hm : (n : Int) ∈ p
    · have := tpFew n (p.erase (n : Int)) (hd.erase _) fun x hx => by
        obtain ⟨h1, h2⟩ := hd.mem_erase_iff.1 hx
        have := h x h2
        omega
      rw [List.length_erase_of_mem hm] at this
      omega
    · have := tpFew n p hd fun x hx => by
        have h1 := h x hx
        have : ¬ x = (n : Int) := fun e => hm (e ▸ hx)
        omega
      omega
theorem Way.nodup {ar : List Ac} {p : List Int} (h : Way ar p) : p.Nodup := by
  refine List.pairwise_iff_getElem.2 fun i j hi hj hij e => ?_
  have := h.nd i j hi hj (by simp [List.getD, hi, hj, e])
  omega
theorem way_few {n : Nat} {ar : List Ac} {p : List Int} (h : Way ar p) (hin : ∀ x ∈ p, inW n x = true) : p.length ≤ n :=
  tpFew n p h.nodup fun x hx => by obtain ⟨h1, h2, h3⟩ := inW_yes (hin x hx); omega
theorem Way.take {ar : List Ac} {p : List Int} (h : Way ar p) (k : Nat) : Way ar (p.take k) where
  nd i j hi hj e := by
    rw [List.length_take] at hi hj
    have hq : ∀ i, i < k → i < p.length → (p.take k).getD i 0 = p.getD i 0 := fun i h1 h2 => by simp [List.getD, h1]
    rw [hq i (by omega) (by omega), hq j (by omega) (by omega)] at e
    exact h.nd i j (by omega) (by omega) e
  st i hi := by
    rw [List.length_take] at hi
    obtain ⟨j, h1, h2⟩ := h.st i (by omega)
    have hq : ∀ i, i < k → i < p.length → (p.take k).getD i 0 = p.getD i 0 := fun i h1 h2 => by simp [List.getD, h1]
    exact ⟨j, h1, by rw [hq i (by omega) (by omega), hq (i + 1) (by omega) (by omega)]; exact h2⟩
theorem Way.tail {ar : List Ac} {u : Int} {p : List Int} (h : Way ar (u :: p)) : Way ar p where
  nd i j hi hj e := by
    have := h.nd (i + 1) (j + 1) (by simpa using hi) (by simpa using hj) (by simpa [List.getD] using e)
    omega
  st i hi := by
    obtain ⟨j, h1, h2⟩ := h.st (i + 1) (by simpa using hi)
    exact ⟨j, h1, by simpa [List.getD] using h2⟩
theorem Way.not_in {ar : List Ac} {u : Int} {p : List Int} (h : Way ar (u :: p)) : ¬ u ∈ p := fun hm => by
  obtain ⟨i, hi, e⟩ := tpMemAt hm
  have := h.nd 0 (i + 1) (by simp) (by simpa using hi) (by simpa [List.getD] using e.symm)
  omega
/-- A way from u to v. -/
def Goes (ar : List Ac) (u v : Int) : Prop := ∃ p, Way ar (u :: p) ∧ (u :: p).getD p.length 0 = v
theorem goes_arc {ar : List Ac} {u v x : Int} (h : Goes ar u v) {b : Nat} (hb : b < ar.length) (hj : Joins (ar.getD b Ac.nil) v x) : Goes ar u x := by
  obtain ⟨p, hw, he⟩ := h
  by_cases hm : x ∈ u :: p
  · obtain ⟨i, hi, e⟩ := tpMemAt hm
    refine ⟨p.take i, ?_, ?_⟩
    · exact hw.take (i + 1)
    · have hl : (p.take i).length = i := by rw [List.length_take]; simp at hi; omega
      rw [hl]
      rw [← e]
      show ((u :: p).take (i + 1)).getD i 0 = _
      unfold List.getD
      rw [List.getElem?_take_of_lt (by omega)]
  · refine ⟨p ++ [x], hw.push (l := p.length) (by simp) he hm hb hj, ?_⟩
    exact tpGetEnd (p := u :: p) (by simp)
theorem goes_con {ar : List Ac} {S : Nat → Prop} {u v x : Int} (h : Goes ar u v) (hc : Con (ArcR ar S) v x) : Goes ar u x := by
  refine (hc (fun v x => Goes ar u v ↔ Goes ar u x) (fun _ => Iff.rfl) (fun _ _ h => h.symm) (fun _ _ _ h g => h.trans g) ?_).1 h
  rintro a b ⟨j, hj, _, rfl, rfl⟩
  exact ⟨fun h => goes_arc h hj (.inl ⟨rfl, rfl⟩), fun h => goes_arc h hj (.inr ⟨rfl, rfl⟩)⟩
/-- Where a way leads, the search finds one. -/
theorem pf_finds {ar : List Ac} {g : Int} : ∀ (m : Nat) (u : Int) (p : List Int) (bf : Int), Way ar (u :: p) → (u :: p).getD p.length 0 = g → p.length < m → ¬ bf ∈ p → ∃ r, pf m ar u g bf = some r
  | 0, _, _, _, _, _, h, _ => absurd h (by omega)
  | m + 1, u, p, bf, hw, he, hm, hb => by
    unfold pf
    by_cases hg : u = g
    · exact ⟨_, if_pos hg⟩
    · rw [if_neg hg]
      cases p with
      | nil => exact absurd he hg
      | cons v p =>
        obtain ⟨j, h1, h2⟩ := hw.st 0 (by simp)
        have huv : ¬ u = v := fun e => hw.not_in (by rw [e]; exact List.mem_cons_self ..)
        have ho := joins_ox (show Joins (ar.getD j Ac.nil) u v from h2) huv
        obtain ⟨r, hr⟩ := pf_finds m v p u hw.tail (by simpa [List.getD] using he) (by simp at hm; omega) (fun h => hw.not_in (List.mem_cons_of_mem _ h))
        have hvb : ¬ v = bf := fun e => hb (by rw [← e]; exact List.mem_cons_self ..)
        cases hf : (ar.findSome? fun a => match ox a u with
          | none => none
          | some v => if v = bf then none else (pf m ar v g u).map (u :: ·)) with
        | some r => exact ⟨r, rfl⟩
        | none =>
          have := List.findSome?_eq_none_iff.1 hf _ (getL_mem (d := Ac.nil) h1)
          rw [ho] at this
          dsimp only at this
          rw [if_neg hvb, hr] at this
          cases this
theorem way_in {n : Nat} {ar : List Ac} (hin : ArcsIn n ar) {u : Int} (hu : inW n u = true) {p : List Int} (h : Way ar (u :: p)) : ∀ x ∈ u :: p, inW n x = true := fun x hx => by
  obtain ⟨i, hi, e⟩ := tpMemAt hx
  cases i with
  | zero => rw [← e]; exact hu
  | succ i =>
    obtain ⟨j, h1, h2⟩ := h.st i hi
    obtain ⟨g1, g2⟩ := hin _ (getL_mem (d := Ac.nil) h1)
    rcases h2 with ⟨_, q⟩ | ⟨q, _⟩
    · rw [← e, ← q]; exact g2
    · rw [← e, ← q]; exact g1

theorem tpSumOne {f : Nat → Int} (h : ∀ i, 0 ≤ f i) : ∀ (n v : Nat), v < n → f v ≤ ((List.range n).map f).sum
  | 0, v, hv => absurd hv (by omega)
  | n + 1, v, hv => by
    rw [List.range_succ, List.map_append, List.sum_append]
    simp only [List.map_cons, List.map_nil, List.sum_cons, List.sum_nil]
    have hn := h n
    by_cases e : v < n
    · have := tpSumOne h n v e; omega
    · obtain rfl : v = n := by omega
      have : 0 ≤ ((List.range v).map f).sum := by
        cases v with
        | zero => simp
        | succ v => have := tpSumOne h (v + 1) v (by omega); have := h v; omega
      omega
theorem tpSumTwo {f : Nat → Int} (h : ∀ i, 0 ≤ f i) : ∀ (n v x : Nat), v < x → x < n → f v + f x ≤ ((List.range n).map f).sum
  | 0, v, x, _, hx => absurd hx (by omega)
  | n + 1, v, x, hv, hx => by
    rw [List.range_succ, List.map_append, List.sum_append]
    simp only [List.map_cons, List.map_nil, List.sum_cons, List.sum_nil]
    have hn := h n
    by_cases e : x < n
    · have := tpSumTwo h n v x hv e; omega
    · obtain rfl : x = n := by omega
      have := tpSumOne h x v hv; omega
/-- In a tree all nodes are in one part. -/
theorem tree_one {n : Nat} {ar : List Ac} (hin : ArcsIn n ar) (h : ftV n ar = 0) : ∃ P, runP n ar ar.length = some P ∧ ∀ i j, i < n → j < n → P.getD i 0 = P.getD j 0 := by
  rcases run_same hin ar.length (Nat.le_refl _) with ⟨h1, _⟩ | ⟨P, h1, _, h3⟩
  · rw [ftV_cycle (Nat.le_refl _) h1] at h; exact absurd h (by decide)
  · refine ⟨P, h1, fun i j hi hj => ?_⟩
    have hk : (ar.length : Int) = (n : Int) - 1 := by
      rw [ftV_end h1] at h
      by_cases e : (ar.length : Int) = (n : Int) - 1
      · exact e
      · rw [if_neg e] at h; exact absurd h (by decide)
    obtain ⟨v, hv, e1, e2⟩ := h3.fix i hi
    obtain ⟨x, hx, e3, e4⟩ := h3.fix j hj
    rw [e1, e3]
    have hc := h3.cnt
    have h0 : ∀ i, 0 ≤ one (P.getD i 0 = (i : Int)) := fun i => by unfold one; split <;> decide
    have hy : ∀ y : Nat, P.getD y 0 = (y : Int) → one (P.getD y 0 = (y : Int)) = 1 := fun y e => by unfold one; rw [if_pos e]
    rcases Nat.lt_trichotomy v x with g | g | g
    · have := tpSumTwo h0 n v x g hx
      rw [hy v e2, hy x e4] at this
      omega
    · rw [g]
    · have := tpSumTwo h0 n x v g hv
      rw [hy v e2, hy x e4] at this
      omega
theorem tree_finds {n : Nat} {ar : List Ac} (hin : ArcsIn n ar) (h : ftV n ar = 0) {u g : Int} (hu : inW n u = true) (hg : inW n g = true) : ∃ r, pf (n + 1) ar u g (-1) = some r := by
  obtain ⟨P, hr, hP⟩ := tree_one hin h
  obtain ⟨_, h1, _⟩ := inW_yes hu
  obtain ⟨_, h2, _⟩ := inW_yes hg
  have hc := parts_con hin (Nat.le_refl _) hr u g hu hg (hP _ _ h1 h2)
  obtain ⟨p, hw, he⟩ := goes_con (show Goes ar u u from ⟨[], Way.one ar u, rfl⟩) hc
  have hall := way_in hin hu hw
  have hf := way_few hw hall
  refine pf_finds (n + 1) u p (-1) hw he (by simp at hf; omega) fun hm => ?_
  obtain ⟨h0, _, _⟩ := inW_yes (hall _ (List.mem_cons_of_mem _ hm))
  omega

end Go.Proofs.YtkhngbfhgpaghaaDoor
