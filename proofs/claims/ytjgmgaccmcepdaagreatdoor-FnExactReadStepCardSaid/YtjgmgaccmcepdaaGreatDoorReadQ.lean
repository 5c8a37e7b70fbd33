/- Mathematics: what the model makes of the words of a text; at the text of a plain step, that step. -/
import Derived.Test.YtjgmgaccmcepdaaGreatDoorReadH
import Derived.Test.YtjgmgaccmcepdaaGreatDoorPlainS
namespace Go.Proofs.YtjgmgaccmcepdaaGreatDoor
open Go.ChangeAt Go.ChangeShapes Go.RowKit Go.WideShapes

theorem rsB_parts {t : ByteArray} (h : rsB t = true) : plainB (lkS t).r (lkS t).a (lkS t).b (lkS t).i (lkS t).j (lkS t).f = true ∧ t = stT (lkS t).r (lkS t).a (lkS t).b (lkS t).i (lkS t).j (lkS t).f := by
  unfold rsB at h
  simp only [Bool.and_eq_true, decide_eq_true_eq] at h
  obtain ⟨h0, h1⟩ := h
  have e : t = stT (lkS t).r (lkS t).a (lkS t).b (lkS t).i (lkS t).j (lkS t).f := by
    have := eq_of_beq h1
    apply ba_ext
    rw [ByteArray.toList_eq, ByteArray.toList_eq] at this
    exact this.symm
  refine ⟨?_, e⟩
  cases hp : plainB (lkS t).r (lkS t).a (lkS t).b (lkS t).i (lkS t).j (lkS t).f with
  | true => rfl
  | false =>
    rw [stT_no hp] at e
    rw [e] at h0
    have e0 : cwA (nmB 0) = nmB 0 := (cw_one (nm_no32 (k := 0) (by decide))).1
    exact absurd (show rnm (cwA (nmB 0)) = 0 by rw [e0, rnm_nm (by decide)]) h0
theorem rsB_of {t : ByteArray} {s : Stp} (h : stT s.r s.a s.b s.i s.j s.f = t) (hr : 1 ≤ s.r) (ht : t.size ≠ 0) : rsB t = true ∧ lkS t = s := by
  cases hp : plainB s.r s.a s.b s.i s.j s.f with
  | false => rw [stT_no hp] at h; subst h; exact absurd rfl ht
  | true =>
    obtain ⟨h1, h2⟩ := lk_back hp
    rw [h] at h1 h2
    refine ⟨?_, h2⟩
    unfold rsB
    rw [h2, h]
    simp only [beq_self_eq_true, Bool.and_true, decide_eq_true_eq]
    omega
def wd (T : List ByteArray) (k : Nat) : ByteArray := T.getD k ⟨#[]⟩
def wdN (T : List ByteArray) (k : Nat) : Int := ((rdN (wd T k)).1 : Nat)
def wdB (T : List ByteArray) (k : Nat) : Bool := (rdN (wd T k)).2
noncomputable def mdS (T : List ByteArray) (N K : Int) (F : Bool) (k : Nat) : Stp :=
  ⟨k, if 0 < N then wdN T 1 else -1, if 1 < N then wdN T 2 else -1, if 0 < K then wdN T (N.toNat + 1) else 0, if 1 < K then wdN T (N.toNat + 2) else 0, if F then rdL (wd T (N.toNat + K.toNat + 1)) else []⟩
/-- How many words there should be. -/
def wdW (N K : Int) (F : Bool) : Int := 1 + N + K + (if F then 1 else 0)
theorem nm_size {k : Nat} (h1 : 1 ≤ k) (h2 : k < 15) : (nmB k).size ≠ 0 := by
  have : ∀ k : Fin 15, 1 ≤ k.1 → (nmTab.getD k.1 []).length ≠ 0 := by decide
  have := this ⟨k, h2⟩ h1
  simpa [nmB, ByteArray.size] using this
theorem st_words {r a b i j : Int} {f : List Int} (h : plainB r a b i j f = true) : spl (stT r a b i j f) = stW r a b i j f := by
  obtain ⟨⟨l1, l2⟩, hf, h0, h1, h2, h3⟩ := plain_parts h
  obtain ⟨k, rfl⟩ : ∃ k : Nat, r = k := ⟨r.toNat, by omega⟩
  have ek : ((k : Int)).toNat = k := by omega
  rw [stT_yes h]
  refine spl_jn (short_st h).1 fun x hx => ?_
  rw [stW_eq, ek] at hx
  have mo : ∀ {c : Bool} {x u z : Int}, idxB c x u = true → ∀ {y}, y ∈ ow c (decB x) → No32 y := by
    intro c x u z hi y hy
    cases c with
    | false => exact absurd hy (by simp [ow])
    | true =>
      have : y = decB x := by simpa [ow] using hy
      rw [this]; exact dec_no32 hi
  rcases List.mem_cons.1 hx with rfl | hx
  · exact nm_no32 (by omega)
  rcases List.mem_append.1 hx with hx | hx
  · exact mo (z := 0) h0 hx
  rcases List.mem_append.1 hx with hx | hx
  · exact mo (z := 0) h1 hx
  rcases List.mem_append.1 hx with hx | hx
  · exact mo (z := 0) h2 hx
  rcases List.mem_append.1 hx with hx | hx
  · exact mo (z := 0) h3 hx
  cases hz : ruF (k : Int) with
  | false => rw [hz] at hx; exact absurd hx (by simp [ow])
  | true =>
    rw [hz] at hx
    have : x = mkB (textL f) := by simpa [ow] using hx
    rw [this]; exact text_no32 f
/-- The words of a plain step are read by the model as that step. -/
theorem md_back {r a b i j : Int} {f : List Int} (h : plainB r a b i j f = true) : ∃ k : Nat, r = k ∧ rnm (wd (stW r a b i j f) 0) = k ∧ ((stW r a b i j f).length : Int) = wdW (ruP r) (ruK r) (ruF r) ∧
    (∀ m : Nat, 1 ≤ m → (m : Int) ≤ ruP r + ruK r → wdB (stW r a b i j f) m = true) ∧ (ruF r = true → rdB (wd (stW r a b i j f) ((ruP r).toNat + (ruK r).toNat + 1)) = true) ∧ mdS (stW r a b i j f) (ruP r) (ruK r) (ruF r) k = ⟨r, a, b, i, j, f⟩ := by
  obtain ⟨⟨l1, l2⟩, hf, h0, h1, h2, h3⟩ := plain_parts h
  have hn : ruF r = false → f = [] := fun hz => by
    unfold plainB at h
    simp only [Bool.and_eq_true] at h
    have hv := h.2.2.1
    unfold fitV at hv
    rw [hz] at hv
    simp only [Bool.and_eq_true, Bool.false_eq_true, if_false, decide_eq_true_eq] at hv
    exact List.eq_nil_of_length_eq_zero hv.1.1
  have hft : ruF r = true → rdB (mkB (textL f)) = true ∧ rdL (mkB (textL f)) = f := fun hz => rdB_text (hf hz)
  clear h hf
  have da := fun h : inR a = true => dec_rd h; have db := fun h : inR b = true => dec_rd h; have di := fun h : inR i = true => dec_rd h; have dj := fun h : inR j = true => dec_rd h
  have rn := @rnm_nm
  have all : ∀ r : Int, 1 ≤ r → r ≤ 14 → idxB (decide (0 < ruP r)) a (-1) = true → idxB (decide (1 < ruP r)) b (-1) = true → idxB (ruI r) i 0 = true → idxB (ruJ r) j 0 = true → (ruF r = false → f = []) → (ruF r = true → rdB (mkB (textL f)) = true ∧ rdL (mkB (textL f)) = f) →
      ∃ k : Nat, r = k ∧ rnm (wd (stW r a b i j f) 0) = k ∧ ((stW r a b i j f).length : Int) = wdW (ruP r) (ruK r) (ruF r) ∧
    (∀ m : Nat, 1 ≤ m → (m : Int) ≤ ruP r + ruK r → wdB (stW r a b i j f) m = true) ∧ (ruF r = true → rdB (wd (stW r a b i j f) ((ruP r).toNat + (ruK r).toNat + 1)) = true) ∧ mdS (stW r a b i j f) (ruP r) (ruK r) (ruF r) k = ⟨r, a, b, i, j, f⟩ := by
    refine ru_cases ?_ ?_ ?_ ?_ ?_ ?_ ?_ ?_ ?_ ?_ ?_ ?_ ?_ ?_
    all_goals
      intro h0 h1 h2 h3 hn hft
      refine ⟨_, rfl, rn (by decide), rfl, ?_, ?_, ?_⟩
      · intro m hm1 hm2
        have hm3 : m ≤ 4 := by have e : ∀ x : Int, x = 0 ∨ x = 1 ∨ x = 2 ∨ x = 3 ∨ x = 4 → (m : Int) ≤ x → m ≤ 4 := by (intro x hx hy; omega)
                               exact e _ (by decide) hm2
        match m, hm1, hm2, hm3 with
        | 1, _, hm2, _ => first | exact (da h0).2 | exact (di h2).2 | exact absurd hm2 (by decide)
        | 2, _, hm2, _ => first | exact (db h1).2 | exact (di h2).2 | exact (dj h3).2 | exact absurd hm2 (by decide)
        | 3, _, hm2, _ => first | exact (di h2).2 | exact (dj h3).2 | exact absurd hm2 (by decide)
        | 4, _, hm2, _ => first | exact (dj h3).2 | exact absurd hm2 (by decide)
      · intro hz
        first | exact (hft rfl).1 | exact absurd hz (by decide)
      · have ea : idxB false a (-1) = true → a = -1 := fun h => of_decide_eq_true h
        have eb : idxB false b (-1) = true → b = -1 := fun h => of_decide_eq_true h
        have ei : idxB false i 0 = true → i = 0 := fun h => of_decide_eq_true h
        have ej : idxB false j 0 = true → j = 0 := fun h => of_decide_eq_true h
        have xa : ∀ x, x = a → Stp.mk 0 x 0 0 0 [] = Stp.mk 0 a 0 0 0 [] := fun x h => by rw [h]
        have cg : ∀ (x0 x1 x2 x3 x4 : Int) (x5 : List Int), x1 = a → x2 = b → x3 = i → x4 = j → x5 = f → Stp.mk x0 x1 x2 x3 x4 x5 = Stp.mk x0 a b i j f := by
          intro x0 x1 x2 x3 x4 x5 e1 e2 e3 e4 e5
          rw [e1, e2, e3, e4, e5]
        refine cg _ _ _ _ _ _ ?_ ?_ ?_ ?_ ?_
        · first | exact (da h0).1 | exact (ea h0).symm
        · first | exact (db h1).1 | exact (eb h1).symm
        · first | exact (di h2).1 | exact (ei h2).symm
        · first | exact (dj h3).1 | exact (ej h3).symm
        · first | exact (hft rfl).2 | exact (hn rfl).symm
  exact all r l1 l2 h0 h1 h2 h3 hn hft
/-- Where a text is read, the model reads it so. -/
theorem rsB_model {t : ByteArray} (h : rsB t = true) : ∃ k : Nat, 1 ≤ k ∧ k < 15 ∧ rnm (wd (spl t) 0) = k ∧ ((spl t).length : Int) = wdW (ruP k) (ruK k) (ruF k) ∧
    (∀ m : Nat, 1 ≤ m → (m : Int) ≤ ruP k + ruK k → wdB (spl t) m = true) ∧ (ruF k = true → rdB (wd (spl t) ((ruP k).toNat + (ruK k).toNat + 1)) = true) ∧ mdS (spl t) (ruP k) (ruK k) (ruF k) k = lkS t := by
  obtain ⟨hp, e⟩ := rsB_parts h
  have hw := st_words hp
  rw [← e] at hw
  obtain ⟨k, h1, h2, h3, h4, h5, h6⟩ := md_back hp
  obtain ⟨⟨l1, l2⟩, _⟩ := plain_parts hp
  rw [hw]
  rw [h1] at l1 l2
  refine ⟨k, by omega, by omega, h2, ?_, ?_, ?_, ?_⟩
  · rw [← h1]; exact h3
  · rw [← h1]; exact h4
  · rw [← h1]; exact h5
  · rw [← h1]; exact h6
end Go.Proofs.YtjgmgaccmcepdaaGreatDoor
