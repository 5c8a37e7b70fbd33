/- Mathematics: what likelyStep makes of a text, and that it reads back the text of a plain step. -/
import Derived.Test.YtjgmgaccmcepdaaGreatDoorReadP
import Derived.Test.YtjgmgaccmcepdaaGreatDoorRead
import Derived.Test.YtjgmgaccmcepdaaGreatDoorStepRow
namespace Go.Proofs.YtjgmgaccmcepdaaGreatDoor
open Go.ChangeAt Go.ChangeShapes Go.RowKit Go.WideShapes

def ow (c : Bool) (x : ByteArray) : List ByteArray := if c then [x] else []
theorem addW_eq (c : Bool) (T : List ByteArray) (x : ByteArray) : addW c T x = T ++ ow c x := by cases c <;> simp [addW, ow]
theorem stW_eq (r a b i j : Int) (f : List Int) : stW r a b i j f = nmB r.toNat :: (ow (decide (0 < ruP r)) (decB a) ++ (ow (decide (1 < ruP r)) (decB b) ++ (ow (ruI r) (decB i) ++ (ow (ruJ r) (decB j) ++ ow (ruF r) (mkB (textL f)))))) := by
  simp [stW, tkW, addW_eq]
theorem jn_nil : jn [] = ⟨#[]⟩ := by simp [jn, Lib.join]
theorem cw_cons {x : ByteArray} {T : List ByteArray} (hx : No32 x) : cwA (jn (x :: T)) = x ∧ cwB (jn (x :: T)) = jn T := by
  cases T with
  | nil => rw [jn_one, jn_nil]; exact cw_one hx
  | cons y T => exact cw_more hx
/-- What is left behind a word that is there or not; its number. -/
def lkW (c : Bool) (q : ByteArray) : ByteArray := if c then cwB q else q
def lkI (c : Bool) (q : ByteArray) (u : Int) : Int := if c then psI (cwA q) else u
theorem lkW_ow {c : Bool} {x : ByteArray} {T : List ByteArray} (hx : c = true → No32 x) : lkW c (jn (ow c x ++ T)) = jn T := by
  cases c
  · rfl
  · exact (cw_cons (hx rfl)).2
theorem lkI_ow {c : Bool} {x u : Int} {T : List ByteArray} (h : idxB c x u = true) : lkI c (jn (ow c (decB x) ++ T)) u = x := by
  cases c
  · simp [idxB] at h; simp [lkI, h]
  · have h' : inR x = true := h
    show psI (cwA (jn (decB x :: T))) = x
    rw [(cw_cons (dec_no32 h')).1, dec_ps h']
theorem idx_no32 {c : Bool} {x u : Int} (h : idxB c x u = true) (hc : c = true) : No32 (decB x) := by subst hc; exact dec_no32 h
def lkQ (k : Nat) (t : ByteArray) : Nat → ByteArray
  | 0 => cwB t
  | 1 => lkW (decide (0 < ruP k)) (cwB t)
  | 2 => lkW (decide (1 < ruP k)) (lkW (decide (0 < ruP k)) (cwB t))
  | 3 => lkW (ruI k) (lkW (decide (1 < ruP k)) (lkW (decide (0 < ruP k)) (cwB t)))
  | _ => lkW (ruJ k) (lkW (ruI k) (lkW (decide (1 < ruP k)) (lkW (decide (0 < ruP k)) (cwB t))))
noncomputable def lkS (t : ByteArray) : Stp :=
  let k := rnm (cwA t)
  ⟨k, lkI (decide (0 < ruP k)) (lkQ k t 0) (-1), lkI (decide (1 < ruP k)) (lkQ k t 1) (-1), lkI (ruI k) (lkQ k t 2) 0, lkI (ruJ k) (lkQ k t 3) 0, if ruF k then rdL (lkQ k t 4) else []⟩
theorem bl_text (q : List Int) : bl (mkB (textL q)) = textL q := by
  unfold bl mkB
  rw [List.map_map]
  refine (List.map_congr_left fun z hz => ?_).trans (List.map_id _)
  have hb := textL_byte q z hz
  show ((UInt8.ofNat z.toNat).toNat : Int) = z
  rw [UInt8.toNat_ofNat']
  omega
theorem rdB_text {q : List Int} (hv : validB q = true) : rdB (mkB (textL q)) = true ∧ rdL (mkB (textL q)) = q := by
  have hb := bl_text q
  have hp := pf_text hv (by have := textL_len q; omega) (nsp_id (fun c hc => by have := textL_byte q c hc; omega))
  have h1 : rdB (mkB (textL q)) = true := rdB_yes (by rw [hb]; exact hp.2) (by rw [hb, hp.1]; simp)
  exact ⟨h1, by rw [rdL_yes h1, hb]; exact hp.1⟩
/-- A plain step's text is read back. -/
theorem lk_back {r a b i j : Int} {f : List Int} (h : plainB r a b i j f = true) : (rnm (cwA (stT r a b i j f)) : Int) = r ∧ lkS (stT r a b i j f) = ⟨r, a, b, i, j, f⟩ := by
  obtain ⟨⟨l1, l2⟩, hf, h0, h1, h2, h3⟩ := plain_parts h
  obtain ⟨k, rfl⟩ : ∃ k : Nat, r = k := ⟨r.toNat, by omega⟩
  have hk : k < 15 := by omega
  have ek : ((k : Int)).toNat = k := by omega
  have e := stW_eq k a b i j f
  rw [ek] at e
  have c0 := cw_cons (T := ow (decide (0 < ruP k)) (decB a) ++ (ow (decide (1 < ruP k)) (decB b) ++ (ow (ruI k) (decB i) ++ (ow (ruJ k) (decB j) ++ ow (ruF k) (mkB (textL f)))))) (nm_no32 hk)
  rw [stT_yes h, e]
  have hn : rnm (cwA (jn (nmB k :: (ow (decide (0 < ruP k)) (decB a) ++ (ow (decide (1 < ruP k)) (decB b) ++ (ow (ruI k) (decB i) ++ (ow (ruJ k) (decB j) ++ ow (ruF k) (mkB (textL f))))))))) = k := by rw [c0.1, rnm_nm hk]
  refine ⟨by rw [hn], ?_⟩
  generalize hT : jn (nmB k :: (ow (decide (0 < ruP k)) (decB a) ++ (ow (decide (1 < ruP k)) (decB b) ++ (ow (ruI k) (decB i) ++ (ow (ruJ k) (decB j) ++ ow (ruF k) (mkB (textL f))))))) = t at *
  have q0 : lkQ k t 0 = jn (ow (decide (0 < ruP k)) (decB a) ++ (ow (decide (1 < ruP k)) (decB b) ++ (ow (ruI k) (decB i) ++ (ow (ruJ k) (decB j) ++ ow (ruF k) (mkB (textL f)))))) := c0.2
  have q1 : lkQ k t 1 = jn (ow (decide (1 < ruP k)) (decB b) ++ (ow (ruI k) (decB i) ++ (ow (ruJ k) (decB j) ++ ow (ruF k) (mkB (textL f))))) := by
    show lkW _ (lkQ k t 0) = _
    rw [q0]; exact lkW_ow (idx_no32 h0)
  have q2 : lkQ k t 2 = jn (ow (ruI k) (decB i) ++ (ow (ruJ k) (decB j) ++ ow (ruF k) (mkB (textL f)))) := by
    show lkW _ (lkQ k t 1) = _
    rw [q1]; exact lkW_ow (idx_no32 h1)
  have q3 : lkQ k t 3 = jn (ow (ruJ k) (decB j) ++ ow (ruF k) (mkB (textL f))) := by
    show lkW _ (lkQ k t 2) = _
    rw [q2]; exact lkW_ow (idx_no32 h2)
  have q4 : lkQ k t 4 = jn (ow (ruF k) (mkB (textL f))) := by
    show lkW _ (lkQ k t 3) = _
    rw [q3]; exact lkW_ow (idx_no32 h3)
  have ef : (if ruF k then rdL (lkQ k t 4) else []) = f := by
    cases hz : ruF (k : Int) with
    | false =>
      unfold plainB at h
      simp only [Bool.and_eq_true] at h
      have hv := h.2.2.1
      unfold fitV at hv
      rw [hz] at hv
      simp only [Bool.and_eq_true, Bool.false_eq_true, if_false, decide_eq_true_eq] at hv
      exact (List.eq_nil_of_length_eq_zero hv.1.1).symm
    | true =>
      rw [q4, hz, if_pos rfl]
      show rdL (jn [mkB (textL f)]) = f
      rw [jn_one]
      exact (rdB_text (hf hz)).2
  unfold lkS
  rw [hn]
  simp only []
  rw [ef, q0, q1, q2, q3, lkI_ow h0, lkI_ow h1, lkI_ow h2, lkI_ow h3]
/-- The plain step whose text this is. -/
noncomputable def rsB (t : ByteArray) : Bool := decide (rnm (cwA t) ≠ 0) && ((stT (lkS t).r (lkS t).a (lkS t).b (lkS t).i (lkS t).j (lkS t).f).toList == t.toList)
end Go.Proofs.YtjgmgaccmcepdaaGreatDoor
