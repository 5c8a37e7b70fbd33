/- Plain mathematics: a formula has a text, and the text with any spaces in it is read as the formula. -/
import Derived.Test.YtfanapddopafiaaDoorParseM
import Derived.Test.YtfanapddopafiaaDoorDepth
namespace Go.Proofs.YtfanapddopafiaaDoor
open Go.RowKit

theorem tx_of {f : List Int} {a e : Nat} {d : Int} (h : Dp f a e d) : ∃ t, Tx f a e t := by
  induction h with
  | leaf h h0 => exact ⟨_, .leaf h h0⟩
  | one h h1 he _ ih => obtain ⟨t, ht⟩ := ih; exact ⟨_, .one h h1 he ht⟩
  | two h h2 he1 he2 _ _ ih1 ih2 => obtain ⟨t1, k1⟩ := ih1; obtain ⟨t2, k2⟩ := ih2; exact ⟨_, .two h h2 he1 he2 k1 k2⟩
theorem tx_ex {f : List Int} (h : validB f = true) : ∃ t, Tx f 0 f.length t := by obtain ⟨d, hd⟩ := dep_ex h; exact tx_of hd
open Classical in
/-- FormText, as bytes. -/
noncomputable def textL (f : List Int) : List Int := if h : validB f = true then (tx_ex h).choose else []
theorem textL_no {f : List Int} (h : validB f = false) : textL f = [] := by unfold textL; rw [dif_neg (by rw [h]; decide)]
theorem textL_yes {f : List Int} (h : validB f = true) : Tx f 0 f.length (textL f) := by unfold textL; rw [dif_pos h]; exact (tx_ex h).choose_spec
theorem textL_len (f : List Int) : (textL f).length ≤ 71 := by
  cases h : validB f with
  | false => rw [textL_no h]; simp
  | true => have := (textL_yes h).bd; have := valid_len h; omega

/-- A byte of a text. -/
theorem sg_byte (x : Int) (h : 0 ≤ arZ x) : ∀ c ∈ sg x, 33 ≤ c ∧ c ≤ 126 := by
  intro c hc
  rcases sym_cases x with ⟨hl, _, hb⟩ | ⟨_, ho, hb⟩ | ⟨_, _, h', _⟩
  · have ho : operB x = false := oper_not.2 (by omega)
    unfold sg at hc
    rw [if_neg (by rw [ho]; decide)] at hc
    split at hc
    · simp only [List.mem_cons, List.not_mem_nil, or_false] at hc
      omega
    · simp only [List.mem_cons, List.not_mem_nil, or_false] at hc
      omega
  · have := oper_iff.1 ho
    rw [sg_one ho] at hc
    have : x = 11 ∨ x = 12 ∨ x = 13 ∨ x = 14 ∨ x = 15 ∨ x = 16 ∨ x = 17 ∨ x = 18 := by omega
    rcases this with rfl | rfl | rfl | rfl | rfl | rfl | rfl | rfl <;> (simp [opTab] at hc; omega)
  · omega
theorem Tx.byte {f : List Int} {a e : Nat} {t : List Int} (h : Tx f a e t) : ∀ c ∈ t, 33 ≤ c ∧ c ≤ 126 := by
  induction h with
  | leaf _ h0 => exact sg_byte _ (by omega)
  | one _ h1 _ _ ih =>
    intro c hc
    rcases List.mem_append.1 hc with hc | hc
    · exact sg_byte _ (by omega) c hc
    · exact ih c hc
  | two _ h2 _ _ _ _ ih1 ih2 =>
    intro c hc
    simp only [List.mem_cons, List.mem_append, List.not_mem_nil, or_false] at hc
    rcases hc with rfl | ((hc | hc) | hc) | rfl
    · omega
    · exact ih1 c hc
    · exact sg_byte _ (by omega) c hc
    · exact ih2 c hc
    · omega
theorem textL_byte (f : List Int) : ∀ c ∈ textL f, 33 ≤ c ∧ c ≤ 126 := by
  cases h : validB f with
  | false => rw [textL_no h]; simp
  | true => exact (textL_yes h).byte

/-- The bytes that are no spaces. -/
def nsp (xs : List Int) : List Int := xs.filter fun c => decide (c ≠ 32)
theorem nsp_sp (xs : List Int) : nsp (32 :: xs) = nsp xs := by simp [nsp]
theorem nsp_no {c : Int} (xs : List Int) (h : c ≠ 32) : nsp (c :: xs) = c :: nsp xs := by simp [nsp, h]
theorem nsp_id {xs : List Int} (h : ∀ c ∈ xs, c ≠ 32) : nsp xs = xs := by
  unfold nsp; exact List.filter_eq_self.2 fun c hc => by simpa using h c hc
theorem nsp_head : ∀ {xs : List Int} {c : Int} {T : List Int}, nsp xs = c :: T → ∃ r, skS xs = c :: r ∧ nsp r = T ∧ r.length < xs.length
  | [], _, _, h => by simp [nsp] at h
  | d :: xs, c, T, h => by
    by_cases hd : d = 32
    · subst hd
      rw [nsp_sp] at h
      obtain ⟨r, h1, h2, h3⟩ := nsp_head h
      exact ⟨r, by rw [skS_sp]; exact h1, h2, by simp only [List.length_cons]; omega⟩
    · rw [nsp_no _ hd] at h
      injection h with h1 h2
      subst h1
      exact ⟨xs, skS_no _ hd, h2, by simp⟩
theorem nsp_nil : ∀ {xs : List Int}, nsp xs = [] → skS xs = []
  | [], _ => rfl
  | d :: xs, h => by
    by_cases hd : d = 32
    · subst hd; rw [nsp_sp] at h; rw [skS_sp]; exact nsp_nil h
    · rw [nsp_no _ hd] at h; cases h

/-- The part of a list from a to e. -/
def seg (f : List Int) (a e : Nat) : List Int := (f.drop a).take (e - a)
theorem seg_cons {f : List Int} {a e : Nat} (h : a < f.length) (h' : a < e) : seg f a e = f.getD a 0 :: seg f (a + 1) e := by
  unfold seg
  rw [drop_cons h]
  obtain ⟨k, hk⟩ : ∃ k, e - a = k + 1 := ⟨e - a - 1, by omega⟩
  rw [hk, List.take_succ_cons, show e - (a + 1) = k by omega]
theorem seg_nil (f : List Int) (a : Nat) : seg f a a = [] := by simp [seg]
theorem seg_app {f : List Int} {a b c : Nat} (h : a ≤ b) (h' : b ≤ c) : seg f a b ++ seg f b c = seg f a c := by
  unfold seg
  have e : c - a = (b - a) + (c - b) := by omega
  rw [e, List.take_add, List.drop_drop, show a + (b - a) = b by omega]
theorem seg_all (f : List Int) : seg f 0 f.length = f := by simp [seg]

theorem pz_sk {n : Nat} {xs r : List Int} {c : Int} (h : skS xs = c :: r) : pz (n + 1) xs =
    if c = 126 then (match pz n r with
        | .ok f r' => .ok (f.map duZ) r'
        | .no r' => .no r')
      else if c = 33 ∨ c = 63 then (match pz n r with
        | .ok f r' => .ok ((if c = 33 then 17 else 18) :: f) r'
        | .no r' => .no r')
      else if 65 ≤ c ∧ c ≤ 72 then .ok [c - 64] r
      else if c = 49 then .ok [13] r
      else if c = 95 then .ok [14] r
      else if c = 40 then (match pz n r with
        | .no r' => .no r'
        | .ok a r1 => match opP r1 with
          | .no r' => .no r'
          | .ok op r2 => match pz n r2 with
            | .no r' => .no r'
            | .ok b r3 => endP (op.getD 0 0) a b r3)
      else .no (c :: r) := by
  rw [pz, h]
  rfl

theorem pz_not {n : Nat} {xs r : List Int} (h : skS xs = 126 :: r) : pz (n + 1) xs = (match pz n r with
        | .ok f r' => .ok (f.map duZ) r'
        | .no r' => .no r') := by rw [pz_sk h, if_pos rfl]
theorem pz_atom {n : Nat} {xs r : List Int} {c : Int} (h : skS xs = c :: r) (h1 : 65 ≤ c) (h2 : c ≤ 72) : pz (n + 1) xs = .ok [c - 64] r := by
  rw [pz_sk h, if_neg (by omega), if_neg (by omega), if_pos (by omega)]
theorem pz_exp {n : Nat} {xs r : List Int} {c : Int} (h : skS xs = c :: r) (h1 : c = 33 ∨ c = 63) : pz (n + 1) xs = (match pz n r with
        | .ok f r' => .ok ((if c = 33 then 17 else 18) :: f) r'
        | .no r' => .no r') := by rw [pz_sk h, if_neg (by omega), if_pos h1]
theorem pz_par {n : Nat} {xs r : List Int} (h : skS xs = 40 :: r) : pz (n + 1) xs = (match pz n r with
        | .no r' => .no r'
        | .ok a r1 => match opP r1 with
          | .no r' => .no r'
          | .ok op r2 => match pz n r2 with
            | .no r' => .no r'
            | .ok b r3 => endP (op.getD 0 0) a b r3) := by
  rw [pz_sk h, if_neg (by omega), if_neg (by omega), if_neg (by omega), if_neg (by omega), if_neg (by omega), if_pos rfl]

theorem opP_sk {xs r : List Int} {c op : Int} (h : skS xs = c :: r) (ho : c = 42 ∧ op = 11 ∨ c = 124 ∧ op = 12 ∨ c = 43 ∧ op = 15 ∨ c = 38 ∧ op = 16) : opP xs = .ok [op] r := by
  unfold opP
  rw [h]
  rcases ho with ⟨rfl, rfl⟩ | ⟨rfl, rfl⟩ | ⟨rfl, rfl⟩ | ⟨rfl, rfl⟩ <;> rfl

theorem pz_leaf {x : Int} (h0 : arZ x = 0) (n : Nat) (xs R : List Int) (hn : xs.length < n) (hx : nsp xs = sg x ++ R) : ∃ r, pz n xs = .ok [x] r ∧ nsp r = R := by
  obtain ⟨m, rfl⟩ : ∃ m, n = m + 1 := ⟨n - 1, by omega⟩
  rcases sym_cases x with ⟨hl, _, hb⟩ | ⟨_, ho, hb⟩ | ⟨_, _, h', _⟩
  · have ho : operB x = false := oper_not.2 (by omega)
    unfold sg at hx
    rw [if_neg (by rw [ho]; decide)] at hx
    by_cases hneg : x < 0
    · rw [if_pos hneg] at hx
      obtain ⟨r, h1, h2, h3⟩ := nsp_head hx
      obtain ⟨r2, k1, k2, k3⟩ := nsp_head h2
      obtain ⟨m', rfl⟩ : ∃ m', m = m' + 1 := ⟨m - 1, by omega⟩
      refine ⟨r2, ?_, k2⟩
      rw [pz_not h1, pz_atom k1 (by omega) (by omega)]
      have hd : leafB (64 - x - 64) = true := leaf_iff.2 (by omega)
      simp only [List.map_cons, List.map_nil]
      rw [duZ_leaf hd]
      congr 2
      omega
    · rw [if_neg hneg] at hx
      obtain ⟨r, h1, h2, h3⟩ := nsp_head hx
      refine ⟨r, ?_, h2⟩
      rw [pz_atom h1 (by omega) (by omega)]
      congr 2
      omega
  · rw [sg_one ho] at hx
    obtain ⟨r, h1, h2, h3⟩ := nsp_head hx
    have : x = 13 ∨ x = 14 := by omega
    refine ⟨r, ?_, h2⟩
    rcases this with rfl | rfl
    · rw [pz_sk h1]; rfl
    · rw [pz_sk h1]; rfl
  · omega

/-- A text with spaces anywhere in it is read as its formula. -/
theorem pz_tx {f : List Int} {a e : Nat} {t : List Int} (h : Tx f a e t) : ∀ (n : Nat) (xs R : List Int), xs.length < n → nsp xs = t ++ R → ∃ r, pz n xs = .ok (seg f a e) r ∧ nsp r = R := by
  induction h with
  | @leaf a ha h0 =>
    intro n xs R hn hx
    rw [seg_cons ha (by omega), seg_nil]
    exact pz_leaf h0 n xs R hn hx
  | @one a e t ha h1 he ht ih =>
    intro n xs R hn hx
    obtain ⟨m, rfl⟩ : ∃ m, n = m + 1 := ⟨n - 1, by omega⟩
    have hbd := ht.bd
    rw [seg_cons ha (by omega)]
    rw [sg_one (oper_pos (by omega)), List.append_assoc] at hx
    obtain ⟨r, k1, k2, k3⟩ := nsp_head hx
    rcases sym_cases (f.getD a 0) with ⟨_, h', _⟩ | ⟨_, _, hb⟩ | ⟨_, _, h', _⟩
    · omega
    · obtain ⟨r', q1, q2⟩ := ih m r R (by omega) k2
      have hx2 : f.getD a 0 = 17 ∨ f.getD a 0 = 18 := by omega
      refine ⟨r', ?_, q2⟩
      rcases hx2 with hx2 | hx2 <;> rw [hx2] at k1 ⊢
      · rw [pz_exp k1 (by decide), q1]; rfl
      · rw [pz_exp k1 (by decide), q1]; rfl
    · omega
  | @two a e1 e t1 t2 ha h2 he1 he2 ht1 ht2 ih1 ih2 =>
    intro n xs R hn hx
    obtain ⟨m, rfl⟩ : ∃ m, n = m + 1 := ⟨n - 1, by omega⟩
    have hb1 := ht1.bd
    have hb2 := ht2.bd
    rw [seg_cons ha (by omega), ← seg_app (show a + 1 ≤ e1 by omega) (show e1 ≤ e by omega)]
    rw [sg_one (oper_pos (by omega))] at hx
    simp only [List.append_assoc, List.cons_append, List.nil_append] at hx
    obtain ⟨r, k1, k2, k3⟩ := nsp_head hx
    obtain ⟨r1, q1, q2⟩ := ih1 m r _ (by omega) k2
    obtain ⟨r2, p1, p2, p3⟩ := nsp_head q2
    have l1 : r1.length < m := by
      rcases pz_suf m r with ⟨f', r', e', _, hl, _⟩ | ⟨r', e', _⟩
      · rw [q1] at e'; cases e'; omega
      · rw [q1] at e'; cases e'
    obtain ⟨r3, s1, s2⟩ := ih2 m r2 _ (by omega) p2
    obtain ⟨r4, u1, u2, u3⟩ := nsp_head s2
    refine ⟨r4, ?_, u2⟩
    rw [pz_par k1, q1]
    have hend : ∀ op : Int, (op = 11 ∨ op = 12 ∨ op = 15 ∨ op = 16) → endP op (seg f (a + 1) e1) (seg f e1 e) r3 = .ok (op :: (seg f (a + 1) e1 ++ seg f e1 e)) r4 := by
      intro op ho
      unfold endP
      rw [u1]
      simp only [putP]
      rw [if_neg (by omega)]
    rcases sym_cases (f.getD a 0) with ⟨_, h', _⟩ | ⟨_, _, hb⟩ | ⟨_, _, h', _⟩
    · omega
    · have hx2 : f.getD a 0 = 11 ∨ f.getD a 0 = 12 ∨ f.getD a 0 = 15 ∨ f.getD a 0 = 16 := by omega
      have ho : opP r1 = .ok [f.getD a 0] r2 := by
        refine opP_sk p1 ?_
        rcases hx2 with hx2 | hx2 | hx2 | hx2 <;> rw [hx2] <;> decide
      simp only [ho, s1]
      exact hend _ hx2
    · omega

/-- .. the whole text. -/
theorem pf_text {f L : List Int} (hv : validB f = true) (hL : L.length ≤ 200) (h : nsp L = textL f) : pfL L = f ∧ pfZ L = -1 := by
  obtain ⟨r, h1, h2⟩ := pz_tx (textL_yes hv) (L.length + 1) L [] (by omega) (by rw [h, List.append_nil])
  rw [seg_all] at h1
  have h3 := nsp_nil h2
  have hl := (valid_len hv).2.1
  unfold pfL pfZ
  rw [if_pos hL, if_pos hL, h1]
  simp only [h3]
  rw [if_pos hl, if_pos hl]
  exact ⟨rfl, rfl⟩

/-- .. and with '~' ahead of it. -/
theorem pf_not {f L : List Int} (hv : validB f = true) (hL : L.length ≤ 198) (h : nsp L = textL f) : pfL (32 :: 126 :: L) = f.map duZ ∧ pfZ (32 :: 126 :: L) = -1 := by
  obtain ⟨r, h1, h2⟩ := pz_tx (textL_yes hv) (L.length + 2) L [] (by omega) (by rw [h, List.append_nil])
  rw [seg_all] at h1
  have h3 := nsp_nil h2
  have hl := (valid_len hv).2.1
  have hs : skS (32 :: 126 :: L) = 126 :: L := by rw [skS_sp, skS_no _ (by decide)]
  have hp : pz ((32 :: 126 :: L).length + 1) (32 :: 126 :: L) = .ok (f.map duZ) r := by
    simp only [List.length_cons]
    rw [pz_not hs, h1]
  have hk : (32 :: 126 :: L).length ≤ 200 := by simp only [List.length_cons]; omega
  have hl2 : (f.map duZ).length ≤ 24 := by rw [List.length_map]; exact hl
  unfold pfL pfZ
  rw [if_pos hk, if_pos hk, hp]
  simp only [h3]
  rw [if_pos hl2, if_pos hl2]
  exact ⟨rfl, rfl⟩

/-- The arrow between two texts. -/
theorem pf_arrow {a b : List Int} (ha : validB a = true) (hb : validB b = true) (hl : a.length + b.length < 24) :
    pfL (40 :: (textL a ++ 45 :: 62 :: (textL b ++ [41]))) = 12 :: (a.map duZ ++ b) ∧ pfZ (40 :: (textL a ++ 45 :: 62 :: (textL b ++ [41]))) = -1 := by
  have la := textL_len a
  have lb := textL_len b
  have hno : ∀ c ∈ textL a ++ 45 :: 62 :: (textL b ++ [41]), c ≠ 32 := by
    intro c hc
    simp only [List.mem_append, List.mem_cons, List.not_mem_nil, or_false] at hc
    rcases hc with hc | rfl | rfl | hc | rfl
    · have := textL_byte a c hc; omega
    · omega
    · omega
    · have := textL_byte b c hc; omega
    · omega
  generalize hN : (40 :: (textL a ++ 45 :: 62 :: (textL b ++ [41]))).length = N
  simp only [List.length_cons, List.length_append, List.length_nil] at hN
  have hs : skS (40 :: (textL a ++ 45 :: 62 :: (textL b ++ [41]))) = 40 :: (textL a ++ 45 :: 62 :: (textL b ++ [41])) := skS_no _ (by decide)
  obtain ⟨r, h1, h2⟩ := pz_tx (textL_yes ha) N (textL a ++ 45 :: 62 :: (textL b ++ [41])) (45 :: 62 :: (textL b ++ [41])) (by simp only [List.length_cons, List.length_append, List.length_nil]; omega) (nsp_id hno)
  have hsuf : r <:+ textL a ++ 45 :: 62 :: (textL b ++ [41]) := by
    rcases pz_suf N (textL a ++ 45 :: 62 :: (textL b ++ [41])) with ⟨f', r', e', _, _, hs', _⟩ | ⟨r', e', _⟩
    · rw [h1] at e'; cases e'; exact hs'
    · rw [h1] at e'; cases e'
  have hr : r = 45 :: 62 :: (textL b ++ [41]) := by
    rw [← h2]; exact (nsp_id fun c hc => hno c (hsuf.subset hc)).symm
  subst hr
  have ho : opP (45 :: 62 :: (textL b ++ [41])) = .ok [-1] (textL b ++ [41]) := by
    unfold opP
    rw [skS_no _ (by decide)]
    rfl
  have hnob : ∀ c ∈ textL b ++ [41], c ≠ 32 := fun c hc => hno c (by
    simp only [List.mem_append, List.mem_cons]; exact .inr (.inr (.inr (by simpa using hc))))
  obtain ⟨r3, k1, k2⟩ := pz_tx (textL_yes hb) N (textL b ++ [41]) [41] (by simp only [List.length_cons, List.length_append, List.length_nil]; omega) (nsp_id hnob)
  obtain ⟨r4, p1, p2, _⟩ := nsp_head k2
  have hp : pz (N + 1) (40 :: (textL a ++ 45 :: 62 :: (textL b ++ [41]))) = .ok (12 :: (a.map duZ ++ b)) r4 := by
    rw [pz_par hs, h1]
    simp only [ho, k1]
    unfold endP
    rw [p1, seg_all, seg_all]
    rfl
  have h3 := nsp_nil p2
  have hk : (40 :: (textL a ++ 45 :: 62 :: (textL b ++ [41]))).length ≤ 200 := by simp only [List.length_cons, List.length_append, List.length_nil]; omega
  have hN2 : (40 :: (textL a ++ 45 :: 62 :: (textL b ++ [41]))).length = N := by simp only [List.length_cons, List.length_append, List.length_nil]; omega
  have hl2 : (12 :: (a.map duZ ++ b)).length ≤ 24 := by simp only [List.length_cons, List.length_append, List.length_map]; omega
  unfold pfL pfZ
  rw [if_pos hk, if_pos hk, hN2, hp]
  simp only [h3]
  rw [if_pos hl2, if_pos hl2]
  exact ⟨rfl, rfl⟩
end Go.Proofs.YtfanapddopafiaaDoor
