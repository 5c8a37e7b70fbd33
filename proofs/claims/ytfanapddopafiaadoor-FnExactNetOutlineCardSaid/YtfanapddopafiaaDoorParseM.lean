/- Plain mathematics of the liberal notation: how a text is read, as lists of bytes. -/
import Derived.Test.YtfanapddopafiaaDoorQDual
namespace Go.Proofs.YtfanapddopafiaaDoor
open Go.RowKit

/-- The text behind its first spaces. -/
def skS : List Int → List Int
  | [] => []
  | c :: r => if c = 32 then skS r else c :: r
theorem skS_sp (r : List Int) : skS (32 :: r) = skS r := by simp [skS]
theorem skS_no {c : Int} (r : List Int) (h : c ≠ 32) : skS (c :: r) = c :: r := by simp [skS, h]
theorem skS_suf : ∀ xs : List Int, skS xs <:+ xs
  | [] => List.suffix_refl _
  | c :: r => by
    unfold skS
    split
    · exact (skS_suf r).trans (List.suffix_cons c r)
    · exact List.suffix_refl _
theorem skS_head {xs r : List Int} {c : Int} (h : skS xs = c :: r) : c ≠ 32 := by
  induction xs with
  | nil => simp [skS] at h
  | cons d xs ih =>
    unfold skS at h
    split at h
    · exact ih h
    · cases h; assumption
theorem skS_id {c : Int} (r : List Int) (h : c ≠ 32) : skS (c :: r) = c :: r := skS_no r h

/-- What reading leaves: symbols and the rest, or the rest at which it stops. -/
inductive PR where
  | ok (f r : List Int)
  | no (r : List Int)

/-- The operator of two operands: -1 the arrow. -/
def opP (xs : List Int) : PR :=
  match skS xs with
  | [] => .no []
  | c :: r =>
    if c = 42 then .ok [11] r
    else if c = 124 then .ok [12] r
    else if c = 43 then .ok [15] r
    else if c = 38 then .ok [16] r
    else if c = 45 then (match r with
      | 62 :: r' => .ok [-1] r'
      | r => .no r)
    else .no (c :: r)

/-- The two operands put together. -/
def putP (op : Int) (a b : List Int) : List Int := if op < 0 then 12 :: (a.map duZ ++ b) else op :: (a ++ b)

/-- Behind the second operand. -/
def endP (op : Int) (a b r : List Int) : PR :=
  match skS r with
  | 41 :: r' => .ok (putP op a b) r'
  | r => .no r

/-- A formula; n bounds the calls. -/
def pz : Nat → List Int → PR
  | 0, _ => .no []
  | n + 1, xs =>
    match skS xs with
    | [] => .no []
    | c :: r =>
      if c = 126 then (match pz n r with
        | .ok f r' => .ok (f.map duZ) r'
        | .no r' => .no r')
      else if c = 33 ∨ c = 63 then (match pz n r with
        | .ok f r' => .ok ((if c = 33 then 17 else 18) :: f) r'
        | .no r' => .no r')
      else if 65 ≤ c ∧ c ≤ 72 then .ok [c - 64] r
      else if c = 49 then .ok [13] r
      else if c = 95 then .ok [14] r
      else if c = 40 then (match pz n r with
        | .no r' => .no r'
        | .ok a r1 => match opP r1 with
          | .no r' => .no r'
          | .ok op r2 => match pz n r2 with
            | .no r' => .no r'
            | .ok b r3 => endP (op.getD 0 0) a b r3)
      else .no (c :: r)

/-- ParseForm: the symbols, and -1 or the index. -/
def pfL (L : List Int) : List Int := if L.length ≤ 200 then (match pz (L.length + 1) L with
    | .ok f r => (match skS r with
      | [] => if f.length ≤ 24 then f else []
      | _ => [])
    | .no _ => []) else []
def pfZ (L : List Int) : Int := if L.length ≤ 200 then (match pz (L.length + 1) L with
    | .ok f r => (match skS r with
      | [] => if f.length ≤ 24 then -1 else L.length
      | r' => L.length - r'.length)
    | .no r => L.length - r.length) else 0

theorem opP_suf (xs : List Int) : (∃ op r, opP xs = .ok [op] r ∧ r.length + 1 ≤ xs.length ∧ r <:+ xs ∧ (op = -1 ∨ op = 11 ∨ op = 12 ∨ op = 15 ∨ op = 16)) ∨ (∃ r, opP xs = .no r ∧ r <:+ xs) := by
  have hs := skS_suf xs
  unfold opP
  split
  · exact .inr ⟨[], rfl, List.nil_suffix⟩
  · rename_i c r hc
    rw [hc] at hs
    have hl := hs.length_le
    simp only [List.length_cons] at hl
    have hr := (List.suffix_cons c r).trans hs
    split
    · exact .inl ⟨11, r, rfl, hl, hr, by omega⟩
    split
    · exact .inl ⟨12, r, rfl, hl, hr, by omega⟩
    split
    · exact .inl ⟨15, r, rfl, hl, hr, by omega⟩
    split
    · exact .inl ⟨16, r, rfl, hl, hr, by omega⟩
    split
    · split
      · rename_i r'
        refine .inl ⟨-1, r', rfl, ?_, (List.suffix_cons _ r').trans hr, by omega⟩
        simp only [List.length_cons] at hl; omega
      · exact .inr ⟨r, rfl, hr⟩
    · exact .inr ⟨c :: r, rfl, hs⟩

theorem endP_suf (op : Int) (a b xs : List Int) : (∃ r, endP op a b xs = .ok (putP op a b) r ∧ r.length + 1 ≤ xs.length ∧ r <:+ xs) ∨ (∃ r, endP op a b xs = .no r ∧ r <:+ xs) := by
  have hs := skS_suf xs
  unfold endP
  split
  · rename_i r hc
    rw [hc] at hs
    have hl := hs.length_le
    simp only [List.length_cons] at hl
    exact .inl ⟨r, rfl, hl, (List.suffix_cons _ r).trans hs⟩
  · exact .inr ⟨skS xs, rfl, hs⟩

theorem sym_du {x : Int} (h : symB x) : symB (duZ x) := by
  rcases h with h | ⟨_, h⟩
  · left; rw [duZ_leaf h]; have := leaf_iff.1 h; exact leaf_iff.2 (by omega)
  · have := oper_iff.1 h
    have : x = 11 ∨ x = 12 ∨ x = 13 ∨ x = 14 ∨ x = 15 ∨ x = 16 ∨ x = 17 ∨ x = 18 := by omega
    rcases this with rfl | rfl | rfl | rfl | rfl | rfl | rfl | rfl <;> (right; decide)
theorem putP_len (op : Int) (a b : List Int) : (putP op a b).length = 1 + a.length + b.length := by
  unfold putP; split <;> simp <;> omega
theorem putP_sym {op : Int} {a b : List Int} (ho : op = -1 ∨ op = 11 ∨ op = 12 ∨ op = 15 ∨ op = 16) (ha : ∀ x ∈ a, symB x) (hb : ∀ x ∈ b, symB x) : ∀ x ∈ putP op a b, symB x := by
  intro x hx
  unfold putP at hx
  split at hx
  · simp only [List.mem_cons, List.mem_append, List.mem_map] at hx
    rcases hx with rfl | ⟨y, hy, rfl⟩ | hx
    · right; decide
    · exact sym_du (ha y hy)
    · exact hb x hx
  · simp only [List.mem_cons, List.mem_append] at hx
    rcases hx with rfl | hx | hx
    · rcases ho with rfl | rfl | rfl | rfl | rfl
      · contradiction
      all_goals (right; decide)
    · exact ha x hx
    · exact hb x hx

/-- What a reading is: the rest is a rest of the text; no more symbols than bytes; all of them symbols. -/
theorem pz_suf : ∀ (n : Nat) (xs : List Int), (∃ f r, pz n xs = .ok f r ∧ 1 ≤ f.length ∧ f.length + r.length ≤ xs.length ∧ r <:+ xs ∧ ∀ x ∈ f, symB x) ∨ (∃ r, pz n xs = .no r ∧ r <:+ xs) := by
  intro n
  induction n with
  | zero => exact fun xs => .inr ⟨[], rfl, List.nil_suffix⟩
  | succ n ih =>
    intro xs
    have hs := skS_suf xs
    unfold pz
    split
    · exact .inr ⟨[], rfl, List.nil_suffix⟩
    · rename_i c r hc
      rw [hc] at hs
      have hl := hs.length_le
      simp only [List.length_cons] at hl
      have hr := (List.suffix_cons c r).trans hs
      split
      · rcases ih r with ⟨f, r', e, h1, h2, h3, h4⟩ | ⟨r', e, h3⟩ <;> rw [e]
        · exact .inl ⟨_, _, rfl, by simpa using h1, by simp; omega, h3.trans hr, fun x hx => by
            obtain ⟨y, hy, rfl⟩ := List.mem_map.1 hx
            exact sym_du (h4 y hy)⟩
        · exact .inr ⟨_, rfl, h3.trans hr⟩
      split
      · rcases ih r with ⟨f, r', e, h1, h2, h3, h4⟩ | ⟨r', e, h3⟩ <;> rw [e]
        · refine .inl ⟨_, _, rfl, by simp, by simp; omega, h3.trans hr, fun x hx => ?_⟩
          rcases List.mem_cons.1 hx with rfl | hx
          · split <;> (right; decide)
          · exact h4 x hx
        · exact .inr ⟨_, rfl, h3.trans hr⟩
      split
      · refine .inl ⟨_, _, rfl, by simp, by simp; omega, hr, fun x hx => ?_⟩
        obtain rfl := List.mem_singleton.1 hx
        left; exact leaf_iff.2 (by omega)
      split
      · refine .inl ⟨_, _, rfl, by simp, by simp; omega, hr, fun x hx => ?_⟩
        obtain rfl := List.mem_singleton.1 hx
        right; decide
      split
      · refine .inl ⟨_, _, rfl, by simp, by simp; omega, hr, fun x hx => ?_⟩
        obtain rfl := List.mem_singleton.1 hx
        right; decide
      split
      · rcases ih r with ⟨a, r1, e, h1, h2, h3, h4⟩ | ⟨r', e, h3⟩ <;> rw [e]
        · rcases opP_suf r1 with ⟨op, r2, e2, l2, s2, ho⟩ | ⟨r', e2, s2⟩ <;> simp only [e2]
          · rcases ih r2 with ⟨b, r3, e3, k1, k2, k3, k4⟩ | ⟨r', e3, k3⟩ <;> rw [e3]
            · rcases endP_suf op a b r3 with ⟨r4, e4, l4, s4⟩ | ⟨r4, e4, s4⟩
              · refine .inl ⟨_, r4, e4, ?_, ?_, ((s4.trans k3).trans s2).trans (h3.trans hr), putP_sym ho h4 k4⟩
                · rw [putP_len]; omega
                · rw [putP_len]; omega
              · exact .inr ⟨r4, e4, ((s4.trans k3).trans s2).trans (h3.trans hr)⟩
            · exact .inr ⟨_, rfl, (k3.trans s2).trans (h3.trans hr)⟩
          · exact .inr ⟨_, rfl, s2.trans (h3.trans hr)⟩
        · exact .inr ⟨_, rfl, h3.trans hr⟩
      · exact .inr ⟨_, rfl, hs⟩

/-- The sign of a symbol. -/
def opTab : List Int := [42, 124, 49, 95, 43, 38, 33, 63]
def sg (x : Int) : List Int := if operB x then [opTab.getD (x - 11).toNat 0] else if x < 0 then [126, 64 - x] else [64 + x]

/-- In the list f a formula begins at a, ends before e, and has the text t. -/
inductive Tx (f : List Int) : Nat → Nat → List Int → Prop
  | leaf {a : Nat} : a < f.length → arZ (f.getD a 0) = 0 → Tx f a (a + 1) (sg (f.getD a 0))
  | one {a e : Nat} {t : List Int} : a < f.length → arZ (f.getD a 0) = 1 → fe f ((a + 1 : Nat) : Int) = e → Tx f (a + 1) e t → Tx f a e (sg (f.getD a 0) ++ t)
  | two {a e1 e : Nat} {t1 t2 : List Int} : a < f.length → arZ (f.getD a 0) = 2 → fe f ((a + 1 : Nat) : Int) = e1 → fe f (e1 : Int) = e → Tx f (a + 1) e1 t1 → Tx f e1 e t2 → Tx f a e (40 :: (t1 ++ sg (f.getD a 0) ++ t2 ++ [41]))

theorem sg_len (x : Int) : 1 ≤ (sg x).length ∧ (sg x).length ≤ 2 := by unfold sg; split <;> (try split) <;> simp
theorem sg_one {x : Int} (h : operB x = true) : sg x = [opTab.getD (x - 11).toNat 0] := by simp [sg, h]
theorem oper_pos {x : Int} (h : 1 ≤ arZ x) : operB x = true := by
  rcases sym_cases x with ⟨_, h', _⟩ | ⟨_, h', _⟩ | ⟨_, _, h', _⟩
  · omega
  · exact h'
  · omega
theorem Tx.bd {f : List Int} {a e : Nat} {t : List Int} (h : Tx f a e t) : a < e ∧ e ≤ f.length ∧ 1 ≤ t.length ∧ t.length + 1 ≤ 3 * (e - a) := by
  induction h with
  | @leaf a h _ => have := sg_len (f.getD a 0); omega
  | @one a e t h h1 _ _ ih =>
    rw [sg_one (oper_pos (by omega))]
    simp only [List.length_append, List.length_cons, List.length_nil]
    omega
  | @two a e1 e t1 t2 h h1 _ _ _ _ ih1 ih2 =>
    rw [sg_one (oper_pos (by omega))]
    simp only [List.length_append, List.length_cons, List.length_nil]
    omega
end Go.Proofs.YtfanapddopafiaaDoor
