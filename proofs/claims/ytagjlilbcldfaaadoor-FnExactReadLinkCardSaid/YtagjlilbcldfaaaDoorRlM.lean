/- Mathematics: a link's line is read back. -/
import Derived.Test.YtagjlilbcldfaaaDoorLtB
import Derived.Test.YtagjlilbcldfaaaDoorQReadA
import Derived.Test.YtagjlilbcldfaaaDoorReadP
import Derived.Test.YtagjlilbcldfaaaDoorBaseD
namespace Go.Proofs.YtagjlilbcldfaaaDoor
open Go.ChangeAt Go.ChangeShapes Go.RowKit Go.WideShapes

/-- The kind whose word this is, or 0. -/
def kn (t : ByteArray) : Nat := ((List.range 5).find? fun k => (lwB k).toList == t.toList).getD 0
theorem kn_at {t : ByteArray} {k : Nat} (hk : k < 5) (h : ((lwB k).toList == t.toList) = true) (hm : ∀ m, m < k → ((lwB m).toList == t.toList) = false) : kn t = k := by
  have e : (List.range 5).find? (fun k => (lwB k).toList == t.toList) = some k := List.find?_range_eq_some.2 ⟨h, List.mem_range.2 hk, fun j hj => by rw [hm j hj]; rfl⟩
  unfold kn
  rw [e]; rfl
theorem kn_none {t : ByteArray} (hm : ∀ m, m < 5 → ((lwB m).toList == t.toList) = false) : kn t = 0 := by
  have e : (List.range 5).find? (fun k => (lwB k).toList == t.toList) = none := List.find?_range_eq_none.2 fun j hj => by rw [hm j hj]; rfl
  unfold kn
  rw [e]; rfl
theorem kn_is {t : ByteArray} (h : kn t ≠ 0) : kn t < 5 ∧ ((lwB (kn t)).toList == t.toList) = true := by
  unfold kn at h ⊢
  cases hf : (List.range 5).find? fun k => (lwB k).toList == t.toList with
  | none => rw [hf] at h; exact absurd rfl h
  | some k =>
    have h2 : ((lwB k).toList == t.toList) = true := List.find?_some (p := fun k => (lwB k).toList == t.toList) hf
    exact ⟨List.mem_range.1 (List.mem_of_find?_eq_some hf), h2⟩
theorem kn_lt (t : ByteArray) : kn t < 5 := by
  by_cases h : kn t = 0
  · omega
  · exact (kn_is h).1
theorem lw_all : ∀ k : Fin 5, (32 : UInt8) ∉ lwTab.getD k.1 [] := by decide
theorem lw_no32 {k : Nat} (h : k < 5) : No32 (lwB k) := lw_all ⟨k, h⟩
theorem lw_apart : ∀ k : Fin 5, ∀ m : Fin 5, m.1 < k.1 → (lwTab.getD m.1 [] == lwTab.getD k.1 []) = false := by decide
theorem lw_list (k : Nat) : (lwB k).toList = lwTab.getD k [] := by rw [ByteArray.toList_eq]; rfl
theorem kn_lw {k : Nat} (h : k < 5) : kn (lwB k) = k :=
  kn_at h (by simp) fun m hm => by rw [lw_list, lw_list]; exact lw_apart ⟨k, h⟩ ⟨m, by omega⟩ hm
theorem lw_ne : ∀ k : Fin 5, 1 ≤ k.1 → (lwB k.1).size ≠ 0 := by decide
theorem decN_cases {x : Int} (h : inM x = true) : (∃ k : Fin 10, decN x = ⟨#[UInt8.ofNat (48 + k.1)]⟩ ∧ x = (k.1 : Int)) ∨ ∃ k : Fin 38, decN x = ⟨#[UInt8.ofNat (48 + (k.1 + 10) / 10), UInt8.ofNat (48 + (k.1 + 10) % 10)]⟩ ∧ x = ((k.1 + 10 : Nat) : Int) := by
  obtain ⟨h0, h1⟩ := inM_yes h
  obtain ⟨k, rfl⟩ : ∃ k : Nat, x = k := ⟨x.toNat, by omega⟩
  by_cases hk : k < 10
  · exact .inl ⟨⟨k, hk⟩, by unfold decN; rw [Int.toNat_natCast, digN_small hk], rfl⟩
  · have e : k - 10 + 10 = k := by omega
    refine .inr ⟨⟨k - 10, by omega⟩, ?_, by show (k : Int) = ((k - 10 + 10 : Nat) : Int); rw [e]⟩
    unfold decN
    rw [Int.toNat_natCast, digN_two hk (by omega)]
    show _ = (⟨#[UInt8.ofNat (48 + (k - 10 + 10) / 10), UInt8.ofNat (48 + (k - 10 + 10) % 10)]⟩ : ByteArray)
    rw [e]
theorem decN_a : ∀ k : Fin 10, (32 : UInt8) ∉ [UInt8.ofNat (48 + k.1)] := by decide
theorem decN_b : ∀ k : Fin 38, (32 : UInt8) ∉ [UInt8.ofNat (48 + (k.1 + 10) / 10), UInt8.ofNat (48 + (k.1 + 10) % 10)] := by decide
theorem decN_no32 {x : Int} (h : inM x = true) : No32 (decN x) := by
  rcases decN_cases h with ⟨k, e, _⟩ | ⟨k, e, _⟩
  · rw [e]; exact decN_a k
  · rw [e]; exact decN_b k
theorem decN_rda : ∀ k : Fin 10, rdN ⟨#[UInt8.ofNat (48 + k.1)]⟩ = (k.1, true) := by decide
theorem decN_rdb : ∀ k : Fin 38, rdN ⟨#[UInt8.ofNat (48 + (k.1 + 10) / 10), UInt8.ofNat (48 + (k.1 + 10) % 10)]⟩ = (k.1 + 10, true) := by decide
theorem decN_rd {x : Int} (h : inM x = true) : ((rdN (decN x)).1 : Int) = x ∧ (rdN (decN x)).2 = true := by
  rcases decN_cases h with ⟨k, e, hx⟩ | ⟨k, e, hx⟩
  · rw [e, decN_rda k, hx]; exact ⟨rfl, rfl⟩
  · rw [e, decN_rdb k, hx]; exact ⟨rfl, rfl⟩
theorem decN_psa : ∀ k : Fin 10, psI ⟨#[UInt8.ofNat (48 + k.1)]⟩ = (k.1 : Int) := by decide
theorem decN_psb : ∀ k : Fin 38, psI ⟨#[UInt8.ofNat (48 + (k.1 + 10) / 10), UInt8.ofNat (48 + (k.1 + 10) % 10)]⟩ = ((k.1 + 10 : Nat) : Int) := by decide
theorem decN_ps {x : Int} (h : inM x = true) : psI (decN x) = x ∧ (decN x).size ≠ 0 := by
  rcases decN_cases h with ⟨k, e, hx⟩ | ⟨k, e, hx⟩
  · rw [e, decN_psa k, hx]; exact ⟨rfl, Nat.one_ne_zero⟩
  · rw [e, decN_psb k, hx]; exact ⟨rfl, by show 2 ≠ 0; decide⟩
theorem jnN_nil : jn [] = ⟨#[]⟩ := by simp [jn, Lib.join]
theorem jnN_one (x : ByteArray) : jn [x] = x := ba_ext (by simp [jn, Lib.join])
theorem cwN_cons {x : ByteArray} {T : List ByteArray} (hx : No32 x) : cwA (jn (x :: T)) = x ∧ cwB (jn (x :: T)) = jn T := by
  cases T with
  | nil => rw [jnN_one, jnN_nil]; exact cw_one hx
  | cons y T => exact cw_more hx
theorem jnN_size {x : ByteArray} {T : List ByteArray} (hx : x.size ≠ 0) : (jn (x :: T)).size ≠ 0 := by
  have h : x.data.toList.length ≤ (jn (x :: T)).data.toList.length := by
    cases T with
    | nil => rw [jnN_one]; exact Nat.le_refl _
    | cons y T => simp [jn, Lib.join_cons]
  rw [size_list] at hx ⊢
  omega
/-- The numbers that the words of a text can be, at most so many. -/
def nsG : Nat → ByteArray → List Int
  | 0, _ => []
  | m + 1, t => if t.size = 0 then [] else psI (cwA t) :: nsG m (cwB t)
theorem nsG_nil (m : Nat) : nsG m ⟨#[]⟩ = [] := by
  cases m with
  | zero => rfl
  | succ m => rfl
theorem nsG_jn : ∀ (T : List ByteArray) (m : Nat), T.length ≤ m → (∀ x ∈ T, No32 x ∧ x.size ≠ 0) → nsG m (jn T) = T.map psI
  | [], m, _, _ => by rw [jnN_nil]; exact nsG_nil m
  | x :: T, 0, h, _ => absurd h (by simp)
  | x :: T, m + 1, h, hx => by
    obtain ⟨h1, h2⟩ := hx x (by simp)
    unfold nsG
    rw [if_neg (jnN_size h2), (cwN_cons h1).1, (cwN_cons h1).2, nsG_jn T m (by simpa using h) fun y hy => hx y (by simp [hy])]
    rfl
theorem nsG_len : ∀ (m : Nat) (t : ByteArray), (nsG m t).length ≤ m
  | 0, _ => Nat.zero_le _
  | m + 1, t => by
    unfold nsG
    split
    · exact Nat.zero_le _
    · simpa using nsG_len m (cwB t)
/-- The only link whose line this can be. -/
def cd (s : ByteArray) : Lk := ⟨kn (cwA s), (nsG 48 (cwB s)).getD 0 0, (nsG 48 (cwB s)).getD 1 0, (nsG 48 (cwB s)).getD 2 0⟩
noncomputable def rlB (s : ByteArray) : Bool := okL (cd s).k (cd s).a (cd s).b (cd s).c && ((ltT (cd s).k (cd s).a (cd s).b (cd s).c).toList == s.toList)
noncomputable def rlV (s : ByteArray) : Lk := if rlB s = true then cd s else Lk.nil
/-- The words of a link's line. -/
noncomputable def lkT (k a b c : Int) : List ByteArray := lwB k.toNat :: (if k = 1 ∨ k = 2 then [decN a, decN b] else [decN a, decN b, decN c])
theorem jn_two (x y z : ByteArray) : jn [x, y, z] = x ++ (⟨#[32]⟩ ++ y) ++ (⟨#[32]⟩ ++ z) := ba_ext (by simp [jn, Lib.join])
theorem jn_three (x y z u : ByteArray) : jn [x, y, z, u] = x ++ (⟨#[32]⟩ ++ y) ++ (⟨#[32]⟩ ++ z) ++ (⟨#[32]⟩ ++ u) := ba_ext (by simp [jn, Lib.join])
theorem ltT_jn {k a b c : Int} (h : okL k a b c = true) : ltT k a b c = jn (lkT k a b c) := by
  by_cases hk : k = 1 ∨ k = 2
  · rw [ltT_two h hk]; unfold lkT; rw [if_pos hk, jn_two]; rfl
  · rw [ltT_three h hk]; unfold lkT; rw [if_neg hk, jn_three]; rfl
theorem lkT_no32 {k a b c : Int} (h : okL k a b c = true) : ∀ x ∈ lkT k a b c, No32 x ∧ x.size ≠ 0 := by
  obtain ⟨⟨h1, h2⟩, ha, hb, hc, _⟩ := okL_yes h
  have hl : No32 (lwB k.toNat) ∧ (lwB k.toNat).size ≠ 0 := ⟨lw_no32 (by omega), lw_ne ⟨k.toNat, by omega⟩ (by show 1 ≤ k.toNat; omega)⟩
  have pa := And.intro (decN_no32 ha) (decN_ps ha).2
  have pb := And.intro (decN_no32 hb) (decN_ps hb).2
  have pc := And.intro (decN_no32 hc) (decN_ps hc).2
  intro x hx
  unfold lkT at hx
  split at hx <;> simp only [List.mem_cons, List.not_mem_nil, or_false] at hx
  · rcases hx with rfl | rfl | rfl
    · exact hl
    · exact pa
    · exact pb
  · rcases hx with rfl | rfl | rfl | rfl
    · exact hl
    · exact pa
    · exact pb
    · exact pc
theorem ltT_size {k a b c : Int} (h : okL k a b c = true) : (ltT k a b c).size ≠ 0 := by
  rw [ltT_jn h]
  exact jnN_size (lkT_no32 h _ (by unfold lkT; simp)).2
theorem cd_text {k a b c : Int} (h : okL k a b c = true) : cd (ltT k a b c) = ⟨k, a, b, c⟩ := by
  obtain ⟨⟨h1, h2⟩, ha, hb, hc, h0⟩ := okL_yes h
  have hz := lkT_no32 h
  rw [ltT_jn h]
  unfold lkT at hz ⊢
  have hkn : (kn (lwB k.toNat) : Int) = k := by rw [kn_lw (by omega)]; omega
  have hw := (hz _ List.mem_cons_self).1
  unfold cd
  rw [(cwN_cons hw).1, (cwN_cons hw).2, hkn, nsG_jn _ 48 (by split <;> simp) fun x hx => hz x (List.mem_cons_of_mem _ hx)]
  by_cases hk : k = 1 ∨ k = 2
  · rw [if_pos hk]
    simp only [List.map_cons, List.map_nil, (decN_ps ha).1, (decN_ps hb).1]
    rw [h0 hk]; rfl
  · rw [if_neg hk]
    simp only [List.map_cons, List.map_nil, (decN_ps ha).1, (decN_ps hb).1, (decN_ps hc).1]
    rfl
theorem spl_text {k a b c : Int} (h : okL k a b c = true) : spl (ltT k a b c) = lkT k a b c := by
  rw [ltT_jn h]
  exact spl_jn (by unfold lkT; simp) fun x hx => (lkT_no32 h x hx).1
theorem same_list {a b : ByteArray} (h : (a.toList == b.toList) = true) : a = b := by
  have := eq_of_beq h
  apply ba_ext
  rwa [ByteArray.toList_eq, ByteArray.toList_eq] at this
def wx (T : List ByteArray) (m : Nat) : ByteArray := T.getD m ⟨#[]⟩
def wn (T : List ByteArray) (m : Nat) : Int := ((rdN (wx T m)).1 : Nat)
/-- The link that the model makes of the words. -/
def mkk (T : List ByteArray) : Lk := ⟨kn (wx T 0), wn T 1, wn T 2, if T.length = 4 then wn T 3 else 0⟩
theorem rl_model {s : ByteArray} (h : rlB s = true) : (∀ j, 1 ≤ j → j < (spl s).length → (rdN (wx (spl s) j)).2 = true) ∧ ((spl s).length = 3 ∨ (spl s).length = 4) ∧ mkk (spl s) = cd s ∧ ((ltT (cd s).k (cd s).a (cd s).b (cd s).c).toList == s.toList) = true := by
  unfold rlB at h
  obtain ⟨ok, he⟩ := Bool.and_eq_true_iff.1 h
  suffices hh : (∀ j, 1 ≤ j → j < (spl s).length → (rdN (wx (spl s) j)).2 = true) ∧ ((spl s).length = 3 ∨ (spl s).length = 4) ∧ mkk (spl s) = cd s from ⟨hh.1, hh.2.1, hh.2.2, he⟩
  clear h
  have es := same_list he
  generalize cd s = l at *
  obtain ⟨k, a, b, c⟩ := l
  dsimp only at ok es
  obtain ⟨⟨h1, h2⟩, ha, hb, hc, h0⟩ := okL_yes ok
  have et : spl s = lkT k a b c := by rw [← es]; exact spl_text ok
  rw [et]
  have hkn : (kn (lwB k.toNat) : Int) = k := by rw [kn_lw (by omega)]; omega
  unfold lkT
  by_cases hk : k = 1 ∨ k = 2
  · rw [if_pos hk]
    refine ⟨fun j j1 j2 => ?_, .inl rfl, ?_⟩
    · have j2' : j < 3 := j2
      rcases (by omega : j = 1 ∨ j = 2) with rfl | rfl
      · exact (decN_rd ha).2
      · exact (decN_rd hb).2
    · show (⟨(kn (lwB k.toNat) : Int), ((rdN (decN a)).1 : Int), ((rdN (decN b)).1 : Int), 0⟩ : Lk) = _
      rw [hkn, (decN_rd ha).1, (decN_rd hb).1, h0 hk]
  · rw [if_neg hk]
    refine ⟨fun j j1 j2 => ?_, .inr rfl, ?_⟩
    · have j2' : j < 4 := j2
      rcases (by omega : j = 1 ∨ j = 2 ∨ j = 3) with rfl | rfl | rfl
      · exact (decN_rd ha).2
      · exact (decN_rd hb).2
      · exact (decN_rd hc).2
    · show (⟨(kn (lwB k.toNat) : Int), ((rdN (decN a)).1 : Int), ((rdN (decN b)).1 : Int), ((rdN (decN c)).1 : Int)⟩ : Lk) = _
      rw [hkn, (decN_rd ha).1, (decN_rd hb).1, (decN_rd hc).1]
theorem rl_back {s : ByteArray} {l : Lk} (h : ((ltT l.k l.a l.b l.c).toList == s.toList) = true) (hs : s.size ≠ 0) : rlB s = true ∧ rlV s = l := by
  have es := same_list h
  have ok : okL l.k l.a l.b l.c = true := by
    cases ho : okL l.k l.a l.b l.c
    · rw [ltT_no ho] at es
      exact absurd (by rw [← es]; rfl) hs
    · rfl
  have e1 : cd s = l := by rw [← es, cd_text ok]
  have hb : rlB s = true := by unfold rlB; rw [e1, ok, h]; rfl
  exact ⟨hb, by unfold rlV; rw [if_pos hb, e1]⟩
theorem rlV_no {s : ByteArray} (h : rlB s = false) : rlV s = Lk.nil := by unfold rlV; rw [h]; rfl
theorem rlV_yes {s : ByteArray} (h : rlB s = true) : rlV s = cd s := by unfold rlV; rw [if_pos h]
theorem rlB_nil : rlB ⟨#[]⟩ = false := by
  cases h : rlB ⟨#[]⟩
  · rfl
  · have := (rl_model h).2.2.2
    have es := same_list this
    unfold rlB at h
    exact absurd (by rw [es]; rfl) (ltT_size (Bool.and_eq_true_iff.1 h).1)
/-- A link and whether there is one. -/
def GivesLk (w : World) (l : Lk) (b : Bool) (e : Ending) (w' : World) : Prop :=
  e = .returned (.tuple #[.agg #[.int .i64 l.k, .int .i64 l.a, .int .i64 l.b, .int .i64 l.c], .bool b]) ∧ Below w.heap.size w w'
/-- What the model's loop over the kinds holds. -/
def rk (x : ByteArray) (m : Nat) : Int := if kn x ≤ m then (kn x : Int) else 0
theorem rk_zero (x : ByteArray) : rk x 0 = 0 := by unfold rk; split <;> omega
theorem rk_yes {x : ByteArray} {m : Nat} (hm : m < 4) (h : ((lwB (m + 1)).toList == x.toList) = true) : rk x (m + 1) = (m : Int) + 1 := by
  have e := same_list h
  have : kn x = m + 1 := by rw [← e, kn_lw (by omega)]
  unfold rk
  rw [this, if_pos (Nat.le_refl _)]
  omega
theorem rk_no {x : ByteArray} {m : Nat} (h : ((lwB (m + 1)).toList == x.toList) = false) : rk x (m + 1) = rk x m := by
  have : kn x ≠ m + 1 := fun e => by
    have := (kn_is (t := x) (by omega)).2
    rw [e, h] at this
    exact absurd this (by decide)
  unfold rk
  by_cases hx : kn x ≤ m
  · rw [if_pos (by omega), if_pos hx]
  · rw [if_neg (by omega), if_neg hx]
theorem rk_all (x : ByteArray) : rk x 4 = (kn x : Int) := by unfold rk; rw [if_pos (by have := kn_lt x; omega)]
end Go.Proofs.YtagjlilbcldfaaaDoor
