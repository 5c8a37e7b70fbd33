/- The text of a step: its words, and the words joined. -/
import Derived.Test.YtjgmgaccmcepdaaGreatDoorPlainI
import Derived.Test.YtjgmgaccmcepdaaGreatDoorSeqI
import Derived.Test.YtjgmgaccmcepdaaGreatDoorShelfF
import Derived.Lib.Join
namespace Go.Proofs.YtjgmgaccmcepdaaGreatDoor
open Go.ChangeAt Go.ChangeShapes Go.RowKit Go.WideShapes

def nmTab : List (List UInt8) := [[], [97, 120], [99, 117, 116], [116, 101, 110, 115, 111, 114], [112, 97, 114], [111, 110, 101], [98, 111, 116], [119, 105, 116, 104], [112, 108, 117, 115, 108], [112, 108, 117, 115, 114], [112, 114, 111, 109], [100, 101, 114], [119, 101, 97, 107], [99, 111, 110], [115, 119, 97, 112]]
def nmB (k : Nat) : ByteArray := ⟨(nmTab.getD k []).toArray⟩
noncomputable def decB (x : Int) : ByteArray := ⟨(Lib.decDigits x.toNat).toArray⟩
def addW (c : Bool) (T : List ByteArray) (x : ByteArray) : List ByteArray := if c then T ++ [x] else T
noncomputable def tkW (n0 n1 n2 n3 : Bool) (nm : ByteArray) (a b i j : Int) : Nat → List ByteArray
  | 0 => [nm]
  | 1 => addW n0 [nm] (decB a)
  | 2 => addW n1 (addW n0 [nm] (decB a)) (decB b)
  | 3 => addW n2 (addW n1 (addW n0 [nm] (decB a)) (decB b)) (decB i)
  | _ => addW n3 (addW n2 (addW n1 (addW n0 [nm] (decB a)) (decB b)) (decB i)) (decB j)
noncomputable def stW (r a b i j : Int) (f : List Int) : List ByteArray :=
  addW (ruF r) (tkW (decide (0 < ruP r)) (decide (1 < ruP r)) (ruI r) (ruJ r) (nmB r.toNat) a b i j 4) (mkB (textL f))
/-- Words joined by spaces. -/
noncomputable def jn (T : List ByteArray) : ByteArray := ⟨(Lib.join (T.map (·.data.toList)) [32]).toArray⟩
noncomputable def stT (r a b i j : Int) (f : List Int) : ByteArray := if plainB r a b i j f = true then jn (stW r a b i j f) else ⟨#[]⟩
theorem stT_no {r a b i j : Int} {f : List Int} (h : plainB r a b i j f = false) : stT r a b i j f = ⟨#[]⟩ := by unfold stT; rw [h]; rfl
theorem stT_yes {r a b i j : Int} {f : List Int} (h : plainB r a b i j f = true) : stT r a b i j f = jn (stW r a b i j f) := by unfold stT; rw [if_pos h]

theorem addW_yes (T : List ByteArray) (x : ByteArray) : addW true T x = T ++ [x] := rfl
theorem addW_no (T : List ByteArray) (x : ByteArray) : addW false T x = T := rfl
theorem jn_one (x : ByteArray) : jn [x] = x := by
  apply ba_ext
  simp [jn, Lib.join_one]
theorem joinTail_snoc (sep : List UInt8) (T : List (List UInt8)) (x : List UInt8) : Lib.joinTail sep (T ++ [x]) = Lib.joinTail sep T ++ (sep ++ x) := by
  induction T with
  | nil => simp [Lib.joinTail]
  | cons y T ih => simp [Lib.joinTail] at ih ⊢; try rw [ih]; try simp
theorem jn_snoc {T : List ByteArray} (h : T ≠ []) (x : ByteArray) : jn (T ++ [x]) = (jn T ++ ⟨#[32]⟩) ++ x := by
  apply ba_ext
  cases T with
  | nil => exact absurd rfl h
  | cons y T =>
    show Lib.join (((y :: T) ++ [x]).map (·.data.toList)) [32] = _
    rw [List.cons_append, List.map_cons, Lib.join_cons, List.map_append, List.map_singleton, joinTail_snoc]
    simp [jn, Lib.join_cons]
theorem joinTail_len (M : Nat) (T : List (List UInt8)) (h : ∀ x ∈ T, x.length ≤ M) : (Lib.joinTail [32] T).length ≤ (M + 1) * T.length := by
  induction T with
  | nil => simp [Lib.joinTail]
  | cons y T ih =>
    have h1 := h y (by simp)
    have h2 := ih fun x hx => h x (by simp [hx])
    have e : Lib.joinTail [32] (y :: T) = ([32] ++ y) ++ Lib.joinTail [32] T := by simp [Lib.joinTail]
    rw [e]
    simp only [List.length_append, List.length_cons, List.length_nil]
    rw [Nat.mul_add]
    omega
theorem join_len (M : Nat) (T : List (List UInt8)) (h : ∀ x ∈ T, x.length ≤ M) : (Lib.join T [32]).length ≤ (M + 1) * T.length := by
  cases T with
  | nil => simp [Lib.join]
  | cons y T =>
    have h1 := h y (by simp)
    have h2 := joinTail_len M T fun x hx => h x (by simp [hx])
    rw [Lib.join_cons, List.length_append, List.length_cons, Nat.mul_add]
    omega
theorem dec_small {k : Nat} (h : k < 10) : Lib.decDigits k = [UInt8.ofNat (48 + k)] := by rw [Lib.decDigits, dif_pos h]
theorem dec_two {k : Nat} (h : ¬ k < 10) (h2 : k < 100) : Lib.decDigits k = [UInt8.ofNat (48 + k / 10), UInt8.ofNat (48 + k % 10)] := by
  rw [Lib.decDigits, dif_neg h, dec_small (by omega)]; rfl
theorem dec_len {x : Int} (h0 : 0 ≤ x) (h1 : x < 40) : (decB x).size ≤ 2 := by
  obtain ⟨k, rfl⟩ : ∃ k : Nat, x = k := ⟨x.toNat, by omega⟩
  have : (Lib.decDigits k).length ≤ 2 := by
    by_cases h1 : k < 10
    · rw [dec_small h1]; simp
    · rw [dec_two h1 (by omega)]; simp
  simpa [decB, ByteArray.size] using this
theorem inR_iff {x : Int} (h : inR x = true) : 0 ≤ x ∧ x < 40 := by
  unfold inR at h
  simpa using h
/-- All words are short. -/
def ShortW (T : List ByteArray) : Prop := T ≠ [] ∧ T.length ≤ 6 ∧ ∀ x ∈ T, x.size ≤ 100
theorem addW_mem {c : Bool} {T : List ByteArray} {x y : ByteArray} (h : y ∈ addW c T x) : y ∈ T ∨ (c = true ∧ y = x) := by
  cases c with
  | false => exact .inl h
  | true => rcases List.mem_append.1 h with h | h; exact .inl h; exact .inr ⟨rfl, List.mem_singleton.1 h⟩
theorem addW_len (c : Bool) (T : List ByteArray) (x : ByteArray) : (addW c T x).length ≤ T.length + 1 := by
  cases c <;> simp [addW]
theorem addW_ne {c : Bool} {T : List ByteArray} {x : ByteArray} (h : T ≠ []) : addW c T x ≠ [] := by
  cases c <;> simp [addW, h]
theorem nm_len (k : Nat) : (nmB k).size ≤ 6 := by
  have : (nmTab.getD k []).length ≤ 6 := by
    by_cases h : k < 15
    · have : ∀ k, k < 15 → (nmTab.getD k []).length ≤ 6 := by decide
      exact this k h
    · have : nmTab.getD k [] = [] := by rw [List.getD, List.getElem?_eq_none (show nmTab.length ≤ k from (by show 15 ≤ k; omega))]; rfl
      rw [this]; simp
  simpa [nmB, ByteArray.size] using this
theorem jn_size {T : List ByteArray} (h : ShortW T) : (Lib.join (T.map (·.data.toList)) [32]).length ≤ 606 := by
  have h1 := join_len 100 (T.map (·.data.toList)) (fun x hx => by
    obtain ⟨y, hy, rfl⟩ := List.mem_map.1 hx
    show y.data.toList.length ≤ 100
    have e : y.data.toList.length = y.size := by simp
    rw [e]; exact h.2.2 y hy)
  rw [List.length_map] at h1
  have := h.2.1
  omega
end Go.Proofs.YtjgmgaccmcepdaaGreatDoor
