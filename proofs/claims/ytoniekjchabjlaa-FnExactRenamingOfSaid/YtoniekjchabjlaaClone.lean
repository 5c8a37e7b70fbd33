/- The library's slices.Grow, slices.Concat and slices.Clone as the program calls them, and the model's copyInts: what each leaves. slices.Clone as the program calls it, and the model's copyInts: what each leaves. -/
import Derived.Test.YtoniekjchabjlaaMark
import Derived.Lib.AppendZerosOnto
import Derived.Lib.SliceRun
import Derived.Lib.Walk
import Derived.Deep.Matrix
namespace Go.Proofs.Ytoniekjchabjlaa
open Go.RowKit

/-- A slice value that reads as a list with at least one number, its cells below block B. -/
def Part (w : World) (B : Nat) (v : Value) (zs : List Int) : Prop :=
  ∃ b off c, v = .slice (some ⟨b, off, none⟩) zs.length c ∧ b < B ∧ 0 < zs.length ∧ ∀ j, j < zs.length → w.cell? ⟨b, off + j, none⟩ = some (.int .i64 (zs.getD j 0))
theorem Part.below {w w' : World} {B : Nat} {v : Value} {zs : List Int} (h : Part w B v zs) (hb : Below B w w') : Part w' B v zs := by
  obtain ⟨b, off, c, hv, hB, hp, hc⟩ := h
  exact ⟨b, off, c, hv, hB, hp, fun j hj => (hb.cell (p := ⟨b, off + j, none⟩) hB).trans (hc j hj)⟩
theorem Part.more {w : World} {B B' : Nat} {v : Value} {zs : List Int} (h : Part w B v zs) (hb : B ≤ B') : Part w B' v zs := by
  obtain ⟨b, off, c, hv, hB, hp, hc⟩ := h
  exact ⟨b, off, c, hv, by omega, hp, hc⟩
theorem Part.of_rd {w : World} {B : Nat} {A : Option Addr} {n c : Nat} {zs : List Int} (h : RdI w B A n zs) (hn : 0 < n) : Part w B (.slice A n c) zs := by
  have hl := h.len
  subst hl
  obtain ⟨b, off, rfl, hb, hc⟩ := h.2 hn
  exact ⟨b, off, c, rfl, hb, hn, hc⟩
/-- The cells of a part, as an append asks for them. -/
theorem part_news {w : World} {b off : Nat} {zs : List Int} (hc : ∀ j, j < zs.length → w.cell? ⟨b, off + j, none⟩ = some (.int .i64 (zs.getD j 0))) : ∀ j u, (zs.map (Value.int .i64))[j]? = some u → w.cell? ((⟨b, off, none⟩ : Addr).add j) = some u := by
  intro j u hu
  have hj : j < zs.length := by
    rcases Nat.lt_or_ge j zs.length with h | h
    · exact h
    · rw [List.getElem?_eq_none (by simpa using h)] at hu; cases hu
  have e : (⟨b, off, none⟩ : Addr).add j = ⟨b, off + j, none⟩ := by
    by_cases h0 : j = 0
    · subst h0; simp [Addr.add]
    · simp [Addr.add, h0]
  rw [e, hc j hj]
  simp [hj] at hu
  simp [List.getD, hj, hu]
theorem ints_one (zs : List Int) : ∀ u ∈ zs.map (Value.int .i64), u.oneCell' = true := by
  intro u hu
  obtain ⟨z, _, rfl⟩ := List.mem_map.1 hu
  rfl

theorem own_shape {w : World} {base n : Nat} {e : TypeId} {v : Value} {xs : List Value} (h : w.ownsRow base e 1 v n xs) : ∃ A c, v = .slice A n c := by
  rcases h.2 with ⟨rfl, rfl⟩ | ⟨g, cap, cur, rfl, _⟩
  · exact ⟨_, _, rfl⟩
  · exact ⟨_, _, rfl⟩

/-- What slices.Grow(nil, n) leaves: an empty row of the call's own. -/
def Grew (w : World) (e : Ending) (w' : World) : Prop :=
  ∃ c, e = .returned (.slice (some ⟨w.heap.size, 0, none⟩) 0 c) ∧ w'.ownsRow w.heap.size 2 1 (.slice (some ⟨w.heap.size, 0, none⟩) 0 c) 0 [] ∧ Below w.heap.size w w'

/-- The first k parts, one behind the other. -/
def catL (ls : List (List Int)) (k : Nat) : List Int := (ls.take k).flatten
theorem catL_zero (ls : List (List Int)) : catL ls 0 = [] := by simp [catL]
theorem catL_step {ls : List (List Int)} {k : Nat} (h : k < ls.length) : catL ls (k + 1) = catL ls k ++ ls.getD k [] := by
  unfold catL
  rw [List.take_succ_eq_append_getElem h, List.flatten_append]
  simp [List.getD, h]
theorem catL_all (ls : List (List Int)) : catL ls ls.length = ls.flatten := by simp [catL]
theorem catL_le (ls : List (List Int)) (k : Nat) : (catL ls k).length ≤ ls.flatten.length := by
  unfold catL
  conv => rhs; rw [← List.take_append_drop k ls, List.flatten_append, List.length_append]
  omega
theorem catL_len_step {ls : List (List Int)} {k : Nat} (h : k < ls.length) : (catL ls (k + 1)).length = (catL ls k).length + (ls.getD k []).length := by
  rw [catL_step h, List.length_append]

theorem cat_push {w : World} {base : Nat} {v : Value} {ls : List (List Int)} {k : Nat} {zs : List Int} (hk : k < ls.length) (hz : ls.getD k [] = zs)
    (hown : w.ownsRow base 2 1 v ((catL ls k).length + zs.length) ((catL ls k).map (Value.int .i64) ++ zs.map (Value.int .i64))) :
    w.ownsRow base 2 1 v (catL ls (k + 1)).length ((catL ls (k + 1)).map (Value.int .i64)) := by
  subst hz
  rw [catL_step hk, List.length_append, List.map_append]
  exact hown

theorem own_more {w : World} {base base' n size : Nat} {e : TypeId} {v : Value} {xs : List Value} (h : w.ownsRow base' e size v n xs) (hB : base ≤ base') : w.ownsRow base e size v n xs := h.mono hB
theorem own_cap {w : World} {base n c : Nat} {e : TypeId} {A : Option Addr} {xs : List Value} (h : w.ownsRow base e 1 (.slice A n c) n xs) : n ≤ c ∧ c ≤ maxLen := by
  rcases h.2 with ⟨hv, rfl⟩ | ⟨g, cap, cur, hv, hb, hh, hn, hc, hs, ht⟩
  · injection hv with a1 a2 a3
    subst a3
    exact ⟨Nat.zero_le _, Nat.zero_le _⟩
  · injection hv with a1 a2 a3
    subst a3
    exact ⟨hn, hc⟩
/-- What an append of a part to an empty row of the call's own leaves. -/
theorem app_news {w wa w2 : World} {e : TypeId} {v0 v2 : Value} {n2 : Nat} {ys : List Value} {zs : List Int} (HB1 : Hid (Below w.heap.size w wa)) (HO1 : Hid (wa.ownsRow w.heap.size e 1 v0 0 [])) (hown2 : w2.ownsRow w.heap.size e 1 v2 n2 ys) (hgrow2 : wa.grownBy w2 v0.ownBlock)
    (HJ : Hid (ys = zs.map (Value.int .i64))) (hl : n2 = zs.length) : ∃ A c, v2 = .slice A zs.length c ∧ Hid (w2.ownsRow w.heap.size e 1 (.slice A zs.length c) zs.length (zs.map (Value.int .i64))) ∧ Hid (Below w.heap.size w w2) := by
  subst hl
  have hb2' : Below w.heap.size w w2 := HB1.out.grown hgrow2 HB1.out.size (fun q hq => (HO1.out.lt q hq).1)
  obtain ⟨A2, c2, rfl⟩ := own_shape hown2
  rw [HJ.out] at hown2
  exact ⟨A2, c2, rfl, hown2, hb2'⟩

end Go.Proofs.Ytoniekjchabjlaa
