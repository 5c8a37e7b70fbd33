/- The draw of a text for ReadForm: a drawn formula's text, one byte changed, cut or appended. -/
import Derived.Test.YtjekibknembcgaaDoorDrawV
import Derived.Test.YtjekibknembcgaaDoorTextS
import Derived.Test.YtjekibknembcgaaDoorLiberal
import Derived.Laws.IdiomStrings
import Derived.Laws.BytesArg
import Derived.ArgAppend
namespace Go.Proofs.YtjekibknembcgaaDoor
open Go.RowKit

/-- One of the bytes that a draw puts in. -/
theorem idx_chars (k : Int) (h0 : 0 ≤ k) (h1 : k < 18) : ∃ z : Int, 0 ≤ z ∧ z ≤ 255 ∧ ∀ w, (Instr.index 9 (.string ⟨#[65, 72, 126, 49, 95, 40, 42, 124, 43, 38, 33, 63, 41, 45, 62, 32, 73, 120]⟩) (.int .i64 k)).run Tryd.prog w = .ok (.int .u8 z) w := by
  have hb : 0 ≤ k ∧ k < (ByteArray.size ⟨#[65, 72, 126, 49, 95, 40, 42, 124, 43, 38, 33, 63, 41, 45, 62, 32, 73, 120]⟩ : Nat) := ⟨h0, by show k < 18; exact h1⟩
  have hlt := UInt8.toNat_lt ((⟨#[65, 72, 126, 49, 95, 40, 42, 124, 43, 38, 33, 63, 41, 45, 62, 32, 73, 120]⟩ : ByteArray)[k.toNat]'(by have := hb.2; omega))
  refine ⟨(((⟨#[65, 72, 126, 49, 95, 40, 42, 124, 43, 38, 33, 63, 41, 45, 62, 32, 73, 120]⟩ : ByteArray)[k.toNat]'(by have := hb.2; omega)).toNat : Int), by omega, by omega, fun w => ?_⟩
  rw [run_index_string w 9 _ .i64 _ Tryd.underlying9, dif_pos hb]

/-- A row of bytes that a conversion made. -/
def Raw (w : World) (b n cap : Nat) : Prop :=
  ∃ (cur : Array Value) (fz : Nat × Nat), w.heap[b]? = some (.cells cur 5 fz) ∧ cur.size = cap ∧ n ≤ cap ∧ cap ≤ fz.1 ∧ ∀ j, j < cap → ∃ z : Int, cur[j]? = some (.int .u8 z)
theorem Raw.lt {w : World} {b n cap : Nat} (h : Raw w b n cap) : b < w.heap.size := by
  obtain ⟨_, _, hh, _⟩ := h; exact row_lt hh
theorem Raw.le {w : World} {b n cap : Nat} (h : Raw w b n cap) : n ≤ cap := by
  obtain ⟨_, _, _, _, hn, _⟩ := h; exact hn
theorem Raw.grown {w w' : World} {b n cap : Nat} {r : Option Nat} (h : Raw w b n cap) (hg : w.grownBy w' r) (hr : r ≠ some b) : Raw w' b n cap := by
  have hl := h.lt
  obtain ⟨cur, fz, hh, hrest⟩ := h
  exact ⟨cur, fz, (hg.block b hl (fun e => hr e.symm)).trans hh, hrest⟩
theorem Raw.shorter {w : World} {b n m cap : Nat} (h : Raw w b n cap) (hm : m ≤ cap) : Raw w b m cap := by
  obtain ⟨cur, fz, hh, hc, _, hrest⟩ := h
  exact ⟨cur, fz, hh, hc, hm, hrest⟩
theorem Raw.set_ {w : World} {b n cap q : Nat} (h : Raw w b n cap) (z : Int) : Raw (w.setCell ⟨b, q, none⟩ (.int .u8 z)) b n cap ∧ w.grownBy (w.setCell ⟨b, q, none⟩ (.int .u8 z)) (some b) := by
  obtain ⟨cur, fz, hh, hc, hn, hf, hz⟩ := h
  refine ⟨⟨cur.setIfInBounds q (.int .u8 z), fz, ?_, by simpa using hc, hn, hf, fun j hj => ?_⟩, ⟨rfl, rfl, rfl, by simp [World.setCell], fun k _ hk => heap_setCell_other w ⟨b, q, none⟩ k _ (fun e => hk (by simp [e]))⟩⟩
  · simp [World.setCell, Array.getElem?_modify, hh]
  · rw [Array.getElem?_setIfInBounds]
    by_cases e : q = j
    · rw [if_pos e, if_pos (by omega)]; exact ⟨z, rfl⟩
    · rw [if_neg e]; exact hz j hj
theorem Raw.cell {w : World} {b n cap : Nat} (h : Raw w b n cap) {j : Nat} (hj : j < cap) : ∃ z : Int, w.cell? ⟨b, j, none⟩ = some (.int .u8 z) := by
  obtain ⟨cur, fz, hh, hc, hn, hf, hz⟩ := h
  obtain ⟨z, hz⟩ := hz j hj
  exact ⟨z, by rw [cell_of_row w b j _ _ _ hh]; exact hz⟩
theorem Raw.free {w : World} {b n cap : Nat} (h : Raw w b n cap) {j : Nat} (hj : j < cap) : w.frozen? ⟨b, j, none⟩ = false := by
  obtain ⟨cur, ⟨lo, hi⟩, hh, hc, hn, hf, hz⟩ := h
  simp only [World.frozen?, hh, Bool.and_eq_false_iff, decide_eq_false_iff_not]
  left
  simp only at hf
  omega
/-- Its bytes, listed. -/
theorem listed {w : World} {b : Nat} : ∀ n : Nat, (∀ j, j < n → ∃ z : Int, w.cell? ⟨b, j, none⟩ = some (.int .u8 z)) → ∃ T : List Int, T.length = n ∧ ∀ j, j < n → w.cell? ⟨b, j, none⟩ = some (.int .u8 (T.getD j 0))
  | 0, _ => ⟨[], rfl, by omega⟩
  | n + 1, h => by
    obtain ⟨T, hT, hc⟩ := listed n (fun j hj => h j (by omega))
    obtain ⟨z, hz⟩ := h n (by omega)
    refine ⟨T ++ [z], by simp [hT], fun j hj => ?_⟩
    rcases Nat.lt_or_ge j n with hlt | hge
    · rw [hc j hlt]
      simp [List.getD, List.getElem?_append, hT, hlt]
    · obtain rfl : j = n := by omega
      rw [hz]
      simp [List.getD, hT]
/-- A string made of such a row. -/
theorem str_of {w : World} {b n c : Nat} (h : ∀ j, j < n → ∃ z : Int, w.cell? ⟨b, j, none⟩ = some (.int .u8 z)) :
    ∃ s : ByteArray, s.size = n ∧ (convert 22 9 (.slice (some ⟨b, 0, none⟩) n c)).run Tryd.prog w = .ok (.string s) w := by
  obtain ⟨T, hT, hc⟩ := listed n h
  exact ⟨strOfNums T, by rw [strOfNums_size, hT], run_convert_bytes_arg w 22 5 Tryd.underlying22 Tryd.underlying5 b 0 n c T hT (fun i hi => by rw [Nat.zero_add]; exact hc i hi) _ Tryd.underlying9⟩
theorem Raw.str {w : World} {b n cap c : Nat} (h : Raw w b n cap) : ∃ s : ByteArray, s.size = n ∧ (convert 22 9 (.slice (some ⟨b, 0, none⟩) n c)).run Tryd.prog w = .ok (.string s) w := by
  have hn : n ≤ cap := by obtain ⟨_, _, _, _, hn, _⟩ := h; exact hn
  exact str_of (fun j hj => h.cell (by omega))
/-- The bytes of a string. -/
theorem raw_of (w : World) (s : ByteArray) : ∃ (cap : Nat) (w' : World), (convert 9 22 (.string s)).run Tryd.prog w = .ok (.slice (some ⟨w.heap.size, 0, none⟩) s.size cap) w' ∧ Raw w' w.heap.size s.size cap ∧ w.grownBy w' none := by
  have hcap : s.size ≤ grownCap w s.size 0 5 := grownCap_ge w s.size 0 5
  refine ⟨_, _, run_bytes_of_string w 9 22 5 s Tryd.underlying9 Tryd.underlying22 Tryd.underlying5, ?_, ?_⟩
  · generalize grownCap w s.size 0 5 = cap at hcap
    have hsz : (bytesRow s cap).size = cap := by
      have : s.data.size = s.size := rfl
      simp [bytesRow]; omega
    refine ⟨_, _, heap_alloc_new w.drew _, hsz, hcap, by rw [hsz]; exact Nat.le_refl _, fun j hj => ?_⟩
    have hj' : j < (bytesRow s cap).size := by omega
    rw [Array.getElem?_eq_getElem hj']
    simp only [bytesRow, Array.getElem_append]
    split
    · simp
    · simp
  · exact ⟨rfl, rfl, rfl, by simp, fun k hk _ => heap_alloc_old w.drew _ (by exact hk)⟩

/-- What the draw of a text leaves. -/
def TextDrawn (w : World) (g : Nat) (A : Option Addr) (n c : Nat) (code : List Int) (e : Ending) (w' : World) : Prop :=
  ∃ s : ByteArray, s.size ≤ 100 ∧ e = .returned (.string s) ∧ Src w' g A n c code ∧ w.grownBy w' (some g)
end Go.Proofs.YtjekibknembcgaaDoor
