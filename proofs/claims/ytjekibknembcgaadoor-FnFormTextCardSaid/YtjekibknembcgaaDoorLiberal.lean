/- The draw of a formula for the liberal notation; one byte of a text. -/
import Derived.Test.YtjekibknembcgaaDoorArrowM
import Derived.Test.YtjekibknembcgaaDoorDice
import Derived.Test.YtjekibknembcgaaDoorTextS
import Derived.Laws.Strings2
namespace Go.Proofs.YtjekibknembcgaaDoor
open Go.RowKit

set_option maxHeartbeats 400000 in
theorem drawText_any (A : Option Addr) (n c : Nat) (code : List Int) (w : World) (h : RdB w w.heap.size A n code) (hn : n ≤ 4096) :
    Calls Tryd.prog 17 #[.slice A n c] w (DrawnFrom w) := by
  go_enter Tryd.func17, Tryd.ntmps17
  go_wp2_with (fail)
  refine (fromCode_any A n c code w h hn).mono ?_
  rintro e w1 ⟨rfl, S1, B1⟩
  go_wp2_with (fail)
  refine (drawAny_any _ n c A code w1 S1).mono ?_
  intro e w2 hD
  obtain ⟨L, A', c', rfl, hrest⟩ := drawnFrom_of B1 hD
  have HR := Lib.hid hrest
  clear hD hrest S1 B1
  go_wp2
  go_ret
  exact ⟨L, A', c', rfl, HR.out⟩

theorem take1 {α : Type} (l : List α) (k : Nat) (h : k < l.length) : (l.drop k).take 1 = [l[k]] := by rw [List.drop_eq_getElem_cons h]; rfl

/-- One byte of a text. -/
theorem slice_one (t : List Int) (k : Nat) (hk : k < t.length) (w : World) : (Instr.slice 9 (.string (mkB t)) (some (.int .i64 (k : Int))) (some (.int .i64 ((k : Int) + 1))) none).run Tryd.prog w = .ok (.string (mkB [t.getD k 0])) w := by
  have h := run_slice_string (P := Tryd.prog) w 9 (mkB t) .i64 .i64 (k : Int) ((k : Int) + 1) Tryd.underlying9 (by omega) (by omega) (by rw [mkB_size]; omega)
  have e1 : ((k : Int)).toNat = k := by omega
  have e2 : ((k : Int) + 1).toNat = k + 1 := by omega
  have e : (mkB t).extract k (k + 1) = mkB [t.getD k 0] := ba_ext (by
    simp only [mkB, ByteArray.data_extract]
    simp [List.getD, hk]
    rw [take1 _ k (by simpa using hk)]
    simp)
  rw [e1, e2, e] at h
  exact h

theorem nsp_app (a b : List Int) : nsp (a ++ b) = nsp a ++ nsp b := by simp [nsp]

theorem nsp_text {L : List Int} {k : Nat} (hk : k < (textL L).length) : nsp [(textL L).getD k 0] = [(textL L).getD k 0] := by
  have hm : (textL L).getD k 0 ∈ textL L := by simp [List.getD, hk]
  have := textL_byte L _ hm
  exact nsp_id (fun c hc => by obtain rfl := List.mem_singleton.1 hc; omega)
theorem take_one {t : List Int} {k : Nat} (hk : k < t.length) : t.take k ++ [t.getD k 0] = t.take (k + 1) := by
  rw [List.take_succ_eq_append_getElem hk]; simp [List.getD, hk]
/-- The text with spaces, one byte on. -/
theorem lib_step {L T : List Int} {k : Nat} (hk : k < (textL L).length) (h : nsp T = (textL L).take k) (hb : ∀ c ∈ T, 0 ≤ c ∧ c ≤ 255) :
    nsp (T ++ [(textL L).getD k 0]) = (textL L).take (k + 1) ∧ (∀ c ∈ T ++ [(textL L).getD k 0], 0 ≤ c ∧ c ≤ 255) := by
  refine ⟨by rw [nsp_app, h, nsp_text hk, take_one hk], fun c hc => ?_⟩
  rcases List.mem_append.1 hc with hc | hc
  · exact hb c hc
  · obtain rfl := List.mem_singleton.1 hc
    have hm : (textL L).getD k 0 ∈ textL L := by simp [List.getD, hk]
    have := textL_byte L _ hm
    omega
theorem lib_space {T X : List Int} (h : nsp T = X) (hb : ∀ c ∈ T, 0 ≤ c ∧ c ≤ 255) : nsp (T ++ [32]) = X ∧ (∀ c ∈ T ++ [32], 0 ≤ c ∧ c ≤ 255) := by
  refine ⟨by rw [nsp_app, h]; simp [nsp], fun c hc => ?_⟩
  rcases List.mem_append.1 hc with hc | hc
  · exact hb c hc
  · obtain rfl := List.mem_singleton.1 hc
    omega
theorem textL_pos {L : List Int} (h : validB L = true) : 1 ≤ (textL L).length := (textL_yes h).bd.2.2.1
theorem mkB_ne {t : List Int} (h : 1 ≤ t.length) : ((mkB t).toList == ([] : List UInt8)) = false := by
  cases t with
  | nil => simp at h
  | cons x t => rw [ByteArray.toList_eq]; simp [mkB]

theorem RdB.more {w : World} {B B' n : Nat} {A : Option Addr} {code : List Int} (h : RdB w B A n code) (hB : B ≤ B') : RdB w B' A n code :=
  ⟨h.1, h.2.1, fun hn => by
    obtain ⟨b, off, e, hb, hc⟩ := h.2.2 hn
    exact ⟨b, off, e, by omega, hc⟩⟩
theorem parse_short : pfZ (bl ⟨#[40, 65]⟩) = 2 := by decide +kernel

/-- What the spacing of a text leaves. -/
def Spaced (L T : List Int) (k : Nat) : Prop := nsp T = (textL L).take k ∧ (∀ c ∈ T, 0 ≤ c ∧ c ≤ 255) ∧ T.length ≤ 2 * k
theorem Spaced.next {L T : List Int} {k : Nat} (h : Spaced L T k) (hk : k < (textL L).length) : Spaced L (T ++ [(textL L).getD k 0]) (k + 1) ∧ Spaced L (T ++ [(textL L).getD k 0] ++ [32]) (k + 1) := by
  obtain ⟨h1, h2, h3⟩ := h
  obtain ⟨a1, a2⟩ := lib_step hk h1 h2
  obtain ⟨b1, b2⟩ := lib_space a1 a2
  exact ⟨⟨a1, a2, by simp; omega⟩, ⟨b1, b2, by simp; omega⟩⟩
theorem Spaced.done {L T : List Int} (h : Spaced L T (textL L).length) (hv : validB L = true) : pfL (bl (mkB T)) = L ∧ pfZ (bl (mkB T)) = -1 ∧ pfL (bl (mkB ([32, 126] ++ T))) = L.map duZ ∧ pfZ (bl (mkB ([32, 126] ++ T))) = -1 ∧ T.length ≤ 142 := by
  obtain ⟨h1, h2, h3⟩ := h
  rw [List.take_length] at h1
  have hl := textL_len L
  have hb2 : ∀ c ∈ [32, 126] ++ T, 0 ≤ c ∧ c ≤ 255 := by
    intro c hc
    simp only [List.mem_append, List.mem_cons, List.not_mem_nil, or_false] at hc
    rcases hc with (rfl | rfl) | hc
    · omega
    · omega
    · exact h2 c hc
  rw [bl_mkB h2, bl_mkB hb2]
  obtain ⟨p1, p2⟩ := pf_text hv (by omega) h1
  obtain ⟨q1, q2⟩ := pf_not hv (by omega) h1
  exact ⟨p1, p2, q1, q2, by omega⟩
end Go.Proofs.YtjekibknembcgaaDoor
