/- SeqText of the program: the texts in a slice of strings, joined. -/
import Derived.Test.YtagjlilbcldfaaaDoorQText
import Derived.Test.YtagjlilbcldfaaaDoorShelfJ
namespace Go.Proofs.YtagjlilbcldfaaaDoor
set_option linter.unusedSimpArgs false
set_option linter.unusedVariables false
open Go.ChangeShapes Go.WideShapes Go.ChangeAt Go.RowKit

theorem info_str : (Tryd.prog.info? 9).map (fun i => (i.zero, i.size, i.bytes)) = some (some (.string ⟨#[]⟩), 1, 16) := by kernel_rfl
theorem info_parts_str : ∃ i, Tryd.prog.info? 9 = some i ∧ i.zero = some (.string ⟨#[]⟩) ∧ i.size = 1 ∧ i.bytes = 16 := by
  obtain ⟨i, hi, he⟩ := Option.map_eq_some_iff.1 info_str
  simp only [Prod.mk.injEq] at he
  exact ⟨i, hi, he.1, he.2.1, he.2.2⟩
theorem mkB_list (t : List Int) : (mkB t).data.toList = t.map fun z => UInt8.ofNat z.toNat := by simp [mkB]
theorem joinTail_text (qs : List (List Int)) : Lib.joinTail [44, 32] ((qs.map fun q => mkB (textL q)).map (·.data.toList)) = (tailT qs).map fun z => UInt8.ofNat z.toNat := by
  induction qs with
  | nil => rfl
  | cons q qs ih =>
    have e : Lib.joinTail [44, 32] (((q :: qs).map fun q => mkB (textL q)).map (·.data.toList)) = ([44, 32] ++ (mkB (textL q)).data.toList) ++ Lib.joinTail [44, 32] ((qs.map fun q => mkB (textL q)).map (·.data.toList)) := by simp [Lib.joinTail]
    rw [e, ih, mkB_list, tailT, List.map_append, List.map_append, List.append_assoc]
    rfl
theorem join_text (qs : List (List Int)) : (⟨(Lib.join ((qs.map fun q => mkB (textL q)).map (·.data.toList)) [44, 32]).toArray⟩ : ByteArray) = mkB (seqL qs) := by
  apply ba_ext
  rw [mkB_list]
  cases qs with
  | nil => rfl
  | cons q qs =>
    show Lib.join (((mkB (textL q)).data.toList) :: ((qs.map fun q => mkB (textL q)).map (·.data.toList))) [44, 32] = _
    rw [Lib.join_cons, joinTail_text, mkB_list, seqL, List.map_append]
/-- How far the row of texts has come. -/
def cpT (T : List ByteArray) (k : Nat) : List Value := (T.take k).map Value.string ++ List.replicate (T.length - k) (.string ⟨#[]⟩)
theorem cpT_zero (T : List ByteArray) : List.replicate T.length (Value.string ⟨#[]⟩) = cpT T 0 := by simp [cpT]
theorem cpT_all (T : List ByteArray) : cpT T T.length = T.map Value.string := by simp [cpT]
theorem cpT_len {T : List ByteArray} {k : Nat} (h : k ≤ T.length) : (cpT T k).length = T.length := by simp [cpT]; omega
theorem cpT_step {T : List ByteArray} {k : Nat} (h : k < T.length) {x : ByteArray} (hx : T[k]? = some x) : (cpT T k).set k (.string x) = cpT T (k + 1) := by
  unfold cpT
  rw [List.set_append_right _ _ (by simp; omega)]
  have e1 : k - ((T.take k).map Value.string).length = 0 := by simp; omega
  rw [e1]
  have e2 : T.length - k = (T.length - (k + 1)) + 1 := by omega
  rw [e2, List.replicate_succ, List.set_cons_zero, List.take_succ_eq_append_getElem h, List.map_append, List.append_assoc]
  have e3 : T[k] = x := by rw [List.getElem?_eq_getElem h] at hx; exact Option.some.inj hx
  rw [e3]
  rfl

end Go.Proofs.YtagjlilbcldfaaaDoor
