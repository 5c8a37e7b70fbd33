/- The laws' helpers at a step: its size, its copy, comparison. toStep. The rules of the table as the program has them: their values, their methods, ruleOf, premiseCount, fieldsFit, namedFields. PlainStep of the program and of the model. PlainStep of the program: the walk. The text of a step: its words, and the words joined. StepText of the program. -/
import Derived.Test.YtagjlilbcldfaaaDoorRowH
import Derived.Test.YtagjlilbcldfaaaDoorQSeqV
import Derived.Stop.Asserts
import Derived.Test.YtagjlilbcldfaaaDoorSeqI
import Derived.Test.YtagjlilbcldfaaaDoorShelfF
import Derived.Lib.Join
namespace Go.Proofs.YtagjlilbcldfaaaDoor
set_option linter.unusedSimpArgs false
set_option linter.unusedVariables false
section
open Go.ChangeAt Go.ChangeShapes Go.RowKit Go.WideShapes
end
section
open Go.ChangeAt Go.ChangeShapes Go.RowKit Go.WideShapes
end
section
open Go.ChangeAt Go.ChangeShapes Go.RowKit Go.WideShapes
end
section
open Go.ChangeAt Go.ChangeShapes Go.RowKit Go.WideShapes

def inR (x : Int) : Bool := decide (0 ≤ x) && decide (x < 40)
end
section
open Go.ChangeAt Go.ChangeShapes Go.RowKit Go.WideShapes
end
section
open Go.ChangeAt Go.ChangeShapes Go.RowKit Go.WideShapes

def nmTab : List (List UInt8) := [[], [97, 120], [99, 117, 116], [116, 101, 110, 115, 111, 114], [112, 97, 114], [111, 110, 101], [98, 111, 116], [119, 105, 116, 104], [112, 108, 117, 115, 108], [112, 108, 117, 115, 114], [112, 114, 111, 109], [100, 101, 114], [119, 101, 97, 107], [99, 111, 110], [115, 119, 97, 112]]
def nmB (k : Nat) : ByteArray := ⟨(nmTab.getD k []).toArray⟩
noncomputable def decB (x : Int) : ByteArray := ⟨(Lib.decDigits x.toNat).toArray⟩
theorem dec_small {k : Nat} (h : k < 10) : Lib.decDigits k = [UInt8.ofNat (48 + k)] := by rw [Lib.decDigits, dif_pos h]
theorem dec_two {k : Nat} (h : ¬ k < 10) (h2 : k < 100) : Lib.decDigits k = [UInt8.ofNat (48 + k / 10), UInt8.ofNat (48 + k % 10)] := by
  rw [Lib.decDigits, dif_neg h, dec_small (by omega)]; rfl
theorem inR_iff {x : Int} (h : inR x = true) : 0 ≤ x ∧ x < 40 := by
  unfold inR at h
  simpa using h
end
section
open Go.ChangeAt Go.ChangeShapes Go.RowKit Go.WideShapes

theorem str_push {w0 wr w7 : World} {base g7 cap c : Nat} {A : Option Addr} {T : List ByteArray} {x : ByteArray} (hbel : Below base w0 wr) (hbase : base ≤ wr.heap.size)
    (own : wr.ownsRow base 9 1 (.slice A T.length c) T.length (T.map Value.string))
    (hown7 : w7.ownsRow base 9 1 (.slice (some ⟨g7, 0, none⟩) (T.length + 1) cap) (T.length + 1) (T.map Value.string ++ [.string x]))
    (hgrow7 : (wr.alloc (.cells #[.string x] 9)).grownBy w7 (Value.slice A T.length c).ownBlock) :
    Below base w0 w7 ∧ w7.ownsRow base 9 1 (.slice (some ⟨g7, 0, none⟩) (T ++ [x]).length cap) (T ++ [x]).length ((T ++ [x]).map Value.string) := by
  refine ⟨(hbel.alloc hbase _).grown hgrow7 (by simp; omega) (fun k hk => (own.lt k hk).1), ?_⟩
  have e : (T ++ [x]).length = T.length + 1 := by simp
  rw [e, List.map_append]
  exact hown7
theorem str_new (w : World) (x : ByteArray) : ∀ j u, [Value.string x][j]? = some u → (w.alloc (.cells #[.string x] 9)).cell? ((⟨w.heap.size, 0, none⟩ : Addr).add j) = some u := by
  intro j u hu
  match j, hu with
  | 0, hu =>
    obtain rfl := Option.some.inj hu
    simp [Addr.add]
  | k + 1, hu => simp at hu
end
end Go.Proofs.YtagjlilbcldfaaaDoor
