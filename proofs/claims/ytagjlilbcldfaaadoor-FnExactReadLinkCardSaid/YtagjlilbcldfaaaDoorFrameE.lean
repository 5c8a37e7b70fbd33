/- What a row's list gives of strconv's two errors. -/
import Derived.Test.YtagjlilbcldfaaaDoorReadP
import Derived.Test.YtagjlilbcldfaaaDoorFrameL
import Derived.Stop.LaidErr
namespace Go.Proofs.YtagjlilbcldfaaaDoor
set_option linter.unusedSimpArgs false
set_option linter.unusedVariables false
open Go.ChangeAt Go.ChangeShapes Go.RowKit Go.WideShapes

theorem gSyn : Tryd.prog.globalNamed "strconv.ErrSyntax" = some 4 := by kernel_rfl
theorem gSynType : (Tryd.prog.globals[4]?).map (·.type) = some 101 := by kernel_rfl
theorem gRan : Tryd.prog.globalNamed "strconv.ErrRange" = some 5 := by kernel_rfl
theorem gRanType : (Tryd.prog.globals[5]?).map (·.type) = some 101 := by kernel_rfl
theorem cellsErr : Tryd.prog.cellsOf 158 = 1 := by kernel_rfl
theorem cellsStrE : Tryd.prog.cellsOf 9 = 1 := by kernel_rfl
theorem starErr : "*" ++ "errors.errorString" = "*errors.errorString" := by decide
theorem rowErr (u : TypeId) (h : Tryd.prog.typeName? 3 u = some "*errors.errorString") : u = 156 :=
  typeName_ptr_named (nm := "errors.errorString") (by rw [starErr]; kernel_rfl) (by kernel_rfl) (by decide) u (by rw [starErr]; exact h)
/-- What a row's list gives of the two errors. -/
theorem errs_of {W : World} {s1 s2 : List UInt8} {rest : List (String × DataW Unit)} (h : laidMet Tryd.prog (("strconv.ErrRange", .iface "*errors.errorString" (.ptr (.agg [.lit (.string s1)]))) :: ("strconv.ErrSyntax", .iface "*errors.errorString" (.ptr (.agg [.lit (.string s2)]))) :: rest) W) : Errs W := by
  obtain ⟨a0, s0, hv0, -, -, -⟩ := laid_sentinel h gRan gRanType Tryd.underlying101 rowErr Tryd.underlying156 Tryd.underlying158 rfl rfl Tryd.underlying9 cellsErr cellsStrE
  obtain ⟨a1, s1, hv1, -, -, -⟩ := laid_sentinel h.tail gSyn gSynType Tryd.underlying101 rowErr Tryd.underlying156 Tryd.underlying158 rfl rfl Tryd.underlying9 cellsErr cellsStrE
  exact ⟨⟨_, by have h0 := World.var?_cell gSyn hv1 0; simpa using h0, Or.inr ⟨_, _, rfl⟩⟩, ⟨_, by have h0 := World.var?_cell gRan hv0 0; simpa using h0, Or.inr ⟨_, _, rfl⟩⟩⟩
end Go.Proofs.YtagjlilbcldfaaaDoor
