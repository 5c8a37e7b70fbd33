/-
  DERIVED. GIVEN WITH THE SEED: THE PROGRAM's TIES (one call each: nine closed facts by the kernel) AND EACH ROW's TIE, after the 31st guide's Derived/Test/Toyas{Tie, Card}.lean. No idea stands in it: it is a product of the set-up. Laid BY PROGRAM, IN A SANDBOX (cutbox-door.mjs). By AI agents, Wed Nov 11 2026. No macro, syntax, notation, axiom, sorry.
-/
import Derived.Test.YtjdmcpaolhnejaaDoorRows
import Derived.LaidByTextLater
import Derived.SevenTiedAt
import Derived.LaidSub
import Derived.LaidOnce
namespace Go.Proofs.YtjdmcpaolhnejaaDoor
open Go
set_option maxRecDepth 100000
theorem seatTie1 : Tryd.prog.laidByTextLater [("loop.example/g00872/impl.arities", Rows.laid_loop_example_g00872_impl_arities), ("loop.example/g00872/impl.dualOperators", Rows.laid_loop_example_g00872_impl_dualOperators)] [.data, .data] true :=
  Program.laidByTextLater_by_one 19 8 20 (by kernel_rfl) (by kernel_rfl) (by kernel_rfl) (by kernel_rfl) (by kernel_rfl) (by kernel_rfl) (fun _ _ => by kernel_rfl)
theorem noOwnUnsafe : Tryd.pinned.checked.prog.headLifts.contains "ownunsafe" = false := by kernel_rfl
theorem tie : Tryd.prog.laidByTextLater [("loop.example/g00872/impl.arities", Rows.laid_loop_example_g00872_impl_arities)] [.data] true :=
  Program.laidByTextLater.sub seatTie1 ["loop.example/g00872/impl.arities"] (by kernel_rfl) (by kernel_rfl)
theorem fnExactSubformsOf_row_tie : Rows.fnExactSubformsOfRow.laidByTextAt .later Tryd.pinned [.data] true :=
  OpenClaim.laidByTextAt_later rfl rfl tie noOwnUnsafe
theorem fnSubforms_row_tie : Rows.fnSubformsRow.laidByTextAt .later Tryd.pinned [.data] true :=
  OpenClaim.laidByTextAt_later rfl rfl tie noOwnUnsafe
theorem tie2 : Tryd.prog.laidByTextLater [("loop.example/g00872/impl.arities", Rows.laid_loop_example_g00872_impl_arities), ("loop.example/g00872/impl.dualOperators", Rows.laid_loop_example_g00872_impl_dualOperators)] [.data, .data] true :=
  Program.laidByTextLater.sub seatTie1 ["loop.example/g00872/impl.arities", "loop.example/g00872/impl.dualOperators"] (by kernel_rfl) (by kernel_rfl)
theorem fnEnds_row_tie : Rows.fnEndsRow.laidByTextAt .later Tryd.pinned [.data, .data] true :=
  OpenClaim.laidByTextAt_later rfl rfl tie2 noOwnUnsafe
theorem fnExactSubformsOfUpto_row_tie : Rows.fnExactSubformsOfUptoRow.laidByTextAt .later Tryd.pinned [.data] true :=
  OpenClaim.laidByTextAt_later rfl rfl tie noOwnUnsafe
theorem fnSubformsUpto_row_tie : Rows.fnSubformsUptoRow.laidByTextAt .later Tryd.pinned [.data] true :=
  OpenClaim.laidByTextAt_later rfl rfl tie noOwnUnsafe
theorem fnEndsUpto_row_tie : Rows.fnEndsUptoRow.laidByTextAt .later Tryd.pinned [.data, .data] true :=
  OpenClaim.laidByTextAt_later rfl rfl tie2 noOwnUnsafe
end Go.Proofs.YtjdmcpaolhnejaaDoor
