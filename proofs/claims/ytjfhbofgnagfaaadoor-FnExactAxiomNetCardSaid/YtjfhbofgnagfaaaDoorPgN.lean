/- Links compared. -/
import Derived.Test.YtjfhbofgnagfaaaDoorPgA
import Derived.Laws.StructEq
namespace Go.Proofs.YtjfhbofgnagfaaaDoor
set_option linter.unusedSimpArgs false
set_option linter.unusedVariables false
open Go.ChangeAt Go.ChangeShapes Go.RowKit Go.WideShapes

theorem neq_link (k a b c z : Int) (w : World) : (binOp .neq 75 (.agg #[.int .i64 k, .int .i64 a, .int .i64 b, .int .i64 c]) (.agg #[.int .i64 k, .int .i64 a, .int .i64 b, .int .i64 z])).run Tryd.prog w = .ok (.bool (!(c == z))) w := by
  have hu : Tryd.prog.underlying 75 = some (.struct (Tryd.prog.fieldsOf 75)) := by kernel_rfl
  have hh : Tryd.prog.stoodInHeld 75 = false := by kernel_rfl
  have he := Tryd.underlying2
  have hm : (Tryd.prog.fieldsOf 75).toList.map (fun f => (f.name, f.type, f.offset)) = [("Kind", 2, 0), ("A", 2, 1), ("B", 2, 2), ("C", 2, 3)] := by kernel_rfl
  rw [run_neq_struct, run_equalIn_struct w 9999 _ _ _ hu hh]
  generalize (Tryd.prog.fieldsOf 75).toList = fs at hm ⊢
  rcases fs with _ | ⟨f0, _ | ⟨f1, _ | ⟨f2, _ | ⟨f3, _ | ⟨f4, t⟩⟩⟩⟩⟩ <;> simp only [List.map_nil, List.map_cons, List.cons.injEq, Prod.mk.injEq, reduceCtorEq, and_false, false_and, List.nil_eq, and_true] at hm
  obtain ⟨⟨n0, t0, o0⟩, ⟨n1, t1, o1⟩, ⟨n2, t2, o2⟩, n3, t3, o3⟩ := hm
  have px : ∀ (i : Nat) (x0 x1 x2 x3 : Int), i < 4 → (part 2 #[.int .i64 x0, .int .i64 x1, .int .i64 x2, .int .i64 x3] i).run Tryd.prog w = .ok (.int .i64 (([x0, x1, x2, x3] : List Int).getD i 0)) w := fun i x0 x1 x2 x3 hi => by
    rcases i with _ | _ | _ | _ | i
    · simp [part, isAgg, run_underlying he]
    · simp [part, isAgg, run_underlying he]
    · simp [part, isAgg, run_underlying he]
    · simp [part, isAgg, run_underlying he]
    · omega
  have pe : ∀ x y : Int, (Op.equalIn 9999 2 (.int .i64 x) (.int .i64 y)).run Tryd.prog w = .ok (x == y) w := fun x y => run_equalIn_int w 9998 2 .i64 .i64 x y he
  have q0 := fun x0 x1 x2 x3 => px 0 x0 x1 x2 x3 (by omega)
  have q1 := fun x0 x1 x2 x3 => px 1 x0 x1 x2 x3 (by omega)
  have q2 := fun x0 x1 x2 x3 => px 2 x0 x1 x2 x3 (by omega)
  have q3 := fun x0 x1 x2 x3 => px 3 x0 x1 x2 x3 (by omega)
  have e0 : ("Kind" ≠ "_") = True := eq_true (by decide)
  have e1 : ("A" ≠ "_") = True := eq_true (by decide)
  have e2 : ("B" ≠ "_") = True := eq_true (by decide)
  have e3 : ("C" ≠ "_") = True := eq_true (by decide)
  simp only [Op.eqFields, n0, t0, o0, n1, t1, o1, n2, t2, o2, n3, t3, o3, e0, e1, e2, e3, if_true, Sem.run_bind, Sem.run_ite, q0, q1, q2, q3, pe, Result.andThen_ok, List.getD_cons_zero, List.getD_cons_succ]
  cases hb : (c == z) <;> simp [hb]
end Go.Proofs.YtjfhbofgnagfaaaDoor
