/- The rules of the table as the program has them: their values, their methods, ruleOf, premiseCount, fieldsFit, namedFields. -/
import Derived.Test.YtjgmgaccmcepdaaGreatDoorStepT
import Derived.Stop.Asserts
namespace Go.Proofs.YtjgmgaccmcepdaaGreatDoor
open Go.ChangeAt Go.ChangeShapes Go.RowKit Go.WideShapes

theorem ru_cases {Q : Int → Prop} (h1 : Q 1) (h2 : Q 2) (h3 : Q 3) (h4 : Q 4) (h5 : Q 5) (h6 : Q 6) (h7 : Q 7) (h8 : Q 8) (h9 : Q 9) (h10 : Q 10) (h11 : Q 11) (h12 : Q 12) (h13 : Q 13) (h14 : Q 14) : ∀ r : Int, 1 ≤ r → r ≤ 14 → Q r := by
  intro r l1 l2
  obtain ⟨k, rfl⟩ : ∃ k : Nat, r = k := ⟨r.toNat, by omega⟩
  match k, l1, l2 with
  | 0, l1, _ => exact absurd l1 (by decide)
  | 1, _, _ => exact h1
  | 2, _, _ => exact h2
  | 3, _, _ => exact h3
  | 4, _, _ => exact h4
  | 5, _, _ => exact h5
  | 6, _, _ => exact h6
  | 7, _, _ => exact h7
  | 8, _, _ => exact h8
  | 9, _, _ => exact h9
  | 10, _, _ => exact h10
  | 11, _, _ => exact h11
  | 12, _, _ => exact h12
  | 13, _, _ => exact h13
  | 14, _, _ => exact h14
  | k + 15, _, l2 => exact absurd l2 (by omega)
def ruT (r : Int) : TypeId :=
  if r = 1 then 185 else if r = 2 then 186 else if r = 3 then 187 else if r = 4 then 188 else if r = 5 then 189 else if r = 6 then 190 else if r = 7 then 191 else if r = 8 then 192 else if r = 9 then 193 else if r = 10 then 194 else if r = 11 then 195 else if r = 12 then 196 else if r = 13 then 197 else if r = 14 then 198 else 0
def ruI (r : Int) : Bool :=
  if r = 1 then false else if r = 2 then true else if r = 3 then true else if r = 4 then true else if r = 5 then false else if r = 6 then false else if r = 7 then true else if r = 8 then true else if r = 9 then true else if r = 10 then true else if r = 11 then true else if r = 12 then false else if r = 13 then true else if r = 14 then true else false
def ruJ (r : Int) : Bool :=
  if r = 1 then false else if r = 2 then true else if r = 3 then true else if r = 4 then true else if r = 5 then false else if r = 6 then false else if r = 7 then true else if r = 8 then false else if r = 9 then false else if r = 10 then false else if r = 11 then false else if r = 12 then false else if r = 13 then true else if r = 14 then true else false
def ruF (r : Int) : Bool :=
  if r = 1 then true else if r = 2 then false else if r = 3 then false else if r = 4 then false else if r = 5 then false else if r = 6 then false else if r = 7 then false else if r = 8 then true else if r = 9 then true else if r = 10 then false else if r = 11 then false else if r = 12 then true else if r = 13 then false else if r = 14 then false else false
def ruP (r : Int) : Int :=
  if r = 1 then 0 else if r = 2 then 2 else if r = 3 then 2 else if r = 4 then 1 else if r = 5 then 0 else if r = 6 then 1 else if r = 7 then 2 else if r = 8 then 1 else if r = 9 then 1 else if r = 10 then 1 else if r = 11 then 1 else if r = 12 then 1 else if r = 13 then 1 else if r = 14 then 1 else -1

/-- ruleOf at a number of the table. -/
theorem ruleOf_any (w : World) : ∀ r : Int, 1 ≤ r → r ≤ 14 → Calls Tryz.prog 112 #[.int .i64 r] w fun e w' => e = .returned (.iface (ruT r) (.agg #[Value.bool (ruI r), Value.bool (ruJ r), Value.bool (ruF r)])) ∧ w = w' := by
  refine ru_cases ?_ ?_ ?_ ?_ ?_ ?_ ?_ ?_ ?_ ?_ ?_ ?_ ?_ ?_
  all_goals
    go_enter Tryz.func112, Tryz.ntmps112
    go_wp2
    go_ret
    exact ⟨by kernel_rfl, rfl⟩
theorem ruleOf_none (w : World) (r : Int) (h : ¬ (1 ≤ r ∧ r ≤ 14)) : Calls Tryz.prog 112 #[.int .i64 r] w fun e w' => e = .returned .nilIface ∧ w = w' := by
  have h1 : decide (r = 1) = false := decide_eq_false (by omega)
  have h2 : decide (r = 2) = false := decide_eq_false (by omega)
  have h3 : decide (r = 3) = false := decide_eq_false (by omega)
  have h4 : decide (r = 4) = false := decide_eq_false (by omega)
  have h5 : decide (r = 5) = false := decide_eq_false (by omega)
  have h6 : decide (r = 6) = false := decide_eq_false (by omega)
  have h7 : decide (r = 7) = false := decide_eq_false (by omega)
  have h8 : decide (r = 8) = false := decide_eq_false (by omega)
  have h9 : decide (r = 9) = false := decide_eq_false (by omega)
  have h10 : decide (r = 10) = false := decide_eq_false (by omega)
  have h11 : decide (r = 11) = false := decide_eq_false (by omega)
  have h12 : decide (r = 12) = false := decide_eq_false (by omega)
  have h13 : decide (r = 13) = false := decide_eq_false (by omega)
  have h14 : decide (r = 14) = false := decide_eq_false (by omega)
  go_enter Tryz.func112, Tryz.ntmps112
  go_wp2
  go_ret
  exact ⟨rfl, rfl⟩

theorem m_fits : ∀ r : Int, 1 ≤ r → r ≤ 14 → ∀ w : World, (method 412 (ruT r) (.agg #[Value.bool (ruI r), Value.bool (ruJ r), Value.bool (ruF r)]) "loop.example/g00872/impl.fieldsFit").run Tryz.prog w = .ok (261, .agg #[Value.bool (ruI r), Value.bool (ruJ r), Value.bool (ruF r)]) w :=
  ru_cases (by intro w; kernel_rfl) (by intro w; kernel_rfl) (by intro w; kernel_rfl) (by intro w; kernel_rfl) (by intro w; kernel_rfl) (by intro w; kernel_rfl) (by intro w; kernel_rfl) (by intro w; kernel_rfl) (by intro w; kernel_rfl) (by intro w; kernel_rfl) (by intro w; kernel_rfl) (by intro w; kernel_rfl) (by intro w; kernel_rfl) (by intro w; kernel_rfl)
theorem m_named : ∀ r : Int, 1 ≤ r → r ≤ 14 → ∀ w : World, (method 412 (ruT r) (.agg #[Value.bool (ruI r), Value.bool (ruJ r), Value.bool (ruF r)]) "loop.example/g00872/impl.namedFields").run Tryz.prog w = .ok (262, .agg #[Value.bool (ruI r), Value.bool (ruJ r), Value.bool (ruF r)]) w :=
  ru_cases (by intro w; kernel_rfl) (by intro w; kernel_rfl) (by intro w; kernel_rfl) (by intro w; kernel_rfl) (by intro w; kernel_rfl) (by intro w; kernel_rfl) (by intro w; kernel_rfl) (by intro w; kernel_rfl) (by intro w; kernel_rfl) (by intro w; kernel_rfl) (by intro w; kernel_rfl) (by intro w; kernel_rfl) (by intro w; kernel_rfl) (by intro w; kernel_rfl)
theorem as_unary : ∀ r : Int, 1 ≤ r → r ≤ 14 → ∀ (v : Value) (w : World), (Instr.typeAssert (.iface (ruT r) v) 116 124 true).run Tryz.prog w = .ok (if ruP r = 1 then .tuple #[.iface (ruT r) v, .bool true] else .tuple #[.nilIface, .bool false]) w :=
  ru_cases (by intro v w; first | exact run_typeAssert_hasB Tryz.underlying124 (by kernel_rfl) v 116 w | exact run_typeAssert_lacksB Tryz.underlying124 (by kernel_rfl) (by kernel_rfl) v 116 w) (by intro v w; first | exact run_typeAssert_hasB Tryz.underlying124 (by kernel_rfl) v 116 w | exact run_typeAssert_lacksB Tryz.underlying124 (by kernel_rfl) (by kernel_rfl) v 116 w) (by intro v w; first | exact run_typeAssert_hasB Tryz.underlying124 (by kernel_rfl) v 116 w | exact run_typeAssert_lacksB Tryz.underlying124 (by kernel_rfl) (by kernel_rfl) v 116 w) (by intro v w; first | exact run_typeAssert_hasB Tryz.underlying124 (by kernel_rfl) v 116 w | exact run_typeAssert_lacksB Tryz.underlying124 (by kernel_rfl) (by kernel_rfl) v 116 w) (by intro v w; first | exact run_typeAssert_hasB Tryz.underlying124 (by kernel_rfl) v 116 w | exact run_typeAssert_lacksB Tryz.underlying124 (by kernel_rfl) (by kernel_rfl) v 116 w) (by intro v w; first | exact run_typeAssert_hasB Tryz.underlying124 (by kernel_rfl) v 116 w | exact run_typeAssert_lacksB Tryz.underlying124 (by kernel_rfl) (by kernel_rfl) v 116 w) (by intro v w; first | exact run_typeAssert_hasB Tryz.underlying124 (by kernel_rfl) v 116 w | exact run_typeAssert_lacksB Tryz.underlying124 (by kernel_rfl) (by kernel_rfl) v 116 w) (by intro v w; first | exact run_typeAssert_hasB Tryz.underlying124 (by kernel_rfl) v 116 w | exact run_typeAssert_lacksB Tryz.underlying124 (by kernel_rfl) (by kernel_rfl) v 116 w) (by intro v w; first | exact run_typeAssert_hasB Tryz.underlying124 (by kernel_rfl) v 116 w | exact run_typeAssert_lacksB Tryz.underlying124 (by kernel_rfl) (by kernel_rfl) v 116 w) (by intro v w; first | exact run_typeAssert_hasB Tryz.underlying124 (by kernel_rfl) v 116 w | exact run_typeAssert_lacksB Tryz.underlying124 (by kernel_rfl) (by kernel_rfl) v 116 w) (by intro v w; first | exact run_typeAssert_hasB Tryz.underlying124 (by kernel_rfl) v 116 w | exact run_typeAssert_lacksB Tryz.underlying124 (by kernel_rfl) (by kernel_rfl) v 116 w) (by intro v w; first | exact run_typeAssert_hasB Tryz.underlying124 (by kernel_rfl) v 116 w | exact run_typeAssert_lacksB Tryz.underlying124 (by kernel_rfl) (by kernel_rfl) v 116 w) (by intro v w; first | exact run_typeAssert_hasB Tryz.underlying124 (by kernel_rfl) v 116 w | exact run_typeAssert_lacksB Tryz.underlying124 (by kernel_rfl) (by kernel_rfl) v 116 w) (by intro v w; first | exact run_typeAssert_hasB Tryz.underlying124 (by kernel_rfl) v 116 w | exact run_typeAssert_lacksB Tryz.underlying124 (by kernel_rfl) (by kernel_rfl) v 116 w)
theorem as_binary : ∀ r : Int, 1 ≤ r → r ≤ 14 → ∀ (v : Value) (w : World), (Instr.typeAssert (.iface (ruT r) v) 116 128 true).run Tryz.prog w = .ok (if ruP r = 2 then .tuple #[.iface (ruT r) v, .bool true] else .tuple #[.nilIface, .bool false]) w :=
  ru_cases (by intro v w; first | exact run_typeAssert_hasB Tryz.underlying128 (by kernel_rfl) v 116 w | exact run_typeAssert_lacksB Tryz.underlying128 (by kernel_rfl) (by kernel_rfl) v 116 w) (by intro v w; first | exact run_typeAssert_hasB Tryz.underlying128 (by kernel_rfl) v 116 w | exact run_typeAssert_lacksB Tryz.underlying128 (by kernel_rfl) (by kernel_rfl) v 116 w) (by intro v w; first | exact run_typeAssert_hasB Tryz.underlying128 (by kernel_rfl) v 116 w | exact run_typeAssert_lacksB Tryz.underlying128 (by kernel_rfl) (by kernel_rfl) v 116 w) (by intro v w; first | exact run_typeAssert_hasB Tryz.underlying128 (by kernel_rfl) v 116 w | exact run_typeAssert_lacksB Tryz.underlying128 (by kernel_rfl) (by kernel_rfl) v 116 w) (by intro v w; first | exact run_typeAssert_hasB Tryz.underlying128 (by kernel_rfl) v 116 w | exact run_typeAssert_lacksB Tryz.underlying128 (by kernel_rfl) (by kernel_rfl) v 116 w) (by intro v w; first | exact run_typeAssert_hasB Tryz.underlying128 (by kernel_rfl) v 116 w | exact run_typeAssert_lacksB Tryz.underlying128 (by kernel_rfl) (by kernel_rfl) v 116 w) (by intro v w; first | exact run_typeAssert_hasB Tryz.underlying128 (by kernel_rfl) v 116 w | exact run_typeAssert_lacksB Tryz.underlying128 (by kernel_rfl) (by kernel_rfl) v 116 w) (by intro v w; first | exact run_typeAssert_hasB Tryz.underlying128 (by kernel_rfl) v 116 w | exact run_typeAssert_lacksB Tryz.underlying128 (by kernel_rfl) (by kernel_rfl) v 116 w) (by intro v w; first | exact run_typeAssert_hasB Tryz.underlying128 (by kernel_rfl) v 116 w | exact run_typeAssert_lacksB Tryz.underlying128 (by kernel_rfl) (by kernel_rfl) v 116 w) (by intro v w; first | exact run_typeAssert_hasB Tryz.underlying128 (by kernel_rfl) v 116 w | exact run_typeAssert_lacksB Tryz.underlying128 (by kernel_rfl) (by kernel_rfl) v 116 w) (by intro v w; first | exact run_typeAssert_hasB Tryz.underlying128 (by kernel_rfl) v 116 w | exact run_typeAssert_lacksB Tryz.underlying128 (by kernel_rfl) (by kernel_rfl) v 116 w) (by intro v w; first | exact run_typeAssert_hasB Tryz.underlying128 (by kernel_rfl) v 116 w | exact run_typeAssert_lacksB Tryz.underlying128 (by kernel_rfl) (by kernel_rfl) v 116 w) (by intro v w; first | exact run_typeAssert_hasB Tryz.underlying128 (by kernel_rfl) v 116 w | exact run_typeAssert_lacksB Tryz.underlying128 (by kernel_rfl) (by kernel_rfl) v 116 w) (by intro v w; first | exact run_typeAssert_hasB Tryz.underlying128 (by kernel_rfl) v 116 w | exact run_typeAssert_lacksB Tryz.underlying128 (by kernel_rfl) (by kernel_rfl) v 116 w)
theorem ruP_range : ∀ r : Int, 1 ≤ r → r ≤ 14 → ruP r = 0 ∨ ruP r = 1 ∨ ruP r = 2 :=
  ru_cases (by decide) (by decide) (by decide) (by decide) (by decide) (by decide) (by decide) (by decide) (by decide) (by decide) (by decide) (by decide) (by decide) (by decide)

/-- premiseCount: how many premises a rule has. -/
theorem premiseCount_any (r : Int) (h1 : 1 ≤ r) (h2 : r ≤ 14) (v : Value) (w : World) : Calls Tryz.prog 111 #[.iface (ruT r) v] w fun e w' => e = .returned (.int .i64 (ruP r)) ∧ w = w' := by
  have hu := as_unary r h1 h2 v
  have hb := as_binary r h1 h2 v
  generalize ruT r = T at *
  rcases ruP_range r h1 h2 with e | e | e
  all_goals
    rw [e] at hu hb
    rw [e]
    simp only [reduceIte, Int.reduceEq] at hu hb
    go_enter Tryz.func111, Tryz.ntmps111
    go_wp2
    go_ret
    exact ⟨rfl, rfl⟩


/-- namedFields: a rule's flags. -/
theorem namedFields_any (x y z : Bool) (w : World) : Calls Tryz.prog 262 #[.agg #[.bool x, .bool y, .bool z]] w fun e w' => e = .returned (.agg #[.bool x, .bool y, .bool z]) ∧ Below w.heap.size w w' := by
  obtain ⟨w2, hw2⟩ : ∃ w2, w2 = (w.alloc (.cells #[Value.bool x, Value.bool y, Value.bool z] 163)).alloc (.cells #[Value.bool x, Value.bool y, Value.bool z] 163) := ⟨_, rfl⟩
  obtain ⟨hb, p0, p1, hsz⟩ := two_any w (.cells #[Value.bool x, Value.bool y, Value.bool z] 163) (.cells #[Value.bool x, Value.bool y, Value.bool z] 163)
  rw [← hw2] at hb p0 p1 hsz
  go_enter Tryz.func262, Tryz.ntmps262
  go_wp2
  (try simp only [Exit.inBlock, Exit.then])
  rw [← hw2]
  refine bodyPost_ret (results_cell_row rfl _ _ (w.heap.size + 1) _ _ (0, 0) _ rfl p1 Tryz.underlying163 rfl (by kernel_rfl)) rfl ?_
  exact ⟨rfl, hb⟩
/-- indicesOf and unnamedIndices. -/
theorem indicesOf_any (r a b i j : Int) (A : Option Addr) (n c : Nat) (w : World) : Calls Tryz.prog 135 #[Value.agg #[Value.int .i64 r, Value.int .i64 a, Value.int .i64 b, Value.int .i64 i, Value.int .i64 j, Value.slice A n c]] w fun e w' => e = .returned (.agg #[.int .i64 a, .int .i64 b, .int .i64 i, .int .i64 j]) ∧ Below w.heap.size w w' := by
  obtain ⟨w2, hw2⟩ : ∃ w2, w2 = (w.alloc (.cells #[Value.int .i64 r, Value.int .i64 a, Value.int .i64 b, Value.int .i64 i, Value.int .i64 j, Value.slice A n c] 30)).alloc (.cells #[Value.int .i64 a, Value.int .i64 b, Value.int .i64 i, Value.int .i64 j] 147) := ⟨_, rfl⟩
  obtain ⟨hb, p0, p1, hsz⟩ := two_any w (.cells #[Value.int .i64 r, Value.int .i64 a, Value.int .i64 b, Value.int .i64 i, Value.int .i64 j, Value.slice A n c] 30) (.cells #[Value.int .i64 a, Value.int .i64 b, Value.int .i64 i, Value.int .i64 j] 147)
  rw [← hw2] at hb p0 p1 hsz
  go_enter Tryz.func135, Tryz.ntmps135
  go_wp2
  (try simp only [Exit.inBlock, Exit.then])
  rw [← hw2]
  refine bodyPost_ret (results_cell_row rfl _ _ (w.heap.size + 1) _ _ (0, 0) _ rfl p1 Tryz.underlying147 rfl (by kernel_rfl)) rfl ?_
  exact ⟨rfl, hb⟩
theorem unnamedIndices_any (w : World) : Calls Tryz.prog 136 #[] w fun e w' => e = .returned (.agg #[.int .i64 (-1), .int .i64 (-1), .int .i64 0, .int .i64 0]) ∧ Below w.heap.size w w' := by
  have hb := box_any w (.cells #[Value.int .i64 (-1), Value.int .i64 (-1), Value.int .i64 0, Value.int .i64 0] 147)
  have p1 : (w.alloc (.cells #[Value.int .i64 (-1), Value.int .i64 (-1), Value.int .i64 0, Value.int .i64 0] 147)).heap[w.heap.size]? = some (.cells #[Value.int .i64 (-1), Value.int .i64 (-1), Value.int .i64 0, Value.int .i64 0] 147 (0, 0)) := heap_alloc_new _ _
  go_enter Tryz.func136, Tryz.ntmps136
  go_wp2
  (try simp only [Exit.inBlock, Exit.then])
  refine bodyPost_ret (results_cell_row rfl _ _ w.heap.size _ _ (0, 0) _ rfl p1 Tryz.underlying147 rfl (by kernel_rfl)) rfl ?_
  exact ⟨rfl, hb⟩
end Go.Proofs.YtjgmgaccmcepdaaGreatDoor
