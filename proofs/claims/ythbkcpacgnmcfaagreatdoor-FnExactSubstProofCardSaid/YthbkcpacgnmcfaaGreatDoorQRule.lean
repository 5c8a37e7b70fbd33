/- The rules of the table as the program has them: their values, their methods, ruleOf, premiseCount, fieldsFit, namedFields. What the program's rules leave; helpers of their walks. PlainStep of the program and of the model. -/
import Derived.Test.YthbkcpacgnmcfaaGreatDoorQCopyS
import Derived.Stop.Asserts
import Derived.Test.YthbkcpacgnmcfaaGreatDoorQCkA
import Derived.Deep.RegionLaw
import Derived.Deep.AppendLies
import Derived.Deep.RegionHeldLaw
import Derived.Deep.MidRow
namespace Go.Proofs.YthbkcpacgnmcfaaGreatDoor
set_option linter.unusedSimpArgs false
set_option linter.unusedVariables false
section
open Go.ChangeAt Go.ChangeShapes Go.RowKit Go.WideShapes

theorem ru_cases {Q : Int → Prop} (h1 : Q 1) (h2 : Q 2) (h3 : Q 3) (h4 : Q 4) (h5 : Q 5) (h6 : Q 6) (h7 : Q 7) (h8 : Q 8) (h9 : Q 9) (h10 : Q 10) (h11 : Q 11) (h12 : Q 12) (h13 : Q 13) (h14 : Q 14) : ∀ r : Int, 1 ≤ r → r ≤ 14 → Q r := by
  intro r l1 l2
  obtain ⟨k, rfl⟩ : ∃ k : Nat, r = k := ⟨r.toNat, by omega⟩
  match k, l1, l2 with
  | 0, l1, _ => exact absurd l1 (by decide)
  | 1, _, _ => exact h1
  | 2, _, _ => exact h2
  | 3, _, _ => exact h3
  | 4, _, _ => exact h4
  | 5, _, _ => exact h5
  | 6, _, _ => exact h6
  | 7, _, _ => exact h7
  | 8, _, _ => exact h8
  | 9, _, _ => exact h9
  | 10, _, _ => exact h10
  | 11, _, _ => exact h11
  | 12, _, _ => exact h12
  | 13, _, _ => exact h13
  | 14, _, _ => exact h14
  | k + 15, _, l2 => exact absurd l2 (by omega)
def ruT (r : Int) : TypeId :=
  if r = 1 then 92 else if r = 2 then 93 else if r = 3 then 94 else if r = 4 then 95 else if r = 5 then 96 else if r = 6 then 97 else if r = 7 then 98 else if r = 8 then 99 else if r = 9 then 100 else if r = 10 then 101 else if r = 11 then 102 else if r = 12 then 103 else if r = 13 then 104 else if r = 14 then 105 else 0
def ruI (r : Int) : Bool :=
  if r = 1 then false else if r = 2 then true else if r = 3 then true else if r = 4 then true else if r = 5 then false else if r = 6 then false else if r = 7 then true else if r = 8 then true else if r = 9 then true else if r = 10 then true else if r = 11 then true else if r = 12 then false else if r = 13 then true else if r = 14 then true else false
def ruJ (r : Int) : Bool :=
  if r = 1 then false else if r = 2 then true else if r = 3 then true else if r = 4 then true else if r = 5 then false else if r = 6 then false else if r = 7 then true else if r = 8 then false else if r = 9 then false else if r = 10 then false else if r = 11 then false else if r = 12 then false else if r = 13 then true else if r = 14 then true else false
def ruF (r : Int) : Bool :=
  if r = 1 then true else if r = 2 then false else if r = 3 then false else if r = 4 then false else if r = 5 then false else if r = 6 then false else if r = 7 then false else if r = 8 then true else if r = 9 then true else if r = 10 then false else if r = 11 then false else if r = 12 then true else if r = 13 then false else if r = 14 then false else false
def ruP (r : Int) : Int :=
  if r = 1 then 0 else if r = 2 then 2 else if r = 3 then 2 else if r = 4 then 1 else if r = 5 then 0 else if r = 6 then 1 else if r = 7 then 2 else if r = 8 then 1 else if r = 9 then 1 else if r = 10 then 1 else if r = 11 then 1 else if r = 12 then 1 else if r = 13 then 1 else if r = 14 then 1 else -1

/-- ruleOf at a number of the table. -/
theorem ruleOf_any (w : World) : ∀ r : Int, 1 ≤ r → r ≤ 14 → Calls Tryz.prog 59 #[.int .i64 r] w fun e w' => e = .returned (.iface (ruT r) (.agg #[Value.bool (ruI r), Value.bool (ruJ r), Value.bool (ruF r)])) ∧ w = w' := by
  refine ru_cases ?_ ?_ ?_ ?_ ?_ ?_ ?_ ?_ ?_ ?_ ?_ ?_ ?_ ?_
  all_goals
    go_enter Tryz.func59, Tryz.ntmps59
    go_wp2
    go_ret
    exact ⟨by kernel_rfl, rfl⟩
theorem ruleOf_none (w : World) (r : Int) (h : ¬ (1 ≤ r ∧ r ≤ 14)) : Calls Tryz.prog 59 #[.int .i64 r] w fun e w' => e = .returned .nilIface ∧ w = w' := by
  have h1 : decide (r = 1) = false := decide_eq_false (by omega)
  have h2 : decide (r = 2) = false := decide_eq_false (by omega)
  have h3 : decide (r = 3) = false := decide_eq_false (by omega)
  have h4 : decide (r = 4) = false := decide_eq_false (by omega)
  have h5 : decide (r = 5) = false := decide_eq_false (by omega)
  have h6 : decide (r = 6) = false := decide_eq_false (by omega)
  have h7 : decide (r = 7) = false := decide_eq_false (by omega)
  have h8 : decide (r = 8) = false := decide_eq_false (by omega)
  have h9 : decide (r = 9) = false := decide_eq_false (by omega)
  have h10 : decide (r = 10) = false := decide_eq_false (by omega)
  have h11 : decide (r = 11) = false := decide_eq_false (by omega)
  have h12 : decide (r = 12) = false := decide_eq_false (by omega)
  have h13 : decide (r = 13) = false := decide_eq_false (by omega)
  have h14 : decide (r = 14) = false := decide_eq_false (by omega)
  go_enter Tryz.func59, Tryz.ntmps59
  go_wp2
  go_ret
  exact ⟨rfl, rfl⟩

theorem m_fits : ∀ r : Int, 1 ≤ r → r ≤ 14 → ∀ w : World, (method 251 (ruT r) (.agg #[Value.bool (ruI r), Value.bool (ruJ r), Value.bool (ruF r)]) "loop.example/g00872/impl.fieldsFit").run Tryz.prog w = .ok (96, .agg #[Value.bool (ruI r), Value.bool (ruJ r), Value.bool (ruF r)]) w :=
  ru_cases (by intro w; kernel_rfl) (by intro w; kernel_rfl) (by intro w; kernel_rfl) (by intro w; kernel_rfl) (by intro w; kernel_rfl) (by intro w; kernel_rfl) (by intro w; kernel_rfl) (by intro w; kernel_rfl) (by intro w; kernel_rfl) (by intro w; kernel_rfl) (by intro w; kernel_rfl) (by intro w; kernel_rfl) (by intro w; kernel_rfl) (by intro w; kernel_rfl)
theorem as_unary : ∀ r : Int, 1 ≤ r → r ≤ 14 → ∀ (v : Value) (w : World), (Instr.typeAssert (.iface (ruT r) v) 76 107 true).run Tryz.prog w = .ok (if ruP r = 1 then .tuple #[.iface (ruT r) v, .bool true] else .tuple #[.nilIface, .bool false]) w :=
  ru_cases (by intro v w; first | exact run_typeAssert_hasB Tryz.underlying107 (by kernel_rfl) v 76 w | exact run_typeAssert_lacksB Tryz.underlying107 (by kernel_rfl) (by kernel_rfl) v 76 w) (by intro v w; first | exact run_typeAssert_hasB Tryz.underlying107 (by kernel_rfl) v 76 w | exact run_typeAssert_lacksB Tryz.underlying107 (by kernel_rfl) (by kernel_rfl) v 76 w) (by intro v w; first | exact run_typeAssert_hasB Tryz.underlying107 (by kernel_rfl) v 76 w | exact run_typeAssert_lacksB Tryz.underlying107 (by kernel_rfl) (by kernel_rfl) v 76 w) (by intro v w; first | exact run_typeAssert_hasB Tryz.underlying107 (by kernel_rfl) v 76 w | exact run_typeAssert_lacksB Tryz.underlying107 (by kernel_rfl) (by kernel_rfl) v 76 w) (by intro v w; first | exact run_typeAssert_hasB Tryz.underlying107 (by kernel_rfl) v 76 w | exact run_typeAssert_lacksB Tryz.underlying107 (by kernel_rfl) (by kernel_rfl) v 76 w) (by intro v w; first | exact run_typeAssert_hasB Tryz.underlying107 (by kernel_rfl) v 76 w | exact run_typeAssert_lacksB Tryz.underlying107 (by kernel_rfl) (by kernel_rfl) v 76 w) (by intro v w; first | exact run_typeAssert_hasB Tryz.underlying107 (by kernel_rfl) v 76 w | exact run_typeAssert_lacksB Tryz.underlying107 (by kernel_rfl) (by kernel_rfl) v 76 w) (by intro v w; first | exact run_typeAssert_hasB Tryz.underlying107 (by kernel_rfl) v 76 w | exact run_typeAssert_lacksB Tryz.underlying107 (by kernel_rfl) (by kernel_rfl) v 76 w) (by intro v w; first | exact run_typeAssert_hasB Tryz.underlying107 (by kernel_rfl) v 76 w | exact run_typeAssert_lacksB Tryz.underlying107 (by kernel_rfl) (by kernel_rfl) v 76 w) (by intro v w; first | exact run_typeAssert_hasB Tryz.underlying107 (by kernel_rfl) v 76 w | exact run_typeAssert_lacksB Tryz.underlying107 (by kernel_rfl) (by kernel_rfl) v 76 w) (by intro v w; first | exact run_typeAssert_hasB Tryz.underlying107 (by kernel_rfl) v 76 w | exact run_typeAssert_lacksB Tryz.underlying107 (by kernel_rfl) (by kernel_rfl) v 76 w) (by intro v w; first | exact run_typeAssert_hasB Tryz.underlying107 (by kernel_rfl) v 76 w | exact run_typeAssert_lacksB Tryz.underlying107 (by kernel_rfl) (by kernel_rfl) v 76 w) (by intro v w; first | exact run_typeAssert_hasB Tryz.underlying107 (by kernel_rfl) v 76 w | exact run_typeAssert_lacksB Tryz.underlying107 (by kernel_rfl) (by kernel_rfl) v 76 w) (by intro v w; first | exact run_typeAssert_hasB Tryz.underlying107 (by kernel_rfl) v 76 w | exact run_typeAssert_lacksB Tryz.underlying107 (by kernel_rfl) (by kernel_rfl) v 76 w)
theorem as_binary : ∀ r : Int, 1 ≤ r → r ≤ 14 → ∀ (v : Value) (w : World), (Instr.typeAssert (.iface (ruT r) v) 76 109 true).run Tryz.prog w = .ok (if ruP r = 2 then .tuple #[.iface (ruT r) v, .bool true] else .tuple #[.nilIface, .bool false]) w :=
  ru_cases (by intro v w; first | exact run_typeAssert_hasB Tryz.underlying109 (by kernel_rfl) v 76 w | exact run_typeAssert_lacksB Tryz.underlying109 (by kernel_rfl) (by kernel_rfl) v 76 w) (by intro v w; first | exact run_typeAssert_hasB Tryz.underlying109 (by kernel_rfl) v 76 w | exact run_typeAssert_lacksB Tryz.underlying109 (by kernel_rfl) (by kernel_rfl) v 76 w) (by intro v w; first | exact run_typeAssert_hasB Tryz.underlying109 (by kernel_rfl) v 76 w | exact run_typeAssert_lacksB Tryz.underlying109 (by kernel_rfl) (by kernel_rfl) v 76 w) (by intro v w; first | exact run_typeAssert_hasB Tryz.underlying109 (by kernel_rfl) v 76 w | exact run_typeAssert_lacksB Tryz.underlying109 (by kernel_rfl) (by kernel_rfl) v 76 w) (by intro v w; first | exact run_typeAssert_hasB Tryz.underlying109 (by kernel_rfl) v 76 w | exact run_typeAssert_lacksB Tryz.underlying109 (by kernel_rfl) (by kernel_rfl) v 76 w) (by intro v w; first | exact run_typeAssert_hasB Tryz.underlying109 (by kernel_rfl) v 76 w | exact run_typeAssert_lacksB Tryz.underlying109 (by kernel_rfl) (by kernel_rfl) v 76 w) (by intro v w; first | exact run_typeAssert_hasB Tryz.underlying109 (by kernel_rfl) v 76 w | exact run_typeAssert_lacksB Tryz.underlying109 (by kernel_rfl) (by kernel_rfl) v 76 w) (by intro v w; first | exact run_typeAssert_hasB Tryz.underlying109 (by kernel_rfl) v 76 w | exact run_typeAssert_lacksB Tryz.underlying109 (by kernel_rfl) (by kernel_rfl) v 76 w) (by intro v w; first | exact run_typeAssert_hasB Tryz.underlying109 (by kernel_rfl) v 76 w | exact run_typeAssert_lacksB Tryz.underlying109 (by kernel_rfl) (by kernel_rfl) v 76 w) (by intro v w; first | exact run_typeAssert_hasB Tryz.underlying109 (by kernel_rfl) v 76 w | exact run_typeAssert_lacksB Tryz.underlying109 (by kernel_rfl) (by kernel_rfl) v 76 w) (by intro v w; first | exact run_typeAssert_hasB Tryz.underlying109 (by kernel_rfl) v 76 w | exact run_typeAssert_lacksB Tryz.underlying109 (by kernel_rfl) (by kernel_rfl) v 76 w) (by intro v w; first | exact run_typeAssert_hasB Tryz.underlying109 (by kernel_rfl) v 76 w | exact run_typeAssert_lacksB Tryz.underlying109 (by kernel_rfl) (by kernel_rfl) v 76 w) (by intro v w; first | exact run_typeAssert_hasB Tryz.underlying109 (by kernel_rfl) v 76 w | exact run_typeAssert_lacksB Tryz.underlying109 (by kernel_rfl) (by kernel_rfl) v 76 w) (by intro v w; first | exact run_typeAssert_hasB Tryz.underlying109 (by kernel_rfl) v 76 w | exact run_typeAssert_lacksB Tryz.underlying109 (by kernel_rfl) (by kernel_rfl) v 76 w)
theorem ruP_range : ∀ r : Int, 1 ≤ r → r ≤ 14 → ruP r = 0 ∨ ruP r = 1 ∨ ruP r = 2 :=
  ru_cases (by decide) (by decide) (by decide) (by decide) (by decide) (by decide) (by decide) (by decide) (by decide) (by decide) (by decide) (by decide) (by decide) (by decide)

/-- premiseCount: how many premises a rule has. -/
theorem premiseCount_any (r : Int) (h1 : 1 ≤ r) (h2 : r ≤ 14) (v : Value) (w : World) : Calls Tryz.prog 60 #[.iface (ruT r) v] w fun e w' => e = .returned (.int .i64 (ruP r)) ∧ w = w' := by
  have hu := as_unary r h1 h2 v
  have hb := as_binary r h1 h2 v
  generalize ruT r = T at *
  rcases ruP_range r h1 h2 with e | e | e
  all_goals
    rw [e] at hu hb
    rw [e]
    simp only [reduceIte, Int.reduceEq] at hu hb
    go_enter Tryz.func60, Tryz.ntmps60
    go_wp2
    go_ret
    exact ⟨rfl, rfl⟩
end
section
open Go.ChangeAt Go.ChangeShapes Go.RowKit Go.WideShapes

theorem rd_lit {w : World} {g : Nat} {x : Int} (h : w.heap[g]? = some (.cells #[Value.int .i64 x] 2 (0, 0))) : RdI w w.heap.size (some ⟨g, 0, none⟩) 1 [x] :=
  ⟨rfl, fun _ => ⟨g, 0, rfl, (Array.getElem?_eq_some_iff.1 h).1, fun j hj => by
    have e : j = 0 := by simp at hj; omega
    subst e
    exact cell_of_row _ _ 0 _ _ _ h⟩⟩
theorem rd_lit2 {w : World} {g : Nat} {x y : Int} (h : w.heap[g]? = some (.cells #[Value.int .i64 x, Value.int .i64 y] 2 (0, 0))) : RdI w w.heap.size (some ⟨g, 0, none⟩) 2 [x, y] :=
  ⟨rfl, fun _ => ⟨g, 0, rfl, (Array.getElem?_eq_some_iff.1 h).1, fun j hj => by
    have e : j = 0 ∨ j = 1 := by omega
    rcases e with rfl | rfl
    · exact cell_of_row _ _ 0 _ _ _ h
    · exact cell_of_row _ _ 1 _ _ _ h⟩⟩
theorem step_append_o {P : Program} {w : World} {ops : Array Oper} {o : Oper} {a : Act} {K : Act → World → Prop} {Q : Exit → Act → World → Prop} {E : Prop} (hgd : o.guard = none) (s x : Operand) (t : TypeId)
    (ho : o.op = .call { callee := .builtin .append, args := #[s, x], argTypes := #[t, t] })
    (base : Nat) (e : TypeId) (i : TypeInfo) (z : Value) (size bytes : Nat) (ht : P.underlying t = some (.slice e)) (hi : P.info? e = some i) (hz : i.zero = some z)
    (hsize : i.size = size) (hby : i.bytes = bytes) (hzs : z.cells.size = size) (hsz : 0 < size)
    (v : Value) (n : Nat) (xs : List Value) (hs : a.eval s = v) (hown : w.ownsRow base e size v n xs)
    (ad : Addr) (m c : Nat) (news : List Value) (hx : a.eval x = .slice (some ad) m c) (hl : news.length = m * size) (hnews : ∀ j u, news[j]? = some u → w.cell? (ad.add j) = some u) (h1 : ∀ u ∈ news, u.oneCell' = true)
    (h63 : n + m ≤ maxLen) (hbytes : (n + m) * bytes ≤ 140737488355328) (hbase : base ≤ w.heap.size)
    (h : ∀ v' w', w'.ownsRow base e size v' (n + m) (xs ++ news) → w.grownBy w' v.ownBlock → (v' = .slice none 0 0 ↔ v = .slice none 0 0 ∧ m = 0) → K (a.put o.dst v') w') :
    if Region.wanted o (yielded ops a.tmps) = true then Oper.wp P o a w K Q else E := by
  have hw : Region.wanted o (yielded ops a.tmps) = true := by simp [Region.wanted, hgd]
  rw [if_pos hw]
  exact wp_append_own w s x t ho base e i z size bytes ht hi hz hsize hby hzs hsz v n xs hs hown ad m c news hx hl hnews h1 h63 hbytes hbase h
theorem own_ord {w1 w2 : World} {b1 b2 n1 n2 : Nat} {e1 e2 : TypeId} {v1 v2 : Value} {xs ys : List Value} (h1 : w1.ownsRow b1 e1 1 v1 n1 xs) (h2 : w2.ownsRow b2 e2 1 v2 n2 ys) (hB : w1.heap.size ≤ b2) : v2.ownBlock = none ∨ v2.ownBlock ≠ v1.ownBlock := by
  cases hv : v2.ownBlock with
  | none => exact .inl rfl
  | some b =>
    right
    intro e
    have k1 := (h1.lt b e.symm).2
    have k2 := (h2.lt b hv).1
    omega
theorem formOf1_any (op : Int) (g : Nat) (A0 : Option Addr) (c0 : Nat) (p : List Int) (w : World) (hh : w.heap[g]? = some (.cells #[.slice A0 p.length c0] 36 (0, 0))) (h0 : RdI w w.heap.size A0 p.length p) (hp : 0 < p.length ∧ p.length ≤ 100) :
    Calls Tryz.prog 109 #[.int .i64 op, .slice (some ⟨g, 0, none⟩) 1 1] w (Gives w (op :: p)) := by
  have h := formOf_any op g 1 1 [.slice A0 p.length c0] [p] w rfl (by decide) (by decide) (fun i hi => by
    have e : i = 0 := by omega
    subst e
    exact cell_of_row _ _ 0 _ _ _ hh) (Array.getElem?_eq_some_iff.1 hh).1 (fun i hi => by
    have e : i = 0 := by omega
    subst e
    exact Part.of_rd h0 hp.1) (by simp; omega) (by simp; omega)
  rw [show [p].flatten = p by simp] at h
  exact h
theorem formOf2_any (op : Int) (g : Nat) (A0 A1 : Option Addr) (c0 c1 : Nat) (p q : List Int) (w : World) (hh : w.heap[g]? = some (.cells #[.slice A0 p.length c0, .slice A1 q.length c1] 36 (0, 0))) (h0 : RdI w w.heap.size A0 p.length p) (h1 : RdI w w.heap.size A1 q.length q) (hp : 0 < p.length ∧ p.length ≤ 100) (hq : 0 < q.length ∧ q.length ≤ 100) :
    Calls Tryz.prog 109 #[.int .i64 op, .slice (some ⟨g, 0, none⟩) 2 2] w (Gives w (op :: (p ++ q))) := by
  have h := formOf_any op g 2 2 [.slice A0 p.length c0, .slice A1 q.length c1] [p, q] w rfl (by decide) (by decide) (fun i hi => by
    have e : i = 0 ∨ i = 1 := by omega
    rcases e with rfl | rfl
    · exact cell_of_row _ _ 0 _ _ _ hh
    · exact cell_of_row _ _ 1 _ _ _ hh) (Array.getElem?_eq_some_iff.1 hh).1 (fun i hi => by
    have e : i = 0 ∨ i = 1 := by omega
    rcases e with rfl | rfl
    · exact Part.of_rd h0 hp.1
    · exact Part.of_rd h1 hq.1) (by simp; omega) (by simp; omega)
  rw [show [p, q].flatten = p ++ q by simp] at h
  exact h
/-- What a rule's method leaves: the formulas of the conclusion and CkOk, or another code. -/
def GivesD (w : World) (r : Option (List (List Int))) (e : Ending) (w' : World) : Prop :=
  Below w.heap.size w w' ∧ match r with
    | some R => ∃ A c vs, e = .returned (.tuple #[.slice A R.length c, .int .i64 0]) ∧ w'.ownsRow w.heap.size 36 1 (.slice A R.length c) R.length vs ∧ RdV w' vs R
    | none => ∃ k : Int, k ≠ 0 ∧ e = .returned (.tuple #[.slice none 0 0, .int .i64 k])
/-- The row that an append of one formula leaves. -/
theorem rule_out {w wx wf w7 : World} {n c cX : Nat} {A AX : Option Addr} {vs : List Value} {R : List (List Int)} {X : List Int} {v7 : Value} (hx : Below w.heap.size w wx) (hq : Below wx.heap.size wx wf) (hn : n = R.length)
    (own : wf.ownsRow wx.heap.size 36 1 (.slice A n c) n vs) (rd : RdV wx vs R) (ox : RdI wf wf.heap.size AX X.length X) (hne : (Value.slice AX X.length cX).ownBlock = none ∨ (Value.slice AX X.length cX).ownBlock ≠ (Value.slice A n c).ownBlock) (hcX : X.length ≤ cX)
    (hown7 : w7.ownsRow wx.heap.size 36 1 v7 (n + 1) (vs ++ [.slice AX X.length cX])) (hgrow7 : wf.grownBy w7 (Value.slice A n c).ownBlock) :
    ∃ A7 c7, v7 = .slice A7 (R ++ [X]).length c7 ∧ Below w.heap.size w w7 ∧ w7.ownsRow w.heap.size 36 1 (.slice A7 (R ++ [X]).length c7) (R ++ [X]).length (vs ++ [.slice AX X.length cX]) ∧ RdV w7 (vs ++ [.slice AX X.length cX]) (R ++ [X]) := by
  have hs := hq.size
  obtain ⟨A7, c7, rfl, hb7, ho7⟩ := rowv_more (m := 1) hq hs own hown7 hgrow7
  have e : (R ++ [X]).length = n + 1 := by rw [List.length_append, hn]; rfl
  rw [e]
  have hsz : wf.heap.size ≤ w7.heap.size := hgrow7.size
  refine ⟨A7, c7, rfl, hx.trans (hb7.mono hx.size), own_base ho7 hx.size, RdV.app (RdV.below rd hb7) (RdV.single ?_ hcX)⟩
  refine ⟨ox.1, fun h0 => ?_⟩
  obtain ⟨b, off, e1, hb, hc⟩ := ox.2 h0
  refine ⟨b, off, e1, Nat.lt_of_lt_of_le hb hsz, fun j hj => ?_⟩
  rw [← hc j hj]
  refine World.cell?_of_block (hgrow7.block b hb ?_)
  rcases hne with h1 | h1
  · rw [e1] at h1; cases h1
  · rw [e1] at h1
    exact fun e2 => h1 e2
end
section
open Go.ChangeAt Go.ChangeShapes Go.RowKit Go.WideShapes

def fitV (x y z : Bool) (i j : Int) (f : List Int) : Bool := ((if z then validB f else decide (f.length = 0)) && (x || decide (i = 0))) && (y || decide (j = 0))
set_option maxRecDepth 100000 in
set_option maxHeartbeats 8000000 in
theorem fits_any (x y z : Bool) (r a b i j : Int) (A : Option Addr) (n c : Nat) (f : List Int) (w : World) (h : RdI w w.heap.size A n f) (hnc : n ≤ c) (ht : Arit w) :
    Calls Tryz.prog 96 #[.agg #[.bool x, .bool y, .bool z], Value.agg #[Value.int .i64 r, Value.int .i64 a, Value.int .i64 b, Value.int .i64 i, Value.int .i64 j, Value.slice A n c]] w fun e w' => e = .returned (.bool (fitV x y z i j f)) ∧ Below w.heap.size w w' := by
  have hl := h.len
  obtain ⟨w2, hw2⟩ : ∃ w2, w2 = (w.alloc (.cells #[Value.bool x, Value.bool y, Value.bool z] 90)).alloc (.cells #[Value.int .i64 r, Value.int .i64 a, Value.int .i64 b, Value.int .i64 i, Value.int .i64 j, Value.slice A n c] 43) := ⟨_, rfl⟩
  obtain ⟨hb, p0, p1, hsz⟩ := two_any w (.cells #[Value.bool x, Value.bool y, Value.bool z] 90) (.cells #[Value.int .i64 r, Value.int .i64 a, Value.int .i64 b, Value.int .i64 i, Value.int .i64 j, Value.slice A n c] 43)
  rw [← hw2] at hb p0 p1 hsz
  have x0 : w2.cell? ⟨w.heap.size, 0, none⟩ = some (.bool x) := cell_of_row _ _ 0 _ _ (0, 0) p0
  have x1 : w2.cell? ⟨w.heap.size, 1, none⟩ = some (.bool y) := cell_of_row _ _ 1 _ _ (0, 0) p0
  have x2 : w2.cell? ⟨w.heap.size, 2, none⟩ = some (.bool z) := cell_of_row _ _ 2 _ _ (0, 0) p0
  have y3 : w2.cell? ⟨w.heap.size + 1, 3, none⟩ = some (.int .i64 i) := cell_of_row _ _ 3 _ _ (0, 0) p1
  have y4 : w2.cell? ⟨w.heap.size + 1, 4, none⟩ = some (.int .i64 j) := cell_of_row _ _ 4 _ _ (0, 0) p1
  have y5 : w2.cell? ⟨w.heap.size + 1, 5, none⟩ = some (.slice A n c) := cell_of_row _ _ 5 _ _ (0, 0) p1
  have HV := Lib.hid (validForm_impl A n c f w2 ((h.below hb).more hb.size) (ht.below hb ht.lt) hnc)
  have HB := Lib.hid hb
  clear hb p0 p1 h ht hsz
  obtain ⟨L, hL⟩ : ∃ L, ((n : Int) == 0) = L := ⟨_, rfl⟩
  obtain ⟨bi, hbi⟩ : ∃ q, (i == 0) = q := ⟨_, rfl⟩
  obtain ⟨bj, hbj⟩ : ∃ q, (j == 0) = q := ⟨_, rfl⟩
  have hLn : decide (f.length = 0) = L := by rw [← hL, hl]; by_cases e : n = 0 <;> simp [e, Int.natCast_eq_zero]
  have HF : Hid (fitV x y z i j f = (((if z then validB f else L) && (x || bi)) && (y || bj))) := Lib.hid (by unfold fitV; rw [hLn, ← hbi, ← hbj]; rfl)
  generalize fitV x y z i j f = R at *
  clear hLn hl
  cases z with
  | false =>
    clear HV
    cases L <;> cases x <;> cases y <;> cases bi
    all_goals
      go_enter Tryz.func96, Tryz.ntmps96
      go_wp2_with (fail)
      (try rw [← hw2])
      clear hw2
      go_wp2
      go_ret
      exact ⟨ret_bool (by rw [HF.out]; first | rfl | exact hbj), HB.out⟩
  | true =>
    generalize validB f = vb at *
    cases vb <;> cases x <;> cases y <;> cases bi
    all_goals
      go_enter Tryz.func96, Tryz.ntmps96
      go_wp2_with (fail)
      rw [← hw2]
      clear hw2
      refine HV.out.mono ?_
      rintro e w3 ⟨rfl, rfl⟩
      go_wp2
      go_ret
      exact ⟨ret_bool (by rw [HF.out]; first | rfl | exact hbj), HB.out⟩
end
end Go.Proofs.YthbkcpacgnmcfaaGreatDoor
