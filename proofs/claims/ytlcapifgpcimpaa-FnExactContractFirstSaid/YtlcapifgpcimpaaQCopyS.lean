/- A function mapped over a sequent: mappedSeq with slices.Clone (copyOfSeq) and with DualOf; DualSeq of the program. DualSeq of the model. The model's copies of rows and sequents. A sequent that came in, opened. The laws' helpers at lists and rows, in one form: copies, comparison, marks (for the exact laws' walks that genex.py writes). What a row without tables wants: a witness. -/
import Derived.Test.YtlcapifgpcimpaaSeqV
import Derived.Test.YtlcapifgpcimpaaQValid
import Derived.Deep.RegionLaw
import Derived.Deep.AppendLies
import Derived.Deep.Matrix
import Derived.Deep.RegionWith
import Derived.Deep.DeepCutAuto
import Derived.Test.YtlcapifgpcimpaaQMath
import Derived.Lay
import Derived.Stop.Joined
import Derived.MakeChecks
namespace Go.Proofs.Ytlcapifgpcimpaa
set_option linter.unusedSimpArgs false
set_option linter.unusedVariables false
section
open Go.ChangeAt Go.ChangeShapes Go.RowKit Go.WideShapes
end
section
open Go.ChangeShapes Go.WideShapes Go.ChangeAt Go.RowKit

theorem array_one {α : Type} {cs : Array α} (h : cs.size = 1) : ∃ c0, cs = #[c0] := by
  obtain ⟨l⟩ := cs
  match l, h with
  | [c0], _ => exact ⟨c0, rfl⟩

/-- A struct of one field of one cell, opened. -/
theorem open_agg1 {H : Type} {enc : TypeId × Value → H} {P : Program} {w : World} {base : Nat} {spare : Nat → Bool} {held : Bool} {r : Reach} {b0 : Nat} {t : TypeId} {f0 : Field} {v : Value} {d : DataW H} {p : List MemPlace} (hs : P.underlying t = some (.struct #[f0]))
    (ho : f0.offset = 0) (hk : P.cellsOf f0.type = 1) (hC : P.cellsOf t = 1) (hv : Value.okWide P w r b0 t v) (h : DataW.Trod enc P w base spare held t v d p) :
    ∃ (v0 : Value) (y0 : DataW H × List MemPlace) (n : Nat), v = .agg #[v0] ∧ DataW.trod enc P w base spare held n f0.type [v0] = some y0 := by
  obtain ⟨cs, rfl, hsz⟩ := okWide_struct hs hv
  obtain ⟨c0, rfl⟩ := array_one (hsz.trans hC)
  obtain ⟨fuel, hf⟩ := h
  obtain ⟨xs, n, _, _, _, hlen, hx⟩ := DataW.trod_struct hs hf
  match xs, hlen with
  | [y0], _ => exact ⟨c0, y0, n, rfl, by simpa [Value.cells, ho, hk] using hx 0 f0 rfl⟩

theorem spot_of {w : World} {b off : Nat} {s : Option Nat} {v : Value} (h : w.cell? ((⟨b, off, s⟩ : Addr).add 0) = some v) : s = none := by
  simpa [Addr.add] using World.cell?_spot h

theorem mem_total {qs : List (List Int)} {q : List Int} (h : q ∈ qs) : q.length ≤ total qs := by
  induction qs with
  | nil => cases h
  | cons x xs ih =>
    have e : total (x :: xs) = x.length + total xs := by simp [total]
    rcases List.mem_cons.1 h with rfl | h
    · omega
    · have := ih h; omega
theorem sz_cases' (left : Int) (n : Nat) (qs : List (List Int)) : szR left (n + total qs) = -1 ∨ (szR left (n + total qs) = left - (n + total qs : Nat) ∧ 0 ≤ left - (n + total qs : Nat) ∧ (n : Int) ≤ left ∧ ∀ q ∈ qs, (q.length : Int) ≤ left) := by
  by_cases h : left - (n + total qs : Nat) < 0
  · exact .inl (szR_neg h)
  · exact .inr ⟨szR_pos h, by omega, by omega, fun q hq => by have := mem_total hq; omega⟩
/-- Too great, or within the laws' bound. -/
theorem sz_cases (n : Nat) (qs : List (List Int)) : szR 1048576 (n + total qs) = -1 ∨ (szR 1048576 (n + total qs) = 1048576 - (n + total qs : Nat) ∧ (0 : Int) ≤ 1048576 - (n + total qs : Nat) ∧ n ≤ 1048576 ∧ ∀ q ∈ qs, q.length ≤ 1048576) := by
  rcases sz_cases' 1048576 n qs with h | ⟨h1, h2, h3, h4⟩
  · exact .inl h
  · exact .inr ⟨h1, h2, by omega, fun q hq => by have := h4 q hq; omega⟩
theorem sz_casesL (left : Int) (hl : left ≤ 1048576) (n : Nat) (qs : List (List Int)) : szR left (n + total qs) = -1 ∨ ∃ L, szR left (n + total qs) = L ∧ 0 ≤ L ∧ L ≤ 1048576 ∧ n ≤ 1048576 ∧ total qs ≤ 1048576 := by
  by_cases h : left - (n + total qs : Nat) < 0
  · exact .inl (szR_neg h)
  · exact .inr ⟨left - (n + total qs : Nat), szR_pos h, by omega, by omega, by omega, by omega⟩
theorem kept_cell {lo hi : Nat} {w w' : World} (h : Kept lo hi w w') {p : Addr} (hp : p.block < w.heap.size) (ho : p.block < lo ∨ hi ≤ p.block) : w'.cell? p = w.cell? p := World.cell?_of_block (h.block p.block hp ho)
end
section
open Go.ChangeAt Go.ChangeShapes Go.RowKit Go.WideShapes

/-- A list of integers in memory of its own, its block in [lo, hi). -/
structure OwnI (w : World) (lo hi : Nat) (v : Value) (n : Nat) (xs : List Int) : Prop where
  outer : w.ownsRow lo 2 1 v n (xs.map (Value.int .i64))
  top : ∀ k, v.ownBlock = some k → k < hi
theorem OwnI.of_own {w : World} {lo n : Nat} {v : Value} {xs : List Int} (h : w.ownsRow lo 2 1 v n (xs.map (Value.int .i64))) : OwnI w lo w.heap.size v n xs := ⟨h, fun k hk => (h.lt k hk).2⟩
theorem OwnI.below {w w' : World} {lo hi n : Nat} {v : Value} {xs : List Int} (h : OwnI w lo hi v n xs) (hb : Below w.heap.size w w') : OwnI w' lo hi v n xs := ⟨own_below h.outer hb (Nat.le_refl _), h.top⟩
theorem OwnI.kept {w w' : World} {lo hi lo' hi' n : Nat} {v : Value} {xs : List Int} (h : OwnI w lo hi v n xs) (hk : Kept lo' hi' w w') (hd : hi ≤ lo' ∨ hi' ≤ lo) : OwnI w' lo hi v n xs :=
  ⟨own_same h.outer fun k e => hk.block k (h.outer.lt k e).2 (by have h1 := (h.outer.lt k e).1; have h2 := h.top k e; omega), h.top⟩
theorem OwnI.rd {w : World} {lo hi n c : Nat} {A : Option Addr} {xs : List Int} (h : OwnI w lo hi (.slice A n c) n xs) : RdI w w.heap.size A n xs := RdI.of_own h.outer
theorem OwnI.len {w : World} {lo hi n c : Nat} {A : Option Addr} {xs : List Int} (h : OwnI w lo hi (.slice A n c) n xs) : xs.length = n := by have := h.outer.1; simpa using this
/-- .. a row of lists and a bool. -/
def GivesSSB (w : World) (V : List (List Int)) (b : Bool) (e : Ending) (w' : World) : Prop :=
  ∃ hs A c, e = .returned (.tuple #[.slice A V.length c, .bool b]) ∧ OwnQ w' w.heap.size w'.heap.size (.slice A V.length c) hs V ∧ Below w.heap.size w w'
end
section
open Go.ChangeShapes Go.WideShapes Go.ChangeAt Go.RowKit

theorem witness_row_sh {H : Type} {enc : TypeId × Value → H} {C : Checked} {os : Os} {f : FuncId} {fn : Func} {s : OpenSpec} {conds : List PathCond} {apart : Bool} {laid : List (String × DataW Unit)} (modest : Bool) (w0 : World) (args : Array Value) (hos : w0.os = os)
    (hsh : (w0.forCall (fun _ _ => 0) ⟨#[], args, []⟩).Shaped C.prog)
    (hok : Input.okWideB C.prog (w0.forCall (fun _ _ => 0) ⟨#[], args, []⟩) f ⟨#[], args, []⟩ = true)
    (hrow : s.preRow enc C.prog fn conds apart laid (w0.forCall (fun _ _ => 0) ⟨#[], args, []⟩).memory args) :
    ∃ (w : World) (tape : Tape) (i : Input), w.os = os ∧ (w.forCall tape i).Shaped C.prog ∧ i.vars = [] ∧ Input.okWide C.prog (w.forCall tape i) .any w.heap.size f i ∧
      s.preRow enc C.prog fn conds apart laid (w.forCall tape i).memory i.args ∧ ({ modest := modest } : Assume).holds C.prog (lone (Frame.enter C.prog f i.args .normal) [] (w.forCall tape i)) :=
  ⟨w0, fun _ _ => 0, ⟨#[], args, []⟩, hos, hsh, (Input.okWide_of_okWideB (base := 0) hok).1, (Input.okWide_of_okWideB hok).2, hrow, by
    simp only [Assume.holds]
    exact ⟨by simp, by simp, fun _ => Modest.zero, by simp, by simp⟩⟩
end
end Go.Proofs.Ytlcapifgpcimpaa
