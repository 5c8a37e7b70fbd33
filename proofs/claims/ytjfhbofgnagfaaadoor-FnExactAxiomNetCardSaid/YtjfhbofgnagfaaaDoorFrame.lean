/- What every row of this seat shares: its arguments opened, its package variables read before and behind the call, a world for the witness. -/
import Derived.Test.YtjfhbofgnagfaaaDoorCards
import Derived.Test.YtjfhbofgnagfaaaDoorTie
import Derived.Test.YtjfhbofgnagfaaaDoorLeaf
import Derived.Test.YtjfhbofgnagfaaaDoorHelp
import Derived.WalkKit
import Derived.ProofKit
import Derived.OpenShut
import Derived.ChangeOld
import Derived.ChangeVars
import Derived.Deep.DeepHandedRow
import Derived.Lib.LaidTab
import Derived.Stop.LaidErr
namespace Go.Proofs.YtjfhbofgnagfaaaDoor
open Go.ChangeShapes Go.WideShapes Go.ChangeAt Go.RowKit

theorem own : ownKnob Tryd.prog.godebug = none := by kernel_rfl
theorem laidOut : laidOutB Tryd.prog = true := by kernel_rfl

/-- A slice of 64-bit integers that came in reads as a list. -/
theorem open_i64s {H : Type} {enc : TypeId × Value → H} {W : World} {a : Option Addr} {len cap : Nat} {d : DataW H} {p : List MemPlace}
    (h : DataW.Trod enc Tryd.prog W 0 (fun _ => true) true 26 (.slice a len cap) d p) : ∃ zs, RdI W W.heap.size a len zs ∧ len ≤ cap ∧ ∀ z ∈ zs, (Lit.int .i64 z).wf = true := by
  obtain ⟨fuel, hf⟩ := h
  rcases open_ints Tryd.underlying26 Tryd.underlying2 (by kernel_rfl) hf with ⟨hcs, _⟩ | ⟨x, l, c, zs, hcs, _, hl, hm, hz, _, hcell, hwz⟩
  · simp [Value.cells] at hcs
    obtain ⟨rfl, rfl, rfl⟩ := hcs
    exact ⟨[], RdI.nil _ _ _, Nat.le_refl _, by simp⟩
  · simp [Value.cells] at hcs
    obtain ⟨rfl, rfl, rfl⟩ := hcs
    have hz' : zs.length = cap := by simpa using hz
    refine ⟨zs.take len, ⟨by simp; omega, fun hn => ?_⟩, hl, fun z hz => hwz z (List.mem_of_mem_take hz)⟩
    obtain ⟨b, off, spot⟩ := x
    have hc := hcell 0 (by omega)
    have hspot : spot = none := by simpa [Addr.add] using World.cell?_spot hc
    subst hspot
    refine ⟨b, off, rfl, ?_, fun j hj => ?_⟩
    · have := World.block_lt_of_cell? W _ hc
      simpa [Addr.add] using this
    · have h1 := hcell j (by omega)
      have e : (zs.take len).getD j 0 = zs.getD j 0 := by
        have h1 : j < zs.length := by omega
        simp [List.getD, hj]
      rw [e]
      by_cases h0 : j = 0
      · subst h0; simpa [Addr.add] using h1
      · simpa [Addr.add, h0] using h1

/-- Package variables read behind a call that turned nothing old as they read before. -/
theorem vars_below {H : Type} {enc : TypeId × Value → H} {W W' : World} (hb : Below W.heap.size W W') : ∀ {ns : List String} {gs : List (DataW H)} {q : List MemPlace},
    (∀ n ∈ ns, ∀ g t, Tryd.prog.globalNamed n = some g → (Tryd.prog.globals[g]?).map (·.type) = some t → Tryd.prog.readableRec t = true ∧ t < Tryd.prog.types.size) →
    DataW.TrodVars enc Tryd.prog W (fun _ => true) ns gs q → DataW.TrodVars enc Tryd.prog W' (fun b => decide (b < W.heap.size)) ns gs q
  | [], [], _, _, h => h
  | n :: ns, d :: ds, ps, hr, h => by
    have hlt := DataW.TrodVars.lt h
    obtain ⟨g, t, cs, fuel, p, q, h1, h2, h3, h4, h5, rfl⟩ := h
    obtain ⟨hr1, hr2⟩ := hr n (by simp) g t h1 h2
    have hg : g < W.heap.size := by
      unfold World.var? at h3
      simp only [h1, Option.bind_some] at h3
      rcases Nat.lt_or_ge g W.heap.size with hlt | hge
      · exact hlt
      · rw [Array.getElem?_eq_none hge] at h3; cases h3
    obtain ⟨fuel', h4'⟩ := Below.trod (v := .agg cs) laidOut hr1 hr2 ⟨fuel, h4⟩ hb (fun x hx => hlt x (by simp [hx]))
    exact ⟨g, t, cs, fuel', p, q, h1, h2, var?_below hb h1 hg h3, h4', vars_below hb (fun m hm => hr m (by simp [hm])) h5, rfl⟩

theorem readable_all (ns : List String) (hns : ns.all (fun n => match Tryd.prog.globalNamed n with | none => true | some g => match (Tryd.prog.globals[g]?).map (·.type) with | none => true | some t => Tryd.prog.readableRec t && decide (t < Tryd.prog.types.size)) = true) :
    ∀ n ∈ ns, ∀ g t, Tryd.prog.globalNamed n = some g → (Tryd.prog.globals[g]?).map (·.type) = some t → Tryd.prog.readableRec t = true ∧ t < Tryd.prog.types.size := by
  intro n hn g t hg ht
  have := List.all_eq_true.1 hns n hn
  simp only [hg, ht, Bool.and_eq_true, decide_eq_true_eq] at this
  exact this

theorem gArit : Tryd.prog.globalNamed "loop.example/g00872/impl.arities" = some 1 := by kernel_rfl
theorem gAritType : (Tryd.prog.globals[1]?).map (·.type) = some 125 := by kernel_rfl
theorem gDual : Tryd.prog.globalNamed "loop.example/g00872/impl.dualOperators" = some 0 := by kernel_rfl
theorem gDualType : (Tryd.prog.globals[0]?).map (·.type) = some 125 := by kernel_rfl
theorem cellsTab : Tryd.prog.cellsOf 125 = 19 := by kernel_rfl
theorem cellsI64 : Tryd.prog.cellsOf 2 = 1 := by kernel_rfl

/-- What a row's list gives: the table of the numbers of operands. -/
theorem arit_of {W : World} {rest : List (String × DataW Unit)} (h : laidMet Tryd.prog (("loop.example/g00872/impl.arities", Lib.tabData .i64 arTab) :: rest) W) : Arit W := by
  have ht : Lib.TabIs Tryd.prog W "loop.example/g00872/impl.arities" .i64 arTab := Lib.tabIs_of_head gArit gAritType Tryd.underlying125 Tryd.underlying2 cellsI64 cellsTab h
  exact fun i hi => ht.cell gArit i (by simpa [arTab] using hi)

theorem dual_of {W : World} {x : String × DataW Unit} {rest : List (String × DataW Unit)} (h : laidMet Tryd.prog (x :: ("loop.example/g00872/impl.dualOperators", Lib.tabData .i64 duTab) :: rest) W) : Dual W := by
  have ht : Lib.TabIs Tryd.prog W "loop.example/g00872/impl.dualOperators" .i64 duTab := Lib.tabIs_of_head gDual gDualType Tryd.underlying125 Tryd.underlying2 cellsI64 cellsTab (laidMet.tail h)
  exact fun i hi => ht.cell gDual i (by simpa [duTab] using hi)

/-- A world for the witness: the settled one, its tables as the program's text lays them. -/
def layTab (zs : List Int) : Obj → Obj
  | .cells _ t frozen => .cells (zs.map (Value.int .i64)).toArray t frozen
  | o => o
noncomputable def laidWorld (os : Os) : World :=
  { World.holding Tryd.prog os ⟨#[], #[], []⟩ with heap := ((World.holding Tryd.prog os ⟨#[], #[], []⟩).heap.modify 1 (layTab arTab)).modify 0 (layTab duTab) }
end Go.Proofs.YtjfhbofgnagfaaaDoor
