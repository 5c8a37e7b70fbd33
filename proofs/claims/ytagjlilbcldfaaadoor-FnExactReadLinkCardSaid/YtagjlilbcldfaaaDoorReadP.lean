/- strconv.ParseInt at a word. -/
import Derived.Test.YtagjlilbcldfaaaDoorQReadA
import Derived.Test.YtagjlilbcldfaaaDoorShelfP
import Derived.Lib.AtoiErrMem
namespace Go.Proofs.YtagjlilbcldfaaaDoor
set_option linter.unusedSimpArgs false
set_option linter.unusedVariables false
open Go.ChangeAt Go.ChangeShapes Go.RowKit Go.WideShapes

/-- The two errors of strconv stand in their variables. -/
def Errs (w : World) : Prop := (∃ v, w.cell? ⟨4, 0, none⟩ = some v ∧ (v = .nilIface ∨ ∃ te pe, v = .iface te pe)) ∧ (∃ v, w.cell? ⟨5, 0, none⟩ = some v ∧ (v = .nilIface ∨ ∃ te pe, v = .iface te pe))
theorem Errs.lt {w : World} (h : Errs w) : 4 < w.heap.size ∧ 5 < w.heap.size := by
  obtain ⟨⟨v, h1, _⟩, ⟨u, h2, _⟩⟩ := h
  exact ⟨World.block_lt_of_cell? w _ h1, World.block_lt_of_cell? w _ h2⟩
theorem Errs.below {w w' : World} {B : Nat} (h : Errs w) (hb : Below B w w') (hB : 4 < B ∧ 5 < B) : Errs w' := by
  obtain ⟨⟨v, h1, h1'⟩, ⟨u, h2, h2'⟩⟩ := h
  exact ⟨⟨v, (hb.cell hB.1).trans h1, h1'⟩, ⟨u, (hb.cell hB.2).trans h2, h2'⟩⟩
def psI (s : ByteArray) : Int := match Lib.parseIntB 64 s.data.toList with
  | .ok v => v
  | .range => Lib.intSat 64 s.data.toList
  | _ => 0

set_option maxRecDepth 100000 in
theorem parseInt_any (s : ByteArray) (w : World) (hs : s.size ≤ 281474976710656) (he : Errs w) :
    Calls Tryd.prog 72 #[.string s, .int .i64 10, .int .i64 64] w fun e w' => ∃ er, e = .returned (.tuple #[.int .i64 (psI s), er]) ∧ Below w.heap.size w w' := by
  obtain ⟨⟨v1, h1, h1'⟩, ⟨v2, h2, h2'⟩⟩ := he
  rcases hp : Lib.parseIntB 64 s.data.toList with v | _ | _
  ·
    refine (Any.strconv_ParseInt_10_at64_ok Tryd.prsL s (by omega) v hp w).mono ?_
    rintro e w' ⟨rfl, h⟩
    refine ⟨.nilIface, by unfold psI; rw [hp], ?_⟩
    rcases h with rfl | ⟨t, rfl⟩
    · exact Below.refl _ _
    · exact Lib.bytesWorld_below _ _ _
  ·
    refine (Any.strconv_ParseInt_10_at64_syntax Tryd.prsL s hs hp v1 w h1 h1').mono ?_
    rintro e w' ⟨N, rfl, _, _, h⟩
    exact ⟨_, by unfold psI; rw [hp], h⟩
  ·
    refine (Any.strconv_ParseInt_10_at64_range Tryd.prsL s hs hp v2 w h2 h2').mono ?_
    rintro e w' ⟨N, rfl, _, _, h⟩
    exact ⟨_, by unfold psI; rw [hp], h⟩
theorem dec_ps_a : ∀ k : Fin 10, psI ⟨#[UInt8.ofNat (48 + k.1)]⟩ = (k.1 : Int) := by decide
theorem dec_ps_b : ∀ k : Fin 30, psI ⟨#[UInt8.ofNat (48 + (k.1 + 10) / 10), UInt8.ofNat (48 + (k.1 + 10) % 10)]⟩ = ((k.1 + 10 : Nat) : Int) := by decide
/-- A small number's text is read back. -/
theorem dec_ps {x : Int} (h : inR x = true) : psI (decB x) = x := by
  rcases dec_cases h with ⟨k, e, hx⟩ | ⟨k, e, hx⟩
  · rw [e, dec_ps_a k, hx]
  · rw [e, dec_ps_b k, hx]
end Go.Proofs.YtagjlilbcldfaaaDoor
