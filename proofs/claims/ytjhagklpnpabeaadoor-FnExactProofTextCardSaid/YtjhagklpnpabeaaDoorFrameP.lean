/- Steps that came in, opened. -/
import Derived.Test.YtjhagklpnpabeaaDoorFrameS
import Derived.Test.YtjhagklpnpabeaaDoorStepRow
import Derived.Deep.Slices
namespace Go.Proofs.YtjhagklpnpabeaaDoor
open Go.ChangeShapes Go.WideShapes Go.ChangeAt Go.RowKit

theorem list_six {α : Type} {l : List α} (h : l.length = 6) : ∃ c0 c1 c2 c3 c4 c5, l = [c0, c1, c2, c3, c4, c5] := by
  match l, h with
  | [c0, c1, c2, c3, c4, c5], _ => exact ⟨c0, c1, c2, c3, c4, c5, rfl⟩
theorem trod_six {H : Type} {enc : TypeId × Value → H} {P : Program} {w : World} {base fuel : Nat} {spare : Nat → Bool} {held : Bool} {t : TypeId} {f0 f1 f2 f3 f4 f5 : Field} {cs : List Value} {x : DataW H × List MemPlace} (hs : P.underlying t = some (.struct #[f0, f1, f2, f3, f4, f5]))
    (o0 : f0.offset = 0) (o1 : f1.offset = 1) (o2 : f2.offset = 2) (o3 : f3.offset = 3) (o4 : f4.offset = 4) (o5 : f5.offset = 5) (k0 : P.cellsOf f0.type = 1) (k1 : P.cellsOf f1.type = 1) (k2 : P.cellsOf f2.type = 1) (k3 : P.cellsOf f3.type = 1) (k4 : P.cellsOf f4.type = 1) (k5 : P.cellsOf f5.type = 1)
    (hC : P.cellsOf t = 6) (h : DataW.trod enc P w base spare held fuel t cs = some x) :
    ∃ (v0 v1 v2 v3 v4 v5 : Value) (n : Nat) (y0 y1 y2 y3 y4 y5 : DataW H × List MemPlace), cs = [v0, v1, v2, v3, v4, v5] ∧ DataW.trod enc P w base spare held n f0.type [v0] = some y0 ∧ DataW.trod enc P w base spare held n f1.type [v1] = some y1 ∧
      DataW.trod enc P w base spare held n f2.type [v2] = some y2 ∧ DataW.trod enc P w base spare held n f3.type [v3] = some y3 ∧ DataW.trod enc P w base spare held n f4.type [v4] = some y4 ∧ DataW.trod enc P w base spare held n f5.type [v5] = some y5 := by
  obtain ⟨xs, n, _, _, hcl, hlen, hx⟩ := DataW.trod_struct hs h
  obtain ⟨c0, c1, c2, c3, c4, c5, rfl⟩ := list_six (hcl.trans hC)
  match xs, hlen with
  | [y0, y1, y2, y3, y4, y5], _ =>
    exact ⟨c0, c1, c2, c3, c4, c5, n, y0, y1, y2, y3, y4, y5, rfl, by simpa [o0, k0] using hx 0 f0 rfl, by simpa [o1, k1] using hx 1 f1 rfl, by simpa [o2, k2] using hx 2 f2 rfl,
      by simpa [o3, k3] using hx 3 f3 rfl, by simpa [o4, k4] using hx 4 f4 rfl, by simpa [o5, k5] using hx 5 f5 rfl⟩

set_option maxRecDepth 100000 in
/-- The six cells of a step that came in. -/
theorem cells_step {H : Type} {enc : TypeId × Value → H} {W : World} {fuel : Nat} {cs : List Value} {x : DataW H × List MemPlace} (h : DataW.trod enc Tryd.prog W 0 (fun _ => true) true fuel 32 cs = some x) :
    ∃ (s : Stp) (A : Option Addr) (c : Nat), cs = stC s A c ∧ s.f.length ≤ c ∧ s.f.length ≤ maxLen ∧ RdI W W.heap.size A s.f.length s.f := by
  have e := trod_six (P := Tryd.prog) (w := W) (enc := enc) (base := 0) (spare := fun _ => true) (held := true) (cs := cs) (x := x) (fuel := fuel) Tryd.underlying32 (by kernel_rfl) (by kernel_rfl) (by kernel_rfl) (by kernel_rfl) (by kernel_rfl) (by kernel_rfl) (by kernel_rfl) (by kernel_rfl) (by kernel_rfl) (by kernel_rfl) (by kernel_rfl) (by kernel_rfl) (by kernel_rfl)
  obtain ⟨v0, v1, v2, v3, v4, v5, n, y0, y1, y2, y3, y4, y5, rfl, h0, h1, h2, h3, h4, h5⟩ := e h
  obtain ⟨r, e0, _, _⟩ := DataW.trod_int Tryd.underlying2 h0
  obtain ⟨a, e1, _, _⟩ := DataW.trod_int Tryd.underlying2 h1
  obtain ⟨b, e2, _, _⟩ := DataW.trod_int Tryd.underlying2 h2
  obtain ⟨i, e3, _, _⟩ := DataW.trod_int Tryd.underlying2 h3
  obtain ⟨j, e4, _, _⟩ := DataW.trod_int Tryd.underlying2 h4
  obtain rfl : v0 = _ := List.singleton_inj.1 e0
  obtain rfl : v1 = _ := List.singleton_inj.1 e1
  obtain rfl : v2 = _ := List.singleton_inj.1 e2
  obtain rfl : v3 = _ := List.singleton_inj.1 e3
  obtain rfl : v4 = _ := List.singleton_inj.1 e4
  have hsl : ∃ A l c, v5 = .slice A l c ∧ l ≤ maxLen := by
    rcases open_ints Tryd.underlying30 Tryd.underlying2 (by kernel_rfl) h5 with ⟨hcs, _⟩ | ⟨x, l, c, zs, hcs, _, hl, hm, _⟩
    · exact ⟨none, 0, 0, List.singleton_inj.1 hcs, Nat.zero_le _⟩
    · exact ⟨some x, l, c, List.singleton_inj.1 hcs, by omega⟩
  obtain ⟨A, l, c, rfl, hl⟩ := hsl
  obtain ⟨f, hrd, hlc, _⟩ := open_i64s (d := y5.1) (p := y5.2) ⟨n, by simpa [Value.cells] using h5⟩
  have hfl := hrd.len
  subst hfl
  exact ⟨⟨r, a, b, i, j, f⟩, A, c, rfl, hlc, hl, hrd⟩
instance : Inhabited Stp := ⟨Stp.nil⟩
theorem adds {b off : Nat} {m : Nat} : (⟨b, off, none⟩ : Addr).add m = ⟨b, off + m, none⟩ := by
  unfold Addr.add
  split <;> simp_all

/-- A slice of steps that came in. -/
theorem open_steps {H : Type} {enc : TypeId × Value → H} {W : World} {a : Option Addr} {len cap : Nat} {d : DataW H} {p : List MemPlace}
    (h : DataW.Trod enc Tryd.prog W 0 (fun _ => true) true 39 (.slice a len cap) d p) : ∃ ss, RdP W W.heap.size a len ss ∧ len ≤ cap ∧ len ≤ maxLen ∧ ∀ q ∈ fsP ss, q.length ≤ maxLen := by
  obtain ⟨fuel, hf⟩ := h
  have c6 : Tryd.prog.cellsOf 32 = 6 := by kernel_rfl
  rcases DataW.trod_slice Tryd.underlying39 hf with ⟨hcs, _⟩ | ⟨x, l, c, elems, rest, n, _, hcs, _, _, hl, hm, hlen, hel, _⟩
  · simp [Value.cells] at hcs
    obtain ⟨rfl, rfl, rfl⟩ := hcs
    exact ⟨[], ⟨rfl, fun hn => absurd hn (by omega)⟩, Nat.le_refl _, Nat.zero_le _, fun q hq => by cases hq⟩
  · simp [Value.cells] at hcs
    obtain ⟨rfl, rfl, rfl⟩ := hcs
    rw [c6] at hel
    have each : ∀ i, i < len → ∃ y : Stp × Option Addr × Nat, (∀ t, t < 6 → W.cell? ((x.add (i * 6)).add t) = (stC y.1 y.2.1 y.2.2)[t]?) ∧ y.1.f.length ≤ y.2.2 ∧ y.1.f.length ≤ maxLen ∧ RdI W W.heap.size y.2.1 y.1.f.length y.1.f := by
      intro i hi
      have he := hel i hi
      rw [List.getElem?_eq_getElem (by omega)] at he
      obtain ⟨cs, hc, ht⟩ := Option.bind_eq_some_iff.1 he
      obtain ⟨s, A, c, rfl, h1, h2, h3⟩ := cells_step ht
      obtain ⟨_, hcl, hcc⟩ := World.cells?_some hc
      exact ⟨(s, A, c), fun t ht => hcc t ht, h1, h2, h3⟩
    obtain ⟨y, hy⟩ := Go.Deep.choose_lt each
    obtain ⟨b, off, spot⟩ := x
    refine ⟨(List.range len).map fun i => (y i).1, ⟨by simp, fun hn => ?_⟩, hl, by omega, fun q hq => ?_⟩
    · have h0 := (hy 0 hn).1 0 (by omega)
      have hs : spot = none := by
        have : W.cell? ((⟨b, off, spot⟩ : Addr).add (0 * 6) |>.add 0) = some (.int .i64 (y 0).1.r) := h0
        simpa [Addr.add] using World.cell?_spot this
      subst hs
      have hlt : b < W.heap.size := by
        have : W.cell? ((⟨b, off, none⟩ : Addr).add (0 * 6) |>.add 0) = some (.int .i64 (y 0).1.r) := h0
        have := World.block_lt_of_cell? W _ this
        rw [adds, adds] at this
        exact this
      refine ⟨b, off, rfl, hlt, fun k hk => ?_⟩
      obtain ⟨g1, g2, _, g4⟩ := hy k hk
      have e : ((List.range len).map fun i => (y i).1).getD k Stp.nil = (y k).1 := by simp [List.getD, hk]
      rw [e]
      have gt : ∀ t, t < 6 → W.cell? ⟨b, off + k * 6 + t, none⟩ = (stC (y k).1 (y k).2.1 (y k).2.2)[t]? := fun t ht => by
        have := g1 t ht
        rw [adds, adds] at this
        exact this
      exact ⟨_, _, gt 0 (by omega), gt 1 (by omega), gt 2 (by omega), gt 3 (by omega), gt 4 (by omega), gt 5 (by omega), g2, g4⟩
    · obtain ⟨s, hs, rfl⟩ := List.mem_map.1 hq
      obtain ⟨i, hi, rfl⟩ := List.mem_map.1 hs
      exact (hy i (List.mem_range.1 hi)).2.2.1
end Go.Proofs.YtjhagklpnpabeaaDoor
