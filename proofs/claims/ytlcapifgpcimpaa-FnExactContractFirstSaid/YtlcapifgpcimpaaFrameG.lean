/- A graph with paired edges that came in, opened. -/
import Derived.Test.YtlcapifgpcimpaaQCopyS
import Derived.Test.YtlcapifgpcimpaaEgM
import Derived.Deep.Slices
namespace Go.Proofs.Ytlcapifgpcimpaa
open Go.ChangeShapes Go.WideShapes Go.ChangeAt Go.RowKit

theorem array_twoE {α : Type} {cs : Array α} (h : cs.size = 2) : ∃ c0 c1, cs = #[c0, c1] := by
  obtain ⟨l⟩ := cs
  match l, h with
  | [c0, c1], _ => exact ⟨c0, c1, rfl⟩
theorem open_agg2E {H : Type} {enc : TypeId × Value → H} {P : Program} {w : World} {base : Nat} {spare : Nat → Bool} {held : Bool} {r : Reach} {b0 : Nat} {t : TypeId} {f0 f1 : Field} {v : Value} {d : DataW H} {p : List MemPlace} (hs : P.underlying t = some (.struct #[f0, f1]))
    (o0 : f0.offset = 0) (o1 : f1.offset = 1) (k0 : P.cellsOf f0.type = 1) (k1 : P.cellsOf f1.type = 1)
    (hC : P.cellsOf t = 2) (hv : Value.okWide P w r b0 t v) (h : DataW.Trod enc P w base spare held t v d p) :
    ∃ (v0 v1 : Value) (n : Nat) (y0 y1 : DataW H × List MemPlace), v = .agg #[v0, v1] ∧ DataW.trod enc P w base spare held n f0.type [v0] = some y0 ∧ DataW.trod enc P w base spare held n f1.type [v1] = some y1 := by
  obtain ⟨cs, rfl, hsz⟩ := okWide_struct hs hv
  obtain ⟨c0, c1, rfl⟩ := array_twoE (hsz.trans hC)
  obtain ⟨fuel, hf⟩ := h
  obtain ⟨xs, n, _, _, _, hlen, hx⟩ := DataW.trod_struct hs hf
  match xs, hlen with
  | [y0, y1], _ =>
    exact ⟨c0, c1, n, y0, y1, rfl, by simpa [Value.cells, o0, k0] using hx 0 f0 rfl, by simpa [Value.cells, o1, k1] using hx 1 f1 rfl⟩
theorem list_threeE {α : Type} {l : List α} (h : l.length = 3) : ∃ c0 c1 c2, l = [c0, c1, c2] := by
  match l, h with
  | [c0, c1, c2], _ => exact ⟨c0, c1, c2, rfl⟩
theorem trod_threeE {H : Type} {enc : TypeId × Value → H} {P : Program} {w : World} {base fuel : Nat} {spare : Nat → Bool} {held : Bool} {t : TypeId} {f0 f1 f2 : Field} {cs : List Value} {x : DataW H × List MemPlace} (hs : P.underlying t = some (.struct #[f0, f1, f2]))
    (o0 : f0.offset = 0) (o1 : f1.offset = 1) (o2 : f2.offset = 2) (k0 : P.cellsOf f0.type = 1) (k1 : P.cellsOf f1.type = 1) (k2 : P.cellsOf f2.type = 1)
    (hC : P.cellsOf t = 3) (h : DataW.trod enc P w base spare held fuel t cs = some x) :
    ∃ (v0 v1 v2 : Value) (n : Nat) (y0 y1 y2 : DataW H × List MemPlace), cs = [v0, v1, v2] ∧ DataW.trod enc P w base spare held n f0.type [v0] = some y0 ∧ DataW.trod enc P w base spare held n f1.type [v1] = some y1 ∧
      DataW.trod enc P w base spare held n f2.type [v2] = some y2 := by
  obtain ⟨xs, n, _, _, hcl, hlen, hx⟩ := DataW.trod_struct hs h
  obtain ⟨c0, c1, c2, rfl⟩ := list_threeE (hcl.trans hC)
  match xs, hlen with
  | [y0, y1, y2], _ =>
    exact ⟨c0, c1, c2, n, y0, y1, y2, rfl, by simpa [o0, k0] using hx 0 f0 rfl, by simpa [o1, k1] using hx 1 f1 rfl, by simpa [o2, k2] using hx 2 f2 rfl⟩
set_option maxRecDepth 100000 in
theorem cells_edge {H : Type} {enc : TypeId × Value → H} {W : World} {fuel : Nat} {cs : List Value} {x : DataW H × List MemPlace} (h : DataW.trod enc Try.prog W 0 (fun _ => true) true fuel 63 cs = some x) :
    ∃ l : Ed, cs = [.int .i64 l.a, .int .i64 l.b, .int .i64 l.p] := by
  have e := trod_threeE (P := Try.prog) (w := W) (enc := enc) (base := 0) (spare := fun _ => true) (held := true) (cs := cs) (x := x) (fuel := fuel) Try.underlying63 (by kernel_rfl) (by kernel_rfl) (by kernel_rfl) (by kernel_rfl) (by kernel_rfl) (by kernel_rfl) (by kernel_rfl)
  obtain ⟨v0, v1, v2, n, y0, y1, y2, rfl, h0, h1, h2⟩ := e h
  obtain ⟨r, e0, _, _⟩ := DataW.trod_int Try.underlying2 h0
  obtain ⟨a, e1, _, _⟩ := DataW.trod_int Try.underlying2 h1
  obtain ⟨b, e2, _, _⟩ := DataW.trod_int Try.underlying2 h2
  obtain rfl : v0 = _ := List.singleton_inj.1 e0
  obtain rfl : v1 = _ := List.singleton_inj.1 e1
  obtain rfl : v2 = _ := List.singleton_inj.1 e2
  exact ⟨⟨r, a, b⟩, rfl⟩
theorem addE {b off : Nat} {m : Nat} : (⟨b, off, none⟩ : Addr).add m = ⟨b, off + m, none⟩ := by
  unfold Addr.add
  split <;> simp_all
/-- The row of edges made of its cells. -/
theorem rdE_of {w : World} {B b off : Nat} {ls : List Ed} (hb : b < B) (hc : ∀ i, i < ls.length → w.cell? ⟨b, off + i * 3, none⟩ = some (.int .i64 (ls.getD i Ed.nil).a) ∧ w.cell? ⟨b, off + i * 3 + 1, none⟩ = some (.int .i64 (ls.getD i Ed.nil).b) ∧ w.cell? ⟨b, off + i * 3 + 2, none⟩ = some (.int .i64 (ls.getD i Ed.nil).p)) :
    RdE w B (some ⟨b, off, none⟩) ls.length ls := by
  refine ⟨rfl, flE_len ls, fun _ => ⟨b, off, rfl, hb, fun j hj => ?_⟩⟩
  have h4 : j / 3 < ls.length := by omega
  obtain ⟨c0, c1, c2⟩ := hc (j / 3) h4
  obtain ⟨f0, f1, f2⟩ := flE_at ls (j / 3) h4
  have : j = j / 3 * 3 ∨ j = j / 3 * 3 + 1 ∨ j = j / 3 * 3 + 2 := by omega
  rcases this with e | e | e
  · rw [e, f0]; exact c0
  · rw [e, f1, ← Nat.add_assoc]; exact c1
  · rw [e, f2, ← Nat.add_assoc]; exact c2
theorem open_edges {H : Type} {enc : TypeId × Value → H} {W : World} {fuel : Nat} {v : Value} {x : DataW H × List MemPlace}
    (hf : DataW.trod enc Try.prog W 0 (fun _ => true) true fuel 22 [v] = some x) : ∃ a n c ls, v = .slice a n c ∧ RdE W W.heap.size a n ls ∧ n ≤ c ∧ n ≤ maxLen := by
  have c4 : Try.prog.cellsOf 63 = 3 := by kernel_rfl
  rcases DataW.trod_slice Try.underlying22 hf with ⟨hcs, _⟩ | ⟨x, l, c, elems, rest, n, _, hcs, _, _, hl, hm, hlen, hel, _⟩
  · obtain rfl : v = .slice none 0 0 := by simpa using hcs
    exact ⟨none, 0, 0, [], rfl, RdE.nil _ _ _, Nat.le_refl _, Nat.zero_le _⟩
  · obtain rfl : v = .slice (some x) l c := by simpa using hcs
    rw [c4] at hel
    have each : ∀ i, i < l → ∃ y : Ed, ∀ t, t < 3 → W.cell? ((x.add (i * 3)).add t) = [Value.int .i64 y.a, .int .i64 y.b, .int .i64 y.p][t]? := by
      intro i hi
      have he := hel i hi
      rw [List.getElem?_eq_getElem (by omega)] at he
      obtain ⟨cs, hc, ht⟩ := Option.bind_eq_some_iff.1 he
      obtain ⟨s, rfl⟩ := cells_edge ht
      obtain ⟨_, hcl, hcc⟩ := World.cells?_some hc
      exact ⟨s, fun t ht => hcc t ht⟩
    obtain ⟨y, hy⟩ := Go.Deep.choose_lt each
    by_cases hn : 0 < l
    · obtain ⟨b, off, spot⟩ := x
      have h0 := hy 0 hn 0 (by omega)
      have hs : spot = none := by
        have : W.cell? ((⟨b, off, spot⟩ : Addr).add (0 * 3) |>.add 0) = some (.int .i64 (y 0).a) := h0
        simpa [Addr.add] using World.cell?_spot this
      subst hs
      have hlt : b < W.heap.size := by
        have : W.cell? ((⟨b, off, none⟩ : Addr).add (0 * 3) |>.add 0) = some (.int .i64 (y 0).a) := h0
        have := World.block_lt_of_cell? W _ this
        rw [addE, addE] at this
        exact this
      have hle : ((List.range l).map y).length = l := by simp
      have key := rdE_of (w := W) (b := b) (off := off) (ls := (List.range l).map y) hlt (fun k hk => by
        rw [hle] at hk
        have e : ((List.range l).map y).getD k Ed.nil = y k := by simp [List.getD, hk]
        rw [e]
        have gt : ∀ t, t < 3 → W.cell? ⟨b, off + k * 3 + t, none⟩ = [Value.int .i64 (y k).a, .int .i64 (y k).b, .int .i64 (y k).p][t]? := fun t ht => by
          have := hy k hk t ht
          rw [addE, addE] at this
          exact this
        exact ⟨gt 0 (by omega), gt 1 (by omega), gt 2 (by omega)⟩)
      rw [hle] at key
      exact ⟨_, l, c, _, rfl, key, hl, by omega⟩
    · obtain rfl : l = 0 := by omega
      exact ⟨_, 0, c, [], rfl, RdE.nil _ _ _, hl, Nat.zero_le _⟩
set_option maxRecDepth 100000 in
theorem open_graph {H : Type} {enc : TypeId × Value → H} {W : World} {base : Nat} {v : Value} {d : DataW H} {p : List MemPlace} (hv : Value.okWide Try.prog W .any base 24 v)
    (h : DataW.Trod enc Try.prog W 0 (fun _ => true) true 24 v d p) :
    ∃ (h : GH) (G : Gr), v = .agg #[.int .i64 G.n, .slice h.A G.e.length h.c] ∧ RdG W W.heap.size h G ∧ (G.e.length ≤ maxLen ∧ True ∧ True) ∧ True := by
  have e := open_agg2E (r := .any) (b0 := base) (v := v) (d := d) (p := p) (P := Try.prog) (w := W) (enc := enc) (base := 0) (spare := fun _ => true) (held := true) Try.underlying24 (by kernel_rfl) (by kernel_rfl) (by kernel_rfl) (by kernel_rfl) (by kernel_rfl)
  obtain ⟨v0, v1, n, y0, y1, rfl, h0, h1⟩ := e hv h
  obtain ⟨z, e0, _, _⟩ := DataW.trod_int Try.underlying2 h0
  obtain rfl : v0 = _ := List.singleton_inj.1 e0
  obtain ⟨L, n1, d1, ls, rfl, r1, _, m1⟩ := open_edges h1
  have l1 := r1.1
  subst l1
  exact ⟨⟨L, d1⟩, ⟨z, ls⟩, rfl, r1, ⟨m1, trivial, trivial⟩, trivial⟩
end Go.Proofs.Ytlcapifgpcimpaa
