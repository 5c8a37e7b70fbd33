/- toStepS: a row of steps copied. -/
import Derived.Test.YtjhagklpnpabeaaDoorStepRow
namespace Go.Proofs.YtjhagklpnpabeaaDoor
open Go.ChangeAt Go.ChangeShapes Go.RowKit Go.WideShapes

theorem info_step : (Tryd.prog.info? 35).map (fun i => (i.zero, i.size, i.bytes)) = some (some (Value.agg #[Value.int .i64 0, Value.int .i64 0, Value.int .i64 0, Value.int .i64 0, Value.int .i64 0, Value.slice none 0 0]), 6, 64) := by kernel_rfl
theorem info_parts_step : ∃ i, Tryd.prog.info? 35 = some i ∧ i.zero = some (Value.agg #[Value.int .i64 0, Value.int .i64 0, Value.int .i64 0, Value.int .i64 0, Value.int .i64 0, Value.slice none 0 0]) ∧ i.size = 6 ∧ i.bytes = 64 := by
  obtain ⟨i, hi, he⟩ := Option.map_eq_some_iff.1 info_step
  simp only [Prod.mk.injEq] at he
  exact ⟨i, hi, he.1, he.2.1, he.2.2⟩
theorem ne_off {b i j : Nat} (h : i ≠ j) : (⟨b, i, none⟩ : Addr) ≠ ⟨b, j, none⟩ := fun e => by injection e with _ e2 _; exact h e2
def six (w : World) (b o : Nat) (v0 v1 v2 v3 v4 v5 : Value) : World := (((((w.setCell ⟨b, o, none⟩ v0).setCell ⟨b, o + 1, none⟩ v1).setCell ⟨b, o + 2, none⟩ v2).setCell ⟨b, o + 3, none⟩ v3).setCell ⟨b, o + 4, none⟩ v4).setCell ⟨b, o + 5, none⟩ v5
theorem six_far {w : World} {b o : Nat} {v0 v1 v2 v3 v4 v5 : Value} {p : Addr} (h : p.block ≠ b ∨ p.off < o ∨ o + 6 ≤ p.off) : (six w b o v0 v1 v2 v3 v4 v5).cell? p = w.cell? p := by
  have ne : ∀ t, t < 6 → (⟨b, o + t, none⟩ : Addr) ≠ p := fun t ht e => by
    subst e
    rcases h with h | h | h
    · exact h rfl
    · have : o + t < o := h; omega
    · have : o + 6 ≤ o + t := h; omega
  unfold six
  rw [World.cell?_setCell_other (h := ne 5 (by omega)), World.cell?_setCell_other (h := ne 4 (by omega)), World.cell?_setCell_other (h := ne 3 (by omega)), World.cell?_setCell_other (h := ne 2 (by omega)), World.cell?_setCell_other (h := ne 1 (by omega)), World.cell?_setCell_other (h := (show (⟨b, o, none⟩ : Addr) ≠ p from ne 0 (by omega)))]
theorem six_heap {w : World} {b o : Nat} {arr : Array Value} {t : TypeId} (h : w.heap[b]? = some (.cells arr t (0, 0))) (v0 v1 v2 v3 v4 v5 : Value) :
    ∃ arr', (six w b o v0 v1 v2 v3 v4 v5).heap[b]? = some (.cells arr' t (0, 0)) ∧ arr'.size = arr.size := by
  have h0 := heap_setCell_same w b o _ t v0 h
  have h1 := heap_setCell_same _ b (o + 1) _ t v1 h0
  have h2 := heap_setCell_same _ b (o + 2) _ t v2 h1
  have h3 := heap_setCell_same _ b (o + 3) _ t v3 h2
  have h4 := heap_setCell_same _ b (o + 4) _ t v4 h3
  have h5 := heap_setCell_same _ b (o + 5) _ t v5 h4
  exact ⟨_, h5, by simp⟩
theorem six_near {w : World} {b o : Nat} {arr : Array Value} {t : TypeId} (h : w.heap[b]? = some (.cells arr t (0, 0))) (ho : o + 6 ≤ arr.size) (v0 v1 v2 v3 v4 v5 : Value) :
    (six w b o v0 v1 v2 v3 v4 v5).cell? ⟨b, o, none⟩ = some v0 ∧ (six w b o v0 v1 v2 v3 v4 v5).cell? ⟨b, o + 1, none⟩ = some v1 ∧ (six w b o v0 v1 v2 v3 v4 v5).cell? ⟨b, o + 2, none⟩ = some v2 ∧
    (six w b o v0 v1 v2 v3 v4 v5).cell? ⟨b, o + 3, none⟩ = some v3 ∧ (six w b o v0 v1 v2 v3 v4 v5).cell? ⟨b, o + 4, none⟩ = some v4 ∧ (six w b o v0 v1 v2 v3 v4 v5).cell? ⟨b, o + 5, none⟩ = some v5 := by
  have sm : ∀ j, j < arr.size → (w.cell? ⟨b, j, none⟩).isSome = true := fun j hj => by rw [cell_of_row w b j _ _ _ h]; simp [hj]
  have st : ∀ (W : World) (i j : Nat) (v : Value), (W.cell? ⟨b, j, none⟩).isSome = true → ((W.setCell ⟨b, i, none⟩ v).cell? ⟨b, j, none⟩).isSome = true := fun W i j v hs => by
    obtain ⟨u, hu⟩ := Option.isSome_iff_exists.1 hs
    obtain ⟨u', hu'⟩ := cell?_setCell_some (p := ⟨b, i, none⟩) (x := v) hu
    rw [hu']; rfl
  unfold six
  refine ⟨?_, ?_, ?_, ?_, ?_, ?_⟩
  · rw [World.cell?_setCell_other (h := ne_off (by omega)), World.cell?_setCell_other (h := ne_off (by omega)), World.cell?_setCell_other (h := ne_off (by omega)), World.cell?_setCell_other (h := ne_off (by omega)), World.cell?_setCell_other (h := ne_off (by omega)), World.cell?_setCell_same' _ _ _ (sm _ (by omega))]
  · rw [World.cell?_setCell_other (h := ne_off (by omega)), World.cell?_setCell_other (h := ne_off (by omega)), World.cell?_setCell_other (h := ne_off (by omega)), World.cell?_setCell_other (h := ne_off (by omega)), World.cell?_setCell_same' _ _ _ (st _ _ _ _ (sm _ (by omega)))]
  · rw [World.cell?_setCell_other (h := ne_off (by omega)), World.cell?_setCell_other (h := ne_off (by omega)), World.cell?_setCell_other (h := ne_off (by omega)), World.cell?_setCell_same' _ _ _ (st _ _ _ _ (st _ _ _ _ (sm _ (by omega))))]
  · rw [World.cell?_setCell_other (h := ne_off (by omega)), World.cell?_setCell_other (h := ne_off (by omega)), World.cell?_setCell_same' _ _ _ (st _ _ _ _ (st _ _ _ _ (st _ _ _ _ (sm _ (by omega)))))]
  · rw [World.cell?_setCell_other (h := ne_off (by omega)), World.cell?_setCell_same' _ _ _ (st _ _ _ _ (st _ _ _ _ (st _ _ _ _ (st _ _ _ _ (sm _ (by omega))))))]
  · rw [World.cell?_setCell_same' _ _ _ (st _ _ _ _ (st _ _ _ _ (st _ _ _ _ (st _ _ _ _ (st _ _ _ _ (sm _ (by omega)))))))]
theorem six_below {w0 w : World} {B b : Nat} (h : Below B w0 w) (hb : B ≤ b) (o : Nat) (v0 v1 v2 v3 v4 v5 : Value) : Below B w0 (six w b o v0 v1 v2 v3 v4 v5) := by
  unfold six
  exact (((((h.setCell (p := ⟨b, o, none⟩) hb v0).setCell (p := ⟨b, o + 1, none⟩) hb v1).setCell (p := ⟨b, o + 2, none⟩) hb v2).setCell (p := ⟨b, o + 3, none⟩) hb v3).setCell (p := ⟨b, o + 4, none⟩) hb v4).setCell (p := ⟨b, o + 5, none⟩) hb v5
theorem rdi_at {w w' : World} {B B' n g : Nat} {f : List Int} (h : RdI w B (some ⟨g, 0, none⟩) n f) (hB : B ≤ B') (hk : ∀ j, w'.cell? ⟨g, j, none⟩ = w.cell? ⟨g, j, none⟩) : RdI w' B' (some ⟨g, 0, none⟩) n f :=
  ⟨h.1, fun hn => by
    obtain ⟨b, off, e, hb, hc⟩ := h.2 hn
    have e1 : g = b ∧ 0 = off := by
      have := Option.some.inj e
      injection this with a1 a2 _
      exact ⟨a1, a2⟩
    obtain ⟨rfl, rfl⟩ := e1
    exact ⟨g, 0, rfl, by omega, fun j hj => (hk _).trans (hc j hj)⟩⟩
theorem atp_at {w w' : World} {B B' b off g c : Nat} {s : Stp} (h : AtP w B b off s (some ⟨g, 0, none⟩) c) (hB : B ≤ B') (hk : ∀ j, w'.cell? ⟨g, j, none⟩ = w.cell? ⟨g, j, none⟩) (ho : ∀ t, t < 6 → w'.cell? ⟨b, off + t, none⟩ = w.cell? ⟨b, off + t, none⟩) : AtP w' B' b off s (some ⟨g, 0, none⟩) c := by
  obtain ⟨h0, h1, h2, h3, h4, h5, h6, h7⟩ := h
  exact ⟨(ho 0 (by omega)).trans h0, (ho 1 (by omega)).trans h1, (ho 2 (by omega)).trans h2, (ho 3 (by omega)).trans h3, (ho 4 (by omega)).trans h4, (ho 5 (by omega)).trans h5, h6, rdi_at h7 hB hk⟩
/-- The copy of a row of steps, the first k of them. -/
def CopS (w0 wr : World) (g n : Nat) (ss : List Stp) (k : Nat) : Prop :=
  (∃ arr, wr.heap[g]? = some (.cells arr 35 (0, 0)) ∧ n * 6 ≤ arr.size) ∧ (∀ m, m < k → ∃ gm, gm ≠ g ∧ gm < wr.heap.size ∧ AtP wr wr.heap.size g (m * 6) (ss.getD m Stp.nil) (some ⟨gm, 0, none⟩) (ss.getD m Stp.nil).f.length) ∧ Below g w0 wr ∧ g < wr.heap.size
theorem CopS.step {w0 wr w1 : World} {g n k g1 : Nat} {ss : List Stp} (h : CopS w0 wr g n ss k) (hk : k < n) (bel : Below wr.heap.size wr w1) (own : w1.ownsRow wr.heap.size 2 1 (.slice (some ⟨g1, 0, none⟩) (ss.getD k Stp.nil).f.length (ss.getD k Stp.nil).f.length) (ss.getD k Stp.nil).f.length ((ss.getD k Stp.nil).f.map (Value.int .i64))) (hg1 : wr.heap.size ≤ g1 ∧ g1 < w1.heap.size) :
    CopS w0 (six w1 g (k * 6) (.int .i64 (ss.getD k Stp.nil).r) (.int .i64 (ss.getD k Stp.nil).a) (.int .i64 (ss.getD k Stp.nil).b) (.int .i64 (ss.getD k Stp.nil).i) (.int .i64 (ss.getD k Stp.nil).j) (.slice (some ⟨g1, 0, none⟩) (ss.getD k Stp.nil).f.length (ss.getD k Stp.nil).f.length)) g n ss (k + 1) := by
  obtain ⟨⟨arr, ha, hsz⟩, hat, hb, hg⟩ := h
  have ha1 := (bel.block g hg).trans ha
  have hs1 := bel.size
  obtain ⟨s, hs⟩ : ∃ s, ss.getD k Stp.nil = s := ⟨_, rfl⟩
  rw [hs] at own ⊢
  have es : ∀ v0 v1 v2 v3 v4 v5, (six w1 g (k * 6) v0 v1 v2 v3 v4 v5).heap.size = w1.heap.size := fun v0 v1 v2 v3 v4 v5 => by simp [six]
  obtain ⟨arr', ha', hsz'⟩ := six_heap (o := k * 6) ha1 (.int .i64 s.r) (.int .i64 s.a) (.int .i64 s.b) (.int .i64 s.i) (.int .i64 s.j) (.slice (some ⟨g1, 0, none⟩) s.f.length s.f.length)
  obtain ⟨n0, n1, n2, n3, n4, n5⟩ := six_near (o := k * 6) ha1 (by omega) (.int .i64 s.r) (.int .i64 s.a) (.int .i64 s.b) (.int .i64 s.i) (.int .i64 s.j) (.slice (some ⟨g1, 0, none⟩) s.f.length s.f.length)
  have hn1 : g1 ≠ g := by omega
  refine ⟨⟨arr', ha', by omega⟩, fun m hm => ?_, six_below (hb.trans (bel.mono (by omega))) (Nat.le_refl g) _ _ _ _ _ _ _, by rw [es]; omega⟩
  by_cases e : m = k
  · subst e
    rw [hs]
    exact ⟨g1, hn1, by rw [es]; exact hg1.2, n0, n1, n2, n3, n4, n5, Nat.le_refl _, rdi_at (RdI.of_own own) (by rw [es]; exact Nat.le_refl _) (fun j => six_far (.inl hn1))⟩
  · obtain ⟨gm, hne, hlt, at1⟩ := hat m (by omega)
    exact ⟨gm, hne, by rw [es]; omega, atp_at at1 (by rw [es]; exact hs1) (fun j => (six_far (.inl hne)).trans (bel.cell hlt)) (fun t ht => (six_far (.inr (.inl (by show m * 6 + t < k * 6; omega)))).trans (bel.cell hg))⟩
theorem CopS.done {w0 wr : World} {g n : Nat} {ss : List Stp} (h : CopS w0 wr g n ss n) (hn : ss.length = n) : RdP wr wr.heap.size (some ⟨g, 0, none⟩) n ss := by
  obtain ⟨_, hat, _, hg⟩ := h
  exact ⟨hn, fun _ => ⟨g, 0, rfl, hg, fun k hk => by
    obtain ⟨gm, _, _, a⟩ := hat k hk
    rw [Nat.zero_add]
    exact ⟨_, _, a⟩⟩⟩

set_option maxHeartbeats 4000000 in
theorem toStepS_any (A : Option Addr) (n c : Nat) (ss : List Stp) (w : World) (h : RdP w w.heap.size A n ss) (hn : n ≤ 1048576) (hq : ∀ q ∈ fsP ss, q.length ≤ 1048576) :
    Calls Tryd.prog 18 #[.slice A n c] w fun e w' => e = .returned (.slice (some ⟨w.heap.size, 0, none⟩) n n) ∧ RdP w' w'.heap.size (some ⟨w.heap.size, 0, none⟩) n ss ∧ Below w.heap.size w w' := by
  obtain ⟨i0, hi0, hz0, hz1, hz2⟩ := info_parts_step
  have hl := h.len
  have b2 : i0.bytes * n ≤ 281474976710656 := by rw [hz2]; omega
  have b3 : n ≤ maxLen := by unfold maxLen; omega
  go_enter Tryd.func18, Tryd.ntmps18
  go_wp2_with (at_make; refine wpList_make_full _ rfl _ _ _ rfl w.heap.size 35 i0 (Value.agg #[Value.int .i64 0, Value.int .i64 0, Value.int .i64 0, Value.int .i64 0, Value.int .i64 0, Value.slice none 0 0]) 6 Tryd.underlying42 hi0 hz0 hz1 _ _ _ _ n rfl rfl rfl rfl b2 b3 (Nat.le_refl _) ?_; intro w1 hown hg)
  have hbel : Below w.heap.size w w1 := (Below.refl _ _).grown hg (Nat.le_refl _) (by intro k hk; cases hk)
  have hC0 : CopS w w1 w.heap.size n ss 0 := by
    obtain ⟨_, h2⟩ := hown
    rcases h2 with ⟨hv, _⟩ | ⟨g, cap, cur, hv, hb, hh, hn1, hc, hsz, _⟩
    · cases hv
    · have hgg : g = w.heap.size := (congrArg Addr.block (Option.some.inj (Value.slice.inj hv).1)).symm
      subst hgg
      have hlt : w.heap.size < w1.heap.size := by
        rcases Nat.lt_or_ge w.heap.size w1.heap.size with hlt | hge
        · exact hlt
        · rw [Array.getElem?_eq_none hge] at hh; cases hh
      refine ⟨⟨cur, hh, ?_⟩, fun m hm => absurd hm (by omega), hbel, hlt⟩
      rw [hsz]; exact Nat.mul_le_mul_right 6 hn1
  have HC0 := Lib.hid hC0
  clear hg hown b2 b3 hi0 hz0 hz1 hz2 hC0 hbel
  have HR := Lib.hid h; have HQ := Lib.hid hq
  clear h hq
  go_loopw [4] (fun i wr => ∃ k : Nat, k ≤ n ∧ i = .int .i64 k ∧ CopS w wr w.heap.size n ss k) (fun i _ => n - (intOf i).toNat)
  case atStart => exact ⟨0, Nat.zero_le _, rfl, HC0.out⟩
  case round =>
    obtain ⟨k, hk, rfl, hC⟩ := hrel
    have HC := Lib.hid hC
    obtain ⟨⟨arr, ha, hsz⟩, _, hB, hg⟩ := hC
    by_cases hlt : k < n
    · obtain ⟨b, off, rfl, hbb, hcells⟩ := HR.out.2 (by omega)
      obtain ⟨A', c', hat⟩ := hcells k hlt
      have hm := HQ.out _ (getD_mem (show k < (fsP ss).length by rw [fsP_len]; omega))
      rw [fsP_getD ss k (by omega)] at hm
      obtain ⟨x0, x1, x2, x3, x4, x5, hx6, hx7⟩ := hat.keep (fun _ hp => hB.cell hp) hbb
      have HT := Lib.hid (toStep_any (ss.getD k Stp.nil).r (ss.getD k Stp.nil).a (ss.getD k Stp.nil).b (ss.getD k Stp.nil).i (ss.getD k Stp.nil).j A' (ss.getD k Stp.nil).f.length c' (ss.getD k Stp.nil).f wr (hx7.more hB.size) hm)
      have hST := Lib.hid (fun (w1 : World) (g1 : Nat) bel own h1 => HC.out.step (w1 := w1) (g1 := g1) hlt bel own h1)
      have hcap : k * 6 + 6 ≤ arr.size := by omega
      clear hcells hat HC hB hx7 HQ
      generalize (ss.getD k Stp.nil).f.length = M at *
      generalize (ss.getD k Stp.nil).r = sr at *; generalize (ss.getD k Stp.nil).a = sa at *; generalize (ss.getD k Stp.nil).b = sb at *; generalize (ss.getD k Stp.nil).i = si at *; generalize (ss.getD k Stp.nil).j = sj at *
      go_wp2_with (fail)
      refine HT.out.mono ?_
      rintro e w1 ⟨g1, rfl, own, bel⟩
      have ha1 := (bel.block w.heap.size hg).trans ha
      have hg1 := own.lt g1 rfl
      have HS := Lib.hid (hST.out w1 g1 bel own hg1)
      obtain ⟨d0, e0⟩ : ∃ u, w1.cell? ⟨w.heap.size, k * 6, none⟩ = some u := ⟨_, (cell_of_row _ _ _ _ _ _ ha1).trans (Array.getElem?_eq_getElem (show k * 6 < arr.size by omega))⟩
      have fr0 := frozen_of_row _ _ (k * 6) _ _ ha1
      obtain ⟨d1, e1⟩ : ∃ u, w1.cell? ⟨w.heap.size, k * 6 + 1, none⟩ = some u := ⟨_, (cell_of_row _ _ _ _ _ _ ha1).trans (Array.getElem?_eq_getElem (show k * 6 + 1 < arr.size by omega))⟩
      have fr1 := frozen_of_row _ _ (k * 6 + 1) _ _ ha1
      obtain ⟨d2, e2⟩ : ∃ u, w1.cell? ⟨w.heap.size, k * 6 + 2, none⟩ = some u := ⟨_, (cell_of_row _ _ _ _ _ _ ha1).trans (Array.getElem?_eq_getElem (show k * 6 + 2 < arr.size by omega))⟩
      have fr2 := frozen_of_row _ _ (k * 6 + 2) _ _ ha1
      obtain ⟨d3, e3⟩ : ∃ u, w1.cell? ⟨w.heap.size, k * 6 + 3, none⟩ = some u := ⟨_, (cell_of_row _ _ _ _ _ _ ha1).trans (Array.getElem?_eq_getElem (show k * 6 + 3 < arr.size by omega))⟩
      have fr3 := frozen_of_row _ _ (k * 6 + 3) _ _ ha1
      obtain ⟨d4, e4⟩ : ∃ u, w1.cell? ⟨w.heap.size, k * 6 + 4, none⟩ = some u := ⟨_, (cell_of_row _ _ _ _ _ _ ha1).trans (Array.getElem?_eq_getElem (show k * 6 + 4 < arr.size by omega))⟩
      have fr4 := frozen_of_row _ _ (k * 6 + 4) _ _ ha1
      obtain ⟨d5, e5⟩ : ∃ u, w1.cell? ⟨w.heap.size, k * 6 + 5, none⟩ = some u := ⟨_, (cell_of_row _ _ _ _ _ _ ha1).trans (Array.getElem?_eq_getElem (show k * 6 + 5 < arr.size by omega))⟩
      have fr5 := frozen_of_row _ _ (k * 6 + 5) _ _ ha1
      clear own bel hST HT ha ha1 hg1 x0 x1 x2 x3 x4 x5
      go_wp2
      go_roundw
      case rel => exact ⟨k + 1, by omega, by go_num, HS.out⟩
      case measure => simp [intOf]; omega
    · have hkl : k = n := by omega
      subst hkl
      have HD := Lib.hid (HC.out.done hl)
      have HB := Lib.hid hB
      clear HC hB
      go_wp2
      go_ret
      exact ⟨rfl, HD.out, HB.out⟩
end Go.Proofs.YtjhagklpnpabeaaDoor
