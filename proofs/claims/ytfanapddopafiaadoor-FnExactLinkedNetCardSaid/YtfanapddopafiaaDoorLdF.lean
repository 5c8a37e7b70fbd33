/- What the model's LinkedNet holds: a net in its box and two rows beside it; each of the three may grow. -/
import Derived.Test.YtfanapddopafiaaDoorLdE
import Derived.Test.YtfanapddopafiaaDoorLdP
namespace Go.Proofs.YtfanapddopafiaaDoor
set_option linter.unusedSimpArgs false
set_option linter.unusedVariables false
open Go.ChangeAt Go.ChangeShapes Go.RowKit Go.WideShapes

structure Ld3 (w1 wr : World) (sx : Nat) (v7 v8 : Value) (h : NH) (M : Nt) (LV : List Int) (JO : List Lk) : Prop where
  p : PlSt w1 wr wr sx h M h M
  lv : wr.ownsRow w1.heap.size 2 1 v7 LV.length (LV.map (Value.int .i64))
  jo : wr.ownsRow w1.heap.size 71 4 v8 JO.length ((flL JO).map (Value.int .i64))
  f7 : ∀ b, v7.ownBlock = some b → FarN h M b ∧ b ≠ sx
  f8 : ∀ b, v8.ownBlock = some b → FarN h M b ∧ b ≠ sx
  f78 : ∀ b, v7.ownBlock = some b → v8.ownBlock ≠ some b
section
variable {w1 wr u w' : World} {sx : Nat} {v7 v8 v : Value} {h h' : NH} {M M' : Nt} {LV : List Int} {JO : List Lk}
/-- The net grows. -/
theorem Ld3.net (s : Ld3 w1 wr sx v7 v8 h M LV JO) (q : PlSt w1 wr w' sx h M h' M') : Ld3 w1 w' sx v7 v8 h' M' LV JO where
  p := { own := q.own, far := fun _ _ f => f, keep := fun _ _ _ _ => rfl, box := q.box, bel := q.bel, size := Nat.le_refl _, sxl := Nat.lt_of_lt_of_le q.sxl q.size, sxf := q.far sx q.sxl q.sxf, sxb := q.sxb }
  lv := own_same s.lv fun k e => q.keep k (s.lv.lt k e).2 (s.f7 k e).1 (s.f7 k e).2
  jo := own_same s.jo fun k e => q.keep k (s.jo.lt k e).2 (s.f8 k e).1 (s.f8 k e).2
  f7 b e := ⟨q.far b (s.lv.lt b e).2 (s.f7 b e).1, (s.f7 b e).2⟩
  f8 b e := ⟨q.far b (s.jo.lt b e).2 (s.f8 b e).1, (s.f8 b e).2⟩
  f78 := s.f78
theorem Ld3.below (s : Ld3 w1 wr sx v7 v8 h M LV JO) (hb : Below wr.heap.size wr w') : Ld3 w1 w' sx v7 v8 h M LV JO := s.net (s.p.below hb)
theorem grown_keep {r : Option Nat} (hb : Below wr.heap.size wr u) (hg : u.grownBy w' r) {k : Nat} (hk : k < wr.heap.size) (hn : r ≠ some k) : w'.heap[k]? = wr.heap[k]? :=
  (hg.block k (Nat.lt_of_lt_of_le hk hb.size) (fun e => hn e.symm)).trans (hb.block k hk)
theorem Ld3.netStay {r : Option Nat} (s : Ld3 w1 wr sx v7 v8 h M LV JO) (hb : Below wr.heap.size wr u) (hg : u.grownBy w' r) (hr : ∀ b, r = some b → FarN h M b ∧ b ≠ sx) (hl : ∀ b, r = some b → w1.heap.size ≤ b) : PlSt w1 w' w' sx h M h M where
  own := (s.p.own.stay fun b hf => by
    by_cases hlt : b < wr.heap.size
    · exact grown_keep hb hg hlt (fun e => hf (hr b e).1)
    · exact absurd (s.p.own.far_ge (by omega)) hf).more (Nat.le_refl _) (Nat.le_trans hb.size hg.size)
  far _ _ f := f
  keep _ _ _ _ := rfl
  box := (grown_keep hb hg s.p.sxl (fun e => (hr sx e).2 rfl)).trans s.p.box
  bel := (s.p.bel.trans (hb.mono s.p.bel.size)).grown hg (Nat.le_trans s.p.bel.size hb.size) hl
  size := Nat.le_refl _
  sxl := Nat.lt_of_lt_of_le s.p.sxl (Nat.le_trans hb.size hg.size)
  sxf := s.p.sxf
  sxb := s.p.sxb
/-- The row of leaves grows. -/
theorem Ld3.leaf {LV' : List Int} {m : Nat} (s : Ld3 w1 wr sx v7 v8 h M LV JO) (hb : Below wr.heap.size wr u) (hown : w'.ownsRow w1.heap.size 2 1 v LV'.length (LV'.map (Value.int .i64))) (hg : u.grownBy w' v7.ownBlock) (hm : wr.heap.size ≤ m)
    (hat : v.ownBlock = v7.ownBlock ∨ v.ownBlock = some m) : Ld3 w1 w' sx v v8 h M LV' JO where
  p := s.netStay hb hg s.f7 (fun b e => (s.lv.lt b e).1)
  lv := hown
  jo := own_same s.jo fun k e => grown_keep hb hg (s.jo.lt k e).2 (fun e2 => s.f78 k e2 e)
  f7 b e := by
    rcases hat with q | q
    · exact s.f7 b (q.symm.trans e)
    · rw [q] at e
      injection e with e
      subst e
      exact ⟨s.p.own.far_ge hm, by have := s.p.sxl; omega⟩
  f8 := s.f8
  f78 b e e2 := by
    rcases hat with q | q
    · exact s.f78 b (q.symm.trans e) e2
    · rw [q] at e
      injection e with e
      have := (s.jo.lt b e2).2
      omega
/-- The row of links grows. -/
theorem Ld3.join {JO' : List Lk} {m : Nat} (s : Ld3 w1 wr sx v7 v8 h M LV JO) (hb : Below wr.heap.size wr u) (hown : w'.ownsRow w1.heap.size 71 4 v JO'.length ((flL JO').map (Value.int .i64))) (hg : u.grownBy w' v8.ownBlock) (hm : wr.heap.size ≤ m)
    (hat : v.ownBlock = v8.ownBlock ∨ v.ownBlock = some m) : Ld3 w1 w' sx v7 v h M LV JO' where
  p := s.netStay hb hg s.f8 (fun b e => (s.jo.lt b e).1)
  lv := own_same s.lv fun k e => grown_keep hb hg (s.lv.lt k e).2 (fun e2 => s.f78 k e e2)
  jo := hown
  f7 := s.f7
  f8 b e := by
    rcases hat with q | q
    · exact s.f8 b (q.symm.trans e)
    · rw [q] at e
      injection e with e
      subst e
      exact ⟨s.p.own.far_ge hm, by have := s.p.sxl; omega⟩
  f78 b e e2 := by
    rcases hat with q | q
    · exact s.f78 b e (q.symm.trans e2)
    · rw [q] at e2
      injection e2 with e2
      have := (s.lv.lt b e).2
      omega
end
/-- The start: an empty net in a new box, two empty rows. -/
theorem Ld3.new (w1 w2 : World) (h2 : w2 = w1.alloc (.cells #[.slice none 0 0, .slice none 0 0, .slice none 0 0] 31)) :
    Ld3 w1 ((w2.alloc (.cells #[] 2)).alloc (.cells #[] 71)) w1.heap.size (.slice (some ⟨w2.heap.size, 0, none⟩) 0 0) (.slice (some ⟨(w2.alloc (.cells #[] 2)).heap.size, 0, none⟩) 0 0) NH.nil Nt.nil [] [] := by
  have hb0 : Below w1.heap.size w1 (w1.alloc (.cells #[.slice none 0 0, .slice none 0 0, .slice none 0 0] 31)) := (Below.refl _ _).alloc (Nat.le_refl _) _
  have hg0 : (w1.alloc (.cells #[.slice none 0 0, .slice none 0 0, .slice none 0 0] 31)).heap[w1.heap.size]? = some (.cells #[.slice none 0 0, .slice none 0 0, .slice none 0 0] 31 (0, 0)) := heap_alloc_new _ _
  have hb2 : Below w1.heap.size w1 w2 := by rw [h2]; exact hb0
  have hg2 : w2.heap[w1.heap.size]? = some (.cells #[.slice none 0 0, .slice none 0 0, .slice none 0 0] 31 (0, 0)) := by rw [h2]; exact hg0
  have hs2 : w1.heap.size < w2.heap.size := (Array.getElem?_eq_some_iff.1 hg2).1
  have b3 : Below w2.heap.size w2 (w2.alloc (.cells #[] 2)) := (Below.refl _ _).alloc (Nat.le_refl _) _
  obtain ⟨w3, h3⟩ : ∃ w3, w3 = w2.alloc (.cells #[] 2) := ⟨_, rfl⟩
  have s3 : w3.heap.size = w2.heap.size + 1 := by rw [h3]; simp
  have o3 : w3.ownsRow w2.heap.size 2 1 (.slice (some ⟨w2.heap.size, 0, none⟩) 0 0) 0 [] := by
    rw [h3]; exact World.ownsRow_made w2 #[] 0 (Nat.le_refl _) (by simp [maxLen]) rfl
  rw [← h3] at b3 ⊢
  have b4 : Below w3.heap.size w3 (w3.alloc (.cells #[] 71)) := (Below.refl _ _).alloc (Nat.le_refl _) _
  have o4 : (w3.alloc (.cells #[] 71)).ownsRow w3.heap.size 71 4 (.slice (some ⟨w3.heap.size, 0, none⟩) 0 0) 0 [] := World.ownsRow_made w3 #[] 0 (Nat.le_refl _) (by simp [maxLen]) rfl
  have s4 : (w3.alloc (.cells #[] 71)).heap.size = w3.heap.size + 1 := by simp
  generalize w3.alloc (.cells #[] 71) = w4 at *
  have b24 := b3.trans (b4.mono b3.size)
  exact {
    p := { own := OwnN.nil _ _ _, far := fun _ _ f => f, keep := fun _ _ _ _ => rfl, box := (b24.block _ hs2).trans hg2, bel := hb2.trans (b24.mono hb2.size), size := Nat.le_refl _, sxl := by omega, sxf := FarN.nil' _, sxb := Nat.le_refl _ }
    lv := (own_below o3 b4 (Nat.le_refl _)).mono (by omega)
    jo := o4.mono (by omega)
    f7 := fun b e => ⟨FarN.nil' b, by
      have e2 : w2.heap.size = b := by simpa [Value.ownBlock] using e
      omega⟩
    f8 := fun b e => ⟨FarN.nil' b, by
      have e2 : w3.heap.size = b := by simpa [Value.ownBlock] using e
      omega⟩
    f78 := fun b e e3 => by
      have e2 : w2.heap.size = b := by simpa [Value.ownBlock] using e
      have e4 : w3.heap.size = b := by simpa [Value.ownBlock] using e3
      omega }
end Go.Proofs.YtfanapddopafiaaDoor
