/- Joined and Wrapped: of the program and of the model. Joined and Wrapped of the model. -/
import Derived.Test.YtjfhbofgnagfaaaDoorDual
import Derived.Test.YtjfhbofgnagfaaaDoorClone
namespace Go.Proofs.YtjfhbofgnagfaaaDoor
open Go.RowKit

theorem gives_from {w W : World} {xs : List Int} {e : Ending} {w' : World} (h : Gives W xs e w') (hb : Below w.heap.size w W) : Gives w xs e w' := by
  obtain ⟨A, c, he, ho, hb'⟩ := h
  exact ⟨A, c, he, ho.mono hb.size, hb.trans (hb'.mono hb.size)⟩
theorem cell_new1 (w : World) (cs : Array Value) (t : TypeId) (i : Nat) : (w.alloc (.cells cs t)).cell? ⟨w.heap.size, i, none⟩ = cs[i]? := cell_of_row _ _ i cs t (0, 0) (heap_alloc_new w _)

/-- What lies behind '[]int64{op}' and the list of the parts. -/
theorem two_new (w : World) (op : Int) (ps : Array Value) (t t' : TypeId) :
    Below w.heap.size w ((w.alloc (.cells #[.int .i64 op] t)).alloc (.cells ps t')) ∧
    Part ((w.alloc (.cells #[.int .i64 op] t)).alloc (.cells ps t')) ((w.alloc (.cells #[.int .i64 op] t)).alloc (.cells ps t')).heap.size (.slice (some ⟨w.heap.size, 0, none⟩) 1 1) [op] ∧
    (∀ i, ((w.alloc (.cells #[.int .i64 op] t)).alloc (.cells ps t')).cell? ⟨w.heap.size + 1, i, none⟩ = ps[i]?) ∧ w.heap.size + 1 < ((w.alloc (.cells #[.int .i64 op] t)).alloc (.cells ps t')).heap.size := by
  have e1 : (w.alloc (.cells #[.int .i64 op] t)).heap.size = w.heap.size + 1 := by simp
  have e2 : ((w.alloc (.cells #[.int .i64 op] t)).alloc (.cells ps t')).heap.size = w.heap.size + 2 := by simp
  refine ⟨((Below.refl _ _).alloc (Nat.le_refl _) _).alloc (by rw [e1]; omega) _, ?_, fun i => ?_, by omega⟩
  · refine ⟨w.heap.size, 0, 1, rfl, by omega, by simp, fun j hj => ?_⟩
    have hj0 : j = 0 := by simpa using hj
    subst hj0
    have h1 : ((w.alloc (.cells #[.int .i64 op] t)).alloc (.cells ps t')).cell? ⟨w.heap.size, 0, none⟩ = (w.alloc (.cells #[.int .i64 op] t)).cell? ⟨w.heap.size, 0, none⟩ := World.cell?_alloc_lt _ _ _ (by rw [e1]; show w.heap.size < _; omega)
    rw [Nat.add_zero, h1, cell_new1]
    rfl
  · have := cell_new1 (w.alloc (.cells #[.int .i64 op] t)) ps t' i
    rw [e1] at this
    exact this

/-- May these be joined? -/
def joinB (op : Int) (a b : List Int) : Bool := decide (arZ op = 2 ∧ validB a = true ∧ validB b = true ∧ 1 + a.length + b.length ≤ 24)
/-- Joined. -/
def joinL (op : Int) (a b : List Int) : List Int := if joinB op a b then op :: (a ++ b) else []
theorem joinB_yes {op : Int} {a b : List Int} (h1 : arZ op = 2) (h2 : validB a = true) (h3 : validB b = true) (h4 : 1 + a.length + b.length ≤ 24) : joinB op a b = true := decide_eq_true ⟨h1, h2, h3, h4⟩
theorem joinB_no {op : Int} {a b : List Int} (h : ¬ (arZ op = 2 ∧ validB a = true ∧ validB b = true ∧ 1 + a.length + b.length ≤ 24)) : joinB op a b = false := decide_eq_false h
theorem joinL_yes {op : Int} {a b : List Int} (h : joinB op a b = true) : joinL op a b = op :: (a ++ b) := by simp [joinL, h]
theorem joinL_no {op : Int} {a b : List Int} (h : joinB op a b = false) : joinL op a b = [] := by simp [joinL, h]
theorem joinL_len (op : Int) (a b : List Int) : (joinL op a b).length ≤ 24 := by
  cases h : joinB op a b with
  | false => rw [joinL_no h]; simp
  | true =>
    rw [joinL_yes h]
    have := of_decide_eq_true h
    simp; omega

theorem givesB_nil (w : World) : GivesB w [] false (.returned (.tuple #[.slice none 0 0, .bool false])) w := ⟨_, _, rfl, World.ownsRow_nil _ _ _ _, Below.refl _ _⟩

/-- May this be wrapped? -/
def wrapB (op : Int) (a : List Int) : Bool := decide (arZ op = 1 ∧ validB a = true ∧ 1 + a.length ≤ 24)
/-- Wrapped. -/
def wrapL (op : Int) (a : List Int) : List Int := if wrapB op a then op :: a else []
theorem wrapB_yes {op : Int} {a : List Int} (h1 : arZ op = 1) (h2 : validB a = true) (h4 : 1 + a.length ≤ 24) : wrapB op a = true := decide_eq_true ⟨h1, h2, h4⟩
theorem wrapB_no {op : Int} {a : List Int} (h : ¬ (arZ op = 1 ∧ validB a = true ∧ 1 + a.length ≤ 24)) : wrapB op a = false := decide_eq_false h
theorem wrapL_yes {op : Int} {a : List Int} (h : wrapB op a = true) : wrapL op a = op :: a := by simp [wrapL, h]
theorem wrapL_no {op : Int} {a : List Int} (h : wrapB op a = false) : wrapL op a = [] := by simp [wrapL, h]
theorem wrapL_len (op : Int) (a : List Int) : (wrapL op a).length ≤ 24 := by
  cases h : wrapB op a with
  | false => rw [wrapL_no h]; simp
  | true =>
    rw [wrapL_yes h]
    have := of_decide_eq_true h
    simp; omega

/-- What the first append leaves, as the second asks for it. -/
theorem second_news {w wa w1 : World} {e : TypeId} {v0 v1 : Value} {n0 n1 b2 off2 : Nat} {xs ys xb : List Value} {b : List Int} (HB0 : Hid (Below w.heap.size w wa)) (H0 : wa.ownsRow w.heap.size e 1 v0 n0 xs) (hown1 : w1.ownsRow w.heap.size e 1 v1 n1 ys) (hgrow1 : wa.grownBy w1 v0.ownBlock)
    (HC2 : Hid (∀ j, j < b.length → w.cell? ⟨b2, off2 + j, none⟩ = some (.int .i64 (b.getD j 0)))) (HBS : Hid (b.map (Value.int .i64) = xb)) (hb2 : b2 < w.heap.size) :
    Hid (w1.ownsRow w.heap.size e 1 v1 n1 ys) ∧ Hid (Below w.heap.size w w1) ∧ Hid (∀ j u, xb[j]? = some u → w1.cell? ((⟨b2, off2, none⟩ : Addr).add j) = some u) := by
  have hb1' : Below w.heap.size w w1 := HB0.out.grown hgrow1 HB0.out.size (fun q hq => (H0.lt q hq).1)
  refine ⟨hown1, hb1', ?_⟩
  have := part_news (w := w1) (b := b2) (off := off2) (zs := b) (fun j hj => (hb1'.cell (p := ⟨b2, off2 + j, none⟩) hb2).trans (HC2.out j hj))
  rw [HBS.out] at this
  exact this
theorem last_news {w w1 w2 : World} {e : TypeId} {v1 v2 : Value} {n1 n2 : Nat} {xs ys : List Value} {J : List Int} (HB1 : Hid (Below w.heap.size w w1)) (HO1 : Hid (w1.ownsRow w.heap.size e 1 v1 n1 xs)) (hown2 : w2.ownsRow w.heap.size e 1 v2 n2 ys) (hgrow2 : w1.grownBy w2 v1.ownBlock)
    (HJ : Hid (ys = J.map (Value.int .i64))) (HL : Hid (J.length = n2)) :
    ∃ A c, v2 = .slice A n2 c ∧ Hid (w2.ownsRow w.heap.size e 1 (.slice A J.length c) J.length (J.map (Value.int .i64))) ∧ Hid (Below w.heap.size w w2) := by
  have hb2' : Below w.heap.size w w2 := HB1.out.grown hgrow2 HB1.out.size (fun q hq => (HO1.out.lt q hq).1)
  obtain ⟨A2, c2, rfl⟩ := own_shape hown2
  rw [HJ.out] at hown2
  refine ⟨A2, c2, rfl, ?_, hb2'⟩
  rw [HL.out]
  exact hown2

set_option maxHeartbeats 1000000 in
theorem sjoined_any (op : Int) (A : Option Addr) (n c : Nat) (a : List Int) (B : Option Addr) (m d : Nat) (b : List Int) (w : World) (h : RdI w w.heap.size A n a) (h' : RdI w w.heap.size B m b) (hn0 : 0 < n) (hm0 : 0 < m) (hn : n ≤ 1000) (hm : m ≤ 1000) :
    Calls Tryd.prog 101 #[.int .i64 op, .slice A n c, .slice B m d] w (Gives w (op :: (a ++ b))) := by
  obtain ⟨i0, hi0, hz0, hz1, hz2⟩ := info_parts info_i64
  have hl := h.len
  have hl' := h'.len
  subst hl hl'
  obtain ⟨b1, off1, rfl, hb1, hc1⟩ := h.2 hn0
  obtain ⟨b2, off2, rfl, hb2, hc2⟩ := h'.2 hm0
  have H0 := World.ownsRow_lit (base := w.heap.size) (e := 2) (size := 1) w #[.int .i64 op] 1 (Nat.le_refl _) (by simp [maxLen]) rfl
  have hb0 : Below w.heap.size w (w.alloc (.cells #[.int .i64 op] 2)) := (Below.refl _ _).alloc (Nat.le_refl _) _
  have hn1 : ∀ j u, (a.map (Value.int .i64))[j]? = some u → (w.alloc (.cells #[.int .i64 op] 2)).cell? ((⟨b1, off1, none⟩ : Addr).add j) = some u := part_news (fun j hj => (hb0.cell (p := ⟨b1, off1 + j, none⟩) hb1).trans (hc1 j hj))
  have HN1 := Lib.hid hn1
  have HJ : Hid (([Value.int .i64 op] ++ a.map (Value.int .i64)) ++ b.map (Value.int .i64) = (op :: (a ++ b)).map (Value.int .i64)) := Lib.hid (by simp)
  have HL : Hid ((op :: (a ++ b)).length = 1 + a.length + b.length) := Lib.hid (by simp; omega)
  have hlen1 : (a.map (Value.int .i64)).length = a.length * 1 := by simp
  have hlen2 : (b.map (Value.int .i64)).length = b.length * 1 := by simp
  have HO := ints_one a
  have HO2 := ints_one b
  obtain ⟨xa, hxa⟩ : ∃ xa, a.map (Value.int .i64) = xa := ⟨_, rfl⟩
  obtain ⟨xb, hxb⟩ : ∃ xb, b.map (Value.int .i64) = xb := ⟨_, rfl⟩
  rw [hxa] at HN1 HJ hlen1 HO
  rw [hxb] at HJ hlen2 HO2
  have HBS := Lib.hid hxb
  have HHO := Lib.hid HO; have HHO2 := Lib.hid HO2; have HL1 := Lib.hid hlen1; have HL2 := Lib.hid hlen2
  have HC2 := Lib.hid hc2
  obtain ⟨J, hJ⟩ : ∃ J, op :: (a ++ b) = J := ⟨_, rfl⟩
  rw [hJ] at HJ HL ⊢
  clear hn1 hxa hxb hJ HO HO2 hlen1 hlen2 hc1 hc2 h h'
  go_enter Tryd.func101, Tryd.ntmps101
  have hM1 : 1 + a.length ≤ maxLen := by unfold maxLen; omega
  have hM2 : 1 + a.length + b.length ≤ maxLen := by unfold maxLen; omega
  have hS1 : (1 + a.length) * 8 ≤ 140737488355328 := by omega
  have hS2 : (1 + a.length + b.length) * 8 ≤ 140737488355328 := by omega
  have HM1 := Lib.hid hM1; have HM2 := Lib.hid hM2; have HS1 := Lib.hid hS1; have HS2 := Lib.hid hS2; have HB0 := Lib.hid hb0
  have HI := Lib.hid hi0; have HZ0 := Lib.hid hz0; have HZ1 := Lib.hid hz1; have HZ2 := Lib.hid hz2
  clear hM1 hM2 hS1 hS2 hb0 hi0 hz0 hz1 hz2
  go_wp2_with (first
    | (at_builtin; refine wpList_append_own _ rfl (.tmp 8) (.tmp 9) 26 rfl w.heap.size 2 i0 (.int .i64 0) 1 8 Tryd.underlying26 HI.out HZ0.out HZ1.out HZ2.out rfl (by decide) _ _ _ rfl H0 ⟨b1, off1, none⟩ a.length c xa rfl HL1.out HN1.out HHO.out HM1.out HS1.out HB0.out.size ?_; intro v1 w1 hown1 hgrow1 _; obtain ⟨HO1, HB1, HN2⟩ := second_news HB0 H0 hown1 hgrow1 HC2 HBS hb2; clear hown1 hgrow1)
    | (at_builtin; refine wpList_append_own _ rfl (.tmp 10) (.tmp 11) 26 rfl w.heap.size 2 i0 (.int .i64 0) 1 8 Tryd.underlying26 HI.out HZ0.out HZ1.out HZ2.out rfl (by decide) _ _ _ rfl HO1.out ⟨b2, off2, none⟩ b.length d xb rfl HL2.out HN2.out HHO2.out HM2.out HS2.out HB1.out.size ?_; intro v2 w2 hown2 hgrow2 _; obtain ⟨A2, c2, rfl, HO2, HB2⟩ := last_news HB1 HO1 hown2 hgrow2 HJ HL; clear hown2 hgrow2))
  go_ret
  exact ⟨_, _, by rw [HL.out]; rfl, HO2.out, HB2.out⟩

end Go.Proofs.YtjfhbofgnagfaaaDoor
