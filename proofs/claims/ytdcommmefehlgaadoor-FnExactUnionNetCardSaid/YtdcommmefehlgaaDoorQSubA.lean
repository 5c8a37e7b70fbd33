/- Substitution: the mathematics; the model's IsBinding, subst, SubstForm. The program's bindings, arrays of eight slices: bindingOf, IsBinding. The program's bindingOf and IsBinding. The program's IsBinding, atomOf, forSymbol. The model's subst and SubstForm. The program's inForm: substitution in a list of symbols. Rows of headers: a row of one's own whose parts lie wherever. slices.Contains; the program's without. The program's small functions of chapter 8. Placing the parts of a net under given numbers: plain mathematics. The laws' helpers at nets: marks. A net in memory of its own that grows: its parts set and appended to. -/
import Derived.Test.YtdcommmefehlgaaDoorQSeqV
import Derived.Test.YtdcommmefehlgaaDoorQDual
import Derived.Test.YtdcommmefehlgaaDoorQValid
import Derived.Test.YtdcommmefehlgaaDoorQNetO
import Derived.Laws.Tables
import Derived.Laws.CopyOwn
import Derived.Deep.Cut
import Derived.Deep.QuietTactic
import Derived.BigQuiet
import Derived.Deep.RegionLaw
import Derived.Deep.AppendLies
import Derived.Laws.AppendOwnNone
import Derived.Test.YtdcommmefehlgaaDoorPgM
import Derived.Test.YtdcommmefehlgaaDoorNetY
import Derived.Test.YtdcommmefehlgaaDoorQBytes
import Derived.Test.YtdcommmefehlgaaDoorQNetA
import Derived.Test.YtdcommmefehlgaaDoorQMath
namespace Go.Proofs.YtdcommmefehlgaaDoor
set_option linter.unusedSimpArgs false
set_option linter.unusedVariables false
section
open Go.ChangeAt Go.ChangeShapes Go.RowKit Go.WideShapes
end
section
open Go.ChangeAt Go.ChangeShapes Go.RowKit Go.WideShapes

/-- An array of eight slices that read as a binding. -/
structure BndV (w : World) (cs : Array Value) (qs : List (List Int)) : Prop where
  size : cs.size = 8
  len : qs.length = 8
  one : cs.all (·.oneCell') = true
  part : ∀ k, k < 8 → ∃ A c, cs[k]? = some (.slice A (qs.getD k []).length c) ∧ (qs.getD k []).length ≤ c ∧ RdI w w.heap.size A (qs.getD k []).length (qs.getD k [])
theorem BndV.below {w w' : World} {cs : Array Value} {qs : List (List Int)} (h : BndV w cs qs) (hb : Below w.heap.size w w') : BndV w' cs qs :=
  ⟨h.size, h.len, h.one, fun k hk => by
    obtain ⟨A, c, h1, h2, h3⟩ := h.part k hk
    exact ⟨A, c, h1, h2, (h3.below hb).more hb.size⟩⟩
end
section
open Go.ChangeAt Go.ChangeShapes Go.RowKit Go.WideShapes
end
section
open Go.ChangeAt Go.ChangeShapes Go.RowKit Go.WideShapes
end
section
open Go.ChangeAt Go.ChangeShapes Go.RowKit Go.WideShapes
end
section
open Go.ChangeAt Go.ChangeShapes Go.RowKit Go.WideShapes
end
section
open Go.ChangeAt Go.ChangeShapes Go.RowKit Go.WideShapes

/-- Headers that read as a list of lists. -/
structure RdV (w : World) (vs : List Value) (R : List (List Int)) : Prop where
  len : vs.length = R.length
  part : ∀ i, i < R.length → ∃ A c, vs[i]? = some (.slice A (R.getD i []).length c) ∧ (R.getD i []).length ≤ c ∧ RdI w w.heap.size A (R.getD i []).length (R.getD i [])
theorem RdV.below {w w' : World} {vs : List Value} {R : List (List Int)} (h : RdV w vs R) (hb : Below w.heap.size w w') : RdV w' vs R :=
  ⟨h.len, fun i hi => by
    obtain ⟨A, c, h1, h2, h3⟩ := h.part i hi
    exact ⟨A, c, h1, h2, (h3.below hb).more hb.size⟩⟩
theorem RdV.one {w : World} {vs : List Value} {R : List (List Int)} (h : RdV w vs R) : ∀ v ∈ vs, v.oneCell' = true := by
  intro v hv
  obtain ⟨i, hi, e⟩ := List.mem_iff_getElem.1 hv
  obtain ⟨A, c, h1, _⟩ := h.part i (by have := h.len; omega)
  rw [List.getElem?_eq_getElem hi, e] at h1
  injection h1 with h1
  rw [h1]; rfl
theorem RdV.nil (w : World) : RdV w [] [] := ⟨rfl, fun i hi => by simp at hi⟩
theorem RdV.rd {w : World} {base c : Nat} {A : Option Addr} {vs : List Value} {R : List (List Int)} (h : RdV w vs R) (own : w.ownsRow base 24 1 (.slice A R.length c) R.length vs) : RdQ w w.heap.size A R.length R := by
  refine ⟨rfl, fun hn => ?_⟩
  obtain ⟨g, cap, hv', _, hlt⟩ := own.form hn
  injection hv' with e1 e2 e3
  subst e1; subst e3
  refine ⟨g, 0, rfl, hlt, fun j hj => ?_⟩
  obtain ⟨A, c, h1, h2, h3⟩ := h.part j hj
  refine ⟨A, c, ?_, h2, h3⟩
  rw [Nat.zero_add, own.cellAt j (by omega), h1]
theorem contains_any (A : Option Addr) (n c : Nat) (L : List Int) (x : Int) (w : World) (h : RdI w w.heap.size A n L) (hn : n ≤ 1048576) :
    Calls Tryd.prog 97 #[.slice A n c, .int .i64 x] w fun e w' => ∃ k : Int, e = .returned (.int .i64 k) ∧ w = w' ∧ (x ∈ L → 0 ≤ k) ∧ (x ∉ L → k = -1) := by
  have hl := h.len
  subst hl
  have H := Lib.hid h
  clear h
  go_enter Tryd.func97, Tryd.ntmps97
  go_wp2
  go_loopw [8] (fun i wr => ∃ k : Nat, k ≤ L.length ∧ i = .int .i64 k ∧ (∀ j, j < k → L.getD j 0 ≠ x) ∧ w = wr) (fun i _ => L.length - (intOf i).toNat)
  case atStart => exact ⟨0, Nat.zero_le _, rfl, fun j hj => absurd hj (by omega), rfl⟩
  case round =>
    obtain ⟨k, hk, rfl, hno, rfl⟩ := hrel
    have HNO := Lib.hid hno
    clear hno
    by_cases hlt : k < L.length
    · have hd : decide ((k : Int) < (L.length : Int)) = true := decide_eq_true (by omega)
      obtain ⟨b, off, rfl, hbb, hcells⟩ := H.out.2 (by omega)
      have hc := hcells k hlt
      have HME : Hid (L.getD k 0 ∈ L) := Lib.hid (by simp [List.getD, hlt])
      have HG : Hid (∀ y, L.getD k 0 = y → L.getD k 0 = y) := Lib.hid (fun _ h => h)
      generalize hy : L.getD k 0 = y at *
      have HY := Lib.hid hy
      clear hcells hy
      by_cases hxy : x = y
      · have he : (x == y) = true := by simpa using hxy
        have HX := Lib.hid hxy
        clear hxy
        go_wp2
        go_ret
        exact ⟨_, rfl, rfl, fun _ => by omega, fun hn => absurd (HX.out ▸ HME.out) hn⟩
      · have he : (x == y) = false := by simpa using hxy
        have HX := Lib.hid hxy
        clear hxy
        go_wp2
        go_roundw
        case rel => exact ⟨k + 1, by omega, by go_num, fun j hj => by
          rcases Nat.lt_or_ge j k with h1 | h1
          · exact HNO.out j h1
          · obtain rfl : j = k := by omega
            rw [HY.out]; exact fun e => HX.out e.symm, trivial⟩
        case measure => simp [intOf]; omega
    · have hkl : k = L.length := by omega
      subst hkl
      go_wp2
      go_ret
      exact ⟨_, rfl, rfl, fun hm => by
        obtain ⟨j, hj, e⟩ := List.mem_iff_getElem.1 hm
        exact absurd (by simp [List.getD, hj, e]) (HNO.out j hj), fun _ => rfl⟩
theorem containsI_any (A : Option Addr) (n c : Nat) (L : List Int) (x : Int) (w : World) (h : RdI w w.heap.size A n L) (hn : n ≤ 1048576) :
    Calls Tryd.prog 84 #[.slice A n c, .int .i64 x] w fun e w' => e = .returned (.bool (decide (x ∈ L))) ∧ w = w' := by
  have HI := Lib.hid (contains_any A n c L x w h hn)
  clear h
  go_enter Tryd.func84, Tryd.ntmps84
  go_wp2_with (fail)
  refine HI.out.mono ?_
  rintro e w' ⟨k, rfl, rfl, hin, hout⟩
  by_cases hm : x ∈ L
  · have hd : decide (0 ≤ k) = true := decide_eq_true (hin hm)
    have HE : Hid (decide (x ∈ L) = true) := Lib.hid (decide_eq_true hm)
    clear hin hout hm
    go_wp2
    go_ret
    exact ⟨ret_bool HE.out.symm, rfl⟩
  · have hd : decide (0 ≤ k) = false := decide_eq_false (by have := hout hm; omega)
    have HE : Hid (decide (x ∈ L) = false) := Lib.hid (decide_eq_false hm)
    clear hin hout hm
    go_wp2
    go_ret
    exact ⟨ret_bool HE.out.symm, rfl⟩
end
section
set_option linter.unusedSimpArgs false
set_option linter.unusedVariables false
open Go.ChangeAt Go.ChangeShapes Go.RowKit Go.WideShapes

theorem cells4 {w : World} {b : Nat} {a0 a1 a2 a3 : Value} {t : TypeId} (h : w.heap[b]? = some (.cells #[a0, a1, a2, a3] t (0, 0))) :
    w.cell? ⟨b, 0, none⟩ = some a0 ∧ w.cell? ⟨b, 1, none⟩ = some a1 ∧ w.cell? ⟨b, 2, none⟩ = some a2 ∧ w.cell? ⟨b, 3, none⟩ = some a3 :=
  ⟨cell_of_row _ _ 0 _ _ (0, 0) h, cell_of_row _ _ 1 _ _ (0, 0) h, cell_of_row _ _ 2 _ _ (0, 0) h, cell_of_row _ _ 3 _ _ (0, 0) h⟩
theorem eqI_b (A B : Option Addr) (n m c d : Nat) (zs ys : List Int) (w : World) (h : RdI w w.heap.size A n zs) (h' : RdI w w.heap.size B m ys) (hn : n ≤ 1048576) (hm : m ≤ 1048576) :
    Calls Tryd.prog 93 #[.slice A n c, .slice B m d] w fun e w' => e = .returned (.bool (decide (zs = ys))) ∧ Below w.heap.size w w' :=
  (equal_d A B n m c d zs ys w _ _ h h' hn hm).mono fun _ _ ⟨h1, m, h2⟩ => ⟨h1, by rw [h2]; exact below_drewN (Below.refl _ _) m⟩
/-- The operator of a kind. -/
def opK (k : Int) : Int := if k = 3 then 11 else if k = 4 then 12 else -1
theorem linkOperator_any (k : Int) (w : World) : Calls Tryd.prog 63 #[.int .i64 k] w fun e w' => e = .returned (.int .i64 (opK k)) ∧ w = w' := by
  by_cases h3 : k = 3
  · subst h3
    go_enter Tryd.func63, Tryd.ntmps63
    go_wp2
    go_ret
    exact ⟨rfl, rfl⟩
  · have d3 : (k == 3) = false := by simpa using h3
    by_cases h4 : k = 4
    · subst h4
      clear h3
      go_enter Tryd.func63, Tryd.ntmps63
      go_wp2
      go_ret
      exact ⟨rfl, rfl⟩
    · have d4 : (k == 4) = false := by simpa using h4
      have HE : Hid ((-1 : Int) = opK k) := Lib.hid (by unfold opK; rw [if_neg h3, if_neg h4])
      clear h3 h4
      go_enter Tryd.func63, Tryd.ntmps63
      go_wp2
      go_ret
      exact ⟨ret_i64 HE.out, rfl⟩
/-- The link of a kind. -/
def lnk (k a b c : Int) : Lk := ⟨k, a, b, if k = 3 ∨ k = 4 then c else 0⟩
theorem linkOf_any (k a b c : Int) (w : World) : Calls Tryd.prog 61 #[.int .i64 k, .int .i64 a, .int .i64 b, .int .i64 c] w fun e w' => e = .returned (.agg #[.int .i64 (lnk k a b c).k, .int .i64 (lnk k a b c).a, .int .i64 (lnk k a b c).b, .int .i64 (lnk k a b c).c]) ∧ Below w.heap.size w w' := by
  have hb : Below w.heap.size w (w.alloc (.cells #[.int .i64 0, .int .i64 0, .int .i64 0, .int .i64 0] 72)) := (Below.refl _ _).alloc (Nat.le_refl _) _
  obtain ⟨u, hu⟩ : ∃ u, u = w.alloc (.cells #[.int .i64 0, .int .i64 0, .int .i64 0, .int .i64 0] 72) := ⟨_, rfl⟩
  have hg : u.heap[w.heap.size]? = some (.cells #[.int .i64 0, .int .i64 0, .int .i64 0, .int .i64 0] 72 (0, 0)) := by rw [hu]; exact heap_alloc_new _ _
  rw [← hu] at hb
  obtain ⟨x0, x1, x2, x3⟩ := cells4 hg
  have f0 := frozen_of_row _ _ 0 _ _ hg; have f1 := frozen_of_row _ _ 1 _ _ hg; have f2 := frozen_of_row _ _ 2 _ _ hg; have f3 := frozen_of_row _ _ 3 _ _ hg
  have HO := Lib.hid (linkOperator_any k u)
  by_cases h : k = 3 ∨ k = 4
  · have d : (opK k == -1) = false := by
      rcases h with rfl | rfl <;> rfl
    have HE : Hid (lnk k a b c = ⟨k, a, b, c⟩) := Lib.hid (by unfold lnk; rw [if_pos h])
    have HB := Lib.hid (set4_below hb (Nat.le_refl _) (.int .i64 k) (.int .i64 a) (.int .i64 b) (.int .i64 c))
    have HG := Lib.hid (set4_at hg (.int .i64 k) (.int .i64 a) (.int .i64 b) (.int .i64 c))
    rw [HE.out]
    clear hb hg h
    generalize opK k = o at *
    go_enter Tryd.func61, Tryd.ntmps61
    go_wp2_with (fail)
    rw [← hu]
    clear hu
    refine HO.out.mono ?_
    rintro e w' ⟨rfl, rfl⟩
    go_wp2
    (try simp only [Exit.inBlock, Exit.then])
    refine bodyPost_ret (results_cell_row rfl _ _ w.heap.size _ _ (0, 0) _ rfl HG.out Tryd.underlying72 rfl (by kernel_rfl)) rfl ?_
    exact ⟨rfl, HB.out⟩
  · have d : (opK k == -1) = true := by
      have h3 : ¬ k = 3 := fun e => h (.inl e)
      have h4 : ¬ k = 4 := fun e => h (.inr e)
      unfold opK
      rw [if_neg h3, if_neg h4]
      rfl
    have HE : Hid (lnk k a b c = ⟨k, a, b, 0⟩) := Lib.hid (by unfold lnk; rw [if_neg h])
    have HB := Lib.hid (set4_below hb (Nat.le_refl _) (.int .i64 k) (.int .i64 a) (.int .i64 b) (.int .i64 0))
    have HG := Lib.hid (set4_at hg (.int .i64 k) (.int .i64 a) (.int .i64 b) (.int .i64 0))
    rw [HE.out]
    clear hb hg h
    generalize opK k = o at *
    go_enter Tryd.func61, Tryd.ntmps61
    go_wp2_with (fail)
    rw [← hu]
    clear hu
    refine HO.out.mono ?_
    rintro e w' ⟨rfl, rfl⟩
    go_wp2
    (try simp only [Exit.inBlock, Exit.then])
    refine bodyPost_ret (results_cell_row rfl _ _ w.heap.size _ _ (0, 0) _ rfl HG.out Tryd.underlying72 rfl (by kernel_rfl)) rfl ?_
    exact ⟨rfl, HB.out⟩
theorem gives_nil {w w' : World} (h : Below w.heap.size w w') : Gives w [] (.returned (.slice none 0 0)) w' := ⟨none, 0, rfl, World.ownsRow_nil _ _ _ _, h⟩
theorem gives_lit2 {w u : World} {a b : Int} {g : Nat} (h : Below w.heap.size w u) (hg : u.heap.size = g) : Gives w [a, b] (.returned (.slice (some ⟨g, 0, none⟩) 2 2)) (u.alloc (.cells #[.int .i64 a, .int .i64 b] 2)) := by
  subst hg
  exact ⟨_, 2, rfl, own_lit (n := 2) (size := 1) #[.int .i64 a, .int .i64 b] h.size (by simp [maxLen]) rfl, h.trans (((Below.refl _ _).alloc (Nat.le_refl _) _).mono h.size)⟩
theorem gives_lit1 {w u : World} {a : Int} {g : Nat} (h : Below w.heap.size w u) (hg : u.heap.size = g) : Gives w [a] (.returned (.slice (some ⟨g, 0, none⟩) 1 1)) (u.alloc (.cells #[.int .i64 a] 2)) := by
  subst hg
  exact ⟨_, 1, rfl, own_lit (n := 1) (size := 1) #[.int .i64 a] h.size (by simp [maxLen]) rfl, h.trans (((Below.refl _ _).alloc (Nat.le_refl _) _).mono h.size)⟩
theorem outputsOf_any (l : Lk) (w : World) : Calls Tryd.prog 70 #[.agg #[.int .i64 l.k, .int .i64 l.a, .int .i64 l.b, .int .i64 l.c]] w (Gives w (outL l)) := by
  obtain ⟨k, a, b, c⟩ := l
  dsimp only
  obtain ⟨hb, x0, x1, x2, x3, hsz⟩ := lnk_any w ⟨k, a, b, c⟩ 72
  dsimp only at hb x0 x1 x2 x3 hsz
  obtain ⟨u, hu⟩ : ∃ u, u = w.alloc (.cells #[.int .i64 k, .int .i64 a, .int .i64 b, .int .i64 c] 72) := ⟨_, rfl⟩
  rw [← hu] at hb x0 x1 x2 x3 hsz
  have HB := Lib.hid hb; have HS := Lib.hid hsz
  clear hb hsz
  by_cases h1 : k = 1
  · subst h1
    rw [show outL ⟨1, a, b, c⟩ = [a, b] from rfl]
    go_enter Tryd.func70, Tryd.ntmps70
    go_wp2_with (fail)
    rw [← hu]
    clear hu
    go_wp2
    go_ret
    exact gives_lit2 HB.out HS.out
  · have d1 : (k == 1) = false := by simpa using h1
    by_cases h2 : k = 2
    · subst h2
      clear h1
      rw [show outL ⟨2, a, b, c⟩ = [] from rfl]
      go_enter Tryd.func70, Tryd.ntmps70
      go_wp2_with (fail)
      rw [← hu]
      clear hu
      go_wp2
      go_ret
      exact gives_nil HB.out
    · have d2 : (k == 2) = false := by simpa using h2
      rw [show outL ⟨k, a, b, c⟩ = [c] by unfold outL; rw [if_neg h1, if_neg h2]]
      clear h1 h2
      go_enter Tryd.func70, Tryd.ntmps70
      go_wp2_with (fail)
      rw [← hu]
      clear hu
      go_wp2
      go_ret
      exact gives_lit1 HB.out HS.out
theorem inputsOf_any (l : Lk) (w : World) : Calls Tryd.prog 71 #[.agg #[.int .i64 l.k, .int .i64 l.a, .int .i64 l.b, .int .i64 l.c]] w (Gives w (inL l)) := by
  obtain ⟨k, a, b, c⟩ := l
  dsimp only
  obtain ⟨hb, x0, x1, x2, x3, hsz⟩ := lnk_any w ⟨k, a, b, c⟩ 72
  dsimp only at hb x0 x1 x2 x3 hsz
  obtain ⟨u, hu⟩ : ∃ u, u = w.alloc (.cells #[.int .i64 k, .int .i64 a, .int .i64 b, .int .i64 c] 72) := ⟨_, rfl⟩
  rw [← hu] at hb x0 x1 x2 x3 hsz
  have HB := Lib.hid hb; have HS := Lib.hid hsz
  clear hb hsz
  by_cases h1 : k = 1
  · subst h1
    rw [show inL ⟨1, a, b, c⟩ = [] from rfl]
    go_enter Tryd.func71, Tryd.ntmps71
    go_wp2_with (fail)
    rw [← hu]
    clear hu
    go_wp2
    go_ret
    exact gives_nil HB.out
  · have d1 : (k == 1) = false := by simpa using h1
    rw [show inL ⟨k, a, b, c⟩ = [a, b] by unfold inL; rw [if_neg h1]]
    clear h1
    go_enter Tryd.func71, Tryd.ntmps71
    go_wp2_with (fail)
    rw [← hu]
    clear hu
    go_wp2
    go_ret
    exact gives_lit2 HB.out HS.out
theorem isWireForm_any (A : Option Addr) (n c : Nat) (f : List Int) (w : World) (h : RdI w w.heap.size A n f) (ht : Arit w) (hnc : n ≤ c) :
    Calls Tryd.prog 72 #[.slice A n c] w fun e w' => e = .returned (.bool (formN f)) ∧ w = w' := by
  have HF := Lib.hid (fragmentOf_impl A n c f w h ht hnc)
  obtain ⟨v, hv⟩ : ∃ v, fragV f = v := ⟨_, rfl⟩
  have HE : Hid (∀ b : Bool, b = decide (0 ≤ v ∧ v ≤ 1) → b = formN f) := Lib.hid fun b hb => by rw [hb, ← hv]; rfl
  rw [hv] at HF
  clear h ht hnc hv
  by_cases h0 : v = 0
  · subst h0
    have HR := Lib.hid (HE.out true rfl)
    clear HE
    go_enter Tryd.func72, Tryd.ntmps72
    go_wp2_with (fail)
    refine HF.out.mono ?_
    rintro e w' ⟨rfl, rfl⟩
    go_wp2
    go_ret
    exact ⟨ret_bool HR.out, rfl⟩
  · have d0 : (v == 0) = false := by simpa using h0
    by_cases h1 : v = 1
    · subst h1
      have HR := Lib.hid (HE.out true rfl)
      clear HE h0
      go_enter Tryd.func72, Tryd.ntmps72
      go_wp2_with (fail)
      refine HF.out.mono ?_
      rintro e w' ⟨rfl, rfl⟩
      go_wp2
      go_ret
      exact ⟨ret_bool HR.out, rfl⟩
    · have d1 : (v == 1) = false := by simpa using h1
      have HR := Lib.hid (HE.out false (by rw [decide_eq_false (by omega)]))
      clear HE h0 h1
      go_enter Tryd.func72, Tryd.ntmps72
      go_wp2_with (fail)
      refine HF.out.mono ?_
      rintro e w' ⟨rfl, rfl⟩
      go_wp2
      go_ret
      exact ⟨ret_bool HR.out, rfl⟩
theorem isWire_any (A L C : Option Addr) (n c m d k e0 : Nat) (x : Int) (w : World) (hn : n ≤ maxLen) :
    Calls Tryd.prog 74 #[.agg #[.slice A n c, .slice L m d, .slice C k e0], .int .i64 x] w fun e w' => e = .returned (.bool (inW n x)) ∧ Below w.heap.size w w' := by
  unfold maxLen at hn
  obtain ⟨hb, hh, hsz⟩ := box3_any w (.slice A n c) (.slice L m d) (.slice C k e0) 30
  obtain ⟨w0, hw0⟩ : ∃ w0, w0 = w.alloc (.cells #[.slice A n c, .slice L m d, .slice C k e0] 30) := ⟨_, rfl⟩
  rw [← hw0] at hb hh hsz
  obtain ⟨y0, y1, y2⟩ := three_cells hh
  have HB := Lib.hid hb
  clear hb hh hsz y1 y2
  by_cases h0 : 0 ≤ x
  · have d0 : decide (0 ≤ x) = true := decide_eq_true h0
    by_cases h1 : x < (n : Int)
    · have d1 : decide (x < (n : Int)) = true := decide_eq_true h1
      have HR : Hid (true = inW n x) := Lib.hid (by unfold inW; rw [decide_eq_true (by omega)])
      clear h0 h1
      go_enter Tryd.func74, Tryd.ntmps74
      go_wp2_with (fail)
      rw [← hw0]
      clear hw0
      go_wp2
      go_ret
      exact ⟨ret_bool HR.out, HB.out⟩
    · have d1 : decide (x < (n : Int)) = false := decide_eq_false h1
      have HR : Hid (false = inW n x) := Lib.hid (by unfold inW; rw [decide_eq_false (by omega)])
      clear h0 h1
      go_enter Tryd.func74, Tryd.ntmps74
      go_wp2_with (fail)
      rw [← hw0]
      clear hw0
      go_wp2
      go_ret
      exact ⟨ret_bool HR.out, HB.out⟩
  · have d0 : decide (0 ≤ x) = false := decide_eq_false h0
    have HR : Hid (false = inW n x) := Lib.hid (by unfold inW; rw [decide_eq_false (by omega)])
    clear h0
    go_enter Tryd.func74, Tryd.ntmps74
    go_wp2_with (fail)
    rw [← hw0]
    clear hw0
    go_wp2
    go_ret
    exact ⟨ret_bool HR.out, HB.out⟩
theorem isConclusion_any (A L C : Option Addr) (n c m d k e0 : Nat) (x : Int) (w : World) (hk : k ≤ maxLen) :
    Calls Tryd.prog 58 #[.agg #[.slice A n c, .slice L m d, .slice C k e0], .int .i64 x] w fun e w' => e = .returned (.bool (inW k x)) ∧ Below w.heap.size w w' := by
  unfold maxLen at hk
  obtain ⟨hb, hh, hsz⟩ := box3_any w (.slice A n c) (.slice L m d) (.slice C k e0) 30
  obtain ⟨w0, hw0⟩ : ∃ w0, w0 = w.alloc (.cells #[.slice A n c, .slice L m d, .slice C k e0] 30) := ⟨_, rfl⟩
  rw [← hw0] at hb hh hsz
  obtain ⟨y0, y1, y2⟩ := three_cells hh
  have HB := Lib.hid hb
  clear hb hh hsz y0 y1
  by_cases h0 : 0 ≤ x
  · have d0 : decide (0 ≤ x) = true := decide_eq_true h0
    by_cases h1 : x < (k : Int)
    · have d1 : decide (x < (k : Int)) = true := decide_eq_true h1
      have HR : Hid (true = inW k x) := Lib.hid (by unfold inW; rw [decide_eq_true (by omega)])
      clear h0 h1
      go_enter Tryd.func58, Tryd.ntmps58
      go_wp2_with (fail)
      rw [← hw0]
      clear hw0
      go_wp2
      go_ret
      exact ⟨ret_bool HR.out, HB.out⟩
    · have d1 : decide (x < (k : Int)) = false := decide_eq_false h1
      have HR : Hid (false = inW k x) := Lib.hid (by unfold inW; rw [decide_eq_false (by omega)])
      clear h0 h1
      go_enter Tryd.func58, Tryd.ntmps58
      go_wp2_with (fail)
      rw [← hw0]
      clear hw0
      go_wp2
      go_ret
      exact ⟨ret_bool HR.out, HB.out⟩
  · have d0 : decide (0 ≤ x) = false := decide_eq_false h0
    have HR : Hid (false = inW k x) := Lib.hid (by unfold inW; rw [decide_eq_false (by omega)])
    clear h0
    go_enter Tryd.func58, Tryd.ntmps58
    go_wp2_with (fail)
    rw [← hw0]
    clear hw0
    go_wp2
    go_ret
    exact ⟨ret_bool HR.out, HB.out⟩
/-- Numbers one after another. -/
def uptoL (s : Int) (n k : Nat) : List Int := markL s k ++ List.replicate (n - k) 0
theorem uptoL_all (s : Int) (n : Nat) : uptoL s n n = markL s n := by simp [uptoL]
theorem uptoL_step {s : Int} {n k : Nat} (h : k < n) : (uptoL s n k).set k (s + (k : Nat)) = uptoL s n (k + 1) := by
  unfold uptoL
  have e1 : n - k = (n - (k + 1)) + 1 := by omega
  rw [List.set_append_right _ _ (by rw [markL_len]; omega), markL_len, Nat.sub_self, e1, List.replicate_succ, List.set_cons_zero]
  have e2 : markL s (k + 1) = markL s k ++ [s + (k : Nat)] := by unfold markL; rw [List.range_succ, List.map_append]; rfl
  rw [e2, List.append_assoc]; rfl
end
section
set_option linter.unusedSimpArgs false
set_option linter.unusedVariables false
open Go.ChangeAt Go.ChangeShapes Go.RowKit Go.WideShapes

/-- The first k elements of xs set at the places R. -/
def plS {α : Type} (d : α) (R : List Int) (xs : List α) (k : Nat) (T : List α) : List α := (List.range k).foldl (fun acc t => acc.set (R.getD t 0).toNat (xs.getD t d)) T
section
variable {α : Type} {d : α} {R : List Int} {xs T T' : List α} {k : Nat}
theorem plS_zero : plS d R xs 0 T = T := rfl
theorem plS_step : plS d R xs (k + 1) T = (plS d R xs k T).set (R.getD k 0).toNat (xs.getD k d) := by unfold plS; rw [List.range_succ, List.foldl_append]; rfl
theorem plS_len (k : Nat) : (plS d R xs k T).length = T.length := by
  induction k with
  | zero => rfl
  | succ k ih => rw [plS_step, List.length_set, ih]
/-- Set one after the other from a place on. -/
theorem plS_run {s n : Nat} {X Y : List α} (hs : X.length = s) (hn : xs.length ≤ n) (hY : xs.length ≤ Y.length) : ∀ k, k ≤ xs.length → plS d (markL s n) xs k (X ++ Y) = X ++ (xs.take k ++ Y.drop k)
  | 0, _ => by simp [plS_zero]
  | k + 1, hk => by
    rw [plS_step, plS_run hs hn hY k (by omega), markL_at _ _ _ (by omega)]
    have e : ((s : Int) + (k : Nat)).toNat = X.length + k := by omega
    rw [e, List.set_append_right _ _ (by omega), Nat.add_sub_cancel_left]
    have hl : (xs.take k).length = k := by rw [List.length_take]; omega
    rw [List.set_append_right _ _ (by omega), hl, Nat.sub_self]
    have hd : Y.drop k = Y.getD k d :: Y.drop (k + 1) := by
      rw [List.drop_eq_getElem_cons (by omega)]
      simp [List.getD, show k < Y.length by omega]
    rw [hd, List.set_cons_zero, takeL_succ (d := d) (by omega), List.append_assoc]
    rfl
/-- What lay there before counts for nothing, when each place is set. -/
theorem plS_same (hT : T.length = T'.length) : ∀ (k i : Nat), (∃ t, t < k ∧ (R.getD t 0).toNat = i) → (plS d R xs k T)[i]? = (plS d R xs k T')[i]?
  | 0, _, h => by obtain ⟨t, h, _⟩ := h; omega
  | k + 1, i, h => by
    rw [plS_step, plS_step]
    by_cases e : (R.getD k 0).toNat = i
    · rw [e, List.getElem?_set, List.getElem?_set, if_pos rfl, if_pos rfl, plS_len, plS_len, hT]
    · rw [List.getElem?_set_ne e, List.getElem?_set_ne e]
      obtain ⟨t, h1, h2⟩ := h
      refine plS_same hT k i ⟨t, ?_, h2⟩
      have : t ≠ k := fun e2 => e (by rw [← e2]; exact h2)
      omega
theorem plS_all (hT : T.length = T'.length) (h : ∀ i, i < T.length → ∃ t, t < k ∧ (R.getD t 0).toNat = i) : plS d R xs k T = plS d R xs k T' := by
  apply List.ext_getElem?
  intro i
  by_cases hi : i < T.length
  · exact plS_same hT k i (h i hi)
  · rw [List.getElem?_eq_none (by rw [plS_len]; omega), List.getElem?_eq_none (by rw [plS_len]; omega)]
end
/-- A link under new numbers. -/
def mapL (P : List Int) (l : Lk) : Lk := ⟨l.k, P.getD l.a.toNat 0, P.getD l.b.toNat 0, if l.k = 3 ∨ l.k = 4 then P.getD l.c.toNat 0 else 0⟩
/-- The net N placed in T. -/
def plN (P R : List Int) (N T : Nt) : Nt := ⟨plS [] P N.w N.w.length T.w, plS Lk.nil R (N.l.map (mapL P)) N.l.length T.l, T.c ++ N.c.map fun x => P.getD x.toNat 0⟩
/-- Room for a net. -/
def roomN (n m : Nat) : Nt := ⟨List.replicate n [], List.replicate m Lk.nil, []⟩
theorem strict_mark : ∀ (ys : List Int) (a : Int), ys.Pairwise (· < ·) → (∀ y ∈ ys, a ≤ y ∧ y < a + ys.length) → ys = markL a ys.length
  | [], _, _, _ => by simp [markL]
  | y :: t, a, hp, hb => by
    obtain ⟨h1, h2⟩ := List.pairwise_cons.1 hp
    have hy := hb y (List.mem_cons_self ..)
    have ht : t = markL (a + 1) t.length := strict_mark t (a + 1) h2 fun z hz => by
      have := h1 z hz
      have := (hb z (List.mem_cons_of_mem _ hz)).2
      simp only [List.length_cons] at this
      omega
    have e : y = a := by
      cases t with
      | nil => simp at hy; omega
      | cons z t' =>
        have hz : z = a + 1 := by
          have h3 := congrArg (fun l => l.getD 0 0) ht
          simp only [List.length_cons] at h3
          rw [markL_at _ _ _ (by omega)] at h3
          simpa using h3
        have := h1 z (List.mem_cons_self ..)
        omega
    have hm : markL a (y :: t).length = a :: markL (a + 1) t.length := by rw [List.length_cons]; exact markL_succ a t.length
    rw [hm, ← ht, e]
end
section
open Go.ChangeAt Go.ChangeShapes Go.RowKit Go.WideShapes

theorem OwnQ.fine {w w' : World} {lo hi : Nat} {v : Value} {hs : Nat → Option Addr × Nat} {qs : List (List Int)} (h : OwnQ w lo hi v hs qs) (h0 : ∀ b, v.ownBlock = some b → w'.heap[b]? = w.heap[b]?) (h1 : ∀ i, i < qs.length → ∀ b, (hv hs qs i).ownBlock = some b → w'.heap[b]? = w.heap[b]?) : OwnQ w' lo hi v hs qs where
  outer := own_same h.outer h0
  inner i hi := own_same (h.inner i hi) (h1 i hi)
  apart := h.apart
  apart0 := h.apart0
  top0 := h.top0
  top := h.top
end
section
open Go.ChangeAt Go.ChangeShapes Go.RowKit Go.WideShapes

/-- No part of the net lies in block b. -/
structure FarN (h : NH) (N : Nt) (b : Nat) : Prop where
  a : (Value.slice h.A N.w.length h.c).ownBlock ≠ some b
  i : ∀ i, i < N.w.length → (hv h.hs N.w i).ownBlock ≠ some b
  l : (Value.slice h.L N.l.length h.d).ownBlock ≠ some b
  c : (Value.slice h.C N.c.length h.e).ownBlock ≠ some b
section
variable {w w1 w' : World} {lo hi b : Nat} {h : NH} {N : Nt}
theorem OwnN.far_lt (o : OwnN w lo hi h N) (hb : b < lo) : FarN h N b where
  a e := by have := (o.q.outer.lt b e).1; omega
  i i hi e := by have := ((o.q.inner i hi).lt b e).1; omega
  l e := by have := (o.l.lt b e).1; omega
  c e := by have := (o.c.lt b e).1; omega
theorem OwnN.far_ge (o : OwnN w lo hi h N) (hb : hi ≤ b) : FarN h N b where
  a e := by have := o.q.top0 b e; omega
  i i hi e := by have := o.q.top i b hi e; omega
  l e := by have := o.lt b e; omega
  c e := by have := o.ct b e; omega
theorem OwnN.size (o : OwnN w lo hi h N) : OwnN w lo w.heap.size h N where
  q := ⟨o.q.outer, o.q.inner, o.q.apart, o.q.apart0, fun k e => (o.q.outer.lt k e).2, fun i k hi e => ((o.q.inner i hi).lt k e).2⟩
  l := o.l
  c := o.c
  lt b e := (o.l.lt b e).2
  ct b e := (o.c.lt b e).2
  lq := o.lq
  cq := o.cq
  lc := o.lc
/-- All blocks of the net are as they were. -/
theorem OwnN.stay (o : OwnN w lo hi h N) (hk : ∀ b, ¬ FarN h N b → w'.heap[b]? = w.heap[b]?) : OwnN w' lo hi h N where
  q := o.q.fine (fun b e => hk b fun f => f.a e) (fun i hi b e => hk b fun f => f.i i hi e)
  l := own_same o.l fun b e => hk b fun f => f.l e
  c := own_same o.c fun b e => hk b fun f => f.c e
  lt := o.lt
  ct := o.ct
  lq := o.lq
  cq := o.cq
  lc := o.lc
theorem OwnN.farSet (o : OwnN w lo hi h N) (f : FarN h N b) (j : Nat) (v : Value) : OwnN (w.setCell ⟨b, j, none⟩ v) lo hi h N :=
  o.stay fun k hk => Below.heap_setCell _ _ _ _ (fun e => hk (by have e' : k = b := e; rw [e']; exact f))
/-- Another row of conclusions. -/
theorem OwnN.setC {C : Option Addr} {e : Nat} {cs : List Int} (o : OwnN w lo w.heap.size h N) (hb : Below w.heap.size w w') (hlo : lo ≤ w.heap.size) (hc : w'.ownsRow w.heap.size 2 1 (.slice C cs.length e) cs.length (cs.map (Value.int .i64))) :
    OwnN w' lo w'.heap.size ⟨h.A, h.c, h.hs, h.L, h.d, C, e⟩ ⟨N.w, N.l, cs⟩ := by
  have o2 := (o.below hb).size
  exact {
    q := o2.q
    l := o2.l
    c := hc.mono hlo
    lt := o2.lt
    ct := fun b e => (hc.lt b e).2
    lq := o2.lq
    cq := fun b e => by
      have h1 := (hc.lt b e).1
      have f := o.far_ge h1
      exact ⟨f.a, f.i⟩
    lc := fun b e e2 => by
      have h1 := (hc.lt b e2).1
      exact (o.far_ge h1).l e }
theorem FarN.setC {C : Option Addr} {e m : Nat} {cs : List Int} (f : FarN h N b) (hc : w'.ownsRow m 2 1 (.slice C cs.length e) cs.length (cs.map (Value.int .i64))) (hb : b < m) : FarN ⟨h.A, h.c, h.hs, h.L, h.d, C, e⟩ ⟨N.w, N.l, cs⟩ b :=
  ⟨f.a, f.i, f.l, fun e => by have := (hc.lt b e).1; omega⟩
/-- A longer row of conclusions, in the old block or in a new one. -/
theorem OwnN.pushC {C : Option Addr} {e : Nat} {cs : List Int} (o : OwnN w lo w.heap.size h N) (hb : Below w.heap.size w w1) (hc : w'.ownsRow lo 2 1 (.slice C cs.length e) cs.length (cs.map (Value.int .i64))) (hg : w1.grownBy w' (Value.slice h.C N.c.length h.e).ownBlock)
    (hat : (Value.slice C cs.length e).ownBlock = (Value.slice h.C N.c.length h.e).ownBlock ∨ (Value.slice C cs.length e).ownBlock = some w1.heap.size) : OwnN w' lo w'.heap.size ⟨h.A, h.c, h.hs, h.L, h.d, C, e⟩ ⟨N.w, N.l, cs⟩ := by
  have s1 := hb.size
  have hk : ∀ b, b < w.heap.size → (Value.slice h.C N.c.length h.e).ownBlock ≠ some b → w'.heap[b]? = w.heap[b]? := fun b h1 h2 => (hg.block b (by omega) (fun e => h2 e.symm)).trans (hb.block b h1)
  have q' : OwnQ w' lo w.heap.size (.slice h.A N.w.length h.c) h.hs N.w := o.q.fine (fun b e => hk b (o.q.top0 b e) (fun e2 => (o.cq b e2).1 e)) (fun i hi b e => hk b (o.q.top i b hi e) (fun e2 => (o.cq b e2).2 i hi e))
  have l' := own_same o.l fun b e => hk b (o.lt b e) (o.lc b e)
  have s2 : w.heap.size ≤ w'.heap.size := Nat.le_trans s1 hg.size
  exact {
    q := q'.more (Nat.le_refl _) s2
    l := l'
    c := hc
    lt := fun b e => Nat.lt_of_lt_of_le (o.lt b e) s2
    ct := fun b e => (hc.lt b e).2
    lq := o.lq
    cq := fun b e => by
      rcases hat with h2 | h2
      · exact o.cq b (h2 ▸ e)
      · have h3 : w1.heap.size = b := by rw [h2] at e; injection e
        have f := o.far_ge (show w.heap.size ≤ b by omega)
        exact ⟨f.a, f.i⟩
    lc := fun b e e2 => by
      rcases hat with h2 | h2
      · exact o.lc b e (h2 ▸ e2)
      · have h3 : w1.heap.size = b := by rw [h2] at e2; injection e2
        exact (o.far_ge (show w.heap.size ≤ b by omega)).l e }
theorem FarN.pushC {C : Option Addr} {e m : Nat} {cs : List Int} (f : FarN h N b) (hat : (Value.slice C cs.length e).ownBlock = (Value.slice h.C N.c.length h.e).ownBlock ∨ (Value.slice C cs.length e).ownBlock = some m) (hb : b < m) : FarN ⟨h.A, h.c, h.hs, h.L, h.d, C, e⟩ ⟨N.w, N.l, cs⟩ b :=
  ⟨f.a, f.i, f.l, fun e => by
    rcases hat with h2 | h2
    · exact f.c (h2 ▸ e)
    · rw [h2] at e; injection e with e; omega⟩
/-- A longer row of links, in the old block or in a new one. -/
theorem OwnN.pushL {L : Option Addr} {d : Nat} {ls : List Lk} (o : OwnN w lo w.heap.size h N) (hb : Below w.heap.size w w1) (hl : w'.ownsRow lo 72 4 (.slice L ls.length d) ls.length ((flL ls).map (Value.int .i64))) (hg : w1.grownBy w' (Value.slice h.L N.l.length h.d).ownBlock)
    (hat : (Value.slice L ls.length d).ownBlock = (Value.slice h.L N.l.length h.d).ownBlock ∨ (Value.slice L ls.length d).ownBlock = some w1.heap.size) : OwnN w' lo w'.heap.size ⟨h.A, h.c, h.hs, L, d, h.C, h.e⟩ ⟨N.w, ls, N.c⟩ := by
  have s1 := hb.size
  have hk : ∀ b, b < w.heap.size → (Value.slice h.L N.l.length h.d).ownBlock ≠ some b → w'.heap[b]? = w.heap[b]? := fun b h1 h2 => (hg.block b (by omega) (fun e => h2 e.symm)).trans (hb.block b h1)
  have q' : OwnQ w' lo w.heap.size (.slice h.A N.w.length h.c) h.hs N.w := o.q.fine (fun b e => hk b (o.q.top0 b e) (fun e2 => (o.lq b e2).1 e)) (fun i hi b e => hk b (o.q.top i b hi e) (fun e2 => (o.lq b e2).2 i hi e))
  have c' := own_same o.c fun b e => hk b (o.ct b e) (fun e2 => o.lc b e2 e)
  have s2 : w.heap.size ≤ w'.heap.size := Nat.le_trans s1 hg.size
  exact {
    q := q'.more (Nat.le_refl _) s2
    l := hl
    c := c'
    lt := fun b e => (hl.lt b e).2
    ct := fun b e => Nat.lt_of_lt_of_le (o.ct b e) s2
    lq := fun b e => by
      rcases hat with h2 | h2
      · exact o.lq b (h2 ▸ e)
      · have h3 : w1.heap.size = b := by rw [h2] at e; injection e
        have f := o.far_ge (show w.heap.size ≤ b by omega)
        exact ⟨f.a, f.i⟩
    cq := o.cq
    lc := fun b e e2 => by
      rcases hat with h2 | h2
      · exact o.lc b (h2 ▸ e) e2
      · have h3 : w1.heap.size = b := by rw [h2] at e; injection e
        exact (o.far_ge (show w.heap.size ≤ b by omega)).c e2 }
theorem FarN.pushL {L : Option Addr} {d m : Nat} {ls : List Lk} (f : FarN h N b) (hat : (Value.slice L ls.length d).ownBlock = (Value.slice h.L N.l.length h.d).ownBlock ∨ (Value.slice L ls.length d).ownBlock = some m) (hb : b < m) : FarN ⟨h.A, h.c, h.hs, L, d, h.C, h.e⟩ ⟨N.w, ls, N.c⟩ b :=
  ⟨f.a, f.i, fun e => by
    rcases hat with h2 | h2
    · exact f.l (h2 ▸ e)
    · rw [h2] at e; injection e with e; omega, f.c⟩
/-- One wire more. -/
theorem OwnN.pushW {w6 w7 : World} {A6 : Option Addr} {c6 g cap : Nat} {dq : List Int} (o : OwnN w lo w.heap.size h N) (hlo : lo ≤ w.heap.size) (bel6 : Below w.heap.size w w6) (own6 : w6.ownsRow w.heap.size 2 1 (.slice A6 dq.length c6) dq.length (dq.map (Value.int .i64)))
    (hown7 : w7.ownsRow lo 24 1 (.slice (some ⟨g, 0, none⟩) (N.w.length + 1) cap) (N.w.length + 1) (rowV h.hs N.w ++ [.slice A6 dq.length c6])) (hgrow7 : (w6.alloc (.cells #[.slice A6 dq.length c6] 24)).grownBy w7 (Value.slice h.A N.w.length h.c).ownBlock)
    (hat7 : (Value.slice h.A N.w.length h.c).ownBlock = some g ∨ g = (w6.alloc (.cells #[.slice A6 dq.length c6] 24)).heap.size) :
    OwnN w7 lo w7.heap.size ⟨some ⟨g, 0, none⟩, cap, upd h.hs N.w.length (A6, c6), h.L, h.d, h.C, h.e⟩ ⟨N.w ++ [dq], N.l, N.c⟩ ∧ ∀ b, b < w.heap.size → FarN h N b → FarN ⟨some ⟨g, 0, none⟩, cap, upd h.hs N.w.length (A6, c6), h.L, h.d, h.C, h.e⟩ ⟨N.w ++ [dq], N.l, N.c⟩ b := by
  obtain ⟨q7, _⟩ := push_own o.q rfl hlo bel6 own6 hown7 hgrow7 hat7
  have hlen : (N.w ++ [dq]).length = N.w.length + 1 := by simp
  have hbx := box_below w6 (.slice A6 dq.length c6) 24
  have s6 := bel6.size
  have sx := hbx.size
  have s7 := hgrow7.size
  have hk : ∀ b, b < w.heap.size → (Value.slice h.A N.w.length h.c).ownBlock ≠ some b → w7.heap[b]? = w.heap[b]? := fun b h1 h2 =>
    (hgrow7.block b (by omega) (fun e => h2 e.symm)).trans ((hbx.block b (by omega)).trans (bel6.block b h1))
  have gb : ∀ b, b < w.heap.size → (Value.slice h.A N.w.length h.c).ownBlock ≠ some b → (Value.slice (some ⟨g, 0, none⟩) (N.w.length + 1) cap).ownBlock ≠ some b := fun b h1 h2 e => by
    have e' : g = b := by simpa [Value.ownBlock] using e
    rcases hat7 with h3 | h3
    · rw [e'] at h3; exact h2 h3
    · omega
  have ib : ∀ b, b < w.heap.size → (∀ i, i < N.w.length → (hv h.hs N.w i).ownBlock ≠ some b) → ∀ i, i < (N.w ++ [dq]).length → (hv (upd h.hs N.w.length (A6, c6)) (N.w ++ [dq]) i).ownBlock ≠ some b := fun b h1 h2 i hi e => by
    rw [hlen] at hi
    by_cases hn : i < N.w.length
    · refine h2 i hn ?_
      rw [← e]
      unfold hv upd
      rw [if_neg (by omega)]
      congr 2
      simp [List.getD, List.getElem?_append_left hn]
    · obtain rfl : i = N.w.length := by omega
      unfold hv upd at e
      rw [if_pos rfl] at e
      have e3 : (N.w ++ [dq]).getD N.w.length [] = dq := by simp [List.getD]
      rw [e3] at e
      have := (own6.lt b e).1
      omega
  have l' := own_same (w' := w7) o.l fun b e => hk b (o.lt b e) (o.lq b e).1
  have c' := own_same (w' := w7) o.c fun b e => hk b (o.ct b e) (o.cq b e).1
  refine ⟨?_, fun b hb f => ?_⟩
  · exact {
      q := by show OwnQ w7 lo w7.heap.size (.slice (some ⟨g, 0, none⟩) (N.w ++ [dq]).length cap) _ _; rw [hlen]; exact q7
      l := l'
      c := c'
      lt := fun b e => (l'.lt b e).2
      ct := fun b e => (c'.lt b e).2
      lq := fun b e => ⟨by show (Value.slice (some ⟨g, 0, none⟩) (N.w ++ [dq]).length cap).ownBlock ≠ _; rw [hlen]; exact gb b (o.lt b e) (o.lq b e).1, ib b (o.lt b e) (o.lq b e).2⟩
      cq := fun b e => ⟨by show (Value.slice (some ⟨g, 0, none⟩) (N.w ++ [dq]).length cap).ownBlock ≠ _; rw [hlen]; exact gb b (o.ct b e) (o.cq b e).1, ib b (o.ct b e) (o.cq b e).2⟩
      lc := o.lc }
  · exact ⟨by show (Value.slice (some ⟨g, 0, none⟩) (N.w ++ [dq]).length cap).ownBlock ≠ _; rw [hlen]; exact gb b hb f.a, ib b hb f.i, f.l, f.c⟩
end
end
end Go.Proofs.YtdcommmefehlgaaDoor
