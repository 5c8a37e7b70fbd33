/- The program's concluded, positionsFit, inputCode. The program's inputCode. OperatorOf: of the program and of the model. -/
import Derived.Test.YthbkcpacgnmcfaaGreatDoorQRule
import Derived.Test.YthbkcpacgnmcfaaGreatDoorQCopyS
import Derived.Test.YthbkcpacgnmcfaaGreatDoorQSubA
import Derived.Test.YthbkcpacgnmcfaaGreatDoorQMark
namespace Go.Proofs.YthbkcpacgnmcfaaGreatDoor
set_option linter.unusedSimpArgs false
set_option linter.unusedVariables false
section
open Go.ChangeAt Go.ChangeShapes Go.RowKit Go.WideShapes

/-- What a step leaves: the sequent in memory of its own and CkOk, or another code. -/
def GivesS (w : World) (r : Option (List (List Int))) (e : Ending) (w' : World) : Prop :=
  Below w.heap.size w w' ∧ match r with
    | some R => ∃ hs A c, e = .returned (.tuple #[.agg #[.slice A R.length c], .int .i64 0]) ∧ OwnQ w' w.heap.size w'.heap.size (.slice A R.length c) hs R
    | none => ∃ k : Int, k ≠ 0 ∧ e = .returned (.tuple #[.agg #[.slice none 0 0], .int .i64 k])

set_option maxRecDepth 100000 in
set_option maxHeartbeats 2000000 in
theorem concluded_no (v : Value) (k : Int) (hk : k ≠ 0) (w : World) : Calls Tryz.prog 77 #[v, .int .i64 k] w (GivesS w none) := by
  have hne : (k != 0) = true := by simpa using hk
  have HB := Lib.hid ((Below.refl w.heap.size w).alloc (Nat.le_refl _) (.cells #[.slice none 0 0] 64))
  have HH := Lib.hid (heap_alloc_new w (.cells #[.slice none 0 0] 64))
  go_enter Tryz.func77, Tryz.ntmps77
  go_wp2
  (try simp only [Exit.inBlock, Exit.then])
  refine bodyPost_ret (results_cell_row_tmp rfl _ _ w.heap.size _ _ (0, 0) _ rfl HH.out Tryz.underlying64 rfl (by kernel_rfl)) rfl ?_
  exact ⟨HB.out, k, hk, rfl⟩

set_option maxRecDepth 100000 in
set_option maxHeartbeats 2000000 in
theorem concluded_yes (A : Option Addr) (n c : Nat) (R : List (List Int)) (w : World) (h : RdQ w w.heap.size A n R) (hn : n ≤ maxLen) (ht : Arit w) :
    Calls Tryz.prog 77 #[.slice A n c, .int .i64 0] w (GivesS w (if validQ R = true then some R else none)) := by
  have hl := h.len
  subst hl
  obtain ⟨w2, hw2⟩ : ∃ w2, w2 = (w.alloc (.cells #[.slice none 0 0] 64)).alloc (.cells #[Value.slice A R.length c] 64) := ⟨_, rfl⟩
  obtain ⟨hb, _, ca, hsz⟩ := two_boxes w (.slice none 0 0) (.slice A R.length c) 64
  obtain ⟨hh, _⟩ := two_heap w (.cells #[.slice none 0 0] 64) (.cells #[Value.slice A R.length c] 64)
  rw [← hw2] at hb ca hsz hh
  have h2 := (h.below hb).more hb.size
  have HV := Lib.hid (validSeq_impl A R.length c R w2 h2 hn (ht.below hb ht.lt))
  have HW2 := Lib.hid hw2; have HB := Lib.hid hb; have HH := Lib.hid hh; have H2 := Lib.hid h2
  have HCA := Lib.hid ca
  have hlt : w.heap.size < w2.heap.size := by omega
  have hlt1 : w.heap.size + 1 < w2.heap.size := by omega
  clear hw2 hb hh h2 ca hsz h
  cases hv : validQ R with
  | false =>
    rw [if_neg (by simp)]
    rw [hv] at HV
    clear hv
    go_enter Tryz.func77, Tryz.ntmps77
    go_upto_region 4 with (fail)
    rw [← HW2.out]
    have k1 := HCA.out
    go_wp2_with (fail)
    refine HV.out.mono ?_
    rintro e w3 ⟨rfl, bel3⟩
    have hh3 := (bel3.block w.heap.size hlt).trans HH.out
    have c0 := cell_of_row _ _ 0 _ _ (0, 0) hh3; have f0 := frozen_of_row w3 w.heap.size 0 _ _ hh3
    have H4 := Lib.hid (cell_set (u := .slice none 0 0) hh3)
    have HB4 := Lib.hid ((HB.out.trans (bel3.mono HB.out.size)).setCell (p := ⟨w.heap.size, 0, none⟩) (Nat.le_refl _) (.slice none 0 0))
    clear k1 hh3 bel3
    go_wp2
    (try simp only [Exit.inBlock, Exit.then])
    refine bodyPost_ret (results_cell_row_tmp rfl _ _ w.heap.size _ _ (0, 0) _ rfl H4.out Tryz.underlying64 rfl (by kernel_rfl)) rfl ?_
    exact ⟨HB4.out, 7, by decide, rfl⟩
  | true =>
    rw [if_pos rfl]
    rw [hv] at HV
    have hvl := validQ_len hv
    have HQ1 : Hid (∀ q ∈ R, q.length ≤ 1000) := Lib.hid fun q hq => by have := (valid_len (validQ_mem hv hq)).2.1; omega
    have HQ0 : Hid (∀ q ∈ R, 0 < q.length) := Lib.hid fun q hq => by have := (valid_len (validQ_mem hv hq)).1; omega
    have hn10 : R.length ≤ 10 := by omega
    clear hv hvl
    go_enter Tryz.func77, Tryz.ntmps77
    go_upto_region 4 with (fail)
    rw [← HW2.out]
    have k1 := HCA.out
    go_wp2_with (fail)
    refine HV.out.mono ?_
    rintro e w3 ⟨rfl, bel3⟩
    have HC := Lib.hid (copyOfSeq_any A R.length c R w3 ((H2.out.below bel3).more bel3.size) hn10 HQ1.out HQ0.out)
    have k3 := (bel3.cell (p := ⟨w.heap.size + 1, 0, none⟩) hlt1).trans HCA.out
    have HB3 := Lib.hid (HB.out.trans (bel3.mono HB.out.size))
    have hlt3 : w.heap.size < w3.heap.size := Nat.lt_of_lt_of_le hlt bel3.size
    have HH3 : Hid (w3.heap[w.heap.size]? = _) := Lib.hid ((bel3.block w.heap.size hlt).trans HH.out)
    clear k1 bel3
    go_wp2_with (fail)
    refine HC.out.mono ?_
    rintro e w4 ⟨hs4, A4, c4, rfl, own4, bel4⟩
    obtain ⟨y0, y1, y2, y3, y4⟩ := seq_out HB3.out (Nat.le_refl _) hlt3 HH3.out own4 bel4
    have Y2 := Lib.hid y2; have Y3 := Lib.hid y3; have Y4 := Lib.hid y4
    clear y2 y3 y4 own4 bel4 k3
    go_wp2
    (try simp only [Exit.inBlock, Exit.then])
    refine bodyPost_ret (results_cell_row_tmp rfl _ _ w.heap.size _ _ (0, 0) _ rfl Y2.out Tryz.underlying64 rfl (by kernel_rfl)) rfl ?_
    exact ⟨Y4.out, hs4, A4, c4, rfl, Y3.out⟩

def posV (x y : Bool) (i j : Int) (np nq : Nat) : Bool := (!x || posB i np) && (!y || posB j nq)
theorem four_boxes (w : World) (o1 o2 o3 o4 : Obj) : Below w.heap.size w ((((w.alloc o1).alloc o2).alloc o3).alloc o4) ∧ ((((w.alloc o1).alloc o2).alloc o3).alloc o4).heap[w.heap.size]? = some o1 ∧ ((((w.alloc o1).alloc o2).alloc o3).alloc o4).heap[w.heap.size + 1]? = some o2 ∧
    ((((w.alloc o1).alloc o2).alloc o3).alloc o4).heap[w.heap.size + 1 + 1]? = some o3 ∧ ((((w.alloc o1).alloc o2).alloc o3).alloc o4).heap[w.heap.size + 1 + 1 + 1]? = some o4 := by
  have b1 : Below w.heap.size w (w.alloc o1) := (Below.refl _ _).alloc (Nat.le_refl _) _
  have s1 : (w.alloc o1).heap.size = w.heap.size + 1 := by simp
  have s2 : ((w.alloc o1).alloc o2).heap.size = w.heap.size + 1 + 1 := by simp
  have s3 : (((w.alloc o1).alloc o2).alloc o3).heap.size = w.heap.size + 1 + 1 + 1 := by simp
  have b2 := b1.alloc (by omega) o2
  have b3 := b2.alloc (by omega) o3
  have b4 := b3.alloc (by omega) o4
  have c2 : Below (w.alloc o1).heap.size (w.alloc o1) ((((w.alloc o1).alloc o2).alloc o3).alloc o4) := (((Below.refl _ _).alloc (Nat.le_refl _) o2).alloc (by omega) o3).alloc (by omega) o4
  have c3 : Below ((w.alloc o1).alloc o2).heap.size ((w.alloc o1).alloc o2) ((((w.alloc o1).alloc o2).alloc o3).alloc o4) := ((Below.refl _ _).alloc (Nat.le_refl _) o3).alloc (by omega) o4
  have c4 : Below (((w.alloc o1).alloc o2).alloc o3).heap.size (((w.alloc o1).alloc o2).alloc o3) ((((w.alloc o1).alloc o2).alloc o3).alloc o4) := (Below.refl _ _).alloc (Nat.le_refl _) o4
  refine ⟨b4, (c2.block _ (by omega)).trans (heap_alloc_new _ _), ?_, ?_, ?_⟩
  · rw [← s1]; exact (c3.block _ (by omega)).trans (heap_alloc_new _ _)
  · rw [← s2]; exact (c4.block _ (by omega)).trans (heap_alloc_new _ _)
  · rw [← s3]; exact heap_alloc_new _ _

set_option maxRecDepth 100000 in
set_option maxHeartbeats 4000000 in
theorem positionsFit_any (x y z : Bool) (r a b i j : Int) (B : Option Addr) (m d : Nat) (A : Option Addr) (n c : Nat) (A2 : Option Addr) (n2 c2 : Nat) (w : World) (hn : n ≤ 1048576) (hn2 : n2 ≤ 1048576) :
    Calls Tryz.prog 98 #[.agg #[.bool x, .bool y, .bool z], Value.agg #[Value.int .i64 r, Value.int .i64 a, Value.int .i64 b, Value.int .i64 i, Value.int .i64 j, Value.slice B m d], .agg #[.slice A n c], .agg #[.slice A2 n2 c2]] w fun e w' => e = .returned (.bool (posV x y i j n n2)) ∧ Below w.heap.size w w' := by
  obtain ⟨u, hu0⟩ : ∃ u, u = (((w.alloc (.cells #[Value.bool x, Value.bool y, Value.bool z] 90)).alloc (.cells #[Value.int .i64 r, Value.int .i64 a, Value.int .i64 b, Value.int .i64 i, Value.int .i64 j, Value.slice B m d] 43)).alloc (.cells #[Value.slice A n c] 64)).alloc (.cells #[Value.slice A2 n2 c2] 64) := ⟨_, rfl⟩
  obtain ⟨hb, p0, p1, p2, p3⟩ := four_boxes w (.cells #[Value.bool x, Value.bool y, Value.bool z] 90) (.cells #[Value.int .i64 r, Value.int .i64 a, Value.int .i64 b, Value.int .i64 i, Value.int .i64 j, Value.slice B m d] 43) (.cells #[Value.slice A n c] 64) (.cells #[Value.slice A2 n2 c2] 64)
  rw [← hu0] at hb p0 p1 p2 p3
  have HKX : Hid (∀ wx, Below u.heap.size u wx → wx.cell? ⟨w.heap.size, 0, none⟩ = some (.bool x) ∧ wx.cell? ⟨w.heap.size, 1, none⟩ = some (.bool y) ∧ wx.cell? ⟨w.heap.size + 1, 3, none⟩ = some (.int .i64 i) ∧ wx.cell? ⟨w.heap.size + 1, 4, none⟩ = some (.int .i64 j) ∧ wx.cell? ⟨w.heap.size + 1 + 1, 0, none⟩ = some (.slice A n c) ∧ wx.cell? ⟨w.heap.size + 1 + 1 + 1, 0, none⟩ = some (.slice A2 n2 c2)) := Lib.hid fun wx hx => by
    have g : ∀ k o, u.heap[k]? = some o → wx.heap[k]? = some o := fun k o h => (hx.block k (Array.getElem?_eq_some_iff.1 h).1).trans h
    exact ⟨cell_of_row _ _ 0 _ _ (0, 0) (g _ _ p0), cell_of_row _ _ 1 _ _ (0, 0) (g _ _ p0), cell_of_row _ _ 3 _ _ (0, 0) (g _ _ p1), cell_of_row _ _ 4 _ _ (0, 0) (g _ _ p1), cell_of_row _ _ 0 _ _ (0, 0) (g _ _ p2), cell_of_row _ _ 0 _ _ (0, 0) (g _ _ p3)⟩
  have HU0 := Lib.hid hu0; have HBU := Lib.hid hb
  have HP1 := Lib.hid (fun wx : World => isPos_impl A n c i wx hn)
  have HP2 := Lib.hid (fun wx : World => isPos_impl A2 n2 c2 j wx hn2)
  obtain ⟨e0, e1, e2, e3, e4, e5⟩ := HKX.out u (Below.refl _ _)
  have HE : Hid (posV x y i j n n2 = ((!x || posB i n) && (!y || posB j n2))) := Lib.hid rfl
  generalize posV x y i j n n2 = V at *
  clear hu0 hb p0 p1 p2 p3
  generalize posB i n = p1 at *
  generalize posB j n2 = p2 at *
  cases x with
  | false =>
    cases y with
    | false =>
      go_enter Tryz.func98, Tryz.ntmps98
      go_upto_region 1 with (fail)
      rw [← HU0.out]
      go_wp2
      go_ret
      exact ⟨ret_bool (by rw [HE.out]; rfl), HBU.out⟩
    | true =>
      go_enter Tryz.func98, Tryz.ntmps98
      go_upto_region 1 with (fail)
      rw [← HU0.out]
      go_wp2_with (fail)
      refine (HP2.out u).mono ?_
      rintro e w3 ⟨rfl, bel3⟩
      have HB3 := Lib.hid (HBU.out.trans (bel3.mono HBU.out.size))
      clear bel3 e0 e1 e2 e3 e4 e5
      go_wp2
      go_ret
      exact ⟨ret_bool (by rw [HE.out]; rfl), HB3.out⟩
  | true =>
    cases p1 with
    | false =>
      go_enter Tryz.func98, Tryz.ntmps98
      go_upto_region 1 with (fail)
      rw [← HU0.out]
      go_wp2_with (fail)
      refine (HP1.out u).mono ?_
      rintro e w3 ⟨rfl, bel3⟩
      have HB3 := Lib.hid (HBU.out.trans (bel3.mono HBU.out.size))
      clear bel3 e0 e1 e2 e3 e4 e5
      go_wp2
      go_ret
      exact ⟨ret_bool (by rw [HE.out]; rfl), HB3.out⟩
    | true =>
      cases y with
      | false =>
        go_enter Tryz.func98, Tryz.ntmps98
        go_upto_region 1 with (fail)
        rw [← HU0.out]
        go_wp2_with (fail)
        refine (HP1.out u).mono ?_
        rintro e w3 ⟨rfl, bel3⟩
        have HB3 := Lib.hid (HBU.out.trans (bel3.mono HBU.out.size))
        clear e0 e1 e2 e3 e4 e5
        obtain ⟨e0, e1, e2, e3, e4, e5⟩ := HKX.out w3 bel3
        clear bel3
        go_wp2
        go_ret
        exact ⟨ret_bool (by rw [HE.out]; rfl), HB3.out⟩
      | true =>
        go_enter Tryz.func98, Tryz.ntmps98
        go_upto_region 1 with (fail)
        rw [← HU0.out]
        go_wp2_with (fail)
        refine (HP1.out u).mono ?_
        rintro e w3 ⟨rfl, bel3⟩
        have HB3 := Lib.hid (HBU.out.trans (bel3.mono HBU.out.size))
        clear e0 e1 e2 e3 e4 e5
        obtain ⟨e0, e1, e2, e3, e4, e5⟩ := HKX.out w3 bel3
        clear bel3
        go_wp2_with (fail)
        refine (HP2.out w3).mono ?_
        rintro e w4 ⟨rfl, bel4⟩
        have HB4 := Lib.hid (HB3.out.trans (bel4.mono HB3.out.size))
        clear bel4 e0 e1 e2 e3 e4 e5
        go_wp2
        go_ret
        exact ⟨ret_bool (by rw [HE.out]; rfl), HB4.out⟩
end
section
open Go.ChangeAt Go.ChangeShapes Go.RowKit Go.WideShapes

theorem m_pos : ∀ r : Int, 1 ≤ r → r ≤ 14 → ∀ w : World, (method 251 (ruT r) (.agg #[Value.bool (ruI r), Value.bool (ruJ r), Value.bool (ruF r)]) "loop.example/g00872/impl.positionsFit").run Tryz.prog w = .ok (98, .agg #[Value.bool (ruI r), Value.bool (ruJ r), Value.bool (ruF r)]) w :=
  ru_cases (by intro w; kernel_rfl) (by intro w; kernel_rfl) (by intro w; kernel_rfl) (by intro w; kernel_rfl) (by intro w; kernel_rfl) (by intro w; kernel_rfl) (by intro w; kernel_rfl) (by intro w; kernel_rfl) (by intro w; kernel_rfl) (by intro w; kernel_rfl) (by intro w; kernel_rfl) (by intro w; kernel_rfl) (by intro w; kernel_rfl) (by intro w; kernel_rfl)
/-- The premises, the fields and the positions are as the rule wants them. -/
def inpV (r i j : Int) (F : List Int) (P Q : List (List Int)) : Bool := (validQ P && validQ Q) && (fitV (ruI r) (ruJ r) (ruF r) i j F && posV (ruI r) (ruJ r) i j P.length Q.length)
def GivesC (w : World) (ok : Bool) (e : Ending) (w' : World) : Prop := ∃ k : Int, e = .returned (.int .i64 k) ∧ (ok = true → k = 0) ∧ (ok = false → k ≠ 0) ∧ Below w.heap.size w w'

theorem gc_no {w w' : World} {V : Bool} {k : Int} (hk : k ≠ 0) (hV : V = false) (hb : Below w.heap.size w w') : GivesC w V (.returned (.int .i64 k)) w' := ⟨k, rfl, fun h => (by rw [hV] at h; cases h), fun _ => hk, hb⟩
theorem gc_yes {w w' : World} {V : Bool} (hV : V = true) (hb : Below w.heap.size w w') : GivesC w V (.returned (.int .i64 0)) w' := ⟨0, rfl, fun _ => rfl, fun h => (by rw [hV] at h; cases h), hb⟩

set_option maxRecDepth 100000 in
set_option maxHeartbeats 4000000 in
theorem inputCode_any (r a b i j : Int) (h1 : 1 ≤ r) (h14 : r ≤ 14) (B : Option Addr) (m d : Nat) (F : List Int) (A : Option Addr) (n c : Nat) (P : List (List Int)) (A2 : Option Addr) (n2 c2 : Nat) (Q : List (List Int)) (w : World) (hf : RdI w w.heap.size B m F) (hmd : m ≤ d) (h : RdQ w w.heap.size A n P) (h2 : RdQ w w.heap.size A2 n2 Q) (hn : n ≤ 1048576) (hn2 : n2 ≤ 1048576) (ht : Arit w) :
    Calls Tryz.prog 76 #[.iface (ruT r) (.agg #[Value.bool (ruI r), Value.bool (ruJ r), Value.bool (ruF r)]), Value.agg #[Value.int .i64 r, Value.int .i64 a, Value.int .i64 b, Value.int .i64 i, Value.int .i64 j, Value.slice B m d], .agg #[.slice A n c], .agg #[.slice A2 n2 c2]] w (GivesC w (inpV r i j F P Q)) := by
  have hl := h.len
  subst hl
  have hl2 := h2.len
  subst hl2
  obtain ⟨u, hu0⟩ : ∃ u, u = ((w.alloc (.cells #[Value.int .i64 r, Value.int .i64 a, Value.int .i64 b, Value.int .i64 i, Value.int .i64 j, Value.slice B m d] 43)).alloc (.cells #[Value.slice A P.length c] 64)).alloc (.cells #[Value.slice A2 Q.length c2] 64) := ⟨_, rfl⟩
  obtain ⟨hb, p0, p1, p2, hsz⟩ := three_any w (.cells #[Value.int .i64 r, Value.int .i64 a, Value.int .i64 b, Value.int .i64 i, Value.int .i64 j, Value.slice B m d] 43) (.cells #[Value.slice A P.length c] 64) (.cells #[Value.slice A2 Q.length c2] 64)
  rw [← hu0] at hb p0 p1 p2 hsz
  have HKX : Hid (∀ wx, Below u.heap.size u wx → wx.cell? ⟨w.heap.size, 0, none⟩ = some (.int .i64 r) ∧ wx.cell? ⟨w.heap.size, 1, none⟩ = some (.int .i64 a) ∧ wx.cell? ⟨w.heap.size, 2, none⟩ = some (.int .i64 b) ∧ wx.cell? ⟨w.heap.size, 3, none⟩ = some (.int .i64 i) ∧ wx.cell? ⟨w.heap.size, 4, none⟩ = some (.int .i64 j) ∧ wx.cell? ⟨w.heap.size, 5, none⟩ = some (.slice B m d) ∧ wx.cell? ⟨w.heap.size + 1, 0, none⟩ = some (.slice A P.length c) ∧ wx.cell? ⟨w.heap.size + 1 + 1, 0, none⟩ = some (.slice A2 Q.length c2)) := Lib.hid fun wx hx => by
    have g : ∀ k o, u.heap[k]? = some o → wx.heap[k]? = some o := fun k o h => (hx.block k (Array.getElem?_eq_some_iff.1 h).1).trans h
    exact ⟨cell_of_row _ _ 0 _ _ (0, 0) (g _ _ p0), cell_of_row _ _ 1 _ _ (0, 0) (g _ _ p0), cell_of_row _ _ 2 _ _ (0, 0) (g _ _ p0), cell_of_row _ _ 3 _ _ (0, 0) (g _ _ p0), cell_of_row _ _ 4 _ _ (0, 0) (g _ _ p0), cell_of_row _ _ 5 _ _ (0, 0) (g _ _ p0), cell_of_row _ _ 0 _ _ (0, 0) (g _ _ p1), cell_of_row _ _ 0 _ _ (0, 0) (g _ _ p2)⟩
  have HU0 := Lib.hid hu0; have HBU := Lib.hid hb
  have hm := m_fits r h1 h14
  have hm2 := m_pos r h1 h14
  have HT := Lib.hid (fun (wx : World) (hx : Below u.heap.size u wx) => ht.below (hb.trans (hx.mono hb.size)) ht.lt)
  have HVP := Lib.hid (fun (wx : World) (hx : Below u.heap.size u wx) => validSeq_impl A P.length c P wx ((h.below (hb.trans (hx.mono hb.size))).more (Nat.le_trans hb.size hx.size)) (by unfold maxLen; omega) (HT.out wx hx))
  have HVQ := Lib.hid (fun (wx : World) (hx : Below u.heap.size u wx) => validSeq_impl A2 Q.length c2 Q wx ((h2.below (hb.trans (hx.mono hb.size))).more (Nat.le_trans hb.size hx.size)) (by unfold maxLen; omega) (HT.out wx hx))
  have HFT := Lib.hid (fun (wx : World) (hx : Below u.heap.size u wx) => fits_any (ruI r) (ruJ r) (ruF r) r a b i j B m d F wx ((hf.below (hb.trans (hx.mono hb.size))).more (Nat.le_trans hb.size hx.size)) hmd (HT.out wx hx))
  have HPS := Lib.hid (fun (wx : World) => positionsFit_any (ruI r) (ruJ r) (ruF r) r a b i j B m d A P.length c A2 Q.length c2 wx hn hn2)
  have HE : Hid (inpV r i j F P Q = ((validQ P && validQ Q) && (fitV (ruI r) (ruJ r) (ruF r) i j F && posV (ruI r) (ruJ r) i j P.length Q.length))) := Lib.hid rfl
  generalize inpV r i j F P Q = V at *
  generalize validQ P = vp at *
  generalize validQ Q = vq at *
  generalize fitV (ruI r) (ruJ r) (ruF r) i j F = ft at *
  generalize posV (ruI r) (ruJ r) i j P.length Q.length = pv at *
  generalize ruT r = T at *; generalize ruI r = x at *; generalize ruJ r = y at *; generalize ruF r = z at *
  obtain ⟨e0, e1, e2, e3, e4, e5, e6, e7⟩ := HKX.out u (Below.refl _ _)
  clear hu0 hb p0 p1 p2 hsz h h2 hf ht HT
  go_enter Tryz.func76, Tryz.ntmps76
  go_upto_region 1 with (fail)
  rw [← HU0.out]
  go_wp2_with (fail)
  refine (HVP.out u (Below.refl _ _)).mono ?_
  rintro e w1 ⟨rfl, b1⟩
  have HB1 := Lib.hid b1
  clear b1 e0 e1 e2 e3 e4 e5 e6 e7
  obtain ⟨e0, e1, e2, e3, e4, e5, e6, e7⟩ := HKX.out w1 HB1.out
  cases vp with
  | false =>
    go_wp2
    go_ret
    exact gc_no (k := 2) (by decide) (by rw [HE.out]; rfl) (HBU.out.trans (HB1.out.mono HBU.out.size))
  | true =>
    go_wp2_with (fail)
    refine (HVQ.out w1 HB1.out).mono ?_
    rintro e w2 ⟨rfl, b2⟩
    have HB2 := Lib.hid (HB1.out.trans (b2.mono HB1.out.size))
    clear b2 e0 e1 e2 e3 e4 e5 e6 e7
    obtain ⟨e0, e1, e2, e3, e4, e5, e6, e7⟩ := HKX.out w2 HB2.out
    cases vq with
    | false =>
      go_wp2
      go_ret
      exact gc_no (k := 2) (by decide) (by rw [HE.out]; rfl) (HBU.out.trans (HB2.out.mono HBU.out.size))
    | true =>
      go_wp2_with (fail)
      refine (HFT.out w2 HB2.out).mono ?_
      rintro e w3 ⟨rfl, b3⟩
      have HB3 := Lib.hid (HB2.out.trans (b3.mono HB2.out.size))
      clear b3 e0 e1 e2 e3 e4 e5 e6 e7
      obtain ⟨e0, e1, e2, e3, e4, e5, e6, e7⟩ := HKX.out w3 HB3.out
      cases ft with
      | false =>
        go_wp2
        go_ret
        exact gc_no (k := 3) (by decide) (by rw [HE.out]; rfl) (HBU.out.trans (HB3.out.mono HBU.out.size))
      | true =>
        go_wp2_with (fail)
        refine (HPS.out w3).mono ?_
        rintro e w4 ⟨rfl, b4⟩
        have HB4 := Lib.hid (HB3.out.trans (b4.mono HB3.out.size))
        clear b4 e0 e1 e2 e3 e4 e5 e6 e7
        cases pv with
        | false =>
          go_wp2
          go_ret
          exact gc_no (k := 4) (by decide) (by rw [HE.out]; rfl) (HBU.out.trans (HB4.out.mono HBU.out.size))
        | true =>
          go_wp2
          go_ret
          exact gc_yes (by rw [HE.out]; rfl) (HBU.out.trans (HB4.out.mono HBU.out.size))
end
section
open Go.RowKit

/-- OperatorOf. -/
def opOf (f : List Int) : Int := if validB f then (if leafB (f.getD 0 0) then 0 else f.getD 0 0) else -1
theorem opOf_no {f : List Int} (h : validB f = false) : opOf f = -1 := by simp [opOf, h]
theorem opOf_leaf {f : List Int} (h : validB f = true) (hl : leafB (f.getD 0 0) = true) : opOf f = 0 := by simp only [opOf, h, hl, if_true]
theorem opOf_op {f : List Int} (h : validB f = true) (hl : leafB (f.getD 0 0) = false) : opOf f = f.getD 0 0 := by simp only [opOf, h, hl, if_true]; rfl

set_option maxHeartbeats 400000 in
theorem operatorOf_impl (A : Option Addr) (n c : Nat) (f : List Int) (w : World) (h : RdI w w.heap.size A n f) (ht : Arit w) (hnc : n ≤ c) :
    Calls Tryz.prog 120 #[.slice A n c] w fun e w' => e = .returned (.int .i64 (opOf f)) ∧ w = w' := by
  have hl := h.len
  subst hl
  cases hv : validB f with
  | false =>
    rw [opOf_no hv]
    go_enter Tryz.func120, Tryz.ntmps120
    go_wp2_with (go_at_call 37; refine (validForm_impl _ _ _ f _ h ht hnc).mono ?_; rintro e w' ⟨rfl, rfl⟩)
    go_ret
    exact ⟨rfl, rfl⟩
  | true =>
    have hl := valid_len hv
    obtain ⟨b, off, rfl, hbb, hcells⟩ := h.2 (by omega)
    have hc : w.cell? ⟨b, off, none⟩ = some (.int .i64 (f.getD 0 0)) := hcells 0 (by omega)
    have h0 : 0 < f.length := by omega
    cases hleaf : leafB (f.getD 0 0) with
    | true =>
      rw [opOf_leaf hv hleaf]
      generalize f.getD 0 0 = x at hc hleaf
      clear hcells hl
      go_enter Tryz.func120, Tryz.ntmps120
      go_wp2_with (first | (go_at_call 37; refine (validForm_impl _ _ _ f _ h ht hnc).mono ?_; rintro e w' ⟨rfl, rfl⟩) | (go_at_call 49; refine (isLeaf_any x _).mono ?_; rintro e w' ⟨rfl, rfl⟩))
      go_ret
      exact ⟨rfl, rfl⟩
    | false =>
      rw [opOf_op hv hleaf]
      generalize f.getD 0 0 = x at hc hleaf
      clear hcells hl
      go_enter Tryz.func120, Tryz.ntmps120
      go_wp2_with (first | (go_at_call 37; refine (validForm_impl _ _ _ f _ h ht hnc).mono ?_; rintro e w' ⟨rfl, rfl⟩) | (go_at_call 49; refine (isLeaf_any x _).mono ?_; rintro e w' ⟨rfl, rfl⟩))
      go_ret
      exact ⟨rfl, rfl⟩
end
end Go.Proofs.YthbkcpacgnmcfaaGreatDoor
