/- StepText of the program. -/
import Derived.Test.YtjgmgaccmcepdaaGreatDoorStepM
namespace Go.Proofs.YtjgmgaccmcepdaaGreatDoor
open Go.ChangeAt Go.ChangeShapes Go.RowKit Go.WideShapes

/-- The world holds the words of the rules. -/
def Words (w : World) : Prop := ∀ k, k < 15 → w.cell? ⟨0, k, none⟩ = some (.string (nmB k))
theorem Words.lt {w : World} (h : Words w) : 0 < w.heap.size := World.block_lt_of_cell? w _ (h 0 (by omega))
theorem Words.below {w w' : World} {B : Nat} (h : Words w) (hb : Below B w w') (hB : 0 < B) : Words w' := fun k hk => (hb.cell hB).trans (h k hk)
theorem fmt_any (x : Int) (h : inR x = true) (w : World) : Calls Tryz.prog 140 #[.int .i64 x, .int .i64 10] w fun e w' => e = .returned (.string (decB x)) ∧ w = w' := by
  obtain ⟨h0, h1⟩ := inR_iff h
  obtain ⟨k, rfl⟩ : ∃ k : Nat, x = k := ⟨x.toNat, by omega⟩
  exact (Any.strconv_FormatInt_10_small Tryz.fmtL k (by omega) w).mono fun e w' ⟨he, hw⟩ => ⟨he, hw.symm⟩
theorem str_push {w0 wr w7 : World} {base g7 cap c : Nat} {A : Option Addr} {T : List ByteArray} {x : ByteArray} (hbel : Below base w0 wr) (hbase : base ≤ wr.heap.size)
    (own : wr.ownsRow base 9 1 (.slice A T.length c) T.length (T.map Value.string))
    (hown7 : w7.ownsRow base 9 1 (.slice (some ⟨g7, 0, none⟩) (T.length + 1) cap) (T.length + 1) (T.map Value.string ++ [.string x]))
    (hgrow7 : (wr.alloc (.cells #[.string x] 9)).grownBy w7 (Value.slice A T.length c).ownBlock) :
    Below base w0 w7 ∧ w7.ownsRow base 9 1 (.slice (some ⟨g7, 0, none⟩) (T ++ [x]).length cap) (T ++ [x]).length ((T ++ [x]).map Value.string) := by
  refine ⟨(hbel.alloc hbase _).grown hgrow7 (by simp; omega) (fun k hk => (own.lt k hk).1), ?_⟩
  have e : (T ++ [x]).length = T.length + 1 := by simp
  rw [e, List.map_append]
  exact hown7
theorem str_one (w : World) (x : ByteArray) : (w.alloc (.cells #[.string x] 9)).ownsRow w.heap.size 9 1 (.slice (some ⟨w.heap.size, 0, none⟩) [x].length 1) [x].length ([x].map Value.string) :=
  ⟨by simp, .inr ⟨w.heap.size, 1, #[.string x], rfl, Nat.le_refl _, heap_alloc_new w _, Nat.le_refl _, by simp [maxLen], rfl, by simp⟩⟩
theorem str_new (w : World) (x : ByteArray) : ∀ j u, [Value.string x][j]? = some u → (w.alloc (.cells #[.string x] 9)).cell? ((⟨w.heap.size, 0, none⟩ : Addr).add j) = some u := by
  intro j u hu
  match j, hu with
  | 0, hu =>
    obtain rfl := Option.some.inj hu
    simp [Addr.add]
  | k + 1, hu => simp at hu
/-- strings.Join at a row of words of one's own. -/
theorem joinW {T : List ByteArray} {A : Option Addr} {c base : Nat} {w : World} (hS : ShortW T) (own : w.ownsRow base 9 1 (.slice A T.length c) T.length (T.map Value.string)) :
    Calls Tryz.prog 142 #[.slice A T.length c, .string ⟨#[32]⟩] w fun e w' => e = .returned (.string (jn T)) ∧ Below w.heap.size w w' := by
  have h0 : 0 < T.length := List.length_pos_iff.2 hS.1
  obtain ⟨g, cap, hv, hlo, hlt⟩ := own.form h0
  have hA : A = some ⟨g, 0, none⟩ ∧ c = cap := by injection hv with x y z; exact ⟨x, z⟩
  obtain ⟨rfl, rfl⟩ := hA
  have hc := own_cap1 own
  have hl := jn_size hS
  have h6 := hS.2.1
  exact Any.strings_Join Tryz.joinL Tryz.joinX g 0 c T ⟨#[32]⟩ w (fun j x hj => by
    have hj' : j < T.length := (List.getElem?_eq_some_iff.1 hj).1
    rw [Nat.zero_add, own.cellAt j (by omega), List.getElem?_map, hj]
    rfl) hlt (by omega) hc (Nat.le_trans hl (by decide))
theorem plain_parts {r a b i j : Int} {f : List Int} (h : plainB r a b i j f = true) : (1 ≤ r ∧ r ≤ 14) ∧ (ruF r = true → validB f = true) ∧ idxB (decide (0 < ruP r)) a (-1) = true ∧ idxB (decide (1 < ruP r)) b (-1) = true ∧ idxB (ruI r) i 0 = true ∧ idxB (ruJ r) j 0 = true := by
  unfold plainB at h
  simp only [Bool.and_eq_true, decide_eq_true_eq] at h
  obtain ⟨h1, h2, h3, h4, h5, h6, h7⟩ := h
  refine ⟨⟨h1, h2⟩, fun hz => ?_, h4, h5, h6, h7⟩
  unfold fitV at h3
  rw [if_pos hz] at h3
  simp only [Bool.and_eq_true] at h3
  exact h3.1.1
theorem short_tk {n0 n1 n2 n3 : Bool} {k : Nat} {a b i j : Int} (h0 : idxB n0 a (-1) = true) (h1 : idxB n1 b (-1) = true) (h2 : idxB n2 i 0 = true) (h3 : idxB n3 j 0 = true) (m : Nat) :
    tkW n0 n1 n2 n3 (nmB k) a b i j m ≠ [] ∧ (tkW n0 n1 n2 n3 (nmB k) a b i j m).length ≤ 5 ∧ ∀ x ∈ tkW n0 n1 n2 n3 (nmB k) a b i j m, x.size ≤ 100 := by
  have sm : ∀ (c : Bool) (T : List ByteArray) (x u : Int) (l : Nat), idxB c x u = true → (T ≠ [] ∧ T.length ≤ l ∧ ∀ y ∈ T, y.size ≤ 100) → (addW c T (decB x) ≠ [] ∧ (addW c T (decB x)).length ≤ l + 1 ∧ ∀ y ∈ addW c T (decB x), y.size ≤ 100) := by
    intro c T x u l hc hT
    refine ⟨addW_ne hT.1, Nat.le_trans (addW_len _ _ _) (by have := hT.2.1; omega), fun y hy => ?_⟩
    rcases addW_mem hy with hy | ⟨rfl, rfl⟩
    · exact hT.2.2 y hy
    · obtain ⟨g0, g1⟩ := inR_iff (show inR x = true from hc)
      exact Nat.le_trans (dec_len g0 g1) (by decide)
  have s0 : ([nmB k] : List ByteArray) ≠ [] ∧ [nmB k].length ≤ 1 ∧ ∀ y ∈ [nmB k], y.size ≤ 100 := ⟨by simp, by simp, fun y hy => by rw [List.mem_singleton.1 hy]; exact Nat.le_trans (nm_len k) (by decide)⟩
  have s1 := sm n0 _ a (-1) 1 h0 s0
  have s2 := sm n1 _ b (-1) 2 h1 s1
  have s3 := sm n2 _ i 0 3 h2 s2
  have s4 := sm n3 _ j 0 4 h3 s3
  match m with
  | 0 => exact ⟨s0.1, Nat.le_trans s0.2.1 (by decide), s0.2.2⟩
  | 1 => exact ⟨s1.1, Nat.le_trans s1.2.1 (by decide), s1.2.2⟩
  | 2 => exact ⟨s2.1, Nat.le_trans s2.2.1 (by decide), s2.2.2⟩
  | 3 => exact ⟨s3.1, Nat.le_trans s3.2.1 (by decide), s3.2.2⟩
  | m + 4 => exact ⟨s4.1, s4.2.1, s4.2.2⟩
theorem short_st {r a b i j : Int} {f : List Int} (h : plainB r a b i j f = true) : ShortW (stW r a b i j f) := by
  obtain ⟨_, hz, h0, h1, h2, h3⟩ := plain_parts h
  obtain ⟨t1, t2, t3⟩ := short_tk (k := r.toNat) h0 h1 h2 h3 4
  refine ⟨addW_ne t1, Nat.le_trans (addW_len _ _ _) (by omega), fun x hx => ?_⟩
  rcases addW_mem hx with hx | ⟨_, rfl⟩
  · exact t3 x hx
  · rw [mkB_size]
    have := textL_len f
    omega
theorem field2 (x y z : Value) (w : World) : (Instr.field 163 (.agg #[x, y, z]) 2).run Tryz.prog w = .ok z w := by kernel_rfl

set_option maxRecDepth 100000 in
set_option maxHeartbeats 8000000 in
theorem stepText_impl (r a b i j : Int) (A : Option Addr) (n c : Nat) (f : List Int) (w : World) (h : RdI w w.heap.size A n f) (hnc : n ≤ c) (ht : Arit w) (hw : Words w) :
    Calls Tryz.prog 66 #[Value.agg #[Value.int .i64 r, Value.int .i64 a, Value.int .i64 b, Value.int .i64 i, Value.int .i64 j, Value.slice A n c]] w fun e w' => e = .returned (.string (stT r a b i j f)) ∧ Below w.heap.size w w' := by
  obtain ⟨i0, hi0, hz0, hz1, hz2⟩ := info_parts_str
  obtain ⟨w1, hw1⟩ : ∃ w1, w1 = w.alloc (.cells #[Value.int .i64 r, Value.int .i64 a, Value.int .i64 b, Value.int .i64 i, Value.int .i64 j, Value.slice A n c] 30) := ⟨_, rfl⟩
  have hb1 := box_any w (.cells #[Value.int .i64 r, Value.int .i64 a, Value.int .i64 b, Value.int .i64 i, Value.int .i64 j, Value.slice A n c] 30)
  have p1 : (w.alloc (.cells #[Value.int .i64 r, Value.int .i64 a, Value.int .i64 b, Value.int .i64 i, Value.int .i64 j, Value.slice A n c] 30)).heap[w.heap.size]? = some (.cells #[Value.int .i64 r, Value.int .i64 a, Value.int .i64 b, Value.int .i64 i, Value.int .i64 j, Value.slice A n c] 30 (0, 0)) := heap_alloc_new _ _
  have hs1 : (w.alloc (.cells #[Value.int .i64 r, Value.int .i64 a, Value.int .i64 b, Value.int .i64 i, Value.int .i64 j, Value.slice A n c] 30)).heap.size = w.heap.size + 1 := by simp
  rw [← hw1] at hb1 p1 hs1
  have x0 : w1.cell? ⟨w.heap.size, 0, none⟩ = some (.int .i64 r) := cell_of_row _ _ 0 _ _ (0, 0) p1
  have x1 : w1.cell? ⟨w.heap.size, 1, none⟩ = some (.int .i64 a) := cell_of_row _ _ 1 _ _ (0, 0) p1
  have x2 : w1.cell? ⟨w.heap.size, 2, none⟩ = some (.int .i64 b) := cell_of_row _ _ 2 _ _ (0, 0) p1
  have x3 : w1.cell? ⟨w.heap.size, 3, none⟩ = some (.int .i64 i) := cell_of_row _ _ 3 _ _ (0, 0) p1
  have x4 : w1.cell? ⟨w.heap.size, 4, none⟩ = some (.int .i64 j) := cell_of_row _ _ 4 _ _ (0, 0) p1
  have x5 : w1.cell? ⟨w.heap.size, 5, none⟩ = some (.slice A n c) := cell_of_row _ _ 5 _ _ (0, 0) p1
  have hPS := plainStep_impl r a b i j A n c f w1 ((h.below hb1).more hb1.size) hnc (ht.below hb1 ht.lt)
  have HI := Lib.hid hi0; have HZ0 := Lib.hid hz0; have HZ1 := Lib.hid hz1; have HZ2 := Lib.hid hz2
  have HB1 := Lib.hid hb1; have P1 := Lib.hid p1
  clear hi0 hz0 hz1 hz2 hb1 p1
  cases hp : plainB r a b i j f with
  | false =>
    rw [hp] at hPS
    have HE : Hid ((⟨#[]⟩ : ByteArray) = stT r a b i j f) := Lib.hid (stT_no hp).symm
    have HPS := Lib.hid hPS
    clear hPS hp h ht hw
    generalize stT r a b i j f = R at *
    go_enter Tryz.func66, Tryz.ntmps66
    go_wp2_with (fail)
    rw [← hw1]
    clear hw1
    refine HPS.out.mono ?_
    rintro e w2 ⟨rfl, bel2⟩
    have HB2 := Lib.hid (HB1.out.trans (bel2.mono HB1.out.size))
    clear bel2
    go_wp2
    go_ret
    exact ⟨ret_str HE.out, HB2.out⟩
  | true =>
    rw [hp] at hPS
    obtain ⟨⟨h1, h2⟩, hz, d0, d1, d2, d3⟩ := plain_parts hp
    have hss := short_st hp
    have htk := fun m => short_tk (k := r.toNat) d0 d1 d2 d3 m
    have HE : Hid (jn (stW r a b i j f) = stT r a b i j f) := Lib.hid (stT_yes hp).symm
    have HST : Hid (stW r a b i j f = addW (ruF r) (tkW (decide (0 < ruP r)) (decide (1 < ruP r)) (ruI r) (ruJ r) (nmB r.toNat) a b i j 4) (mkB (textL f))) := Lib.hid rfl
    have HPS := Lib.hid hPS
    have HRO := Lib.hid (fun w => ruleOf_any w r h1 h2)
    have HN := Lib.hid (fun w => namedIndices_any r h1 h2 w)
    have hm := m_named r h1 h2
    obtain ⟨kr, rfl⟩ : ∃ k : Nat, r = k := ⟨r.toNat, by omega⟩
    have hkr : kr < 15 := by omega
    have ekr : ((kr : Int)).toNat = kr := by omega
    rw [ekr] at HST htk
    have hr0 : (kr : Int) < 15 := by omega
    have HW := Lib.hid hw; have HT := Lib.hid ht; have HRD := Lib.hid h
    have HTK := Lib.hid htk; have HSS := Lib.hid hss
    have D0 := Lib.hid d0; have D1 := Lib.hid d1; have D2 := Lib.hid d2; have D3 := Lib.hid d3
    clear hPS hp h ht hw htk hss d0 d1 d2 d3 hz ekr h1 h2
    generalize stT (kr : Int) a b i j f = R at *
    generalize stW (kr : Int) a b i j f = SW at *
    generalize ruT (kr : Int) = T at *; generalize ruI (kr : Int) = n2 at *; generalize ruJ (kr : Int) = n3 at *; generalize ruF (kr : Int) = z at *
    generalize decide (0 < ruP (kr : Int)) = n0 at *; generalize decide (1 < ruP (kr : Int)) = n1 at *
    go_enter Tryz.func66, Tryz.ntmps66
    go_wp2_with (fail)
    rw [← hw1]
    clear hw1
    refine HPS.out.mono ?_
    rintro e w2 ⟨rfl, bel2⟩
    have hs2 := bel2.size
    have p2 := (bel2.block w.heap.size (by omega)).trans P1.out
    have HB2 := Lib.hid (HB1.out.trans (bel2.mono (by omega)))
    have P2 := Lib.hid p2
    clear bel2 HPS x0 x1 x2 x3 x4 x5
    have y0 : w2.cell? ⟨w.heap.size, 0, none⟩ = some (.int .i64 (kr : Int)) := cell_of_row _ _ 0 _ _ (0, 0) p2
    have y1 : w2.cell? ⟨w.heap.size, 1, none⟩ = some (.int .i64 a) := cell_of_row _ _ 1 _ _ (0, 0) p2
    have y2 : w2.cell? ⟨w.heap.size, 2, none⟩ = some (.int .i64 b) := cell_of_row _ _ 2 _ _ (0, 0) p2
    have y3 : w2.cell? ⟨w.heap.size, 3, none⟩ = some (.int .i64 i) := cell_of_row _ _ 3 _ _ (0, 0) p2
    have y4 : w2.cell? ⟨w.heap.size, 4, none⟩ = some (.int .i64 j) := cell_of_row _ _ 4 _ _ (0, 0) p2
    have y5 : w2.cell? ⟨w.heap.size, 5, none⟩ = some (.slice A n c) := cell_of_row _ _ 5 _ _ (0, 0) p2
    clear p2
    go_wp2_with (fail)
    refine (HRO.out w2).mono ?_
    rintro e w' ⟨rfl, rfl⟩
    go_wp2_with (fail)
    refine (indicesOf_any kr a b i j A n c w2).mono ?_
    rintro e w3 ⟨rfl, bel3⟩
    have hs3 := bel3.size
    have p3 := (bel3.block w.heap.size (by omega)).trans P2.out
    have HB3 := Lib.hid (HB2.out.trans (bel3.mono HB2.out.size))
    obtain ⟨w5, hw5⟩ : ∃ w5, w5 = (w3.alloc (.cells #[Value.int .i64 a, Value.int .i64 b, Value.int .i64 i, Value.int .i64 j] 147)).alloc (.cells #[.string (nmB kr)] 9) := ⟨_, rfl⟩
    obtain ⟨hb5, q4, q5, hs5⟩ := two_any w3 (.cells #[Value.int .i64 a, Value.int .i64 b, Value.int .i64 i, Value.int .i64 j] 147) (.cells #[.string (nmB kr)] 9)
    have own5 := str_one (w3.alloc (.cells #[Value.int .i64 a, Value.int .i64 b, Value.int .i64 i, Value.int .i64 j] 147)) (nmB kr)
    have es4 : (w3.alloc (.cells #[Value.int .i64 a, Value.int .i64 b, Value.int .i64 i, Value.int .i64 j] 147)).heap.size = w3.heap.size + 1 := by simp
    rw [es4] at own5
    rw [← hw5] at hb5 q4 q5 hs5 own5
    have p34 : (w3.alloc (.cells #[Value.int .i64 a, Value.int .i64 b, Value.int .i64 i, Value.int .i64 j] 147)).heap[w.heap.size]? = _ := (Below.heap_alloc _ _ _ (by omega)).trans p3
    have z3 : (w3.alloc (.cells #[Value.int .i64 a, Value.int .i64 b, Value.int .i64 i, Value.int .i64 j] 147)).cell? ⟨w.heap.size, 0, none⟩ = some (.int .i64 kr) := cell_of_row _ _ 0 _ _ (0, 0) p34
    have hcw : (w3.alloc (.cells #[Value.int .i64 a, Value.int .i64 b, Value.int .i64 i, Value.int .i64 j] 147)).cell? ⟨0, kr, none⟩ = some (.string (nmB kr)) := (HW.out.below (HB3.out.alloc HB3.out.size _) HW.out.lt) kr hkr
    clear p34
    clear bel3 y0 y1 y2 y3 y4 y5
    go_wp2_with (fail)
    rw [← hw5]
    clear hw5 z3 hcw
    refine (HN.out w5).mono ?_
    rintro e w6 ⟨rfl, bel6⟩
    have hs6 := bel6.size
    have q46 := (bel6.block w3.heap.size (by omega)).trans q4
    have own6 := own_below own5 bel6 (Nat.le_refl _)
    have p6 := (bel6.block w.heap.size (by omega)).trans ((hb5.block w.heap.size (by omega)).trans p3)
    have HB6 := Lib.hid (HB3.out.trans ((hb5.mono HB3.out.size).trans (bel6.mono (by have := HB3.out.size; omega))))
    have c40 : w6.cell? ⟨w3.heap.size, 0, none⟩ = some (.int .i64 a) := cell_of_row _ _ 0 _ _ (0, 0) q46
    have c41 : w6.cell? ⟨w3.heap.size, 1, none⟩ = some (.int .i64 b) := cell_of_row _ _ 1 _ _ (0, 0) q46
    have c42 : w6.cell? ⟨w3.heap.size, 2, none⟩ = some (.int .i64 i) := cell_of_row _ _ 2 _ _ (0, 0) q46
    have c43 : w6.cell? ⟨w3.heap.size, 3, none⟩ = some (.int .i64 j) := cell_of_row _ _ 3 _ _ (0, 0) q46
    have c05 : w6.cell? ⟨w.heap.size, 5, none⟩ = some (.slice A n c) := cell_of_row _ _ 5 _ _ (0, 0) p6
    have hlt4 : w3.heap.size < w3.heap.size + 1 := by omega
    have hlt0 : w.heap.size < w3.heap.size + 1 := by omega
    have hbs : w3.heap.size + 1 < w6.heap.size := by omega
    obtain ⟨tk, htk⟩ : ∃ tk, tk = tkW n0 n1 n2 n3 (nmB kr) a b i j := ⟨_, rfl⟩
    have t0 : tk 0 = [nmB kr] := by rw [htk]; rfl
    have t1 : tk 1 = addW n0 (tk 0) (decB a) := by rw [htk]; rfl
    have t2 : tk 2 = addW n1 (tk 1) (decB b) := by rw [htk]; rfl
    have t3 : tk 3 = addW n2 (tk 2) (decB i) := by rw [htk]; rfl
    have t4 : tk 4 = addW n3 (tk 3) (decB j) := by rw [htk]; rfl
    rw [← htk] at HST HTK
    have HO6 := Lib.hid own6
    have hmz := fun w => field2 (Value.bool n2) (Value.bool n3) (Value.bool z) w
    clear htk q4 q5 q46 p6 p3 own5 own6 bel6 hb5 hs5 hs6 es4 HN HRO P1 P2 HB1 HB2 HB3 hs1 hs2 hs3
    generalize w3.heap.size = b4 at *
    go_wp2_with (fail)
    go_loopw [5, 23] (fun s t wr => ∃ (k : Nat) (zk : Int) (Ar : Option Addr) (cr : Nat), k ≤ 4 ∧ zk = k ∧ t = .int .i64 zk ∧ s = .slice Ar (tk k).length cr ∧ wr.ownsRow (b4 + 1) 9 1 (.slice Ar (tk k).length cr) (tk k).length ((tk k).map Value.string) ∧ Below (b4 + 1) w6 wr) (fun _ t _ => 4 - (intOf t).toNat)
    case atStart => exact ⟨0, 0, some ⟨b4 + 1, 0, none⟩, 1, by omega, rfl, rfl, by rw [t0]; rfl, by rw [t0]; exact HO6.out, Below.refl _ _⟩
    case round =>
      obtain ⟨k, zk, Ar, cr, hk, hzk, rfl, rfl, ho, hb⟩ := hrel
      have hi0 := index4_0; have hi1 := index4_1; have hi2 := index4_2; have hi3 := index4_3
      have HO := Lib.hid ho; have HB := Lib.hid hb
      have hsw := hb.size
      have d40 := (hb.cell (p := ⟨b4, 0, none⟩) hlt4).trans c40
      have d41 := (hb.cell (p := ⟨b4, 1, none⟩) hlt4).trans c41
      have d42 := (hb.cell (p := ⟨b4, 2, none⟩) hlt4).trans c42
      have d43 := (hb.cell (p := ⟨b4, 3, none⟩) hlt4).trans c43
      have d05 := (hb.cell (p := ⟨w.heap.size, 5, none⟩) hlt0).trans c05
      clear ho hb c40 c41 c42 c43 c05
      obtain ⟨rfl, rfl⟩ | ⟨rfl, rfl⟩ | ⟨rfl, rfl⟩ | ⟨rfl, rfl⟩ | ⟨rfl, rfl⟩ : (k = 0 ∧ zk = 0) ∨ (k = 1 ∧ zk = 1) ∨ (k = 2 ∧ zk = 2) ∨ (k = 3 ∧ zk = 3) ∨ (k = 4 ∧ zk = 4) := by omega
      all_goals clear hzk hk
      · clear d41 d42 d43 d05 t0 t2 t3 t4
        cases n0 with
        | true =>
          have e : tk 1 = tk 0 ++ [decB a] := t1.trans (addW_yes _ _)
          have E := Lib.hid e; have hl5 := (HTK.out 0).2.1
          clear t1 e
          generalize tk 0 = TK at *
          go_wp2_with (fail)
          refine (fmt_any a D0.out wr).mono ?_
          rintro e w' ⟨rfl, rfl⟩
          go_wp2_with (at_builtin; refine wpList_append_lies _ rfl _ _ _ rfl (b4 + 1) 9 i0 (.string ⟨#[]⟩) 1 16 Tryz.underlying132 HI.out HZ0.out HZ1.out HZ2.out rfl (by decide) _ _ _ rfl (HO.out.alloc _) ⟨wr.heap.size, 0, none⟩ 1 1 [.string (decB a)] rfl rfl (str_new wr _) (by simp [Value.oneCell']) (by decide) (by simp only [maxLen]; omega) (by omega) (by simp; omega) _ rfl ?_; intro g7 cap7 w7 hown7 hgrow7 hat7 hlt7; obtain ⟨F1, F2⟩ := str_push HB.out (by omega) HO.out hown7 hgrow7; have G1 := Lib.hid F1; have G2 := Lib.hid F2; clear hown7 hgrow7 hat7 F1 F2)
          go_roundw
          case rel => exact ⟨1, 1, some ⟨g7, 0, none⟩, cap7, by omega, rfl, rfl, by rw [E.out]; simp, by rw [E.out]; exact G2.out, G1.out⟩
          case measure => simp [intOf]
        | false =>
          have e : tk 1 = tk 0 := t1.trans (addW_no _ _)
          have E := Lib.hid e
          clear t1 e
          go_wp2
          go_roundw
          case rel => exact ⟨1, 1, Ar, cr, by omega, rfl, rfl, by rw [E.out], by rw [E.out]; exact HO.out, HB.out⟩
          case measure => simp [intOf]
      · clear d40 d42 d43 d05 t0 t1 t3 t4
        cases n1 with
        | true =>
          have e : tk 2 = tk 1 ++ [decB b] := t2.trans (addW_yes _ _)
          have E := Lib.hid e; have hl5 := (HTK.out 1).2.1
          clear t2 e
          generalize tk 1 = TK at *
          go_wp2_with (fail)
          refine (fmt_any b D1.out wr).mono ?_
          rintro e w' ⟨rfl, rfl⟩
          go_wp2_with (at_builtin; refine wpList_append_lies _ rfl _ _ _ rfl (b4 + 1) 9 i0 (.string ⟨#[]⟩) 1 16 Tryz.underlying132 HI.out HZ0.out HZ1.out HZ2.out rfl (by decide) _ _ _ rfl (HO.out.alloc _) ⟨wr.heap.size, 0, none⟩ 1 1 [.string (decB b)] rfl rfl (str_new wr _) (by simp [Value.oneCell']) (by decide) (by simp only [maxLen]; omega) (by omega) (by simp; omega) _ rfl ?_; intro g7 cap7 w7 hown7 hgrow7 hat7 hlt7; obtain ⟨F1, F2⟩ := str_push HB.out (by omega) HO.out hown7 hgrow7; have G1 := Lib.hid F1; have G2 := Lib.hid F2; clear hown7 hgrow7 hat7 F1 F2)
          go_roundw
          case rel => exact ⟨2, 2, some ⟨g7, 0, none⟩, cap7, by omega, rfl, rfl, by rw [E.out]; simp, by rw [E.out]; exact G2.out, G1.out⟩
          case measure => simp [intOf]
        | false =>
          have e : tk 2 = tk 1 := t2.trans (addW_no _ _)
          have E := Lib.hid e
          clear t2 e
          go_wp2
          go_roundw
          case rel => exact ⟨2, 2, Ar, cr, by omega, rfl, rfl, by rw [E.out], by rw [E.out]; exact HO.out, HB.out⟩
          case measure => simp [intOf]
      · clear d40 d41 d43 d05 t0 t1 t2 t4
        cases n2 with
        | true =>
          have e : tk 3 = tk 2 ++ [decB i] := t3.trans (addW_yes _ _)
          have E := Lib.hid e; have hl5 := (HTK.out 2).2.1
          clear t3 e
          generalize tk 2 = TK at *
          go_wp2_with (fail)
          refine (fmt_any i D2.out wr).mono ?_
          rintro e w' ⟨rfl, rfl⟩
          go_wp2_with (at_builtin; refine wpList_append_lies _ rfl _ _ _ rfl (b4 + 1) 9 i0 (.string ⟨#[]⟩) 1 16 Tryz.underlying132 HI.out HZ0.out HZ1.out HZ2.out rfl (by decide) _ _ _ rfl (HO.out.alloc _) ⟨wr.heap.size, 0, none⟩ 1 1 [.string (decB i)] rfl rfl (str_new wr _) (by simp [Value.oneCell']) (by decide) (by simp only [maxLen]; omega) (by omega) (by simp; omega) _ rfl ?_; intro g7 cap7 w7 hown7 hgrow7 hat7 hlt7; obtain ⟨F1, F2⟩ := str_push HB.out (by omega) HO.out hown7 hgrow7; have G1 := Lib.hid F1; have G2 := Lib.hid F2; clear hown7 hgrow7 hat7 F1 F2)
          go_roundw
          case rel => exact ⟨3, 3, some ⟨g7, 0, none⟩, cap7, by omega, rfl, rfl, by rw [E.out]; simp, by rw [E.out]; exact G2.out, G1.out⟩
          case measure => simp [intOf]
        | false =>
          have e : tk 3 = tk 2 := t3.trans (addW_no _ _)
          have E := Lib.hid e
          clear t3 e
          go_wp2
          go_roundw
          case rel => exact ⟨3, 3, Ar, cr, by omega, rfl, rfl, by rw [E.out], by rw [E.out]; exact HO.out, HB.out⟩
          case measure => simp [intOf]
      · clear d40 d41 d42 d05 t0 t1 t2 t3
        cases n3 with
        | true =>
          have e : tk 4 = tk 3 ++ [decB j] := t4.trans (addW_yes _ _)
          have E := Lib.hid e; have hl5 := (HTK.out 3).2.1
          clear t4 e
          generalize tk 3 = TK at *
          go_wp2_with (fail)
          refine (fmt_any j D3.out wr).mono ?_
          rintro e w' ⟨rfl, rfl⟩
          go_wp2_with (at_builtin; refine wpList_append_lies _ rfl _ _ _ rfl (b4 + 1) 9 i0 (.string ⟨#[]⟩) 1 16 Tryz.underlying132 HI.out HZ0.out HZ1.out HZ2.out rfl (by decide) _ _ _ rfl (HO.out.alloc _) ⟨wr.heap.size, 0, none⟩ 1 1 [.string (decB j)] rfl rfl (str_new wr _) (by simp [Value.oneCell']) (by decide) (by simp only [maxLen]; omega) (by omega) (by simp; omega) _ rfl ?_; intro g7 cap7 w7 hown7 hgrow7 hat7 hlt7; obtain ⟨F1, F2⟩ := str_push HB.out (by omega) HO.out hown7 hgrow7; have G1 := Lib.hid F1; have G2 := Lib.hid F2; clear hown7 hgrow7 hat7 F1 F2)
          go_roundw
          case rel => exact ⟨4, 4, some ⟨g7, 0, none⟩, cap7, by omega, rfl, rfl, by rw [E.out]; simp, by rw [E.out]; exact G2.out, G1.out⟩
          case measure => simp [intOf]
        | false =>
          have e : tk 4 = tk 3 := t4.trans (addW_no _ _)
          have E := Lib.hid e
          clear t4 e
          go_wp2
          go_roundw
          case rel => exact ⟨4, 4, Ar, cr, by omega, rfl, rfl, by rw [E.out], by rw [E.out]; exact HO.out, HB.out⟩
          case measure => simp [intOf]
      · clear d40 d41 d42 d43 t0 t1 t2 t3 t4
        have hl5 := (HTK.out 4).2.1
        generalize tk 4 = TK at *
        go_wp2_with (fail)
        refine (namedFields_any n2 n3 z wr).mono ?_
        rintro e w8 ⟨rfl, bel8⟩
        have hs8 := bel8.size
        have HO8 := Lib.hid (own_below HO.out bel8 (Nat.le_refl _))
        have HB8 := Lib.hid (HB.out.trans (bel8.mono (by omega)))
        have e05 := (bel8.cell (p := ⟨w.heap.size, 5, none⟩) (by show w.heap.size < _; omega)).trans d05
        clear bel8 d05 HO HB
        have HBW := Lib.hid (HB6.out.trans (HB8.out.mono (by omega)))
        cases z with
        | false =>
          rw [addW_no] at HST
          have HJ := Lib.hid (joinW (T := TK) (HST.out ▸ HSS.out) HO8.out)
          have HE2 : Hid (jn TK = R) := Lib.hid (by rw [← HST.out]; exact HE.out)
          clear HO8 HST HSS HE
          go_wp2_with (fail)
          refine HJ.out.mono ?_
          rintro e w9 ⟨rfl, bel9⟩
          have HB9 := Lib.hid (HBW.out.trans (bel9.mono HBW.out.size))
          clear bel9
          go_wp2
          go_ret
          exact ⟨ret_str HE2.out, HB9.out⟩
        | true =>
          rw [addW_yes] at HST
          have HFT := Lib.hid (formText_impl A n c f w8 ((HRD.out.below HBW.out).more HBW.out.size) (HT.out.below HBW.out HT.out.lt) hnc)
          have HE2 : Hid (jn (TK ++ [mkB (textL f)]) = R) := Lib.hid (by rw [← HST.out]; exact HE.out)
          have HS2 : Hid (ShortW (TK ++ [mkB (textL f)])) := Lib.hid (HST.out ▸ HSS.out)
          have HB := HB8
          have hsz8 : b4 + 1 ≤ w8.heap.size := by omega
          clear HST HSS HE HB8
          generalize mkB (textL f) = MF at *
          go_wp2_with (fail)
          refine HFT.out.mono ?_
          rintro e w' ⟨rfl, rfl⟩
          go_wp2_with (at_builtin; refine wpList_append_lies _ rfl _ _ _ rfl (b4 + 1) 9 i0 (.string ⟨#[]⟩) 1 16 Tryz.underlying132 HI.out HZ0.out HZ1.out HZ2.out rfl (by decide) _ _ _ rfl (HO8.out.alloc _) ⟨w8.heap.size, 0, none⟩ 1 1 [.string MF] rfl rfl (str_new w8 _) (by simp [Value.oneCell']) (by decide) (by simp only [maxLen]; omega) (by omega) (by simp; omega) _ rfl ?_; intro g7 cap7 w7 hown7 hgrow7 hat7 hlt7; obtain ⟨F1, F2⟩ := str_push HB.out hsz8 HO8.out hown7 hgrow7; have G1 := Lib.hid F1; have G2 := Lib.hid F2; clear hown7 hgrow7 hat7 F1 F2)
          have HJ := Lib.hid (joinW (T := TK ++ [MF]) HS2.out G2.out)
          have HB10 := Lib.hid (HB6.out.trans (G1.out.mono (by omega)))
          have el : TK.length + 1 = (TK ++ [MF]).length := by simp
          rw [el]
          generalize (TK ++ [MF]).length = LN at *
          go_wp2_with (fail)
          refine HJ.out.mono ?_
          rintro e w9 ⟨rfl, bel9⟩
          have HB9 := Lib.hid (HB10.out.trans (bel9.mono HB10.out.size))
          clear bel9
          go_wp2
          go_ret
          exact ⟨ret_str HE2.out, HB9.out⟩
end Go.Proofs.YtjgmgaccmcepdaaGreatDoor
