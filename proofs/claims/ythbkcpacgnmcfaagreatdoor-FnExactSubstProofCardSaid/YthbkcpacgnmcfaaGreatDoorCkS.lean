/- The program's StepResult. Made by mkcks.py. -/
import Derived.Test.YthbkcpacgnmcfaaGreatDoorQCkM
namespace Go.Proofs.YthbkcpacgnmcfaaGreatDoor
set_option linter.unusedSimpArgs false
set_option linter.unusedVariables false
open Go.ChangeAt Go.ChangeShapes Go.RowKit Go.WideShapes

theorem as_initial : ∀ r : Int, 1 ≤ r → r ≤ 14 → ∀ (v : Value) (w : World), (Instr.typeAssert (.iface (ruT r) v) 76 111 true).run Tryz.prog w = .ok (if ruP r = 0 then .tuple #[.iface (ruT r) v, .bool true] else .tuple #[.nilIface, .bool false]) w :=
  ru_cases (by intro v w; first | exact run_typeAssert_hasB Tryz.underlying111 (by kernel_rfl) v 76 w | exact run_typeAssert_lacksB Tryz.underlying111 (by kernel_rfl) (by kernel_rfl) v 76 w) (by intro v w; first | exact run_typeAssert_hasB Tryz.underlying111 (by kernel_rfl) v 76 w | exact run_typeAssert_lacksB Tryz.underlying111 (by kernel_rfl) (by kernel_rfl) v 76 w) (by intro v w; first | exact run_typeAssert_hasB Tryz.underlying111 (by kernel_rfl) v 76 w | exact run_typeAssert_lacksB Tryz.underlying111 (by kernel_rfl) (by kernel_rfl) v 76 w) (by intro v w; first | exact run_typeAssert_hasB Tryz.underlying111 (by kernel_rfl) v 76 w | exact run_typeAssert_lacksB Tryz.underlying111 (by kernel_rfl) (by kernel_rfl) v 76 w) (by intro v w; first | exact run_typeAssert_hasB Tryz.underlying111 (by kernel_rfl) v 76 w | exact run_typeAssert_lacksB Tryz.underlying111 (by kernel_rfl) (by kernel_rfl) v 76 w) (by intro v w; first | exact run_typeAssert_hasB Tryz.underlying111 (by kernel_rfl) v 76 w | exact run_typeAssert_lacksB Tryz.underlying111 (by kernel_rfl) (by kernel_rfl) v 76 w) (by intro v w; first | exact run_typeAssert_hasB Tryz.underlying111 (by kernel_rfl) v 76 w | exact run_typeAssert_lacksB Tryz.underlying111 (by kernel_rfl) (by kernel_rfl) v 76 w) (by intro v w; first | exact run_typeAssert_hasB Tryz.underlying111 (by kernel_rfl) v 76 w | exact run_typeAssert_lacksB Tryz.underlying111 (by kernel_rfl) (by kernel_rfl) v 76 w) (by intro v w; first | exact run_typeAssert_hasB Tryz.underlying111 (by kernel_rfl) v 76 w | exact run_typeAssert_lacksB Tryz.underlying111 (by kernel_rfl) (by kernel_rfl) v 76 w) (by intro v w; first | exact run_typeAssert_hasB Tryz.underlying111 (by kernel_rfl) v 76 w | exact run_typeAssert_lacksB Tryz.underlying111 (by kernel_rfl) (by kernel_rfl) v 76 w) (by intro v w; first | exact run_typeAssert_hasB Tryz.underlying111 (by kernel_rfl) v 76 w | exact run_typeAssert_lacksB Tryz.underlying111 (by kernel_rfl) (by kernel_rfl) v 76 w) (by intro v w; first | exact run_typeAssert_hasB Tryz.underlying111 (by kernel_rfl) v 76 w | exact run_typeAssert_lacksB Tryz.underlying111 (by kernel_rfl) (by kernel_rfl) v 76 w) (by intro v w; first | exact run_typeAssert_hasB Tryz.underlying111 (by kernel_rfl) v 76 w | exact run_typeAssert_lacksB Tryz.underlying111 (by kernel_rfl) (by kernel_rfl) v 76 w) (by intro v w; first | exact run_typeAssert_hasB Tryz.underlying111 (by kernel_rfl) v 76 w | exact run_typeAssert_lacksB Tryz.underlying111 (by kernel_rfl) (by kernel_rfl) v 76 w)
theorem cf_derive : ∀ r : Int, 1 ≤ r → r ≤ 14 → ruP r = 1 → ∀ (args : Array Value) (w : World), (callFunc (deF r) args).run Tryz.prog w = .ok (.enter (deF r) args) w :=
  ru_cases (by intro h args w; first | (exact absurd h (by decide)) | kernel_rfl) (by intro h args w; first | (exact absurd h (by decide)) | kernel_rfl) (by intro h args w; first | (exact absurd h (by decide)) | kernel_rfl) (by intro h args w; first | (exact absurd h (by decide)) | kernel_rfl) (by intro h args w; first | (exact absurd h (by decide)) | kernel_rfl) (by intro h args w; first | (exact absurd h (by decide)) | kernel_rfl) (by intro h args w; first | (exact absurd h (by decide)) | kernel_rfl) (by intro h args w; first | (exact absurd h (by decide)) | kernel_rfl) (by intro h args w; first | (exact absurd h (by decide)) | kernel_rfl) (by intro h args w; first | (exact absurd h (by decide)) | kernel_rfl) (by intro h args w; first | (exact absurd h (by decide)) | kernel_rfl) (by intro h args w; first | (exact absurd h (by decide)) | kernel_rfl) (by intro h args w; first | (exact absurd h (by decide)) | kernel_rfl) (by intro h args w; first | (exact absurd h (by decide)) | kernel_rfl)
theorem cf_combine : ∀ r : Int, 1 ≤ r → r ≤ 14 → ruP r = 2 → ∀ (args : Array Value) (w : World), (callFunc (coF r) args).run Tryz.prog w = .ok (.enter (coF r) args) w :=
  ru_cases (by intro h args w; first | (exact absurd h (by decide)) | kernel_rfl) (by intro h args w; first | (exact absurd h (by decide)) | kernel_rfl) (by intro h args w; first | (exact absurd h (by decide)) | kernel_rfl) (by intro h args w; first | (exact absurd h (by decide)) | kernel_rfl) (by intro h args w; first | (exact absurd h (by decide)) | kernel_rfl) (by intro h args w; first | (exact absurd h (by decide)) | kernel_rfl) (by intro h args w; first | (exact absurd h (by decide)) | kernel_rfl) (by intro h args w; first | (exact absurd h (by decide)) | kernel_rfl) (by intro h args w; first | (exact absurd h (by decide)) | kernel_rfl) (by intro h args w; first | (exact absurd h (by decide)) | kernel_rfl) (by intro h args w; first | (exact absurd h (by decide)) | kernel_rfl) (by intro h args w; first | (exact absurd h (by decide)) | kernel_rfl) (by intro h args w; first | (exact absurd h (by decide)) | kernel_rfl) (by intro h args w; first | (exact absurd h (by decide)) | kernel_rfl)
theorem cf_begin : ∀ r : Int, 1 ≤ r → r ≤ 14 → ruP r = 0 → ∀ (args : Array Value) (w : World), (callFunc (beF r) args).run Tryz.prog w = .ok (.enter (beF r) args) w :=
  ru_cases (by intro h args w; first | (exact absurd h (by decide)) | kernel_rfl) (by intro h args w; first | (exact absurd h (by decide)) | kernel_rfl) (by intro h args w; first | (exact absurd h (by decide)) | kernel_rfl) (by intro h args w; first | (exact absurd h (by decide)) | kernel_rfl) (by intro h args w; first | (exact absurd h (by decide)) | kernel_rfl) (by intro h args w; first | (exact absurd h (by decide)) | kernel_rfl) (by intro h args w; first | (exact absurd h (by decide)) | kernel_rfl) (by intro h args w; first | (exact absurd h (by decide)) | kernel_rfl) (by intro h args w; first | (exact absurd h (by decide)) | kernel_rfl) (by intro h args w; first | (exact absurd h (by decide)) | kernel_rfl) (by intro h args w; first | (exact absurd h (by decide)) | kernel_rfl) (by intro h args w; first | (exact absurd h (by decide)) | kernel_rfl) (by intro h args w; first | (exact absurd h (by decide)) | kernel_rfl) (by intro h args w; first | (exact absurd h (by decide)) | kernel_rfl)
theorem unR_len {r i j : Int} {F : List Int} {P R : List (List Int)} (h : unR r i j F P = some R) : R.length ≤ P.length + 2 := by
  have hw := fun L => woK_len P L P.length
  unfold unR promR conR swpL woL at h
  repeat' split at h
  all_goals first
    | (cases h; done)
    | (injection h with h; subst h; simp only [List.length_append, List.length_cons, List.length_nil, List.length_set]; first | omega | (have := hw []; omega) | (have := hw [((i.toNat : Nat) : Int)]; omega) | (have := hw [((i.toNat : Nat) : Int), ((j.toNat : Nat) : Int)]; omega))
theorem biR_len {r i j : Int} {P Q R : List (List Int)} (h : biR r i j P Q = some R) : R.length ≤ P.length + Q.length + 2 := by
  have hp := woK_len P [((i.toNat : Nat) : Int)] P.length
  have hq := woK_len Q [((j.toNat : Nat) : Int)] Q.length
  unfold biR cutR withR woL at h
  repeat' split at h
  all_goals first
    | (cases h; done)
    | (injection h with h; subst h; simp only [List.length_append, List.length_cons, List.length_nil]; omega)
theorem beR_len (r : Int) (F : List Int) : (beR r F).length ≤ 2 := by unfold beR; split <;> simp
/-- A conclusion stands if it is valid. -/
def fin : Option (List (List Int)) → Option (List (List Int))
  | some R => if validQ R = true then some R else none
  | none => none
/-- What a step concludes. -/
def srV (r i j : Int) (F : List Int) (P Q : List (List Int)) : Option (List (List Int)) :=
  if ruP r = 0 then (if inpV r i j F [] [] = true then fin (some (beR r F)) else none)
  else if ruP r = 1 then (if inpV r i j F P P = true then fin (unR r i j F P) else none)
  else (if inpV r i j F P Q = true then fin (biR r i j P Q) else none)
theorem after_D {w w' : World} {X : Option (List (List Int))} {e : Ending} (h : GivesD w X e w') (hX : ∀ R, X = some R → R.length ≤ maxLen) (ht : Arit w') :
    ∃ v k, e = .returned (.tuple #[v, .int .i64 k]) ∧ Below w.heap.size w w' ∧ Calls Tryz.prog 77 #[v, .int .i64 k] w' (GivesS w' (fin X)) := by
  obtain ⟨hb, h⟩ := h
  cases X with
  | none =>
    obtain ⟨k, hk, rfl⟩ := h
    exact ⟨_, k, rfl, hb, concluded_no _ k hk w'⟩
  | some R =>
    obtain ⟨A, c, vs, rfl, own, rd⟩ := h
    exact ⟨_, 0, rfl, hb, concluded_yes A R.length c R w' (rd.rd own) (hX R rfl) ht⟩
theorem after_V {w w' : World} {R : List (List Int)} {e : Ending} (h : GivesV w R e w') (hX : R.length ≤ maxLen) (ht : Arit w') :
    ∃ v, e = .returned v ∧ Below w.heap.size w w' ∧ Calls Tryz.prog 77 #[v, .int .i64 0] w' (GivesS w' (fin (some R))) := by
  obtain ⟨A, c, vs, rfl, own, rd, hb⟩ := h
  exact ⟨_, rfl, hb, concluded_yes A R.length c R w' (rd.rd own) hX ht⟩

theorem after_b {w w' : World} {R : List (List Int)} {e : Ending} (h : GivesV w R e w') : Below w.heap.size w w' := by
  obtain ⟨_, _, _, _, _, _, hb⟩ := h; exact hb
set_option maxRecDepth 100000 in
set_option maxHeartbeats 4000000 in
theorem step_un (r a b i j : Int) (h1 : 1 ≤ r) (h14 : r ≤ 14) (hp : ruP r = 1) (A : Option Addr) (n c : Nat) (P : List (List Int)) (A2 : Option Addr) (n2 c2 : Nat) (Q : List (List Int)) (B : Option Addr) (m d : Nat) (F : List Int) (w : World) (h : RdQ w w.heap.size A n P) (h2 : RdQ w w.heap.size A2 n2 Q) (hf : RdI w w.heap.size B m F) (hmd : m ≤ d) (hn : n ≤ 100000) (hn2 : n2 ≤ 100000) (ht : Arit w) (_hu : Dual w) :
    Calls Tryz.prog 62 #[.agg #[.slice A n c], .agg #[.slice A2 n2 c2], Value.agg #[Value.int .i64 r, Value.int .i64 a, Value.int .i64 b, Value.int .i64 i, Value.int .i64 j, Value.slice B m d]] w (GivesS w (srV r i j F P Q)) := by
  have hl := h.len
  subst hl
  have hl2 := h2.len
  subst hl2
  obtain ⟨u, hu0⟩ : ∃ u, u = (((w.alloc (.cells #[Value.slice A P.length c] 64)).alloc (.cells #[Value.slice A2 Q.length c2] 64)).alloc (.cells #[Value.int .i64 r, Value.int .i64 a, Value.int .i64 b, Value.int .i64 i, Value.int .i64 j, Value.slice B m d] 43)).alloc (.cells #[.slice none 0 0] 64) := ⟨_, rfl⟩
  obtain ⟨hb, p0, p1, p2, p3⟩ := four_boxes w (.cells #[Value.slice A P.length c] 64) (.cells #[Value.slice A2 Q.length c2] 64) (.cells #[Value.int .i64 r, Value.int .i64 a, Value.int .i64 b, Value.int .i64 i, Value.int .i64 j, Value.slice B m d] 43) (.cells #[.slice none 0 0] 64)
  rw [← hu0] at hb p0 p1 p2 p3
  have hlt0 : w.heap.size + 1 + 1 + 1 < u.heap.size := (Array.getElem?_eq_some_iff.1 p3).1
  have HKX : Hid (∀ wx, Below u.heap.size u wx → wx.cell? ⟨w.heap.size, 0, none⟩ = some (.slice A P.length c) ∧ wx.cell? ⟨w.heap.size + 1, 0, none⟩ = some (.slice A2 Q.length c2) ∧ wx.cell? ⟨w.heap.size + 1 + 1, 0, none⟩ = some (.int .i64 r) ∧ wx.cell? ⟨w.heap.size + 1 + 1, 1, none⟩ = some (.int .i64 a) ∧ wx.cell? ⟨w.heap.size + 1 + 1, 2, none⟩ = some (.int .i64 b) ∧ wx.cell? ⟨w.heap.size + 1 + 1, 3, none⟩ = some (.int .i64 i) ∧ wx.cell? ⟨w.heap.size + 1 + 1, 4, none⟩ = some (.int .i64 j) ∧ wx.cell? ⟨w.heap.size + 1 + 1, 5, none⟩ = some (.slice B m d) ∧ wx.cell? ⟨w.heap.size + 1 + 1 + 1, 0, none⟩ = some (.slice none 0 0) ∧ wx.frozen? ⟨w.heap.size + 1 + 1 + 1, 0, none⟩ = false ∧ w.heap.size + 1 + 1 + 1 < wx.heap.size ∧ wx.heap[w.heap.size + 1 + 1 + 1]? = some (.cells #[.slice none 0 0] 64 (0, 0))) := Lib.hid fun wx hx => by
    have g : ∀ k o, u.heap[k]? = some o → wx.heap[k]? = some o := fun k o h => (hx.block k (Array.getElem?_eq_some_iff.1 h).1).trans h
    exact ⟨cell_of_row _ _ 0 _ _ (0, 0) (g _ _ p0), cell_of_row _ _ 0 _ _ (0, 0) (g _ _ p1), cell_of_row _ _ 0 _ _ (0, 0) (g _ _ p2), cell_of_row _ _ 1 _ _ (0, 0) (g _ _ p2), cell_of_row _ _ 2 _ _ (0, 0) (g _ _ p2), cell_of_row _ _ 3 _ _ (0, 0) (g _ _ p2), cell_of_row _ _ 4 _ _ (0, 0) (g _ _ p2), cell_of_row _ _ 5 _ _ (0, 0) (g _ _ p2), cell_of_row _ _ 0 _ _ (0, 0) (g _ _ p3), frozen_of_row wx _ 0 _ _ (g _ _ p3), Nat.lt_of_lt_of_le hlt0 hx.size, g _ _ p3⟩
  have HU0 := Lib.hid hu0; have HBU := Lib.hid hb
  have HT := Lib.hid (fun (wx : World) (hx : Below u.heap.size u wx) => ht.below (hb.trans (hx.mono hb.size)) ht.lt)
  have HRO := fun (wx : World) => ruleOf_any wx r h1 h14
  have hasI := as_initial r h1 h14 (.agg #[Value.bool (ruI r), Value.bool (ruJ r), Value.bool (ruF r)])
  have hasU := as_unary r h1 h14 (.agg #[Value.bool (ruI r), Value.bool (ruJ r), Value.bool (ruF r)])
  have hasB := as_binary r h1 h14 (.agg #[Value.bool (ruI r), Value.bool (ruJ r), Value.bool (ruF r)])
  rw [hp] at hasI hasU hasB
  simp only [reduceIte, Int.reduceEq] at hasI hasU hasB
  have HIC := Lib.hid (fun (wx : World) (hx : Below u.heap.size u wx) => inputCode_any r a b i j h1 h14 B m d F A P.length c P A P.length c P wx ((hf.below (hb.trans (hx.mono hb.size))).more (Nat.le_trans hb.size hx.size)) hmd ((h.below (hb.trans (hx.mono hb.size))).more (Nat.le_trans hb.size hx.size)) ((h.below (hb.trans (hx.mono hb.size))).more (Nat.le_trans hb.size hx.size)) (by omega) (by omega) (HT.out wx hx))
  have hm := m_derive r h1 h14 hp
  have hcf := cf_derive r h1 h14 hp
  have HS : srV r i j F P Q = if inpV r i j F P P = true then fin (unR r i j F P) else none := by unfold srV; rw [hp]; rfl
  rw [HS]
  clear HS
  have HX : Hid (∀ R, unR r i j F P = some R → R.length ≤ maxLen) := Lib.hid fun R hR => by have := unR_len hR; unfold maxLen; omega
  have HCO0 : Hid (inpV r i j F P P = true → ∀ (wx : World), Below u.heap.size u wx → Calls Tryz.prog (deF r) #[.agg #[Value.bool (ruI r), Value.bool (ruJ r), Value.bool (ruF r)], .slice A P.length c, Value.agg #[Value.int .i64 r, Value.int .i64 a, Value.int .i64 b, Value.int .i64 i, Value.int .i64 j, Value.slice B m d]] wx (GivesD wx (unR r i j F P))) := Lib.hid fun hv wx hx => derive_any r a b i j h1 h14 hp A P.length c P B m d F wx ((h.below (hb.trans (hx.mono hb.size))).more (Nat.le_trans hb.size hx.size)) ((hf.below (hb.trans (hx.mono hb.size))).more (Nat.le_trans hb.size hx.size)) hv (HT.out wx hx)
  have HTT := Lib.hid (fun (wx : World) (hx : Below u.heap.size u wx) => HT.out wx hx)
  generalize inpV r i j F P P = V at *
  generalize ruT r = T at *; generalize ruI r = x at *; generalize ruJ r = y at *; generalize ruF r = z at *
  generalize deF r = gF at *
  generalize unR r i j F P = X at *
  obtain ⟨O, hO⟩ : ∃ O, fin X = O := ⟨_, rfl⟩
  rw [hO]
  obtain ⟨ea, eb, e0, e1, e2, e3, e4, e5, ec, ef, el, eh⟩ := HKX.out u (Below.refl _ _)
  clear hu0 hb p0 p1 p2 p3 h h2 hf ht _hu HT hlt0 el eh ec ef
  cases V with
  | false =>
    rw [if_neg (by decide)]
    go_enter Tryz.func62, Tryz.ntmps62
    go_upto_region 1 with (fail)
    rw [← HU0.out]
    go_wp2_with (fail)
    refine (HRO u).mono ?_
    rintro e w0 ⟨rfl, rfl⟩
    go_wp2_with (fail)
    refine (HIC.out u (Below.refl _ _)).mono ?_
    rintro e w1 ⟨k1, rfl, hk0, hk1, b1⟩
    have HB1 := Lib.hid b1
    clear b1 ea eb e0 e1 e2 e3 e4 e5
    obtain ⟨ea, eb, e0, e1, e2, e3, e4, e5, ec, ef, el, eh⟩ := HKX.out w1 HB1.out
    have EH := Lib.hid eh; clear eh
    have hk : (k1 != 0) = true := by simpa using hk1 rfl
    have HK := Lib.hid (hk1 rfl)
    clear hk0 hk1
    have HC := Lib.hid (cell_set (u := .slice none 0 0) EH.out)
    have HBC := Lib.hid ((HBU.out.trans (HB1.out.mono HBU.out.size)).setCell (p := ⟨w.heap.size + 1 + 1 + 1, 0, none⟩) (by simp only [Nat.add_assoc]; exact Nat.le_add_right _ _) (.slice none 0 0))
    go_wp2
    (try simp only [Exit.inBlock, Exit.then])
    refine bodyPost_ret (results_cell_row_tmp rfl _ _ (w.heap.size + 1 + 1 + 1) _ _ (0, 0) _ rfl HC.out Tryz.underlying64 rfl (by kernel_rfl)) rfl ?_
    exact ⟨HBC.out, k1, HK.out, rfl⟩
  | true =>
    rw [if_pos rfl]
    have HCO := Lib.hid (HCO0.out rfl)
    clear HCO0
    go_enter Tryz.func62, Tryz.ntmps62
    go_upto_region 1 with (fail)
    rw [← HU0.out]
    go_wp2_with (fail)
    refine (HRO u).mono ?_
    rintro e w0 ⟨rfl, rfl⟩
    go_wp2_with (fail)
    refine (HIC.out u (Below.refl _ _)).mono ?_
    rintro e w1 ⟨k1, rfl, hk0, hk1, b1⟩
    have HB1 := Lib.hid b1
    clear b1 ea eb e0 e1 e2 e3 e4 e5
    obtain ⟨ea, eb, e0, e1, e2, e3, e4, e5, ec, ef, el, eh⟩ := HKX.out w1 HB1.out
    have EH := Lib.hid eh; clear eh
    have hkz : k1 = 0 := hk0 rfl
    subst hkz
    clear hk0 hk1
    go_wp2_with (fail)
    refine (HCO.out w1 HB1.out).mono ?_
    rintro e w2 hD
    obtain ⟨v2, k2, rfl, b2, cc⟩ := after_D hD HX.out (HTT.out w2 (HB1.out.trans ((hD.1).mono HB1.out.size)))
    rw [hO] at cc
    clear hD
    have HB2 := Lib.hid (HB1.out.trans (b2.mono HB1.out.size))
    have HCC := Lib.hid cc
    clear b2 cc ea eb e0 e1 e2 e3 e4 e5 ec ef el EH
    obtain ⟨-, -, -, -, -, -, -, -, ec, ef, el, eh⟩ := HKX.out w2 HB2.out
    have EH := Lib.hid eh; have EL := Lib.hid el; clear eh el
    go_wp2_with (fail)
    refine HCC.out.mono ?_
    rintro e w3 ⟨b3, hr⟩
    clear HCC HCO HIC HRO
    cases O with
    | none =>
      obtain ⟨k3, hk3, rfl⟩ := hr
      have HB3 := Lib.hid (HB2.out.trans (b3.mono HB2.out.size))
      clear b3 ec ef
      obtain ⟨-, -, -, -, -, -, -, -, ec, ef, el, eh⟩ := HKX.out w3 HB3.out
      have HC := Lib.hid (cell_set (u := .slice none 0 0) eh)
      have HBC := Lib.hid ((HBU.out.trans (HB3.out.mono HBU.out.size)).setCell (p := ⟨w.heap.size + 1 + 1 + 1, 0, none⟩) (by simp only [Nat.add_assoc]; exact Nat.le_add_right _ _) (.slice none 0 0))
      clear el eh EH EL HKX
      go_wp2
      (try simp only [Exit.inBlock, Exit.then])
      refine bodyPost_ret (results_cell_row_tmp rfl _ _ (w.heap.size + 1 + 1 + 1) _ _ (0, 0) _ rfl HC.out Tryz.underlying64 rfl (by kernel_rfl)) rfl ?_
      exact ⟨HBC.out, k3, hk3, rfl⟩
    | some R =>
      obtain ⟨hs, AR, cR, rfl, own⟩ := hr
      obtain ⟨y0, y1, y2, y3, y4⟩ := seq_out (HBU.out.trans (HB2.out.mono HBU.out.size)) (by simp only [Nat.add_assoc]; exact Nat.le_add_right _ _) EL.out EH.out own b3
      have Y2 := Lib.hid y2; have Y3 := Lib.hid y3; have Y4 := Lib.hid y4
      clear y2 y3 y4 own b3 ec ef EL EH HKX
      go_wp2
      (try simp only [Exit.inBlock, Exit.then])
      refine bodyPost_ret (results_cell_row_tmp rfl _ _ (w.heap.size + 1 + 1 + 1) _ _ (0, 0) _ rfl Y2.out Tryz.underlying64 rfl (by kernel_rfl)) rfl ?_
      exact ⟨Y4.out, hs, AR, cR, rfl, Y3.out⟩

set_option maxRecDepth 100000 in
set_option maxHeartbeats 4000000 in
theorem step_bi (r a b i j : Int) (h1 : 1 ≤ r) (h14 : r ≤ 14) (hp : ruP r = 2) (A : Option Addr) (n c : Nat) (P : List (List Int)) (A2 : Option Addr) (n2 c2 : Nat) (Q : List (List Int)) (B : Option Addr) (m d : Nat) (F : List Int) (w : World) (h : RdQ w w.heap.size A n P) (h2 : RdQ w w.heap.size A2 n2 Q) (hf : RdI w w.heap.size B m F) (hmd : m ≤ d) (hn : n ≤ 100000) (hn2 : n2 ≤ 100000) (ht : Arit w) (hu : Dual w) :
    Calls Tryz.prog 62 #[.agg #[.slice A n c], .agg #[.slice A2 n2 c2], Value.agg #[Value.int .i64 r, Value.int .i64 a, Value.int .i64 b, Value.int .i64 i, Value.int .i64 j, Value.slice B m d]] w (GivesS w (srV r i j F P Q)) := by
  have hl := h.len
  subst hl
  have hl2 := h2.len
  subst hl2
  obtain ⟨u, hu0⟩ : ∃ u, u = (((w.alloc (.cells #[Value.slice A P.length c] 64)).alloc (.cells #[Value.slice A2 Q.length c2] 64)).alloc (.cells #[Value.int .i64 r, Value.int .i64 a, Value.int .i64 b, Value.int .i64 i, Value.int .i64 j, Value.slice B m d] 43)).alloc (.cells #[.slice none 0 0] 64) := ⟨_, rfl⟩
  obtain ⟨hb, p0, p1, p2, p3⟩ := four_boxes w (.cells #[Value.slice A P.length c] 64) (.cells #[Value.slice A2 Q.length c2] 64) (.cells #[Value.int .i64 r, Value.int .i64 a, Value.int .i64 b, Value.int .i64 i, Value.int .i64 j, Value.slice B m d] 43) (.cells #[.slice none 0 0] 64)
  rw [← hu0] at hb p0 p1 p2 p3
  have hlt0 : w.heap.size + 1 + 1 + 1 < u.heap.size := (Array.getElem?_eq_some_iff.1 p3).1
  have HKX : Hid (∀ wx, Below u.heap.size u wx → wx.cell? ⟨w.heap.size, 0, none⟩ = some (.slice A P.length c) ∧ wx.cell? ⟨w.heap.size + 1, 0, none⟩ = some (.slice A2 Q.length c2) ∧ wx.cell? ⟨w.heap.size + 1 + 1, 0, none⟩ = some (.int .i64 r) ∧ wx.cell? ⟨w.heap.size + 1 + 1, 1, none⟩ = some (.int .i64 a) ∧ wx.cell? ⟨w.heap.size + 1 + 1, 2, none⟩ = some (.int .i64 b) ∧ wx.cell? ⟨w.heap.size + 1 + 1, 3, none⟩ = some (.int .i64 i) ∧ wx.cell? ⟨w.heap.size + 1 + 1, 4, none⟩ = some (.int .i64 j) ∧ wx.cell? ⟨w.heap.size + 1 + 1, 5, none⟩ = some (.slice B m d) ∧ wx.cell? ⟨w.heap.size + 1 + 1 + 1, 0, none⟩ = some (.slice none 0 0) ∧ wx.frozen? ⟨w.heap.size + 1 + 1 + 1, 0, none⟩ = false ∧ w.heap.size + 1 + 1 + 1 < wx.heap.size ∧ wx.heap[w.heap.size + 1 + 1 + 1]? = some (.cells #[.slice none 0 0] 64 (0, 0))) := Lib.hid fun wx hx => by
    have g : ∀ k o, u.heap[k]? = some o → wx.heap[k]? = some o := fun k o h => (hx.block k (Array.getElem?_eq_some_iff.1 h).1).trans h
    exact ⟨cell_of_row _ _ 0 _ _ (0, 0) (g _ _ p0), cell_of_row _ _ 0 _ _ (0, 0) (g _ _ p1), cell_of_row _ _ 0 _ _ (0, 0) (g _ _ p2), cell_of_row _ _ 1 _ _ (0, 0) (g _ _ p2), cell_of_row _ _ 2 _ _ (0, 0) (g _ _ p2), cell_of_row _ _ 3 _ _ (0, 0) (g _ _ p2), cell_of_row _ _ 4 _ _ (0, 0) (g _ _ p2), cell_of_row _ _ 5 _ _ (0, 0) (g _ _ p2), cell_of_row _ _ 0 _ _ (0, 0) (g _ _ p3), frozen_of_row wx _ 0 _ _ (g _ _ p3), Nat.lt_of_lt_of_le hlt0 hx.size, g _ _ p3⟩
  have HU0 := Lib.hid hu0; have HBU := Lib.hid hb
  have HT := Lib.hid (fun (wx : World) (hx : Below u.heap.size u wx) => ht.below (hb.trans (hx.mono hb.size)) ht.lt)
  have HRO := fun (wx : World) => ruleOf_any wx r h1 h14
  have hasI := as_initial r h1 h14 (.agg #[Value.bool (ruI r), Value.bool (ruJ r), Value.bool (ruF r)])
  have hasU := as_unary r h1 h14 (.agg #[Value.bool (ruI r), Value.bool (ruJ r), Value.bool (ruF r)])
  have hasB := as_binary r h1 h14 (.agg #[Value.bool (ruI r), Value.bool (ruJ r), Value.bool (ruF r)])
  rw [hp] at hasI hasU hasB
  simp only [reduceIte, Int.reduceEq] at hasI hasU hasB
  have HIC := Lib.hid (fun (wx : World) (hx : Below u.heap.size u wx) => inputCode_any r a b i j h1 h14 B m d F A P.length c P A2 Q.length c2 Q wx ((hf.below (hb.trans (hx.mono hb.size))).more (Nat.le_trans hb.size hx.size)) hmd ((h.below (hb.trans (hx.mono hb.size))).more (Nat.le_trans hb.size hx.size)) ((h2.below (hb.trans (hx.mono hb.size))).more (Nat.le_trans hb.size hx.size)) (by omega) (by omega) (HT.out wx hx))
  have hm := m_combine r h1 h14 hp
  have hcf := cf_combine r h1 h14 hp
  have HS : srV r i j F P Q = if inpV r i j F P Q = true then fin (biR r i j P Q) else none := by unfold srV; rw [hp]; rfl
  rw [HS]
  clear HS
  have HX : Hid (∀ R, biR r i j P Q = some R → R.length ≤ maxLen) := Lib.hid fun R hR => by have := biR_len hR; unfold maxLen; omega
  have HCO0 : Hid (inpV r i j F P Q = true → ∀ (wx : World), Below u.heap.size u wx → Calls Tryz.prog (coF r) #[.agg #[Value.bool (ruI r), Value.bool (ruJ r), Value.bool (ruF r)], .slice A P.length c, .slice A2 Q.length c2, Value.agg #[Value.int .i64 r, Value.int .i64 a, Value.int .i64 b, Value.int .i64 i, Value.int .i64 j, Value.slice B m d]] wx (GivesD wx (biR r i j P Q))) := Lib.hid fun hv wx hx => combine_any r a b i j h1 h14 hp A P.length c P A2 Q.length c2 Q B m d F wx ((h.below (hb.trans (hx.mono hb.size))).more (Nat.le_trans hb.size hx.size)) ((h2.below (hb.trans (hx.mono hb.size))).more (Nat.le_trans hb.size hx.size)) hv (HT.out wx hx) (hu.below (hb.trans (hx.mono hb.size)) hu.lt)
  have HTT := Lib.hid (fun (wx : World) (hx : Below u.heap.size u wx) => HT.out wx hx)
  generalize inpV r i j F P Q = V at *
  generalize ruT r = T at *; generalize ruI r = x at *; generalize ruJ r = y at *; generalize ruF r = z at *
  generalize coF r = gF at *
  generalize biR r i j P Q = X at *
  obtain ⟨O, hO⟩ : ∃ O, fin X = O := ⟨_, rfl⟩
  rw [hO]
  obtain ⟨ea, eb, e0, e1, e2, e3, e4, e5, ec, ef, el, eh⟩ := HKX.out u (Below.refl _ _)
  clear hu0 hb p0 p1 p2 p3 h h2 hf ht hu HT hlt0 el eh ec ef
  cases V with
  | false =>
    rw [if_neg (by decide)]
    go_enter Tryz.func62, Tryz.ntmps62
    go_upto_region 1 with (fail)
    rw [← HU0.out]
    go_wp2_with (fail)
    refine (HRO u).mono ?_
    rintro e w0 ⟨rfl, rfl⟩
    go_wp2_with (fail)
    refine (HIC.out u (Below.refl _ _)).mono ?_
    rintro e w1 ⟨k1, rfl, hk0, hk1, b1⟩
    have HB1 := Lib.hid b1
    clear b1 ea eb e0 e1 e2 e3 e4 e5
    obtain ⟨ea, eb, e0, e1, e2, e3, e4, e5, ec, ef, el, eh⟩ := HKX.out w1 HB1.out
    have EH := Lib.hid eh; clear eh
    have hk : (k1 != 0) = true := by simpa using hk1 rfl
    have HK := Lib.hid (hk1 rfl)
    clear hk0 hk1
    have HC := Lib.hid (cell_set (u := .slice none 0 0) EH.out)
    have HBC := Lib.hid ((HBU.out.trans (HB1.out.mono HBU.out.size)).setCell (p := ⟨w.heap.size + 1 + 1 + 1, 0, none⟩) (by simp only [Nat.add_assoc]; exact Nat.le_add_right _ _) (.slice none 0 0))
    go_wp2
    (try simp only [Exit.inBlock, Exit.then])
    refine bodyPost_ret (results_cell_row_tmp rfl _ _ (w.heap.size + 1 + 1 + 1) _ _ (0, 0) _ rfl HC.out Tryz.underlying64 rfl (by kernel_rfl)) rfl ?_
    exact ⟨HBC.out, k1, HK.out, rfl⟩
  | true =>
    rw [if_pos rfl]
    have HCO := Lib.hid (HCO0.out rfl)
    clear HCO0
    go_enter Tryz.func62, Tryz.ntmps62
    go_upto_region 1 with (fail)
    rw [← HU0.out]
    go_wp2_with (fail)
    refine (HRO u).mono ?_
    rintro e w0 ⟨rfl, rfl⟩
    go_wp2_with (fail)
    refine (HIC.out u (Below.refl _ _)).mono ?_
    rintro e w1 ⟨k1, rfl, hk0, hk1, b1⟩
    have HB1 := Lib.hid b1
    clear b1 ea eb e0 e1 e2 e3 e4 e5
    obtain ⟨ea, eb, e0, e1, e2, e3, e4, e5, ec, ef, el, eh⟩ := HKX.out w1 HB1.out
    have EH := Lib.hid eh; clear eh
    have hkz : k1 = 0 := hk0 rfl
    subst hkz
    clear hk0 hk1
    go_wp2_with (fail)
    refine (HCO.out w1 HB1.out).mono ?_
    rintro e w2 hD
    obtain ⟨v2, k2, rfl, b2, cc⟩ := after_D hD HX.out (HTT.out w2 (HB1.out.trans ((hD.1).mono HB1.out.size)))
    rw [hO] at cc
    clear hD
    have HB2 := Lib.hid (HB1.out.trans (b2.mono HB1.out.size))
    have HCC := Lib.hid cc
    clear b2 cc ea eb e0 e1 e2 e3 e4 e5 ec ef el EH
    obtain ⟨-, -, -, -, -, -, -, -, ec, ef, el, eh⟩ := HKX.out w2 HB2.out
    have EH := Lib.hid eh; have EL := Lib.hid el; clear eh el
    go_wp2_with (fail)
    refine HCC.out.mono ?_
    rintro e w3 ⟨b3, hr⟩
    clear HCC HCO HIC HRO
    cases O with
    | none =>
      obtain ⟨k3, hk3, rfl⟩ := hr
      have HB3 := Lib.hid (HB2.out.trans (b3.mono HB2.out.size))
      clear b3 ec ef
      obtain ⟨-, -, -, -, -, -, -, -, ec, ef, el, eh⟩ := HKX.out w3 HB3.out
      have HC := Lib.hid (cell_set (u := .slice none 0 0) eh)
      have HBC := Lib.hid ((HBU.out.trans (HB3.out.mono HBU.out.size)).setCell (p := ⟨w.heap.size + 1 + 1 + 1, 0, none⟩) (by simp only [Nat.add_assoc]; exact Nat.le_add_right _ _) (.slice none 0 0))
      clear el eh EH EL HKX
      go_wp2
      (try simp only [Exit.inBlock, Exit.then])
      refine bodyPost_ret (results_cell_row_tmp rfl _ _ (w.heap.size + 1 + 1 + 1) _ _ (0, 0) _ rfl HC.out Tryz.underlying64 rfl (by kernel_rfl)) rfl ?_
      exact ⟨HBC.out, k3, hk3, rfl⟩
    | some R =>
      obtain ⟨hs, AR, cR, rfl, own⟩ := hr
      obtain ⟨y0, y1, y2, y3, y4⟩ := seq_out (HBU.out.trans (HB2.out.mono HBU.out.size)) (by simp only [Nat.add_assoc]; exact Nat.le_add_right _ _) EL.out EH.out own b3
      have Y2 := Lib.hid y2; have Y3 := Lib.hid y3; have Y4 := Lib.hid y4
      clear y2 y3 y4 own b3 ec ef EL EH HKX
      go_wp2
      (try simp only [Exit.inBlock, Exit.then])
      refine bodyPost_ret (results_cell_row_tmp rfl _ _ (w.heap.size + 1 + 1 + 1) _ _ (0, 0) _ rfl Y2.out Tryz.underlying64 rfl (by kernel_rfl)) rfl ?_
      exact ⟨Y4.out, hs, AR, cR, rfl, Y3.out⟩

set_option maxRecDepth 100000 in
set_option maxHeartbeats 4000000 in
theorem step_be (r a b i j : Int) (h1 : 1 ≤ r) (h14 : r ≤ 14) (hp : ruP r = 0) (A : Option Addr) (n c : Nat) (P : List (List Int)) (A2 : Option Addr) (n2 c2 : Nat) (Q : List (List Int)) (B : Option Addr) (m d : Nat) (F : List Int) (w : World) (h : RdQ w w.heap.size A n P) (h2 : RdQ w w.heap.size A2 n2 Q) (hf : RdI w w.heap.size B m F) (hmd : m ≤ d) (hn : n ≤ 100000) (hn2 : n2 ≤ 100000) (ht : Arit w) (hu : Dual w) :
    Calls Tryz.prog 62 #[.agg #[.slice A n c], .agg #[.slice A2 n2 c2], Value.agg #[Value.int .i64 r, Value.int .i64 a, Value.int .i64 b, Value.int .i64 i, Value.int .i64 j, Value.slice B m d]] w (GivesS w (srV r i j F P Q)) := by
  have hl := h.len
  subst hl
  have hl2 := h2.len
  subst hl2
  obtain ⟨u, hu0⟩ : ∃ u, u = (((w.alloc (.cells #[Value.slice A P.length c] 64)).alloc (.cells #[Value.slice A2 Q.length c2] 64)).alloc (.cells #[Value.int .i64 r, Value.int .i64 a, Value.int .i64 b, Value.int .i64 i, Value.int .i64 j, Value.slice B m d] 43)).alloc (.cells #[.slice none 0 0] 64) := ⟨_, rfl⟩
  obtain ⟨hb, p0, p1, p2, p3⟩ := four_boxes w (.cells #[Value.slice A P.length c] 64) (.cells #[Value.slice A2 Q.length c2] 64) (.cells #[Value.int .i64 r, Value.int .i64 a, Value.int .i64 b, Value.int .i64 i, Value.int .i64 j, Value.slice B m d] 43) (.cells #[.slice none 0 0] 64)
  rw [← hu0] at hb p0 p1 p2 p3
  have hlt0 : w.heap.size + 1 + 1 + 1 < u.heap.size := (Array.getElem?_eq_some_iff.1 p3).1
  have HKX : Hid (∀ wx, Below u.heap.size u wx → wx.cell? ⟨w.heap.size, 0, none⟩ = some (.slice A P.length c) ∧ wx.cell? ⟨w.heap.size + 1, 0, none⟩ = some (.slice A2 Q.length c2) ∧ wx.cell? ⟨w.heap.size + 1 + 1, 0, none⟩ = some (.int .i64 r) ∧ wx.cell? ⟨w.heap.size + 1 + 1, 1, none⟩ = some (.int .i64 a) ∧ wx.cell? ⟨w.heap.size + 1 + 1, 2, none⟩ = some (.int .i64 b) ∧ wx.cell? ⟨w.heap.size + 1 + 1, 3, none⟩ = some (.int .i64 i) ∧ wx.cell? ⟨w.heap.size + 1 + 1, 4, none⟩ = some (.int .i64 j) ∧ wx.cell? ⟨w.heap.size + 1 + 1, 5, none⟩ = some (.slice B m d) ∧ wx.cell? ⟨w.heap.size + 1 + 1 + 1, 0, none⟩ = some (.slice none 0 0) ∧ wx.frozen? ⟨w.heap.size + 1 + 1 + 1, 0, none⟩ = false ∧ w.heap.size + 1 + 1 + 1 < wx.heap.size ∧ wx.heap[w.heap.size + 1 + 1 + 1]? = some (.cells #[.slice none 0 0] 64 (0, 0))) := Lib.hid fun wx hx => by
    have g : ∀ k o, u.heap[k]? = some o → wx.heap[k]? = some o := fun k o h => (hx.block k (Array.getElem?_eq_some_iff.1 h).1).trans h
    exact ⟨cell_of_row _ _ 0 _ _ (0, 0) (g _ _ p0), cell_of_row _ _ 0 _ _ (0, 0) (g _ _ p1), cell_of_row _ _ 0 _ _ (0, 0) (g _ _ p2), cell_of_row _ _ 1 _ _ (0, 0) (g _ _ p2), cell_of_row _ _ 2 _ _ (0, 0) (g _ _ p2), cell_of_row _ _ 3 _ _ (0, 0) (g _ _ p2), cell_of_row _ _ 4 _ _ (0, 0) (g _ _ p2), cell_of_row _ _ 5 _ _ (0, 0) (g _ _ p2), cell_of_row _ _ 0 _ _ (0, 0) (g _ _ p3), frozen_of_row wx _ 0 _ _ (g _ _ p3), Nat.lt_of_lt_of_le hlt0 hx.size, g _ _ p3⟩
  have HU0 := Lib.hid hu0; have HBU := Lib.hid hb
  have HT := Lib.hid (fun (wx : World) (hx : Below u.heap.size u wx) => ht.below (hb.trans (hx.mono hb.size)) ht.lt)
  have HRO := fun (wx : World) => ruleOf_any wx r h1 h14
  have hasI := as_initial r h1 h14 (.agg #[Value.bool (ruI r), Value.bool (ruJ r), Value.bool (ruF r)])
  have hasU := as_unary r h1 h14 (.agg #[Value.bool (ruI r), Value.bool (ruJ r), Value.bool (ruF r)])
  have hasB := as_binary r h1 h14 (.agg #[Value.bool (ruI r), Value.bool (ruJ r), Value.bool (ruF r)])
  rw [hp] at hasI hasU hasB
  simp only [reduceIte, Int.reduceEq] at hasI hasU hasB
  have HIC := Lib.hid (fun (wx : World) (hx : Below u.heap.size u wx) => inputCode_any r a b i j h1 h14 B m d F none 0 0 [] none 0 0 [] wx ((hf.below (hb.trans (hx.mono hb.size))).more (Nat.le_trans hb.size hx.size)) hmd (RdQ.nil _ _ _) (RdQ.nil _ _ _) (by omega) (by omega) (HT.out wx hx))
  have hm := m_begin r h1 h14 hp
  have hcf := cf_begin r h1 h14 hp
  have HS : srV r i j F P Q = if inpV r i j F [] [] = true then fin (some (beR r F)) else none := by unfold srV; rw [hp]; rfl
  rw [HS]
  clear HS
  have HX : Hid ((beR r F).length ≤ maxLen) := Lib.hid (by have := beR_len r F; unfold maxLen; omega)
  have HCO0 : Hid (inpV r i j F [] [] = true → ∀ (wx : World), Below u.heap.size u wx → Calls Tryz.prog (beF r) #[.agg #[Value.bool (ruI r), Value.bool (ruJ r), Value.bool (ruF r)], Value.agg #[Value.int .i64 r, Value.int .i64 a, Value.int .i64 b, Value.int .i64 i, Value.int .i64 j, Value.slice B m d]] wx (GivesV wx (beR r F))) := Lib.hid fun _ wx hx => begin_any r a b i j h1 h14 hp B m d F wx ((hf.below (hb.trans (hx.mono hb.size))).more (Nat.le_trans hb.size hx.size)) hmd (HT.out wx hx) (hu.below (hb.trans (hx.mono hb.size)) hu.lt)
  have HTT := Lib.hid (fun (wx : World) (hx : Below u.heap.size u wx) => HT.out wx hx)
  generalize inpV r i j F [] [] = V at *
  generalize ruT r = T at *; generalize ruI r = x at *; generalize ruJ r = y at *; generalize ruF r = z at *
  generalize beF r = gF at *
  generalize beR r F = X at *
  obtain ⟨O, hO⟩ : ∃ O, fin (some X) = O := ⟨_, rfl⟩
  rw [hO]
  obtain ⟨ea, eb, e0, e1, e2, e3, e4, e5, ec, ef, el, eh⟩ := HKX.out u (Below.refl _ _)
  clear hu0 hb p0 p1 p2 p3 h h2 hf ht hu HT hlt0 el eh ec ef
  cases V with
  | false =>
    rw [if_neg (by decide)]
    go_enter Tryz.func62, Tryz.ntmps62
    go_upto_region 1 with (fail)
    rw [← HU0.out]
    go_wp2_with (fail)
    refine (HRO u).mono ?_
    rintro e w0 ⟨rfl, rfl⟩
    go_wp2_with (fail)
    refine (HIC.out u (Below.refl _ _)).mono ?_
    rintro e w1 ⟨k1, rfl, hk0, hk1, b1⟩
    have HB1 := Lib.hid b1
    clear b1 ea eb e0 e1 e2 e3 e4 e5
    obtain ⟨ea, eb, e0, e1, e2, e3, e4, e5, ec, ef, el, eh⟩ := HKX.out w1 HB1.out
    have EH := Lib.hid eh; clear eh
    have hk : (k1 != 0) = true := by simpa using hk1 rfl
    have HK := Lib.hid (hk1 rfl)
    clear hk0 hk1
    have HC := Lib.hid (cell_set (u := .slice none 0 0) EH.out)
    have HBC := Lib.hid ((HBU.out.trans (HB1.out.mono HBU.out.size)).setCell (p := ⟨w.heap.size + 1 + 1 + 1, 0, none⟩) (by simp only [Nat.add_assoc]; exact Nat.le_add_right _ _) (.slice none 0 0))
    go_wp2
    (try simp only [Exit.inBlock, Exit.then])
    refine bodyPost_ret (results_cell_row_tmp rfl _ _ (w.heap.size + 1 + 1 + 1) _ _ (0, 0) _ rfl HC.out Tryz.underlying64 rfl (by kernel_rfl)) rfl ?_
    exact ⟨HBC.out, k1, HK.out, rfl⟩
  | true =>
    rw [if_pos rfl]
    have HCO := Lib.hid (HCO0.out rfl)
    clear HCO0
    go_enter Tryz.func62, Tryz.ntmps62
    go_upto_region 1 with (fail)
    rw [← HU0.out]
    go_wp2_with (fail)
    refine (HRO u).mono ?_
    rintro e w0 ⟨rfl, rfl⟩
    go_wp2_with (fail)
    refine (HIC.out u (Below.refl _ _)).mono ?_
    rintro e w1 ⟨k1, rfl, hk0, hk1, b1⟩
    have HB1 := Lib.hid b1
    clear b1 ea eb e0 e1 e2 e3 e4 e5
    obtain ⟨ea, eb, e0, e1, e2, e3, e4, e5, ec, ef, el, eh⟩ := HKX.out w1 HB1.out
    have EH := Lib.hid eh; clear eh
    have hkz : k1 = 0 := hk0 rfl
    subst hkz
    clear hk0 hk1
    go_wp2_with (fail)
    refine (HCO.out w1 HB1.out).mono ?_
    rintro e w2 hD
    obtain ⟨v2, rfl, b2, cc⟩ := after_V hD HX.out (HTT.out w2 (HB1.out.trans ((after_b hD).mono HB1.out.size)))
    rw [hO] at cc
    clear hD
    have HB2 := Lib.hid (HB1.out.trans (b2.mono HB1.out.size))
    have HCC := Lib.hid cc
    clear b2 cc ea eb e0 e1 e2 e3 e4 e5 ec ef el EH
    obtain ⟨-, -, -, -, -, -, -, -, ec, ef, el, eh⟩ := HKX.out w2 HB2.out
    have EH := Lib.hid eh; have EL := Lib.hid el; clear eh el
    go_wp2_with (fail)
    refine HCC.out.mono ?_
    rintro e w3 ⟨b3, hr⟩
    clear HCC HCO HIC HRO
    cases O with
    | none =>
      obtain ⟨k3, hk3, rfl⟩ := hr
      have HB3 := Lib.hid (HB2.out.trans (b3.mono HB2.out.size))
      clear b3 ec ef
      obtain ⟨-, -, -, -, -, -, -, -, ec, ef, el, eh⟩ := HKX.out w3 HB3.out
      have HC := Lib.hid (cell_set (u := .slice none 0 0) eh)
      have HBC := Lib.hid ((HBU.out.trans (HB3.out.mono HBU.out.size)).setCell (p := ⟨w.heap.size + 1 + 1 + 1, 0, none⟩) (by simp only [Nat.add_assoc]; exact Nat.le_add_right _ _) (.slice none 0 0))
      clear el eh EH EL HKX
      go_wp2
      (try simp only [Exit.inBlock, Exit.then])
      refine bodyPost_ret (results_cell_row_tmp rfl _ _ (w.heap.size + 1 + 1 + 1) _ _ (0, 0) _ rfl HC.out Tryz.underlying64 rfl (by kernel_rfl)) rfl ?_
      exact ⟨HBC.out, k3, hk3, rfl⟩
    | some R =>
      obtain ⟨hs, AR, cR, rfl, own⟩ := hr
      obtain ⟨y0, y1, y2, y3, y4⟩ := seq_out (HBU.out.trans (HB2.out.mono HBU.out.size)) (by simp only [Nat.add_assoc]; exact Nat.le_add_right _ _) EL.out EH.out own b3
      have Y2 := Lib.hid y2; have Y3 := Lib.hid y3; have Y4 := Lib.hid y4
      clear y2 y3 y4 own b3 ec ef EL EH HKX
      go_wp2
      (try simp only [Exit.inBlock, Exit.then])
      refine bodyPost_ret (results_cell_row_tmp rfl _ _ (w.heap.size + 1 + 1 + 1) _ _ (0, 0) _ rfl Y2.out Tryz.underlying64 rfl (by kernel_rfl)) rfl ?_
      exact ⟨Y4.out, hs, AR, cR, rfl, Y3.out⟩

theorem stepResult_any (r a b i j : Int) (h1 : 1 ≤ r) (h14 : r ≤ 14) (A : Option Addr) (n c : Nat) (P : List (List Int)) (A2 : Option Addr) (n2 c2 : Nat) (Q : List (List Int)) (B : Option Addr) (m d : Nat) (F : List Int) (w : World) (h : RdQ w w.heap.size A n P) (h2 : RdQ w w.heap.size A2 n2 Q) (hf : RdI w w.heap.size B m F) (hmd : m ≤ d) (hn : n ≤ 100000) (hn2 : n2 ≤ 100000) (ht : Arit w) (hu : Dual w) :
    Calls Tryz.prog 62 #[.agg #[.slice A n c], .agg #[.slice A2 n2 c2], Value.agg #[Value.int .i64 r, Value.int .i64 a, Value.int .i64 b, Value.int .i64 i, Value.int .i64 j, Value.slice B m d]] w (GivesS w (srV r i j F P Q)) := by
  rcases ruP_range r h1 h14 with e | e | e
  · exact step_be r a b i j h1 h14 e A n c P A2 n2 c2 Q B m d F w h h2 hf hmd hn hn2 ht hu
  · exact step_un r a b i j h1 h14 e A n c P A2 n2 c2 Q B m d F w h h2 hf hmd hn hn2 ht hu
  · exact step_bi r a b i j h1 h14 e A n c P A2 n2 c2 Q B m d F w h h2 hf hmd hn hn2 ht hu
end Go.Proofs.YthbkcpacgnmcfaaGreatDoor
