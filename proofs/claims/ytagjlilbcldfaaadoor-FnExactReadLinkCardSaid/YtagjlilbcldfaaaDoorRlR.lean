/- The program's ReadLink, the whole. -/
import Derived.Test.YtagjlilbcldfaaaDoorRlQ
import Derived.Laws.ResultCell
namespace Go.Proofs.YtagjlilbcldfaaaDoor
set_option linter.unusedSimpArgs false
set_option linter.unusedVariables false
open Go.ChangeAt Go.ChangeShapes Go.RowKit Go.WideShapes

theorem results_link {P : Program} {fn : Func} {p u : Tmp} {ty : TypeId} (h : fn.results = #[.cell p ty, .tmp u]) (tmps : Array Value) (w : World) (g : Nat) (t : TypeId) (cs : Array Value) (fr : Nat × Nat) (d : TypeDesc)
    (hp : tmps.getD p undef = .pointer (some ⟨g, 0, none⟩)) (hg : w.heap[g]? = some (.cells cs t fr))
    (hu : P.underlying ty = some d) (hd : (match d with | .struct _ | .array _ _ => true | _ => false) = true) (hi : (P.info? ty).map (·.size) = some cs.size) :
    (results fn tmps).run P w = .ok (.tuple #[.agg cs, tmps.getD u undef]) w := by
  have e : (results fn tmps).run P w = ((asAddr (tmps.getD p undef)).run P w).andThen fun a w₁ => ((loadVar ty a).run P w₁).andThen fun x w₂ => .ok (.tuple #[x, tmps.getD u undef]) w₂ := by
    simp only [results, h]
    simp [Sem.run_bind, Result.andThen]
  have hp' : tmps[p]?.getD undef = .pointer (some ⟨g, 0, none⟩) := by simpa using hp
  rw [e]
  simp [hp', asAddr, run_loadVar_row w g t ty cs fr d hg hu hd hi, Result.andThen]

set_option maxRecDepth 100000 in
set_option maxHeartbeats 4000000 in
theorem readLink_impl (t : ByteArray) (w : World) (hs : t.size ≤ 1048576) (hw : LWords w) (he : Errs w) :
    Calls Tryd.prog 12 #[.string t] w (GivesLk w (rlV t) (rlB t)) := by
  have hb1 : Below w.heap.size w (w.alloc (.cells #[.int .i64 0, .int .i64 0, .int .i64 0, .int .i64 0] 25)) := (Below.refl _ _).alloc (Nat.le_refl _) _
  obtain ⟨w1, hw1⟩ : ∃ u, u = w.alloc (.cells #[.int .i64 0, .int .i64 0, .int .i64 0, .int .i64 0] 25) := ⟨_, rfl⟩
  have p1 : w1.heap[w.heap.size]? = some (.cells #[.int .i64 0, .int .i64 0, .int .i64 0, .int .i64 0] 25 (0, 0)) := by rw [hw1]; exact heap_alloc_new _ _
  have hs1 : w1.heap.size = w.heap.size + 1 := by rw [hw1]; simp
  rw [← hw1] at hb1
  have HB1 := Lib.hid hb1; have P1 := Lib.hid p1
  have HL := Lib.hid (likelyLink_any t w1 hs (hw.below hb1 hw.lt) (he.below hb1 he.lt))
  have HW := Lib.hid hw
  have HRB : Hid (rlB t = (okL (cd t).k (cd t).a (cd t).b (cd t).c && ((ltT (cd t).k (cd t).a (cd t).b (cd t).c).toList == t.toList))) := Lib.hid rfl
  have HRV : Hid (rlV t = if rlB t = true then cd t else Lk.nil) := Lib.hid rfl
  clear hb1 p1 hw he
  generalize cd t = D at *
  obtain ⟨k, a, b, c⟩ := D
  dsimp only at HL HRB
  generalize rlB t = rb at *
  generalize rlV t = rv at *
  have hz : ∀ (u : World), Below w.heap.size w u → rb = false → GivesLk w rv rb (.returned (.tuple #[.agg #[.int .i64 0, .int .i64 0, .int .i64 0, .int .i64 0], .bool false])) u := fun u hu e => by
    have h2 := HRV.out
    rw [e] at h2 ⊢
    rw [h2]
    exact ⟨rfl, hu⟩
  have hy : ∀ (u : World), Below w.heap.size w u → rb = true → GivesLk w rv rb (.returned (.tuple #[.agg #[.int .i64 k, .int .i64 a, .int .i64 b, .int .i64 c], .bool true])) u := fun u hu e => by
    have h2 := HRV.out
    rw [e] at h2 ⊢
    rw [h2]
    exact ⟨rfl, hu⟩
  have HZ := Lib.hid hz; have HY := Lib.hid hy
  clear hz hy
  generalize hX : ltT k a b c = X at *
  have HX := Lib.hid hX
  clear hX HRV
  go_enter Tryd.func12, Tryd.ntmps12
  go_wp2_with (fail)
  rw [← hw1]
  clear hw1
  refine HL.out.mono ?_
  rintro e w2 ⟨rfl, bel2⟩
  have hs2 := bel2.size
  have HB2 := Lib.hid (HB1.out.trans (bel2.mono HB1.out.size))
  have P2 := Lib.hid ((bel2.block w.heap.size (by omega)).trans P1.out)
  clear bel2 HL HB1 P1
  obtain ⟨w3, hw3⟩ : ∃ u, u = w2.alloc (.cells #[.int .i64 k, .int .i64 a, .int .i64 b, .int .i64 c] 25) := ⟨_, rfl⟩
  have b3 : Below w2.heap.size w2 w3 := by rw [hw3]; exact (Below.refl _ _).alloc (Nat.le_refl _) _
  have p3 : w3.heap[w2.heap.size]? = some (.cells #[.int .i64 k, .int .i64 a, .int .i64 b, .int .i64 c] 25 (0, 0)) := by rw [hw3]; exact heap_alloc_new _ _
  have hs3 : w3.heap.size = w2.heap.size + 1 := by rw [hw3]; simp
  have HB3 := Lib.hid (HB2.out.trans (b3.mono HB2.out.size))
  have P3 := Lib.hid ((b3.block w.heap.size (by omega)).trans P2.out)
  have G3 := Lib.hid p3
  have HH := Lib.hid (hasLine_any w3 k a b c)
  clear b3 P2 HB2
  obtain ⟨x0, x1, x2, x3⟩ := cells4 (show (w2.alloc (.cells #[.int .i64 k, .int .i64 a, .int .i64 b, .int .i64 c] 25)).heap[w2.heap.size]? = _ from by rw [← hw3]; exact p3)
  clear p3
  obtain ⟨g, hg⟩ : ∃ g, w2.heap.size = g := ⟨_, rfl⟩
  rw [hg] at x0 x1 x2 x3 G3 hs3
  go_wp2_with (fail)
  (try rw [← hw3])
  clear hw3 x0 x1 x2 x3
  refine HH.out.mono ?_
  rintro e w4 ⟨rfl, bel4⟩
  have hs4 := bel4.size
  have HB4 := Lib.hid (HB3.out.trans (bel4.mono HB3.out.size))
  have P4 := Lib.hid ((bel4.block w.heap.size (by omega)).trans P3.out)
  have G4 := Lib.hid ((bel4.block g (by omega)).trans G3.out)
  clear bel4 HH HB3 P3 G3
  obtain ⟨y0, y1, y2, y3⟩ := cells4 G4.out
  cases ok : okL k a b c with
  | false =>
    obtain ⟨z0, z1, z2, z3⟩ := cells4 P4.out
    have f0 := frozen_of_row _ _ 0 _ _ P4.out; have f1 := frozen_of_row _ _ 1 _ _ P4.out; have f2 := frozen_of_row _ _ 2 _ _ P4.out; have f3 := frozen_of_row _ _ 3 _ _ P4.out
    have H6 := Lib.hid (set4_at P4.out (.int .i64 0) (.int .i64 0) (.int .i64 0) (.int .i64 0))
    have HB6 := Lib.hid (HZ.out _ (set4_below HB4.out (Nat.le_refl _) (.int .i64 0) (.int .i64 0) (.int .i64 0) (.int .i64 0)) (by rw [HRB.out, ok]; rfl))
    go_wp2
    (try simp only [Exit.inBlock, Exit.then])
    refine bodyPost_ret (results_link rfl _ _ w.heap.size _ _ (0, 0) _ rfl H6.out Tryd.underlying25 rfl (by kernel_rfl)) rfl ?_
    exact HB6.out
  | true =>
    have HT := Lib.hid (linkText_impl k a b c w4 (HW.out.below HB4.out HW.out.lt))
    rw [HX.out] at HT
    rw [ok, Bool.true_and] at HRB
    go_wp2_with (fail)
    refine HT.out.mono ?_
    rintro e w5 ⟨rfl, bel5⟩
    have hs5 := bel5.size
    have HB5 := Lib.hid (HB4.out.trans (bel5.mono HB4.out.size))
    have P5 := Lib.hid ((bel5.block w.heap.size (by omega)).trans P4.out)
    have G5 := Lib.hid ((bel5.block g (by omega)).trans G4.out)
    clear bel5 HT HB4 P4 G4 y0 y1 y2 y3
    obtain ⟨y0, y1, y2, y3⟩ := cells4 G5.out
    obtain ⟨z0, z1, z2, z3⟩ := cells4 P5.out
    have f0 := frozen_of_row _ _ 0 _ _ P5.out; have f1 := frozen_of_row _ _ 1 _ _ P5.out; have f2 := frozen_of_row _ _ 2 _ _ P5.out; have f3 := frozen_of_row _ _ 3 _ _ P5.out
    cases hq : (X.toList == t.toList) with
    | false =>
      have H6 := Lib.hid (set4_at P5.out (.int .i64 0) (.int .i64 0) (.int .i64 0) (.int .i64 0))
      have HB6 := Lib.hid (HZ.out _ (set4_below HB5.out (Nat.le_refl _) (.int .i64 0) (.int .i64 0) (.int .i64 0) (.int .i64 0)) (by rw [HRB.out, hq]))
      go_wp2
      (try simp only [Exit.inBlock, Exit.then])
      refine bodyPost_ret (results_link rfl _ _ w.heap.size _ _ (0, 0) _ rfl H6.out Tryd.underlying25 rfl (by kernel_rfl)) rfl ?_
      exact HB6.out
    | true =>
      have H6 := Lib.hid (set4_at P5.out (.int .i64 k) (.int .i64 a) (.int .i64 b) (.int .i64 c))
      have HB6 := Lib.hid (HY.out _ (set4_below HB5.out (Nat.le_refl _) (.int .i64 k) (.int .i64 a) (.int .i64 b) (.int .i64 c)) (by rw [HRB.out, hq]))
      go_wp2
      (try simp only [Exit.inBlock, Exit.then])
      refine bodyPost_ret (results_link rfl _ _ w.heap.size _ _ (0, 0) _ rfl H6.out Tryd.underlying25 rfl (by kernel_rfl)) rfl ?_
      exact HB6.out
end Go.Proofs.YtagjlilbcldfaaaDoor
