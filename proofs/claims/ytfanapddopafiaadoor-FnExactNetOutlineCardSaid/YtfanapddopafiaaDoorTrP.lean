/- The program's TreeText: the texts of the trees above wires, joined. Made by mktrp.py. -/
import Derived.Test.YtfanapddopafiaaDoorLwM
import Derived.Test.YtfanapddopafiaaDoorDecB
import Derived.Test.YtfanapddopafiaaDoorQPgJ
import Derived.Test.YtfanapddopafiaaDoorShelfJ
import Derived.Deep.RegionHeldLaw
import Derived.Deep.DeepCutAuto
namespace Go.Proofs.YtfanapddopafiaaDoor
set_option linter.unusedSimpArgs false
set_option linter.unusedVariables false
open Go.ChangeAt Go.ChangeShapes Go.RowKit Go.WideShapes

theorem info_strX : (Tryd.prog.info? 9).map (fun i => (i.zero, i.size, i.bytes)) = some (some (.string ⟨#[]⟩), 1, 16) := by kernel_rfl
theorem info_parts_strX : ∃ i, Tryd.prog.info? 9 = some i ∧ i.zero = some (.string ⟨#[]⟩) ∧ i.size = 1 ∧ i.bytes = 16 := by
  obtain ⟨i, hi, he⟩ := Option.map_eq_some_iff.1 info_strX
  simp only [Prod.mk.injEq] at he
  exact ⟨i, hi, he.1, he.2.1, he.2.2⟩
/-- How far a row of texts has come. -/
def cpX (T : List ByteArray) (k : Nat) : List Value := (T.take k).map Value.string ++ List.replicate (T.length - k) (.string ⟨#[]⟩)
theorem cpX_zero (T : List ByteArray) : List.replicate T.length (Value.string ⟨#[]⟩) = cpX T 0 := by simp [cpX]
theorem cpX_all (T : List ByteArray) : cpX T T.length = T.map Value.string := by simp [cpX]
theorem cpX_len {T : List ByteArray} {k : Nat} (h : k ≤ T.length) : (cpX T k).length = T.length := by simp [cpX]; omega
theorem cpX_step {T : List ByteArray} {k : Nat} (h : k < T.length) {x : ByteArray} (hx : T[k]? = some x) : (cpX T k).set k (.string x) = cpX T (k + 1) := by
  unfold cpX
  rw [List.set_append_right _ _ (by simp; omega)]
  have e1 : k - ((T.take k).map Value.string).length = 0 := by simp; omega
  rw [e1]
  have e2 : T.length - k = (T.length - (k + 1)) + 1 := by omega
  rw [e2, List.replicate_succ, List.set_cons_zero, List.take_succ_eq_append_getElem h, List.map_append, List.append_assoc]
  have e3 : T[k] = x := by rw [List.getElem?_eq_getElem h] at hx; exact Option.some.inj hx
  rw [e3]
  rfl
theorem madeSX (m : Nat) : (madeCells #[Value.string ⟨#[]⟩] (m * 1)).toList = List.replicate m (Value.string ⟨#[]⟩) := by
  apply List.ext_getElem?
  intro j
  by_cases hj : j < m
  · have : j % 1 = 0 := by omega
    simp [madeCells, hj, this]
  · simp [madeCells, hj]
theorem made_strs (w : World) (n : Nat) (hn : n ≤ 1048576) : (w.alloc (.cells (madeCells #[Value.string ⟨#[]⟩] (n * 1)) 9)).ownsRow w.heap.size 9 1 (.slice (some ⟨w.heap.size, 0, none⟩) n n) n (List.replicate n (.string ⟨#[]⟩)) := by
  have hz : (madeCells #[Value.string ⟨#[]⟩] (n * 1)).size = n * 1 := by simp [madeCells]
  have := own_lit (w := w) (base := w.heap.size) (n := n) (size := 1) (e := 9) (madeCells #[Value.string ⟨#[]⟩] (n * 1)) (Nat.le_refl _) (by unfold maxLen; omega) hz
  rw [madeSX] at this
  exact this
/-- Texts with a sign between them. -/
noncomputable def jnX (sep : ByteArray) (T : List ByteArray) : ByteArray := ⟨(Lib.join (T.map (·.data.toList)) sep.data.toList).toArray⟩
theorem jnX_one (sep t : ByteArray) : jnX sep [t] = t := by
  apply ba_ext
  unfold jnX
  simp [Lib.join_one]
theorem jnX_two (sep a b : ByteArray) : jnX sep [a, b] = a ++ sep ++ b := by
  apply ba_ext
  unfold jnX
  simp [Lib.join_cons, Lib.joinTail]
theorem jnX_small {sep : ByteArray} {T : List ByteArray} (hn : T.length ≤ 2) (hs : sep.size ≤ 10) (hT : ∀ t ∈ T, t.size ≤ 1000) : (Lib.join (T.map (·.data.toList)) sep.data.toList).length ≤ 140737488355328 := by
  have hl : ∀ t : ByteArray, t.data.toList.length = t.size := fun t => by rw [Array.length_toList]; rfl
  match T, hn, hT with
  | [], _, _ => rw [List.map_nil, Lib.join_nil]; exact Nat.zero_le _
  | [a], _, h =>
    have := h a (by simp)
    rw [List.map_cons, List.map_nil, Lib.join_one, hl]; omega
  | [a, b], _, h =>
    have h1 := h a (by simp); have h2 := h b (by simp)
    rw [List.map_cons, Lib.join_cons, List.length_append, hl]
    simp only [Lib.joinTail, List.map_cons, List.map_nil, List.flatten_cons, List.flatten_nil, List.append_nil, List.length_append, hl]
    omega
  | _ :: _ :: _ :: _, h, _ => simp at h

set_option maxRecDepth 100000 in
set_option maxHeartbeats 2000000 in
theorem treesAbove_any (h : NH) (N : Nt) (w : World) (r : RdN w w.heap.size h N) (sep : ByteArray) (A : Option Addr) (n c : Nat) (X : List Int) (hX : RdI w w.heap.size A n X) (hn : n ≤ 2) (hs : sep.size ≤ 10) (hT : ∀ x ∈ X, (trT dcN N x).size ≤ 1000)
    (IH : ∀ x ∈ X, ∀ w, RdN w w.heap.size h N → Calls Tryd.prog 83 #[.agg #[.slice h.A N.w.length h.c, .slice h.L N.l.length h.d, .slice h.C N.c.length h.e], .int .i64 x] w fun e w' => e = .returned (.string (trT dcN N x)) ∧ Below w.heap.size w w') :
    Calls Tryd.prog 47 #[.agg #[.slice h.A N.w.length h.c, .slice h.L N.l.length h.d, .slice h.C N.c.length h.e], .string sep, .slice A n c] w fun e w' => e = .returned (.string (jnX sep (X.map (trT dcN N)))) ∧ Below w.heap.size w w' := by
  have hl := hX.len
  subst hl
  obtain ⟨i0, hi0, hz0, hz1, hz2⟩ := info_parts_strX
  obtain ⟨w0, hw0⟩ : ∃ w0, w0 = w.alloc (.cells #[.slice h.A N.w.length h.c, .slice h.L N.l.length h.d, .slice h.C N.c.length h.e] 31) := ⟨_, rfl⟩
  obtain ⟨hb, hh, hsz⟩ := box3_any w (.slice h.A N.w.length h.c) (.slice h.L N.l.length h.d) (.slice h.C N.c.length h.e) 31
  rw [← hw0] at hb hh hsz
  have HK := Lib.hid (fun (wx : World) (hx : Below w0.heap.size w0 wx) => three_cells ((hx.block w.heap.size (by omega)).trans hh))
  have HR := Lib.hid (fun (wx : World) (hx : Below w0.heap.size w0 wx) => show RdN wx wx.heap.size h N from ((r.below (hb.trans (hx.mono hb.size))).more (Nat.le_trans hb.size hx.size)))
  have HXR := Lib.hid (fun (wx : World) (hx : Below w0.heap.size w0 wx) => show RdI wx wx.heap.size A X.length X from ((hX.below (hb.trans (hx.mono hb.size))).more (Nat.le_trans hb.size hx.size)))
  have HB0 := Lib.hid hb
  have mkn : ∀ wx : World, (Instr.makeSlice 98 (.int .i64 (X.length : Nat)) (.int .i64 (X.length : Nat))).run Tryd.prog wx = .ok (.slice (some ⟨wx.heap.size, 0, none⟩) X.length X.length) (wx.alloc (.cells (madeCells #[Value.string ⟨#[]⟩] (X.length * 1)) 9)) := fun wx => by
    have hr := run_make (P := Tryd.prog) wx 98 9 i0 (.string ⟨#[]⟩) Tryd.underlying98 hi0 hz0 .i64 .i64 X.length X.length (by omega) (Int.le_refl _) (by rw [hz2]; omega) (by omega)
    simp only [Int.toNat_natCast, hz1] at hr
    exact hr
  have hown := made_strs w0 X.length (by omega)
  have hb6 : Below w0.heap.size w0 (w0.alloc (.cells (madeCells #[Value.string ⟨#[]⟩] (X.length * 1)) 9)) := (Below.refl _ _).alloc (Nat.le_refl _) _
  obtain ⟨C6, hC6⟩ : ∃ C, madeCells #[Value.string ⟨#[]⟩] (X.length * 1) = C := ⟨_, rfl⟩
  rw [hC6] at mkn hown hb6
  obtain ⟨w6, hw6⟩ : ∃ u, u = w0.alloc (.cells C6 9) := ⟨_, rfl⟩
  have HW6 := Lib.hid hw6
  rw [← hw6] at hown hb6
  obtain ⟨g, hg⟩ : ∃ g, w0.heap.size = g := ⟨_, rfl⟩
  rw [hg] at hown
  have HG5 := Lib.hid hg
  have hlT : (X.map (trT dcN N)).length = X.length := by simp
  have hcp := cpX_zero (X.map (trT dcN N))
  rw [hlT] at hcp
  rw [hcp] at hown
  have HTX : Hid (∀ k, k < X.length → (X.map (trT dcN N))[k]? = some (trT dcN N (X.getD k 0))) := Lib.hid (fun k hk => by simp [List.getD, hk])
  have HJL := Lib.hid (jnX_small (sep := sep) (T := X.map (trT dcN N)) (by simpa using hn) hs (fun t ht => by
    obtain ⟨x, hx, rfl⟩ := List.mem_map.1 ht
    exact hT x hx))
  have HJE : Hid (jnX sep (X.map (trT dcN N)) = ⟨(Lib.join ((X.map (trT dcN N)).map (·.data.toList)) sep.data.toList).toArray⟩) := Lib.hid rfl
  have HIH := Lib.hid IH
  obtain ⟨T, hTT⟩ : ∃ T, X.map (trT dcN N) = T := ⟨_, rfl⟩
  rw [hTT] at hown HTX HJL HJE hlT
  rw [hTT]
  have OW6 := Lib.hid hown
  have B6 := Lib.hid hb6
  have HLT := Lib.hid hlT
  clear hb hh hsz r hX hi0 hz0 hz1 hz2 hC6 hw6 hown hb6 hg hcp hTT hlT IH hT
  go_enter Tryd.func47, Tryd.ntmps47
  go_upto_region 1 with (fail)
  rw [← hw0]
  clear hw0
  go_upto_region 2 with (fail)
  rw [HG5.out, ← HW6.out]
  clear mkn
  go_wp2
  go_loopw [15] (fun i wr => ∃ k : Nat, k ≤ X.length ∧ i = .int .i64 k ∧ wr.ownsRow g 9 1 (.slice (some ⟨g, 0, none⟩) X.length X.length) X.length (cpX T k) ∧ Below w0.heap.size w0 wr) (fun i _ => X.length - (intOf i).toNat)
  case atStart => exact ⟨0, Nat.zero_le _, rfl, OW6.out, B6.out⟩
  case round =>
    obtain ⟨k, hk, rfl, hown, hB⟩ := hrel
    by_cases hlt : k < X.length
    · obtain ⟨b, off, hA, hbb, hcells⟩ := (HXR.out _ hB).2 (by omega)
      have hck := hcells k hlt
      obtain ⟨y0, y1, y2⟩ := HK.out _ hB
      have HTK := Lib.hid (HTX.out k hlt)
      have HC := Lib.hid (HIH.out (X.getD k 0) (getL_mem hlt) _ (HR.out _ hB))
      obtain ⟨x, hx⟩ : ∃ x, X.getD k 0 = x := ⟨_, rfl⟩
      rw [hx] at hck HTK HC
      obtain ⟨t, ht⟩ : ∃ t, trT dcN N x = t := ⟨_, rfl⟩
      rw [ht] at HTK HC
      have HO := Lib.hid hown; have HB := Lib.hid hB
      subst hA
      clear hcells hown hB hx ht
      go_wp2_with (fail)
      refine HC.out.mono ?_
      rintro e w4 ⟨rfl, bel4⟩
      have hown4 := own_below HO.out bel4 (Nat.le_refl _)
      have hst := (hown4.stored k (.string t)).1
      rw [cpX_step (by rw [HLT.out]; exact hlt) HTK.out] at hst
      have hb4 := HB.out.trans (bel4.mono HB.out.size)
      have hbs := hb4.setCell (p := ⟨g, k, none⟩) (by show w0.heap.size ≤ g; rw [HG5.out]; exact Nat.le_refl _) (.string t)
      have hf := hown4.frozenAt k
      have ho := hown4.cellAt k (by omega)
      rw [List.getElem?_eq_getElem (by rw [cpX_len (by rw [HLT.out]; omega), HLT.out]; exact hlt)] at ho
      generalize (cpX T k)[k]'(by rw [cpX_len (by rw [HLT.out]; omega), HLT.out]; exact hlt) = ov at ho
      have HS := Lib.hid hst; have HBS := Lib.hid hbs
      clear hst hbs hown4 hb4 bel4 y0 y1 y2 hck
      go_wp2
      go_roundw
      case rel => exact ⟨k + 1, by omega, by go_num, HS.out, HBS.out⟩
      case measure => simp [intOf]; omega
    · have hkl : k = X.length := by omega
      subst hkl
      rw [← HLT.out, cpX_all, HLT.out] at hown
      have hgg := (hown.lt _ rfl).2
      have HJ := Lib.hid (Any.strings_Join Tryd.joinL Tryd.joinX g 0 X.length T sep wr (fun j x hj => by
        have hj' : j < X.length := by rw [← HLT.out]; exact (List.getElem?_eq_some_iff.1 hj).1
        rw [Nat.zero_add, hown.cellAt j (by omega), List.getElem?_map, hj]
        rfl) hgg (by rw [HLT.out]; omega) (by rw [HLT.out]; omega) HJL.out)
      rw [HLT.out, ← HJE.out] at HJ
      have HBB := Lib.hid (HB0.out.trans (hB.mono HB0.out.size))
      have HSB := Lib.hid hB.size
      clear hown hB
      go_wp2_with (fail)
      refine HJ.out.mono ?_
      rintro e w4 ⟨rfl, bel4⟩
      have HB4 := Lib.hid (HBB.out.trans (bel4.mono HBB.out.size))
      clear bel4
      go_wp2
      go_ret
      exact ⟨rfl, HB4.out⟩
theorem find_at {N : Nt} {x : Int} {k : Nat} (hk : k < N.l.length) (hno : ∀ j, j < k → srcB x (N.l.getD j Lk.nil) = false) (hs : srcB x (N.l.getD k Lk.nil) = true) : N.l.findIdx? (srcB x) = some k :=
  List.findIdx?_eq_some_iff_getElem.2 ⟨hk, by simpa [List.getD, hk] using hs, fun j hj => by
    have := hno j hj
    simpa [List.getD, show j < N.l.length by omega] using this⟩
theorem find_no {N : Nt} {x : Int} (hno : ∀ j, j < N.l.length → srcB x (N.l.getD j Lk.nil) = false) : N.l.findIdx? (srcB x) = none :=
  List.findIdx?_eq_none_iff.2 fun l hl => by
    obtain ⟨j, hj, rfl⟩ := List.getElem_of_mem hl
    have := hno j hj
    simpa [List.getD, hj] using this
theorem trT_some {N : Nt} (hv : valN N = true) (x : Int) : (trT dcN N x).size ≤ 1000 := by
  cases hs : N.l.findIdx? (srcB x) with
  | none => rw [trT_none hs]; exact Nat.zero_le _
  | some k =>
    obtain ⟨hk, hp⟩ := src_find hs
    have hf := link_fits hv hk
    have hx : inW N.w.length x = true := by
      have h1 := srcB_is (x := x) (fitsN_kind hf)
      rw [hp] at h1
      have hm := of_decide_eq_true h1.symm
      obtain ⟨a1, a2, a3, _⟩ := fitsN_yes hf
      exact (List.all_eq_true.1 (outL_in (Nat.le_refl _) a1 a2 a3)) x hm
    have := trT_size hv dcN_len (wlen N x) x (Nat.le_refl _)
    have := (wlen_some hv hx).2
    omega
theorem rd_two {w : World} {g : Nat} {a b : Int} {t : TypeId} (h : w.heap[g]? = some (.cells #[.int .i64 a, .int .i64 b] t (0, 0))) : RdI w w.heap.size (some ⟨g, 0, none⟩) 2 [a, b] := by
  refine ⟨rfl, fun _ => ⟨g, 0, rfl, (Array.getElem?_eq_some_iff.1 h).1, fun j hj => ?_⟩⟩
  have h0 := cell_of_row _ _ 0 _ _ (0, 0) h
  have h1 := cell_of_row _ _ 1 _ _ (0, 0) h
  have : j = 0 ∨ j = 1 := by omega
  rcases this with rfl | rfl
  · exact h0
  · exact h1
theorem rd_one {w : World} {g : Nat} {a : Int} {t : TypeId} (h : w.heap[g]? = some (.cells #[.int .i64 a] t (0, 0))) : RdI w w.heap.size (some ⟨g, 0, none⟩) 1 [a] := by
  refine ⟨rfl, fun _ => ⟨g, 0, rfl, (Array.getElem?_eq_some_iff.1 h).1, fun j hj => ?_⟩⟩
  have h0 := cell_of_row _ _ 0 _ _ (0, 0) h
  obtain rfl : j = 0 := by omega
  exact h0

set_option maxRecDepth 100000 in
set_option maxHeartbeats 2000000 in
theorem treeAbove_step (N : Nt) (hv : valN N = true) (x : Int) (h : NH) (w : World) (r : RdN w w.heap.size h N)
    (IH : ∀ y, inW N.w.length y = true → wlen N y < wlen N x → ∀ (w : World), RdN w w.heap.size h N → Calls Tryd.prog 83 #[.agg #[.slice h.A N.w.length h.c, .slice h.L N.l.length h.d, .slice h.C N.c.length h.e], .int .i64 y] w fun e w' => e = .returned (.string (trT dcN N y)) ∧ Below w.heap.size w w') :
    Calls Tryd.prog 83 #[.agg #[.slice h.A N.w.length h.c, .slice h.L N.l.length h.d, .slice h.C N.c.length h.e], .int .i64 x] w fun e w' => e = .returned (.string (trT dcN N x)) ∧ Below w.heap.size w w' := by
  have h48 := (valN_size hv).2
  obtain ⟨w0, hw0⟩ : ∃ w0, w0 = w.alloc (.cells #[.slice h.A N.w.length h.c, .slice h.L N.l.length h.d, .slice h.C N.c.length h.e] 31) := ⟨_, rfl⟩
  obtain ⟨hb, hh, hsz⟩ := box3_any w (.slice h.A N.w.length h.c) (.slice h.L N.l.length h.d) (.slice h.C N.c.length h.e) 31
  rw [← hw0] at hb hh hsz
  have HK := Lib.hid (fun (wx : World) (hx : Below w0.heap.size w0 wx) => three_cells ((hx.block w.heap.size (by omega)).trans hh))
  have HR := Lib.hid (fun (wx : World) (hx : Below w0.heap.size w0 wx) => show RdN wx wx.heap.size h N from ((r.below (hb.trans (hx.mono hb.size))).more (Nat.le_trans hb.size hx.size)))
  have HB0 := Lib.hid hb
  have HVT := Lib.hid hv; have HIH := Lib.hid IH
  obtain ⟨y0, y1, y2⟩ := HK.out _ (Below.refl _ w0)
  clear hb hh hsz r IH hv
  go_enter Tryd.func83, Tryd.ntmps83
  go_upto_region 1 with (fail)
  rw [← hw0]
  clear hw0
  go_wp2
  clear y0 y1 y2
  go_loopw [11] (fun i wr => ∃ k : Nat, k ≤ N.l.length ∧ i = .int .i64 k ∧ (∀ j, j < k → srcB x (N.l.getD j Lk.nil) = false) ∧ Below w0.heap.size w0 wr) (fun i _ => N.l.length - (intOf i).toNat)
  case atStart => exact ⟨0, Nat.zero_le _, rfl, fun j hj => absurd hj (by omega), Below.refl _ _⟩
  case round =>
    obtain ⟨k, hk, rfl, hno, hB⟩ := hrel
    by_cases hlt : k < N.l.length
    · obtain ⟨b, off, hA, hbb, hcells⟩ := (HR.out _ hB).2.1.at (show 0 < N.l.length by omega)
      obtain ⟨x0, x1, x2, x3⟩ := hcells k hlt
      have hsr := hB.size
      have hfit := link_fits HVT.out hlt
      have hkd := fitsN_kind hfit
      have HNO := Lib.hid hno
      have HNX : Hid (srcB x (N.l.getD k Lk.nil) = false → ∀ j, j < k + 1 → srcB x (N.l.getD j Lk.nil) = false) := Lib.hid (fun e j hj => by by_cases q : j = k; (subst q; exact e); exact HNO.out j (by omega))
      have HFD := Lib.hid (fun e => find_at (x := x) hlt hno e)
      have HLF := Lib.hid (fun e h3 h4 => trT_leaf (dec := dcN) (HFD.out e) h3 h4)
      have HND := Lib.hid (fun e q => trT_node (dec := dcN) HVT.out (HFD.out e) q)
      have HLS := Lib.hid (fun e q => src_less (x := x) hfit e q)
      have HIN := Lib.hid (And.intro (fitsN_yes hfit).1 (fitsN_yes hfit).2.1)
      obtain ⟨⟨lk, la, lb, lc⟩, hl⟩ : ∃ l, N.l.getD k Lk.nil = l := ⟨_, rfl⟩
      rw [hl] at x0 x1 x2 x3 hkd HNX HLF HND HLS HIN
      dsimp only at x0 x1 x2 x3 hkd HLF HND HLS HIN
      obtain ⟨bl, z0, z1, z2, z3, zs⟩ := lnk_any wr ⟨lk, la, lb, lc⟩ 71
      dsimp only at bl z0 z1 z2 z3
      obtain ⟨u1, hu1⟩ : ∃ u1, u1 = wr.alloc (.cells #[.int .i64 lk, .int .i64 la, .int .i64 lb, .int .i64 lc] 71) := ⟨_, rfl⟩
      have p1 : u1.heap[wr.heap.size]? = some (.cells #[.int .i64 lk, .int .i64 la, .int .i64 lb, .int .i64 lc] 71 (0, 0)) := by rw [hu1]; exact heap_alloc_new _ _
      have HU1 := Lib.hid hu1
      rw [← hu1] at bl zs z0 z1 z2 z3
      have BL := Lib.hid (hB.trans (bl.mono hsr))
      have HG1 := Lib.hid (HB0.out.trans (BL.out.mono HB0.out.size))
      obtain ⟨bx, hbx⟩ : ∃ bx, wr.heap.size = bx := ⟨_, rfl⟩
      have HBX := Lib.hid hbx
      rw [hbx] at z0 z1 z2 z3 p1 zs
      have P1 := Lib.hid p1
      have hbs : bx < u1.heap.size := by omega
      have HBS := Lib.hid hbs
      rw [hA]
      clear hcells hB bl hl hno hu1 zs hbx hfit p1 hA hbs
      rcases hkd with hkd | hkd | hkd | hkd
      · subst hkd
        by_cases ha : la = x
        · have da : (la == x) = true := by simpa using ha
          have HE : Hid (trT dcN N x = (⟨#[97]⟩ : ByteArray) ++ dcN k) := Lib.hid (by have := HLF.out (by simp [srcB, ha]) (by decide) (by decide); rw [this]; simp [ha])
          have HDC := Lib.hid (fun wx => itoa_any k (by omega) wx)
          have hd0 := dcN_len k (by omega)
          have q1 : (⟨#[97]⟩ : ByteArray).size = 1 := rfl
          rw [show decN (k : Int) = dcN k from rfl] at HDC
          obtain ⟨D, hD⟩ : ∃ D, dcN k = D := ⟨_, rfl⟩
          rw [hD] at HE HDC hd0
          clear hD
          obtain ⟨U1, hU1⟩ : ∃ U, (⟨#[97]⟩ : ByteArray) ++ D = U := ⟨_, rfl⟩
          have a1 : ∀ w : World, (Op.stringOp .add ⟨#[97]⟩ D).run Tryd.prog w = .ok (.string U1) w := fun w => by rw [← hU1]; exact run_string_add_sum _ _ _ (by omega)
          rw [hU1] at HE
          clear hU1 q1 hd0 ha
          have HOP := Lib.hid (fun wx => linkOperator_any 1 wx)
          rw [show opK 1 = -1 from by decide] at HOP
          go_upto_region 4 with (fail)
          rw [HBX.out, ← HU1.out]
          clear x0 x1 x2 x3
          go_wp2_with (fail)
          refine (HOP.out _).mono ?_
          rintro e w3 ⟨rfl, rfl⟩
          go_wp2_with (fail)
          refine (HDC.out _).mono ?_
          rintro e w4 ⟨rfl, rfl⟩
          go_wp2
          go_ret
          exact ⟨ret_sA HE.out.symm, HG1.out⟩
        · have da : (la == x) = false := by simpa using ha
          by_cases hb : lb = x
          · have db : (lb == x) = true := by simpa using hb
            have HE : Hid (trT dcN N x = (⟨#[98]⟩ : ByteArray) ++ dcN k) := Lib.hid (by have := HLF.out (by simp [srcB, hb, ha]) (by decide) (by decide); rw [this]; simp [hb, ha])
            have HDC := Lib.hid (fun wx => itoa_any k (by omega) wx)
            have hd0 := dcN_len k (by omega)
            have q1 : (⟨#[98]⟩ : ByteArray).size = 1 := rfl
            rw [show decN (k : Int) = dcN k from rfl] at HDC
            obtain ⟨D, hD⟩ : ∃ D, dcN k = D := ⟨_, rfl⟩
            rw [hD] at HE HDC hd0
            clear hD
            obtain ⟨U1, hU1⟩ : ∃ U, (⟨#[98]⟩ : ByteArray) ++ D = U := ⟨_, rfl⟩
            have a1 : ∀ w : World, (Op.stringOp .add ⟨#[98]⟩ D).run Tryd.prog w = .ok (.string U1) w := fun w => by rw [← hU1]; exact run_string_add_sum _ _ _ (by omega)
            rw [hU1] at HE
            clear hU1 q1 hd0 hb
            have HOP := Lib.hid (fun wx => linkOperator_any 1 wx)
            rw [show opK 1 = -1 from by decide] at HOP
            go_upto_region 4 with (fail)
            rw [HBX.out, ← HU1.out]
            clear x0 x1 x2 x3
            go_wp2_with (fail)
            refine (HOP.out _).mono ?_
            rintro e w3 ⟨rfl, rfl⟩
            go_wp2_with (fail)
            refine (HDC.out _).mono ?_
            rintro e w4 ⟨rfl, rfl⟩
            go_wp2
            go_ret
            exact ⟨ret_sA HE.out.symm, HG1.out⟩
          · have db : (lb == x) = false := by simpa using hb
            have HN := Lib.hid (HNX.out (by simp [srcB, ha, hb]))
            have HOP := Lib.hid (fun wx => linkOperator_any 1 wx)
            rw [show opK 1 = -1 from by decide] at HOP
            go_upto_region 4 with (fail)
            rw [HBX.out, ← HU1.out]
            clear x0 x1 x2 x3
            go_wp2_with (fail)
            refine (HOP.out _).mono ?_
            rintro e w3 ⟨rfl, rfl⟩
            go_wp2
            go_roundw
            case rel => exact ⟨k + 1, by omega, by go_num, HN.out, BL.out⟩
            case measure => simp [intOf]; omega
      · subst hkd
        have HN := Lib.hid (HNX.out (by simp [srcB]))
        have HOP := Lib.hid (fun wx => linkOperator_any 2 wx)
        rw [show opK 2 = -1 from by decide] at HOP
        go_upto_region 4 with (fail)
        rw [HBX.out, ← HU1.out]
        clear x0 x1 x2 x3
        go_wp2_with (fail)
        refine (HOP.out _).mono ?_
        rintro e w3 ⟨rfl, rfl⟩
        go_wp2
        go_roundw
        case rel => exact ⟨k + 1, by omega, by go_num, HN.out, BL.out⟩
        case measure => simp [intOf]; omega
      · subst hkd
        by_cases hc : lc = x
        · have hsb : srcB x ⟨3, la, lb, lc⟩ = true := by simp [srcB, hc]
          have hls := HLS.out hsb (by decide)
          have HE : Hid (trT dcN N x = (⟨#[40]⟩ : ByteArray) ++ (trT dcN N la ++ ⟨#[42]⟩ ++ trT dcN N lb) ++ ⟨#[41]⟩) := Lib.hid (by rw [HND.out hsb (by decide)]; simp only [if_true, ByteArray.append_assoc])
          have HSG : Hid (∀ wx : World, Calls Tryd.prog 115 #[.int .i64 11] wx fun e w' => e = .returned (.string ⟨#[42]⟩) ∧ Below wx.heap.size wx w') := Lib.hid fun wx => (signOf_any 11 wx (by decide)).mono fun e w' q => ⟨q.1, by rw [← q.2]; exact Below.refl _ _⟩
          have HTA := Lib.hid (fun (wx : World) (hx : Below w0.heap.size w0 wx) (gx : Nat) (hg : wx.heap[gx]? = some (.cells #[.int .i64 la, .int .i64 lb] 2 (0, 0))) => treesAbove_any h N wx (HR.out wx hx) ⟨#[42]⟩ (some ⟨gx, 0, none⟩) 2 2 [la, lb] (rd_two hg) (Nat.le_refl _) (by decide) (fun y _ => trT_some HVT.out y) (fun y hy w r => by
            have : y = la ∨ y = lb := by simpa using hy
            rcases this with rfl | rfl
            · exact HIH.out _ HIN.out.1 (by omega) w r
            · exact HIH.out _ HIN.out.2 (by omega) w r))
          rw [show ([la, lb].map (trT dcN N)) = [trT dcN N la, trT dcN N lb] from rfl, jnX_two] at HTA
          have sa := trT_some HVT.out la
          have sb := trT_some HVT.out lb
          have q40 : (⟨#[40]⟩ : ByteArray).size = 1 := rfl
          have q41 : (⟨#[41]⟩ : ByteArray).size = 1 := rfl
          have qs : (⟨#[42]⟩ : ByteArray).size = 1 := rfl
          obtain ⟨J, hJ⟩ : ∃ J, trT dcN N la ++ ⟨#[42]⟩ ++ trT dcN N lb = J := ⟨_, rfl⟩
          have sJ : J.size ≤ 2001 := by rw [← hJ, ByteArray.size_append, ByteArray.size_append]; omega
          rw [hJ] at HE HTA
          obtain ⟨U1, hU1⟩ : ∃ U, (⟨#[40]⟩ : ByteArray) ++ J = U := ⟨_, rfl⟩
          obtain ⟨U2, hU2⟩ : ∃ U, U1 ++ (⟨#[41]⟩ : ByteArray) = U := ⟨_, rfl⟩
          have s1 : U1.size ≤ 2002 := by rw [← hU1, ByteArray.size_append]; omega
          have a1 : ∀ w : World, (Op.stringOp .add ⟨#[40]⟩ J).run Tryd.prog w = .ok (.string U1) w := fun w => by rw [← hU1]; exact run_string_add_sum _ _ _ (by omega)
          have a2 : ∀ w : World, (Op.stringOp .add U1 ⟨#[41]⟩).run Tryd.prog w = .ok (.string U2) w := fun w => by rw [← hU2]; exact run_string_add_sum _ _ _ (by omega)
          rw [hU1, hU2] at HE
          have hd : (lc == x) = true := by simpa using hc
          clear hJ hU1 hU2 sJ s1 sa sb q40 q41 qs hls hsb hc
          have HOP := Lib.hid (fun wx => linkOperator_any 3 wx)
          rw [show opK 3 = 11 from by decide] at HOP
          go_upto_region 4 with (fail)
          rw [HBX.out, ← HU1.out]
          clear x0 x1 x2 x3
          go_wp2_with (fail)
          refine (HOP.out _).mono ?_
          rintro e w3 ⟨rfl, rfl⟩
          have HSX : Hid (∀ wx : World, Below u1.heap.size u1 wx → wx.cell? ⟨w.heap.size, 0, none⟩ = some (.slice h.A N.w.length h.c) ∧ wx.cell? ⟨w.heap.size, 1, none⟩ = some (.slice h.L N.l.length h.d) ∧ wx.cell? ⟨w.heap.size, 2, none⟩ = some (.slice h.C N.c.length h.e) ∧ wx.cell? ⟨bx, 1, none⟩ = some (.int .i64 la) ∧ wx.cell? ⟨bx, 2, none⟩ = some (.int .i64 lb)) := Lib.hid fun wx hx => by
            obtain ⟨n0, n1, n2⟩ := HK.out wx (BL.out.trans (hx.mono BL.out.size))
            obtain ⟨m0, m1, m2, m3⟩ := cells4 ((hx.block bx HBS.out).trans P1.out)
            exact ⟨n0, n1, n2, m1, m2⟩
          go_upto_region 10 with (fail)
          clear z0 z1 z2 z3
          have FB_0 := Lib.hid (Below.refl u1.heap.size u1)
          refine wp_region_held_drew (S := fun wx => wx.cell? ⟨w.heap.size, 0, none⟩ = some (.slice h.A N.w.length h.c) ∧ wx.cell? ⟨w.heap.size, 1, none⟩ = some (.slice h.L N.l.length h.d) ∧ wx.cell? ⟨w.heap.size, 2, none⟩ = some (.slice h.C N.c.length h.e) ∧ wx.cell? ⟨bx, 1, none⟩ = some (.int .i64 la) ∧ wx.cell? ⟨bx, 2, none⟩ = some (.int .i64 lb)) (by kernel_rfl) (HSX.out _ (Below.refl _ _).drew) (fun hHeld => ?_)
          obtain ⟨wp31, hwp31⟩ : ∃ w', w' = u1.drew := ⟨_, rfl⟩
          rw [← hwp31] at hHeld ⊢
          have bp31 : Below u1.heap.size u1 wp31 := by rw [hwp31]; exact (Below.refl _ _).drew
          clear hwp31
          have FB_p32 := Lib.hid ((FB_0.out).trans ((bp31).mono (FB_0.out).size))
          clear FB_0
          refine wpAnyH_take (i := 0) (v := ?vp33) rfl (by kernel_rfl) (by kernel_rfl) (by kernel_rfl) (fun _ _ _ h => h) (Or.inl ⟨by rfl, ?yp33⟩) (by assumption) ?_
          case yp33 => (intro w hSw; (try dsimp only at hSw); go_simp; all_goals (with_reducible rfl))
          (try simp only [Act.put, List.setIfInBounds_toArray, List.set_cons_zero, List.set_cons_succ, List.getElem_toArray, List.getElem_cons_succ, List.getElem_cons_zero])
          refine wpAnyH_take (i := 1) (v := ?vp34) rfl (by kernel_rfl) (by kernel_rfl) (by kernel_rfl) (fun _ _ _ h => h) (Or.inl ⟨by rfl, ?yp34⟩) (by assumption) ?_
          case yp34 => (intro w hSw; (try dsimp only at hSw); go_simp; all_goals (with_reducible rfl))
          (try simp only [Act.put, List.setIfInBounds_toArray, List.set_cons_zero, List.set_cons_succ, List.getElem_toArray, List.getElem_cons_succ, List.getElem_cons_zero])
          refine wpAnyH_take (i := 3) (v := ?vp35) rfl (by kernel_rfl) (by kernel_rfl) (by kernel_rfl) (fun _ _ _ h => h) (Or.inl ⟨by rfl, ?yp35⟩) (by assumption) ?_
          case yp35 => (intro w hSw; (try dsimp only at hSw); go_simp; all_goals (with_reducible rfl))
          (try simp only [Act.put, List.setIfInBounds_toArray, List.set_cons_zero, List.set_cons_succ, List.getElem_toArray, List.getElem_cons_succ, List.getElem_cons_zero])
          refine wpAnyH_take (i := 5) (v := ?vp36) rfl (by kernel_rfl) (by kernel_rfl) (by kernel_rfl) (fun _ _ _ h => h) (Or.inl ⟨by rfl, ?yp36⟩) (by assumption) ?_
          case yp36 => (intro w hSw; (try dsimp only at hSw); go_simp; all_goals (with_reducible rfl))
          (try simp only [Act.put, List.setIfInBounds_toArray, List.set_cons_zero, List.set_cons_succ, List.getElem_toArray, List.getElem_cons_succ, List.getElem_cons_zero])
          refine wpAnyH_take (i := 4) (v := ?vp37) rfl (by kernel_rfl) (by kernel_rfl) (by kernel_rfl) (fun _ _ _ h => h) (Or.inl ⟨by rfl, ?yp37⟩) (by assumption) ?_
          case yp37 => (intro w hSw; (try dsimp only at hSw); go_simp; all_goals (with_reducible rfl))
          (try simp only [Act.put, List.setIfInBounds_toArray, List.set_cons_zero, List.set_cons_succ, List.getElem_toArray, List.getElem_cons_succ, List.getElem_cons_zero])
          refine wpAnyH_take (i := 6) (v := ?vp38) rfl (by kernel_rfl) (by kernel_rfl) (by kernel_rfl) (fun _ _ _ h => h) (Or.inl ⟨by rfl, ?yp38⟩) (by assumption) ?_
          case yp38 => (intro w hSw; (try dsimp only at hSw); go_simp; all_goals (with_reducible rfl))
          (try simp only [Act.put, List.setIfInBounds_toArray, List.set_cons_zero, List.set_cons_succ, List.getElem_toArray, List.getElem_cons_succ, List.getElem_cons_zero])
          refine wpAnyH_ready (rs := [2, 7]) (by kernel_rfl) (by simp) ?_
          refine AllReadyH.cons rfl (fun K hK => ?_) ?_
          · go_simp
            refine (HSG.out wp31).mono ?_
            rintro e wp39 ⟨rfl, belp39⟩
            dsimp only
            have FB_p310 := Lib.hid ((FB_p32.out).trans ((belp39).mono (FB_p32.out).size))
            clear FB_p32
            clear belp39
            refine hK.out _ _ (HSX.out _ FB_p310.out) (fun hHeld => ?_)
            clear hK K
            (try simp only [Act.put, List.setIfInBounds_toArray, List.set_cons_zero, List.set_cons_succ, List.getElem_toArray, List.getElem_cons_succ, List.getElem_cons_zero])
            refine wpAnyH_ready (rs := [7]) (by kernel_rfl) (by simp) ?_
            refine AllReadyH.cons rfl (fun K hK => ?_) ?_
            · go_simp
              obtain ⟨wp311, hwp311⟩ : ∃ w', w' = wp39.alloc (.cells #[.int .i64 la, .int .i64 lb] 2) := ⟨_, rfl⟩
              rw [← hwp311]
              have bp311 : Below wp39.heap.size wp39 wp311 := by rw [hwp311]; exact (Below.refl _ _).alloc (Nat.le_refl _) _
              have gp311 : wp311.heap[wp39.heap.size]? = some (.cells #[.int .i64 la, .int .i64 lb] 2 (0, 0)) := by rw [hwp311]; exact heap_alloc_new _ _
              clear hwp311
              have FB_p312 := Lib.hid ((FB_p310.out).trans ((bp311).mono (FB_p310.out).size))
              clear FB_p310
              obtain ⟨gap313, hgp313⟩ : ∃ b, wp39.heap.size = b := ⟨_, rfl⟩
              have GB_p313 := Lib.hid gp311
              rw [hgp313] at GB_p313 ⊢
              clear hgp313 gp311 bp311
              refine hK.out _ _ (HSX.out _ FB_p312.out) (fun hHeld => ?_)
              clear hK K
              (try simp only [Act.put, List.setIfInBounds_toArray, List.set_cons_zero, List.set_cons_succ, List.getElem_toArray, List.getElem_cons_succ, List.getElem_cons_zero])
              refine wpAnyH_ready (rs := [8]) (by kernel_rfl) (by simp) ?_
              refine AllReadyH.cons rfl (fun K hK => ?_) ?_
              · go_simp
                refine (HTA.out wp311 (BL.out.trans (FB_p312.out.mono BL.out.size)) gap313 GB_p313.out).mono ?_
                rintro e wp314 ⟨rfl, belp314⟩
                dsimp only
                have FB_p315 := Lib.hid ((FB_p312.out).trans ((belp314).mono (FB_p312.out).size))
                have GB_p316 := Lib.hid (((belp314).block _ (Array.getElem?_eq_some_iff.1 (GB_p313.out)).1).trans (GB_p313.out))
                clear FB_p312 GB_p313
                clear belp314
                refine hK.out _ _ (HSX.out _ FB_p315.out) (fun hHeld => ?_)
                clear hK K
                (try simp only [Act.put, List.setIfInBounds_toArray, List.set_cons_zero, List.set_cons_succ, List.getElem_toArray, List.getElem_cons_succ, List.getElem_cons_zero])
                refine wpAnyH_take (i := 9) (v := ?vp317) rfl (by kernel_rfl) (by kernel_rfl) (by kernel_rfl) (fun _ _ _ h => h) (Or.inl ⟨by rfl, ?yp317⟩) (by assumption) ?_
                case yp317 => (intro w hSw; (try dsimp only at hSw); go_simp; all_goals (with_reducible rfl))
                (try simp only [Act.put, List.setIfInBounds_toArray, List.set_cons_zero, List.set_cons_succ, List.getElem_toArray, List.getElem_cons_succ, List.getElem_cons_zero])
                refine wpAnyH_take (i := 10) (v := ?vp318) rfl (by kernel_rfl) (by kernel_rfl) (by kernel_rfl) (fun _ _ _ h => h) (Or.inl ⟨by rfl, ?yp318⟩) (by assumption) ?_
                case yp318 => (intro w hSw; (try dsimp only at hSw); go_simp; all_goals (with_reducible rfl))
                (try simp only [Act.put, List.setIfInBounds_toArray, List.set_cons_zero, List.set_cons_succ, List.getElem_toArray, List.getElem_cons_succ, List.getElem_cons_zero])
                refine wpAnyH_ready (rs := [11]) (by kernel_rfl) (by simp) ?_
                refine AllReadyH.cons rfl (fun K hK => ?_) ?_
                · go_simp
                  refine hK.out _ _ hHeld (fun hHeld => ?_)
                  clear hK K
                  (try simp only [Act.put, List.setIfInBounds_toArray, List.set_cons_zero, List.set_cons_succ, List.getElem_toArray, List.getElem_cons_succ, List.getElem_cons_zero])
                  refine wpAnyH_done (by kernel_rfl) ?_ _
                  have HBZ := Lib.hid (HB0.out.trans ((BL.out.trans (FB_p315.out.mono BL.out.size)).mono HB0.out.size))
                  go_wp2
                  go_ret
                  exact ⟨ret_sA HE.out.symm, HBZ.out⟩
                exact AllReadyH.nil
              exact AllReadyH.nil
            exact AllReadyH.nil
          refine AllReadyH.cons rfl (fun K hK => ?_) ?_
          · go_simp
            obtain ⟨wp319, hwp319⟩ : ∃ w', w' = wp31.alloc (.cells #[.int .i64 la, .int .i64 lb] 2) := ⟨_, rfl⟩
            rw [← hwp319]
            have bp319 : Below wp31.heap.size wp31 wp319 := by rw [hwp319]; exact (Below.refl _ _).alloc (Nat.le_refl _) _
            have gp319 : wp319.heap[wp31.heap.size]? = some (.cells #[.int .i64 la, .int .i64 lb] 2 (0, 0)) := by rw [hwp319]; exact heap_alloc_new _ _
            clear hwp319
            have FB_p320 := Lib.hid ((FB_p32.out).trans ((bp319).mono (FB_p32.out).size))
            clear FB_p32
            obtain ⟨gap321, hgp321⟩ : ∃ b, wp31.heap.size = b := ⟨_, rfl⟩
            have GB_p321 := Lib.hid gp319
            rw [hgp321] at GB_p321 ⊢
            clear hgp321 gp319 bp319
            refine hK.out _ _ (HSX.out _ FB_p320.out) (fun hHeld => ?_)
            clear hK K
            (try simp only [Act.put, List.setIfInBounds_toArray, List.set_cons_zero, List.set_cons_succ, List.getElem_toArray, List.getElem_cons_succ, List.getElem_cons_zero])
            refine wpAnyH_ready (rs := [2]) (by kernel_rfl) (by simp) ?_
            refine AllReadyH.cons rfl (fun K hK => ?_) ?_
            · go_simp
              refine (HSG.out wp319).mono ?_
              rintro e wp322 ⟨rfl, belp322⟩
              dsimp only
              have FB_p323 := Lib.hid ((FB_p320.out).trans ((belp322).mono (FB_p320.out).size))
              have GB_p324 := Lib.hid (((belp322).block _ (Array.getElem?_eq_some_iff.1 (GB_p321.out)).1).trans (GB_p321.out))
              clear FB_p320 GB_p321
              clear belp322
              refine hK.out _ _ (HSX.out _ FB_p323.out) (fun hHeld => ?_)
              clear hK K
              (try simp only [Act.put, List.setIfInBounds_toArray, List.set_cons_zero, List.set_cons_succ, List.getElem_toArray, List.getElem_cons_succ, List.getElem_cons_zero])
              refine wpAnyH_ready (rs := [8]) (by kernel_rfl) (by simp) ?_
              refine AllReadyH.cons rfl (fun K hK => ?_) ?_
              · go_simp
                refine (HTA.out wp322 (BL.out.trans (FB_p323.out.mono BL.out.size)) gap321 GB_p324.out).mono ?_
                rintro e wp325 ⟨rfl, belp325⟩
                dsimp only
                have FB_p326 := Lib.hid ((FB_p323.out).trans ((belp325).mono (FB_p323.out).size))
                have GB_p327 := Lib.hid (((belp325).block _ (Array.getElem?_eq_some_iff.1 (GB_p324.out)).1).trans (GB_p324.out))
                clear FB_p323 GB_p324
                clear belp325
                refine hK.out _ _ (HSX.out _ FB_p326.out) (fun hHeld => ?_)
                clear hK K
                (try simp only [Act.put, List.setIfInBounds_toArray, List.set_cons_zero, List.set_cons_succ, List.getElem_toArray, List.getElem_cons_succ, List.getElem_cons_zero])
                refine wpAnyH_take (i := 9) (v := ?vp328) rfl (by kernel_rfl) (by kernel_rfl) (by kernel_rfl) (fun _ _ _ h => h) (Or.inl ⟨by rfl, ?yp328⟩) (by assumption) ?_
                case yp328 => (intro w hSw; (try dsimp only at hSw); go_simp; all_goals (with_reducible rfl))
                (try simp only [Act.put, List.setIfInBounds_toArray, List.set_cons_zero, List.set_cons_succ, List.getElem_toArray, List.getElem_cons_succ, List.getElem_cons_zero])
                refine wpAnyH_take (i := 10) (v := ?vp329) rfl (by kernel_rfl) (by kernel_rfl) (by kernel_rfl) (fun _ _ _ h => h) (Or.inl ⟨by rfl, ?yp329⟩) (by assumption) ?_
                case yp329 => (intro w hSw; (try dsimp only at hSw); go_simp; all_goals (with_reducible rfl))
                (try simp only [Act.put, List.setIfInBounds_toArray, List.set_cons_zero, List.set_cons_succ, List.getElem_toArray, List.getElem_cons_succ, List.getElem_cons_zero])
                refine wpAnyH_ready (rs := [11]) (by kernel_rfl) (by simp) ?_
                refine AllReadyH.cons rfl (fun K hK => ?_) ?_
                · go_simp
                  refine hK.out _ _ hHeld (fun hHeld => ?_)
                  clear hK K
                  (try simp only [Act.put, List.setIfInBounds_toArray, List.set_cons_zero, List.set_cons_succ, List.getElem_toArray, List.getElem_cons_succ, List.getElem_cons_zero])
                  refine wpAnyH_done (by kernel_rfl) ?_ _
                  have HBZ := Lib.hid (HB0.out.trans ((BL.out.trans (FB_p326.out.mono BL.out.size)).mono HB0.out.size))
                  go_wp2
                  go_ret
                  exact ⟨ret_sA HE.out.symm, HBZ.out⟩
                exact AllReadyH.nil
              exact AllReadyH.nil
            exact AllReadyH.nil
          exact AllReadyH.nil
        · have hd : (lc == x) = false := by simpa using hc
          have HN := Lib.hid (HNX.out (by simp [srcB, hc]))
          have HOP := Lib.hid (fun wx => linkOperator_any 3 wx)
          rw [show opK 3 = 11 from by decide] at HOP
          go_upto_region 4 with (fail)
          rw [HBX.out, ← HU1.out]
          clear x0 x1 x2 x3
          go_wp2_with (fail)
          refine (HOP.out _).mono ?_
          rintro e w3 ⟨rfl, rfl⟩
          go_wp2
          go_roundw
          case rel => exact ⟨k + 1, by omega, by go_num, HN.out, BL.out⟩
          case measure => simp [intOf]; omega
      · subst hkd
        by_cases hc : lc = x
        · have hsb : srcB x ⟨4, la, lb, lc⟩ = true := by simp [srcB, hc]
          have hls := HLS.out hsb (by decide)
          have HE : Hid (trT dcN N x = (⟨#[40]⟩ : ByteArray) ++ (trT dcN N la ++ ⟨#[124]⟩ ++ trT dcN N lb) ++ ⟨#[41]⟩) := Lib.hid (by rw [HND.out hsb (by decide)]; simp only [show ¬ ((4 : Int) = 3) from by decide, if_false, ByteArray.append_assoc])
          have HSG : Hid (∀ wx : World, Calls Tryd.prog 115 #[.int .i64 12] wx fun e w' => e = .returned (.string ⟨#[124]⟩) ∧ Below wx.heap.size wx w') := Lib.hid fun wx => (signOf_any 12 wx (by decide)).mono fun e w' q => ⟨q.1, by rw [← q.2]; exact Below.refl _ _⟩
          have HTA := Lib.hid (fun (wx : World) (hx : Below w0.heap.size w0 wx) (gx : Nat) (hg : wx.heap[gx]? = some (.cells #[.int .i64 la, .int .i64 lb] 2 (0, 0))) => treesAbove_any h N wx (HR.out wx hx) ⟨#[124]⟩ (some ⟨gx, 0, none⟩) 2 2 [la, lb] (rd_two hg) (Nat.le_refl _) (by decide) (fun y _ => trT_some HVT.out y) (fun y hy w r => by
            have : y = la ∨ y = lb := by simpa using hy
            rcases this with rfl | rfl
            · exact HIH.out _ HIN.out.1 (by omega) w r
            · exact HIH.out _ HIN.out.2 (by omega) w r))
          rw [show ([la, lb].map (trT dcN N)) = [trT dcN N la, trT dcN N lb] from rfl, jnX_two] at HTA
          have sa := trT_some HVT.out la
          have sb := trT_some HVT.out lb
          have q40 : (⟨#[40]⟩ : ByteArray).size = 1 := rfl
          have q41 : (⟨#[41]⟩ : ByteArray).size = 1 := rfl
          have qs : (⟨#[124]⟩ : ByteArray).size = 1 := rfl
          obtain ⟨J, hJ⟩ : ∃ J, trT dcN N la ++ ⟨#[124]⟩ ++ trT dcN N lb = J := ⟨_, rfl⟩
          have sJ : J.size ≤ 2001 := by rw [← hJ, ByteArray.size_append, ByteArray.size_append]; omega
          rw [hJ] at HE HTA
          obtain ⟨U1, hU1⟩ : ∃ U, (⟨#[40]⟩ : ByteArray) ++ J = U := ⟨_, rfl⟩
          obtain ⟨U2, hU2⟩ : ∃ U, U1 ++ (⟨#[41]⟩ : ByteArray) = U := ⟨_, rfl⟩
          have s1 : U1.size ≤ 2002 := by rw [← hU1, ByteArray.size_append]; omega
          have a1 : ∀ w : World, (Op.stringOp .add ⟨#[40]⟩ J).run Tryd.prog w = .ok (.string U1) w := fun w => by rw [← hU1]; exact run_string_add_sum _ _ _ (by omega)
          have a2 : ∀ w : World, (Op.stringOp .add U1 ⟨#[41]⟩).run Tryd.prog w = .ok (.string U2) w := fun w => by rw [← hU2]; exact run_string_add_sum _ _ _ (by omega)
          rw [hU1, hU2] at HE
          have hd : (lc == x) = true := by simpa using hc
          clear hJ hU1 hU2 sJ s1 sa sb q40 q41 qs hls hsb hc
          have HOP := Lib.hid (fun wx => linkOperator_any 4 wx)
          rw [show opK 4 = 12 from by decide] at HOP
          go_upto_region 4 with (fail)
          rw [HBX.out, ← HU1.out]
          clear x0 x1 x2 x3
          go_wp2_with (fail)
          refine (HOP.out _).mono ?_
          rintro e w3 ⟨rfl, rfl⟩
          have HSX : Hid (∀ wx : World, Below u1.heap.size u1 wx → wx.cell? ⟨w.heap.size, 0, none⟩ = some (.slice h.A N.w.length h.c) ∧ wx.cell? ⟨w.heap.size, 1, none⟩ = some (.slice h.L N.l.length h.d) ∧ wx.cell? ⟨w.heap.size, 2, none⟩ = some (.slice h.C N.c.length h.e) ∧ wx.cell? ⟨bx, 1, none⟩ = some (.int .i64 la) ∧ wx.cell? ⟨bx, 2, none⟩ = some (.int .i64 lb)) := Lib.hid fun wx hx => by
            obtain ⟨n0, n1, n2⟩ := HK.out wx (BL.out.trans (hx.mono BL.out.size))
            obtain ⟨m0, m1, m2, m3⟩ := cells4 ((hx.block bx HBS.out).trans P1.out)
            exact ⟨n0, n1, n2, m1, m2⟩
          go_upto_region 10 with (fail)
          clear z0 z1 z2 z3
          have FB_0 := Lib.hid (Below.refl u1.heap.size u1)
          refine wp_region_held_drew (S := fun wx => wx.cell? ⟨w.heap.size, 0, none⟩ = some (.slice h.A N.w.length h.c) ∧ wx.cell? ⟨w.heap.size, 1, none⟩ = some (.slice h.L N.l.length h.d) ∧ wx.cell? ⟨w.heap.size, 2, none⟩ = some (.slice h.C N.c.length h.e) ∧ wx.cell? ⟨bx, 1, none⟩ = some (.int .i64 la) ∧ wx.cell? ⟨bx, 2, none⟩ = some (.int .i64 lb)) (by kernel_rfl) (HSX.out _ (Below.refl _ _).drew) (fun hHeld => ?_)
          obtain ⟨wp41, hwp41⟩ : ∃ w', w' = u1.drew := ⟨_, rfl⟩
          rw [← hwp41] at hHeld ⊢
          have bp41 : Below u1.heap.size u1 wp41 := by rw [hwp41]; exact (Below.refl _ _).drew
          clear hwp41
          have FB_p42 := Lib.hid ((FB_0.out).trans ((bp41).mono (FB_0.out).size))
          clear FB_0
          refine wpAnyH_take (i := 0) (v := ?vp43) rfl (by kernel_rfl) (by kernel_rfl) (by kernel_rfl) (fun _ _ _ h => h) (Or.inl ⟨by rfl, ?yp43⟩) (by assumption) ?_
          case yp43 => (intro w hSw; (try dsimp only at hSw); go_simp; all_goals (with_reducible rfl))
          (try simp only [Act.put, List.setIfInBounds_toArray, List.set_cons_zero, List.set_cons_succ, List.getElem_toArray, List.getElem_cons_succ, List.getElem_cons_zero])
          refine wpAnyH_take (i := 1) (v := ?vp44) rfl (by kernel_rfl) (by kernel_rfl) (by kernel_rfl) (fun _ _ _ h => h) (Or.inl ⟨by rfl, ?yp44⟩) (by assumption) ?_
          case yp44 => (intro w hSw; (try dsimp only at hSw); go_simp; all_goals (with_reducible rfl))
          (try simp only [Act.put, List.setIfInBounds_toArray, List.set_cons_zero, List.set_cons_succ, List.getElem_toArray, List.getElem_cons_succ, List.getElem_cons_zero])
          refine wpAnyH_take (i := 3) (v := ?vp45) rfl (by kernel_rfl) (by kernel_rfl) (by kernel_rfl) (fun _ _ _ h => h) (Or.inl ⟨by rfl, ?yp45⟩) (by assumption) ?_
          case yp45 => (intro w hSw; (try dsimp only at hSw); go_simp; all_goals (with_reducible rfl))
          (try simp only [Act.put, List.setIfInBounds_toArray, List.set_cons_zero, List.set_cons_succ, List.getElem_toArray, List.getElem_cons_succ, List.getElem_cons_zero])
          refine wpAnyH_take (i := 5) (v := ?vp46) rfl (by kernel_rfl) (by kernel_rfl) (by kernel_rfl) (fun _ _ _ h => h) (Or.inl ⟨by rfl, ?yp46⟩) (by assumption) ?_
          case yp46 => (intro w hSw; (try dsimp only at hSw); go_simp; all_goals (with_reducible rfl))
          (try simp only [Act.put, List.setIfInBounds_toArray, List.set_cons_zero, List.set_cons_succ, List.getElem_toArray, List.getElem_cons_succ, List.getElem_cons_zero])
          refine wpAnyH_take (i := 4) (v := ?vp47) rfl (by kernel_rfl) (by kernel_rfl) (by kernel_rfl) (fun _ _ _ h => h) (Or.inl ⟨by rfl, ?yp47⟩) (by assumption) ?_
          case yp47 => (intro w hSw; (try dsimp only at hSw); go_simp; all_goals (with_reducible rfl))
          (try simp only [Act.put, List.setIfInBounds_toArray, List.set_cons_zero, List.set_cons_succ, List.getElem_toArray, List.getElem_cons_succ, List.getElem_cons_zero])
          refine wpAnyH_take (i := 6) (v := ?vp48) rfl (by kernel_rfl) (by kernel_rfl) (by kernel_rfl) (fun _ _ _ h => h) (Or.inl ⟨by rfl, ?yp48⟩) (by assumption) ?_
          case yp48 => (intro w hSw; (try dsimp only at hSw); go_simp; all_goals (with_reducible rfl))
          (try simp only [Act.put, List.setIfInBounds_toArray, List.set_cons_zero, List.set_cons_succ, List.getElem_toArray, List.getElem_cons_succ, List.getElem_cons_zero])
          refine wpAnyH_ready (rs := [2, 7]) (by kernel_rfl) (by simp) ?_
          refine AllReadyH.cons rfl (fun K hK => ?_) ?_
          · go_simp
            refine (HSG.out wp41).mono ?_
            rintro e wp49 ⟨rfl, belp49⟩
            dsimp only
            have FB_p410 := Lib.hid ((FB_p42.out).trans ((belp49).mono (FB_p42.out).size))
            clear FB_p42
            clear belp49
            refine hK.out _ _ (HSX.out _ FB_p410.out) (fun hHeld => ?_)
            clear hK K
            (try simp only [Act.put, List.setIfInBounds_toArray, List.set_cons_zero, List.set_cons_succ, List.getElem_toArray, List.getElem_cons_succ, List.getElem_cons_zero])
            refine wpAnyH_ready (rs := [7]) (by kernel_rfl) (by simp) ?_
            refine AllReadyH.cons rfl (fun K hK => ?_) ?_
            · go_simp
              obtain ⟨wp411, hwp411⟩ : ∃ w', w' = wp49.alloc (.cells #[.int .i64 la, .int .i64 lb] 2) := ⟨_, rfl⟩
              rw [← hwp411]
              have bp411 : Below wp49.heap.size wp49 wp411 := by rw [hwp411]; exact (Below.refl _ _).alloc (Nat.le_refl _) _
              have gp411 : wp411.heap[wp49.heap.size]? = some (.cells #[.int .i64 la, .int .i64 lb] 2 (0, 0)) := by rw [hwp411]; exact heap_alloc_new _ _
              clear hwp411
              have FB_p412 := Lib.hid ((FB_p410.out).trans ((bp411).mono (FB_p410.out).size))
              clear FB_p410
              obtain ⟨gap413, hgp413⟩ : ∃ b, wp49.heap.size = b := ⟨_, rfl⟩
              have GB_p413 := Lib.hid gp411
              rw [hgp413] at GB_p413 ⊢
              clear hgp413 gp411 bp411
              refine hK.out _ _ (HSX.out _ FB_p412.out) (fun hHeld => ?_)
              clear hK K
              (try simp only [Act.put, List.setIfInBounds_toArray, List.set_cons_zero, List.set_cons_succ, List.getElem_toArray, List.getElem_cons_succ, List.getElem_cons_zero])
              refine wpAnyH_ready (rs := [8]) (by kernel_rfl) (by simp) ?_
              refine AllReadyH.cons rfl (fun K hK => ?_) ?_
              · go_simp
                refine (HTA.out wp411 (BL.out.trans (FB_p412.out.mono BL.out.size)) gap413 GB_p413.out).mono ?_
                rintro e wp414 ⟨rfl, belp414⟩
                dsimp only
                have FB_p415 := Lib.hid ((FB_p412.out).trans ((belp414).mono (FB_p412.out).size))
                have GB_p416 := Lib.hid (((belp414).block _ (Array.getElem?_eq_some_iff.1 (GB_p413.out)).1).trans (GB_p413.out))
                clear FB_p412 GB_p413
                clear belp414
                refine hK.out _ _ (HSX.out _ FB_p415.out) (fun hHeld => ?_)
                clear hK K
                (try simp only [Act.put, List.setIfInBounds_toArray, List.set_cons_zero, List.set_cons_succ, List.getElem_toArray, List.getElem_cons_succ, List.getElem_cons_zero])
                refine wpAnyH_take (i := 9) (v := ?vp417) rfl (by kernel_rfl) (by kernel_rfl) (by kernel_rfl) (fun _ _ _ h => h) (Or.inl ⟨by rfl, ?yp417⟩) (by assumption) ?_
                case yp417 => (intro w hSw; (try dsimp only at hSw); go_simp; all_goals (with_reducible rfl))
                (try simp only [Act.put, List.setIfInBounds_toArray, List.set_cons_zero, List.set_cons_succ, List.getElem_toArray, List.getElem_cons_succ, List.getElem_cons_zero])
                refine wpAnyH_take (i := 10) (v := ?vp418) rfl (by kernel_rfl) (by kernel_rfl) (by kernel_rfl) (fun _ _ _ h => h) (Or.inl ⟨by rfl, ?yp418⟩) (by assumption) ?_
                case yp418 => (intro w hSw; (try dsimp only at hSw); go_simp; all_goals (with_reducible rfl))
                (try simp only [Act.put, List.setIfInBounds_toArray, List.set_cons_zero, List.set_cons_succ, List.getElem_toArray, List.getElem_cons_succ, List.getElem_cons_zero])
                refine wpAnyH_ready (rs := [11]) (by kernel_rfl) (by simp) ?_
                refine AllReadyH.cons rfl (fun K hK => ?_) ?_
                · go_simp
                  refine hK.out _ _ hHeld (fun hHeld => ?_)
                  clear hK K
                  (try simp only [Act.put, List.setIfInBounds_toArray, List.set_cons_zero, List.set_cons_succ, List.getElem_toArray, List.getElem_cons_succ, List.getElem_cons_zero])
                  refine wpAnyH_done (by kernel_rfl) ?_ _
                  have HBZ := Lib.hid (HB0.out.trans ((BL.out.trans (FB_p415.out.mono BL.out.size)).mono HB0.out.size))
                  go_wp2
                  go_ret
                  exact ⟨ret_sA HE.out.symm, HBZ.out⟩
                exact AllReadyH.nil
              exact AllReadyH.nil
            exact AllReadyH.nil
          refine AllReadyH.cons rfl (fun K hK => ?_) ?_
          · go_simp
            obtain ⟨wp419, hwp419⟩ : ∃ w', w' = wp41.alloc (.cells #[.int .i64 la, .int .i64 lb] 2) := ⟨_, rfl⟩
            rw [← hwp419]
            have bp419 : Below wp41.heap.size wp41 wp419 := by rw [hwp419]; exact (Below.refl _ _).alloc (Nat.le_refl _) _
            have gp419 : wp419.heap[wp41.heap.size]? = some (.cells #[.int .i64 la, .int .i64 lb] 2 (0, 0)) := by rw [hwp419]; exact heap_alloc_new _ _
            clear hwp419
            have FB_p420 := Lib.hid ((FB_p42.out).trans ((bp419).mono (FB_p42.out).size))
            clear FB_p42
            obtain ⟨gap421, hgp421⟩ : ∃ b, wp41.heap.size = b := ⟨_, rfl⟩
            have GB_p421 := Lib.hid gp419
            rw [hgp421] at GB_p421 ⊢
            clear hgp421 gp419 bp419
            refine hK.out _ _ (HSX.out _ FB_p420.out) (fun hHeld => ?_)
            clear hK K
            (try simp only [Act.put, List.setIfInBounds_toArray, List.set_cons_zero, List.set_cons_succ, List.getElem_toArray, List.getElem_cons_succ, List.getElem_cons_zero])
            refine wpAnyH_ready (rs := [2]) (by kernel_rfl) (by simp) ?_
            refine AllReadyH.cons rfl (fun K hK => ?_) ?_
            · go_simp
              refine (HSG.out wp419).mono ?_
              rintro e wp422 ⟨rfl, belp422⟩
              dsimp only
              have FB_p423 := Lib.hid ((FB_p420.out).trans ((belp422).mono (FB_p420.out).size))
              have GB_p424 := Lib.hid (((belp422).block _ (Array.getElem?_eq_some_iff.1 (GB_p421.out)).1).trans (GB_p421.out))
              clear FB_p420 GB_p421
              clear belp422
              refine hK.out _ _ (HSX.out _ FB_p423.out) (fun hHeld => ?_)
              clear hK K
              (try simp only [Act.put, List.setIfInBounds_toArray, List.set_cons_zero, List.set_cons_succ, List.getElem_toArray, List.getElem_cons_succ, List.getElem_cons_zero])
              refine wpAnyH_ready (rs := [8]) (by kernel_rfl) (by simp) ?_
              refine AllReadyH.cons rfl (fun K hK => ?_) ?_
              · go_simp
                refine (HTA.out wp422 (BL.out.trans (FB_p423.out.mono BL.out.size)) gap421 GB_p424.out).mono ?_
                rintro e wp425 ⟨rfl, belp425⟩
                dsimp only
                have FB_p426 := Lib.hid ((FB_p423.out).trans ((belp425).mono (FB_p423.out).size))
                have GB_p427 := Lib.hid (((belp425).block _ (Array.getElem?_eq_some_iff.1 (GB_p424.out)).1).trans (GB_p424.out))
                clear FB_p423 GB_p424
                clear belp425
                refine hK.out _ _ (HSX.out _ FB_p426.out) (fun hHeld => ?_)
                clear hK K
                (try simp only [Act.put, List.setIfInBounds_toArray, List.set_cons_zero, List.set_cons_succ, List.getElem_toArray, List.getElem_cons_succ, List.getElem_cons_zero])
                refine wpAnyH_take (i := 9) (v := ?vp428) rfl (by kernel_rfl) (by kernel_rfl) (by kernel_rfl) (fun _ _ _ h => h) (Or.inl ⟨by rfl, ?yp428⟩) (by assumption) ?_
                case yp428 => (intro w hSw; (try dsimp only at hSw); go_simp; all_goals (with_reducible rfl))
                (try simp only [Act.put, List.setIfInBounds_toArray, List.set_cons_zero, List.set_cons_succ, List.getElem_toArray, List.getElem_cons_succ, List.getElem_cons_zero])
                refine wpAnyH_take (i := 10) (v := ?vp429) rfl (by kernel_rfl) (by kernel_rfl) (by kernel_rfl) (fun _ _ _ h => h) (Or.inl ⟨by rfl, ?yp429⟩) (by assumption) ?_
                case yp429 => (intro w hSw; (try dsimp only at hSw); go_simp; all_goals (with_reducible rfl))
                (try simp only [Act.put, List.setIfInBounds_toArray, List.set_cons_zero, List.set_cons_succ, List.getElem_toArray, List.getElem_cons_succ, List.getElem_cons_zero])
                refine wpAnyH_ready (rs := [11]) (by kernel_rfl) (by simp) ?_
                refine AllReadyH.cons rfl (fun K hK => ?_) ?_
                · go_simp
                  refine hK.out _ _ hHeld (fun hHeld => ?_)
                  clear hK K
                  (try simp only [Act.put, List.setIfInBounds_toArray, List.set_cons_zero, List.set_cons_succ, List.getElem_toArray, List.getElem_cons_succ, List.getElem_cons_zero])
                  refine wpAnyH_done (by kernel_rfl) ?_ _
                  have HBZ := Lib.hid (HB0.out.trans ((BL.out.trans (FB_p426.out.mono BL.out.size)).mono HB0.out.size))
                  go_wp2
                  go_ret
                  exact ⟨ret_sA HE.out.symm, HBZ.out⟩
                exact AllReadyH.nil
              exact AllReadyH.nil
            exact AllReadyH.nil
          exact AllReadyH.nil
        · have hd : (lc == x) = false := by simpa using hc
          have HN := Lib.hid (HNX.out (by simp [srcB, hc]))
          have HOP := Lib.hid (fun wx => linkOperator_any 4 wx)
          rw [show opK 4 = 12 from by decide] at HOP
          go_upto_region 4 with (fail)
          rw [HBX.out, ← HU1.out]
          clear x0 x1 x2 x3
          go_wp2_with (fail)
          refine (HOP.out _).mono ?_
          rintro e w3 ⟨rfl, rfl⟩
          go_wp2
          go_roundw
          case rel => exact ⟨k + 1, by omega, by go_num, HN.out, BL.out⟩
          case measure => simp [intOf]; omega
    · have hkl : k = N.l.length := by omega
      subst hkl
      have HE := Lib.hid (trT_none (dec := dcN) (find_no hno))
      have HG := Lib.hid (HB0.out.trans (hB.mono HB0.out.size))
      clear hno hB
      go_wp2
      go_ret
      exact ⟨ret_sA HE.out.symm, HG.out⟩
theorem treeAbove_any (N : Nt) (hv : valN N = true) (h : NH) : ∀ (n : Nat) (x : Int), wlen N x ≤ n → ∀ (w : World), RdN w w.heap.size h N → Calls Tryd.prog 83 #[.agg #[.slice h.A N.w.length h.c, .slice h.L N.l.length h.d, .slice h.C N.c.length h.e], .int .i64 x] w fun e w' => e = .returned (.string (trT dcN N x)) ∧ Below w.heap.size w w'
  | n, x, hn, w, r => treeAbove_step N hv x h w r (fun y _ hlt w r => treeAbove_any N hv h (n - 1) y (by omega) w r)
  termination_by n x hn => wlen N x
  decreasing_by all_goals omega
/-- TreeText. -/
noncomputable def txV (N : Nt) (x : Int) : ByteArray := if valN N then trT dcN N x else ⟨#[]⟩
theorem txV_yes {N : Nt} (hv : valN N = true) (x : Int) : txV N x = trT dcN N x := by unfold txV; rw [if_pos hv]
theorem txV_no {N : Nt} (hv : valN N = false) (x : Int) : txV N x = ⟨#[]⟩ := by unfold txV; rw [hv]; rfl
set_option maxRecDepth 100000 in
set_option maxHeartbeats 1000000 in
theorem treeText_impl (h : NH) (N : Nt) (x : Int) (w : World) (r : RdN w w.heap.size h N) (sm : SmallN N) (ht : Arit w) (hu : Dual w) :
    Calls Tryd.prog 18 #[.agg #[.slice h.A N.w.length h.c, .slice h.L N.l.length h.d, .slice h.C N.c.length h.e], .int .i64 x] w fun e w' => e = .returned (.string (txV N x)) ∧ Below w.heap.size w w' := by
  obtain ⟨w0, hw0⟩ : ∃ w0, w0 = w.alloc (.cells #[.slice h.A N.w.length h.c, .slice h.L N.l.length h.d, .slice h.C N.c.length h.e] 31) := ⟨_, rfl⟩
  obtain ⟨hb, hh, hsz⟩ := box3_any w (.slice h.A N.w.length h.c) (.slice h.L N.l.length h.d) (.slice h.C N.c.length h.e) 31
  rw [← hw0] at hb hh hsz
  have HK := Lib.hid (fun (wx : World) (hx : Below w0.heap.size w0 wx) => three_cells ((hx.block w.heap.size (by omega)).trans hh))
  have HR := Lib.hid (fun (wx : World) (hx : Below w0.heap.size w0 wx) => show RdN wx wx.heap.size h N from ((r.below (hb.trans (hx.mono hb.size))).more (Nat.le_trans hb.size hx.size)))
  have hV := validNet_impl h N w0 (HR.out _ (Below.refl _ _)) sm (ht.below hb ht.lt) (hu.below hb hu.lt)
  have HB0 := Lib.hid hb
  obtain ⟨y0, y1, y2⟩ := HK.out _ (Below.refl _ w0)
  clear hb hh hsz r ht hu sm
  cases hv : valN N with
  | false =>
    rw [hv] at hV
    have HE := Lib.hid (txV_no hv x)
    have HV := Lib.hid hV
    clear hV hv
    go_enter Tryd.func18, Tryd.ntmps18
    go_upto_region 1 with (fail)
    rw [← hw0]
    clear hw0
    go_wp2_with (fail)
    refine HV.out.mono ?_
    rintro e w1 ⟨rfl, bel⟩
    have HG := Lib.hid (HB0.out.trans (bel.mono HB0.out.size))
    clear bel y0 y1 y2
    go_wp2
    go_ret
    exact ⟨ret_sA HE.out.symm, HG.out⟩
  | true =>
    rw [hv] at hV
    have HE := Lib.hid (txV_yes hv x)
    have HV := Lib.hid hV
    have HVT := Lib.hid hv
    clear hV hv
    go_enter Tryd.func18, Tryd.ntmps18
    go_upto_region 1 with (fail)
    rw [← hw0]
    clear hw0
    go_wp2_with (fail)
    refine HV.out.mono ?_
    rintro e w1 ⟨rfl, bel⟩
    have HB1 := Lib.hid bel
    clear bel y0 y1 y2
    obtain ⟨y0, y1, y2⟩ := HK.out _ HB1.out
    obtain ⟨w2, hw2⟩ : ∃ w2, w2 = w1.alloc (.cells #[.int .i64 x] 2) := ⟨_, rfl⟩
    have b2 : Below w1.heap.size w1 w2 := by rw [hw2]; exact (Below.refl _ _).alloc (Nat.le_refl _) _
    have p2 : w2.heap[w1.heap.size]? = some (.cells #[.int .i64 x] 2 (0, 0)) := by rw [hw2]; exact heap_alloc_new _ _
    have HB2 := Lib.hid (HB1.out.trans (b2.mono HB1.out.size))
    have HT := Lib.hid (treesAbove_any h N w2 (HR.out _ HB2.out) ⟨#[]⟩ (some ⟨w1.heap.size, 0, none⟩) 1 1 [x] (rd_one p2) (by decide) (by decide) (fun y _ => trT_some HVT.out y) (fun y hy w r => by
      have : y = x := by simpa using hy
      subst this
      exact treeAbove_any N HVT.out h _ y (Nat.le_refl _) w r))
    rw [show ([x].map (trT dcN N)) = [trT dcN N x] from rfl, jnX_one] at HT
    have HW2 := Lib.hid hw2
    clear b2 p2 hw2
    go_wp2_with (fail)
    rw [← HW2.out]
    refine HT.out.mono ?_
    rintro e w3 ⟨rfl, bel⟩
    have HG := Lib.hid (HB0.out.trans ((HB2.out.trans (bel.mono HB2.out.size)).mono HB0.out.size))
    clear bel y0 y1 y2
    go_wp2
    go_ret
    exact ⟨ret_sA HE.out.symm, HG.out⟩
end Go.Proofs.YtfanapddopafiaaDoor
