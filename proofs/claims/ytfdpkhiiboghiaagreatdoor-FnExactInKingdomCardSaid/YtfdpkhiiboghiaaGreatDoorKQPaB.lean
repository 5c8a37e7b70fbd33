/- The parsing of a net: fire. The parsing of a net: isOpen, partOfWire, isReady, readyLinks. A net in memory of its own that grows: its parts set and appended to. -/
import Derived.Test.YtfdpkhiiboghiaaGreatDoorKQEmA
import Derived.Deep.RegionHeldLaw
import Derived.Deep.DeepCutAuto
import Derived.BigQuiet
import Derived.Test.YtfdpkhiiboghiaaGreatDoorKQPgA
import Derived.Test.YtfdpkhiiboghiaaGreatDoorKQNetZ
namespace Go.Proofs.YtfdpkhiiboghiaaGreatDoor
set_option linter.unusedSimpArgs false
set_option linter.unusedVariables false
section
set_option linter.unusedSimpArgs false
set_option linter.unusedVariables false
open Go.ChangeAt Go.ChangeShapes Go.RowKit Go.WideShapes

/-- Where the rows of a parsing lie. -/
structure PzH where
  T : List Int
  P : Option Addr
  p : Nat
  C : Option Addr
  q : Nat
  A : Option Addr
  a : Nat
/-- The parsing of a net in block g, of which some links have been fired. -/
structure PzS (w : World) (g : Nat) (h : NH) (N : Nt) (fs : List Int) (r : PzH) : Prop where
  box : PzB w g (.slice h.L N.l.length h.d) (.slice r.P N.w.length r.p) (.slice r.C N.w.length r.q) r.T (cntQ (qN N fs)) (.slice r.A fs.length r.a)
  uf : Uf r.T (qN N fs)
  isf : isF N fs = true
  pro : RdI w g r.P N.w.length (lxL outL N)
  con : RdI w g r.C N.w.length (lxL inL N)
  lnk : RdL w g h.L N.l.length N.l
  own : w.ownsRow (g + 1) 2 1 (.slice r.A fs.length r.a) fs.length (fs.map (Value.int .i64))
section
variable {w w' : World} {g : Nat} {h : NH} {N : Nt} {fs : List Int} {r : PzH}
theorem PzS.lt (s : PzS w g h N fs r) : g < w.heap.size := s.box.lt
theorem PzS.below (s : PzS w g h N fs r) (hb : Below w.heap.size w w') : PzS w' g h N fs r := by
  have hg := s.lt
  have hb2 : Below g w w' := hb.mono (Nat.le_of_lt hg)
  exact ⟨s.box.keep (hb.block _ hg), s.uf, s.isf, s.pro.below hb2, s.con.below hb2, s.lnk.below hb2, own_same s.own fun k e => hb.block k (s.own.lt k e).2⟩
theorem PzS.ok (s : PzS w g h N fs r) : QOk N fs (qN N fs) := isF_ok s.isf
/-- The cells of a link, the producer and the consumer of a wire. -/
theorem PzS.link (s : PzS w g h N fs r) (hb : Below g w w') {k : Nat} (hk : k < N.l.length) : ∃ b off, h.L = some ⟨b, off, none⟩ ∧ w'.cell? ⟨b, off + k * 4, none⟩ = some (.int .i64 (N.l.getD k Lk.nil).k) ∧ w'.cell? ⟨b, off + k * 4 + 1, none⟩ = some (.int .i64 (N.l.getD k Lk.nil).a) ∧ w'.cell? ⟨b, off + k * 4 + 2, none⟩ = some (.int .i64 (N.l.getD k Lk.nil).b) ∧ w'.cell? ⟨b, off + k * 4 + 3, none⟩ = some (.int .i64 (N.l.getD k Lk.nil).c) := by
  obtain ⟨b, off, e, _, hc⟩ := (s.lnk.below hb).at (show 0 < N.l.length by omega)
  exact ⟨b, off, e, hc k hk⟩
theorem PzS.proAt (s : PzS w g h N fs r) (hb : Below g w w') {x : Nat} (hx : x < N.w.length) : ∃ b off, r.P = some ⟨b, off, none⟩ ∧ w'.cell? ⟨b, off + x, none⟩ = some (.int .i64 (lxN outL N (x : Int))) := by
  obtain ⟨b, off, e, _, hc⟩ := (s.pro.below hb).2 (show 0 < N.w.length by omega)
  have := hc x hx
  rw [lxL_at outL N hx] at this
  exact ⟨b, off, e, this⟩
theorem PzS.conAt (s : PzS w g h N fs r) (hb : Below g w w') {x : Nat} (hx : x < N.w.length) : ∃ b off, r.C = some ⟨b, off, none⟩ ∧ w'.cell? ⟨b, off + x, none⟩ = some (.int .i64 (lxN inL N (x : Int))) := by
  obtain ⟨b, off, e, _, hc⟩ := (s.con.below hb).2 (show 0 < N.w.length by omega)
  have := hc x hx
  rw [lxL_at inL N hx] at this
  exact ⟨b, off, e, this⟩
end
theorem own_shapeP {w : World} {base n : Nat} {e : TypeId} {v : Value} {xs : List Value} (h : w.ownsRow base e 1 v n xs) : ∃ A c, v = .slice A n c := by
  rcases h.2 with ⟨rfl, rfl⟩ | ⟨g, cap, cur, rfl, _, _, hn, _⟩
  · exact ⟨_, _, rfl⟩
  · exact ⟨_, _, rfl⟩
theorem kept_below {g : Nat} {w w' : World} (h : KeptS (fun k => k = g) w w') (hg : g < w.heap.size) : Below g w w' :=
  ⟨h.os, h.tape, h.output, h.size, fun k hk => h.block k (by omega) (by show ¬ k = g; omega)⟩
set_option maxRecDepth 100000 in
set_option maxHeartbeats 1000000 in
/-- fire: a link that is ready is fired. -/
theorem fire_any (h : NH) (N : Nt) (g f : Nat) (fs : List Int) (r : PzH) (w : World) (hv : valN N = true) (s : PzS w g h N fs r) (ho : okF N fs (f : Int) = true) :
    Calls Tryz.prog 165 #[.pointer (some ⟨g, 0, none⟩), .int .i64 f] w fun e w' => e = .returned (.tuple #[]) ∧ (∃ r', PzS w' g h N (fs ++ [(f : Int)]) r') ∧ Below g w w' := by
  obtain ⟨i0, hi0, hz0, hz1, hz2⟩ := info_parts info_i64
  obtain ⟨ho1, ho2, ho3⟩ := okF_yes ho
  have hfl := (inW_yes ho1).2.1
  rw [Int.toNat_natCast] at hfl ho3
  obtain ⟨h48, h48l⟩ := valN_size hv
  have hok := s.ok
  have hflen := hok.len
  have hg := s.lt
  have hT := s.uf.len
  have hf8 : f < 48 := by omega
  have hqf : qN N fs f = -1 := Decidable.byContradiction fun e => ho2 ((hok.mem f).1 e)
  have hadd := s.uf.add hf8 hqf
  have hcb := cntQ_le (qN N fs)
  -- what stands behind the append and its store
  have HAPP : Hid (∀ v' w2, w2.ownsRow (g + 1) 2 1 v' (fs.length + 1) (fs.map (Value.int .i64) ++ [.int .i64 f]) → (w.alloc (.cells #[.int .i64 f] 2)).grownBy w2 (Value.slice r.A fs.length r.a).ownBlock →
      ∃ A c, v' = .slice A (fs.length + 1) c ∧ PzB w2 g (.slice h.L N.l.length h.d) (.slice r.P N.w.length r.p) (.slice r.C N.w.length r.q) r.T (cntQ (qN N fs)) (.slice r.A fs.length r.a) ∧ Below g w w2) := Lib.hid fun v' w2 hown hgr => by
    obtain ⟨A, c, rfl⟩ := own_shapeP hown
    have hba : Below g w (w.alloc (.cells #[.int .i64 f] 2)) := (Below.refl _ _).alloc (Nat.le_of_lt hg) _
    have hba2 : Below w.heap.size w (w.alloc (.cells #[.int .i64 f] 2)) := (Below.refl _ _).alloc (Nat.le_refl _) _
    refine ⟨A, c, rfl, ?_, hba.grown hgr (Nat.le_trans (Nat.le_of_lt hg) hba.size) fun q hq => by have := (s.own.lt q hq).1; omega⟩
    refine s.box.keep ?_
    rw [hgr.block g (by simp; omega) fun e => by have := (s.own.lt _ e.symm).1; omega]
    exact hba2.block g hg
  have HADD : Hid (∀ w3 A c, PzB w3 g (.slice h.L N.l.length h.d) (.slice r.P N.w.length r.p) (.slice r.C N.w.length r.q) r.T (cntQ (qN N fs)) (.slice A (fs.length + 1) c) →
      Calls Tryz.prog 174 #[.pointer (some ⟨g, 3, none⟩), .int .i64 f] w3 fun e w' => e = .returned (.tuple #[]) ∧ PzB w' g (.slice h.L N.l.length h.d) (.slice r.P N.w.length r.p) (.slice r.C N.w.length r.q) (r.T.set f (f : Int)) (cntQ (fiQ N (qN N fs) f 0)) (.slice A (fs.length + 1) c) ∧ KeptS (fun k => k = g) w3 w') := Lib.hid fun w3 A c hP => by
    have := addL_any g _ _ _ _ r.T (cntQ (qN N fs)) f w3 hP hT hf8 hcb
    rw [← hadd.2] at this
    exact this
  have HU0 : Hid (Uf (r.T.set f (f : Int)) (fiQ N (qN N fs) f 0)) := Lib.hid hadd.1
  have x0 := s.box.row hT
  have f0 := s.box.frozen 52
  have HB52 := Lib.hid (fun (w2 : World) (A : Option Addr) (c : Nat) (hP : PzB w2 g (.slice h.L N.l.length h.d) (.slice r.P N.w.length r.p) (.slice r.C N.w.length r.q) r.T (cntQ (qN N fs)) (.slice r.A fs.length r.a)) => And.intro (hP.row hT) (And.intro (hP.frozen 52) (hP.setF hT (.slice A (fs.length + 1) c))))
  have HFG := Lib.hid (fun j hj => fi_ge hok ho3 j hj)
  have HALL := Lib.hid (fi_all hok ho2 ho3)
  have HLK := Lib.hid (fun (wx : World) (hx : Below g w wx) => s.link hx hfl)
  have HPR := Lib.hid (fun (wx : World) (hx : Below g w wx) (x : Nat) (hx2 : x < N.w.length) => s.proAt hx hx2)
  have HSN := Lib.hid (isF_snoc s.isf ho)
  have HQN := Lib.hid (qN_snoc N fs (f : Int))
  have HOWN := Lib.hid s.own
  have HPRO := Lib.hid (fun (wx : World) (hx : Below g w wx) => s.pro.below hx)
  have HCON := Lib.hid (fun (wx : World) (hx : Below g w wx) => s.con.below hx)
  have HLNK := Lib.hid (fun (wx : World) (hx : Below g w wx) => s.lnk.below hx)
  have HIN := Lib.hid (fun t (ht : t < (inL (N.l.getD f Lk.nil)).length) => (oneP_in hv).ins f hfl t ht)
  have HFR := Lib.hid (fun (x : Int) (hx : inW N.w.length x = true) => fr_lt hv hx)
  have hil := inL_len (N.l.getD f Lk.nil)
  have HI := Lib.hid hi0; have HZ0 := Lib.hid hz0; have HZ1 := Lib.hid hz1; have HZ2 := Lib.hid hz2
  have hgg := Nat.le_of_lt hg
  have HH48 := Lib.hid h48l
  have hfi : (f : Int) < (N.l.length : Int) := by omega
  clear hi0 hz0 hz1 hz2 s ho ho1 ho2 ho3 hok hT hqf hadd hcb hv h48
  go_enter Tryz.func165, Tryz.ntmps165
  go_wp2_with (at_builtin; refine wpList_append_own _ rfl _ _ 24 rfl (g + 1) 2 i0 (.int .i64 0) 1 8 Tryz.underlying24 HI.out HZ0.out HZ1.out HZ2.out rfl (by decide) _ _ _ rfl (HOWN.out.alloc _) ⟨w.heap.size, 0, none⟩ 1 1 [.int .i64 f] rfl rfl ?c1 ?c2 ?c3 ?c4 ?c5 ?_)
  case c1 => exact cell_one_new _ _ _
  case c2 => intro u hu; simp at hu; subst hu; rfl
  case c3 => unfold maxLen; omega
  case c4 => omega
  case c5 => simp; omega
  intro v' w2 hown' hgrow _
  obtain ⟨A2, c2, rfl, hP2, hB2⟩ := HAPP.out _ _ hown' hgrow
  obtain ⟨y0, z0, hP3⟩ := HB52.out w2 A2 c2 hP2
  obtain ⟨w3, hw3⟩ : ∃ w3, w3 = w2.setCell ⟨g, 52, none⟩ (.slice A2 (fs.length + 1) c2) := ⟨_, rfl⟩
  rw [← hw3] at hP3
  have hB3 : Below g w w3 := by rw [hw3]; exact hB2.setCell (p := ⟨g, 52, none⟩) (Nat.le_refl _) _
  have hO3 : w3.ownsRow (g + 1) 2 1 (.slice A2 (fs.length + 1) c2) (fs.length + 1) ((fs ++ [(f : Int)]).map (Value.int .i64)) := by
    rw [List.map_append, hw3]
    exact own_same hown' fun k e => heap_setCell_other _ _ _ _ (by show k ≠ g; have := (hown'.lt k e).1; omega)
  have HW3 := Lib.hid hw3; have HB3 := Lib.hid hB3; have HO3 := Lib.hid hO3; have HP3 := Lib.hid hP3
  clear hown' hgrow hP2 hB2 hw3 hB3 hO3 hP3 x0 f0
  go_wp2_with (fail)
  rw [← HW3.out]
  clear y0 z0 HW3
  refine (HADD.out w3 A2 c2 HP3.out).mono ?_
  rintro e w4 ⟨rfl, hP4, hK4⟩
  have hg3 := HP3.out.lt
  have HB4 := Lib.hid (HB3.out.trans (kept_below hK4 hg3))
  have HO4 : Hid (w4.ownsRow (g + 1) 2 1 (.slice A2 (fs.length + 1) c2) (fs.length + 1) ((fs ++ [(f : Int)]).map (Value.int .i64))) := Lib.hid (own_same HO3.out fun k e => hK4.block k (HO3.out.lt k e).2 (by have := (HO3.out.lt k e).1; show ¬ k = g; omega))
  have HP4 := Lib.hid hP4
  have hg4 := hP4.lt
  obtain ⟨x0, x1, x2⟩ := hP4.three
  obtain ⟨b, off, hA, l0, l1, l2, l3⟩ := HLK.out _ HB4.out
  clear hK4 hP4 HO3 HB3 HP3 hg3 x1 x2
  obtain ⟨⟨lk, la, lb, lc⟩, hl⟩ : ∃ l, N.l.getD f Lk.nil = l := ⟨_, rfl⟩
  rw [hl] at l0 l1 l2 l3 HFG HALL HIN hil
  have HL := Lib.hid hl
  dsimp only at l0 l1 l2 l3
  clear hl
  rw [hA] at x0
  go_wp2_with (fail)
  refine (show Calls Tryz.prog 122 #[.agg #[.int .i64 lk, .int .i64 la, .int .i64 lb, .int .i64 lc]] w4 (Gives w4 (inL ⟨lk, la, lb, lc⟩)) from inputsOf_any ⟨lk, la, lb, lc⟩ w4).mono ?_
  rintro e w5 ⟨A5, c5, rfl, o5, b5⟩
  have HB5 := Lib.hid (HB4.out.trans (b5.mono (show g ≤ w4.heap.size by omega)))
  have HO5 : Hid (w5.ownsRow (g + 1) 2 1 (.slice A2 (fs.length + 1) c2) (fs.length + 1) ((fs ++ [(f : Int)]).map (Value.int .i64))) := Lib.hid (own_below HO4.out b5 (Nat.le_refl _))
  have HP5 := Lib.hid (HP4.out.keep (b5.block _ hg4))
  have R5 := Lib.hid (RdI.of_own o5)
  have HLO := Lib.hid (fun b (e : Value.ownBlock (.slice A5 (inL ⟨lk, la, lb, lc⟩).length c5) = some b) => (o5.lt b e))
  have hsz5 := b5.size
  have HFI : Hid (∀ j, fiQ N (qN N fs) f (j + 1) = uniQ (fiQ N (qN N fs) f j) f (frN N ((inL ⟨lk, la, lb, lc⟩).getD j 0))) := Lib.hid fun j => by rw [← HL.out]; rfl
  clear o5 b5 HB4 HO4 HP4 l0 l1 l2 l3 x0
  generalize inL ⟨lk, la, lb, lc⟩ = X at *
  go_wp2
  go_loopw [30] (fun i wx => ∃ (j : Nat) (T' : List Int), j ≤ X.length ∧ i = .int .i64 j ∧ PzB wx g (.slice h.L N.l.length h.d) (.slice r.P N.w.length r.p) (.slice r.C N.w.length r.q) T' (cntQ (fiQ N (qN N fs) f j)) (.slice A2 (fs.length + 1) c2) ∧ Uf T' (fiQ N (qN N fs) f j) ∧ KeptS (fun k => k = g) w5 wx) (fun i _ => X.length - (intOf i).toNat)
  case atStart => exact ⟨0, _, Nat.zero_le _, rfl, HP5.out, HU0.out, KeptS.refl _ _⟩
  case round =>
    obtain ⟨j, T', hj, rfl, hP, hU, hK⟩ := hrel
    have HBX := Lib.hid (HB5.out.trans (kept_below hK HP5.out.lt))
    by_cases hlt : j < X.length
    · obtain ⟨bo, offo, rfl, hbo, hco⟩ := R5.out.2 (by omega)
      have hbl := (HLO.out bo rfl).1
      have hx0 : wr.cell? ⟨bo, offo + j, none⟩ = some (.int .i64 (X.getD j 0)) := (World.cell?_of_block (a := ⟨bo, offo + j, none⟩) (hK.block bo hbo (show ¬ bo = g by omega))).trans (hco j hlt)
      have hin := HIN.out j hlt
      obtain ⟨hg1, hg2⟩ := HFG.out j (by omega)
      have hg3 := hg2 j hlt
      have hfi := HFI.out j
      obtain ⟨hfr1, hfr2⟩ := HFR.out _ hin
      obtain ⟨z, hz⟩ : ∃ z, X.getD j 0 = z := ⟨_, rfl⟩
      rw [hz] at hx0 hin hg3 hfi hfr1 hfr2
      have hzl := (inW_yes hin).2.1
      have ez := (inW_yes hin).2.2
      obtain ⟨bp, offp, hPe, hpc⟩ := HPR.out _ HBX.out z.toNat hzl
      rw [← ez, hfr1] at hpc
      obtain ⟨m0, m1, m2⟩ := hP.three
      rw [hPe] at m1
      obtain ⟨Q, hQ⟩ : ∃ Q, fiQ N (qN N fs) f j = Q := ⟨_, rfl⟩
      rw [hQ] at hP hU hg1 hg3 hfi
      have hun := unite_any g _ _ _ _ T' Q f (frN N z) wr.drew (show PzB wr.drew _ _ _ _ _ _ _ from hP) hU hf8 (by have := HH48.out; omega) (by omega) (by omega)
      have hkd := hK.trans (KeptS.of_below (S := fun k => k = g) ((Below.refl wr.heap.size wr).drew))
      have HKD := Lib.hid hkd
      have HUN := Lib.hid hun
      have HFIJ := Lib.hid hfi
      have HKJ := Lib.hid hK
      clear hco hin hg2 hz hfr1 hP hU hun hfi m0 m2 hK hg1 hg3 hkd
      generalize hzn : z.toNat = iz at *
      subst ez
      have hzi : (iz : Int) < (N.w.length : Int) := by omega
      have HKX := Lib.hid HKD.out
      go_upto_region 5 with (fail)
      go_region_with (go_at_call 175; refine HUN.out.mono ?_; rintro e w6 ⟨rfl, hT6⟩; have HT6 := Lib.hid hT6; clear hT6)
      all_goals (obtain ⟨T6, hP6, hU6, hK6⟩ := HT6.out)
      all_goals (rw [← HFIJ.out] at hP6 hU6)
      all_goals (have HE := Lib.hid (And.intro hP6 (And.intro hU6 (HKX.out.trans hK6))); clear hP6 hU6 hK6)
      all_goals go_wp2
      all_goals go_roundw
      all_goals (first | exact ⟨j + 1, T6, by omega, by go_num, HE.out.1, HE.out.2.1, HE.out.2.2⟩ | (simp [intOf]; omega))
    · have hjl : j = X.length := by omega
      subst hjl
      rw [HALL.out] at hP hU
      have hqs := HQN.out
      rw [Int.toNat_natCast] at hqs
      rw [← hqs] at hP hU
      have HE : Hid (∃ r', PzS wr g h N (fs ++ [(f : Int)]) r') := Lib.hid ⟨⟨T', r.P, r.p, r.C, r.q, A2, c2⟩, by
        have hlen : (fs ++ [(f : Int)]).length = fs.length + 1 := by simp
        exact ⟨by rw [hlen]; exact hP, hU, HSN.out, HPRO.out _ HBX.out, HCON.out _ HBX.out, HLNK.out _ HBX.out, by rw [hlen]; exact own_same HO5.out fun k e => hK.block k (HO5.out.lt k e).2 (by have := (HO5.out.lt k e).1; show ¬ k = g; omega)⟩⟩
      clear hP hU hK hqs
      go_wp2
      refine bodyPost_end (results_none rfl _ _ _) rfl ?_
      exact ⟨rfl, HE.out, HBX.out⟩
end
section
set_option linter.unusedSimpArgs false
set_option linter.unusedVariables false
open Go.ChangeAt Go.ChangeShapes Go.RowKit Go.WideShapes

theorem PzS.drew {w : World} {g : Nat} {h : NH} {N : Nt} {fs : List Int} {r : PzH} (s : PzS w g h N fs r) (n : Nat) : PzS (w.drewN n) g h N fs r := s.below (below_drewN (Below.refl _ _) n)
/-- isFired, in a parsing. -/
theorem fired_any {w : World} {g : Nat} {h : NH} {N : Nt} {fs : List Int} {r : PzH} (s : PzS w g h N fs r) {k : Nat} (hk : k < 48) :
    Calls Tryz.prog 176 #[.pointer (some ⟨g, 3, none⟩), .int .i64 k] w fun e w' => e = .returned (.bool (decide (qN N fs k ≠ -1))) ∧ w = w' := by
  have := isFired_any g 3 _ k w (s.box.tab s.uf.len hk) hk
  rwa [s.uf.fired hk] at this
set_option maxRecDepth 100000 in
set_option maxHeartbeats 1000000 in
theorem isOpen_any (h : NH) (N : Nt) (g : Nat) (fs : List Int) (r : PzH) (x : Int) (w : World) (hv : valN N = true) (s : PzS w g h N fs r) (hx : inW N.w.length x = true) :
    Calls Tryz.prog 207 #[.pointer (some ⟨g, 0, none⟩), .int .i64 x] w fun e w' => e = .returned (.bool (opnQ N (qN N fs) x)) ∧ ∃ m, w' = w.drewN m := by
  have h48l := (valN_size hv).2
  have hxl := (inW_yes hx).2.1
  have ex := (inW_yes hx).2.2
  obtain ⟨hfr, hfl⟩ := fr_lt hv hx
  obtain ⟨bp, op, hPe, hpc⟩ := s.proAt (Below.refl g w) hxl
  obtain ⟨bc, oc, hCe, hcc⟩ := s.conAt (Below.refl g w) hxl
  rw [← ex, hfr] at hpc
  rw [← ex] at hcc
  have HF1 := Lib.hid (fun n => quiet_sm (fired_any (s.drew n) (k := frN N x) (by omega)))
  obtain ⟨m0, m1, m2⟩ := s.box.three
  rw [hPe] at m1
  rw [hCe] at m2
  have hO : opnQ N (qN N fs) x = (decide (qN N fs (frN N x) ≠ -1) && !(decide (lxN inL N x ≠ -1) && decide (qN N fs (lxN inL N x).toNat ≠ -1))) := rfl
  rw [hO]
  have hxi : x < (N.w.length : Int) := by omega
  have hx0 : 0 ≤ x := by omega
  rcases lxN_cases inL N x with ⟨j, hj, _, ej⟩ | ⟨_, ej⟩
  · have HF2 := Lib.hid (fired_any s (k := j) (by omega))
    rw [ej, Int.toNat_natCast]
    rw [ej] at hcc
    have d1 : ((j : Int) != -1) = true := by simp
    have d2 : decide ((j : Int) ≠ -1) = true := by simp
    rw [d2, Bool.true_and]
    clear hfr hO hPe hCe s hx hv ej m0 d2 h48l
    generalize frN N x = a at *
    generalize decide (qN N fs a ≠ -1) = b1 at *
    generalize decide (qN N fs j ≠ -1) = b2 at *
    generalize x.toNat = ix at *
    subst ex
    cases b1 <;> cases b2
    all_goals
      go_enter Tryz.func207, Tryz.ntmps207
      go_wp2_with (fail)
      refine HF2.out.mono ?_
      rintro e w1 ⟨rfl, rfl⟩
      go_upto_region 3 with (fail)
      go_quiet (first | (go_at_call 176; exact HF1.out _))
      go_wp2
      go_ret
      exact ⟨rfl, _, rfl⟩
  · rw [ej]
    rw [ej] at hcc
    have d1 : ((-1 : Int) != -1) = false := rfl
    have d2 : decide ((-1 : Int) ≠ -1) = false := rfl
    rw [d2, Bool.false_and]
    clear hfr hO hPe hCe s hx hv ej m0 d2 h48l
    generalize frN N x = a at *
    generalize decide (qN N fs a ≠ -1) = b1 at *
    generalize x.toNat = ix at *
    subst ex
    cases b1
    all_goals
      go_enter Tryz.func207, Tryz.ntmps207
      go_upto_region 3 with (fail)
      go_quiet (first | (go_at_call 176; exact HF1.out _))
      go_wp2
      go_ret
      exact ⟨rfl, _, rfl⟩
set_option maxRecDepth 100000 in
set_option maxHeartbeats 1000000 in
theorem partOfWire_any (h : NH) (N : Nt) (g : Nat) (fs : List Int) (r : PzH) (x : Int) (w : World) (hv : valN N = true) (s : PzS w g h N fs r) (hx : inW N.w.length x = true) :
    Calls Tryz.prog 208 #[.pointer (some ⟨g, 0, none⟩), .int .i64 x] w fun e w' => e = .returned (.int .i64 (qN N fs (frN N x))) ∧ ∃ m, w' = w.drewN m := by
  have h48l := (valN_size hv).2
  have hxl := (inW_yes hx).2.1
  have ex := (inW_yes hx).2.2
  obtain ⟨hfr, hfl⟩ := fr_lt hv hx
  obtain ⟨bp, op, hPe, hpc⟩ := s.proAt (Below.refl g w) hxl
  rw [← ex, hfr] at hpc
  have HF1 := Lib.hid (fun n => quiet_sm (partOf_any g _ _ _ _ _ _ _ (frN N x) (w.drewN n) (s.box.drew n) s.uf (by omega)))
  obtain ⟨m0, m1, m2⟩ := s.box.three
  rw [hPe] at m1
  have hxi : x < (N.w.length : Int) := by omega
  have hx0 : 0 ≤ x := by omega
  clear hfr hPe s hx hv m0 h48l
  generalize frN N x = a at *
  generalize qN N fs a = v at *
  generalize x.toNat = ix at *
  subst ex
  go_enter Tryz.func208, Tryz.ntmps208
  go_upto_region 1 with (fail)
  go_quiet (first | (go_at_call 145; exact HF1.out _))
  go_wp2
  go_ret
  exact ⟨rfl, _, rfl⟩
theorem okF_is {N : Nt} {fs : List Int} {k : Nat} (hk : k < N.l.length) : okF N fs (k : Int) = (!fs.contains (k : Int) && rdyQ N (qN N fs) (N.l.getD k Lk.nil)) := by
  have : inW N.l.length (k : Int) = true := decide_eq_true (by omega)
  unfold okF
  rw [this, Bool.true_and, Int.toNat_natCast]
set_option maxRecDepth 100000 in
set_option maxHeartbeats 1000000 in
theorem isReady_any (h : NH) (N : Nt) (g : Nat) (fs : List Int) (r : PzH) (k : Nat) (w : World) (hv : valN N = true) (s : PzS w g h N fs r) (hk : k < N.l.length) :
    Calls Tryz.prog 187 #[.pointer (some ⟨g, 0, none⟩), .int .i64 k] w fun e w' => e = .returned (.bool (okF N fs (k : Int))) ∧ Below w.heap.size w w' := by
  have h48l := (valN_size hv).2
  rw [okF_is hk]
  have hok := s.ok
  have hfit := fitsN_yes (link_fits hv hk)
  obtain ⟨b, off, hLe, l0, l1, l2, l3⟩ := s.link (Below.refl g w) hk
  obtain ⟨m0, m1, m2⟩ := s.box.three
  have hki : (k : Int) < (N.l.length : Int) := by omega
  have HRI := Lib.hid (fun h1 => ready_is hv hok hk h1)
  have hc : (!fs.contains (k : Int)) = !decide (qN N fs k ≠ -1) := by
    congr 1
    rw [Bool.eq_iff_iff, List.contains_iff_mem, decide_eq_true_eq]; exact (hok.mem k).symm
  have HC := Lib.hid hc
  obtain ⟨⟨lk, la, lb, lc⟩, hl⟩ : ∃ l, N.l.getD k Lk.nil = l := ⟨_, rfl⟩
  rw [hl] at l0 l1 l2 l3 hfit HRI ⊢
  dsimp only at l0 l1 l2 l3 hfit HRI
  obtain ⟨ha, hb, _, _⟩ := hfit
  obtain ⟨bl, z0, z1, z2, z3, zs⟩ := lnk_any w ⟨lk, la, lb, lc⟩ 103
  dsimp only at bl z0 z1 z2 z3
  obtain ⟨u1, hu1⟩ : ∃ u1, u1 = w.alloc (.cells #[.int .i64 lk, .int .i64 la, .int .i64 lb, .int .i64 lc] 103) := ⟨_, rfl⟩
  have HU1 := Lib.hid hu1
  rw [← hu1] at bl zs z0 z1 z2 z3
  have hs1 := s.below bl
  have HFK := Lib.hid (fired_any hs1 (k := k) (by omega))
  have HOA := Lib.hid (isOpen_any h N g fs r la u1 hv hs1 ha)
  have HOB := Lib.hid (fun n => isOpen_any h N g fs r lb (u1.drewN n) hv (hs1.drew n) hb)
  have HPA := Lib.hid (fun n => partOfWire_any h N g fs r la (u1.drewN n) hv (hs1.drew n) ha)
  have HPB := Lib.hid (fun n => partOfWire_any h N g fs r lb (u1.drewN n) hv (hs1.drew n) hb)
  have HZ := Lib.hid (fun n => And.intro (drewN_cell (wr := u1.drewN n) ⟨n, rfl⟩ z0) (And.intro (drewN_cell (wr := u1.drewN n) ⟨n, rfl⟩ z1) (drewN_cell (wr := u1.drewN n) ⟨n, rfl⟩ z2)))
  have HDN := Lib.hid (fun n => (bl.trans (below_drewN (Below.refl u1.heap.size u1) n |>.mono bl.size)))
  have HBL := Lib.hid bl
  rw [hLe] at m0
  clear hLe s hs1 hok hv hc h48l hl ha hb m1 m2 bl zs hu1
  by_cases h1 : lk = 1
  · subst h1
    have HE : Hid ((!decide (qN N fs k ≠ -1)) = (!fs.contains (k : Int) && rdyQ N (qN N fs) ⟨1, la, lb, lc⟩)) := Lib.hid (by rw [HC.out]; simp [rdyQ])
    clear HRI HC
    generalize decide (qN N fs k ≠ -1) = b1 at *
    go_enter Tryz.func187, Tryz.ntmps187
    go_wp2_with (fail)
    rw [← HU1.out]
    go_wp2_with (fail)
    refine HFK.out.mono ?_
    rintro e w1 ⟨rfl, rfl⟩
    go_wp2
    go_ret
    exact ⟨ret_bool HE.out, HBL.out⟩
  · have HE := Lib.hid (HRI.out h1)
    have d1 : (lk == 1) = false := by simpa using h1
    have hdec : (decide (qN N fs (frN N la) = qN N fs (frN N lb)) == decide (lk = 4)) = ((qN N fs (frN N la) == qN N fs (frN N lb)) == (lk == 4)) := rfl
    rw [hdec] at HE
    clear HRI HC h1 hdec
    generalize qN N fs (frN N la) = pa at *
    generalize qN N fs (frN N lb) = pb at *
    generalize (!fs.contains (k : Int) && rdyQ N (qN N fs) ⟨lk, la, lb, lc⟩) = res at *
    generalize opnQ N (qN N fs) la = oa at *
    generalize opnQ N (qN N fs) lb = ob at *
    go_enter Tryz.func187, Tryz.ntmps187
    go_wp2_with (fail)
    rw [← HU1.out]
    go_wp2_with (fail)
    refine HOA.out.mono ?_
    rintro e w2 ⟨rfl, n2, rfl⟩
    clear l0 l1 l2 l3 m0 z0 z1 z2 z3
    obtain ⟨z0, z1, z2⟩ := HZ.out n2
    cases oa with
    | false =>
      have HEE : Hid (false = res) := Lib.hid (by rw [← HE.out]; rfl)
      have HD2 := Lib.hid (HDN.out n2)
      go_wp2
      go_ret
      exact ⟨ret_bool HEE.out, HD2.out⟩
    | true =>
      go_wp2_with (fail)
      refine (HOB.out n2).mono ?_
      rintro e w3 ⟨rfl, n3, rfl⟩
      obtain ⟨n4, hn4⟩ : ∃ n4, (u1.drewN n2).drewN n3 = u1.drewN n4 := drewN_more ⟨n2, rfl⟩ n3
      rw [hn4]
      clear z0 z1 z2 hn4
      obtain ⟨z0, z1, z2⟩ := HZ.out n4
      cases ob with
      | false =>
        have HEE : Hid (false = res) := Lib.hid (by rw [← HE.out]; rfl)
        have HD2 := Lib.hid (HDN.out n4)
        go_wp2
        go_ret
        exact ⟨ret_bool HEE.out, HD2.out⟩
      | true =>
        have HEE : Hid (((pa == pb) == (lk == 4)) = res) := Lib.hid (by rw [← HE.out]; simp)
        have HPA2 := Lib.hid (fun n => show Calls Tryz.prog 208 #[.pointer (some ⟨g, 0, none⟩), .int .i64 la] ((u1.drewN n4).drewN n) fun e w' => e = .returned (.int .i64 pa) ∧ ∃ m, w' = (u1.drewN n4).drewN m from by
          obtain ⟨n5, hn5⟩ : ∃ n5, (u1.drewN n4).drewN n = u1.drewN n5 := drewN_more ⟨n4, rfl⟩ n
          have := HPA.out n5
          rw [← hn5] at this
          exact this.mono fun e w' ⟨he, m, hm⟩ => ⟨he, drewN_more ⟨n, rfl⟩ m |>.imp fun m2 hm2 => hm.trans hm2⟩)
        have HPB2 := Lib.hid (fun n => show Calls Tryz.prog 208 #[.pointer (some ⟨g, 0, none⟩), .int .i64 lb] ((u1.drewN n4).drewN n) fun e w' => e = .returned (.int .i64 pb) ∧ ∃ m, w' = (u1.drewN n4).drewN m from by
          obtain ⟨n5, hn5⟩ : ∃ n5, (u1.drewN n4).drewN n = u1.drewN n5 := drewN_more ⟨n4, rfl⟩ n
          have := HPB.out n5
          rw [← hn5] at this
          exact this.mono fun e w' ⟨he, m, hm⟩ => ⟨he, drewN_more ⟨n, rfl⟩ m |>.imp fun m2 hm2 => hm.trans hm2⟩)
        have HZ2 := Lib.hid (fun n => And.intro (drewN_cell (wr := (u1.drewN n4).drewN n) ⟨n, rfl⟩ z0) (And.intro (drewN_cell (wr := (u1.drewN n4).drewN n) ⟨n, rfl⟩ z1) (drewN_cell (wr := (u1.drewN n4).drewN n) ⟨n, rfl⟩ z2)))
        have HD4 := Lib.hid (fun n => (HDN.out n4).trans (below_drewN (Below.refl (u1.drewN n4).heap.size (u1.drewN n4)) n |>.mono (HDN.out n4).size))
        generalize u1.drewN n4 = u4 at *
        go_upto_region 6 with (fail)
        go_quiet (first | (go_at_call 208; first | with_reducible exact HPA2.out _ | with_reducible exact HPB2.out _))
        clear z0 z1 z2
        obtain ⟨z0, z1, z2⟩ := HZ2.out nq
        have HD5 := Lib.hid (HD4.out nq)
        go_wp2
        go_ret
        exact ⟨ret_bool HEE.out, HD5.out⟩
end
section
open Go.ChangeAt Go.ChangeShapes Go.RowKit Go.WideShapes

/-- No part of the net lies in block b. -/
structure FarN (h : NH) (N : Nt) (b : Nat) : Prop where
  a : (Value.slice h.A N.w.length h.c).ownBlock ≠ some b
  i : ∀ i, i < N.w.length → (hv h.hs N.w i).ownBlock ≠ some b
  l : (Value.slice h.L N.l.length h.d).ownBlock ≠ some b
  c : (Value.slice h.C N.c.length h.e).ownBlock ≠ some b
section
variable {w w1 w' : World} {lo hi b : Nat} {h : NH} {N : Nt}
theorem OwnN.far_ge (o : OwnN w lo hi h N) (hb : hi ≤ b) : FarN h N b where
  a e := by have := o.q.top0 b e; omega
  i i hi e := by have := o.q.top i b hi e; omega
  l e := by have := o.lt b e; omega
  c e := by have := o.ct b e; omega
theorem OwnN.size (o : OwnN w lo hi h N) : OwnN w lo w.heap.size h N where
  q := ⟨o.q.outer, o.q.inner, o.q.apart, o.q.apart0, fun k e => (o.q.outer.lt k e).2, fun i k hi e => ((o.q.inner i hi).lt k e).2⟩
  l := o.l
  c := o.c
  lt b e := (o.l.lt b e).2
  ct b e := (o.c.lt b e).2
  lq := o.lq
  cq := o.cq
  lc := o.lc
/-- All blocks of the net are as they were. -/
theorem OwnN.stay (o : OwnN w lo hi h N) (hk : ∀ b, ¬ FarN h N b → w'.heap[b]? = w.heap[b]?) : OwnN w' lo hi h N where
  q := o.q.fine (fun b e => hk b fun f => f.a e) (fun i hi b e => hk b fun f => f.i i hi e)
  l := own_same o.l fun b e => hk b fun f => f.l e
  c := own_same o.c fun b e => hk b fun f => f.c e
  lt := o.lt
  ct := o.ct
  lq := o.lq
  cq := o.cq
  lc := o.lc
theorem OwnN.farSet (o : OwnN w lo hi h N) (f : FarN h N b) (j : Nat) (v : Value) : OwnN (w.setCell ⟨b, j, none⟩ v) lo hi h N :=
  o.stay fun k hk => Below.heap_setCell _ _ _ _ (fun e => hk (by have e' : k = b := e; rw [e']; exact f))
/-- Another row of conclusions. -/
theorem OwnN.setC {C : Option Addr} {e : Nat} {cs : List Int} (o : OwnN w lo w.heap.size h N) (hb : Below w.heap.size w w') (hlo : lo ≤ w.heap.size) (hc : w'.ownsRow w.heap.size 2 1 (.slice C cs.length e) cs.length (cs.map (Value.int .i64))) :
    OwnN w' lo w'.heap.size ⟨h.A, h.c, h.hs, h.L, h.d, C, e⟩ ⟨N.w, N.l, cs⟩ := by
  have o2 := (o.below hb).size
  exact {
    q := o2.q
    l := o2.l
    c := hc.mono hlo
    lt := o2.lt
    ct := fun b e => (hc.lt b e).2
    lq := o2.lq
    cq := fun b e => by
      have h1 := (hc.lt b e).1
      have f := o.far_ge h1
      exact ⟨f.a, f.i⟩
    lc := fun b e e2 => by
      have h1 := (hc.lt b e2).1
      exact (o.far_ge h1).l e }
theorem FarN.setC {C : Option Addr} {e m : Nat} {cs : List Int} (f : FarN h N b) (hc : w'.ownsRow m 2 1 (.slice C cs.length e) cs.length (cs.map (Value.int .i64))) (hb : b < m) : FarN ⟨h.A, h.c, h.hs, h.L, h.d, C, e⟩ ⟨N.w, N.l, cs⟩ b :=
  ⟨f.a, f.i, f.l, fun e => by have := (hc.lt b e).1; omega⟩
/-- A longer row of conclusions, in the old block or in a new one. -/
theorem OwnN.pushC {C : Option Addr} {e : Nat} {cs : List Int} (o : OwnN w lo w.heap.size h N) (hb : Below w.heap.size w w1) (hc : w'.ownsRow lo 2 1 (.slice C cs.length e) cs.length (cs.map (Value.int .i64))) (hg : w1.grownBy w' (Value.slice h.C N.c.length h.e).ownBlock)
    (hat : (Value.slice C cs.length e).ownBlock = (Value.slice h.C N.c.length h.e).ownBlock ∨ (Value.slice C cs.length e).ownBlock = some w1.heap.size) : OwnN w' lo w'.heap.size ⟨h.A, h.c, h.hs, h.L, h.d, C, e⟩ ⟨N.w, N.l, cs⟩ := by
  have s1 := hb.size
  have hk : ∀ b, b < w.heap.size → (Value.slice h.C N.c.length h.e).ownBlock ≠ some b → w'.heap[b]? = w.heap[b]? := fun b h1 h2 => (hg.block b (by omega) (fun e => h2 e.symm)).trans (hb.block b h1)
  have q' : OwnQ w' lo w.heap.size (.slice h.A N.w.length h.c) h.hs N.w := o.q.fine (fun b e => hk b (o.q.top0 b e) (fun e2 => (o.cq b e2).1 e)) (fun i hi b e => hk b (o.q.top i b hi e) (fun e2 => (o.cq b e2).2 i hi e))
  have l' := own_same o.l fun b e => hk b (o.lt b e) (o.lc b e)
  have s2 : w.heap.size ≤ w'.heap.size := Nat.le_trans s1 hg.size
  exact {
    q := q'.more (Nat.le_refl _) s2
    l := l'
    c := hc
    lt := fun b e => Nat.lt_of_lt_of_le (o.lt b e) s2
    ct := fun b e => (hc.lt b e).2
    lq := o.lq
    cq := fun b e => by
      rcases hat with h2 | h2
      · exact o.cq b (h2 ▸ e)
      · have h3 : w1.heap.size = b := by rw [h2] at e; injection e
        have f := o.far_ge (show w.heap.size ≤ b by omega)
        exact ⟨f.a, f.i⟩
    lc := fun b e e2 => by
      rcases hat with h2 | h2
      · exact o.lc b e (h2 ▸ e2)
      · have h3 : w1.heap.size = b := by rw [h2] at e2; injection e2
        exact (o.far_ge (show w.heap.size ≤ b by omega)).l e }
theorem FarN.pushC {C : Option Addr} {e m : Nat} {cs : List Int} (f : FarN h N b) (hat : (Value.slice C cs.length e).ownBlock = (Value.slice h.C N.c.length h.e).ownBlock ∨ (Value.slice C cs.length e).ownBlock = some m) (hb : b < m) : FarN ⟨h.A, h.c, h.hs, h.L, h.d, C, e⟩ ⟨N.w, N.l, cs⟩ b :=
  ⟨f.a, f.i, f.l, fun e => by
    rcases hat with h2 | h2
    · exact f.c (h2 ▸ e)
    · rw [h2] at e; injection e with e; omega⟩
/-- A longer row of links, in the old block or in a new one. -/
theorem OwnN.pushL {L : Option Addr} {d : Nat} {ls : List Lk} (o : OwnN w lo w.heap.size h N) (hb : Below w.heap.size w w1) (hl : w'.ownsRow lo 103 4 (.slice L ls.length d) ls.length ((flL ls).map (Value.int .i64))) (hg : w1.grownBy w' (Value.slice h.L N.l.length h.d).ownBlock)
    (hat : (Value.slice L ls.length d).ownBlock = (Value.slice h.L N.l.length h.d).ownBlock ∨ (Value.slice L ls.length d).ownBlock = some w1.heap.size) : OwnN w' lo w'.heap.size ⟨h.A, h.c, h.hs, L, d, h.C, h.e⟩ ⟨N.w, ls, N.c⟩ := by
  have s1 := hb.size
  have hk : ∀ b, b < w.heap.size → (Value.slice h.L N.l.length h.d).ownBlock ≠ some b → w'.heap[b]? = w.heap[b]? := fun b h1 h2 => (hg.block b (by omega) (fun e => h2 e.symm)).trans (hb.block b h1)
  have q' : OwnQ w' lo w.heap.size (.slice h.A N.w.length h.c) h.hs N.w := o.q.fine (fun b e => hk b (o.q.top0 b e) (fun e2 => (o.lq b e2).1 e)) (fun i hi b e => hk b (o.q.top i b hi e) (fun e2 => (o.lq b e2).2 i hi e))
  have c' := own_same o.c fun b e => hk b (o.ct b e) (fun e2 => o.lc b e2 e)
  have s2 : w.heap.size ≤ w'.heap.size := Nat.le_trans s1 hg.size
  exact {
    q := q'.more (Nat.le_refl _) s2
    l := hl
    c := c'
    lt := fun b e => (hl.lt b e).2
    ct := fun b e => Nat.lt_of_lt_of_le (o.ct b e) s2
    lq := fun b e => by
      rcases hat with h2 | h2
      · exact o.lq b (h2 ▸ e)
      · have h3 : w1.heap.size = b := by rw [h2] at e; injection e
        have f := o.far_ge (show w.heap.size ≤ b by omega)
        exact ⟨f.a, f.i⟩
    cq := o.cq
    lc := fun b e e2 => by
      rcases hat with h2 | h2
      · exact o.lc b (h2 ▸ e) e2
      · have h3 : w1.heap.size = b := by rw [h2] at e; injection e
        exact (o.far_ge (show w.heap.size ≤ b by omega)).c e2 }
theorem FarN.pushL {L : Option Addr} {d m : Nat} {ls : List Lk} (f : FarN h N b) (hat : (Value.slice L ls.length d).ownBlock = (Value.slice h.L N.l.length h.d).ownBlock ∨ (Value.slice L ls.length d).ownBlock = some m) (hb : b < m) : FarN ⟨h.A, h.c, h.hs, L, d, h.C, h.e⟩ ⟨N.w, ls, N.c⟩ b :=
  ⟨f.a, f.i, fun e => by
    rcases hat with h2 | h2
    · exact f.l (h2 ▸ e)
    · rw [h2] at e; injection e with e; omega, f.c⟩
/-- One wire more. -/
theorem OwnN.pushW {w6 w7 : World} {A6 : Option Addr} {c6 g cap : Nat} {dq : List Int} (o : OwnN w lo w.heap.size h N) (hlo : lo ≤ w.heap.size) (bel6 : Below w.heap.size w w6) (own6 : w6.ownsRow w.heap.size 2 1 (.slice A6 dq.length c6) dq.length (dq.map (Value.int .i64)))
    (hown7 : w7.ownsRow lo 24 1 (.slice (some ⟨g, 0, none⟩) (N.w.length + 1) cap) (N.w.length + 1) (rowV h.hs N.w ++ [.slice A6 dq.length c6])) (hgrow7 : (w6.alloc (.cells #[.slice A6 dq.length c6] 24)).grownBy w7 (Value.slice h.A N.w.length h.c).ownBlock)
    (hat7 : (Value.slice h.A N.w.length h.c).ownBlock = some g ∨ g = (w6.alloc (.cells #[.slice A6 dq.length c6] 24)).heap.size) :
    OwnN w7 lo w7.heap.size ⟨some ⟨g, 0, none⟩, cap, upd h.hs N.w.length (A6, c6), h.L, h.d, h.C, h.e⟩ ⟨N.w ++ [dq], N.l, N.c⟩ ∧ ∀ b, b < w.heap.size → FarN h N b → FarN ⟨some ⟨g, 0, none⟩, cap, upd h.hs N.w.length (A6, c6), h.L, h.d, h.C, h.e⟩ ⟨N.w ++ [dq], N.l, N.c⟩ b := by
  obtain ⟨q7, _⟩ := push_own o.q rfl hlo bel6 own6 hown7 hgrow7 hat7
  have hlen : (N.w ++ [dq]).length = N.w.length + 1 := by simp
  have hbx := box_below w6 (.slice A6 dq.length c6) 24
  have s6 := bel6.size
  have sx := hbx.size
  have s7 := hgrow7.size
  have hk : ∀ b, b < w.heap.size → (Value.slice h.A N.w.length h.c).ownBlock ≠ some b → w7.heap[b]? = w.heap[b]? := fun b h1 h2 =>
    (hgrow7.block b (by omega) (fun e => h2 e.symm)).trans ((hbx.block b (by omega)).trans (bel6.block b h1))
  have gb : ∀ b, b < w.heap.size → (Value.slice h.A N.w.length h.c).ownBlock ≠ some b → (Value.slice (some ⟨g, 0, none⟩) (N.w.length + 1) cap).ownBlock ≠ some b := fun b h1 h2 e => by
    have e' : g = b := by simpa [Value.ownBlock] using e
    rcases hat7 with h3 | h3
    · rw [e'] at h3; exact h2 h3
    · omega
  have ib : ∀ b, b < w.heap.size → (∀ i, i < N.w.length → (hv h.hs N.w i).ownBlock ≠ some b) → ∀ i, i < (N.w ++ [dq]).length → (hv (upd h.hs N.w.length (A6, c6)) (N.w ++ [dq]) i).ownBlock ≠ some b := fun b h1 h2 i hi e => by
    rw [hlen] at hi
    by_cases hn : i < N.w.length
    · refine h2 i hn ?_
      rw [← e]
      unfold hv upd
      rw [if_neg (by omega)]
      congr 2
      simp [List.getD, List.getElem?_append_left hn]
    · obtain rfl : i = N.w.length := by omega
      unfold hv upd at e
      rw [if_pos rfl] at e
      have e3 : (N.w ++ [dq]).getD N.w.length [] = dq := by simp [List.getD]
      rw [e3] at e
      have := (own6.lt b e).1
      omega
  have l' := own_same (w' := w7) o.l fun b e => hk b (o.lt b e) (o.lq b e).1
  have c' := own_same (w' := w7) o.c fun b e => hk b (o.ct b e) (o.cq b e).1
  refine ⟨?_, fun b hb f => ?_⟩
  · exact {
      q := by show OwnQ w7 lo w7.heap.size (.slice (some ⟨g, 0, none⟩) (N.w ++ [dq]).length cap) _ _; rw [hlen]; exact q7
      l := l'
      c := c'
      lt := fun b e => (l'.lt b e).2
      ct := fun b e => (c'.lt b e).2
      lq := fun b e => ⟨by show (Value.slice (some ⟨g, 0, none⟩) (N.w ++ [dq]).length cap).ownBlock ≠ _; rw [hlen]; exact gb b (o.lt b e) (o.lq b e).1, ib b (o.lt b e) (o.lq b e).2⟩
      cq := fun b e => ⟨by show (Value.slice (some ⟨g, 0, none⟩) (N.w ++ [dq]).length cap).ownBlock ≠ _; rw [hlen]; exact gb b (o.ct b e) (o.cq b e).1, ib b (o.ct b e) (o.cq b e).2⟩
      lc := o.lc }
  · exact ⟨by show (Value.slice (some ⟨g, 0, none⟩) (N.w ++ [dq]).length cap).ownBlock ≠ _; rw [hlen]; exact gb b hb f.a, ib b hb f.i, f.l, f.c⟩
end
end
end Go.Proofs.YtfdpkhiiboghiaaGreatDoor
