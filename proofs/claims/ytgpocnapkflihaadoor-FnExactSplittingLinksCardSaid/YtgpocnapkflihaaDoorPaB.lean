/- The parsing of a net: fire. -/
import Derived.Test.YtgpocnapkflihaaDoorPaA
import Derived.Deep.RegionHeldLaw
import Derived.Deep.DeepCutAuto
import Derived.BigQuiet
namespace Go.Proofs.YtgpocnapkflihaaDoor
set_option linter.unusedSimpArgs false
set_option linter.unusedVariables false
open Go.ChangeAt Go.ChangeShapes Go.RowKit Go.WideShapes

/-- Where the rows of a parsing lie. -/
structure PzH where
  T : List Int
  P : Option Addr
  p : Nat
  C : Option Addr
  q : Nat
  A : Option Addr
  a : Nat
/-- The parsing of a net in block g, of which some links have been fired. -/
structure PzS (w : World) (g : Nat) (h : NH) (N : Nt) (fs : List Int) (r : PzH) : Prop where
  box : PzB w g (.slice h.L N.l.length h.d) (.slice r.P N.w.length r.p) (.slice r.C N.w.length r.q) r.T (cntQ (qN N fs)) (.slice r.A fs.length r.a)
  uf : Uf r.T (qN N fs)
  isf : isF N fs = true
  pro : RdI w g r.P N.w.length (lxL outL N)
  con : RdI w g r.C N.w.length (lxL inL N)
  lnk : RdL w g h.L N.l.length N.l
  own : w.ownsRow (g + 1) 2 1 (.slice r.A fs.length r.a) fs.length (fs.map (Value.int .i64))
section
variable {w w' : World} {g : Nat} {h : NH} {N : Nt} {fs : List Int} {r : PzH}
theorem PzS.lt (s : PzS w g h N fs r) : g < w.heap.size := s.box.lt
theorem PzS.below (s : PzS w g h N fs r) (hb : Below w.heap.size w w') : PzS w' g h N fs r := by
  have hg := s.lt
  have hb2 : Below g w w' := hb.mono (Nat.le_of_lt hg)
  exact ⟨s.box.keep (hb.block _ hg), s.uf, s.isf, s.pro.below hb2, s.con.below hb2, s.lnk.below hb2, own_same s.own fun k e => hb.block k (s.own.lt k e).2⟩
theorem PzS.ok (s : PzS w g h N fs r) : QOk N fs (qN N fs) := isF_ok s.isf
/-- The cells of a link, the producer and the consumer of a wire. -/
theorem PzS.link (s : PzS w g h N fs r) (hb : Below g w w') {k : Nat} (hk : k < N.l.length) : ∃ b off, h.L = some ⟨b, off, none⟩ ∧ w'.cell? ⟨b, off + k * 4, none⟩ = some (.int .i64 (N.l.getD k Lk.nil).k) ∧ w'.cell? ⟨b, off + k * 4 + 1, none⟩ = some (.int .i64 (N.l.getD k Lk.nil).a) ∧ w'.cell? ⟨b, off + k * 4 + 2, none⟩ = some (.int .i64 (N.l.getD k Lk.nil).b) ∧ w'.cell? ⟨b, off + k * 4 + 3, none⟩ = some (.int .i64 (N.l.getD k Lk.nil).c) := by
  obtain ⟨b, off, e, _, hc⟩ := (s.lnk.below hb).at (show 0 < N.l.length by omega)
  exact ⟨b, off, e, hc k hk⟩
theorem PzS.proAt (s : PzS w g h N fs r) (hb : Below g w w') {x : Nat} (hx : x < N.w.length) : ∃ b off, r.P = some ⟨b, off, none⟩ ∧ w'.cell? ⟨b, off + x, none⟩ = some (.int .i64 (lxN outL N (x : Int))) := by
  obtain ⟨b, off, e, _, hc⟩ := (s.pro.below hb).2 (show 0 < N.w.length by omega)
  have := hc x hx
  rw [lxL_at outL N hx] at this
  exact ⟨b, off, e, this⟩
theorem PzS.conAt (s : PzS w g h N fs r) (hb : Below g w w') {x : Nat} (hx : x < N.w.length) : ∃ b off, r.C = some ⟨b, off, none⟩ ∧ w'.cell? ⟨b, off + x, none⟩ = some (.int .i64 (lxN inL N (x : Int))) := by
  obtain ⟨b, off, e, _, hc⟩ := (s.con.below hb).2 (show 0 < N.w.length by omega)
  have := hc x hx
  rw [lxL_at inL N hx] at this
  exact ⟨b, off, e, this⟩
end
theorem own_shapeP {w : World} {base n : Nat} {e : TypeId} {v : Value} {xs : List Value} (h : w.ownsRow base e 1 v n xs) : ∃ A c, v = .slice A n c := by
  rcases h.2 with ⟨rfl, rfl⟩ | ⟨g, cap, cur, rfl, _, _, hn, _⟩
  · exact ⟨_, _, rfl⟩
  · exact ⟨_, _, rfl⟩
theorem kept_below {g : Nat} {w w' : World} (h : KeptS (fun k => k = g) w w') (hg : g < w.heap.size) : Below g w w' :=
  ⟨h.os, h.tape, h.output, h.size, fun k hk => h.block k (by omega) (by show ¬ k = g; omega)⟩
set_option maxRecDepth 100000 in
set_option maxHeartbeats 1000000 in
/-- fire: a link that is ready is fired. -/
theorem fire_any (h : NH) (N : Nt) (g f : Nat) (fs : List Int) (r : PzH) (w : World) (hv : valN N = true) (s : PzS w g h N fs r) (ho : okF N fs (f : Int) = true) :
    Calls Tryd.prog 62 #[.pointer (some ⟨g, 0, none⟩), .int .i64 f] w fun e w' => e = .returned (.tuple #[]) ∧ (∃ r', PzS w' g h N (fs ++ [(f : Int)]) r') ∧ Below g w w' := by
  obtain ⟨i0, hi0, hz0, hz1, hz2⟩ := info_parts info_i64
  obtain ⟨ho1, ho2, ho3⟩ := okF_yes ho
  have hfl := (inW_yes ho1).2.1
  rw [Int.toNat_natCast] at hfl ho3
  obtain ⟨h48, h48l⟩ := valN_size hv
  have hok := s.ok
  have hflen := hok.len
  have hg := s.lt
  have hT := s.uf.len
  have hf8 : f < 48 := by omega
  have hqf : qN N fs f = -1 := Decidable.byContradiction fun e => ho2 ((hok.mem f).1 e)
  have hadd := s.uf.add hf8 hqf
  have hcb := cntQ_le (qN N fs)
  -- what stands behind the append and its store
  have HAPP : Hid (∀ v' w2, w2.ownsRow (g + 1) 2 1 v' (fs.length + 1) (fs.map (Value.int .i64) ++ [.int .i64 f]) → (w.alloc (.cells #[.int .i64 f] 2)).grownBy w2 (Value.slice r.A fs.length r.a).ownBlock →
      ∃ A c, v' = .slice A (fs.length + 1) c ∧ PzB w2 g (.slice h.L N.l.length h.d) (.slice r.P N.w.length r.p) (.slice r.C N.w.length r.q) r.T (cntQ (qN N fs)) (.slice r.A fs.length r.a) ∧ Below g w w2) := Lib.hid fun v' w2 hown hgr => by
    obtain ⟨A, c, rfl⟩ := own_shapeP hown
    have hba : Below g w (w.alloc (.cells #[.int .i64 f] 2)) := (Below.refl _ _).alloc (Nat.le_of_lt hg) _
    have hba2 : Below w.heap.size w (w.alloc (.cells #[.int .i64 f] 2)) := (Below.refl _ _).alloc (Nat.le_refl _) _
    refine ⟨A, c, rfl, ?_, hba.grown hgr (Nat.le_trans (Nat.le_of_lt hg) hba.size) fun q hq => by have := (s.own.lt q hq).1; omega⟩
    refine s.box.keep ?_
    rw [hgr.block g (by simp; omega) fun e => by have := (s.own.lt _ e.symm).1; omega]
    exact hba2.block g hg
  have HADD : Hid (∀ w3 A c, PzB w3 g (.slice h.L N.l.length h.d) (.slice r.P N.w.length r.p) (.slice r.C N.w.length r.q) r.T (cntQ (qN N fs)) (.slice A (fs.length + 1) c) →
      Calls Tryd.prog 94 #[.pointer (some ⟨g, 3, none⟩), .int .i64 f] w3 fun e w' => e = .returned (.tuple #[]) ∧ PzB w' g (.slice h.L N.l.length h.d) (.slice r.P N.w.length r.p) (.slice r.C N.w.length r.q) (r.T.set f (f : Int)) (cntQ (fiQ N (qN N fs) f 0)) (.slice A (fs.length + 1) c) ∧ KeptS (fun k => k = g) w3 w') := Lib.hid fun w3 A c hP => by
    have := addL_any g _ _ _ _ r.T (cntQ (qN N fs)) f w3 hP hT hf8 hcb
    rw [← hadd.2] at this
    exact this
  have HU0 : Hid (Uf (r.T.set f (f : Int)) (fiQ N (qN N fs) f 0)) := Lib.hid hadd.1
  have x0 := s.box.row hT
  have f0 := s.box.frozen 52
  have HB52 := Lib.hid (fun (w2 : World) (A : Option Addr) (c : Nat) (hP : PzB w2 g (.slice h.L N.l.length h.d) (.slice r.P N.w.length r.p) (.slice r.C N.w.length r.q) r.T (cntQ (qN N fs)) (.slice r.A fs.length r.a)) => And.intro (hP.row hT) (And.intro (hP.frozen 52) (hP.setF hT (.slice A (fs.length + 1) c))))
  have HFG := Lib.hid (fun j hj => fi_ge hok ho3 j hj)
  have HALL := Lib.hid (fi_all hok ho2 ho3)
  have HLK := Lib.hid (fun (wx : World) (hx : Below g w wx) => s.link hx hfl)
  have HPR := Lib.hid (fun (wx : World) (hx : Below g w wx) (x : Nat) (hx2 : x < N.w.length) => s.proAt hx hx2)
  have HSN := Lib.hid (isF_snoc s.isf ho)
  have HQN := Lib.hid (qN_snoc N fs (f : Int))
  have HOWN := Lib.hid s.own
  have HPRO := Lib.hid (fun (wx : World) (hx : Below g w wx) => s.pro.below hx)
  have HCON := Lib.hid (fun (wx : World) (hx : Below g w wx) => s.con.below hx)
  have HLNK := Lib.hid (fun (wx : World) (hx : Below g w wx) => s.lnk.below hx)
  have HIN := Lib.hid (fun t (ht : t < (inL (N.l.getD f Lk.nil)).length) => (oneP_in hv).ins f hfl t ht)
  have HFR := Lib.hid (fun (x : Int) (hx : inW N.w.length x = true) => fr_lt hv hx)
  have hil := inL_len (N.l.getD f Lk.nil)
  have HI := Lib.hid hi0; have HZ0 := Lib.hid hz0; have HZ1 := Lib.hid hz1; have HZ2 := Lib.hid hz2
  have hgg := Nat.le_of_lt hg
  have HH48 := Lib.hid h48l
  have hfi : (f : Int) < (N.l.length : Int) := by omega
  clear hi0 hz0 hz1 hz2 s ho ho1 ho2 ho3 hok hT hqf hadd hcb hv h48
  go_enter Tryd.func62, Tryd.ntmps62
  go_wp2_with (at_builtin; refine wpList_append_own _ rfl _ _ 24 rfl (g + 1) 2 i0 (.int .i64 0) 1 8 Tryd.underlying24 HI.out HZ0.out HZ1.out HZ2.out rfl (by decide) _ _ _ rfl (HOWN.out.alloc _) ⟨w.heap.size, 0, none⟩ 1 1 [.int .i64 f] rfl rfl ?c1 ?c2 ?c3 ?c4 ?c5 ?_)
  case c1 => exact cell_one_new _ _ _
  case c2 => intro u hu; simp at hu; subst hu; rfl
  case c3 => unfold maxLen; omega
  case c4 => omega
  case c5 => simp; omega
  intro v' w2 hown' hgrow _
  obtain ⟨A2, c2, rfl, hP2, hB2⟩ := HAPP.out _ _ hown' hgrow
  obtain ⟨y0, z0, hP3⟩ := HB52.out w2 A2 c2 hP2
  obtain ⟨w3, hw3⟩ : ∃ w3, w3 = w2.setCell ⟨g, 52, none⟩ (.slice A2 (fs.length + 1) c2) := ⟨_, rfl⟩
  rw [← hw3] at hP3
  have hB3 : Below g w w3 := by rw [hw3]; exact hB2.setCell (p := ⟨g, 52, none⟩) (Nat.le_refl _) _
  have hO3 : w3.ownsRow (g + 1) 2 1 (.slice A2 (fs.length + 1) c2) (fs.length + 1) ((fs ++ [(f : Int)]).map (Value.int .i64)) := by
    rw [List.map_append, hw3]
    exact own_same hown' fun k e => heap_setCell_other _ _ _ _ (by show k ≠ g; have := (hown'.lt k e).1; omega)
  have HW3 := Lib.hid hw3; have HB3 := Lib.hid hB3; have HO3 := Lib.hid hO3; have HP3 := Lib.hid hP3
  clear hown' hgrow hP2 hB2 hw3 hB3 hO3 hP3 x0 f0
  go_wp2_with (fail)
  rw [← HW3.out]
  clear y0 z0 HW3
  refine (HADD.out w3 A2 c2 HP3.out).mono ?_
  rintro e w4 ⟨rfl, hP4, hK4⟩
  have hg3 := HP3.out.lt
  have HB4 := Lib.hid (HB3.out.trans (kept_below hK4 hg3))
  have HO4 : Hid (w4.ownsRow (g + 1) 2 1 (.slice A2 (fs.length + 1) c2) (fs.length + 1) ((fs ++ [(f : Int)]).map (Value.int .i64))) := Lib.hid (own_same HO3.out fun k e => hK4.block k (HO3.out.lt k e).2 (by have := (HO3.out.lt k e).1; show ¬ k = g; omega))
  have HP4 := Lib.hid hP4
  have hg4 := hP4.lt
  obtain ⟨x0, x1, x2⟩ := hP4.three
  obtain ⟨b, off, hA, l0, l1, l2, l3⟩ := HLK.out _ HB4.out
  clear hK4 hP4 HO3 HB3 HP3 hg3 x1 x2
  obtain ⟨⟨lk, la, lb, lc⟩, hl⟩ : ∃ l, N.l.getD f Lk.nil = l := ⟨_, rfl⟩
  rw [hl] at l0 l1 l2 l3 HFG HALL HIN hil
  have HL := Lib.hid hl
  dsimp only at l0 l1 l2 l3
  clear hl
  rw [hA] at x0
  go_wp2_with (fail)
  refine (show Calls Tryd.prog 91 #[.agg #[.int .i64 lk, .int .i64 la, .int .i64 lb, .int .i64 lc]] w4 (Gives w4 (inL ⟨lk, la, lb, lc⟩)) from inputsOf_any ⟨lk, la, lb, lc⟩ w4).mono ?_
  rintro e w5 ⟨A5, c5, rfl, o5, b5⟩
  have HB5 := Lib.hid (HB4.out.trans (b5.mono (show g ≤ w4.heap.size by omega)))
  have HO5 : Hid (w5.ownsRow (g + 1) 2 1 (.slice A2 (fs.length + 1) c2) (fs.length + 1) ((fs ++ [(f : Int)]).map (Value.int .i64))) := Lib.hid (own_below HO4.out b5 (Nat.le_refl _))
  have HP5 := Lib.hid (HP4.out.keep (b5.block _ hg4))
  have R5 := Lib.hid (RdI.of_own o5)
  have HLO := Lib.hid (fun b (e : Value.ownBlock (.slice A5 (inL ⟨lk, la, lb, lc⟩).length c5) = some b) => (o5.lt b e))
  have hsz5 := b5.size
  have HFI : Hid (∀ j, fiQ N (qN N fs) f (j + 1) = uniQ (fiQ N (qN N fs) f j) f (frN N ((inL ⟨lk, la, lb, lc⟩).getD j 0))) := Lib.hid fun j => by rw [← HL.out]; rfl
  clear o5 b5 HB4 HO4 HP4 l0 l1 l2 l3 x0
  generalize inL ⟨lk, la, lb, lc⟩ = X at *
  go_wp2
  go_loopw [30] (fun i wx => ∃ (j : Nat) (T' : List Int), j ≤ X.length ∧ i = .int .i64 j ∧ PzB wx g (.slice h.L N.l.length h.d) (.slice r.P N.w.length r.p) (.slice r.C N.w.length r.q) T' (cntQ (fiQ N (qN N fs) f j)) (.slice A2 (fs.length + 1) c2) ∧ Uf T' (fiQ N (qN N fs) f j) ∧ KeptS (fun k => k = g) w5 wx) (fun i _ => X.length - (intOf i).toNat)
  case atStart => exact ⟨0, _, Nat.zero_le _, rfl, HP5.out, HU0.out, KeptS.refl _ _⟩
  case round =>
    obtain ⟨j, T', hj, rfl, hP, hU, hK⟩ := hrel
    have HBX := Lib.hid (HB5.out.trans (kept_below hK HP5.out.lt))
    by_cases hlt : j < X.length
    · obtain ⟨bo, offo, rfl, hbo, hco⟩ := R5.out.2 (by omega)
      have hbl := (HLO.out bo rfl).1
      have hx0 : wr.cell? ⟨bo, offo + j, none⟩ = some (.int .i64 (X.getD j 0)) := (World.cell?_of_block (a := ⟨bo, offo + j, none⟩) (hK.block bo hbo (show ¬ bo = g by omega))).trans (hco j hlt)
      have hin := HIN.out j hlt
      obtain ⟨hg1, hg2⟩ := HFG.out j (by omega)
      have hg3 := hg2 j hlt
      have hfi := HFI.out j
      obtain ⟨hfr1, hfr2⟩ := HFR.out _ hin
      obtain ⟨z, hz⟩ : ∃ z, X.getD j 0 = z := ⟨_, rfl⟩
      rw [hz] at hx0 hin hg3 hfi hfr1 hfr2
      have hzl := (inW_yes hin).2.1
      have ez := (inW_yes hin).2.2
      obtain ⟨bp, offp, hPe, hpc⟩ := HPR.out _ HBX.out z.toNat hzl
      rw [← ez, hfr1] at hpc
      obtain ⟨m0, m1, m2⟩ := hP.three
      rw [hPe] at m1
      obtain ⟨Q, hQ⟩ : ∃ Q, fiQ N (qN N fs) f j = Q := ⟨_, rfl⟩
      rw [hQ] at hP hU hg1 hg3 hfi
      have hun := unite_any g _ _ _ _ T' Q f (frN N z) wr.drew (show PzB wr.drew _ _ _ _ _ _ _ from hP) hU hf8 (by have := HH48.out; omega) (by omega) (by omega)
      have hkd := hK.trans (KeptS.of_below (S := fun k => k = g) ((Below.refl wr.heap.size wr).drew))
      have HKD := Lib.hid hkd
      have HUN := Lib.hid hun
      have HFIJ := Lib.hid hfi
      have HKJ := Lib.hid hK
      clear hco hin hg2 hz hfr1 hP hU hun hfi m0 m2 hK hg1 hg3 hkd
      generalize hzn : z.toNat = iz at *
      subst ez
      have hzi : (iz : Int) < (N.w.length : Int) := by omega
      have HKX := Lib.hid HKD.out
      go_upto_region 5 with (fail)
      go_region_with (go_at_call 95; refine HUN.out.mono ?_; rintro e w6 ⟨rfl, hT6⟩; have HT6 := Lib.hid hT6; clear hT6)
      all_goals (obtain ⟨T6, hP6, hU6, hK6⟩ := HT6.out)
      all_goals (rw [← HFIJ.out] at hP6 hU6)
      all_goals (have HE := Lib.hid (And.intro hP6 (And.intro hU6 (HKX.out.trans hK6))); clear hP6 hU6 hK6)
      all_goals go_wp2
      all_goals go_roundw
      all_goals (first | exact ⟨j + 1, T6, by omega, by go_num, HE.out.1, HE.out.2.1, HE.out.2.2⟩ | (simp [intOf]; omega))
    · have hjl : j = X.length := by omega
      subst hjl
      rw [HALL.out] at hP hU
      have hqs := HQN.out
      rw [Int.toNat_natCast] at hqs
      rw [← hqs] at hP hU
      have HE : Hid (∃ r', PzS wr g h N (fs ++ [(f : Int)]) r') := Lib.hid ⟨⟨T', r.P, r.p, r.C, r.q, A2, c2⟩, by
        have hlen : (fs ++ [(f : Int)]).length = fs.length + 1 := by simp
        exact ⟨by rw [hlen]; exact hP, hU, HSN.out, HPRO.out _ HBX.out, HCON.out _ HBX.out, HLNK.out _ HBX.out, by rw [hlen]; exact own_same HO5.out fun k e => hK.block k (HO5.out.lt k e).2 (by have := (HO5.out.lt k e).1; show ¬ k = g; omega)⟩⟩
      clear hP hU hK hqs
      go_wp2
      refine bodyPost_end (results_none rfl _ _ _) rfl ?_
      exact ⟨rfl, HE.out, HBX.out⟩
end Go.Proofs.YtgpocnapkflihaaDoor
