/- The parsing of a net before any link has been fired. The parsing of a net: readyLinks, parsedBy, IsFiringSequence, ReadyLinks, PartsAfter. slices.IndexFunc and slices.DeleteFunc at rows of numbers. Made by mkpaf.py. The program's IsFiringSequence, ReadyLinks, PartsAfter, OpenWires. slices.Min and slices.Max at increasing rows; parsedWith. Made by mkpah.py. The program's OpenWires, FiringOrder, LastFiringOrder, StuckLinks, CorrectByParsing. The program's FiringOrder, LastFiringOrder, StuckLinks, CorrectByParsing. Made by mkpaj.py; isWhole and what follows by hand (round 14). Mathematics of chapter 15: subnet sets, kingdoms, empires. The model's ParLinks, SwitchingCount, SwitchingOf. The model's sources and targets of wires, of chapter 11. Two rows that grow; the answer of RemovePar; the model's l11Has. slices.IndexFunc and slices.DeleteFunc at chapter 14's closures. Made by mksqb.py. The program's terminal links: isTerminal, TerminalLinks. The model: terminal links. Placing the parts of a net under given numbers: plain mathematics. A net in memory of its own that grows: its parts set and appended to. A net in memory of its own: parts of its rows replaced. Permutations, of the model. A net renumbered, of the model. The program's placed: a net put into another one under given numbers. A net in a box that grows: another row of conclusions, a link more, a wire more. Rows of rows put one behind the other; a net in a box that gets many wires. slices.Concat of rows of numbers, empty or not; the program's without at one position. The program's isPermutation: slices.Sort at a row of one's own. The program's outputsOfLinks; positionOf. A region that draws its order, in which one operation (a call that writes, at the end) need not keep what the loads ahead of it rest on. The program's netOfLinks. Made by mksqh.py. The model's l14Cut. Made by mksrc.py. -/
import Derived.Test.YtfdpkhiiboghiaaDoorKQLxP
import Derived.Deep.RegionHeldLaw
import Derived.Deep.DeepCutAuto
import Derived.BigQuiet
import Derived.Lib.SliceRun
import Derived.Deep.LoopGhost
import Derived.Test.YtfdpkhiiboghiaaDoorKQPaM
import Derived.Test.YtfdpkhiiboghiaaDoorKQPgG
import Derived.Test.YtfdpkhiiboghiaaDoorKQNetZ
import Derived.Test.YtfdpkhiiboghiaaDoorKQSeqV
import Derived.Test.YtfdpkhiiboghiaaDoorKQMath
import Derived.Test.YtfdpkhiiboghiaaDoorKQPgA
import Derived.Maps.AppendAt
import Derived.Lib.OwnBridge
import Derived.Deep.RegionHeld
namespace Go.Proofs.YtfdpkhiiboghiaaDoor
set_option linter.unusedSimpArgs false
set_option linter.unusedVariables false
section
set_option linter.unusedSimpArgs false
set_option linter.unusedVariables false
open Go.ChangeAt Go.ChangeShapes Go.RowKit Go.WideShapes
end
section
set_option linter.unusedSimpArgs false
set_option linter.unusedVariables false
open Go.ChangeAt Go.ChangeShapes Go.RowKit Go.WideShapes

theorem isLink_any (h : NH) (N : Nt) (x : Int) (w : World) (hl : N.l.length ≤ 1048576) :
    Calls Tryd.prog 29 #[.agg #[.slice h.A N.w.length h.c, .slice h.L N.l.length h.d, .slice h.C N.c.length h.e], .int .i64 x] w fun e w' => e = .returned (.bool (inW N.l.length x)) ∧ Below w.heap.size w w' := by
  obtain ⟨w0, hw0⟩ : ∃ w0, w0 = w.alloc (.cells #[.slice h.A N.w.length h.c, .slice h.L N.l.length h.d, .slice h.C N.c.length h.e] 31) := ⟨_, rfl⟩
  obtain ⟨hb, hh, hsz⟩ := box3_any w (.slice h.A N.w.length h.c) (.slice h.L N.l.length h.d) (.slice h.C N.c.length h.e) 31
  rw [← hw0] at hb hh hsz
  have hs0 : w.heap.size + 1 ≤ w0.heap.size := by omega
  have HK : Hid (∀ w', Below w0.heap.size w0 w' → w'.cell? ⟨w.heap.size, 0, none⟩ = some (.slice h.A N.w.length h.c) ∧ w'.cell? ⟨w.heap.size, 1, none⟩ = some (.slice h.L N.l.length h.d) ∧ w'.cell? ⟨w.heap.size, 2, none⟩ = some (.slice h.C N.c.length h.e)) := Lib.hid fun w' hw => three_cells ((hw.block _ (by omega)).trans hh)
  have HB0 := Lib.hid hb
  obtain ⟨y0, y1, y2⟩ := three_cells hh
  clear hb hh hsz
  by_cases h0 : 0 ≤ x
  · have hd : decide (0 ≤ x) = true := decide_eq_true h0
    have HE : Hid (decide (x < (N.l.length : Int)) = inW N.l.length x) := Lib.hid (by
      unfold inW
      exact decide_eq_decide.2 (by omega))
    clear h0
    go_enter Tryd.func29, Tryd.ntmps29
    go_upto_region 1 with (fail)
    rw [← hw0]
    clear hw0
    go_wp2
    go_ret
    exact ⟨ret_bool HE.out, HB0.out⟩
  · have hd : decide (0 ≤ x) = false := decide_eq_false h0
    have HE : Hid (false = inW N.l.length x) := Lib.hid (by
      unfold inW
      exact (decide_eq_false (by omega)).symm)
    clear h0
    go_enter Tryd.func29, Tryd.ntmps29
    go_upto_region 1 with (fail)
    rw [← hw0]
    clear hw0
    go_wp2
    go_ret
    exact ⟨ret_bool HE.out, HB0.out⟩
end
section
set_option linter.unusedSimpArgs false
set_option linter.unusedVariables false
open Go.ChangeAt Go.ChangeShapes Go.RowKit Go.WideShapes

/-- What is kept of the first j numbers. -/
def kpI (d : Int → Bool) (xs : List Int) (j : Nat) : List Int := (xs.take j).filter fun x => !d x
theorem kpI_yes {d : Int → Bool} {xs : List Int} {j : Nat} (h : j < xs.length) (hk : d (xs.getD j 0) = false) : kpI d xs (j + 1) = kpI d xs j ++ [xs.getD j 0] := by
  unfold kpI; rw [takeL_succ (d := (0 : Int)) h, List.filter_append]
  simp only [List.filter_cons, List.filter_nil, hk, Bool.not_false, if_true]
theorem kpI_no {d : Int → Bool} {xs : List Int} {j : Nat} (h : j < xs.length) (hk : d (xs.getD j 0) = true) : kpI d xs (j + 1) = kpI d xs j := by
  unfold kpI; rw [takeL_succ (d := (0 : Int)) h, List.filter_append]
  simp only [List.filter_cons, List.filter_nil, hk, Bool.not_true]
  simp
theorem kpI_all {d : Int → Bool} {xs : List Int} {k : Nat} (hk : k ≤ xs.length) (h : ∀ m, m < k → d (xs.getD m 0) = false) : kpI d xs k = xs.take k := by
  unfold kpI
  rw [List.filter_eq_self]
  intro a ha
  obtain ⟨m, hm, e⟩ := List.getElem_of_mem ha
  rw [List.length_take] at hm
  have := h m (by omega)
  have e2 : xs.getD m 0 = a := by
    rw [← e, List.getElem_take]
    simp [List.getD, show m < xs.length by omega]
  rw [e2] at this
  rw [this]; rfl
/-- The row while it is being filtered: m are kept of the first j. -/
structure FltI (d : Int → Bool) (xs cur : List Int) (j m : Nat) : Prop where
  len : cur.length = xs.length
  kept : m = (kpI d xs j).length
  lt : m < j
  front : cur.take m = kpI d xs j
  back : ∀ x, j ≤ x → x < xs.length → cur.getD x 0 = xs.getD x 0
theorem FltI.start {d : Int → Bool} {xs : List Int} {k : Nat} (hk : k < xs.length) (h : ∀ m, m < k → d (xs.getD m 0) = false) (hd : d (xs.getD k 0) = true) : FltI d xs xs (k + 1) k := by
  have e : kpI d xs (k + 1) = xs.take k := by rw [kpI_no hk hd, kpI_all (by omega) h]
  exact ⟨rfl, by rw [e, List.length_take]; omega, by omega, e.symm, fun _ _ _ => rfl⟩
theorem FltI.drop {d : Int → Bool} {xs cur : List Int} {j m : Nat} (s : FltI d xs cur j m) (hj : j < xs.length) (hd : d (xs.getD j 0) = true) : FltI d xs cur (j + 1) m :=
  ⟨s.len, by rw [kpI_no hj hd]; exact s.kept, by have := s.lt; omega, by rw [kpI_no hj hd]; exact s.front, fun x h1 h2 => s.back x (by omega) h2⟩
theorem FltI.keep {d : Int → Bool} {xs cur : List Int} {j m : Nat} (s : FltI d xs cur j m) (hj : j < xs.length) (hd : d (xs.getD j 0) = false) : FltI d xs (cur.set m (xs.getD j 0)) (j + 1) (m + 1) := by
  have hm := s.lt
  have hlen := s.len
  refine ⟨by rw [List.length_set]; exact s.len, by rw [kpI_yes hj hd, List.length_append, ← s.kept]; rfl, by omega, ?_, fun x h1 h2 => ?_⟩
  · rw [kpI_yes hj hd, ← s.front]
    generalize xs.getD j 0 = a
    rw [List.take_succ_eq_append_getElem (by rw [List.length_set]; omega), List.take_set_of_le (Nat.le_refl m)]
    simp
  · rw [← s.back x (by omega) h2]
    generalize xs.getD j 0 = a
    simp only [List.getD]
    rw [List.getElem?_set_ne (by omega)]
end
section
set_option linter.unusedSimpArgs false
set_option linter.unusedVariables false
open Go.ChangeAt Go.ChangeShapes Go.RowKit Go.WideShapes
end
section
set_option linter.unusedSimpArgs false
set_option linter.unusedVariables false
open Go.ChangeAt Go.ChangeShapes Go.RowKit Go.WideShapes
end
section
set_option linter.unusedSimpArgs false
set_option linter.unusedVariables false
open Go.ChangeAt Go.ChangeShapes Go.RowKit Go.WideShapes

end
section
set_option linter.unusedSimpArgs false
set_option linter.unusedVariables false
open Go.ChangeAt Go.ChangeShapes Go.RowKit Go.WideShapes
end
section
set_option linter.unusedSimpArgs false
set_option linter.unusedVariables false
open Go.ChangeAt Go.ChangeShapes Go.RowKit Go.WideShapes

theorem pw_step {ks : List Int} {k : Nat} (h : k < ks.length) (hp : (ks.take k).Pairwise (· < ·)) : (ks.take (k + 1)).Pairwise (· < ·) ↔ (k = 0 ∨ ks.getD (k - 1) 0 < ks.getD k 0) := by
  rw [takeL_succ (d := (0 : Int)) h, List.pairwise_append]
  constructor
  · rintro ⟨_, _, h3⟩
    by_cases e : k = 0
    · exact .inl e
    · right
      obtain ⟨m, rfl⟩ : ∃ m, k = m + 1 := ⟨k - 1, by omega⟩
      refine h3 _ ?_ _ (by simp)
      rw [takeL_succ (d := (0 : Int)) (by omega)]; simp
  · intro e
    refine ⟨hp, by simp, fun a ha b hb => ?_⟩
    rw [List.mem_singleton] at hb
    subst hb
    rcases e with e | e
    · subst e; simp at ha
    · by_cases e0 : k = 0
      · subst e0; simp at ha
      · obtain ⟨m, rfl⟩ : ∃ m, k = m + 1 := ⟨k - 1, by omega⟩
        rw [Nat.add_sub_cancel] at e
        rw [takeL_succ (d := (0 : Int)) (by omega)] at ha hp
        rw [List.pairwise_append] at hp
        rw [List.mem_append, List.mem_singleton] at ha
        rcases ha with ha | ha
        · have := hp.2.2 a ha _ List.mem_cons_self; omega
        · rw [ha]; exact e
/-- Is a number a link, and greater than the one ahead of it? -/
def inQ (n : Nat) (ks : List Int) (k : Nat) : Bool := inW n (ks.getD k 0) && !(decide (0 < k) && decide (ks.getD k 0 ≤ ks.getD (k - 1) 0))
theorem inQ_all (n : Nat) (ks : List Int) : ((List.range ks.length).all (inQ n ks)) = (ks.all (inW n) && decide (ks.Pairwise (· < ·))) := by
  have key : ∀ k, k ≤ ks.length → ((List.range k).all (inQ n ks)) = ((ks.take k).all (inW n) && decide ((ks.take k).Pairwise (· < ·))) := fun k => by
    induction k with
    | zero => intro _; simp
    | succ k ih =>
      intro hk
      rw [List.range_succ, List.all_append, ih (by omega)]
      by_cases hp : (ks.take k).Pairwise (· < ·)
      · rw [decide_eq_true hp, Bool.and_true]
        have hs := pw_step (show k < ks.length by omega) hp
        rw [show decide ((ks.take (k + 1)).Pairwise (· < ·)) = decide (k = 0 ∨ ks.getD (k - 1) 0 < ks.getD k 0) from by rw [decide_eq_decide]; exact hs]
        rw [takeL_succ (d := (0 : Int)) (show k < ks.length by omega), List.all_append]
        simp only [List.all_cons, List.all_nil, Bool.and_true]
        unfold inQ
        rw [Bool.and_assoc]
        congr 2
        rw [Bool.eq_iff_iff, Bool.not_eq_true', decide_eq_true_eq, Bool.and_eq_false_iff, decide_eq_false_iff_not, decide_eq_false_iff_not]
        omega
      · have hp2 : ¬ (ks.take (k + 1)).Pairwise (· < ·) := fun q => hp (by
          rw [takeL_succ (d := (0 : Int)) (show k < ks.length by omega), List.pairwise_append] at q; exact q.1)
        rw [decide_eq_false hp, decide_eq_false hp2]; simp
  have := key _ (Nat.le_refl _)
  rwa [List.take_length] at this
/-- What the model says of a list, of a valid net. -/
def ccM (N : Nt) (ks : List Int) : Bool := (List.range ks.length).all (inQ N.l.length ks) && (ks.all (inKB N (kS ks)) && decide (0 < ks.length))
theorem ccM_is {N : Nt} (hv : valN N = true) (ks : List Int) : ccM N ks = csB N ks := by
  unfold ccM csB clKB
  rw [inQ_all, hv, Bool.true_and, Bool.and_assoc, Bool.and_comm (ks.all (inKB N (kS ks)))]
  congr 3
  cases ks <;> simp
end
section
set_option linter.unusedSimpArgs false
set_option linter.unusedVariables false
open Go.ChangeAt Go.ChangeShapes Go.RowKit Go.WideShapes
end
section
set_option linter.unusedSimpArgs false
set_option linter.unusedVariables false
open Go.ChangeAt Go.ChangeShapes Go.RowKit Go.WideShapes

set_option maxRecDepth 100000 in
set_option maxHeartbeats 4000000 in
theorem smFrom_any (A L C : Option Addr) (n c d m e0 : Nat) (ls : List Lk) (x : Int) (w : World) (rl : RdL w w.heap.size L ls.length ls) (hl : ls.length ≤ 1048576) :
    Calls Tryd.prog 26 #[.agg #[.slice A n c, .slice L ls.length d, .slice C m e0], .int .i64 x] w fun e w' => e = .returned (.int .i64 (firstN (srcB x) ls)) ∧ Below w.heap.size w w' := by
  obtain ⟨w0, hw0⟩ : ∃ w0, w0 = w.alloc (.cells #[.slice A n c, .slice L ls.length d, .slice C m e0] 31) := ⟨_, rfl⟩
  obtain ⟨hb, hh, hsz⟩ := box3_any w (.slice A n c) (.slice L ls.length d) (.slice C m e0) 31
  rw [← hw0] at hb hh hsz
  have hs0 : w.heap.size + 1 ≤ w0.heap.size := by omega
  have HK : Hid (∀ w', Below w0.heap.size w0 w' → w'.cell? ⟨w.heap.size, 0, none⟩ = some (.slice A n c) ∧ w'.cell? ⟨w.heap.size, 1, none⟩ = some (.slice L ls.length d) ∧ w'.cell? ⟨w.heap.size, 2, none⟩ = some (.slice C m e0)) := Lib.hid fun w' hw => three_cells ((hw.block _ (by omega)).trans hh)
  have HRL := Lib.hid (fun (w' : World) (hw : Below w0.heap.size w0 w') => show RdL w' w'.heap.size L ls.length ls from (rl.below (hb.trans (hw.mono hb.size))).more (Nat.le_trans hb.size hw.size))
  have HB0 := Lib.hid hb
  obtain ⟨y0, y1, y2⟩ := three_cells hh
  clear hb hh hsz rl
  go_enter Tryd.func26, Tryd.ntmps26
  go_wp2
  rw [← hw0]
  clear hw0
  go_loopw [5] (fun i wx => ∃ k : Nat, k ≤ ls.length ∧ i = .int .i64 k ∧ (∀ j, j < k → srcB x (ls.getD j Lk.nil) = false) ∧ Below w0.heap.size w0 wx) (fun i _ => ls.length - (intOf i).toNat)
  case atStart => exact ⟨0, Nat.zero_le _, rfl, fun j hj => absurd hj (by omega), Below.refl _ _⟩
  case round =>
    obtain ⟨k, hk, rfl, hno, hB⟩ := hrel
    clear y0 y1 y2
    obtain ⟨y0, y1, y2⟩ := HK.out _ hB
    by_cases hlt : k < ls.length
    · obtain ⟨b, off, hA, hbb, hcells⟩ := (HRL.out _ hB).at (by omega)
      subst hA
      obtain ⟨x0, x1, x2, x3⟩ := hcells k hlt
      obtain ⟨⟨lk, la, lb, lc⟩, hl⟩ : ∃ l, ls.getD k Lk.nil = l := ⟨_, rfl⟩
      rw [hl] at x0 x1 x2 x3
      dsimp only at x0 x1 x2 x3
      obtain ⟨bl, z0, z1, z2, z3, zs⟩ := lnk_any wr ⟨lk, la, lb, lc⟩ 53
      dsimp only at bl z0 z1 z2 z3
      have BL := Lib.hid (hB.trans (bl.mono hB.size))
      have HNO := Lib.hid hno
      have HL := Lib.hid hl
      clear hcells hB bl zs hno hl
      by_cases h1 : lk = 1
      · subst h1
        by_cases ha : la = x
        · have da : (la == x) = true := by simpa using ha
          have HE : Hid ((k : Int) = firstN (srcB x) ls) := Lib.hid (firstN_at hlt HNO.out (by rw [HL.out]; simp [srcB, ha])).symm
          have HBB := Lib.hid (HB0.out.trans (BL.out.mono HB0.out.size))
          clear ha
          go_wp2
          go_ret
          exact ⟨ret_i64 HE.out, HBB.out⟩
        · have da : (la == x) = false := by simpa using ha
          by_cases hb : lb = x
          · have db : (lb == x) = true := by simpa using hb
            have HE : Hid ((k : Int) = firstN (srcB x) ls) := Lib.hid (firstN_at hlt HNO.out (by rw [HL.out]; simp [srcB, hb])).symm
            have HBB := Lib.hid (HB0.out.trans (BL.out.mono HB0.out.size))
            clear ha hb
            go_wp2
            go_ret
            exact ⟨ret_i64 HE.out, HBB.out⟩
          · have db : (lb == x) = false := by simpa using hb
            have HST := Lib.hid (below_step HNO.out (by rw [HL.out]; simp [srcB, ha, hb]))
            clear ha hb
            go_wp2
            go_roundw
            case rel => exact ⟨k + 1, by omega, by go_num, HST.out, BL.out⟩
            case measure => simp [intOf]; omega
      by_cases h3 : lk = 3
      · subst h3
        by_cases hc : lc = x
        · have dc : (lc == x) = true := by simpa using hc
          have HE : Hid ((k : Int) = firstN (srcB x) ls) := Lib.hid (firstN_at hlt HNO.out (by rw [HL.out]; simp [srcB, hc])).symm
          have HBB := Lib.hid (HB0.out.trans (BL.out.mono HB0.out.size))
          clear hc h1
          go_wp2
          go_ret
          exact ⟨ret_i64 HE.out, HBB.out⟩
        · have dc : (lc == x) = false := by simpa using hc
          have HST := Lib.hid (below_step HNO.out (by rw [HL.out]; simp [srcB, hc]))
          clear hc h1
          go_wp2
          go_roundw
          case rel => exact ⟨k + 1, by omega, by go_num, HST.out, BL.out⟩
          case measure => simp [intOf]; omega
      by_cases h4 : lk = 4
      · subst h4
        by_cases hc : lc = x
        · have dc : (lc == x) = true := by simpa using hc
          have HE : Hid ((k : Int) = firstN (srcB x) ls) := Lib.hid (firstN_at hlt HNO.out (by rw [HL.out]; simp [srcB, hc])).symm
          have HBB := Lib.hid (HB0.out.trans (BL.out.mono HB0.out.size))
          clear hc h1 h3
          go_wp2
          go_ret
          exact ⟨ret_i64 HE.out, HBB.out⟩
        · have dc : (lc == x) = false := by simpa using hc
          have HST := Lib.hid (below_step HNO.out (by rw [HL.out]; simp [srcB, hc]))
          clear hc h1 h3
          go_wp2
          go_roundw
          case rel => exact ⟨k + 1, by omega, by go_num, HST.out, BL.out⟩
          case measure => simp [intOf]; omega
      have d1 : (lk == 1) = false := by simpa using h1
      have d3 : (lk == 3) = false := by simpa using h3
      have d4 : (lk == 4) = false := by simpa using h4
      have HST := Lib.hid (below_step HNO.out (by rw [HL.out]; simp [srcB, h1, h3, h4]))
      clear h1 h3 h4
      go_wp2
      go_roundw
      case rel => exact ⟨k + 1, by omega, by go_num, HST.out, BL.out⟩
      case measure => simp [intOf]; omega
    · have hkl : k = ls.length := by omega
      subst hkl
      have HE : Hid ((-1 : Int) = firstN (srcB x) ls) := Lib.hid (firstN_none hno).symm
      have HBB := Lib.hid (HB0.out.trans (hB.mono HB0.out.size))
      clear hno
      go_wp2
      go_ret
      exact ⟨ret_i64 HE.out, HBB.out⟩
end
section
set_option linter.unusedSimpArgs false
set_option linter.unusedVariables false
open Go.ChangeAt Go.ChangeShapes Go.RowKit Go.WideShapes

/-- Two rows that grow. -/
structure TwQ (wl wx : World) (v1 v2 : Value) (L1 L2 : List Int) : Prop where
  o1 : wx.ownsRow wl.heap.size 2 1 v1 L1.length (L1.map (Value.int .i64))
  o2 : wx.ownsRow wl.heap.size 2 1 v2 L2.length (L2.map (Value.int .i64))
  ap : ∀ b, v1.ownBlock = some b → v2.ownBlock ≠ some b
  bel : Below wl.heap.size wl wx
theorem TwQ.below {wl wx u : World} {v1 v2 : Value} {L1 L2 : List Int} (s : TwQ wl wx v1 v2 L1 L2) (hb : Below wx.heap.size wx u) : TwQ wl u v1 v2 L1 L2 := ⟨own_below s.o1 hb (Nat.le_refl _), own_below s.o2 hb (Nat.le_refl _), s.ap, s.bel.trans (hb.mono s.bel.size)⟩
theorem memAtQ {p : List Int} {v : Int} (h : v ∈ p) : ∃ i, i < p.length ∧ p.getD i 0 = v := by
  obtain ⟨i, hi, e⟩ := List.getElem_of_mem h
  exact ⟨i, hi, by simp [List.getD, hi, e]⟩
set_option maxRecDepth 100000 in
set_option maxHeartbeats 1000000 in
theorem sHasQ_any (A : Option Addr) (n c : Nat) (p : List Int) (x : Int) (w : World) (hl : n ≤ 1048576) (r : RdI w w.heap.size A n p) :
    Calls Tryd.prog 25 #[.slice A n c, .int .i64 x] w fun e w' => e = .returned (.bool (decide (x ∈ p))) ∧ w' = w := by
  have RS := Lib.hid r
  have hlen := r.1
  have HLN := Lib.hid hlen
  clear r hlen
  go_enter Tryd.func25, Tryd.ntmps25
  go_wp2
  go_loopw [5] (fun i wr => ∃ k : Nat, k ≤ n ∧ i = .int .i64 k ∧ (∀ m, m < k → ¬ p.getD m 0 = x) ∧ wr = w) (fun i _ => n - (intOf i).toNat)
  case atStart => exact ⟨0, Nat.zero_le _, rfl, fun m hm => absurd hm (by omega), rfl⟩
  case round =>
    obtain ⟨k, hk, rfl, hpl, rfl⟩ := hrel
    have HP := Lib.hid hpl
    clear hpl
    by_cases hlt : k < n
    · obtain ⟨b, off, hA, hbb, hcells⟩ := RS.out.2 (show 0 < n by omega)
      have x0 := hcells k hlt
      have HM := Lib.hid (getL_mem (d := 0) (show k < p.length by have := HLN.out; omega))
      have HPP : Hid (¬ p.getD k 0 = x → ∀ m, m < k + 1 → ¬ p.getD m 0 = x) := Lib.hid fun e m hm => by
        by_cases e2 : m < k
        · exact HP.out m e2
        · obtain rfl : m = k := by omega
          exact e
      generalize p.getD k 0 = z at *
      subst hA
      clear hcells
      by_cases hz : z = x
      · have hd : (z == x) = true := by simp [hz]
        have HE : Hid (true = decide (x ∈ p)) := Lib.hid (decide_eq_true (by rw [← hz]; exact HM.out)).symm
        clear hz
        go_wp2
        go_ret
        exact ⟨ret_bool HE.out, rfl⟩
      · have hd : (z == x) = false := by simp [hz]
        have HQ := Lib.hid (HPP.out hz)
        clear hz
        go_wp2
        go_roundw
        case rel => exact ⟨k + 1, by omega, by go_num, HQ.out, by first | rfl | trivial⟩
        case measure => simp [intOf]; omega
    · have hkl : k = n := by omega
      subst hkl
      have HE : Hid (false = decide (x ∈ p)) := Lib.hid (decide_eq_false fun hm => by
        obtain ⟨i, hi, e⟩ := memAtQ hm
        exact HP.out i (by have := HLN.out; omega) e).symm
      go_wp2
      go_ret
      exact ⟨ret_bool HE.out, rfl⟩
end
section
set_option linter.unusedSimpArgs false
set_option linter.unusedVariables false
open Go.ChangeAt Go.ChangeShapes Go.RowKit Go.WideShapes
end
section
set_option linter.unusedSimpArgs false
set_option linter.unusedVariables false
open Go.ChangeAt Go.ChangeShapes Go.RowKit Go.WideShapes

theorem from_lxQ {N : Nt} (hv : valN N = true) (x : Int) : firstN (srcB x) N.l = lxN outL N x := first_ext fun l hl => srcB_is (fitsN_kind ((List.all_eq_true.1 (valN_fits hv)) l hl))
end
section
set_option linter.unusedSimpArgs false
set_option linter.unusedVariables false
open Go.ChangeAt Go.ChangeShapes Go.RowKit Go.WideShapes
end
section
open Go.ChangeAt Go.ChangeShapes Go.RowKit Go.WideShapes

/-- No part of the net lies in block b. -/
structure FarN (h : NH) (N : Nt) (b : Nat) : Prop where
  a : (Value.slice h.A N.w.length h.c).ownBlock ≠ some b
  i : ∀ i, i < N.w.length → (hv h.hs N.w i).ownBlock ≠ some b
  l : (Value.slice h.L N.l.length h.d).ownBlock ≠ some b
  c : (Value.slice h.C N.c.length h.e).ownBlock ≠ some b
section
variable {w w1 w' : World} {lo hi b : Nat} {h : NH} {N : Nt}
theorem OwnN.size (o : OwnN w lo hi h N) : OwnN w lo w.heap.size h N where
  q := ⟨o.q.outer, o.q.inner, o.q.apart, o.q.apart0, fun k e => (o.q.outer.lt k e).2, fun i k hi e => ((o.q.inner i hi).lt k e).2⟩
  l := o.l
  c := o.c
  lt b e := (o.l.lt b e).2
  ct b e := (o.c.lt b e).2
  lq := o.lq
  cq := o.cq
  lc := o.lc
end
end
section
open Go.ChangeAt Go.ChangeShapes Go.RowKit Go.WideShapes
end
section
open Go.ChangeAt Go.ChangeShapes Go.RowKit Go.WideShapes
end
section
open Go.ChangeAt Go.ChangeShapes Go.RowKit Go.WideShapes

/-- Where the copy stands, while it is renumbered. -/
def RnSt (w0 wx : World) (bo : Nat) (h : NH) (N : Nt) (x y z : Value) : Prop := OwnN wx w0.heap.size wx.heap.size h N ∧ FarN h N bo ∧ wx.heap[bo]? = some (.cells #[x, y, z] 31 (0, 0)) ∧ Below w0.heap.size w0 wx
theorem RnSt.drew {w0 wx : World} {bo : Nat} {h : NH} {N : Nt} {x y z : Value} (r : RnSt w0 wx bo h N x y z) : RnSt w0 wx.drew bo h N x y z := ⟨r.1.same (fun _ _ _ _ => rfl), r.2.1, r.2.2.1, r.2.2.2.drew⟩
end
section
set_option linter.unusedSimpArgs false
set_option linter.unusedVariables false
open Go.ChangeAt Go.ChangeShapes Go.RowKit Go.WideShapes

/-- What placed holds: the target, grown, and its box. -/
structure PlSt (wb w0 wr : World) (sx : Nat) (hT : NH) (T : Nt) (h : NH) (M : Nt) : Prop where
  own : OwnN wr wb.heap.size wr.heap.size h M
  far : ∀ b, b < w0.heap.size → FarN hT T b → FarN h M b
  keep : ∀ b, b < w0.heap.size → FarN hT T b → b ≠ sx → wr.heap[b]? = w0.heap[b]?
  box : wr.heap[sx]? = some (.cells #[.slice h.A M.w.length h.c, .slice h.L M.l.length h.d, .slice h.C M.c.length h.e] 31 (0, 0))
  bel : Below wb.heap.size wb wr
  size : w0.heap.size ≤ wr.heap.size
  sxl : sx < w0.heap.size
  sxf : FarN hT T sx
  sxb : wb.heap.size ≤ sx
section
variable {wb w0 wr w' : World} {sx : Nat} {hT h : NH} {T M : Nt}
theorem PlSt.below (p : PlSt wb w0 wr sx hT T h M) (hb : Below wr.heap.size wr w') : PlSt wb w0 w' sx hT T h M where
  own := (p.own.below hb).more (Nat.le_refl _) hb.size
  far := p.far
  keep b h1 h2 h3 := (hb.block b (Nat.lt_of_lt_of_le h1 p.size)).trans (p.keep b h1 h2 h3)
  box := (hb.block sx (Nat.lt_of_lt_of_le p.sxl p.size)).trans p.box
  bel := p.bel.trans (hb.mono p.bel.size)
  size := Nat.le_trans p.size hb.size
  sxl := p.sxl
  sxf := p.sxf
  sxb := p.sxb
theorem PlSt.drew (p : PlSt wb w0 wr sx hT T h M) : PlSt wb w0 wr.drew sx hT T h M := p.below ((Below.refl _ _).drew)
theorem PlSt.cell (p : PlSt wb w0 wr sx hT T h M) {b off : Nat} (h1 : b < w0.heap.size) (h2 : FarN hT T b) (h3 : b ≠ sx) : wr.cell? ⟨b, off, none⟩ = w0.cell? ⟨b, off, none⟩ := by
  unfold World.cell?
  rw [p.keep b h1 h2 h3]
end
end
section
set_option linter.unusedSimpArgs false
set_option linter.unusedVariables false
open Go.ChangeAt Go.ChangeShapes Go.RowKit Go.WideShapes
end
section
set_option linter.unusedSimpArgs false
set_option linter.unusedVariables false
open Go.ChangeAt Go.ChangeShapes Go.RowKit Go.WideShapes Go.Shelf Go.Lib Go.Sort

/-- A row of numbers that is to be appended: nil, or at an address. -/
def PartI (w : World) (B : Nat) (v : Value) (zs : List Int) : Prop :=
  (v = .slice none 0 0 ∧ zs = []) ∨ ∃ ad c, v = .slice (some ad) zs.length c ∧ RdI w B (some ad) zs.length zs
theorem PartI.below {w w' : World} {B : Nat} {v : Value} {zs : List Int} (h : PartI w B v zs) (hb : Below B w w') : PartI w' B v zs := by
  rcases h with h | ⟨ad, c, hv, hn⟩
  · exact .inl h
  · exact .inr ⟨ad, c, hv, hn.below hb⟩
theorem PartI.more {w : World} {B B' : Nat} {v : Value} {zs : List Int} (h : PartI w B v zs) (hb : B ≤ B') : PartI w B' v zs := by
  rcases h with h | ⟨ad, c, hv, hn⟩
  · exact .inl h
  · exact .inr ⟨ad, c, hv, hn.more hb⟩
theorem PartI.of_own {w : World} {base c : Nat} {A : Option Addr} {zs : List Int} (h : w.ownsRow base 2 1 (.slice A zs.length c) zs.length (zs.map (Value.int .i64))) : PartI w w.heap.size (.slice A zs.length c) zs := by
  have r := RdI.of_own h
  rcases h.2 with ⟨e, e2⟩ | ⟨g, cap, cur, e, _⟩
  · have hl : zs = [] := List.eq_nil_of_length_eq_zero (by injection e)
    subst hl
    exact .inl ⟨e, rfl⟩
  · injection e with e1 e2 e3
    subst e1
    exact .inr ⟨_, c, rfl, r⟩
end
section
set_option linter.unusedSimpArgs false
set_option linter.unusedVariables false
end
section
set_option linter.unusedSimpArgs false
set_option linter.unusedVariables false
open Go.ChangeAt Go.ChangeShapes Go.RowKit Go.WideShapes
end
section
set_option linter.unusedSimpArgs false
set_option linter.unusedVariables false
open Go.ChangeAt Go.ChangeShapes Go.RowKit Go.WideShapes

section
variable {wb w0 wr : World} {sx : Nat} {hT h : NH} {T M : Nt} {v : Value} {L : List Int}
/-- A net that grows, and a row of names. -/
structure NmSt (wb w0 wr : World) (sx : Nat) (h : NH) (M : Nt) (v : Value) (L : List Int) : Prop where
  p : PlSt wb w0 wr sx NH.nil Nt.nil h M
  o : wr.ownsRow w0.heap.size 2 1 v L.length (L.map (Value.int .i64))
  far : ∀ b, v.ownBlock = some b → FarN h M b
theorem NmSt.below {u : World} (s : NmSt wb w0 wr sx h M v L) (hb : Below wr.heap.size wr u) : NmSt wb w0 u sx h M v L := ⟨s.p.below hb, own_below s.o hb (Nat.le_refl _), s.far⟩
end
theorem four_cellsQ {w : World} {b : Nat} {a0 a1 a2 a3 : Value} {t : TypeId} (h : w.heap[b]? = some (.cells #[a0, a1, a2, a3] t (0, 0))) : w.cell? ⟨b, 0, none⟩ = some a0 ∧ w.cell? ⟨b, 1, none⟩ = some a1 ∧ w.cell? ⟨b, 2, none⟩ = some a2 ∧ w.cell? ⟨b, 3, none⟩ = some a3 :=
  ⟨cell_of_row _ _ 0 _ _ (0, 0) h, cell_of_row _ _ 1 _ _ (0, 0) h, cell_of_row _ _ 2 _ _ (0, 0) h, cell_of_row _ _ 3 _ _ (0, 0) h⟩
end
end Go.Proofs.YtfdpkhiiboghiaaDoor
