/- The program's CheckProof and ValidProof. Made by mkckz.py out of CkZ.head and CkZ.tail. eqStepS: two rows of the same steps. -/
import Derived.Test.YthbkcpacgnmcfaaGreatDoorQCmE13
import Derived.Test.YthbkcpacgnmcfaaGreatDoorQSubA
import Derived.Test.YthbkcpacgnmcfaaGreatDoorQStepRow
import Derived.Deep.RegionWith
namespace Go.Proofs.YthbkcpacgnmcfaaGreatDoor
set_option linter.unusedSimpArgs false
set_option linter.unusedVariables false
section
open Go.ChangeAt Go.ChangeShapes Go.RowKit Go.WideShapes
open List (setIfInBounds_toArray set_cons_zero set_cons_succ getElem_toArray getElem_cons_succ getElem_cons_zero)

/-- What resultAfter leaves, in one shape. -/
def SoF (w : World) (lo hi : Nat) (X : Option (List (List Int))) (AR : Option Addr) (nR cR : Nat) (kk : Int) : Prop := ∀ R, X = some R → kk = 0 ∧ nR = R.length ∧ ∃ hs, OwnQ w lo hi (.slice AR nR cR) hs R
def GivesT (w : World) (X : Option (List (List Int))) (e : Ending) (w' : World) : Prop :=
  ∃ AR nR cR kk, e = .returned (.tuple #[.agg #[.slice AR nR cR], .int .i64 kk]) ∧ Below w.heap.size w w' ∧ (X = none → kk ≠ 0) ∧ SoF w' w.heap.size w'.heap.size X AR nR cR kk
theorem givesT {w w' : World} {X : Option (List (List Int))} {e : Ending} (h : GivesS w X e w') : GivesT w X e w' := by
  obtain ⟨hb, h⟩ := h
  cases X with
  | none =>
    obtain ⟨k, hk, rfl⟩ := h
    exact ⟨none, 0, 0, k, rfl, hb, fun _ => hk, (fun R e => by cases e)⟩
  | some R =>
    obtain ⟨hs, A, c, rfl, own⟩ := h
    exact ⟨A, R.length, c, 0, rfl, hb, (fun e => by cases e), (fun R' e => by injection e with e; subst e; exact ⟨rfl, rfl, hs, own⟩)⟩
theorem so_below {w w' : World} {lo hi nR cR : Nat} {X : Option (List (List Int))} {AR : Option Addr} {kk : Int} (h : SoF w lo hi X AR nR cR kk) (hb : Below w.heap.size w w') : SoF w' lo hi X AR nR cR kk := fun R e => by
  obtain ⟨h1, h2, hs, h3⟩ := h R e
  exact ⟨h1, h2, hs, h3.below hb⟩
theorem so_same {w w' : World} {lo hi nR cR : Nat} {X : Option (List (List Int))} {AR : Option Addr} {kk : Int} (h : SoF w lo hi X AR nR cR kk) (hk : ∀ k, lo ≤ k → k < hi → w'.heap[k]? = w.heap[k]?) : SoF w' lo hi X AR nR cR kk := fun R e => by
  obtain ⟨h1, h2, hs, h3⟩ := h R e
  exact ⟨h1, h2, hs, h3.same fun k a b _ => hk k a b⟩
theorem so_up {w : World} {lo lo' hi hi' nR cR : Nat} {X : Option (List (List Int))} {AR : Option Addr} {kk : Int} (h : SoF w lo hi X AR nR cR kk) (h1 : lo' ≤ lo) (h2 : hi ≤ hi') : SoF w lo' hi' X AR nR cR kk := fun R e => by
  obtain ⟨a, b, hs, h3⟩ := h R e
  exact ⟨a, b, hs, h3.more h1 h2⟩
theorem lens_push {L : List (List (List Int))} {R : List (List Int)} (h : ∀ j, j < L.length → (L.getD j []).length ≤ 100000) (hv : validQ R = true) : ∀ j, j < (L ++ [R]).length → ((L ++ [R]).getD j []).length ≤ 100000 := by
  intro j hj
  have hR := validQ_len hv
  by_cases e : j < L.length
  · rw [List.getD_eq_getElem?_getD, List.getElem?_append_left e, ← List.getD_eq_getElem?_getD]; exact h j e
  · have ej : j = L.length := by rw [List.length_append, List.length_cons, List.length_nil] at hj; omega
    subst ej
    rw [List.getD_eq_getElem?_getD, List.getElem?_append_right (Nat.le_refl _)]
    simp; omega
theorem prems_push {ss : List Stp} {L : List (List (List Int))} {k n : Nat} {s : Stp} (h : ∀ j, j < k → ∀ x ∈ prS (ss.getD j Stp.nil), 0 ≤ x ∧ x < (n : Int)) (hL : L.length = k) (hk : k ≤ n) (hs : s = ss.getD k Stp.nil) (hp : ∀ x ∈ prS (ss.getD k Stp.nil), 0 ≤ x ∧ x < (L.length : Int)) : ∀ j, j < k + 1 → ∀ x ∈ prS (ss.getD j Stp.nil), 0 ≤ x ∧ x < (n : Int) := by
  intro j hj x hx
  by_cases e : j < k
  · exact h j e x hx
  · have ej : j = k := by omega
    subst ej
    have := hp x hx
    omega

set_option linter.unusedSimpArgs false in
set_option maxRecDepth 100000 in
set_option maxHeartbeats 4000000 in
theorem checkProof_any (A : Option Addr) (n c : Nat) (ss : List Stp) (w : World) (h : RdP w w.heap.size A n ss) (hn : n ≤ 1048576) (ht : Arit w) (hu : Dual w) :
    Calls Tryz.prog 38 #[.slice A n c] w (GivesK w (ckB ss)) := by
  have hl := h.len
  by_cases h0 : n = 0
  · have HE : Hid (ckB ss = false) := Lib.hid (by unfold ckB; rw [hl, decide_eq_false (show ¬ (0 < n) by omega)]; rfl)
    subst h0
    clear h hl ht hu
    go_enter Tryz.func38, Tryz.ntmps38
    go_wp2
    (try simp only [Exit.inBlock, Exit.then])
    refine bodyPost_ret (results_tmp3 rfl _ _ _) rfl ?_
    exact ⟨.slice none 0 0, 7, -1, rfl, by rw [HE.out]; simp, Below.refl _ _⟩
  · by_cases h40 : 40 < n
    · have HE : Hid (ckB ss = false) := Lib.hid (by unfold ckB; rw [hl, decide_eq_false (show ¬ (n ≤ 40) by omega)]; simp)
      have hd : ((n : Int) == 0) = false := by rw [beq_eq_false_iff_ne]; omega
      have hd2 : decide (40 < (n : Int)) = true := decide_eq_true (by omega)
      clear h hl ht hu h0 h40
      go_enter Tryz.func38, Tryz.ntmps38
      go_wp2
      (try simp only [Exit.inBlock, Exit.then])
      refine bodyPost_ret (results_tmp3 rfl _ _ _) rfl ?_
      exact ⟨.slice none 0 0, 7, -1, rfl, by rw [HE.out]; simp, Below.refl _ _⟩
    · have hd : ((n : Int) == 0) = false := by rw [beq_eq_false_iff_ne]; omega
      have hd2 : decide (40 < (n : Int)) = false := decide_eq_false (by omega)
      obtain ⟨i0, hi0, hz0, hz1, hz2⟩ := info_parts_seqT
      obtain ⟨b, off, rfl, hbb, hat⟩ := h.2 (by omega)
      have b2 : i0.bytes * n ≤ 281474976710656 := by rw [hz2]; omega
      have b3 : n ≤ maxLen := by unfold maxLen; omega
      have HAT := Lib.hid hat; have HRD := Lib.hid h
      have HT := Lib.hid ht; have HD := Lib.hid hu
      have HCK : Hid (ckB ss = ((sqK ss n).isSome && useB ss)) := Lib.hid (by unfold ckB; rw [hl, decide_eq_true (show 0 < n by omega), decide_eq_true (show n ≤ 40 by omega)]; rfl)
      clear hat h ht hu
      go_enter Tryz.func38, Tryz.ntmps38
      go_wp2_with (at_make; refine wpList_make_full _ rfl _ _ _ rfl w.heap.size 64 i0 (.agg #[.slice none 0 0]) 1 Tryz.underlying54 hi0 hz0 hz1 _ _ _ _ n rfl rfl rfl rfl b2 b3 (Nat.le_refl _) ?_; intro w1 hown hg)
      have hbel : Below w.heap.size w w1 := (Below.refl _ _).grown hg (Nat.le_refl _) (by intro k hk; cases hk)
      have hg1 : w.heap.size < w1.heap.size := (hown.lt w.heap.size rfl).2
      have HO0 := Lib.hid hown
      have HVL : Hid ((madeCells (Value.agg #[Value.slice none 0 0]).cells (n * 1)).toList.length = n) := Lib.hid (hown.1.trans (Nat.mul_one n))
      have HB0 := Lib.hid hbel
      clear hg hown b2 b3 hi0 hz0 hz1 hz2 hbel
      go_loopw [24] (fun i wr => ∃ (k : Nat) (vs : List Value) (L : List (List (List Int))), k ≤ n ∧ i = .int .i64 k ∧ sqK ss k = some L ∧ L.length = k ∧ vs.length = n ∧ wr.ownsRow w.heap.size 64 1 (.slice (some ⟨w.heap.size, 0, none⟩) n n) n vs ∧ Sqs wr w.heap.size w1.heap.size vs L ∧ Below w.heap.size w wr ∧ w1.heap.size ≤ wr.heap.size ∧ (∀ j, j < L.length → (L.getD j []).length ≤ 100000) ∧ (∀ j, j < k → ∀ x ∈ prS (ss.getD j Stp.nil), 0 ≤ x ∧ x < (n : Int))) (fun i _ => n - (intOf i).toNat)
      case atStart => exact ⟨0, _, [], Nat.zero_le _, rfl, rfl, rfl, HVL.out, HO0.out, ⟨hg1, fun j hj => absurd hj (Nat.not_lt_zero _)⟩, HB0.out, Nat.le_refl _, (fun j hj => absurd hj (Nat.not_lt_zero _)), fun j hj => absurd hj (Nat.not_lt_zero _)⟩
      case round =>
        obtain ⟨k, vs, L, hk, rfl, hsq, hLk, hvl, hO, hS, hB, h1r, hL, hpr⟩ := hrel
        clear HO0 HB0 HVL
        have hgr : w.heap.size < wr.heap.size := Nat.lt_of_lt_of_le hg1 h1r
        by_cases hlt : k < n
        · obtain ⟨A', c', hA⟩ := HAT.out k hlt
          obtain ⟨a0, a1, a2, a3, a4, a5, acap, ard⟩ := hA.keep (w' := wr) (fun p hp => hB.cell hp) hbb
          obtain ⟨X, hX⟩ : ∃ X, seqOf L (ss.getD k Stp.nil) = X := ⟨_, rfl⟩
          have HVALID := Lib.hid fun R (e : X = some R) => seqOf_valid (hX.trans e)
          have HPREM := Lib.hid fun R (e : X = some R) => seqOf_prems (hX.trans e)
          have HSTEP := Lib.hid fun R (e : X = some R) => sqK_step hsq (hX.trans e)
          have HSTOP := Lib.hid fun (e : X = none) => sqK_stop hsq (hX.trans e) hlt
          have HSP : Hid (∀ s, s = ss.getD k Stp.nil → raV L s.r s.a s.b s.i s.j s.f = X) := Lib.hid fun s e => by rw [e]; exact hX
          obtain ⟨s, hs⟩ : ∃ s, s = ss.getD k Stp.nil := ⟨_, rfl⟩
          have hra := HSP.out s hs
          have HPS := Lib.hid hs
          rw [← hs] at a0 a1 a2 a3 a4 a5 acap ard
          clear hs HSP hX hA
          obtain ⟨sr, sa, sb, si, sj, sf⟩ := s
          dsimp only at a0 a1 a2 a3 a4 a5 acap ard hra
          obtain ⟨u, hu⟩ : ∃ u, u = wr.alloc (.cells #[Value.int .i64 sr, Value.int .i64 sa, Value.int .i64 sb, Value.int .i64 si, Value.int .i64 sj, Value.slice A' (sf.length) c'] 43) := ⟨_, rfl⟩
          have HUU := Lib.hid hu
          have hbu := al hu
          have hg0 := an hu
          have hBU : Below w.heap.size w u := hB.trans (hbu.mono hB.size)
          have HOU := Lib.hid (own_below hO hbu (Nat.le_refl _))
          have HSU := Lib.hid (hS.below hbu)
          have HARD := Lib.hid ((ard.more (Nat.le_of_lt hgr)).below hbu |>.more hbu.size)
          have hres : ∀ wx, Below u.heap.size u wx → Calls Tryz.prog 47 #[.slice (some ⟨w.heap.size, 0, none⟩) k n, Value.agg #[Value.int .i64 sr, Value.int .i64 sa, Value.int .i64 sb, Value.int .i64 si, Value.int .i64 sj, Value.slice A' (sf.length) c']] wx (GivesT wx X) := fun wx hx => by
            have hrr := (HSU.out.below hx).rd (own_below HOU.out hx (Nat.le_refl _)) (by omega)
            rw [hLk] at hrr
            have h9 := resultAfter_any sr sa sb si sj (some ⟨w.heap.size, 0, none⟩) k n L A' sf.length c' sf wx hrr ((HARD.out.below hx).more hx.size) acap (by omega) hL (HT.out.below (hBU.trans (hx.mono hBU.size)) HT.out.lt) (HD.out.below (hBU.trans (hx.mono hBU.size)) HD.out.lt)
            rw [hra] at h9
            exact h9.mono fun _ _ hg => givesT hg
          have H1U := Lib.hid (Nat.le_trans h1r hbu.size)
          have HRES := Lib.hid hres; have HBU := Lib.hid hBU; have HBUR := Lib.hid hbu
          have HG0 := Lib.hid hg0
          have HSX : Hid (∀ wx, Below u.heap.size u wx → wx.cell? ⟨wr.heap.size, 0, none⟩ = some (.int .i64 sr) ∧ wx.cell? ⟨wr.heap.size, 1, none⟩ = some (.int .i64 sa) ∧ wx.cell? ⟨wr.heap.size, 2, none⟩ = some (.int .i64 sb) ∧ wx.cell? ⟨wr.heap.size, 3, none⟩ = some (.int .i64 si) ∧ wx.cell? ⟨wr.heap.size, 4, none⟩ = some (.int .i64 sj) ∧ wx.cell? ⟨wr.heap.size, 5, none⟩ = some (.slice A' sf.length c')) := Lib.hid fun wx hx => by
            have q := (hx.block wr.heap.size (Array.getElem?_eq_some_iff.1 hg0).1).trans hg0
            exact ⟨cell_of_row _ _ 0 _ _ (0, 0) q, cell_of_row _ _ 1 _ _ (0, 0) q, cell_of_row _ _ 2 _ _ (0, 0) q, cell_of_row _ _ 3 _ _ (0, 0) q, cell_of_row _ _ 4 _ _ (0, 0) q, cell_of_row _ _ 5 _ _ (0, 0) q⟩
          have K0 := Lib.hid (HSX.out u (Below.refl _ _))
          have FB_0 := Lib.hid (Below.refl u.heap.size u)
          have hd9 : decide ((k : Int) < (n : Int)) = true := decide_eq_true (by omega)
          have HL := Lib.hid hL; have HPR := Lib.hid hpr; have HLK := Lib.hid hLk
          clear hu hbu hg0 hBU hres hra hO hS hB hL hpr hsq hLk ard
          go_upto_region 7 with (fail)
          rw [← HUU.out]
          clear a0 a1 a2 a3 a4 a5
          refine wp_region_held_drew (S := fun wx => wx.cell? ⟨wr.heap.size, 0, none⟩ = some (.int .i64 sr) ∧ wx.cell? ⟨wr.heap.size, 1, none⟩ = some (.int .i64 sa) ∧ wx.cell? ⟨wr.heap.size, 2, none⟩ = some (.int .i64 sb) ∧ wx.cell? ⟨wr.heap.size, 3, none⟩ = some (.int .i64 si) ∧ wx.cell? ⟨wr.heap.size, 4, none⟩ = some (.int .i64 sj) ∧ wx.cell? ⟨wr.heap.size, 5, none⟩ = some (.slice A' sf.length c')) (by kernel_rfl) K0.out (fun hHeld => ?_)
          obtain ⟨wq1, hwq1⟩ : ∃ w', w' = u.drew := ⟨_, rfl⟩
          rw [← hwq1] at hHeld ⊢
          have bq1 : Below u.heap.size u wq1 := by rw [hwq1]; exact (Below.refl _ _).drew
          clear hwq1
          have FB_q2 := Lib.hid ((FB_0.out).trans ((bq1).mono (FB_0.out).size))
          clear FB_0
          refine tk (i := 0) (h := ?_)
          (try simp only [Act.put, setIfInBounds_toArray, set_cons_zero, set_cons_succ])
          refine tk (i := 1) (h := ?_)
          (try simp only [Act.put, setIfInBounds_toArray, set_cons_zero, set_cons_succ])
          refine tk (i := 3) (h := ?_)
          (try simp only [Act.put, setIfInBounds_toArray, set_cons_zero, set_cons_succ])
          refine tk (i := 2) (h := ?_)
          (try simp only [Act.put, setIfInBounds_toArray, set_cons_zero, set_cons_succ])
          refine wpAnyH_ready (rs := [4, 8]) (by kernel_rfl) (by simp) ?_
          refine AllReadyH.cons rfl (fun K hK => ?_) ?_
          · go_simp
            have KLOq7 := Lib.hid FB_q2.out.size
            refine (HRES.out wq1 FB_q2.out).mono ?_
            rintro e wq7 ⟨AR, nR, cR, kk, rfl, belq7, hnoq7, hsoq7⟩
            dsimp only
            have FB_q8 := Lib.hid ((FB_q2.out).trans ((belq7).mono (FB_q2.out).size))
            clear FB_q2
            have HNO := Lib.hid hnoq7; have FS_q7 := Lib.hid hsoq7; have FZ_q7 := Lib.hid (Nat.le_refl wq7.heap.size)
            clear hnoq7 hsoq7 belq7
            refine hK.out _ _ (HSX.out _ FB_q8.out) (fun hHeld => ?_)
            clear hK K
            (try simp only [Act.put, setIfInBounds_toArray, set_cons_zero, set_cons_succ])
            refine tk (i := 5) (h := ?_)
            (try simp only [Act.put, setIfInBounds_toArray, set_cons_zero, set_cons_succ])
            refine tk (i := 6) (h := ?_)
            (try simp only [Act.put, setIfInBounds_toArray, set_cons_zero, set_cons_succ])
            refine tk (i := 7) (h := ?_)
            (try simp only [Act.put, setIfInBounds_toArray, set_cons_zero, set_cons_succ])
            refine t1 (i := 8) (h := fun K hK => ?_)
            go_simp
            have KGq12 := Lib.hid FB_q8.out.size
            have KHq12 := Lib.hid FZ_q7.out
            obtain ⟨wq12, hwq12⟩ : ∃ w', w' = wq7.alloc (.cells #[.slice none 0 0] 64) := ⟨_, rfl⟩
            rw [← hwq12]
            have bq12 := al hwq12
            have gq12 := an hwq12
            clear hwq12
            have FB_q13 := Lib.hid ((FB_q8.out).trans ((bq12).mono (FB_q8.out).size))
            have FS_q14 := Lib.hid (so_below (FS_q7.out) (bq12))
            have FZ_q15 := Lib.hid (Nat.le_trans (FZ_q7.out) (bq12).size)
            clear FB_q8 FS_q7 FZ_q7
            obtain ⟨gbq16, hgq16⟩ : ∃ b, wq7.heap.size = b := ⟨_, rfl⟩
            have FG_q16 := Lib.hid gq12
            rw [hgq16] at FG_q16 KGq12 KHq12 ⊢
            clear gq12 bq12
            refine hK.out _ _ (HSX.out _ FB_q13.out) (fun hHeld => ?_)
            clear hK K
            (try simp only [Act.put, setIfInBounds_toArray, set_cons_zero, set_cons_succ])
            refine t1 (i := 9) (h := fun K hK => ?_)
            have cz := cell_of_row _ _ 0 _ _ (0, 0) FG_q16.out; have fz := frozen_of_row wq12 gbq16 0 _ _ FG_q16.out
            go_simp
            obtain ⟨wq17, hwq17⟩ : ∃ w', w' = wq12.setCell ⟨gbq16, 0, none⟩ (.slice AR nR cR) := ⟨_, rfl⟩
            rw [← hwq17]
            have FB_q17 : Hid (Below u.heap.size u wq17) := Lib.hid (by rw [hwq17]; exact FB_q13.out.setCell (p := ⟨gbq16, 0, none⟩) KGq12.out (.slice AR nR cR))
            have FG_q17 : Hid (wq17.heap[gbq16]? = some (.cells #[.slice AR nR cR] 64 (0, 0))) := Lib.hid (by rw [hwq17]; exact cell_set FG_q16.out)
            have FS_q17 := Lib.hid (so_same (w' := wq17) FS_q14.out (fun k h1 h2 => by rw [hwq17]; exact Below.heap_setCell wq12 ⟨gbq16, 0, none⟩ _ _ (by show k ≠ gbq16; have := KHq12.out; omega)))
            have FZ_q17 : Hid (wq7.heap.size ≤ wq17.heap.size) := Lib.hid (by rw [hwq17]; first | (simp; done) | simpa using FZ_q15.out)
            clear cz fz hwq17 FB_q13 FG_q16 FS_q14 FZ_q15
            refine hK.out _ _ (HSX.out _ FB_q17.out) (fun hHeld => ?_)
            clear hK K
            (try simp only [Act.put, setIfInBounds_toArray, set_cons_zero, set_cons_succ])
            refine t1 (i := 10) (h := fun K hK => ?_)
            go_simp
            refine hK.out _ _ hHeld (fun hHeld => ?_)
            clear hK K
            (try simp only [Act.put, setIfInBounds_toArray, set_cons_zero, set_cons_succ])
            refine wpAnyH_done (by kernel_rfl) ?_ _
            have HB9 := Lib.hid (HBU.out.trans (FB_q17.out.mono HBU.out.size))
            have HO9 := Lib.hid (own_below HOU.out FB_q17.out (Nat.le_refl _))
            have HS9 := Lib.hid (HSU.out.below FB_q17.out)
            have HLO := Lib.hid (Nat.le_trans H1U.out KLOq7.out)
            have HSO := Lib.hid (so_up FS_q17.out HLO.out FZ_q17.out)
            have HSZ := Lib.hid (Nat.le_trans H1U.out FB_q17.out.size)
            have cz := cell_of_row _ _ 0 _ _ (0, 0) FG_q17.out
            clear HSX HRES
            cases X with
            | none =>
              have hk : (kk != 0) = true := by simpa using HNO.out rfl
              have HKK := Lib.hid (HNO.out rfl)
              have HST := Lib.hid (HSTOP.out rfl)
              clear cz
              go_wp2
              (try simp only [Exit.inBlock, Exit.then])
              refine bodyPost_ret (results_tmp3 rfl _ _ _) rfl ?_
              exact ⟨.slice none 0 0, kk, (k : Int), rfl, ⟨fun h => absurd h HKK.out, fun h => by rw [HCK.out, HST.out] at h; cases h⟩, HB9.out⟩
            | some R =>
              obtain ⟨rfl, rfl, hs, own⟩ := HSO.out R rfl
              have HPU := Lib.hid (HS9.out.push HLK.out (by omega) own)
              have HO10 := Lib.hid (HO9.out.stored k (.slice AR R.length cR)).1
              have cs := (HO9.out.cellAt k (by omega)).trans (List.getElem?_eq_getElem (show k < vs.length by omega))
              have fs := HO9.out.frozenAt k
              have HB10 := Lib.hid (HB9.out.setCell (p := ⟨w.heap.size, k, none⟩) (Nat.le_refl _) (.slice AR R.length cR))
              have HVA := Lib.hid (HVALID.out R rfl); have HPM := Lib.hid (HPREM.out R rfl); have HSP := Lib.hid (HSTEP.out R rfl)
              clear own HSO
              go_wp2
              go_roundw
              case rel => exact ⟨k + 1, _, L ++ [R], by omega, by go_num, HSP.out, by rw [List.length_append, HLK.out]; rfl, by rw [List.length_set]; exact hvl, HO10.out, HPU.out, HB10.out, by simpa using HSZ.out, lens_push HL.out HVA.out, prems_push HPR.out HLK.out (by omega) HPS.out HPM.out⟩
              case measure => simp [intOf]; omega
          refine AllReadyH.cons rfl (fun K hK => ?_) ?_
          · go_simp
            have KGq18 := Lib.hid FB_q2.out.size
            obtain ⟨wq18, hwq18⟩ : ∃ w', w' = wq1.alloc (.cells #[.slice none 0 0] 64) := ⟨_, rfl⟩
            rw [← hwq18]
            have bq18 := al hwq18
            have gq18 := an hwq18
            clear hwq18
            have FB_q19 := Lib.hid ((FB_q2.out).trans ((bq18).mono (FB_q2.out).size))
            clear FB_q2
            obtain ⟨gbq20, hgq20⟩ : ∃ b, wq1.heap.size = b := ⟨_, rfl⟩
            have FG_q20 := Lib.hid gq18
            rw [hgq20] at FG_q20 KGq18 ⊢
            clear gq18 bq18
            refine hK.out _ _ (HSX.out _ FB_q19.out) (fun hHeld => ?_)
            clear hK K
            (try simp only [Act.put, setIfInBounds_toArray, set_cons_zero, set_cons_succ])
            refine t1 (i := 4) (h := fun K hK => ?_)
            go_simp
            have KLOq21 := Lib.hid FB_q19.out.size
            have KAq21 := Lib.hid ((Array.getElem?_eq_some_iff.1 FG_q20.out).1)
            refine (HRES.out wq18 FB_q19.out).mono ?_
            rintro e wq21 ⟨AR, nR, cR, kk, rfl, belq21, hnoq21, hsoq21⟩
            dsimp only
            have FB_q22 := Lib.hid ((FB_q19.out).trans ((belq21).mono (FB_q19.out).size))
            have FG_q23 := Lib.hid (((belq21).block _ (Array.getElem?_eq_some_iff.1 (FG_q20.out)).1).trans (FG_q20.out))
            clear FB_q19 FG_q20
            have HNO := Lib.hid hnoq21; have FS_q21 := Lib.hid hsoq21; have FZ_q21 := Lib.hid (Nat.le_refl wq21.heap.size)
            clear hnoq21 hsoq21 belq21
            refine hK.out _ _ (HSX.out _ FB_q22.out) (fun hHeld => ?_)
            clear hK K
            (try simp only [Act.put, setIfInBounds_toArray, set_cons_zero, set_cons_succ])
            refine tk (i := 5) (h := ?_)
            (try simp only [Act.put, setIfInBounds_toArray, set_cons_zero, set_cons_succ])
            refine tk (i := 6) (h := ?_)
            (try simp only [Act.put, setIfInBounds_toArray, set_cons_zero, set_cons_succ])
            refine tk (i := 7) (h := ?_)
            (try simp only [Act.put, setIfInBounds_toArray, set_cons_zero, set_cons_succ])
            refine t1 (i := 9) (h := fun K hK => ?_)
            have cz := cell_of_row _ _ 0 _ _ (0, 0) FG_q23.out; have fz := frozen_of_row wq21 gbq20 0 _ _ FG_q23.out
            go_simp
            obtain ⟨wq27, hwq27⟩ : ∃ w', w' = wq21.setCell ⟨gbq20, 0, none⟩ (.slice AR nR cR) := ⟨_, rfl⟩
            rw [← hwq27]
            have FB_q27 : Hid (Below u.heap.size u wq27) := Lib.hid (by rw [hwq27]; exact FB_q22.out.setCell (p := ⟨gbq20, 0, none⟩) KGq18.out (.slice AR nR cR))
            have FG_q27 : Hid (wq27.heap[gbq20]? = some (.cells #[.slice AR nR cR] 64 (0, 0))) := Lib.hid (by rw [hwq27]; exact cell_set FG_q23.out)
            have FS_q27 := Lib.hid (so_same (w' := wq27) FS_q21.out (fun k h1 h2 => by rw [hwq27]; exact Below.heap_setCell wq21 ⟨gbq20, 0, none⟩ _ _ (by show k ≠ gbq20; have := KAq21.out; omega)))
            have FZ_q27 : Hid (wq21.heap.size ≤ wq27.heap.size) := Lib.hid (by rw [hwq27]; first | (simp; done) | simpa using FZ_q21.out)
            clear cz fz hwq27 FB_q22 FG_q23 FS_q21 FZ_q21
            refine hK.out _ _ (HSX.out _ FB_q27.out) (fun hHeld => ?_)
            clear hK K
            (try simp only [Act.put, setIfInBounds_toArray, set_cons_zero, set_cons_succ])
            refine t1 (i := 10) (h := fun K hK => ?_)
            go_simp
            refine hK.out _ _ hHeld (fun hHeld => ?_)
            clear hK K
            (try simp only [Act.put, setIfInBounds_toArray, set_cons_zero, set_cons_succ])
            refine wpAnyH_done (by kernel_rfl) ?_ _
            have HB9 := Lib.hid (HBU.out.trans (FB_q27.out.mono HBU.out.size))
            have HO9 := Lib.hid (own_below HOU.out FB_q27.out (Nat.le_refl _))
            have HS9 := Lib.hid (HSU.out.below FB_q27.out)
            have HLO := Lib.hid (Nat.le_trans H1U.out KLOq21.out)
            have HSO := Lib.hid (so_up FS_q27.out HLO.out FZ_q27.out)
            have HSZ := Lib.hid (Nat.le_trans H1U.out FB_q27.out.size)
            have cz := cell_of_row _ _ 0 _ _ (0, 0) FG_q27.out
            clear HSX HRES
            cases X with
            | none =>
              have hk : (kk != 0) = true := by simpa using HNO.out rfl
              have HKK := Lib.hid (HNO.out rfl)
              have HST := Lib.hid (HSTOP.out rfl)
              clear cz
              go_wp2
              (try simp only [Exit.inBlock, Exit.then])
              refine bodyPost_ret (results_tmp3 rfl _ _ _) rfl ?_
              exact ⟨.slice none 0 0, kk, (k : Int), rfl, ⟨fun h => absurd h HKK.out, fun h => by rw [HCK.out, HST.out] at h; cases h⟩, HB9.out⟩
            | some R =>
              obtain ⟨rfl, rfl, hs, own⟩ := HSO.out R rfl
              have HPU := Lib.hid (HS9.out.push HLK.out (by omega) own)
              have HO10 := Lib.hid (HO9.out.stored k (.slice AR R.length cR)).1
              have cs := (HO9.out.cellAt k (by omega)).trans (List.getElem?_eq_getElem (show k < vs.length by omega))
              have fs := HO9.out.frozenAt k
              have HB10 := Lib.hid (HB9.out.setCell (p := ⟨w.heap.size, k, none⟩) (Nat.le_refl _) (.slice AR R.length cR))
              have HVA := Lib.hid (HVALID.out R rfl); have HPM := Lib.hid (HPREM.out R rfl); have HSP := Lib.hid (HSTEP.out R rfl)
              clear own HSO
              go_wp2
              go_roundw
              case rel => exact ⟨k + 1, _, L ++ [R], by omega, by go_num, HSP.out, by rw [List.length_append, HLK.out]; rfl, by rw [List.length_set]; exact hvl, HO10.out, HPU.out, HB10.out, by simpa using HSZ.out, lens_push HL.out HVA.out, prems_push HPR.out HLK.out (by omega) HPS.out HPM.out⟩
              case measure => simp [intOf]; omega
          exact AllReadyH.nil
        · have hkn : k = n := by omega
          subst hkn
          have HMU := Lib.hid (misusedStep_any (some ⟨b, off, none⟩) k c ss wr ((HRD.out.below hB).more hB.size) (by omega) (by omega) hpr)
          have HB := Lib.hid hB
          have HK : Hid (ckB ss = useB ss) := Lib.hid (by rw [HCK.out, hsq]; rfl)
          have hd9 : decide ((k : Int) < (k : Int)) = false := decide_eq_false (by omega)
          clear hO hS hB hL hpr hsq
          go_wp2_with (fail)
          refine HMU.out.mono ?_
          rintro e w2 ⟨v, rfl, hv, b2⟩
          have HV : Hid (v = -1 ↔ useB ss = true) := Lib.hid hv
          have HB2 := Lib.hid (HB.out.trans (b2.mono HB.out.size))
          clear hv b2
          by_cases e1 : v = -1
          · have HU : Hid (useB ss = true) := Lib.hid (HV.out.1 e1)
            subst e1
            clear HV
            go_wp2
            (try simp only [Exit.inBlock, Exit.then])
            refine bodyPost_ret (results_tmp3 rfl _ _ _) rfl ?_
            exact ⟨_, 0, -1, rfl, ⟨fun _ => by rw [HK.out]; exact HU.out, fun _ => rfl⟩, HB2.out⟩
          · have hne : (v != -1) = true := by rw [bne_iff_ne]; exact e1
            have HNE := Lib.hid e1
            clear e1
            go_wp2
            (try simp only [Exit.inBlock, Exit.then])
            refine bodyPost_ret (results_tmp3 rfl _ _ _) rfl ?_
            exact ⟨_, 8, v, rfl, ⟨(fun h => by cases h), fun h => absurd (HV.out.2 (HK.out.symm.trans h)) HNE.out⟩, HB2.out⟩

set_option maxHeartbeats 1000000 in
theorem validProof_any (A : Option Addr) (n c : Nat) (ss : List Stp) (w : World) (h : RdP w w.heap.size A n ss) (hn : n ≤ 1048576) (ht : Arit w) (hu : Dual w) :
    Calls Tryz.prog 24 #[.slice A n c] w fun e w' => e = .returned (.bool (ckB ss)) ∧ Below w.heap.size w w' := by
  have HC := Lib.hid (checkProof_any A n c ss w h hn ht hu)
  generalize ckB ss = ok at *
  clear h ht hu
  go_enter Tryz.func24, Tryz.ntmps24
  go_wp2_with (fail)
  refine HC.out.mono ?_
  rintro e w2 ⟨v, k, p, rfl, hk, hb⟩
  have HB := Lib.hid hb
  have HE : Hid ((k == 0) = ok) := Lib.hid (by rw [Bool.eq_iff_iff, beq_iff_eq]; exact hk)
  clear hk hb
  go_wp2
  go_ret
  exact ⟨ret_bool HE.out, HB.out⟩
end
section
open Go.ChangeAt Go.ChangeShapes Go.RowKit Go.WideShapes

set_option maxHeartbeats 4000000 in
theorem eqStepS_any (A A2 : Option Addr) (n c c2 : Nat) (ss : List Stp) (w : World) (h : RdP w w.heap.size A n ss) (h' : RdP w w.heap.size A2 n ss) (hn : n ≤ 1048576) (hq : ∀ q ∈ fsP ss, q.length ≤ 1048576) :
    Calls Tryz.prog 10 #[.slice A n c, .slice A2 n c2] w fun e w' => e = .returned (.bool true) ∧ Below w.heap.size w w' := by
  have hl := h.len
  have hnn : (n != n) = false := by simp
  have HR := Lib.hid h; have HR2 := Lib.hid h'; have HQ := Lib.hid hq
  clear h h' hq
  go_enter Tryz.func10, Tryz.ntmps10
  go_wp2
  go_loopw [5] (fun i wr => ∃ k : Nat, k ≤ n ∧ i = .int .i64 k ∧ Below w.heap.size w wr) (fun i _ => n - (intOf i).toNat)
  case atStart => exact ⟨0, Nat.zero_le _, rfl, Below.refl _ _⟩
  case round =>
    obtain ⟨k, hk, rfl, hB⟩ := hrel
    have HB := Lib.hid hB
    by_cases hlt : k < n
    · obtain ⟨b, off, rfl, hbb, hcells⟩ := HR.out.2 (by omega)
      obtain ⟨b2, off2, rfl, hbb2, hcells2⟩ := HR2.out.2 (by omega)
      obtain ⟨A', c', hat⟩ := hcells k hlt
      obtain ⟨A3, c3, hat2⟩ := hcells2 k hlt
      have hm := HQ.out _ (getD_mem (show k < (fsP ss).length by rw [fsP_len]; omega))
      rw [fsP_getD ss k (by omega)] at hm
      obtain ⟨x0, x1, x2, x3, x4, x5, hx6, hx7⟩ := hat.keep (fun _ hp => hB.cell hp) hbb
      obtain ⟨y0, y1, y2, y3, y4, y5, hy6, hy7⟩ := hat2.keep (fun _ hp => hB.cell hp) hbb2
      have HE := Lib.hid (eqStep_any (ss.getD k Stp.nil).r (ss.getD k Stp.nil).a (ss.getD k Stp.nil).b (ss.getD k Stp.nil).i (ss.getD k Stp.nil).j A' A3 (ss.getD k Stp.nil).f.length c' c3 (ss.getD k Stp.nil).f wr.drew (hx7.more hB.size) (hy7.more hB.size) hm)
      have hi1 : (k : Int) < (n : Int) := by omega
      clear hcells hcells2 hat hat2 hB hx7 hy7 HQ
      generalize (ss.getD k Stp.nil).f.length = M at *
      generalize (ss.getD k Stp.nil).r = sr at *; generalize (ss.getD k Stp.nil).a = sa at *; generalize (ss.getD k Stp.nil).b = sb at *; generalize (ss.getD k Stp.nil).i = si at *; generalize (ss.getD k Stp.nil).j = sj at *
      go_wp2_with (fail)
      go_region_with (go_at_call 28; refine HE.out.mono ?_; rintro e wf ⟨rfl, bf'⟩; have bf := undrew bf'; clear bf')
      all_goals go_wp2
      all_goals
        go_roundw
        case rel => exact ⟨k + 1, by omega, by go_num, HB.out.trans (bf.mono HB.out.size)⟩
        case measure => simp [intOf]; omega
    · have hkl : k = n := by omega
      subst hkl
      clear hB
      go_wp2
      go_ret
      exact ⟨rfl, HB.out⟩
end
end Go.Proofs.YthbkcpacgnmcfaaGreatDoor
