/- The model's CheckProof and ValidProof. Made by mkcmn.py. -/
import Derived.Test.YthbkcpacgnmcfaaGreatDoorQCmH
import Derived.Test.YthbkcpacgnmcfaaGreatDoorQCmE3
import Derived.Test.YthbkcpacgnmcfaaGreatDoorQSubA
namespace Go.Proofs.YthbkcpacgnmcfaaGreatDoor
set_option linter.unusedSimpArgs false
set_option linter.unusedVariables false
open Go.ChangeAt Go.ChangeShapes Go.RowKit Go.WideShapes

theorem ownq_grown {w w' : World} {lo hi b2 n2 : Nat} {v v2 : Value} {xs : List Value} {hs : Nat → Option Addr × Nat} {qs : List (List Int)} (h : OwnQ w lo hi v hs qs) (o : w.ownsRow b2 64 1 v2 n2 xs) (hg : w.grownBy w' v2.ownBlock) : OwnQ w' lo hi v hs qs where
  outer := h.outer.kept hg (row_apart h.outer o (by decide))
  inner i hi := (h.inner i hi).kept hg (row_apart (h.inner i hi) o (by decide))
  apart := h.apart
  apart0 := h.apart0
  top0 := h.top0
  top := h.top
/-- The sequents so far, each in memory of its own between lo and hi. -/
def Sqv (w : World) (lo hi : Nat) (vs : List Value) (L : List (List (List Int))) : Prop :=
  ∀ j, j < L.length → ∃ hs A c, vs[j]? = some (.slice A (L.getD j []).length c) ∧ OwnQ w lo hi (.slice A (L.getD j []).length c) hs (L.getD j [])
structure Ckp (w wr : World) (gU lo hi n go co k : Nat) (us vs : List Value) (L : List (List (List Int))) : Prop where
  hb : Below w.heap.size w wr
  use : wr.ownsRow w.heap.size 2 1 (.slice (some ⟨gU, 0, none⟩) n n) n us
  out : wr.ownsRow w.heap.size 64 1 (.slice (some ⟨go, 0, none⟩) k co) k vs
  sq : Sqv wr lo hi vs L
  gl : gU < lo
  lh : lo ≤ hi
  gh : go < hi
  hw : hi ≤ wr.heap.size
  len : L.length = k
section
variable {w wr w' : World} {gU lo hi n go co k : Nat} {us vs : List Value} {L : List (List (List Int))}
theorem Ckp.below (h : Ckp w wr gU lo hi n go co k us vs L) (b : Below wr.heap.size wr w') : Ckp w w' gU lo hi n go co k us vs L where
  hb := h.hb.trans (b.mono h.hb.size)
  use := own_below h.use b (Nat.le_refl _)
  out := own_below h.out b (Nat.le_refl _)
  sq j hj := by obtain ⟨hs, A, c, h1, h2⟩ := h.sq j hj; exact ⟨hs, A, c, h1, h2.below b⟩
  gl := h.gl
  lh := h.lh
  gh := h.gh
  hw := Nat.le_trans h.hw b.size
  len := h.len
theorem Ckp.far (h : Ckp w wr gU lo hi n go co k us vs L) {p : Addr} (hp : hi ≤ p.block) (v : Value) : Ckp w (wr.setCell p v) gU lo hi n go co k us vs L where
  hb := h.hb.setCell (by have := (h.out.lt go rfl).1; have := h.gh; omega) v
  use := own_same h.use fun b e => Below.heap_setCell _ _ _ _ (by have e' : gU = b := (by simpa [Value.ownBlock] using e); have := h.gl; have := h.lh; omega)
  out := own_same h.out fun b e => Below.heap_setCell _ _ _ _ (by have e' : go = b := (by simpa [Value.ownBlock] using e); have := h.gh; omega)
  sq j hj := by
    obtain ⟨hs, A, c, h1, h2⟩ := h.sq j hj
    exact ⟨hs, A, c, h1, h2.same fun b _ hb _ => Below.heap_setCell _ _ _ _ (by omega)⟩
  gl := h.gl
  lh := h.lh
  gh := h.gh
  hw := by simpa using h.hw
  len := h.len
theorem Ckp.useSet (h : Ckp w wr gU lo hi n go co k us vs L) (x : Nat) (v : Value) : Ckp w (wr.setCell ⟨gU, x, none⟩ v) gU lo hi n go co k (us.set x v) vs L where
  hb := h.hb.setCell (by exact (h.use.lt gU rfl).1) v
  use := (h.use.stored x v).1
  out := own_same h.out fun b e => Below.heap_setCell _ _ _ _ (by
    rcases row_apart h.out h.use (by decide) with h0 | h0
    · rw [h0] at e; cases e
    · intro e2; exact h0 (by rw [e]; exact congrArg some e2))
  sq j hj := by
    obtain ⟨hs, A, c, h1, h2⟩ := h.sq j hj
    exact ⟨hs, A, c, h1, h2.setBelow (by exact h.gl) v⟩
  gl := h.gl
  lh := h.lh
  gh := h.gh
  hw := by simpa using h.hw
  len := h.len
theorem Ckp.push {A : Option Addr} {c g' c' : Nat} {R : List (List Int)} {hs : Nat → Option Addr × Nat} (h : Ckp w wr gU lo hi n go co k us vs L) (own : OwnQ wr lo wr.heap.size (.slice A R.length c) hs R)
    (ho : w'.ownsRow w.heap.size 64 1 (.slice (some ⟨g', 0, none⟩) (k + 1) c') (k + 1) (vs ++ [.slice A R.length c])) (hg : wr.grownBy w' (Value.slice (some ⟨go, 0, none⟩) k co).ownBlock) :
    Ckp w w' gU lo w'.heap.size n g' c' (k + 1) us (vs ++ [.slice A R.length c]) (L ++ [R]) where
  hb := h.hb.grown hg h.hb.size (fun b hb => (h.out.lt b hb).1)
  use := h.use.kept hg (row_apart h.use h.out (by decide))
  out := ho
  sq j hj := by
    have hlv : vs.length = k := by have := h.out.1; omega
    rw [List.length_append] at hj
    by_cases e : j < L.length
    · have hg2 : (L ++ [R]).getD j [] = L.getD j [] := by rw [List.getD_eq_getElem?_getD, List.getD_eq_getElem?_getD, List.getElem?_append_left e]
      rw [hg2]
      obtain ⟨hs', A', c2, h1, h2⟩ := h.sq j e
      have := h.len
      exact ⟨hs', A', c2, by rw [List.getElem?_append_left (by omega)]; exact h1, (ownq_grown h2 h.out hg).more (Nat.le_refl _) (Nat.le_trans h.hw hg.size)⟩
    · have ej : j = L.length := by simp only [List.length_cons, List.length_nil] at hj; omega
      have hg2 : (L ++ [R]).getD j [] = R := by rw [ej, List.getD_eq_getElem?_getD, List.getElem?_append_right (Nat.le_refl _)]; simp
      rw [hg2]
      have := h.len
      exact ⟨hs, A, c, by rw [List.getElem?_append_right (by omega), show j - vs.length = 0 by omega]; rfl, (ownq_grown own h.out hg).more (Nat.le_refl _) hg.size⟩
  gl := h.gl
  lh := Nat.le_trans h.lh (Nat.le_trans h.hw hg.size)
  gh := (ho.lt g' rfl).2
  hw := Nat.le_refl _
  len := by rw [List.length_append, h.len]; rfl
theorem Ckp.part (h : Ckp w wr gU lo hi n go co k us vs L) {j : Nat} (hj : j < k) : ∃ A c, wr.cell? ⟨go, j, none⟩ = some (.slice A (L.getD j []).length c) ∧ RdQ wr wr.heap.size A (L.getD j []).length (L.getD j []) ∧ (L.getD j []).length ≤ c ∧ (A = none → c = 0) := by
  obtain ⟨hs, A, c, h1, h2⟩ := h.sq j (by rw [h.len]; exact hj)
  refine ⟨A, c, by rw [h.out.cellAt j (by omega)]; exact h1, h2.rd rfl, own_cap1 h2.outer, fun e => ?_⟩
  subst e
  rcases h2.outer.2 with ⟨e, _⟩ | ⟨g, cap, cur, e, _⟩
  · injection e
  · cases e
end
theorem pre_cases {r a b : Int} {k : Nat} (h : preB r a b k = true) : (1 ≤ r ∧ r ≤ 14) ∧ ((ruP r = 0 ∧ a = -1 ∧ b = -1) ∨ (ruP r = 1 ∧ (∃ x : Nat, a = x ∧ x < k) ∧ b = -1) ∨ (ruP r = 2 ∧ (∃ x : Nat, a = x ∧ x < k) ∧ ∃ y : Nat, b = y ∧ y < k)) := by
  unfold preB at h
  simp only [Bool.and_eq_true, decide_eq_true_eq] at h
  obtain ⟨hr, ha, hb⟩ := h
  refine ⟨hr, ?_⟩
  have nat : ∀ p : Int, prm p true k = true → ∃ x : Nat, p = x ∧ x < k := fun p hp => by
    have : 0 ≤ p ∧ p ≤ (k : Int) - 1 := of_decide_eq_true hp
    exact ⟨p.toNat, by omega, by omega⟩
  have neg : ∀ p : Int, prm p false k = true → p = -1 := fun p hp => of_decide_eq_true hp
  rcases ruP_three r hr.1 hr.2 with hp | hp | hp
  · rw [hp] at ha hb; exact .inl ⟨hp, neg _ ha, neg _ hb⟩
  · rw [hp] at ha hb; exact .inr (.inl ⟨hp, nat _ ha, neg _ hb⟩)
  · rw [hp] at ha hb; exact .inr (.inr ⟨hp, nat _ ha, nat _ hb⟩)
theorem pre_no {L : List (List (List Int))} {s : Stp} {k : Nat} (hL : L.length = k) (h : preB s.r s.a s.b k = false) : seqOf L s = none := by
  cases hs : seqOf L s with
  | none => rfl
  | some R =>
    exfalso
    unfold seqOf raV at hs
    split at hs
    · rename_i hr
      obtain ⟨P, Q, hp, hq, _⟩ := both_some hs
      have f : ∀ (p : Int) (nm : Bool) (P : List (List Int)), paV L p nm = some P → prm p nm k = true := fun p nm P h => by
        unfold paV at h
        unfold prm
        cases nm with
        | false =>
          simp only [reduceIte] at h ⊢
          split at h
          · simpa using (by assumption : p = -1)
          · cases h
        | true =>
          simp only [Bool.true_eq_false, reduceIte] at h ⊢
          split at h
          · rename_i h9
            rw [hL] at h9
            exact decide_eq_true (by omega)
          · cases h
      have : preB s.r s.a s.b k = true := by
        unfold preB
        rw [decide_eq_true hr, f _ _ _ hp, f _ _ _ hq]; rfl
      rw [this] at h; cases h
    · cases hs
theorem pa_named {L : List (List (List Int))} {x : Nat} (h : x < L.length) : paV L (x : Int) true = some (L.getD x []) := by
  unfold paV
  rw [if_neg (by decide), if_pos (by omega), Int.toNat_natCast]
theorem pa_none (L : List (List (List Int))) : paV L (-1) false = some [] := rfl
theorem seq_0 {L : List (List (List Int))} {r i j : Int} {f : List Int} (hr : 1 ≤ r ∧ r ≤ 14) (hp : ruP r = 0) : seqOf L ⟨r, -1, -1, i, j, f⟩ = srV r i j f [] [] := by
  unfold seqOf raV; rw [if_pos hr]; simp only [hp]; rfl
theorem seq_1 {L : List (List (List Int))} {r i j : Int} {f : List Int} {x : Nat} (hr : 1 ≤ r ∧ r ≤ 14) (hp : ruP r = 1) (hx : x < L.length) : seqOf L ⟨r, x, -1, i, j, f⟩ = srV r i j f (L.getD x []) [] := by
  unfold seqOf raV; rw [if_pos hr]; simp only [hp]
  rw [show decide ((0 : Int) < 1) = true from rfl, show decide ((1 : Int) < 1) = false from rfl, pa_named hx, pa_none]; rfl
theorem seq_2 {L : List (List (List Int))} {r i j : Int} {f : List Int} {x y : Nat} (hr : 1 ≤ r ∧ r ≤ 14) (hp : ruP r = 2) (hx : x < L.length) (hy : y < L.length) : seqOf L ⟨r, x, y, i, j, f⟩ = srV r i j f (L.getD x []) (L.getD y []) := by
  unfold seqOf raV; rw [if_pos hr]; simp only [hp]
  rw [show decide ((0 : Int) < 2) = true from rfl, show decide ((1 : Int) < 2) = true from rfl, pa_named hx, pa_named hy]; rfl
theorem prS_0 (r i j : Int) (f : List Int) : prS ⟨r, -1, -1, i, j, f⟩ = [] := rfl
theorem prS_1 (r i j : Int) (f : List Int) (x : Nat) : prS ⟨r, x, -1, i, j, f⟩ = [(x : Int)] := by
  unfold prS poL
  rw [List.filter_cons_of_pos (by simp)]; rfl
theorem prS_2 (r i j : Int) (f : List Int) (x y : Nat) : prS ⟨r, x, y, i, j, f⟩ = [(x : Int), (y : Int)] := by
  unfold prS poL
  rw [List.filter_cons_of_pos (by simp), List.filter_cons_of_pos (by simp)]; rfl
theorem info_i64' : ∃ i, Tryz.prog.info? 2 = some i ∧ i.zero = some (.int .i64 0) ∧ i.size = 1 ∧ i.bytes = 8 := info_parts info_i64
theorem cnts_mk {w : World} {b g n : Nat} (h : w.ownsRow b 2 1 (.slice (some ⟨g, 0, none⟩) n n) n (madeCells (Value.int .i64 0).cells (n * 1)).toList) : w.ownsRow b 2 1 (.slice (some ⟨g, 0, none⟩) n n) n (cnts n []) := by
  have e : (madeCells (Value.int .i64 0).cells (n * 1)).toList = cnts n [] := by
    apply List.ext_getElem?
    intro i
    by_cases hi : i < n
    · rw [cnts_at hi]
      unfold madeCells
      rw [Array.getElem?_toList, Array.getElem?_map, Array.getElem?_range, if_pos (by omega)]
      simp [Value.cells]
      rw [Nat.mod_one]; rfl
    · rw [List.getElem?_eq_none (by rw [Array.length_toList, size_madeCells]; omega), List.getElem?_eq_none (by simp [cnts]; omega)]
  rw [← e]; exact h
theorem use_no {ss : List Stp} {k : Nat} (hk : k < ss.length - 1) (h : (usedS ss ss.length).count (k : Int) ≠ 1) : useB ss = false := by
  unfold useB
  rw [List.all_eq_false]
  exact ⟨k, List.mem_range.2 hk, by simpa using h⟩
theorem use_yes {ss : List Stp} (h : ∀ k, k < ss.length - 1 → (usedS ss ss.length).count (k : Int) = 1) : useB ss = true := by
  unfold useB
  rw [List.all_eq_true]
  intro k hk
  simpa using h k (List.mem_range.1 hk)

theorem cnt_le {ss : List Stp} {k n : Nat} (hn : n ≤ 40) (hk : k < n) {x : Int} (M : List Int) (h : M.length ≤ (usedS ss k).length + 1) : M.count x ≤ 200 := by
  have h1 := usedS_len ss k
  have h2 : M.count x ≤ M.length := List.count_le_length
  omega

set_option linter.unusedSimpArgs false in
set_option maxRecDepth 100000 in
set_option maxHeartbeats 40000000 in
theorem sCheckProof_any (A : Option Addr) (n c : Nat) (ss : List Stp) (w : World) (h : RdP w w.heap.size A n ss) (hn : n ≤ 1048576) (hq : ∀ q ∈ fsP ss, q.length ≤ 1048576) :
    Calls Tryz.prog 32 #[.slice A n c] w (GivesK w (ckB ss)) := by
  have hl := h.len
  have HR := Lib.hid (inRange_any (n : Int) 1 40 w)
  by_cases h1 : 1 ≤ (n : Int) ∧ (n : Int) ≤ 40
  · rw [decide_eq_true h1] at HR
    have HCK : Hid (ckB ss = ((sqK ss n).isSome && useB ss)) := Lib.hid (by unfold ckB; rw [hl, decide_eq_true (show 0 < n by omega), decide_eq_true (show n ≤ 40 by omega)]; rfl)
    have hn40 : n ≤ 40 := by omega
    obtain ⟨i0, hi0, hz0, hz1, hz2⟩ := info_i64'
    obtain ⟨i1, hi1, hy0, hy1, hy2⟩ := info_parts_seqT
    have HI1 := Lib.hid hi1; have HY0 := Lib.hid hy0; have HY1 := Lib.hid hy1; have HY2 := Lib.hid hy2
    obtain ⟨b, off, rfl, hbb, hat⟩ := h.2 (by omega)
    have b2 : i0.bytes * n ≤ 281474976710656 := by rw [hz2]; omega
    have b3 : n ≤ maxLen := by unfold maxLen; omega
    have HAT := Lib.hid hat; have HQ := Lib.hid hq; have HL := Lib.hid hl
    obtain ⟨u0, hu0⟩ : ∃ u0, u0 = w.alloc (.cells #[] 64) := ⟨_, rfl⟩
    have bu0 : Below w.heap.size w u0 := by rw [hu0]; exact box_any w _
    have su0 : w.heap.size + 1 = u0.heap.size := by rw [hu0]; simp
    have ou0 : u0.ownsRow w.heap.size 64 1 (.slice (some ⟨w.heap.size, 0, none⟩) 0 0) 0 [] := by rw [hu0]; exact World.ownsRow_made w #[] 0 (Nat.le_refl _) (by simp [maxLen]) rfl
    have HU0 := Lib.hid hu0; have BU0 := Lib.hid bu0; have OU0 := Lib.hid ou0; have SU0 := Lib.hid su0
    clear hat h hq hl hu0 bu0 ou0 su0 hi1 hy0 hy1 hy2
    go_enter Tryz.func32, Tryz.ntmps32
    go_wp2_with (fail)
    refine HR.out.mono ?_
    rintro e w0 ⟨rfl, rfl⟩
    go_upto_region 4 with (fail)
    rw [← HU0.out]
    go_wp2_with (at_make; refine wpList_make_full _ rfl _ _ _ rfl w.heap.size 2 i0 (.int .i64 0) 1 Tryz.underlying36 hi0 hz0 hz1 _ _ _ _ n rfl rfl rfl rfl b2 b3 BU0.out.size ?_; intro w1 hown hg)
    have hbel : Below u0.heap.size u0 w1 := (Below.refl _ _).grown hg (Nat.le_refl _) (by intro k hk; cases hk)
    have hgu : u0.heap.size < w1.heap.size := (hown.lt u0.heap.size rfl).2
    obtain ⟨gU, hgU⟩ : ∃ g, u0.heap.size = g := ⟨_, rfl⟩
    have HC0 : Hid (Ckp w w1 gU w1.heap.size w1.heap.size n w.heap.size 0 0 (cnts n (usedS ss 0)) [] []) := Lib.hid {
      hb := BU0.out.trans (hbel.mono BU0.out.size)
      use := by rw [← hgU]; exact cnts_mk hown
      out := own_below OU0.out hbel (Nat.le_refl _)
      sq := fun j hj => absurd hj (Nat.not_lt_zero _)
      gl := by omega
      lh := Nat.le_refl _
      gh := by have := SU0.out; omega
      hw := Nat.le_refl _
      len := rfl }
    obtain ⟨lo, hlo⟩ : ∃ lo, w1.heap.size = lo := ⟨_, rfl⟩
    rw [hlo] at HC0
    try rw [hgU]
    have HGU := Lib.hid hgU; have HLO := Lib.hid hlo
    clear hg hown b2 b3 hi0 hz0 hz1 hz2 hbel hgu hgU hlo
    go_loopw [5, 7] (fun o i wr => ∃ (k go co hi : Nat) (vs : List Value) (L : List (List (List Int))), k ≤ n ∧ i = .int .i64 k ∧ o = .slice (some ⟨go, 0, none⟩) k co ∧ sqK ss k = some L ∧ Ckp w wr gU lo hi n go co k (cnts n (usedS ss k)) vs L ∧ (∀ j, j < k → validQ (L.getD j []) = true)) (fun _ i _ => n - (intOf i).toNat)
    case atStart => exact ⟨0, _, _, _, [], [], Nat.zero_le _, rfl, rfl, rfl, HC0.out, fun j hj => absurd hj (Nat.not_lt_zero _)⟩
    case round =>
      obtain ⟨k, go, co, hi, vs, L, hk, rfl, rfl, hsq, hC, hval⟩ := hrel
      clear HC0 HU0 OU0 SU0 BU0 HGU HLO
      by_cases hlt : k < n
      · obtain ⟨A', c', hA⟩ := HAT.out k hlt
        have hB := hC.hb
        obtain ⟨a0, a1, a2, a3, a4, a5, acap, ard⟩ := hA.keep (w' := wr) (fun p hp => hB.cell hp) hbb
        obtain ⟨X, hX⟩ : ∃ X, seqOf L (ss.getD k Stp.nil) = X := ⟨_, rfl⟩
        have HVALID := Lib.hid fun R (e : X = some R) => seqOf_valid (hX.trans e)
        have HSTEP := Lib.hid fun R (e : X = some R) => sqK_step hsq (hX.trans e)
        have HSTOP := Lib.hid fun (e : X = none) => sqK_stop hsq (hX.trans e) hlt
        have HUSE := Lib.hid (usedS_succ (ss := ss) (k := k) (by rw [HL.out]; exact hlt))
        have hfl : (ss.getD k Stp.nil).f.length ≤ 1048576 := HQ.out _ (by rw [← fsP_getD ss k (by rw [HL.out]; exact hlt)]; exact getD_mem (by rw [fsP_len, HL.out]; exact hlt))
        have HVAL := Lib.hid hval; have HCK0 := Lib.hid hC
        obtain ⟨s, hs⟩ : ∃ s, ss.getD k Stp.nil = s := ⟨_, rfl⟩
        rw [hs] at a0 a1 a2 a3 a4 a5 acap ard hX HUSE hfl
        have HPS := Lib.hid hs
        clear hs hA hsq hval
        obtain ⟨sr, sa, sb, si, sj, sf⟩ := s
        dsimp only at a0 a1 a2 a3 a4 a5 acap ard hfl
        have HXX := Lib.hid hX
        obtain ⟨u, hu⟩ : ∃ u, u = wr.alloc (.cells #[Value.int .i64 sr, Value.int .i64 sa, Value.int .i64 sb, Value.int .i64 si, Value.int .i64 sj, Value.slice A' (sf.length) c'] 43) := ⟨_, rfl⟩
        have hbu : Below wr.heap.size wr u := by rw [hu]; exact box_any wr _
        have hg0 := an hu
        have HUU := Lib.hid hu; have HBUR := Lib.hid hbu; have HG0 := Lib.hid hg0; have HARD := Lib.hid (ard.more (Nat.le_refl _))
        have HPC := Lib.hid (sPremiseCode_any sr sa sb si sj A' sf.length c' k u (by omega))
        obtain ⟨pb, hpb⟩ : ∃ pb, preB sr sa sb k = pb := ⟨_, rfl⟩
        rw [hpb] at HPC
        have HPB := Lib.hid hpb
        have hd9 : decide ((k : Int) < (n : Int)) = true := decide_eq_true (by omega)
        have e0 := cell_of_row _ _ 0 _ _ (0, 0) hg0; have e1 := cell_of_row _ _ 1 _ _ (0, 0) hg0; have e2 := cell_of_row _ _ 2 _ _ (0, 0) hg0; have e3 := cell_of_row _ _ 3 _ _ (0, 0) hg0; have e4 := cell_of_row _ _ 4 _ _ (0, 0) hg0; have e5 := cell_of_row _ _ 5 _ _ (0, 0) hg0
        clear hu hbu hg0 hX hpb hB hC ard
        go_upto_region 9 with (fail)
        rw [← HUU.out]
        clear a0 a1 a2 a3 a4 a5
        go_wp2_with (fail)
        refine HPC.out.mono ?_
        rintro e u1 ⟨kk, rfl, hk0, hk1, b1⟩
        have HB1 := Lib.hid b1
        have HG1 := Lib.hid ((b1.block _ (Array.getElem?_eq_some_iff.1 HG0.out).1).trans HG0.out)
        have HC1 := Lib.hid ((HCK0.out.below HBUR.out).below b1)
        clear b1 e0 e1 e2 e3 e4 e5 HPC
        cases pb with
        | false =>
          have HN : Hid (ckB ss = false) := Lib.hid (by
            have hx : X = none := by rw [← HXX.out]; exact pre_no HCK0.out.len HPB.out
            rw [HCK.out, HSTOP.out hx]; rfl)
          have hkk : (kk != 0) = true := by simpa using hk1 rfl
          have HKK := Lib.hid (hk1 rfl)
          clear hk0 hk1
          go_wp2
          (try simp only [Exit.inBlock, Exit.then])
          refine bodyPost_ret (results_tmp3 rfl _ _ _) rfl ?_
          exact ⟨_, kk, _, rfl, ⟨fun h => absurd h HKK.out, fun h => by rw [HN.out] at h; cases h⟩, HC1.out.hb⟩
        | true =>
          have hkz : kk = 0 := hk0 rfl
          subst hkz
          clear hk0 hk1
          have hpc := pre_cases HPB.out
          obtain ⟨hrr, hpc⟩ := hpc
          obtain ⟨u2, hu2⟩ : ∃ u2, u2 = (u1.alloc (.cells #[Value.slice none 0 0] 64)).alloc (.cells #[Value.slice none 0 0] 64) := ⟨_, rfl⟩
          obtain ⟨b12, q1, q2, hs2⟩ := two_any u1 (.cells #[Value.slice none 0 0] 64) (.cells #[Value.slice none 0 0] 64)
          rw [← hu2] at b12 q1 q2 hs2
          have HU2 := Lib.hid hu2
          have HC2 := Lib.hid (HC1.out.below b12)
          have HG2 := Lib.hid ((b12.block _ (Array.getElem?_eq_some_iff.1 HG1.out).1).trans HG1.out)
          have HQ1 := Lib.hid q1; have HQ2 := Lib.hid q2
          have hge : hi ≤ wr.heap.size := HCK0.out.hw
          have hge1 : wr.heap.size < u1.heap.size := (Array.getElem?_eq_some_iff.1 HG1.out).1
          have HSZ : Hid (hi ≤ wr.heap.size ∧ wr.heap.size < u1.heap.size) := Lib.hid ⟨hge, hge1⟩
          have hgUl : gU < wr.heap.size := by have := HCK0.out.gl; have := HCK0.out.lh; omega
          obtain ⟨gs, hgs⟩ : ∃ gs, wr.heap.size = gs := ⟨_, rfl⟩
          obtain ⟨gp, hgp⟩ : ∃ gp, u1.heap.size = gp := ⟨_, rfl⟩
          rw [hgs] at HG2 HSZ hgUl; rw [hgp] at HQ1 HQ2 HSZ
          have HGS := Lib.hid hgs; have HGP := Lib.hid hgp; have HGL := Lib.hid hgUl
          clear hu2 b12 q1 q2 hs2 hge hge1 hgUl HG1 HC1
          have E1 := cell_of_row _ _ 1 _ _ (0, 0) HG2.out
          go_upto_region 14 with (fail)
          rw [← HU2.out]
          try rw [hgs]
          try rw [hgp]
          clear hgs hgp
          rcases hpc with ⟨hp, rfl, rfl⟩ | ⟨hp, ⟨xa, rfl, hxa⟩, rfl⟩ | ⟨hp, ⟨xa, rfl, hxa⟩, ⟨yb, rfl, hyb⟩⟩
          · have HSR := Lib.hid (fun (wx : World) (A1 : Option Addr) (n1 c1 : Nat) (P : List (List Int)) (A2 : Option Addr) (n2 c2 : Nat) (Q : List (List Int)) (h : RdQ wx wx.heap.size A1 n1 P) (h2 : RdQ wx wx.heap.size A2 n2 Q) (hf : RdI wx wx.heap.size A' sf.length sf) (hc1 : n1 ≤ c1) (hc2 : n2 ≤ c2) (hA : A1 = none → c1 = 0) (hP : validQ P = true) (hQ : validQ Q = true) => sStepResult_any sr (-1) (-1) si sj hrr.1 hrr.2 A1 n1 c1 P A2 n2 c2 Q A' sf.length c' sf wx h h2 hf acap hfl hc1 hc2 hA hP hQ)
            have HX : Hid (srV sr si sj sf [] [] = X) := Lib.hid ((seq_0 hrr hp).symm.trans HXX.out)
            have HUS : Hid (usedS ss (k + 1) = usedS ss k) := Lib.hid (by rw [HUSE.out, prS_0, List.append_nil])
            have HPV : Hid (validQ [] = true) := Lib.hid (rfl)
            have HQV : Hid (validQ [] = true) := Lib.hid (rfl)
            have hda : decide ((0 : Int) ≤ (-1 : Int)) = false := by decide
            have E2 := cell_of_row _ _ 2 _ _ (0, 0) HG2.out
            have hc1 := cell_of_row _ _ 0 _ _ (0, 0) HQ1.out; have hc2 := cell_of_row _ _ 0 _ _ (0, 0) HQ2.out
            have E0 := cell_of_row _ _ 0 _ _ (0, 0) HG2.out; have E3 := cell_of_row _ _ 3 _ _ (0, 0) HG2.out; have E4 := cell_of_row _ _ 4 _ _ (0, 0) HG2.out; have E5 := cell_of_row _ _ 5 _ _ (0, 0) HG2.out
            have HF9 : Hid (RdI u2 u2.heap.size A' sf.length sf) := Lib.hid ((HARD.out.keep (fun p hp => (HC2.out.hb.cell hp).trans (HCK0.out.hb.cell hp).symm)).more HC2.out.hb.size)
            have HCALL := Lib.hid (HSR.out u2 none 0 0 [] none 0 0 [] (RdQ.nil _ _ _) (RdQ.nil _ _ _) HF9.out (Nat.le_refl _) (Nat.le_refl _) (fun _ => rfl) HPV.out HQV.out)
            rw [HX.out] at HCALL
            have HCF : Hid (Ckp w u2 gU lo hi n go co k (cnts n (usedS ss (k + 1))) vs L) := Lib.hid (by rw [HUS.out]; exact HC2.out)
            go_wp2_with (fail)
            refine HCALL.out.mono ?_
            rintro e u7 ⟨b7, hr7⟩
            have HC7 := Lib.hid (HCF.out.below b7)
            have hsz7 := b7.size
            clear hc1 hc2 E0 E1 E2 E3 E4 E5 HCALL HSR
            obtain ⟨n7, hn7⟩ : ∃ n7, u2.heap.size = n7 := ⟨_, rfl⟩
            have HN7 := Lib.hid hn7
            clear hn7 b7
            cases X with
            | none =>
              obtain ⟨k3, hk3, rfl⟩ := hr7
              have hkk : (k3 != 0) = true := by simpa using hk3
              have HKK := Lib.hid hk3
              have HN : Hid (ckB ss = false) := Lib.hid (by rw [HCK.out, HSTOP.out rfl]; rfl)
              have HB7 := Lib.hid (HC7.out.below (box_any u7 (.cells #[Value.slice none 0 0] 64))).hb
              clear hk3
              go_wp2
              (try simp only [Exit.inBlock, Exit.then])
              refine bodyPost_ret (results_tmp3 rfl _ _ _) rfl ?_
              exact ⟨_, k3, _, rfl, ⟨fun h => absurd h HKK.out, fun h => by rw [HN.out] at h; cases h⟩, HB7.out⟩
            | some R =>
              obtain ⟨hs9, AR, cR, rfl, own⟩ := hr7
              have hlo7 : lo ≤ u2.heap.size := Nat.le_trans HCF.out.lh HCF.out.hw
              have HOWN := Lib.hid (own.more hlo7 (Nat.le_refl _))
              obtain ⟨u8, hu8⟩ : ∃ u8, u8 = u7.alloc (.cells #[Value.slice AR R.length cR] 64) := ⟨_, rfl⟩
              have b8 : Below u7.heap.size u7 u8 := by rw [hu8]; exact box_any u7 _
              have g8 := an hu8
              obtain ⟨u9, hu9⟩ : ∃ u9, u9 = u8.alloc (.cells #[Value.slice AR R.length cR] 64) := ⟨_, rfl⟩
              have b9 : Below u8.heap.size u8 u9 := by rw [hu9]; exact box_any u8 _
              have g9 := an hu9
              have HU8 := Lib.hid hu8; have HU9 := Lib.hid hu9; have HG8 := Lib.hid g8; have HG9 := Lib.hid g9
              have b79 := b8.trans (b9.mono b8.size)
              have HC9 := Lib.hid (HC7.out.below b79)
              have HW9 := Lib.hid ((HOWN.out.below b79).more (Nat.le_refl _) b79.size)
              have HVR := Lib.hid (HVALID.out R rfl); have HST := Lib.hid (HSTEP.out R rfl)
              have hz9 : w.heap.size ≤ u9.heap.size := HC9.out.hb.size
              have e8 := cell_of_row _ _ 0 _ _ (0, 0) g8
              clear own hlo7 hu8 hu9 b8 b9 g8 g9 b79
              go_upto_region 21 with (fail)
              rw [← HU8.out]
              go_wp2_with (at_builtin; rw [← HU9.out]; refine wpList_append_own _ rfl _ _ 54 rfl w.heap.size 64 i1 (.agg #[.slice none 0 0]) 1 24 Tryz.underlying54 HI1.out HY0.out HY1.out HY2.out rfl (by decide) _ _ _ rfl HC9.out.out ⟨_, 0, none⟩ 1 1 [.slice AR R.length cR] rfl rfl (World.news_of_block HG9.out) (by simp [Value.oneCell']) (by unfold maxLen; omega) (by omega) hz9 ?_; intro v10 w10 hown10 hgrow10 hiff10; obtain ⟨g10, c10, rfl⟩ := own_some hown10 (fun e => by have := (hiff10.1 e).1; cases this); have HC10 := Lib.hid (HC9.out.push HW9.out hown10 hgrow10); clear hown10 hgrow10 hiff10)
              go_roundw
              case rel => exact ⟨k + 1, g10, c10, _, _, L ++ [R], by omega, by go_num, rfl, HST.out, HC10.out, fun j hj => by
                by_cases e : j < L.length
                · rw [List.getD_eq_getElem?_getD, List.getElem?_append_left e, ← List.getD_eq_getElem?_getD]; exact HVAL.out j (by rw [← HCK0.out.len]; exact e)
                · have ej : j = L.length := by have := HCK0.out.len; omega
                  rw [ej, List.getD_eq_getElem?_getD, List.getElem?_append_right (Nat.le_refl _)]
                  simpa using HVR.out⟩
              case measure => simp [intOf]; omega
          · have HSR := Lib.hid (fun (wx : World) (A1 : Option Addr) (n1 c1 : Nat) (P : List (List Int)) (A2 : Option Addr) (n2 c2 : Nat) (Q : List (List Int)) (h : RdQ wx wx.heap.size A1 n1 P) (h2 : RdQ wx wx.heap.size A2 n2 Q) (hf : RdI wx wx.heap.size A' sf.length sf) (hc1 : n1 ≤ c1) (hc2 : n2 ≤ c2) (hA : A1 = none → c1 = 0) (hP : validQ P = true) (hQ : validQ Q = true) => sStepResult_any sr ((xa : Nat) : Int) (-1) si sj hrr.1 hrr.2 A1 n1 c1 P A2 n2 c2 Q A' sf.length c' sf wx h h2 hf acap hfl hc1 hc2 hA hP hQ)
            have HX : Hid (srV sr si sj sf (L.getD xa []) [] = X) := Lib.hid ((seq_1 hrr hp (by rw [HCK0.out.len]; exact hxa)).symm.trans HXX.out)
            have HUS : Hid (usedS ss (k + 1) = usedS ss k ++ [((xa : Nat) : Int)]) := Lib.hid (by rw [HUSE.out, prS_1])
            have HPV : Hid (validQ (L.getD xa []) = true) := Lib.hid (HVAL.out xa hxa)
            have HQV : Hid (validQ [] = true) := Lib.hid (rfl)
            obtain ⟨Aa, ca, ka, ra, ma, za⟩ := HC2.out.part hxa
            have HMa := Lib.hid ma; have HZa := Lib.hid za
            have hda : decide ((0 : Int) ≤ ((xa : Nat) : Int)) = true := decide_eq_true (by omega)
            have hcza := cell_of_row _ _ 0 _ _ (0, 0) HQ1.out; have hfza := frozen_of_row _ _ 0 _ _ HQ1.out
            obtain ⟨npa, hnpa⟩ : ∃ np, (L.getD xa []).length = np := ⟨_, rfl⟩
            rw [hnpa] at ka
            have HNPa := Lib.hid hnpa
            have VKPa := Lib.hid ka
            obtain ⟨ywa, hya⟩ : ∃ y, y = u2.setCell ⟨gp, 0, none⟩ (.slice Aa npa ca) := ⟨_, rfl⟩
            have HYa := Lib.hid hya
            have HCYa : Hid (Ckp w ywa gU lo hi n go co k (cnts n (usedS ss k)) vs L) := Lib.hid (by rw [hya]; exact HC2.out.far (p := ⟨gp, 0, none⟩) (by have := HSZ.out; show hi ≤ gp; omega) _)
            have hkya : ∀ g, g ≠ gp → ywa.heap[g]? = u2.heap[g]? := fun g h1 => by rw [hya, Below.heap_setCell _ _ _ _ (by exact h1)]
            have HGYa := Lib.hid ((hkya gs (by have := HSZ.out; omega)).trans HG2.out)
            have HBYa : Hid (ywa.heap[gp]? = some (.cells #[Value.slice Aa npa ca] 64 (0, 0))) := Lib.hid (by rw [hya]; exact cell_set HQ1.out)
            have HOYa := Lib.hid ((hkya (gp + 1) (by omega)).trans HQ2.out)
            clear hnpa hya hkya ma za ra
            go_upto_region 16 with (fail)
            rw [← HYa.out]
            clear E1 hcza hfza ka
            have Fa := cell_of_row _ _ 1 _ _ (0, 0) HGYa.out
            obtain ⟨cta, hcta⟩ : ∃ ct, (usedS ss k).count ((xa : Nat) : Int) = ct := ⟨_, rfl⟩
            have hcua := (HCYa.out.use.cellAt xa (by omega)).trans (cnts_at (n := n) (L := usedS ss k) (by omega)); have hfua := HCYa.out.use.frozenAt xa
            have hcsa : (cnts n (usedS ss k)).set xa (.int .i64 ((cta : Int) + 1)) = cnts n ((usedS ss k) ++ [((xa : Nat) : Int)]) := by rw [← hcta]; exact cnts_set (by omega)
            rw [hcta] at hcua
            have hcba : cta ≤ 200 := by rw [← hcta]; exact cnt_le (ss := ss) hn40 hlt _ (by simp)
            have hwca : IntKind.i64.wrap ((cta : Int) + 1) = (cta : Int) + 1 := IntWalk.i64_in _ (by omega)
            obtain ⟨va, hva⟩ : ∃ v, v = ywa.setCell ⟨gU, xa, none⟩ (.int .i64 ((cta : Int) + 1)) := ⟨_, rfl⟩
            have HVa := Lib.hid hva
            have HCVa : Hid (Ckp w va gU lo hi n go co k (cnts n ((usedS ss k) ++ [((xa : Nat) : Int)])) vs L) := Lib.hid (by rw [hva, ← hcsa]; exact HCYa.out.useSet xa _)
            have hkva : ∀ g, g ≠ gU → va.heap[g]? = ywa.heap[g]? := fun g h1 => by rw [hva, Below.heap_setCell _ _ _ _ (by exact h1)]
            have HGVa := Lib.hid ((hkva gs (by have := HGL.out; omega)).trans HGYa.out)
            have HBVa := Lib.hid ((hkva (gp) (by have := HSZ.out; have := HGL.out; omega)).trans HBYa.out)
            have HOVa := Lib.hid ((hkva (gp + 1) (by have := HSZ.out; have := HGL.out; omega)).trans HOYa.out)
            clear hcsa hcta hva hkva hcba
            have hdb : decide ((0 : Int) ≤ (-1 : Int)) = false := by decide
            go_upto_region 17 with (fail)
            rw [← HVa.out]
            clear Fa hcua hfua hwca
            have hc1 := cell_of_row _ _ 0 _ _ (0, 0) HBVa.out; have hc2 := cell_of_row _ _ 0 _ _ (0, 0) HOVa.out
            have E0 := cell_of_row _ _ 0 _ _ (0, 0) HGVa.out; have E1 := cell_of_row _ _ 1 _ _ (0, 0) HGVa.out; have E2 := cell_of_row _ _ 2 _ _ (0, 0) HGVa.out; have E3 := cell_of_row _ _ 3 _ _ (0, 0) HGVa.out; have E4 := cell_of_row _ _ 4 _ _ (0, 0) HGVa.out; have E5 := cell_of_row _ _ 5 _ _ (0, 0) HGVa.out
            have KPa : Hid (va.cell? ⟨go, xa, none⟩ = some (.slice Aa npa ca)) := Lib.hid (by rw [HCVa.out.out.cellAt xa (by omega), ← HC2.out.out.cellAt xa (by omega)]; exact VKPa.out)
            have HR9 : Hid (RdQ va va.heap.size Aa npa (L.getD xa [])) := Lib.hid (by
              obtain ⟨A9, c9, k9, r9, m9, z9⟩ := HCVa.out.part hxa
              rw [HNPa.out] at k9 r9
              have e9 := k9.symm.trans KPa.out
              injection e9 with e9
              injection e9 with e9 _ e8
              rw [← e9]; exact r9)
            have HF9 : Hid (RdI va va.heap.size A' sf.length sf) := Lib.hid ((HARD.out.keep (fun p hp => (HCVa.out.hb.cell hp).trans (HCK0.out.hb.cell hp).symm)).more HCVa.out.hb.size)
            have HCALL := Lib.hid (HSR.out va Aa npa ca (L.getD xa []) none 0 0 [] HR9.out (RdQ.nil _ _ _) HF9.out (by rw [← HNPa.out]; exact HMa.out) (Nat.le_refl _) HZa.out HPV.out HQV.out)
            rw [HX.out] at HCALL
            have HCF : Hid (Ckp w va gU lo hi n go co k (cnts n (usedS ss (k + 1))) vs L) := Lib.hid (by rw [HUS.out]; exact HCVa.out)
            go_wp2_with (fail)
            refine HCALL.out.mono ?_
            rintro e u7 ⟨b7, hr7⟩
            have HC7 := Lib.hid (HCF.out.below b7)
            have hsz7 := b7.size
            clear hc1 hc2 E0 E1 E2 E3 E4 E5 HCALL HSR
            obtain ⟨n7, hn7⟩ : ∃ n7, va.heap.size = n7 := ⟨_, rfl⟩
            have HN7 := Lib.hid hn7
            clear hn7 b7
            cases X with
            | none =>
              obtain ⟨k3, hk3, rfl⟩ := hr7
              have hkk : (k3 != 0) = true := by simpa using hk3
              have HKK := Lib.hid hk3
              have HN : Hid (ckB ss = false) := Lib.hid (by rw [HCK.out, HSTOP.out rfl]; rfl)
              have HB7 := Lib.hid (HC7.out.below (box_any u7 (.cells #[Value.slice none 0 0] 64))).hb
              clear hk3
              go_wp2
              (try simp only [Exit.inBlock, Exit.then])
              refine bodyPost_ret (results_tmp3 rfl _ _ _) rfl ?_
              exact ⟨_, k3, _, rfl, ⟨fun h => absurd h HKK.out, fun h => by rw [HN.out] at h; cases h⟩, HB7.out⟩
            | some R =>
              obtain ⟨hs9, AR, cR, rfl, own⟩ := hr7
              have hlo7 : lo ≤ va.heap.size := Nat.le_trans HCF.out.lh HCF.out.hw
              have HOWN := Lib.hid (own.more hlo7 (Nat.le_refl _))
              obtain ⟨u8, hu8⟩ : ∃ u8, u8 = u7.alloc (.cells #[Value.slice AR R.length cR] 64) := ⟨_, rfl⟩
              have b8 : Below u7.heap.size u7 u8 := by rw [hu8]; exact box_any u7 _
              have g8 := an hu8
              obtain ⟨u9, hu9⟩ : ∃ u9, u9 = u8.alloc (.cells #[Value.slice AR R.length cR] 64) := ⟨_, rfl⟩
              have b9 : Below u8.heap.size u8 u9 := by rw [hu9]; exact box_any u8 _
              have g9 := an hu9
              have HU8 := Lib.hid hu8; have HU9 := Lib.hid hu9; have HG8 := Lib.hid g8; have HG9 := Lib.hid g9
              have b79 := b8.trans (b9.mono b8.size)
              have HC9 := Lib.hid (HC7.out.below b79)
              have HW9 := Lib.hid ((HOWN.out.below b79).more (Nat.le_refl _) b79.size)
              have HVR := Lib.hid (HVALID.out R rfl); have HST := Lib.hid (HSTEP.out R rfl)
              have hz9 : w.heap.size ≤ u9.heap.size := HC9.out.hb.size
              have e8 := cell_of_row _ _ 0 _ _ (0, 0) g8
              clear own hlo7 hu8 hu9 b8 b9 g8 g9 b79
              go_upto_region 21 with (fail)
              rw [← HU8.out]
              go_wp2_with (at_builtin; rw [← HU9.out]; refine wpList_append_own _ rfl _ _ 54 rfl w.heap.size 64 i1 (.agg #[.slice none 0 0]) 1 24 Tryz.underlying54 HI1.out HY0.out HY1.out HY2.out rfl (by decide) _ _ _ rfl HC9.out.out ⟨_, 0, none⟩ 1 1 [.slice AR R.length cR] rfl rfl (World.news_of_block HG9.out) (by simp [Value.oneCell']) (by unfold maxLen; omega) (by omega) hz9 ?_; intro v10 w10 hown10 hgrow10 hiff10; obtain ⟨g10, c10, rfl⟩ := own_some hown10 (fun e => by have := (hiff10.1 e).1; cases this); have HC10 := Lib.hid (HC9.out.push HW9.out hown10 hgrow10); clear hown10 hgrow10 hiff10)
              go_roundw
              case rel => exact ⟨k + 1, g10, c10, _, _, L ++ [R], by omega, by go_num, rfl, HST.out, HC10.out, fun j hj => by
                by_cases e : j < L.length
                · rw [List.getD_eq_getElem?_getD, List.getElem?_append_left e, ← List.getD_eq_getElem?_getD]; exact HVAL.out j (by rw [← HCK0.out.len]; exact e)
                · have ej : j = L.length := by have := HCK0.out.len; omega
                  rw [ej, List.getD_eq_getElem?_getD, List.getElem?_append_right (Nat.le_refl _)]
                  simpa using HVR.out⟩
              case measure => simp [intOf]; omega
          · have HSR := Lib.hid (fun (wx : World) (A1 : Option Addr) (n1 c1 : Nat) (P : List (List Int)) (A2 : Option Addr) (n2 c2 : Nat) (Q : List (List Int)) (h : RdQ wx wx.heap.size A1 n1 P) (h2 : RdQ wx wx.heap.size A2 n2 Q) (hf : RdI wx wx.heap.size A' sf.length sf) (hc1 : n1 ≤ c1) (hc2 : n2 ≤ c2) (hA : A1 = none → c1 = 0) (hP : validQ P = true) (hQ : validQ Q = true) => sStepResult_any sr ((xa : Nat) : Int) ((yb : Nat) : Int) si sj hrr.1 hrr.2 A1 n1 c1 P A2 n2 c2 Q A' sf.length c' sf wx h h2 hf acap hfl hc1 hc2 hA hP hQ)
            have HX : Hid (srV sr si sj sf (L.getD xa []) (L.getD yb []) = X) := Lib.hid ((seq_2 hrr hp (by rw [HCK0.out.len]; exact hxa) (by rw [HCK0.out.len]; exact hyb)).symm.trans HXX.out)
            have HUS : Hid (usedS ss (k + 1) = (usedS ss k ++ [((xa : Nat) : Int)]) ++ [((yb : Nat) : Int)]) := Lib.hid (by rw [HUSE.out, prS_2, List.append_assoc, List.singleton_append])
            have HPV : Hid (validQ (L.getD xa []) = true) := Lib.hid (HVAL.out xa hxa)
            have HQV : Hid (validQ (L.getD yb []) = true) := Lib.hid (HVAL.out yb hyb)
            obtain ⟨Aa, ca, ka, ra, ma, za⟩ := HC2.out.part hxa
            have HMa := Lib.hid ma; have HZa := Lib.hid za
            have hda : decide ((0 : Int) ≤ ((xa : Nat) : Int)) = true := decide_eq_true (by omega)
            have hcza := cell_of_row _ _ 0 _ _ (0, 0) HQ1.out; have hfza := frozen_of_row _ _ 0 _ _ HQ1.out
            obtain ⟨npa, hnpa⟩ : ∃ np, (L.getD xa []).length = np := ⟨_, rfl⟩
            rw [hnpa] at ka
            have HNPa := Lib.hid hnpa
            have VKPa := Lib.hid ka
            obtain ⟨ywa, hya⟩ : ∃ y, y = u2.setCell ⟨gp, 0, none⟩ (.slice Aa npa ca) := ⟨_, rfl⟩
            have HYa := Lib.hid hya
            have HCYa : Hid (Ckp w ywa gU lo hi n go co k (cnts n (usedS ss k)) vs L) := Lib.hid (by rw [hya]; exact HC2.out.far (p := ⟨gp, 0, none⟩) (by have := HSZ.out; show hi ≤ gp; omega) _)
            have hkya : ∀ g, g ≠ gp → ywa.heap[g]? = u2.heap[g]? := fun g h1 => by rw [hya, Below.heap_setCell _ _ _ _ (by exact h1)]
            have HGYa := Lib.hid ((hkya gs (by have := HSZ.out; omega)).trans HG2.out)
            have HBYa : Hid (ywa.heap[gp]? = some (.cells #[Value.slice Aa npa ca] 64 (0, 0))) := Lib.hid (by rw [hya]; exact cell_set HQ1.out)
            have HOYa := Lib.hid ((hkya (gp + 1) (by omega)).trans HQ2.out)
            clear hnpa hya hkya ma za ra
            go_upto_region 16 with (fail)
            rw [← HYa.out]
            clear E1 hcza hfza ka
            have Fa := cell_of_row _ _ 1 _ _ (0, 0) HGYa.out
            obtain ⟨cta, hcta⟩ : ∃ ct, (usedS ss k).count ((xa : Nat) : Int) = ct := ⟨_, rfl⟩
            have hcua := (HCYa.out.use.cellAt xa (by omega)).trans (cnts_at (n := n) (L := usedS ss k) (by omega)); have hfua := HCYa.out.use.frozenAt xa
            have hcsa : (cnts n (usedS ss k)).set xa (.int .i64 ((cta : Int) + 1)) = cnts n ((usedS ss k) ++ [((xa : Nat) : Int)]) := by rw [← hcta]; exact cnts_set (by omega)
            rw [hcta] at hcua
            have hcba : cta ≤ 200 := by rw [← hcta]; exact cnt_le (ss := ss) hn40 hlt _ (by simp)
            have hwca : IntKind.i64.wrap ((cta : Int) + 1) = (cta : Int) + 1 := IntWalk.i64_in _ (by omega)
            obtain ⟨va, hva⟩ : ∃ v, v = ywa.setCell ⟨gU, xa, none⟩ (.int .i64 ((cta : Int) + 1)) := ⟨_, rfl⟩
            have HVa := Lib.hid hva
            have HCVa : Hid (Ckp w va gU lo hi n go co k (cnts n ((usedS ss k) ++ [((xa : Nat) : Int)])) vs L) := Lib.hid (by rw [hva, ← hcsa]; exact HCYa.out.useSet xa _)
            have hkva : ∀ g, g ≠ gU → va.heap[g]? = ywa.heap[g]? := fun g h1 => by rw [hva, Below.heap_setCell _ _ _ _ (by exact h1)]
            have HGVa := Lib.hid ((hkva gs (by have := HGL.out; omega)).trans HGYa.out)
            have HBVa := Lib.hid ((hkva (gp) (by have := HSZ.out; have := HGL.out; omega)).trans HBYa.out)
            have HOVa := Lib.hid ((hkva (gp + 1) (by have := HSZ.out; have := HGL.out; omega)).trans HOYa.out)
            clear hcsa hcta hva hkva hcba
            have E9 := cell_of_row _ _ 2 _ _ (0, 0) HGVa.out
            go_upto_region 17 with (fail)
            rw [← HVa.out]
            clear Fa hcua hfua hwca
            obtain ⟨Ab, cb, kb, rb, mb, zb⟩ := HCVa.out.part hyb
            have HMb := Lib.hid mb; have HZb := Lib.hid zb
            have hdb : decide ((0 : Int) ≤ ((yb : Nat) : Int)) = true := decide_eq_true (by omega)
            have hczb := cell_of_row _ _ 0 _ _ (0, 0) HOVa.out; have hfzb := frozen_of_row _ _ 0 _ _ HOVa.out
            obtain ⟨npb, hnpb⟩ : ∃ np, (L.getD yb []).length = np := ⟨_, rfl⟩
            rw [hnpb] at kb
            have HNPb := Lib.hid hnpb
            have VKPb := Lib.hid kb
            obtain ⟨ywb, hyb⟩ : ∃ y, y = va.setCell ⟨gp + 1, 0, none⟩ (.slice Ab npb cb) := ⟨_, rfl⟩
            have HYb := Lib.hid hyb
            have HCYb : Hid (Ckp w ywb gU lo hi n go co k (cnts n (usedS ss k ++ [((xa : Nat) : Int)])) vs L) := Lib.hid (by rw [hyb]; exact HCVa.out.far (p := ⟨gp + 1, 0, none⟩) (by have := HSZ.out; show hi ≤ gp + 1; omega) _)
            have hkyb : ∀ g, g ≠ gp + 1 → ywb.heap[g]? = va.heap[g]? := fun g h1 => by rw [hyb, Below.heap_setCell _ _ _ _ (by exact h1)]
            have HGYb := Lib.hid ((hkyb gs (by have := HSZ.out; omega)).trans HGVa.out)
            have HBYb : Hid (ywb.heap[gp + 1]? = some (.cells #[Value.slice Ab npb cb] 64 (0, 0))) := Lib.hid (by rw [hyb]; exact cell_set HOVa.out)
            have HOYb := Lib.hid ((hkyb (gp) (by omega)).trans HBVa.out)
            clear hnpb hyb hkyb mb zb rb
            go_upto_region 19 with (fail)
            rw [← HYb.out]
            clear E9 hczb hfzb kb
            have Fb := cell_of_row _ _ 2 _ _ (0, 0) HGYb.out
            obtain ⟨ctb, hctb⟩ : ∃ ct, (usedS ss k ++ [((xa : Nat) : Int)]).count ((yb : Nat) : Int) = ct := ⟨_, rfl⟩
            have hcub := (HCYb.out.use.cellAt yb (by omega)).trans (cnts_at (n := n) (L := usedS ss k ++ [((xa : Nat) : Int)]) (by omega)); have hfub := HCYb.out.use.frozenAt yb
            have hcsb : (cnts n (usedS ss k ++ [((xa : Nat) : Int)])).set yb (.int .i64 ((ctb : Int) + 1)) = cnts n ((usedS ss k ++ [((xa : Nat) : Int)]) ++ [((yb : Nat) : Int)]) := by rw [← hctb]; exact cnts_set (by omega)
            rw [hctb] at hcub
            have hcbb : ctb ≤ 200 := by rw [← hctb]; exact cnt_le (ss := ss) hn40 hlt _ (by simp)
            have hwcb : IntKind.i64.wrap ((ctb : Int) + 1) = (ctb : Int) + 1 := IntWalk.i64_in _ (by omega)
            obtain ⟨vb, hvb⟩ : ∃ v, v = ywb.setCell ⟨gU, yb, none⟩ (.int .i64 ((ctb : Int) + 1)) := ⟨_, rfl⟩
            have HVb := Lib.hid hvb
            have HCVb : Hid (Ckp w vb gU lo hi n go co k (cnts n ((usedS ss k ++ [((xa : Nat) : Int)]) ++ [((yb : Nat) : Int)])) vs L) := Lib.hid (by rw [hvb, ← hcsb]; exact HCYb.out.useSet yb _)
            have hkvb : ∀ g, g ≠ gU → vb.heap[g]? = ywb.heap[g]? := fun g h1 => by rw [hvb, Below.heap_setCell _ _ _ _ (by exact h1)]
            have HGVb := Lib.hid ((hkvb gs (by have := HGL.out; omega)).trans HGYb.out)
            have HBVb := Lib.hid ((hkvb (gp + 1) (by have := HSZ.out; have := HGL.out; omega)).trans HBYb.out)
            have HOVb := Lib.hid ((hkvb (gp) (by have := HSZ.out; have := HGL.out; omega)).trans HOYb.out)
            clear hcsb hctb hvb hkvb hcbb
            go_upto_region 20 with (fail)
            rw [← HVb.out]
            clear Fb hcub hfub hwcb
            have hc1 := cell_of_row _ _ 0 _ _ (0, 0) HOVb.out; have hc2 := cell_of_row _ _ 0 _ _ (0, 0) HBVb.out
            have E0 := cell_of_row _ _ 0 _ _ (0, 0) HGVb.out; have E1 := cell_of_row _ _ 1 _ _ (0, 0) HGVb.out; have E2 := cell_of_row _ _ 2 _ _ (0, 0) HGVb.out; have E3 := cell_of_row _ _ 3 _ _ (0, 0) HGVb.out; have E4 := cell_of_row _ _ 4 _ _ (0, 0) HGVb.out; have E5 := cell_of_row _ _ 5 _ _ (0, 0) HGVb.out
            have KPa : Hid (vb.cell? ⟨go, xa, none⟩ = some (.slice Aa npa ca)) := Lib.hid (by rw [HCVb.out.out.cellAt xa (by omega), ← HC2.out.out.cellAt xa (by omega)]; exact VKPa.out)
            have HR9 : Hid (RdQ vb vb.heap.size Aa npa (L.getD xa [])) := Lib.hid (by
              obtain ⟨A9, c9, k9, r9, m9, z9⟩ := HCVb.out.part hxa
              rw [HNPa.out] at k9 r9
              have e9 := k9.symm.trans KPa.out
              injection e9 with e9
              injection e9 with e9 _ e8
              rw [← e9]; exact r9)
            have KPb : Hid (vb.cell? ⟨go, yb, none⟩ = some (.slice Ab npb cb)) := Lib.hid (by rw [HCVb.out.out.cellAt yb (by omega), ← HCVa.out.out.cellAt yb (by omega)]; exact VKPb.out)
            have HR8 : Hid (RdQ vb vb.heap.size Ab npb (L.getD yb [])) := Lib.hid (by
              obtain ⟨A9, c9, k9, r9, m9, z9⟩ := HCVb.out.part hyb
              rw [HNPb.out] at k9 r9
              have e9 := k9.symm.trans KPb.out
              injection e9 with e9
              injection e9 with e9 _ e8
              rw [← e9]; exact r9)
            have HF9 : Hid (RdI vb vb.heap.size A' sf.length sf) := Lib.hid ((HARD.out.keep (fun p hp => (HCVb.out.hb.cell hp).trans (HCK0.out.hb.cell hp).symm)).more HCVb.out.hb.size)
            have HCALL := Lib.hid (HSR.out vb Aa npa ca (L.getD xa []) Ab npb cb (L.getD yb []) HR9.out HR8.out HF9.out (by rw [← HNPa.out]; exact HMa.out) (by rw [← HNPb.out]; exact HMb.out) HZa.out HPV.out HQV.out)
            rw [HX.out] at HCALL
            have HCF : Hid (Ckp w vb gU lo hi n go co k (cnts n (usedS ss (k + 1))) vs L) := Lib.hid (by rw [HUS.out]; exact HCVb.out)
            go_wp2_with (fail)
            refine HCALL.out.mono ?_
            rintro e u7 ⟨b7, hr7⟩
            have HC7 := Lib.hid (HCF.out.below b7)
            have hsz7 := b7.size
            clear hc1 hc2 E0 E1 E2 E3 E4 E5 HCALL HSR
            obtain ⟨n7, hn7⟩ : ∃ n7, vb.heap.size = n7 := ⟨_, rfl⟩
            have HN7 := Lib.hid hn7
            clear hn7 b7
            cases X with
            | none =>
              obtain ⟨k3, hk3, rfl⟩ := hr7
              have hkk : (k3 != 0) = true := by simpa using hk3
              have HKK := Lib.hid hk3
              have HN : Hid (ckB ss = false) := Lib.hid (by rw [HCK.out, HSTOP.out rfl]; rfl)
              have HB7 := Lib.hid (HC7.out.below (box_any u7 (.cells #[Value.slice none 0 0] 64))).hb
              clear hk3
              go_wp2
              (try simp only [Exit.inBlock, Exit.then])
              refine bodyPost_ret (results_tmp3 rfl _ _ _) rfl ?_
              exact ⟨_, k3, _, rfl, ⟨fun h => absurd h HKK.out, fun h => by rw [HN.out] at h; cases h⟩, HB7.out⟩
            | some R =>
              obtain ⟨hs9, AR, cR, rfl, own⟩ := hr7
              have hlo7 : lo ≤ vb.heap.size := Nat.le_trans HCF.out.lh HCF.out.hw
              have HOWN := Lib.hid (own.more hlo7 (Nat.le_refl _))
              obtain ⟨u8, hu8⟩ : ∃ u8, u8 = u7.alloc (.cells #[Value.slice AR R.length cR] 64) := ⟨_, rfl⟩
              have b8 : Below u7.heap.size u7 u8 := by rw [hu8]; exact box_any u7 _
              have g8 := an hu8
              obtain ⟨u9, hu9⟩ : ∃ u9, u9 = u8.alloc (.cells #[Value.slice AR R.length cR] 64) := ⟨_, rfl⟩
              have b9 : Below u8.heap.size u8 u9 := by rw [hu9]; exact box_any u8 _
              have g9 := an hu9
              have HU8 := Lib.hid hu8; have HU9 := Lib.hid hu9; have HG8 := Lib.hid g8; have HG9 := Lib.hid g9
              have b79 := b8.trans (b9.mono b8.size)
              have HC9 := Lib.hid (HC7.out.below b79)
              have HW9 := Lib.hid ((HOWN.out.below b79).more (Nat.le_refl _) b79.size)
              have HVR := Lib.hid (HVALID.out R rfl); have HST := Lib.hid (HSTEP.out R rfl)
              have hz9 : w.heap.size ≤ u9.heap.size := HC9.out.hb.size
              have e8 := cell_of_row _ _ 0 _ _ (0, 0) g8
              clear own hlo7 hu8 hu9 b8 b9 g8 g9 b79
              go_upto_region 21 with (fail)
              rw [← HU8.out]
              go_wp2_with (at_builtin; rw [← HU9.out]; refine wpList_append_own _ rfl _ _ 54 rfl w.heap.size 64 i1 (.agg #[.slice none 0 0]) 1 24 Tryz.underlying54 HI1.out HY0.out HY1.out HY2.out rfl (by decide) _ _ _ rfl HC9.out.out ⟨_, 0, none⟩ 1 1 [.slice AR R.length cR] rfl rfl (World.news_of_block HG9.out) (by simp [Value.oneCell']) (by unfold maxLen; omega) (by omega) hz9 ?_; intro v10 w10 hown10 hgrow10 hiff10; obtain ⟨g10, c10, rfl⟩ := own_some hown10 (fun e => by have := (hiff10.1 e).1; cases this); have HC10 := Lib.hid (HC9.out.push HW9.out hown10 hgrow10); clear hown10 hgrow10 hiff10)
              go_roundw
              case rel => exact ⟨k + 1, g10, c10, _, _, L ++ [R], by omega, by go_num, rfl, HST.out, HC10.out, fun j hj => by
                by_cases e : j < L.length
                · rw [List.getD_eq_getElem?_getD, List.getElem?_append_left e, ← List.getD_eq_getElem?_getD]; exact HVAL.out j (by rw [← HCK0.out.len]; exact e)
                · have ej : j = L.length := by have := HCK0.out.len; omega
                  rw [ej, List.getD_eq_getElem?_getD, List.getElem?_append_right (Nat.le_refl _)]
                  simpa using HVR.out⟩
              case measure => simp [intOf]; omega
      · have hkn : k = n := by omega
        subst hkn
        have HCE := Lib.hid hC
        have HK9 : Hid (ckB ss = useB ss) := Lib.hid (by rw [HCK.out, hsq]; rfl)
        have hd9 : decide ((k : Int) < (k : Int)) = false := decide_eq_false (by omega)
        have hk0 : 0 < k := by omega
        have HUB := Lib.hid (usedS_len ss k)
        clear hsq hval HQ HAT hC
        go_wp2_with (fail)
        go_loopw [13] (fun i wx => ∃ q : Nat, q ≤ k - 1 ∧ i = .int .i64 q ∧ (∀ m, m < q → (usedS ss k).count (m : Int) = 1) ∧ wx = wr) (fun i _ => (k - 1) - (intOf i).toNat)
        case atStart => exact ⟨0, Nat.zero_le _, rfl, fun m hm => absurd hm (Nat.not_lt_zero _), rfl⟩
        case round =>
          rename World => wx
          obtain ⟨q, hq9, rfl, hone, rfl⟩ := hrel
          have HONE := Lib.hid hone
          clear hone
          by_cases hql : q < k - 1
          · have hc9 := (HCE.out.use.cellAt q (by omega)).trans (cnts_at (n := k) (L := usedS ss k) (by omega))
            have hdq : decide ((q : Int) < (k : Int) - 1) = true := decide_eq_true (by omega)
            have hwk : IntKind.i64.wrap ((k : Int) - 1) = (k : Int) - 1 := IntWalk.i64_in _ (by omega)
            obtain ⟨cc, hcc⟩ : ∃ cc, (usedS ss k).count (q : Int) = cc := ⟨_, rfl⟩
            rw [hcc] at hc9
            have HCC := Lib.hid hcc
            clear hcc
            by_cases h19 : cc = 1
            · subst h19
              have hne : (((1 : Nat) : Int) != 1) = false := by decide
              go_wp2
              go_roundw
              case rel => exact ⟨q + 1, by omega, by go_num, fun m hm => by
                rcases Nat.lt_or_ge m q with h1 | h1
                · exact HONE.out m h1
                · obtain rfl : m = q := by omega
                  exact HCC.out, trivial⟩
              case measure => simp [intOf]; omega
            · have hne : ((cc : Int) != 1) = true := bne_iff_ne.2 (by omega)
              have HN : Hid (ckB ss = false) := Lib.hid (by rw [HK9.out]; exact use_no (k := q) (by rw [HL.out]; exact hql) (by rw [HL.out, HCC.out]; exact h19))
              clear h19
              go_wp2
              (try simp only [Exit.inBlock, Exit.then])
              refine bodyPost_ret (results_tmp3 rfl _ _ _) rfl ?_
              exact ⟨_, 8, _, rfl, ⟨(fun h => by cases h), fun h => by rw [HN.out] at h; cases h⟩, HCE.out.hb⟩
          · have hqe : q = k - 1 := by omega
            have hdq : decide ((q : Int) < (k : Int) - 1) = false := decide_eq_false (by omega)
            have hwk : IntKind.i64.wrap ((k : Int) - 1) = (k : Int) - 1 := IntWalk.i64_in _ (by omega)
            have HN : Hid (ckB ss = true) := Lib.hid (by rw [HK9.out]; exact use_yes fun m hm => by rw [HL.out] at hm ⊢; exact HONE.out m (by omega))
            clear hqe
            go_wp2
            (try simp only [Exit.inBlock, Exit.then])
            refine bodyPost_ret (results_tmp3 rfl _ _ _) rfl ?_
            exact ⟨_, 0, _, rfl, ⟨fun _ => HN.out, fun _ => rfl⟩, HCE.out.hb⟩
  · rw [decide_eq_false h1] at HR
    have HE : Hid (ckB ss = false) := Lib.hid (by
      unfold ckB
      rw [hl]
      by_cases h0 : 0 < n
      · rw [decide_eq_false (show ¬ n ≤ 40 by omega), Bool.and_false]; rfl
      · rw [decide_eq_false h0]; rfl)
    clear h hl h1
    go_enter Tryz.func32, Tryz.ntmps32
    go_wp2_with (fail)
    refine HR.out.mono ?_
    rintro e w' ⟨rfl, rfl⟩
    go_wp2
    (try simp only [Exit.inBlock, Exit.then])
    refine bodyPost_ret (results_tmp3 rfl _ _ _) rfl ?_
    exact ⟨_, 7, _, rfl, ⟨(fun h => by cases h), fun h => by rw [HE.out] at h; cases h⟩, Below.refl _ _⟩

set_option maxHeartbeats 1000000 in
theorem sValidProof_any (A : Option Addr) (n c : Nat) (ss : List Stp) (w : World) (h : RdP w w.heap.size A n ss) (hn : n ≤ 1048576) (hq : ∀ q ∈ fsP ss, q.length ≤ 1048576) :
    Calls Tryz.prog 17 #[.slice A n c] w fun e w' => e = .returned (.bool (ckB ss)) ∧ Below w.heap.size w w' := by
  have HC := Lib.hid (sCheckProof_any A n c ss w h hn hq)
  generalize ckB ss = ok at *
  clear h hq
  go_enter Tryz.func17, Tryz.ntmps17
  go_wp2_with (fail)
  refine HC.out.mono ?_
  rintro e w2 ⟨v, k, p, rfl, hk, hb⟩
  have HB := Lib.hid hb
  have HE : Hid ((k == 0) = ok) := Lib.hid (by rw [Bool.eq_iff_iff, beq_iff_eq]; exact hk)
  clear hk hb
  go_wp2
  go_ret
  exact ⟨ret_bool HE.out, HB.out⟩
end Go.Proofs.YthbkcpacgnmcfaaGreatDoor
