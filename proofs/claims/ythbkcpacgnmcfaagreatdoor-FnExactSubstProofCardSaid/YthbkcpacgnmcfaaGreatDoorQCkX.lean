/- The program's misusedStep. Lists without one or two of their parts; what the model's stepCode says. The model's without, withoutTwo. -/
import Derived.Test.YthbkcpacgnmcfaaGreatDoorQCkU
import Derived.Test.YthbkcpacgnmcfaaGreatDoorQStepRow
import Derived.Test.YthbkcpacgnmcfaaGreatDoorQSubA
import Derived.Test.YthbkcpacgnmcfaaGreatDoorCkS
namespace Go.Proofs.YthbkcpacgnmcfaaGreatDoor
set_option linter.unusedSimpArgs false
set_option linter.unusedVariables false
section
open Go.ChangeAt Go.ChangeShapes Go.RowKit Go.WideShapes

theorem takeP_succ {α : Type} {d : α} {l : List α} {k : Nat} (h : k < l.length) : l.take (k + 1) = l.take k ++ [l.getD k d] := by
  rw [List.take_add_one, List.getElem?_eq_getElem h, List.getD_eq_getElem?_getD, List.getElem?_eq_getElem h]; rfl
/-- The premises that the first k steps name. -/
def prS (s : Stp) : List Int := poL [s.a, s.b]
def usedS (ss : List Stp) (k : Nat) : List Int := ((ss.take k).map prS).flatten
theorem usedS_succ {ss : List Stp} {k : Nat} (h : k < ss.length) : usedS ss (k + 1) = usedS ss k ++ prS (ss.getD k Stp.nil) := by
  unfold usedS
  rw [takeP_succ (d := Stp.nil) h, List.map_append, List.flatten_append]
  simp
theorem usedS_len (ss : List Stp) (k : Nat) : (usedS ss k).length ≤ 2 * k := by
  induction k with
  | zero => simp [usedS]
  | succ k ih =>
    by_cases h : k < ss.length
    · rw [usedS_succ h, List.length_append]
      have : (prS (ss.getD k Stp.nil)).length ≤ 2 := poL_len _
      omega
    · have e : usedS ss (k + 1) = usedS ss k := by unfold usedS; rw [List.take_of_length_le (by omega), List.take_of_length_le (by omega)]
      rw [e]; omega
/-- Every step but the last is used once. -/
def useB (ss : List Stp) : Bool := (List.range (ss.length - 1)).all fun (k : Nat) => (usedS ss ss.length).count (k : Int) == 1
def cnts (n : Nat) (L : List Int) : List Value := (List.range n).map fun (x : Nat) => Value.int .i64 ((L.count (x : Int) : Nat) : Int)
theorem cnts_at {n i : Nat} {L : List Int} (h : i < n) : (cnts n L)[i]? = some (.int .i64 ((L.count (i : Int) : Nat) : Int)) := by simp [cnts, h]
theorem cnts_set {n i : Nat} {L : List Int} (h : i < n) : (cnts n L).set i (.int .i64 (((L.count (i : Int) : Nat) : Int) + 1)) = cnts n (L ++ [(i : Int)]) := by
  apply List.ext_getElem?
  intro j
  by_cases hj : j < n
  · by_cases e : j = i
    · subst e
      rw [List.getElem?_set_self (by simp [cnts]; omega), cnts_at hj, List.count_append]
      simp
    · rw [List.getElem?_set_ne (by omega), cnts_at hj, cnts_at hj, List.count_append]
      have : ¬ ((i : Int) = (j : Int)) := by omega
      simp [this]
  · rw [List.getElem?_eq_none (by simp [cnts]; omega), List.getElem?_eq_none (by simp [cnts]; omega)]
theorem cnts_new {w : World} {g n : Nat} (h : w.ownsRow g 3 1 (.slice (some ⟨g, 0, none⟩) n n) n (madeCells (Value.int .i64 0).cells (n * 1)).toList) : w.ownsRow g 3 1 (.slice (some ⟨g, 0, none⟩) n n) n (cnts n []) := by
  have e : cnts n [] = List.replicate n (Value.int .i64 0) := by
    apply List.ext_getElem?
    intro j
    by_cases hj : j < n <;> simp [cnts, hj]
  rw [e, ← toList_madeCells_one]
  simpa [Value.cells] using h
theorem info_int : (Tryz.prog.info? 3).map (fun i => (i.zero, i.size, i.bytes)) = some (some (.int .i64 0), 1, 8) := by kernel_rfl
theorem info_parts_int : ∃ i, Tryz.prog.info? 3 = some i ∧ i.zero = some (.int .i64 0) ∧ i.size = 1 ∧ i.bytes = 8 := by
  obtain ⟨i, hi, he⟩ := Option.map_eq_some_iff.1 info_int
  simp only [Prod.mk.injEq] at he
  exact ⟨i, hi, he.1, he.2.1, he.2.2⟩

set_option maxRecDepth 100000 in
set_option maxHeartbeats 4000000 in
theorem misusedStep_any (A : Option Addr) (n c : Nat) (ss : List Stp) (w : World) (h : RdP w w.heap.size A n ss) (h0 : 0 < n) (hn : n ≤ 40) (hp : ∀ k, k < n → ∀ x ∈ prS (ss.getD k Stp.nil), 0 ≤ x ∧ x < (n : Int)) :
    Calls Tryz.prog 48 #[.slice A n c] w fun e w' => ∃ v : Int, e = .returned (.int .i64 v) ∧ (v = -1 ↔ useB ss = true) ∧ Below w.heap.size w w' := by
  obtain ⟨i0, hi0, hz0, hz1, hz2⟩ := info_parts_int
  have hl := h.len
  obtain ⟨b, off, rfl, hbb, hat⟩ := h.2 h0
  have b2 : i0.bytes * n ≤ 281474976710656 := by rw [hz2]; omega
  have b3 : n ≤ maxLen := by unfold maxLen; omega
  have HAT := Lib.hid hat; have HP := Lib.hid hp
  clear hat hp h
  go_enter Tryz.func48, Tryz.ntmps48
  go_wp2_with (at_make; refine wpList_make_full _ rfl _ _ _ rfl w.heap.size 3 i0 (.int .i64 0) 1 Tryz.underlying81 hi0 hz0 hz1 _ _ _ _ n rfl rfl rfl rfl b2 b3 (Nat.le_refl _) ?_; intro w1 hown hg)
  have hbel : Below w.heap.size w w1 := (Below.refl _ _).grown hg (Nat.le_refl _) (by intro k hk; cases hk)
  have HO := Lib.hid (cnts_new hown)
  have HB := Lib.hid hbel
  have hw1 : w.heap.size < w1.heap.size := (hown.lt w.heap.size rfl).2
  clear hg hown b2 b3 hi0 hz0 hz1 hz2 hbel
  go_loopw [15] (fun i wr => ∃ k : Nat, k ≤ n ∧ i = .int .i64 k ∧ wr.ownsRow w.heap.size 3 1 (.slice (some ⟨w.heap.size, 0, none⟩) n n) n (cnts n (usedS ss k)) ∧ Below w.heap.size w wr ∧ w.heap.size < wr.heap.size) (fun i _ => n - (intOf i).toNat)
  case atStart => exact ⟨0, Nat.zero_le _, rfl, HO.out, HB.out, hw1⟩
  case round =>
    obtain ⟨k, hk, rfl, hO, hB, hlt9⟩ := hrel
    clear HO HB
    have HO := Lib.hid hO; have HB := Lib.hid hB
    clear hO hw1
    by_cases hlt : k < n
    · obtain ⟨A', c', hA⟩ := HAT.out k hlt
      obtain ⟨a0, a1, a2, a3, a4, a5, -, -⟩ := hA.keep (w' := wr) (fun p hp => hB.cell hp) hbb
      have HU := Lib.hid (usedS_succ (ss := ss) (k := k) (by omega))
      have HPR := Lib.hid (HP.out k hlt)
      have HE : Hid (prS (ss.getD k Stp.nil) = poL [(ss.getD k Stp.nil).a, (ss.getD k Stp.nil).b]) := Lib.hid rfl
      generalize ss.getD k Stp.nil = s at *
      obtain ⟨sr, sa, sb, si, sj, sf⟩ := s
      dsimp only at a0 a1 a2 a3 a4 a5 HE
      have HPRX : Hid (∀ x ∈ poL [sa, sb], 0 ≤ x ∧ x < (n : Int)) := HPR
      have HUX : Hid (usedS ss (k + 1) = usedS ss k ++ poL [sa, sb]) := HU
      obtain ⟨u, hu⟩ : ∃ u, u = wr.alloc (.cells #[Value.int .i64 sr, Value.int .i64 sa, Value.int .i64 sb, Value.int .i64 si, Value.int .i64 sj, Value.slice A' (sf.length) c'] 43) := ⟨_, rfl⟩
      have HUU := Lib.hid hu
      have hbu := al hu
      have hg0 := an hu
      have q0 := cell_of_row _ _ 0 _ _ (0, 0) hg0; have q1 := cell_of_row _ _ 1 _ _ (0, 0) hg0; have q2 := cell_of_row _ _ 2 _ _ (0, 0) hg0; have q3 := cell_of_row _ _ 3 _ _ (0, 0) hg0; have q4 := cell_of_row _ _ 4 _ _ (0, 0) hg0; have q5 := cell_of_row _ _ 5 _ _ (0, 0) hg0
      have HBX := Lib.hid hbu
      have HC := Lib.hid (premisesOf_any sr sa sb si sj A' sf.length c' u)
      have hXl := poL_len [sa, sb]
      generalize poL [sa, sb] = X at *
      have hX2 : X.length ≤ 2 := hXl
      have hd : decide ((k : Int) < (n : Int)) = true := decide_eq_true (by omega)
      clear hu hbu hg0 HE HPR HU hA hXl
      go_upto_region 5 with (fail)
      rw [← HUU.out]
      clear a0 a1 a2 a3 a4 a5
      go_wp2_with (fail)
      refine HC.out.mono ?_
      rintro e w2 ⟨Ap, cp, rfl, hop, b2⟩
      have HBW2 := Lib.hid (HBX.out.trans (b2.mono HBX.out.size))
      have HO2 := Lib.hid (own_below HO.out HBW2.out (Nat.le_refl _))
      have HB2 := Lib.hid (HB.out.trans (HBW2.out.mono (Nat.le_of_lt hlt9)))
      have hu9 : w.heap.size < u.heap.size := Nat.lt_of_lt_of_le hlt9 HBX.out.size
      have hw29 : w.heap.size < w2.heap.size := Nat.lt_of_lt_of_le hlt9 HBW2.out.size
      have HOP := Lib.hid hop
      clear b2 hop q0 q1 q2 q3 q4 q5
      go_wp2
      go_loopw [22] (fun i wq => ∃ q : Nat, q ≤ X.length ∧ i = .int .i64 q ∧ wq.ownsRow w.heap.size 3 1 (.slice (some ⟨w.heap.size, 0, none⟩) n n) n (cnts n (usedS ss k ++ X.take q)) ∧ wq.ownsRow u.heap.size 2 1 (.slice Ap X.length cp) X.length (X.map (Value.int .i64)) ∧ Below w.heap.size w wq ∧ w.heap.size < wq.heap.size) (fun i _ => X.length - (intOf i).toNat)
      case atStart => exact ⟨0, Nat.zero_le _, rfl, by rw [List.take_zero, List.append_nil]; exact HO2.out, HOP.out, HB2.out, hw29⟩
      case round =>
        obtain ⟨q, hq, rfl, hO, hOP, hB, hlt8⟩ := hrel
        clear HO HO2 HB HB2 HBW2 hlt9 hw29 HOP
        by_cases hqx : q < X.length
        · have hr := RdI.of_own hOP
          obtain ⟨bp, op, rfl, hbp, hcp⟩ := hr.2 (by omega)
          have hcx := hcp q hqx
          have HTK := Lib.hid (takeP_succ (d := (0 : Int)) hqx)
          have hmem : X.getD q 0 ∈ X := by rw [List.getD_eq_getElem?_getD, List.getElem?_eq_getElem hqx]; exact List.getElem_mem hqx
          obtain ⟨hz0, hzn⟩ := HPRX.out _ hmem
          generalize X.getD q 0 = z at *
          obtain ⟨iz, rfl⟩ : ∃ iz : Nat, z = (iz : Int) := ⟨z.toNat, by omega⟩
          have hix : iz < n := by omega
          have ho := (hO.cellAt iz (by omega)).trans (cnts_at hix)
          have hf := hO.frozenAt iz
          have hst := (hO.stored iz (.int .i64 ((((usedS ss k ++ X.take q).count (iz : Int) : Nat) : Int) + 1))).1
          rw [cnts_set hix, List.append_assoc, ← HTK.out] at hst
          have hcl : (usedS ss k ++ X.take q).count (iz : Int) ≤ 1000 := by
            refine Nat.le_trans List.count_le_length ?_
            have := usedS_len ss k
            rw [List.length_append, List.length_take]; omega
          generalize (usedS ss k ++ X.take q).count (iz : Int) = cc at *
          have HO := Lib.hid hst
          have HOP := Lib.hid (own_same (w' := wr.setCell ⟨w.heap.size, iz, none⟩ (.int .i64 ((cc : Int) + 1))) hOP (fun k e => Below.heap_setCell wr ⟨w.heap.size, iz, none⟩ _ _ (by show k ≠ w.heap.size; have := (hOP.lt k e).1; omega)))
          have HB := Lib.hid (hB.setCell (p := ⟨w.heap.size, iz, none⟩) (Nat.le_refl _) (.int .i64 ((cc : Int) + 1)))
          have hqd : decide ((q : Int) < (X.length : Int)) = true := decide_eq_true (by omega)
          clear hO hOP hB hst hr hcp hmem
          go_wp2
          go_roundw
          case rel => exact ⟨q + 1, by omega, by go_num, HO.out, HOP.out, HB.out, by simpa using hlt8⟩
          case measure => simp [intOf]; omega
        · have hqe : q = X.length := by omega
          subst hqe
          rw [List.take_length, ← HUX.out] at hO
          have HO := Lib.hid hO; have HB := Lib.hid hB
          clear hO hOP hB
          go_wp2
          go_roundw
          case rel => exact ⟨k + 1, by omega, by go_num, HO.out, HB.out, hlt8⟩
          case measure => simp [intOf]; omega
    · have hkn : k = n := by omega
      subst hkn
      have hO3 := HO.out
      clear HO
      obtain ⟨m, rfl⟩ : ∃ m, k = m + 1 := ⟨k - 1, by omega⟩
      have hkd : decide (((m + 1 : Nat) : Int) < ((m + 1 : Nat) : Int)) = false := decide_eq_false (by omega)
      have HU : Hid (useB ss = (List.range m).all fun (k : Nat) => (usedS ss (m + 1)).count (k : Int) == 1) := Lib.hid (by unfold useB; rw [hl]; rfl)
      have HO3 := Lib.hid hO3
      clear hkd hO3
      go_upto_region 12 with (fail)
      go_loopw [40] (fun i wq => ∃ q : Nat, q ≤ m ∧ i = .int .i64 q ∧ (∀ j, j < q → (usedS ss (m + 1)).count (j : Int) = 1) ∧ wq.ownsRow w.heap.size 3 1 (.slice (some ⟨w.heap.size, 0, none⟩) (m + 1) (m + 1)) (m + 1) (cnts (m + 1) (usedS ss (m + 1))) ∧ Below w.heap.size w wq) (fun i _ => m - (intOf i).toNat)
      case atStart => exact ⟨0, Nat.zero_le _, rfl, fun j hj => by omega, HO3.out, HB.out⟩
      case round =>
        obtain ⟨q, hq, rfl, hall, hO, hB⟩ := hrel
        clear HB HO3 hlt9
        have HALL := Lib.hid hall
        have HB := Lib.hid hB
        have HO := Lib.hid hO
        by_cases hqm : q < m
        · have ho := (hO.cellAt q (by omega)).trans (cnts_at (by omega))
          have hqd : decide ((q : Int) < (m : Int)) = true := decide_eq_true (by omega)
          obtain ⟨cc, hcc⟩ : ∃ cc, (usedS ss (m + 1)).count (q : Int) = cc := ⟨_, rfl⟩
          rw [hcc] at ho
          have HCC := Lib.hid hcc
          clear hall hB hO hcc
          by_cases e1 : cc = 1
          · subst e1
            go_wp2
            go_roundw
            case rel => exact ⟨q + 1, by omega, by go_num, fun j hj => (by
              rcases Nat.lt_succ_iff_lt_or_eq.1 hj with h | h
              · exact HALL.out j h
              · rw [h]; exact HCC.out), HO.out, HB.out⟩
            case measure => simp [intOf]; omega
          · have hne : ((cc : Int) != 1) = true := by
              rw [bne_iff_ne]; intro h; exact e1 (by omega)
            have HNE := Lib.hid e1
            clear e1
            go_wp2
            go_ret
            refine ⟨(q : Int), rfl, ⟨fun h => by omega, fun h => ?_⟩, HB.out⟩
            rw [HU.out, List.all_eq_true] at h
            have := h q (List.mem_range.2 hqm)
            rw [HCC.out, beq_iff_eq] at this
            exact absurd this HNE.out
        · have hqe : q = m := by omega
          subst hqe
          clear hall hB hO
          go_wp2
          go_ret
          refine ⟨-1, rfl, ⟨fun _ => ?_, fun _ => rfl⟩, HB.out⟩
          rw [HU.out, List.all_eq_true]
          intro j hj
          rw [beq_iff_eq]
          exact HALL.out j (List.mem_range.1 hj)
end
section
open Go.ChangeAt Go.ChangeShapes Go.RowKit Go.WideShapes

theorem takeQ_succ {P : List (List Int)} {k : Nat} (h : k < P.length) : P.take (k + 1) = P.take k ++ [P.getD k []] := by
  rw [List.take_add_one, List.getElem?_eq_getElem h]
  simp [List.getD, h]
theorem woK_one {P : List (List Int)} {i : Nat} : ∀ k, k ≤ P.length → woK P [(i : Int)] k = (P.take k).eraseIdx i := by
  intro k
  induction k with
  | zero => intro _; simp [woK]
  | succ k ih =>
    intro hk
    have h1 := ih (by omega)
    have hl : (P.take k).length = k := by rw [List.length_take]; omega
    rw [takeQ_succ (by omega)]
    rcases Nat.lt_trichotomy k i with h | h | h
    · rw [woK_out (by simp; omega), h1, List.eraseIdx_append_of_length_le (by omega), hl, List.eraseIdx_of_length_le (by omega), List.eraseIdx_of_length_le (by simp; omega)]
    · subst h
      rw [woK_in (by simp), h1, List.eraseIdx_append_of_length_le (by omega), hl, List.eraseIdx_of_length_le (by omega)]
      simp
    · rw [woK_out (by simp; omega), h1, List.eraseIdx_append_of_lt_length (by omega)]
theorem woL_one (P : List (List Int)) (i : Nat) : woL P [(i : Int)] = P.eraseIdx i := by
  unfold woL
  rw [woK_one _ (Nat.le_refl _), List.take_length]
theorem woK_swap (P : List (List Int)) (i j : Int) (k : Nat) : woK P [i, j] k = woK P [j, i] k := by
  unfold woK
  congr 2
  funext x
  simp only [List.mem_cons, List.not_mem_nil, or_false]
  exact congrArg (fun b => !b) (decide_eq_decide.2 or_comm)
theorem woK_two {P : List (List Int)} {i j : Nat} (hij : i < j) : ∀ k, k ≤ P.length → woK P [(i : Int), (j : Int)] k = ((P.take k).eraseIdx j).eraseIdx i := by
  intro k
  induction k with
  | zero => intro _; simp [woK]
  | succ k ih =>
    intro hk
    have h1 := ih (by omega)
    have hl : (P.take k).length = k := by rw [List.length_take]; omega
    rw [takeQ_succ (by omega)]
    rcases Nat.lt_trichotomy k j with h | h | h
    · have e1 : (P.take k ++ [P.getD k []]).eraseIdx j = P.take k ++ [P.getD k []] := List.eraseIdx_of_length_le (by simp; omega)
      have e2 : (P.take k).eraseIdx j = P.take k := List.eraseIdx_of_length_le (by omega)
      rw [e2] at h1
      rw [e1]
      rcases Nat.lt_trichotomy k i with g | g | g
      · rw [woK_out (by simp; omega), h1, List.eraseIdx_of_length_le (by omega), List.eraseIdx_of_length_le (by simp; omega)]
      · subst g
        rw [woK_in (by simp), h1, List.eraseIdx_append_of_length_le (by omega), hl, List.eraseIdx_of_length_le (by omega)]
        simp
      · rw [woK_out (by simp; omega), h1, List.eraseIdx_append_of_lt_length (by omega)]
    · subst h
      have e2 : (P.take k).eraseIdx k = P.take k := List.eraseIdx_of_length_le (by omega)
      have e3 : (P.take k ++ [P.getD k []]).eraseIdx k = P.take k := by rw [List.eraseIdx_append_of_length_le (by omega), hl]; simp
      rw [woK_in (by simp), h1, e2, e3]
    · rw [woK_out (by simp; omega), h1, List.eraseIdx_append_of_lt_length (by omega), List.eraseIdx_append_of_lt_length (by rw [List.length_eraseIdx]; split <;> omega)]
theorem woL_two (P : List (List Int)) {i j : Nat} (hij : i < j) : woL P [(i : Int), (j : Int)] = woL (woL P [(j : Int)]) [(i : Int)] := by
  rw [woL_one, woL_one]
  unfold woL
  rw [woK_two hij _ (Nat.le_refl _), List.take_length]
theorem woL_swap (P : List (List Int)) (i j : Int) : woL P [i, j] = woL P [j, i] := woK_swap P i j _
theorem woL_nil (P : List (List Int)) : woL P [] = P := by
  have : ∀ k, k ≤ P.length → woK P [] k = P.take k := by
    intro k
    induction k with
    | zero => intro _; simp [woK]
    | succ k ih => intro hk; rw [woK_out (by simp), ih (by omega), takeQ_succ (by omega)]
  unfold woL
  rw [this _ (Nat.le_refl _), List.take_length]
theorem eraseQ_len {P : List (List Int)} {i : Nat} (h : i < P.length) : (P.eraseIdx i).length = P.length - 1 := by
  rw [List.length_eraseIdx, if_pos h]
theorem take_drop_erase {α : Type} (P : List α) (i : Nat) : P.take i ++ P.drop (i + 1) = P.eraseIdx i := (List.eraseIdx_eq_take_drop_succ P i).symm

/-- The positions of a step, as the model asks them. -/
def posM (r i j : Int) (np nq : Nat) : Bool := (!ruI r || posB i np) && (!ruJ r || posB j (if ruP r = 2 then nq else np))
/-- What the rule asks beyond. -/
def ctxB (r i j : Int) (P Q : List (List Int)) : Bool :=
  if r = 2 then decide (Q.getD j.toNat [] = dualL (P.getD i.toNat []))
  else if r = 4 then decide (i ≠ j)
  else if r = 7 then decide (woL P [((i.toNat : Nat) : Int)] = woL Q [((j.toNat : Nat) : Int)])
  else if r = 10 then promB P i.toNat
  else if r = 13 then decide (i ≠ j) && decide (P.getD i.toNat [] = P.getD j.toNat [] ∧ opOf (P.getD i.toNat []) = 18)
  else if r = 14 then decide (i < j)
  else true
/-- What the rule concludes. -/
def cnL (r i j : Int) (F : List Int) (P Q : List (List Int)) : List (List Int) :=
  if r = 1 then [F, dualL F]
  else if r = 2 then woL P [((i.toNat : Nat) : Int)] ++ woL Q [((j.toNat : Nat) : Int)]
  else if r = 3 then (woL P [((i.toNat : Nat) : Int)] ++ woL Q [((j.toNat : Nat) : Int)]) ++ [(11 :: (P.getD i.toNat [] ++ Q.getD j.toNat []))]
  else if r = 4 then woL P [((i.toNat : Nat) : Int), ((j.toNat : Nat) : Int)] ++ [(12 :: (P.getD i.toNat [] ++ P.getD j.toNat []))]
  else if r = 5 then [[13]]
  else if r = 6 then woL P [] ++ [[14]]
  else if r = 7 then woL P [((i.toNat : Nat) : Int)] ++ [(16 :: (P.getD i.toNat [] ++ Q.getD j.toNat []))]
  else if r = 8 then woL P [((i.toNat : Nat) : Int)] ++ [(15 :: (P.getD i.toNat [] ++ F))]
  else if r = 9 then woL P [((i.toNat : Nat) : Int)] ++ [(15 :: (F ++ P.getD i.toNat []))]
  else if r = 10 then woL P [((i.toNat : Nat) : Int)] ++ [17 :: P.getD i.toNat []]
  else if r = 11 then woL P [((i.toNat : Nat) : Int)] ++ [(18 :: P.getD i.toNat [])]
  else if r = 12 then woL P [] ++ [(18 :: F)]
  else if r = 13 then woL P [((i.toNat : Nat) : Int), ((j.toNat : Nat) : Int)] ++ [P.getD i.toNat []]
  else swpL P i.toNat j.toNat
theorem posM_I {r i j : Int} {np nq : Nat} (h : posM r i j np nq = true) (hI : ruI r = true) : ∃ k : Nat, i = k ∧ k < np := by
  unfold posM at h
  rw [hI] at h
  simp only [Bool.not_true, Bool.false_or, Bool.and_eq_true] at h
  exact posB_nat h.1
theorem posM_J1 {r i j : Int} {np nq : Nat} (h : posM r i j np nq = true) (hJ : ruJ r = true) (hp : ruP r = 1) : ∃ k : Nat, j = k ∧ k < np := by
  unfold posM at h
  rw [hJ, hp] at h
  simp only [Bool.not_true, Bool.false_or, Bool.and_eq_true, Int.reduceEq, if_false] at h
  exact posB_nat h.2
theorem posM_J2 {r i j : Int} {np nq : Nat} (h : posM r i j np nq = true) (hJ : ruJ r = true) (hp : ruP r = 2) : ∃ k : Nat, j = k ∧ k < nq := by
  unfold posM at h
  rw [hJ, hp] at h
  simp only [Bool.not_true, Bool.false_or, Bool.and_eq_true, if_true] at h
  exact posB_nat h.2
theorem unR_is (i j : Int) (F : List Int) (P Q : List (List Int)) (nq : Nat) : ∀ r : Int, 1 ≤ r → r ≤ 14 → ruP r = 1 → posM r i j P.length nq = true → unR r i j F P = if ctxB r i j P Q = true then some (cnL r i j F P Q) else none := by
  refine ru_cases ?_ ?_ ?_ ?_ ?_ ?_ ?_ ?_ ?_ ?_ ?_ ?_ ?_ ?_
  all_goals intro hp hpos
  · exact absurd hp (by decide)
  · exact absurd hp (by decide)
  · exact absurd hp (by decide)
  · obtain ⟨ii, rfl, hi⟩ := posM_I hpos rfl
    obtain ⟨jj, rfl, hj⟩ := posM_J1 hpos rfl rfl
    show (if ((ii : Nat) : Int).toNat = ((jj : Nat) : Int).toNat then none else some _) = if decide (((ii : Nat) : Int) ≠ (jj : Int)) = true then some (cnL 4 ii jj F P Q) else none
    by_cases e : ii = jj
    · subst e; rw [if_pos rfl, if_neg (by simp)]
    · rw [if_neg (by simpa using e), if_pos (by simp; omega)]; rfl
  · exact absurd hp (by decide)
  · rfl
  · exact absurd hp (by decide)
  · rfl
  · rfl
  · rfl
  · rfl
  · rfl
  · obtain ⟨ii, rfl, hi⟩ := posM_I hpos rfl
    obtain ⟨jj, rfl, hj⟩ := posM_J1 hpos rfl rfl
    show (if ((ii : Nat) : Int).toNat = ((jj : Nat) : Int).toNat then none else if _ then some _ else none) = if (decide (((ii : Nat) : Int) ≠ (jj : Int)) && decide _) = true then some (cnL 13 ii jj F P Q) else none
    by_cases e : ii = jj
    · subst e; rw [if_pos rfl, if_neg (by simp)]
    · rw [if_neg (by simpa using e), decide_eq_true (show ((ii : Nat) : Int) ≠ (jj : Int) by omega), Bool.true_and]
      by_cases e2 : P.getD ((ii : Nat) : Int).toNat [] = P.getD ((jj : Nat) : Int).toNat [] ∧ opOf (P.getD ((ii : Nat) : Int).toNat []) = 18
      · rw [if_pos e2, if_pos (decide_eq_true e2)]; rfl
      · rw [if_neg e2, if_neg (by rw [decide_eq_false e2]; decide)]
  · obtain ⟨ii, rfl, hi⟩ := posM_I hpos rfl
    obtain ⟨jj, rfl, hj⟩ := posM_J1 hpos rfl rfl
    show (if ((jj : Nat) : Int).toNat ≤ ((ii : Nat) : Int).toNat then none else some _) = if decide (((ii : Nat) : Int) < (jj : Int)) = true then some (cnL 14 ii jj F P Q) else none
    by_cases e : jj ≤ ii
    · rw [if_pos (by simpa using e), if_neg (by simp; omega)]
    · rw [if_neg (by simpa using e), if_pos (by simp; omega)]; rfl
theorem biR_is (i j : Int) (F : List Int) (P Q : List (List Int)) : ∀ r : Int, 1 ≤ r → r ≤ 14 → ruP r = 2 → biR r i j P Q = if ctxB r i j P Q = true then some (cnL r i j F P Q) else none := by
  refine ru_cases ?_ ?_ ?_ ?_ ?_ ?_ ?_ ?_ ?_ ?_ ?_ ?_ ?_ ?_
  all_goals intro hp
  · exact absurd hp (by decide)
  · show (if _ then some _ else none) = if decide _ = true then some _ else none
    by_cases e : Q.getD j.toNat [] = dualL (P.getD i.toNat [])
    · rw [if_pos e, if_pos (decide_eq_true e)]; rfl
    · rw [if_neg e, if_neg (by rw [decide_eq_false e]; decide)]
  · rfl
  · exact absurd hp (by decide)
  · exact absurd hp (by decide)
  · exact absurd hp (by decide)
  · show (if _ then some _ else none) = if decide _ = true then some _ else none
    by_cases e : woL P [((i.toNat : Nat) : Int)] = woL Q [((j.toNat : Nat) : Int)]
    · rw [if_pos e, if_pos (decide_eq_true e)]; rfl
    · rw [if_neg e, if_neg (by rw [decide_eq_false e]; decide)]
  all_goals exact absurd hp (by decide)
theorem inp_0 (i j : Int) (F : List Int) (np nq : Nat) : ∀ r : Int, 1 ≤ r → r ≤ 14 → ruP r = 0 → inpV r i j F [] [] = (fitV (ruI r) (ruJ r) (ruF r) i j F && posM r i j np nq) := by
  refine ru_cases ?_ ?_ ?_ ?_ ?_ ?_ ?_ ?_ ?_ ?_ ?_ ?_ ?_ ?_
  all_goals intro hp
  all_goals first | exact absurd hp (by decide) | rfl
theorem inp_1 {i j : Int} {F : List Int} {P : List (List Int)} (nq : Nat) (hP : validQ P = true) {r : Int} (hp : ruP r = 1) : inpV r i j F P P = (fitV (ruI r) (ruJ r) (ruF r) i j F && posM r i j P.length nq) := by
  unfold inpV posM posV
  rw [hP, hp]
  rfl
theorem inp_2 {i j : Int} {F : List Int} {P Q : List (List Int)} (hP : validQ P = true) (hQ : validQ Q = true) {r : Int} (hp : ruP r = 2) : inpV r i j F P Q = (fitV (ruI r) (ruJ r) (ruF r) i j F && posM r i j P.length Q.length) := by
  unfold inpV posM posV
  rw [hP, hQ, hp]
  rfl
/-- The model's code is CkOk. -/
def cdB (r i j : Int) (F : List Int) (P Q : List (List Int)) : Bool := (fitV (ruI r) (ruJ r) (ruF r) i j F && posM r i j P.length Q.length) && ctxB r i j P Q
theorem ruP_three : ∀ r : Int, 1 ≤ r → r ≤ 14 → ruP r = 0 ∨ ruP r = 1 ∨ ruP r = 2 :=
  ru_cases (by decide) (by decide) (by decide) (by decide) (by decide) (by decide) (by decide) (by decide) (by decide) (by decide) (by decide) (by decide) (by decide) (by decide)
theorem be_is (i j : Int) (F : List Int) (P Q : List (List Int)) : ∀ r : Int, 1 ≤ r → r ≤ 14 → ruP r = 0 → ctxB r i j P Q = true ∧ beR r F = cnL r i j F P Q := by
  refine ru_cases ?_ ?_ ?_ ?_ ?_ ?_ ?_ ?_ ?_ ?_ ?_ ?_ ?_ ?_
  all_goals intro hp
  all_goals first | exact absurd hp (by decide) | exact ⟨rfl, rfl⟩
theorem srV_is {r i j : Int} (h1 : 1 ≤ r) (h14 : r ≤ 14) {F : List Int} {P Q : List (List Int)} (hP : validQ P = true) (hQ : validQ Q = true) : srV r i j F P Q = if cdB r i j F P Q = true then (if validQ (cnL r i j F P Q) = true then some (cnL r i j F P Q) else none) else none := by
  unfold cdB
  rcases ruP_three r h1 h14 with hp | hp | hp
  · obtain ⟨hc, hb⟩ := be_is i j F P Q r h1 h14 hp
    have : srV r i j F P Q = (if inpV r i j F [] [] = true then fin (some (beR r F)) else none) := by unfold srV; rw [if_pos hp]
    rw [this, inp_0 i j F P.length Q.length r h1 h14 hp, hb, hc, Bool.and_true]
    rfl
  · have : srV r i j F P Q = (if inpV r i j F P P = true then fin (unR r i j F P) else none) := by unfold srV; rw [if_neg (by rw [hp]; decide), if_pos hp]
    rw [this, inp_1 Q.length hP hp]
    cases hv : (fitV (ruI r) (ruJ r) (ruF r) i j F && posM r i j P.length Q.length) with
    | false => rfl
    | true =>
      simp only [Bool.and_eq_true] at hv
      rw [unR_is i j F P Q Q.length r h1 h14 hp hv.2]
      cases ctxB r i j P Q <;> rfl
  · have : srV r i j F P Q = (if inpV r i j F P Q = true then fin (biR r i j P Q) else none) := by unfold srV; rw [if_neg (by rw [hp]; decide), if_neg (by rw [hp]; decide)]
    rw [this, inp_2 hP hQ hp]
    cases hv : (fitV (ruI r) (ruJ r) (ruF r) i j F && posM r i j P.length Q.length) with
    | false => rfl
    | true =>
      rw [biR_is i j F P Q r h1 h14 hp]
      cases ctxB r i j P Q <;> rfl
end
section
open Go.ChangeAt Go.ChangeShapes Go.RowKit Go.WideShapes

theorem RdV.take {w : World} {vs : List Value} {R : List (List Int)} (h : RdV w vs R) (k : Nat) : RdV w (vs.take k) (R.take k) :=
  ⟨by rw [List.length_take, List.length_take, h.len], fun i hi => by
    rw [List.length_take] at hi
    have e : (R.take k).getD i [] = R.getD i [] := by simp only [List.getD, List.getElem?_take]; rw [if_pos (by omega)]
    rw [e, List.getElem?_take, if_pos (by omega)]
    exact h.part i (by omega)⟩
theorem RdV.drop {w : World} {vs : List Value} {R : List (List Int)} (h : RdV w vs R) (k : Nat) : RdV w (vs.drop k) (R.drop k) :=
  ⟨by rw [List.length_drop, List.length_drop, h.len], fun i hi => by
    rw [List.length_drop] at hi
    have e : (R.drop k).getD i [] = R.getD (k + i) [] := by simp only [List.getD, List.getElem?_drop]
    rw [e, List.getElem?_drop]
    exact h.part (k + i) (by omega)⟩
theorem RdV.erase {w : World} {vs : List Value} {P : List (List Int)} (h : RdV w vs P) (i : Nat) : RdV w (vs.take i ++ vs.drop (i + 1)) (woL P [(i : Int)]) := by
  rw [woL_one, ← take_drop_erase]
  exact (h.take i).app (h.drop (i + 1))
theorem add_off {b off j : Nat} : (⟨b, off, none⟩ : Addr).add j = ⟨b, off + j, none⟩ := by unfold Addr.add; split <;> simp_all

theorem blk_of {g n c b : Nat} (h : (Value.slice (some ⟨g, 0, none⟩) n c).ownBlock = some b) : g = b := by simpa [Value.ownBlock] using h

theorem givesV0_mk {w w' : World} {R : List (List Int)} {A : Option Addr} {c n : Nat} {vs : List Value} (hn : n = R.length) (o : w'.ownsRow w.heap.size 36 1 (.slice A n c) n vs) (rd : RdV w vs R) (b : Below w.heap.size w w') : GivesV0 w R (.returned (.slice A n c)) w' := by
  subst hn; exact ⟨A, c, vs, rfl, o, rd, b⟩

set_option maxRecDepth 100000 in
set_option maxHeartbeats 2000000 in
theorem sWithout_any (A : Option Addr) (n c : Nat) (P : List (List Int)) (i : Nat) (w : World) (h : RdQ w w.heap.size A n P) (hn : n ≤ 1000) (hnc : n ≤ c) (hi : i < n) :
    Calls Tryz.prog 71 #[.slice A n c, .int .i64 i] w (GivesV0 w (woL P [(i : Int)])) := by
  obtain ⟨i0, hi0, hz0, hz1, hz2⟩ := info_parts_s
  have hl := h.len
  subst hl
  obtain ⟨b, off, rfl, hbb, -⟩ := h.2 (by omega)
  obtain ⟨vs, hv, hc⟩ := RdV.of_q h
  have hlv := hv.len
  have HRD := Lib.hid (hv.erase i)
  have HLR : Hid ((woL P [(i : Int)]).length = i + (P.length - (i + 1))) := Lib.hid (by rw [woL_one, eraseQ_len hi]; omega)
  generalize woL P [(i : Int)] = R at *
  have H1 : Hid (∀ v ∈ vs, v.oneCell' = true) := Lib.hid hv.one
  obtain ⟨w1, hw1⟩ : ∃ w1, w1 = (w.alloc (.cells #[] 36)).drew := ⟨_, rfl⟩
  have b1 : Below w.heap.size w w1 := by rw [hw1]; exact ((Below.refl _ _).alloc (Nat.le_refl _) _).drew
  have o1 : w1.ownsRow w.heap.size 36 1 (.slice (some ⟨w.heap.size, 0, none⟩) 0 0) 0 [] := by
    rw [hw1]; exact World.ownsRow_made (e := 36) (size := 1) w #[] 0 (Nat.le_refl _) (by simp [maxLen]) rfl
  have HC1 : Hid (∀ j u, vs[j]? = some u → w1.cell? ((⟨b, off, none⟩ : Addr).add j) = some u) := Lib.hid fun j u hu => by
    rw [← hc j u hu, add_off]; exact b1.cell hbb
  have N1 : Hid (∀ j u, (vs.take i)[j]? = some u → w1.cell? ((⟨b, off, none⟩ : Addr).add j) = some u) := Lib.hid fun j u hu => by
    refine HC1.out j u ?_
    rw [List.getElem?_take] at hu
    split at hu
    · exact hu
    · cases hu
  have HO1 := Lib.hid o1; have HB1 := Lib.hid b1; have HW1 := Lib.hid hw1
  have HI := Lib.hid hi0; have HZ0 := Lib.hid hz0; have HZ1 := Lib.hid hz1; have HZ2 := Lib.hid hz2
  have hiC : (i : Int) ≤ (c : Int) := by omega
  have hs1 := b1.size
  have hwr : IntKind.i64.wrap ((i : Int) + 1) = ((i + 1 : Nat) : Int) := IntWalk.i64_in _ (by omega)
  have hiN : (i : Int) + 1 ≤ (P.length : Int) := by omega
  have hi00 : (0 : Int) ≤ (i : Int) + 1 := by omega
  clear h hv hc hw1 b1 o1 hi0 hz0 hz1 hz2
  have tokA : True := trivial
  generalize P.length = n at *
  by_cases hcc : i + 1 = c
  · have hcc' : c = i + 1 := hcc.symm
    have hd0 : vs.drop (i + 1) = [] := List.drop_of_length_le (by omega)
    have HD0 := Lib.hid hd0
    clear hd0 hcc
    have hni : n = i + 1 := by omega
    subst hcc'
    subst hni
    have hiI : (i : Int) ≤ (i : Int) + 1 := by omega
    go_enter Tryz.func71, Tryz.ntmps71
    go_wp2_with (fail)
    go_region_law (first
      | (have _t := tokA
         rw [← HW1.out]
         refine step_append_o rfl _ _ _ rfl w.heap.size 36 i0 (.slice none 0 0) 1 24 Tryz.underlying23 HI.out HZ0.out HZ1.out HZ2.out rfl (by decide) _ _ _ rfl HO1.out ⟨b, off, none⟩ i (i + 1) (vs.take i) rfl ?l1 N1.out ?l2 ?l3 ?l4 ?l5 ?_
         case l1 => rw [List.length_take]; omega
         case l2 => exact fun u hu => H1.out u (List.mem_of_mem_take hu)
         case l3 => simp only [maxLen]; omega
         case l4 => omega
         case l5 => exact hs1
         intro v8 w8 hown8 hgrow8 _
         rw [Nat.zero_add, List.nil_append] at hown8
         obtain ⟨A8, c8, rfl⟩ := own_shape hown8
         have b8 : Below w.heap.size w w8 := HB1.out.grown hgrow8 hs1 (fun k hk => Nat.le_of_eq (blk_of hk))
         have HB8 := Lib.hid b8
         have HO8 := Lib.hid hown8
         have hs8 := b8.size
         have N8 : Hid (∀ j u, (vs.drop (i + 1))[j]? = some u → w8.cell? ((⟨b, off, none⟩ : Addr).add j) = some u) := Lib.hid fun j u hu => by
           rw [HD0.out] at hu
           simp at hu
         clear hown8 hgrow8 b8 tokA)
      | (refine step_append_o rfl _ _ _ rfl w.heap.size 36 i0 (.slice none 0 0) 1 24 Tryz.underlying23 HI.out HZ0.out HZ1.out HZ2.out rfl (by decide) _ _ _ rfl HO8.out ⟨b, off, none⟩ 0 0 (vs.drop (i + 1)) rfl ?m1 N8.out ?m2 ?m3 ?m4 ?m5 ?_
         case m1 => rw [List.length_drop]; omega
         case m2 => exact fun u hu => H1.out u (List.mem_of_mem_drop hu)
         case m3 => simp only [maxLen]; omega
         case m4 => omega
         case m5 => exact hs8
         intro v9 w9 hown9 hgrow9 _
         obtain ⟨A9, c9, rfl, b9, o9⟩ := rowv_more HB8.out hs8 HO8.out hown9 hgrow9
         have HB9 := Lib.hid b9; have HO9 := Lib.hid o9
         clear hown9 hgrow9 b9 o9))
    go_wp2
    go_ret
    exact givesV0_mk (by rw [HLR.out]; omega) HO9.out HRD.out HB9.out
  · have hcc' : ¬ c = i + 1 := fun e => hcc e.symm
    go_enter Tryz.func71, Tryz.ntmps71
    go_wp2_with (fail)
    go_region_law (first
      | (have _t := tokA
         rw [← HW1.out]
         refine step_append_o rfl _ _ _ rfl w.heap.size 36 i0 (.slice none 0 0) 1 24 Tryz.underlying23 HI.out HZ0.out HZ1.out HZ2.out rfl (by decide) _ _ _ rfl HO1.out ⟨b, off, none⟩ i c (vs.take i) rfl ?l1 N1.out ?l2 ?l3 ?l4 ?l5 ?_
         case l1 => rw [List.length_take]; omega
         case l2 => exact fun u hu => H1.out u (List.mem_of_mem_take hu)
         case l3 => simp only [maxLen]; omega
         case l4 => omega
         case l5 => exact hs1
         intro v8 w8 hown8 hgrow8 _
         rw [Nat.zero_add, List.nil_append] at hown8
         obtain ⟨A8, c8, rfl⟩ := own_shape hown8
         have b8 : Below w.heap.size w w8 := HB1.out.grown hgrow8 hs1 (fun k hk => Nat.le_of_eq (blk_of hk))
         have HB8 := Lib.hid b8
         have HO8 := Lib.hid hown8
         have hs8 := b8.size
         have N8 : Hid (∀ j u, (vs.drop (i + 1))[j]? = some u → w8.cell? ((⟨b, off + (i + 1), none⟩ : Addr).add j) = some u) := Lib.hid fun j u hu => by
           rw [List.getElem?_drop] at hu
           have h9 := HC1.out (i + 1 + j) u hu
           rw [add_off] at h9 ⊢
           rw [← h9, show off + (i + 1) + j = off + (i + 1 + j) by omega]
           exact (b8.cell (p := ⟨b, off + (i + 1 + j), none⟩) hbb).trans (HB1.out.cell (p := ⟨b, off + (i + 1 + j), none⟩) hbb).symm
         clear hown8 hgrow8 b8 tokA)
      | (refine step_append_o rfl _ _ _ rfl w.heap.size 36 i0 (.slice none 0 0) 1 24 Tryz.underlying23 HI.out HZ0.out HZ1.out HZ2.out rfl (by decide) _ _ _ rfl HO8.out ⟨b, off + (i + 1), none⟩ (n - (i + 1)) (c - (i + 1)) (vs.drop (i + 1)) rfl ?m1 N8.out ?m2 ?m3 ?m4 ?m5 ?_
         case m1 => rw [List.length_drop]; omega
         case m2 => exact fun u hu => H1.out u (List.mem_of_mem_drop hu)
         case m3 => simp only [maxLen]; omega
         case m4 => omega
         case m5 => exact hs8
         intro v9 w9 hown9 hgrow9 _
         obtain ⟨A9, c9, rfl, b9, o9⟩ := rowv_more HB8.out hs8 HO8.out hown9 hgrow9
         have HB9 := Lib.hid b9; have HO9 := Lib.hid o9
         clear hown9 hgrow9 b9 o9))
    go_wp2
    go_ret
    exact givesV0_mk HLR.out.symm HO9.out HRD.out HB9.out
end
end Go.Proofs.YthbkcpacgnmcfaaGreatDoor
