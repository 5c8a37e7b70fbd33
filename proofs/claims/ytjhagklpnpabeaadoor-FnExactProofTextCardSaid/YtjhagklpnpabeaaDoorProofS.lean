/- ProofText of the model: the lines of the steps, one after another. -/
import Derived.Test.YtjhagklpnpabeaaDoorStepRow
import Derived.Test.YtjhagklpnpabeaaDoorStepS
namespace Go.Proofs.YtjhagklpnpabeaaDoor
open Go.ChangeAt Go.ChangeShapes Go.RowKit Go.WideShapes

def plP (s : Stp) : Bool := plainB s.r s.a s.b s.i s.j s.f
noncomputable def lnP (s : Stp) : List UInt8 := (stT s.r s.a s.b s.i s.j s.f).data.toList ++ [10]
/-- The lines of the steps. -/
noncomputable def lnsP (ss : List Stp) : List UInt8 := (ss.map lnP).flatten
noncomputable def prT (ss : List Stp) : ByteArray := if decide (ss.length ≤ 40) && ss.all plP then ⟨(lnsP ss).toArray⟩ else ⟨#[]⟩
theorem lnP_len {s : Stp} (h : plP s = true) : (lnP s).length ≤ 607 := by
  unfold lnP
  rw [stT_yes h]
  have := jn_size (short_st h)
  simp only [List.length_append, List.length_cons, List.length_nil]
  have e : (jn (stW s.r s.a s.b s.i s.j s.f)).data.toList.length = (Lib.join ((stW s.r s.a s.b s.i s.j s.f).map (·.data.toList)) [32]).length := by simp [jn]
  omega
theorem lnsP_take {ss : List Stp} {k : Nat} (h : k < ss.length) : lnsP (ss.take (k + 1)) = lnsP (ss.take k) ++ lnP (ss.getD k Stp.nil) := by
  unfold lnsP
  rw [List.take_succ_eq_append_getElem h, List.map_append, List.flatten_append]
  simp [List.getD, h]
theorem lnsP_len {ss : List Stp} {k : Nat} (h : ∀ m, m < k → plP (ss.getD m Stp.nil) = true) (hk : k ≤ ss.length) : (lnsP (ss.take k)).length ≤ 607 * k := by
  induction k with
  | zero => simp [lnsP]
  | succ k ih =>
    rw [lnsP_take (by omega), List.length_append]
    have h1 := ih (fun m hm => h m (by omega)) (by omega)
    have h2 := lnP_len (h k (by omega))
    omega
theorem prT_bad {ss : List Stp} {k : Nat} (hk : k < ss.length) (h : plP (ss.getD k Stp.nil) = false ∨ 40 < ss.length) : prT ss = ⟨#[]⟩ := by
  have e : (decide (ss.length ≤ 40) && ss.all plP) = false := by
    rcases h with h | h
    · have : ss.all plP = false := List.all_eq_false.2 ⟨ss.getD k Stp.nil, by simp [List.getD, hk], by rw [h]; decide⟩
      rw [this, Bool.and_false]
    · rw [decide_eq_false (by omega), Bool.false_and]
  unfold prT
  rw [e]; rfl
theorem prT_all {ss : List Stp} (h : ∀ m, m < ss.length → plP (ss.getD m Stp.nil) = true) (h40 : ss.length ≤ 40) : prT ss = ⟨(lnsP ss).toArray⟩ := by
  have e : (decide (ss.length ≤ 40) && ss.all plP) = true := by
    rw [decide_eq_true h40, Bool.true_and, List.all_eq_true]
    intro s hs
    obtain ⟨m, hm, rfl⟩ := List.getElem_of_mem hs
    have := h m hm
    simpa [List.getD, hm] using this
  unfold prT
  rw [if_pos e]

theorem line_chain {T : List UInt8} (hT : T.length ≤ 24280) {s : Stp} (h : plP s = true) :
    ∃ U, (∀ w : World, (Op.stringOp .add ⟨T.toArray⟩ (stT s.r s.a s.b s.i s.j s.f)).run Tryd.prog w = .ok (.string U) w) ∧ (∀ w : World, (Op.stringOp .add U ⟨#[10]⟩).run Tryd.prog w = .ok (.string ⟨(T ++ lnP s).toArray⟩) w) := by
  have hl := lnP_len h
  have e0 : (stT s.r s.a s.b s.i s.j s.f).size = (stT s.r s.a s.b s.i s.j s.f).data.toList.length := by simp
  have e1 : (lnP s).length = (stT s.r s.a s.b s.i s.j s.f).data.toList.length + 1 := by unfold lnP; rw [List.length_append]; rfl
  have e2 : (⟨T.toArray⟩ : ByteArray).size = T.length := by simp [ByteArray.size]
  refine ⟨⟨T.toArray⟩ ++ stT s.r s.a s.b s.i s.j s.f, fun w => run_string_add_sum _ _ _ (by omega), fun w => ?_⟩
  have e3 : (⟨(T ++ lnP s).toArray⟩ : ByteArray) = (⟨T.toArray⟩ ++ stT s.r s.a s.b s.i s.j s.f) ++ ⟨#[10]⟩ := ba_ext (by unfold lnP; simp)
  have e4 : (⟨T.toArray⟩ ++ stT s.r s.a s.b s.i s.j s.f).size = (⟨T.toArray⟩ : ByteArray).size + (stT s.r s.a s.b s.i s.j s.f).size := ByteArray.size_append
  have e5 : (⟨#[10]⟩ : ByteArray).size = 1 := rfl
  rw [e3]
  exact run_string_add_sum _ _ _ (by omega)

set_option maxRecDepth 100000 in
set_option maxHeartbeats 8000000 in
theorem sProofText_any (A : Option Addr) (n c : Nat) (ss : List Stp) (w : World) (h : RdP w w.heap.size A n ss) (hn : n ≤ 1048576) :
    Calls Tryd.prog 17 #[.slice A n c] w fun e w' => e = .returned (.string (prT ss)) ∧ Below w.heap.size w w' := by
  have hl := h.len
  have HR := Lib.hid h
  clear h
  go_enter Tryd.func17, Tryd.ntmps17
  go_wp2
  go_loopw [3, 4] (fun s i wr => ∃ k : Nat, k ≤ n ∧ i = .int .i64 k ∧ s = .string ⟨(lnsP (ss.take k)).toArray⟩ ∧ (∀ m, m < k → plP (ss.getD m Stp.nil) = true) ∧ (0 < k → n ≤ 40) ∧ Below w.heap.size w wr) (fun _ i _ => n - (intOf i).toNat)
  case atStart => exact ⟨0, Nat.zero_le _, rfl, by simp [lnsP], fun m hm => absurd hm (by omega), fun h => absurd h (by omega), Below.refl _ _⟩
  case round =>
    obtain ⟨k, hk, rfl, rfl, hpl, h40, hB⟩ := hrel
    have HB := Lib.hid hB
    by_cases hlt : k < n
    · obtain ⟨b, off, rfl, hbb, hcells⟩ := HR.out.2 (by omega)
      obtain ⟨A', c', hat⟩ := hcells k hlt
      obtain ⟨x0, x1, x2, x3, x4, x5, hx6, hx7⟩ := hat.keep (fun _ hp => hB.cell hp) hbb
      have HPS := Lib.hid (sPlainStep_any (ss.getD k Stp.nil).r (ss.getD k Stp.nil).a (ss.getD k Stp.nil).b (ss.getD k Stp.nil).i (ss.getD k Stp.nil).j A' (ss.getD k Stp.nil).f.length c' (ss.getD k Stp.nil).f wr (hx7.more hB.size))
      have HST := Lib.hid (fun (wx : World) (hb : Below wr.heap.size wr wx) => sStepText_any (ss.getD k Stp.nil).r (ss.getD k Stp.nil).a (ss.getD k Stp.nil).b (ss.getD k Stp.nil).i (ss.getD k Stp.nil).j A' (ss.getD k Stp.nil).f.length c' (ss.getD k Stp.nil).f wx (((hx7.more hB.size).below hb).more hb.size))
      have hi1 : (k : Int) < (n : Int) := by omega
      have hbw : b < wr.heap.size := by have := hB.size; omega
      have htk := lnsP_take (show k < ss.length by omega)
      have hln := lnsP_len (k := k) hpl (by omega)
      have hlc := fun (hp : plP (ss.getD k Stp.nil) = true) (h4 : n ≤ 40) => line_chain (T := lnsP (ss.take k)) (by omega) hp
      rw [← htk] at hlc
      have HPL := Lib.hid hpl; have HLC := Lib.hid hlc
      obtain ⟨p, hp⟩ : ∃ p, plP (ss.getD k Stp.nil) = p := ⟨_, rfl⟩
      have HP := Lib.hid hp
      have hp' := hp
      unfold plP at hp'
      rw [hp'] at HPS
      clear hcells hat hB hx7 hpl h40 htk hln hlc hp hp'
      generalize (ss.getD k Stp.nil).f.length = M at *
      generalize lnsP (ss.take k) = LT at *
      generalize stT (ss.getD k Stp.nil).r (ss.getD k Stp.nil).a (ss.getD k Stp.nil).b (ss.getD k Stp.nil).i (ss.getD k Stp.nil).j (ss.getD k Stp.nil).f = ST at *
      generalize (ss.getD k Stp.nil).r = sr at *; generalize (ss.getD k Stp.nil).a = sa at *; generalize (ss.getD k Stp.nil).b = sb at *; generalize (ss.getD k Stp.nil).i = si at *; generalize (ss.getD k Stp.nil).j = sj at *
      cases p with
      | false =>
        have HE : Hid ((⟨#[]⟩ : ByteArray) = prT ss) := Lib.hid (prT_bad (show k < ss.length by omega) (.inl HP.out)).symm
        go_wp2_with (fail)
        refine HPS.out.mono ?_
        rintro e w1 ⟨rfl, bel⟩
        have HB1 := Lib.hid (HB.out.trans (bel.mono HB.out.size))
        clear bel x0 x1 x2 x3 x4 x5
        go_wp2
        go_ret
        exact ⟨ret_str HE.out, HB1.out⟩
      | true =>
        by_cases h4 : n ≤ 40
        · obtain ⟨U, hA, hB2⟩ := HLC.out HP.out h4
          have hd : decide ((40 : Int) < n) = false := decide_eq_false (by omega)
          go_wp2_with (fail)
          refine HPS.out.mono ?_
          rintro e w1 ⟨rfl, bel⟩
          replace x0 := (bel.cell (p := ⟨b, off + k * 6, none⟩) hbw).trans x0
          replace x1 := (bel.cell (p := ⟨b, off + k * 6 + 1, none⟩) hbw).trans x1
          replace x2 := (bel.cell (p := ⟨b, off + k * 6 + 2, none⟩) hbw).trans x2
          replace x3 := (bel.cell (p := ⟨b, off + k * 6 + 3, none⟩) hbw).trans x3
          replace x4 := (bel.cell (p := ⟨b, off + k * 6 + 4, none⟩) hbw).trans x4
          replace x5 := (bel.cell (p := ⟨b, off + k * 6 + 5, none⟩) hbw).trans x5
          have HB1 := Lib.hid (HB.out.trans (bel.mono HB.out.size))
          have HS1 := Lib.hid (HST.out w1 bel)
          clear bel HST HPS
          go_wp2_with (fail)
          refine HS1.out.mono ?_
          rintro e w2 ⟨rfl, bel⟩
          have HB3 := Lib.hid (HB1.out.trans (bel.mono HB1.out.size))
          clear bel x0 x1 x2 x3 x4 x5
          go_wp2
          go_roundw
          case rel => exact ⟨k + 1, by omega, by go_num, rfl, fun m hm => by by_cases e : m = k; subst e; exact HP.out; exact HPL.out m (by omega), fun _ => h4, HB3.out⟩
          case measure => simp [intOf]; omega
        · have HE : Hid ((⟨#[]⟩ : ByteArray) = prT ss) := Lib.hid (prT_bad (show k < ss.length by omega) (.inr (by omega))).symm
          have hd : decide ((40 : Int) < n) = true := decide_eq_true (by omega)
          go_wp2_with (fail)
          refine HPS.out.mono ?_
          rintro e w1 ⟨rfl, bel⟩
          have HB1 := Lib.hid (HB.out.trans (bel.mono HB.out.size))
          clear bel x0 x1 x2 x3 x4 x5
          go_wp2
          go_ret
          exact ⟨ret_str HE.out, HB1.out⟩
    · have hkl : k = n := by omega
      subst hkl
      have HE : Hid ((⟨(lnsP (ss.take k)).toArray⟩ : ByteArray) = prT ss) := Lib.hid (by
        by_cases h0 : k = 0
        · subst h0
          have : ss = [] := List.eq_nil_of_length_eq_zero hl
          subst this
          rw [prT_all (fun m hm => absurd hm (by simp)) (by simp)]
          rfl
        · rw [prT_all (fun m hm => hpl m (by omega)) (by have := h40 (by omega); omega), List.take_of_length_le (by omega)])
      clear hB hpl h40
      generalize lnsP (ss.take k) = LT at *
      go_wp2
      go_ret
      exact ⟨ret_str HE.out, HB.out⟩
end Go.Proofs.YtjhagklpnpabeaaDoor
