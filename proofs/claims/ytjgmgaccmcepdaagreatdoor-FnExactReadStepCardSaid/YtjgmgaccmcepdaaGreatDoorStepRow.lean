/- Rows of steps: what a slice of steps reads as; the laws' szStepS. -/
import Derived.Test.YtjgmgaccmcepdaaGreatDoorStepT
namespace Go.Proofs.YtjgmgaccmcepdaaGreatDoor
open Go.ChangeAt Go.ChangeShapes Go.RowKit Go.WideShapes

/-- A step, as mathematics has it. -/
structure Stp where
  r : Int
  a : Int
  b : Int
  i : Int
  j : Int
  f : List Int
/-- The six cells of a step. -/
def stC (s : Stp) (A : Option Addr) (c : Nat) : List Value := [.int .i64 s.r, .int .i64 s.a, .int .i64 s.b, .int .i64 s.i, .int .i64 s.j, .slice A s.f.length c]
/-- At place off of block b lies a step, its formula below block B. -/
def AtP (w : World) (B b off : Nat) (s : Stp) (A : Option Addr) (c : Nat) : Prop :=
  w.cell? ⟨b, off, none⟩ = some (.int .i64 s.r) ∧ w.cell? ⟨b, off + 1, none⟩ = some (.int .i64 s.a) ∧ w.cell? ⟨b, off + 2, none⟩ = some (.int .i64 s.b) ∧
  w.cell? ⟨b, off + 3, none⟩ = some (.int .i64 s.i) ∧ w.cell? ⟨b, off + 4, none⟩ = some (.int .i64 s.j) ∧ w.cell? ⟨b, off + 5, none⟩ = some (.slice A s.f.length c) ∧ s.f.length ≤ c ∧ RdI w B A s.f.length s.f
theorem AtP.keep {w w' : World} {B b off c : Nat} {s : Stp} {A : Option Addr} (h : AtP w B b off s A c) (hk : ∀ p : Addr, p.block < B → w'.cell? p = w.cell? p) (hb : b < B) : AtP w' B b off s A c := by
  obtain ⟨h0, h1, h2, h3, h4, h5, h6, h7⟩ := h
  exact ⟨(hk _ hb).trans h0, (hk _ hb).trans h1, (hk _ hb).trans h2, (hk _ hb).trans h3, (hk _ hb).trans h4, (hk _ hb).trans h5, h6, h7.keep hk⟩
def Stp.nil : Stp := ⟨0, 0, 0, 0, 0, []⟩
/-- The slice value '.slice A n c' reads as the steps ss, all below block B. -/
def RdP (w : World) (B : Nat) (A : Option Addr) (n : Nat) (ss : List Stp) : Prop :=
  ss.length = n ∧ (0 < n → ∃ b off, A = some ⟨b, off, none⟩ ∧ b < B ∧ ∀ k, k < n → ∃ A' c', AtP w B b (off + k * 6) (ss.getD k Stp.nil) A' c')
theorem RdP.len {w : World} {B n : Nat} {A : Option Addr} {ss : List Stp} (h : RdP w B A n ss) : ss.length = n := h.1
theorem RdP.keep {w w' : World} {B n : Nat} {A : Option Addr} {ss : List Stp} (h : RdP w B A n ss) (hk : ∀ p : Addr, p.block < B → w'.cell? p = w.cell? p) : RdP w' B A n ss :=
  ⟨h.1, fun hn => by
    obtain ⟨b, off, e, hb, hc⟩ := h.2 hn
    exact ⟨b, off, e, hb, fun k hkn => by obtain ⟨A', c', ha⟩ := hc k hkn; exact ⟨A', c', ha.keep hk hb⟩⟩⟩
theorem RdP.below {w w' : World} {B n : Nat} {A : Option Addr} {ss : List Stp} (h : RdP w B A n ss) (hb : Below B w w') : RdP w' B A n ss := h.keep fun _ hp => hb.cell hp
theorem AtP.more {w : World} {B B' b off c : Nat} {s : Stp} {A : Option Addr} (h : AtP w B b off s A c) (hB : B ≤ B') : AtP w B' b off s A c := by
  obtain ⟨h0, h1, h2, h3, h4, h5, h6, h7⟩ := h
  exact ⟨h0, h1, h2, h3, h4, h5, h6, h7.more hB⟩
theorem RdP.more {w : World} {B B' n : Nat} {A : Option Addr} {ss : List Stp} (h : RdP w B A n ss) (hB : B ≤ B') : RdP w B' A n ss :=
  ⟨h.1, fun hn => by
    obtain ⟨b, off, e, hb, hc⟩ := h.2 hn
    exact ⟨b, off, e, by omega, fun k hkn => by obtain ⟨A', c', ha⟩ := hc k hkn; exact ⟨A', c', ha.more hB⟩⟩⟩
/-- The formulas of the steps. -/
def fsP (ss : List Stp) : List (List Int) := ss.map Stp.f
theorem fsP_len (ss : List Stp) : (fsP ss).length = ss.length := List.length_map _
theorem fsP_getD (ss : List Stp) (k : Nat) (h : k < ss.length) : (fsP ss).getD k [] = (ss.getD k Stp.nil).f := by simp [fsP, List.getD, h]

set_option maxHeartbeats 2000000 in
theorem szStepS_any (A : Option Addr) (n c : Nat) (ss : List Stp) (left : Int) (w : World) (h : RdP w w.heap.size A n ss) (hq : ∀ q ∈ fsP ss, q.length ≤ maxLen) (hn : n ≤ maxLen) (h0 : 0 ≤ left) (h1 : left ≤ 1073741824) :
    Calls Tryz.prog 51 #[.slice A n c, .int .i64 left] w fun e w' => e = .returned (.int .i64 (szR left (n + total (fsP ss)))) ∧ Below w.heap.size w w' := by
  have hl := h.len
  subst hl
  have hfl := fsP_len ss
  have hn' := hn
  unfold maxLen at hn'
  by_cases hc : left - ss.length < 0
  · have HE : Hid ((-1 : Int) = szR left (ss.length + total (fsP ss))) := Lib.hid (szR_neg (by omega)).symm
    have hd : decide (left - (ss.length : Int) < 0) = true := decide_eq_true hc
    clear h hq hc
    go_enter Tryz.func51, Tryz.ntmps51
    go_wp2
    go_ret
    exact ⟨ret_i64 HE.out, Below.refl _ _⟩
  · have hd : decide (left - (ss.length : Int) < 0) = false := decide_eq_false hc
    go_enter Tryz.func51, Tryz.ntmps51
    go_wp2
    go_loopw [1, 5] (fun l i wr => ∃ k : Nat, k ≤ ss.length ∧ i = .int .i64 k ∧ l = .int .i64 (left - (ss.length + total ((fsP ss).take k) : Nat)) ∧ 0 ≤ left - (ss.length + total ((fsP ss).take k) : Nat) ∧ Below w.heap.size w wr) (fun _ i _ => ss.length - (intOf i).toNat)
    case atStart => exact ⟨0, Nat.zero_le _, rfl, by simp [total], by simp [total]; omega, Below.refl _ _⟩
    case round =>
      obtain ⟨k, hk, rfl, rfl, hp, hb⟩ := hrel
      clear hd
      by_cases hlt : k < ss.length
      · obtain ⟨b, off, rfl, hbb, hcells⟩ := h.2 (by omega)
        obtain ⟨A', c', hat⟩ := hcells k hlt
        have hm := hq _ (getD_mem (show k < (fsP ss).length by omega))
        have ht := total_take (show k < (fsP ss).length by omega)
        have htl := total_le (show k < (fsP ss).length by omega)
        rw [fsP_getD ss k hlt] at hm ht htl
        obtain ⟨x0, x1, x2, x3, x4, x5, hx6, _⟩ := hat.keep (fun _ hp => hb.cell hp) hbb
        have hm' := hm
        unfold maxLen at hm'
        have HB := Lib.hid hb
        clear hcells h hq hat hb
        generalize hM : (ss.getD k Stp.nil).f.length = M at *
        generalize (ss.getD k Stp.nil).r = sr at *; generalize (ss.getD k Stp.nil).a = sa at *; generalize (ss.getD k Stp.nil).b = sb at *; generalize (ss.getD k Stp.nil).i = si at *; generalize (ss.getD k Stp.nil).j = sj at *
        generalize hT : total ((fsP ss).take k) = T at *
        obtain ⟨L, hL⟩ : ∃ L : Int, left - (ss.length + T : Nat) = L := ⟨_, rfl⟩
        rw [hL] at hp ⊢
        have HS := Lib.hid (szStep_any sr sa sb si sj A' M c' L wr hm hp (by omega))
        by_cases hneg : L - M < 0
        · rw [szR_neg hneg] at HS
          have HE : Hid ((-1 : Int) = szR left (ss.length + total (fsP ss))) := Lib.hid (szR_neg (by omega)).symm
          clear ht htl hL hM hT hneg
          go_wp2_with (fail)
          refine HS.out.mono ?_
          rintro e w1 ⟨rfl, bel⟩
          have HB1 := Lib.hid (HB.out.trans (bel.mono HB.out.size))
          clear bel
          go_wp2
          go_ret
          exact ⟨ret_i64 HE.out, HB1.out⟩
        · rw [szR_pos hneg] at HS
          have hd2 : decide (L - (M : Int) < 0) = false := decide_eq_false hneg
          have HR : Hid (L - M = left - (ss.length + total ((fsP ss).take (k + 1)) : Nat)) := Lib.hid (by rw [ht]; omega)
          have HP : Hid (0 ≤ L - M) := Lib.hid (by omega)
          clear ht htl hL hM hT hneg
          go_wp2_with (fail)
          refine HS.out.mono ?_
          rintro e w1 ⟨rfl, bel⟩
          have HB1 := Lib.hid (HB.out.trans (bel.mono HB.out.size))
          clear bel
          go_wp2
          go_roundw
          case rel => exact ⟨k + 1, by omega, by go_num, by rw [HR.out], by rw [← HR.out]; exact HP.out, HB1.out⟩
          case measure => simp [intOf]; omega
      · have hkl : k = ss.length := by omega
        subst hkl
        rw [total_all (fsP ss) (by omega)] at hp ⊢
        have HE : Hid (left - (ss.length + total (fsP ss) : Nat) = szR left (ss.length + total (fsP ss))) := Lib.hid (szR_pos (by omega)).symm
        have HB := Lib.hid hb
        clear h hq hp hb
        go_wp2
        go_ret
        exact ⟨ret_i64 HE.out, HB.out⟩
end Go.Proofs.YtjgmgaccmcepdaaGreatDoor
