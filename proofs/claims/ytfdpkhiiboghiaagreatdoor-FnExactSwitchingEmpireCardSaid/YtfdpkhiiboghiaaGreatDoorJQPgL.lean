/- The program's placed: a net put into another one under given numbers. A net in a box that grows: another row of conclusions, a link more, a wire more. Rows of rows put one behind the other; a net in a box that gets many wires. slices.Concat of rows of numbers, empty or not; the program's without at one position. The program's isPermutation: slices.Sort at a row of one's own. The program's outputsOfLinks; positionOf. A region that draws its order, in which one operation (a call that writes, at the end) need not keep what the loads ahead of it rest on. The program's netOfLinks. Made by mksqh.py. The model's l14Cut. Made by mksrc.py. The model: l15Closed. The net of a closed set of links of a valid net is valid. The model: l11Has, l13Parts, l13Ready, l13All. The model: the arcs of a switching. -/
import Derived.Test.YtfdpkhiiboghiaaGreatDoorJQPgA
import Derived.Test.YtfdpkhiiboghiaaGreatDoorJQPaF
import Derived.Test.YtfdpkhiiboghiaaGreatDoorJQSqM
import Derived.Test.YtfdpkhiiboghiaaGreatDoorJQNetZ
import Derived.Maps.AppendAt
import Derived.Deep.RegionHeldLaw
import Derived.Deep.DeepCutAuto
import Derived.BigQuiet
import Derived.Test.YtfdpkhiiboghiaaGreatDoorShelfI
import Derived.Test.YtfdpkhiiboghiaaGreatDoorJQSwM
import Derived.Lib.OwnBridge
import Derived.Deep.RegionHeld
import Derived.Test.YtfdpkhiiboghiaaGreatDoorJQEmA
import Derived.Test.YtfdpkhiiboghiaaGreatDoorJPbA
import Derived.Test.YtfdpkhiiboghiaaGreatDoorJQEmR
namespace Go.Proofs.YtfdpkhiiboghiaaGreatDoor
set_option linter.unusedSimpArgs false
set_option linter.unusedVariables false
section
set_option linter.unusedSimpArgs false
set_option linter.unusedVariables false
open Go.ChangeAt Go.ChangeShapes Go.RowKit Go.WideShapes

/-- What placed holds: the target, grown, and its box. -/
structure PlSt (wb w0 wr : World) (sx : Nat) (hT : NH) (T : Nt) (h : NH) (M : Nt) : Prop where
  own : OwnN wr wb.heap.size wr.heap.size h M
  far : ∀ b, b < w0.heap.size → FarN hT T b → FarN h M b
  keep : ∀ b, b < w0.heap.size → FarN hT T b → b ≠ sx → wr.heap[b]? = w0.heap[b]?
  box : wr.heap[sx]? = some (.cells #[.slice h.A M.w.length h.c, .slice h.L M.l.length h.d, .slice h.C M.c.length h.e] 30 (0, 0))
  bel : Below wb.heap.size wb wr
  size : w0.heap.size ≤ wr.heap.size
  sxl : sx < w0.heap.size
  sxf : FarN hT T sx
  sxb : wb.heap.size ≤ sx
section
variable {wb w0 wr w' : World} {sx : Nat} {hT h : NH} {T M : Nt}
theorem PlSt.below (p : PlSt wb w0 wr sx hT T h M) (hb : Below wr.heap.size wr w') : PlSt wb w0 w' sx hT T h M where
  own := (p.own.below hb).more (Nat.le_refl _) hb.size
  far := p.far
  keep b h1 h2 h3 := (hb.block b (Nat.lt_of_lt_of_le h1 p.size)).trans (p.keep b h1 h2 h3)
  box := (hb.block sx (Nat.lt_of_lt_of_le p.sxl p.size)).trans p.box
  bel := p.bel.trans (hb.mono p.bel.size)
  size := Nat.le_trans p.size hb.size
  sxl := p.sxl
  sxf := p.sxf
  sxb := p.sxb
theorem PlSt.drew (p : PlSt wb w0 wr sx hT T h M) : PlSt wb w0 wr.drew sx hT T h M := p.below ((Below.refl _ _).drew)
theorem PlSt.cell (p : PlSt wb w0 wr sx hT T h M) {b off : Nat} (h1 : b < w0.heap.size) (h2 : FarN hT T b) (h3 : b ≠ sx) : wr.cell? ⟨b, off, none⟩ = w0.cell? ⟨b, off, none⟩ := by
  unfold World.cell?
  rw [p.keep b h1 h2 h3]
theorem set2_at {w : World} {b : Nat} {a0 a1 a2 : Value} {t : TypeId} (h : w.heap[b]? = some (.cells #[a0, a1, a2] t (0, 0))) (v : Value) : (w.setCell ⟨b, 2, none⟩ v).heap[b]? = some (.cells #[a0, a1, v] t (0, 0)) := by
  have := heap_setCell_same w b 2 _ t v h
  simpa using this
end
end
section
set_option linter.unusedSimpArgs false
set_option linter.unusedVariables false
open Go.ChangeAt Go.ChangeShapes Go.RowKit Go.WideShapes

section
variable {wb w0 wr w' : World} {sx : Nat} {hT h : NH} {T M : Nt}
/-- Another row of conclusions, in memory of its own. -/
theorem PlSt.setC {u : World} {C : Option Addr} {e : Nat} {cs : List Int} (p : PlSt wb w0 wr sx hT T h M) (hb : Below wr.heap.size wr u) (hc : u.ownsRow wr.heap.size 2 1 (.slice C cs.length e) cs.length (cs.map (Value.int .i64))) :
    PlSt wb w0 (u.setCell ⟨sx, 2, none⟩ (.slice C cs.length e)) sx hT T ⟨h.A, h.c, h.hs, h.L, h.d, C, e⟩ ⟨M.w, M.l, cs⟩ := by
  have o5 := p.own.setC hb p.bel.size hc
  have hsb : ∀ b, b < w0.heap.size → FarN hT T b → FarN ⟨h.A, h.c, h.hs, h.L, h.d, C, e⟩ ⟨M.w, M.l, cs⟩ b := fun b h1 h2 => (p.far b h1 h2).setC hc (Nat.lt_of_lt_of_le h1 p.size)
  have hk : ∀ b, b < w0.heap.size → u.heap[b]? = wr.heap[b]? := fun b h1 => hb.block b (Nat.lt_of_lt_of_le h1 p.size)
  have hB : Below wb.heap.size wb u := p.bel.trans (hb.mono p.bel.size)
  have es : (u.setCell ⟨sx, 2, none⟩ (.slice C cs.length e)).heap.size = u.heap.size := by simp
  exact {
    own := by
      have := o5.farSet (hsb sx p.sxl p.sxf) 2 (.slice C cs.length e)
      rw [es]; exact this
    far := hsb
    keep := fun b h1 h2 h3 => (Below.heap_setCell _ _ _ _ (by show b ≠ sx; exact h3)).trans ((hk b h1).trans (p.keep b h1 h2 h3))
    box := set2_at ((hk sx p.sxl).trans p.box) _
    bel := hB.setCell (p := ⟨sx, 2, none⟩) p.sxb _
    size := by rw [es]; exact Nat.le_trans p.size hb.size
    sxl := p.sxl
    sxf := p.sxf
    sxb := p.sxb }
end
end
section
set_option linter.unusedSimpArgs false
set_option linter.unusedVariables false
open Go.ChangeAt Go.ChangeShapes Go.RowKit Go.WideShapes Go.Shelf Go.Lib Go.Sort

/-- A row of numbers that is to be appended: nil, or at an address. -/
def PartI (w : World) (B : Nat) (v : Value) (zs : List Int) : Prop :=
  (v = .slice none 0 0 ∧ zs = []) ∨ ∃ ad c, v = .slice (some ad) zs.length c ∧ RdI w B (some ad) zs.length zs
theorem PartI.below {w w' : World} {B : Nat} {v : Value} {zs : List Int} (h : PartI w B v zs) (hb : Below B w w') : PartI w' B v zs := by
  rcases h with h | ⟨ad, c, hv, hn⟩
  · exact .inl h
  · exact .inr ⟨ad, c, hv, hn.below hb⟩
theorem PartI.more {w : World} {B B' : Nat} {v : Value} {zs : List Int} (h : PartI w B v zs) (hb : B ≤ B') : PartI w B' v zs := by
  rcases h with h | ⟨ad, c, hv, hn⟩
  · exact .inl h
  · exact .inr ⟨ad, c, hv, hn.more hb⟩
theorem PartI.of_own {w : World} {base c : Nat} {A : Option Addr} {zs : List Int} (h : w.ownsRow base 2 1 (.slice A zs.length c) zs.length (zs.map (Value.int .i64))) : PartI w w.heap.size (.slice A zs.length c) zs := by
  have r := RdI.of_own h
  rcases h.2 with ⟨e, e2⟩ | ⟨g, cap, cur, e, _⟩
  · have hl : zs = [] := List.eq_nil_of_length_eq_zero (by injection e)
    subst hl
    exact .inl ⟨e, rfl⟩
  · injection e with e1 e2 e3
    subst e1
    exact .inr ⟨_, c, rfl, r⟩
end
section
set_option linter.unusedSimpArgs false
set_option linter.unusedVariables false
section
variable {P : Program} {ops : Array Oper} {Q : Exit → Act → World → Prop} {md : Region.Mode} {S : World → Prop} {c : Nat}

/-- As wpAnyH; but behind operation c nothing is asked of the world. -/
def wpAnyC (P : Program) (md : Region.Mode) (ops : Array Oper) (Q : Exit → Act → World → Prop) (S : World → Prop) (c : Nat) : Nat → Array Bool → Act → World → Prop
  | 0, listed, a, w => Region.ready md ops listed = [] ∧ Q .normal a w
  | fuel + 1, listed, a, w =>
    (Region.ready md ops listed = [] → Q .normal a w) ∧
    ∀ i ∈ Region.ready md ops listed, wpOp P ops Q i (fun a' w' => if i = c then wpAnyH P md ops Q (fun _ => True) fuel (listed.setIfInBounds i true) a' w' else S w' ∧ wpAnyC P md ops Q S c fuel (listed.setIfInBounds i true) a' w') a w
theorem wpAny_of_C : ∀ (fuel : Nat) (listed : Array Bool) (a : Act) (w : World), wpAnyC P md ops Q S c fuel listed a w → wpAny P md ops Q fuel listed a w
  | 0, _, _, _, h => h
  | fuel + 1, _, _, _, h => ⟨h.1, fun i hi => wpOp_mono (fun a' w' h' => by
      by_cases e : i = c
      · rw [if_pos e] at h'
        exact wpAny_of_held fuel _ a' w' h'
      · rw [if_neg e] at h'
        exact wpAny_of_C fuel _ a' w' h'.2) (h.2 i hi)⟩
/-- The operations T wait, each but i for another of T: so none of them comes up before i. -/
def waitsB (md : Region.Mode) (ops : Array Oper) (T : List Nat) (i : Nat) : Bool :=
  T.all fun t => t == i || (match ops[t]? with | some o => o.after.any (fun e => Region.binds md e && T.contains e.on) | none => false)
theorem waits_no {T : List Nat} {i : Nat} {listed : Array Bool} (hw : waitsB md ops T i = true) (hT : ∀ t ∈ T, listed.getD t true = false) {j : Nat} (hj : j ∈ Region.ready md ops listed) (hji : j ≠ i) : j ∉ T := fun hm => by
  have h := List.all_eq_true.1 hw j hm
  obtain ⟨_, oj, hoj, hall⟩ := mem_ready.1 hj
  rw [hoj] at h
  simp only [Bool.or_eq_true, beq_iff_eq] at h
  rcases h with h | h
  · exact hji h
  · obtain ⟨k, hk, he⟩ := Array.any_eq_true.1 h
    simp only [Bool.and_eq_true, List.contains_iff_mem] at he
    have h1 := hall _ (Array.getElem_mem hk) he.1
    have h0 := hT _ he.2
    generalize oj.after[k].on = n at *
    rcases Nat.lt_or_ge n listed.size with h' | h'
    · simp [h'] at h0 h1; rw [h0] at h1; cases h1
    · simp [Array.getElem?_eq_none h'] at h1
theorem wpAnyC_first {T : List Nat} {i : Nat} {oi : Oper} {v : Value} (hi : ops[i]? = some oi) (hsel : ∀ (j : Nat) (o : Oper) cs b, ops[j]? = some o → o.op ≠ .select cs b)
    (hQ : ∀ c a w, Q (.panic c) (a.put oi.dst v) w → Q (.panic c) a w) (hic : i ≠ c) (hc : c ∈ T) (hw : waitsB md ops T i = true) :
    ∀ (fuel : Nat) (listed : Array Bool) (a : Act) (w : World), (∀ t ∈ T, listed.getD t true = false) →
      (∀ j oj, ops[j]? = some oj → j ≠ i → listed.getD j true = false → (∀ e ∈ oj.after, Region.binds md e = true → e.on ≠ i) → oi.apart ops oj = true) →
      i ∈ Region.ready md ops listed → YieldsIf P ops S oi v a → S w →
      wpAnyC P md ops Q S c fuel (listed.setIfInBounds i true) (a.put oi.dst v) w → wpAnyC P md ops Q S c (fuel + 1) listed a w := by
  intro fuel
  induction fuel with
  | zero =>
    intro listed a w _ _ hr hy hS H
    refine ⟨fun h => (by rw [h] at hr; cases hr), fun j hj => ?_⟩
    by_cases hji : j = i
    · subst hji; simp only [if_neg hic]; exact hy.wpOp hi hS ⟨hS, H⟩
    · have := ready_mono hj hji
      rw [H.1] at this
      cases this
  | succ fuel ih =>
    intro listed a w hT hfree hr hy hS H
    refine ⟨fun h => (by rw [h] at hr; cases hr), fun j hj => ?_⟩
    by_cases hji : j = i
    · subst hji; simp only [if_neg hic]; exact hy.wpOp hi hS ⟨hS, H⟩
    · have hjT := waits_no hw hT hj hji
      have hjc : j ≠ c := fun e => hjT (e ▸ hc)
      have h1 := H.2 j (ready_mono hj hji)
      simp only [if_neg hjc] at h1 ⊢
      obtain ⟨hjun, oj, hoj, hall⟩ := mem_ready.1 hj
      have hnot : ∀ e ∈ oj.after, Region.binds md e = true → e.on ≠ i := fun e he hb heq => by
        have h1 := hall e he hb
        have h0 := (mem_ready.1 hr).1
        rw [heq] at h1
        rcases Nat.lt_or_ge i listed.size with h' | h'
        · simp [h'] at h0 h1; rw [h0] at h1; cases h1
        · simp [Array.getElem?_eq_none h'] at h1
      have h2 := wpOp_putIf hoj (hfree j oj hoj hji hjun hnot) (fun cs b => hsel i oi cs b hi) (fun cs b => hsel j oj cs b hoj) hQ hy h1
      have hfree' : ∀ k ok, ops[k]? = some ok → k ≠ i → (listed.setIfInBounds j true).getD k true = false →
          (∀ e ∈ ok.after, Region.binds md e = true → e.on ≠ i) → oi.apart ops ok = true := fun k ok hk hki hun hno => by
        refine hfree k ok hk hki ?_ hno
        by_cases hjk : j = k
        · subst hjk; exact hjun
        · rw [Go.getD_set_ne true hjk] at hun; exact hun
      have hT' : ∀ t ∈ T, (listed.setIfInBounds j true).getD t true = false := fun t ht => by
        rw [Go.getD_set_ne true (fun e => hjT (by rw [e]; exact ht))]
        exact hT t ht
      refine wpOp_mono (fun a' w' h3 => ⟨h3.2.1, ih (listed.setIfInBounds j true) a' w' hT' hfree' (ready_mono hr (Ne.symm hji)) h3.1 h3.2.1 ?_⟩) h2
      rw [Array.setIfInBounds_comm _ _ hji]
      exact h3.2.2
theorem wpAnyC_take (T : List Nat) {i : Nat} {oi : Oper} {v : Value} {fuel : Nat} {listed : Array Bool} {a : Act} {w : World} (hi : ops[i]? = some oi)
    (hs : Region.noSelect ops = true) (hf : Region.free md ops listed i = true) (hr : (Region.ready md ops listed).contains i = true)
    (hT : (!(i == c) && T.contains c && waitsB md ops T i && T.all fun t => !listed.getD t true) = true)
    (hQ : ∀ c a w, Q (.panic c) (a.put oi.dst v) w → Q (.panic c) a w) (hy : YieldsIf P ops S oi v a) (hS : S w)
    (h : wpAnyC P md ops Q S c fuel (listed.setIfInBounds i true) (a.put oi.dst v) w) : wpAnyC P md ops Q S c (fuel + 1) listed a w := by
  simp only [Bool.and_eq_true, Bool.not_eq_true', beq_eq_false_iff_ne, List.contains_iff_mem, List.all_eq_true] at hT
  obtain ⟨⟨⟨h1, h2⟩, h3⟩, h4⟩ := hT
  exact wpAnyC_first hi (Region.noSelect_spec hs) hQ h1 h2 h3 fuel listed a w h4 (Region.free_spec hi hf) (by simpa using hr) hy hS h
/-- One operation alone comes up, not c. -/
theorem wpAnyC_one {i : Nat} {o : Oper} {fuel : Nat} {listed : Array Bool} {a : Act} {w : World} (hr : Region.ready md ops listed = [i]) (hic : (i == c) = false) (ho : ops[i]? = some o)
    (h : ∀ K' : Act → World → Prop, Shut (∀ a w, S w → (S w → wpAnyC P md ops Q S c fuel (listed.setIfInBounds i true) a w) → K' a w) → if Region.wanted o (yielded ops a.tmps) = true then Oper.wp P o a w K' Q else K' (a.put o.dst undef) w) :
    wpAnyC P md ops Q S c (fuel + 1) listed a w := by
  refine ⟨fun e => (by rw [hr] at e; cases e), fun j hj => ?_⟩
  rw [hr] at hj
  obtain rfl := List.mem_singleton.1 hj
  have e : j ≠ c := by simpa using hic
  simp only [if_neg e]
  exact wpOp_step ho (fun K' hK => h K' (fun a w hS hW => hK a w ⟨hS, hW hS⟩))
/-- Operation c comes up, alone. -/
theorem wpAnyC_last {o : Oper} {fuel : Nat} {listed : Array Bool} {a : Act} {w : World} (hr : Region.ready md ops listed = [c]) (ho : ops[c]? = some o)
    (h : ∀ K' : Act → World → Prop, Shut (∀ a w, wpAnyH P md ops Q (fun _ => True) fuel (listed.setIfInBounds c true) a w → K' a w) → if Region.wanted o (yielded ops a.tmps) = true then Oper.wp P o a w K' Q else K' (a.put o.dst undef) w) :
    wpAnyC P md ops Q S c (fuel + 1) listed a w := by
  refine ⟨fun e => (by rw [hr] at e; cases e), fun j hj => ?_⟩
  rw [hr] at hj
  obtain rfl := List.mem_singleton.1 hj
  simp only [if_pos]
  exact wpOp_step ho (fun K' hK => h K' (fun a w hW => hK a w hW))
end
end
section
set_option linter.unusedSimpArgs false
set_option linter.unusedVariables false
open Go.ChangeAt Go.ChangeShapes Go.RowKit Go.WideShapes
end
section
set_option linter.unusedSimpArgs false
set_option linter.unusedVariables false
open Go.ChangeAt Go.ChangeShapes Go.RowKit Go.WideShapes

section
variable {wb w0 wr : World} {sx : Nat} {hT h : NH} {T M : Nt} {v : Value} {L : List Int}
/-- A net that grows, and a row of names. -/
structure NmSt (wb w0 wr : World) (sx : Nat) (h : NH) (M : Nt) (v : Value) (L : List Int) : Prop where
  p : PlSt wb w0 wr sx NH.nil Nt.nil h M
  o : wr.ownsRow w0.heap.size 2 1 v L.length (L.map (Value.int .i64))
  far : ∀ b, v.ownBlock = some b → FarN h M b
theorem NmSt.below {u : World} (s : NmSt wb w0 wr sx h M v L) (hb : Below wr.heap.size wr u) : NmSt wb w0 u sx h M v L := ⟨s.p.below hb, own_below s.o hb (Nat.le_refl _), s.far⟩
end
end
section
set_option linter.unusedSimpArgs false
set_option linter.unusedVariables false
open Go.ChangeAt Go.ChangeShapes Go.RowKit Go.WideShapes
end
section
set_option linter.unusedSimpArgs false
set_option linter.unusedVariables false
open Go.ChangeAt Go.ChangeShapes Go.RowKit Go.WideShapes
end
section
set_option linter.unusedSimpArgs false
set_option linter.unusedVariables false
open Go.ChangeAt Go.ChangeShapes Go.RowKit Go.WideShapes

theorem memAtP {p : List Int} {x : Int} (h : x ∈ p) : ∃ i, i < p.length ∧ p.getD i 0 = x := by
  obtain ⟨i, hi, e⟩ := List.getElem_of_mem h
  exact ⟨i, hi, by simp [List.getD, hi, e]⟩
theorem cont_is (p : List Int) (x : Int) : decide (x ∈ p) = p.contains x := by
  rw [Bool.eq_iff_iff, List.contains_iff_mem, decide_eq_true_eq]
set_option maxRecDepth 100000 in
set_option maxHeartbeats 1000000 in
theorem sHasP_any (A : Option Addr) (n c : Nat) (p : List Int) (x : Int) (w : World) (hl : n ≤ 1048576) (r : RdI w w.heap.size A n p) :
    Calls Tryz.prog 87 #[.slice A n c, .int .i64 x] w fun e w' => e = .returned (.bool (p.contains x)) ∧ w' = w := by
  rw [← cont_is]
  have RS := Lib.hid r
  have hlen := r.1
  have HLN := Lib.hid hlen
  clear r hlen
  go_enter Tryz.func87, Tryz.ntmps87
  go_wp2
  go_loopw [5] (fun i wr => ∃ k : Nat, k ≤ n ∧ i = .int .i64 k ∧ (∀ m, m < k → ¬ p.getD m 0 = x) ∧ wr = w) (fun i _ => n - (intOf i).toNat)
  case atStart => exact ⟨0, Nat.zero_le _, rfl, fun m hm => absurd hm (by omega), rfl⟩
  case round =>
    obtain ⟨k, hk, rfl, hpl, rfl⟩ := hrel
    have HP := Lib.hid hpl
    clear hpl
    by_cases hlt : k < n
    · obtain ⟨b, off, hA, hbb, hcells⟩ := RS.out.2 (show 0 < n by omega)
      have x0 := hcells k hlt
      have HM := Lib.hid (getL_mem (d := 0) (show k < p.length by have := HLN.out; omega))
      have HPP : Hid (¬ p.getD k 0 = x → ∀ m, m < k + 1 → ¬ p.getD m 0 = x) := Lib.hid fun e m hm => by
        by_cases e2 : m < k
        · exact HP.out m e2
        · obtain rfl : m = k := by omega
          exact e
      generalize p.getD k 0 = z at *
      subst hA
      clear hcells
      by_cases hz : z = x
      · have hd : (z == x) = true := by simp [hz]
        have HE : Hid (true = decide (x ∈ p)) := Lib.hid (decide_eq_true (by rw [← hz]; exact HM.out)).symm
        clear hz
        go_wp2
        go_ret
        exact ⟨ret_bool HE.out, rfl⟩
      · have hd : (z == x) = false := by simp [hz]
        have HQ := Lib.hid (HPP.out hz)
        clear hz
        go_wp2
        go_roundw
        case rel => exact ⟨k + 1, by omega, by go_num, HQ.out, by first | rfl | trivial⟩
        case measure => simp [intOf]; omega
    · have hkl : k = n := by omega
      subst hkl
      have HE : Hid (false = decide (x ∈ p)) := Lib.hid (decide_eq_false fun hm => by
        obtain ⟨i, hi, e⟩ := memAtP hm
        exact HP.out i (by have := HLN.out; omega) e).symm
      go_wp2
      go_ret
      exact ⟨ret_bool HE.out, rfl⟩
theorem paU_succ (N : Nt) (fs : List Int) (k : Nat) : paU N fs (k + 1) = paU N fs k ++ [qN N fs (frN N (k : Int))] := by unfold paU; rw [List.range_succ, List.map_append]; rfl
theorem paU_at {N : Nt} {fs : List Int} {n k : Nat} (h : k < n) : (paU N fs n).getD k 0 = qN N fs (frN N (k : Int)) := by simp [paU, List.getD, h]
set_option maxRecDepth 100000 in
set_option maxHeartbeats 2000000 in
theorem sParts_any (h : NH) (N : Nt) (fs : List Int) (FA : Option Addr) (fc : Nat) (w : World) (hv : valN N = true) (hF : isF N fs = true) (r : RdN w w.heap.size h N) (rF : RdI w w.heap.size FA fs.length fs) :
    Calls Tryz.prog 114 #[.agg #[.slice h.A N.w.length h.c, .slice h.L N.l.length h.d, .slice h.C N.c.length h.e], .slice FA fs.length fc] w (Gives w (paU N fs N.w.length)) := by
  obtain ⟨h48, h48l⟩ := valN_size hv
  obtain ⟨i0, hi0, hz0, hz1, hz2⟩ := info_parts info_i64
  have HI := Lib.hid hi0; have HZ0 := Lib.hid hz0; have HZ1 := Lib.hid hz1; have HZ2 := Lib.hid hz2
  obtain ⟨w0, hw0⟩ : ∃ w0, w0 = w.alloc (.cells #[.slice h.A N.w.length h.c, .slice h.L N.l.length h.d, .slice h.C N.c.length h.e] 30) := ⟨_, rfl⟩
  obtain ⟨hb, hh, hsz⟩ := box3_any w (.slice h.A N.w.length h.c) (.slice h.L N.l.length h.d) (.slice h.C N.c.length h.e) 30
  rw [← hw0] at hb hh hsz
  have hs0 : w.heap.size + 1 ≤ w0.heap.size := by omega
  have HK : Hid (∀ w', Below w0.heap.size w0 w' → w'.cell? ⟨w.heap.size, 0, none⟩ = some (.slice h.A N.w.length h.c) ∧ w'.cell? ⟨w.heap.size, 1, none⟩ = some (.slice h.L N.l.length h.d) ∧ w'.cell? ⟨w.heap.size, 2, none⟩ = some (.slice h.C N.c.length h.e)) := Lib.hid fun w' hw => three_cells ((hw.block _ (by omega)).trans hh)
  have HFR := Lib.hid (fun (x : Int) (w' : World) (hw : Below w0.heap.size w0 w') => smFrom_any h.A h.L h.C N.w.length h.c h.d N.c.length h.e N.l x w' (((r.below (hb.trans (hw.mono hb.size))).more (Nat.le_trans hb.size hw.size))).2.1 (by omega))
  have HLI := Lib.hid (sLinks_any h N fs FA fc w0 hv hF ((r.below hb).more hb.size) ((rF.below hb).more hb.size))
  have HB0 := Lib.hid hb
  have HVV := Lib.hid hv
  obtain ⟨y0, y1, y2⟩ := three_cells hh
  clear hb hh hsz r rF hi0 hz0 hz1 hz2 hF hv
  go_enter Tryz.func114, Tryz.ntmps114
  go_wp2_with (fail)
  rw [← hw0]
  clear hw0
  refine HLI.out.mono ?_
  rintro e w1 ⟨A1, c1, rfl, own1, bel1⟩
  have B1 := Lib.hid bel1
  have O1 := Lib.hid (RdI.of_own own1)
  have hln : (lkL N fs).length = N.l.length := lkL_len N fs
  rw [hln] at O1 ⊢
  have hs1 : w0.heap.size ≤ w1.heap.size := bel1.size
  have h0 : (w1.alloc (.cells #[] 2)).ownsRow w1.heap.size 2 1 (.slice (some ⟨w1.heap.size, 0, none⟩) 0 0) (paU N fs 0).length ((paU N fs 0).map (Value.int .i64)) := World.ownsRow_made w1 #[] 0 (Nat.le_refl _) (by simp [maxLen]) rfl
  have hb1 : Below w1.heap.size w1 (w1.alloc (.cells #[] 2)) := (Below.refl _ _).alloc (Nat.le_refl _) _
  have H0 := Lib.hid h0; have HB1 := Lib.hid hb1
  clear bel1 own1 hln y0 y1 y2 h0 hb1
  go_wp2
  go_loopw [6, 7] (fun v i wx => ∃ k : Nat, k ≤ N.w.length ∧ i = .int .i64 k ∧ wx.ownsRow w1.heap.size 2 1 v (paU N fs k).length ((paU N fs k).map (Value.int .i64)) ∧ Below w1.heap.size w1 wx) (fun _ i _ => N.w.length - (intOf i).toNat)
  case atStart => exact ⟨0, Nat.zero_le _, rfl, H0.out, HB1.out⟩
  case round =>
    obtain ⟨k, hk, rfl, hO, hB⟩ := hrel
    clear H0 HB1
    obtain ⟨y0, y1, y2⟩ := HK.out _ (B1.out.trans (hB.mono B1.out.size))
    have HO := Lib.hid hO; have HB := Lib.hid hB
    clear hO hB
    by_cases hlt : k < N.w.length
    · have hin : inW N.w.length (k : Int) = true := decide_eq_true (by omega)
      obtain ⟨hfr, hfl⟩ := fr_lt HVV.out hin
      have HF := Lib.hid (HFR.out (k : Int) wr (B1.out.trans (HB.out.mono B1.out.size)))
      rw [from_lxP HVV.out, hfr] at HF
      have HS := Lib.hid (paU_succ N fs k)
      have HLN : Hid ((paU N fs (k + 1)).length = (paU N fs k).length + 1) := Lib.hid (by rw [HS.out]; simp)
      have hpl : (paU N fs k).length = k := paU_len N fs k
      have hq := lkL_at (fs := fs) hfl
      generalize frN N (k : Int) = f at *
      generalize qN N fs f = q at *
      have HQ := Lib.hid hq
      have hfi : (f : Int) < (N.l.length : Int) := by omega
      have HPL := Lib.hid hpl
      clear hfr hin hq hpl
      go_wp2_with (fail)
      refine HF.out.mono ?_
      rintro e w3 ⟨rfl, bel3⟩
      have HB3 := Lib.hid (HB.out.trans (bel3.mono HB.out.size))
      have HO3 := Lib.hid (own_below HO.out bel3 (Nat.le_refl _))
      obtain ⟨bL, oL, rfl, _, hcL⟩ := (O1.out.below HB3.out).2 (by omega)
      have x0 := hcL f hfl
      rw [HQ.out] at x0
      have hsz3 := HB3.out.size
      have hkk : (paU N fs k).length ≤ 48 := by rw [HPL.out]; omega
      clear bel3 hcL y0 y1 y2 HF
      go_wp2_with (at_builtin; refine wpList_append_own _ rfl _ _ 24 rfl w1.heap.size 2 i0 (.int .i64 0) 1 8 Tryz.underlying24 HI.out HZ0.out HZ1.out HZ2.out rfl (by decide) _ _ _ rfl (HO3.out.alloc _) ⟨w3.heap.size, 0, none⟩ 1 1 [.int .i64 q] rfl rfl ?c1 ?c2 ?c3 ?c4 ?c5 ?_)
      case c1 => exact cell_one_new _ _ _
      case c2 => intro u hu; simp at hu; subst hu; rfl
      case c3 => unfold maxLen; omega
      case c4 => omega
      case c5 => simp; omega
      intro v' w4 hown' hgrow _
      have hb2 := Lib.hid ((HB3.out.alloc hsz3 (.cells #[.int .i64 q] 2)).grown hgrow (by simp; omega) (fun q hq => (HO3.out.lt q hq).1))
      have hown2 : w4.ownsRow w1.heap.size 2 1 v' (paU N fs (k + 1)).length ((paU N fs (k + 1)).map (Value.int .i64)) := by
        rw [HLN.out, HS.out, List.map_append]; exact hown'
      have hown1 := Lib.hid hown2
      clear hown' hgrow hown2 hsz3 x0 hkk
      go_wp2
      go_roundw
      case rel => exact ⟨k + 1, by omega, by go_num, hown1.out, hb2.out⟩
      case measure => simp [intOf]; omega
    · have hkn : k = N.w.length := by omega
      have ho1 := HO.out
      rw [hkn] at ho1
      obtain ⟨A, c, rfl⟩ := own_shapeL ho1
      have HG : Hid (Gives w (paU N fs N.w.length) (.returned (.slice A (paU N fs N.w.length).length c)) wr) := Lib.hid ⟨A, c, rfl, ho1.mono (Nat.le_trans HB0.out.size hs1), HB0.out.trans ((B1.out.trans (HB.out.mono B1.out.size)).mono HB0.out.size)⟩
      subst hkn
      clear ho1 HO HB
      generalize (paU N fs N.w.length).length = ql at *
      go_wp2
      go_ret
      exact HG.out
set_option maxRecDepth 100000 in
set_option maxHeartbeats 2000000 in
theorem sReady_any (h : NH) (N : Nt) (fs : List Int) (PA : Option Addr) (pc : Nat) (k : Nat) (w : World) (hv : valN N = true) (hk : k < N.l.length) (r : RdN w w.heap.size h N) (rP : RdI w w.heap.size PA N.w.length (paU N fs N.w.length)) :
    Calls Tryz.prog 186 #[.agg #[.slice h.A N.w.length h.c, .slice h.L N.l.length h.d, .slice h.C N.c.length h.e], .slice PA N.w.length pc, .int .i64 k] w fun e w' => e = .returned (.bool (rdyQ N (qN N fs) (N.l.getD k Lk.nil))) ∧ Below w.heap.size w w' := by
  obtain ⟨h48, h48l⟩ := valN_size hv
  obtain ⟨w0, hw0⟩ : ∃ w0, w0 = w.alloc (.cells #[.slice h.A N.w.length h.c, .slice h.L N.l.length h.d, .slice h.C N.c.length h.e] 30) := ⟨_, rfl⟩
  obtain ⟨hb, hh, hsz⟩ := box3_any w (.slice h.A N.w.length h.c) (.slice h.L N.l.length h.d) (.slice h.C N.c.length h.e) 30
  rw [← hw0] at hb hh hsz
  have hs0 : w.heap.size + 1 ≤ w0.heap.size := by omega
  obtain ⟨b, off, hLe, _, hcl⟩ := (r.2.1.below hb).at (show 0 < N.l.length by omega)
  obtain ⟨l0, l1, l2, l3⟩ := hcl k hk
  have hfit := fitsN_yes (link_fits hv hk)
  have hki : (k : Int) < (N.l.length : Int) := by omega
  obtain ⟨y0, y1, y2⟩ := three_cells hh
  obtain ⟨⟨lk, la, lb, lc⟩, hl⟩ : ∃ l, N.l.getD k Lk.nil = l := ⟨_, rfl⟩
  rw [hl] at l0 l1 l2 l3 hfit ⊢
  dsimp only at l0 l1 l2 l3 hfit
  have ha1 := (inW_yes hfit.1).2.1; have ha2 := (inW_yes hfit.1).2.2
  have hb1 := (inW_yes hfit.2.1).2.1; have hb2 := (inW_yes hfit.2.1).2.2
  obtain ⟨bl, z0, z1, z2, z3, zs⟩ := lnk_any w0 ⟨lk, la, lb, lc⟩ 103
  dsimp only at bl z0 z1 z2 z3
  obtain ⟨u1, hu1⟩ : ∃ u1, u1 = w0.alloc (.cells #[.int .i64 lk, .int .i64 la, .int .i64 lb, .int .i64 lc] 103) := ⟨_, rfl⟩
  rw [← hu1] at bl zs z0 z1 z2 z3
  have HU1 := Lib.hid hu1
  have HBU := Lib.hid (hb.trans (bl.mono hb.size))
  have HBN := Lib.hid (fun n => below_drewN HBU.out n)
  obtain ⟨bp, op, hPe, hbp, hpc⟩ := (rP.below HBU.out).2 (by omega)
  have p0 := hpc la.toNat ha1
  have p1 := hpc lb.toNat hb1
  rw [paU_at ha1, ← ha2] at p0
  rw [paU_at hb1, ← hb2] at p1
  have HRQ : Hid (rdyQ N (qN N fs) ⟨lk, la, lb, lc⟩ = (decide (lk = 1) || (decide (0 ≤ qN N fs (frN N la)) && decide (0 ≤ qN N fs (frN N lb)) && ((qN N fs (frN N la) == qN N fs (frN N lb)) == (lk == 4))))) := Lib.hid rfl
  have HZN := Lib.hid (fun n => drewN_cell (wr := u1.drewN n) ⟨n, rfl⟩ z0)
  generalize rdyQ N (qN N fs) ⟨lk, la, lb, lc⟩ = res at *
  generalize qN N fs (frN N la) = pa at *
  generalize qN N fs (frN N lb) = pb at *
  subst hPe
  clear hb hh hsz r rP hcl hfit hl hpc bl zs hu1 hv
  obtain ⟨hAd, hcd, hhs, hL, hd, hC, he⟩ := h
  dsimp only at hLe y0 y1 y2 hw0 ⊢
  subst hLe
  by_cases h1 : lk = 1
  · subst h1
    have HE : Hid (true = res) := Lib.hid (by rw [HRQ.out]; rfl)
    clear HRQ ha2 hb2
    go_enter Tryz.func186, Tryz.ntmps186
    go_upto_region 1 with (fail)
    rw [← hw0]
    clear hw0
    go_wp2_with (fail)
    rw [← HU1.out]
    go_wp2
    go_ret
    exact ⟨ret_bool HE.out, HBU.out⟩
  · have d1 : (lk == 1) = false := by simpa using h1
    have HE : Hid ((decide (0 ≤ pa) && decide (0 ≤ pb) && ((pa == pb) == (lk == 4))) = res) := Lib.hid (by rw [HRQ.out, decide_eq_false h1, Bool.false_or])
    generalize la.toNat = ia at *
    generalize lb.toNat = ib at *
    subst ha2; subst hb2
    have hiai : (ia : Int) < (N.w.length : Int) := by omega
    have hibi : (ib : Int) < (N.w.length : Int) := by omega
    clear HRQ h1
    by_cases hpa : 0 ≤ pa
    · by_cases hpb : 0 ≤ pb
      · have HEE : Hid (((pa == pb) == (lk == 4)) = res) := Lib.hid (by rw [← HE.out, decide_eq_true hpa, decide_eq_true hpb]; rfl)
        have d2 : decide (0 ≤ pa) = true := decide_eq_true hpa
        have d3 : decide (0 ≤ pb) = true := decide_eq_true hpb
        clear hpa hpb HE
        go_enter Tryz.func186, Tryz.ntmps186
        go_upto_region 1 with (fail)
        rw [← hw0]
        clear hw0
        go_upto_region 4 with (fail)
        rw [← HU1.out]
        go_quiet (fail)
        have zn := HZN.out nq
        have HBQ := Lib.hid (HBN.out nq)
        go_wp2
        go_ret
        exact ⟨ret_bool HEE.out, HBQ.out⟩
      · have HEE : Hid (false = res) := Lib.hid (by rw [← HE.out, decide_eq_true hpa, decide_eq_false hpb]; rfl)
        have d2 : decide (0 ≤ pa) = true := decide_eq_true hpa
        have d3 : decide (0 ≤ pb) = false := decide_eq_false hpb
        clear hpa hpb HE
        go_enter Tryz.func186, Tryz.ntmps186
        go_upto_region 1 with (fail)
        rw [← hw0]
        clear hw0
        go_upto_region 4 with (fail)
        rw [← HU1.out]
        go_quiet (fail)
        have zn := HZN.out nq
        have HBQ := Lib.hid (HBN.out nq)
        go_wp2
        go_ret
        exact ⟨ret_bool HEE.out, HBQ.out⟩
    · have HEE : Hid (false = res) := Lib.hid (by rw [← HE.out, decide_eq_false hpa]; rfl)
      have d2 : decide (0 ≤ pa) = false := decide_eq_false hpa
      clear hpa HE
      go_enter Tryz.func186, Tryz.ntmps186
      go_upto_region 1 with (fail)
      rw [← hw0]
      clear hw0
      go_upto_region 4 with (fail)
      rw [← HU1.out]
      go_quiet (fail)
      have zn := HZN.out nq
      have HBQ := Lib.hid (HBN.out nq)
      go_wp2
      go_ret
      exact ⟨ret_bool HEE.out, HBQ.out⟩
end
section
set_option linter.unusedSimpArgs false
set_option linter.unusedVariables false
open Go.ChangeAt Go.ChangeShapes Go.RowKit Go.WideShapes

theorem from_lx {N : Nt} (hv : valN N = true) (x : Int) : firstN (srcB x) N.l = lxN outL N x := first_ext fun l hl => srcB_is (fitsN_kind ((List.all_eq_true.1 (valN_fits hv)) l hl))
theorem to_lx {N : Nt} (x : Int) : firstN (tgtB x) N.l = lxN inL N x := first_ext fun l _ => tgtB_is l x
set_option maxRecDepth 100000 in
set_option maxHeartbeats 1000000 in
theorem sArcs_any (h : NH) (N : Nt) (s : List Int) (S : Option Addr) (sc : Nat) (w : World) (hsw : isSw N s = true) (r : RdN w w.heap.size h N) (rS : RdI w w.heap.size S s.length s) :
    Calls Tryz.prog 74 #[.agg #[.slice h.A N.w.length h.c, .slice h.L N.l.length h.d, .slice h.C N.c.length h.e], .slice S s.length sc] w (GivesA w (mgU N s N.w.length)) := by
  have hvt := (isSw_yes hsw).1
  obtain ⟨h48, h48l⟩ := valN_size hvt
  obtain ⟨i3, hi3, hz3, hs3, hb3⟩ := info_parts info_arc
  have HI := Lib.hid hi3; have HZ0 := Lib.hid hz3; have HZ1 := Lib.hid hs3; have HZ2 := Lib.hid hb3
  obtain ⟨w0, hw0⟩ : ∃ w0, w0 = w.alloc (.cells #[.slice h.A N.w.length h.c, .slice h.L N.l.length h.d, .slice h.C N.c.length h.e] 30) := ⟨_, rfl⟩
  obtain ⟨hb, hh, hsz⟩ := box3_any w (.slice h.A N.w.length h.c) (.slice h.L N.l.length h.d) (.slice h.C N.c.length h.e) 30
  rw [← hw0] at hb hh hsz
  have hs0 : w.heap.size + 1 ≤ w0.heap.size := by omega
  have HK : Hid (∀ w', Below w0.heap.size w0 w' → w'.cell? ⟨w.heap.size, 0, none⟩ = some (.slice h.A N.w.length h.c) ∧ w'.cell? ⟨w.heap.size, 1, none⟩ = some (.slice h.L N.l.length h.d) ∧ w'.cell? ⟨w.heap.size, 2, none⟩ = some (.slice h.C N.c.length h.e)) := Lib.hid fun w' hw => three_cells ((hw.block _ (by omega)).trans hh)
  have HR := Lib.hid (fun (w' : World) (hw : Below w0.heap.size w0 w') => ((r.below (hb.trans (hw.mono hb.size))).more (Nat.le_trans hb.size hw.size)))
  have HRS := Lib.hid (fun (w' : World) (hw : Below w0.heap.size w0 w') => show RdI w' w'.heap.size S s.length s from ((rS.below (hb.trans (hw.mono hb.size))).more (Nat.le_trans hb.size hw.size)))
  have HTO := Lib.hid (fun (x : Int) (w' : World) (hw : Below w0.heap.size w0 w') => smTo_any h.A h.L h.C N.w.length h.c h.d N.c.length h.e N.l x w' (HR.out _ hw).2.1 (by omega))
  have HFR := Lib.hid (fun (x : Int) (w' : World) (hw : Below w0.heap.size w0 w') => smFrom_any h.A h.L h.C N.w.length h.c h.d N.c.length h.e N.l x w' (HR.out _ hw).2.1 (by omega))
  have HCH := Lib.hid (fun (kk : Nat) (hkk : kk < N.l.length) (x : Int) (w' : World) (hw : Below w0.heap.size w0 w') => sChosen_any h N s S sc kk x w' hsw hkk (HR.out _ hw) (HRS.out _ hw))
  have HB0 := Lib.hid hb
  have h0 : (w0.alloc (.cells #[] 85)).ownsRow w0.heap.size 85 3 (.slice (some ⟨w.heap.size + 1, 0, none⟩) 0 0) 0 ((flA (mgU N s 0)).map (Value.int .i64)) := by rw [← hsz]; exact World.ownsRow_made w0 #[] 0 (Nat.le_refl _) (by simp [maxLen]) rfl
  have hb1 : Below w0.heap.size w0 (w0.alloc (.cells #[] 85)) := (Below.refl _ _).alloc (Nat.le_refl _) _
  have H0 := Lib.hid h0; have HB1 := Lib.hid hb1
  clear hb hh hsz r rS hi3 hz3 hs3 hb3 h0 hb1 hsw
  go_enter Tryz.func74, Tryz.ntmps74
  go_wp2
  rw [← hw0]
  clear hw0
  go_loopw [5, 6] (fun v i wx => ∃ k : Nat, k ≤ N.w.length ∧ i = .int .i64 k ∧ wx.ownsRow w0.heap.size 85 3 v (mgU N s k).length ((flA (mgU N s k)).map (Value.int .i64)) ∧ Below w0.heap.size w0 wx) (fun _ i _ => N.w.length - (intOf i).toNat)
  case atStart => exact ⟨0, Nat.zero_le _, rfl, H0.out, HB1.out⟩
  case round =>
    obtain ⟨k, hk, rfl, hO, hB⟩ := hrel
    clear H0 HB1
    obtain ⟨y0, y1, y2⟩ := HK.out _ hB
    have HO := Lib.hid hO; have HB := Lib.hid hB
    clear hO hB
    by_cases hlt : k < N.w.length
    · have HT := HTO.out (k : Int) _ HB.out
      rw [to_lx (N := N)] at HT
      have HF0 := Lib.hid (fun w' hw => HFR.out (k : Int) w' hw)
      rw [from_lx hvt] at HF0
      have HTT := Lib.hid HT
      have HAR : Hid (arcA N k = ⟨(k : Int), lxN outL N (k : Int), lxN inL N (k : Int)⟩) := Lib.hid rfl
      have HYE := Lib.hid (fun e1 e2 => mgU_yes (N := N) (s := s) (k := k) e1 e2)
      have HNO := Lib.hid (fun e => mgU_no (N := N) (s := s) (k := k) e)
      have hin := lxN_in inL N (k : Int)
      have hln := mgU_len N s k
      clear HT
      generalize lxN outL N (k : Int) = p at *
      generalize lxN inL N (k : Int) = q at *
      by_cases hq : 0 ≤ q
      · obtain ⟨qn, rfl⟩ : ∃ qn : Nat, q = qn := ⟨q.toNat, by omega⟩
        have hqn : qn < N.l.length := by omega
        have hd : decide (0 ≤ (qn : Int)) = true := decide_eq_true hq
        cases hcb : choB N s qn k with
        | true =>
          have HS := Lib.hid (HYE.out hq hcb)
          have HLN : Hid ((mgU N s (k + 1)).length = (mgU N s k).length + 1) := Lib.hid (by rw [HS.out]; simp)
          clear hin hq
          go_wp2_with (fail)
          refine HTT.out.mono ?_
          rintro e w1 ⟨rfl, bel1⟩
          have B1 := Lib.hid (HB.out.trans (bel1.mono HB.out.size))
          have b1s := bel1.size
          have HO1 := Lib.hid (own_same HO.out fun k hk => bel1.block k (HO.out.lt k hk).2)
          clear bel1 y0 y1 y2
          obtain ⟨y0, y1, y2⟩ := HK.out _ B1.out
          go_wp2_with (fail)
          refine (HCH.out qn hqn (k : Int) _ B1.out).mono ?_
          rintro e w2 ⟨rfl, bel2⟩
          have B2 := Lib.hid (B1.out.trans (bel2.mono B1.out.size))
          have HO2 := Lib.hid (own_same HO1.out fun k hk => bel2.block k (HO1.out.lt k hk).2)
          clear bel2 y0 y1 y2
          obtain ⟨y0, y1, y2⟩ := HK.out _ B2.out
          rw [hcb]
          go_wp2_with (fail)
          refine (HF0.out _ B2.out).mono ?_
          rintro e w3 ⟨rfl, bel3⟩
          have B3 := Lib.hid (B2.out.trans (bel3.mono B2.out.size))
          have HO3 := Lib.hid (own_same HO2.out fun k hk => bel3.block k (HO2.out.lt k hk).2)
          clear bel3 y0 y1 y2 hcb
          have hsz1 := B3.out.size
          go_wp2_with (at_builtin; refine wpList_append_own _ rfl _ _ 82 rfl w0.heap.size 85 i3 (.agg #[.int .i64 0, .int .i64 0, .int .i64 0]) 3 24 Tryz.underlying82 HI.out HZ0.out HZ1.out HZ2.out rfl (by decide) _ _ _ rfl (HO3.out.alloc _) ⟨w3.heap.size, 0, none⟩ 1 1 [.int .i64 k, .int .i64 p, .int .i64 qn] rfl rfl ?c1 ?c2 ?c3 ?c4 ?c5 ?_)
          case c1 => exact three_new _ _ _ _ _
          case c2 => intro u hu; simp at hu; rcases hu with rfl | rfl | rfl <;> rfl
          case c3 => unfold maxLen; omega
          case c4 => omega
          case c5 => simp; omega
          intro v' w4 hown' hgrow _
          have hb2 := Lib.hid ((B3.out.alloc hsz1 (.cells #[.int .i64 k, .int .i64 p, .int .i64 qn] 85)).grown hgrow (by simp; omega) (fun q hq => (HO3.out.lt q hq).1))
          have hown2 : w4.ownsRow w0.heap.size 85 3 v' (mgU N s (k + 1)).length ((flA (mgU N s (k + 1))).map (Value.int .i64)) := by
            rw [HLN.out, HS.out, flA_app, List.map_append, HAR.out]; exact hown'
          have hown1 := Lib.hid hown2
          clear hown' hgrow hown2 hsz1
          go_wp2
          go_roundw
          case rel => exact ⟨k + 1, by omega, by go_num, hown1.out, hb2.out⟩
          case measure => simp [intOf]; omega
        | false =>
          have HS := Lib.hid (HNO.out (by rintro ⟨_, e⟩; rw [hcb] at e; cases e))
          have HO1 := HO.out
          rw [← HS.out] at HO1
          have HOX := Lib.hid HO1
          clear hin hq HO1
          go_wp2_with (fail)
          refine HTT.out.mono ?_
          rintro e w1 ⟨rfl, bel1⟩
          have B1 := Lib.hid (HB.out.trans (bel1.mono HB.out.size))
          have b1s := bel1.size
          have HO1 := Lib.hid (own_same HOX.out fun k hk => bel1.block k (HOX.out.lt k hk).2)
          clear bel1 y0 y1 y2
          obtain ⟨y0, y1, y2⟩ := HK.out _ B1.out
          go_wp2_with (fail)
          refine (HCH.out qn hqn (k : Int) _ B1.out).mono ?_
          rintro e w2 ⟨rfl, bel2⟩
          have B2 := Lib.hid (B1.out.trans (bel2.mono B1.out.size))
          have HO2 := Lib.hid (own_same HO1.out fun k hk => bel2.block k (HO1.out.lt k hk).2)
          clear bel2 y0 y1 y2
          rw [hcb]
          clear hcb
          go_wp2
          go_roundw
          case rel => exact ⟨k + 1, by omega, by go_num, HO2.out, B2.out⟩
          case measure => simp [intOf]; omega
      · have hd : decide (0 ≤ q) = false := decide_eq_false hq
        have HS := Lib.hid (HNO.out (by rintro ⟨e, _⟩; exact hq e))
        have HO1 := HO.out
        rw [← HS.out] at HO1
        have HOX := Lib.hid HO1
        clear hin hq HO1
        go_wp2_with (fail)
        refine HTT.out.mono ?_
        rintro e w1 ⟨rfl, bel1⟩
        have B1 := Lib.hid (HB.out.trans (bel1.mono HB.out.size))
        have HO1 := Lib.hid (own_same HOX.out fun k hk => bel1.block k (HOX.out.lt k hk).2)
        clear bel1 y0 y1 y2
        go_wp2
        go_roundw
        case rel => exact ⟨k + 1, by omega, by go_num, HO1.out, B1.out⟩
        case measure => simp [intOf]; omega
    · have hkl : k = N.w.length := by omega
      subst hkl
      have hO := HO.out
      obtain ⟨A5, c5, rfl⟩ := own_shape3 hO
      have HG : Hid (GivesA w (mgU N s N.w.length) (.returned (.slice A5 (mgU N s N.w.length).length c5)) wr) := Lib.hid ⟨A5, c5, rfl, hO.mono (by omega), HB0.out.trans (HB.out.mono HB0.out.size)⟩
      clear hO
      go_wp2
      go_ret
      exact HG.out
end
end Go.Proofs.YtfdpkhiiboghiaaGreatDoor
