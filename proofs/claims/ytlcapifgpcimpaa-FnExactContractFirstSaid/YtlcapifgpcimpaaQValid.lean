/- FormEnd and ValidForm: of the program and of the model. ValidForm of the program; FormEnd and ValidForm of the model. The library's slices.Grow, slices.Concat and slices.Clone as the program calls them, and the model's copyInts: what each leaves. slices.Clone as the program calls it, and the model's copyInts: what each leaves. DualOf: of the program and of the model. Joined and Wrapped: of the program and of the model. Joined and Wrapped of the model. The model's draws: a source of numbers in a block of the call's own, and what is picked from it. Nothing is said of which numbers are drawn, only of their range and of the memory. The model's draw of a formula: some list of small numbers, in memory of its own. The model's source made of a code, and its draw of a list that is mostly a formula. What every row of this seat shares: its arguments opened, its package variables read before and behind the call, a world for the witness. What the laws over a code share: its bytes opened, its length asked, two lists compared. -/
import Derived.Test.YtlcapifgpcimpaaQMath
import Derived.Deep.LoopGhost
import Derived.WalkMore
import Derived.Lib.AppendZerosOnto
import Derived.Lib.SliceRun
import Derived.Lib.Walk
import Derived.Deep.Matrix
import Derived.Deep.DeepCutAuto
import Derived.StillTailTactics
import Derived.WalkKit
import Derived.ProofKit
import Derived.OpenShut
import Derived.ChangeOld
import Derived.ChangeVars
import Derived.Deep.DeepHandedRow
import Derived.Lib.LaidTab
import Derived.Stop.LaidErr
namespace Go.Proofs.Ytlcapifgpcimpaa
set_option linter.unusedSimpArgs false
set_option linter.unusedVariables false
section
open Go.RowKit

theorem ret_i64 {a b : Int} (h : a = b) : Ending.returned (.int .i64 a) = .returned (.int .i64 b) := by rw [h]

/-- What the scan still has to do, k symbols behind the first. -/
def Rem (f : List Int) (k0 k : Nat) (m : Int) : Prop := scan (f.drop k0) 1 k0 = scan (f.drop (k0 + k)) m ((k0 + k : Nat) : Int)
theorem Rem.start (f : List Int) (k0 : Nat) : Rem f k0 0 1 := rfl
theorem Rem.out_ {f : List Int} {k0 k : Nat} {m : Int} (h : Rem f k0 k m) (hk : ¬ k0 + k < f.length) : scan (f.drop k0) 1 k0 = -1 := by
  rw [h, List.drop_eq_nil_of_le (by omega)]; rfl
theorem Rem.bad {f : List Int} {k0 k : Nat} {m : Int} (h : Rem f k0 k m) (hk : k0 + k < f.length) (ha : arZ (f.getD (k0 + k) 0) = -1) : scan (f.drop k0) 1 k0 = -1 := by
  rw [h, drop_cons hk, scan_bad _ _ _ ha]
theorem Rem.end_ {f : List Int} {k0 k : Nat} {m : Int} (h : Rem f k0 k m) (hk : k0 + k < f.length) (ha : 0 ≤ arZ (f.getD (k0 + k) 0)) (hm : m + arZ (f.getD (k0 + k) 0) = 1) : scan (f.drop k0) 1 k0 = k0 + k + 1 := by
  rw [h, drop_cons hk, scan_end _ _ _ ha hm]; omega
theorem Rem.on {f : List Int} {k0 k : Nat} {m : Int} (h : Rem f k0 k m) (hk : k0 + k < f.length) (ha : 0 ≤ arZ (f.getD (k0 + k) 0)) (hm : m + arZ (f.getD (k0 + k) 0) ≠ 1) : Rem f k0 (k + 1) (m + arZ (f.getD (k0 + k) 0) - 1) := by
  unfold Rem
  rw [h, drop_cons hk, scan_on _ _ _ ha hm]
  have e : ((k0 + k : Nat) : Int) + 1 = ((k0 + (k + 1) : Nat) : Int) := by omega
  rw [e]; rfl

theorem validB_eq (f : List Int) : (feI f 0 == (f.length : Int)) = validB f := by
  rw [Bool.eq_iff_iff]; simp [validB]
theorem ret_bool {a b : Bool} (h : a = b) : Ending.returned (.bool a) = .returned (.bool b) := by rw [h]

/-- What the model's scan still has to do. -/
def RemS (f : List Int) (k0 k : Nat) (m : Int) : Prop := (m = 0 → scan (f.drop k0) 1 k0 = ((k0 + k : Nat) : Int)) ∧ (1 ≤ m → Rem f k0 k m)
theorem RemS.start (f : List Int) (k0 : Nat) : RemS f k0 0 1 := ⟨fun h => by omega, fun _ => Rem.start f k0⟩
theorem RemS.done {f : List Int} {k0 k : Nat} (h : RemS f k0 k 0) : scan (f.drop k0) 1 k0 = ((k0 + k : Nat) : Int) := h.1 rfl
theorem RemS.on {f : List Int} {k0 k : Nat} {m : Int} (h : RemS f k0 k m) (hm1 : 1 ≤ m) (hk : k0 + k < f.length) (ha : 0 ≤ arZ (f.getD (k0 + k) 0)) : RemS f k0 (k + 1) (m - 1 + arZ (f.getD (k0 + k) 0)) := by
  by_cases hm : m + arZ (f.getD (k0 + k) 0) = 1
  · refine ⟨fun _ => ?_, fun h1 => by omega⟩
    rw [(h.2 hm1).end_ hk ha hm]; omega
  · refine ⟨fun h1 => by omega, fun _ => ?_⟩
    have := (h.2 hm1).on hk ha hm
    have e : m + arZ (f.getD (k0 + k) 0) - 1 = m - 1 + arZ (f.getD (k0 + k) 0) := by omega
    rw [e] at this; exact this

theorem fe_any (f : List Int) (k : Nat) : fe f k = scan (f.drop k) 1 k := by
  by_cases h : k < f.length
  · exact fe_nat h
  · rw [fe_out (by omega), List.drop_eq_nil_of_le (by omega)]; rfl

end
section
open Go.RowKit

/-- A slice value that reads as a list with at least one number, its cells below block B. -/
def Part (w : World) (B : Nat) (v : Value) (zs : List Int) : Prop :=
  ∃ b off c, v = .slice (some ⟨b, off, none⟩) zs.length c ∧ b < B ∧ 0 < zs.length ∧ ∀ j, j < zs.length → w.cell? ⟨b, off + j, none⟩ = some (.int .i64 (zs.getD j 0))
theorem Part.below {w w' : World} {B : Nat} {v : Value} {zs : List Int} (h : Part w B v zs) (hb : Below B w w') : Part w' B v zs := by
  obtain ⟨b, off, c, hv, hB, hp, hc⟩ := h
  exact ⟨b, off, c, hv, hB, hp, fun j hj => (hb.cell (p := ⟨b, off + j, none⟩) hB).trans (hc j hj)⟩
theorem Part.more {w : World} {B B' : Nat} {v : Value} {zs : List Int} (h : Part w B v zs) (hb : B ≤ B') : Part w B' v zs := by
  obtain ⟨b, off, c, hv, hB, hp, hc⟩ := h
  exact ⟨b, off, c, hv, by omega, hp, hc⟩
theorem Part.of_rd {w : World} {B : Nat} {A : Option Addr} {n c : Nat} {zs : List Int} (h : RdI w B A n zs) (hn : 0 < n) : Part w B (.slice A n c) zs := by
  have hl := h.len
  subst hl
  obtain ⟨b, off, rfl, hb, hc⟩ := h.2 hn
  exact ⟨b, off, c, rfl, hb, hn, hc⟩
/-- The cells of a part, as an append asks for them. -/
theorem part_news {w : World} {b off : Nat} {zs : List Int} (hc : ∀ j, j < zs.length → w.cell? ⟨b, off + j, none⟩ = some (.int .i64 (zs.getD j 0))) : ∀ j u, (zs.map (Value.int .i64))[j]? = some u → w.cell? ((⟨b, off, none⟩ : Addr).add j) = some u := by
  intro j u hu
  have hj : j < zs.length := by
    rcases Nat.lt_or_ge j zs.length with h | h
    · exact h
    · rw [List.getElem?_eq_none (by simpa using h)] at hu; cases hu
  have e : (⟨b, off, none⟩ : Addr).add j = ⟨b, off + j, none⟩ := by
    by_cases h0 : j = 0
    · subst h0; simp [Addr.add]
    · simp [Addr.add, h0]
  rw [e, hc j hj]
  simp [hj] at hu
  simp [List.getD, hj, hu]
theorem ints_one (zs : List Int) : ∀ u ∈ zs.map (Value.int .i64), u.oneCell' = true := by
  intro u hu
  obtain ⟨z, _, rfl⟩ := List.mem_map.1 hu
  rfl

theorem own_shape {w : World} {base n : Nat} {e : TypeId} {v : Value} {xs : List Value} (h : w.ownsRow base e 1 v n xs) : ∃ A c, v = .slice A n c := by
  rcases h.2 with ⟨rfl, rfl⟩ | ⟨g, cap, cur, rfl, _⟩
  · exact ⟨_, _, rfl⟩
  · exact ⟨_, _, rfl⟩

/-- What slices.Grow(nil, n) leaves: an empty row of the call's own. -/
def Grew (w : World) (e : Ending) (w' : World) : Prop :=
  ∃ c, e = .returned (.slice (some ⟨w.heap.size, 0, none⟩) 0 c) ∧ w'.ownsRow w.heap.size 2 1 (.slice (some ⟨w.heap.size, 0, none⟩) 0 c) 0 [] ∧ Below w.heap.size w w'

/-- The first k parts, one behind the other. -/
def catL (ls : List (List Int)) (k : Nat) : List Int := (ls.take k).flatten
theorem catL_zero (ls : List (List Int)) : catL ls 0 = [] := by simp [catL]
theorem catL_step {ls : List (List Int)} {k : Nat} (h : k < ls.length) : catL ls (k + 1) = catL ls k ++ ls.getD k [] := by
  unfold catL
  rw [List.take_succ_eq_append_getElem h, List.flatten_append]
  simp [List.getD, h]
theorem catL_all (ls : List (List Int)) : catL ls ls.length = ls.flatten := by simp [catL]
theorem catL_le (ls : List (List Int)) (k : Nat) : (catL ls k).length ≤ ls.flatten.length := by
  unfold catL
  conv => rhs; rw [← List.take_append_drop k ls, List.flatten_append, List.length_append]
  omega
theorem catL_len_step {ls : List (List Int)} {k : Nat} (h : k < ls.length) : (catL ls (k + 1)).length = (catL ls k).length + (ls.getD k []).length := by
  rw [catL_step h, List.length_append]

theorem cat_push {w : World} {base : Nat} {v : Value} {ls : List (List Int)} {k : Nat} {zs : List Int} (hk : k < ls.length) (hz : ls.getD k [] = zs)
    (hown : w.ownsRow base 2 1 v ((catL ls k).length + zs.length) ((catL ls k).map (Value.int .i64) ++ zs.map (Value.int .i64))) :
    w.ownsRow base 2 1 v (catL ls (k + 1)).length ((catL ls (k + 1)).map (Value.int .i64)) := by
  subst hz
  rw [catL_step hk, List.length_append, List.map_append]
  exact hown

theorem own_more {w : World} {base base' n size : Nat} {e : TypeId} {v : Value} {xs : List Value} (h : w.ownsRow base' e size v n xs) (hB : base ≤ base') : w.ownsRow base e size v n xs := h.mono hB
theorem own_cap {w : World} {base n c : Nat} {e : TypeId} {A : Option Addr} {xs : List Value} (h : w.ownsRow base e 1 (.slice A n c) n xs) : n ≤ c ∧ c ≤ maxLen := by
  rcases h.2 with ⟨hv, rfl⟩ | ⟨g, cap, cur, hv, hb, hh, hn, hc, hs, ht⟩
  · injection hv with a1 a2 a3
    subst a3
    exact ⟨Nat.zero_le _, Nat.zero_le _⟩
  · injection hv with a1 a2 a3
    subst a3
    exact ⟨hn, hc⟩
/-- What an append of a part to an empty row of the call's own leaves. -/
theorem app_news {w wa w2 : World} {e : TypeId} {v0 v2 : Value} {n2 : Nat} {ys : List Value} {zs : List Int} (HB1 : Hid (Below w.heap.size w wa)) (HO1 : Hid (wa.ownsRow w.heap.size e 1 v0 0 [])) (hown2 : w2.ownsRow w.heap.size e 1 v2 n2 ys) (hgrow2 : wa.grownBy w2 v0.ownBlock)
    (HJ : Hid (ys = zs.map (Value.int .i64))) (hl : n2 = zs.length) : ∃ A c, v2 = .slice A zs.length c ∧ Hid (w2.ownsRow w.heap.size e 1 (.slice A zs.length c) zs.length (zs.map (Value.int .i64))) ∧ Hid (Below w.heap.size w w2) := by
  subst hl
  have hb2' : Below w.heap.size w w2 := HB1.out.grown hgrow2 HB1.out.size (fun q hq => (HO1.out.lt q hq).1)
  obtain ⟨A2, c2, rfl⟩ := own_shape hown2
  rw [HJ.out] at hown2
  exact ⟨A2, c2, rfl, hown2, hb2'⟩

end
section
open Go.RowKit
end
section
open Go.RowKit
end
section
open Go.RowKit

/-- The slice value '.slice A n c' reads as the bytes code, its cells below block B. -/
def RdB (w : World) (B : Nat) (A : Option Addr) (n : Nat) (code : List Int) : Prop :=
  code.length = n ∧ (∀ z ∈ code, 0 ≤ z ∧ z ≤ 255) ∧ (0 < n → ∃ b off, A = some ⟨b, off, none⟩ ∧ b < B ∧ ∀ j, j < n → w.cell? ⟨b, off + j, none⟩ = some (.int .u8 (code.getD j 0)))
theorem RdB.keep {w w' : World} {B n : Nat} {A : Option Addr} {code : List Int} (h : RdB w B A n code) (hk : ∀ p : Addr, p.block < B → w'.cell? p = w.cell? p) : RdB w' B A n code :=
  ⟨h.1, h.2.1, fun hn => by
    obtain ⟨b, off, e, hb, hc⟩ := h.2.2 hn
    exact ⟨b, off, e, hb, fun j hj => (hk _ hb).trans (hc j hj)⟩⟩
theorem grown_alloc (w : World) (o : Obj) (r : Option Nat) : w.grownBy (w.alloc o) r := ⟨rfl, rfl, rfl, by simp, fun k hk _ => Below.heap_alloc w o k hk⟩
end
section
open Go.ChangeShapes Go.WideShapes Go.ChangeAt Go.RowKit

theorem own : ownKnob Try.prog.godebug = none := by kernel_rfl
theorem laidOut : laidOutB Try.prog = true := by kernel_rfl

/-- Package variables read behind a call that turned nothing old as they read before. -/
theorem vars_below {H : Type} {enc : TypeId × Value → H} {W W' : World} (hb : Below W.heap.size W W') : ∀ {ns : List String} {gs : List (DataW H)} {q : List MemPlace},
    (∀ n ∈ ns, ∀ g t, Try.prog.globalNamed n = some g → (Try.prog.globals[g]?).map (·.type) = some t → Try.prog.readableRec t = true ∧ t < Try.prog.types.size) →
    DataW.TrodVars enc Try.prog W (fun _ => true) ns gs q → DataW.TrodVars enc Try.prog W' (fun b => decide (b < W.heap.size)) ns gs q
  | [], [], _, _, h => h
  | n :: ns, d :: ds, ps, hr, h => by
    have hlt := DataW.TrodVars.lt h
    obtain ⟨g, t, cs, fuel, p, q, h1, h2, h3, h4, h5, rfl⟩ := h
    obtain ⟨hr1, hr2⟩ := hr n (by simp) g t h1 h2
    have hg : g < W.heap.size := by
      unfold World.var? at h3
      simp only [h1, Option.bind_some] at h3
      rcases Nat.lt_or_ge g W.heap.size with hlt | hge
      · exact hlt
      · rw [Array.getElem?_eq_none hge] at h3; cases h3
    obtain ⟨fuel', h4'⟩ := Below.trod (v := .agg cs) laidOut hr1 hr2 ⟨fuel, h4⟩ hb (fun x hx => hlt x (by simp [hx]))
    exact ⟨g, t, cs, fuel', p, q, h1, h2, var?_below hb h1 hg h3, h4', vars_below hb (fun m hm => hr m (by simp [hm])) h5, rfl⟩

theorem readable_all (ns : List String) (hns : ns.all (fun n => match Try.prog.globalNamed n with | none => true | some g => match (Try.prog.globals[g]?).map (·.type) with | none => true | some t => Try.prog.readableRec t && decide (t < Try.prog.types.size)) = true) :
    ∀ n ∈ ns, ∀ g t, Try.prog.globalNamed n = some g → (Try.prog.globals[g]?).map (·.type) = some t → Try.prog.readableRec t = true ∧ t < Try.prog.types.size := by
  intro n hn g t hg ht
  have := List.all_eq_true.1 hns n hn
  simp only [hg, ht, Bool.and_eq_true, decide_eq_true_eq] at this
  exact this
end
section
open Go.ChangeShapes Go.WideShapes Go.ChangeAt Go.RowKit
end
end Go.Proofs.Ytlcapifgpcimpaa
