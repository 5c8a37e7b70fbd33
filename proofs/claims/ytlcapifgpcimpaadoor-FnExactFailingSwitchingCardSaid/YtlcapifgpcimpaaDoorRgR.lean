/- A range over a function whose iterator hands out what it has just made: what is handed is told of in the world of the hand-over. -/
import Derived.Test.YtlcapifgpcimpaaDoorRows
import Derived.RangeFuncCalls
import Derived.RangeFuncKeeps
namespace Go.Proofs.YtlcapifgpcimpaaDoor
set_option linter.unusedSimpArgs false
set_option linter.unusedVariables false
open Go.RowKit

/-- All lies as it lay, but for blocks from m on that hold no cells. -/
structure StpR (m : Nat) (A B : World) : Prop where
  os : B.os = A.os
  tape : B.tape = A.tape
  output : B.output = A.output
  size : A.heap.size ≤ B.heap.size
  blk : ∀ i o, A.heap[i]? = some o → (o.isCells = true ∨ i < m) → B.heap[i]? = some o
theorem StpR.of_below {m : Nat} {A B : World} (h : Below A.heap.size A B) : StpR m A B :=
  ⟨h.os, h.tape, h.output, h.size, fun i o hi _ => (h.block i (Array.getElem?_eq_some_iff.1 hi).1).trans hi⟩
theorem StpR.put {m l : Nat} {A : World} {o : Obj} (hl : A.heap[l]? = some o) (hc : o.isCells = false) (hm : m ≤ l) (o' : Obj) : StpR m A (A.putObj l o') := by
  refine ⟨rfl, rfl, rfl, by simp, fun i x hi hr => ?_⟩
  by_cases e : i = l
  · subst e
    rw [hl] at hi
    injection hi with hi
    subst hi
    rcases hr with h | h
    · rw [hc] at h; cases h
    · omega
  · exact (World.putObj_heap_other e).trans hi
/-- The iterator: N rounds; in round k it hands yield values of which Hd k tells in the world of the call. -/
def ItR (F : Fence) (n : Nat) (P : Program) (g : Nat) (lb : Array Value) (N : Nat) (Hd : Nat → Array Value → World → Prop) (w : World) : Prop :=
  ∀ (l : Nat) (J Jx : Nat → World → Prop) (W : World), Below w.heap.size w W →
    (∀ k A B, J k A → Below A.heap.size A B → J k B) →
    (∀ k vs W1, k < N → J k W1 → Hd k vs W1 → YieldAt F (n - 1) P l vs W1 fun e W' =>
      (e = .returned (.bool true) ∧ J (k + 1) W' ∧ (∀ i, i < w.heap.size → W'.heap[i]? = W1.heap[i]?) ∧ W1.heap.size ≤ W'.heap.size) ∨ (e = .returned (.bool false) ∧ Jx k W')) →
    J 0 W →
    CallsIn F n P g (#[.func (.yield l) #[] #[]] ++ lb) W fun e W' => (∃ v, e = .returned v) ∧ (J N W' ∨ ∃ k, k < N ∧ Jx k W')
/-- How a round's body may be left: off its end, or by a return. -/
def postR (m : Nat) (I Ix : Nat → World → Prop) (k : Nat) (W : World) : Exit → Act → World → Prop
  | .normal, _, W' => KeepsOthers W W' ∧ (∀ i, i < m → W'.heap[i]? = W.heap[i]?) ∧ I (k + 1) W'
  | .ret, _, W' => KeepsOthers W W' ∧ Ix k W'
  | _, _, _ => False
/-- The loop's record. -/
def recR (fn : FuncId) (a : Act) (ps : Array Tmp) (assign body : Code) (w : World) (st : LoopState) (pe : Option Code) : Loop :=
  { state := st, pending := pe, fn := fn, tmps := a.tmps, params := ps, assign := assign, body := body, defers := w.heap.size }
section
variable {F : Fence} {n : Nat} {P : Program}
theorem wpIn_rangeR {g : Operand} {ps : Array Tmp} {assign body : Code} {Q : Exit → Act → World → Prop} {a : Act} {w : World}
    (hro : F.round = none) (h1 : 1 ≤ n) {gf : Nat} {lb : Array Value} (hg : a.eval g = .func (.func gf) #[] lb) (hFg : F.fn gf) (eg : ∀ args w, (callFunc gf args).run P w = .ok (.enter gf args) w)
    {N : Nat} {Hd : Nat → Array Value → World → Prop} {w0 : World} (hseq : ItR F (n - 1) P gf lb N Hd w0) (hb0 : Below w0.heap.size w0 w)
    (hHd : ∀ k vs A B, Hd k vs A → StpR w.heap.size A B → Hd k vs B) (hps : ∀ k vs W, Hd k vs W → vs.size = ps.size)
    (I Ix : Nat → World → Prop) (hI : ∀ k A B, I k A → StpR w.heap.size A B → I k B) (hIx : ∀ k A B, Ix k A → StpR w.heap.size A B → Ix k B) (h0 : I 0 w) (a₁ : Array Value → Act)
    (hassign : ∀ (l k : Nat) (vs : Array Value) (W W0 : World) (K : Act → World → Prop), Hd k vs W0 → K (a₁ vs) W →
      assign.wpIn (F.inRound l) (n - 1 - 1) P (Exit.then K (fun _ _ _ => False)) { tmps := (ps.zip vs).foldl (fun t (p, v) => t.setIfInBounds p v) a.tmps, defers := [] } W)
    (hbody : ∀ (l k : Nat) (vs : Array Value) (W : World), k < N → w.heap.size ≤ W.heap.size → I k W → Hd k vs W → body.wpIn (F.inRound l) (n - 1 - 1) P (postR w.heap.size I Ix k W) (a₁ vs) W)
    (hdone : ∀ W : World, I N W → W.heap[w.heap.size]? = some (.deferred (some [])) → Q .normal { a with defers := { target := .collected w.heap.size, args := #[] } :: a.defers } W)
    (hstop : ∀ (k : Nat) (W : World), k < N → Ix k W → W.heap[w.heap.size]? = some (.deferred (some [])) → Code.ret.wpIn F n P Q { a with defers := { target := .collected w.heap.size, args := #[] } :: a.defers } W) :
    (Code.rangeFunc g ps assign body).wpIn F n P Q a w := by
  refine wpIn_rangeFunc fun fn hfn => ?_
  rw [hro]
  have hbk : ∀ {A B : World} {i : Nat} {o : Obj}, Below A.heap.size A B → A.heap[i]? = some o → B.heap[i]? = some o := fun hb hi => (hb.block _ (Array.getElem?_eq_some_iff.1 hi).1).trans hi
  obtain ⟨W1, hW1⟩ : ∃ u, u = (w.alloc (.deferred (some []))).alloc (.loop (recR fn a ps assign body w .ready none)) := ⟨_, rfl⟩
  have hb1 : Below w.heap.size w W1 := by rw [hW1]; exact ((Below.refl _ w).alloc (Nat.le_refl _) _).alloc (by simp) _
  have hL1 : W1.heap[w.heap.size + 1]? = some (.loop (recR fn a ps assign body w .ready none)) := by
    have e : (w.alloc (.deferred (some []))).heap.size = w.heap.size + 1 := by simp
    rw [hW1, ← e]; exact World.alloc_heap_new _ _
  have hD1 : W1.heap[w.heap.size]? = some (.deferred (some [])) := by
    rw [hW1]; exact (Below.heap_alloc _ _ _ (by simp)).trans (World.alloc_heap_new w _)
  refine ⟨w.heap.size + 1, [{ target := .collected w.heap.size, args := #[] }], W1, { target := .fn (.func gf) lb, args := #[.func (.yield (w.heap.size + 1)) #[] #[]] }, W1, gf,
    #[.func (.yield (w.heap.size + 1)) #[] #[]] ++ lb, W1, by rw [hW1]; exact run_enterLoop_outer _ _ _ _ _, by simp only [resolve, hg]; simp [go_sem], ?_, by simp [invoke, go_sem, eg], fun _ => h1, ?_⟩
  · intro f' hf'
    simp [Target.leads] at hf'
    subst hf'
    exact hFg
  refine (hseq (w.heap.size + 1)
    (fun k W => I k W ∧ W.heap[w.heap.size + 1]? = some (.loop (recR fn a ps assign body w .ready none)) ∧ W.heap[w.heap.size]? = some (.deferred (some [])))
    (fun k W => Ix k W ∧ W.heap[w.heap.size + 1]? = some (.loop (recR fn a ps assign body w .done (some .ret))) ∧ W.heap[w.heap.size]? = some (.deferred (some [])))
    W1 (hb0.trans (hb1.mono hb0.size))
    (fun k A B h hb => ⟨hI k A B h.1 (.of_below hb), hbk hb h.2.1, hbk hb h.2.2⟩) ?_ ⟨hI 0 w W1 h0 (.of_below hb1), hL1, hD1⟩).mono ?_
  · rintro k vs W hk ⟨hi, hl, hd⟩ hh
    have hlt : w.heap.size + 1 < W.heap.size := (Array.getElem?_eq_some_iff.1 hl).1
    refine ⟨fn, _, assign, body, run_yield (P := P) (args := vs) hl (hps k vs W hh), roundIn_of_wpIn hfn (hassign _ k vs W W _ hh ⟨_, run_beginRound hl rfl, ?_⟩)⟩
    obtain ⟨W2, hW2⟩ : ∃ u, u = W.putObj (w.heap.size + 1) (.loop (recR fn a ps assign body w .busy none)) := ⟨_, rfl⟩
    have st2 : StpR w.heap.size W W2 := by rw [hW2]; exact .put hl rfl (by omega) _
    have hl2 : W2.heap[w.heap.size + 1]? = some (.loop (recR fn a ps assign body w .busy none)) := by rw [hW2]; exact World.putObj_heap_same hlt
    have hd2 : W2.heap[w.heap.size]? = some (.deferred (some [])) := by rw [hW2]; exact (World.putObj_heap_other (by omega)).trans hd
    have hs2 : W2.heap.size = W.heap.size := by rw [hW2]; simp
    have hlo2 : ∀ i, i < w.heap.size → W2.heap[i]? = W.heap[i]? := fun i hi => by rw [hW2]; exact World.putObj_heap_other (by omega)
    show body.wpIn (F.inRound (w.heap.size + 1)) (n - 1 - 1) P _ _ (W.putObj (w.heap.size + 1) (.loop (recR fn a ps assign body w .busy none)))
    rw [← hW2]
    refine wpIn_mono (hbody _ k vs W2 hk (by omega) (hI k W W2 hi st2) (hHd k vs W W2 hh st2)) ?_
    rintro e a3 W3 hp
    cases e with
    | normal =>
      obtain ⟨ko, kl, hi3⟩ := hp
      have hl3 := ko.same _ _ hl2 rfl
      have hlt3 := (Array.getElem?_eq_some_iff.1 hl3).1
      refine ⟨_, _, run_endRound (P := P) none hl3, .inl ⟨rfl, ⟨hI _ _ _ hi3 (.put hl3 rfl (by omega) _), World.putObj_heap_same hlt3, (World.putObj_heap_other (by omega)).trans (ko.same _ _ hd2 rfl)⟩, fun i hi' => ?_, ?_⟩⟩
      · have hb := hb0.size
        exact ((World.putObj_heap_other (by omega)).trans (kl i (by omega))).trans (hlo2 i (by omega))
      · have := ko.size
        simp only [World.putObj_size]
        omega
    | ret =>
      obtain ⟨ko, hi3⟩ := hp
      have hl3 := ko.same _ _ hl2 rfl
      have hlt3 := (Array.getElem?_eq_some_iff.1 hl3).1
      exact ⟨_, _, run_endRound (P := P) (some .ret) hl3, .inr ⟨rfl, hIx _ _ _ hi3 (.put hl3 rfl (by omega) _), World.putObj_heap_same hlt3, (World.putObj_heap_other (by omega)).trans (ko.same _ _ hd2 rfl)⟩⟩
    | exit id => exact hp.elim
    | goto t => exact hp.elim
    | panic ch => exact hp.elim
    | outgrown => exact hp.elim
  · rintro e W2 ⟨⟨v, rfl⟩, (⟨hi, hl, hd⟩ | ⟨k, hk, hi, hl, hd⟩)⟩
    · exact ⟨none, _, run_endLoop (P := P) hl (by simp [recR]), hdone _ (hI _ _ _ hi (.put hl rfl (by omega) _)) ((World.putObj_heap_other (by omega)).trans hd)⟩
    · exact ⟨some .ret, _, run_endLoop (P := P) hl (by simp [recR]), hstop k _ hk (hIx _ _ _ hi (.put hl rfl (by omega) _)) ((World.putObj_heap_other (by omega)).trans hd)⟩
end
end Go.Proofs.YtlcapifgpcimpaaDoor
