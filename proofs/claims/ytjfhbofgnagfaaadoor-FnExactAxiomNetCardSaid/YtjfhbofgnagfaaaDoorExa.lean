/- The laws' helpers at lists and rows, in one form: copies, comparison, marks (for the exact laws' walks that genex.py writes). -/
import Derived.Test.YtjfhbofgnagfaaaDoorSeqV
import Derived.Test.YtjfhbofgnagfaaaDoorCopyS
import Derived.Test.YtjfhbofgnagfaaaDoorMark
import Derived.Test.YtjfhbofgnagfaaaDoorFrameQ
namespace Go.Proofs.YtjfhbofgnagfaaaDoor
open Go.ChangeAt Go.ChangeShapes Go.RowKit Go.WideShapes

set_option maxRecDepth 100000 in
/-- A row of lists that came in. -/
theorem open_q {H : Type} {enc : TypeId × Value → H} {W : World} {base : Nat} {v : Value} {d : DataW H} {p : List MemPlace} (hv : Value.okWide Tryd.prog W .any base 24 v) (h : DataW.Trod enc Tryd.prog W 0 (fun _ => true) true 24 v d p) :
    ∃ a n c qs, v = .slice a n c ∧ RdQ W W.heap.size a n qs ∧ n ≤ c ∧ n ≤ maxLen ∧ (∀ q ∈ qs, q.length ≤ maxLen) ∧ ∀ q ∈ qs, ∀ z ∈ q, (Lit.int .i64 z).wf = true := by
  obtain ⟨A, l, c, rfl⟩ := okWide_slice Tryd.underlying24 hv
  obtain ⟨fuel, hf⟩ := h
  exact open_rows (v := .slice A l c) (by simpa [Value.cells] using hf)

/-- A list of integers in memory of its own, its block in [lo, hi). -/
structure OwnI (w : World) (lo hi : Nat) (v : Value) (n : Nat) (xs : List Int) : Prop where
  outer : w.ownsRow lo 2 1 v n (xs.map (Value.int .i64))
  top : ∀ k, v.ownBlock = some k → k < hi
theorem OwnI.of_own {w : World} {lo n : Nat} {v : Value} {xs : List Int} (h : w.ownsRow lo 2 1 v n (xs.map (Value.int .i64))) : OwnI w lo w.heap.size v n xs := ⟨h, fun k hk => (h.lt k hk).2⟩
theorem OwnI.below {w w' : World} {lo hi n : Nat} {v : Value} {xs : List Int} (h : OwnI w lo hi v n xs) (hb : Below w.heap.size w w') : OwnI w' lo hi v n xs := ⟨own_below h.outer hb (Nat.le_refl _), h.top⟩
theorem OwnI.kept {w w' : World} {lo hi lo' hi' n : Nat} {v : Value} {xs : List Int} (h : OwnI w lo hi v n xs) (hk : Kept lo' hi' w w') (hd : hi ≤ lo' ∨ hi' ≤ lo) : OwnI w' lo hi v n xs :=
  ⟨own_same h.outer fun k e => hk.block k (h.outer.lt k e).2 (by have h1 := (h.outer.lt k e).1; have h2 := h.top k e; omega), h.top⟩
theorem OwnI.rd {w : World} {lo hi n c : Nat} {A : Option Addr} {xs : List Int} (h : OwnI w lo hi (.slice A n c) n xs) : RdI w w.heap.size A n xs := RdI.of_own h.outer
theorem OwnI.len {w : World} {lo hi n c : Nat} {A : Option Addr} {xs : List Int} (h : OwnI w lo hi (.slice A n c) n xs) : xs.length = n := by have := h.outer.1; simpa using this
theorem toI_x (A : Option Addr) (n c : Nat) (xs : List Int) (w : World) (h : RdI w w.heap.size A n xs) (hn : n ≤ 1048576) :
    Calls Tryd.prog 46 #[.slice A n c] w fun e w' => ∃ g, e = .returned (.slice (some ⟨g, 0, none⟩) n n) ∧ OwnI w' w.heap.size w'.heap.size (.slice (some ⟨g, 0, none⟩) n n) n xs ∧ Below w.heap.size w w' :=
  (toInts_any A n c xs w h hn).mono fun _ _ ⟨he, ho, hb⟩ => ⟨_, he, OwnI.of_own ho, hb⟩
theorem eqI_x (A B : Option Addr) (n c d : Nat) (xs : List Int) (w : World) (h : RdI w w.heap.size A n xs) (h' : RdI w w.heap.size B n xs) (hn : n ≤ 1048576) :
    Calls Tryd.prog 42 #[.slice A n c, .slice B n d] w fun e w' => e = .returned (.bool true) ∧ Below w.heap.size w w' :=
  (eqInts_any A B n n c d xs xs w h h' hn hn).mono fun _ _ ⟨he, hb⟩ => ⟨by rw [he, decide_eq_true rfl], hb⟩
theorem markI_x (A : Option Addr) (n c : Nat) (xs : List Int) (k : Int) (w : World) (lo hi : Nat) (h : OwnI w lo hi (.slice A n c) n xs) (hn : n ≤ 1048576) (hk0 : 0 ≤ k) (hk1 : k ≤ 1073741824) :
    Calls Tryd.prog 43 #[.slice A n c, .int .i64 k] w fun e w' => e = .returned (.int .i64 (k + n)) ∧ OwnI w' lo hi (.slice A n c) n (markL k n) ∧ Kept lo hi w w' :=
  (mark_any A n c xs k w lo h.outer hn hk0 hk1).mono fun _ _ ⟨he, ho, hg⟩ => ⟨he, ⟨ho, h.top⟩, Kept.of_grown hg fun b hb => ⟨(h.outer.lt b hb).1, h.top b hb⟩⟩
theorem heldI_x (A : Option Addr) (n c : Nat) (k : Int) (w : World) (h : RdI w w.heap.size A n (markL k n)) (hn : n ≤ 1048576) (hk0 : 0 ≤ k) (hk1 : k ≤ 1073741824) :
    Calls Tryd.prog 44 #[.slice A n c, .int .i64 k] w fun e w' => e = .returned (.int .i64 (k + n)) ∧ Below w.heap.size w w' :=
  (held_any A n c k w h hn hk0 hk1).mono fun _ _ ⟨he, hw⟩ => ⟨he, hw ▸ Below.refl _ _⟩
theorem toQ_x (A : Option Addr) (n c : Nat) (qs : List (List Int)) (w : World) (h : RdQ w w.heap.size A n qs) (hq : ∀ q ∈ qs, q.length ≤ 1048576) (hn : n ≤ 1048576) :
    Calls Tryd.prog 78 #[.slice A n c] w fun e w' => ∃ hs g, e = .returned (.slice (some ⟨g, 0, none⟩) n n) ∧ OwnQ w' w.heap.size w'.heap.size (.slice (some ⟨g, 0, none⟩) n n) hs qs ∧ Below w.heap.size w w' :=
  (toSS_any A n c qs w h hq hn).mono fun _ _ ⟨hs, he, ho, hb⟩ => ⟨hs, _, he, ho, hb⟩
theorem eqQ_x (A B : Option Addr) (n c d : Nat) (qs : List (List Int)) (w : World) (h : RdQ w w.heap.size A n qs) (h' : RdQ w w.heap.size B n qs) (hn : n ≤ 1048576) (hq : ∀ q ∈ qs, q.length ≤ 1048576) :
    Calls Tryd.prog 80 #[.slice A n c, .slice B n d] w fun e w' => e = .returned (.bool true) ∧ Below w.heap.size w w' :=
  (eqSS_any A B n n c d qs qs w _ _ h h' hn hn hq hq).mono fun _ _ ⟨he, hd⟩ => ⟨by rw [he, decide_eq_true rfl], drewN_below hd _⟩
theorem markQ_x (A : Option Addr) (n c : Nat) (hs : Nat → Option Addr × Nat) (qs : List (List Int)) (k : Int) (w : World) (lo hi : Nat) (h : OwnQ w lo hi (.slice A n c) hs qs) (hn : qs.length = n) (hn1 : n ≤ 1048576) (ht : total qs ≤ 1048576) (hk0 : 0 ≤ k) (hk1 : k ≤ 536870912) :
    Calls Tryd.prog 86 #[.slice A n c, .int .i64 k] w fun e w' => e = .returned (.int .i64 (k + total qs)) ∧ OwnQ w' lo hi (.slice A n c) hs (mrkQ k qs) ∧ Kept lo hi w w' :=
  markSS_any A n c hs qs k w lo hi h hn hn1 ht hk0 hk1
theorem heldQ_x (A : Option Addr) (n c : Nat) (qs : List (List Int)) (k : Int) (w : World) (h : RdQ w w.heap.size A n (mrkQ k qs)) (hn1 : n ≤ 1048576) (ht : total qs ≤ 1048576) (hk0 : 0 ≤ k) (hk1 : k ≤ 536870912) :
    Calls Tryd.prog 88 #[.slice A n c, .int .i64 k] w fun e w' => e = .returned (.int .i64 (k + total qs)) ∧ Below w.heap.size w w' :=
  (heldSS_any A n c qs k w h hn1 ht hk0 hk1).mono fun _ _ ⟨he, hw⟩ => ⟨he, hw ▸ Below.refl _ _⟩
theorem szQ_x (A : Option Addr) (n c : Nat) (qs : List (List Int)) (left : Int) (w : World) (h : RdQ w w.heap.size A n qs) (hq : ∀ q ∈ qs, q.length ≤ maxLen) (hn : n ≤ maxLen) (h0 : 0 ≤ left) (h1 : left ≤ 1073741824) :
    Calls Tryd.prog 75 #[.slice A n c, .int .i64 left] w fun e w' => e = .returned (.int .i64 (szR left (n + total qs))) ∧ Below w.heap.size w w' :=
  (szSS_any A n c qs left w _ h hq hn h0 h1).mono fun _ _ ⟨he, hw⟩ => ⟨he, hw ▸ Below.refl _ _⟩
/-- .. a row of lists and a bool. -/
def GivesSSB (w : World) (V : List (List Int)) (b : Bool) (e : Ending) (w' : World) : Prop :=
  ∃ hs A c, e = .returned (.tuple #[.slice A V.length c, .bool b]) ∧ OwnQ w' w.heap.size w'.heap.size (.slice A V.length c) hs V ∧ Below w.heap.size w w'
end Go.Proofs.YtjfhbofgnagfaaaDoor
