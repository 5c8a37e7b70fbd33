/- What the laws over a code share: its bytes opened, its length asked, two lists compared. -/
import Derived.Test.YtjfhbofgnagfaaaDoorAny
import Derived.Test.YtjfhbofgnagfaaaDoorFrame
namespace Go.Proofs.YtjfhbofgnagfaaaDoor
open Go.ChangeShapes Go.WideShapes Go.ChangeAt Go.RowKit

/-- A slice of bytes that came in reads as a list. -/
theorem open_u8s {H : Type} {enc : TypeId × Value → H} {W : World} {a : Option Addr} {len cap : Nat} {d : DataW H} {p : List MemPlace}
    (h : DataW.Trod enc Tryd.prog W 0 (fun _ => true) true 22 (.slice a len cap) d p) : ∃ zs, RdB W W.heap.size a len zs ∧ len ≤ cap ∧ ∀ z ∈ zs, (Lit.int .u8 z).wf = true := by
  obtain ⟨fuel, hf⟩ := h
  rcases open_ints Tryd.underlying22 Tryd.underlying5 (by kernel_rfl) hf with ⟨hcs, _⟩ | ⟨x, l, c, zs, hcs, _, hl, hm, hz, _, hcell, hwz⟩
  · simp [Value.cells] at hcs
    obtain ⟨rfl, rfl, rfl⟩ := hcs
    exact ⟨[], ⟨rfl, by simp, fun h => absurd h (by omega)⟩, Nat.le_refl _, by simp⟩
  · simp [Value.cells] at hcs
    obtain ⟨rfl, rfl, rfl⟩ := hcs
    have hz' : zs.length = cap := by simpa using hz
    refine ⟨zs.take len, ⟨by simp; omega, fun z hz => bounds_u8 (hwz z (List.mem_of_mem_take hz)), fun hn => ?_⟩, hl, fun z hz => hwz z (List.mem_of_mem_take hz)⟩
    obtain ⟨b, off, spot⟩ := x
    have hc := hcell 0 (by omega)
    have hspot : spot = none := by simpa [Addr.add] using World.cell?_spot hc
    subst hspot
    refine ⟨b, off, rfl, ?_, fun j hj => ?_⟩
    · have := World.block_lt_of_cell? W _ hc
      simpa [Addr.add] using this
    · have h1 := hcell j (by omega)
      have e : (zs.take len).getD j 0 = zs.getD j 0 := by
        simp [List.getD, hj]
      rw [e]
      by_cases h0 : j = 0
      · subst h0; simpa [Addr.add] using h1
      · simpa [Addr.add, h0] using h1

theorem big_any (A : Option Addr) (n c : Nat) (w : World) : Calls Tryd.prog 14 #[.slice A n c] w fun e w' => e = .returned (.bool (decide (4096 < (n : Int)))) ∧ w = w' := by
  go_enter Tryd.func14, Tryd.ntmps14
  go_wp2
  go_ret
  exact ⟨rfl, rfl⟩

set_option maxHeartbeats 1000000 in
theorem likeInts_any (A B : Option Addr) (n m c d : Nat) (zs ys : List Int) (w : World) (h : RdI w w.heap.size A n zs) (h' : RdI w w.heap.size B m ys) (hn : n ≤ 1048576) (hm : m ≤ 1048576) :
    Calls Tryd.prog 74 #[.slice A n c, .slice B m d] w (Same zs ys w) := by
  have hl := h.len
  have hl' := h'.len
  subst hl hl'
  by_cases hlen : zs.length = ys.length
  · have hd : ((zs.length : Int) != (ys.length : Int)) = false := by simp; omega
    have H := Lib.hid hlen; clear hlen
    go_enter Tryd.func74, Tryd.ntmps74
    go_wp2
    go_loopw [5] (fun i wr => ∃ k : Nat, k ≤ zs.length ∧ i = .int .i64 k ∧ zs.take k = ys.take k ∧ Below w.heap.size w wr) (fun i _ => zs.length - (intOf i).toNat)
    case atStart => exact ⟨0, Nat.zero_le _, rfl, by simp, Below.refl _ _⟩
    case round =>
      obtain ⟨k, hk, rfl, htk, hb⟩ := hrel
      clear hd
      by_cases hlt : k < zs.length
      · have hlt' : k < ys.length := by have := H.out; omega
        obtain ⟨b, off, rfl, hbb, hcells⟩ := h.2 (by omega)
        obtain ⟨b', off', rfl, hbb', hcells'⟩ := h'.2 (by omega)
        have hc := (hb.cell (p := ⟨b, off + k, none⟩) hbb).trans (hcells k hlt)
        have hc' := (hb.cell (p := ⟨b', off' + k, none⟩) hbb').trans (hcells' k hlt')
        have HT := Lib.hid htk; have HB := Lib.hid hb
        clear hcells hcells' htk hb h h'
        by_cases he : zs.getD k 0 = ys.getD k 0
        · have HE := Lib.hid (take_step HT.out hlt hlt' he)
          rw [← he] at hc'
          clear he
          generalize zs.getD k 0 = z at hc hc'
          have hneq : (z != z) = false := by simp
          go_wp2
          go_quiet (fail)
          go_wp2
          go_roundw
          case rel => exact ⟨k + 1, by omega, by go_num, HE.out, below_drewN HB.out _⟩
          case measure => simp [intOf]; omega
        · have HE := Lib.hid (ne_at he)
          have hneq : (zs.getD k 0 != ys.getD k 0) = true := by simpa using he
          clear he
          generalize zs.getD k 0 = z at hc hneq
          generalize ys.getD k 0 = y at hc' hneq
          go_wp2
          go_quiet (fail)
          go_wp2
          go_ret
          exact ⟨ret_no HE.out, below_drewN HB.out _⟩
      · have hkl : k = zs.length := by omega
        subst hkl
        have e : zs = ys := by
          have := htk
          rw [List.take_of_length_le (Nat.le_refl _), List.take_of_length_le (by have := H.out; omega)] at this
          exact this
        have HE := Lib.hid e; have HB := Lib.hid hb
        clear e htk hb
        go_wp2
        go_ret
        exact ⟨ret_yes HE.out, HB.out⟩
  · have hd : ((zs.length : Int) != (ys.length : Int)) = true := by simp; omega
    have HE : Hid (¬ zs = ys) := Lib.hid fun e => hlen (by rw [e])
    clear hlen
    go_enter Tryd.func74, Tryd.ntmps74
    go_wp2
    go_ret
    exact ⟨ret_no HE.out, Below.refl _ _⟩
end Go.Proofs.YtjfhbofgnagfaaaDoor
