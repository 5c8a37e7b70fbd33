/- The words of a plain step: none holds a space; each is read back. -/
import Derived.Test.YtjgmgaccmcepdaaGreatDoorReadF
namespace Go.Proofs.YtjgmgaccmcepdaaGreatDoor
open Go.ChangeAt Go.ChangeShapes Go.RowKit Go.WideShapes

theorem nm_all : ∀ k : Fin 15, (32 : UInt8) ∉ nmTab.getD k.1 [] := by decide
theorem nm_no32 {k : Nat} (h : k < 15) : No32 (nmB k) := nm_all ⟨k, h⟩
theorem nm_apart : ∀ k : Fin 15, ∀ m : Fin 15, m.1 < k.1 → (nmTab.getD m.1 [] == nmTab.getD k.1 []) = false := by decide
theorem nm_list (k : Nat) : (nmB k).toList = nmTab.getD k [] := by rw [ByteArray.toList_eq]; rfl
theorem rnm_nm {k : Nat} (h : k < 15) : rnm (nmB k) = k :=
  rnm_at h (by simp) fun m hm => by rw [nm_list, nm_list]; exact nm_apart ⟨k, h⟩ ⟨m, by omega⟩ hm
theorem text_no32 (q : List Int) : No32 (mkB (textL q)) := by
  intro h
  have h' : (32 : UInt8) ∈ (textL q).map fun z => UInt8.ofNat z.toNat := by simpa [mkB] using h
  obtain ⟨z, hz, e⟩ := List.mem_map.1 h'
  have hb := textL_byte q z hz
  have h3 := congrArg UInt8.toNat e
  rw [UInt8.toNat_ofNat'] at h3
  have h4 : (32 : UInt8).toNat = 32 := rfl
  rw [h4] at h3
  omega
theorem dec_cases {x : Int} (h : inR x = true) : (∃ k : Fin 10, decB x = ⟨#[UInt8.ofNat (48 + k.1)]⟩ ∧ x = (k.1 : Int)) ∨ ∃ k : Fin 30, decB x = ⟨#[UInt8.ofNat (48 + (k.1 + 10) / 10), UInt8.ofNat (48 + (k.1 + 10) % 10)]⟩ ∧ x = ((k.1 + 10 : Nat) : Int) := by
  obtain ⟨h0, h1⟩ := inR_iff h
  obtain ⟨k, rfl⟩ : ∃ k : Nat, x = k := ⟨x.toNat, by omega⟩
  by_cases hk : k < 10
  · exact .inl ⟨⟨k, hk⟩, by unfold decB; rw [Int.toNat_natCast, dec_small hk], rfl⟩
  · have e : k - 10 + 10 = k := by omega
    refine .inr ⟨⟨k - 10, by omega⟩, ?_, by show (k : Int) = ((k - 10 + 10 : Nat) : Int); rw [e]⟩
    unfold decB
    rw [Int.toNat_natCast, dec_two hk (by omega)]
    show _ = (⟨#[UInt8.ofNat (48 + (k - 10 + 10) / 10), UInt8.ofNat (48 + (k - 10 + 10) % 10)]⟩ : ByteArray)
    rw [e]
theorem dec_no32_a : ∀ k : Fin 10, (32 : UInt8) ∉ [UInt8.ofNat (48 + k.1)] := by decide
theorem dec_no32_b : ∀ k : Fin 30, (32 : UInt8) ∉ [UInt8.ofNat (48 + (k.1 + 10) / 10), UInt8.ofNat (48 + (k.1 + 10) % 10)] := by decide
theorem dec_no32 {x : Int} (h : inR x = true) : No32 (decB x) := by
  rcases dec_cases h with ⟨k, e, _⟩ | ⟨k, e, _⟩
  · rw [e]; exact dec_no32_a k
  · rw [e]; exact dec_no32_b k
theorem dec_rd_a : ∀ k : Fin 10, rdN ⟨#[UInt8.ofNat (48 + k.1)]⟩ = (k.1, true) := by decide
theorem dec_rd_b : ∀ k : Fin 30, rdN ⟨#[UInt8.ofNat (48 + (k.1 + 10) / 10), UInt8.ofNat (48 + (k.1 + 10) % 10)]⟩ = (k.1 + 10, true) := by decide
theorem dec_rd {x : Int} (h : inR x = true) : ((rdN (decB x)).1 : Int) = x ∧ (rdN (decB x)).2 = true := by
  rcases dec_cases h with ⟨k, e, hx⟩ | ⟨k, e, hx⟩
  · rw [e, dec_rd_a k, hx]; exact ⟨rfl, rfl⟩
  · rw [e, dec_rd_b k, hx]; exact ⟨rfl, rfl⟩
end Go.Proofs.YtjgmgaccmcepdaaGreatDoor
