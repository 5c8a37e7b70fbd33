/- ReadSeq of the model. -/
import Derived.Test.YtjhagklpnpabeaaGreatDoorSplM
import Derived.Test.YtjhagklpnpabeaaGreatDoorSplR
import Derived.Test.YtjhagklpnpabeaaGreatDoorSrtK
import Derived.Laws.AppendOwnNone
namespace Go.Proofs.YtjhagklpnpabeaaGreatDoor
open Go.ChangeShapes Go.WideShapes Go.ChangeAt Go.RowKit

/-- The append of a row of parts, perhaps none and perhaps nil, onto a row of one's own. -/
theorem append_any {w : World} {ops : Array Oper} {rest : List Oper} {o : Oper} {a : Act} {Q : Exit → Act → World → Prop} (hgd : o.guard = none) (s x : Operand)
    (ho : o.op = .call { callee := .builtin .append, args := #[s, x], argTypes := #[24, 24] })
    (base : Nat) (i : TypeInfo) (hi : Tryz.prog.info? 35 = some i) (hz : i.zero = some (.slice none 0 0)) (hsize : i.size = 1) (hby : i.bytes = 24)
    (v : Value) (hs : a.eval s = v) (hown : w.ownsRow base 35 1 v 0 [])
    {lo h9 m c2 : Nat} {A2 : Option Addr} {hh : Nat → Option Addr × Nat} {cur : List (List Int)} (hq : OwnQ w lo h9 (.slice A2 m c2) hh cur) (hlen : cur.length = m) (hm : m ≤ 10) (hx : a.eval x = .slice A2 m c2) (hbase : base ≤ w.heap.size)
    (h : ∀ v' w', w'.ownsRow base 35 1 v' m (rowV hh cur) → w.grownBy w' v.ownBlock → wpList Tryz.prog ops Q rest (a.put o.dst v') w') : wpList Tryz.prog ops Q (o :: rest) a w := by
  subst hlen
  have hout := hq.outer
  rcases hout.2 with ⟨hv, hn⟩ | ⟨g, cap, cells, hv, hb, hc, hn, hd, he, hf⟩
  · injection hv with a1 a2 a3
    subst a1
    subst a3
    have hc : cur = [] := List.eq_nil_of_length_eq_zero a2
    subst hc
    exact wpList_append_own_none hgd s x _ ho base 35 i 1 Tryz.underlying24 hi v 0 [] hs hown hx (h v w hown (World.grownBy.refl w _))
  · injection hv with a1 a2 a3
    subst a1
    refine wpList_append_own _ hgd s x _ ho base 35 i (.slice none 0 0) 1 24 Tryz.underlying24 hi hz hsize hby rfl (by decide) v 0 [] hs hown ⟨g, 0, none⟩ cur.length c2 (rowV hh cur) hx (by rw [rowV_len, Nat.mul_one]) (row_cells hout) (fun u hu => hv_one hu) (by simp only [maxLen]; omega) (by omega) hbase ?_
    intro v' w' h1 h2 _
    rw [Nat.zero_add, List.nil_append] at h1
    exact h v' w' h1 h2

end Go.Proofs.YtjhagklpnpabeaaGreatDoor
