/-
  FieldSums: the law's walk.
-/
import Derived.Test.YteaebdonnicbkabLS
import Derived.Test.YteaebdonnicbkabRSum
namespace Go.Proofs.Yteaebdonnicbkab
open Go.RowKit

theorem RdN.apart {L G : Nat} {bv : Value} {W w2 : World} {a : Option Addr} {n : Nat} {zs : List Int} (h : RdN (XL L bv) W a n zs) (hb : But (XL L bv) W w2) (hG : bv.ownBlock = some G ∨ W.heap.size ≤ G) : RdN (fun x => x = L ∨ x = G) w2 a n zs := by
  have h2 := h.but hb
  obtain ⟨q1, q2, q3⟩ := h
  obtain ⟨_, _, r3⟩ := h2
  refine ⟨q1, q2, ?_⟩
  rcases q3 with q3 | ⟨b, off, rfl, hb1, hx, _⟩
  · exact .inl q3
  · rcases r3 with r3 | ⟨b', off', e', hb', hx', hc'⟩
    · exact .inl r3
    · simp at e'
      obtain ⟨rfl, rfl⟩ := e'
      refine .inr ⟨b, off, rfl, hb', ?_, hc'⟩
      intro h
      rcases h with h | h
      · exact hx (.inl h)
      · rcases hG with hG | hG
        · exact hx (.inr (by rw [h]; exact hG))
        · omega

end Go.Proofs.Yteaebdonnicbkab
