import Derived.WalkKit
/-
  PLAIN: numbers in bytes, the lowest first; the sum, bit by bit and by halves of a byte. No program in it.
-/
namespace Go.Proofs.YtddddfankeepkaaGreatDoor.Pl

def isB (l : List Int) : Prop := ∀ z ∈ l, 0 ≤ z ∧ z < 256

theorem isB_nil : isB [] := by intro z h; cases h
theorem isB_cons {z : Int} {l : List Int} : isB (z :: l) ↔ (0 ≤ z ∧ z < 256) ∧ isB l := by simp [isB]
theorem isB_append {a b : List Int} : isB (a ++ b) ↔ isB a ∧ isB b := by
  simp only [isB, List.mem_append]
  exact ⟨fun h => ⟨fun z hz => h z (.inl hz), fun z hz => h z (.inr hz)⟩, fun h z hz => hz.elim (h.1 z) (h.2 z)⟩
theorem isB_take {l : List Int} (h : isB l) (n : Nat) : isB (l.take n) := fun z hz => h z (List.mem_of_mem_take hz)
theorem isB_drop {l : List Int} (h : isB l) (n : Nat) : isB (l.drop n) := fun z hz => h z (List.mem_of_mem_drop hz)
theorem isB_getD {l : List Int} (h : isB l) (k : Nat) : 0 ≤ l[k]?.getD 0 ∧ l[k]?.getD 0 < 256 := by
  by_cases hk : k < l.length
  · simp [hk]; exact h _ (List.getElem_mem hk)
  · simp [List.getElem?_eq_none (Nat.le_of_not_lt hk)]
theorem isB_zeros (n : Nat) : isB (List.replicate n 0) := by
  intro z hz; rw [List.mem_replicate] at hz; omega
end Go.Proofs.YtddddfankeepkaaGreatDoor.Pl
