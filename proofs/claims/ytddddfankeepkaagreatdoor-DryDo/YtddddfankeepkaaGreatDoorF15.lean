import Derived.WalkKit
namespace Go.Proofs.YtddddfankeepkaaGreatDoor.Pl
def isB (l : List Int) : Prop := ∀ z ∈ l, 0 ≤ z ∧ z < 256
theorem isB_nil : isB [] := by intro z h; cases h
theorem isB_getD {l : List Int} (h : isB l) (k : Nat) : 0 ≤ l[k]?.getD 0 ∧ l[k]?.getD 0 < 256 := by
 by_cases hk : k < l.length
 ·simp [hk]; exact h _ (List.getElem_mem hk)
 ·simp [List.getElem?_eq_none (Nat.le_of_not_lt hk)]
end Go.Proofs.YtddddfankeepkaaGreatDoor.Pl
