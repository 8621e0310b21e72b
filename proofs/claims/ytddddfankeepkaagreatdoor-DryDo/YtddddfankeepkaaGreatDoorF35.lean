import Derived.Test.YtddddfankeepkaaGreatDoorF34
import Derived.Test.YtddddfankeepkaaGreatDoorF03
namespace Go.Proofs.YtddddfankeepkaaGreatDoor
open Go.RowKit
theorem set_drop {α : Type} (A Z : List α) (v : α) {k : Nat} (hk : k = A.length) (h : k < Z.length) : (A ++ Z.drop k).set k v = (A ++ [v]) ++ Z.drop (k + 1) := by
 rw [List.set_append_right _ _ (by omega), hk, Nat.sub_self, ← hk, List.drop_eq_getElem_cons h, List.set_cons_zero, List.append_assoc]
 rfl
end Go.Proofs.YtddddfankeepkaaGreatDoor
