/-
  lex: skip, refused, begun.
-/
import Derived.Test.YtbllaacbeagljaaGreatDoorSc1
namespace Go.Proofs.YtbllaacbeagljaaGreatDoor
open Go.RowKit

theorem tells48 : Tells 181 isWd := ⟨fun _ _ => by kernel_rfl, isOfWord_any⟩
theorem tells50 : Tells 184 isDig := ⟨fun _ _ => by kernel_rfl, isDigit_any⟩

end Go.Proofs.YtbllaacbeagljaaGreatDoor
