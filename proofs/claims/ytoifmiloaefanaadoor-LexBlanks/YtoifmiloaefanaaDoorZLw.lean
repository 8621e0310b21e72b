import Derived.Test.YtoifmiloaefanaaDoorCards
import Derived.Test.YtoifmiloaefanaaDoorTie
import Derived.WalkKit
import Derived.ProofKit
import Derived.OpenShut
import Derived.Deep.DeepHandedRow
/-
  A world in which the listed variables hold what they must: the witness's.
-/
namespace Go.Proofs.YtoifmiloaefanaaDoor.lw
open Go.ChangeShapes Go.WideShapes Go.ChangeAt Go.RowKit

theorem ownK : ownKnob Tryd.prog.godebug = none := by kernel_rfl
theorem laidOut : laidOutB Tryd.prog = true := by kernel_rfl
/-- the values of a datum, in a row -/
def vals : Nat → DataW Unit → List Value
  | _, .lit (.int k z) => [.int k z]
  | _, .lit (.string bs) => [.string ⟨bs.toArray⟩]
  | n + 1, .agg l => l.flatMap (vals n)
  | _, _ => []
def lay (g : Nat) (cs : List Value) (h : Array Obj) : Array Obj := h.modify g fun
  | .cells _ t frozen => .cells cs.toArray t frozen
  | o => o
def two : Array Value := #[.slice none 0 0, .int .i64 0]
/-- what a witness asks of a world -/
structure Fit (w0 : World) : Prop where
  laid : ∀ args, laidMet Tryd.prog Rows.lexLongRow.laid (w0.forCall (fun _ _ => 0) ⟨#[], args, []⟩).memory
  vars : ∀ args, (w0.forCall (fun _ _ => 0) ⟨#[], args, []⟩).variablesB Tryd.prog = true
  rest : ∀ args, ((w0.forCall (fun _ _ => 0) ⟨#[], args, []⟩).heap.toList.drop Tryd.prog.globals.size).take ((begin Tryd.prog (fun _ _ => 0) default).world.heap.size - Tryd.prog.globals.size) = (begin Tryd.prog (fun _ _ => 0) default).world.heap.toList.drop Tryd.prog.globals.size
  ok3 : Input.okWideB Tryd.prog (w0.forCall (fun _ _ => 0) ⟨#[], two, []⟩) 3 ⟨#[], two, []⟩ = true
  rd3 : ∀ (H : Type) (enc : TypeId × Value → H), DataW.whole enc Tryd.prog (w0.forCall (fun _ _ => 0) ⟨#[], two, []⟩).memory Tryd.f3.params.toList [] false two.toList 8 = some ([.nil, .lit (.int .i64 0)], [], [])
set_option maxRecDepth 100000 in
theorem fits (os : Os) : ∃ w0 : World, w0.os = os ∧ Fit w0 := by
  refine ⟨{ World.holding Tryd.prog os ⟨#[], #[], []⟩ with heap := lay 0 (vals 4 Rows.laid_internal_strconv_uint64pow10) (lay 1 (vals 4 Rows.laid_math_bits_deBruijn32tab) (lay 2 (vals 4 Rows.laid_math_bits_deBruijn64tab) (World.holding Tryd.prog os ⟨#[], #[], []⟩).heap)) }, rfl, ?_⟩
  exact ⟨fun args => laidMet_of_run' 8 (by kernel_rfl) (by kernel_rfl), fun args => (by kernel_rfl), fun args => (by kernel_rfl), (by kernel_rfl), fun H enc => (by kernel_rfl)⟩

end Go.Proofs.YtoifmiloaefanaaDoor.lw
