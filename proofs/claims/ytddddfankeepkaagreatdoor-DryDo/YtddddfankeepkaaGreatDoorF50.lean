import Derived.Test.YtddddfankeepkaaGreatDoorCards
import Derived.Test.YtddddfankeepkaaGreatDoorTie
import Derived.WalkKit
import Derived.ProofKit
import Derived.OpenShut
import Derived.Deep.DeepHandedRow
namespace Go.Proofs.YtddddfankeepkaaGreatDoor.lw
open Go.ChangeShapes Go.WideShapes Go.ChangeAt Go.RowKit
theorem ownK : ownKnob Tryz.prog.godebug = none := by kernel_rfl
theorem laidOut : laidOutB Tryz.prog = true := by kernel_rfl
def vals : Nat → DataW Unit → List Value
 | _, .lit (.int k z) => [.int k z]
 | _, .lit (.string bs) => [.string ⟨bs.toArray⟩]
 | n + 1, .agg l => l.flatMap (vals n)
 | _, _ => []
def lay (g : Nat) (cs : List Value) (h : Array Obj) : Array Obj := h.modify g fun
 | .cells _ t frozen => .cells cs.toArray t frozen
 | o => o
def vw : Value := .agg #[.int .i64 0, .int .i64 0, .int .i64 0, .slice none 0 0]
def four : Array Value := #[vw, .slice none 0 0, .slice none 0 0, .int .i64 0]
def pair : Array Value := #[vw, .slice none 0 0]
def vo : Array Value := #[vw, .agg #[.int .i64 0, .string ⟨#[]⟩, .string ⟨#[]⟩, .int .i64 0, .int .i64 0, .slice none 0 0]]
structure Fit (w0 : World) : Prop where
 laid : ∀ args, laidMet Tryz.prog Rows.dryThroughUptoRow.laid (w0.forCall (fun _ _ => 0) ⟨#[], args, []⟩).memory
 vars : ∀ args, (w0.forCall (fun _ _ => 0) ⟨#[], args, []⟩).variablesB Tryz.prog = true
 rest : ∀ args, ((w0.forCall (fun _ _ => 0) ⟨#[], args, []⟩).heap.toList.drop Tryz.prog.globals.size).take ((begin Tryz.prog (fun _ _ => 0) default).world.heap.size - Tryz.prog.globals.size) = (begin Tryz.prog (fun _ _ => 0) default).world.heap.toList.drop Tryz.prog.globals.size
 ok3 : Input.okWideB Tryz.prog (w0.forCall (fun _ _ => 0) ⟨#[], four, []⟩) 3 ⟨#[], four, []⟩ = true
 ok4 : Input.okWideB Tryz.prog (w0.forCall (fun _ _ => 0) ⟨#[], vo, []⟩) 4 ⟨#[], vo, []⟩ = true
 ok5 : Input.okWideB Tryz.prog (w0.forCall (fun _ _ => 0) ⟨#[], pair, []⟩) 5 ⟨#[], pair, []⟩ = true
 ok6 : Input.okWideB Tryz.prog (w0.forCall (fun _ _ => 0) ⟨#[], pair, []⟩) 6 ⟨#[], pair, []⟩ = true
 rd3 : ∀ (H : Type) (enc : TypeId × Value → H), DataW.whole enc Tryz.prog (w0.forCall (fun _ _ => 0) ⟨#[], four, []⟩).memory Tryz.f3.params.toList [] false four.toList 8 = some ([.agg [.lit (.int .i64 0), .lit (.int .i64 0), .lit (.int .i64 0), .nil], .nil, .nil, .lit (.int .i64 0)], [], [])
 rd4 : ∀ (H : Type) (enc : TypeId × Value → H), DataW.whole enc Tryz.prog (w0.forCall (fun _ _ => 0) ⟨#[], vo, []⟩).memory Tryz.f4.params.toList [] false vo.toList 8 = some ([.agg [.lit (.int .i64 0), .lit (.int .i64 0), .lit (.int .i64 0), .nil], .agg [.lit (.int .i64 0), .lit (.string []), .lit (.string []), .lit (.int .i64 0), .lit (.int .i64 0), .nil]], [], [])
 rd5 : ∀ (H : Type) (enc : TypeId × Value → H), DataW.whole enc Tryz.prog (w0.forCall (fun _ _ => 0) ⟨#[], pair, []⟩).memory Tryz.f5.params.toList [] false pair.toList 8 = some ([.agg [.lit (.int .i64 0), .lit (.int .i64 0), .lit (.int .i64 0), .nil], .nil], [], [])
 rd6 : ∀ (H : Type) (enc : TypeId × Value → H), DataW.whole enc Tryz.prog (w0.forCall (fun _ _ => 0) ⟨#[], pair, []⟩).memory Tryz.f6.params.toList [] false pair.toList 8 = some ([.agg [.lit (.int .i64 0), .lit (.int .i64 0), .lit (.int .i64 0), .nil], .nil], [], [])
set_option maxRecDepth 100000 in
theorem fits (os : Os) : ∃ w0 : World, w0.os = os ∧ Fit w0 := by
 refine ⟨{ World.holding Tryz.prog os ⟨#[], #[], []⟩ with heap := lay 0 (vals 4 Rows.laid_cistern_op_forms) (World.holding Tryz.prog os ⟨#[], #[], []⟩).heap }, rfl, ?_⟩
 exact ⟨fun args => laidMet_of_run' 8 (by kernel_rfl) (by kernel_rfl), fun args => (by kernel_rfl), fun args => (by kernel_rfl), (by kernel_rfl), (by kernel_rfl), (by kernel_rfl), (by kernel_rfl), fun H enc => (by kernel_rfl), fun H enc => (by kernel_rfl), fun H enc => (by kernel_rfl), fun H enc => (by kernel_rfl)⟩
end Go.Proofs.YtddddfankeepkaaGreatDoor.lw
