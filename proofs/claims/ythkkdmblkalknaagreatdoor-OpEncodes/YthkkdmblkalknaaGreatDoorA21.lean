import Derived.Test.YthkkdmblkalknaaGreatDoorCards
import Derived.Test.YthkkdmblkalknaaGreatDoorTie
import Derived.WalkKit
import Derived.ProofKit
import Derived.OpenShut
import Derived.Deep.DeepHandedRow
/-
  A world in which the listed variables hold what they must: the witness's.
-/
namespace Go.Proofs.YthkkdmblkalknaaGreatDoor.lw
open Go.ChangeShapes Go.WideShapes Go.ChangeAt Go.RowKit

theorem ownK : ownKnob Tryz.prog.godebug = none := by kernel_rfl
theorem laidOut : laidOutB Tryz.prog = true := by kernel_rfl
/-- the values of a datum, in a row -/
def vals : Nat → DataW Unit → List Value
  | _, .lit (.int k z) => [.int k z]
  | _, .lit (.string bs) => [.string ⟨bs.toArray⟩]
  | n + 1, .agg l => l.flatMap (vals n)
  | _, _ => []
def lay (g : Nat) (cs : List Value) (h : Array Obj) : Array Obj := h.modify g fun
  | .cells _ t frozen => .cells cs.toArray t frozen
  | o => o
def str1 : DataW Unit → ByteArray
  | .iface _ (.ptr (.agg [.lit (.string bs)])) => ⟨bs.toArray⟩
  | _ => ⟨#[]⟩
def four : Array Value := #[.slice none 0 0, .slice none 0 0, .string ⟨#[]⟩, .int .i64 0]
def one : Array Value := #[.slice none 0 0]
/-- what a witness asks of a world -/
structure Fit (w0 : World) : Prop where
  laid : ∀ args, laidMet Tryz.prog Rows.opOneFormUptoRow.laid (w0.forCall (fun _ _ => 0) ⟨#[], args, []⟩).memory
  vars : ∀ args, (w0.forCall (fun _ _ => 0) ⟨#[], args, []⟩).variablesB Tryz.prog = true
  rest : ∀ args, ((w0.forCall (fun _ _ => 0) ⟨#[], args, []⟩).heap.toList.drop Tryz.prog.globals.size).take ((begin Tryz.prog (fun _ _ => 0) default).world.heap.size - Tryz.prog.globals.size) = (begin Tryz.prog (fun _ _ => 0) default).world.heap.toList.drop Tryz.prog.globals.size
  ok3 : Input.okWideB Tryz.prog (w0.forCall (fun _ _ => 0) ⟨#[], four, []⟩) 3 ⟨#[], four, []⟩ = true
  ok4 : Input.okWideB Tryz.prog (w0.forCall (fun _ _ => 0) ⟨#[], one, []⟩) 4 ⟨#[], one, []⟩ = true
  ok5 : Input.okWideB Tryz.prog (w0.forCall (fun _ _ => 0) ⟨#[], one, []⟩) 5 ⟨#[], one, []⟩ = true
  ok6 : Input.okWideB Tryz.prog (w0.forCall (fun _ _ => 0) ⟨#[], one, []⟩) 6 ⟨#[], one, []⟩ = true
  ok7 : Input.okWideB Tryz.prog (w0.forCall (fun _ _ => 0) ⟨#[], one, []⟩) 7 ⟨#[], one, []⟩ = true
  ok8 : Input.okWideB Tryz.prog (w0.forCall (fun _ _ => 0) ⟨#[], one, []⟩) 8 ⟨#[], one, []⟩ = true
  rd3 : ∀ (H : Type) (enc : TypeId × Value → H), DataW.whole enc Tryz.prog (w0.forCall (fun _ _ => 0) ⟨#[], four, []⟩).memory Tryz.f3.params.toList [] false four.toList 8 = some ([.nil, .nil, .lit (.string []), .lit (.int .i64 0)], [], [])
  rd4 : ∀ (H : Type) (enc : TypeId × Value → H), DataW.whole enc Tryz.prog (w0.forCall (fun _ _ => 0) ⟨#[], one, []⟩).memory Tryz.f4.params.toList [] false one.toList 8 = some ([.nil], [], [])
  rd5 : ∀ (H : Type) (enc : TypeId × Value → H), DataW.whole enc Tryz.prog (w0.forCall (fun _ _ => 0) ⟨#[], one, []⟩).memory Tryz.f5.params.toList [] false one.toList 8 = some ([.nil], [], [])
  rd6 : ∀ (H : Type) (enc : TypeId × Value → H), DataW.whole enc Tryz.prog (w0.forCall (fun _ _ => 0) ⟨#[], one, []⟩).memory Tryz.f6.params.toList [] false one.toList 8 = some ([.nil], [], [])
  rd7 : ∀ (H : Type) (enc : TypeId × Value → H), DataW.whole enc Tryz.prog (w0.forCall (fun _ _ => 0) ⟨#[], one, []⟩).memory Tryz.f7.params.toList [] false one.toList 8 = some ([.nil], [], [])
  rd8 : ∀ (H : Type) (enc : TypeId × Value → H), DataW.whole enc Tryz.prog (w0.forCall (fun _ _ => 0) ⟨#[], one, []⟩).memory Tryz.f8.params.toList [] false one.toList 8 = some ([.nil], [], [])
set_option maxRecDepth 100000 in
theorem fits (os : Os) : ∃ w0 : World, w0.os = os ∧ Fit w0 := by
  refine ⟨{ World.holding Tryz.prog os ⟨#[.cells #[.string (str1 Rows.laid_strconv_ErrSyntax)] 209, .cells #[.string (str1 Rows.laid_strconv_ErrRange)] 209], #[], []⟩ with heap := lay 0 (vals 4 Rows.laid_cistern_op_forms) (lay 2 (vals 4 Rows.laid_internal_strconv_uint64pow10) (lay 3 (vals 4 Rows.laid_unicode_utf8_first) (lay 4 (vals 4 Rows.laid_unicode_utf8_acceptRanges)
      (lay 5 [.iface 207 (.pointer (some ⟨14, 0, none⟩))] (lay 6 [.iface 207 (.pointer (some ⟨15, 0, none⟩))] (lay 7 (vals 4 Rows.laid_math_bits_deBruijn32tab) (lay 8 (vals 4 Rows.laid_math_bits_deBruijn64tab) (World.holding Tryz.prog os ⟨#[.cells #[.string (str1 Rows.laid_strconv_ErrSyntax)] 209, .cells #[.string (str1 Rows.laid_strconv_ErrRange)] 209], #[], []⟩).heap))))))) }, rfl, ?_⟩
  exact ⟨fun args => laidMet_of_run' 8 (by kernel_rfl) (by kernel_rfl), fun args => (by kernel_rfl), fun args => (by kernel_rfl), (by kernel_rfl), (by kernel_rfl), (by kernel_rfl), (by kernel_rfl), (by kernel_rfl), (by kernel_rfl), fun H enc => (by kernel_rfl), fun H enc => (by kernel_rfl), fun H enc => (by kernel_rfl), fun H enc => (by kernel_rfl), fun H enc => (by kernel_rfl), fun H enc => (by kernel_rfl)⟩

end Go.Proofs.YthkkdmblkalknaaGreatDoor.lw
