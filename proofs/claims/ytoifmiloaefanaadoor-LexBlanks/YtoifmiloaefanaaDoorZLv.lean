import Derived.Test.YtoifmiloaefanaaDoorZLw
/-
  The witness's world, for the laws of tokens.
-/
namespace Go.Proofs.YtoifmiloaefanaaDoor.lw
open Go.ChangeShapes Go.WideShapes Go.ChangeAt Go.RowKit

def one : Array Value := #[.slice none 0 0]
def both : Array Value := #[.slice none 0 0, .slice none 0 0]
/-- what a witness asks of a world -/
structure FitT (w0 : World) : Prop where
  laid : ∀ args, laidMet Tryd.prog Rows.lexLongRow.laid (w0.forCall (fun _ _ => 0) ⟨#[], args, []⟩).memory
  vars : ∀ args, (w0.forCall (fun _ _ => 0) ⟨#[], args, []⟩).variablesB Tryd.prog = true
  rest : ∀ args, ((w0.forCall (fun _ _ => 0) ⟨#[], args, []⟩).heap.toList.drop Tryd.prog.globals.size).take ((begin Tryd.prog (fun _ _ => 0) default).world.heap.size - Tryd.prog.globals.size) = (begin Tryd.prog (fun _ _ => 0) default).world.heap.toList.drop Tryd.prog.globals.size
  ok4 : Input.okWideB Tryd.prog (w0.forCall (fun _ _ => 0) ⟨#[], one, []⟩) 4 ⟨#[], one, []⟩ = true
  ok5 : Input.okWideB Tryd.prog (w0.forCall (fun _ _ => 0) ⟨#[], both, []⟩) 5 ⟨#[], both, []⟩ = true
  ok6 : Input.okWideB Tryd.prog (w0.forCall (fun _ _ => 0) ⟨#[], one, []⟩) 6 ⟨#[], one, []⟩ = true
  rd4 : ∀ (H : Type) (enc : TypeId × Value → H), DataW.whole enc Tryd.prog (w0.forCall (fun _ _ => 0) ⟨#[], one, []⟩).memory Tryd.f4.params.toList [] false one.toList 8 = some ([.nil], [], [])
  rd5 : ∀ (H : Type) (enc : TypeId × Value → H), DataW.whole enc Tryd.prog (w0.forCall (fun _ _ => 0) ⟨#[], both, []⟩).memory Tryd.f5.params.toList [] false both.toList 8 = some ([.nil, .nil], [], [])
  rd6 : ∀ (H : Type) (enc : TypeId × Value → H), DataW.whole enc Tryd.prog (w0.forCall (fun _ _ => 0) ⟨#[], one, []⟩).memory Tryd.f6.params.toList [] false one.toList 8 = some ([.nil], [], [])
set_option maxRecDepth 100000 in
theorem fitsT (os : Os) : ∃ w0 : World, w0.os = os ∧ FitT w0 := by
  refine ⟨{ World.holding Tryd.prog os ⟨#[], #[], []⟩ with heap := lay 0 (vals 4 Rows.laid_internal_strconv_uint64pow10) (lay 1 (vals 4 Rows.laid_math_bits_deBruijn32tab) (lay 2 (vals 4 Rows.laid_math_bits_deBruijn64tab) (World.holding Tryd.prog os ⟨#[], #[], []⟩).heap)) }, rfl, ?_⟩
  exact ⟨fun args => laidMet_of_run' 8 (by kernel_rfl) (by kernel_rfl), fun args => (by kernel_rfl), fun args => (by kernel_rfl), (by kernel_rfl), (by kernel_rfl), (by kernel_rfl), fun H enc => (by kernel_rfl), fun H enc => (by kernel_rfl), fun H enc => (by kernel_rfl)⟩

end Go.Proofs.YtoifmiloaefanaaDoor.lw
