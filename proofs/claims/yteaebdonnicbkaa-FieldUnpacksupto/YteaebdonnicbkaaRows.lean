/-
  No cell of these rows narrows 'for every input' (looked for: loops, veiled, ifaces, maps, wideKeys, modest, calm, conditions, laid).
  DERIVED. THE GIVEN ROWS OF THIS SEAT. 6 by the template 'for every input the law returns true; each argument reads behind the call as it read before'; 0 by the template 'total and deterministic' (their statements: YteaebdonnicbkaaTotals.lean).
  GIVEN WITH THE SEED: the statements are not yours to turn. If you find one false, say at which input.
  Laid BY PROGRAM, IN A SANDBOX (cutbox-rows.mjs): the forced cells as the released guide's own fill.sh prints them over the translation 9e264121fca3a35a… (all of the seat's roots in one cut). By AI agents, Wed Nov 11 2026. No macro, syntax, notation, axiom, sorry.
-/
import Derived.Test.YteaebdonnicbkaaChecked
import GoSem.Claim
import GoSem.ClaimJoined
import GoSem.ClaimMapViews
import Derived.JoinedTies
import Derived.KernelRfl
namespace Go.Proofs.Yteaebdonnicbkaa
/- THE CELL 'sum', in the pinned program and in every row, IS THE sha256 OF THE DUMP (.gsa) THAT YteaebdonnicbkaaProg.lean LOADS. Nothing in Lean hashes anything: it is a label: what it is worth is what the hold of that sum in a sandbox is worth. -/
noncomputable def Try.pinned : Pinned := { name := "yteaebdonnicbkaa", sum := "9e264121fca3a35aaba294b5e2de70980a12a5647d0b5569b834fb25b280bf23", checked := Try.checked }
namespace Rows
def none {H : Type} : Left H := { results := [], args := [] }

/-- 'cisternlaw1.FieldStamped': WHATEVER THE INPUT: true; the input reads as it did. -/
def fieldStampedSpec : ChangeSpec := { name := "fieldStamped", fn := fun _ => fun
  | [d1, d2, d3, d4, d5, d6] => { results := [.lit (.bool true)], args := [d1, d2, d3, d4, d5, d6] }
  | _ => none }
def fieldStampedRow : OpenClaim := { program := "yteaebdonnicbkaa", sum := "9e264121fca3a35aaba294b5e2de70980a12a5647d0b5569b834fb25b280bf23", func := "cistern/cisternlaw1.FieldStamped", spec := "fieldStamped", apart := false }
def FieldStampedSaid : Prop := fieldStampedRow.holds Try.pinned (OpenSpec.ofChange fieldStampedSpec)

/-- ITS FALSE NEIGHBOUR: 'it returns false'. Refute it at one input. -/
def fieldStampedWrong : ChangeSpec := { name := "fieldStamped", fn := fun _ => fun
  | [d1, d2, d3, d4, d5, d6] => { results := [.lit (.bool false)], args := [d1, d2, d3, d4, d5, d6] }
  | _ => none }
def FieldStampedWrongFalsely : Prop := fieldStampedRow.holds Try.pinned (OpenSpec.ofChange fieldStampedWrong)

/-- 'cisternlaw1.FieldBack': WHATEVER THE INPUT: true; the input reads as it did. -/
def fieldBackSpec : ChangeSpec := { name := "fieldBack", fn := fun _ => fun
  | [d1, d2, d3] => { results := [.lit (.bool true)], args := [d1, d2, d3] }
  | _ => none }
def fieldBackRow : OpenClaim := { program := "yteaebdonnicbkaa", sum := "9e264121fca3a35aaba294b5e2de70980a12a5647d0b5569b834fb25b280bf23", func := "cistern/cisternlaw1.FieldBack", spec := "fieldBack", apart := false }
def FieldBackSaid : Prop := fieldBackRow.holds Try.pinned (OpenSpec.ofChange fieldBackSpec)

/-- ITS FALSE NEIGHBOUR: 'it returns false'. Refute it at one input. -/
def fieldBackWrong : ChangeSpec := { name := "fieldBack", fn := fun _ => fun
  | [d1, d2, d3] => { results := [.lit (.bool false)], args := [d1, d2, d3] }
  | _ => none }
def FieldBackWrongFalsely : Prop := fieldBackRow.holds Try.pinned (OpenSpec.ofChange fieldBackWrong)

/-- 'cisternlaw1.FieldSums': WHATEVER THE INPUT: true; the input reads as it did. -/
def fieldSumsSpec : ChangeSpec := { name := "fieldSums", fn := fun _ => fun
  | [d] => { results := [.lit (.bool true)], args := [d] }
  | _ => none }
def fieldSumsRow : OpenClaim := { program := "yteaebdonnicbkaa", sum := "9e264121fca3a35aaba294b5e2de70980a12a5647d0b5569b834fb25b280bf23", func := "cistern/cisternlaw1.FieldSums", spec := "fieldSums", apart := false }
def FieldSumsSaid : Prop := fieldSumsRow.holds Try.pinned (OpenSpec.ofChange fieldSumsSpec)

/-- ITS FALSE NEIGHBOUR: 'it returns false'. Refute it at one input. -/
def fieldSumsWrong : ChangeSpec := { name := "fieldSums", fn := fun _ => fun
  | [d] => { results := [.lit (.bool false)], args := [d] }
  | _ => none }
def FieldSumsWrongFalsely : Prop := fieldSumsRow.holds Try.pinned (OpenSpec.ofChange fieldSumsWrong)

/-- 'cisternlaw1.FieldPacks': WHATEVER THE INPUT: true; the input reads as it did. -/
def fieldPacksSpec : ChangeSpec := { name := "fieldPacks", fn := fun _ => fun
  | [d] => { results := [.lit (.bool true)], args := [d] }
  | _ => none }
def fieldPacksRow : OpenClaim := { program := "yteaebdonnicbkaa", sum := "9e264121fca3a35aaba294b5e2de70980a12a5647d0b5569b834fb25b280bf23", func := "cistern/cisternlaw1.FieldPacks", spec := "fieldPacks", apart := false }
def FieldPacksSaid : Prop := fieldPacksRow.holds Try.pinned (OpenSpec.ofChange fieldPacksSpec)

/-- ITS FALSE NEIGHBOUR: 'it returns false'. Refute it at one input. -/
def fieldPacksWrong : ChangeSpec := { name := "fieldPacks", fn := fun _ => fun
  | [d] => { results := [.lit (.bool false)], args := [d] }
  | _ => none }
def FieldPacksWrongFalsely : Prop := fieldPacksRow.holds Try.pinned (OpenSpec.ofChange fieldPacksWrong)

/-- 'cisternlaw1.FieldUnpacks': WHATEVER THE INPUT: true; the input reads as it did. -/
def fieldUnpacksSpec : ChangeSpec := { name := "fieldUnpacks", fn := fun _ => fun
  | [d] => { results := [.lit (.bool true)], args := [d] }
  | _ => none }
def fieldUnpacksRow : OpenClaim := { program := "yteaebdonnicbkaa", sum := "9e264121fca3a35aaba294b5e2de70980a12a5647d0b5569b834fb25b280bf23", func := "cistern/cisternlaw1.FieldUnpacks", spec := "fieldUnpacks", apart := false }
def FieldUnpacksSaid : Prop := fieldUnpacksRow.holds Try.pinned (OpenSpec.ofChange fieldUnpacksSpec)

/-- ITS FALSE NEIGHBOUR: 'it returns false'. Refute it at one input. -/
def fieldUnpacksWrong : ChangeSpec := { name := "fieldUnpacks", fn := fun _ => fun
  | [d] => { results := [.lit (.bool false)], args := [d] }
  | _ => none }
def FieldUnpacksWrongFalsely : Prop := fieldUnpacksRow.holds Try.pinned (OpenSpec.ofChange fieldUnpacksWrong)

/-- 'cisternlaw1.FieldStamps': WHATEVER THE INPUT: true; the input reads as it did. -/
def fieldStampsSpec : ChangeSpec := { name := "fieldStamps", fn := fun _ => fun
  | [d] => { results := [.lit (.bool true)], args := [d] }
  | _ => none }
def fieldStampsRow : OpenClaim := { program := "yteaebdonnicbkaa", sum := "9e264121fca3a35aaba294b5e2de70980a12a5647d0b5569b834fb25b280bf23", func := "cistern/cisternlaw1.FieldStamps", spec := "fieldStamps", apart := false }
def FieldStampsSaid : Prop := fieldStampsRow.holds Try.pinned (OpenSpec.ofChange fieldStampsSpec)

/-- ITS FALSE NEIGHBOUR: 'it returns false'. Refute it at one input. -/
def fieldStampsWrong : ChangeSpec := { name := "fieldStamps", fn := fun _ => fun
  | [d] => { results := [.lit (.bool false)], args := [d] }
  | _ => none }
def FieldStampsWrongFalsely : Prop := fieldStampsRow.holds Try.pinned (OpenSpec.ofChange fieldStampsWrong)

/- THE SECOND FORM. 'bulk': how many values and letters a reading holds, each counted each time it is reached (what is shared counts as often as it is met; a slice's spare places count too). A statement '..UptoSaid' is the law's where the arguments, and the package variables that the reading takes, are together of bulk at most 1048576: NARROWER than '..Said'. Prove '..Said' where nothing that the law and all that it calls make is longer than what came in: it says more and counts as full. Else prove '..UptoSaid'. A law counts once. -/
mutual
def uptoBulk {H : Type} : DataW H → Nat
  | .lit (.string bytes) => bytes.length + 1
  | .lit _ => 1
  | .nil => 1
  | .ptr d => uptoBulk d + 1
  | .slice elems spare => uptoBulkAll elems + uptoBulkAll spare + 1
  | .agg parts => uptoBulkAll parts + 1
  | .iface _ d => uptoBulk d + 1
  | .map entries => uptoBulkEntries entries + 1
  | .held _ => 1
def uptoBulkAll {H : Type} : List (DataW H) → Nat
  | [] => 0
  | d :: r => uptoBulk d + uptoBulkAll r
def uptoBulkEntries {H : Type} : List (Lit × DataW H) → Nat
  | [] => 0
  | x :: r => uptoBulkEntry x + uptoBulkEntries r
def uptoBulkEntry {H : Type} : Lit × DataW H → Nat
  | (.string bytes, d) => bytes.length + uptoBulk d + 1
  | (_, d) => uptoBulk d + 1
 end
def uptoSmall : (H : Type) → List (DataW H) → Bool := fun _ ds => decide (uptoBulkAll ds ≤ 1048576)
def OpenSpec.upto (s : _root_.Go.ChangeSpec) : _root_.Go.OpenSpec := { _root_.Go.OpenSpec.ofChange s with cond := some uptoSmall }

/-- 'cisternlaw1.FieldStamped', WHERE WHAT IT READS IS OF BULK AT MOST 1048576: true; the input reads as it did. -/
def fieldStampedUptoRow : OpenClaim := { program := "yteaebdonnicbkaa", sum := "9e264121fca3a35aaba294b5e2de70980a12a5647d0b5569b834fb25b280bf23", func := "cistern/cisternlaw1.FieldStamped", spec := "fieldStamped", apart := false, narrowed := true }
def FieldStampedUptoSaid : Prop := fieldStampedUptoRow.holds Try.pinned (OpenSpec.upto fieldStampedSpec)

/-- 'cisternlaw1.FieldBack', WHERE WHAT IT READS IS OF BULK AT MOST 1048576: true; the input reads as it did. -/
def fieldBackUptoRow : OpenClaim := { program := "yteaebdonnicbkaa", sum := "9e264121fca3a35aaba294b5e2de70980a12a5647d0b5569b834fb25b280bf23", func := "cistern/cisternlaw1.FieldBack", spec := "fieldBack", apart := false, narrowed := true }
def FieldBackUptoSaid : Prop := fieldBackUptoRow.holds Try.pinned (OpenSpec.upto fieldBackSpec)

/-- 'cisternlaw1.FieldSums', WHERE WHAT IT READS IS OF BULK AT MOST 1048576: true; the input reads as it did. -/
def fieldSumsUptoRow : OpenClaim := { program := "yteaebdonnicbkaa", sum := "9e264121fca3a35aaba294b5e2de70980a12a5647d0b5569b834fb25b280bf23", func := "cistern/cisternlaw1.FieldSums", spec := "fieldSums", apart := false, narrowed := true }
def FieldSumsUptoSaid : Prop := fieldSumsUptoRow.holds Try.pinned (OpenSpec.upto fieldSumsSpec)

/-- 'cisternlaw1.FieldPacks', WHERE WHAT IT READS IS OF BULK AT MOST 1048576: true; the input reads as it did. -/
def fieldPacksUptoRow : OpenClaim := { program := "yteaebdonnicbkaa", sum := "9e264121fca3a35aaba294b5e2de70980a12a5647d0b5569b834fb25b280bf23", func := "cistern/cisternlaw1.FieldPacks", spec := "fieldPacks", apart := false, narrowed := true }
def FieldPacksUptoSaid : Prop := fieldPacksUptoRow.holds Try.pinned (OpenSpec.upto fieldPacksSpec)

/-- 'cisternlaw1.FieldUnpacks', WHERE WHAT IT READS IS OF BULK AT MOST 1048576: true; the input reads as it did. -/
def fieldUnpacksUptoRow : OpenClaim := { program := "yteaebdonnicbkaa", sum := "9e264121fca3a35aaba294b5e2de70980a12a5647d0b5569b834fb25b280bf23", func := "cistern/cisternlaw1.FieldUnpacks", spec := "fieldUnpacks", apart := false, narrowed := true }
def FieldUnpacksUptoSaid : Prop := fieldUnpacksUptoRow.holds Try.pinned (OpenSpec.upto fieldUnpacksSpec)

/-- 'cisternlaw1.FieldStamps', WHERE WHAT IT READS IS OF BULK AT MOST 1048576: true; the input reads as it did. -/
def fieldStampsUptoRow : OpenClaim := { program := "yteaebdonnicbkaa", sum := "9e264121fca3a35aaba294b5e2de70980a12a5647d0b5569b834fb25b280bf23", func := "cistern/cisternlaw1.FieldStamps", spec := "fieldStamps", apart := false, narrowed := true }
def FieldStampsUptoSaid : Prop := fieldStampsUptoRow.holds Try.pinned (OpenSpec.upto fieldStampsSpec)

end Rows
end Go.Proofs.Yteaebdonnicbkaa
