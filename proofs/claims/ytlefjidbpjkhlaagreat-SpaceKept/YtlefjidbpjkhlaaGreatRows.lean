/-
  No cell of these rows narrows 'for every input' (looked for: loops, veiled, ifaces, maps, wideKeys, modest, calm, conditions, laid).
  DERIVED. THE GIVEN ROWS OF THIS SEAT. 4 by the template 'for every input the law returns true; each argument reads behind the call as it read before'; 0 by the template 'total and deterministic' (their statements: YtlefjidbpjkhlaaGreatTotals.lean).
  GIVEN WITH THE SEED: the statements are not yours to turn. If you find one false, say at which input.
  Laid BY PROGRAM, IN A SANDBOX (cutbox-rows.mjs): the forced cells as the released guide's own fill.sh prints them over the translation 85242e1c9549fe99… (all of the seat's roots in one cut). By AI agents, Wed Nov 11 2026. No macro, syntax, notation, axiom, sorry.
-/
import Derived.Test.YtlefjidbpjkhlaaGreatChecked
import GoSem.Claim
import GoSem.ClaimJoined
import GoSem.ClaimMapViews
import Derived.JoinedTies
import Derived.KernelRfl
namespace Go.Proofs.YtlefjidbpjkhlaaGreat
/- THE CELL 'sum', in the pinned program and in every row, IS THE sha256 OF THE DUMP (.gsa) THAT YtlefjidbpjkhlaaGreatProg.lean LOADS. Nothing in Lean hashes anything: it is a label: what it is worth is what the hold of that sum in a sandbox is worth. -/
noncomputable def Tryz.pinned : Pinned := { name := "ytlefjidbpjkhlaagreat", sum := "85242e1c9549fe9964367561f28012c8a0c9488005a9acb24c81da7a632870dd", checked := Tryz.checked }
namespace Rows
def none {H : Type} : Left H := { results := [], args := [] }

/-- 'cisternlaw6.SpaceDrains': WHATEVER THE INPUT: true; the input reads as it did. -/
def spaceDrainsSpec : ChangeSpec := { name := "spaceDrains", fn := fun _ => fun
  | [d1, d2, d3, d4] => { results := [.lit (.bool true)], args := [d1, d2, d3, d4] }
  | _ => none }
def spaceDrainsRow : OpenClaim := { program := "ytlefjidbpjkhlaagreat", sum := "85242e1c9549fe9964367561f28012c8a0c9488005a9acb24c81da7a632870dd", func := "cistern/cisternlaw6.SpaceDrains", spec := "spaceDrains", unfollowed := true, recurses := true, apart := false }
def SpaceDrainsSaid : Prop := spaceDrainsRow.holds Tryz.pinned (OpenSpec.ofChange spaceDrainsSpec)

/-- ITS FALSE NEIGHBOUR: 'it returns false'. Refute it at one input. -/
def spaceDrainsWrong : ChangeSpec := { name := "spaceDrains", fn := fun _ => fun
  | [d1, d2, d3, d4] => { results := [.lit (.bool false)], args := [d1, d2, d3, d4] }
  | _ => none }
def SpaceDrainsWrongFalsely : Prop := spaceDrainsRow.holds Tryz.pinned (OpenSpec.ofChange spaceDrainsWrong)

/-- 'cisternlaw6.SpaceNumbers': WHATEVER THE INPUT: true; the input reads as it did. -/
def spaceNumbersSpec : ChangeSpec := { name := "spaceNumbers", fn := fun _ => fun
  | [d1, d2, d3] => { results := [.lit (.bool true)], args := [d1, d2, d3] }
  | _ => none }
def spaceNumbersRow : OpenClaim := { program := "ytlefjidbpjkhlaagreat", sum := "85242e1c9549fe9964367561f28012c8a0c9488005a9acb24c81da7a632870dd", func := "cistern/cisternlaw6.SpaceNumbers", spec := "spaceNumbers", unfollowed := true, recurses := true, apart := false }
def SpaceNumbersSaid : Prop := spaceNumbersRow.holds Tryz.pinned (OpenSpec.ofChange spaceNumbersSpec)

/-- ITS FALSE NEIGHBOUR: 'it returns false'. Refute it at one input. -/
def spaceNumbersWrong : ChangeSpec := { name := "spaceNumbers", fn := fun _ => fun
  | [d1, d2, d3] => { results := [.lit (.bool false)], args := [d1, d2, d3] }
  | _ => none }
def SpaceNumbersWrongFalsely : Prop := spaceNumbersRow.holds Tryz.pinned (OpenSpec.ofChange spaceNumbersWrong)

/-- 'cisternlaw6.SpaceKept': WHATEVER THE INPUT: true; the input reads as it did. -/
def spaceKeptSpec : ChangeSpec := { name := "spaceKept", fn := fun _ => fun
  | [d1, d2, d3] => { results := [.lit (.bool true)], args := [d1, d2, d3] }
  | _ => none }
def spaceKeptRow : OpenClaim := { program := "ytlefjidbpjkhlaagreat", sum := "85242e1c9549fe9964367561f28012c8a0c9488005a9acb24c81da7a632870dd", func := "cistern/cisternlaw6.SpaceKept", spec := "spaceKept", unfollowed := true, recurses := true, apart := false }
def SpaceKeptSaid : Prop := spaceKeptRow.holds Tryz.pinned (OpenSpec.ofChange spaceKeptSpec)

/-- ITS FALSE NEIGHBOUR: 'it returns false'. Refute it at one input. -/
def spaceKeptWrong : ChangeSpec := { name := "spaceKept", fn := fun _ => fun
  | [d1, d2, d3] => { results := [.lit (.bool false)], args := [d1, d2, d3] }
  | _ => none }
def SpaceKeptWrongFalsely : Prop := spaceKeptRow.holds Tryz.pinned (OpenSpec.ofChange spaceKeptWrong)

/-- 'cisternlaw6.SpacePlays': WHATEVER THE INPUT: true; the input reads as it did. -/
def spacePlaysSpec : ChangeSpec := { name := "spacePlays", fn := fun _ => fun
  | [d1, d2, d3] => { results := [.lit (.bool true)], args := [d1, d2, d3] }
  | _ => none }
def spacePlaysRow : OpenClaim := { program := "ytlefjidbpjkhlaagreat", sum := "85242e1c9549fe9964367561f28012c8a0c9488005a9acb24c81da7a632870dd", func := "cistern/cisternlaw6.SpacePlays", spec := "spacePlays", unfollowed := true, recurses := true, apart := false }
def SpacePlaysSaid : Prop := spacePlaysRow.holds Tryz.pinned (OpenSpec.ofChange spacePlaysSpec)

/-- ITS FALSE NEIGHBOUR: 'it returns false'. Refute it at one input. -/
def spacePlaysWrong : ChangeSpec := { name := "spacePlays", fn := fun _ => fun
  | [d1, d2, d3] => { results := [.lit (.bool false)], args := [d1, d2, d3] }
  | _ => none }
def SpacePlaysWrongFalsely : Prop := spacePlaysRow.holds Tryz.pinned (OpenSpec.ofChange spacePlaysWrong)

/- THE SECOND FORM. 'bulk': how many values and letters a reading holds, each counted each time it is reached (what is shared counts as often as it is met; a slice's spare places count too). A statement '..UptoSaid' is the law's where the arguments, and the package variables that the reading takes, are together of bulk at most 1048576: NARROWER than '..Said'. Prove '..Said' where nothing that the law and all that it calls make is longer than what came in: it says more and counts as full. Else prove '..UptoSaid'. A law counts once. -/
mutual
def uptoBulk {H : Type} : DataW H → Nat
  | .lit (.string bytes) => bytes.length + 1
  | .lit _ => 1
  | .nil => 1
  | .ptr d => uptoBulk d + 1
  | .slice elems spare => uptoBulkAll elems + uptoBulkAll spare + 1
  | .agg parts => uptoBulkAll parts + 1
  | .iface _ d => uptoBulk d + 1
  | .map entries => uptoBulkEntries entries + 1
  | .held _ => 1
def uptoBulkAll {H : Type} : List (DataW H) → Nat
  | [] => 0
  | d :: r => uptoBulk d + uptoBulkAll r
def uptoBulkEntries {H : Type} : List (Lit × DataW H) → Nat
  | [] => 0
  | x :: r => uptoBulkEntry x + uptoBulkEntries r
def uptoBulkEntry {H : Type} : Lit × DataW H → Nat
  | (.string bytes, d) => bytes.length + uptoBulk d + 1
  | (_, d) => uptoBulk d + 1
 end
def uptoSmall : (H : Type) → List (DataW H) → Bool := fun _ ds => decide (uptoBulkAll ds ≤ 1048576)
def OpenSpec.upto (s : _root_.Go.ChangeSpec) : _root_.Go.OpenSpec := { _root_.Go.OpenSpec.ofChange s with cond := some uptoSmall }

/-- 'cisternlaw6.SpaceDrains', WHERE WHAT IT READS IS OF BULK AT MOST 1048576: true; the input reads as it did. -/
def spaceDrainsUptoRow : OpenClaim := { program := "ytlefjidbpjkhlaagreat", sum := "85242e1c9549fe9964367561f28012c8a0c9488005a9acb24c81da7a632870dd", func := "cistern/cisternlaw6.SpaceDrains", spec := "spaceDrains", unfollowed := true, recurses := true, apart := false, narrowed := true }
def SpaceDrainsUptoSaid : Prop := spaceDrainsUptoRow.holds Tryz.pinned (OpenSpec.upto spaceDrainsSpec)

/-- 'cisternlaw6.SpaceNumbers', WHERE WHAT IT READS IS OF BULK AT MOST 1048576: true; the input reads as it did. -/
def spaceNumbersUptoRow : OpenClaim := { program := "ytlefjidbpjkhlaagreat", sum := "85242e1c9549fe9964367561f28012c8a0c9488005a9acb24c81da7a632870dd", func := "cistern/cisternlaw6.SpaceNumbers", spec := "spaceNumbers", unfollowed := true, recurses := true, apart := false, narrowed := true }
def SpaceNumbersUptoSaid : Prop := spaceNumbersUptoRow.holds Tryz.pinned (OpenSpec.upto spaceNumbersSpec)

/-- 'cisternlaw6.SpaceKept', WHERE WHAT IT READS IS OF BULK AT MOST 1048576: true; the input reads as it did. -/
def spaceKeptUptoRow : OpenClaim := { program := "ytlefjidbpjkhlaagreat", sum := "85242e1c9549fe9964367561f28012c8a0c9488005a9acb24c81da7a632870dd", func := "cistern/cisternlaw6.SpaceKept", spec := "spaceKept", unfollowed := true, recurses := true, apart := false, narrowed := true }
def SpaceKeptUptoSaid : Prop := spaceKeptUptoRow.holds Tryz.pinned (OpenSpec.upto spaceKeptSpec)

/-- 'cisternlaw6.SpacePlays', WHERE WHAT IT READS IS OF BULK AT MOST 1048576: true; the input reads as it did. -/
def spacePlaysUptoRow : OpenClaim := { program := "ytlefjidbpjkhlaagreat", sum := "85242e1c9549fe9964367561f28012c8a0c9488005a9acb24c81da7a632870dd", func := "cistern/cisternlaw6.SpacePlays", spec := "spacePlays", unfollowed := true, recurses := true, apart := false, narrowed := true }
def SpacePlaysUptoSaid : Prop := spacePlaysUptoRow.holds Tryz.pinned (OpenSpec.upto spacePlaysSpec)

end Rows
end Go.Proofs.YtlefjidbpjkhlaaGreat
