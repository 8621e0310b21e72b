/-
  NARROWER THAN 'FOR EVERY INPUT', by the rows' own cells (each row's printed sentence says how): DryThrough: laid · DryDo: laid · DryAll: laid · DryNew: laid.
  DERIVED. THE GIVEN ROWS OF THIS SEAT. 4 by the template 'for every input the law returns true; each argument reads behind the call as it read before'; 0 by the template 'total and deterministic' (their statements: YtddddfankeepkaaGreatDoorTotals.lean).
  GIVEN WITH THE SEED: the statements are not yours to turn. If you find one false, say at which input.
  Laid BY PROGRAM, IN A SANDBOX (cutbox-rows.mjs): the forced cells as the released guide's own fill.sh prints them over the translation cd64b7fb887e5110… (all of the seat's roots in one cut). By AI agents, Wed Nov 11 2026. No macro, syntax, notation, axiom, sorry.
-/
import Derived.Test.YtddddfankeepkaaGreatDoorChecked
import GoSem.Claim
import GoSem.ClaimJoined
import GoSem.ClaimMapViews
import Derived.JoinedTies
import Derived.KernelRfl
namespace Go.Proofs.YtddddfankeepkaaGreatDoor
/- THE CELL 'sum', in the pinned program and in every row, IS THE sha256 OF THE DUMP (.gsa) THAT YtddddfankeepkaaGreatDoorProg.lean LOADS. Nothing in Lean hashes anything: it is a label: what it is worth is what the hold of that sum in a sandbox is worth. -/
noncomputable def Tryz.pinned : Pinned := { name := "ytddddfankeepkaagreatdoor", sum := "cd64b7fb887e511048ca4534e3280b76af9d91ce5093c5f63ac6b3798f5f2fdf", checked := Tryz.checked }
namespace Rows
def none {H : Type} : Left H := { results := [], args := [] }

/- WHAT THE LISTED PACKAGE-LEVEL VARIABLES READ AS WHEN THE CALL BEGINS. Each datum BY PROGRAM (the guide's laid-datum.mjs) off the statement by which the dump's own 'gosem.cut.vars' lays the variable. In a bare row this is a premise. The card (YtddddfankeepkaaGreatDoorCards.lean) ties it to the program's text. -/
def laid_cistern_op_forms {H : Type} : DataW H := .agg [.agg [.lit (.string []), .lit (.string []), .lit (.string []), .lit (.string [])], .agg [.lit (.string [99, 114, 101, 97, 116, 101]), .lit (.string [78, 65, 77, 69]), .lit (.string [84, 79]), .lit (.string [])], .agg [.lit (.string [115, 110, 97, 112]), .lit (.string [78, 65, 77, 69]), .lit (.string [111, 102]), .lit (.string [79, 84, 72, 69, 82])], .agg [.lit (.string [99, 108, 111, 110, 101]), .lit (.string [78, 65, 77, 69]), .lit (.string [111, 102]), .lit (.string [79, 84, 72, 69, 82])], .agg [.lit (.string [114, 101, 115, 105, 122, 101]), .lit (.string [78, 65, 77, 69]), .lit (.string [84, 79]), .lit (.string [])], .agg [.lit (.string [114, 101, 110, 97, 109, 101]), .lit (.string [78, 65, 77, 69]), .lit (.string [116, 111]), .lit (.string [79, 84, 72, 69, 82])], .agg [.lit (.string [100, 101, 108, 101, 116, 101]), .lit (.string [78, 65, 77, 69]), .lit (.string []), .lit (.string [])], .agg [.lit (.string [114, 101, 115, 116, 111, 114, 101]), .lit (.string [78, 65, 77, 69]), .lit (.string [102, 114, 111, 109]), .lit (.string [79, 84, 72, 69, 82])], .agg [.lit (.string [119, 114, 105, 116, 101]), .lit (.string [78, 65, 77, 69]), .lit (.string [70, 82, 79, 77]), .lit (.string [68, 65, 84, 65])], .agg [.lit (.string [100, 105, 115, 99, 97, 114, 100]), .lit (.string [78, 65, 77, 69]), .lit (.string [70, 82, 79, 77]), .lit (.string [84, 79])], .agg [.lit (.string [102, 105, 108, 108]), .lit (.string [78, 65, 77, 69]), .lit (.string [70, 82, 79, 77]), .lit (.string [84, 79])], .agg [.lit (.string [101, 120, 116, 101, 110, 100]), .lit (.string [84, 79]), .lit (.string []), .lit (.string [])]]

/-- 'cisternlaw21.DryThrough': WHATEVER THE INPUT: true; the input reads as it did. -/
def dryThroughSpec : ChangeSpec := { name := "dryThrough", fn := fun _ => fun
  | [d1, d2, d3, d4] => { results := [.lit (.bool true)], args := [d1, d2, d3, d4] }
  | _ => none }
def dryThroughRow : OpenClaim := { program := "ytddddfankeepkaagreatdoor", sum := "cd64b7fb887e511048ca4534e3280b76af9d91ce5093c5f63ac6b3798f5f2fdf", func := "cistern/cisternlaw21.DryThrough", spec := "dryThrough", inPlace := ["internal/bytealg.abigen_runtime_cmpstring", "slices.overlaps[cistern/api.Volume]", "slices.overlaps[cistern/api.Range]", "internal/bytealg.IndexByteString", "internal/bytealg.IndexString"], unfollowed := true, recurses := true, named := ["cistern/op.forms", "internal/bytealg.MaxLen"], apart := false, laid := [("cistern/op.forms", laid_cistern_op_forms)] }
def DryThroughSaid : Prop := dryThroughRow.holds Tryz.pinned (OpenSpec.ofChange dryThroughSpec)

/-- ITS FALSE NEIGHBOUR: 'it returns false'. Refute it at one input. -/
def dryThroughWrong : ChangeSpec := { name := "dryThrough", fn := fun _ => fun
  | [d1, d2, d3, d4] => { results := [.lit (.bool false)], args := [d1, d2, d3, d4] }
  | _ => none }
def DryThroughWrongFalsely : Prop := dryThroughRow.holds Tryz.pinned (OpenSpec.ofChange dryThroughWrong)

/-- 'cisternlaw21.DryDo': WHATEVER THE INPUT: true; the input reads as it did. -/
def dryDoSpec : ChangeSpec := { name := "dryDo", fn := fun _ => fun
  | [d1, d2] => { results := [.lit (.bool true)], args := [d1, d2] }
  | _ => none }
def dryDoRow : OpenClaim := { program := "ytddddfankeepkaagreatdoor", sum := "cd64b7fb887e511048ca4534e3280b76af9d91ce5093c5f63ac6b3798f5f2fdf", func := "cistern/cisternlaw21.DryDo", spec := "dryDo", inPlace := ["internal/bytealg.abigen_runtime_cmpstring", "slices.overlaps[cistern/api.Volume]", "slices.overlaps[cistern/api.Range]", "internal/bytealg.IndexByteString", "internal/bytealg.IndexString"], unfollowed := true, recurses := true, named := ["cistern/op.forms", "internal/bytealg.MaxLen"], apart := false, laid := [("cistern/op.forms", laid_cistern_op_forms)] }
def DryDoSaid : Prop := dryDoRow.holds Tryz.pinned (OpenSpec.ofChange dryDoSpec)

/-- ITS FALSE NEIGHBOUR: 'it returns false'. Refute it at one input. -/
def dryDoWrong : ChangeSpec := { name := "dryDo", fn := fun _ => fun
  | [d1, d2] => { results := [.lit (.bool false)], args := [d1, d2] }
  | _ => none }
def DryDoWrongFalsely : Prop := dryDoRow.holds Tryz.pinned (OpenSpec.ofChange dryDoWrong)

/-- 'cisternlaw21.DryAll': WHATEVER THE INPUT: true; the input reads as it did. -/
def dryAllSpec : ChangeSpec := { name := "dryAll", fn := fun _ => fun
  | [d1, d2] => { results := [.lit (.bool true)], args := [d1, d2] }
  | _ => none }
def dryAllRow : OpenClaim := { program := "ytddddfankeepkaagreatdoor", sum := "cd64b7fb887e511048ca4534e3280b76af9d91ce5093c5f63ac6b3798f5f2fdf", func := "cistern/cisternlaw21.DryAll", spec := "dryAll", inPlace := ["internal/bytealg.abigen_runtime_cmpstring", "slices.overlaps[cistern/api.Volume]", "slices.overlaps[cistern/api.Range]", "internal/bytealg.IndexByteString", "internal/bytealg.IndexString"], unfollowed := true, recurses := true, named := ["cistern/op.forms", "internal/bytealg.MaxLen"], apart := false, laid := [("cistern/op.forms", laid_cistern_op_forms)] }
def DryAllSaid : Prop := dryAllRow.holds Tryz.pinned (OpenSpec.ofChange dryAllSpec)

/-- ITS FALSE NEIGHBOUR: 'it returns false'. Refute it at one input. -/
def dryAllWrong : ChangeSpec := { name := "dryAll", fn := fun _ => fun
  | [d1, d2] => { results := [.lit (.bool false)], args := [d1, d2] }
  | _ => none }
def DryAllWrongFalsely : Prop := dryAllRow.holds Tryz.pinned (OpenSpec.ofChange dryAllWrong)

/-- 'cisternlaw21.DryNew': WHATEVER THE INPUT: true; the input reads as it did. -/
def dryNewSpec : ChangeSpec := { name := "dryNew", fn := fun _ => fun
  | [d1, d2] => { results := [.lit (.bool true)], args := [d1, d2] }
  | _ => none }
def dryNewRow : OpenClaim := { program := "ytddddfankeepkaagreatdoor", sum := "cd64b7fb887e511048ca4534e3280b76af9d91ce5093c5f63ac6b3798f5f2fdf", func := "cistern/cisternlaw21.DryNew", spec := "dryNew", inPlace := ["internal/bytealg.abigen_runtime_cmpstring", "slices.overlaps[cistern/api.Volume]", "slices.overlaps[cistern/api.Range]", "internal/bytealg.IndexByteString", "internal/bytealg.IndexString"], unfollowed := true, recurses := true, named := ["cistern/op.forms", "internal/bytealg.MaxLen"], apart := false, laid := [("cistern/op.forms", laid_cistern_op_forms)] }
def DryNewSaid : Prop := dryNewRow.holds Tryz.pinned (OpenSpec.ofChange dryNewSpec)

/-- ITS FALSE NEIGHBOUR: 'it returns false'. Refute it at one input. -/
def dryNewWrong : ChangeSpec := { name := "dryNew", fn := fun _ => fun
  | [d1, d2] => { results := [.lit (.bool false)], args := [d1, d2] }
  | _ => none }
def DryNewWrongFalsely : Prop := dryNewRow.holds Tryz.pinned (OpenSpec.ofChange dryNewWrong)

/- THE SECOND FORM. 'bulk': how many values and letters a reading holds, each counted each time it is reached (what is shared counts as often as it is met; a slice's spare places count too). A statement '..UptoSaid' is the law's where the arguments, and the package variables that the reading takes, are together of bulk at most 1048576: NARROWER than '..Said'. Prove '..Said' where nothing that the law and all that it calls make is longer than what came in: it says more and counts as full. Else prove '..UptoSaid'. A law counts once. -/
mutual
def uptoBulk {H : Type} : DataW H → Nat
  | .lit (.string bytes) => bytes.length + 1
  | .lit _ => 1
  | .nil => 1
  | .ptr d => uptoBulk d + 1
  | .slice elems spare => uptoBulkAll elems + uptoBulkAll spare + 1
  | .agg parts => uptoBulkAll parts + 1
  | .iface _ d => uptoBulk d + 1
  | .map entries => uptoBulkEntries entries + 1
  | .held _ => 1
def uptoBulkAll {H : Type} : List (DataW H) → Nat
  | [] => 0
  | d :: r => uptoBulk d + uptoBulkAll r
def uptoBulkEntries {H : Type} : List (Lit × DataW H) → Nat
  | [] => 0
  | x :: r => uptoBulkEntry x + uptoBulkEntries r
def uptoBulkEntry {H : Type} : Lit × DataW H → Nat
  | (.string bytes, d) => bytes.length + uptoBulk d + 1
  | (_, d) => uptoBulk d + 1
 end
def uptoSmall : (H : Type) → List (DataW H) → Bool := fun _ ds => decide (uptoBulkAll ds ≤ 1048576)
def OpenSpec.upto (s : _root_.Go.ChangeSpec) : _root_.Go.OpenSpec := { _root_.Go.OpenSpec.ofChange s with cond := some uptoSmall }

/-- 'cisternlaw21.DryThrough', WHERE WHAT IT READS IS OF BULK AT MOST 1048576: true; the input reads as it did. -/
def dryThroughUptoRow : OpenClaim := { program := "ytddddfankeepkaagreatdoor", sum := "cd64b7fb887e511048ca4534e3280b76af9d91ce5093c5f63ac6b3798f5f2fdf", func := "cistern/cisternlaw21.DryThrough", spec := "dryThrough", inPlace := ["internal/bytealg.abigen_runtime_cmpstring", "slices.overlaps[cistern/api.Volume]", "slices.overlaps[cistern/api.Range]", "internal/bytealg.IndexByteString", "internal/bytealg.IndexString"], unfollowed := true, recurses := true, named := ["cistern/op.forms", "internal/bytealg.MaxLen"], apart := false, laid := [("cistern/op.forms", laid_cistern_op_forms)], narrowed := true }
def DryThroughUptoSaid : Prop := dryThroughUptoRow.holds Tryz.pinned (OpenSpec.upto dryThroughSpec)

/-- 'cisternlaw21.DryDo', WHERE WHAT IT READS IS OF BULK AT MOST 1048576: true; the input reads as it did. -/
def dryDoUptoRow : OpenClaim := { program := "ytddddfankeepkaagreatdoor", sum := "cd64b7fb887e511048ca4534e3280b76af9d91ce5093c5f63ac6b3798f5f2fdf", func := "cistern/cisternlaw21.DryDo", spec := "dryDo", inPlace := ["internal/bytealg.abigen_runtime_cmpstring", "slices.overlaps[cistern/api.Volume]", "slices.overlaps[cistern/api.Range]", "internal/bytealg.IndexByteString", "internal/bytealg.IndexString"], unfollowed := true, recurses := true, named := ["cistern/op.forms", "internal/bytealg.MaxLen"], apart := false, laid := [("cistern/op.forms", laid_cistern_op_forms)], narrowed := true }
def DryDoUptoSaid : Prop := dryDoUptoRow.holds Tryz.pinned (OpenSpec.upto dryDoSpec)

/-- 'cisternlaw21.DryAll', WHERE WHAT IT READS IS OF BULK AT MOST 1048576: true; the input reads as it did. -/
def dryAllUptoRow : OpenClaim := { program := "ytddddfankeepkaagreatdoor", sum := "cd64b7fb887e511048ca4534e3280b76af9d91ce5093c5f63ac6b3798f5f2fdf", func := "cistern/cisternlaw21.DryAll", spec := "dryAll", inPlace := ["internal/bytealg.abigen_runtime_cmpstring", "slices.overlaps[cistern/api.Volume]", "slices.overlaps[cistern/api.Range]", "internal/bytealg.IndexByteString", "internal/bytealg.IndexString"], unfollowed := true, recurses := true, named := ["cistern/op.forms", "internal/bytealg.MaxLen"], apart := false, laid := [("cistern/op.forms", laid_cistern_op_forms)], narrowed := true }
def DryAllUptoSaid : Prop := dryAllUptoRow.holds Tryz.pinned (OpenSpec.upto dryAllSpec)

/-- 'cisternlaw21.DryNew', WHERE WHAT IT READS IS OF BULK AT MOST 1048576: true; the input reads as it did. -/
def dryNewUptoRow : OpenClaim := { program := "ytddddfankeepkaagreatdoor", sum := "cd64b7fb887e511048ca4534e3280b76af9d91ce5093c5f63ac6b3798f5f2fdf", func := "cistern/cisternlaw21.DryNew", spec := "dryNew", inPlace := ["internal/bytealg.abigen_runtime_cmpstring", "slices.overlaps[cistern/api.Volume]", "slices.overlaps[cistern/api.Range]", "internal/bytealg.IndexByteString", "internal/bytealg.IndexString"], unfollowed := true, recurses := true, named := ["cistern/op.forms", "internal/bytealg.MaxLen"], apart := false, laid := [("cistern/op.forms", laid_cistern_op_forms)], narrowed := true }
def DryNewUptoSaid : Prop := dryNewUptoRow.holds Tryz.pinned (OpenSpec.upto dryNewSpec)

end Rows
end Go.Proofs.YtddddfankeepkaaGreatDoor
