/-
  No cell of these rows narrows 'for every input' (looked for: loops, veiled, ifaces, maps, wideKeys, modest, calm, conditions, laid).
  DERIVED. THE GIVEN ROWS OF THIS SEAT. 6 by the template 'for every input the law returns true; each argument reads behind the call as it read before'; 0 by the template 'total and deterministic' (their statements: YthfojpcibnfmgaaGreatTotals.lean).
  GIVEN WITH THE SEED: the statements are not yours to turn. If you find one false, say at which input.
  Laid BY PROGRAM, IN A SANDBOX (cutbox-rows.mjs): the forced cells as the released guide's own fill.sh prints them over the translation 075867d9763dd909… (all of the seat's roots in one cut). By AI agents, Wed Nov 11 2026. No macro, syntax, notation, axiom, sorry.
-/
import Derived.Test.YthfojpcibnfmgaaGreatChecked
import GoSem.Claim
import GoSem.ClaimJoined
import GoSem.ClaimMapViews
import Derived.JoinedTies
import Derived.KernelRfl
namespace Go.Proofs.YthfojpcibnfmgaaGreat
/- THE CELL 'sum', in the pinned program and in every row, IS THE sha256 OF THE DUMP (.gsa) THAT YthfojpcibnfmgaaGreatProg.lean LOADS. Nothing in Lean hashes anything: it is a label: what it is worth is what the hold of that sum in a sandbox is worth. -/
noncomputable def Tryz.pinned : Pinned := { name := "ythfojpcibnfmgaagreat", sum := "075867d9763dd9092ae23ff7d16c7bd5f7e29e1450d97b6825859c774fe5e0b9", checked := Tryz.checked }
namespace Rows
def none {H : Type} : Left H := { results := [], args := [] }

/-- 'cisternlaw5.TxnReads': WHATEVER THE INPUT: true; the input reads as it did. -/
def txnReadsSpec : ChangeSpec := { name := "txnReads", fn := fun _ => fun
  | [d1, d2, d3] => { results := [.lit (.bool true)], args := [d1, d2, d3] }
  | _ => none }
def txnReadsRow : OpenClaim := { program := "ythfojpcibnfmgaagreat", sum := "075867d9763dd9092ae23ff7d16c7bd5f7e29e1450d97b6825859c774fe5e0b9", func := "cistern/cisternlaw5.TxnReads", spec := "txnReads", unfollowed := true, recurses := true, apart := false }
def TxnReadsSaid : Prop := txnReadsRow.holds Tryz.pinned (OpenSpec.ofChange txnReadsSpec)

/-- ITS FALSE NEIGHBOUR: 'it returns false'. Refute it at one input. -/
def txnReadsWrong : ChangeSpec := { name := "txnReads", fn := fun _ => fun
  | [d1, d2, d3] => { results := [.lit (.bool false)], args := [d1, d2, d3] }
  | _ => none }
def TxnReadsWrongFalsely : Prop := txnReadsRow.holds Tryz.pinned (OpenSpec.ofChange txnReadsWrong)

/-- 'cisternlaw5.TxnWrites': WHATEVER THE INPUT: true; the input reads as it did. -/
def txnWritesSpec : ChangeSpec := { name := "txnWrites", fn := fun _ => fun
  | [d1, d2, d3] => { results := [.lit (.bool true)], args := [d1, d2, d3] }
  | _ => none }
def txnWritesRow : OpenClaim := { program := "ythfojpcibnfmgaagreat", sum := "075867d9763dd9092ae23ff7d16c7bd5f7e29e1450d97b6825859c774fe5e0b9", func := "cistern/cisternlaw5.TxnWrites", spec := "txnWrites", unfollowed := true, recurses := true, apart := false }
def TxnWritesSaid : Prop := txnWritesRow.holds Tryz.pinned (OpenSpec.ofChange txnWritesSpec)

/-- ITS FALSE NEIGHBOUR: 'it returns false'. Refute it at one input. -/
def txnWritesWrong : ChangeSpec := { name := "txnWrites", fn := fun _ => fun
  | [d1, d2, d3] => { results := [.lit (.bool false)], args := [d1, d2, d3] }
  | _ => none }
def TxnWritesWrongFalsely : Prop := txnWritesRow.holds Tryz.pinned (OpenSpec.ofChange txnWritesWrong)

/-- 'cisternlaw5.TxnEnds': WHATEVER THE INPUT: true; the input reads as it did. -/
def txnEndsSpec : ChangeSpec := { name := "txnEnds", fn := fun _ => fun
  | [d1, d2, d3] => { results := [.lit (.bool true)], args := [d1, d2, d3] }
  | _ => none }
def txnEndsRow : OpenClaim := { program := "ythfojpcibnfmgaagreat", sum := "075867d9763dd9092ae23ff7d16c7bd5f7e29e1450d97b6825859c774fe5e0b9", func := "cistern/cisternlaw5.TxnEnds", spec := "txnEnds", unfollowed := true, recurses := true, apart := false }
def TxnEndsSaid : Prop := txnEndsRow.holds Tryz.pinned (OpenSpec.ofChange txnEndsSpec)

/-- ITS FALSE NEIGHBOUR: 'it returns false'. Refute it at one input. -/
def txnEndsWrong : ChangeSpec := { name := "txnEnds", fn := fun _ => fun
  | [d1, d2, d3] => { results := [.lit (.bool false)], args := [d1, d2, d3] }
  | _ => none }
def TxnEndsWrongFalsely : Prop := txnEndsRow.holds Tryz.pinned (OpenSpec.ofChange txnEndsWrong)

/-- 'cisternlaw5.TxnAll': WHATEVER THE INPUT: true; the input reads as it did. -/
def txnAllSpec : ChangeSpec := { name := "txnAll", fn := fun _ => fun
  | [d1, d2, d3] => { results := [.lit (.bool true)], args := [d1, d2, d3] }
  | _ => none }
def txnAllRow : OpenClaim := { program := "ythfojpcibnfmgaagreat", sum := "075867d9763dd9092ae23ff7d16c7bd5f7e29e1450d97b6825859c774fe5e0b9", func := "cistern/cisternlaw5.TxnAll", spec := "txnAll", unfollowed := true, recurses := true, apart := false }
def TxnAllSaid : Prop := txnAllRow.holds Tryz.pinned (OpenSpec.ofChange txnAllSpec)

/-- ITS FALSE NEIGHBOUR: 'it returns false'. Refute it at one input. -/
def txnAllWrong : ChangeSpec := { name := "txnAll", fn := fun _ => fun
  | [d1, d2, d3] => { results := [.lit (.bool false)], args := [d1, d2, d3] }
  | _ => none }
def TxnAllWrongFalsely : Prop := txnAllRow.holds Tryz.pinned (OpenSpec.ofChange txnAllWrong)

/-- 'cisternlaw5.TxnOwns': WHATEVER THE INPUT: true; the input reads as it did. -/
def txnOwnsSpec : ChangeSpec := { name := "txnOwns", fn := fun _ => fun
  | [d1, d2, d3] => { results := [.lit (.bool true)], args := [d1, d2, d3] }
  | _ => none }
def txnOwnsRow : OpenClaim := { program := "ythfojpcibnfmgaagreat", sum := "075867d9763dd9092ae23ff7d16c7bd5f7e29e1450d97b6825859c774fe5e0b9", func := "cistern/cisternlaw5.TxnOwns", spec := "txnOwns", unfollowed := true, recurses := true, apart := false }
def TxnOwnsSaid : Prop := txnOwnsRow.holds Tryz.pinned (OpenSpec.ofChange txnOwnsSpec)

/-- ITS FALSE NEIGHBOUR: 'it returns false'. Refute it at one input. -/
def txnOwnsWrong : ChangeSpec := { name := "txnOwns", fn := fun _ => fun
  | [d1, d2, d3] => { results := [.lit (.bool false)], args := [d1, d2, d3] }
  | _ => none }
def TxnOwnsWrongFalsely : Prop := txnOwnsRow.holds Tryz.pinned (OpenSpec.ofChange txnOwnsWrong)

/-- 'cisternlaw5.TxnCut': WHATEVER THE INPUT: true; the input reads as it did. -/
def txnCutSpec : ChangeSpec := { name := "txnCut", fn := fun _ => fun
  | [d1, d2] => { results := [.lit (.bool true)], args := [d1, d2] }
  | _ => none }
def txnCutRow : OpenClaim := { program := "ythfojpcibnfmgaagreat", sum := "075867d9763dd9092ae23ff7d16c7bd5f7e29e1450d97b6825859c774fe5e0b9", func := "cistern/cisternlaw5.TxnCut", spec := "txnCut", unfollowed := true, recurses := true, apart := false }
def TxnCutSaid : Prop := txnCutRow.holds Tryz.pinned (OpenSpec.ofChange txnCutSpec)

/-- ITS FALSE NEIGHBOUR: 'it returns false'. Refute it at one input. -/
def txnCutWrong : ChangeSpec := { name := "txnCut", fn := fun _ => fun
  | [d1, d2] => { results := [.lit (.bool false)], args := [d1, d2] }
  | _ => none }
def TxnCutWrongFalsely : Prop := txnCutRow.holds Tryz.pinned (OpenSpec.ofChange txnCutWrong)

/- THE SECOND FORM. 'bulk': how many values and letters a reading holds, each counted each time it is reached (what is shared counts as often as it is met; a slice's spare places count too). A statement '..UptoSaid' is the law's where the arguments, and the package variables that the reading takes, are together of bulk at most 1048576: NARROWER than '..Said'. Prove '..Said' where nothing that the law and all that it calls make is longer than what came in: it says more and counts as full. Else prove '..UptoSaid'. A law counts once. -/
mutual
def uptoBulk {H : Type} : DataW H → Nat
  | .lit (.string bytes) => bytes.length + 1
  | .lit _ => 1
  | .nil => 1
  | .ptr d => uptoBulk d + 1
  | .slice elems spare => uptoBulkAll elems + uptoBulkAll spare + 1
  | .agg parts => uptoBulkAll parts + 1
  | .iface _ d => uptoBulk d + 1
  | .map entries => uptoBulkEntries entries + 1
  | .held _ => 1
def uptoBulkAll {H : Type} : List (DataW H) → Nat
  | [] => 0
  | d :: r => uptoBulk d + uptoBulkAll r
def uptoBulkEntries {H : Type} : List (Lit × DataW H) → Nat
  | [] => 0
  | x :: r => uptoBulkEntry x + uptoBulkEntries r
def uptoBulkEntry {H : Type} : Lit × DataW H → Nat
  | (.string bytes, d) => bytes.length + uptoBulk d + 1
  | (_, d) => uptoBulk d + 1
 end
def uptoSmall : (H : Type) → List (DataW H) → Bool := fun _ ds => decide (uptoBulkAll ds ≤ 1048576)
def OpenSpec.upto (s : _root_.Go.ChangeSpec) : _root_.Go.OpenSpec := { _root_.Go.OpenSpec.ofChange s with cond := some uptoSmall }

/-- 'cisternlaw5.TxnReads', WHERE WHAT IT READS IS OF BULK AT MOST 1048576: true; the input reads as it did. -/
def txnReadsUptoRow : OpenClaim := { program := "ythfojpcibnfmgaagreat", sum := "075867d9763dd9092ae23ff7d16c7bd5f7e29e1450d97b6825859c774fe5e0b9", func := "cistern/cisternlaw5.TxnReads", spec := "txnReads", unfollowed := true, recurses := true, apart := false, narrowed := true }
def TxnReadsUptoSaid : Prop := txnReadsUptoRow.holds Tryz.pinned (OpenSpec.upto txnReadsSpec)

/-- 'cisternlaw5.TxnWrites', WHERE WHAT IT READS IS OF BULK AT MOST 1048576: true; the input reads as it did. -/
def txnWritesUptoRow : OpenClaim := { program := "ythfojpcibnfmgaagreat", sum := "075867d9763dd9092ae23ff7d16c7bd5f7e29e1450d97b6825859c774fe5e0b9", func := "cistern/cisternlaw5.TxnWrites", spec := "txnWrites", unfollowed := true, recurses := true, apart := false, narrowed := true }
def TxnWritesUptoSaid : Prop := txnWritesUptoRow.holds Tryz.pinned (OpenSpec.upto txnWritesSpec)

/-- 'cisternlaw5.TxnEnds', WHERE WHAT IT READS IS OF BULK AT MOST 1048576: true; the input reads as it did. -/
def txnEndsUptoRow : OpenClaim := { program := "ythfojpcibnfmgaagreat", sum := "075867d9763dd9092ae23ff7d16c7bd5f7e29e1450d97b6825859c774fe5e0b9", func := "cistern/cisternlaw5.TxnEnds", spec := "txnEnds", unfollowed := true, recurses := true, apart := false, narrowed := true }
def TxnEndsUptoSaid : Prop := txnEndsUptoRow.holds Tryz.pinned (OpenSpec.upto txnEndsSpec)

/-- 'cisternlaw5.TxnAll', WHERE WHAT IT READS IS OF BULK AT MOST 1048576: true; the input reads as it did. -/
def txnAllUptoRow : OpenClaim := { program := "ythfojpcibnfmgaagreat", sum := "075867d9763dd9092ae23ff7d16c7bd5f7e29e1450d97b6825859c774fe5e0b9", func := "cistern/cisternlaw5.TxnAll", spec := "txnAll", unfollowed := true, recurses := true, apart := false, narrowed := true }
def TxnAllUptoSaid : Prop := txnAllUptoRow.holds Tryz.pinned (OpenSpec.upto txnAllSpec)

/-- 'cisternlaw5.TxnOwns', WHERE WHAT IT READS IS OF BULK AT MOST 1048576: true; the input reads as it did. -/
def txnOwnsUptoRow : OpenClaim := { program := "ythfojpcibnfmgaagreat", sum := "075867d9763dd9092ae23ff7d16c7bd5f7e29e1450d97b6825859c774fe5e0b9", func := "cistern/cisternlaw5.TxnOwns", spec := "txnOwns", unfollowed := true, recurses := true, apart := false, narrowed := true }
def TxnOwnsUptoSaid : Prop := txnOwnsUptoRow.holds Tryz.pinned (OpenSpec.upto txnOwnsSpec)

/-- 'cisternlaw5.TxnCut', WHERE WHAT IT READS IS OF BULK AT MOST 1048576: true; the input reads as it did. -/
def txnCutUptoRow : OpenClaim := { program := "ythfojpcibnfmgaagreat", sum := "075867d9763dd9092ae23ff7d16c7bd5f7e29e1450d97b6825859c774fe5e0b9", func := "cistern/cisternlaw5.TxnCut", spec := "txnCut", unfollowed := true, recurses := true, apart := false, narrowed := true }
def TxnCutUptoSaid : Prop := txnCutUptoRow.holds Tryz.pinned (OpenSpec.upto txnCutSpec)

end Rows
end Go.Proofs.YthfojpcibnfmgaaGreat
