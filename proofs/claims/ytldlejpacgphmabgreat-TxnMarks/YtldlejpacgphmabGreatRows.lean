/-
  No cell of these rows narrows 'for every input' (looked for: loops, veiled, ifaces, maps, wideKeys, modest, calm, conditions, laid).
  DERIVED. THE GIVEN ROWS OF THIS SEAT. 6 by the template 'for every input the law returns true; each argument reads behind the call as it read before'; 0 by the template 'total and deterministic' (their statements: YtldlejpacgphmabGreatTotals.lean).
  GIVEN WITH THE SEED: the statements are not yours to turn. If you find one false, say at which input.
  Laid BY PROGRAM, IN A SANDBOX (cutbox-rows.mjs): the forced cells as the released guide's own fill.sh prints them over the translation f7e13b11f16ea66c… (all of the seat's roots in one cut). By AI agents, Wed Nov 11 2026. No macro, syntax, notation, axiom, sorry.
-/
import Derived.Test.YtldlejpacgphmabGreatChecked
import GoSem.Claim
import GoSem.ClaimJoined
import GoSem.ClaimMapViews
import Derived.JoinedTies
import Derived.KernelRfl
namespace Go.Proofs.YtldlejpacgphmabGreat
/- THE CELL 'sum', in the pinned program and in every row, IS THE sha256 OF THE DUMP (.gsa) THAT YtldlejpacgphmabGreatProg.lean LOADS. Nothing in Lean hashes anything: it is a label: what it is worth is what the hold of that sum in a sandbox is worth. -/
noncomputable def Tryz.pinned : Pinned := { name := "ytldlejpacgphmabgreat", sum := "f7e13b11f16ea66c2c812f71cad45632d31f8df05048457b7dd33bf4bbd733f0", checked := Tryz.checked }
namespace Rows
def none {H : Type} : Left H := { results := [], args := [] }

/-- 'cisternlaw4.JournalCalls': WHATEVER THE INPUT: true; the input reads as it did. -/
def journalCallsSpec : ChangeSpec := { name := "journalCalls", fn := fun _ => fun
  | [d1, d2, d3, d4] => { results := [.lit (.bool true)], args := [d1, d2, d3, d4] }
  | _ => none }
def journalCallsRow : OpenClaim := { program := "ytldlejpacgphmabgreat", sum := "f7e13b11f16ea66c2c812f71cad45632d31f8df05048457b7dd33bf4bbd733f0", func := "cistern/cisternlaw4.JournalCalls", spec := "journalCalls", unfollowed := true, recurses := true, apart := false }
def JournalCallsSaid : Prop := journalCallsRow.holds Tryz.pinned (OpenSpec.ofChange journalCallsSpec)

/-- ITS FALSE NEIGHBOUR: 'it returns false'. Refute it at one input. -/
def journalCallsWrong : ChangeSpec := { name := "journalCalls", fn := fun _ => fun
  | [d1, d2, d3, d4] => { results := [.lit (.bool false)], args := [d1, d2, d3, d4] }
  | _ => none }
def JournalCallsWrongFalsely : Prop := journalCallsRow.holds Tryz.pinned (OpenSpec.ofChange journalCallsWrong)

/-- 'cisternlaw5.TxnAlone': WHATEVER THE INPUT: true; the input reads as it did. -/
def txnAloneSpec : ChangeSpec := { name := "txnAlone", fn := fun _ => fun
  | [d1, d2, d3] => { results := [.lit (.bool true)], args := [d1, d2, d3] }
  | _ => none }
def txnAloneRow : OpenClaim := { program := "ytldlejpacgphmabgreat", sum := "f7e13b11f16ea66c2c812f71cad45632d31f8df05048457b7dd33bf4bbd733f0", func := "cistern/cisternlaw5.TxnAlone", spec := "txnAlone", unfollowed := true, recurses := true, apart := false }
def TxnAloneSaid : Prop := txnAloneRow.holds Tryz.pinned (OpenSpec.ofChange txnAloneSpec)

/-- ITS FALSE NEIGHBOUR: 'it returns false'. Refute it at one input. -/
def txnAloneWrong : ChangeSpec := { name := "txnAlone", fn := fun _ => fun
  | [d1, d2, d3] => { results := [.lit (.bool false)], args := [d1, d2, d3] }
  | _ => none }
def TxnAloneWrongFalsely : Prop := txnAloneRow.holds Tryz.pinned (OpenSpec.ofChange txnAloneWrong)

/-- 'cisternlaw5.TxnMarks': WHATEVER THE INPUT: true; the input reads as it did. -/
def txnMarksSpec : ChangeSpec := { name := "txnMarks", fn := fun _ => fun
  | [d1, d2] => { results := [.lit (.bool true)], args := [d1, d2] }
  | _ => none }
def txnMarksRow : OpenClaim := { program := "ytldlejpacgphmabgreat", sum := "f7e13b11f16ea66c2c812f71cad45632d31f8df05048457b7dd33bf4bbd733f0", func := "cistern/cisternlaw5.TxnMarks", spec := "txnMarks", unfollowed := true, recurses := true, apart := false }
def TxnMarksSaid : Prop := txnMarksRow.holds Tryz.pinned (OpenSpec.ofChange txnMarksSpec)

/-- ITS FALSE NEIGHBOUR: 'it returns false'. Refute it at one input. -/
def txnMarksWrong : ChangeSpec := { name := "txnMarks", fn := fun _ => fun
  | [d1, d2] => { results := [.lit (.bool false)], args := [d1, d2] }
  | _ => none }
def TxnMarksWrongFalsely : Prop := txnMarksRow.holds Tryz.pinned (OpenSpec.ofChange txnMarksWrong)

/-- 'cisternlaw5.TxnReads': WHATEVER THE INPUT: true; the input reads as it did. -/
def txnReadsSpec : ChangeSpec := { name := "txnReads", fn := fun _ => fun
  | [d1, d2, d3] => { results := [.lit (.bool true)], args := [d1, d2, d3] }
  | _ => none }
def txnReadsRow : OpenClaim := { program := "ytldlejpacgphmabgreat", sum := "f7e13b11f16ea66c2c812f71cad45632d31f8df05048457b7dd33bf4bbd733f0", func := "cistern/cisternlaw5.TxnReads", spec := "txnReads", unfollowed := true, recurses := true, apart := false }
def TxnReadsSaid : Prop := txnReadsRow.holds Tryz.pinned (OpenSpec.ofChange txnReadsSpec)

/-- ITS FALSE NEIGHBOUR: 'it returns false'. Refute it at one input. -/
def txnReadsWrong : ChangeSpec := { name := "txnReads", fn := fun _ => fun
  | [d1, d2, d3] => { results := [.lit (.bool false)], args := [d1, d2, d3] }
  | _ => none }
def TxnReadsWrongFalsely : Prop := txnReadsRow.holds Tryz.pinned (OpenSpec.ofChange txnReadsWrong)

/-- 'cisternlaw5.TxnWrites': WHATEVER THE INPUT: true; the input reads as it did. -/
def txnWritesSpec : ChangeSpec := { name := "txnWrites", fn := fun _ => fun
  | [d1, d2, d3] => { results := [.lit (.bool true)], args := [d1, d2, d3] }
  | _ => none }
def txnWritesRow : OpenClaim := { program := "ytldlejpacgphmabgreat", sum := "f7e13b11f16ea66c2c812f71cad45632d31f8df05048457b7dd33bf4bbd733f0", func := "cistern/cisternlaw5.TxnWrites", spec := "txnWrites", unfollowed := true, recurses := true, apart := false }
def TxnWritesSaid : Prop := txnWritesRow.holds Tryz.pinned (OpenSpec.ofChange txnWritesSpec)

/-- ITS FALSE NEIGHBOUR: 'it returns false'. Refute it at one input. -/
def txnWritesWrong : ChangeSpec := { name := "txnWrites", fn := fun _ => fun
  | [d1, d2, d3] => { results := [.lit (.bool false)], args := [d1, d2, d3] }
  | _ => none }
def TxnWritesWrongFalsely : Prop := txnWritesRow.holds Tryz.pinned (OpenSpec.ofChange txnWritesWrong)

/-- 'cisternlaw5.TxnEnds': WHATEVER THE INPUT: true; the input reads as it did. -/
def txnEndsSpec : ChangeSpec := { name := "txnEnds", fn := fun _ => fun
  | [d1, d2, d3] => { results := [.lit (.bool true)], args := [d1, d2, d3] }
  | _ => none }
def txnEndsRow : OpenClaim := { program := "ytldlejpacgphmabgreat", sum := "f7e13b11f16ea66c2c812f71cad45632d31f8df05048457b7dd33bf4bbd733f0", func := "cistern/cisternlaw5.TxnEnds", spec := "txnEnds", unfollowed := true, recurses := true, apart := false }
def TxnEndsSaid : Prop := txnEndsRow.holds Tryz.pinned (OpenSpec.ofChange txnEndsSpec)

/-- ITS FALSE NEIGHBOUR: 'it returns false'. Refute it at one input. -/
def txnEndsWrong : ChangeSpec := { name := "txnEnds", fn := fun _ => fun
  | [d1, d2, d3] => { results := [.lit (.bool false)], args := [d1, d2, d3] }
  | _ => none }
def TxnEndsWrongFalsely : Prop := txnEndsRow.holds Tryz.pinned (OpenSpec.ofChange txnEndsWrong)

/- THE SECOND FORM. 'bulk': how many values and letters a reading holds, each counted each time it is reached (what is shared counts as often as it is met; a slice's spare places count too). A statement '..UptoSaid' is the law's where the arguments, and the package variables that the reading takes, are together of bulk at most 1048576: NARROWER than '..Said'. Prove '..Said' where nothing that the law and all that it calls make is longer than what came in: it says more and counts as full. Else prove '..UptoSaid'. A law counts once. -/
mutual
def uptoBulk {H : Type} : DataW H → Nat
  | .lit (.string bytes) => bytes.length + 1
  | .lit _ => 1
  | .nil => 1
  | .ptr d => uptoBulk d + 1
  | .slice elems spare => uptoBulkAll elems + uptoBulkAll spare + 1
  | .agg parts => uptoBulkAll parts + 1
  | .iface _ d => uptoBulk d + 1
  | .map entries => uptoBulkEntries entries + 1
  | .held _ => 1
def uptoBulkAll {H : Type} : List (DataW H) → Nat
  | [] => 0
  | d :: r => uptoBulk d + uptoBulkAll r
def uptoBulkEntries {H : Type} : List (Lit × DataW H) → Nat
  | [] => 0
  | x :: r => uptoBulkEntry x + uptoBulkEntries r
def uptoBulkEntry {H : Type} : Lit × DataW H → Nat
  | (.string bytes, d) => bytes.length + uptoBulk d + 1
  | (_, d) => uptoBulk d + 1
 end
def uptoSmall : (H : Type) → List (DataW H) → Bool := fun _ ds => decide (uptoBulkAll ds ≤ 1048576)
def OpenSpec.upto (s : _root_.Go.ChangeSpec) : _root_.Go.OpenSpec := { _root_.Go.OpenSpec.ofChange s with cond := some uptoSmall }

/-- 'cisternlaw4.JournalCalls', WHERE WHAT IT READS IS OF BULK AT MOST 1048576: true; the input reads as it did. -/
def journalCallsUptoRow : OpenClaim := { program := "ytldlejpacgphmabgreat", sum := "f7e13b11f16ea66c2c812f71cad45632d31f8df05048457b7dd33bf4bbd733f0", func := "cistern/cisternlaw4.JournalCalls", spec := "journalCalls", unfollowed := true, recurses := true, apart := false, narrowed := true }
def JournalCallsUptoSaid : Prop := journalCallsUptoRow.holds Tryz.pinned (OpenSpec.upto journalCallsSpec)

/-- 'cisternlaw5.TxnAlone', WHERE WHAT IT READS IS OF BULK AT MOST 1048576: true; the input reads as it did. -/
def txnAloneUptoRow : OpenClaim := { program := "ytldlejpacgphmabgreat", sum := "f7e13b11f16ea66c2c812f71cad45632d31f8df05048457b7dd33bf4bbd733f0", func := "cistern/cisternlaw5.TxnAlone", spec := "txnAlone", unfollowed := true, recurses := true, apart := false, narrowed := true }
def TxnAloneUptoSaid : Prop := txnAloneUptoRow.holds Tryz.pinned (OpenSpec.upto txnAloneSpec)

/-- 'cisternlaw5.TxnMarks', WHERE WHAT IT READS IS OF BULK AT MOST 1048576: true; the input reads as it did. -/
def txnMarksUptoRow : OpenClaim := { program := "ytldlejpacgphmabgreat", sum := "f7e13b11f16ea66c2c812f71cad45632d31f8df05048457b7dd33bf4bbd733f0", func := "cistern/cisternlaw5.TxnMarks", spec := "txnMarks", unfollowed := true, recurses := true, apart := false, narrowed := true }
def TxnMarksUptoSaid : Prop := txnMarksUptoRow.holds Tryz.pinned (OpenSpec.upto txnMarksSpec)

/-- 'cisternlaw5.TxnReads', WHERE WHAT IT READS IS OF BULK AT MOST 1048576: true; the input reads as it did. -/
def txnReadsUptoRow : OpenClaim := { program := "ytldlejpacgphmabgreat", sum := "f7e13b11f16ea66c2c812f71cad45632d31f8df05048457b7dd33bf4bbd733f0", func := "cistern/cisternlaw5.TxnReads", spec := "txnReads", unfollowed := true, recurses := true, apart := false, narrowed := true }
def TxnReadsUptoSaid : Prop := txnReadsUptoRow.holds Tryz.pinned (OpenSpec.upto txnReadsSpec)

/-- 'cisternlaw5.TxnWrites', WHERE WHAT IT READS IS OF BULK AT MOST 1048576: true; the input reads as it did. -/
def txnWritesUptoRow : OpenClaim := { program := "ytldlejpacgphmabgreat", sum := "f7e13b11f16ea66c2c812f71cad45632d31f8df05048457b7dd33bf4bbd733f0", func := "cistern/cisternlaw5.TxnWrites", spec := "txnWrites", unfollowed := true, recurses := true, apart := false, narrowed := true }
def TxnWritesUptoSaid : Prop := txnWritesUptoRow.holds Tryz.pinned (OpenSpec.upto txnWritesSpec)

/-- 'cisternlaw5.TxnEnds', WHERE WHAT IT READS IS OF BULK AT MOST 1048576: true; the input reads as it did. -/
def txnEndsUptoRow : OpenClaim := { program := "ytldlejpacgphmabgreat", sum := "f7e13b11f16ea66c2c812f71cad45632d31f8df05048457b7dd33bf4bbd733f0", func := "cistern/cisternlaw5.TxnEnds", spec := "txnEnds", unfollowed := true, recurses := true, apart := false, narrowed := true }
def TxnEndsUptoSaid : Prop := txnEndsUptoRow.holds Tryz.pinned (OpenSpec.upto txnEndsSpec)

end Rows
end Go.Proofs.YtldlejpacgphmabGreat
