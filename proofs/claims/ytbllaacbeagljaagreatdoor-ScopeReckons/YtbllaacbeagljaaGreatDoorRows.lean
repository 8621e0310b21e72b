/-
  NARROWER THAN 'FOR EVERY INPUT', by the rows' own cells (each row's printed sentence says how): ScopeReckons: laid · ScopeRepeats: loops, laid · ScopeBlind: loops, laid · ScopeChecks: loops, laid · ScopeOwns: loops, laid · ScopeNumbers: loops, laid.
  DERIVED. THE GIVEN ROWS OF THIS SEAT. 6 by the template 'for every input the law returns true; each argument reads behind the call as it read before'; 0 by the template 'total and deterministic' (their statements: YtbllaacbeagljaaGreatDoorTotals.lean).
  GIVEN WITH THE SEED: the statements are not yours to turn. If you find one false, say at which input.
  Laid BY PROGRAM, IN A SANDBOX (cutbox-rows.mjs): the forced cells as the released guide's own fill.sh prints them over the translation 554e7894e970dc90… (all of the seat's roots in one cut). By AI agents, Wed Nov 11 2026. No macro, syntax, notation, axiom, sorry.
-/
import Derived.Test.YtbllaacbeagljaaGreatDoorChecked
import GoSem.Claim
import GoSem.ClaimJoined
import GoSem.ClaimMapViews
import Derived.JoinedTies
import Derived.KernelRfl
namespace Go.Proofs.YtbllaacbeagljaaGreatDoor
/- THE CELL 'sum', in the pinned program and in every row, IS THE sha256 OF THE DUMP (.gsa) THAT YtbllaacbeagljaaGreatDoorProg.lean LOADS. Nothing in Lean hashes anything: it is a label: what it is worth is what the hold of that sum in a sandbox is worth. -/
noncomputable def Tryz.pinned : Pinned := { name := "ytbllaacbeagljaagreatdoor", sum := "554e7894e970dc90ef52e230fe82fa993bdcc8c7fc6653768346c77e1f4040a8", checked := Tryz.checked }
namespace Rows
def none {H : Type} : Left H := { results := [], args := [] }

/- WHAT THE LISTED PACKAGE-LEVEL VARIABLES READ AS WHEN THE CALL BEGINS. Each datum BY PROGRAM (the guide's laid-datum.mjs) off the statement by which the dump's own 'gosem.cut.vars' lays the variable. In a bare row this is a premise. The card (YtbllaacbeagljaaGreatDoorCards.lean) ties it to the program's text. -/
def laid_math_bits_deBruijn32tab {H : Type} : DataW H := .agg [.lit (.int .u8 0), .lit (.int .u8 1), .lit (.int .u8 28), .lit (.int .u8 2), .lit (.int .u8 29), .lit (.int .u8 14), .lit (.int .u8 24), .lit (.int .u8 3), .lit (.int .u8 30), .lit (.int .u8 22), .lit (.int .u8 20), .lit (.int .u8 15), .lit (.int .u8 25), .lit (.int .u8 17), .lit (.int .u8 4), .lit (.int .u8 8), .lit (.int .u8 31), .lit (.int .u8 27), .lit (.int .u8 13), .lit (.int .u8 23), .lit (.int .u8 21), .lit (.int .u8 19), .lit (.int .u8 16), .lit (.int .u8 7), .lit (.int .u8 26), .lit (.int .u8 12), .lit (.int .u8 18), .lit (.int .u8 6), .lit (.int .u8 11), .lit (.int .u8 5), .lit (.int .u8 10), .lit (.int .u8 9)]
def laid_math_bits_deBruijn64tab {H : Type} : DataW H := .agg [.lit (.int .u8 0), .lit (.int .u8 1), .lit (.int .u8 56), .lit (.int .u8 2), .lit (.int .u8 57), .lit (.int .u8 49), .lit (.int .u8 28), .lit (.int .u8 3), .lit (.int .u8 61), .lit (.int .u8 58), .lit (.int .u8 42), .lit (.int .u8 50), .lit (.int .u8 38), .lit (.int .u8 29), .lit (.int .u8 17), .lit (.int .u8 4), .lit (.int .u8 62), .lit (.int .u8 47), .lit (.int .u8 59), .lit (.int .u8 36), .lit (.int .u8 45), .lit (.int .u8 43), .lit (.int .u8 51), .lit (.int .u8 22), .lit (.int .u8 53), .lit (.int .u8 39), .lit (.int .u8 33), .lit (.int .u8 30), .lit (.int .u8 24), .lit (.int .u8 18), .lit (.int .u8 12), .lit (.int .u8 5), .lit (.int .u8 63), .lit (.int .u8 55), .lit (.int .u8 48), .lit (.int .u8 27), .lit (.int .u8 60), .lit (.int .u8 41), .lit (.int .u8 37), .lit (.int .u8 16), .lit (.int .u8 46), .lit (.int .u8 35), .lit (.int .u8 44), .lit (.int .u8 21), .lit (.int .u8 52), .lit (.int .u8 32), .lit (.int .u8 23), .lit (.int .u8 11), .lit (.int .u8 54), .lit (.int .u8 26), .lit (.int .u8 40), .lit (.int .u8 15), .lit (.int .u8 34), .lit (.int .u8 20), .lit (.int .u8 31), .lit (.int .u8 10), .lit (.int .u8 25), .lit (.int .u8 14), .lit (.int .u8 19), .lit (.int .u8 9), .lit (.int .u8 13), .lit (.int .u8 8), .lit (.int .u8 7), .lit (.int .u8 6)]
def laid_internal_strconv_uint64pow10 {H : Type} : DataW H := .agg [.lit (.int .u64 1), .lit (.int .u64 10), .lit (.int .u64 100), .lit (.int .u64 1000), .lit (.int .u64 10000), .lit (.int .u64 100000), .lit (.int .u64 1000000), .lit (.int .u64 10000000), .lit (.int .u64 100000000), .lit (.int .u64 1000000000), .lit (.int .u64 10000000000), .lit (.int .u64 100000000000), .lit (.int .u64 1000000000000), .lit (.int .u64 10000000000000), .lit (.int .u64 100000000000000), .lit (.int .u64 1000000000000000), .lit (.int .u64 10000000000000000), .lit (.int .u64 100000000000000000), .lit (.int .u64 1000000000000000000), .lit (.int .u64 10000000000000000000)]
def laid_cistern_syntax_allOperators {H : Type} : DataW H := .agg [.agg [.lit (.int .i64 0), .lit (.string [111, 114]), .lit (.int .i64 36)], .agg [.lit (.int .i64 1), .lit (.string [97, 110, 100]), .lit (.int .i64 35)], .agg [.lit (.int .i64 3), .lit (.string [60]), .lit (.int .i64 31)], .agg [.lit (.int .i64 3), .lit (.string [61]), .lit (.int .i64 32)], .agg [.lit (.int .i64 4), .lit (.string [43]), .lit (.int .i64 22)], .agg [.lit (.int .i64 4), .lit (.string [45]), .lit (.int .i64 23)], .agg [.lit (.int .i64 5), .lit (.string [42]), .lit (.int .i64 24)], .agg [.lit (.int .i64 5), .lit (.string [47]), .lit (.int .i64 25)], .agg [.lit (.int .i64 5), .lit (.string [37]), .lit (.int .i64 26)]]

/-- 'cisternlaw20.ScopeReckons': WHATEVER THE INPUT: true; the input reads as it did. -/
def scopeReckonsSpec : ChangeSpec := { name := "scopeReckons", fn := fun _ => fun
  | [d1, d2, d3, d4, d5] => { results := [.lit (.bool true)], args := [d1, d2, d3, d4, d5] }
  | _ => none }
def scopeReckonsRow : OpenClaim := { program := "ytbllaacbeagljaagreatdoor", sum := "554e7894e970dc90ef52e230fe82fa993bdcc8c7fc6653768346c77e1f4040a8", func := "cistern/cisternlaw20.ScopeReckons", spec := "scopeReckons", inPlace := ["internal/abi.NoEscape", "internal/bytealg.IndexByteString", "internal/bytealg.IndexString"], unfollowed := true, recurses := true, named := ["cistern/syntax.allOperators", "internal/strconv.uint64pow10", "math/bits.deBruijn32tab", "math/bits.deBruijn64tab", "internal/bytealg.MaxLen"], apart := false, laid := [("math/bits.deBruijn32tab", laid_math_bits_deBruijn32tab), ("math/bits.deBruijn64tab", laid_math_bits_deBruijn64tab), ("internal/strconv.uint64pow10", laid_internal_strconv_uint64pow10), ("cistern/syntax.allOperators", laid_cistern_syntax_allOperators)] }
def ScopeReckonsSaid : Prop := scopeReckonsRow.holds Tryz.pinned (OpenSpec.ofChange scopeReckonsSpec)

/-- ITS FALSE NEIGHBOUR: 'it returns false'. Refute it at one input. -/
def scopeReckonsWrong : ChangeSpec := { name := "scopeReckons", fn := fun _ => fun
  | [d1, d2, d3, d4, d5] => { results := [.lit (.bool false)], args := [d1, d2, d3, d4, d5] }
  | _ => none }
def ScopeReckonsWrongFalsely : Prop := scopeReckonsRow.holds Tryz.pinned (OpenSpec.ofChange scopeReckonsWrong)

/-- 'cisternlaw20.ScopeRepeats': WHATEVER THE INPUT: true; the input reads as it did. -/
def scopeRepeatsSpec : ChangeSpec := { name := "scopeRepeats", fn := fun _ => fun
  | [d1, d2, d3, d4] => { results := [.lit (.bool true)], args := [d1, d2, d3, d4] }
  | _ => none }
def scopeRepeatsRow : OpenClaim := { program := "ytbllaacbeagljaagreatdoor", sum := "554e7894e970dc90ef52e230fe82fa993bdcc8c7fc6653768346c77e1f4040a8", func := "cistern/cisternlaw20.ScopeRepeats", spec := "scopeRepeats", inPlace := ["internal/abi.NoEscape", "internal/bytealg.IndexByteString", "internal/bytealg.IndexString"], unfollowed := true, recurses := true, named := ["cistern/syntax.allOperators", "internal/strconv.uint64pow10", "math/bits.deBruijn32tab", "math/bits.deBruijn64tab", "internal/bytealg.MaxLen"], loops := true, apart := false, laid := [("math/bits.deBruijn32tab", laid_math_bits_deBruijn32tab), ("math/bits.deBruijn64tab", laid_math_bits_deBruijn64tab), ("internal/strconv.uint64pow10", laid_internal_strconv_uint64pow10), ("cistern/syntax.allOperators", laid_cistern_syntax_allOperators)] }
def ScopeRepeatsSaid : Prop := scopeRepeatsRow.holds Tryz.pinned (OpenSpec.ofChange scopeRepeatsSpec)

/-- ITS FALSE NEIGHBOUR: 'it returns false'. Refute it at one input. -/
def scopeRepeatsWrong : ChangeSpec := { name := "scopeRepeats", fn := fun _ => fun
  | [d1, d2, d3, d4] => { results := [.lit (.bool false)], args := [d1, d2, d3, d4] }
  | _ => none }
def ScopeRepeatsWrongFalsely : Prop := scopeRepeatsRow.holds Tryz.pinned (OpenSpec.ofChange scopeRepeatsWrong)

/-- 'cisternlaw20.ScopeBlind': WHATEVER THE INPUT: true; the input reads as it did. -/
def scopeBlindSpec : ChangeSpec := { name := "scopeBlind", fn := fun _ => fun
  | [d1, d2, d3] => { results := [.lit (.bool true)], args := [d1, d2, d3] }
  | _ => none }
def scopeBlindRow : OpenClaim := { program := "ytbllaacbeagljaagreatdoor", sum := "554e7894e970dc90ef52e230fe82fa993bdcc8c7fc6653768346c77e1f4040a8", func := "cistern/cisternlaw20.ScopeBlind", spec := "scopeBlind", inPlace := ["internal/abi.NoEscape", "internal/bytealg.IndexByteString", "internal/bytealg.IndexString"], unfollowed := true, recurses := true, named := ["cistern/syntax.allOperators", "internal/strconv.uint64pow10", "math/bits.deBruijn32tab", "math/bits.deBruijn64tab", "internal/bytealg.MaxLen"], loops := true, apart := false, laid := [("math/bits.deBruijn32tab", laid_math_bits_deBruijn32tab), ("math/bits.deBruijn64tab", laid_math_bits_deBruijn64tab), ("internal/strconv.uint64pow10", laid_internal_strconv_uint64pow10), ("cistern/syntax.allOperators", laid_cistern_syntax_allOperators)] }
def ScopeBlindSaid : Prop := scopeBlindRow.holds Tryz.pinned (OpenSpec.ofChange scopeBlindSpec)

/-- ITS FALSE NEIGHBOUR: 'it returns false'. Refute it at one input. -/
def scopeBlindWrong : ChangeSpec := { name := "scopeBlind", fn := fun _ => fun
  | [d1, d2, d3] => { results := [.lit (.bool false)], args := [d1, d2, d3] }
  | _ => none }
def ScopeBlindWrongFalsely : Prop := scopeBlindRow.holds Tryz.pinned (OpenSpec.ofChange scopeBlindWrong)

/-- 'cisternlaw20.ScopeChecks': WHATEVER THE INPUT: true; the input reads as it did. -/
def scopeChecksSpec : ChangeSpec := { name := "scopeChecks", fn := fun _ => fun
  | [d] => { results := [.lit (.bool true)], args := [d] }
  | _ => none }
def scopeChecksRow : OpenClaim := { program := "ytbllaacbeagljaagreatdoor", sum := "554e7894e970dc90ef52e230fe82fa993bdcc8c7fc6653768346c77e1f4040a8", func := "cistern/cisternlaw20.ScopeChecks", spec := "scopeChecks", inPlace := ["internal/abi.NoEscape", "internal/bytealg.IndexByteString", "internal/bytealg.IndexString"], unfollowed := true, recurses := true, named := ["cistern/syntax.allOperators", "internal/strconv.uint64pow10", "math/bits.deBruijn32tab", "math/bits.deBruijn64tab", "internal/bytealg.MaxLen"], loops := true, apart := false, laid := [("math/bits.deBruijn32tab", laid_math_bits_deBruijn32tab), ("math/bits.deBruijn64tab", laid_math_bits_deBruijn64tab), ("internal/strconv.uint64pow10", laid_internal_strconv_uint64pow10), ("cistern/syntax.allOperators", laid_cistern_syntax_allOperators)] }
def ScopeChecksSaid : Prop := scopeChecksRow.holds Tryz.pinned (OpenSpec.ofChange scopeChecksSpec)

/-- ITS FALSE NEIGHBOUR: 'it returns false'. Refute it at one input. -/
def scopeChecksWrong : ChangeSpec := { name := "scopeChecks", fn := fun _ => fun
  | [d] => { results := [.lit (.bool false)], args := [d] }
  | _ => none }
def ScopeChecksWrongFalsely : Prop := scopeChecksRow.holds Tryz.pinned (OpenSpec.ofChange scopeChecksWrong)

/-- 'cisternlaw20.ScopeOwns': WHATEVER THE INPUT: true; the input reads as it did. -/
def scopeOwnsSpec : ChangeSpec := { name := "scopeOwns", fn := fun _ => fun
  | [d1, d2, d3] => { results := [.lit (.bool true)], args := [d1, d2, d3] }
  | _ => none }
def scopeOwnsRow : OpenClaim := { program := "ytbllaacbeagljaagreatdoor", sum := "554e7894e970dc90ef52e230fe82fa993bdcc8c7fc6653768346c77e1f4040a8", func := "cistern/cisternlaw20.ScopeOwns", spec := "scopeOwns", inPlace := ["internal/abi.NoEscape", "internal/bytealg.IndexByteString", "internal/bytealg.IndexString"], unfollowed := true, recurses := true, named := ["cistern/syntax.allOperators", "internal/strconv.uint64pow10", "math/bits.deBruijn32tab", "math/bits.deBruijn64tab", "internal/bytealg.MaxLen"], loops := true, apart := false, laid := [("math/bits.deBruijn32tab", laid_math_bits_deBruijn32tab), ("math/bits.deBruijn64tab", laid_math_bits_deBruijn64tab), ("internal/strconv.uint64pow10", laid_internal_strconv_uint64pow10), ("cistern/syntax.allOperators", laid_cistern_syntax_allOperators)] }
def ScopeOwnsSaid : Prop := scopeOwnsRow.holds Tryz.pinned (OpenSpec.ofChange scopeOwnsSpec)

/-- ITS FALSE NEIGHBOUR: 'it returns false'. Refute it at one input. -/
def scopeOwnsWrong : ChangeSpec := { name := "scopeOwns", fn := fun _ => fun
  | [d1, d2, d3] => { results := [.lit (.bool false)], args := [d1, d2, d3] }
  | _ => none }
def ScopeOwnsWrongFalsely : Prop := scopeOwnsRow.holds Tryz.pinned (OpenSpec.ofChange scopeOwnsWrong)

/-- 'cisternlaw20.ScopeNumbers': WHATEVER THE INPUT: true; the input reads as it did. -/
def scopeNumbersSpec : ChangeSpec := { name := "scopeNumbers", fn := fun _ => fun
  | [d1, d2] => { results := [.lit (.bool true)], args := [d1, d2] }
  | _ => none }
def scopeNumbersRow : OpenClaim := { program := "ytbllaacbeagljaagreatdoor", sum := "554e7894e970dc90ef52e230fe82fa993bdcc8c7fc6653768346c77e1f4040a8", func := "cistern/cisternlaw20.ScopeNumbers", spec := "scopeNumbers", inPlace := ["internal/abi.NoEscape", "internal/bytealg.IndexByteString", "internal/bytealg.IndexString"], unfollowed := true, recurses := true, named := ["cistern/syntax.allOperators", "internal/strconv.uint64pow10", "math/bits.deBruijn32tab", "math/bits.deBruijn64tab", "internal/bytealg.MaxLen"], loops := true, apart := false, laid := [("math/bits.deBruijn32tab", laid_math_bits_deBruijn32tab), ("math/bits.deBruijn64tab", laid_math_bits_deBruijn64tab), ("internal/strconv.uint64pow10", laid_internal_strconv_uint64pow10), ("cistern/syntax.allOperators", laid_cistern_syntax_allOperators)] }
def ScopeNumbersSaid : Prop := scopeNumbersRow.holds Tryz.pinned (OpenSpec.ofChange scopeNumbersSpec)

/-- ITS FALSE NEIGHBOUR: 'it returns false'. Refute it at one input. -/
def scopeNumbersWrong : ChangeSpec := { name := "scopeNumbers", fn := fun _ => fun
  | [d1, d2] => { results := [.lit (.bool false)], args := [d1, d2] }
  | _ => none }
def ScopeNumbersWrongFalsely : Prop := scopeNumbersRow.holds Tryz.pinned (OpenSpec.ofChange scopeNumbersWrong)

/- THE SECOND FORM. 'bulk': how many values and letters a reading holds, each counted each time it is reached (what is shared counts as often as it is met; a slice's spare places count too). A statement '..UptoSaid' is the law's where the arguments, and the package variables that the reading takes, are together of bulk at most 1048576: NARROWER than '..Said'. Prove '..Said' where nothing that the law and all that it calls make is longer than what came in: it says more and counts as full. Else prove '..UptoSaid'. A law counts once. -/
mutual
def uptoBulk {H : Type} : DataW H → Nat
  | .lit (.string bytes) => bytes.length + 1
  | .lit _ => 1
  | .nil => 1
  | .ptr d => uptoBulk d + 1
  | .slice elems spare => uptoBulkAll elems + uptoBulkAll spare + 1
  | .agg parts => uptoBulkAll parts + 1
  | .iface _ d => uptoBulk d + 1
  | .map entries => uptoBulkEntries entries + 1
  | .held _ => 1
def uptoBulkAll {H : Type} : List (DataW H) → Nat
  | [] => 0
  | d :: r => uptoBulk d + uptoBulkAll r
def uptoBulkEntries {H : Type} : List (Lit × DataW H) → Nat
  | [] => 0
  | x :: r => uptoBulkEntry x + uptoBulkEntries r
def uptoBulkEntry {H : Type} : Lit × DataW H → Nat
  | (.string bytes, d) => bytes.length + uptoBulk d + 1
  | (_, d) => uptoBulk d + 1
 end
def uptoSmall : (H : Type) → List (DataW H) → Bool := fun _ ds => decide (uptoBulkAll ds ≤ 1048576)
def OpenSpec.upto (s : _root_.Go.ChangeSpec) : _root_.Go.OpenSpec := { _root_.Go.OpenSpec.ofChange s with cond := some uptoSmall }

/-- 'cisternlaw20.ScopeReckons', WHERE WHAT IT READS IS OF BULK AT MOST 1048576: true; the input reads as it did. -/
def scopeReckonsUptoRow : OpenClaim := { program := "ytbllaacbeagljaagreatdoor", sum := "554e7894e970dc90ef52e230fe82fa993bdcc8c7fc6653768346c77e1f4040a8", func := "cistern/cisternlaw20.ScopeReckons", spec := "scopeReckons", inPlace := ["internal/abi.NoEscape", "internal/bytealg.IndexByteString", "internal/bytealg.IndexString"], unfollowed := true, recurses := true, named := ["cistern/syntax.allOperators", "internal/strconv.uint64pow10", "math/bits.deBruijn32tab", "math/bits.deBruijn64tab", "internal/bytealg.MaxLen"], apart := false, laid := [("math/bits.deBruijn32tab", laid_math_bits_deBruijn32tab), ("math/bits.deBruijn64tab", laid_math_bits_deBruijn64tab), ("internal/strconv.uint64pow10", laid_internal_strconv_uint64pow10), ("cistern/syntax.allOperators", laid_cistern_syntax_allOperators)], narrowed := true }
def ScopeReckonsUptoSaid : Prop := scopeReckonsUptoRow.holds Tryz.pinned (OpenSpec.upto scopeReckonsSpec)

/-- 'cisternlaw20.ScopeRepeats', WHERE WHAT IT READS IS OF BULK AT MOST 1048576: true; the input reads as it did. -/
def scopeRepeatsUptoRow : OpenClaim := { program := "ytbllaacbeagljaagreatdoor", sum := "554e7894e970dc90ef52e230fe82fa993bdcc8c7fc6653768346c77e1f4040a8", func := "cistern/cisternlaw20.ScopeRepeats", spec := "scopeRepeats", inPlace := ["internal/abi.NoEscape", "internal/bytealg.IndexByteString", "internal/bytealg.IndexString"], unfollowed := true, recurses := true, named := ["cistern/syntax.allOperators", "internal/strconv.uint64pow10", "math/bits.deBruijn32tab", "math/bits.deBruijn64tab", "internal/bytealg.MaxLen"], loops := true, apart := false, laid := [("math/bits.deBruijn32tab", laid_math_bits_deBruijn32tab), ("math/bits.deBruijn64tab", laid_math_bits_deBruijn64tab), ("internal/strconv.uint64pow10", laid_internal_strconv_uint64pow10), ("cistern/syntax.allOperators", laid_cistern_syntax_allOperators)], narrowed := true }
def ScopeRepeatsUptoSaid : Prop := scopeRepeatsUptoRow.holds Tryz.pinned (OpenSpec.upto scopeRepeatsSpec)

/-- 'cisternlaw20.ScopeBlind', WHERE WHAT IT READS IS OF BULK AT MOST 1048576: true; the input reads as it did. -/
def scopeBlindUptoRow : OpenClaim := { program := "ytbllaacbeagljaagreatdoor", sum := "554e7894e970dc90ef52e230fe82fa993bdcc8c7fc6653768346c77e1f4040a8", func := "cistern/cisternlaw20.ScopeBlind", spec := "scopeBlind", inPlace := ["internal/abi.NoEscape", "internal/bytealg.IndexByteString", "internal/bytealg.IndexString"], unfollowed := true, recurses := true, named := ["cistern/syntax.allOperators", "internal/strconv.uint64pow10", "math/bits.deBruijn32tab", "math/bits.deBruijn64tab", "internal/bytealg.MaxLen"], loops := true, apart := false, laid := [("math/bits.deBruijn32tab", laid_math_bits_deBruijn32tab), ("math/bits.deBruijn64tab", laid_math_bits_deBruijn64tab), ("internal/strconv.uint64pow10", laid_internal_strconv_uint64pow10), ("cistern/syntax.allOperators", laid_cistern_syntax_allOperators)], narrowed := true }
def ScopeBlindUptoSaid : Prop := scopeBlindUptoRow.holds Tryz.pinned (OpenSpec.upto scopeBlindSpec)

/-- 'cisternlaw20.ScopeChecks', WHERE WHAT IT READS IS OF BULK AT MOST 1048576: true; the input reads as it did. -/
def scopeChecksUptoRow : OpenClaim := { program := "ytbllaacbeagljaagreatdoor", sum := "554e7894e970dc90ef52e230fe82fa993bdcc8c7fc6653768346c77e1f4040a8", func := "cistern/cisternlaw20.ScopeChecks", spec := "scopeChecks", inPlace := ["internal/abi.NoEscape", "internal/bytealg.IndexByteString", "internal/bytealg.IndexString"], unfollowed := true, recurses := true, named := ["cistern/syntax.allOperators", "internal/strconv.uint64pow10", "math/bits.deBruijn32tab", "math/bits.deBruijn64tab", "internal/bytealg.MaxLen"], loops := true, apart := false, laid := [("math/bits.deBruijn32tab", laid_math_bits_deBruijn32tab), ("math/bits.deBruijn64tab", laid_math_bits_deBruijn64tab), ("internal/strconv.uint64pow10", laid_internal_strconv_uint64pow10), ("cistern/syntax.allOperators", laid_cistern_syntax_allOperators)], narrowed := true }
def ScopeChecksUptoSaid : Prop := scopeChecksUptoRow.holds Tryz.pinned (OpenSpec.upto scopeChecksSpec)

/-- 'cisternlaw20.ScopeOwns', WHERE WHAT IT READS IS OF BULK AT MOST 1048576: true; the input reads as it did. -/
def scopeOwnsUptoRow : OpenClaim := { program := "ytbllaacbeagljaagreatdoor", sum := "554e7894e970dc90ef52e230fe82fa993bdcc8c7fc6653768346c77e1f4040a8", func := "cistern/cisternlaw20.ScopeOwns", spec := "scopeOwns", inPlace := ["internal/abi.NoEscape", "internal/bytealg.IndexByteString", "internal/bytealg.IndexString"], unfollowed := true, recurses := true, named := ["cistern/syntax.allOperators", "internal/strconv.uint64pow10", "math/bits.deBruijn32tab", "math/bits.deBruijn64tab", "internal/bytealg.MaxLen"], loops := true, apart := false, laid := [("math/bits.deBruijn32tab", laid_math_bits_deBruijn32tab), ("math/bits.deBruijn64tab", laid_math_bits_deBruijn64tab), ("internal/strconv.uint64pow10", laid_internal_strconv_uint64pow10), ("cistern/syntax.allOperators", laid_cistern_syntax_allOperators)], narrowed := true }
def ScopeOwnsUptoSaid : Prop := scopeOwnsUptoRow.holds Tryz.pinned (OpenSpec.upto scopeOwnsSpec)

/-- 'cisternlaw20.ScopeNumbers', WHERE WHAT IT READS IS OF BULK AT MOST 1048576: true; the input reads as it did. -/
def scopeNumbersUptoRow : OpenClaim := { program := "ytbllaacbeagljaagreatdoor", sum := "554e7894e970dc90ef52e230fe82fa993bdcc8c7fc6653768346c77e1f4040a8", func := "cistern/cisternlaw20.ScopeNumbers", spec := "scopeNumbers", inPlace := ["internal/abi.NoEscape", "internal/bytealg.IndexByteString", "internal/bytealg.IndexString"], unfollowed := true, recurses := true, named := ["cistern/syntax.allOperators", "internal/strconv.uint64pow10", "math/bits.deBruijn32tab", "math/bits.deBruijn64tab", "internal/bytealg.MaxLen"], loops := true, apart := false, laid := [("math/bits.deBruijn32tab", laid_math_bits_deBruijn32tab), ("math/bits.deBruijn64tab", laid_math_bits_deBruijn64tab), ("internal/strconv.uint64pow10", laid_internal_strconv_uint64pow10), ("cistern/syntax.allOperators", laid_cistern_syntax_allOperators)], narrowed := true }
def ScopeNumbersUptoSaid : Prop := scopeNumbersUptoRow.holds Tryz.pinned (OpenSpec.upto scopeNumbersSpec)

end Rows
end Go.Proofs.YtbllaacbeagljaaGreatDoor
