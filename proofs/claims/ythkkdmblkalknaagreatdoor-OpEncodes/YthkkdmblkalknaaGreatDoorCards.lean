/-
  DERIVED. GIVEN WITH THE SEED: THE CARDS: each row of YthkkdmblkalknaaGreatDoorRows.lean that lists a variable, with what it lists TIED to the program's text (the seventh form; the later family's looks); each row that meets fmt, with fmt's text TOLD by the authors' own Lean function (tested against real Go, not proved from fmt's source: count such statements apart). THE CARD IS WHAT COUNTS. Prove the row's statement (the work); the ties are given (YthkkdmblkalknaaGreatDoorTie.lean); close each card by the builder's one call (the guide's Derived/Test/ToyasCard.lean, 'card_holds'). Laid BY PROGRAM, IN A SANDBOX (cutbox-door.mjs). By AI agents, Wed Nov 11 2026. No macro, syntax, notation, axiom, sorry.
-/
import Derived.Test.YthkkdmblkalknaaGreatDoorRows
import GoSem.ClaimSeven
namespace Go.Proofs.YthkkdmblkalknaaGreatDoor
namespace Rows

/-- THE TIED CARD OF 'cisternlaw16.OpOneForm'. -/
def opOneFormCard : Claim7 := { stood := { row := opOneFormRow, standIns := [], harness := (true, "bc3f843d21927a910b36b97d59e120a64a40404c002c71684c734c61d456696b"), looks := true }, kinds := [], alts := [], laidByText := true, laidKinds := [.data, .data, .data, .data, .sentinel, .sentinel, .wider, .pinned], laidTests := true, laidLooks := .later }
def OpOneFormCardSaid : Prop := Claim7.holds Tryz.pinned (.plain (OpenSpec.ofChange opOneFormSpec)) opOneFormCard

/-- THE TIED CARD OF 'cisternlaw16.OpChecks'. -/
def opChecksCard : Claim7 := { stood := { row := opChecksRow, standIns := [], harness := (true, "bc3f843d21927a910b36b97d59e120a64a40404c002c71684c734c61d456696b"), looks := true }, kinds := [], alts := [], laidByText := true, laidKinds := [.data, .data, .data, .data, .sentinel, .sentinel, .wider, .pinned], laidTests := true, laidLooks := .later }
def OpChecksCardSaid : Prop := Claim7.holds Tryz.pinned (.plain (OpenSpec.ofChange opChecksSpec)) opChecksCard

/-- THE TIED CARD OF 'cisternlaw16.OpPrints'. -/
def opPrintsCard : Claim7 := { stood := { row := opPrintsRow, standIns := [], harness := (true, "bc3f843d21927a910b36b97d59e120a64a40404c002c71684c734c61d456696b"), looks := true }, kinds := [], alts := [], laidByText := true, laidKinds := [.data, .data, .data, .data, .sentinel, .sentinel, .wider, .pinned], laidTests := true, laidLooks := .later }
def OpPrintsCardSaid : Prop := Claim7.holds Tryz.pinned (.plain (OpenSpec.ofChange opPrintsSpec)) opPrintsCard

/-- THE TIED CARD OF 'cisternlaw16.OpEncodes'. -/
def opEncodesCard : Claim7 := { stood := { row := opEncodesRow, standIns := [], harness := (true, "bc3f843d21927a910b36b97d59e120a64a40404c002c71684c734c61d456696b"), looks := true }, kinds := [], alts := [], laidByText := true, laidKinds := [.data, .data, .data, .data, .sentinel, .sentinel, .wider, .pinned], laidTests := true, laidLooks := .later }
def OpEncodesCardSaid : Prop := Claim7.holds Tryz.pinned (.plain (OpenSpec.ofChange opEncodesSpec)) opEncodesCard

/-- THE TIED CARD OF 'cisternlaw16.OpParses'. -/
def opParsesCard : Claim7 := { stood := { row := opParsesRow, standIns := [], harness := (true, "bc3f843d21927a910b36b97d59e120a64a40404c002c71684c734c61d456696b"), looks := true }, kinds := [], alts := [], laidByText := true, laidKinds := [.data, .data, .data, .data, .sentinel, .sentinel, .wider, .pinned], laidTests := true, laidLooks := .later }
def OpParsesCardSaid : Prop := Claim7.holds Tryz.pinned (.plain (OpenSpec.ofChange opParsesSpec)) opParsesCard

/-- THE TIED CARD OF 'cisternlaw16.OpDecodes'. -/
def opDecodesCard : Claim7 := { stood := { row := opDecodesRow, standIns := [], harness := (true, "bc3f843d21927a910b36b97d59e120a64a40404c002c71684c734c61d456696b"), looks := true }, kinds := [], alts := [], laidByText := true, laidKinds := [.data, .data, .data, .data, .sentinel, .sentinel, .wider, .pinned], laidTests := true, laidLooks := .later }
def OpDecodesCardSaid : Prop := Claim7.holds Tryz.pinned (.plain (OpenSpec.ofChange opDecodesSpec)) opDecodesCard

/-- THE SECOND FORM's CARD OF 'cisternlaw16.OpOneForm'. -/
def opOneFormUptoCard : Claim7 := { stood := { row := opOneFormUptoRow, standIns := [], harness := (true, "bc3f843d21927a910b36b97d59e120a64a40404c002c71684c734c61d456696b"), looks := true }, kinds := [], alts := [], laidByText := true, laidKinds := [.data, .data, .data, .data, .sentinel, .sentinel, .wider, .pinned], laidTests := true, laidLooks := .later }
def OpOneFormUptoCardSaid : Prop := Claim7.holds Tryz.pinned (.plain (OpenSpec.upto opOneFormSpec)) opOneFormUptoCard

/-- THE SECOND FORM's CARD OF 'cisternlaw16.OpChecks'. -/
def opChecksUptoCard : Claim7 := { stood := { row := opChecksUptoRow, standIns := [], harness := (true, "bc3f843d21927a910b36b97d59e120a64a40404c002c71684c734c61d456696b"), looks := true }, kinds := [], alts := [], laidByText := true, laidKinds := [.data, .data, .data, .data, .sentinel, .sentinel, .wider, .pinned], laidTests := true, laidLooks := .later }
def OpChecksUptoCardSaid : Prop := Claim7.holds Tryz.pinned (.plain (OpenSpec.upto opChecksSpec)) opChecksUptoCard

/-- THE SECOND FORM's CARD OF 'cisternlaw16.OpPrints'. -/
def opPrintsUptoCard : Claim7 := { stood := { row := opPrintsUptoRow, standIns := [], harness := (true, "bc3f843d21927a910b36b97d59e120a64a40404c002c71684c734c61d456696b"), looks := true }, kinds := [], alts := [], laidByText := true, laidKinds := [.data, .data, .data, .data, .sentinel, .sentinel, .wider, .pinned], laidTests := true, laidLooks := .later }
def OpPrintsUptoCardSaid : Prop := Claim7.holds Tryz.pinned (.plain (OpenSpec.upto opPrintsSpec)) opPrintsUptoCard

/-- THE SECOND FORM's CARD OF 'cisternlaw16.OpEncodes'. -/
def opEncodesUptoCard : Claim7 := { stood := { row := opEncodesUptoRow, standIns := [], harness := (true, "bc3f843d21927a910b36b97d59e120a64a40404c002c71684c734c61d456696b"), looks := true }, kinds := [], alts := [], laidByText := true, laidKinds := [.data, .data, .data, .data, .sentinel, .sentinel, .wider, .pinned], laidTests := true, laidLooks := .later }
def OpEncodesUptoCardSaid : Prop := Claim7.holds Tryz.pinned (.plain (OpenSpec.upto opEncodesSpec)) opEncodesUptoCard

/-- THE SECOND FORM's CARD OF 'cisternlaw16.OpParses'. -/
def opParsesUptoCard : Claim7 := { stood := { row := opParsesUptoRow, standIns := [], harness := (true, "bc3f843d21927a910b36b97d59e120a64a40404c002c71684c734c61d456696b"), looks := true }, kinds := [], alts := [], laidByText := true, laidKinds := [.data, .data, .data, .data, .sentinel, .sentinel, .wider, .pinned], laidTests := true, laidLooks := .later }
def OpParsesUptoCardSaid : Prop := Claim7.holds Tryz.pinned (.plain (OpenSpec.upto opParsesSpec)) opParsesUptoCard

/-- THE SECOND FORM's CARD OF 'cisternlaw16.OpDecodes'. -/
def opDecodesUptoCard : Claim7 := { stood := { row := opDecodesUptoRow, standIns := [], harness := (true, "bc3f843d21927a910b36b97d59e120a64a40404c002c71684c734c61d456696b"), looks := true }, kinds := [], alts := [], laidByText := true, laidKinds := [.data, .data, .data, .data, .sentinel, .sentinel, .wider, .pinned], laidTests := true, laidLooks := .later }
def OpDecodesUptoCardSaid : Prop := Claim7.holds Tryz.pinned (.plain (OpenSpec.upto opDecodesSpec)) opDecodesUptoCard
end Rows
end Go.Proofs.YthkkdmblkalknaaGreatDoor
