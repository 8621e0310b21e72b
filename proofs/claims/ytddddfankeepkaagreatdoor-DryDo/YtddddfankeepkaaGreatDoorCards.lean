/-
  DERIVED. GIVEN WITH THE SEED: THE CARDS: each row of YtddddfankeepkaaGreatDoorRows.lean that lists a variable, with what it lists TIED to the program's text (the seventh form; the later family's looks); each row that meets fmt, with fmt's text TOLD by the authors' own Lean function (tested against real Go, not proved from fmt's source: count such statements apart). THE CARD IS WHAT COUNTS. Prove the row's statement (the work); the ties are given (YtddddfankeepkaaGreatDoorTie.lean); close each card by the builder's one call (the guide's Derived/Test/ToyasCard.lean, 'card_holds'). Laid BY PROGRAM, IN A SANDBOX (cutbox-door.mjs). By AI agents, Wed Nov 11 2026. No macro, syntax, notation, axiom, sorry.
-/
import Derived.Test.YtddddfankeepkaaGreatDoorRows
import GoSem.ClaimSeven
namespace Go.Proofs.YtddddfankeepkaaGreatDoor
namespace Rows

/-- THE TIED CARD OF 'cisternlaw21.DryThrough'. -/
def dryThroughCard : Claim7 := { stood := { row := dryThroughRow, standIns := [], harness := (true, "bf53476f555b4a03f7d184bbd9dfaf2e60a4497da371d48043697a2aae182463"), looks := false }, kinds := [], alts := [], laidByText := true, laidKinds := [.wider], laidTests := true, laidLooks := .later }
def DryThroughCardSaid : Prop := Claim7.holds Tryz.pinned (.plain (OpenSpec.ofChange dryThroughSpec)) dryThroughCard

/-- THE TIED CARD OF 'cisternlaw21.DryDo'. -/
def dryDoCard : Claim7 := { stood := { row := dryDoRow, standIns := [], harness := (true, "bf53476f555b4a03f7d184bbd9dfaf2e60a4497da371d48043697a2aae182463"), looks := false }, kinds := [], alts := [], laidByText := true, laidKinds := [.wider], laidTests := true, laidLooks := .later }
def DryDoCardSaid : Prop := Claim7.holds Tryz.pinned (.plain (OpenSpec.ofChange dryDoSpec)) dryDoCard

/-- THE TIED CARD OF 'cisternlaw21.DryAll'. -/
def dryAllCard : Claim7 := { stood := { row := dryAllRow, standIns := [], harness := (true, "bf53476f555b4a03f7d184bbd9dfaf2e60a4497da371d48043697a2aae182463"), looks := false }, kinds := [], alts := [], laidByText := true, laidKinds := [.wider], laidTests := true, laidLooks := .later }
def DryAllCardSaid : Prop := Claim7.holds Tryz.pinned (.plain (OpenSpec.ofChange dryAllSpec)) dryAllCard

/-- THE TIED CARD OF 'cisternlaw21.DryNew'. -/
def dryNewCard : Claim7 := { stood := { row := dryNewRow, standIns := [], harness := (true, "bf53476f555b4a03f7d184bbd9dfaf2e60a4497da371d48043697a2aae182463"), looks := false }, kinds := [], alts := [], laidByText := true, laidKinds := [.wider], laidTests := true, laidLooks := .later }
def DryNewCardSaid : Prop := Claim7.holds Tryz.pinned (.plain (OpenSpec.ofChange dryNewSpec)) dryNewCard

/-- THE SECOND FORM's CARD OF 'cisternlaw21.DryThrough'. -/
def dryThroughUptoCard : Claim7 := { stood := { row := dryThroughUptoRow, standIns := [], harness := (true, "bf53476f555b4a03f7d184bbd9dfaf2e60a4497da371d48043697a2aae182463"), looks := false }, kinds := [], alts := [], laidByText := true, laidKinds := [.wider], laidTests := true, laidLooks := .later }
def DryThroughUptoCardSaid : Prop := Claim7.holds Tryz.pinned (.plain (OpenSpec.upto dryThroughSpec)) dryThroughUptoCard

/-- THE SECOND FORM's CARD OF 'cisternlaw21.DryDo'. -/
def dryDoUptoCard : Claim7 := { stood := { row := dryDoUptoRow, standIns := [], harness := (true, "bf53476f555b4a03f7d184bbd9dfaf2e60a4497da371d48043697a2aae182463"), looks := false }, kinds := [], alts := [], laidByText := true, laidKinds := [.wider], laidTests := true, laidLooks := .later }
def DryDoUptoCardSaid : Prop := Claim7.holds Tryz.pinned (.plain (OpenSpec.upto dryDoSpec)) dryDoUptoCard

/-- THE SECOND FORM's CARD OF 'cisternlaw21.DryAll'. -/
def dryAllUptoCard : Claim7 := { stood := { row := dryAllUptoRow, standIns := [], harness := (true, "bf53476f555b4a03f7d184bbd9dfaf2e60a4497da371d48043697a2aae182463"), looks := false }, kinds := [], alts := [], laidByText := true, laidKinds := [.wider], laidTests := true, laidLooks := .later }
def DryAllUptoCardSaid : Prop := Claim7.holds Tryz.pinned (.plain (OpenSpec.upto dryAllSpec)) dryAllUptoCard

/-- THE SECOND FORM's CARD OF 'cisternlaw21.DryNew'. -/
def dryNewUptoCard : Claim7 := { stood := { row := dryNewUptoRow, standIns := [], harness := (true, "bf53476f555b4a03f7d184bbd9dfaf2e60a4497da371d48043697a2aae182463"), looks := false }, kinds := [], alts := [], laidByText := true, laidKinds := [.wider], laidTests := true, laidLooks := .later }
def DryNewUptoCardSaid : Prop := Claim7.holds Tryz.pinned (.plain (OpenSpec.upto dryNewSpec)) dryNewUptoCard
end Rows
end Go.Proofs.YtddddfankeepkaaGreatDoor
