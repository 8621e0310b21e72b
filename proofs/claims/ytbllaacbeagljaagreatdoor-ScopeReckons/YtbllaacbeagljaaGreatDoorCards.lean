/-
  DERIVED. GIVEN WITH THE SEED: THE CARDS: each row of YtbllaacbeagljaaGreatDoorRows.lean that lists a variable, with what it lists TIED to the program's text (the seventh form; the later family's looks); each row that meets fmt, with fmt's text TOLD by the authors' own Lean function (tested against real Go, not proved from fmt's source: count such statements apart). THE CARD IS WHAT COUNTS. Prove the row's statement (the work); the ties are given (YtbllaacbeagljaaGreatDoorTie.lean); close each card by the builder's one call (the guide's Derived/Test/ToyasCard.lean, 'card_holds'). Laid BY PROGRAM, IN A SANDBOX (cutbox-door.mjs). By AI agents, Wed Nov 11 2026. No macro, syntax, notation, axiom, sorry.
-/
import Derived.Test.YtbllaacbeagljaaGreatDoorRows
import GoSem.ClaimSeven
namespace Go.Proofs.YtbllaacbeagljaaGreatDoor
namespace Rows

/-- THE TIED CARD OF 'cisternlaw20.ScopeReckons'. -/
def scopeReckonsCard : Claim7 := { stood := { row := scopeReckonsRow, standIns := [], harness := (true, "4de1cd0efb933343879b8aa51c000de13f2c5a9ab99333f5e41303a054c61ae6"), looks := true }, kinds := [], alts := [], laidByText := true, laidKinds := [.data, .data, .data, .data], laidTests := true, laidLooks := .later }
def ScopeReckonsCardSaid : Prop := Claim7.holds Tryz.pinned (.plain (OpenSpec.ofChange scopeReckonsSpec)) scopeReckonsCard

/-- THE TIED CARD OF 'cisternlaw20.ScopeRepeats'. -/
def scopeRepeatsCard : Claim7 := { stood := { row := scopeRepeatsRow, standIns := [], harness := (true, "4de1cd0efb933343879b8aa51c000de13f2c5a9ab99333f5e41303a054c61ae6"), looks := true }, kinds := [], alts := [], laidByText := true, laidKinds := [.data, .data, .data, .data], laidTests := true, laidLooks := .later }
def ScopeRepeatsCardSaid : Prop := Claim7.holds Tryz.pinned (.plain (OpenSpec.ofChange scopeRepeatsSpec)) scopeRepeatsCard

/-- THE TIED CARD OF 'cisternlaw20.ScopeBlind'. -/
def scopeBlindCard : Claim7 := { stood := { row := scopeBlindRow, standIns := [], harness := (true, "4de1cd0efb933343879b8aa51c000de13f2c5a9ab99333f5e41303a054c61ae6"), looks := true }, kinds := [], alts := [], laidByText := true, laidKinds := [.data, .data, .data, .data], laidTests := true, laidLooks := .later }
def ScopeBlindCardSaid : Prop := Claim7.holds Tryz.pinned (.plain (OpenSpec.ofChange scopeBlindSpec)) scopeBlindCard

/-- THE TIED CARD OF 'cisternlaw20.ScopeChecks'. -/
def scopeChecksCard : Claim7 := { stood := { row := scopeChecksRow, standIns := [], harness := (true, "4de1cd0efb933343879b8aa51c000de13f2c5a9ab99333f5e41303a054c61ae6"), looks := true }, kinds := [], alts := [], laidByText := true, laidKinds := [.data, .data, .data, .data], laidTests := true, laidLooks := .later }
def ScopeChecksCardSaid : Prop := Claim7.holds Tryz.pinned (.plain (OpenSpec.ofChange scopeChecksSpec)) scopeChecksCard

/-- THE TIED CARD OF 'cisternlaw20.ScopeOwns'. -/
def scopeOwnsCard : Claim7 := { stood := { row := scopeOwnsRow, standIns := [], harness := (true, "4de1cd0efb933343879b8aa51c000de13f2c5a9ab99333f5e41303a054c61ae6"), looks := true }, kinds := [], alts := [], laidByText := true, laidKinds := [.data, .data, .data, .data], laidTests := true, laidLooks := .later }
def ScopeOwnsCardSaid : Prop := Claim7.holds Tryz.pinned (.plain (OpenSpec.ofChange scopeOwnsSpec)) scopeOwnsCard

/-- THE TIED CARD OF 'cisternlaw20.ScopeNumbers'. -/
def scopeNumbersCard : Claim7 := { stood := { row := scopeNumbersRow, standIns := [], harness := (true, "4de1cd0efb933343879b8aa51c000de13f2c5a9ab99333f5e41303a054c61ae6"), looks := true }, kinds := [], alts := [], laidByText := true, laidKinds := [.data, .data, .data, .data], laidTests := true, laidLooks := .later }
def ScopeNumbersCardSaid : Prop := Claim7.holds Tryz.pinned (.plain (OpenSpec.ofChange scopeNumbersSpec)) scopeNumbersCard

/-- THE SECOND FORM's CARD OF 'cisternlaw20.ScopeReckons'. -/
def scopeReckonsUptoCard : Claim7 := { stood := { row := scopeReckonsUptoRow, standIns := [], harness := (true, "4de1cd0efb933343879b8aa51c000de13f2c5a9ab99333f5e41303a054c61ae6"), looks := true }, kinds := [], alts := [], laidByText := true, laidKinds := [.data, .data, .data, .data], laidTests := true, laidLooks := .later }
def ScopeReckonsUptoCardSaid : Prop := Claim7.holds Tryz.pinned (.plain (OpenSpec.upto scopeReckonsSpec)) scopeReckonsUptoCard

/-- THE SECOND FORM's CARD OF 'cisternlaw20.ScopeRepeats'. -/
def scopeRepeatsUptoCard : Claim7 := { stood := { row := scopeRepeatsUptoRow, standIns := [], harness := (true, "4de1cd0efb933343879b8aa51c000de13f2c5a9ab99333f5e41303a054c61ae6"), looks := true }, kinds := [], alts := [], laidByText := true, laidKinds := [.data, .data, .data, .data], laidTests := true, laidLooks := .later }
def ScopeRepeatsUptoCardSaid : Prop := Claim7.holds Tryz.pinned (.plain (OpenSpec.upto scopeRepeatsSpec)) scopeRepeatsUptoCard

/-- THE SECOND FORM's CARD OF 'cisternlaw20.ScopeBlind'. -/
def scopeBlindUptoCard : Claim7 := { stood := { row := scopeBlindUptoRow, standIns := [], harness := (true, "4de1cd0efb933343879b8aa51c000de13f2c5a9ab99333f5e41303a054c61ae6"), looks := true }, kinds := [], alts := [], laidByText := true, laidKinds := [.data, .data, .data, .data], laidTests := true, laidLooks := .later }
def ScopeBlindUptoCardSaid : Prop := Claim7.holds Tryz.pinned (.plain (OpenSpec.upto scopeBlindSpec)) scopeBlindUptoCard

/-- THE SECOND FORM's CARD OF 'cisternlaw20.ScopeChecks'. -/
def scopeChecksUptoCard : Claim7 := { stood := { row := scopeChecksUptoRow, standIns := [], harness := (true, "4de1cd0efb933343879b8aa51c000de13f2c5a9ab99333f5e41303a054c61ae6"), looks := true }, kinds := [], alts := [], laidByText := true, laidKinds := [.data, .data, .data, .data], laidTests := true, laidLooks := .later }
def ScopeChecksUptoCardSaid : Prop := Claim7.holds Tryz.pinned (.plain (OpenSpec.upto scopeChecksSpec)) scopeChecksUptoCard

/-- THE SECOND FORM's CARD OF 'cisternlaw20.ScopeOwns'. -/
def scopeOwnsUptoCard : Claim7 := { stood := { row := scopeOwnsUptoRow, standIns := [], harness := (true, "4de1cd0efb933343879b8aa51c000de13f2c5a9ab99333f5e41303a054c61ae6"), looks := true }, kinds := [], alts := [], laidByText := true, laidKinds := [.data, .data, .data, .data], laidTests := true, laidLooks := .later }
def ScopeOwnsUptoCardSaid : Prop := Claim7.holds Tryz.pinned (.plain (OpenSpec.upto scopeOwnsSpec)) scopeOwnsUptoCard

/-- THE SECOND FORM's CARD OF 'cisternlaw20.ScopeNumbers'. -/
def scopeNumbersUptoCard : Claim7 := { stood := { row := scopeNumbersUptoRow, standIns := [], harness := (true, "4de1cd0efb933343879b8aa51c000de13f2c5a9ab99333f5e41303a054c61ae6"), looks := true }, kinds := [], alts := [], laidByText := true, laidKinds := [.data, .data, .data, .data], laidTests := true, laidLooks := .later }
def ScopeNumbersUptoCardSaid : Prop := Claim7.holds Tryz.pinned (.plain (OpenSpec.upto scopeNumbersSpec)) scopeNumbersUptoCard
end Rows
end Go.Proofs.YtbllaacbeagljaaGreatDoor
