/-
  DERIVED. GIVEN WITH THE SEED: THE CARDS: each row of YtfgaikacijdodaaGreatDoorRows.lean that lists a variable, with what it lists TIED to the program's text (the seventh form; the later family's looks); each row that meets fmt, with fmt's text TOLD by the authors' own Lean function (tested against real Go, not proved from fmt's source: count such statements apart). THE CARD IS WHAT COUNTS. Prove the row's statement (the work); the ties are given (YtfgaikacijdodaaGreatDoorTie.lean); close each card by the builder's one call (the guide's Derived/Test/ToyasCard.lean, 'card_holds'). Laid BY PROGRAM, IN A SANDBOX (cutbox-door.mjs). By AI agents, Wed Nov 11 2026. No macro, syntax, notation, axiom, sorry.
-/
import Derived.Test.YtfgaikacijdodaaGreatDoorRows
import GoSem.ClaimSeven
namespace Go.Proofs.YtfgaikacijdodaaGreatDoor
namespace Rows

/-- THE TIED CARD OF 'postilionlaw11.CspTells'. -/
def cspTellsCard : Claim7 := { stood := { row := cspTellsRow, standIns := [], harness := (true, "c6690b663aec6134d9d4a017ae120b0d91c56e6ce0e70c28b126e0b4b62bc397"), looks := true }, kinds := [], alts := [], laidByText := true, laidKinds := [.data, .data, .data, .data, .sentinel, .sentinel, .pinned], laidTests := true, laidLooks := .later }
def CspTellsCardSaid : Prop := Claim7.holds Tryz.pinned (.plain (OpenSpec.ofChange cspTellsSpec)) cspTellsCard

/-- THE SECOND FORM's CARD OF 'postilionlaw11.CspTells'. -/
def cspTellsUptoCard : Claim7 := { stood := { row := cspTellsUptoRow, standIns := [], harness := (true, "c6690b663aec6134d9d4a017ae120b0d91c56e6ce0e70c28b126e0b4b62bc397"), looks := true }, kinds := [], alts := [], laidByText := true, laidKinds := [.data, .data, .data, .data, .sentinel, .sentinel, .pinned], laidTests := true, laidLooks := .later }
def CspTellsUptoCardSaid : Prop := Claim7.holds Tryz.pinned (.plain (OpenSpec.upto cspTellsSpec)) cspTellsUptoCard
end Rows
end Go.Proofs.YtfgaikacijdodaaGreatDoor
