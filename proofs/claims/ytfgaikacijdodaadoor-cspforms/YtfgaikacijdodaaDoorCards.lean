/-
  DERIVED. GIVEN WITH THE SEED: THE CARDS: each row of YtfgaikacijdodaaDoorRows.lean that lists a variable, with what it lists TIED to the program's text (the seventh form; the later family's looks); each row that meets fmt, with fmt's text TOLD by the authors' own Lean function (tested against real Go, not proved from fmt's source: count such statements apart). THE CARD IS WHAT COUNTS. Prove the row's statement (the work); the ties are given (YtfgaikacijdodaaDoorTie.lean); close each card by the builder's one call (the guide's Derived/Test/ToyasCard.lean, 'card_holds'). Laid BY PROGRAM, IN A SANDBOX (cutbox-door.mjs). By AI agents, Wed Nov 11 2026. No macro, syntax, notation, axiom, sorry.
-/
import Derived.Test.YtfgaikacijdodaaDoorRows
import GoSem.ClaimSeven
namespace Go.Proofs.YtfgaikacijdodaaDoor
namespace Rows

/-- THE TIED CARD OF 'postilionlaw11.CspForms'. -/
def cspFormsCard : Claim7 := { stood := { row := cspFormsRow, standIns := [], harness := (true, "7d5762747bb1316966e9b7ee6f172a89aa6081a15d7bb24f482115361f1a9731"), looks := true }, kinds := [], alts := [], laidByText := true, laidKinds := [.data, .data, .data, .data, .sentinel, .sentinel, .pinned], laidTests := true, laidLooks := .later }
def CspFormsCardSaid : Prop := Claim7.holds Tryd.pinned (.plain (OpenSpec.ofChange cspFormsSpec)) cspFormsCard

/-- THE TIED CARD OF 'postilionlaw11.CspWords'. -/
def cspWordsCard : Claim7 := { stood := { row := cspWordsRow, standIns := [], harness := (true, "7d5762747bb1316966e9b7ee6f172a89aa6081a15d7bb24f482115361f1a9731"), looks := true }, kinds := [], alts := [], laidByText := true, laidKinds := [.data, .data, .data, .data, .sentinel, .sentinel, .pinned], laidTests := true, laidLooks := .later }
def CspWordsCardSaid : Prop := Claim7.holds Tryd.pinned (.plain (OpenSpec.ofChange cspWordsSpec)) cspWordsCard

/-- THE TIED CARD OF 'postilionlaw11.CspLaws'. -/
def cspLawsCard : Claim7 := { stood := { row := cspLawsRow, standIns := [], harness := (true, "7d5762747bb1316966e9b7ee6f172a89aa6081a15d7bb24f482115361f1a9731"), looks := true }, kinds := [], alts := [], laidByText := true, laidKinds := [.data, .data, .data, .data, .sentinel, .sentinel, .pinned], laidTests := true, laidLooks := .later }
def CspLawsCardSaid : Prop := Claim7.holds Tryd.pinned (.plain (OpenSpec.ofChange cspLawsSpec)) cspLawsCard

/-- THE TIED CARD OF 'postilionlaw11.CspHosts'. -/
def cspHostsCard : Claim7 := { stood := { row := cspHostsRow, standIns := [], harness := (true, "7d5762747bb1316966e9b7ee6f172a89aa6081a15d7bb24f482115361f1a9731"), looks := true }, kinds := [], alts := [], laidByText := true, laidKinds := [.data, .data, .data, .data, .sentinel, .sentinel, .pinned], laidTests := true, laidLooks := .later }
def CspHostsCardSaid : Prop := Claim7.holds Tryd.pinned (.plain (OpenSpec.ofChange cspHostsSpec)) cspHostsCard

/-- THE SECOND FORM's CARD OF 'postilionlaw11.CspForms'. -/
def cspFormsUptoCard : Claim7 := { stood := { row := cspFormsUptoRow, standIns := [], harness := (true, "7d5762747bb1316966e9b7ee6f172a89aa6081a15d7bb24f482115361f1a9731"), looks := true }, kinds := [], alts := [], laidByText := true, laidKinds := [.data, .data, .data, .data, .sentinel, .sentinel, .pinned], laidTests := true, laidLooks := .later }
def CspFormsUptoCardSaid : Prop := Claim7.holds Tryd.pinned (.plain (OpenSpec.upto cspFormsSpec)) cspFormsUptoCard

/-- THE SECOND FORM's CARD OF 'postilionlaw11.CspWords'. -/
def cspWordsUptoCard : Claim7 := { stood := { row := cspWordsUptoRow, standIns := [], harness := (true, "7d5762747bb1316966e9b7ee6f172a89aa6081a15d7bb24f482115361f1a9731"), looks := true }, kinds := [], alts := [], laidByText := true, laidKinds := [.data, .data, .data, .data, .sentinel, .sentinel, .pinned], laidTests := true, laidLooks := .later }
def CspWordsUptoCardSaid : Prop := Claim7.holds Tryd.pinned (.plain (OpenSpec.upto cspWordsSpec)) cspWordsUptoCard

/-- THE SECOND FORM's CARD OF 'postilionlaw11.CspLaws'. -/
def cspLawsUptoCard : Claim7 := { stood := { row := cspLawsUptoRow, standIns := [], harness := (true, "7d5762747bb1316966e9b7ee6f172a89aa6081a15d7bb24f482115361f1a9731"), looks := true }, kinds := [], alts := [], laidByText := true, laidKinds := [.data, .data, .data, .data, .sentinel, .sentinel, .pinned], laidTests := true, laidLooks := .later }
def CspLawsUptoCardSaid : Prop := Claim7.holds Tryd.pinned (.plain (OpenSpec.upto cspLawsSpec)) cspLawsUptoCard

/-- THE SECOND FORM's CARD OF 'postilionlaw11.CspHosts'. -/
def cspHostsUptoCard : Claim7 := { stood := { row := cspHostsUptoRow, standIns := [], harness := (true, "7d5762747bb1316966e9b7ee6f172a89aa6081a15d7bb24f482115361f1a9731"), looks := true }, kinds := [], alts := [], laidByText := true, laidKinds := [.data, .data, .data, .data, .sentinel, .sentinel, .pinned], laidTests := true, laidLooks := .later }
def CspHostsUptoCardSaid : Prop := Claim7.holds Tryd.pinned (.plain (OpenSpec.upto cspHostsSpec)) cspHostsUptoCard
end Rows
end Go.Proofs.YtfgaikacijdodaaDoor
