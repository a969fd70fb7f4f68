/-
  DERIVED. GIVEN WITH THE SEED: THE CARDS: each row of YtlcolabblpikjaaDoorRows.lean that lists a variable, with what it lists TIED to the program's text (the seventh form; the later family's looks); each row that meets fmt, with fmt's text TOLD by the authors' own Lean function (tested against real Go, not proved from fmt's source: count such statements apart). THE CARD IS WHAT COUNTS. Prove the row's statement (the work); the ties are given (YtlcolabblpikjaaDoorTie.lean); close each card by the builder's one call (the guide's Derived/Test/ToyasCard.lean, 'card_holds'). Laid BY PROGRAM, IN A SANDBOX (cutbox-door.mjs). By AI agents, Wed Nov 11 2026. No macro, syntax, notation, axiom, sorry.
-/
import Derived.Test.YtlcolabblpikjaaDoorRows
import GoSem.ClaimSeven
namespace Go.Proofs.YtlcolabblpikjaaDoor
namespace Rows

/-- THE TIED CARD OF 'postilionlaw10.AskForms'. -/
def askFormsCard : Claim7 := { stood := { row := askFormsRow, standIns := [], harness := (true, "0de296f4bbc30bedca77605a0257e0c37eef3c51df40784d9549beceb247c752"), looks := false }, kinds := [], alts := [], laidByText := true, laidKinds := [.data, .data, .data, .data, .pinned], laidTests := true, laidLooks := .later }
def AskFormsCardSaid : Prop := Claim7.holds Tryd.pinned (.plain (OpenSpec.ofChange askFormsSpec)) askFormsCard

/-- THE TIED CARD OF 'postilionlaw10.AskUnlike'. -/
def askUnlikeCard : Claim7 := { stood := { row := askUnlikeRow, standIns := [], harness := (true, "0de296f4bbc30bedca77605a0257e0c37eef3c51df40784d9549beceb247c752"), looks := false }, kinds := [], alts := [], laidByText := true, laidKinds := [.data, .data, .data, .data, .pinned], laidTests := true, laidLooks := .later }
def AskUnlikeCardSaid : Prop := Claim7.holds Tryd.pinned (.plain (OpenSpec.ofChange askUnlikeSpec)) askUnlikeCard

/-- THE SECOND FORM's CARD OF 'postilionlaw10.AskForms'. -/
def askFormsUptoCard : Claim7 := { stood := { row := askFormsUptoRow, standIns := [], harness := (true, "0de296f4bbc30bedca77605a0257e0c37eef3c51df40784d9549beceb247c752"), looks := false }, kinds := [], alts := [], laidByText := true, laidKinds := [.data, .data, .data, .data, .pinned], laidTests := true, laidLooks := .later }
def AskFormsUptoCardSaid : Prop := Claim7.holds Tryd.pinned (.plain (OpenSpec.upto askFormsSpec)) askFormsUptoCard

/-- THE SECOND FORM's CARD OF 'postilionlaw10.AskUnlike'. -/
def askUnlikeUptoCard : Claim7 := { stood := { row := askUnlikeUptoRow, standIns := [], harness := (true, "0de296f4bbc30bedca77605a0257e0c37eef3c51df40784d9549beceb247c752"), looks := false }, kinds := [], alts := [], laidByText := true, laidKinds := [.data, .data, .data, .data, .pinned], laidTests := true, laidLooks := .later }
def AskUnlikeUptoCardSaid : Prop := Claim7.holds Tryd.pinned (.plain (OpenSpec.upto askUnlikeSpec)) askUnlikeUptoCard
end Rows
end Go.Proofs.YtlcolabblpikjaaDoor
