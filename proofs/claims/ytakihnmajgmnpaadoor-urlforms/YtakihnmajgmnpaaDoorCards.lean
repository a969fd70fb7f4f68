/-
  DERIVED. GIVEN WITH THE SEED: THE CARDS: each row of YtakihnmajgmnpaaDoorRows.lean that lists a variable, with what it lists TIED to the program's text (the seventh form; the later family's looks); each row that meets fmt, with fmt's text TOLD by the authors' own Lean function (tested against real Go, not proved from fmt's source: count such statements apart). THE CARD IS WHAT COUNTS. Prove the row's statement (the work); the ties are given (YtakihnmajgmnpaaDoorTie.lean); close each card by the builder's one call (the guide's Derived/Test/ToyasCard.lean, 'card_holds'). Laid BY PROGRAM, IN A SANDBOX (cutbox-door.mjs). By AI agents, Wed Nov 11 2026. No macro, syntax, notation, axiom, sorry.
-/
import Derived.Test.YtakihnmajgmnpaaDoorRows
import GoSem.ClaimSeven
namespace Go.Proofs.YtakihnmajgmnpaaDoor
namespace Rows

/-- THE TIED CARD OF 'postilionlaw07.URLForms'. -/
def uRLFormsCard : Claim7 := { stood := { row := uRLFormsRow, standIns := [], harness := (true, "ac6b1b5d71563fd17b1fa4391772001df467058b05ece254e1a3580913f69745"), looks := false }, kinds := [], alts := [], laidByText := true, laidKinds := [.data, .data, .data, .data, .pinned], laidTests := true, laidLooks := .later }
def URLFormsCardSaid : Prop := Claim7.holds Tryd.pinned (.plain (OpenSpec.ofChange uRLFormsSpec)) uRLFormsCard

/-- THE TIED CARD OF 'postilionlaw07.URLDots'. -/
def uRLDotsCard : Claim7 := { stood := { row := uRLDotsRow, standIns := [], harness := (true, "ac6b1b5d71563fd17b1fa4391772001df467058b05ece254e1a3580913f69745"), looks := false }, kinds := [], alts := [], laidByText := true, laidKinds := [.data, .data, .data, .data, .pinned], laidTests := true, laidLooks := .later }
def URLDotsCardSaid : Prop := Claim7.holds Tryd.pinned (.plain (OpenSpec.ofChange uRLDotsSpec)) uRLDotsCard

/-- THE TIED CARD OF 'postilionlaw07.URLTells'. -/
def uRLTellsCard : Claim7 := { stood := { row := uRLTellsRow, standIns := [], harness := (true, "ac6b1b5d71563fd17b1fa4391772001df467058b05ece254e1a3580913f69745"), looks := false }, kinds := [], alts := [], laidByText := true, laidKinds := [.data, .data, .data, .data, .pinned], laidTests := true, laidLooks := .later }
def URLTellsCardSaid : Prop := Claim7.holds Tryd.pinned (.plain (OpenSpec.ofChange uRLTellsSpec)) uRLTellsCard

/-- THE TIED CARD OF 'postilionlaw07.URLBack'. -/
def uRLBackCard : Claim7 := { stood := { row := uRLBackRow, standIns := [], harness := (true, "ac6b1b5d71563fd17b1fa4391772001df467058b05ece254e1a3580913f69745"), looks := false }, kinds := [], alts := [], laidByText := true, laidKinds := [.data, .data, .data, .data, .pinned], laidTests := true, laidLooks := .later }
def URLBackCardSaid : Prop := Claim7.holds Tryd.pinned (.plain (OpenSpec.ofChange uRLBackSpec)) uRLBackCard

/-- THE TIED CARD OF 'postilionlaw07.URLPorts'. -/
def uRLPortsCard : Claim7 := { stood := { row := uRLPortsRow, standIns := [], harness := (true, "ac6b1b5d71563fd17b1fa4391772001df467058b05ece254e1a3580913f69745"), looks := false }, kinds := [], alts := [], laidByText := true, laidKinds := [.data, .data, .data, .data, .pinned], laidTests := true, laidLooks := .later }
def URLPortsCardSaid : Prop := Claim7.holds Tryd.pinned (.plain (OpenSpec.ofChange uRLPortsSpec)) uRLPortsCard

/-- THE TIED CARD OF 'postilionlaw07.URLSame'. -/
def uRLSameCard : Claim7 := { stood := { row := uRLSameRow, standIns := [], harness := (true, "ac6b1b5d71563fd17b1fa4391772001df467058b05ece254e1a3580913f69745"), looks := false }, kinds := [], alts := [], laidByText := true, laidKinds := [.data, .data, .data, .data, .pinned], laidTests := true, laidLooks := .later }
def URLSameCardSaid : Prop := Claim7.holds Tryd.pinned (.plain (OpenSpec.ofChange uRLSameSpec)) uRLSameCard

/-- THE SECOND FORM's CARD OF 'postilionlaw07.URLForms'. -/
def uRLFormsUptoCard : Claim7 := { stood := { row := uRLFormsUptoRow, standIns := [], harness := (true, "ac6b1b5d71563fd17b1fa4391772001df467058b05ece254e1a3580913f69745"), looks := false }, kinds := [], alts := [], laidByText := true, laidKinds := [.data, .data, .data, .data, .pinned], laidTests := true, laidLooks := .later }
def URLFormsUptoCardSaid : Prop := Claim7.holds Tryd.pinned (.plain (OpenSpec.upto uRLFormsSpec)) uRLFormsUptoCard

/-- THE SECOND FORM's CARD OF 'postilionlaw07.URLDots'. -/
def uRLDotsUptoCard : Claim7 := { stood := { row := uRLDotsUptoRow, standIns := [], harness := (true, "ac6b1b5d71563fd17b1fa4391772001df467058b05ece254e1a3580913f69745"), looks := false }, kinds := [], alts := [], laidByText := true, laidKinds := [.data, .data, .data, .data, .pinned], laidTests := true, laidLooks := .later }
def URLDotsUptoCardSaid : Prop := Claim7.holds Tryd.pinned (.plain (OpenSpec.upto uRLDotsSpec)) uRLDotsUptoCard

/-- THE SECOND FORM's CARD OF 'postilionlaw07.URLTells'. -/
def uRLTellsUptoCard : Claim7 := { stood := { row := uRLTellsUptoRow, standIns := [], harness := (true, "ac6b1b5d71563fd17b1fa4391772001df467058b05ece254e1a3580913f69745"), looks := false }, kinds := [], alts := [], laidByText := true, laidKinds := [.data, .data, .data, .data, .pinned], laidTests := true, laidLooks := .later }
def URLTellsUptoCardSaid : Prop := Claim7.holds Tryd.pinned (.plain (OpenSpec.upto uRLTellsSpec)) uRLTellsUptoCard

/-- THE SECOND FORM's CARD OF 'postilionlaw07.URLBack'. -/
def uRLBackUptoCard : Claim7 := { stood := { row := uRLBackUptoRow, standIns := [], harness := (true, "ac6b1b5d71563fd17b1fa4391772001df467058b05ece254e1a3580913f69745"), looks := false }, kinds := [], alts := [], laidByText := true, laidKinds := [.data, .data, .data, .data, .pinned], laidTests := true, laidLooks := .later }
def URLBackUptoCardSaid : Prop := Claim7.holds Tryd.pinned (.plain (OpenSpec.upto uRLBackSpec)) uRLBackUptoCard

/-- THE SECOND FORM's CARD OF 'postilionlaw07.URLPorts'. -/
def uRLPortsUptoCard : Claim7 := { stood := { row := uRLPortsUptoRow, standIns := [], harness := (true, "ac6b1b5d71563fd17b1fa4391772001df467058b05ece254e1a3580913f69745"), looks := false }, kinds := [], alts := [], laidByText := true, laidKinds := [.data, .data, .data, .data, .pinned], laidTests := true, laidLooks := .later }
def URLPortsUptoCardSaid : Prop := Claim7.holds Tryd.pinned (.plain (OpenSpec.upto uRLPortsSpec)) uRLPortsUptoCard

/-- THE SECOND FORM's CARD OF 'postilionlaw07.URLSame'. -/
def uRLSameUptoCard : Claim7 := { stood := { row := uRLSameUptoRow, standIns := [], harness := (true, "ac6b1b5d71563fd17b1fa4391772001df467058b05ece254e1a3580913f69745"), looks := false }, kinds := [], alts := [], laidByText := true, laidKinds := [.data, .data, .data, .data, .pinned], laidTests := true, laidLooks := .later }
def URLSameUptoCardSaid : Prop := Claim7.holds Tryd.pinned (.plain (OpenSpec.upto uRLSameSpec)) uRLSameUptoCard
end Rows
end Go.Proofs.YtakihnmajgmnpaaDoor
