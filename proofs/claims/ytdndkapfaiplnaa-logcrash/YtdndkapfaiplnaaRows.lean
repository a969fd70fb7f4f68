/-
  No cell of these rows narrows 'for every input' (looked for: loops, veiled, ifaces, maps, wideKeys, modest, calm, conditions, laid).
  DERIVED. THE GIVEN ROWS OF THIS SEAT. 6 by the template 'for every input the law returns true; each argument reads behind the call as it read before'; 0 by the template 'total and deterministic' (their statements: YtdndkapfaiplnaaTotals.lean).
  GIVEN WITH THE SEED: the statements are not yours to turn. If you find one false, say at which input.
  Laid BY PROGRAM, IN A SANDBOX (cutbox-rows.mjs): the forced cells as the released guide's own fill.sh prints them over the translation 1fae5179747c9a95… (all of the seat's roots in one cut). By AI agents, Wed Nov 11 2026. No macro, syntax, notation, axiom, sorry.
-/
import Derived.Test.YtdndkapfaiplnaaChecked
import GoSem.Claim
import GoSem.ClaimJoined
import GoSem.ClaimMapViews
import Derived.JoinedTies
import Derived.KernelRfl
namespace Go.Proofs.Ytdndkapfaiplnaa
/- THE CELL 'sum', in the pinned program and in every row, IS THE sha256 OF THE DUMP (.gsa) THAT YtdndkapfaiplnaaProg.lean LOADS. Nothing in Lean hashes anything: it is a label: what it is worth is what the hold of that sum in a sandbox is worth. -/
noncomputable def Try.pinned : Pinned := { name := "ytdndkapfaiplnaa", sum := "1fae5179747c9a955d8218e7a26b1544c329af9726466d8d553661ee7712088c", checked := Try.checked }
namespace Rows
def none {H : Type} : Left H := { results := [], args := [] }

/-- 'postilionlaw01.DiskPlays': WHATEVER THE INPUT: true; the input reads as it did. -/
def diskPlaysSpec : ChangeSpec := { name := "diskPlays", fn := fun _ => fun
  | [d1, d2, d3] => { results := [.lit (.bool true)], args := [d1, d2, d3] }
  | _ => none }
def diskPlaysRow : OpenClaim := { program := "ytdndkapfaiplnaa", sum := "1fae5179747c9a955d8218e7a26b1544c329af9726466d8d553661ee7712088c", func := "postilion/postilionlaw01.DiskPlays", spec := "diskPlays", apart := false }
def DiskPlaysSaid : Prop := diskPlaysRow.holds Try.pinned (OpenSpec.ofChange diskPlaysSpec)

/-- ITS FALSE NEIGHBOUR: 'it returns false'. Refute it at one input. -/
def diskPlaysWrong : ChangeSpec := { name := "diskPlays", fn := fun _ => fun
  | [d1, d2, d3] => { results := [.lit (.bool false)], args := [d1, d2, d3] }
  | _ => none }
def DiskPlaysWrongFalsely : Prop := diskPlaysRow.holds Try.pinned (OpenSpec.ofChange diskPlaysWrong)

/-- 'postilionlaw04.LogSlots': WHATEVER THE INPUT: true; the input reads as it did. -/
def logSlotsSpec : ChangeSpec := { name := "logSlots", fn := fun _ => fun
  | [d] => { results := [.lit (.bool true)], args := [d] }
  | _ => none }
def logSlotsRow : OpenClaim := { program := "ytdndkapfaiplnaa", sum := "1fae5179747c9a955d8218e7a26b1544c329af9726466d8d553661ee7712088c", func := "postilion/postilionlaw04.LogSlots", spec := "logSlots", apart := false }
def LogSlotsSaid : Prop := logSlotsRow.holds Try.pinned (OpenSpec.ofChange logSlotsSpec)

/-- ITS FALSE NEIGHBOUR: 'it returns false'. Refute it at one input. -/
def logSlotsWrong : ChangeSpec := { name := "logSlots", fn := fun _ => fun
  | [d] => { results := [.lit (.bool false)], args := [d] }
  | _ => none }
def LogSlotsWrongFalsely : Prop := logSlotsRow.holds Try.pinned (OpenSpec.ofChange logSlotsWrong)

/-- 'postilionlaw04.LogErrors': WHATEVER THE INPUT: true; the input reads as it did. -/
def logErrorsSpec : ChangeSpec := { name := "logErrors", fn := fun _ => fun
  | [d1, d2] => { results := [.lit (.bool true)], args := [d1, d2] }
  | _ => none }
def logErrorsRow : OpenClaim := { program := "ytdndkapfaiplnaa", sum := "1fae5179747c9a955d8218e7a26b1544c329af9726466d8d553661ee7712088c", func := "postilion/postilionlaw04.LogErrors", spec := "logErrors", apart := false }
def LogErrorsSaid : Prop := logErrorsRow.holds Try.pinned (OpenSpec.ofChange logErrorsSpec)

/-- ITS FALSE NEIGHBOUR: 'it returns false'. Refute it at one input. -/
def logErrorsWrong : ChangeSpec := { name := "logErrors", fn := fun _ => fun
  | [d1, d2] => { results := [.lit (.bool false)], args := [d1, d2] }
  | _ => none }
def LogErrorsWrongFalsely : Prop := logErrorsRow.holds Try.pinned (OpenSpec.ofChange logErrorsWrong)

/-- 'postilionlaw04.LogTurns': WHATEVER THE INPUT: true; the input reads as it did. -/
def logTurnsSpec : ChangeSpec := { name := "logTurns", fn := fun _ => fun
  | [d1, d2, d3] => { results := [.lit (.bool true)], args := [d1, d2, d3] }
  | _ => none }
def logTurnsRow : OpenClaim := { program := "ytdndkapfaiplnaa", sum := "1fae5179747c9a955d8218e7a26b1544c329af9726466d8d553661ee7712088c", func := "postilion/postilionlaw04.LogTurns", spec := "logTurns", apart := false }
def LogTurnsSaid : Prop := logTurnsRow.holds Try.pinned (OpenSpec.ofChange logTurnsSpec)

/-- ITS FALSE NEIGHBOUR: 'it returns false'. Refute it at one input. -/
def logTurnsWrong : ChangeSpec := { name := "logTurns", fn := fun _ => fun
  | [d1, d2, d3] => { results := [.lit (.bool false)], args := [d1, d2, d3] }
  | _ => none }
def LogTurnsWrongFalsely : Prop := logTurnsRow.holds Try.pinned (OpenSpec.ofChange logTurnsWrong)

/-- 'postilionlaw04.LogPlays': WHATEVER THE INPUT: true; the input reads as it did. -/
def logPlaysSpec : ChangeSpec := { name := "logPlays", fn := fun _ => fun
  | [d] => { results := [.lit (.bool true)], args := [d] }
  | _ => none }
def logPlaysRow : OpenClaim := { program := "ytdndkapfaiplnaa", sum := "1fae5179747c9a955d8218e7a26b1544c329af9726466d8d553661ee7712088c", func := "postilion/postilionlaw04.LogPlays", spec := "logPlays", apart := false }
def LogPlaysSaid : Prop := logPlaysRow.holds Try.pinned (OpenSpec.ofChange logPlaysSpec)

/-- ITS FALSE NEIGHBOUR: 'it returns false'. Refute it at one input. -/
def logPlaysWrong : ChangeSpec := { name := "logPlays", fn := fun _ => fun
  | [d] => { results := [.lit (.bool false)], args := [d] }
  | _ => none }
def LogPlaysWrongFalsely : Prop := logPlaysRow.holds Try.pinned (OpenSpec.ofChange logPlaysWrong)

/-- 'postilionlaw04.LogCrash': WHATEVER THE INPUT: true; the input reads as it did. -/
def logCrashSpec : ChangeSpec := { name := "logCrash", fn := fun _ => fun
  | [d1, d2, d3] => { results := [.lit (.bool true)], args := [d1, d2, d3] }
  | _ => none }
def logCrashRow : OpenClaim := { program := "ytdndkapfaiplnaa", sum := "1fae5179747c9a955d8218e7a26b1544c329af9726466d8d553661ee7712088c", func := "postilion/postilionlaw04.LogCrash", spec := "logCrash", apart := false }
def LogCrashSaid : Prop := logCrashRow.holds Try.pinned (OpenSpec.ofChange logCrashSpec)

/-- ITS FALSE NEIGHBOUR: 'it returns false'. Refute it at one input. -/
def logCrashWrong : ChangeSpec := { name := "logCrash", fn := fun _ => fun
  | [d1, d2, d3] => { results := [.lit (.bool false)], args := [d1, d2, d3] }
  | _ => none }
def LogCrashWrongFalsely : Prop := logCrashRow.holds Try.pinned (OpenSpec.ofChange logCrashWrong)

/- THE SECOND FORM. 'bulk': how many values and letters a reading holds, each counted each time it is reached (what is shared counts as often as it is met; a slice's spare places count too). A statement '..UptoSaid' is the law's where the arguments, and the package variables that the reading takes, are together of bulk at most 1048576: NARROWER than '..Said'. Prove '..Said' where nothing that the law and all that it calls make is longer than what came in: it says more and counts as full. Else prove '..UptoSaid'. A law counts once. -/
mutual
def uptoBulk {H : Type} : DataW H → Nat
  | .lit (.string bytes) => bytes.length + 1
  | .lit _ => 1
  | .nil => 1
  | .ptr d => uptoBulk d + 1
  | .slice elems spare => uptoBulkAll elems + uptoBulkAll spare + 1
  | .agg parts => uptoBulkAll parts + 1
  | .iface _ d => uptoBulk d + 1
  | .map entries => uptoBulkEntries entries + 1
  | .held _ => 1
def uptoBulkAll {H : Type} : List (DataW H) → Nat
  | [] => 0
  | d :: r => uptoBulk d + uptoBulkAll r
def uptoBulkEntries {H : Type} : List (Lit × DataW H) → Nat
  | [] => 0
  | x :: r => uptoBulkEntry x + uptoBulkEntries r
def uptoBulkEntry {H : Type} : Lit × DataW H → Nat
  | (.string bytes, d) => bytes.length + uptoBulk d + 1
  | (_, d) => uptoBulk d + 1
 end
def uptoSmall : (H : Type) → List (DataW H) → Bool := fun _ ds => decide (uptoBulkAll ds ≤ 1048576)
def OpenSpec.upto (s : _root_.Go.ChangeSpec) : _root_.Go.OpenSpec := { _root_.Go.OpenSpec.ofChange s with cond := some uptoSmall }

/-- 'postilionlaw01.DiskPlays', WHERE WHAT IT READS IS OF BULK AT MOST 1048576: true; the input reads as it did. -/
def diskPlaysUptoRow : OpenClaim := { program := "ytdndkapfaiplnaa", sum := "1fae5179747c9a955d8218e7a26b1544c329af9726466d8d553661ee7712088c", func := "postilion/postilionlaw01.DiskPlays", spec := "diskPlays", apart := false, narrowed := true }
def DiskPlaysUptoSaid : Prop := diskPlaysUptoRow.holds Try.pinned (OpenSpec.upto diskPlaysSpec)

/-- 'postilionlaw04.LogSlots', WHERE WHAT IT READS IS OF BULK AT MOST 1048576: true; the input reads as it did. -/
def logSlotsUptoRow : OpenClaim := { program := "ytdndkapfaiplnaa", sum := "1fae5179747c9a955d8218e7a26b1544c329af9726466d8d553661ee7712088c", func := "postilion/postilionlaw04.LogSlots", spec := "logSlots", apart := false, narrowed := true }
def LogSlotsUptoSaid : Prop := logSlotsUptoRow.holds Try.pinned (OpenSpec.upto logSlotsSpec)

/-- 'postilionlaw04.LogErrors', WHERE WHAT IT READS IS OF BULK AT MOST 1048576: true; the input reads as it did. -/
def logErrorsUptoRow : OpenClaim := { program := "ytdndkapfaiplnaa", sum := "1fae5179747c9a955d8218e7a26b1544c329af9726466d8d553661ee7712088c", func := "postilion/postilionlaw04.LogErrors", spec := "logErrors", apart := false, narrowed := true }
def LogErrorsUptoSaid : Prop := logErrorsUptoRow.holds Try.pinned (OpenSpec.upto logErrorsSpec)

/-- 'postilionlaw04.LogTurns', WHERE WHAT IT READS IS OF BULK AT MOST 1048576: true; the input reads as it did. -/
def logTurnsUptoRow : OpenClaim := { program := "ytdndkapfaiplnaa", sum := "1fae5179747c9a955d8218e7a26b1544c329af9726466d8d553661ee7712088c", func := "postilion/postilionlaw04.LogTurns", spec := "logTurns", apart := false, narrowed := true }
def LogTurnsUptoSaid : Prop := logTurnsUptoRow.holds Try.pinned (OpenSpec.upto logTurnsSpec)

/-- 'postilionlaw04.LogPlays', WHERE WHAT IT READS IS OF BULK AT MOST 1048576: true; the input reads as it did. -/
def logPlaysUptoRow : OpenClaim := { program := "ytdndkapfaiplnaa", sum := "1fae5179747c9a955d8218e7a26b1544c329af9726466d8d553661ee7712088c", func := "postilion/postilionlaw04.LogPlays", spec := "logPlays", apart := false, narrowed := true }
def LogPlaysUptoSaid : Prop := logPlaysUptoRow.holds Try.pinned (OpenSpec.upto logPlaysSpec)

/-- 'postilionlaw04.LogCrash', WHERE WHAT IT READS IS OF BULK AT MOST 1048576: true; the input reads as it did. -/
def logCrashUptoRow : OpenClaim := { program := "ytdndkapfaiplnaa", sum := "1fae5179747c9a955d8218e7a26b1544c329af9726466d8d553661ee7712088c", func := "postilion/postilionlaw04.LogCrash", spec := "logCrash", apart := false, narrowed := true }
def LogCrashUptoSaid : Prop := logCrashUptoRow.holds Try.pinned (OpenSpec.upto logCrashSpec)

end Rows
end Go.Proofs.Ytdndkapfaiplnaa
