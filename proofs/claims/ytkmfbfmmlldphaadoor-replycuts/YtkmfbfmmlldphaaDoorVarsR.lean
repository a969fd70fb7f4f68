/-
  From a row's list of package-level variables, and the shape of its first world, to what the landed program's calls ask; a world for the witness.
-/
import Derived.Test.YtkmfbfmmlldphaaDoorRepV
import Derived.Test.YtkmfbfmmlldphaaDoorLaw
import Derived.Test.YtkmfbfmmlldphaaDoorCards
import Derived.Test.YtkmfbfmmlldphaaDoorTie
import Derived.WalkKit
import Derived.ProofKit
import Derived.OpenShut
import Derived.ShutString
import Derived.Deep.DeepHandedRow
import Derived.Lib.LaidTab
import Derived.Stop.LaidErr
namespace Go.Proofs.YtkmfbfmmlldphaaDoor
set_option linter.unusedVariables false
set_option linter.unusedSimpArgs false
set_option maxRecDepth 100000
open Go.ChangeShapes Go.WideShapes Go.ChangeAt Go.RowKit
open Go.ChangeMaps (open_string shut_string)

theorem own_none : ownKnob Tryd.prog.godebug = none := by kernel_rfl
theorem tens_named : Tryd.prog.globalNamed "internal/strconv.uint64pow10" = some 1 := by kernel_rfl
theorem tens_type : (Tryd.prog.globals[1]?).map (·.type) = some 113 := by kernel_rfl
theorem tens_cells : Tryd.prog.cellsOf 113 = 20 := by kernel_rfl
theorem u64_cells : Tryd.prog.cellsOf 101 = 1 := by kernel_rfl
/-- The variables that every row of this seat lists. -/
def laidAll : List (String × DataW Unit) := [("math/bits.deBruijn32tab", Rows.laid_math_bits_deBruijn32tab), ("math/bits.deBruijn64tab", Rows.laid_math_bits_deBruijn64tab), ("internal/strconv.uint64pow10", Rows.laid_internal_strconv_uint64pow10), ("unicode/utf8.acceptRanges", Rows.laid_unicode_utf8_acceptRanges), ("unicode/utf8.first", Rows.laid_unicode_utf8_first)]
theorem most_of {W : World} (hsh : W.ShapedOpen Tryd.prog) : MostOk W where
  most := Tryd.laysM145.s1_3 W hsh
theorem vars_of {W : World} (h : laidMetH Tryd.prog laidAll W) (hsh : W.ShapedOpen Tryd.prog) : VarsOk W where
  toMostOk := most_of hsh
  tens := by
    have h1 : laidMet Tryd.prog laidAll W := h
    exact Lib.tabIs_of_head (rest := [("unicode/utf8.acceptRanges", Rows.laid_unicode_utf8_acceptRanges), ("unicode/utf8.first", Rows.laid_unicode_utf8_first)]) tens_named tens_type Tryd.underlying113 Tryd.underlying101 u64_cells tens_cells h1.tail.tail
/-! ### a world that holds them -/
def dat1 : DataW Unit → List Value
  | .lit (.int k n) => [.int k n]
  | _ => []
def dat2 : DataW Unit → List Value
  | .agg ds => ds.flatMap dat1
  | _ => []
def dat3 : DataW Unit → List Value
  | .agg ds => ds.flatMap fun d => dat1 d ++ dat2 d
  | _ => []
def laying (d : DataW Unit) : Obj → Obj
  | .cells _ t frozen => .cells (dat3 d).toArray t frozen
  | o => o
/-- The variables that the rows without digits list. -/
def laidTwo : List (String × DataW Unit) := [("unicode/utf8.acceptRanges", Rows.laid_unicode_utf8_acceptRanges), ("unicode/utf8.first", Rows.laid_unicode_utf8_first)]
noncomputable def laidWorld (os : Os) : World :=
  { World.holding Tryd.prog os ⟨#[], #[], []⟩ with heap := (((((World.holding Tryd.prog os ⟨#[], #[], []⟩).heap.modify 4 (laying Rows.laid_math_bits_deBruijn32tab)).modify 5 (laying Rows.laid_math_bits_deBruijn64tab)).modify 1 (laying Rows.laid_internal_strconv_uint64pow10)).modify 3 (laying Rows.laid_unicode_utf8_acceptRanges)).modify 2 (laying Rows.laid_unicode_utf8_first) }
/-- What the form's reach says of a string that came in. -/
theorem string_reach {P : Program} {H : Type} {ts : List TypeId} {ds : List (DataW H)} {j : Nat} {t : TypeId} {s : ByteArray} (h : (DataW.weightsEach P ts ds).all (· ≤ reachBytes) = true) (ht : ts[j]? = some t) (hd : ds[j]? = some (.lit (.string s.data.toList))) : s.size ≤ 140737488351232 := by
  have h1 := sized_string h ht hd
  have h2 := reachBytes_lt
  have e : s.data.toList.length = s.size := by simp
  have h3 : reachBytes ≤ 140737488351232 := by decide
  omega
end Go.Proofs.YtkmfbfmmlldphaaDoor
