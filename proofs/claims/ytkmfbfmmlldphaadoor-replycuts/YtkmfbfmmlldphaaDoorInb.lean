/-
  Bytes that came in; a slice cut at its end.
-/
import Derived.Test.YtkmfbfmmlldphaaDoorLaw
import Derived.Test.YtkmfbfmmlldphaaDoorByt
import Derived.OpenShut
namespace Go.Proofs.YtkmfbfmmlldphaaDoor
set_option linter.unusedVariables false
set_option linter.unusedSimpArgs false
set_option maxRecDepth 20000
open Go.ChangeShapes Go.WideShapes Go.ChangeAt Go.RowKit

theorem Rd.grow {w0 : World} {R R' : Blks} {v : Value} {xs : List Int} (h : Rd w0 R v xs) (hs : R.Sublist R') : Rd w0 R' v xs := fun w' L' hO => h w' [] (hO.right.sub hs)
theorem InRow.rdb {w : World} {v : Value} {xs : List Int} (h : InRow .u8 w v xs) (R : Blks) : Rd w R v xs := by
  intro w' L' hO
  obtain ⟨A, n, c, rfl, hn, hc, _, _, hA⟩ := h
  refine ⟨_, _, _, rfl, hn, hc, fun h => ?_⟩
  obtain ⟨ad, rfl, hb, hcell⟩ := hA h
  refine ⟨ad, rfl, fun j x hx => ?_⟩
  rw [hO.below.cell (by rw [block_of_add]; exact hb)]
  exact hcell j x hx
theorem InRow.bytb {w : World} {v : Value} {xs : List Int} (h : InRow .u8 w v xs) : Byt xs := by
  obtain ⟨A, n, c, rfl, hn, hc, _, hw, hA⟩ := h
  exact fun x hx => bounds_u8 (hw x hx)
theorem sl_upto (W : World) (A : Option Addr) (n c hi : Nat) (h1 : hi ≤ n) (h2 : n ≤ c) (h3 : A = none → c = 0) : (Instr.slice 49 (.slice A n c) none (some (.int .i64 (hi : Int))) none).run Tryd.prog W = .ok (.slice A hi c) W := by
  cases A with
  | none =>
    obtain rfl := h3 rfl
    obtain rfl : n = 0 := by omega
    obtain rfl : hi = 0 := by omega
    kernel_rfl
  | some ad =>
    have h4 : (hi : Int) ≤ c := by omega
    go_simp
end Go.Proofs.YtkmfbfmmlldphaaDoor
