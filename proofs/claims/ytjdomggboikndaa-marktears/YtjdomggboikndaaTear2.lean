/-
  Marks as keys of a map.
-/
import Derived.Test.YtjdomggboikndaaTear1
namespace Go.Proofs.Ytjdomggboikndaa
set_option linter.unusedVariables false
set_option linter.unusedSimpArgs false
open Go.RowKit
open Go.Maps (Keyed)

theorem mark_keyed : Keyed Try.prog 44 := Keyed.of_law (deep_law_laid laidOut (m := 2) (by omega) (by decide +kernel) (by kernel_rfl) (by kernel_rfl))
theorem mark_kt : Try.prog.keyType 44 = true := by kernel_rfl
theorem mark_cells : Try.prog.cellsOf 44 = 2 := by kernel_rfl
theorem int_cells : Try.prog.cellsOf 3 = 1 := by kernel_rfl
theorem types_size : ∃ n, Try.prog.types.size = n + 1 := ⟨Try.prog.types.size - 1, by decide +kernel⟩
theorem key_mark (e s : Int) (he : (Lit.int .i64 e).wf = true) (hs : (Lit.int .i64 s).wf = true) : ∃ l, keyOf Try.prog 44 (.agg #[.int .i64 e, .int .i64 s]) = some l := by
  obtain ⟨n, hn⟩ := types_size
  have h1 : ∀ x, (Lit.int .i64 x).wf = true → Try.prog.keyLits (n + 1) 3 [.int .i64 x] = some [.int .i64 x] := by
    intro x hx
    simp [Program.keyLits, Try.underlying3, hx]
  have h2 : ∃ ls, Try.prog.keyLits (n + 1 + 1) 44 [.int .i64 e, .int .i64 s] = some ls := by
    unfold Program.keyLits
    simp only [Try.underlying44]
    simp [mark_cells, int_cells, h1 e he, h1 s hs]
  obtain ⟨ls, hls⟩ := h2
  refine ⟨.string (keyBytes ls), ?_⟩
  unfold keyOf
  simp only [Try.underlying44]
  simp [mark_kt, Value.formed, Try.underlying44, mark_cells, hn, Value.cells, hls]
theorem zero_bool (w : World) : (zeroValue 4).run Try.prog w = .ok (.bool false) w := by kernel_rfl
end Go.Proofs.Ytjdomggboikndaa
