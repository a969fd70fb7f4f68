/-
  The statements of chapter 2: the example of the document ('wakes').
-/
import Derived.Test.YtjdomggboikndaaMark5
namespace Go.Proofs.Ytjdomggboikndaa
set_option linter.unusedVariables false
set_option linter.unusedSimpArgs false
open Go.RowKit

theorem build_mark (a b : Int) (w : World) : (Instr.build 44 #[(0, .int .i64 a), (1, .int .i64 b)]).run Try.prog w = .ok (.agg #[.int .i64 a, .int .i64 b]) w := by kernel_rfl
set_option maxHeartbeats 1000000 in
theorem wakes2_c {w0 w : World} {R : Blks} (hO : Own w0 w R) : Calls Try.prog 25 #[] w (Gave w0 R (.bool true)) := by
  have HO := Lib.hid hO; clear hO
  have hbm := build_mark 1 2
  go_enter Try.func25, Try.ntmps25
  go_wp2_with fail
  have hcall := seal_ok HO.out 1 2 0 1 (.slice none 0 0) [] (rd_none _ _ _) (by rfl)
  with_reducible refine hcall.mono ?_
  clear hcall hbm
  rintro en w1 ⟨v, L, rfl, hv, hO1⟩
  obtain ⟨g, cap, sp, rfl, rfl, _⟩ := hv.blk (by decide)
  rw [show (sealed 1 2 0 1 []).length = 32 from rfl]
  have hc1 : w1.cell? ⟨g, 1, none⟩ = some (.int .u8 1) := hO1.cell (.head _) 1
  have hc4 : w1.cell? ⟨g, 4, none⟩ = some (.int .u8 2) := hO1.cell (.head _) 4
  have hc31 : w1.cell? ⟨g, 31, none⟩ = some (.int .u8 1) := hO1.cell (.head _) 31
  have HO1 := Lib.hid hO1; clear hO1 HO hv
  go_wp2
  go_ret
  exact ⟨rfl, HO1.out.right⟩
end Go.Proofs.Ytjdomggboikndaa
