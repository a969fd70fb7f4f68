/-
  What the laws of chapter 6 share.
-/
import Derived.Test.YthhijngddlmkpaaPct3
import Derived.Test.YthhijngddlmkpaaPct4
import Derived.Test.YthhijngddlmkpaaPct5
import Derived.Test.YthhijngddlmkpaaPct6
namespace Go.Proofs.Ythhijngddlmkpaa
set_option linter.unusedVariables false
set_option linter.unusedSimpArgs false
set_option maxRecDepth 20000
open Go.RowKit

theorem wakes6_c {w0 w : World} {R : Blks} (hO : Own w0 w R) : Calls Try.prog 13 #[] w fun e w' => e = .returned (.bool true) ∧ Own w0 w' R := by
  have h := encode_c hO ⟨#[32]⟩ (by decide)
  rw [show strOfNums (pctE (sb ⟨#[32]⟩)) = ⟨#[37, 50, 48]⟩ by decide +kernel] at h
  have H := Lib.hid h
  clear h hO
  go_enter Try.func13, Try.ntmps13
  go_wp2_with fail
  with_reducible refine H.out.mono ?_
  rintro e w1 ⟨rfl, hO1⟩
  have HO1 := Lib.hid hO1; clear hO1 H
  go_wp2
  go_ret
  exact ⟨rfl, HO1.out⟩
theorem pctE_size (s : ByteArray) : (strOfNums (pctE (sb s))).size ≤ 12 * s.size := by
  rw [strOfNums_size, ← length_sb]; exact pctE_len _
theorem pctE_byt (l : List Int) : Byt (pctE l) := fun x hx => by have := pctE_plain l x hx; omega
end Go.Proofs.Ythhijngddlmkpaa
