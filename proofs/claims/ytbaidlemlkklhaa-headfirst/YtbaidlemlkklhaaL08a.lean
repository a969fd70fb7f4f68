/-
  What the laws of chapter 8 share.
-/
import Derived.Test.YtbaidlemlkklhaaHead2
namespace Go.Proofs.Ytbaidlemlkklhaa
set_option linter.unusedVariables false
set_option linter.unusedSimpArgs false
set_option maxRecDepth 20000
open Go.RowKit

theorem wakes8_c {w0 w : World} {R : Blks} (hO : Own w0 w R) : Calls Try.prog 8 #[] w fun e w' => e = .returned (.bool true) ∧ Own w0 w' R := by
  have h1 : ∀ w', Own w0 w' R → _ := fun w' h => hforb_c h ⟨#[72, 111, 115, 116]⟩ (by decide)
  have h2 : ∀ w', Own w0 w' R → _ := fun w' h => hforb_c h ⟨#[72, 111, 115, 116, 115]⟩ (by decide)
  rw [show forbI (sb ⟨#[72, 111, 115, 116]⟩) = true by decide +kernel] at h1
  rw [show forbI (sb ⟨#[72, 111, 115, 116, 115]⟩) = false by decide +kernel] at h2
  have HO := Lib.hid hO; have H1 := Lib.hid h1; have H2 := Lib.hid h2
  clear h1 h2 hO
  go_enter Try.func8, Try.ntmps8
  go_wp2_with fail
  with_reducible refine (H1.out _ HO.out).mono ?_
  rintro e w1 ⟨rfl, hO1⟩
  have HO1 := Lib.hid hO1; clear hO1 H1 HO
  go_wp2_with fail
  with_reducible refine (H2.out _ HO1.out).mono ?_
  rintro e w2 ⟨rfl, hO2⟩
  have HO2 := Lib.hid hO2; clear hO2 H2 HO1
  go_wp2
  go_ret
  exact ⟨rfl, HO2.out⟩
end Go.Proofs.Ytbaidlemlkklhaa
