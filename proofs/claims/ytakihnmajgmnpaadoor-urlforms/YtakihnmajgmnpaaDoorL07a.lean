/-
  What the laws of chapter 7 share.
-/
import Derived.Test.YtakihnmajgmnpaaDoorUrlP
namespace Go.Proofs.YtakihnmajgmnpaaDoor
set_option linter.unusedVariables false
set_option linter.unusedSimpArgs false
set_option maxRecDepth 20000
open Go.RowKit

def wakeU : UL := ⟨httpI, [97, 46, 98], 0, [47], []⟩
theorem wake_parse : parseI (sb ⟨#[72, 84, 84, 80, 58, 47, 47, 65, 46, 98, 58, 56, 48]⟩) = some wakeU := by kernel_rfl
theorem wake_fine : wakeU.Fine := parseI_fine (byt_sb _) wake_parse
theorem wake_print : strOfNums (printI wakeU) = ⟨#[104, 116, 116, 112, 58, 47, 47, 97, 46, 98, 47]⟩ := by kernel_rfl
theorem wakes7_c {w0 w : World} {R : Blks} (hV : VarsOk w0) (hO : Own w0 w R) : Calls Tryd.prog 16 #[] w fun e w' => e = .returned (.bool true) ∧ Own w0 w' R := by
  have hp := uparse_c hV hO ⟨#[72, 84, 84, 80, 58, 47, 47, 65, 46, 98, 58, 56, 48]⟩ (by decide +kernel)
  rw [wake_parse] at hp
  have hq : ∀ (w' : World) (R' : Blks), Own w0 w' R' → _ := fun w' R' h => uprint_c hV h wakeU wake_fine
  rw [wake_print] at hq
  have HP := Lib.hid hp; have HQ := Lib.hid hq
  clear hp hq hO hV
  go_enter Tryd.func16, Tryd.ntmps16
  go_wp2_with fail
  with_reducible refine HP.out.mono ?_
  rintro e w1 ⟨rfl, hO1⟩
  have HO1 := Lib.hid hO1; clear hO1 HP
  simp only [Option.getD_some, Option.isSome_some]
  go_wp2_with (first | (refine wl_alloc rfl _ rfl HO1.out _ (alloc_url _) ?_; intro g w2 hO2; have HO2 := Lib.hid hO2; clear hO2 HO1) | (refine wl_store rfl _ _ _ rfl HO2.out 0 g 0 _ wakeU.val _ rfl (by rfl) (by rfl) url_size (one_url _) (by decide) ?_; intro w3 hO3; have HO3 := Lib.hid (hO3.cast (L' := (g, .cells wakeU.val.toArray 25) :: R) rfl); clear hO3 HO2) | (refine wl_g (by rfl) ?_; refine wl_load rfl _ _ rfl g 0 wakeU.val wakeU.val _ (HO3.out.heap (.head _)) (by rfl) _ Tryd.underlying25 rfl url_size (by rfl) ?_))
  with_reducible refine (HQ.out _ _ HO3.out).mono ?_
  rintro e w4 ⟨rfl, hO4⟩
  have HO4 := Lib.hid hO4.tail; clear hO4 HO3 HQ
  go_wp2
  go_ret
  exact ⟨rfl, HO4.out⟩
end Go.Proofs.YtakihnmajgmnpaaDoor
