/-
  The help of the statements: Copy.
-/
import Derived.Test.YtpapbmamkggfhaaKeep
namespace Go.Proofs.Ytpapbmamkggfhaa
set_option linter.unusedVariables false
set_option linter.unusedSimpArgs false
set_option maxRecDepth 20000
open Go.RowKit

set_option maxHeartbeats 1000000 in
theorem copy_c {w0 w : World} {R : Blks} (hO : Own w0 w R) (ad : Addr) (n c : Nat) (xs : List Int) (hb : Rd w0 R (.slice (some ad) n c) xs) (hn : n ≤ 1073741824) :
    Calls Try.prog 18 #[.slice (some ad) n c] w (GotBytes w0 R xs) := by
  have hxn : xs.length = n := by
    obtain ⟨A, n', c', e, h, _⟩ := hb w [] hO
    cases e; exact h
  have HXN := Lib.hid hxn
  have HB := Lib.hid hb
  have HO := Lib.hid hO
  clear hb hO hxn
  go_enter Try.func18, Try.ntmps18
  go_wp2_with (refine wl_append rfl _ _ _ rfl _ _ 1 1 Try.underlying23 byte_info (by rfl) (by omega) (.slice none 0 0) 0 [] (by rfl) (L := []) (R := R) ⟨rfl, .inl ⟨rfl, rfl, rfl⟩⟩ (by exact HO.out) ad n c (bv xs) (by rfl) (by rw [length_bv, HXN.out, Nat.mul_one]) (HB.out.src (L' := []) HO.out) (one_bv _) (by simp only [maxLen]; omega) (by omega) ?_; intro v' w2 L2 hr2 hO2 hv2; have HR2 := Lib.hid hr2; have HO2 := Lib.hid hO2; clear hr2 hv2 hO2)
  go_ret
  refine ⟨v', L2, rfl, ?_, HO2.out⟩
  have := HR2.out
  rw [Nat.zero_add, List.nil_append, ← HXN.out] at this
  exact this
end Go.Proofs.Ytpapbmamkggfhaa
