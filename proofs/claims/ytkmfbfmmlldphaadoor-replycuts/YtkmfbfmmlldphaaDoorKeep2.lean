/-
  The helps of the statements: Copy and Cut of bytes, of whatever slice (nil too).
-/
import Derived.Test.YtkmfbfmmlldphaaDoorBts
namespace Go.Proofs.YtkmfbfmmlldphaaDoor
set_option linter.unusedVariables false
set_option linter.unusedSimpArgs false
set_option maxRecDepth 20000
open Go.RowKit

set_option maxHeartbeats 1000000 in
theorem copyB_c {w0 w : World} {R : Blks} (hO : Own w0 w R) (v : Value) (xs : List Int) (hb : Rd w0 R v xs) (hn : xs.length ≤ 1073741824) :
    Calls Tryd.prog 38 #[v] w (GotBytes w0 R xs) := by
  have HB := Lib.hid (hb w [] hO)
  have HO := Lib.hid hO
  clear hb hO
  go_enter Tryd.func38, Tryd.ntmps38
  go_wp2_with (refine wl_appendB rfl _ _ rfl (.slice none 0 0) [] (by rfl) (L := []) isBytes_nil HO.out v xs (by rfl) HB.out (by simp; omega) ?_; intro v' w2 L2 hr2 hO2; have HR2 := Lib.hid hr2; have HO2 := Lib.hid hO2; clear hr2 hO2)
  go_ret
  exact ⟨v', L2, rfl, HR2.out, HO2.out⟩
set_option maxHeartbeats 1000000 in
theorem cut_c {w0 w : World} {R : Blks} (hO : Own w0 w R) (v : Value) (xs : List Int) (hb : Rd w0 R v xs) (k : Nat) (hk : k ≤ 1073741824) :
    Calls Tryd.prog 20 #[v, .int .i64 k] w (GotBytes w0 R (xs.take k)) := by
  obtain ⟨A, n, c, rfl, hn, hnc, hA⟩ := hb w [] hO
  clear hA
  by_cases h : n ≤ k
  · have hcc := copyB_c hO (.slice A n c) xs hb (by omega)
    rw [List.take_of_length_le (by omega)]
    have HC := Lib.hid hcc
    clear hO hb hn hcc
    have h1 : ¬ ((k : Int) < n) := by omega
    cases A with
    | none =>
      go_enter Tryd.func20, Tryd.ntmps20
      go_wp2_with fail
      with_reducible refine HC.out.mono ?_
      rintro e w1 ⟨v1, L1, rfl, hr1, hO1⟩
      have HR1 := Lib.hid hr1; have HO1 := Lib.hid hO1; clear hr1 hO1 HC
      go_wp2
      go_ret
      exact ⟨v1, L1, rfl, HR1.out, HO1.out⟩
    | some ad =>
      go_enter Tryd.func20, Tryd.ntmps20
      go_wp2_with fail
      with_reducible refine HC.out.mono ?_
      rintro e w1 ⟨v1, L1, rfl, hr1, hO1⟩
      have HR1 := Lib.hid hr1; have HO1 := Lib.hid hO1; clear hr1 hO1 HC
      go_wp2
      go_ret
      exact ⟨v1, L1, rfl, HR1.out, HO1.out⟩
  · have hcc := copyB_c hO (.slice A k c) (xs.take k) (hb.front k (by omega)) (by simp; omega)
    have HC := Lib.hid hcc
    clear hO hb hn hcc
    have h1 : (k : Int) < n := by omega
    have h2 : k ≤ c := by omega
    cases A with
    | none =>
      go_enter Tryd.func20, Tryd.ntmps20
      go_wp2_with fail
      with_reducible refine HC.out.mono ?_
      rintro e w1 ⟨v1, L1, rfl, hr1, hO1⟩
      have HR1 := Lib.hid hr1; have HO1 := Lib.hid hO1; clear hr1 hO1 HC
      go_wp2
      go_ret
      exact ⟨v1, L1, rfl, HR1.out, HO1.out⟩
    | some ad =>
      go_enter Tryd.func20, Tryd.ntmps20
      go_wp2_with fail
      with_reducible refine HC.out.mono ?_
      rintro e w1 ⟨v1, L1, rfl, hr1, hO1⟩
      have HR1 := Lib.hid hr1; have HO1 := Lib.hid hO1; clear hr1 hO1 HC
      go_wp2
      go_ret
      exact ⟨v1, L1, rfl, HR1.out, HO1.out⟩
end Go.Proofs.YtkmfbfmmlldphaaDoor
