/-
  The document's digit.
-/
import Derived.Test.YthhijngddlmkpaaPct2
import Derived.Test.YthhijngddlmkpaaPct4
namespace Go.Proofs.Ythhijngddlmkpaa
set_option linter.unusedVariables false
set_option linter.unusedSimpArgs false
set_option maxRecDepth 20000
open Go.RowKit

theorem hexi_at (w : World) (k : Int) (h0 : 0 ≤ k) (h1 : k < 16) : (Instr.index 9 (.string ⟨#[48, 49, 50, 51, 52, 53, 54, 55, 56, 57, 65, 66, 67, 68, 69, 70]⟩) (.int .i64 k)).run Try.prog w = .ok (.int .u8 (hexD k)) w := by
  rcases (by omega : k = 0 ∨ k = 1 ∨ k = 2 ∨ k = 3 ∨ k = 4 ∨ k = 5 ∨ k = 6 ∨ k = 7 ∨ k = 8 ∨ k = 9 ∨ k = 10 ∨ k = 11 ∨ k = 12 ∨ k = 13 ∨ k = 14 ∨ k = 15) with rfl | rfl | rfl | rfl | rfl | rfl | rfl | rfl | rfl | rfl | rfl | rfl | rfl | rfl | rfl | rfl <;> kernel_rfl
def fitsD (c j : Int) : Prop := hexD j = c ∨ (9 < j ∧ hexD j + 32 = c)
theorem fits_dig {c j : Int} (h0 : 0 ≤ j) (h1 : j < 16) (h : fitsD c j) : digI c = some j := by
  unfold fitsD hexD at h
  unfold digI
  split at h
  · rcases h with h | h
    · rw [if_pos (by omega)]; congr 1; omega
    · omega
  · rcases h with h | h
    · rw [if_neg (by omega), if_neg (by omega), if_pos (by omega)]; congr 1; omega
    · rw [if_neg (by omega), if_pos (by omega)]; congr 1; omega
theorem dig_fits {c x : Int} (h : digI c = some x) : fitsD c x := by
  unfold digI at h
  unfold fitsD hexD
  split at h
  · cases h; rw [if_pos (by omega)]; left; omega
  · split at h
    · cases h; rw [if_neg (by omega)]; right; omega
    · split at h
      · cases h; rw [if_neg (by omega)]; left; omega
      · cases h
set_option maxHeartbeats 2000000 in
theorem rdigit_c {w : World} (c : Int) : Calls Try.prog 23 #[.int .u8 c] w fun e w' => e = .returned (.int .i64 ((digI c).getD (-1))) ∧ w = w' := by
  obtain ⟨d, hd⟩ : ∃ d, (digI c).getD (-1) = d := ⟨_, rfl⟩
  have HD := Lib.hid hd
  rw [hd]
  clear hd
  go_enter Try.func23, Try.ntmps23
  go_wp2
  go_loopw [3] (fun t w' => ∃ k : Int, 0 ≤ k ∧ k ≤ 16 ∧ t = .int .i64 k ∧ Hid (∀ j, 0 ≤ j → j < k → ¬ fitsD c j) ∧ w' = w) (fun t _ => 16 - (intOf t).toNat)
  case atStart => exact ⟨0, Int.le_refl _, by omega, rfl, Lib.hid (fun j h1 h2 => by omega), rfl⟩
  case round =>
    obtain ⟨k, hk0, hk, rfl, HA, rfl⟩ := hrel
    by_cases hlt : k < 16
    · have hix := hexi_at wr k hk0 hlt
      have hfd : digI c = some k ∨ ¬ fitsD c k := by
        by_cases h : fitsD c k
        · exact .inl (fits_dig hk0 hlt h)
        · exact .inr h
      have hb := hexD_plain hk0 hlt
      have hval : ∀ (h : fitsD c k), k = d := fun h => by rw [← HD.out, fits_dig hk0 hlt h]; rfl
      have HV := Lib.hid hval
      have hstep : ¬ fitsD c k → ∀ j, 0 ≤ j → j < k + 1 → ¬ fitsD c j := fun h j h1 h2 => by
        rcases (by omega : j < k ∨ j = k) with h3 | rfl
        · exact HA.out j h1 h3
        · exact h
      have HS := Lib.hid hstep
      have hfi : fitsD c k ↔ (hexD k = c ∨ (9 < k ∧ hexD k + 32 = c)) := Iff.rfl
      have HF := Lib.hid hfi
      clear hfd hval hstep hfi
      generalize hexD k = y at *
      have hw : IntKind.u8.wrap (y + 32) = y + 32 := wraps_u8 _ (by omega) (by omega)
      have hy0 : 0 ≤ y := by omega
      have hy1 : y ≤ 70 := by omega
      clear hb
      by_cases h1 : y = c
      · have t1 : (y == c) = true := beq_iff_eq.2 h1
        have hkd := HV.out (HF.out.2 (.inl h1))
        have HKD := Lib.hid hkd
        clear hkd h1
        go_wp2
        go_ret
        exact ⟨by rw [← HKD.out]; rfl, rfl⟩
      · have t1 : (y == c) = false := beq_eq_false_iff_ne.2 h1
        by_cases h2 : 9 < k
        · by_cases h3 : y + 32 = c
          · have t2 : (y + 32 == c) = true := beq_iff_eq.2 h3
            have hkd := HV.out (HF.out.2 (.inr ⟨h2, h3⟩))
            have HKD := Lib.hid hkd
            clear hkd h1 h3
            go_wp2
            go_ret
            exact ⟨by rw [← HKD.out]; rfl, rfl⟩
          · have t2 : (y + 32 == c) = false := beq_eq_false_iff_ne.2 h3
            have hno := HS.out (fun h => by rcases HF.out.1 h with h | h; exact h1 h; exact h3 h.2)
            have HNO := Lib.hid hno
            clear hno h1 h3
            go_wp2
            go_roundw
            case rel => exact ⟨k + 1, by omega, by omega, by go_num, HNO, trivial⟩
            case measure => simp [intOf]; omega
        · have hno := HS.out (fun h => by rcases HF.out.1 h with h | h; exact h1 h; exact h2 h.1)
          have HNO := Lib.hid hno
          clear hno h1
          go_wp2
          go_roundw
          case rel => exact ⟨k + 1, by omega, by omega, by go_num, HNO, trivial⟩
          case measure => simp [intOf]; omega
    · have hn : d = -1 := by
        rw [← HD.out]
        cases h : digI c with
        | none => rfl
        | some x =>
          have hx := digI_lt h
          exact absurd (dig_fits h) (HA.out x hx.1 (by omega))
      have HN := Lib.hid hn
      clear hn
      go_wp2
      go_ret
      exact ⟨by rw [HN.out]; rfl, rfl⟩
end Go.Proofs.Ythhijngddlmkpaa
