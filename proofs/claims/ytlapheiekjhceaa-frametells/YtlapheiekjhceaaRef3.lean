/-
  The document's own Sum, Need, Framed.
-/
import Derived.Test.YtlapheiekjhceaaFrame1
namespace Go.Proofs.Ytlapheiekjhceaa
set_option linter.unusedVariables false
set_option linter.unusedSimpArgs false
open Go.RowKit

set_option maxHeartbeats 1000000 in
theorem refSum_c {w : World} (v : Value) (xs : List Int) (hb : Bs w v xs) (hB : Byt xs) (hl : xs.length ≤ 1073741824) : Calls Try.prog 29 #[v] w fun e w' => e = .returned (.int .u32 (crc xs)) ∧ w = w' := by
  obtain ⟨A, n, c, rfl, hn, _, hA⟩ := hb
  have HN := Lib.hid hn
  have HA := Lib.hid hA
  have HB := Lib.hid hB
  have hn' : n ≤ 1073741824 := by omega
  clear hn hA hB hl
  go_enter Try.func29, Try.ntmps29
  go_wp2
  go_loopw [3, 9] (fun s t w' => ∃ k : Nat, k ≤ n ∧ t = .int .i64 k ∧ Hid (s = .int .u32 (crcFrom 4294967295 (xs.take k) : Nat)) ∧ w' = w) (fun _ t _ => n - (intOf t).toNat)
  case atStart => exact ⟨0, Nat.zero_le _, rfl, rfl, rfl⟩
  case round =>
    obtain ⟨k, hk, rfl, HS, rfl⟩ := hrel
    have hs := HS.out
    subst hs
    by_cases hlt : k < n
    · have hkx : k < xs.length := by rw [HN.out]; exact hlt
      obtain ⟨ad, rfl, hca⟩ := HA.out (by omega)
      have hca' : wr.cell? (ad.add k) = some (.int .u8 xs[k]) := hca k _ (List.getElem?_eq_getElem hkx)
      have hx := HB.out xs[k] (List.getElem_mem hkx)
      have hc := crcFrom_lt (xs.take k) (c := 4294967295) (by omega) (fun y hy => HB.out y (List.mem_of_mem_take hy))
      have hst : crcFrom 4294967295 (xs.take (k + 1)) = crcBits 8 (crcFrom 4294967295 (xs.take k) ^^^ xs[k].toNat) := by
        rw [take_snoc xs k hkx, crcFrom_snoc]; rfl
      have HST := Lib.hid hst
      clear hca hst
      generalize crcFrom 4294967295 (xs.take k) = c0 at *
      generalize xs[k] = x at *
      obtain ⟨y, rfl⟩ := Int.eq_ofNat_of_zero_le hx.1
      rw [Int.toNat_natCast] at HST
      have hy : y < 256 := by omega
      have hz : c0 ^^^ y < 4294967296 := Nat.xor_lt_two_pow (n := 32) hc (by omega)
      have hx1 : bits .xor .u32 (c0 : Int) (y : Int) = ((c0 ^^^ y : Nat) : Int) := u32_xor_nat c0 y hc (by omega)
      have hwy : IntKind.u32.wrap (y : Int) = y := by rw [IntKind.wrap_u32']; omega
      have hk0 : (k : Int) < n := by omega
      clear hx
      go_wp2
      clear hx1 hwy hca'
      go_loopw [3, 6] (fun s t w' => ∃ j : Nat, j ≤ 8 ∧ t = .int .i64 j ∧ Hid (s = .int .u32 (crcBits j (c0 ^^^ y) : Nat)) ∧ w' = wr) (fun _ t _ => 8 - (intOf t).toNat)
      case atStart => exact ⟨0, Nat.zero_le _, rfl, rfl, rfl⟩
      case round =>
        obtain ⟨j, hj, rfl, HS2, rfl⟩ := hrel
        have hs := HS2.out
        subst hs
        by_cases hj8 : j < 8
        · have hc2 := crcBits_lt j hz
          have hst := crcBits_succ j (c0 ^^^ y)
          generalize crcBits j (c0 ^^^ y) = c1 at *
          have HST2 := Lib.hid hst
          clear hst
          have hand : bits .and .u32 (c1 : Int) 1 = ((c1 % 2 : Nat) : Int) := by
            have := u32_and_nat c1 1 hc2 (by omega)
            rw [Nat.and_one_is_mod] at this
            exact this
          rcases Nat.mod_two_eq_zero_or_one c1 with h2 | h2
          · rw [h2] at hand
            go_wp2
            go_roundw
            case rel => exact ⟨j + 1, by omega, by go_num, by rw [HST2.out, crcBit, h2, Nat.mul_zero, Nat.xor_zero]; rfl, trivial⟩
            case measure => simp [intOf]; omega
          · rw [h2] at hand
            have hxp : bits .xor .u32 ((c1 : Int) / 2) 3988292384 = ((crcBit c1 : Nat) : Int) := by
              have := u32_xor_nat (c1 / 2) 3988292384 (by omega) (by omega)
              rw [crcBit, h2, Nat.mul_one]
              exact this
            go_wp2
            go_roundw
            case rel => exact ⟨j + 1, by omega, by go_num, by rw [HST2.out]; rfl, trivial⟩
            case measure => simp [intOf]; omega
        · obtain rfl : j = 8 := by omega
          go_wp2
          go_roundw
          case rel => exact ⟨k + 1, by omega, by go_num, by rw [HST.out]; rfl, trivial⟩
          case measure => simp [intOf]; omega
    · obtain rfl : k = n := by omega
      have ht : xs.take k = xs := List.take_of_length_le (by rw [HN.out]; exact Nat.le_refl _)
      have hc := crcFrom_lt xs (c := 4294967295) (by omega) HB.out
      have hcx : ((crc xs : Nat) : Int) = bits .xor .u32 IntKind.u32.max ((crcFrom 4294967295 (xs.take k) : Nat) : Int) := by
        rw [ht, crc, Nat.xor_comm]
        exact (u32_xor_nat 4294967295 (crcFrom 4294967295 xs) (by omega) hc).symm
      have HCX := Lib.hid hcx
      clear hcx
      rw [← ht] at hc
      generalize crcFrom 4294967295 (xs.take k) = c9 at *
      clear ht HS HA
      go_wp2
      go_ret
      exact ⟨by rw [HCX.out]; rfl, rfl⟩
set_option maxHeartbeats 400000 in
theorem refNeed_c {w : World} (v : Value) (xs : List Int) (hb : Bs w v xs) (hl : xs.length ≤ 1073741824) : Calls Try.prog 30 #[v] w fun e w' => e = .returned (.int .i64 (need xs : Nat)) ∧ w = w' := by
  obtain ⟨A, n, c, rfl, hn, _, hA⟩ := hb
  clear hA
  have he : (need xs : Int) = ((n : Int) + 22) / 19 := by unfold need; omega
  have HE := Lib.hid he
  clear he
  have hq : ((n : Int) + 4 + 19 - 1).tdiv 19 = ((n : Int) + 22) / 19 := by
    rw [Int.tdiv_eq_ediv_of_nonneg (by omega)]
    congr 1
    omega
  have hn' : n ≤ 1073741824 := by omega
  clear hn hl
  go_enter Try.func30, Try.ntmps30
  go_wp2
  go_ret
  exact ⟨by rw [HE.out]; rfl, rfl⟩
set_option maxHeartbeats 1000000 in
theorem refFramed_c {w0 w : World} {R : Blks} (hO : Own w0 w R) (v : Value) (xs : List Int) (hb : Rd w0 R v xs) (hB : Byt xs) (hl : xs.length ≤ 1073741000) :
    Calls Try.prog 32 #[v] w (GotBytes w0 R (framed xs)) := by
  have hbs := hb w [] hO
  have hsum := refSum_c v xs hbs hB (by omega)
  have hcl := crc_lt xs hB
  have HB := Lib.hid hb; have HO := Lib.hid hO; have HS := Lib.hid hsum
  obtain ⟨A, c, rfl, _⟩ := hbs.len
  clear hb hO hsum hbs
  unfold framed
  generalize crc xs = s at *
  go_enter Try.func32, Try.ntmps32
  go_wp2_with fail
  with_reducible refine HS.out.mono ?_
  rintro e w1 ⟨rfl, rfl⟩
  clear HS
  go_wp2_with (refine wl_appendB rfl _ _ rfl (.slice (some ⟨w.heap.size, 0, none⟩) 4 4) [_, _, _, _] (by rfl) (L := [_]) (R := R) (isBytes_whole w.heap.size [_, _, _, _] (by simp)) (HO.out.alloc _) (.slice A xs.length c) xs (by rfl) (HB.out _ [_] (HO.out.alloc _)) (by simp; omega) ?_; intro v4 w4 L4 h4 hO4; have H4 := Lib.hid h4; have HO4 := Lib.hid hO4; clear h4 hO4 HO)
  go_ret
  refine ⟨v4, L4, rfl, ?_, HO4.out⟩
  have h4 := H4.out
  have e : [(s : Int) / 16777216, (s : Int) / 65536 % 256, (s : Int) / 256 % 256, (s : Int) % 256] ++ xs = be4 s ++ xs := by
    congr 1
    simp only [be4, List.cons.injEq, and_true]
    omega
  rwa [e] at h4
end Go.Proofs.Ytlapheiekjhceaa
