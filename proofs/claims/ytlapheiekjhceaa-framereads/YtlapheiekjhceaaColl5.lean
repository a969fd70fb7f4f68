/-
  No sum of the first fifteen of a row of bytes comes again.
-/
import Derived.Test.YtlapheiekjhceaaColl1
import Derived.Test.YtlapheiekjhceaaColl2
import Derived.Test.YtlapheiekjhceaaColl3
import Derived.Test.YtlapheiekjhceaaColl4
import Derived.Test.YtlapheiekjhceaaKeep
namespace Go.Proofs.Ytlapheiekjhceaa
set_option linter.unusedVariables false
set_option linter.unusedSimpArgs false
open Go.RowKit

theorem coll_all (a : Nat) (ha : a < 256) : allS a 128 = true := by
  obtain ⟨q, j, hq, hj, rfl⟩ : ∃ q j, q < 32 ∧ j < 8 ∧ a = 8 * q + j := ⟨a / 8, a % 8, by omega, by omega, by omega⟩
  match q, hq with
  | 0, _ => exact allA_spec 0 8 coll_0 j hj
  | 1, _ => exact allA_spec 8 8 coll_1 j hj
  | 2, _ => exact allA_spec 16 8 coll_2 j hj
  | 3, _ => exact allA_spec 24 8 coll_3 j hj
  | 4, _ => exact allA_spec 32 8 coll_4 j hj
  | 5, _ => exact allA_spec 40 8 coll_5 j hj
  | 6, _ => exact allA_spec 48 8 coll_6 j hj
  | 7, _ => exact allA_spec 56 8 coll_7 j hj
  | 8, _ => exact allA_spec 64 8 coll_8 j hj
  | 9, _ => exact allA_spec 72 8 coll_9 j hj
  | 10, _ => exact allA_spec 80 8 coll_10 j hj
  | 11, _ => exact allA_spec 88 8 coll_11 j hj
  | 12, _ => exact allA_spec 96 8 coll_12 j hj
  | 13, _ => exact allA_spec 104 8 coll_13 j hj
  | 14, _ => exact allA_spec 112 8 coll_14 j hj
  | 15, _ => exact allA_spec 120 8 coll_15 j hj
  | 16, _ => exact allA_spec 128 8 coll_16 j hj
  | 17, _ => exact allA_spec 136 8 coll_17 j hj
  | 18, _ => exact allA_spec 144 8 coll_18 j hj
  | 19, _ => exact allA_spec 152 8 coll_19 j hj
  | 20, _ => exact allA_spec 160 8 coll_20 j hj
  | 21, _ => exact allA_spec 168 8 coll_21 j hj
  | 22, _ => exact allA_spec 176 8 coll_22 j hj
  | 23, _ => exact allA_spec 184 8 coll_23 j hj
  | 24, _ => exact allA_spec 192 8 coll_24 j hj
  | 25, _ => exact allA_spec 200 8 coll_25 j hj
  | 26, _ => exact allA_spec 208 8 coll_26 j hj
  | 27, _ => exact allA_spec 216 8 coll_27 j hj
  | 28, _ => exact allA_spec 224 8 coll_28 j hj
  | 29, _ => exact allA_spec 232 8 coll_29 j hj
  | 30, _ => exact allA_spec 240 8 coll_30 j hj
  | 31, _ => exact allA_spec 248 8 coll_31 j hj
  | q + 32, h => exact absurd h (by omega)
theorem or_one_odd (y : Int) : bits .or .i64 y 1 % 2 = 1 := by
  have h : bits .or .i64 y 1 = IntKind.i64.wrap ((BitVec.ofInt 64 y ||| BitVec.ofInt 64 1).toNat : Int) := rfl
  rw [h, BitVec.toNat_or]
  have h1 : (BitVec.ofInt 64 1).toNat = 1 := by decide
  rw [h1]
  have h2 : ((BitVec.ofInt 64 y).toNat ||| 1) % 2 = 1 := by
    have := Nat.or_mod_two_pow (a := (BitVec.ofInt 64 y).toNat) (b := 1) (n := 1)
    simp only [Nat.pow_one] at this
    rw [this]
    rcases Nat.mod_two_eq_zero_or_one (BitVec.ofInt 64 y).toNat with e | e <;> rw [e] <;> decide
  generalize (BitVec.ofInt 64 y).toNat ||| 1 = n at *
  have h3 : ∀ z : Int, IntKind.i64.wrap z % 2 = z % 2 := by
    intro z
    simp only [IntKind.wrap, IntKind.bits, IntKind.signed]
    simp
    omega
  rw [h3]
  omega
theorem pbyte_is (v : Int) (i : Nat) : pbyte v i = (v + i * bits .or .i64 (wrap64 (v.tdiv 5)) 1) % 256 := by
  unfold pbyte
  generalize (i : Int) * bits .or .i64 (wrap64 (v.tdiv 5)) 1 = m
  unfold wrap64
  omega
theorem seqB_pbytes (s x : Nat) : ∀ (n : Nat) (v D : Int) (k : Nat), (v + k * D) % 256 = x → D % 256 = s → seqB s x n = (List.range n).map (fun i => (v + ((k + i : Nat) : Int) * D) % 256)
  | 0, _, _, _, _, _ => rfl
  | n + 1, v, D, k, hx, hs => by
    have h1 : (v + ((k + 1 : Nat) : Int) * D) % 256 = (((x + s) % 256 : Nat) : Int) := by
      have h5 : v + ((k + 1 : Nat) : Int) * D = (v + k * D) + D := by rw [Int.natCast_add, Int.add_mul]; omega
      rw [h5]
      generalize v + k * D = m at *
      omega
    rw [seqB, List.range_succ_eq_map, List.map_cons, List.map_map, seqB_pbytes s ((x + s) % 256) n v D (k + 1) h1 hs]
    congr 1
    · rw [Nat.add_zero, hx]
    · apply List.map_congr_left
      intro i _
      simp only [Function.comp]
      rw [show k + 1 + i = k + (i + 1) by omega]
theorem pbytes_seq (v : Int) (n : Nat) : pbytes v n = seqB (bits .or .i64 (wrap64 (v.tdiv 5)) 1 % 256).toNat (v % 256).toNat n := by
  have h := seqB_pbytes (bits .or .i64 (wrap64 (v.tdiv 5)) 1 % 256).toNat (v % 256).toNat n v (bits .or .i64 (wrap64 (v.tdiv 5)) 1) 0 (by simp; omega) (by omega)
  rw [h]
  unfold pbytes
  apply List.map_congr_left
  intro i _
  rw [pbyte_is, Nat.zero_add]
theorem pbytes_take (v : Int) (n m : Nat) (h : m ≤ n) : (pbytes v n).take m = pbytes v m := by
  unfold pbytes
  rw [← List.map_take, List.take_range, Nat.min_eq_left h]
/-- The sum of such a row is another one than that of its first fifteen. -/
theorem pbytes_far (v : Int) (n : Nat) (h1 : 16 ≤ n) (h2 : n ≤ 99) : crc (pbytes v n) ≠ crc ((pbytes v n).take 15) := by
  intro h
  have h3 := xor_cancel_right h
  rw [pbytes_take v n 15 (by omega), pbytes_seq v n, pbytes_seq v 15] at h3
  have hodd := or_one_odd (wrap64 (v.tdiv 5))
  generalize bits .or .i64 (wrap64 (v.tdiv 5)) 1 = D at *
  obtain ⟨m, hm, he⟩ : ∃ m, m < 128 ∧ (D % 256).toNat = 2 * m + 1 := ⟨(D % 256).toNat / 2, by omega, by omega⟩
  rw [he] at h3
  exact oneFar_spec (v % 256).toNat (2 * m + 1) (by omega) (allS_spec _ 128 (coll_all _ (by omega)) m hm) n h1 h2 h3
end Go.Proofs.Ytlapheiekjhceaa
