/-
  CRC-32, digit by digit: what it is, and that it tells one byte that was turned. No program is named here.
-/
import Derived.Test.YtdndkapfaiplnaaBase
import Derived.Laws.BitsAllLaws
namespace Go.Proofs.Ytdndkapfaiplnaa
set_option linter.unusedVariables false
set_option linter.unusedSimpArgs false
set_option maxRecDepth 20000
open Go.RowKit

def crcBit (c : Nat) : Nat := (c / 2) ^^^ (3988292384 * (c % 2))
def crcBits : Nat → Nat → Nat
  | 0, c => c
  | k + 1, c => crcBits k (crcBit c)
def crcByte (c x : Nat) : Nat := crcBits 8 (c ^^^ x)
def crcFrom (c : Nat) (xs : List Int) : Nat := xs.foldl (fun c x => crcByte c x.toNat) c
def crc (xs : List Int) : Nat := crcFrom 4294967295 xs ^^^ 4294967295
theorem crcBit_lt {c : Nat} (h : c < 4294967296) : crcBit c < 4294967296 := by
  unfold crcBit
  refine Nat.xor_lt_two_pow (n := 32) (by omega) ?_
  rcases Nat.mod_two_eq_zero_or_one c with e | e <;> rw [e] <;> omega
theorem crcBits_lt : ∀ (k : Nat) {c : Nat}, c < 4294967296 → crcBits k c < 4294967296
  | 0, _, h => h
  | k + 1, _, h => crcBits_lt k (crcBit_lt h)
theorem crcBits_succ : ∀ (k c : Nat), crcBits (k + 1) c = crcBit (crcBits k c)
  | 0, _ => rfl
  | k + 1, c => crcBits_succ k (crcBit c)
theorem crcByte_lt {c x : Nat} (h : c < 4294967296) (hx : x < 256) : crcByte c x < 4294967296 := by
  unfold crcByte
  exact crcBits_lt 8 (Nat.xor_lt_two_pow (n := 32) h (by omega))
theorem crcFrom_lt : ∀ (xs : List Int) {c : Nat}, c < 4294967296 → (∀ x ∈ xs, 0 ≤ x ∧ x ≤ 255) → crcFrom c xs < 4294967296
  | [], _, h, _ => h
  | x :: xs, c, h, hx => crcFrom_lt xs (crcByte_lt h (by have := hx x (.head _); omega)) (fun y hy => hx y (.tail _ hy))
theorem crcFrom_append (c : Nat) (xs ys : List Int) : crcFrom c (xs ++ ys) = crcFrom (crcFrom c xs) ys := by simp [crcFrom]
theorem crcFrom_snoc (c : Nat) (xs : List Int) (x : Int) : crcFrom c (xs ++ [x]) = crcByte (crcFrom c xs) x.toNat := by simp [crcFrom]
theorem crc_lt (xs : List Int) (hx : ∀ x ∈ xs, 0 ≤ x ∧ x ≤ 255) : crc xs < 4294967296 := Nat.xor_lt_two_pow (n := 32) (crcFrom_lt xs (by omega) hx) (by omega)
theorem xor_cancel_right {a b c : Nat} (h : a ^^^ c = b ^^^ c) : a = b := by
  have h1 : (a ^^^ c) ^^^ c = (b ^^^ c) ^^^ c := by rw [h]
  rwa [Nat.xor_assoc, Nat.xor_assoc, Nat.xor_self, Nat.xor_zero, Nat.xor_zero] at h1
theorem xor_cancel_left {a b c : Nat} (h : c ^^^ a = c ^^^ b) : a = b := by
  rw [Nat.xor_comm c a, Nat.xor_comm c b] at h
  exact xor_cancel_right h
theorem bit31 {a : Nat} (h : a < 2147483648) : (a ^^^ 3988292384).testBit 31 = true := by
  rw [Nat.testBit_xor, Nat.testBit_lt_two_pow (by omega)]
  decide
theorem crcBit_inj {a b : Nat} (ha : a < 4294967296) (hb : b < 4294967296) (h : crcBit a = crcBit b) : a = b := by
  unfold crcBit at h
  rcases Nat.mod_two_eq_zero_or_one a with ea | ea <;> rcases Nat.mod_two_eq_zero_or_one b with eb | eb
  · rw [ea, eb, Nat.mul_zero, Nat.xor_zero, Nat.xor_zero] at h; omega
  · rw [ea, eb, Nat.mul_zero, Nat.xor_zero, Nat.mul_one] at h
    have h1 := bit31 (a := b / 2) (by omega)
    rw [← h, Nat.testBit_lt_two_pow (by omega)] at h1
    cases h1
  · rw [ea, eb, Nat.mul_zero, Nat.xor_zero, Nat.mul_one] at h
    have h1 := bit31 (a := a / 2) (by omega)
    rw [h, Nat.testBit_lt_two_pow (by omega)] at h1
    cases h1
  · rw [ea, eb] at h
    have := xor_cancel_right h
    omega
theorem crcBits_inj : ∀ (k : Nat) {a b : Nat}, a < 4294967296 → b < 4294967296 → crcBits k a = crcBits k b → a = b
  | 0, _, _, _, _, h => h
  | k + 1, _, _, ha, hb, h => crcBit_inj ha hb (crcBits_inj k (crcBit_lt ha) (crcBit_lt hb) h)
theorem crcByte_inj {a b x : Nat} (ha : a < 4294967296) (hb : b < 4294967296) (hx : x < 256) (h : crcByte a x = crcByte b x) : a = b :=
  xor_cancel_right (crcBits_inj 8 (Nat.xor_lt_two_pow (n := 32) ha (by omega)) (Nat.xor_lt_two_pow (n := 32) hb (by omega)) h)
theorem crcByte_tells {a x y : Nat} (ha : a < 4294967296) (hx : x < 256) (hy : y < 256) (h : crcByte a x = crcByte a y) : x = y :=
  xor_cancel_left (crcBits_inj 8 (Nat.xor_lt_two_pow (n := 32) ha (by omega)) (Nat.xor_lt_two_pow (n := 32) ha (by omega)) h)
theorem crcFrom_inj : ∀ (xs : List Int) {a b : Nat}, a < 4294967296 → b < 4294967296 → (∀ x ∈ xs, 0 ≤ x ∧ x ≤ 255) → crcFrom a xs = crcFrom b xs → a = b
  | [], _, _, _, _, _, h => h
  | x :: xs, a, b, ha, hb, hx, h => by
    have h1 := hx x (.head _)
    exact crcByte_inj ha hb (by omega) (crcFrom_inj xs (crcByte_lt ha (by omega)) (crcByte_lt hb (by omega)) (fun y hy => hx y (.tail _ hy)) h)
/-- One byte turned is told. -/
theorem crc_tells (xs ys : List Int) (x y : Int) (hx : ∀ z ∈ xs, 0 ≤ z ∧ z ≤ 255) (hy : ∀ z ∈ ys, 0 ≤ z ∧ z ≤ 255) (h1 : 0 ≤ x ∧ x ≤ 255) (h2 : 0 ≤ y ∧ y ≤ 255) (h : crc (xs ++ x :: ys) = crc (xs ++ y :: ys)) : x = y := by
  have h3 := xor_cancel_right h
  rw [crcFrom_append, crcFrom_append] at h3
  have hc := crcFrom_lt xs (c := 4294967295) (by omega) hx
  have h4 : crcByte (crcFrom 4294967295 xs) x.toNat = crcByte (crcFrom 4294967295 xs) y.toNat := crcFrom_inj ys (crcByte_lt hc (by omega)) (crcByte_lt hc (by omega)) hy h3
  have := crcByte_tells hc (by omega) (by omega) h4
  omega
/-- The four bytes of a sum, the greatest first. -/
def be4 (n : Nat) : List Int := [(n / 16777216 % 256 : Nat), (n / 65536 % 256 : Nat), (n / 256 % 256 : Nat), (n % 256 : Nat)]
theorem byt_be4 (n : Nat) : ∀ x ∈ be4 n, 0 ≤ x ∧ x ≤ 255 := by
  intro x hx
  simp only [be4, List.mem_cons, List.not_mem_nil, or_false] at hx
  omega
@[simp] theorem length_be4 (n : Nat) : (be4 n).length = 4 := rfl
/-- The number of four bytes. -/
def num4 (xs : List Int) : Int := xs.getD 0 0 * 16777216 + xs.getD 1 0 * 65536 + xs.getD 2 0 * 256 + xs.getD 3 0
theorem num4_be4 (n : Nat) (h : n < 4294967296) (ys : List Int) : num4 (be4 n ++ ys) = n := by
  simp [num4, be4, List.getD]
  omega
/-- A record's bytes. -/
def framed (b : List Int) : List Int := be4 (crc b) ++ b
@[simp] theorem length_framed (b : List Int) : (framed b).length = 4 + b.length := by simp [framed]
/-- How many sectors. -/
def need (b : List Int) : Nat := (b.length + 22) / 19
theorem need_pos (b : List Int) : 1 ≤ need b := by unfold need; omega
end Go.Proofs.Ytdndkapfaiplnaa
