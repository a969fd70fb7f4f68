/-
  Package mark: a byte turned at an end; slices of bytes that came in.
-/
import Derived.Test.YtlapheiekjhceaaMark5
import Derived.Test.YtlapheiekjhceaaKeep2
import Derived.OpenShut
namespace Go.Proofs.Ytlapheiekjhceaa
set_option linter.unusedVariables false
set_option linter.unusedSimpArgs false
open Go.RowKit

theorem xor8 {x c : Int} (hx0 : 0 ≤ x) (hx1 : x ≤ 255) (hc0 : 0 ≤ c) (hc1 : c ≤ 255) : 0 ≤ bits .xor .u8 x c ∧ bits .xor .u8 x c ≤ 255 ∧ (bits .xor .u8 x c = x ↔ c = 0) := by
  rw [u8_xor x c hx0 (by omega) hc0 (by omega)]
  have h := Nat.xor_lt_two_pow (x := x.toNat) (y := c.toNat) (n := 8) (by omega) (by omega)
  refine ⟨by omega, by omega, ?_⟩
  constructor
  · intro e
    have e1 : x.toNat ^^^ c.toNat = x.toNat := by omega
    have e2 : x.toNat ^^^ (x.toNat ^^^ c.toNat) = 0 := by rw [e1]; exact Nat.xor_self _
    rw [← Nat.xor_assoc, Nat.xor_self, Nat.zero_xor] at e2
    omega
  · rintro rfl
    simp
    omega
theorem xor1 {s : Int} (h0 : 0 ≤ s) (h1 : s ≤ 16777215) : 0 ≤ bits .xor .i64 s 1 ∧ bits .xor .i64 s 1 ≤ 16777215 ∧ bits .xor .i64 s 1 % 256 ≠ s % 256 := by
  obtain ⟨a, rfl⟩ := Int.eq_ofNat_of_zero_le h0
  have hx : a ^^^ 1 < 2 ^ 24 := Nat.xor_lt_two_pow (by omega) (by omega)
  have e : bits .xor .i64 (a : Int) 1 = ((a ^^^ 1 : Nat) : Int) := by
    show IntKind.i64.wrap ((BitVec.ofInt 64 (a : Int) ^^^ BitVec.ofInt 64 1).toNat : Int) = _
    have h1 : (BitVec.ofInt 64 (a : Int)).toNat = a := by rw [BitVec.ofInt_natCast, BitVec.toNat_ofNat]; exact Nat.mod_eq_of_lt (by omega)
    have h2 : (BitVec.ofInt 64 1).toNat = 1 := by decide
    rw [BitVec.toNat_xor, h1, h2]
    exact wraps_24 _ (by omega) (by omega)
  rw [e]
  refine ⟨by omega, by omega, fun h => ?_⟩
  have h2 : (a ^^^ 1) % 2 = a % 2 := by omega
  have h3 : (a ^^^ 1).testBit 0 = a.testBit 0 := by rw [Nat.testBit_zero, Nat.testBit_zero, h2]
  rw [Nat.testBit_xor] at h3
  simp at h3
def endsL : List Int := [0, 1, 2, 3, 4, 27, 28, 29, 30, 31]
def endAt (k : Nat) : Nat := (endsL.getD k 0).toNat
theorem getD_set (xs : List Int) (i j : Nat) (y : Int) (h : i < xs.length) : (xs.set i y).getD j 0 = if i = j then y else xs.getD j 0 := by
  simp only [List.getD]
  rw [List.getElem?_set]
  by_cases e : i = j
  · subst e; simp [h]
  · simp [e]
theorem spoil_no {xs : List Int} (h : isSeal xs = true) (k : Nat) (hk : k < 10) (y : Int) (hy : y ≠ xs.getD (endAt k) 0) : isSeal (xs.set (endAt k) y) = false := by
  cases hs : isSeal (xs.set (endAt k) y)
  · rfl
  · exfalso
    have e0 := isSeal_ends h
    have e1 := isSeal_ends hs
    have hl := (isSeal_is h).1
    match k, hk with
    | 0, _ =>
      rw [show endAt 0 = 0 from rfl] at e1 hy
      simp only [getD_set xs 0 _ y (by omega)] at e1
      generalize xs.getD 0 0 = a0 at *
      generalize xs.getD 1 0 = a1 at *
      generalize xs.getD 2 0 = a2 at *
      generalize xs.getD 3 0 = a3 at *
      generalize xs.getD 4 0 = a4 at *
      generalize xs.getD 27 0 = a27 at *
      generalize xs.getD 28 0 = a28 at *
      generalize xs.getD 29 0 = a29 at *
      generalize xs.getD 30 0 = a30 at *
      generalize xs.getD 31 0 = a31 at *
      simp at e1
      omega
    | 1, _ =>
      rw [show endAt 1 = 1 from rfl] at e1 hy
      simp only [getD_set xs 1 _ y (by omega)] at e1
      generalize xs.getD 0 0 = a0 at *
      generalize xs.getD 1 0 = a1 at *
      generalize xs.getD 2 0 = a2 at *
      generalize xs.getD 3 0 = a3 at *
      generalize xs.getD 4 0 = a4 at *
      generalize xs.getD 27 0 = a27 at *
      generalize xs.getD 28 0 = a28 at *
      generalize xs.getD 29 0 = a29 at *
      generalize xs.getD 30 0 = a30 at *
      generalize xs.getD 31 0 = a31 at *
      simp at e1
      omega
    | 2, _ =>
      rw [show endAt 2 = 2 from rfl] at e1 hy
      simp only [getD_set xs 2 _ y (by omega)] at e1
      generalize xs.getD 0 0 = a0 at *
      generalize xs.getD 1 0 = a1 at *
      generalize xs.getD 2 0 = a2 at *
      generalize xs.getD 3 0 = a3 at *
      generalize xs.getD 4 0 = a4 at *
      generalize xs.getD 27 0 = a27 at *
      generalize xs.getD 28 0 = a28 at *
      generalize xs.getD 29 0 = a29 at *
      generalize xs.getD 30 0 = a30 at *
      generalize xs.getD 31 0 = a31 at *
      simp at e1
      omega
    | 3, _ =>
      rw [show endAt 3 = 3 from rfl] at e1 hy
      simp only [getD_set xs 3 _ y (by omega)] at e1
      generalize xs.getD 0 0 = a0 at *
      generalize xs.getD 1 0 = a1 at *
      generalize xs.getD 2 0 = a2 at *
      generalize xs.getD 3 0 = a3 at *
      generalize xs.getD 4 0 = a4 at *
      generalize xs.getD 27 0 = a27 at *
      generalize xs.getD 28 0 = a28 at *
      generalize xs.getD 29 0 = a29 at *
      generalize xs.getD 30 0 = a30 at *
      generalize xs.getD 31 0 = a31 at *
      simp at e1
      omega
    | 4, _ =>
      rw [show endAt 4 = 4 from rfl] at e1 hy
      simp only [getD_set xs 4 _ y (by omega)] at e1
      generalize xs.getD 0 0 = a0 at *
      generalize xs.getD 1 0 = a1 at *
      generalize xs.getD 2 0 = a2 at *
      generalize xs.getD 3 0 = a3 at *
      generalize xs.getD 4 0 = a4 at *
      generalize xs.getD 27 0 = a27 at *
      generalize xs.getD 28 0 = a28 at *
      generalize xs.getD 29 0 = a29 at *
      generalize xs.getD 30 0 = a30 at *
      generalize xs.getD 31 0 = a31 at *
      simp at e1
      omega
    | 5, _ =>
      rw [show endAt 5 = 27 from rfl] at e1 hy
      simp only [getD_set xs 27 _ y (by omega)] at e1
      generalize xs.getD 0 0 = a0 at *
      generalize xs.getD 1 0 = a1 at *
      generalize xs.getD 2 0 = a2 at *
      generalize xs.getD 3 0 = a3 at *
      generalize xs.getD 4 0 = a4 at *
      generalize xs.getD 27 0 = a27 at *
      generalize xs.getD 28 0 = a28 at *
      generalize xs.getD 29 0 = a29 at *
      generalize xs.getD 30 0 = a30 at *
      generalize xs.getD 31 0 = a31 at *
      simp at e1
      omega
    | 6, _ =>
      rw [show endAt 6 = 28 from rfl] at e1 hy
      simp only [getD_set xs 28 _ y (by omega)] at e1
      generalize xs.getD 0 0 = a0 at *
      generalize xs.getD 1 0 = a1 at *
      generalize xs.getD 2 0 = a2 at *
      generalize xs.getD 3 0 = a3 at *
      generalize xs.getD 4 0 = a4 at *
      generalize xs.getD 27 0 = a27 at *
      generalize xs.getD 28 0 = a28 at *
      generalize xs.getD 29 0 = a29 at *
      generalize xs.getD 30 0 = a30 at *
      generalize xs.getD 31 0 = a31 at *
      simp at e1
      omega
    | 7, _ =>
      rw [show endAt 7 = 29 from rfl] at e1 hy
      simp only [getD_set xs 29 _ y (by omega)] at e1
      generalize xs.getD 0 0 = a0 at *
      generalize xs.getD 1 0 = a1 at *
      generalize xs.getD 2 0 = a2 at *
      generalize xs.getD 3 0 = a3 at *
      generalize xs.getD 4 0 = a4 at *
      generalize xs.getD 27 0 = a27 at *
      generalize xs.getD 28 0 = a28 at *
      generalize xs.getD 29 0 = a29 at *
      generalize xs.getD 30 0 = a30 at *
      generalize xs.getD 31 0 = a31 at *
      simp at e1
      omega
    | 8, _ =>
      rw [show endAt 8 = 30 from rfl] at e1 hy
      simp only [getD_set xs 30 _ y (by omega)] at e1
      generalize xs.getD 0 0 = a0 at *
      generalize xs.getD 1 0 = a1 at *
      generalize xs.getD 2 0 = a2 at *
      generalize xs.getD 3 0 = a3 at *
      generalize xs.getD 4 0 = a4 at *
      generalize xs.getD 27 0 = a27 at *
      generalize xs.getD 28 0 = a28 at *
      generalize xs.getD 29 0 = a29 at *
      generalize xs.getD 30 0 = a30 at *
      generalize xs.getD 31 0 = a31 at *
      simp at e1
      omega
    | 9, _ =>
      rw [show endAt 9 = 31 from rfl] at e1 hy
      simp only [getD_set xs 31 _ y (by omega)] at e1
      generalize xs.getD 0 0 = a0 at *
      generalize xs.getD 1 0 = a1 at *
      generalize xs.getD 2 0 = a2 at *
      generalize xs.getD 3 0 = a3 at *
      generalize xs.getD 4 0 = a4 at *
      generalize xs.getD 27 0 = a27 at *
      generalize xs.getD 28 0 = a28 at *
      generalize xs.getD 29 0 = a29 at *
      generalize xs.getD 30 0 = a30 at *
      generalize xs.getD 31 0 = a31 at *
      simp at e1
      omega
theorem other_no {e s s' p q : Int} {b : List Int} (hb : b.length ≤ 19) (i : Nat) (hi : i < 32) (y : Int) (hs : s' % 256 ≠ s % 256) : (sealed e s p q b).set i y ≠ sealed e s' p q b := by
  intro h
  have hl := length_sealed e s p q b hb
  have h4 := congrArg (fun l => l.getD 4 0) h
  have h29 := congrArg (fun l => l.getD 29 0) h
  simp only [getD_set _ _ _ _ (show i < (sealed e s p q b).length by omega)] at h4 h29
  have a4 := (sealed_head e s p q b).2.2.2.2.1
  have c4 := (sealed_head e s' p q b).2.2.2.2.1
  have a29 := (sealed_ends e s p q b hb).2.2.1
  have c29 := (sealed_ends e s' p q b hb).2.2.1
  rw [a4, c4] at h4
  rw [a29, c29] at h29
  by_cases hi4 : i = 4
  · subst hi4
    simp at h29
    omega
  · rw [if_neg hi4] at h4
    omega
theorem endAt_lt (k : Nat) (hk : k < 10) : endAt k < 32 := by
  match k, hk with
  | 0, _ | 1, _ | 2, _ | 3, _ | 4, _ | 5, _ | 6, _ | 7, _ | 8, _ | 9, _ => decide
theorem endAt_get (k : Nat) (hk : k < 10) : endsL.getD k 0 = (endAt k : Int) := by
  match k, hk with
  | 0, _ | 1, _ | 2, _ | 3, _ | 4, _ | 5, _ | 6, _ | 7, _ | 8, _ | 9, _ => rfl
theorem InRow.rd {w : World} {v : Value} {xs : List Int} (h : InRow .u8 w v xs) (R : Blks) : Rd w R v xs := by
  intro w' L' hO
  obtain ⟨A, n, c, rfl, hn, hc, _, _, hA⟩ := h
  refine ⟨_, _, _, rfl, hn, hc, fun h => ?_⟩
  obtain ⟨ad, rfl, hb, hcell⟩ := hA h
  refine ⟨ad, rfl, fun j x hx => ?_⟩
  rw [hO.below.cell (by rw [block_of_add]; exact hb)]
  exact hcell j x hx
theorem InRow.byt {w : World} {v : Value} {xs : List Int} (h : InRow .u8 w v xs) : Byt xs := by
  obtain ⟨A, n, c, rfl, hn, hc, _, hw, hA⟩ := h
  exact fun x hx => bounds_u8 (hw x hx)
theorem cut_19 {w0 w : World} {R : Blks} (hO : Own w0 w R) (v : Value) (xs : List Int) (hb : Rd w0 R v xs) :
    Calls Try.prog 28 #[v, .int .i64 19] w (GotBytes w0 R (xs.take 19)) := cut_c hO v xs hb 19 (by omega)
theorem cut_24 {w0 w : World} {R : Blks} (hO : Own w0 w R) (v : Value) (xs : List Int) (hb : Rd w0 R v xs) :
    Calls Try.prog 28 #[v, .int .i64 24] w (GotBytes w0 R (xs.take 24)) := cut_c hO v xs hb 24 (by omega)
end Go.Proofs.Ytlapheiekjhceaa
