/-
  Package mark: its calls with their answers written out; what a sector's ends say.
-/
import Derived.Test.YtdndkapfaiplnaaMark4
import Derived.Laws.BitsAllLaws
namespace Go.Proofs.Ytdndkapfaiplnaa
set_option linter.unusedVariables false
set_option linter.unusedSimpArgs false
set_option maxRecDepth 20000
open Go.RowKit

theorem ends19 (a0 a1 a2 a3 a4 a5 a6 a7 z0 z1 z2 z3 z4 : Int) (m : List Int) (hm : m.length = 19) :
    ([a0, a1, a2, a3, a4, a5, a6, a7] ++ m ++ [z0, z1, z2, z3, z4]).getD 27 0 = z0 ∧ ([a0, a1, a2, a3, a4, a5, a6, a7] ++ m ++ [z0, z1, z2, z3, z4]).getD 28 0 = z1 ∧ ([a0, a1, a2, a3, a4, a5, a6, a7] ++ m ++ [z0, z1, z2, z3, z4]).getD 29 0 = z2 ∧
    ([a0, a1, a2, a3, a4, a5, a6, a7] ++ m ++ [z0, z1, z2, z3, z4]).getD 30 0 = z3 ∧ ([a0, a1, a2, a3, a4, a5, a6, a7] ++ m ++ [z0, z1, z2, z3, z4]).getD 31 0 = z4 := by
  match m, hm with
  | [m0, m1, m2, m3, m4, m5, m6, m7, m8, m9, m10, m11, m12, m13, m14, m15, m16, m17, m18], _ => exact ⟨rfl, rfl, rfl, rfl, rfl⟩
theorem sealed_form (e s p q : Int) (b : List Int) : sealed e s p q b = [e / 256, e % 256, s / 65536, s / 256 % 256, s % 256, p, q, (b.length : Int)] ++ (b ++ List.replicate (19 - b.length) 0) ++ [s / 65536, s / 256 % 256, s % 256, e / 256, e % 256] := by
  simp [sealed, e2, s3]
theorem sealed_ends (e s p q : Int) (b : List Int) (hb : b.length ≤ 19) :
    (sealed e s p q b).getD 27 0 = s / 65536 ∧ (sealed e s p q b).getD 28 0 = s / 256 % 256 ∧ (sealed e s p q b).getD 29 0 = s % 256 ∧ (sealed e s p q b).getD 30 0 = e / 256 ∧ (sealed e s p q b).getD 31 0 = e % 256 := by
  rw [sealed_form]
  exact ends19 _ _ _ _ _ _ _ _ _ _ _ _ _ _ (by simp; omega)
theorem sealed_head (e s p q : Int) (b : List Int) : (sealed e s p q b).getD 0 0 = e / 256 ∧ (sealed e s p q b).getD 1 0 = e % 256 ∧ (sealed e s p q b).getD 2 0 = s / 65536 ∧ (sealed e s p q b).getD 3 0 = s / 256 % 256 ∧ (sealed e s p q b).getD 4 0 = s % 256 ∧
    (sealed e s p q b).getD 5 0 = p ∧ (sealed e s p q b).getD 6 0 = q ∧ (sealed e s p q b).getD 7 0 = b.length := by
  rw [sealed_form]
  exact ⟨rfl, rfl, rfl, rfl, rfl, rfl, rfl, rfl⟩
theorem okSeal_spec {e s p q : Int} {n : Nat} (h : okSeal e s p q n = true) : 0 ≤ e ∧ e ≤ 65535 ∧ 0 ≤ s ∧ s ≤ 16777215 ∧ 0 ≤ p ∧ p < q ∧ q ≤ 255 ∧ n ≤ 19 := by
  unfold okSeal okMark at h
  simp only [Bool.and_eq_true, decide_eq_true_eq] at h
  omega
theorem okSeal_mk {e s p q : Int} {n : Nat} (h : 0 ≤ e ∧ e ≤ 65535 ∧ 0 ≤ s ∧ s ≤ 16777215 ∧ 0 ≤ p ∧ p < q ∧ q ≤ 255 ∧ n ≤ 19) : okSeal e s p q n = true := by
  unfold okSeal okMark
  simp only [Bool.and_eq_true, decide_eq_true_eq]
  omega
theorem tE_sealed {e s p q : Int} {b : List Int} : tE (sealed e s p q b) = e := by
  have h := sealed_head e s p q b
  unfold tE; rw [h.1, h.2.1]; omega
theorem tS_sealed {e s p q : Int} {b : List Int} : tS (sealed e s p q b) = s := by
  have h := sealed_head e s p q b
  unfold tS; rw [h.2.2.1, h.2.2.2.1, h.2.2.2.2.1]; omega
theorem tB_sealed {e s p q : Int} {b : List Int} : tB (sealed e s p q b) = b := by
  have h := sealed_head e s p q b
  unfold tB
  rw [h.2.2.2.2.2.2.2, Int.toNat_natCast, sealed_form]
  simp
theorem isSeal_sealed {e s p q : Int} {b : List Int} (h : okSeal e s p q b.length = true) : isSeal (sealed e s p q b) = true := by
  have hs := okSeal_spec h
  have hh := sealed_head e s p q b
  rw [isSeal_eq (length_sealed _ _ _ _ _ hs.2.2.2.2.2.2.2) (by rw [hh.2.2.2.2.2.2.2]; omega), tE_sealed, tS_sealed, tB_sealed, hh.2.2.2.2.2.1, hh.2.2.2.2.2.2.1, h]
  simp
/-- What was sealed is opened as it was. -/
theorem openR_sealed {e s p q : Int} {b : List Int} (h : okSeal e s p q b.length = true) : openR (sealed e s p q b) = ⟨e, s, p, q, b, 0⟩ := by
  have hh := sealed_head e s p q b
  unfold openR
  rw [if_pos (isSeal_sealed h), tE_sealed, tS_sealed, tB_sealed, hh.2.2.2.2.2.1, hh.2.2.2.2.2.2.1]
theorem isSeal_is {xs : List Int} (h : isSeal xs = true) : xs.length = 32 ∧ okSeal (tE xs) (tS xs) (xs.getD 5 0) (xs.getD 6 0) (tB xs).length = true ∧ sealed (tE xs) (tS xs) (xs.getD 5 0) (xs.getD 6 0) (tB xs) = xs := by
  unfold isSeal at h
  simp only [Bool.and_eq_true, decide_eq_true_eq] at h
  exact ⟨h.1.1, h.2.1, h.2.2⟩
/-- A sector's ends are alike. -/
theorem isSeal_ends {xs : List Int} (h : isSeal xs = true) : xs.getD 27 0 = xs.getD 2 0 ∧ xs.getD 28 0 = xs.getD 3 0 ∧ xs.getD 29 0 = xs.getD 4 0 ∧ xs.getD 30 0 = xs.getD 0 0 ∧ xs.getD 31 0 = xs.getD 1 0 := by
  obtain ⟨_, h2, h3⟩ := isSeal_is h
  have ha := sealed_ends (tE xs) (tS xs) (xs.getD 5 0) (xs.getD 6 0) (tB xs) (okSeal_spec h2).2.2.2.2.2.2.2
  have hb := sealed_head (tE xs) (tS xs) (xs.getD 5 0) (xs.getD 6 0) (tB xs)
  rw [h3] at ha hb
  omega
theorem openR_r {xs : List Int} : ((openR xs).r = 0) ↔ isSeal xs = true := by
  unfold openR
  cases h : isSeal xs <;> simp [noneOpened]
theorem openR_r2 {xs : List Int} (h : isSeal xs = false) : openR xs = ⟨0, 0, 0, 0, [], 2⟩ := openR_no h
def GotPair (w0 : World) (R : Blks) (xs : List Int) (r : Int) (en : Ending) (w' : World) : Prop := ∃ v L, en = .returned (.tuple #[v, .int .i64 r]) ∧ IsBytes v xs L ∧ Own w0 w' (L ++ R)
theorem seal_ok {w0 w : World} {R : Blks} (hO : Own w0 w R) (e s p q : Int) (v : Value) (xs : List Int) (hb : Rd w0 R v xs) (h : okSeal e s p q xs.length = true) :
    Calls Try.prog 30 #[.agg #[.int .i64 e, .int .i64 s], .int .i64 p, .int .i64 q, v] w (GotPair w0 R (sealed e s p q xs) 0) :=
  (seal_c hO e s p q v xs hb).mono fun en w' ⟨v, L, h1, h2, h3⟩ => ⟨v, L, by rw [h1, if_pos h], by rw [if_pos h] at h2; exact h2, h3⟩
theorem seal_err {w0 w : World} {R : Blks} (hO : Own w0 w R) (e s p q : Int) (v : Value) (xs : List Int) (hb : Rd w0 R v xs) (h : okSeal e s p q xs.length = false) :
    Calls Try.prog 30 #[.agg #[.int .i64 e, .int .i64 s], .int .i64 p, .int .i64 q, v] w (GotPair w0 R [] 1) :=
  (seal_c hO e s p q v xs hb).mono fun en w' ⟨v, L, h1, h2, h3⟩ => ⟨v, L, by rw [h1, if_neg (by rw [h]; simp)], by rw [if_neg (by rw [h]; simp)] at h2; exact h2, h3⟩
theorem open_is {w0 w : World} {R : Blks} (hO : Own w0 w R) (v : Value) (xs : List Int) (hb : Rd w0 R v xs) (hB : Byt xs) (o : Opened) (h : openR xs = o) :
    Calls Try.prog 43 #[v] w (GotOpen w0 R o) := by rw [← h]; exact open_c hO v xs hb hB
theorem rd_none (w0 : World) (R : Blks) (c : Nat) : Rd w0 R (.slice none 0 c) [] := fun _ _ _ => ⟨_, _, _, rfl, rfl, Nat.zero_le _, fun h => absurd h (by omega)⟩
theorem byt_pbytes (v : Int) (k : Nat) : Byt (pbytes v k) := by
  intro x hx
  simp only [pbytes, List.mem_map] at hx
  obtain ⟨i, _, rfl⟩ := hx
  exact pbyte_range v i
/-! ### halves -/
theorem getD_left (xs ys : List Int) (i : Nat) (h : i < xs.length) : (xs ++ ys).getD i 0 = xs.getD i 0 := by
  simp only [List.getD]; rw [List.getElem?_append_left h]
theorem getD_right (xs ys : List Int) (i : Nat) (h : xs.length ≤ i) : (xs ++ ys).getD i 0 = ys.getD (i - xs.length) 0 := by
  simp only [List.getD]; rw [List.getElem?_append_right h]
theorem getD_take (xs : List Int) (n i : Nat) (h : i < n) : (xs.take n).getD i 0 = xs.getD i 0 := by
  simp only [List.getD]; rw [List.getElem?_take_of_lt h]
theorem getD_drop (xs : List Int) (n i : Nat) : (xs.drop n).getD i 0 = xs.getD (n + i) 0 := by
  simp only [List.getD]; rw [List.getElem?_drop]
/-- First half of one, second half of another. -/
def half2 (xs ys : List Int) : List Int := xs.take 16 ++ ys.drop 16
theorem half2_get (xs ys : List Int) (hx : xs.length = 32) (i : Nat) : (half2 xs ys).getD i 0 = if i < 16 then xs.getD i 0 else ys.getD i 0 := by
  unfold half2
  by_cases h : i < 16
  · rw [if_pos h, getD_left _ _ _ (by simp; omega), getD_take _ _ _ h]
  · rw [if_neg h, getD_right _ _ _ (by simp; omega), getD_drop]
    congr 1
    simp; omega
theorem half2_len (xs ys : List Int) (hx : xs.length = 32) (hy : ys.length = 32) : (half2 xs ys).length = 32 := by simp [half2]; omega
/-- Halves of sectors of unlike marks are none. -/
theorem half2_no {e s p q e' s' p' q' : Int} {b b' : List Int} (h : okSeal e s p q b.length = true) (h' : okSeal e' s' p' q' b'.length = true) (hne : ¬ (e = e' ∧ s = s')) : isSeal (half2 (sealed e s p q b) (sealed e' s' p' q' b')) = false := by
  cases hs : isSeal (half2 (sealed e s p q b) (sealed e' s' p' q' b'))
  · rfl
  · exfalso
    have h1 := okSeal_spec h
    have h2 := okSeal_spec h'
    have hl := length_sealed e s p q b h1.2.2.2.2.2.2.2
    have := isSeal_ends hs
    simp only [half2_get _ _ hl, Nat.reduceLT, if_true, if_false] at this
    have ha := sealed_ends e' s' p' q' b' h2.2.2.2.2.2.2.2
    have hb := sealed_head e s p q b
    rw [ha.1, ha.2.1, ha.2.2.1, ha.2.2.2.1, ha.2.2.2.2, hb.1, hb.2.1, hb.2.2.1, hb.2.2.2.1, hb.2.2.2.2.1] at this
    apply hne
    omega
theorem half0_no {e s p q : Int} {b ys : List Int} (h : okSeal e s p q b.length = true) (hne : 1 ≤ e) (h30 : ys.getD 30 0 = 0) (h31 : ys.getD 31 0 = 0) : isSeal (half2 (sealed e s p q b) ys) = false := by
  cases hs : isSeal (half2 (sealed e s p q b) ys)
  · rfl
  · exfalso
    have h1 := okSeal_spec h
    have hl := length_sealed e s p q b h1.2.2.2.2.2.2.2
    have := isSeal_ends hs
    simp only [half2_get _ _ hl, Nat.reduceLT, if_true, if_false] at this
    have hb := sealed_head e s p q b
    rw [h30, h31, hb.1, hb.2.1] at this
    omega
end Go.Proofs.Ytdndkapfaiplnaa
