/-
  A record with one byte of a sector turned is none. Nothing runs here.
-/
import Derived.Test.YtlapheiekjhceaaFrame10
namespace Go.Proofs.Ytlapheiekjhceaa
set_option linter.unusedVariables false
set_option linter.unusedSimpArgs false
open Go.RowKit

theorem sealed_mid (e s p q : Int) (c : List Int) (hc : c.length ≤ 19) (t : Nat) (ht : t < 19) : (sealed e s p q c).getD (8 + t) 0 = c.getD t 0 := by
  rw [sealed_form, getD_left _ _ _ (by simp; omega), getD_right _ _ _ (by simp)]
  simp only [List.length_cons, List.length_nil]
  rw [show 8 + t - (0 + 1 + 1 + 1 + 1 + 1 + 1 + 1 + 1) = t by omega]
  by_cases h : t < c.length
  · rw [getD_left _ _ _ h]
  · rw [getD_right _ _ _ (by omega)]
    simp only [List.getD, List.getElem?_replicate]
    split <;> simp [show ¬ t < c.length from h]
section
variable {a : Nat} {b : List Int} {k : Nat}
theorem bad_spoil (h : Ctx a b k) (i : Nat) (hi : i < 32) (h7 : i ≠ 7) (z : Int) (hz : 0 ≤ z ∧ z ≤ 255) (hne : z ≠ (sec 3 7 b k).getD i 0) (hcoll : 1 < need b → crc b ≠ crc (b.take 15)) : Bad a b k ((sec 3 7 b k).set i z) := by
  have h6 := h.need6
  have hk := h.k
  have hok : okSeal 3 7 k (need b) (chunk (framed b) k).length = true := sec_ok (by decide) (by omega) hk
  have hxl : (sec 3 7 b k).length = 32 := sec_len 3 7 b k
  have hXs : isSeal (sec 3 7 b k) = true := isSeal_sealed hok
  have hcl : (chunk (framed b) k).length ≤ 19 := length_chunk _ _
  obtain ⟨x0, x1, x2, x3, x4, x5, x6, x7⟩ := sealed_head 3 7 k (need b) (chunk (framed b) k)
  have hsec : sec 3 7 b k = sealed 3 7 k (need b) (chunk (framed b) k) := rfl
  rw [← hsec] at x0 x1 x2 x3 x4 x5 x6 x7
  have hmid := fun t ht => sealed_mid 3 7 k (need b) (chunk (framed b) k) hcl t ht
  rw [← hsec] at hmid
  have hdrop : (sec 3 7 b k).drop 8 = (chunk (framed b) k) ++ (List.replicate (19 - (chunk (framed b) k).length) 0 ++ [7 / 65536, 7 / 256 % 256, 7 % 256, 3 / 256, 3 % 256]) := by
    rw [hsec, sealed_form]
    simp
  have hY : ∀ j, ((sec 3 7 b k).set i z).getD j 0 = if i = j then z else (sec 3 7 b k).getD j 0 := fun j => getD_set _ _ _ _ (by omega)
  cases hs : isSeal ((sec 3 7 b k).set i z)
  · exact bad_none h (by rw [openR_no hs]; decide)
  · have hends : 5 ≤ i ∧ i ≤ 26 := by
      have he : ∀ m, m < 10 → i ≠ endAt m := by
        intro m hm e
        have := spoil_no hXs m hm z (by rw [← e]; exact hne)
        rw [← e, hs] at this
        cases this
      have e0 := he 0 (by omega)
      have e1 := he 1 (by omega)
      have e2 := he 2 (by omega)
      have e3 := he 3 (by omega)
      have e4 := he 4 (by omega)
      have e5 := he 5 (by omega)
      have e6 := he 6 (by omega)
      have e7 := he 7 (by omega)
      have e8 := he 8 (by omega)
      have e9 := he 9 (by omega)
      simp only [endAt, endsL, List.getD, List.getElem?_cons_zero, List.getElem?_cons_succ, Option.getD_some] at e0 e1 e2 e3 e4 e5 e6 e7 e8 e9
      omega
    have hop : openR ((sec 3 7 b k).set i z) = ⟨3, 7, ((sec 3 7 b k).set i z).getD 5 0, ((sec 3 7 b k).set i z).getD 6 0, tB ((sec 3 7 b k).set i z), 0⟩ := by
      unfold openR
      rw [if_pos hs]
      have hE : tE ((sec 3 7 b k).set i z) = 3 := by
        unfold tE
        rw [hY, hY, if_neg (by omega), if_neg (by omega), x0, x1]; decide
      have hS : tS ((sec 3 7 b k).set i z) = 7 := by
        unfold tS
        rw [hY, hY, hY, if_neg (by omega), if_neg (by omega), if_neg (by omega), x2, x3, x4]; decide
      rw [hE, hS]
    have hspec := okSeal_spec (isSeal_is hs).2.1
    have h77 : ((sec 3 7 b k).set i z).getD 7 0 = ((chunk (framed b) k).length : Int) := by rw [hY, if_neg h7, x7]
    have htB : tB ((sec 3 7 b k).set i z) = if 8 ≤ i then (chunk (framed b) k).set (i - 8) z else chunk (framed b) k := by
      unfold tB
      rw [h77, Int.toNat_natCast]
      by_cases h8 : 8 ≤ i
      · rw [if_pos h8, List.drop_set, if_neg (by omega), hdrop]
        by_cases hlt : i - 8 < (chunk (framed b) k).length
        · rw [List.set_append_left _ _ hlt, List.take_left' (by simp)]
        · rw [List.set_append_right _ _ (by omega), List.take_left' rfl, List.set_eq_of_length_le (by omega)]
      · rw [if_neg h8, List.drop_set_of_lt (by omega), hdrop, List.take_left' rfl]
    by_cases h5 : i = 5
    · subst h5
      rw [x5] at hne
      refine bad_part h ?_ ?_
      · rw [hop]; simp only; rw [hY, if_pos rfl]; exact hne
      · intro _; rw [hop]; simp only; rw [hY, if_neg (by omega), x6]; omega
    · by_cases hi6 : i = 6
      · subst hi6
        rw [x6] at hne
        have hq : (openR ((sec 3 7 b k).set 6 z)).q = z := by rw [hop]; simp only; rw [hY, if_pos rfl]
        by_cases hk0 : k = 0
        · subst hk0
          have hpos : 0 < z := by
            have h9 := hspec.2.2.2.2.2.1
            rw [hY, hY, if_neg (by omega), if_pos rfl, x5] at h9
            simpa using h9
          by_cases hz1 : z = 1
          · have hn1 : 1 < need b := by omega
            refine bad_one h hn1 rfl ?_ (hcoll hn1)
            rw [hop, htB, if_neg (by omega), hY, hY, if_neg (by omega), if_pos rfl, x5, hz1]
            rfl
          · exact bad_parts h (by rw [hq]; exact hne) (fun _ => .inl (by rw [hq]; omega))
        · exact bad_parts h (by rw [hq]; exact hne) (fun _ => .inr hk0)
      · have h8 : 8 ≤ i := by omega
        rw [if_pos h8] at htB
        have hm := hmid (i - 8) (by omega)
        rw [show 8 + (i - 8) = i by omega] at hm
        rw [hm] at hne
        by_cases hlt : i - 8 < (chunk (framed b) k).length
        · refine bad_byte h (i - 8) hlt z hz hne ?_
          rw [hop, htB, hY, hY, if_neg h5, if_neg hi6, x5, x6]
        · exfalso
          have hz0 : (chunk (framed b) k).getD (i - 8) 0 = 0 := by simp [List.getD, hlt]
          rw [hz0] at hne
          have hset : (chunk (framed b) k).set (i - 8) z = chunk (framed b) k := List.set_eq_of_length_le (by omega)
          rw [hset] at htB
          obtain ⟨_, _, hform⟩ := isSeal_is hs
          rw [htB] at hform
          have h9 := sealed_mid (tE ((sec 3 7 b k).set i z)) (tS ((sec 3 7 b k).set i z)) (((sec 3 7 b k).set i z).getD 5 0) (((sec 3 7 b k).set i z).getD 6 0) (chunk (framed b) k) hcl (i - 8) (by omega)
          rw [hform, show 8 + (i - 8) = i by omega, hY, if_pos rfl, hz0] at h9
          exact hne h9
/-- The sector under another mark. -/
theorem bad_seal_mark (h : Ctx a b k) (hp : 1 < need b) (e s : Int) (hok : okMark e s = true) (hm : ¬ (e = 3 ∧ s = 7)) : Bad a b k (sealed e s k (need b) (chunk (framed b) k)) := by
  have h6 := h.need6
  have hk := h.k
  have ho : openR (sealed e s k (need b) (chunk (framed b) k)) = ⟨e, s, k, need b, chunk (framed b) k, 0⟩ := openR_sealed (okSeal_mark hok ⟨by omega, by omega, by omega, length_chunk _ _⟩)
  exact bad_mark h hp (by rw [ho]; exact hm) (by rw [ho]; exact fun _ => rfl)
theorem bad_zero (h : Ctx a b k) : Bad a b k (List.replicate 32 0) := by
  have hz : isSeal (List.replicate 32 0) = false := by decide
  exact bad_none h (by rw [openR_no hz]; decide)
/-- The sector of one part more. -/
theorem bad_seal_parts (h : Ctx a b k) : Bad a b k (sealed 3 7 k (need b + 1) (chunk (framed b) k)) := by
  have h6 := h.need6
  have hk := h.k
  have ho : openR (sealed 3 7 k (need b + 1) (chunk (framed b) k)) = ⟨3, 7, k, need b + 1, chunk (framed b) k, 0⟩ := openR_sealed (okSeal_mark (by decide) ⟨by omega, by omega, by omega, length_chunk _ _⟩)
  exact bad_parts h (by rw [ho]; simp only; omega) (fun _ => .inl (by rw [ho]; simp only; omega))
end
end Go.Proofs.Ytlapheiekjhceaa
