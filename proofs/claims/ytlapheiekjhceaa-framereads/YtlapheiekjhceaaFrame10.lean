/-
  A record with one of its sectors spoilt is none. Nothing runs here.
-/
import Derived.Test.YtlapheiekjhceaaFrame7
import Derived.Test.YtlapheiekjhceaaMark6
namespace Go.Proofs.Ytlapheiekjhceaa
set_option linter.unusedVariables false
set_option linter.unusedSimpArgs false
open Go.RowKit

/-- The disk with the record b, its sector k turned to Y. -/
def spoilt (a : Nat) (b : List Int) (k : Nat) (Y : List Int) : DSt := { ((newSt 12).put a (secs_of 3 7 b)) with pend := ((newSt 12).put a (secs_of 3 7 b)).pend ++ [(a + k, Y)] }
/-- What makes the record none: the sector tells nothing, or of another mark, another part, another number of parts. -/
structure Ctx (a : Nat) (b : List Int) (k : Nat) : Prop where
  a3 : a ≤ 3
  len : b.length ≤ 99
  k : k < need b
  byt : Byt b
theorem Ctx.need6 {a : Nat} {b : List Int} {k : Nat} (h : Ctx a b k) : need b ≤ 6 := by have := h.len; unfold need; omega
section
variable {a : Nat} {b : List Int} {k : Nat} {Y : List Int}
theorem spoilt_n : (spoilt a b k Y).n = 12 := newSt_n 12
theorem spoilt_la (h : Ctx a b k) (j : Nat) : (spoilt a b k Y).la.getD j [] = if j = a + k then Y else ((newSt 12).put a (secs_of 3 7 b)).la.getD j [] := by
  have h6 := h.need6
  have h3 := h.a3
  have hk := h.k
  have e : (spoilt a b k Y).la = ((newSt 12).put a (secs_of 3 7 b)).la.set (a + k) Y := over_snoc _ _ _ _
  have hl : (((newSt 12).put a (secs_of 3 7 b)).la).length = 12 := (DSt.length_la _).trans (newSt_n 12)
  rw [e]
  by_cases hj : j = a + k
  · subst hj
    rw [if_pos rfl]
    simp only [List.getD]
    rw [List.getElem?_set_self (by omega)]
    rfl
  · rw [if_neg hj]
    simp only [List.getD]
    rw [List.getElem?_set_ne (fun e => hj e.symm)]
theorem spoilt_at (h : Ctx a b k) (j : Nat) (hj : j < 8) : (spoilt a b k Y).la.getD (a + j) [] = if j = k then Y else if j < need b then sec 3 7 b j else zsec := by
  have h6 := h.need6
  have h3 := h.a3
  have hk := h.k
  rw [spoilt_la h]
  by_cases hjk : j = k
  · rw [if_pos (by omega), if_pos hjk]
  · rw [if_neg (by omega), if_neg hjk]
    by_cases hjn : j < need b
    · rw [if_pos hjn]
      exact put_stands (newSt 12) a 3 7 b (by rw [newSt_n]; omega) j hjn
    · rw [if_neg hjn, put_other (newSt 12) a _ (by rw [length_secs_of, newSt_n]; omega) _ (by rw [length_secs_of]; omega)]
      exact zsecs_getD 12 (a + j) (by omega)
theorem spoilt_byt (h : Ctx a b k) (hY : Byt Y) : ∀ j : Nat, Byt ((spoilt a b k Y).la.getD j []) := by
  intro j
  have h6 := h.need6
  have h3 := h.a3
  rw [spoilt_la h]
  split
  · exact hY
  · exact put_byt (new_byt 12) (by decide) (by omega) h.byt (by rw [newSt_n]; omega) j
theorem spoilt_piece (h : Ctx a b k) (j : Nat) (hj : j < 8) : pieceR (spoilt a b k Y) ((a : Int) + j) = openR (if j = k then Y else if j < need b then sec 3 7 b j else zsec) := by
  have h3 := h.a3
  have h0 : (spoilt a b k Y).refuse ((a : Int) + j) = 0 := refuse0 rfl (by omega) (by rw [spoilt_n]; omega)
  unfold pieceR
  rw [if_pos h0, show ((a : Int) + j).toNat = a + j by omega, spoilt_at h j hj]
theorem spoilt_k (h : Ctx a b k) : pieceR (spoilt a b k Y) ((a : Int) + k) = openR Y := by
  have := h.k
  have h6 := h.need6
  rw [spoilt_piece h k (by omega), if_pos rfl]
theorem spoilt_other (h : Ctx a b k) (j : Nat) (hj : j < need b) (hne : j ≠ k) : pieceR (spoilt a b k Y) ((a : Int) + j) = ⟨3, 7, j, need b, chunk (framed b) j, 0⟩ := by
  have h6 := h.need6
  rw [spoilt_piece h j (by omega), if_neg hne, if_pos hj, openR_sec (by decide) (by omega) hj]
theorem spoilt_past (h : Ctx a b k) : (pieceR (spoilt a b k Y) ((a : Int) + need b)).r = 2 := by
  have h6 := h.need6
  have hk := h.k
  rw [spoilt_piece h (need b) (by omega), if_neg (by omega), if_neg (by omega)]
  have hz : isSeal zsec = false := by decide
  rw [openR_no hz]
  rfl
theorem spoilt_zero : (((a : Int) + ((0 : Nat) : Int))) = a := by omega
/-- The first piece. -/
theorem spoilt_first (h : Ctx a b k) : pieceR (spoilt a b k Y) a = if k = 0 then openR Y else ⟨3, 7, 0, need b, chunk (framed b) 0, 0⟩ := by
  have hk := h.k
  by_cases h0 : k = 0
  · subst h0
    rw [if_pos rfl]
    have := spoilt_k (Y := Y) h
    rwa [spoilt_zero] at this
  · rw [if_neg h0]
    have := spoilt_other (Y := Y) h 0 (by omega) (fun e => h0 e.symm)
    rwa [spoilt_zero] at this
/-- None of it can be read. -/
def Bad (a : Nat) (b : List Int) (k : Nat) (Y : List Int) : Prop := (pieceR (spoilt a b k Y) a).r = 0 → ¬ RecOk (spoilt a b k Y) a 12 (pieceR (spoilt a b k Y) a)
/-- The sector tells nothing. -/
theorem bad_none (h : Ctx a b k) (hr : (openR Y).r ≠ 0) : Bad a b k Y := by
  intro h0 hok
  rw [spoilt_first h] at h0 hok
  by_cases hk : k = 0
  · rw [if_pos hk] at h0; exact hr h0
  · rw [if_neg hk] at hok
    have hg := hok.2.1 k (by simpa using h.k)
    unfold goodPart at hg
    rw [spoilt_k h] at hg
    exact hr hg.1
/-- The sector is of another mark, and there are others. -/
theorem bad_mark (h : Ctx a b k) (hp : 1 < need b) (hm : ¬ ((openR Y).e = 3 ∧ (openR Y).s = 7)) (hq : (openR Y).r = 0 → (openR Y).q = need b) : Bad a b k Y := by
  intro h0 hok
  rw [spoilt_first h] at h0 hok
  by_cases hk : k = 0
  · subst hk
    rw [if_pos rfl] at hok h0
    have hg := hok.2.1 1 (by rw [hq h0]; simpa using hp)
    unfold goodPart at hg
    rw [spoilt_other h 1 hp (by omega)] at hg
    have h2 := hg.2
    simp only [cont, decide_eq_true_eq] at h2
    exact hm ⟨h2.1.1.symm, h2.1.2.symm⟩
  · rw [if_neg hk] at hok
    have hg := hok.2.1 k (by simpa using h.k)
    unfold goodPart at hg
    rw [spoilt_k h] at hg
    have h2 := hg.2
    simp only [cont, decide_eq_true_eq] at h2
    exact hm h2.1
/-- The sector is another part. -/
theorem bad_part (h : Ctx a b k) (hp : (openR Y).p ≠ k) (hq : (openR Y).r = 0 → 0 < (openR Y).q) : Bad a b k Y := by
  intro h0 hok
  rw [spoilt_first h] at h0 hok
  by_cases hk : k = 0
  · subst hk
    rw [if_pos rfl] at hok h0
    have hg := hok.2.1 0 (by have := hq h0; omega)
    unfold goodPart at hg
    rw [spoilt_k h] at hg
    have h2 := hg.2
    simp only [cont, decide_eq_true_eq] at h2
    exact hp h2.2.2.1
  · rw [if_neg hk] at hok
    have hg := hok.2.1 k (by simpa using h.k)
    unfold goodPart at hg
    rw [spoilt_k h] at hg
    have h2 := hg.2
    simp only [cont, decide_eq_true_eq] at h2
    exact hp h2.2.2.1
/-- The sector tells of another number of parts: not of one. -/
theorem bad_parts (h : Ctx a b k) (hq : (openR Y).q ≠ need b) (h1 : (openR Y).r = 0 → 1 < (openR Y).q ∨ k ≠ 0) : Bad a b k Y := by
  intro h0 hok
  rw [spoilt_first h] at h0 hok
  have hk := h.k
  by_cases hk0 : k = 0
  · subst hk0
    rw [if_pos rfl] at hok h0
    have h2 : 1 < (openR Y).q := (h1 h0).resolve_right (by simp)
    have hg := hok.2.1 1 (by omega)
    unfold goodPart at hg
    by_cases hn : 1 < need b
    · rw [spoilt_other h 1 hn (by omega)] at hg
      have h3 := hg.2
      simp only [cont, decide_eq_true_eq] at h3
      exact hq h3.2.1.symm
    · have hn1 : need b = 1 := by omega
      have hpast := spoilt_past (Y := Y) h
      rw [hn1] at hpast
      rw [hpast] at hg
      exact absurd hg.1 (by decide)
  · rw [if_neg hk0] at hok
    have hg := hok.2.1 k (by simpa using h.k)
    unfold goodPart at hg
    rw [spoilt_k h] at hg
    have h2 := hg.2
    simp only [cont, decide_eq_true_eq] at h2
    exact hq h2.2.1
/-- A record of one sector out of the first of several: its sum is another one. -/
theorem bad_one (h : Ctx a b k) (hn : 1 < need b) (hk : k = 0) (ho : openR Y = ⟨3, 7, 0, 1, chunk (framed b) 0, 0⟩) (hc : crc b ≠ crc (b.take 15)) : Bad a b k Y := by
  subst hk
  intro h0 hok
  rw [spoilt_first h, if_pos rfl, ho] at hok
  have hs := hok.2.2.2
  have hj : joinB (spoilt a b 0 Y) a 1 = chunk (framed b) 0 := by
    have := spoilt_k (Y := Y) h
    simp only [joinB, List.nil_append]
    rw [this, ho]
  have hch : chunk (framed b) 0 = be4 (crc b) ++ b.take 15 := by simp [chunk, framed, be4]
  simp only [Int.toNat_one, show (1 : Int).toNat = 1 from rfl] at hs
  rw [hj, hch, num4_be4 _ (crc_lt b h.byt)] at hs
  have hd : (be4 (crc b) ++ b.take 15).drop 4 = b.take 15 := by simp [be4]
  rw [hd] at hs
  exact hc (by omega)
/-! ### one byte of the bytes turned -/
theorem chunk_set (W : List Int) (t : Nat) (z : Int) (ht : t < 19) (j : Nat) : chunk (W.set (19 * k + t) z) j = if j = k then (chunk W k).set t z else chunk W j := by
  apply List.ext_getElem?
  intro i
  by_cases hjk : j = k
  · subst hjk
    rw [if_pos rfl]
    simp only [chunk, List.getElem?_take, List.getElem?_drop, List.getElem?_set, List.length_take, List.length_drop]
    by_cases hi : i < 19
    · by_cases hit : t = i
      · subst hit
        simp only [hi, if_true]
        by_cases hl : 19 * j + t < W.length
        · rw [if_pos hl, if_pos (by omega)]
        · rw [if_neg hl, if_neg (by omega)]
      · simp only [hi, if_true]
        rw [if_neg (by omega), if_neg hit]
    · simp only [hi, if_false]
      by_cases hit : t = i
      · omega
      · rw [if_neg hit]
  · rw [if_neg hjk]
    simp only [chunk, List.getElem?_take, List.getElem?_drop, List.getElem?_set]
    by_cases hi : i < 19
    · simp only [hi, if_true]
      rw [if_neg (by omega)]
    · simp only [hi, if_false]
theorem num4_set (W : List Int) (i : Nat) (hi : i < 4) (hl : 4 ≤ W.length) (z : Int) (h : num4 (W.set i z) = num4 W) : z = W.getD i 0 := by
  unfold num4 at h
  simp only [getD_set W i _ z (by omega)] at h
  match i, hi with
  | 0, _ => simp at h; simp; omega
  | 1, _ => simp at h; simp; omega
  | 2, _ => simp at h; simp; omega
  | 3, _ => simp at h; simp; omega
theorem crc_set (b : List Int) (hb : Byt b) (i : Nat) (hi : i < b.length) (z : Int) (hz : 0 ≤ z ∧ z ≤ 255) (h : crc (b.set i z) = crc b) : z = b.getD i 0 := by
  have e1 : b.set i z = b.take i ++ z :: b.drop (i + 1) := List.set_eq_take_append_cons_drop .. |>.trans (by rw [if_pos hi])
  have e2 : b = b.take i ++ b[i] :: b.drop (i + 1) := by simp
  have e3 : b.getD i 0 = b[i] := by simp [List.getD, hi]
  rw [e3]
  rw [e1] at h
  have h2 : crc (b.take i ++ z :: b.drop (i + 1)) = crc (b.take i ++ b[i] :: b.drop (i + 1)) := by rw [h, ← e2]
  exact crc_tells _ _ z b[i] (fun y hy => hb y (List.mem_of_mem_take hy)) (fun y hy => hb y (List.mem_of_mem_drop hy)) hz (hb _ (List.getElem_mem hi)) h2
theorem set_framed (b : List Int) (i : Nat) (z : Int) (hi : 4 ≤ i) : (framed b).set i z = be4 (crc b) ++ b.set (i - 4) z := by
  unfold framed
  rw [List.set_append_right _ _ (by simpa using hi)]
  rfl
/-- No record's bytes with one turned are a record's. -/
theorem framed_turned (b : List Int) (hb : Byt b) (i : Nat) (hi : i < 4 + b.length) (z : Int) (hz : 0 ≤ z ∧ z ≤ 255) (hne : z ≠ (framed b).getD i 0) : num4 ((framed b).set i z) ≠ crc (((framed b).set i z).drop 4) := by
  intro h
  by_cases h4 : i < 4
  · have hd : ((framed b).set i z).drop 4 = b := by
      rw [List.drop_set_of_lt h4, drop_framed]
    rw [hd] at h
    have h2 : num4 (framed b) = crc b := by unfold framed; exact num4_be4 _ (crc_lt b hb) b
    exact hne (num4_set (framed b) i h4 (by rw [length_framed]; omega) z (by rw [h, h2]))
  · rw [set_framed b i z (by omega), num4_be4 _ (crc_lt b hb)] at h
    have hd : (be4 (crc b) ++ b.set (i - 4) z).drop 4 = b.set (i - 4) z := by simp [be4]
    rw [hd] at h
    have h5 := crc_set b hb (i - 4) (by omega) z hz (by omega)
    apply hne
    rw [h5]
    unfold framed
    rw [getD_right _ _ _ (by simp; omega)]
    rfl
theorem bad_byte (h : Ctx a b k) (t : Nat) (ht : t < (chunk (framed b) k).length) (z : Int) (hz : 0 ≤ z ∧ z ≤ 255) (hne : z ≠ (chunk (framed b) k).getD t 0) (ho : openR Y = ⟨3, 7, k, need b, (chunk (framed b) k).set t z, 0⟩) : Bad a b k Y := by
  have h6 := h.need6
  have hk := h.k
  have ht19 : t < 19 := by have := length_chunk (framed b) k; omega
  have hp : ∀ j, j < need b → pieceR (spoilt a b k Y) ((a : Int) + j) = ⟨3, 7, j, need b, chunk ((framed b).set (19 * k + t) z) j, 0⟩ := by
    intro j hj
    rw [chunk_set _ _ _ ht19]
    by_cases hjk : j = k
    · subst hjk; rw [if_pos rfl, spoilt_k h, ho]
    · rw [if_neg hjk, spoilt_other h j hj hjk]
  have hj : ∀ n, n ≤ need b → joinB (spoilt a b k Y) a n = ((framed b).set (19 * k + t) z).take (19 * n) := by
    intro n
    induction n with
    | zero => intro _; simp [joinB]
    | succ n ih =>
      intro hn
      rw [joinB, ih (by omega), hp n (by omega), ← take_chunk]
  have hall : joinB (spoilt a b k Y) a (need b) = (framed b).set (19 * k + t) z := by
    rw [hj _ (Nat.le_refl _)]
    apply List.take_of_length_le
    rw [List.length_set, length_framed]
    unfold need
    omega
  have hfirst : pieceR (spoilt a b k Y) a = ⟨3, 7, 0, need b, chunk ((framed b).set (19 * k + t) z) 0, 0⟩ := by
    have := hp 0 (by omega)
    rwa [spoilt_zero] at this
  intro _ hok
  rw [hfirst] at hok
  have hs := hok.2.2.2
  simp only [Int.toNat_natCast] at hs
  rw [hall] at hs
  have hcl : (chunk (framed b) k).length ≤ 4 + b.length - 19 * k := by simp [chunk]; omega
  have hget : (chunk (framed b) k).getD t 0 = (framed b).getD (19 * k + t) 0 := by
    simp only [chunk, List.getD]
    rw [List.getElem?_take_of_lt ht19, List.getElem?_drop]
  rw [hget] at hne
  exact framed_turned b h.byt (19 * k + t) (by omega) z hz hne hs
end
end Go.Proofs.Ytlapheiekjhceaa
