/-
  Records behind a crash: each sector of the newer one whole, by its first half, or not at all, over the older one. Nothing runs here.
-/
import Derived.Test.YtdndkapfaiplnaaFrame7
namespace Go.Proofs.Ytdndkapfaiplnaa
set_option linter.unusedVariables false
set_option linter.unusedSimpArgs false
set_option maxRecDepth 20000
open Go.RowKit

/-- What stands where a write was pending. -/
def surv1 (old new : List Int) (k : Option Int) : List Int := if k = some 2 then new else if k = some 1 then half2 new old else old
theorem survAll_pendOf : ∀ (S : List (List Int)) (F : List (List Int)) (k : Nat) (ks : List Int) (j : Nat), k + S.length ≤ F.length → (survAll F (pendOf k S) ks).getD j [] = if k ≤ j ∧ j < k + S.length then surv1 (F.getD j []) (S.getD (j - k) []) ks[j - k]? else F.getD j []
  | [], F, k, ks, j, _ => by
    rw [if_neg (by simp only [List.length_nil]; omega)]; rfl
  | x :: S, F, k, [], j, h => by
    rw [survAll_nil]
    simp [surv1]
  | x :: S, F, k, q :: ks, j, h => by
    simp only [List.length_cons] at h
    have e : survAll F (pendOf k (x :: S)) (q :: ks) = survAll (surv F (k, x) q) (pendOf (k + 1) S) ks := rfl
    rw [e, survAll_pendOf S (surv F (k, x) q) (k + 1) ks j (by rw [length_surv]; omega)]
    have hs : ∀ i, (surv F (k, x) q).getD i [] = if i = k then surv1 (F.getD k []) x (some q) else F.getD i [] := by
      intro i
      by_cases hi : i = k
      · subst hi
        rw [if_pos rfl]
        have hl : i < F.length := by omega
        unfold surv surv1 half2
        by_cases h2 : q = 2
        · subst h2; simp [List.getD, hl]
        · by_cases h1 : q = 1
          · subst h1; simp [List.getD, hl]
          · simp [h2, h1]
      · rw [if_neg hi]
        have hne : k ≠ i := fun e => hi e.symm
        unfold surv
        by_cases h2 : q = 2
        · rw [if_pos h2]; simp only [List.getD]; rw [List.getElem?_set_ne hne]
        · rw [if_neg h2]
          by_cases h1 : q = 1
          · rw [if_pos h1]; simp only [List.getD]; rw [List.getElem?_set_ne hne]
          · rw [if_neg h1]
    by_cases hj : k + 1 ≤ j ∧ j < k + 1 + S.length
    · rw [if_pos hj, if_pos (by simp only [List.length_cons]; omega), hs, if_neg (by omega), show j - k = (j - (k + 1)) + 1 by omega]
      simp
    · rw [if_neg hj, hs]
      by_cases hk : j = k
      · subst hk
        rw [if_pos rfl, if_pos (by simp only [List.length_cons]; omega), Nat.sub_self]
        simp
      · rw [if_neg hk, if_neg (by simp only [List.length_cons]; omega)]
/-- The disk of FrameTorn behind the crash. -/
def tornSt (A B : List Int) (ks : List Int) : DSt := (((newSt 12).put 2 (secs_of 1 4 A)).flush.put 2 (secs_of 2 4 B)).crash ks
/-- The sectors ahead of the second record. -/
def oldAt (A : List Int) (j : Nat) : List Int := if j < need A then sec 1 4 A j else zsec
section
variable {A B : List Int} {ks : List Int}
theorem torn_n : (tornSt A B ks).n = 12 := by
  have h1 : (tornSt A B ks).n = (survAll (((newSt 12).put 2 (secs_of 1 4 A)).la) (pendOf 2 (secs_of 2 4 B)) ks).length := rfl
  rw [h1, length_survAll, DSt.length_la]; rfl
theorem torn_at (hA : need A ≤ 6) (hB : need B ≤ 6) (j : Nat) (hj : j < 10) : (tornSt A B ks).la.getD (2 + j) [] = if j < need B then surv1 (oldAt A j) (sec 2 4 B j) ks[j]? else oldAt A j := by
  have h1 : (tornSt A B ks).la = survAll (((newSt 12).put 2 (secs_of 1 4 A)).la) (pendOf 2 (secs_of 2 4 B)) ks := rfl
  have hl : (((newSt 12).put 2 (secs_of 1 4 A)).la).length = 12 := by rw [DSt.length_la]; rfl
  have hold : (((newSt 12).put 2 (secs_of 1 4 A)).la).getD (2 + j) [] = oldAt A j := by
    unfold oldAt
    by_cases hjA : j < need A
    · rw [if_pos hjA]
      exact put_stands (newSt 12) 2 1 4 A (by rw [newSt_n]; omega) j hjA
    · rw [if_neg hjA, put_other (newSt 12) 2 _ (by rw [length_secs_of, newSt_n]; omega) _ (by rw [length_secs_of]; omega)]
      exact zsecs_getD 12 (2 + j) (by omega)
  rw [h1, survAll_pendOf _ _ 2 ks (2 + j) (by rw [hl, length_secs_of]; omega), hold, length_secs_of, Nat.add_sub_cancel_left]
  by_cases hjB : j < need B
  · rw [if_pos (by omega), if_pos hjB]
    congr 1
    simp only [List.getD]
    rw [secs_of_get 2 4 B j hjB]
    rfl
  · rw [if_neg (by omega), if_neg hjB]
theorem torn_in (hA : need A ≤ 6) (hB : need B ≤ 6) (j : Nat) : j < 2 ∨ 12 ≤ j → (tornSt A B ks).la.getD j [] = (newSt 12).la.getD j [] := by
  intro hj
  have h1 : (tornSt A B ks).la = survAll (((newSt 12).put 2 (secs_of 1 4 A)).la) (pendOf 2 (secs_of 2 4 B)) ks := rfl
  have hl : (((newSt 12).put 2 (secs_of 1 4 A)).la).length = 12 := by rw [DSt.length_la]; rfl
  rw [h1, survAll_pendOf _ _ 2 ks j (by rw [hl, length_secs_of]; omega), if_neg (by rw [length_secs_of]; omega), put_other (newSt 12) 2 _ (by rw [length_secs_of, newSt_n]; omega) _ (by rw [length_secs_of]; omega)]
theorem byt_half2 {xs ys : List Int} (hx : Byt xs) (hy : Byt ys) : Byt (half2 xs ys) := byt_append (byt_take hx _) (byt_drop hy _)
theorem byt_oldAt (hA : need A ≤ 6) (hb : Byt A) (j : Nat) : Byt (oldAt A j) := by
  unfold oldAt
  split
  · rename_i h; exact byt_sec (by decide) (by omega) h hb
  · exact zsec_byt
theorem torn_byt (hA : need A ≤ 6) (hB : need B ≤ 6) (ha : Byt A) (hb : Byt B) : ∀ j : Nat, Byt ((tornSt A B ks).la.getD j []) := by
  intro j
  by_cases hj : j < 2 ∨ 12 ≤ j
  · rw [torn_in hA hB j hj]; exact new_byt 12 j
  · obtain ⟨i, rfl⟩ : ∃ i, j = 2 + i := ⟨j - 2, by omega⟩
    rw [torn_at hA hB i (by omega)]
    split
    · rename_i h
      have h2 : Byt (sec 2 4 B i) := byt_sec (by decide) (by omega) h hb
      unfold surv1
      split
      · exact h2
      · split
        · exact byt_half2 h2 (byt_oldAt hA ha i)
        · exact byt_oldAt hA ha i
    · exact byt_oldAt hA ha i
theorem torn_piece (hA : need A ≤ 6) (hB : need B ≤ 6) (j : Nat) (hj : j < 10) : pieceR (tornSt A B ks) (2 + (j : Int)) = openR (if j < need B then surv1 (oldAt A j) (sec 2 4 B j) ks[j]? else oldAt A j) := by
  have h0 : (tornSt A B ks).refuse (2 + (j : Int)) = 0 := refuse0 rfl (by omega) (by rw [torn_n]; omega)
  unfold pieceR
  rw [if_pos h0, show (2 + (j : Int)).toNat = 2 + j by omega, torn_at hA hB j hj]
theorem isSeal_z : isSeal zsec = false := by decide
theorem openR_no2 {xs : List Int} (h : isSeal xs = false) : openR xs = ⟨0, 0, 0, 0, [], 2⟩ := openR_no h
/-- A torn sector is none. -/
theorem half_none (hA : need A ≤ 6) (hB : need B ≤ 6) (j : Nat) (hj : j < need B) : (openR (half2 (sec 2 4 B j) (oldAt A j))).r = 2 := by
  have hs : isSeal (half2 (sec 2 4 B j) (oldAt A j)) = false := by
    unfold oldAt
    split
    · rename_i h
      exact half2_no (sec_ok (by decide) (by omega) hj) (sec_ok (by decide) (by omega) h) (by omega)
    · exact half0_no (sec_ok (by decide) (by omega) hj) (by omega) (by decide) (by decide)
  rw [openR_no2 hs]
theorem old_open (hA : need A ≤ 6) (j : Nat) : ((openR (oldAt A j)).r = 0 → (openR (oldAt A j)).e = 1) := by
  unfold oldAt
  split
  · rename_i h
    rw [openR_sec (by decide) (by omega) h]
    exact fun _ => rfl
  · rw [openR_no2 isSeal_z]
    intro h; cases h
/-- All kept: the newer record stands. -/
theorem torn_all (hA : need A ≤ 6) (hB : need B ≤ 6) (h : ∀ j, j < need B → ks[j]? = some 2) : Stands (tornSt A B ks).la 2 2 4 B := by
  intro j hj
  rw [torn_at hA hB j (by omega), if_pos hj, h j hj]
  rfl
/-- None of the older one's kept: it stands. -/
theorem torn_old (hA : need A ≤ 6) (hB : need B ≤ 6) (h : ∀ j, j < need A → j < need B → ks[j]? ≠ some 2 ∧ ks[j]? ≠ some 1) : Stands (tornSt A B ks).la 2 1 4 A := by
  intro j hj
  rw [torn_at hA hB j (by omega)]
  have ho : oldAt A j = sec 1 4 A j := by unfold oldAt; rw [if_pos hj]
  split
  · rename_i hjB
    have := h j hj hjB
    unfold surv1
    rw [if_neg this.1, if_neg this.2, ho]
  · exact ho
theorem torn_zero (hA : need A ≤ 6) (hB : need B ≤ 6) : pieceR (tornSt A B ks) 2 = openR (surv1 (sec 1 4 A 0) (sec 2 4 B 0) ks[0]?) := by
  have h := torn_piece (ks := ks) hA hB 0 (by omega)
  have hp := need_pos B
  have ho : oldAt A 0 = sec 1 4 A 0 := by unfold oldAt; rw [if_pos (show 0 < need A from need_pos A)]
  rw [if_pos (by omega), ho] at h
  exact h
/-- The first sector is the newer one's, another one is not: it is none. -/
theorem torn_none2 (hA : need A ≤ 6) (hB : need B ≤ 6) (h0 : ks[0]? = some 2) (j : Nat) (hj : j < need B) (hne : ks[j]? ≠ some 2) : ¬ RecOk (tornSt A B ks) 2 12 (pieceR (tornSt A B ks) 2) := by
  have hp0 : pieceR (tornSt A B ks) 2 = ⟨2, 4, 0, need B, chunk (framed B) 0, 0⟩ := by
    rw [torn_zero hA hB, h0]
    exact openR_sec (by decide) (by omega) (need_pos B)
  rw [hp0]
  rintro ⟨_, hall, _⟩
  have hg := hall j (by simpa using hj)
  unfold goodPart at hg
  rw [torn_piece hA hB j (by omega), if_pos hj] at hg
  unfold surv1 at hg
  rw [if_neg hne] at hg
  split at hg
  · have := half_none hA hB j hj
    rw [this] at hg
    exact absurd hg.1 (by decide)
  · have h1 := old_open hA j hg.1
    have h2 := hg.2
    simp only [cont, decide_eq_true_eq] at h2
    rw [h1] at h2
    omega
/-- The first sector is the older one's, another one of it is gone: it is none. -/
theorem torn_none1 (hA : need A ≤ 6) (hB : need B ≤ 6) (h0 : ks[0]? ≠ some 2) (h1 : ks[0]? ≠ some 1) (j : Nat) (hjA : j < need A) (hjB : j < need B) (hk : ks[j]? = some 2 ∨ ks[j]? = some 1) : ¬ RecOk (tornSt A B ks) 2 12 (pieceR (tornSt A B ks) 2) := by
  have hp0 : pieceR (tornSt A B ks) 2 = ⟨1, 4, 0, need A, chunk (framed A) 0, 0⟩ := by
    rw [torn_zero hA hB]
    unfold surv1
    rw [if_neg h0, if_neg h1]
    exact openR_sec (by decide) (by omega) (need_pos A)
  rw [hp0]
  rintro ⟨_, hall, _⟩
  have hg := hall j (by simpa using hjA)
  unfold goodPart at hg
  rw [torn_piece hA hB j (by omega), if_pos hjB] at hg
  unfold surv1 at hg
  rcases hk with hk | hk
  · rw [if_pos hk, openR_sec (by decide) (by omega) hjB] at hg
    have h2 := hg.2
    simp only [cont, decide_eq_true_eq] at h2
    omega
  · rw [if_neg (by rw [hk]; simp), if_pos hk, half_none hA hB j hjB] at hg
    exact absurd hg.1 (by decide)
/-- Torn in its first sector it is none. -/
theorem torn_first (hA : need A ≤ 6) (hB : need B ≤ 6) (h : ks[0]? = some 1) : (pieceR (tornSt A B ks) 2).r = 2 := by
  have := half_none (A := A) hA hB 0 (need_pos B)
  have ho : oldAt A 0 = sec 1 4 A 0 := by unfold oldAt; rw [if_pos (show 0 < need A from need_pos A)]
  rw [ho] at this
  rw [torn_zero hA hB]
  unfold surv1
  rw [if_neg (by rw [h]; simp), if_pos h, this]
end
/-- Are the first i all kept whole? -/
def allTo (ks : List Int) : Nat → Bool
  | 0 => true
  | i + 1 => allTo ks i && decide (ks[i]? = some 2)
theorem allTo_iff (ks : List Int) : ∀ i, allTo ks i = true ↔ ∀ j, j < i → ks[j]? = some 2
  | 0 => by simp [allTo]
  | i + 1 => by
    simp only [allTo, Bool.and_eq_true, decide_eq_true_eq, allTo_iff ks i]
    constructor
    · rintro ⟨h1, h2⟩ j hj
      rcases Nat.lt_succ_iff_lt_or_eq.1 hj with hj | rfl
      · exact h1 j hj
      · exact h2
    · exact fun h => ⟨fun j hj => h j (by omega), h i (by omega)⟩
end Go.Proofs.Ytdndkapfaiplnaa
