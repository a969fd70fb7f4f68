/-
  Records one behind the other: what stands on the disk. Nothing runs here.
-/
import Derived.Test.YtlapheiekjhceaaFrame7
namespace Go.Proofs.Ytlapheiekjhceaa
set_option linter.unusedVariables false
set_option linter.unusedSimpArgs false
open Go.RowKit

/-- Where record j begins. -/
def pos (bl : List (List Int)) : Nat → Nat
  | 0 => 0
  | j + 1 => pos bl j + need (bl.getD j [])
theorem pos_snoc (bl : List (List Int)) (b : List Int) : ∀ j, j ≤ bl.length → pos (bl ++ [b]) j = pos bl j
  | 0, _ => rfl
  | j + 1, h => by
    rw [pos, pos, pos_snoc bl b j (by omega)]
    congr 2
    simp only [List.getD]
    rw [List.getElem?_append_left (by omega)]
theorem pos_last (bl : List (List Int)) (b : List Int) : pos (bl ++ [b]) (bl.length + 1) = pos bl bl.length + need b := by
  rw [pos, pos_snoc bl b _ (Nat.le_refl _)]
  congr 2
  simp [List.getD]
theorem pos_mono (bl : List (List Int)) : ∀ i j, i ≤ j → pos bl i ≤ pos bl j := by
  intro i j h
  induction j with
  | zero => obtain rfl : i = 0 := by omega
            exact Nat.le_refl _
  | succ j ih =>
    rcases Nat.lt_or_ge i (j + 1) with h1 | h1
    · have := ih (by omega)
      rw [pos]; omega
    · obtain rfl : i = j + 1 := by omega
      exact Nat.le_refl _
theorem pos_ge (bl : List (List Int)) : ∀ j, j ≤ pos bl j
  | 0 => Nat.le_refl _
  | j + 1 => by have := pos_ge bl j; have := need_pos (bl.getD j []); rw [pos]; omega
/-- The disk with the records bl, each behind the other, and nothing behind them. -/
structure RowsSt (s : DSt) (bl : List (List Int)) : Prop where
  down : s.down = false
  left : s.left = -1
  n : s.n = 60
  pend : s.pend.length = pos bl bl.length
  fits : pos bl bl.length ≤ 59
  byt : ∀ j : Nat, Byt (s.la.getD j [])
  rows : ∀ j, j < bl.length → Stands s.la (pos bl j) 2 (5 + (j : Int)) (bl.getD j [])
  rest : ∀ k, pos bl bl.length ≤ k → k < 60 → s.la.getD k [] = zsec
  each : ∀ b ∈ bl, Byt b ∧ b.length ≤ 69
theorem rowsSt_start : RowsSt (newSt 60) [] where
  down := rfl
  left := rfl
  n := newSt_n 60
  pend := rfl
  fits := by simp [pos]
  byt := new_byt 60
  rows := fun j hj => absurd hj (by simp)
  rest := fun k _ hk => zsecs_getD 60 k hk
  each := fun b hb => by cases hb
theorem okMark_row (j : Nat) (h : j < 100) : okMark 2 (5 + (j : Int)) = true := by unfold okMark; exact decide_eq_true (by omega)
theorem RowsSt.each_getD {s : DSt} {bl : List (List Int)} (h : RowsSt s bl) (j : Nat) (hj : j < bl.length) : Byt (bl.getD j []) ∧ (bl.getD j []).length ≤ 69 := by
  have : bl.getD j [] ∈ bl := by simp only [List.getD, List.getElem?_eq_getElem hj, Option.getD_some]; exact List.getElem_mem hj
  exact h.each _ this
theorem RowsSt.len {s : DSt} {bl : List (List Int)} (h : RowsSt s bl) : bl.length ≤ 59 := by have := pos_ge bl bl.length; have := h.fits; omega
theorem RowsSt.step {s : DSt} {bl : List (List Int)} (h : RowsSt s bl) {b : List Int} (hb : Byt b) (hl : b.length ≤ 69) (hfit : pos bl bl.length + need b ≤ 59) : RowsSt (s.put (pos bl bl.length) (secs_of 2 (5 + (bl.length : Int)) b)) (bl ++ [b]) := by
  have hlen := h.len
  have hnb : need b ≤ 255 := by unfold need; omega
  have hin : pos bl bl.length + need b ≤ s.n := by rw [h.n]; omega
  have hin2 : pos bl bl.length + (secs_of 2 (5 + (bl.length : Int)) b).length ≤ s.n := by rw [length_secs_of]; exact hin
  have hplast : pos (bl ++ [b]) (bl ++ [b]).length = pos bl bl.length + need b := by rw [List.length_append, List.length_singleton, pos_last]
  have hlenb : (bl ++ [b]).length = bl.length + 1 := by simp
  have hlt : ∀ j, j < (bl ++ [b]).length → j < bl.length ∨ j = bl.length := by intro j hj; omega
  refine ⟨h.down, h.left, h.n, ?_, ?_, ?_, ?_, ?_, ?_⟩
  · rw [hplast, ← h.pend]
    simp [DSt.put, length_pendOf, length_secs_of]
  · rw [hplast]; exact hfit
  · exact put_byt h.byt (okMark_row _ (by omega)) hnb hb hin
  · intro j hj
    rcases hlt j hj with hj | rfl
    · rw [pos_snoc bl b j (by omega)]
      have e : (bl ++ [b]).getD j [] = bl.getD j [] := by simp only [List.getD]; rw [List.getElem?_append_left hj]
      rw [e]
      intro k hk
      have hp := pos_mono bl (j + 1) bl.length (by omega)
      rw [pos] at hp
      rw [put_other s _ _ hin2 _ (by omega)]
      exact h.rows j hj k hk
    · rw [pos_snoc bl b _ (Nat.le_refl _)]
      have e : (bl ++ [b]).getD bl.length [] = b := by simp [List.getD]
      rw [e]
      exact put_stands s _ 2 _ b hin
  · intro k hk hk2
    rw [hplast] at hk
    rw [put_other s _ _ hin2 _ (by rw [length_secs_of]; omega)]
    exact h.rest k (by omega) hk2
  · intro x hx
    rcases List.mem_append.1 hx with hx | hx
    · exact h.each x hx
    · rw [List.mem_singleton] at hx; subst hx; exact ⟨hb, hl⟩
/-- Behind the last record there is none. -/
theorem RowsSt.none {s : DSt} {bl : List (List Int)} (h : RowsSt s bl) : (pieceR s (pos bl bl.length : Nat)).r = 2 := by
  have hf := h.fits
  have h0 : s.refuse (pos bl bl.length : Nat) = 0 := refuse0 h.down (by omega) (by rw [h.n]; omega)
  unfold pieceR
  rw [if_pos h0, Int.toNat_natCast, h.rest _ (Nat.le_refl _) (by omega)]
  have hz : isSeal zsec = false := by decide
  rw [openR_no hz]
  rfl
end Go.Proofs.Ytlapheiekjhceaa
