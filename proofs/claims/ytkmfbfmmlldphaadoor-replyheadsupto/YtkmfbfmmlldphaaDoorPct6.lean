/-
  Trim: the program's and the document's.
-/
import Derived.Test.YtkmfbfmmlldphaaDoorPct1
import Derived.Lib.UnsafeStr
import Derived.Lib.BufferWrite
namespace Go.Proofs.YtkmfbfmmlldphaaDoor
set_option linter.unusedVariables false
set_option linter.unusedSimpArgs false
set_option maxRecDepth 20000
open Go.RowKit

/-! ### what is left between two places -/
def win (l : List Int) (f t : Nat) : List Int := (l.take t).drop f
theorem win_len (l : List Int) (f t : Nat) (ht : t ≤ l.length) : (win l f t).length = t - f := by unfold win; simp; omega
theorem win_head (l : List Int) (f t : Nat) (h : f < t) (ht : t ≤ l.length) : win l f t = (l.getD f 0) :: win l (f + 1) t := by
  unfold win
  have hf : f < (l.take t).length := by simp; omega
  rw [List.drop_eq_getElem_cons hf]
  congr 1
  simp [List.getD_eq_getElem?_getD, List.getElem?_eq_getElem (show f < l.length by omega)]
theorem win_last (l : List Int) (f t : Nat) (h : f ≤ t) (ht : t < l.length) : win l f (t + 1) = win l f t ++ [l.getD t 0] := by
  unfold win
  rw [List.take_succ_eq_append_getElem ht, List.drop_append_of_le_length (by simp; omega)]
  simp [List.getD_eq_getElem?_getD, List.getElem?_eq_getElem ht]
theorem trim_front {x : Int} {l : List Int} (h : blank x = true) : trimI (x :: l) = trimI l := by unfold trimI; rw [List.dropWhile_cons_of_pos h]
theorem trim_back {x : Int} {l : List Int} (h : blank x = true) : trimI (l ++ [x]) = trimI l := by
  unfold trimI
  rw [List.dropWhile_append]
  cases hd : l.dropWhile blank with
  | nil => simp [h]
  | cons y d =>
    simp only [List.isEmpty_cons, Bool.false_eq_true, if_false]
    rw [List.reverse_append, List.reverse_singleton, List.singleton_append, List.dropWhile_cons_of_pos h]
theorem trim_done {l : List Int} (h1 : ∀ x r, l = x :: r → blank x = false) (h2 : ∀ r x, l = r ++ [x] → blank x = false) : trimI l = l := by
  unfold trimI
  cases l with
  | nil => rfl
  | cons x r =>
    rw [List.dropWhile_cons_of_neg (by rw [h1 x r rfl]; simp)]
    rcases List.eq_nil_or_concat (x :: r) with e | ⟨r', y, e⟩
    · cases e
    · rw [List.concat_eq_append] at e
      rw [e, List.reverse_append, List.reverse_singleton, List.singleton_append, List.dropWhile_cons_of_neg (by rw [h2 r' y e]; simp)]
      simp
def strSize : Value → Nat
  | .string s => s.size
  | _ => 0
theorem win_all (l : List Int) : win l 0 l.length = l := by unfold win; simp
theorem sb_win (s : ByteArray) (f t : Nat) : sb (s.extract f t) = win (sb s) f t := sb_extract s f t
set_option maxHeartbeats 4000000 in
theorem sclone_c {w0 w : World} {R : Blks} (hO : Own w0 w R) (s : ByteArray) (hs : s.size ≤ 1073741824) :
    Calls Tryd.prog 53 #[.string s] w fun e w' => e = .returned (.string s) ∧ Own w0 w' R := by
  by_cases h0 : s.size = 0
  · have he : s = ⟨#[]⟩ := sb_inj (by rw [List.eq_nil_of_length_eq_zero (by rw [length_sb]; exact h0) (l := sb s)]; rfl)
    subst he
    have HO := Lib.hid hO
    clear hO h0 hs
    go_enter Tryd.func53, Tryd.ntmps53
    go_wp2
    go_ret
    exact ⟨rfl, HO.out⟩
  · have hz1 : (Tryd.prog.info? 5).map (·.size) = some 1 := by kernel_rfl
    have hco : Tryd.prog.cellsOf 5 = 1 := by kernel_rfl
    have hmk := make_bytes s.size hs w
    obtain ⟨M, hM⟩ : ∃ M, M = (bv (List.replicate s.size 0)).toArray := ⟨_, rfl⟩
    rw [← hM] at hmk
    have hMs : M.size = s.size := by rw [hM]; simp
    have hcp := Lib.run_copy_row_string (P := Tryd.prog) (w.alloc (.cells M 5)) 49 9 3 5 w.heap.size 0 s.size s.size s M 5 Tryd.underlying49 hz1 (heap_alloc_new w _) (Nat.le_refl _) (by omega)
    obtain ⟨Y, hY⟩ : ∃ Y, Y = (M.toList.take 0 ++ Lib.byteCells s.data.toList ++ M.toList.drop (0 + s.size)).toArray := ⟨_, rfl⟩
    rw [← hY] at hcp
    have hYl : Y.toList = Lib.byteCells s.data.toList := by
      rw [hY, List.toList_toArray, List.take_zero, List.nil_append, List.drop_of_length_le (by rw [Array.length_toList]; omega), List.append_nil]
    have hYs : Y.size = s.size := by rw [← Array.length_toList, hYl, Lib.byteCells_length, ← Lib.size_eq]
    have hgY : ((w.alloc (.cells M 5)).setRow w.heap.size Y).heap[w.heap.size]? = some (.cells Y 5 (0, 0)) := setRow_heap _ _ M _ 5 (0, 0) (heap_alloc_new w _)
    have hne : s.data.toList ≠ [] := fun e => h0 (by rw [Lib.size_eq, e]; rfl)
    have hUS := Lib.run_unsafeString_row (P := Tryd.prog) ((w.alloc (.cells M 5)).setRow w.heap.size Y) 82 3 9 5 Tryd.underlying82 hco w.heap.size Y.size (by unfold World.shape?; rw [hgY]) s.data.toList hne (by rw [← Lib.size_eq]; omega) (by rw [← Lib.size_eq]; omega)
      (fun j x hx => Lib.cells_of_row hgY Y.size j _ (by rw [List.take_of_length_le (by rw [Array.length_toList]; exact Nat.le_refl _), hYl]; simp [Lib.byteCells, hx]))
    rw [← Lib.size_eq] at hUS
    have hsd : (⟨s.data.toList.toArray⟩ : ByteArray) = s := by simp
    rw [hsd] at hUS
    have hb1 : Below w.heap.size w (w.alloc (.cells M 5)) := (Below.refl _ w).alloc (Nat.le_refl _) _
    have hb2 : Below w.heap.size (w.alloc (.cells M 5)) ((w.alloc (.cells M 5)).setRow w.heap.size Y) := ⟨rfl, rfl, rfl, by simp, fun k hk => setRow_other _ _ _ _ (by omega)⟩
    have hOf := hO.same (Lib.below_freeze (hb1.trans hb2) (p := ⟨w.heap.size, 0, none⟩) (Nat.le_refl _) s.size)
    have HO := Lib.hid hOf
    have hp : (0 : Int) < s.size := by omega
    have hne0 : ((s.size : Int) == 0) = false := beq_eq_false_iff_ne.2 (by omega)
    clear hO hY hM hOf hb1 hb2 hne hgY hYl hsd hz1 hco hMs hYs
    go_enter Tryd.func53, Tryd.ntmps53
    go_wp2
    go_ret
    exact ⟨rfl, HO.out⟩
theorem clone_c {w0 w : World} {R : Blks} (hO : Own w0 w R) (s : ByteArray) (hs : s.size ≤ 1073741824) :
    Calls Tryd.prog 43 #[.string s] w fun e w' => e = .returned (.string s) ∧ Own w0 w' R := by
  have H := Lib.hid (sclone_c hO s hs)
  clear hO
  go_enter Tryd.func43, Tryd.ntmps43
  go_wp2_with fail
  with_reducible refine H.out.mono ?_
  rintro e w1 ⟨rfl, hO1⟩
  have HO1 := Lib.hid hO1; clear hO1 H
  go_wp2
  go_ret
  exact ⟨rfl, HO1.out⟩
theorem blank_iff (x : Int) : blank x = true ↔ x ≤ 32 := by unfold blank; exact decide_eq_true_iff
theorem win_empty (l : List Int) (f : Nat) : win l f f = [] := by unfold win; exact List.drop_eq_nil_of_le (by simp; omega)
theorem ext_empty (s : ByteArray) (f : Nat) : s.extract f f = ByteArray.empty := sb_inj (by rw [sb_win, win_empty]; rfl)
theorem win_trim {l : List Int} {f t : Nat} (h : f < t) (ht : t ≤ l.length) (h1 : blank (l.getD f 0) = false) (h2 : blank (l.getD (t - 1) 0) = false) : trimI (win l f t) = win l f t := by
  apply trim_done
  · intro x r e
    rw [win_head l f t h ht] at e
    injection e with e1 e2
    rw [← e1]; exact h1
  · intro r x e
    have h3 := win_last l f (t - 1) (by omega) (by omega)
    rw [show t - 1 + 1 = t by omega] at h3
    rw [h3] at e
    have := List.append_inj' e rfl
    have e2 : [l.getD (t - 1) 0] = [x] := this.2
    injection e2 with e3
    rw [← e3]; exact h2
end Go.Proofs.YtkmfbfmmlldphaaDoor
