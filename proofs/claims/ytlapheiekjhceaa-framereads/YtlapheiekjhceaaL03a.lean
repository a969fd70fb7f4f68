/-
  What the laws of chapter 3 share: the document's example.
-/
import Derived.Test.YtlapheiekjhceaaFrame7
import Derived.Test.YtlapheiekjhceaaConv
namespace Go.Proofs.Ytlapheiekjhceaa
set_option linter.unusedVariables false
set_option linter.unusedSimpArgs false
open Go.RowKit

theorem rd_whole3 {w0 : World} {R : Blks} {g n c : Nat} {xs : List Int} {t : TypeId} (hm : (g, Obj.cells (bv xs).toArray t) ∈ R) (hn : xs.length = n) (hc : n ≤ c) : Rd w0 R (.slice (some ⟨g, 0, none⟩) n c) xs := by
  subst hn
  have := rd_blk (w0 := w0) (R := R) (g := g) (xs := xs) (sp := []) (t := t) (by rwa [List.append_nil]) 0 xs.length c (by omega) hc
  rwa [List.drop_zero, List.take_length] at this
theorem bs_none (w : World) : Bs w (.slice none 0 0) [] := ⟨_, _, _, rfl, rfl, Nat.le_refl _, fun h => absurd h (by omega)⟩
theorem bs_whole {w0 w : World} {R : Blks} {g n : Nat} {xs : List Int} {t : TypeId} (hO : Own w0 w ((g, Obj.cells (bv xs).toArray t) :: R)) (hn : xs.length = n) : Bs w (.slice (some ⟨g, 0, none⟩) n n) xs :=
  rd_whole3 (R := (g, Obj.cells (bv xs).toArray t) :: R) (.head _) hn (Nat.le_refl _) w [] hO
theorem sum_is {w : World} (v : Value) (xs : List Int) (hb : Bs w v xs) (hB : Byt xs) (hl : xs.length ≤ 1073741824) (k : Int) (h : ((crc xs : Nat) : Int) = k) : Calls Try.prog 23 #[v] w fun e w' => e = .returned (.int .u32 k) ∧ w = w' := by
  rw [← h]; exact sum_c v xs hb hB hl
theorem need_is {w : World} (v : Value) (xs : List Int) (hb : Bs w v xs) (hl : xs.length ≤ 1073741824) (k : Int) (h : ((need xs : Nat) : Int) = k) : Calls Try.prog 24 #[v] w fun e w' => e = .returned (.int .i64 k) ∧ w = w' := by
  rw [← h]; exact need_c v xs hb hl
theorem build_nine (w : World) : (Instr.buildSlice 27 9 #[(0, .int .u8 49), (1, .int .u8 50), (2, .int .u8 51), (3, .int .u8 52), (4, .int .u8 53), (5, .int .u8 54), (6, .int .u8 55), (7, .int .u8 56), (8, .int .u8 57)]).run Try.prog w = .ok (.slice (some ⟨w.heap.size, 0, none⟩) 9 9) (w.alloc (.cells (bv [49, 50, 51, 52, 53, 54, 55, 56, 57]).toArray 5)) := by kernel_rfl
theorem crc_nine : ((crc [49, 50, 51, 52, 53, 54, 55, 56, 57] : Nat) : Int) = 3421780262 := by decide +kernel
theorem byt_lit {xs : List Int} (h : xs.all (fun x => decide (0 ≤ x ∧ x ≤ 255)) = true) : Byt xs := by
  intro x hx
  have := List.all_eq_true.1 h x hx
  simpa using this
set_option maxHeartbeats 1000000 in
theorem wakes3_c {w0 w : World} {R : Blks} (hO : Own w0 w R) : Calls Try.prog 26 #[] w (Gave w0 R (.bool true)) := by
  have HO := Lib.hid hO; clear hO
  go_enter Try.func26, Try.ntmps26
  go_wp2_with fail
  have hcall := need_is (w := w) (.slice none 0 0) [] (bs_none w) (by decide) 1 (by decide)
  with_reducible refine hcall.mono ?_
  clear hcall
  rintro en w1 ⟨rfl, rfl⟩
  go_wp2_with (first | (refine wl_g (by rfl) ?_; refine wl_buildSlice rfl _ _ _ rfl HO.out _ (by exact build_nine _) ?_; intro g w1 hO1; have HO1 := Lib.hid hO1; clear hO1 HO) | (refine wl_g (by rfl) ?_; refine wl_conv rfl _ rfl g 9 9 _ HO1.out (by rfl) ?_; intro w2 hO2; have HO2 := Lib.hid hO2; clear hO2 HO1))
  have hcall := sum_is (w := w2) (.slice (some ⟨g, 0, none⟩) 9 9) _ (bs_sblk HO2.out rfl) (byt_lit (by decide)) (by decide) _ crc_nine
  with_reducible refine hcall.mono ?_
  clear hcall
  rintro en w3 ⟨rfl, rfl⟩
  go_wp2
  go_ret
  exact ⟨rfl, HO2.out.tail⟩
end Go.Proofs.Ytlapheiekjhceaa
