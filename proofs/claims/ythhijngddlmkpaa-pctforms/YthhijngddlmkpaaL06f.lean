/-
  PctForms: whatever n: a few texts by hand, encoded, decoded, in small letters, trimmed.
  Conditions: none but the row's own.
-/
import Derived.Test.YthhijngddlmkpaaL06a
namespace Go.Proofs.Ythhijngddlmkpaa
set_option linter.unusedVariables false
set_option linter.unusedSimpArgs false
set_option maxRecDepth 20000
open Go.ChangeShapes Go.WideShapes Go.ChangeAt Go.RowKit
open Go.ChangeMaps (open_string shut_string)

abbrev Prs := List (ByteArray × ByteArray)
def pv (ps : Prs) : List Value := ps.flatMap fun p => [Value.string p.1, Value.string p.2]
def fvE : Prs := [(⟨#[]⟩, ⟨#[]⟩), (⟨#[97, 98, 99]⟩, ⟨#[97, 98, 99]⟩), (⟨#[97, 32, 98]⟩, ⟨#[97, 37, 50, 48, 98]⟩), (⟨#[195, 169]⟩, ⟨#[37, 67, 51, 37, 65, 57]⟩), (⟨#[226, 130, 172]⟩, ⟨#[37, 69, 50, 37, 56, 50, 37, 65, 67]⟩), (⟨#[255]⟩, ⟨#[37, 69, 70, 37, 66, 70, 37, 66, 68]⟩), (⟨#[37, 52, 49]⟩, ⟨#[37, 52, 49]⟩), (⟨#[34, 60, 62, 35, 63, 123, 125]⟩, ⟨#[37, 50, 50, 37, 51, 67, 37, 51, 69, 37, 50, 51, 37, 51, 70, 37, 55, 66, 37, 55, 68]⟩), (⟨#[97, 47, 98, 58, 99, 64, 100, 33, 36, 38, 39, 40, 41, 42, 43, 44, 59, 61, 45, 46, 95, 126, 124, 94, 91, 93, 92]⟩, ⟨#[97, 47, 98, 58, 99, 64, 100, 33, 36, 38, 39, 40, 41, 42, 43, 44, 59, 61, 45, 46, 95, 126, 124, 94, 91, 93, 92]⟩), (⟨#[0, 31, 127]⟩, ⟨#[37, 48, 48, 37, 49, 70, 37, 55, 70]⟩), (⟨#[96]⟩, ⟨#[37, 54, 48]⟩), (⟨#[240, 159, 152, 128]⟩, ⟨#[37, 70, 48, 37, 57, 70, 37, 57, 56, 37, 56, 48]⟩)]
def fvD : Prs := [(⟨#[37, 52, 49, 37, 54, 97, 37, 54, 65]⟩, ⟨#[65, 106, 106]⟩), (⟨#[97, 43, 98]⟩, ⟨#[97, 43, 98]⟩), (⟨#[37, 99, 51, 37, 65, 57]⟩, ⟨#[195, 169]⟩)]
def fvB : List ByteArray := [⟨#[37]⟩, ⟨#[37, 52]⟩, ⟨#[97, 37]⟩, ⟨#[37, 52, 103]⟩, ⟨#[37, 103, 52]⟩, ⟨#[37, 37, 52, 49]⟩, ⟨#[97, 98, 37, 50]⟩]
theorem build_p (a b : ByteArray) (w : World) : (Instr.build 22 #[(0, .string a), (1, .string b)]).run Try.prog w = .ok (.agg #[.string a, .string b]) w := by kernel_rfl
theorem build_12 (w : World) : (Instr.buildSlice 23 12 #[(0, .agg #[.string ⟨#[]⟩, .string ⟨#[]⟩]), (1, .agg #[.string ⟨#[97, 98, 99]⟩, .string ⟨#[97, 98, 99]⟩]), (2, .agg #[.string ⟨#[97, 32, 98]⟩, .string ⟨#[97, 37, 50, 48, 98]⟩]), (3, .agg #[.string ⟨#[195, 169]⟩, .string ⟨#[37, 67, 51, 37, 65, 57]⟩]), (4, .agg #[.string ⟨#[226, 130, 172]⟩, .string ⟨#[37, 69, 50, 37, 56, 50, 37, 65, 67]⟩]), (5, .agg #[.string ⟨#[255]⟩, .string ⟨#[37, 69, 70, 37, 66, 70, 37, 66, 68]⟩]), (6, .agg #[.string ⟨#[37, 52, 49]⟩, .string ⟨#[37, 52, 49]⟩]), (7, .agg #[.string ⟨#[34, 60, 62, 35, 63, 123, 125]⟩, .string ⟨#[37, 50, 50, 37, 51, 67, 37, 51, 69, 37, 50, 51, 37, 51, 70, 37, 55, 66, 37, 55, 68]⟩]), (8, .agg #[.string ⟨#[97, 47, 98, 58, 99, 64, 100, 33, 36, 38, 39, 40, 41, 42, 43, 44, 59, 61, 45, 46, 95, 126, 124, 94, 91, 93, 92]⟩, .string ⟨#[97, 47, 98, 58, 99, 64, 100, 33, 36, 38, 39, 40, 41, 42, 43, 44, 59, 61, 45, 46, 95, 126, 124, 94, 91, 93, 92]⟩]), (9, .agg #[.string ⟨#[0, 31, 127]⟩, .string ⟨#[37, 48, 48, 37, 49, 70, 37, 55, 70]⟩]), (10, .agg #[.string ⟨#[96]⟩, .string ⟨#[37, 54, 48]⟩]), (11, .agg #[.string ⟨#[240, 159, 152, 128]⟩, .string ⟨#[37, 70, 48, 37, 57, 70, 37, 57, 56, 37, 56, 48]⟩])]).run Try.prog w = .ok (.slice (some ⟨w.heap.size, 0, none⟩) 12 12) (w.alloc (.cells (pv fvE).toArray 22)) := by kernel_rfl
theorem build_3 (w : World) : (Instr.buildSlice 23 3 #[(0, .agg #[.string ⟨#[37, 52, 49, 37, 54, 97, 37, 54, 65]⟩, .string ⟨#[65, 106, 106]⟩]), (1, .agg #[.string ⟨#[97, 43, 98]⟩, .string ⟨#[97, 43, 98]⟩]), (2, .agg #[.string ⟨#[37, 99, 51, 37, 65, 57]⟩, .string ⟨#[195, 169]⟩])]).run Try.prog w = .ok (.slice (some ⟨w.heap.size, 0, none⟩) 3 3) (w.alloc (.cells (pv fvD).toArray 22)) := by kernel_rfl
theorem build_7 (w : World) : (Instr.buildSlice 27 7 #[(0, .string ⟨#[37]⟩), (1, .string ⟨#[37, 52]⟩), (2, .string ⟨#[97, 37]⟩), (3, .string ⟨#[37, 52, 103]⟩), (4, .string ⟨#[37, 103, 52]⟩), (5, .string ⟨#[37, 37, 52, 49]⟩), (6, .string ⟨#[97, 98, 37, 50]⟩)]).run Try.prog w = .ok (.slice (some ⟨w.heap.size, 0, none⟩) 7 7) (w.alloc (.cells (fvB.map Value.string).toArray 9)) := by kernel_rfl
theorem alloc_p (w : World) : (Instr.alloc 22 true (.tuple #[])).run Try.prog w = .ok (.pointer (some ⟨w.heap.size, 0, none⟩)) (w.alloc (.cells [Value.string ⟨#[]⟩, Value.string ⟨#[]⟩].toArray 22)) := by kernel_rfl
theorem p_size : (Try.prog.info? 22).map (·.size) = some 2 := by kernel_rfl
theorem one_p (a b : ByteArray) : ∀ v ∈ [Value.string a, Value.string b], v.oneCell' = true := by
  intro v hv; simp at hv; rcases hv with rfl | rfl <;> rfl
theorem rowE (k : Nat) (hk : k < 12) : ∃ a b : ByteArray, ((pv fvE).drop (k * 2)).take 2 = [Value.string a, Value.string b] ∧ strOfNums (pctE (sb a)) = b ∧ a.size ≤ 80000000 := by
  match k, hk with
  | 0, _ => exact ⟨_, _, rfl, by decide +kernel, by decide +kernel⟩
  | 1, _ => exact ⟨_, _, rfl, by decide +kernel, by decide +kernel⟩
  | 2, _ => exact ⟨_, _, rfl, by decide +kernel, by decide +kernel⟩
  | 3, _ => exact ⟨_, _, rfl, by decide +kernel, by decide +kernel⟩
  | 4, _ => exact ⟨_, _, rfl, by decide +kernel, by decide +kernel⟩
  | 5, _ => exact ⟨_, _, rfl, by decide +kernel, by decide +kernel⟩
  | 6, _ => exact ⟨_, _, rfl, by decide +kernel, by decide +kernel⟩
  | 7, _ => exact ⟨_, _, rfl, by decide +kernel, by decide +kernel⟩
  | 8, _ => exact ⟨_, _, rfl, by decide +kernel, by decide +kernel⟩
  | 9, _ => exact ⟨_, _, rfl, by decide +kernel, by decide +kernel⟩
  | 10, _ => exact ⟨_, _, rfl, by decide +kernel, by decide +kernel⟩
  | 11, _ => exact ⟨_, _, rfl, by decide +kernel, by decide +kernel⟩
theorem rowD (k : Nat) (hk : k < 3) : ∃ a b : ByteArray, ((pv fvD).drop (k * 2)).take 2 = [Value.string a, Value.string b] ∧ strOfNums ((unp (sb a)).getD []) = b ∧ (unp (sb a)).isSome = true ∧ a.size ≤ 1000000000 := by
  match k, hk with
  | 0, _ => exact ⟨_, _, rfl, by decide +kernel, by decide +kernel, by decide +kernel⟩
  | 1, _ => exact ⟨_, _, rfl, by decide +kernel, by decide +kernel, by decide +kernel⟩
  | 2, _ => exact ⟨_, _, rfl, by decide +kernel, by decide +kernel, by decide +kernel⟩
theorem rowB (k : Nat) (hk : k < 7) : ∃ a : ByteArray, (fvB.map Value.string)[k]? = some (Value.string a) ∧ unp (sb a) = none ∧ a.size ≤ 1000000000 := by
  match k, hk with
  | 0, _ => exact ⟨_, rfl, by decide +kernel, by decide +kernel⟩
  | 1, _ => exact ⟨_, rfl, by decide +kernel, by decide +kernel⟩
  | 2, _ => exact ⟨_, rfl, by decide +kernel, by decide +kernel⟩
  | 3, _ => exact ⟨_, rfl, by decide +kernel, by decide +kernel⟩
  | 4, _ => exact ⟨_, rfl, by decide +kernel, by decide +kernel⟩
  | 5, _ => exact ⟨_, rfl, by decide +kernel, by decide +kernel⟩
  | 6, _ => exact ⟨_, rfl, by decide +kernel, by decide +kernel⟩
set_option maxRecDepth 100000 in
set_option maxHeartbeats 8000000 in
theorem pctForms_walk (a0 : Int) (_ : (Lit.int .i64 a0).wf = true) (W : World) : Calls Try.prog 3 #[.int .i64 a0] W (Yes W) := by
  have HO := Lib.hid (Own.start W)
  go_enter Try.func3, Try.ntmps3
  go_wp2_with fail
  have HO1 := Lib.hid (HO.out.alloc (.cells (pv fvE).toArray 22))
  clear HO
  go_loopw [26] (fun t w' => ∃ k : Nat, k ≤ 12 ∧ t = .int .i64 k ∧ Hid (Own W w' [(W.heap.size, .cells (pv fvE).toArray 22)])) (fun t _ => 12 - (intOf t).toNat)
  case atStart => exact ⟨0, by omega, rfl, HO1.out⟩
  case round =>
    obtain ⟨k, hk, rfl, HO2⟩ := hrel
    clear HO1
    by_cases hlt : k < 12
    · obtain ⟨a, b, hrow, hab, has⟩ := rowE k hlt
      have HROW := Lib.hid hrow; have HAB := Lib.hid hab; have HAS := Lib.hid has
      clear hrow hab has
      have hk12 : (k : Int) < 12 := by omega
      go_wp2_with (first | (refine wl_load rfl _ _ rfl W.heap.size (k * 2) (pv fvE) [Value.string a, Value.string b] _ (HO2.out.heap (.head _)) (by rfl) _ Try.underlying22 rfl p_size HROW.out ?_) | (refine wl_alloc rfl _ rfl HO2.out _ (alloc_p _) ?_; intro g8 w11 hO11; have HO11 := Lib.hid hO11; clear hO11 HO2) | (refine wl_store rfl _ _ _ rfl HO11.out 0 g8 0 _ [Value.string a, Value.string b] _ rfl (by rfl) (by rfl) p_size (one_p _ _) (by simp) ?_; intro w12 hO12; have HO12 := Lib.hid (hO12.cast (L' := [(g8, .cells [Value.string a, Value.string b].toArray 22), (W.heap.size, .cells (pv fvE).toArray 22)]) rfl); clear hO12 HO11))
      simp only [Act.put, List.setIfInBounds_toArray, List.set_cons_zero, List.set_cons_succ]
      have hc0 : ∀ w', Own W w' [(g8, .cells [Value.string a, Value.string b].toArray 22), (W.heap.size, .cells (pv fvE).toArray 22)] → w'.cell? ⟨g8, 0, none⟩ = some (.string a) ∧ w'.cell? ⟨g8, 1, none⟩ = some (.string b) := fun w' h => ⟨by rw [h.cell (.head _)]; rfl, by rw [h.cell (.head _)]; rfl⟩
      have HC0 := Lib.hid hc0
      clear hc0
      refine wp_region_lin (fun w' => w'.cell? ⟨g8, 0, none⟩ = some (.string a) ∧ w'.cell? ⟨g8, 1, none⟩ = some (.string b)) 6 [(0, true), (1, true), (3, true), (4, true), (2, false), (5, true)] (by kernel_rfl) (by kernel_rfl) (fun _ _ d _ _ h => by cases d <;> exact h) (HC0.out _ HO12.out.drew) ?_
      simp only [List.map_cons, List.map_nil, pick_zero, pick_succ, List.drop_succ_cons, List.drop_zero]
      iterate 4 (refine lin_q ?_ rfl ?_ ?_; rotate_left 1; (focus (rintro w' ⟨hx0, hx1⟩; go_simp; first | done | with_reducible rfl | (trace_state; fail))); simp only [Act.put, List.setIfInBounds_toArray, List.set_cons_zero, List.set_cons_succ])
      refine lin_act ?_
      have hcall := encode_c HO12.out.drew a HAS.out
      rw [HAB.out] at hcall
      refine wl_call rfl _ _ _ (by go_simp) hcall ?_
      clear hcall
      rintro e w13 ⟨rfl, hO⟩
      refine ⟨_, rfl, LinPost.mk (HC0.out _ hO) ?_⟩
      have HO13 := Lib.hid hO.tail; clear hO HO12
      simp only [Act.put, List.setIfInBounds_toArray, List.set_cons_zero, List.set_cons_succ]
      iterate 1 (refine lin_q ?_ rfl ?_ ?_; rotate_left 1; (focus (rintro w' -; go_simp; first | done | with_reducible rfl | (trace_state; fail))); simp only [Act.put, List.setIfInBounds_toArray, List.set_cons_zero, List.set_cons_succ])
      refine lin_nil ?_
      go_wp2
      go_roundw
      case rel => exact ⟨k + 1, by omega, by go_num, HO13.out⟩
      case measure => simp [intOf]; omega
    · have hk12 : ¬ ((k : Int) < 12) := by omega
      have HO3 := Lib.hid HO2.out.tail
      clear HO2
      go_wp2_with fail
      have hO4 : ∃ w4 g4, w4 = wr.alloc (.cells (pv fvD).toArray 22) ∧ g4 = wr.heap.size ∧ Own W w4 [(g4, .cells (pv fvD).toArray 22)] := ⟨_, _, rfl, rfl, HO3.out.alloc _⟩
      have HO4 := Lib.hid (HO3.out.alloc (.cells (pv fvD).toArray 22))
      clear HO3 hO4
      go_loopw [42] (fun t w' => ∃ k : Nat, k ≤ 3 ∧ t = .int .i64 k ∧ Hid (Own W w' [(wr.heap.size, .cells (pv fvD).toArray 22)])) (fun t _ => 3 - (intOf t).toNat)
      case atStart => exact ⟨0, by omega, rfl, HO4.out⟩
      case round =>
        obtain ⟨q, hq, rfl, HO5⟩ := hrel
        clear HO4
        by_cases hlt3 : q < 3
        · obtain ⟨a, b, hrow, hab, hok, has⟩ := rowD q hlt3
          have HROW := Lib.hid hrow; have HAB := Lib.hid hab; have HAS := Lib.hid has; have HOK := Lib.hid hok
          clear hrow hab has hok
          have hq3 : (q : Int) < 3 := by omega
          go_wp2_with (first | (refine wl_load rfl _ _ rfl _ (q * 2) (pv fvD) [Value.string a, Value.string b] _ (HO5.out.heap (.head _)) (by rfl) _ Try.underlying22 rfl p_size HROW.out ?_) | (refine wl_alloc rfl _ rfl HO5.out _ (alloc_p _) ?_; intro g8 w11 hO11; have HO11 := Lib.hid hO11; clear hO11 HO5) | (refine wl_store rfl _ _ _ rfl HO11.out 0 g8 0 _ [Value.string a, Value.string b] _ rfl (by rfl) (by rfl) p_size (one_p _ _) (by simp) ?_; intro w12 hO12; have HO12 := Lib.hid (hO12.cast (L' := [(g8, .cells [Value.string a, Value.string b].toArray 22), (_, .cells (pv fvD).toArray 22)]) rfl); have hc0 : w12.cell? ⟨g8, 0, none⟩ = some (.string a) := (by rw [HO12.out.cell (.head _)]; rfl); clear hO12 HO11))
          have hcall := decode_c HO12.out a HAS.out
          rw [HAB.out, HOK.out] at hcall
          with_reducible refine hcall.mono ?_
          clear hcall
          rintro en w13 ⟨rfl, hO⟩
          have hc1 : w13.cell? ⟨g8, 1, none⟩ = some (.string b) := by rw [hO.cell (.head _)]; rfl
          have HO13 := Lib.hid hO.tail; clear hO HO12
          go_wp2
          go_roundw
          case rel => exact ⟨q + 1, by omega, by go_num, HO13.out⟩
          case measure => simp [intOf]; omega
        · have hq3 : ¬ ((q : Int) < 3) := by omega
          have HO6 := Lib.hid HO5.out.tail
          clear HO5
          have hj : (a0 % 7).toNat < 7 := by omega
          obtain ⟨a, hrow, hno, has⟩ := rowB (a0 % 7).toNat hj
          generalize hjj : (a0 % 7).toNat = j at *
          go_wp2_with fail
          generalize hwx : wr.alloc _ = wx
          have hO7 : Own W wx [(wr.heap.size, .cells (fvB.map Value.string).toArray 9)] := by rw [← hwx]; exact HO6.out.alloc (.cells (fvB.map Value.string).toArray 9)
          have HO7 := Lib.hid hO7
          clear hwx hO7
          have hwn := within_n (w := wx) a0 7 (by omega) (by omega)
          rw [hjj] at hwn
          with_reducible refine hwn.mono ?_
          rintro en w20 ⟨rfl, hww⟩
          have hc7 : w20.cell? ⟨wr.heap.size, j, none⟩ = some (.string a) := by rw [← hww, HO7.out.cell (.head _), List.getElem?_toArray]; exact hrow
          have HO8 := Lib.hid (by rw [← hww]; exact HO7.out : Own W w20 [(wr.heap.size, .cells (fvB.map Value.string).toArray 9)])
          have hj7 : (j : Int) < 7 := by omega
          clear hww hwn HO7 HO6 hrow hjj
          go_wp2_with fail
          have hcall := decode_c HO8.out a has
          rw [hno] at hcall
          with_reducible refine hcall.mono ?_
          clear hcall
          rintro en w21 ⟨rfl, hO⟩
          have HO9 := Lib.hid hO; clear hO HO8 hc7
          simp only [Option.getD_none, Option.isSome_none, str_nil]
          go_wp2_with fail
          have hcall := lower_c HO9.out ⟨#[65, 98, 90, 91, 64, 195, 169, 49]⟩ (by decide +kernel)
          rw [show strOfNums (lowL (sb ⟨#[65, 98, 90, 91, 64, 195, 169, 49]⟩)) = ⟨#[97, 98, 122, 91, 64, 195, 169, 49]⟩ by decide +kernel] at hcall
          with_reducible refine hcall.mono ?_
          clear hcall
          rintro en w22 ⟨rfl, hO⟩
          have HO10 := Lib.hid hO; clear hO HO9
          go_wp2_with fail
          have hcall := trim_c HO10.out ⟨#[32, 9, 10, 32, 97, 32, 98, 32, 0, 32]⟩ (by decide +kernel)
          rw [show strOfNums (trimI (sb ⟨#[32, 9, 10, 32, 97, 32, 98, 32, 0, 32]⟩)) = ⟨#[97, 32, 98]⟩ by decide +kernel] at hcall
          with_reducible refine hcall.mono ?_
          clear hcall
          rintro en w23 ⟨rfl, hO⟩
          have HO11 := Lib.hid hO; clear hO HO10
          go_wp2_with fail
          have hcall := trim_c HO11.out ⟨#[32, 32]⟩ (by decide +kernel)
          rw [show strOfNums (trimI (sb ⟨#[32, 32]⟩)) = ⟨#[]⟩ by decide +kernel] at hcall
          with_reducible refine hcall.mono ?_
          clear hcall
          rintro en w24 ⟨rfl, hO⟩
          have HO12 := Lib.hid hO; clear hO HO11
          go_wp2_with fail
          have hcall := wakes6_c HO12.out
          with_reducible refine hcall.mono ?_
          clear hcall
          rintro en w25 ⟨rfl, hO⟩
          have HO13 := Lib.hid hO; clear hO HO12
          go_wp2
          go_ret
          exact HO13.out.yes rfl
set_option maxRecDepth 100000 in
theorem pctForms_lifted (os : Os) (started : os.Started) (H : Type) (enc : TypeId × Value → H) :
    ReturnsInHanded {} Try.checked os 3 .any (Rows.pctFormsSpec.pre6 enc Try.prog Try.f3 Rows.pctFormsRow.domain false) (Rows.pctFormsSpec.post enc Try.prog Try.f3 false true false false) := by
  refine returnsInHanded_of_change (C := Try.checked) (by kernel_rfl) started (by kernel_rfl) Try.func3
    (ChangeSpec.witness6 (enc := enc) (C := Try.checked) false ⟨#[], #[.int .i64 0], []⟩ 8 (by kernel_rfl) (by kernel_rfl) (by kernel_rfl) (by kernel_rfl)) ?_
  intro W base args ds gs before hval0 hW hcnd _
  have hval : ∀ (j : Nat) t v, Try.f3.params[j]? = some t → args[j]? = some v → Value.okWide Try.prog W .any base t v := hval0
  have hW' := hW
  obtain ⟨p, q, hA0, hV, rfl, hfz, hnd⟩ := hW
  have hA : DataW.TrodAll enc Try.prog W 0 (fun _ => true) true Try.f3.params.toList args.toList ds p := hA0
  rw [Try.params3] at hA hval
  obtain ⟨v0, vs0, d0, ds0, p0, q0, hargs, rfl, rfl, h0, r0⟩ := trodAll_cons hA
  obtain ⟨rfl, rfl, rfl⟩ := trodAll_nil r0
  obtain rfl : args = #[v0] := by cases args; simp_all
  obtain ⟨rfl, rfl⟩ := trodVars_none hV
  obtain ⟨a0, rfl, rfl, rfl, w0⟩ := open_int Try.underlying3 (hval 0 3 v0 rfl rfl) h0
  clear hA0 hval0
  refine (pctForms_walk a0 w0 W).mono fun e W' ⟨he, bel⟩ => ?_
  subst he
  exact ⟨_, rfl, _, _, _, [], _, [], hW', trodAll_mk1 (shut_bool Try.underlying4 _), (trodAll_cons_mk (shut_int Try.underlying3 w0) trodAll_mk0), rfl, bel.frame _, fun h => by cases h⟩

/-- The statement. -/
theorem pctForms_proved : Rows.PctFormsSaid :=
  OpenClaim.holds_of_wide 3 Try.f3 rfl rfl rfl rfl rfl rfl rfl ⟨rfl, rfl, rfl, rfl, rfl⟩ rfl rfl rfl rfl rfl (by kernel_rfl) Try.func3 (by kernel_rfl)
    (of_decide_eq_true (by kernel_rfl)) (by unfold Func.isWrapper; first | (rw [if_pos (by decide +kernel)]; kernel_rfl) | (rw [if_neg (by decide +kernel)]; exact ⟨rfl, rfl⟩))
    (fun os started H enc _ => pctForms_lifted os started H enc)
end Go.Proofs.Ythhijngddlmkpaa
