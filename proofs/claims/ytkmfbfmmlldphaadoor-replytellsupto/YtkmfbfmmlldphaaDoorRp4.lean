/-
  The statements' own makers of answers: head, Reply, Answer.
-/
import Derived.Test.YtkmfbfmmlldphaaDoorRp3
import Derived.Test.YtkmfbfmmlldphaaDoorConv
namespace Go.Proofs.YtkmfbfmmlldphaaDoor
set_option linter.unusedVariables false
set_option linter.unusedSimpArgs false
set_option maxRecDepth 20000
open Go.RowKit

def headTab (s : ByteArray) : HBL := [(⟨#[97, 108, 108, 111, 119, 45, 111, 114, 105, 103, 105, 110]⟩, ⟨#[42]⟩), (⟨#[65, 108, 108, 111, 119, 45, 79, 114, 105, 103, 105, 110]⟩, ⟨#[104, 116, 116, 112, 115, 58, 47, 47, 97, 46, 98]⟩), (⟨#[97, 108, 108, 111, 119, 45, 111, 114, 105, 103, 105, 110]⟩, ⟨#[110, 117, 108, 108]⟩), (⟨#[97, 108, 108, 111, 119, 45, 99, 114, 101, 100, 115]⟩, ⟨#[116, 114, 117, 101]⟩), (⟨#[97, 108, 108, 111, 119, 45, 109, 101, 116, 104, 111, 100, 115]⟩, ⟨#[112, 117, 116, 44, 32, 68, 69, 76, 69, 84, 69]⟩), (⟨#[97, 108, 108, 111, 119, 45, 109, 101, 116, 104, 111, 100, 115]⟩, ⟨#[42]⟩), (⟨#[97, 108, 108, 111, 119, 45, 104, 101, 97, 100, 115]⟩, ⟨#[120, 45, 111, 110, 101, 44, 44, 32, 67, 111, 110, 116, 101, 110, 116, 45, 116, 121, 112, 101]⟩), (⟨#[97, 108, 108, 111, 119, 45, 104, 101, 97, 100, 115]⟩, ⟨#[42]⟩), (⟨#[101, 116, 97, 103]⟩, ⟨#[34, 97, 34]⟩), (⟨#[69, 84, 97, 103]⟩, ⟨#[34, 98, 34]⟩), (⟨#[101, 116, 97, 103]⟩, ⟨#[87, 47, 34, 97, 34]⟩), (⟨#[114, 101, 116, 114, 121, 45, 97, 102, 116, 101, 114]⟩, ⟨#[53]⟩), (⟨#[114, 101, 116, 114, 121, 45, 97, 102, 116, 101, 114]⟩, ⟨#[57, 57]⟩), (⟨#[114, 101, 116, 114, 121, 45, 97, 102, 116, 101, 114]⟩, ⟨#[120]⟩), (⟨#[108, 111, 99, 97, 116, 105, 111, 110]⟩, ⟨#[104, 116, 116, 112, 115, 58, 47, 47, 99, 46, 100, 47, 112, 63, 113]⟩), (⟨#[108, 111, 99, 97, 116, 105, 111, 110]⟩, ⟨#[47, 120]⟩), (⟨#[108, 111, 99, 97, 116, 105, 111, 110]⟩, ⟨#[47, 47, 115, 46, 99, 46, 100, 47, 121]⟩), (⟨#[108, 111, 99, 97, 116, 105, 111, 110]⟩, ⟨#[104, 116, 116, 112, 58, 47, 47, 97, 46, 98, 47]⟩), (⟨#[108, 111, 99, 97, 116, 105, 111, 110]⟩, ⟨#[63]⟩), (⟨#[99, 111, 110, 116, 101, 110, 116, 45, 114, 97, 110, 103, 101]⟩, ⟨#[98, 121, 116, 101, 115, 32, 51, 45, 55, 47, 56]⟩), (⟨#[99, 111, 110, 116, 101, 110, 116, 45, 114, 97, 110, 103, 101]⟩, ⟨#[98, 121, 116, 101, 115, 32, 48, 45, 55, 47, 56]⟩), (⟨#[99, 111, 110, 116, 101, 110, 116, 45, 108, 101, 110, 103, 116, 104]⟩, ⟨#[53]⟩), (⟨#[99, 111, 110, 116, 101, 110, 116, 45, 108, 101, 110, 103, 116, 104]⟩, ⟨#[56]⟩), (⟨#[120]⟩, s)]
theorem headTab_len (s : ByteArray) : (headTab s).length = 24 := rfl
theorem headTab_size {s : ByteArray} (hs : s.size ≤ 40) : ∀ h ∈ headTab s, h.1.size ≤ 20 ∧ h.2.size ≤ 40 := by
  intro h hh
  simp only [headTab, List.mem_cons, List.not_mem_nil, or_false] at hh
  rcases hh with rfl | rfl | rfl | rfl | rfl | rfl | rfl | rfl | rfl | rfl | rfl | rfl | rfl | rfl | rfl | rfl | rfl | rfl | rfl | rfl | rfl | rfl | rfl | rfl
  all_goals first | decide | exact ⟨(by decide : (⟨#[120]⟩ : ByteArray).size ≤ 20), hs⟩
set_option maxRecDepth 100000 in
set_option maxHeartbeats 4000000 in
theorem phead_c {w0 w : World} {R : Blks} (hO : Own w0 w R) (n : Int) (s : ByteArray) (hs : s.size ≤ 40) :
    Calls Tryd.prog 35 #[.int .i64 n, .string s] w fun e w' => ∃ h : ByteArray × ByteArray, e = .returned (.agg #[.string h.1, .string h.2]) ∧ h.1.size ≤ 20 ∧ h.2.size ≤ 40 ∧ Own w0 w' R := by
  have HO := Lib.hid hO
  have q1 : ∀ w : World, _ := fun w => within_n (w := w) n 24 (by omega) (by omega)
  have hj : (n % 24).toNat < 24 := by omega
  generalize (n % 24).toNat = j at *
  obtain ⟨h, hh⟩ : ∃ h, (headTab s)[j]? = some h := ⟨_, List.getElem?_eq_getElem (by rw [headTab_len]; exact hj)⟩
  have HSZ := Lib.hid (headTab_size hs h (List.mem_of_getElem? hh))
  have HH := Lib.hid hh
  obtain ⟨x, y⟩ := h
  have Q1 := Lib.hid q1
  have hjI : (j : Int) < 24 := by omega
  clear q1 hh hO
  go_enter Tryd.func35, Tryd.ntmps35
  go_wp2_with (refine wl_alloc rfl _ rfl HO.out _ (alloc_head _) ?_; intro g4 w1 hO; have HO1 := Lib.hid hO; clear hO HO)
  generalize hwx : w1.alloc _ = w2
  have hO2 : Own w0 w2 ((w1.heap.size, .cells (hv (headTab s)).toArray 30) :: (g4, .cells (hv2 (⟨#[]⟩, ⟨#[]⟩)).toArray 30) :: R) := by rw [← hwx]; exact HO1.out.alloc _
  have HO2 := Lib.hid hO2
  clear hwx hO2 HO1
  generalize w1.heap.size = gl at *
  with_reducible refine (Q1.out _).mono ?_
  rintro e wq ⟨rfl, hww⟩
  subst hww
  have hcx : w2.cell? ⟨gl, j * 2, none⟩ = some (.string x) := by
    rw [HO2.out.cell (.head _)]; simpa using hv_at _ j _ HH.out 0 _ rfl
  have hcy : w2.cell? ⟨gl, j * 2 + 1, none⟩ = some (.string y) := by
    rw [HO2.out.cell (.head _)]; simpa using hv_at _ j _ HH.out 1 _ rfl
  go_wp2_with (refine wl_store rfl _ _ _ rfl HO2.out 1 g4 0 _ (hv2 (x, y)) _ rfl (by rfl) (by rfl) head_size (one_hv2 _) (by simp [hv2]) ?_; intro w3 hO; have HO3 := Lib.hid (hO.tail.cast (L' := (g4, .cells (hv2 (x, y)).toArray 30) :: R) rfl); clear hO HO2 hcx hcy)
  have hc0 : w3.cell? ⟨g4, 0, none⟩ = some (.string x) := HO3.out.cell (.head _) 0
  have hc1 : w3.cell? ⟨g4, 1, none⟩ = some (.string y) := HO3.out.cell (.head _) 1
  exact bodyPost_ret (v := .agg #[.string x, .string y]) (by simp [results, Tryd.results35, go_sem, hc0, hc1]) rfl ⟨(x, y), rfl, HSZ.out.1, HSZ.out.2, HO3.out.tail⟩
end Go.Proofs.YtkmfbfmmlldphaaDoor
