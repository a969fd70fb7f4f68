/-
  The walk of AskForms: requests by hand, byte by byte; those that may not be; texts that are none.
-/
import Derived.Test.YtlcolabblpikjaaDoorM13
namespace Go.Proofs.YtlcolabblpikjaaDoor
set_option linter.unusedVariables false
set_option linter.unusedSimpArgs false
set_option maxRecDepth 20000
open Go.RowKit

def formA : AL := ⟨[80, 79, 83, 84], [104, 116, 116, 112, 115, 58, 47, 47, 97, 46, 98, 58, 56, 47, 112, 63, 113], [([79, 114, 105, 103, 105, 110], [110, 117, 108, 108]), ([120, 32, 121], [])], [104, 101, 108, 108, 111, 13, 10]⟩
def formT : List Int := [80, 79, 83, 84, 32, 47, 112, 63, 113, 32, 72, 84, 84, 80, 47, 49, 46, 49, 13, 10, 72, 111, 115, 116, 58, 32, 97, 46, 98, 58, 56, 13, 10, 83, 99, 104, 101, 109, 101, 58, 32, 104, 116, 116, 112, 115, 13, 10, 79, 114, 105, 103, 105, 110, 58, 32, 110, 117, 108, 108, 13, 10, 120, 32, 121, 58, 32, 13, 10, 67, 111, 110, 116, 101, 110, 116, 45, 76, 101, 110, 103, 116, 104, 58, 32, 55, 13, 10, 13, 10, 104, 101, 108, 108, 111, 13, 10]
theorem formA_is : askP formA = some formT := by decide +kernel
def badA : List AL := [⟨[], [], [], []⟩, ⟨[71, 69, 84], [], [], []⟩, ⟨[71, 69, 84], [104, 116, 116, 112, 58, 47, 47, 97], [], []⟩, ⟨[71, 69, 84], [72, 84, 84, 80, 58, 47, 47, 97, 47], [], []⟩, ⟨[], [104, 116, 116, 112, 58, 47, 47, 97, 47], [], []⟩, ⟨[103, 101, 116], [104, 116, 116, 112, 58, 47, 47, 97, 47], [], []⟩, ⟨[65, 66, 67, 68, 69, 70, 71, 72, 73], [104, 116, 116, 112, 58, 47, 47, 97, 47], [], []⟩, ⟨[71, 69, 84], [104, 116, 116, 112, 58, 47, 47, 97, 47], [([97, 58, 98], [])], []⟩, ⟨[71, 69, 84], [104, 116, 116, 112, 58, 47, 47, 97, 47], [([], [])], []⟩, ⟨[71, 69, 84], [104, 116, 116, 112, 58, 47, 47, 97, 47], [([97], [32, 98])], []⟩, ⟨[71, 69, 84], [104, 116, 116, 112, 58, 47, 47, 97, 47], [([97], [98, 10])], []⟩]
theorem badA_none : ∀ a ∈ badA, askP a = none := by decide +kernel
def badT : List (List Int) := [[], [71, 69, 84, 32, 47, 32, 72, 84, 84, 80, 47, 49, 46, 49, 13, 10, 13, 10], [71, 69, 84, 32, 47, 32, 72, 84, 84, 80, 47, 49, 46, 49, 13, 10, 72, 111, 115, 116, 58, 32, 97, 13, 10, 13, 10], [71, 69, 84, 32, 47, 32, 72, 84, 84, 80, 47, 49, 46, 49, 13, 10, 72, 111, 115, 116, 58, 32, 97, 13, 10, 83, 99, 104, 101, 109, 101, 58, 32, 104, 116, 116, 112, 13, 10], [71, 69, 84, 32, 47, 32, 72, 84, 84, 80, 47, 49, 46, 48, 13, 10, 72, 111, 115, 116, 58, 32, 97, 13, 10, 83, 99, 104, 101, 109, 101, 58, 32, 104, 116, 116, 112, 13, 10, 13, 10], [71, 69, 84, 32, 32, 72, 84, 84, 80, 47, 49, 46, 49, 13, 10, 72, 111, 115, 116, 58, 32, 97, 13, 10, 83, 99, 104, 101, 109, 101, 58, 32, 104, 116, 116, 112, 13, 10, 13, 10], [71, 69, 84, 32, 47, 32, 72, 84, 84, 80, 47, 49, 46, 49, 13, 10, 72, 111, 115, 116, 58, 32, 65, 13, 10, 83, 99, 104, 101, 109, 101, 58, 32, 104, 116, 116, 112, 13, 10, 13, 10], [71, 69, 84, 32, 47, 32, 72, 84, 84, 80, 47, 49, 46, 49, 13, 10, 72, 111, 115, 116, 58, 32, 97, 58, 56, 48, 13, 10, 83, 99, 104, 101, 109, 101, 58, 32, 104, 116, 116, 112, 13, 10, 13, 10], [71, 69, 84, 32, 47, 32, 72, 84, 84, 80, 47, 49, 46, 49, 13, 10, 72, 111, 115, 116, 58, 32, 97, 13, 10, 83, 99, 104, 101, 109, 101, 58, 32, 102, 116, 112, 13, 10, 13, 10], [71, 69, 84, 32, 47, 32, 72, 84, 84, 80, 47, 49, 46, 49, 13, 10, 72, 111, 115, 116, 58, 32, 97, 13, 10, 83, 99, 104, 101, 109, 101, 58, 32, 104, 116, 116, 112, 13, 10, 13, 10, 98, 111, 100, 121], [71, 69, 84, 32, 47, 32, 72, 84, 84, 80, 47, 49, 46, 49, 13, 10, 72, 111, 115, 116, 58, 32, 97, 13, 10, 83, 99, 104, 101, 109, 101, 58, 32, 104, 116, 116, 112, 13, 10, 67, 111, 110, 116, 101, 110, 116, 45, 76, 101, 110, 103, 116, 104, 58, 32, 51, 13, 10, 13, 10, 98, 111, 100, 121], [71, 69, 84, 32, 47, 32, 72, 84, 84, 80, 47, 49, 46, 49, 13, 10, 72, 111, 115, 116, 58, 32, 97, 13, 10, 83, 99, 104, 101, 109, 101, 58, 32, 104, 116, 116, 112, 13, 10, 120, 58, 49, 13, 10, 13, 10], [71, 69, 84, 32, 47, 97, 47, 46, 46, 32, 72, 84, 84, 80, 47, 49, 46, 49, 13, 10, 72, 111, 115, 116, 58, 32, 97, 13, 10, 83, 99, 104, 101, 109, 101, 58, 32, 104, 116, 116, 112, 13, 10, 13, 10]]
set_option maxRecDepth 100000 in
theorem badT_none : ∀ t ∈ badT, askI t = none := by decide +kernel
def mA : ByteArray := ⟨#[80, 79, 83, 84]⟩
def uA : ByteArray := ⟨#[104, 116, 116, 112, 115, 58, 47, 47, 97, 46, 98, 58, 56, 47, 112, 63, 113]⟩
def bA : ByteArray := ⟨#[104, 101, 108, 108, 111, 13, 10]⟩
def hsA : HBL := [(⟨#[79, 114, 105, 103, 105, 110]⟩, ⟨#[110, 117, 108, 108]⟩), (⟨#[120, 32, 121]⟩, ⟨#[]⟩)]
theorem formA_al : aL mA uA hsA bA = formA := by kernel_rfl
theorem formA_ask : askP (aL mA uA hsA bA) = some formT := by rw [formA_al]; exact formA_is
theorem isHeads_two (g : Nat) (h k : ByteArray × ByteArray) : IsHeads (.slice (some ⟨g, 0, none⟩) 2 2) [h, k] [(g, .cells (hv [h, k]).toArray 23)] :=
  ⟨rfl, .inr ⟨g, 2, [], rfl, by simp [hv], by simp [hv, hv2], Nat.le_refl _, by simp [maxLen]⟩⟩
theorem isHeads_1 (g : Nat) (h : ByteArray × ByteArray) : IsHeads (.slice (some ⟨g, 0, none⟩) 1 1) [h] [(g, .cells (hv2 h).toArray 23)] :=
  ⟨rfl, .inr ⟨g, 1, [], rfl, by simp [hv], by simp [hv, hv2], Nat.le_refl _, by simp [maxLen]⟩⟩
def badR (ga gb gc gd : Nat) : List (ByteArray × ByteArray × Value) := [(⟨#[]⟩, ⟨#[]⟩, .slice none 0 0), (⟨#[71, 69, 84]⟩, ⟨#[]⟩, .slice none 0 0), (⟨#[71, 69, 84]⟩, ⟨#[104, 116, 116, 112, 58, 47, 47, 97]⟩, .slice none 0 0), (⟨#[71, 69, 84]⟩, ⟨#[72, 84, 84, 80, 58, 47, 47, 97, 47]⟩, .slice none 0 0), (⟨#[]⟩, ⟨#[104, 116, 116, 112, 58, 47, 47, 97, 47]⟩, .slice none 0 0), (⟨#[103, 101, 116]⟩, ⟨#[104, 116, 116, 112, 58, 47, 47, 97, 47]⟩, .slice none 0 0), (⟨#[65, 66, 67, 68, 69, 70, 71, 72, 73]⟩, ⟨#[104, 116, 116, 112, 58, 47, 47, 97, 47]⟩, .slice none 0 0), (⟨#[71, 69, 84]⟩, ⟨#[104, 116, 116, 112, 58, 47, 47, 97, 47]⟩, .slice (some ⟨ga, 0, none⟩) 1 1), (⟨#[71, 69, 84]⟩, ⟨#[104, 116, 116, 112, 58, 47, 47, 97, 47]⟩, .slice (some ⟨gb, 0, none⟩) 1 1), (⟨#[71, 69, 84]⟩, ⟨#[104, 116, 116, 112, 58, 47, 47, 97, 47]⟩, .slice (some ⟨gc, 0, none⟩) 1 1), (⟨#[71, 69, 84]⟩, ⟨#[104, 116, 116, 112, 58, 47, 47, 97, 47]⟩, .slice (some ⟨gd, 0, none⟩) 1 1)]
def rowsV (l : List (ByteArray × ByteArray × Value)) : List Value := l.flatMap fun r => av r.1 r.2.1 r.2.2 ⟨#[]⟩
theorem rowsV_at : ∀ (l : List (ByteArray × ByteArray × Value)) (i : Nat) (m u : ByteArray) (v : Value), l[i]? = some (m, u, v) → ((rowsV l).drop (i * 4)).take 4 = (av m u v ⟨#[]⟩)
  | [], _, _, _, _, h => by simp at h
  | r :: l, 0, m, u, v, h => by simp only [List.getElem?_cons_zero, Option.some.injEq] at h; subst h; simp [rowsV, av]
  | r :: l, i + 1, m, u, v, h => by
    rw [List.getElem?_cons_succ] at h
    have h2 := rowsV_at l i m u v h
    rw [show (i + 1) * 4 = i * 4 + 4 by omega]
    simpa [rowsV, av] using h2
theorem build_asks (w : World) (ga gb gc gd : Nat) : (Instr.buildSlice 33 11 #[(0, .agg #[.string ⟨#[]⟩, .string ⟨#[]⟩, .slice none 0 0, .string ⟨#[]⟩]), (1, .agg #[.string ⟨#[71, 69, 84]⟩, .string ⟨#[]⟩, .slice none 0 0, .string ⟨#[]⟩]), (2, .agg #[.string ⟨#[71, 69, 84]⟩, .string ⟨#[104, 116, 116, 112, 58, 47, 47, 97]⟩, .slice none 0 0, .string ⟨#[]⟩]), (3, .agg #[.string ⟨#[71, 69, 84]⟩, .string ⟨#[72, 84, 84, 80, 58, 47, 47, 97, 47]⟩, .slice none 0 0, .string ⟨#[]⟩]), (4, .agg #[.string ⟨#[]⟩, .string ⟨#[104, 116, 116, 112, 58, 47, 47, 97, 47]⟩, .slice none 0 0, .string ⟨#[]⟩]), (5, .agg #[.string ⟨#[103, 101, 116]⟩, .string ⟨#[104, 116, 116, 112, 58, 47, 47, 97, 47]⟩, .slice none 0 0, .string ⟨#[]⟩]), (6, .agg #[.string ⟨#[65, 66, 67, 68, 69, 70, 71, 72, 73]⟩, .string ⟨#[104, 116, 116, 112, 58, 47, 47, 97, 47]⟩, .slice none 0 0, .string ⟨#[]⟩]), (7, .agg #[.string ⟨#[71, 69, 84]⟩, .string ⟨#[104, 116, 116, 112, 58, 47, 47, 97, 47]⟩, .slice (some ⟨ga, 0, none⟩) 1 1, .string ⟨#[]⟩]), (8, .agg #[.string ⟨#[71, 69, 84]⟩, .string ⟨#[104, 116, 116, 112, 58, 47, 47, 97, 47]⟩, .slice (some ⟨gb, 0, none⟩) 1 1, .string ⟨#[]⟩]), (9, .agg #[.string ⟨#[71, 69, 84]⟩, .string ⟨#[104, 116, 116, 112, 58, 47, 47, 97, 47]⟩, .slice (some ⟨gc, 0, none⟩) 1 1, .string ⟨#[]⟩]), (10, .agg #[.string ⟨#[71, 69, 84]⟩, .string ⟨#[104, 116, 116, 112, 58, 47, 47, 97, 47]⟩, .slice (some ⟨gd, 0, none⟩) 1 1, .string ⟨#[]⟩])]).run Tryd.prog w = .ok (.slice (some ⟨w.heap.size, 0, none⟩) 11 11) (w.alloc (.cells (rowsV (badR ga gb gc gd)).toArray 26)) := by kernel_rfl
def badS : List ByteArray := [⟨#[]⟩, ⟨#[71, 69, 84, 32, 47, 32, 72, 84, 84, 80, 47, 49, 46, 49, 13, 10, 13, 10]⟩, ⟨#[71, 69, 84, 32, 47, 32, 72, 84, 84, 80, 47, 49, 46, 49, 13, 10, 72, 111, 115, 116, 58, 32, 97, 13, 10, 13, 10]⟩, ⟨#[71, 69, 84, 32, 47, 32, 72, 84, 84, 80, 47, 49, 46, 49, 13, 10, 72, 111, 115, 116, 58, 32, 97, 13, 10, 83, 99, 104, 101, 109, 101, 58, 32, 104, 116, 116, 112, 13, 10]⟩, ⟨#[71, 69, 84, 32, 47, 32, 72, 84, 84, 80, 47, 49, 46, 48, 13, 10, 72, 111, 115, 116, 58, 32, 97, 13, 10, 83, 99, 104, 101, 109, 101, 58, 32, 104, 116, 116, 112, 13, 10, 13, 10]⟩, ⟨#[71, 69, 84, 32, 32, 72, 84, 84, 80, 47, 49, 46, 49, 13, 10, 72, 111, 115, 116, 58, 32, 97, 13, 10, 83, 99, 104, 101, 109, 101, 58, 32, 104, 116, 116, 112, 13, 10, 13, 10]⟩, ⟨#[71, 69, 84, 32, 47, 32, 72, 84, 84, 80, 47, 49, 46, 49, 13, 10, 72, 111, 115, 116, 58, 32, 65, 13, 10, 83, 99, 104, 101, 109, 101, 58, 32, 104, 116, 116, 112, 13, 10, 13, 10]⟩, ⟨#[71, 69, 84, 32, 47, 32, 72, 84, 84, 80, 47, 49, 46, 49, 13, 10, 72, 111, 115, 116, 58, 32, 97, 58, 56, 48, 13, 10, 83, 99, 104, 101, 109, 101, 58, 32, 104, 116, 116, 112, 13, 10, 13, 10]⟩, ⟨#[71, 69, 84, 32, 47, 32, 72, 84, 84, 80, 47, 49, 46, 49, 13, 10, 72, 111, 115, 116, 58, 32, 97, 13, 10, 83, 99, 104, 101, 109, 101, 58, 32, 102, 116, 112, 13, 10, 13, 10]⟩, ⟨#[71, 69, 84, 32, 47, 32, 72, 84, 84, 80, 47, 49, 46, 49, 13, 10, 72, 111, 115, 116, 58, 32, 97, 13, 10, 83, 99, 104, 101, 109, 101, 58, 32, 104, 116, 116, 112, 13, 10, 13, 10, 98, 111, 100, 121]⟩, ⟨#[71, 69, 84, 32, 47, 32, 72, 84, 84, 80, 47, 49, 46, 49, 13, 10, 72, 111, 115, 116, 58, 32, 97, 13, 10, 83, 99, 104, 101, 109, 101, 58, 32, 104, 116, 116, 112, 13, 10, 67, 111, 110, 116, 101, 110, 116, 45, 76, 101, 110, 103, 116, 104, 58, 32, 51, 13, 10, 13, 10, 98, 111, 100, 121]⟩, ⟨#[71, 69, 84, 32, 47, 32, 72, 84, 84, 80, 47, 49, 46, 49, 13, 10, 72, 111, 115, 116, 58, 32, 97, 13, 10, 83, 99, 104, 101, 109, 101, 58, 32, 104, 116, 116, 112, 13, 10, 120, 58, 49, 13, 10, 13, 10]⟩, ⟨#[71, 69, 84, 32, 47, 97, 47, 46, 46, 32, 72, 84, 84, 80, 47, 49, 46, 49, 13, 10, 72, 111, 115, 116, 58, 32, 97, 13, 10, 83, 99, 104, 101, 109, 101, 58, 32, 104, 116, 116, 112, 13, 10, 13, 10]⟩]
theorem badS_none : ∀ y ∈ badS, askI (sb y) = none := fun y hy => badT_none _ ((by kernel_rfl : badS.map sb = badT) ▸ List.mem_map_of_mem hy)
theorem badS_size : ∀ y ∈ badS, y.size ≤ 1000 := by decide
theorem build_badS (w : World) : (Instr.buildSlice 34 13 #[(0, .string ⟨#[]⟩), (1, .string ⟨#[71, 69, 84, 32, 47, 32, 72, 84, 84, 80, 47, 49, 46, 49, 13, 10, 13, 10]⟩), (2, .string ⟨#[71, 69, 84, 32, 47, 32, 72, 84, 84, 80, 47, 49, 46, 49, 13, 10, 72, 111, 115, 116, 58, 32, 97, 13, 10, 13, 10]⟩), (3, .string ⟨#[71, 69, 84, 32, 47, 32, 72, 84, 84, 80, 47, 49, 46, 49, 13, 10, 72, 111, 115, 116, 58, 32, 97, 13, 10, 83, 99, 104, 101, 109, 101, 58, 32, 104, 116, 116, 112, 13, 10]⟩), (4, .string ⟨#[71, 69, 84, 32, 47, 32, 72, 84, 84, 80, 47, 49, 46, 48, 13, 10, 72, 111, 115, 116, 58, 32, 97, 13, 10, 83, 99, 104, 101, 109, 101, 58, 32, 104, 116, 116, 112, 13, 10, 13, 10]⟩), (5, .string ⟨#[71, 69, 84, 32, 32, 72, 84, 84, 80, 47, 49, 46, 49, 13, 10, 72, 111, 115, 116, 58, 32, 97, 13, 10, 83, 99, 104, 101, 109, 101, 58, 32, 104, 116, 116, 112, 13, 10, 13, 10]⟩), (6, .string ⟨#[71, 69, 84, 32, 47, 32, 72, 84, 84, 80, 47, 49, 46, 49, 13, 10, 72, 111, 115, 116, 58, 32, 65, 13, 10, 83, 99, 104, 101, 109, 101, 58, 32, 104, 116, 116, 112, 13, 10, 13, 10]⟩), (7, .string ⟨#[71, 69, 84, 32, 47, 32, 72, 84, 84, 80, 47, 49, 46, 49, 13, 10, 72, 111, 115, 116, 58, 32, 97, 58, 56, 48, 13, 10, 83, 99, 104, 101, 109, 101, 58, 32, 104, 116, 116, 112, 13, 10, 13, 10]⟩), (8, .string ⟨#[71, 69, 84, 32, 47, 32, 72, 84, 84, 80, 47, 49, 46, 49, 13, 10, 72, 111, 115, 116, 58, 32, 97, 13, 10, 83, 99, 104, 101, 109, 101, 58, 32, 102, 116, 112, 13, 10, 13, 10]⟩), (9, .string ⟨#[71, 69, 84, 32, 47, 32, 72, 84, 84, 80, 47, 49, 46, 49, 13, 10, 72, 111, 115, 116, 58, 32, 97, 13, 10, 83, 99, 104, 101, 109, 101, 58, 32, 104, 116, 116, 112, 13, 10, 13, 10, 98, 111, 100, 121]⟩), (10, .string ⟨#[71, 69, 84, 32, 47, 32, 72, 84, 84, 80, 47, 49, 46, 49, 13, 10, 72, 111, 115, 116, 58, 32, 97, 13, 10, 83, 99, 104, 101, 109, 101, 58, 32, 104, 116, 116, 112, 13, 10, 67, 111, 110, 116, 101, 110, 116, 45, 76, 101, 110, 103, 116, 104, 58, 32, 51, 13, 10, 13, 10, 98, 111, 100, 121]⟩), (11, .string ⟨#[71, 69, 84, 32, 47, 32, 72, 84, 84, 80, 47, 49, 46, 49, 13, 10, 72, 111, 115, 116, 58, 32, 97, 13, 10, 83, 99, 104, 101, 109, 101, 58, 32, 104, 116, 116, 112, 13, 10, 120, 58, 49, 13, 10, 13, 10]⟩), (12, .string ⟨#[71, 69, 84, 32, 47, 97, 47, 46, 46, 32, 72, 84, 84, 80, 47, 49, 46, 49, 13, 10, 72, 111, 115, 116, 58, 32, 97, 13, 10, 83, 99, 104, 101, 109, 101, 58, 32, 104, 116, 116, 112, 13, 10, 13, 10]⟩)]).run Tryd.prog w = .ok (.slice (some ⟨w.heap.size, 0, none⟩) 13 13) (w.alloc (.cells (badS.map Value.string).toArray 9)) := by kernel_rfl
theorem badR_none {W : World} (ga gb gc gd : Nat) (o : Obj) (ge : Nat) : ∀ (i : Nat) (m u : ByteArray) (v : Value), (badR ga gb gc gd)[i]? = some (m, u, v) →
    ∃ hs, HRd W ((ge, .cells (rowsV (badR ga gb gc gd)).toArray 26) :: (gd, .cells (hv2 (⟨#[97]⟩, ⟨#[98, 10]⟩)).toArray 23) :: (gc, .cells (hv2 (⟨#[97]⟩, ⟨#[32, 98]⟩)).toArray 23) :: (gb, .cells (hv2 (⟨#[]⟩, ⟨#[]⟩)).toArray 23) :: (ga, .cells (hv2 (⟨#[97, 58, 98]⟩, ⟨#[]⟩)).toArray 23) :: []) v hs ∧ askP (aL m u hs ⟨#[]⟩) = none ∧ m.size ≤ 100 ∧ u.size ≤ 100 ∧ (headsP (hl hs)).length ≤ 100 := by
  intro i m u v h
  have hnil : HRd W ((ge, .cells (rowsV (badR ga gb gc gd)).toArray 26) :: (gd, .cells (hv2 (⟨#[97]⟩, ⟨#[98, 10]⟩)).toArray 23) :: (gc, .cells (hv2 (⟨#[97]⟩, ⟨#[32, 98]⟩)).toArray 23) :: (gb, .cells (hv2 (⟨#[]⟩, ⟨#[]⟩)).toArray 23) :: (ga, .cells (hv2 (⟨#[97, 58, 98]⟩, ⟨#[]⟩)).toArray 23) :: []) (.slice none 0 0) [] := fun w L h => ⟨none, 0, 0, rfl, rfl, Nat.le_refl _, fun h => absurd h (by omega)⟩
  match i, h with
  | 0, h => simp only [badR, List.getElem?_cons_zero, List.getElem?_cons_succ, Option.some.injEq, Prod.mk.injEq] at h; obtain ⟨rfl, rfl, rfl⟩ := h; exact ⟨[], hnil, badA_none _ (List.mem_of_getElem? (i := 0) (by kernel_rfl)), by decide, by decide, by decide⟩
  | 1, h => simp only [badR, List.getElem?_cons_zero, List.getElem?_cons_succ, Option.some.injEq, Prod.mk.injEq] at h; obtain ⟨rfl, rfl, rfl⟩ := h; exact ⟨[], hnil, badA_none _ (List.mem_of_getElem? (i := 1) (by kernel_rfl)), by decide, by decide, by decide⟩
  | 2, h => simp only [badR, List.getElem?_cons_zero, List.getElem?_cons_succ, Option.some.injEq, Prod.mk.injEq] at h; obtain ⟨rfl, rfl, rfl⟩ := h; exact ⟨[], hnil, badA_none _ (List.mem_of_getElem? (i := 2) (by kernel_rfl)), by decide, by decide, by decide⟩
  | 3, h => simp only [badR, List.getElem?_cons_zero, List.getElem?_cons_succ, Option.some.injEq, Prod.mk.injEq] at h; obtain ⟨rfl, rfl, rfl⟩ := h; exact ⟨[], hnil, badA_none _ (List.mem_of_getElem? (i := 3) (by kernel_rfl)), by decide, by decide, by decide⟩
  | 4, h => simp only [badR, List.getElem?_cons_zero, List.getElem?_cons_succ, Option.some.injEq, Prod.mk.injEq] at h; obtain ⟨rfl, rfl, rfl⟩ := h; exact ⟨[], hnil, badA_none _ (List.mem_of_getElem? (i := 4) (by kernel_rfl)), by decide, by decide, by decide⟩
  | 5, h => simp only [badR, List.getElem?_cons_zero, List.getElem?_cons_succ, Option.some.injEq, Prod.mk.injEq] at h; obtain ⟨rfl, rfl, rfl⟩ := h; exact ⟨[], hnil, badA_none _ (List.mem_of_getElem? (i := 5) (by kernel_rfl)), by decide, by decide, by decide⟩
  | 6, h => simp only [badR, List.getElem?_cons_zero, List.getElem?_cons_succ, Option.some.injEq, Prod.mk.injEq] at h; obtain ⟨rfl, rfl, rfl⟩ := h; exact ⟨[], hnil, badA_none _ (List.mem_of_getElem? (i := 6) (by kernel_rfl)), by decide, by decide, by decide⟩
  | 7, h => simp only [badR, List.getElem?_cons_zero, List.getElem?_cons_succ, Option.some.injEq, Prod.mk.injEq] at h; obtain ⟨rfl, rfl, rfl⟩ := h; exact ⟨[(⟨#[97, 58, 98]⟩, ⟨#[]⟩)], (isHeads_1 ga _).hrd (.cons _ (.cons _ (.cons _ (.cons _ (.cons_cons _ (List.nil_sublist _)))))), badA_none _ (List.mem_of_getElem? (i := 7) (by kernel_rfl)), by decide, by decide, by decide⟩
  | 8, h => simp only [badR, List.getElem?_cons_zero, List.getElem?_cons_succ, Option.some.injEq, Prod.mk.injEq] at h; obtain ⟨rfl, rfl, rfl⟩ := h; exact ⟨[(⟨#[]⟩, ⟨#[]⟩)], (isHeads_1 gb _).hrd (.cons _ (.cons _ (.cons _ (.cons_cons _ (List.nil_sublist _))))), badA_none _ (List.mem_of_getElem? (i := 8) (by kernel_rfl)), by decide, by decide, by decide⟩
  | 9, h => simp only [badR, List.getElem?_cons_zero, List.getElem?_cons_succ, Option.some.injEq, Prod.mk.injEq] at h; obtain ⟨rfl, rfl, rfl⟩ := h; exact ⟨[(⟨#[97]⟩, ⟨#[32, 98]⟩)], (isHeads_1 gc _).hrd (.cons _ (.cons _ (.cons_cons _ (List.nil_sublist _)))), badA_none _ (List.mem_of_getElem? (i := 9) (by kernel_rfl)), by decide, by decide, by decide⟩
  | 10, h => simp only [badR, List.getElem?_cons_zero, List.getElem?_cons_succ, Option.some.injEq, Prod.mk.injEq] at h; obtain ⟨rfl, rfl, rfl⟩ := h; exact ⟨[(⟨#[97]⟩, ⟨#[98, 10]⟩)], (isHeads_1 gd _).hrd (.cons _ (.cons_cons _ (List.nil_sublist _))), badA_none _ (List.mem_of_getElem? (i := 10) (by kernel_rfl)), by decide, by decide, by decide⟩
  | i + 11, h => simp [badR] at h
set_option maxRecDepth 100000 in
set_option maxHeartbeats 16000000 in
theorem askForms_walk {W : World} (hV : VarsOk W) (n : Int) (wn : (Lit.int .i64 n).wf = true) :
    Calls Tryd.prog 3 #[.int .i64 n] W (Yes W) := by
  have HO := Lib.hid (Own.start W)
  have HVV := Lib.hid hV
  clear wn hV
  go_enter Tryd.func3, Tryd.ntmps3
  go_wp2_with (first | (refine wl_alloc rfl _ rfl (HO.out.alloc (.cells (hv hsA).toArray 23)) _ (alloc_ask _) ?_; intro g3 w1 hO; have HO1 := Lib.hid hO; clear hO HO) | (refine wl_store rfl _ _ _ rfl HO1.out 0 g3 0 _ (av mA uA (.slice (some ⟨W.heap.size, 0, none⟩) 2 2) bA) _ rfl (by rfl) (by rfl) ask_size (one_av rfl) (by simp [av]) ?_; intro w2 hO; have HO2 := Lib.hid (hO.cast (L' := (g3, .cells (av mA uA (.slice (some ⟨W.heap.size, 0, none⟩) 2 2) bA).toArray 26) :: (W.heap.size, .cells (hv hsA).toArray 23) :: []) rfl); clear hO HO1) | (refine wl_load rfl _ _ rfl g3 0 (av mA uA (.slice (some ⟨W.heap.size, 0, none⟩) 2 2) bA) (av mA uA (.slice (some ⟨W.heap.size, 0, none⟩) 2 2) bA) _ (HO2.out.heap (.head _)) (by rfl) _ Tryd.underlying26 rfl ask_size (by rfl) ?_))
  generalize W.heap.size = g17 at *
  have hTT : strOfNums formT = ⟨#[80, 79, 83, 84, 32, 47, 112, 63, 113, 32, 72, 84, 84, 80, 47, 49, 46, 49, 13, 10, 72, 111, 115, 116, 58, 32, 97, 46, 98, 58, 56, 13, 10, 83, 99, 104, 101, 109, 101, 58, 32, 104, 116, 116, 112, 115, 13, 10, 79, 114, 105, 103, 105, 110, 58, 32, 110, 117, 108, 108, 13, 10, 120, 32, 121, 58, 32, 13, 10, 67, 111, 110, 116, 101, 110, 116, 45, 76, 101, 110, 103, 116, 104, 58, 32, 55, 13, 10, 13, 10, 104, 101, 108, 108, 111, 13, 10]⟩ := by kernel_rfl
  have hr3 : HRd W ((g3, .cells (av mA uA (.slice (some ⟨g17, 0, none⟩) 2 2) bA).toArray 26) :: (g17, .cells (hv hsA).toArray 23) :: []) (.slice (some ⟨g17, 0, none⟩) 2 2) hsA := (isHeads_two g17 _ _).hrd (.cons _ (.cons_cons _ (List.nil_sublist _)))
  have hp := aprint_yes HVV.out HO2.out mA uA _ hsA hr3 bA (by decide) (by decide) (by decide) (by decide) formA_ask
  have hb := fun (w : World) (R : Blks) (hO : Own W w R) => aparse_back HVV.out hO formA_ask (by rw [hTT]; decide)
  rw [hTT] at hp hb
  generalize (⟨#[80, 79, 83, 84, 32, 47, 112, 63, 113, 32, 72, 84, 84, 80, 47, 49, 46, 49, 13, 10, 72, 111, 115, 116, 58, 32, 97, 46, 98, 58, 56, 13, 10, 83, 99, 104, 101, 109, 101, 58, 32, 104, 116, 116, 112, 115, 13, 10, 79, 114, 105, 103, 105, 110, 58, 32, 110, 117, 108, 108, 13, 10, 120, 32, 121, 58, 32, 13, 10, 67, 111, 110, 116, 101, 110, 116, 45, 76, 101, 110, 103, 116, 104, 58, 32, 55, 13, 10, 13, 10, 104, 101, 108, 108, 111, 13, 10]⟩ : ByteArray) = tA at *
  have HR3 := Lib.hid hr3; have HB := Lib.hid hb
  clear hTT hr3 hb
  with_reducible refine hp.mono ?_
  clear hp
  rintro e w3 ⟨rfl, hO⟩
  have HO3 := Lib.hid hO; clear hO HO2
  go_wp2_with fail
  with_reducible refine (HB.out _ _ HO3.out).mono ?_
  rintro e w4 ⟨A5, c5, L5, rfl, hi5, hO⟩
  have HO4 := Lib.hid hO
  have hlA : hsA.length = 2 := rfl
  rw [hlA] at hi5 ⊢
  have HI5 := Lib.hid hi5
  have e0 : (mA.toList == [80, 79, 83, 84]) = true := by decide +kernel
  have e1 : (uA.toList != uA.toList) = false := by simp
  clear hO HO3 HB hi5 hlA
  go_wp2_with (first | (refine wl_alloc rfl _ rfl HO4.out _ (alloc_ask _) ?_; intro g7 w5 hO; have HO5 := Lib.hid hO; clear hO HO4) | (refine wl_store rfl _ _ _ rfl HO5.out 0 g7 0 _ (av mA uA (.slice A5 2 c5) bA) _ rfl (by rfl) (by rfl) ask_size (one_av rfl) (by simp [av]) ?_; intro w6 hO; have HO6 := Lib.hid (hO.cast (L' := (g7, .cells (av mA uA (.slice A5 2 c5) bA).toArray 26) :: (L5 ++ ((g3, .cells (av mA uA (.slice (some ⟨g17, 0, none⟩) 2 2) bA).toArray 26) :: (g17, .cells (hv hsA).toArray 23) :: []))) rfl); clear hO HO5; have c0 : w6.cell? ⟨g7, 0, none⟩ = some (.string mA) := HO6.out.cell (.head _) 0; have c1 : w6.cell? ⟨g7, 1, none⟩ = some (.string uA) := HO6.out.cell (.head _) 1; have c2 : w6.cell? ⟨g7, 2, none⟩ = some (.slice A5 2 c5) := HO6.out.cell (.head _) 2; have d1 : w6.cell? ⟨g3, 1, none⟩ = some (.string uA) := HO6.out.cell (.tail _ (List.mem_append_right _ (.head _))) 1; have d2 : w6.cell? ⟨g3, 2, none⟩ = some (.slice (some ⟨g17, 0, none⟩) 2 2) := HO6.out.cell (.tail _ (List.mem_append_right _ (.head _))) 2))
  have hh : HRd W ((g7, .cells (av mA uA (.slice A5 2 c5) bA).toArray 26) :: (L5 ++ ((g3, .cells (av mA uA (.slice (some ⟨g17, 0, none⟩) 2 2) bA).toArray 26) :: (g17, .cells (hv hsA).toArray 23) :: []))) (.slice A5 2 c5) hsA := HI5.out.hrd (List.Sublist.cons _ (List.sublist_append_left _ _))
  have hs1 := hh w6 [] HO6.out
  clear hh
  have hs2 := HR3.out w6 ((g7, .cells (av mA uA (.slice A5 2 c5) bA).toArray 26) :: L5) HO6.out
  have hcall := sameH_c (w := w6) _ _ hsA hsA hs1 hs2 (by decide)
  rw [decide_eq_true (rfl : hsA = hsA)] at hcall
  with_reducible refine hcall.mono ?_
  clear hcall hs1 hs2 c0 c1 c2 d1 d2
  rintro e w7 ⟨rfl, qq, hww⟩
  have HO7 := Lib.hid (HO6.out.drewN qq); rw [← hww] at HO7; clear hww HO6 HR3 HI5
  have c3 : w7.cell? ⟨g7, 3, none⟩ = some (.string bA) := HO7.out.cell (.head _) 3
  have d3 : w7.cell? ⟨g3, 3, none⟩ = some (.string bA) := HO7.out.cell (.tail _ (List.mem_append_right _ (.head _))) 3
  have e3 : (bA.toList != bA.toList) = false := by simp
  have HOW : Hid (Own W w7 []) := Lib.hid (HO7.out.sub (List.nil_sublist _))
  clear HO7
  go_wp2_with (first | (refine wl_buildSlice rfl _ _ _ rfl HOW.out _ (by exact build_heads1 _ ⟨#[97, 58, 98]⟩ ⟨#[]⟩) ?_; intro ga wh0 hO; have HH0 := Lib.hid hO; clear hO HOW) | (refine wl_buildSlice rfl _ _ _ rfl HH0.out _ (by exact build_heads1 _ ⟨#[]⟩ ⟨#[]⟩) ?_; intro gb wh1 hO; have HH1 := Lib.hid hO; clear hO HH0) | (refine wl_buildSlice rfl _ _ _ rfl HH1.out _ (by exact build_heads1 _ ⟨#[97]⟩ ⟨#[32, 98]⟩) ?_; intro gc wh2 hO; have HH2 := Lib.hid hO; clear hO HH1) | (refine wl_buildSlice rfl _ _ _ rfl HH2.out _ (by exact build_heads1 _ ⟨#[97]⟩ ⟨#[98, 10]⟩) ?_; intro gd wh3 hO; have HH3 := Lib.hid hO; clear hO HH2) | (refine wl_buildSlice rfl _ _ _ rfl HH3.out _ (by exact build_asks _ ga gb gc gd) ?_; intro ge wh4 hO; have HH4 := Lib.hid hO; clear hO HH3))
  clear e0 e1 e3
  go_loopw [88] (fun t w' => ∃ i : Nat, i ≤ 11 ∧ t = .int .i64 i ∧ Hid (Own W w' ((ge, .cells (rowsV (badR ga gb gc gd)).toArray 26) :: (gd, .cells (hv2 (⟨#[97]⟩, ⟨#[98, 10]⟩)).toArray 23) :: (gc, .cells (hv2 (⟨#[97]⟩, ⟨#[32, 98]⟩)).toArray 23) :: (gb, .cells (hv2 (⟨#[]⟩, ⟨#[]⟩)).toArray 23) :: (ga, .cells (hv2 (⟨#[97, 58, 98]⟩, ⟨#[]⟩)).toArray 23) :: []))) (fun t _ => 11 - (intOf t).toNat)
  case atStart => exact ⟨0, by omega, rfl, HH4⟩
  case round =>
    obtain ⟨i, hi, rfl, HL⟩ := hrel
    clear HH4
    by_cases hi11 : i < 11
    · have hiI : (i : Int) < 11 := by omega
      obtain ⟨⟨m, u, v⟩, hr⟩ : ∃ r, (badR ga gb gc gd)[i]? = some r := ⟨_, List.getElem?_eq_getElem (by simpa [badR] using hi11)⟩
      obtain ⟨hs, hrd, hno, hm, hu, hhp⟩ := badR_none (W := W) ga gb gc gd (.cells #[] 0) ge i m u v hr
      obtain ⟨Av, kv, cv, rfl, _, _, _⟩ := hrd wr [] HL.out
      have hat := rowsV_at _ _ _ _ _ hr
      have HRR := Lib.hid hrd; have HNO := Lib.hid hno; have HMU : Hid (m.size ≤ 100 ∧ u.size ≤ 100 ∧ (headsP (hl hs)).length ≤ 100) := Lib.hid ⟨hm, hu, hhp⟩; have HAT := Lib.hid hat
      clear hr hrd hno hm hu hhp hat
      go_wp2_with (first | (refine wl_load rfl _ _ rfl ge (i * 4) (rowsV (badR ga gb gc gd)) (av m u (.slice Av kv cv) ⟨#[]⟩) _ (HL.out.heap (.head _)) (by rfl) _ Tryd.underlying26 rfl ask_size HAT.out ?_) | (refine wl_alloc rfl _ rfl HL.out _ (alloc_ask _) ?_; intro g10 w8 hO; have HO8 := Lib.hid hO; clear hO HL) | (refine wl_store rfl _ _ _ rfl HO8.out 0 g10 0 _ (av m u (.slice Av kv cv) ⟨#[]⟩) _ rfl (by rfl) (by rfl) ask_size (one_av rfl) (by simp [av]) ?_; intro w9 hO; have HO9 := Lib.hid (hO.cast (L' := (g10, .cells (av m u (.slice Av kv cv) ⟨#[]⟩).toArray 26) :: (ge, .cells (rowsV (badR ga gb gc gd)).toArray 26) :: (gd, .cells (hv2 (⟨#[97]⟩, ⟨#[98, 10]⟩)).toArray 23) :: (gc, .cells (hv2 (⟨#[97]⟩, ⟨#[32, 98]⟩)).toArray 23) :: (gb, .cells (hv2 (⟨#[]⟩, ⟨#[]⟩)).toArray 23) :: (ga, .cells (hv2 (⟨#[97, 58, 98]⟩, ⟨#[]⟩)).toArray 23) :: []) rfl); clear hO HO8) | (refine wl_load rfl _ _ rfl g10 0 (av m u (.slice Av kv cv) ⟨#[]⟩) (av m u (.slice Av kv cv) ⟨#[]⟩) _ (HO9.out.heap (.head _)) (by rfl) _ Tryd.underlying26 rfl ask_size (by rfl) ?_))
      have hr9 : HRd W ((g10, .cells (av m u (.slice Av kv cv) ⟨#[]⟩).toArray 26) :: (ge, .cells (rowsV (badR ga gb gc gd)).toArray 26) :: (gd, .cells (hv2 (⟨#[97]⟩, ⟨#[98, 10]⟩)).toArray 23) :: (gc, .cells (hv2 (⟨#[97]⟩, ⟨#[32, 98]⟩)).toArray 23) :: (gb, .cells (hv2 (⟨#[]⟩, ⟨#[]⟩)).toArray 23) :: (ga, .cells (hv2 (⟨#[97, 58, 98]⟩, ⟨#[]⟩)).toArray 23) :: []) (.slice Av kv cv) hs := fun w' L' hO => HRR.out w' (L' ++ [_]) (by rw [List.append_assoc]; exact hO)
      with_reducible refine (aprint_no HVV.out HO9.out m u _ hs hr9 ⟨#[]⟩ (by have := HMU.out; omega) (by have := HMU.out; omega) (by decide) (by have := HMU.out; omega) HNO.out).mono ?_
      clear hr9
      rintro e w10 ⟨rfl, hO⟩
      have HO10 := Lib.hid hO.tail; clear hO HO9
      go_wp2
      go_roundw
      case rel => exact ⟨i + 1, by omega, by go_num, HO10⟩
      case measure => simp [intOf]; omega
    · have hiI : ¬ (i : Int) < 11 := by omega
      have q := fun w : World => within_n (w := w) n 13 (by omega) (by omega)
      have hj : (n % 13).toNat < 13 := by omega
      generalize (n % 13).toNat = j at *
      obtain ⟨y, hy⟩ : ∃ y, badS[j]? = some y := ⟨_, List.getElem?_eq_getElem hj⟩
      have hyn := badS_none y (List.mem_of_getElem? hy)
      have hyz := badS_size y (List.mem_of_getElem? hy)
      have hpp := fun (w : World) (R : Blks) (hO : Own W w R) => aparse_c HVV.out hO y (by omega)
      rw [hyn] at hpp
      have HPP := Lib.hid hpp; have HQ := Lib.hid q; have HY := Lib.hid hy
      have hjI : (j : Int) < 13 := by omega
      clear hyn hyz hpp q hy hi hi11
      go_wp2_with (refine wl_buildSlice rfl _ _ _ rfl HL.out _ (by exact build_badS _) ?_; intro gs w8 hO; have HO8 := Lib.hid hO; clear hO HL)
      with_reducible refine (HQ.out _).mono ?_
      rintro e wq ⟨rfl, hww⟩
      subst hww
      have hc : w8.cell? ⟨gs, j, none⟩ = some (.string y) := (HO8.out.cell (.head _) j).trans (by simp [HY.out])
      clear HQ HY
      go_wp2_with fail
      with_reducible refine (HPP.out _ _ HO8.out).mono ?_
      rintro e w9 hg
      obtain ⟨A9, c9, rfl, hO⟩ := hg.no
      have HO9 := Lib.hid hO; clear hO hg HO8 hc HPP
      go_wp2_with (first | (refine wl_alloc rfl _ rfl HO9.out _ (alloc_ask _) ?_; intro g14 w10 hO; have HO10 := Lib.hid hO; clear hO HO9) | (refine wl_store rfl _ _ _ rfl HO10.out 0 g14 0 _ (av ⟨#[]⟩ ⟨#[]⟩ (.slice A9 0 c9) ⟨#[]⟩) _ rfl (by rfl) (by rfl) ask_size (one_av rfl) (by simp [av]) ?_; intro w11 hO; have HO11 := Lib.hid hO; have c0 : w11.cell? ⟨g14, 0, none⟩ = some (.string ⟨#[]⟩) := HO11.out.cell (.head _) 0; have c1 : w11.cell? ⟨g14, 1, none⟩ = some (.string ⟨#[]⟩) := HO11.out.cell (.head _) 1; have c2 : w11.cell? ⟨g14, 2, none⟩ = some (.slice A9 0 c9) := HO11.out.cell (.head _) 2; clear hO HO10))
      with_reducible refine (wakes10_c HVV.out HO11.out).mono ?_
      rintro e w12 ⟨rfl, hO⟩
      have HO12 := Lib.hid hO; clear hO HO11 c0 c1 c2
      go_wp2
      go_ret
      exact HO12.out.yes rfl
end Go.Proofs.YtlcolabblpikjaaDoor
