/-
  For URLTells: two URLs alike, the texts of numbers.
-/
import Derived.Test.YtakihnmajgmnpaaDoorL07a
import Derived.Deep.DeepCutAuto
import Derived.JoinedCond
namespace Go.Proofs.YtakihnmajgmnpaaDoor
set_option linter.unusedVariables false
set_option linter.unusedSimpArgs false
set_option maxRecDepth 20000
open Go.RowKit

theorem ne_url (W : World) (u : UL) : (binOp .neq 42 (.agg u.val.toArray) (.agg u.val.toArray)).run Tryd.prog W = .ok (.bool false) W := by
  obtain ⟨a, b, c, d, e⟩ := u
  simp only [UL.val]
  generalize strOfNums a = a'
  generalize strOfNums b = b'
  generalize strOfNums d = d'
  generalize strOfNums e = e'
  go_simp
theorem ne_urlg (W : World) (u : UL) (i j : Nat) : (eqGuard .neq 42 (.tmp i) (.tmp j) (.agg u.val.toArray) (.agg u.val.toArray)).run Tryd.prog W = .ok () W := by
  obtain ⟨a, b, c, d, e⟩ := u
  simp only [UL.val]
  generalize strOfNums a = a'
  generalize strOfNums b = b'
  generalize strOfNums d = d'
  generalize strOfNums e = e'
  go_simp
theorem mem_getD {α : Type} {l : List α} {P : α → Prop} (h : ∀ x ∈ l, P x) {d : α} (hd : P d) (k : Nat) : P (l.getD k d) := by
  rw [List.getD_eq_getElem?_getD]
  by_cases hk : k < l.length
  · rw [List.getElem?_eq_getElem hk]; exact h _ (List.getElem_mem hk)
  · rw [List.getElem?_eq_none (by omega)]; exact hd
theorem purls_size : ∀ x ∈ purls, x.size ≤ 60 := by decide +kernel
theorem purl_size (n : Int) : (purl n).size ≤ 60 := mem_getD purls_size (by decide) _
theorem podd_size (n : Int) (s : ByteArray) : (podd n s).size ≤ s.size + 60 := by
  unfold podd
  split
  · have := purl_size (n.tdiv 4); omega
  · refine mem_getD (P := fun x : ByteArray => x.size ≤ s.size + 60) ?_ (by show 0 ≤ _; omega) _
    intro x hx
    have h1 : podds s = (podds s).take 34 ++ [s, (⟨#[104, 116, 116, 112, 58, 47, 47, 97, 46, 98, 47]⟩ : ByteArray) ++ s, (⟨#[104, 116, 116, 112, 115, 58, 47, 47]⟩ : ByteArray) ++ s ++ (⟨#[47]⟩ : ByteArray), (⟨#[47]⟩ : ByteArray) ++ s] := rfl
    rw [h1] at hx
    rcases List.mem_append.1 hx with hx | hx
    · have h2 : ∀ x : ByteArray, x ∈ (podds ⟨#[]⟩).take 34 → x.size ≤ 60 := by decide +kernel
      have h3 : (podds s).take 34 = (podds ⟨#[]⟩).take 34 := rfl
      rw [h3] at hx
      have := h2 x hx
      omega
    · have e1 : (⟨#[104, 116, 116, 112, 58, 47, 47, 97, 46, 98, 47]⟩ : ByteArray).size = 11 := rfl
      have e2 : (⟨#[104, 116, 116, 112, 115, 58, 47, 47]⟩ : ByteArray).size = 8 := rfl
      have e3 : (⟨#[47]⟩ : ByteArray).size = 1 := rfl
      simp only [List.mem_cons, List.not_mem_nil, or_false] at hx
      rcases hx with rfl | rfl | rfl | rfl
      · omega
      · rw [ByteArray.size_append, e1]; omega
      · rw [ByteArray.size_append, ByteArray.size_append, e2, e3]; omega
      · rw [ByteArray.size_append, e3]; omega
theorem purl_parse (n : Int) : ∃ B, parseI (sb (purl n)) = some B ∧ B.Fine := by
  have h : ∀ x ∈ purls, (parseI (sb x)).isSome = true := by decide +kernel
  have h0 : (parseI (sb (purl n))).isSome = true := by
    have h1 : n % 12 < 12 := by omega
    have h2 : 0 ≤ n % 12 := by omega
    have hk : (n % 12).toNat < purls.length := by show _ < 12; omega
    unfold purl
    rw [List.getD_eq_getElem?_getD, List.getElem?_eq_getElem hk]
    exact h _ (List.getElem_mem hk)
  obtain ⟨B, hB⟩ := Option.isSome_iff_exists.1 h0
  exact ⟨B, hB, parseI_fine (byt_sb _) hB⟩
end Go.Proofs.YtakihnmajgmnpaaDoor
