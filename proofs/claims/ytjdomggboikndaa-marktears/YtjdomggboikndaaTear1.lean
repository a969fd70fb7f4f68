/-
  Sectors kept whole, by half, or not at all, over one another: what stands there is one of them, or none.
-/
import Derived.Test.YtjdomggboikndaaMark6
import Derived.Test.YtjdomggboikndaaMapOps
namespace Go.Proofs.Ytjdomggboikndaa
set_option linter.unusedVariables false
set_option linter.unusedSimpArgs false
open Go.RowKit

structure Sec where
  e : Int
  s : Int
  q : Int
  b : List Int
def Sec.bytes (x : Sec) : List Int := sealed x.e x.s 0 x.q x.b
def Sec.Ok (x : Sec) : Prop := okSeal x.e x.s 0 x.q x.b.length = true ∧ 1 ≤ x.e ∧ Byt x.b
def zero32 : List Int := List.replicate 32 0
structure Torn (now : List Int) (ss : List Sec) : Prop where
  ok : ∀ x ∈ ss, x.Ok
  one : ∀ x ∈ ss, ∀ y ∈ ss, x.e = y.e → x.s = y.s → x = y
  half : ∃ a b, (a = zero32 ∨ ∃ x ∈ ss, a = x.bytes) ∧ (b = zero32 ∨ ∃ x ∈ ss, b = x.bytes) ∧ now = half2 a b
theorem Sec.Ok.len {x : Sec} (h : x.Ok) : x.bytes.length = 32 := length_sealed _ _ _ _ _ (okSeal_spec h.1).2.2.2.2.2.2.2
theorem Sec.Ok.byt {x : Sec} (h : x.Ok) : Byt x.bytes := byt_sealed h.1 h.2.2
theorem torn_start : Torn zero32 [] := ⟨by simp, by simp, zero32, zero32, .inl rfl, .inl rfl, rfl⟩
theorem half2_self (xs : List Int) : half2 xs xs = xs := by unfold half2; exact List.take_append_drop 16 xs
theorem zeroHalf_no {ys : List Int} (h : 1 ≤ ys.getD 30 0 * 256 + ys.getD 31 0) (h0 : 0 ≤ ys.getD 30 0) (h1 : 0 ≤ ys.getD 31 0) : isSeal (half2 zero32 ys) = false := by
  cases hs : isSeal (half2 zero32 ys)
  · rfl
  · exfalso
    have := isSeal_ends hs
    simp only [half2_get _ _ (show zero32.length = 32 from rfl), Nat.reduceLT, if_true, if_false] at this
    rw [show zero32.getD 0 0 = 0 from rfl, show zero32.getD 1 0 = 0 from rfl] at this
    omega
theorem Torn.whole {now : List Int} {ss : List Sec} (h : Torn now ss) (hs : isSeal now = true) : ∃ x ∈ ss, now = x.bytes := by
  obtain ⟨a, b, ha, hb, rfl⟩ := h.half
  rcases ha with rfl | ⟨x, hx, rfl⟩
  · rcases hb with rfl | ⟨y, hy, rfl⟩
    · rw [half2_self] at hs; exact absurd hs (by decide)
    · exfalso
      have hy' := h.ok y hy
      have he := sealed_ends y.e y.s 0 y.q y.b (okSeal_spec hy'.1).2.2.2.2.2.2.2
      have hsp := okSeal_spec hy'.1
      have h1 := hy'.2.1
      rw [zeroHalf_no (ys := y.bytes) (by unfold Sec.bytes; rw [he.2.2.2.1, he.2.2.2.2]; omega) (by unfold Sec.bytes; rw [he.2.2.2.1]; omega) (by unfold Sec.bytes; rw [he.2.2.2.2]; omega)] at hs
      cases hs
  · have hx' := h.ok x hx
    rcases hb with rfl | ⟨y, hy, rfl⟩
    · exfalso
      unfold Sec.bytes at hs
      rw [half0_no hx'.1 hx'.2.1 rfl rfl] at hs
      cases hs
    · have hy' := h.ok y hy
      by_cases hm : x.e = y.e ∧ x.s = y.s
      · obtain rfl := h.one x hx y hy hm.1 hm.2
        exact ⟨x, hx, half2_self _⟩
      · exfalso
        unfold Sec.bytes at hs
        rw [half2_no hx'.1 hy'.1 hm] at hs
        cases hs
theorem Torn.len {now : List Int} {ss : List Sec} (h : Torn now ss) : now.length = 32 := by
  obtain ⟨a, b, ha, hb, rfl⟩ := h.half
  refine half2_len _ _ ?_ ?_
  · rcases ha with rfl | ⟨x, hx, rfl⟩
    · rfl
    · exact (h.ok x hx).len
  · rcases hb with rfl | ⟨x, hx, rfl⟩
    · rfl
    · exact (h.ok x hx).len
theorem Torn.byt {now : List Int} {ss : List Sec} (h : Torn now ss) : Byt now := by
  obtain ⟨a, b, ha, hb, rfl⟩ := h.half
  have hz : Byt zero32 := fun x hx => by unfold zero32 at hx; rw [List.mem_replicate] at hx; omega
  refine byt_append (byt_take ?_ _) (byt_drop ?_ _)
  · rcases ha with rfl | ⟨x, hx, rfl⟩
    · exact hz
    · exact (h.ok x hx).byt
  · rcases hb with rfl | ⟨x, hx, rfl⟩
    · exact hz
    · exact (h.ok x hx).byt
theorem Torn.next {now : List Int} {ss : List Sec} (h : Torn now ss) (x : Sec) (hx : x.Ok) (hn : ∀ y ∈ ss, ¬ (x.e = y.e ∧ x.s = y.s)) (c : Nat) (hc : c = 0 ∨ c = 16 ∨ c = 32) : Torn (x.bytes.take c ++ now.drop c) (ss ++ [x]) := by
  refine ⟨?_, ?_, ?_⟩
  · intro y hy
    rcases List.mem_append.1 hy with hy | hy
    · exact h.ok y hy
    · rw [List.mem_singleton.1 hy]; exact hx
  · intro y hy z hz he hs
    rcases List.mem_append.1 hy with hy | hy
    · rcases List.mem_append.1 hz with hz | hz
      · exact h.one y hy z hz he hs
      · rw [List.mem_singleton.1 hz] at he hs ⊢; exact absurd ⟨he.symm, hs.symm⟩ (hn y hy)
    · rw [List.mem_singleton.1 hy] at he hs ⊢
      rcases List.mem_append.1 hz with hz | hz
      · exact absurd ⟨he, hs⟩ (hn z hz)
      · rw [List.mem_singleton.1 hz]
  · have hl := h.len
    have hxl := hx.len
    obtain ⟨a, b, ha, hb, rfl⟩ := h.half
    have up : ∀ {a : List Int}, (a = zero32 ∨ ∃ x ∈ ss, a = x.bytes) → (a = zero32 ∨ ∃ y ∈ ss ++ [x], a = y.bytes) := by
      rintro a (rfl | ⟨y, hy, rfl⟩)
      · exact .inl rfl
      · exact .inr ⟨y, List.mem_append_left _ hy, rfl⟩
    have hnew : x.bytes = zero32 ∨ ∃ y ∈ ss ++ [x], x.bytes = y.bytes := .inr ⟨x, by simp, rfl⟩
    have hal : a.length = 32 := by
      rcases ha with rfl | ⟨x, hx, rfl⟩
      · rfl
      · exact (h.ok x hx).len
    rcases hc with rfl | rfl | rfl
    · exact ⟨a, b, up ha, up hb, by simp⟩
    · refine ⟨x.bytes, b, hnew, up hb, ?_⟩
      unfold half2
      rw [List.drop_append, List.drop_of_length_le (by simp; omega)]
      simp [hal]
    · refine ⟨x.bytes, x.bytes, hnew, hnew, ?_⟩
      rw [half2_self, List.take_of_length_le (by omega), List.drop_of_length_le (by omega), List.append_nil]
end Go.Proofs.Ytjdomggboikndaa
