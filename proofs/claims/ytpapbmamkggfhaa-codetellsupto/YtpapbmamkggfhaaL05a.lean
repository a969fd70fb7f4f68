/-
  What the laws of chapter 5 share: the values that Values makes may be encoded; MustInt and MustText where they do not panic.
-/
import Derived.Test.YtpapbmamkggfhaaCode8
import Derived.Test.YtpapbmamkggfhaaKeepC
namespace Go.Proofs.Ytpapbmamkggfhaa
set_option linter.unusedVariables false
set_option linter.unusedSimpArgs false
set_option maxRecDepth 20000
open Go.RowKit

theorem IsVals.good {xs : List Int} {s : ByteArray} {vs : List AV} (h : IsVals xs s 0 vs) : ∃ k, k ≤ 8 ∧ vs = valsK xs s k := by
  obtain ⟨k, tl, hk, rfl, rfl | ⟨h2, _⟩⟩ := h
  · exact ⟨k, hk, by simp⟩
  · exact absurd h2 (by decide)
theorem wf_getD {xs : List Int} (h : ∀ x ∈ xs, (Lit.int .i64 x).wf = true) (j : Nat) : (Lit.int .i64 (xs.getD j 0)).wf = true := by
  by_cases hj : j < xs.length
  · rw [List.getD_eq_getElem?_getD, List.getElem?_eq_getElem hj]; exact h _ (List.getElem_mem hj)
  · rw [List.getD_eq_getElem?_getD, List.getElem?_eq_none (by omega)]; rfl
theorem val1_cases (s : ByteArray) (x y : Int) : val1 s x y = .i y ∨ val1 s x y = .s s ∨ val1 s x y = .s (strOfNums (List.replicate (y % 256).toNat 0)) ∨ val1 s x y = .f (decide (y % 2 = 0)) ∨ val1 s x y = .s (strOfNums [y % 256] ++ s) := by
  unfold val1
  split
  · exact .inl rfl
  · split
    · exact .inr (.inl rfl)
    · split
      · exact .inr (.inr (.inl rfl))
      · split
        · exact .inr (.inr (.inr (.inl rfl)))
        · exact .inr (.inr (.inr (.inr rfl)))
theorem mem_valsK {xs : List Int} {s : ByteArray} {k : Nat} {a : AV} (h : a ∈ valsK xs s k) : ∃ j, a = val1 s (xs.getD (2 * j) 0) (xs.getD (2 * j + 1) 0) := by
  simp only [valsK, List.mem_map] at h
  obtain ⟨j, _, rfl⟩ := h
  exact ⟨j, rfl⟩
theorem valsK_ok {xs : List Int} (h : ∀ x ∈ xs, (Lit.int .i64 x).wf = true) (s : ByteArray) (k : Nat) : ∀ a ∈ valsK xs s k, a.Ok := by
  intro a ha
  obtain ⟨j, rfl⟩ := mem_valsK ha
  rcases val1_cases s (xs.getD (2 * j) 0) (xs.getD (2 * j + 1) 0) with e | e | e | e | e <;> rw [e]
  · exact wf_getD h _
  all_goals exact trivial
theorem valsK_plain (xs : List Int) (s : ByteArray) (k : Nat) : ∀ a ∈ valsK xs s k, a.plain := by
  intro a ha
  obtain ⟨j, rfl⟩ := mem_valsK ha
  rcases val1_cases s (xs.getD (2 * j) 0) (xs.getD (2 * j + 1) 0) with e | e | e | e | e <;> rw [e] <;> exact trivial
theorem valsK_enc (xs : List Int) {s : ByteArray} (hs : s.size ≤ 254) (k : Nat) : ∀ a ∈ valsK xs s k, (enc1 a).isSome = true := by
  intro a ha
  obtain ⟨j, rfl⟩ := mem_valsK ha
  rcases val1_cases s (xs.getD (2 * j) 0) (xs.getD (2 * j + 1) 0) with e | e | e | e | e <;> rw [e]
  · rfl
  · simp only [enc1]; rw [if_pos (by omega)]; rfl
  · simp only [enc1]; rw [if_pos (by rw [strOfNums_size, List.length_replicate]; omega)]; rfl
  · rfl
  · simp only [enc1]; rw [if_pos (by rw [ByteArray.size_append, strOfNums_size]; simp; omega)]; rfl
section
variable (W : World)
theorem mustI_yes (v : Value) : (Instr.typeAssert (.iface 3 v) 20 3 false).run Try.prog W = .ok v W := by kernel_rfl
theorem mustS_yes (v : Value) : (Instr.typeAssert (.iface 9 v) 20 9 false).run Try.prog W = .ok v W := by kernel_rfl
end
theorem mustInt_in {w : World} (n : Int) : Calls Try.prog 35 #[.iface 3 (.int .i64 n)] w fun e w' => e = .returned (.int .i64 n) ∧ w = w' := by
  have h := mustI_yes w (.int .i64 n)
  go_enter Try.func35, Try.ntmps35
  go_wp2
  go_ret
  exact ⟨rfl, rfl⟩
theorem mustText_in {w : World} (b : ByteArray) : Calls Try.prog 36 #[.iface 9 (.string b)] w fun e w' => e = .returned (.string b) ∧ w = w' := by
  have h := mustS_yes w (.string b)
  go_enter Try.func36, Try.ntmps36
  go_wp2
  go_ret
  exact ⟨rfl, rfl⟩
theorem mustInt_c {w : World} {v : Value} {vs : List AV} (hv : Vs w v (vs.map AV.val)) (k : Int) (n : Int) (hk : at_ vs k = .i n) : Calls Try.prog 23 #[v, .int .i64 k] w fun e w' => e = .returned (.int .i64 n) ∧ w = w' := by
  have h0 := value_c hv k
  rw [hk] at h0
  have h1 := Lib.hid h0
  have h2 := Lib.hid (mustInt_in (w := w) n)
  clear hv h0 hk
  simp only [AV.val] at h1
  go_enter Try.func23, Try.ntmps23
  go_wp2_with fail
  with_reducible refine h1.out.mono ?_
  rintro e w1 ⟨rfl, rfl⟩
  go_wp2_with fail
  with_reducible refine h2.out.mono ?_
  rintro e w1 ⟨rfl, rfl⟩
  go_wp2
  go_ret
  exact ⟨rfl, rfl⟩
theorem mustText_c {w : World} {v : Value} {vs : List AV} (hv : Vs w v (vs.map AV.val)) (k : Int) (b : ByteArray) (hk : at_ vs k = .s b) : Calls Try.prog 24 #[v, .int .i64 k] w fun e w' => e = .returned (.string b) ∧ w = w' := by
  have h0 := value_c hv k
  rw [hk] at h0
  have h1 := Lib.hid h0
  have h2 := Lib.hid (mustText_in (w := w) b)
  clear hv h0 hk
  simp only [AV.val] at h1
  go_enter Try.func24, Try.ntmps24
  go_wp2_with fail
  with_reducible refine h1.out.mono ?_
  rintro e w1 ⟨rfl, rfl⟩
  go_wp2_with fail
  with_reducible refine h2.out.mono ?_
  rintro e w1 ⟨rfl, rfl⟩
  go_wp2
  go_ret
  exact ⟨rfl, rfl⟩
theorem ktextN {w : World} (s : ByteArray) (n : Nat) (hn : n ≤ 1000) (z : Int) (hz : (n : Int) = z) : Calls Try.prog 14 #[.string s, .int .i64 z] w fun e w' => ∃ t : ByteArray, t.size ≤ n ∧ e = .returned (.string t) ∧ w = w' := by subst hz; exact ktext_c s n hn
theorem vs_sub {w0 w : World} {v : Value} {vs : List AV} {L R : Blks} (h : IsAny v vs L) (hO : Own w0 w R) (hs : L.Sublist R) : Vs w v (vs.map AV.val) := h.rdv hs w [] hO
end Go.Proofs.Ytpapbmamkggfhaa
