/-
  Values and their bytes: what was encoded is decoded (nothing runs here).
-/
import Derived.Test.YtpapbmamkggfhaaCode6
namespace Go.Proofs.Ytpapbmamkggfhaa
set_option linter.unusedVariables false
set_option linter.unusedSimpArgs false
set_option maxRecDepth 20000
open Go.RowKit

theorem numB_be8 (n : Int) : numB (be8 n) = n % 18446744073709551616 := by
  simp only [numB, be8, List.foldl_cons, List.foldl_nil]
  omega
theorem i64_of_wf {n : Int} (h : (Lit.int .i64 n).wf = true) : -9223372036854775808 ≤ n ∧ n ≤ 9223372036854775807 := by
  simpa [Lit.wf, IntKind.min, IntKind.max, IntKind.bits, IntKind.signed] using h
theorem wrap_be8 {n : Int} (h : (Lit.int .i64 n).wf = true) : IntKind.i64.wrap (numB (be8 n)) = n := by
  have := i64_of_wf h
  rw [numB_be8, IntKind.wrap_i64]
  omega
theorem dec1_enc1 {a : AV} {bs : List Int} (h : enc1 a = some bs) (ha : a.Ok) (r : List Int) : dec1 (bs ++ r) = some (a, r) := by
  cases a with
  | i n =>
    simp only [enc1, Option.some.injEq] at h
    subst h
    rw [List.cons_append, dec1_eq, if_pos rfl]
    unfold decInt
    rw [if_neg (by simp [length_be8])]
    rw [List.take_append_of_le_length (by simp [length_be8]), List.take_of_length_le (by simp [length_be8]), wrap_be8 ha, List.drop_append_of_le_length (by simp [length_be8]), List.drop_of_length_le (by simp [length_be8])]
    rfl
  | s b =>
    simp only [enc1] at h
    split at h
    · simp only [Option.some.injEq] at h
      subst h
      rw [List.cons_append, dec1_eq, if_neg (by decide), if_pos rfl, List.cons_append]
      simp only [decText]
      rw [if_neg (by simp [length_sb]; omega), Int.toNat_natCast]
      rw [List.take_append_of_le_length (by simp [length_sb]), List.take_of_length_le (by simp [length_sb]), str_sb, List.drop_append_of_le_length (by simp [length_sb]), List.drop_of_length_le (by simp [length_sb])]
      rfl
    · cases h
  | f b =>
    simp only [enc1, Option.some.injEq] at h
    subst h
    cases b
    · rw [List.cons_append, dec1_eq]; rfl
    · rw [List.cons_append, dec1_eq]; rfl
  | z => cases h
  | o t v => cases h
theorem enc1_ne {a : AV} {bs : List Int} (h : enc1 a = some bs) : bs ≠ [] := by
  cases a with
  | i n => simp only [enc1, Option.some.injEq] at h; subst h; simp
  | s b =>
    simp only [enc1] at h
    split at h
    · simp only [Option.some.injEq] at h; subst h; simp
    · cases h
  | f b => simp only [enc1, Option.some.injEq] at h; subst h; simp
  | z => cases h
  | o t v => cases h
theorem decL_encL {vs : List AV} {bs : List Int} (h : encL vs = some bs) (ho : ∀ a ∈ vs, a.Ok) : decL bs = some vs := by
  induction vs generalizing bs with
  | nil => simp [encL] at h; subst h; rfl
  | cons a vs ih =>
    simp only [encL] at h
    cases ha : enc1 a with
    | none => simp [ha] at h
    | some x =>
      cases hl : encL vs with
      | none => simp [ha, hl] at h
      | some y =>
        simp [ha, hl] at h
        subst h
        rw [decL_step (dec1_enc1 ha (ho a (.head _)) y), ih hl (fun b hb => ho b (.tail _ hb))]
        rfl
theorem encL_inj {vs us : List AV} {bs : List Int} (h : encL vs = some bs) (h2 : encL us = some bs) (ho : ∀ a ∈ vs, a.Ok) (ho2 : ∀ a ∈ us, a.Ok) : vs = us := by
  have h1 := decL_encL h ho
  rw [decL_encL h2 ho2] at h1
  injection h1 with h1
  exact h1.symm
theorem encL_some {vs : List AV} (h : ∀ a ∈ vs, (enc1 a).isSome = true) : ∃ bs, encL vs = some bs := by
  induction vs with
  | nil => exact ⟨[], rfl⟩
  | cons a vs ih =>
    obtain ⟨y, hy⟩ := ih (fun b hb => h b (.tail _ hb))
    obtain ⟨x, hx⟩ := Option.isSome_iff_exists.1 (h a (.head _))
    exact ⟨x ++ y, by simp [encL, hx, hy]⟩
/-- Equal as Go's == has it, of comparable kinds. -/
def AV.plain : AV → Prop
  | .i _ | .s _ | .f _ => True
  | _ => False
section
variable {w0 w : World} {L R : Blks} {ops : Array Oper} {rest : List Oper} {op : Oper} {a : Act} {Q : Exit → Act → World → Prop}
/-- string(b). -/
theorem wl_str (hgd : op.guard = none) (x : Operand) (ho : op.op = .convert 23 9 x) (v : Value) (xs : List Int) (hx : a.eval x = v) (hV : Bs w v xs)
    (h : wpList Try.prog ops Q rest (a.put op.dst (.string (strOfNums xs))) w) : wpList Try.prog ops Q (op :: rest) a w := by
  refine wl_val hgd (.string (strOfNums xs)) ?_ h
  simp [execOp, ho, hx, convert_str hV]
end
theorem ktext_c {w : World} (s : ByteArray) (n : Nat) (hn : n ≤ 1000) : Calls Try.prog 14 #[.string s, .int .i64 (n : Int)] w fun e w' => ∃ t : ByteArray, t.size ≤ n ∧ e = .returned (.string t) ∧ w = w' := by
  go_enter Try.func14, Try.ntmps14
  go_wp2
  · go_ret
    exact ⟨s.extract 0 n, by simp [ByteArray.size_extract]; omega, rfl, rfl⟩
  · go_ret
    exact ⟨s, by omega, rfl, rfl⟩
end Go.Proofs.Ytpapbmamkggfhaa
