/-
  Bytes, runes, percent signs: plain lists; nothing runs here.
-/
import Derived.Test.YtkmfbfmmlldphaaDoorStr
import Derived.Lib.MapLaws
namespace Go.Proofs.YtkmfbfmmlldphaaDoor
set_option linter.unusedVariables false
set_option linter.unusedSimpArgs false
set_option maxRecDepth 20000
open Go.RowKit

/-- The first rune of bytes, and how many it takes. -/
def decI (l : List Int) : Nat × Nat := Lib.decodeN l.length (l.getD 0 0).toNat (l.getD 1 0).toNat (l.getD 2 0).toNat (l.getD 3 0).toNat
theorem getD_sb (s : ByteArray) (k : Nat) : ((sb s).getD k 0).toNat = (s.data.toList.getD k 0).toNat := by
  simp only [sb, List.getD_eq_getElem?_getD, List.getElem?_map]
  cases s.data.toList[k]? <;> simp
theorem decode_sb (s : ByteArray) (pos : Nat) : Utf8.decode s pos = decI ((sb s).drop pos) := by
  rw [Lib.decode_N]
  unfold decI
  have hg : ∀ k, ((sb s).drop pos).getD k 0 = (sb s).getD (pos + k) 0 := fun k => by simp [List.getD_eq_getElem?_getD, List.getElem?_drop]
  rw [hg, hg, hg, hg, getD_sb, getD_sb, getD_sb, getD_sb, List.length_drop, length_sb]
  simp
theorem decI_pos (l : List Int) : 1 ≤ (decI l).2 := Lib.decodeN_ge1 _ _ _ _ _
/-- A rune that may be. -/
def vrune (c : Nat) : Prop := c < 55296 ∨ (57344 ≤ c ∧ c ≤ 1114111)
theorem decI_valid (l : List Int) : vrune (decI l).1 := by
  unfold decI vrune
  rcases Lib.decodeN_shape l.length (l.getD 0 0).toNat (l.getD 1 0).toNat (l.getD 2 0).toNat (l.getD 3 0).toNat with ⟨h, e⟩ | ⟨h, _, _, _, e⟩ | ⟨h, _, _, _, _, h2, e⟩ | ⟨h, _, _, _, _, _, h2, e⟩ | e
  all_goals rw [e]
  all_goals simp only []
  all_goals omega
theorem decI_le {l : List Int} (h : l ≠ []) : (decI l).2 ≤ l.length := by
  have hl : 0 < l.length := List.length_pos_iff.2 h
  unfold decI
  rcases Lib.decodeN_shape l.length (l.getD 0 0).toNat (l.getD 1 0).toNat (l.getD 2 0).toNat (l.getD 3 0).toNat with ⟨h, e⟩ | ⟨h, _, _, _, e⟩ | ⟨h, _, _, _, _, h2, e⟩ | ⟨h, _, _, _, _, _, h2, e⟩ | e
  all_goals rw [e]
  all_goals simp only []
  all_goals omega
/-- A rune's bytes. -/
def encI (c : Nat) : List Int := Lib.encodeRuneZ (c : Int)
theorem encI_one {c : Nat} (h : c ≤ 127) : encI c = [(c : Int)] := Lib.encodeRuneZ_one (by omega) (by omega)
theorem decN_one (n b0 b1 b2 b3 : Nat) (h : b0 < 128) : Lib.decodeN n b0 b1 b2 b3 = (b0, 1) := by
  rcases Lib.decodeN_shape n b0 b1 b2 b3 with ⟨_, e⟩ | ⟨h1, _⟩ | ⟨h1, _⟩ | ⟨h1, _⟩ | e
  · exact e
  all_goals first | omega | skip
  unfold Lib.decodeN
  rw [if_pos h]
theorem decN_two (n b0 b1 b2 b3 : Nat) (h : b0 / 32 = 6) (hn : 1 < n) (h1 : b1 / 64 = 2) (h2 : 128 ≤ b0 % 32 * 64 + b1 % 64) : Lib.decodeN n b0 b1 b2 b3 = (b0 % 32 * 64 + b1 % 64, 2) := by
  unfold Lib.decodeN
  repeat' split
  all_goals first | rfl | omega | (simp_all; done) | (exfalso; simp_all; omega)
theorem decN_three (n b0 b1 b2 b3 : Nat) (h : b0 / 16 = 14) (hn : 2 < n) (h1 : b1 / 64 = 2) (h2 : b2 / 64 = 2) (h3 : 2048 ≤ b0 % 16 * 4096 + b1 % 64 * 64 + b2 % 64) (h4 : b0 % 16 * 4096 + b1 % 64 * 64 + b2 % 64 < 55296 ∨ 57344 ≤ b0 % 16 * 4096 + b1 % 64 * 64 + b2 % 64) :
    Lib.decodeN n b0 b1 b2 b3 = (b0 % 16 * 4096 + b1 % 64 * 64 + b2 % 64, 3) := by
  unfold Lib.decodeN
  repeat' split
  all_goals first | rfl | omega | (simp_all; done) | (exfalso; simp_all; omega)
theorem decN_four (n b0 b1 b2 b3 : Nat) (h : b0 / 8 = 30) (hn : 3 < n) (h1 : b1 / 64 = 2) (h2 : b2 / 64 = 2) (h3 : b3 / 64 = 2) (h4 : 65536 ≤ b0 % 8 * 262144 + b1 % 64 * 4096 + b2 % 64 * 64 + b3 % 64) (h5 : b0 % 8 * 262144 + b1 % 64 * 4096 + b2 % 64 * 64 + b3 % 64 ≤ 1114111) :
    Lib.decodeN n b0 b1 b2 b3 = (b0 % 8 * 262144 + b1 % 64 * 4096 + b2 % 64 * 64 + b3 % 64, 4) := by
  unfold Lib.decodeN
  repeat' split
  all_goals first | rfl | omega | (simp_all; done) | (exfalso; simp_all; omega)
theorem dec_enc {c : Nat} (h : vrune c) (r : List Int) : decI (encI c ++ r) = (c, (encI c).length) := by
  unfold vrune at h
  rcases (by omega : c ≤ 127 ∨ (128 ≤ c ∧ c ≤ 2047) ∨ ((2048 ≤ c ∧ c < 55296) ∨ (57343 < c ∧ c ≤ 65535)) ∨ (65536 ≤ c ∧ c ≤ 1114111)) with h1 | h1 | h1 | h1
  · rw [encI_one h1]
    unfold decI
    rw [decN_one _ _ _ _ _ (by simp; omega)]
    simp
  · have e : encI c = [192 + (c : Int) / 64, 128 + (c : Int) % 64] := Lib.encodeRuneZ_two (by omega) (by omega)
    rw [e]
    unfold decI
    simp only [List.cons_append, List.nil_append, List.getD_cons_zero, List.getD_cons_succ, List.length_cons]
    rw [decN_two _ _ _ _ _ (by omega) (by omega) (by omega) (by omega)]
    refine Prod.ext ?_ (by simp)
    show _ = c
    omega
  · have e : encI c = [224 + (c : Int) / 4096, 128 + (c : Int) / 64 % 64, 128 + (c : Int) % 64] := Lib.encodeRuneZ_three (by omega)
    rw [e]
    unfold decI
    simp only [List.cons_append, List.nil_append, List.getD_cons_zero, List.getD_cons_succ, List.length_cons]
    rw [decN_three _ _ _ _ _ (by omega) (by omega) (by omega) (by omega) (by omega) (by omega)]
    refine Prod.ext ?_ (by simp)
    show _ = c
    omega
  · have e : encI c = [240 + (c : Int) / 262144, 128 + (c : Int) / 4096 % 64, 128 + (c : Int) / 64 % 64, 128 + (c : Int) % 64] := Lib.encodeRuneZ_four (by omega) (by omega)
    rw [e]
    unfold decI
    simp only [List.cons_append, List.nil_append, List.getD_cons_zero, List.getD_cons_succ, List.length_cons]
    rw [decN_four _ _ _ _ _ (by omega) (by omega) (by omega) (by omega) (by omega) (by omega) (by omega)]
    refine Prod.ext ?_ (by simp)
    show _ = c
    omega
theorem encI_byt (c : Nat) : Byt (encI c) := fun x hx => by have := Lib.encodeRuneZ_byte (c : Int) x hx; omega
theorem encI_ne (c : Nat) : encI c ≠ [] := by
  unfold encI Lib.encodeRuneZ
  repeat' split
  all_goals simp
theorem encI_len (c : Nat) : (encI c).length ≤ 4 := by
  unfold encI Lib.encodeRuneZ
  repeat' split
  all_goals simp
/-- The model's own bytes of a rune. -/
theorem sb_encode (r : Int) : sb (Utf8.encode r) = Lib.encodeRuneZ r := by
  unfold Utf8.encode Utf8.valid Utf8.runeError
  have hb : ∀ n : Nat, n < 256 → ((UInt8.ofNat n).toNat : Int) = n := fun n h => by simp; omega
  by_cases hv : (0 ≤ r ∧ r < 55296) ∨ (57344 ≤ r ∧ r ≤ 1114111)
  · obtain ⟨c, rfl⟩ : ∃ c : Nat, r = c := ⟨r.toNat, by omega⟩
    have hv' : (decide (0 ≤ (c : Int)) && decide ((c : Int) < 55296) || decide (57344 ≤ (c : Int)) && decide ((c : Int) ≤ 1114111)) = true := by simp; omega
    simp only [hv', if_true, Int.toNat_natCast]
    rcases (by omega : c ≤ 127 ∨ (128 ≤ c ∧ c ≤ 2047) ∨ ((2048 ≤ c ∧ c < 55296) ∨ (57343 < c ∧ c ≤ 65535)) ∨ (65536 ≤ c ∧ c ≤ 1114111)) with h1 | h1 | h1 | h1
    · rw [if_pos (by omega), Lib.encodeRuneZ_one (by omega) (by omega)]
      simp [sb]; omega
    · rw [if_neg (by omega), if_pos (by omega), Lib.encodeRuneZ_two (by omega) (by omega)]
      simp [sb]; omega
    · rw [if_neg (by omega), if_neg (by omega), if_pos (by omega), Lib.encodeRuneZ_three (by omega)]
      simp [sb]; omega
    · rw [if_neg (by omega), if_neg (by omega), if_neg (by omega), Lib.encodeRuneZ_four (by omega) (by omega)]
      simp [sb]; omega
  · have hv' : (decide (0 ≤ r) && decide (r < 55296) || decide (57344 ≤ r) && decide (r ≤ 1114111)) = false := by simp; omega
    rw [Lib.encodeRuneZ_bad (by omega)]
    simp only [hv', Bool.false_eq_true, if_false]
    rfl
end Go.Proofs.YtkmfbfmmlldphaaDoor
