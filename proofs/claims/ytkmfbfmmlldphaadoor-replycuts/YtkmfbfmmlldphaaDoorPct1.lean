/-
  Package pct: isPlain, isBlank, digit, cut.
-/
import Derived.Test.YtkmfbfmmlldphaaDoorStrOps
import Derived.Test.YtkmfbfmmlldphaaDoorUtf2
import Derived.Test.YtkmfbfmmlldphaaDoorBts
namespace Go.Proofs.YtkmfbfmmlldphaaDoor
set_option linter.unusedVariables false
set_option linter.unusedSimpArgs false
set_option maxRecDepth 20000
open Go.RowKit

theorem index_sb (w : World) (s : ByteArray) (j : Nat) (h : j < s.size) : (Instr.index 9 (.string s) (.int .i64 (j : Int))).run Tryd.prog w = .ok (.int .u8 ((sb s).getD j 0)) w := by
  rw [run_index_string w _ s .i64 (j : Int) Tryd.underlying9, dif_pos (by omega)]
  congr 2
  simp only [Int.toNat_natCast]
  rw [List.getD_eq_getElem?_getD, List.getElem?_eq_getElem (by rw [length_sb]; exact h), Option.getD_some]
  simp [sb, ByteArray.getElem_eq_getElem_data]
theorem index_at (w : World) (s : ByteArray) (j : Nat) (k : Int) (hk : (j : Int) = k) (h : j < s.size) : (Instr.index 9 (.string s) (.int .i64 k)).run Tryd.prog w = .ok (.int .u8 ((sb s).getD j 0)) w := by subst hk; exact index_sb w s j h
theorem index_sb0 (w : World) (s : ByteArray) (h : 0 < s.size) : (Instr.index 9 (.string s) (.int .i64 0)).run Tryd.prog w = .ok (.int .u8 ((sb s).getD 0 0)) w := index_sb w s 0 h
theorem index_sb1 (w : World) (s : ByteArray) (h : 1 < s.size) : (Instr.index 9 (.string s) (.int .i64 1)).run Tryd.prog w = .ok (.int .u8 ((sb s).getD 1 0)) w := index_sb w s 1 h
theorem index_sb2 (w : World) (s : ByteArray) (h : 2 < s.size) : (Instr.index 9 (.string s) (.int .i64 2)).run Tryd.prog w = .ok (.int .u8 ((sb s).getD 2 0)) w := index_sb w s 2 h
theorem sb_from (s : ByteArray) (i : Nat) : sb (s.extract i s.size) = (sb s).drop i := by
  rw [sb_extract, List.take_of_length_le (by rw [length_sb]; exact Nat.le_refl _)]
/-- The first byte that l stands for, and what is left. -/
def cutI : List Int → Option (Int × List Int)
  | [] => none
  | x :: r => if x = 37 then
      (match r with
        | a :: b :: q => (digI a).bind fun h => (digI b).map fun l => (16 * h + l, q)
        | _ => none)
    else some (x, r)
def GotCut (w : World) (o : Option (Int × List Int)) (e : Ending) (w' : World) : Prop :=
  ((∃ c t, o = some (c, sb t) ∧ 0 ≤ c ∧ c ≤ 255 ∧ e = .returned (.tuple #[.int .u8 c, .string t, .bool true])) ∨ (o = none ∧ e = .returned (.tuple #[.int .u8 0, .string ⟨#[]⟩, .bool false]))) ∧ ∃ m, w' = w.drewN m
theorem u8shl4 (h : Int) (h0 : 0 ≤ h) (h1 : h < 16) : IntKind.u8.wrap (h * 16) = h * 16 := by rw [IntKind.wrap_u8']; omega
theorem u8or4 (h l : Int) (h0 : 0 ≤ h) (h1 : h < 16) (l0 : 0 ≤ l) (l1 : l < 16) : bits .or .u8 (h * 16) l = h * 16 + l :=
  bits_join .u8 8 (by decide) wraps_u8 4 (h * 16) l (by omega) (by omega) (by omega) l0 (by omega) (by omega)
end Go.Proofs.YtkmfbfmmlldphaaDoor
