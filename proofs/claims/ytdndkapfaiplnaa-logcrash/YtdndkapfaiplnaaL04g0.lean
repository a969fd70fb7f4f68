/-
  LogCrash: its states.
-/
import Derived.Test.YtdndkapfaiplnaaL04f
namespace Go.Proofs.Ytdndkapfaiplnaa
set_option linter.unusedVariables false
set_option linter.unusedSimpArgs false
set_option maxRecDepth 20000
open Go.RowKit

def LivesA (w0 : World) (R : Blks) (d gv : Value) (t : Slot) (l : LSt) (rs : List Rec) (wx : World) : Prop :=
  ∃ s F Ld Lg, OnF s F ∧ Live F t l rs ∧ IsDisk d s Ld ∧ IsLog gv d l Lg ∧ Own w0 wx (Ld ++ (Lg ++ R))
def CrashTo (w : World) (d : Value) (i : Nat) (v8 v9 : Value) (wx : World) : Prop :=
  ∃ g t l rs X, v9 = .pointer (some ⟨g, 0, none⟩) ∧ RdRows w X v8 (rs.map (·.2)) ∧ LivesA w X d v9 t l rs wx ∧ l.num ≤ 2 + 3 * (i : Int) ∧ l.ep ≤ 2 + 2 * (i : Int) ∧ l.nx ≤ 1 + (i : Int) ∧ needR rs ≤ 4 * i ∧ (∀ r ∈ rs, r.2.length ≤ 120)
def MidA (w : World) (d gv : Value) (t : Slot) (l : LSt) (rs : List Rec) (u8 vb : Value) (b : List Int) (v14 : Value) (wx : World) : Prop :=
  ∃ X, RdRows w X u8 (rs.map (·.2)) ∧ RdRows w X v14 (rs.map (·.2) ++ [b]) ∧ Rd w X vb b ∧ LivesA w X d gv t l rs wx
def AfterOp (w : World) (d gv : Value) (i : Nat) (t : Slot) (rs : List Rec) (u8 v14 v15 : Value) (wx : World) : Prop :=
  (v15 = .int .i64 0 ∧ ∃ t' l' rs' X, RdRows w X v14 (rs'.map (·.2)) ∧ LivesA w X d gv t' l' rs' wx ∧ l'.num ≤ 3 + 3 * (i : Int) ∧ l'.ep ≤ 2 + 2 * (i : Int) ∧ l'.nx ≤ 3 + (i : Int) ∧ needR rs' ≤ 4 * i + 8 ∧ (∀ r ∈ rs', r.2.length ≤ 120)) ∨
  (v15 = .int .i64 8 ∧ ∃ s X Ld, RdRows w X u8 (rs.map (·.2)) ∧ Cut s t rs ∧ IsDisk d s Ld ∧ Own w wx (Ld ++ X))
def NextC (w : World) (d gv : Value) (t : Slot) (l : LSt) (rs : List Rec) (R : Blks) (j : Nat) (v14 : Value) (wx : World) : Prop :=
  ∃ Z bs, GotRows w Z v14 bs ∧ bs.length = j ∧ (∀ b ∈ bs, Byt b ∧ b.length = 30) ∧ LivesA w (Z ++ R) d gv t l rs wx
theorem needs_two : ∀ (bs : List (List Int)), (∀ b ∈ bs, need b = 2) → needs bs = 2 * bs.length
  | [], _ => rfl
  | b :: bs, h => by
    have := needs_two bs (fun x hx => h x (.tail _ hx))
    have := h b (.head _)
    simp only [needs, List.length_cons]; omega
theorem within_ex4 {w : World} (v n : Int) (h1 : 1 ≤ n) (h2 : n ≤ 1000000000) : Calls Try.prog 9 #[.int .i64 v, .int .i64 n] w fun e w' => ∃ k : Nat, (k : Int) < n ∧ e = .returned (.int .i64 (k : Int)) ∧ w = w' :=
  (within_n v n h1 h2).mono fun e w' h => ⟨(v % n).toNat, by have := Int.emod_lt_of_pos v (show 0 < n by omega); have := Int.emod_nonneg v (show n ≠ 0 by omega); omega, h.1, h.2⟩
/-- The disk behind a crash, with power. -/
def RestC (w : World) (d : Value) (X : Blks) (t : Slot) (rs : List Rec) (wx : World) : Prop :=
  ∃ s F Ld, OnF s F ∧ Rest F t rs ∧ s.left = -1 ∧ IsDisk d s Ld ∧ Own w wx (Ld ++ X)
end Go.Proofs.Ytdndkapfaiplnaa
