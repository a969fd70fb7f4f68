/-
  Package disk: its calls with their answers written out; bytes that lie in a block.
-/
import Derived.Test.YtelboocnenaicaaDisk8
import Derived.Test.YtelboocnenaicaaLaw
namespace Go.Proofs.Ytelboocnenaicaa
set_option linter.unusedVariables false
set_option linter.unusedSimpArgs false
set_option maxRecDepth 20000
open Go.RowKit

theorem IsDisk.ptr {d : Value} {s : DSt} {L : Blks} (h : IsDisk d s L) : ∃ bd, d = .pointer (some ⟨bd, 0, none⟩) := by
  obtain ⟨_, bd, _, _, _, _, _, _, _, _, rfl, _⟩ := h
  exact ⟨bd, rfl⟩
theorem newSt_n (n : Nat) : (newSt n).n = n := by simp [newSt, DSt.n, zsecs]
theorem newSt_down (n : Nat) : (newSt n).down = false := rfl
theorem newSt_left (n : Nat) : (newSt n).left = -1 := rfl
theorem newSt_pend (n : Nat) : (newSt n).pend = [] := rfl
theorem zsecs_getD (n k : Nat) (h : k < n) : (zsecs n).getD k [] = zsec := by simp [zsecs, List.getD, h]
theorem rd_block {w0 : World} {R : Blks} {g c : Nat} {xs : List Int} (hm : (g, Obj.cells (bv xs).toArray 5) ∈ R) (m : Nat) (h : m ≤ xs.length) (hc : m ≤ c) : Rd w0 R (.slice (some ⟨g, 0, none⟩) m c) (xs.take m) := by
  intro w' L' hO
  refine ⟨_, _, _, rfl, by simp; omega, hc, fun _ => ⟨_, rfl, fun j x hx => ?_⟩⟩
  rw [addr_add_zero, hO.cell (List.mem_append_right _ hm) j]
  have hj : j < m := by have := (List.getElem?_eq_some_iff.1 hx).1; simp at this; omega
  rw [List.getElem?_take_of_lt hj] at hx
  simp [bv, hx]
theorem rd_nil (w0 : World) (R : Blks) : Rd w0 R (.slice none 0 0) [] := fun _ _ _ => ⟨_, _, _, rfl, rfl, Nat.le_refl _, fun h => absurd h (by omega)⟩
section
variable {s : DSt} {i : Int} {xs : List Int}
theorem refuse9 (h : s.down = false) (h2 : i < 0 ∨ (s.n : Int) ≤ i) : s.refuse i = 9 := by simp [DSt.refuse, h, h2]
theorem refuse0 (h : s.down = false) (h2 : 0 ≤ i) (h3 : i < s.n) : s.refuse i = 0 := by
  unfold DSt.refuse; rw [h]; simp; omega
theorem refuse8 (h : s.down = true) : s.refuse i = 8 := by simp [DSt.refuse, h]
theorem write_ref {r : Int} (h : s.refuse i = r) (hr : r ≠ 0) : s.write i xs = s ∧ s.writeE i xs = r := by subst h; exact ⟨by simp [DSt.write, hr], by simp [DSt.writeE, hr]⟩
theorem write_arg (h : s.refuse i = 0) (hx : xs.length ≠ 32) : s.write i xs = s ∧ s.writeE i xs = 1 := ⟨by simp [DSt.write, h, hx], by simp [DSt.writeE, h, hx]⟩
theorem write_down (h : s.refuse i = 0) (hx : xs.length = 32) (hl : s.left = 0) : s.write i xs = { s with down := true } ∧ s.writeE i xs = 8 := ⟨by simp [DSt.write, DSt.spend, h, hx, hl], by simp [DSt.writeE, h, hx, hl]⟩
theorem write_go (h : s.refuse i = 0) (hx : xs.length = 32) (hl : s.left = -1) : s.write i xs = { s with pend := s.pend ++ [(i.toNat, xs)] } ∧ s.writeE i xs = 0 := ⟨by simp [DSt.write, DSt.spend, h, hx, hl], by simp [DSt.writeE, h, hx, hl]⟩
theorem write_cnt (h : s.refuse i = 0) (hx : xs.length = 32) (hl : 0 < s.left) : s.write i xs = { s with left := s.left - 1, pend := s.pend ++ [(i.toNat, xs)] } ∧ s.writeE i xs = 0 := by
  have h0 : s.left ≠ 0 := by omega
  exact ⟨by simp [DSt.write, DSt.spend, h, hx, h0, hl], by simp [DSt.writeE, h, hx, h0]⟩
end
section
variable {w0 w : World} {d : Value} {s : DSt} {L R : Blks}
theorem new_is {R : Blks} (hO : Own w0 w R) (i : Int) (n : Nat) (h : min i.toNat 1024 = n) : Calls Try.prog 5 #[.int .i64 i] w (GotDisk w0 R (newSt n)) := by
  rw [← h]; exact new_c hO i
theorem len_is (hd : IsDisk d s L) (hO : Own w0 w (L ++ R)) (m : Int) (h : (s.n : Int) = m) : Calls Try.prog 14 #[d] w fun e w' => e = .returned (.int .i64 m) ∧ w = w' := by
  rw [← h]; exact len_c hd hO
theorem down_is (hd : IsDisk d s L) (hO : Own w0 w (L ++ R)) (b : Bool) (h : s.down = b) : Calls Try.prog 15 #[d] w fun e w' => e = .returned (.bool b) ∧ w = w' := by
  rw [← h]; exact down_c hd hO
theorem pending_is (hd : IsDisk d s L) (hO : Own w0 w (L ++ R)) (m : Int) (h : (s.pend.length : Int) = m) : Calls Try.prog 16 #[d] w fun e w' => e = .returned (.int .i64 m) ∧ w = w' := by
  rw [← h]; exact pending_c hd hO
theorem write_is (hd : IsDisk d s L) (hO : Own w0 w (L ++ R)) (i : Int) (v : Value) (xs : List Int) (hb : Rd w0 R v xs) (hpl : s.pend.length < 1000000) (s' : DSt) (r : Int) (h1 : s.write i xs = s') (h2 : s.writeE i xs = r) :
    Calls Try.prog 7 #[d, .int .i64 i, v] w (HasDisk w0 R d s' (.int .i64 r)) := by
  rw [← h1, ← h2]; exact write_c hd hO i v xs hb hpl
theorem flush_is (hd : IsDisk d s L) (hO : Own w0 w (L ++ R)) (s' : DSt) (r : Int) (h1 : s.flush = s') (h2 : s.flushE = r) : Calls Try.prog 10 #[d] w (HasDisk w0 R d s' (.int .i64 r)) := by
  rw [← h1, ← h2]; exact flush_c hd hO
theorem crash_is (hd : IsDisk d s L) (hO : Own w0 w (L ++ R)) (v : Value) (ks : List Int) (hks : RdV w0 R v (iv ks)) (s' : DSt) (h : s.crash ks = s') : Calls Try.prog 12 #[d, v] w (HasDisk w0 R d s' (.tuple #[])) := by
  rw [← h]; exact crash_c hd hO v ks hks
def ReadIs (w0 : World) (R : Blks) (d : Value) (s : DSt) (r : Int) (ys : List Int) (e : Ending) (w' : World) : Prop :=
  ∃ v Lv L, e = .returned (.tuple #[v, .int .i64 r]) ∧ IsDisk d s L ∧ Own w0 w' (Lv ++ (L ++ R)) ∧ IsBytes v ys Lv
theorem read_is (hd : IsDisk d s L) (hO : Own w0 w (L ++ R)) (i : Int) (r : Int) (ys : List Int) (h1 : s.refuse i = r) (h2 : (if s.refuse i = 0 then s.la.getD i.toNat [] else []) = ys) :
    Calls Try.prog 8 #[d, .int .i64 i] w (ReadIs w0 R d s r ys) := by
  rw [← h2, ← h1]; exact read_c hd hO i
theorem read_no (hd : IsDisk d s L) (hO : Own w0 w (L ++ R)) (i : Int) (r : Int) (h1 : s.refuse i = r) (hr : r ≠ 0) :
    Calls Try.prog 8 #[d, .int .i64 i] w (ReadIs w0 R d s r []) := read_is hd hO i r [] h1 (by rw [h1, if_neg hr])
theorem read_ok (hd : IsDisk d s L) (hO : Own w0 w (L ++ R)) (i : Int) (ys : List Int) (h1 : s.refuse i = 0) (h2 : s.la.getD i.toNat [] = ys) :
    Calls Try.prog 8 #[d, .int .i64 i] w (ReadIs w0 R d s 0 ys) := read_is hd hO i 0 ys h1 (by rw [if_pos h1, h2])
end
end Go.Proofs.Ytelboocnenaicaa
