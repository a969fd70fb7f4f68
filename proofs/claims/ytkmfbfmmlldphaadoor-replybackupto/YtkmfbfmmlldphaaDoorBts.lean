/-
  Bytes: append to rows of bytes of the call's own; parts of a block as bytes.
-/
import Derived.Test.YtkmfbfmmlldphaaDoorLaw
import Derived.Test.YtkmfbfmmlldphaaDoorOps2
namespace Go.Proofs.YtkmfbfmmlldphaaDoor
set_option linter.unusedVariables false
set_option linter.unusedSimpArgs false
set_option maxRecDepth 20000
open Go.RowKit

theorem isBytes_nil : IsBytes (.slice none 0 0) [] [] := ⟨rfl, .inl ⟨rfl, rfl, rfl⟩⟩
theorem rd_blk {w0 : World} {R : Blks} {g : Nat} {xs : List Int} {sp : List Value} {t : TypeId} (hm : (g, Obj.cells (List.toArray (bv xs ++ sp)) t) ∈ R) (lo m c : Nat) (hl : lo + m ≤ xs.length) (hc : m ≤ c) : Rd w0 R (.slice (some ⟨g, lo, none⟩) m c) ((xs.drop lo).take m) := by
  intro w' L' hO
  refine ⟨_, _, _, rfl, by simp; omega, hc, fun _ => ⟨_, rfl, fun j x hx => ?_⟩⟩
  have hj : j < m := by have := (List.getElem?_eq_some_iff.1 hx).1; simp at this; omega
  rw [Addr.add_mid, hO.cell (List.mem_append_right _ hm) _]
  rw [List.getElem?_take_of_lt hj, List.getElem?_drop] at hx
  simp only [List.getElem?_toArray]
  rw [List.getElem?_append_left (by simp; omega)]
  simp [bv, hx]
theorem IsBytes.blkn {v : Value} {xs : List Int} {L : Blks} (h : IsBytes v xs L) (n : Nat) (hx : xs.length = n) (h0 : 0 < n) :
    ∃ g cap sp, v = .slice (some ⟨g, 0, none⟩) n cap ∧ L = [(g, .cells (List.toArray (bv xs ++ sp)) 5)] ∧ n ≤ cap := by
  subst hx
  rcases h.2 with ⟨_, h0', _⟩ | ⟨g, cap, sp, rfl, rfl, hl, hn, hm⟩
  · omega
  · exact ⟨g, cap, sp, rfl, rfl, hn⟩
section
variable {w0 w : World} {L R : Blks} {ops : Array Oper} {rest : List Oper} {op : Oper} {a : Act} {Q : Exit → Act → World → Prop}
theorem wl_appendB (hgd : op.guard = none) (s x : Operand)
    (ho : op.op = .call { callee := .builtin .append, args := #[s, x], argTypes := #[49, 49] })
    (v : Value) (xs : List Int) (hs : a.eval s = v) (hr : IsBytes v xs L) (hO : Own w0 w (L ++ R))
    (xv : Value) (ys : List Int) (hx : a.eval x = xv) (hV : Bs w xv ys) (h63 : xs.length + ys.length ≤ 1073741824)
    (h : ∀ v' w' L', IsBytes v' (xs ++ ys) L' → Own w0 w' (L' ++ R) → wpList Tryd.prog ops Q rest (a.put op.dst v') w') : wpList Tryd.prog ops Q (op :: rest) a w := by
  refine wl_appendV hgd s x _ ho _ _ 1 Tryd.underlying49 byte_info (by rfl) v xs.length (bv xs) hs hr hO xv (bv ys) hx hV.vs (one_bv _) (by simp only [length_bv, maxLen]; omega) (by simp only [length_bv]; omega) ?_
  intro v' w' L' hr' hO'
  refine h v' w' L' ?_ hO'
  unfold IsBytes
  rw [List.length_append, bv_append]
  simpa using hr'
theorem wl_appendZB (hgd : op.guard = none) (s x : Operand)
    (ho : op.op = .call { callee := .builtin .append, args := #[s, x], argTypes := #[49, 3] })
    (v : Value) (xs : List Int) (hs : a.eval s = v) (hr : IsBytes v xs L) (hO : Own w0 w (L ++ R))
    (m : Nat) (hx : a.eval x = .int .i64 (m : Int)) (h63 : xs.length + m ≤ 1073741824)
    (h : ∀ v' w' L', IsBytes v' (xs ++ List.replicate m 0) L' → Own w0 w' (L' ++ R) → wpList Tryd.prog ops Q rest (a.put op.dst v') w') : wpList Tryd.prog ops Q (op :: rest) a w := by
  refine wl_appendZ hgd s x _ _ ho _ .i64 _ 1 Tryd.underlying49 Tryd.underlying3 byte_info (by rfl) (by rfl) v xs.length (bv xs) hs hr hO m hx (by simp only [maxLen]; omega) (by omega) ?_
  intro v' w' L' hr' hO'
  refine h v' w' L' ?_ hO'
  unfold IsBytes
  rw [List.length_append, bv_append, List.length_replicate]
  simpa [bv] using hr'
end
end Go.Proofs.YtkmfbfmmlldphaaDoor
