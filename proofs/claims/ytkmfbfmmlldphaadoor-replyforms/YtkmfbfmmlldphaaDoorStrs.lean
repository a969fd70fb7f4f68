/-
  Slices of strings in blocks of the call's own.
-/
import Derived.Test.YtkmfbfmmlldphaaDoorBld
import Derived.Test.YtkmfbfmmlldphaaDoorStr
namespace Go.Proofs.YtkmfbfmmlldphaaDoor
set_option linter.unusedVariables false
set_option linter.unusedSimpArgs false
set_option maxRecDepth 20000
open Go.RowKit

theorem string_info : (Tryd.prog.info? 9).map (fun i => (i.zero, i.size, i.bytes)) = some (some (.string ⟨#[]⟩), 1, 16) := by kernel_rfl
def sv (ss : List ByteArray) : List Value := ss.map Value.string
@[simp] theorem length_sv (ss : List ByteArray) : (sv ss).length = ss.length := by simp [sv]
theorem one_sv (ss : List ByteArray) : ∀ v ∈ sv ss, v.oneCell' = true := by intro v hv; simp only [sv, List.mem_map] at hv; obtain ⟨x, _, rfl⟩ := hv; rfl
/-- A slice of strings in blocks of its own. -/
def IsStrs (v : Value) (ss : List ByteArray) (L : Blks) : Prop := IsRow 9 1 v ss.length (sv ss) L
theorem isStrs_nil : IsStrs (.slice none 0 0) [] [] := ⟨rfl, .inl ⟨rfl, rfl, rfl⟩⟩
theorem IsStrs.cast {v : Value} {xs ys : List ByteArray} {L : Blks} (h : IsStrs v xs L) (e : xs = ys) : IsStrs v ys L := e ▸ h
theorem IsStrs.val {v : Value} {ss : List ByteArray} {L : Blks} (h : IsStrs v ss L) : ∃ A c, v = .slice A ss.length c := IsRow.val h
theorem IsStrs.vs {w0 w : World} {v : Value} {ss : List ByteArray} {L R : Blks} (h : IsStrs v ss L) (hO : Own w0 w (L ++ R)) : Vs w v (sv ss) := by
  rcases h.2 with ⟨rfl, hn, rfl⟩ | ⟨g, cap, sp, rfl, rfl, hl, hn, hm⟩
  · exact ⟨_, _, _, rfl, by simpa using hn, Nat.le_refl _, fun h => absurd h (by omega)⟩
  · refine ⟨_, _, _, rfl, by simp, hn, fun _ => ⟨_, rfl, fun j x hx => ?_⟩⟩
    rw [addr_add_zero, hO.cell (.head _) j]
    have hj : j < (sv ss).length := (List.getElem?_eq_some_iff.1 hx).1
    simp only [List.getElem?_toArray]
    rw [List.getElem?_append_left hj]
    exact hx
theorem IsStrs.rdv {w0 : World} {v : Value} {ss : List ByteArray} {L R : Blks} (h : IsStrs v ss L) (hs : L.Sublist R) : RdV w0 R v (sv ss) := by
  intro w' L' hO
  have h1 : Own w0 w' L := hO.right.sub hs
  exact h.vs (R := []) (by rw [List.append_nil]; exact h1)
/-- Its first k, in the same blocks. -/
theorem IsStrs.cut {v : Value} {ss : List ByteArray} {L : Blks} (h : IsStrs v ss L) (k : Nat) (hk : k ≤ ss.length) (h0 : 0 < ss.length) : ∃ g c, v = .slice (some ⟨g, 0, none⟩) ss.length c ∧ ss.length ≤ c ∧ c ≤ maxLen ∧ IsStrs (.slice (some ⟨g, 0, none⟩) k c) (ss.take k) L := by
  rcases h.2 with ⟨_, hn, _⟩ | ⟨g, cap, sp, rfl, rfl, hl, hn, hm⟩
  · omega
  · refine ⟨g, cap, rfl, hn, hm, ⟨by simp, .inr ⟨g, cap, (sv ss).drop k ++ sp, by simp [Nat.min_eq_left hk], ?_, ?_, by simp; omega, hm⟩⟩⟩
    · have e : sv (ss.take k) ++ ((sv ss).drop k ++ sp) = sv ss ++ sp := by
        rw [← List.append_assoc]; congr 1
        show List.map _ _ ++ _ = _
        rw [List.map_take]; exact List.take_append_drop k (sv ss)
      rw [e]
    · have e : sv (ss.take k) ++ ((sv ss).drop k ++ sp) = sv ss ++ sp := by
        rw [← List.append_assoc]; congr 1
        show List.map _ _ ++ _ = _
        rw [List.map_take]; exact List.take_append_drop k (sv ss)
      rw [e]; exact hl
theorem vs_new {w : World} {t : TypeId} (vs : List Value) (n : Nat) (hn : vs.length = n) : Vs (w.alloc (.cells vs.toArray t)) (.slice (some ⟨w.heap.size, 0, none⟩) n n) vs := by
  refine ⟨_, _, _, rfl, hn, Nat.le_refl _, fun _ => ⟨_, rfl, fun j u hu => ?_⟩⟩
  rw [addr_add_zero, cell_of_row _ _ j _ _ (0, 0) (heap_alloc_new w _)]
  simpa using hu
section
variable {w0 w : World} {L R : Blks} {ops : Array Oper} {rest : List Oper} {op : Oper} {a : Act} {Q : Exit → Act → World → Prop}
theorem wl_appendT (hgd : op.guard = none) (s x : Operand)
    (ho : op.op = .call { callee := .builtin .append, args := #[s, x], argTypes := #[32, 32] })
    (v : Value) (ss : List ByteArray) (hs : a.eval s = v) (hr : IsStrs v ss L) (hO : Own w0 w (L ++ R))
    (xv : Value) (us : List ByteArray) (hx : a.eval x = xv) (hV : Vs w xv (sv us)) (h63 : ss.length + us.length ≤ 1073741824)
    (h : ∀ v' w' L', IsStrs v' (ss ++ us) L' → Own w0 w' (L' ++ R) → wpList Tryd.prog ops Q rest (a.put op.dst v') w') : wpList Tryd.prog ops Q (op :: rest) a w := by
  refine wl_appendV hgd s x _ ho _ _ 16 Tryd.underlying32 string_info (by rfl) v ss.length (sv ss) hs hr hO xv (sv us) hx hV (one_sv _) (by simp only [length_sv, maxLen]; omega) (by simp only [length_sv]; omega) ?_
  intro v' w' L' hr' hO'
  refine h v' w' L' ?_ hO'
  unfold IsStrs
  rw [List.length_append]
  simpa [sv] using hr'
end
end Go.Proofs.YtkmfbfmmlldphaaDoor
