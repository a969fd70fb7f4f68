/-
  A range over a string, its iterator in a block of the call's own; a string's conversion of a rune. No program is named here.
-/
import Derived.Test.YtkmfbfmmlldphaaDoorUtf
import Derived.Laws.RangeAny
import Derived.Laws.Runes
namespace Go.Proofs.YtkmfbfmmlldphaaDoor
set_option linter.unusedVariables false
set_option linter.unusedSimpArgs false
set_option maxRecDepth 20000
open Go.RowKit

section
variable {P : Program} {w0 w : World} {L : Blks} {ops : Array Oper} {rest : List Oper} {op : Oper} {a : Act} {Q : Exit → Act → World → Prop}
theorem wl_rangeS (hgd : op.guard = none) (t : TypeId) (m : Operand) (ho : op.op = .range t m) (ht : P.underlying t = some .string) (hO : Own w0 w L) (s : ByteArray) (ha : a.eval m = .string s)
    (h : ∀ r w', Own w0 w' ((r, .stringIter s 0) :: L) → wpList P ops Q rest (a.put op.dst (.pointer (some ⟨r, 0, none⟩))) w') : wpList P ops Q (op :: rest) a w :=
  wl_new hgd hO (.stringIter s 0) (fun r => .pointer (some ⟨r, 0, none⟩)) (by simp [execOp, ho, ha, run_range_string w t s ht, World.iter]) h
theorem at_set {w : World} {b : Nat} {o o' : Obj} (h : w.heap[b]? = some o) : (w.heap.setIfInBounds b o')[b]? = some o' := by
  simp [Array.getElem?_setIfInBounds, lt_of_heap h]
theorem run_nextS (w : World) (r : Nat) (s : ByteArray) (pos : Nat) (ty : TypeId) (hr : w.heap[r]? = some (.stringIter s pos)) (h : pos < s.size) :
    (Instr.next (.pointer (some ⟨r, 0, none⟩)) true ty).run P w = .ok (.tuple #[.bool true, .int .i64 pos, .int .i32 (Utf8.decode s pos).1]) { w with heap := w.heap.setIfInBounds r (.stringIter s (pos + (Utf8.decode s pos).2)) } := by
  simp only [Instr.next, getObj, setObj, Sem.run_bind, Sem.run, hr, Result.andThen, h, if_true]
  simp [goInt]
theorem run_nextS_end (w : World) (r : Nat) (s : ByteArray) (pos : Nat) (ty : TypeId) (hr : w.heap[r]? = some (.stringIter s pos)) (h : ¬ pos < s.size) :
    (Instr.next (.pointer (some ⟨r, 0, none⟩)) true ty).run P w = .ok (.tuple #[.bool false]) w := by
  simp [Instr.next, getObj, Sem.run, hr, h]
/-- The next rune, by the bytes that are left. -/
theorem wl_nextS (hgd : op.guard = none) (it : Operand) (ho : op.op = .next it true) (hO : Own w0 w L) (i r : Nat) (s : ByteArray) (pos : Nat) (hi : L[i]? = some (r, Obj.stringIter s pos)) (hp : pos < s.size)
    (ha : a.eval it = .pointer (some ⟨r, 0, none⟩))
    (h : ∀ w', Own w0 w' (L.set i (r, .stringIter s (pos + (decI ((sb s).drop pos)).2))) → wpList P ops Q rest (a.put op.dst (.tuple #[.bool true, .int .i64 pos, .int .i32 ((decI ((sb s).drop pos)).1 : Nat)])) w') : wpList P ops Q (op :: rest) a w := by
  have hr := hO.heap (List.mem_of_getElem? hi)
  refine wpList_plain hgd fun K hK => ?_
  have hrun := run_nextS (P := P) w r s pos op.type hr hp
  rw [decode_sb] at hrun
  unfold Oper.wp
  simp [execOp, ho, ha, hrun, Result.andThen]
  refine hK _ _ (h _ (hO.updAt i hi ⟨rfl, rfl, rfl, by simp, fun j _ hj => ?_⟩ (at_set hr)))
  have hne : ¬ r = j := fun e => hj (by rw [e])
  simp [Array.getElem?_setIfInBounds, hne]
/-- Behind the last one. -/
theorem wl_nextS_end (hgd : op.guard = none) (it : Operand) (ho : op.op = .next it true) (hO : Own w0 w L) (i r : Nat) (s : ByteArray) (pos : Nat) (hi : L[i]? = some (r, Obj.stringIter s pos)) (hp : ¬ pos < s.size)
    (ha : a.eval it = .pointer (some ⟨r, 0, none⟩))
    (h : wpList P ops Q rest (a.put op.dst (.tuple #[.bool false])) w) : wpList P ops Q (op :: rest) a w :=
  wl_val hgd _ (by simp [execOp, ho, ha, run_nextS_end (P := P) w r s pos op.type (hO.heap (List.mem_of_getElem? hi)) hp]) h
end
/-! ### strings as their bytes -/
theorem sb_append (s t : ByteArray) : sb (s ++ t) = sb s ++ sb t := by
  unfold sb
  rw [← List.map_append]
  first | rfl | (congr 1)
theorem sb_extract (s : ByteArray) (i j : Nat) : sb (s.extract i j) = ((sb s).take j).drop i := by
  unfold sb
  rw [ByteArray.data_extract, Array.toList_extract, List.extract_eq_take_drop]
  rw [List.map_take, List.map_drop, ← List.map_take, ← List.map_drop, ← List.map_take, ← List.map_drop]
  congr 1
  rw [List.drop_take]
theorem sb_empty : sb ⟨#[]⟩ = [] := rfl
theorem str_nil : strOfNums [] = ⟨#[]⟩ := rfl
theorem str_eq_iff {s t : ByteArray} : s = t ↔ sb s = sb t := ⟨fun h => by rw [h], sb_inj⟩
/-- Two strings alike, as the walk compares them. -/
theorem beq_sb (s t : ByteArray) : (s.toList == t.toList) = decide (sb s = sb t) := by
  rw [← str_sb s, ← str_sb t, sb_str (byt_sb s), sb_str (byt_sb t)]
  exact beq_str (byt_sb s) (byt_sb t)
end Go.Proofs.YtkmfbfmmlldphaaDoor
