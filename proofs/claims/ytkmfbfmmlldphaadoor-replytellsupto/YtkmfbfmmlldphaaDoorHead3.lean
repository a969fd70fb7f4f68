/-
  Headers appended to a row of the call's own, one by one.
-/
import Derived.Test.YtkmfbfmmlldphaaDoorHead2
import Derived.Test.YtkmfbfmmlldphaaDoorOps2
namespace Go.Proofs.YtkmfbfmmlldphaaDoor
set_option linter.unusedVariables false
set_option linter.unusedSimpArgs false
set_option maxRecDepth 20000
open Go.RowKit

theorem build_head (w : World) (p q : ByteArray) : (Instr.build 30 #[(0, .string p), (1, .string q)]).run Tryd.prog w = .ok (.agg #[.string p, .string q]) w := by kernel_rfl
theorem build_heads1 (w : World) (p q : ByteArray) : (Instr.buildSlice 22 1 #[(0, .agg #[.string p, .string q])]).run Tryd.prog w = .ok (.slice (some ⟨w.heap.size, 0, none⟩) 1 1) (w.alloc (.cells (hv2 (p, q)).toArray 30)) := by kernel_rfl
theorem build_byte1 (w : World) (y : Int) : (Instr.buildSlice 49 1 #[(0, .int .u8 y)]).run Tryd.prog w = .ok (.slice (some ⟨w.heap.size, 0, none⟩) 1 1) (w.alloc (.cells (bv [y]).toArray 5)) := by kernel_rfl
section
variable {w0 w : World} {L R : Blks} {ops : Array Oper} {rest : List Oper} {op : Oper} {a : Act} {Q : Exit → Act → World → Prop}
theorem wl_appendH1 (hgd : op.guard = none) (s x : Operand)
    (ho : op.op = .call { callee := .builtin .append, args := #[s, x], argTypes := #[22, 22] })
    (v : Value) (hs : HBL) (hv' : a.eval s = v) (hr : IsHeads v hs L) (hO : Own w0 w (L ++ R))
    (g c : Nat) (h : ByteArray × ByteArray) (hx : a.eval x = .slice (some ⟨g, 0, none⟩) 1 c) (hm : (g, Obj.cells (hv2 h).toArray 30) ∈ R) (h63 : hs.length + 1 ≤ 1073741824)
    (k : ∀ v' w' L', IsHeads v' (hs ++ [h]) L' → Own w0 w' (L' ++ R) → wpList Tryd.prog ops Q rest (a.put op.dst v') w') : wpList Tryd.prog ops Q (op :: rest) a w := by
  refine wl_append hgd s x _ ho _ _ 2 32 Tryd.underlying22 head_info (by rfl) (by omega) v hs.length (hv hs) hv' hr hO ⟨g, 0, none⟩ 1 c (hv2 h) hx (by rfl) (fun j u hu => ?_) (one_hv2 h) (by simp only [maxLen]; omega) (by omega) ?_
  · rw [addr_add_zero, hO.cell (List.mem_append_right _ hm) j]
    simpa using hu
  · intro v' w' L' hr' hO' _
    refine k v' w' L' ?_ hO'
    unfold IsHeads
    rw [List.length_append, hv_append]
    simpa [hv] using hr'
end
end Go.Proofs.YtkmfbfmmlldphaaDoor
