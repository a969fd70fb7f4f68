/-
  Package url: what its calls answer, as the laws take it.
-/
import Derived.Test.YtakihnmajgmnpaaDoorUrl7
namespace Go.Proofs.YtakihnmajgmnpaaDoor
set_option linter.unusedVariables false
set_option linter.unusedSimpArgs false
set_option maxRecDepth 20000
open Go.RowKit

theorem url_size : (Tryd.prog.info? 25).map (·.size) = some 5 := by kernel_rfl
theorem alloc_url (w : World) : (Instr.alloc 25 true (.tuple #[])).run Tryd.prog w = .ok (.pointer (some ⟨w.heap.size, 0, none⟩)) (w.alloc (.cells UL.zero.val.toArray 25)) := by kernel_rfl
/-- A URL and OK, or none and ErrForm. -/
def GotE (w0 : World) (R : Blks) (o : Option UL) (e : Ending) (w' : World) : Prop := e = .returned (.tuple #[.agg (o.getD UL.zero).val.toArray, .int .i64 (if o.isSome then 0 else 2)]) ∧ Own w0 w' R
/-- Fine but for its path and query. -/
structure UL.Half (u : UL) : Prop where
  sch : u.sch = httpI ∨ u.sch = httpsI
  host : HostOk u.host
  hostB : Byt u.host
  port0 : 0 ≤ u.port
  port1 : u.port < 100000
  path : u.path.length ≤ 1000000000
  query : u.query.length ≤ 1000000000
theorem UL.Fine.half {u : UL} (h : u.Fine) : u.Half := ⟨h.sch, h.host, h.hostB, h.port0, h.port1, by have := h.lens; omega, by have := h.lens; omega⟩
theorem UL.Half.schB {u : UL} (h : u.Half) : Byt u.sch := by rcases h.sch with e | e <;> rw [e]; exact http_byt; exact https_byt
theorem UL.Half.schl {u : UL} (h : u.Half) : u.sch.length ≤ 5 := by rcases h.sch with e | e <;> rw [e] <;> decide
theorem UL.Half.ok {u : UL} (h : u.Half) : u.Ok := ⟨by have := h.schl; omega, by have := h.host.2.1; omega, h.path, h.query, h.port0, by have := h.port1; omega⟩
end Go.Proofs.YtakihnmajgmnpaaDoor
