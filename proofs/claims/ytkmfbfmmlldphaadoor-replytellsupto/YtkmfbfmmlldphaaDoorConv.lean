/-
  []byte of a string constant: the row is marked, and reads as before.
-/
import Derived.Test.YtkmfbfmmlldphaaDoorBts
namespace Go.Proofs.YtkmfbfmmlldphaaDoor
set_option linter.unusedVariables false
set_option linter.unusedSimpArgs false
set_option maxRecDepth 20000
open Go.RowKit

/-- A block of bytes that stem from a string. -/
def sblk (g : Nat) (xs : List Int) : Nat × Obj := (g, .cells (bv xs).toArray 5 (xs.length, xs.length + 1))
theorem rd_sblk {w0 : World} {R : Blks} {g n c : Nat} {xs : List Int} (hm : sblk g xs ∈ R) (hn : xs.length = n) (hc : n ≤ c) : Rd w0 R (.slice (some ⟨g, 0, none⟩) n c) xs := by
  intro w' L' hO
  refine ⟨_, _, _, rfl, hn, hc, fun _ => ⟨_, rfl, fun j x hx => ?_⟩⟩
  rw [addr_add_zero, cell_of_row w' g j _ _ _ (hO.heap (List.mem_append_right _ hm))]
  simp [bv, hx]
theorem bs_sblk {w0 w : World} {R : Blks} {g n : Nat} {xs : List Int} (hO : Own w0 w (sblk g xs :: R)) (hn : xs.length = n) : Bs w (.slice (some ⟨g, 0, none⟩) n n) xs := rd_sblk (w0 := w0) (R := sblk g xs :: R) (.head _) hn (Nat.le_refl _) w [] hO
section
variable {w0 w : World} {L : Blks} {ops : Array Oper} {rest : List Oper} {op : Oper} {a : Act} {Q : Exit → Act → World → Prop}
theorem wl_conv (hgd : op.guard = none) (x : Operand) (ho : op.op = .convert 49 49 x) (g n c : Nat) (xs : List Int) (hO : Own w0 w ((g, .cells (bv xs).toArray 5) :: L)) (hx : a.eval x = .slice (some ⟨g, 0, none⟩) n c)
    (h : ∀ w', Own w0 w' (sblk g xs :: L) → wpList Tryd.prog ops Q rest (a.put op.dst (.slice (some ⟨g, 0, none⟩) n c)) w') : wpList Tryd.prog ops Q (op :: rest) a w := by
  have hb := hO.heap (.head _)
  have hsh : w.shape? g = some (5, xs.length) := by
    unfold World.shape?
    rw [hb]
    simp
  refine wpList_plain hgd fun K hK => ?_
  have hrun : (execOp a.eval op).run Tryd.prog w = .ok (.value (.slice (some ⟨g, 0, none⟩) n c)) (w.freeze ⟨g, xs.length, none⟩ 1) := by
    simp [execOp, ho, hx, convert, run_underlying Tryd.underlying49, run_underlying Tryd.underlying5, markStringish, hsh]
  unfold Oper.wp
  rw [hrun]
  refine hK _ _ (h _ (hO.upd ⟨rfl, rfl, rfl, by simp [World.freeze], fun k _ hne => ?_⟩ ?_))
  · unfold World.freeze
    rw [if_neg (by decide)]
    simp only [Array.getElem?_modify]
    rw [if_neg (fun e => hne (by rw [e]))]
  · unfold World.freeze
    rw [if_neg (by decide)]
    simp only [Array.getElem?_modify, hb, if_true, Option.map_some]
    rfl
end
end Go.Proofs.YtkmfbfmmlldphaaDoor
