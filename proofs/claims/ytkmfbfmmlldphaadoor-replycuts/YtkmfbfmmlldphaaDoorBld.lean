/-
  Rows that a walk builds: their bytes; blocks put behind, struck out.
-/
import Derived.Test.YtkmfbfmmlldphaaDoorBts
namespace Go.Proofs.YtkmfbfmmlldphaaDoor
set_option linter.unusedVariables false
set_option linter.unusedSimpArgs false
set_option maxRecDepth 20000
open Go.RowKit

theorem bs_one {w0 w : World} {R : Blks} (hO : Own w0 w R) (x : Int) : Bs (w.alloc (.cells (bv [x]).toArray 5)) (.slice (some ⟨w.heap.size, 0, none⟩) 1 1) [x] :=
  (isBytes_whole w.heap.size [x] (by simp)).bs (R := R) (hO.alloc _)
theorem bs_two {w0 w : World} {R : Blks} (hO : Own w0 w R) (x y : Int) : Bs (w.alloc (.cells (bv [x, y]).toArray 5)) (.slice (some ⟨w.heap.size, 0, none⟩) 2 2) [x, y] :=
  (isBytes_whole w.heap.size [x, y] (by simp)).bs (R := R) (hO.alloc _)
theorem Own.put2 {w0 w : World} {L R : Blks} (hO : Own w0 w (L ++ R)) (o : Obj) : Own w0 (w.alloc o) (L ++ ((w.heap.size, o) :: R)) := (hO.alloc o).perm List.perm_middle.symm
theorem Own.strike {w0 w : World} {L R : Blks} {g : Nat} {o : Obj} (hO : Own w0 w (L ++ ((g, o) :: R))) : Own w0 w (L ++ R) := hO.sub ((List.Sublist.refl L).append ((List.Sublist.refl R).cons _))
theorem Own.cast {w0 w : World} {L L' : Blks} (h : Own w0 w L) (e : L = L') : Own w0 w L' := e ▸ h
theorem IsBytes.cast {v : Value} {xs ys : List Int} {L : Blks} (h : IsBytes v xs L) (e : xs = ys) : IsBytes v ys L := e ▸ h
def GotB (w0 : World) (R : Blks) (xs : List Int) (e : Ending) (w' : World) : Prop := ∃ v L, e = .returned v ∧ IsBytes v xs L ∧ Own w0 w' (L ++ R)
theorem bs_new {w0 w : World} {R : Blks} (hO : Own w0 w R) (xs : List Int) (n : Nat) (hn : xs.length = n) (hl : n ≤ 1073741824) : Bs (w.alloc (.cells (bv xs).toArray 5)) (.slice (some ⟨w.heap.size, 0, none⟩) n n) xs := by
  subst hn
  exact (isBytes_whole w.heap.size xs hl).bs (R := R) (hO.alloc _)
end Go.Proofs.YtkmfbfmmlldphaaDoor
