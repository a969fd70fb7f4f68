/-
  What every law's row needs: slices of integers that came in; the row's imports.
-/
import Derived.Test.YtkmfbfmmlldphaaDoorKeep
import Derived.ProofKit
import Derived.OpenShut
import Derived.ShutString
import Derived.ChangeOld
namespace Go.Proofs.YtkmfbfmmlldphaaDoor
set_option linter.unusedVariables false
set_option linter.unusedSimpArgs false
set_option maxRecDepth 20000
open Go.ChangeShapes Go.WideShapes Go.ChangeAt Go.RowKit
open Go.ChangeMaps (open_string shut_string)

theorem laidOut : laidOutB Tryd.prog = true := by kernel_rfl
/-- The law's walk: true, and nothing that was there has turned. -/
def Yes (w : World) (e : Ending) (w' : World) : Prop := e = .returned (.bool true) ∧ Below w.heap.size w w'
/-- A slice of integers that came in: its elements. -/
def InRow (k : IntKind) (w : World) (v : Value) (xs : List Int) : Prop :=
  ∃ A n c, v = .slice A n c ∧ xs.length = n ∧ n ≤ c ∧ c ≤ maxLen ∧ (∀ x ∈ xs, (Lit.int k x).wf = true) ∧
    (0 < n → ∃ ad, A = some ad ∧ ad.block < w.heap.size ∧ ∀ j x, xs[j]? = some x → w.cell? (ad.add j) = some (.int k x))
theorem inRow_nil (k : IntKind) (w : World) : InRow k w (.slice none 0 0) [] := ⟨none, 0, 0, rfl, rfl, Nat.le_refl _, by simp [maxLen], by simp, fun h => absurd h (by omega)⟩
theorem block_of_add (a : Addr) (n : Nat) : (a.add n).block = a.block := by unfold Addr.add; split <;> rfl
theorem inRow_mk {k : IntKind} {w : World} {x : Addr} {len cap : Nat} {zs : List Int} (hl : len ≤ cap) (hm : cap ≤ maxLen) (hz : zs.length = cap)
    (hc : ∀ i, i < zs.length → w.cell? (x.add i) = some (.int k (zs.getD i 0))) (hw : ∀ n ∈ zs, (Lit.int k n).wf = true) : InRow k w (.slice (some x) len cap) (zs.take len) := by
  refine ⟨_, _, _, rfl, by simp; omega, hl, hm, fun y hy => hw y (List.mem_of_mem_take hy), fun h => ⟨x, rfl, ?_, fun j y hy => ?_⟩⟩
  · have := block_lt_of_cell (hc 0 (by omega)); rwa [block_of_add] at this
  · have hj : j < len := by have := (List.getElem?_eq_some_iff.1 hy).1; simp at this; omega
    rw [List.getElem?_take_of_lt hj] at hy
    rw [hc j (by omega)]
    simp [List.getD, hy]
theorem InRow.rdv {k : IntKind} {w : World} {v : Value} {xs : List Int} (h : InRow k w v xs) (R : Blks) : RdV w R v (xs.map (Value.int k)) := by
  intro w' L' hO
  obtain ⟨A, n, c, rfl, hn, hc, _, _, hA⟩ := h
  refine ⟨_, _, _, rfl, by simpa using hn, hc, fun h => ?_⟩
  obtain ⟨ad, rfl, hb, hcell⟩ := hA h
  refine ⟨ad, rfl, fun j u hu => ?_⟩
  simp only [List.getElem?_map, Option.map_eq_some_iff] at hu
  obtain ⟨x, hx, rfl⟩ := hu
  rw [hO.below.cell (by rw [block_of_add]; exact hb)]
  exact hcell j x hx
theorem sub_here {A B : Blks} : A.Sublist (A ++ B) := List.sublist_append_left _ _
theorem sub_there {A B C : Blks} (h : A.Sublist C) : A.Sublist (B ++ C) := h.trans (List.sublist_append_right _ _)
theorem Own.yes {w w' : World} {L : Blks} {e : Ending} (h : Own w w' L) (he : e = .returned (.bool true)) : Yes w e w' := ⟨he, h.below⟩
theorem IsBytes.rd {w0 : World} {v : Value} {xs : List Int} {L R : Blks} (h : IsBytes v xs L) (hs : L.Sublist R) : Rd w0 R v xs := by
  intro w' L' hO
  have h1 : Own w0 w' L := hO.right.sub hs
  exact h.bs (R := []) (by rw [List.append_nil]; exact h1)
theorem IsBytes.bs_sub {w0 w : World} {v : Value} {xs : List Int} {L R : Blks} (h : IsBytes v xs L) (hO : Own w0 w R) (hs : L.Sublist R) : Bs w v xs :=
  h.bs (R := []) (by rw [List.append_nil]; exact hO.sub hs)
theorem IsBytes.blk {v : Value} {xs : List Int} {L : Blks} (h : IsBytes v xs L) (hx : 0 < xs.length) :
    ∃ g cap sp, v = .slice (some ⟨g, 0, none⟩) xs.length cap ∧ L = [(g, .cells (List.toArray (bv xs ++ sp)) 5)] ∧ (∀ ys : List Int, ys.length = xs.length → IsBytes v ys [(g, .cells (List.toArray (bv ys ++ sp)) 5)]) := by
  rcases h.2 with ⟨_, h0, _⟩ | ⟨g, cap, sp, rfl, rfl, hl, hn, hm⟩
  · omega
  · refine ⟨g, cap, sp, rfl, rfl, fun ys hy => ⟨by simp, .inr ⟨g, cap, sp, by rw [hy], rfl, ?_, by omega, hm⟩⟩⟩
    simp only [List.length_append, length_bv] at hl ⊢
    omega
theorem bv_set_sp (xs : List Int) (sp : List Value) (i : Nat) (x : Int) (h : i < xs.length) : (bv xs ++ sp).toArray.setIfInBounds i (.int .u8 x) = (bv (xs.set i x) ++ sp).toArray := by
  simp only [List.setIfInBounds_toArray]
  rw [List.set_append_left _ _ (by simpa using h)]
  simp [bv]
theorem bv_get_sp (xs : List Int) (sp : List Value) (i : Nat) (h : i < xs.length) : (bv xs ++ sp).toArray[i]? = some (.int .u8 xs[i]) := by
  simp only [List.getElem?_toArray]
  rw [List.getElem?_append_left (by simpa using h)]
  simp [bv, h]
end Go.Proofs.YtkmfbfmmlldphaaDoor
