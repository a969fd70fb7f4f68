/-
  Package head: Forbidden; headers in a row: Get.
-/
import Derived.Test.YtkmfbfmmlldphaaDoorHead1
import Derived.Test.YtkmfbfmmlldphaaDoorBld
namespace Go.Proofs.YtkmfbfmmlldphaaDoor
set_option linter.unusedVariables false
set_option linter.unusedSimpArgs false
set_option maxRecDepth 20000
open Go.RowKit

/-- A string held against a constant, as the walk compares them. -/
theorem beq_lit8 (o : ByteArray) (l : List UInt8) (m : List Int) (h : l.map (fun b => (b.toNat : Int)) = m) : (o.toList == l) = decide (sb o = m) := by
  have h1 := beq_sb o ⟨l.toArray⟩
  have h2 : (⟨l.toArray⟩ : ByteArray).toList = l := by rw [ByteArray.toList_eq]
  have h3 : sb ⟨l.toArray⟩ = m := by rw [← h]; rfl
  rw [h2, h3] at h1
  exact h1

/-! ### headers in a row -/
abbrev HBL := List (ByteArray × ByteArray)
def hv2 (h : ByteArray × ByteArray) : List Value := [.string h.1, .string h.2]
def hv (hs : HBL) : List Value := hs.flatMap hv2
theorem length_hv : ∀ hs : HBL, (hv hs).length = hs.length * 2
  | [] => rfl
  | h :: hs => by rw [hv, List.flatMap_cons, List.length_append, ← hv, length_hv hs, hv2]; simp; omega
theorem one_hv2 (h : ByteArray × ByteArray) : ∀ v ∈ hv2 h, v.oneCell' = true := by
  intro v hv; simp only [hv2, List.mem_cons, List.not_mem_nil, or_false] at hv; rcases hv with rfl | rfl <;> rfl
theorem one_hv (hs : HBL) : ∀ v ∈ hv hs, v.oneCell' = true := by
  intro v hm; rw [hv, List.mem_flatMap] at hm; obtain ⟨h, _, hm⟩ := hm; exact one_hv2 h v hm
theorem hv_append (a b : HBL) : hv (a ++ b) = hv a ++ hv b := by unfold hv; rw [List.flatMap_append]
theorem hv_at : ∀ (hs : HBL) (k : Nat) (h : ByteArray × ByteArray), hs[k]? = some h → ∀ j v, (hv2 h)[j]? = some v → (hv hs)[k * 2 + j]? = some v
  | [], k, h, e, _, _, _ => by cases e
  | x :: hs, 0, h, e, j, v, hj => by
    simp only [List.getElem?_cons_zero, Option.some.injEq] at e
    subst e
    rw [hv, List.flatMap_cons]
    have : 0 * 2 + j = j := by omega
    rw [this, List.getElem?_append_left (List.getElem?_eq_some_iff.1 hj).1]
    exact hj
  | x :: hs, k + 1, h, e, j, v, hj => by
    rw [List.getElem?_cons_succ] at e
    rw [hv, List.flatMap_cons, List.getElem?_append_right (by simp [hv2]; omega)]
    have : (k + 1) * 2 + j - (hv2 x).length = k * 2 + j := by simp [hv2]; omega
    rw [this]
    exact hv_at hs k h e j v hj
/-- The slice value v holds the headers hs, in world w (whoever owns them). -/
def Hs (w : World) (v : Value) (hs : HBL) : Prop :=
  ∃ A n c, v = .slice A n c ∧ hs.length = n ∧ n ≤ c ∧ (0 < n → ∃ g, A = some ⟨g, 0, none⟩ ∧ ∀ j h, hs[j]? = some h → w.rangeAt g (j * 2) (hv2 h))
def HRd (w0 : World) (R : Blks) (v : Value) (hs : HBL) : Prop := ∀ w' L', Own w0 w' (L' ++ R) → Hs w' v hs
theorem HRd.grow {w0 : World} {R R' : Blks} {v : Value} {xs : HBL} (h : HRd w0 R v xs) (hs : R.Sublist R') : HRd w0 R' v xs := fun w' L' hO => h w' [] (hO.right.sub hs)
theorem HRd.at_ {w0 w' : World} {R L' : Blks} {g n c : Nat} {xs : HBL} (h : HRd w0 R (.slice (some ⟨g, 0, none⟩) n c) xs) (hO : Own w0 w' (L' ++ R)) {j : Nat} {x : ByteArray × ByteArray} (hx : xs[j]? = some x) : w'.rangeAt g (j * 2) (hv2 x) := by
  obtain ⟨A, n', c', e, hn, _, hA⟩ := h w' L' hO
  cases e
  obtain ⟨g', e, hc⟩ := hA (by have := (List.getElem?_eq_some_iff.1 hx).1; omega)
  cases e
  exact hc j x hx
theorem hrd_nil {w0 : World} {R : Blks} : HRd w0 R (.slice none 0 0) [] := fun w' L' hO => ⟨_, _, _, rfl, rfl, Nat.le_refl _, fun h => absurd h (by omega)⟩
def matchI (name : List Int) (h : ByteArray × ByteArray) : Bool := decide (lowL (sb h.1) = lowL name)
def getI (name : List Int) (hs : HBL) : Option ByteArray := (hs.find? (matchI name)).map (·.2)
theorem getI_drop {name : List Int} {hs : HBL} {k : Nat} {h : ByteArray × ByteArray} (e : hs[k]? = some h) : getI name (hs.drop k) = if matchI name h then some h.2 else getI name (hs.drop (k + 1)) := by
  have hk := (List.getElem?_eq_some_iff.1 e)
  obtain ⟨hk, rfl⟩ := hk
  rw [List.drop_eq_getElem_cons hk]
  unfold getI
  rw [List.find?_cons]
  split <;> rename_i hm <;> simp [hm]
theorem head_size : (Tryd.prog.info? 30).map (·.size) = some 2 := by kernel_rfl
theorem head_info : (Tryd.prog.info? 30).map (fun i => (i.zero, i.size, i.bytes)) = some (some (.agg #[.string ⟨#[]⟩, .string ⟨#[]⟩]), 2, 32) := by kernel_rfl
theorem alloc_head (w : World) : (Instr.alloc 30 true (.tuple #[])).run Tryd.prog w = .ok (.pointer (some ⟨w.heap.size, 0, none⟩)) (w.alloc (.cells (hv2 (⟨#[]⟩, ⟨#[]⟩)).toArray 30)) := by kernel_rfl
/-- Headers in a block of the call's own. -/
def IsHeads (v : Value) (hs : HBL) (L : Blks) : Prop := IsRow 30 2 v hs.length (hv hs) L
theorem isHeads_nil : IsHeads (.slice none 0 0) [] [] := ⟨rfl, .inl ⟨rfl, rfl, rfl⟩⟩
theorem IsHeads.hrd {w0 : World} {R R' : Blks} {v : Value} {hs : HBL} (h : IsHeads v hs R) (hs' : R.Sublist R') : HRd w0 R' v hs := by
  intro w' L' hO
  have hO2 := hO.right.sub hs'
  rcases h.2 with ⟨rfl, h0, rfl⟩ | ⟨g, cap, sp, rfl, rfl, hl, hn, hm⟩
  · exact ⟨_, _, _, rfl, h0, Nat.le_refl _, fun h => absurd h (by omega)⟩
  · refine ⟨_, _, _, rfl, rfl, hn, fun _ => ⟨g, rfl, fun j x hx i v hv => ?_⟩⟩
    rw [hO2.cell (.head _)]
    simp only [List.getElem?_toArray]
    have := hv_at hs j x hx i v hv
    rw [List.getElem?_append_left (List.getElem?_eq_some_iff.1 this).1]
    exact this
end Go.Proofs.YtkmfbfmmlldphaaDoor
