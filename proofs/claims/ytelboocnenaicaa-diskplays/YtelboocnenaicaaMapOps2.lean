/-
  A range over a map of the call's own, by what has come out: 'Gone'. No program is named here.
-/
import Derived.Test.YtelboocnenaicaaMapOps
import Derived.Maps.RangeRun
namespace Go.Proofs.Ytelboocnenaicaa
set_option linter.unusedVariables false
set_option linter.unusedSimpArgs false
set_option maxRecDepth 20000
open Go.RowKit Go.ChangeMaps Go.MapKept
open Go.Maps (Keyed)

theorem at_setBlock {w : World} {b : Nat} {o o' : Obj} (h : w.heap[b]? = some o) : (setBlock w b o').heap[b]? = some o' := by
  simp [setBlock, Array.getElem?_setIfInBounds, lt_of_heap h]
theorem at_setBlock_other {w : World} {b c : Nat} {o' : Obj} (h : c ≠ b) : (setBlock w b o').heap[c]? = w.heap[c]? := by
  have h' : ¬ b = c := fun e => h e.symm
  simp [setBlock, Array.getElem?_setIfInBounds, h']
/-- What the iterator has handed out. -/
def Gone (es : Array MapEntry) (seen : Array Nat) (k v : Value) : Prop := ∃ e ∈ es.toList, seen.contains e.born = true ∧ e.key = k ∧ e.val = v
/-- What it handed out last. -/
def Last (es : Array MapEntry) (seen : Array Nat) (k v : Value) : Prop := ∃ (s : Array Nat) (e : MapEntry), e ∈ es.toList ∧ seen = s.push e.born ∧ e.key = k ∧ e.val = v
theorem gone_none (es : Array MapEntry) (k v : Value) : ¬ Gone es #[] k v := by rintro ⟨e, _, h, _⟩; simp at h
theorem Gone.has {es : Array MapEntry} {seen : Array Nat} {k v : Value} (h : Gone es seen k v) : Has es k v := by
  obtain ⟨e, he, _, hk, hv⟩ := h; exact ⟨e, he, hk, hv⟩
section
variable {P : Program} {k e : TypeId} {es : Array MapEntry} {clock : Nat} {seen : Array Nat}
theorem gone_push (G : GoodMap P k es clock) {x : MapEntry} (hx : x ∈ es.toList) (a v : Value) : Gone es (seen.push x.born) a v ↔ Gone es seen a v ∨ (a = x.key ∧ v = x.val) := by
  constructor
  · rintro ⟨y, hy, hs, rfl, rfl⟩
    rw [contains_push] at hs
    rw [Bool.or_eq_true] at hs
    rcases hs with h | h
    · exact .inl ⟨y, hy, h, rfl, rfl⟩
    · have := born_inj G.st.2.1 hy hx (by simpa using h)
      subst this; exact .inr ⟨rfl, rfl⟩
  · rintro (⟨y, hy, hs, rfl, rfl⟩ | ⟨rfl, rfl⟩)
    · exact ⟨y, hy, by rw [contains_push, hs]; rfl, rfl, rfl⟩
    · exact ⟨x, hx, by rw [contains_push]; simp, rfl, rfl⟩
variable {w0 w : World} {L : Blks} {ops : Array Oper} {rest : List Oper} {op : Oper} {a : Act} {Q : Exit → Act → World → Prop}
theorem wl_range (hgd : op.guard = none) (t : TypeId) (m : Operand) (ho : op.op = .range t m) (ht : P.underlying t = some (.map k e)) (hO : Own w0 w L) (g : Nat) (hm : (g, Obj.map es clock) ∈ L) (ha : a.eval m = .map (some g))
    (h : ∀ r w', Own w0 w' ((r, .mapIter (some g) clock #[] clock) :: L) → wpList P ops Q rest (a.put op.dst (.pointer (some ⟨r, 0, none⟩))) w') : wpList P ops Q (op :: rest) a w :=
  wl_new hgd hO (.mapIter (some g) clock #[] clock) (fun r => .pointer (some ⟨r, 0, none⟩)) (by simp [execOp, ho, ha, run_range_map w t k e g es clock ht (hO.heap hm)]) h
theorem wl_next (hgd : op.guard = none) (it : Operand) (ho : op.op = .next it false) (hO : Own w0 w L) (i r g : Nat) (hi : L[i]? = some (r, Obj.mapIter (some g) clock seen clock)) (hm : (g, Obj.map es clock) ∈ L) (G : GoodMap P k es clock)
    (ha : a.eval it = .pointer (some ⟨r, 0, none⟩))
    (hdone : (∀ x v, Has es x v → Gone es seen x v) → wpList P ops Q rest (a.put op.dst (.tuple #[.bool false])) w)
    (hstep : ∀ x v seen' w', Own w0 w' (L.set i (r, .mapIter (some g) clock seen' clock)) → (leftOf es seen').size < (leftOf es seen).size → Has es x v → ¬ Gone es seen x v → (∀ x' v', Gone es seen' x' v' ↔ Gone es seen x' v' ∨ (x' = x ∧ v' = v)) → Last es seen' x v →
      wpList P ops Q rest (a.put op.dst (.tuple #[.bool true, x, v])) w') : wpList P ops Q (op :: rest) a w := by
  have hr := hO.heap (List.mem_of_getElem? hi)
  rcases run_next_at (P := P) w op.type r g clock clock seen es clock hr (hO.heap hm) G.st.1 (Nat.le_refl _) with ⟨h0, hrun⟩ | ⟨x, hx, w1, hw1, hrun⟩
  · refine wl_val hgd _ (by simp [execOp, ho, ha, hrun]) (hdone ?_)
    rintro _ _ ⟨y, hy, rfl, rfl⟩
    exact ⟨y, hy, all_seen es seen h0 y hy, rfl, rfl⟩
  · obtain ⟨hxm, hxs⟩ := mem_left hx
    refine wpList_plain hgd fun K' hK' => ?_
    unfold Oper.wp
    simp [execOp, ho, ha, hrun, Result.andThen]
    have hO1 : Own w0 w1 L := by rcases hw1 with rfl | rfl; exact hO; exact hO.drew
    have hr1 := hO1.heap (List.mem_of_getElem? hi)
    refine hK' _ _ (hstep x.key x.val (seen.push x.born) _ (hO1.updAt i hi ⟨rfl, rfl, rfl, by simp [setBlock], fun j _ hj => at_setBlock_other (fun e => hj (by rw [e]))⟩ (at_setBlock hr1)) (left_shrinks es seen x hx) ⟨x, hxm, rfl, rfl⟩ ?_ (gone_push G hxm) ⟨seen, x, hxm, rfl, rfl, rfl⟩)
    rintro ⟨y, hy, hs, hk, _⟩
    have := G.one hy hxm hk
    subst this
    rw [hs] at hxs; cases hxs
theorem wl_entry (hgd : op.guard = none) (it : Operand) (ho : op.op = .entry it) (hO : Own w0 w L) (r g : Nat) (hi : (r, Obj.mapIter (some g) clock seen clock) ∈ L) (hm : (g, Obj.map es clock) ∈ L) (G : GoodMap P k es clock)
    (ha : a.eval it = .pointer (some ⟨r, 0, none⟩)) (x v : Value) (hl : Last es seen x v)
    (h : wpList P ops Q rest (a.put op.dst (.tuple #[x, v])) w) : wpList P ops Q (op :: rest) a w := by
  obtain ⟨s, y, hy, rfl, rfl, rfl⟩ := hl
  exact wl_val hgd _ (by simp [execOp, ho, ha, run_entry_at (P := P) w r g clock s es clock y (hO.heap hi) (hO.heap hm) hy G.st.2.1]) h
end
end Go.Proofs.Ytelboocnenaicaa
