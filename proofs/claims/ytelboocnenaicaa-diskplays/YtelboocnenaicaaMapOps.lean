/-
  Maps of the call's own, by what they hold: 'Has'. No program is named here.
-/
import Derived.Test.YtelboocnenaicaaOps2
import Derived.Maps.Own
import Derived.Maps.OwnSet
namespace Go.Proofs.Ytelboocnenaicaa
set_option linter.unusedVariables false
set_option linter.unusedSimpArgs false
set_option maxRecDepth 20000
open Go.RowKit Go.ChangeMaps Go.MapKept
open Go.Maps (Keyed)

def Has (es : Array MapEntry) (k v : Value) : Prop := ∃ e ∈ es.toList, e.key = k ∧ e.val = v
structure GoodMap (P : Program) (k : TypeId) (es : Array MapEntry) (clock : Nat) : Prop where
  keys : ∀ e ∈ es.toList, ∃ l, keyOf P k e.key = some l
  st : Stamped es clock
section
variable {P : Program} {k : TypeId} {es : Array MapEntry} {clock : Nat}
theorem goodMap_nil : GoodMap P k #[] 0 := ⟨by simp, stamped_empty 0⟩
theorem has_nil (a v : Value) : ¬ Has #[] a v := by rintro ⟨e, he, _⟩; simp at he
theorem GoodMap.one (G : GoodMap P k es clock) {e e' : MapEntry} (h : e ∈ es.toList) (h' : e' ∈ es.toList) (hk : e.key = e'.key) : e = e' := by
  obtain ⟨i, hi, rfl⟩ := List.mem_iff_getElem.1 h
  obtain ⟨j, hj, rfl⟩ := List.mem_iff_getElem.1 h'
  have hp := List.pairwise_iff_getElem.1 ((stamped_iff es clock).1 G.st).2.2
  rcases Nat.lt_trichotomy i j with hlt | rfl | hgt
  · exact absurd hk (hp i j hi hj hlt)
  · rfl
  · exact absurd hk.symm (hp j i hj hi hgt)
theorem GoodMap.fn (G : GoodMap P k es clock) {a v v' : Value} (h : Has es a v) (h' : Has es a v') : v = v' := by
  obtain ⟨e, he, rfl, rfl⟩ := h
  obtain ⟨e', he', hk, rfl⟩ := h'
  rw [G.one he' he hk]
theorem run_look {w : World} {t e : TypeId} {b : Nat} (K : Keyed P k) (ht : P.underlying t = some (.map k e)) {z : Value} (hz : (zeroValue e).run P w = .ok z w) (hb : w.heap[b]? = some (.map es clock)) (G : GoodMap P k es clock) {key : Value} {kl : Lit} (hkey : keyOf P k key = some kl) :
    ∃ v, (Instr.lookup t (.map (some b)) key false).run P w = .ok v w ∧ (Has es key v ∨ ((∀ v', ¬ Has es key v') ∧ v = z)) := by
  rcases K.find w hkey es.toList G.keys with ⟨h1, h2⟩ | ⟨j, e0, h1, h2, h3⟩
  · exact ⟨z, by simp [Instr.lookup, run_underlying ht, MapKept.run_getObj_map hb, K.check w _ hkey, h1, hz, Result.andThen], .inr ⟨fun v' ⟨x, hx, hk, _⟩ => h2 x hx hk, rfl⟩⟩
  · exact ⟨e0.val, by simp [Instr.lookup, run_underlying ht, MapKept.run_getObj_map hb, K.check w _ hkey, h1, Result.andThen], .inl ⟨e0, List.mem_of_getElem? h2, h3, rfl⟩⟩
theorem mem_modify {f : MapEntry → MapEntry} {j : Nat} {x : MapEntry} : x ∈ (es.modify j f).toList ↔ ∃ (i : Nat) (y : MapEntry), es.toList[i]? = some y ∧ x = if i = j then f y else y := by
  rw [List.mem_iff_getElem?]
  constructor
  · rintro ⟨i, hi⟩
    rw [Array.getElem?_toList, Array.getElem?_modify] at hi
    cases hy : es[i]? with
    | none => simp [hy] at hi
    | some y =>
      refine ⟨i, y, by rw [Array.getElem?_toList]; exact hy, ?_⟩
      rw [hy] at hi
      by_cases e : i = j
      · subst e; simp at hi; simp [hi]
      · have e' : ¬ j = i := fun h => e h.symm
        simp [e'] at hi; simp [e, hi]
  · rintro ⟨i, y, hy, rfl⟩
    refine ⟨i, ?_⟩
    rw [Array.getElem?_toList] at hy ⊢
    rw [Array.getElem?_modify, hy]
    by_cases e : i = j
    · subst e; simp
    · have e' : ¬ j = i := fun h => e h.symm
      simp [e, e']
theorem run_upd {w : World} {t e : TypeId} {b : Nat} (K : Keyed P k) (ht : P.underlying t = some (.map k e)) (hb : w.heap[b]? = some (.map es clock)) (G : GoodMap P k es clock) {key val : Value} {kl : Lit} (hkey : keyOf P k key = some kl) :
    ∃ es' clock', (Instr.mapUpdate t (.map (some b)) key val).run P w = .ok () (setBlock w b (.map es' clock')) ∧ GoodMap P k es' clock' ∧ ∀ a v, Has es' a v ↔ (a = key ∧ v = val) ∨ (a ≠ key ∧ Has es a v) := by
  rcases K.find w hkey es.toList G.keys with ⟨h1, h2⟩ | ⟨j, e0, h1, h2, h3⟩
  · refine ⟨es.push ⟨key, val, clock⟩, clock + 1, ?_, ⟨?_, stamped_push G.st h2⟩, fun a v => ?_⟩
    · simp [Instr.mapUpdate, run_underlying ht, MapKept.run_getObj_map hb, K.check w false hkey, h1, MapKept.run_setObj_map _ hb, Result.andThen, setBlock]
    · intro x hx
      simp only [Array.toList_push, List.mem_append, List.mem_singleton] at hx
      rcases hx with hx | rfl
      · exact G.keys x hx
      · exact ⟨_, hkey⟩
    · constructor
      · rintro ⟨x, hx, rfl, rfl⟩
        simp only [Array.toList_push, List.mem_append, List.mem_singleton] at hx
        rcases hx with hx | rfl
        · exact .inr ⟨h2 x hx, x, hx, rfl, rfl⟩
        · exact .inl ⟨rfl, rfl⟩
      · rintro (⟨rfl, rfl⟩ | ⟨_, x, hx, rfl, rfl⟩)
        · exact ⟨⟨a, v, clock⟩, by simp, rfl, rfl⟩
        · exact ⟨x, by simp; exact .inl (by simpa using hx), rfl, rfl⟩
  · have hj : es[j]? = some e0 := by rw [← Array.getElem?_toList]; exact h2
    have hm0 : e0 ∈ es.toList := List.mem_of_getElem? h2
    refine ⟨es.modify j fun e => { e with key := key, val := val }, clock, ?_, ⟨?_, stamped_modify G.st j _ (fun _ _ => rfl) (fun e _ he => ?_)⟩, fun a v => ?_⟩
    · have hs := K.stays w hkey
      simp [Instr.mapUpdate, run_underlying ht, MapKept.run_getObj_map hb, K.check w false hkey, h1, hj, h3, hs, MapKept.run_setObj_map _ hb, Result.andThen, setBlock]
    · intro x hx
      obtain ⟨i, y, hy, rfl⟩ := mem_modify.1 hx
      split
      · exact ⟨_, hkey⟩
      · exact G.keys y (List.mem_of_getElem? hy)
    · rw [hj] at he; cases he; exact h3.symm
    · constructor
      · rintro ⟨x, hx, rfl, rfl⟩
        obtain ⟨i, y, hy, rfl⟩ := mem_modify.1 hx
        by_cases e : i = j
        · rw [if_pos e]; exact .inl ⟨rfl, rfl⟩
        · rw [if_neg e]
          refine .inr ⟨fun hk => e ?_, y, List.mem_of_getElem? hy, rfl, rfl⟩
          have hp := List.pairwise_iff_getElem.1 ((stamped_iff es clock).1 G.st).2.2
          obtain ⟨hi, rfl⟩ := List.getElem?_eq_some_iff.1 hy
          obtain ⟨hj', rfl⟩ := List.getElem?_eq_some_iff.1 h2
          rcases Nat.lt_trichotomy i j with hlt | rfl | hgt
          · exact absurd (hk.trans h3.symm) (hp i j hi hj' hlt)
          · rfl
          · exact absurd (h3.trans hk.symm) (hp j i hj' hi hgt)
      · rintro (⟨rfl, rfl⟩ | ⟨hne, x, hx, rfl, rfl⟩)
        · exact ⟨{ e0 with key := a, val := v }, mem_modify.2 ⟨j, e0, h2, by simp⟩, rfl, rfl⟩
        · obtain ⟨i, hi⟩ := List.mem_iff_getElem?.1 hx
          refine ⟨x, mem_modify.2 ⟨i, x, hi, ?_⟩, rfl, rfl⟩
          rw [if_neg]
          rintro rfl
          rw [h2] at hi
          cases hi
          exact hne h3
end
section
variable {P : Program} {w0 w : World} {L R : Blks} {ops : Array Oper} {rest : List Oper} {op : Oper} {a : Act} {Q : Exit → Act → World → Prop} {k e : TypeId} {es : Array MapEntry} {clock : Nat}
theorem wl_makeMap (hgd : op.guard = none) (t : TypeId) (ho : op.op = .makeMap t none) (hO : Own w0 w L)
    (h : ∀ g w', Own w0 w' ((g, .map #[] 0) :: L) → wpList P ops Q rest (a.put op.dst (.map (some g))) w') : wpList P ops Q (op :: rest) a w :=
  wl_new hgd hO (.map #[] 0) (fun g => .map (some g)) (by simp [execOp, ho, run_makeMap]) h
theorem wl_look (hgd : op.guard = none) (t : TypeId) (m x : Operand) (ho : op.op = .lookup t m x false) (K : Keyed P k) (ht : P.underlying t = some (.map k e)) (z : Value) (hz : (zeroValue e).run P w = .ok z w)
    (hO : Own w0 w L) (g : Nat) (hm : (g, Obj.map es clock) ∈ L) (G : GoodMap P k es clock) (ha : a.eval m = .map (some g)) (key : Value) (hx : a.eval x = key) (kl : Lit) (hkey : keyOf P k key = some kl)
    (h : ∀ v, (Has es key v ∨ ((∀ v', ¬ Has es key v') ∧ v = z)) → wpList P ops Q rest (a.put op.dst v) w) : wpList P ops Q (op :: rest) a w := by
  obtain ⟨v, hrun, hv⟩ := run_look K ht hz (hO.heap hm) G hkey
  exact wl_val hgd v (by simp [execOp, ho, ha, hx, hrun]) (h v hv)
theorem wl_upd (hgd : op.guard = none) (t : TypeId) (m x v : Operand) (ho : op.op = .mapUpdate t m x v) (K : Keyed P k) (ht : P.underlying t = some (.map k e))
    (hO : Own w0 w L) (i : Nat) (g : Nat) (hi : L[i]? = some (g, Obj.map es clock)) (G : GoodMap P k es clock) (ha : a.eval m = .map (some g)) (key val : Value) (hx : a.eval x = key) (hv : a.eval v = val) (kl : Lit) (hkey : keyOf P k key = some kl)
    (h : ∀ w' es' clock', Own w0 w' (L.set i (g, .map es' clock')) → GoodMap P k es' clock' → (∀ a v, Has es' a v ↔ (a = key ∧ v = val) ∨ (a ≠ key ∧ Has es a v)) → wpList P ops Q rest (a.put op.dst undef) w') : wpList P ops Q (op :: rest) a w := by
  have hb := hO.heap (List.mem_of_getElem? hi)
  obtain ⟨es', clock', hrun, G', hh⟩ := run_upd (val := val) K ht hb G hkey
  refine wpList_plain hgd fun K' hK' => ?_
  unfold Oper.wp
  simp [execOp, ho, ha, hx, hv, hrun, Result.andThen]
  refine hK' _ _ (h _ es' clock' (hO.updAt i hi ⟨rfl, rfl, rfl, by simp [setBlock], fun j _ hj => heap_setBlock_other hb _ (fun e => hj (by rw [e]))⟩ (heap_setBlock_same hb _)) G' hh)
end
end Go.Proofs.Ytelboocnenaicaa
