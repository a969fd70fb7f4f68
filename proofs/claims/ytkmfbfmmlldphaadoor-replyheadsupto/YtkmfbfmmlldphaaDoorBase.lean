/-
  What the call's own blocks hold, as a list: 'Own w0 w L'. No program is named here.
-/
import Derived.WalkKit
import Derived.WalkSpells
import Derived.WalkLawsBesides
import Derived.StillTailTactics
import Derived.Deep.MidRow
import Derived.Deep.AppendLies
import Derived.Maps.AppendAt
import Derived.Lib.Hide
import Derived.Deep.Draws
namespace Go.Proofs.YtkmfbfmmlldphaaDoor
set_option linter.unusedVariables false
set_option linter.unusedSimpArgs false
set_option maxRecDepth 20000
open Go.RowKit

abbrev Blks := List (Nat × Obj)

/-- Below w0's size all is as in w0; the blocks of L lie above it, are pairwise other ones, and hold what L says. -/
structure Own (w0 w : World) (L : Blks) : Prop where
  below : Below w0.heap.size w0 w
  at_ : ∀ g o, (g, o) ∈ L → w0.heap.size ≤ g ∧ w.heap[g]? = some o
  nodup : (L.map (·.1)).Nodup

theorem lt_of_heap {w : World} {g : Nat} {o : Obj} (h : w.heap[g]? = some o) : g < w.heap.size := by
  rcases Nat.lt_or_ge g w.heap.size with hlt | hge
  · exact hlt
  · rw [Array.getElem?_eq_none hge] at h; cases h

section
variable {w0 w w' : World} {L L' A B C D R : Blks} {g : Nat} {o o' : Obj}

theorem Own.start (w : World) : Own w w [] := ⟨Below.refl _ _, by simp, by simp⟩
theorem Own.heap (h : Own w0 w L) (hm : (g, o) ∈ L) : w.heap[g]? = some o := (h.at_ g o hm).2
theorem Own.lt (h : Own w0 w L) (hm : (g, o) ∈ L) : g < w.heap.size := lt_of_heap (h.heap hm)
theorem Own.base (h : Own w0 w L) (hm : (g, o) ∈ L) : w0.heap.size ≤ g := (h.at_ g o hm).1
theorem Own.perm (h : Own w0 w L) (hp : L.Perm L') : Own w0 w L' :=
  ⟨h.below, fun g o hm => h.at_ g o (hp.mem_iff.2 hm), (hp.map _).nodup_iff.1 h.nodup⟩
theorem Own.sub (h : Own w0 w L) (hp : L'.Sublist L) : Own w0 w L' :=
  ⟨h.below, fun g o hm => h.at_ g o (hp.subset hm), h.nodup.sublist (hp.map _)⟩
theorem Own.tail (h : Own w0 w ((g, o) :: L)) : Own w0 w L := h.sub (List.sublist_cons_self _ _)
theorem Own.right (h : Own w0 w (A ++ L)) : Own w0 w L := h.sub (List.sublist_append_right _ _)
theorem Own.left (h : Own w0 w (A ++ L)) : Own w0 w A := h.sub (List.sublist_append_left _ _)
/-- the second part comes first -/
theorem Own.rot (h : Own w0 w (A ++ (B ++ R))) : Own w0 w (B ++ (A ++ R)) :=
  h.perm (by rw [← List.append_assoc, ← List.append_assoc]; exact (List.perm_append_comm).append_right R)
/-- the third part comes first -/
theorem Own.rot3 (h : Own w0 w (A ++ (B ++ (C ++ R)))) : Own w0 w (C ++ (A ++ (B ++ R))) := by
  have h1 : Own w0 w ((A ++ B) ++ (C ++ R)) := by rw [List.append_assoc]; exact h
  have h2 := h1.rot
  rw [List.append_assoc] at h2
  exact h2
/-- the fourth part comes first -/
theorem Own.rot4 (h : Own w0 w (A ++ (B ++ (C ++ (D ++ R))))) : Own w0 w (D ++ (A ++ (B ++ (C ++ R)))) := by
  have h1 : Own w0 w ((A ++ (B ++ C)) ++ (D ++ R)) := by simpa [List.append_assoc] using h
  have h2 := h1.rot
  simpa [List.append_assoc] using h2
theorem Own.drew (h : Own w0 w L) : Own w0 w.drew L := ⟨h.below.drew, h.at_, h.nodup⟩
theorem Own.drewN (h : Own w0 w L) (n : Nat) : Own w0 (w.drewN n) L := ⟨⟨h.below.os, h.below.tape, h.below.output, h.below.size, h.below.block⟩, h.at_, h.nodup⟩
theorem Own.notin (h : Own w0 w L) (hg : w.heap.size ≤ g) : g ∉ L.map (·.1) := by
  intro hm
  obtain ⟨⟨g', o⟩, hm', e⟩ := List.mem_map.1 hm
  have := h.lt hm'
  simp only at e
  omega
theorem Own.alloc (h : Own w0 w L) (o : Obj) : Own w0 (w.alloc o) ((w.heap.size, o) :: L) where
  below := h.below.alloc h.below.size o
  at_ := by
    intro g o' hm
    rcases List.mem_cons.1 hm with e | hm
    · cases e; exact ⟨h.below.size, heap_alloc_new w o⟩
    · exact ⟨h.base hm, (Below.heap_alloc w o g (h.lt hm)).trans (h.heap hm)⟩
  nodup := by
    simp only [List.map_cons, List.nodup_cons]
    exact ⟨h.notin (Nat.le_refl _), h.nodup⟩
/-- Only block g (at place i of the list), and what is new, has turned. -/
theorem Own.updAt (h : Own w0 w L) (i : Nat) (hi : L[i]? = some (g, o)) (hg : w.grownBy w' (some g)) (h' : w'.heap[g]? = some o') : Own w0 w' (L.set i (g, o')) where
  below := h.below.grown hg h.below.size (fun k hk => by cases hk; exact h.base (List.mem_of_getElem? hi))
  at_ := by
    intro g' o2 hm
    obtain ⟨j, hj⟩ := List.mem_iff_getElem?.1 hm
    have hil := (List.getElem?_eq_some_iff.1 hi).1
    by_cases hji : i = j
    · subst hji
      rw [List.getElem?_set_self hil] at hj
      cases hj
      exact ⟨h.base (List.mem_of_getElem? hi), h'⟩
    · rw [List.getElem?_set_ne hji] at hj
      have hm' := List.mem_of_getElem? hj
      refine ⟨h.base hm', (hg.block g' (h.lt hm') ?_).trans (h.heap hm')⟩
      intro e
      injection e with e
      subst e
      have h1 : (L.map (·.1))[i]? = some g' := by simp [hi]
      have h2 : (L.map (·.1))[j]? = some g' := by simp [hj]
      have hl1 : i < (L.map (·.1)).length := by simpa using hil
      exact hji ((List.getElem?_inj hl1 h.nodup).1 (h1.trans h2.symm))
  nodup := by
    have : (L.set i (g, o')).map (·.1) = L.map (·.1) := by
      apply List.ext_getElem?
      intro j
      by_cases hji : i = j
      · subst hji
        have hil := (List.getElem?_eq_some_iff.1 hi).1
        rw [List.getElem?_map, List.getElem?_set_self hil, List.getElem?_map, hi]; rfl
      · rw [List.getElem?_map, List.getElem?_set_ne hji, List.getElem?_map]
    rw [this]; exact h.nodup
theorem Own.upd (h : Own w0 w ((g, o) :: L)) (hg : w.grownBy w' (some g)) (h' : w'.heap[g]? = some o') : Own w0 w' ((g, o') :: L) := h.updAt 0 rfl hg h'
/-- Nothing of the list has turned. -/
theorem Own.same (h : Own w0 w L) (hb : Below w.heap.size w w') : Own w0 w' L :=
  ⟨h.below.trans (hb.mono h.below.size), fun g o hm => ⟨h.base hm, (hb.block g (h.lt hm)).trans (h.heap hm)⟩, h.nodup⟩
end

section
variable {w0 w : World} {L : Blks} {g : Nat} {cs : Array Value} {t : TypeId}
theorem Own.cell (h : Own w0 w L) (hm : (g, .cells cs t) ∈ L) (j : Nat) : w.cell? ⟨g, j, none⟩ = cs[j]? := cell_of_row w g j cs t (0, 0) (h.heap hm)
theorem Own.frozen (h : Own w0 w L) (hm : (g, .cells cs t) ∈ L) (j : Nat) : w.frozen? ⟨g, j, none⟩ = false := frozen_of_row w g j cs t (h.heap hm)
theorem grownBy_setCell (w : World) (a : Addr) (v : Value) : w.grownBy (w.setCell a v) (some a.block) :=
  ⟨rfl, rfl, rfl, by simp [World.setCell], fun k _ hne => Below.heap_setCell w a v k (fun e => hne (by rw [e]))⟩
theorem Own.setAt (h : Own w0 w L) (i : Nat) (hi : L[i]? = some (g, .cells cs t)) (j : Nat) (v : Value) : Own w0 (w.setCell ⟨g, j, none⟩ v) (L.set i (g, .cells (cs.setIfInBounds j v) t)) :=
  h.updAt i hi (grownBy_setCell w _ v) (by
    have hb := h.heap (List.mem_of_getElem? hi)
    simp [World.setCell, Array.getElem?_modify, hb])
end

/-! ### a run of cells written -/
def wr (cs : List Value) (off : Nat) (vs : List Value) : List Value := cs.take off ++ vs ++ cs.drop (off + vs.length)
theorem length_wr (cs : List Value) (off : Nat) (vs : List Value) (h : off + vs.length ≤ cs.length) : (wr cs off vs).length = cs.length := by simp [wr]; omega
theorem wr_nil (cs : List Value) (off : Nat) : wr cs off [] = cs := by simp [wr]
theorem wr_cons (cs : List Value) (off : Nat) (v : Value) (vs : List Value) (h : off < cs.length) : wr (cs.set off v) (off + 1) vs = wr cs off (v :: vs) := by
  unfold wr
  rw [List.take_set, List.drop_set_of_lt (by omega)]
  have e : (cs.take (off + 1)).set off v = cs.take off ++ [v] := by
    rw [List.take_succ_eq_append_getElem h, List.set_append_right _ _ (by simp; omega)]
    simp [Nat.min_eq_left (Nat.le_of_lt h)]
  rw [e]
  simp [Nat.add_comm, Nat.add_left_comm]
theorem wr_all (cs vs : List Value) (h : vs.length = cs.length) : wr cs 0 vs = vs := by simp [wr, h]
theorem heap_setCells (g : Nat) (t : TypeId) : ∀ (vs : List Value) (off : Nat) (w : World) (cs : List Value), w.heap[g]? = some (.cells cs.toArray t) → off + vs.length ≤ cs.length →
    (w.setCells g off vs).heap[g]? = some (.cells (wr cs off vs).toArray t) ∧ w.grownBy (w.setCells g off vs) (some g)
  | [], off, w, cs, h, _ => by
    rw [wr_nil]; exact ⟨h, ⟨rfl, rfl, rfl, Nat.le_refl _, fun _ _ _ => rfl⟩⟩
  | v :: vs, off, w, cs, h, hl => by
    simp only [List.length_cons] at hl
    have h1 : (w.setCell ⟨g, off, none⟩ v).heap[g]? = some (.cells (cs.set off v).toArray t) := by
      simp [World.setCell, Array.getElem?_modify, h]
    obtain ⟨h2, h3⟩ := heap_setCells g t vs (off + 1) (w.setCell ⟨g, off, none⟩ v) (cs.set off v) h1 (by simp; omega)
    rw [wr_cons cs off v vs (by omega)] at h2
    exact ⟨h2, (grownBy_setCell w ⟨g, off, none⟩ v).trans h3⟩

section
variable {w0 w : World} {L : Blks} {g : Nat} {cs : List Value} {t : TypeId}
theorem Own.setsAt (h : Own w0 w L) (i : Nat) (hi : L[i]? = some (g, .cells cs.toArray t)) (off : Nat) (vs : List Value) (hl : off + vs.length ≤ cs.length) :
    Own w0 (w.setCells g off vs) (L.set i (g, .cells (wr cs off vs).toArray t)) := by
  obtain ⟨h1, h2⟩ := heap_setCells g t vs off w cs (h.heap (List.mem_of_getElem? hi)) hl
  exact h.updAt i hi h2 h1
theorem range_of_heap (hb : w.heap[g]? = some (.cells cs.toArray t)) (off n : Nat) : w.rangeAt g off ((cs.drop off).take n) := fun j v hv => by
  rw [cell_of_row w g _ _ t (0, 0) hb]
  simp only [List.getElem?_take, List.getElem?_drop] at hv
  split at hv
  · simpa using hv
  · cases hv
theorem there_of_heap (hb : w.heap[g]? = some (.cells cs.toArray t)) (off n : Nat) (h : off + n ≤ cs.length) : w.there g off n := fun j hj => by
  rw [cell_of_row w g _ _ t (0, 0) hb, frozen_of_row w g _ _ t hb]
  simp only [List.getElem?_toArray, and_true]
  rw [List.getElem?_eq_getElem (by omega)]; rfl
end

/-! ### bytes -/
def bv (xs : List Int) : List Value := xs.map (Value.int .u8)
@[simp] theorem length_bv (xs : List Int) : (bv xs).length = xs.length := by simp [bv]
theorem one_bv (xs : List Int) : ∀ v ∈ bv xs, v.oneCell' = true := by
  intro v hv; simp only [bv, List.mem_map] at hv; obtain ⟨x, _, rfl⟩ := hv; rfl
theorem bv_append (xs ys : List Int) : bv (xs ++ ys) = bv xs ++ bv ys := by simp [bv]
theorem bv_take (xs : List Int) (n : Nat) : (bv xs).take n = bv (xs.take n) := by simp [bv, List.map_take]
theorem bv_drop (xs : List Int) (n : Nat) : (bv xs).drop n = bv (xs.drop n) := by simp [bv, List.map_drop]

/-- The slice value v holds the bytes xs, in world w (whoever owns them). -/
def Bs (w : World) (v : Value) (xs : List Int) : Prop :=
  ∃ A n c, v = .slice A n c ∧ xs.length = n ∧ n ≤ c ∧ (0 < n → ∃ ad, A = some ad ∧ ∀ j x, xs[j]? = some x → w.cell? (ad.add j) = some (.int .u8 x))
/-- The slice v holds the bytes xs in whatever world has all of w0's blocks, and those of R, as they are. -/
def Rd (w0 : World) (R : Blks) (v : Value) (xs : List Int) : Prop := ∀ w' L', Own w0 w' (L' ++ R) → Bs w' v xs
/-- The slice v holds the one-cell elements vs. -/
def Vs (w : World) (v : Value) (vs : List Value) : Prop :=
  ∃ A n c, v = .slice A n c ∧ vs.length = n ∧ n ≤ c ∧ (0 < n → ∃ ad, A = some ad ∧ ∀ j u, vs[j]? = some u → w.cell? (ad.add j) = some u)
def RdV (w0 : World) (R : Blks) (v : Value) (vs : List Value) : Prop := ∀ w' L', Own w0 w' (L' ++ R) → Vs w' v vs
def iv (xs : List Int) : List Value := xs.map (Value.int .i64)
theorem RdV.src {w0 w' : World} {L' R : Blks} {ad : Addr} {n c : Nat} {vs : List Value} (hb : RdV w0 R (.slice (some ad) n c) vs) (hO : Own w0 w' (L' ++ R)) :
    ∀ j u, vs[j]? = some u → w'.cell? (ad.add j) = some u := by
  intro j v hv
  obtain ⟨A, n', c', e, hn, _, hA⟩ := hb w' L' hO
  injection e with e1 e2 e3
  subst e1 e2 e3
  have hj : j < vs.length := (List.getElem?_eq_some_iff.1 hv).1
  obtain ⟨ad', e, h⟩ := hA (by omega)
  injection e with e
  subst e
  exact h j v hv
theorem addr_add_zero (g j : Nat) : (⟨g, 0, none⟩ : Addr).add j = ⟨g, j, none⟩ := by rw [Addr.add_mid]; simp
theorem Rd.src {w0 w' : World} {L' R : Blks} {ad : Addr} {n c : Nat} {xs : List Int} (hb : Rd w0 R (.slice (some ad) n c) xs) (hO : Own w0 w' (L' ++ R)) :
    ∀ j v, (bv xs)[j]? = some v → w'.cell? (ad.add j) = some v := by
  intro j v hv
  obtain ⟨A, n', c', e, hn, _, hA⟩ := hb w' L' hO
  injection e with e1 e2 e3
  subst e1 e2 e3
  have hj : j < xs.length := by have := (List.getElem?_eq_some_iff.1 hv).1; simpa using this
  obtain ⟨ad', e, h⟩ := hA (by omega)
  injection e with e
  subst e
  simp only [bv, List.getElem?_map, Option.map_eq_some_iff] at hv
  obtain ⟨x, hx, rfl⟩ := hv
  exact h j x hx
end Go.Proofs.YtkmfbfmmlldphaaDoor
