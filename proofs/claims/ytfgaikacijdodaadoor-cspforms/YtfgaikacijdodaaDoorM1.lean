/-
  Texts that the laws stand on: Base, Ops, Lin, Keep, Law.
-/
import Derived.WalkKit
import Derived.WalkSpells
import Derived.WalkLawsBesides
import Derived.StillTailTactics
import Derived.Deep.MidRow
import Derived.Deep.AppendLies
import Derived.Maps.AppendAt
import Derived.Lib.Hide
import Derived.Deep.Draws
import Derived.Laws.CopyOwn
import Derived.OrdersHeld
import Derived.StillTail
import Derived.Test.YtfgaikacijdodaaDoorRows
import Derived.ProofKit
import Derived.OpenShut
import Derived.ShutString
import Derived.ChangeOld

/-
  What the call's own blocks hold, as a list: 'Own w0 w L'. No program is named here.
-/
namespace Go.Proofs.YtfgaikacijdodaaDoor
set_option linter.unusedVariables false
set_option linter.unusedSimpArgs false
set_option maxRecDepth 20000
open Go.RowKit

abbrev Blks := List (Nat × Obj)

/-- Below w0's size all is as in w0; the blocks of L lie above it, are pairwise other ones, and hold what L says. -/
structure Own (w0 w : World) (L : Blks) : Prop where
  below : Below w0.heap.size w0 w
  at_ : ∀ g o, (g, o) ∈ L → w0.heap.size ≤ g ∧ w.heap[g]? = some o
  nodup : (L.map (·.1)).Nodup

theorem lt_of_heap {w : World} {g : Nat} {o : Obj} (h : w.heap[g]? = some o) : g < w.heap.size := by
  rcases Nat.lt_or_ge g w.heap.size with hlt | hge
  · exact hlt
  · rw [Array.getElem?_eq_none hge] at h; cases h

section
variable {w0 w w' : World} {L L' A B C D R : Blks} {g : Nat} {o o' : Obj}

theorem Own.start (w : World) : Own w w [] := ⟨Below.refl _ _, by simp, by simp⟩
theorem Own.heap (h : Own w0 w L) (hm : (g, o) ∈ L) : w.heap[g]? = some o := (h.at_ g o hm).2
theorem Own.lt (h : Own w0 w L) (hm : (g, o) ∈ L) : g < w.heap.size := lt_of_heap (h.heap hm)
theorem Own.base (h : Own w0 w L) (hm : (g, o) ∈ L) : w0.heap.size ≤ g := (h.at_ g o hm).1
theorem Own.perm (h : Own w0 w L) (hp : L.Perm L') : Own w0 w L' :=
  ⟨h.below, fun g o hm => h.at_ g o (hp.mem_iff.2 hm), (hp.map _).nodup_iff.1 h.nodup⟩
theorem Own.sub (h : Own w0 w L) (hp : L'.Sublist L) : Own w0 w L' :=
  ⟨h.below, fun g o hm => h.at_ g o (hp.subset hm), h.nodup.sublist (hp.map _)⟩
theorem Own.tail (h : Own w0 w ((g, o) :: L)) : Own w0 w L := h.sub (List.sublist_cons_self _ _)
theorem Own.right (h : Own w0 w (A ++ L)) : Own w0 w L := h.sub (List.sublist_append_right _ _)
theorem Own.left (h : Own w0 w (A ++ L)) : Own w0 w A := h.sub (List.sublist_append_left _ _)
/-- the second part comes first -/
theorem Own.rot (h : Own w0 w (A ++ (B ++ R))) : Own w0 w (B ++ (A ++ R)) :=
  h.perm (by rw [← List.append_assoc, ← List.append_assoc]; exact (List.perm_append_comm).append_right R)
/-- the third part comes first -/
theorem Own.rot3 (h : Own w0 w (A ++ (B ++ (C ++ R)))) : Own w0 w (C ++ (A ++ (B ++ R))) := by
  have h1 : Own w0 w ((A ++ B) ++ (C ++ R)) := by rw [List.append_assoc]; exact h
  have h2 := h1.rot
  rw [List.append_assoc] at h2
  exact h2
/-- the fourth part comes first -/
theorem Own.rot4 (h : Own w0 w (A ++ (B ++ (C ++ (D ++ R))))) : Own w0 w (D ++ (A ++ (B ++ (C ++ R)))) := by
  have h1 : Own w0 w ((A ++ (B ++ C)) ++ (D ++ R)) := by simpa [List.append_assoc] using h
  have h2 := h1.rot
  simpa [List.append_assoc] using h2
theorem Own.drew (h : Own w0 w L) : Own w0 w.drew L := ⟨h.below.drew, h.at_, h.nodup⟩
theorem Own.drewN (h : Own w0 w L) (n : Nat) : Own w0 (w.drewN n) L := ⟨⟨h.below.os, h.below.tape, h.below.output, h.below.size, h.below.block⟩, h.at_, h.nodup⟩
theorem Own.notin (h : Own w0 w L) (hg : w.heap.size ≤ g) : g ∉ L.map (·.1) := by
  intro hm
  obtain ⟨⟨g', o⟩, hm', e⟩ := List.mem_map.1 hm
  have := h.lt hm'
  simp only at e
  omega
theorem Own.alloc (h : Own w0 w L) (o : Obj) : Own w0 (w.alloc o) ((w.heap.size, o) :: L) where
  below := h.below.alloc h.below.size o
  at_ := by
    intro g o' hm
    rcases List.mem_cons.1 hm with e | hm
    · cases e; exact ⟨h.below.size, heap_alloc_new w o⟩
    · exact ⟨h.base hm, (Below.heap_alloc w o g (h.lt hm)).trans (h.heap hm)⟩
  nodup := by
    simp only [List.map_cons, List.nodup_cons]
    exact ⟨h.notin (Nat.le_refl _), h.nodup⟩
/-- Only block g (at place i of the list), and what is new, has turned. -/
theorem Own.updAt (h : Own w0 w L) (i : Nat) (hi : L[i]? = some (g, o)) (hg : w.grownBy w' (some g)) (h' : w'.heap[g]? = some o') : Own w0 w' (L.set i (g, o')) where
  below := h.below.grown hg h.below.size (fun k hk => by cases hk; exact h.base (List.mem_of_getElem? hi))
  at_ := by
    intro g' o2 hm
    obtain ⟨j, hj⟩ := List.mem_iff_getElem?.1 hm
    have hil := (List.getElem?_eq_some_iff.1 hi).1
    by_cases hji : i = j
    · subst hji
      rw [List.getElem?_set_self hil] at hj
      cases hj
      exact ⟨h.base (List.mem_of_getElem? hi), h'⟩
    · rw [List.getElem?_set_ne hji] at hj
      have hm' := List.mem_of_getElem? hj
      refine ⟨h.base hm', (hg.block g' (h.lt hm') ?_).trans (h.heap hm')⟩
      intro e
      injection e with e
      subst e
      have h1 : (L.map (·.1))[i]? = some g' := by simp [hi]
      have h2 : (L.map (·.1))[j]? = some g' := by simp [hj]
      have hl1 : i < (L.map (·.1)).length := by simpa using hil
      exact hji ((List.getElem?_inj hl1 h.nodup).1 (h1.trans h2.symm))
  nodup := by
    have : (L.set i (g, o')).map (·.1) = L.map (·.1) := by
      apply List.ext_getElem?
      intro j
      by_cases hji : i = j
      · subst hji
        have hil := (List.getElem?_eq_some_iff.1 hi).1
        rw [List.getElem?_map, List.getElem?_set_self hil, List.getElem?_map, hi]; rfl
      · rw [List.getElem?_map, List.getElem?_set_ne hji, List.getElem?_map]
    rw [this]; exact h.nodup
theorem Own.upd (h : Own w0 w ((g, o) :: L)) (hg : w.grownBy w' (some g)) (h' : w'.heap[g]? = some o') : Own w0 w' ((g, o') :: L) := h.updAt 0 rfl hg h'
/-- Nothing of the list has turned. -/
theorem Own.same (h : Own w0 w L) (hb : Below w.heap.size w w') : Own w0 w' L :=
  ⟨h.below.trans (hb.mono h.below.size), fun g o hm => ⟨h.base hm, (hb.block g (h.lt hm)).trans (h.heap hm)⟩, h.nodup⟩
end

section
variable {w0 w : World} {L : Blks} {g : Nat} {cs : Array Value} {t : TypeId}
theorem Own.cell (h : Own w0 w L) (hm : (g, .cells cs t) ∈ L) (j : Nat) : w.cell? ⟨g, j, none⟩ = cs[j]? := cell_of_row w g j cs t (0, 0) (h.heap hm)
theorem Own.frozen (h : Own w0 w L) (hm : (g, .cells cs t) ∈ L) (j : Nat) : w.frozen? ⟨g, j, none⟩ = false := frozen_of_row w g j cs t (h.heap hm)
theorem grownBy_setCell (w : World) (a : Addr) (v : Value) : w.grownBy (w.setCell a v) (some a.block) :=
  ⟨rfl, rfl, rfl, by simp [World.setCell], fun k _ hne => Below.heap_setCell w a v k (fun e => hne (by rw [e]))⟩
theorem Own.setAt (h : Own w0 w L) (i : Nat) (hi : L[i]? = some (g, .cells cs t)) (j : Nat) (v : Value) : Own w0 (w.setCell ⟨g, j, none⟩ v) (L.set i (g, .cells (cs.setIfInBounds j v) t)) :=
  h.updAt i hi (grownBy_setCell w _ v) (by
    have hb := h.heap (List.mem_of_getElem? hi)
    simp [World.setCell, Array.getElem?_modify, hb])
end

/-! ### a run of cells written -/
def wr (cs : List Value) (off : Nat) (vs : List Value) : List Value := cs.take off ++ vs ++ cs.drop (off + vs.length)
theorem length_wr (cs : List Value) (off : Nat) (vs : List Value) (h : off + vs.length ≤ cs.length) : (wr cs off vs).length = cs.length := by simp [wr]; omega
theorem wr_nil (cs : List Value) (off : Nat) : wr cs off [] = cs := by simp [wr]
theorem wr_cons (cs : List Value) (off : Nat) (v : Value) (vs : List Value) (h : off < cs.length) : wr (cs.set off v) (off + 1) vs = wr cs off (v :: vs) := by
  unfold wr
  rw [List.take_set, List.drop_set_of_lt (by omega)]
  have e : (cs.take (off + 1)).set off v = cs.take off ++ [v] := by
    rw [List.take_succ_eq_append_getElem h, List.set_append_right _ _ (by simp; omega)]
    simp [Nat.min_eq_left (Nat.le_of_lt h)]
  rw [e]
  simp [Nat.add_comm, Nat.add_left_comm]
theorem wr_all (cs vs : List Value) (h : vs.length = cs.length) : wr cs 0 vs = vs := by simp [wr, h]
theorem heap_setCells (g : Nat) (t : TypeId) : ∀ (vs : List Value) (off : Nat) (w : World) (cs : List Value), w.heap[g]? = some (.cells cs.toArray t) → off + vs.length ≤ cs.length →
    (w.setCells g off vs).heap[g]? = some (.cells (wr cs off vs).toArray t) ∧ w.grownBy (w.setCells g off vs) (some g)
  | [], off, w, cs, h, _ => by
    rw [wr_nil]; exact ⟨h, ⟨rfl, rfl, rfl, Nat.le_refl _, fun _ _ _ => rfl⟩⟩
  | v :: vs, off, w, cs, h, hl => by
    simp only [List.length_cons] at hl
    have h1 : (w.setCell ⟨g, off, none⟩ v).heap[g]? = some (.cells (cs.set off v).toArray t) := by
      simp [World.setCell, Array.getElem?_modify, h]
    obtain ⟨h2, h3⟩ := heap_setCells g t vs (off + 1) (w.setCell ⟨g, off, none⟩ v) (cs.set off v) h1 (by simp; omega)
    rw [wr_cons cs off v vs (by omega)] at h2
    exact ⟨h2, (grownBy_setCell w ⟨g, off, none⟩ v).trans h3⟩

section
variable {w0 w : World} {L : Blks} {g : Nat} {cs : List Value} {t : TypeId}
theorem Own.setsAt (h : Own w0 w L) (i : Nat) (hi : L[i]? = some (g, .cells cs.toArray t)) (off : Nat) (vs : List Value) (hl : off + vs.length ≤ cs.length) :
    Own w0 (w.setCells g off vs) (L.set i (g, .cells (wr cs off vs).toArray t)) := by
  obtain ⟨h1, h2⟩ := heap_setCells g t vs off w cs (h.heap (List.mem_of_getElem? hi)) hl
  exact h.updAt i hi h2 h1
theorem range_of_heap (hb : w.heap[g]? = some (.cells cs.toArray t)) (off n : Nat) : w.rangeAt g off ((cs.drop off).take n) := fun j v hv => by
  rw [cell_of_row w g _ _ t (0, 0) hb]
  simp only [List.getElem?_take, List.getElem?_drop] at hv
  split at hv
  · simpa using hv
  · cases hv
theorem there_of_heap (hb : w.heap[g]? = some (.cells cs.toArray t)) (off n : Nat) (h : off + n ≤ cs.length) : w.there g off n := fun j hj => by
  rw [cell_of_row w g _ _ t (0, 0) hb, frozen_of_row w g _ _ t hb]
  simp only [List.getElem?_toArray, and_true]
  rw [List.getElem?_eq_getElem (by omega)]; rfl
end

/-! ### bytes -/
def bv (xs : List Int) : List Value := xs.map (Value.int .u8)
@[simp] theorem length_bv (xs : List Int) : (bv xs).length = xs.length := by simp [bv]
theorem one_bv (xs : List Int) : ∀ v ∈ bv xs, v.oneCell' = true := by
  intro v hv; simp only [bv, List.mem_map] at hv; obtain ⟨x, _, rfl⟩ := hv; rfl
theorem bv_append (xs ys : List Int) : bv (xs ++ ys) = bv xs ++ bv ys := by simp [bv]
theorem bv_take (xs : List Int) (n : Nat) : (bv xs).take n = bv (xs.take n) := by simp [bv, List.map_take]
theorem bv_drop (xs : List Int) (n : Nat) : (bv xs).drop n = bv (xs.drop n) := by simp [bv, List.map_drop]

/-- The slice value v holds the bytes xs, in world w (whoever owns them). -/
def Bs (w : World) (v : Value) (xs : List Int) : Prop :=
  ∃ A n c, v = .slice A n c ∧ xs.length = n ∧ n ≤ c ∧ (0 < n → ∃ ad, A = some ad ∧ ∀ j x, xs[j]? = some x → w.cell? (ad.add j) = some (.int .u8 x))
/-- The slice v holds the bytes xs in whatever world has all of w0's blocks, and those of R, as they are. -/
def Rd (w0 : World) (R : Blks) (v : Value) (xs : List Int) : Prop := ∀ w' L', Own w0 w' (L' ++ R) → Bs w' v xs
/-- The slice v holds the one-cell elements vs. -/
def Vs (w : World) (v : Value) (vs : List Value) : Prop :=
  ∃ A n c, v = .slice A n c ∧ vs.length = n ∧ n ≤ c ∧ (0 < n → ∃ ad, A = some ad ∧ ∀ j u, vs[j]? = some u → w.cell? (ad.add j) = some u)
def RdV (w0 : World) (R : Blks) (v : Value) (vs : List Value) : Prop := ∀ w' L', Own w0 w' (L' ++ R) → Vs w' v vs
def iv (xs : List Int) : List Value := xs.map (Value.int .i64)
theorem RdV.src {w0 w' : World} {L' R : Blks} {ad : Addr} {n c : Nat} {vs : List Value} (hb : RdV w0 R (.slice (some ad) n c) vs) (hO : Own w0 w' (L' ++ R)) :
    ∀ j u, vs[j]? = some u → w'.cell? (ad.add j) = some u := by
  intro j v hv
  obtain ⟨A, n', c', e, hn, _, hA⟩ := hb w' L' hO
  injection e with e1 e2 e3
  subst e1 e2 e3
  have hj : j < vs.length := (List.getElem?_eq_some_iff.1 hv).1
  obtain ⟨ad', e, h⟩ := hA (by omega)
  injection e with e
  subst e
  exact h j v hv
theorem addr_add_zero (g j : Nat) : (⟨g, 0, none⟩ : Addr).add j = ⟨g, j, none⟩ := by rw [Addr.add_mid]; simp
theorem Rd.src {w0 w' : World} {L' R : Blks} {ad : Addr} {n c : Nat} {xs : List Int} (hb : Rd w0 R (.slice (some ad) n c) xs) (hO : Own w0 w' (L' ++ R)) :
    ∀ j v, (bv xs)[j]? = some v → w'.cell? (ad.add j) = some v := by
  intro j v hv
  obtain ⟨A, n', c', e, hn, _, hA⟩ := hb w' L' hO
  injection e with e1 e2 e3
  subst e1 e2 e3
  have hj : j < xs.length := by have := (List.getElem?_eq_some_iff.1 hv).1; simpa using this
  obtain ⟨ad', e, h⟩ := hA (by omega)
  injection e with e
  subst e
  simp only [bv, List.getElem?_map, Option.map_eq_some_iff] at hv
  obtain ⟨x, hx, rfl⟩ := hv
  exact h j x hx
end Go.Proofs.YtfgaikacijdodaaDoor
/-
  Operations on memory of the call's own, said by 'Own': behind each the world is a letter. No program is named here.
-/
namespace Go.Proofs.YtfgaikacijdodaaDoor
set_option linter.unusedVariables false
set_option linter.unusedSimpArgs false
set_option maxRecDepth 20000
open Go.RowKit

/-- The slice v is a row of the blocks L from its beginning on: n elements of 'size' cells: xs (nil, and no block, serves for none). -/
def IsRow (e : TypeId) (size : Nat) (v : Value) (n : Nat) (xs : List Value) (L : Blks) : Prop :=
  xs.length = n * size ∧ ((v = .slice none 0 0 ∧ n = 0 ∧ L = []) ∨
    ∃ g cap sp, v = .slice (some ⟨g, 0, none⟩) n cap ∧ L = [(g, .cells (List.toArray (xs ++ sp)) e)] ∧ (xs ++ sp).length = cap * size ∧ n ≤ cap ∧ cap ≤ maxLen)
theorem IsRow.val {e : TypeId} {size n : Nat} {v : Value} {xs : List Value} {L : Blks} (h : IsRow e size v n xs L) : ∃ A c, v = .slice A n c := by
  rcases h.2 with ⟨rfl, rfl, rfl⟩ | ⟨g, cap, sp, rfl, _⟩
  · exact ⟨_, _, rfl⟩
  · exact ⟨_, _, rfl⟩
theorem IsRow.owns {w0 w : World} {e : TypeId} {size n : Nat} {v : Value} {xs : List Value} {L R : Blks} (h : IsRow e size v n xs L) (hO : Own w0 w (L ++ R)) : w.ownsRow w0.heap.size e size v n xs := by
  refine ⟨h.1, ?_⟩
  rcases h.2 with ⟨rfl, rfl, rfl⟩ | ⟨g, cap, sp, rfl, rfl, hl, hn, hm⟩
  · exact .inl ⟨rfl, rfl⟩
  · exact .inr ⟨g, cap, _, rfl, hO.base (.head _), hO.heap (.head _), hn, hm, by simpa using hl, by rw [← h.1]; simp⟩
theorem IsRow.of_owns {w : World} {base : Nat} {e : TypeId} {size n : Nat} {v : Value} {xs : List Value} (h : w.ownsRow base e size v n xs) :
    ∃ L, IsRow e size v n xs L ∧ (∀ g o, (g, o) ∈ L → base ≤ g ∧ w.heap[g]? = some o ∧ v.ownBlock = some g) ∧ L.length ≤ 1 := by
  rcases h.2 with ⟨rfl, rfl⟩ | ⟨g, cap, cur, rfl, hb, hh, hn, hm, hs, ht⟩
  · exact ⟨[], ⟨h.1, .inl ⟨rfl, rfl, rfl⟩⟩, by simp, by simp⟩
  · have e1 : cur.toList = xs ++ cur.toList.drop (n * size) := by rw [← ht]; simp
    refine ⟨[(g, .cells cur e)], ⟨h.1, .inr ⟨g, cap, cur.toList.drop (n * size), rfl, ?_, ?_, hn, hm⟩⟩, ?_, by simp⟩
    · rw [← e1]
    · rw [← e1]; simpa using hs
    · intro g' o hm
      simp at hm
      obtain ⟨rfl, rfl⟩ := hm
      exact ⟨hb, hh, rfl⟩

theorem IsRow.some {e : TypeId} {size n : Nat} {v : Value} {xs : List Value} {L : Blks} (h : IsRow e size v n xs L) (hv : v ≠ .slice none 0 0) :
    ∃ g cap sp, v = .slice (some ⟨g, 0, none⟩) n cap ∧ L = [(g, .cells (List.toArray (xs ++ sp)) e)] ∧ (xs ++ sp).length = cap * size ∧ n ≤ cap ∧ cap ≤ maxLen :=
  h.2.resolve_left fun h => hv h.1
/-- A row that has grown: what else there was is as it was. -/
theorem Own.grow {w0 w w' : World} {e : TypeId} {size n m : Nat} {v v' : Value} {xs ys : List Value} {L R : Blks} (hO : Own w0 w (L ++ R)) (hr : IsRow e size v n xs L)
    (h2 : w'.ownsRow w0.heap.size e size v' m ys) (h3 : w.grownBy w' v.ownBlock) (h5 : v'.ownBlock = v.ownBlock ∨ v'.ownBlock = some w.heap.size) :
    ∃ L', IsRow e size v' m ys L' ∧ Own w0 w' (L' ++ R) := by
  obtain ⟨L', hr', hL', h1⟩ := IsRow.of_owns h2
  refine ⟨L', hr', ?_⟩
  have hvb : ∀ g, v.ownBlock = some g → ∃ o, L = [(g, o)] := by
    intro g hg
    rcases hr.2 with ⟨rfl, rfl, rfl⟩ | ⟨g', cap, sp, rfl, rfl, _⟩
    · simp [Value.ownBlock] at hg
    · simp only [Value.ownBlock, Option.some.injEq] at hg; subst hg; exact ⟨_, rfl⟩
  have hRold : ∀ g o, (g, o) ∈ R → v.ownBlock ≠ some g := by
    intro g o hm hg
    obtain ⟨o', rfl⟩ := hvb g hg
    have hnd := hO.nodup
    simp only [List.cons_append, List.nil_append, List.map_cons, List.nodup_cons] at hnd
    exact hnd.1 (List.mem_map.2 ⟨_, hm, rfl⟩)
  have hOR := hO.right
  refine ⟨?_, ?_, ?_⟩
  · refine hO.below.grown h3 hO.below.size (fun k hk => ?_)
    obtain ⟨o, rfl⟩ := hvb k hk
    exact hO.base (.head _)
  · intro g o hm
    rcases List.mem_append.1 hm with hm | hm
    · exact ⟨(hL' g o hm).1, (hL' g o hm).2.1⟩
    · exact ⟨hOR.base hm, (h3.block g (hOR.lt hm) (fun e => hRold g o hm e.symm)).trans (hOR.heap hm)⟩
  · rw [List.map_append, List.nodup_append]
    refine ⟨?_, hOR.nodup, ?_⟩
    · match L', h1 with
      | [], _ => simp
      | [_], _ => simp
    · intro g hg g' hg' e
      subst e
      obtain ⟨⟨_, o⟩, hm, rfl⟩ := List.mem_map.1 hg
      obtain ⟨⟨_, o'⟩, hm', e⟩ := List.mem_map.1 hg'
      simp only at e
      subst e
      have hb := (hL' _ _ hm).2.2
      have hlt := hOR.lt hm'
      rcases h5 with h5 | h5
      · exact hRold _ _ hm' (h5.symm.trans hb)
      · rw [h5] at hb; injection hb with hb; omega

/-- The blocks L are just the bytes xs that the slice v is of. -/
def IsBytes (v : Value) (xs : List Int) (L : Blks) : Prop := IsRow 5 1 v xs.length (bv xs) L
theorem IsBytes.bs {w0 w : World} {v : Value} {xs : List Int} {L R : Blks} (h : IsBytes v xs L) (hO : Own w0 w (L ++ R)) : Bs w v xs := by
  rcases h.2 with ⟨rfl, hn, rfl⟩ | ⟨g, cap, sp, rfl, rfl, hl, hn, hm⟩
  · exact ⟨_, _, _, rfl, hn, Nat.le_refl _, fun h => absurd h (by omega)⟩
  · refine ⟨_, _, _, rfl, rfl, hn, fun _ => ⟨_, rfl, fun j x hx => ?_⟩⟩
    rw [addr_add_zero, hO.cell (.head _) j]
    have hj : j < xs.length := (List.getElem?_eq_some_iff.1 hx).1
    simp only [List.getElem?_toArray]
    rw [List.getElem?_append_left (by simpa using hj)]
    simp [bv, hx]

section
variable {P : Program} {w0 w : World} {L R : Blks} {ops : Array Oper} {rest : List Oper} {op : Oper} {a : Act} {Q : Exit → Act → World → Prop}

/-- An operation whose guard says yes is as one that has none. -/
theorem wl_g (hw : Region.wanted op (yielded ops a.tmps) = true) (h : wpList P ops Q ({ op with guard := none } :: rest) a w) : wpList P ops Q (op :: rest) a w := by
  simp only [wpList] at h ⊢
  rw [if_pos hw]
  rw [if_pos (by simp [Region.wanted])] at h
  exact h
/-- A run of cells is stored. -/
theorem wl_store (hgd : op.guard = none) (ty : TypeId) (x y : Operand) (ho : op.op = .store ty x y) (hO : Own w0 w L)
    (k : Nat) (g off : Nat) (cs vs : List Value) (t : TypeId) (hk : L[k]? = some (g, .cells cs.toArray t)) (hx : a.eval x = .pointer (some ⟨g, off, none⟩)) (hy : a.eval y = .agg vs.toArray)
    (hi : (P.info? ty).map (·.size) = some vs.length) (h1 : ∀ v ∈ vs, v.oneCell' = true) (hl : off + vs.length ≤ cs.length)
    (h : ∀ w', Own w0 w' (L.set k (g, .cells (wr cs off vs).toArray t)) → wpList P ops Q rest (a.put op.dst undef) w') : wpList P ops Q (op :: rest) a w := by
  have hb := hO.heap (List.mem_of_getElem? hk)
  refine wpList_store_mid hgd ty x y ho g off vs.toArray hx hy (there_of_heap hb off _ (by simpa using hl)) (by simpa using hi) (all_oneCell_toArray h1) ?_
  exact h _ (hO.setsAt k hk off vs hl)
/-- A run of cells is loaded. -/
theorem wl_load (hgd : op.guard = none) (ty : TypeId) (x : Operand) (ho : op.op = .load ty x) (g off : Nat) (cs vs : List Value) (t : TypeId) (hb : w.heap[g]? = some (.cells cs.toArray t))
    (hx : a.eval x = .pointer (some ⟨g, off, none⟩)) (d : TypeDesc) (hu : P.underlying ty = some d) (hd : d.isRow = true) (hi : (P.info? ty).map (·.size) = some vs.length)
    (hv : (cs.drop off).take vs.length = vs)
    (h : wpList P ops Q rest (a.put op.dst (.agg vs.toArray)) w) : wpList P ops Q (op :: rest) a w :=
  wpList_load_mid hgd ty x ho g off hx vs d (by have := range_of_heap hb off vs.length; rwa [hv] at this) hu hd hi h
/-- What makes one new block. -/
theorem wl_new (hgd : op.guard = none) (hO : Own w0 w L) (ob : Obj) (f : Nat → Value) (hrun : (execOp a.eval op).run P w = .ok (.value (f w.heap.size)) (w.alloc ob))
    (h : ∀ g w', Own w0 w' ((g, ob) :: L) → wpList P ops Q rest (a.put op.dst (f g)) w') : wpList P ops Q (op :: rest) a w := by
  refine wpList_plain hgd fun K hK => ?_
  unfold Oper.wp
  rw [hrun]
  exact hK _ _ (h _ _ (hO.alloc ob))
/-- What only reckons. -/
theorem wl_val (hgd : op.guard = none) (v : Value) (hrun : (execOp a.eval op).run P w = .ok (.value v) w) (h : wpList P ops Q rest (a.put op.dst v) w) : wpList P ops Q (op :: rest) a w := by
  refine wpList_plain hgd fun K hK => ?_
  unfold Oper.wp
  rw [hrun]
  exact hK _ _ h
theorem wl_alloc (hgd : op.guard = none) (ty : TypeId) (ho : op.op = .alloc ty) (hO : Own w0 w L) (ob : Obj)
    (hrun : (Instr.alloc ty true (.tuple #[])).run P w = .ok (.pointer (some ⟨w.heap.size, 0, none⟩)) (w.alloc ob))
    (h : ∀ g w', Own w0 w' ((g, ob) :: L) → wpList P ops Q rest (a.put op.dst (.pointer (some ⟨g, 0, none⟩))) w') : wpList P ops Q (op :: rest) a w :=
  wl_new hgd hO ob (fun g => .pointer (some ⟨g, 0, none⟩)) (by simp [execOp, ho, hrun]) h
theorem wl_box (hgd : op.guard = none) (ty : TypeId) (x : Operand) (ho : op.op = .box ty x) (hO : Own w0 w L) (cs : Array Value) (hx : a.eval x = .agg cs)
    (h : ∀ g w', Own w0 w' ((g, .cells cs ty) :: L) → wpList P ops Q rest (a.put op.dst (.pointer (some ⟨g, 0, none⟩))) w') : wpList P ops Q (op :: rest) a w :=
  wl_new hgd hO (.cells cs ty) (fun g => .pointer (some ⟨g, 0, none⟩)) (by simp [execOp, ho, hx, Instr.box, newVar, newRow, Value.cells]) h
theorem wl_build (hgd : op.guard = none) (ty : TypeId) (parts : List (Nat × Operand)) (ho : op.op = .build ty parts.toArray) (v : Value)
    (hrun : (Instr.build ty (parts.map fun p => (p.1, a.eval p.2)).toArray).run P w = .ok v w) (h : wpList P ops Q rest (a.put op.dst v) w) : wpList P ops Q (op :: rest) a w :=
  wl_val hgd v (by simp [execOp, ho, hrun]) h
theorem wl_buildSlice (hgd : op.guard = none) (ty : TypeId) (n : Nat) (parts : List (Nat × Operand)) (ho : op.op = .buildSlice ty n parts.toArray) (hO : Own w0 w L) (ob : Obj)
    (hrun : (Instr.buildSlice ty n (parts.map fun p => (p.1, a.eval p.2)).toArray).run P w = .ok (.slice (some ⟨w.heap.size, 0, none⟩) n n) (w.alloc ob))
    (h : ∀ g w', Own w0 w' ((g, ob) :: L) → wpList P ops Q rest (a.put op.dst (.slice (some ⟨g, 0, none⟩) n n)) w') : wpList P ops Q (op :: rest) a w :=
  wl_new hgd hO ob (fun g => .slice (some ⟨g, 0, none⟩) n n) (by simp [execOp, ho, hrun]) h
theorem wl_makeSlice (hgd : op.guard = none) (ty : TypeId) (x y : Operand) (ho : op.op = .makeSlice ty x y) (hO : Own w0 w L) (ob : Obj) (n c : Nat)
    (hrun : (Instr.makeSlice ty (a.eval x) (a.eval y)).run P w = .ok (.slice (some ⟨w.heap.size, 0, none⟩) n c) (w.alloc ob))
    (h : ∀ g w', Own w0 w' ((g, ob) :: L) → wpList P ops Q rest (a.put op.dst (.slice (some ⟨g, 0, none⟩) n c)) w') : wpList P ops Q (op :: rest) a w :=
  wl_new hgd hO ob (fun g => .slice (some ⟨g, 0, none⟩) n c) (by simp [execOp, ho, hrun]) h
/-- copy into a block of the call's own. -/
theorem wl_copy (hgd : op.guard = none) (d s : Operand) (dT sT : TypeId) (ho : op.op = .call { callee := .builtin .copy, args := #[d, s], argTypes := #[dT, sT] }) (elem : TypeId)
    (hu : P.underlying dT = some (.slice elem)) (hsz : (P.info? elem).map (·.size) = some 1) (hO : Own w0 w L) (k : Nat) (g off : Nat) (cs vs : List Value) (t : TypeId) (hk : L[k]? = some (g, .cells cs.toArray t))
    (dLen dCap : Nat) (ad : Addr) (sLen sCap : Nat) (hd : a.eval d = .slice (some ⟨g, off, none⟩) dLen dCap) (hs : a.eval s = .slice (some ad) sLen sCap) (hn : vs.length = Nat.min sLen dLen)
    (hsrc : ∀ j v, vs[j]? = some v → w.cell? (ad.add j) = some v) (hl : off + vs.length ≤ cs.length) (h1 : ∀ v ∈ vs, v.oneCell' = true)
    (h : ∀ w', Own w0 w' (L.set k (g, .cells (wr cs off vs).toArray t)) → wpList P ops Q rest (a.put op.dst (goInt vs.length)) w') : wpList P ops Q (op :: rest) a w := by
  have hb := hO.heap (List.mem_of_getElem? hk)
  refine wpList_plain hgd fun K hK => ?_
  have hrun := run_copy_cells (P := P) w dT sT op.type elem g off dLen dCap ad sLen sCap vs hu hsz hn hsrc
    (fun j hj => (there_of_heap hb off vs.length hl j hj).1) (fun j hj => (there_of_heap hb off vs.length hl j hj).2) h1
  unfold Oper.wp
  simp [execOp, ho, resolve, invoke, builtin, hd, hs, hrun, Result.andThen]
  exact hK _ _ (h _ (hO.setsAt k hk off vs hl))
/-- A store of one cell. -/
theorem wl_store1 (hgd : op.guard = none) (ty : TypeId) (x y : Operand) (ho : op.op = .store ty x y) (hO : Own w0 w L)
    (k : Nat) (g off : Nat) (cs : Array Value) (v : Value) (t : TypeId) (hk : L[k]? = some (g, .cells cs t)) (hx : a.eval x = .pointer (some ⟨g, off, none⟩)) (hy : a.eval y = v)
    (hv : v.cells = #[v]) (hi : (P.info? ty).map (·.size) = some 1) (h1 : v.oneCell' = true) (hl : off < cs.size)
    (h : ∀ w', Own w0 w' (L.set k (g, .cells (cs.setIfInBounds off v) t)) → wpList P ops Q rest (a.put op.dst undef) w') : wpList P ops Q (op :: rest) a w := by
  have hb := hO.heap (List.mem_of_getElem? hk)
  refine wpList_plain hgd fun K hK => ?_
  have hst := run_storeCells_cells (P := P) g off [v] 0 w (fun j hj => by
      simp only [List.length_singleton] at hj
      obtain rfl : j = 0 := by omega
      rw [cell_of_row w g _ cs t (0, 0) hb]; simp [hl]) (fun j _ => frozen_of_row w g _ cs t hb) (by simpa using h1)
  have hrun : (storeVar ty ⟨g, off, none⟩ v).run P w = .ok () (w.setCell ⟨g, off, none⟩ v) := by
    cases hq : P.info? ty with
    | none => simp [hq] at hi
    | some i =>
      have hs : i.size = 1 := by simpa [hq] using hi
      simp only [Nat.add_zero, World.setCells] at hst
      simp [storeVar, sizeOf, typeInfo, hq, hv, hs, hst]
  unfold Oper.wp
  simp only [execOp, ho, hx, hy, Instr.storeAt, Instr.sureAddr, Sem.run_bind, Sem.run_pure, Result.andThen_ok, hrun]
  exact hK _ _ (h _ (hO.setAt k hk off v))
/-- In the quiet head of a region that draws its order: a run of cells is loaded. -/
theorem ws_load {Q' : Act → Prop} (hgd : op.guard = none) (ty : TypeId) (x : Operand) (ho : op.op = .load ty x) (g off : Nat) (cs vs : List Value) (t : TypeId) (hb : w.heap[g]? = some (.cells cs.toArray t))
    (hx : a.eval x = .pointer (some ⟨g, off, none⟩)) (d : TypeDesc) (hu : P.underlying ty = some d) (hd : d.isRow = true) (hi : (P.info? ty).map (·.size) = some vs.length)
    (hv : (cs.drop off).take vs.length = vs)
    (h : wpStill P ops w Q' rest (a.put op.dst (.agg vs.toArray))) : wpStill P ops w Q' (op :: rest) a := by
  refine wpStill_step fun K hK => ?_
  have hr : w.rangeAt g off vs := by have := range_of_heap hb off vs.length; rwa [hv] at this
  have hw : Region.wanted op (yielded ops a.tmps) = true := by simp [Region.wanted, hgd]
  rw [if_pos hw]
  unfold Oper.still execOp
  simp only [ho, hx, Instr.loadAt, Instr.sureAddr, Sem.run_bind, Sem.run_pure, Result.andThen_ok, run_loadVar_mid w g off ty vs d hr hu hd hi]
  rw [Oper.stillUpon_value]
  exact hK _ h
/-- append of a row that lies somewhere to a row of the call's own. -/
theorem wl_append (hgd : op.guard = none) (s x : Operand) (t : TypeId)
    (ho : op.op = .call { callee := .builtin .append, args := #[s, x], argTypes := #[t, t] })
    (e : TypeId) (z : Value) (size bytes : Nat) (ht : P.underlying t = some (.slice e)) (hinfo : (P.info? e).map (fun i => (i.zero, i.size, i.bytes)) = some (some z, size, bytes)) (hzs : z.cells.size = size) (hsz : 0 < size)
    (v : Value) (n : Nat) (xs : List Value) (hs : a.eval s = v) (hr : IsRow e size v n xs L) (hO : Own w0 w (L ++ R))
    (ad : Addr) (m c : Nat) (news : List Value) (hx : a.eval x = .slice (some ad) m c) (hl : news.length = m * size) (hnews : ∀ j u, news[j]? = some u → w.cell? (ad.add j) = some u) (h1 : ∀ u ∈ news, u.oneCell' = true)
    (h63 : n + m ≤ maxLen) (hbytes : (n + m) * bytes ≤ 140737488355328)
    (h : ∀ v' w' L', IsRow e size v' (n + m) (xs ++ news) L' → Own w0 w' (L' ++ R) → (v' = .slice none 0 0 → v = .slice none 0 0) → wpList P ops Q rest (a.put op.dst v') w') : wpList P ops Q (op :: rest) a w := by
  obtain ⟨i, hi, hz, hz1, hz2⟩ := info_parts hinfo
  refine wpList_append_own_at w hgd s x t ho w0.heap.size e i z size bytes ht hi hz hz1 hz2 hzs hsz v n xs hs (hr.owns hO) ad m c news hx hl hnews h1 h63 hbytes hO.below.size ?_
  intro v' w' h2 h3 h4 h5
  obtain ⟨L', hr', hO'⟩ := hO.grow hr h2 h3 h5
  exact h v' w' L' hr' hO' (fun e => (h4.1 e).1)
end
end Go.Proofs.YtfgaikacijdodaaDoor
/-
  A region that draws its order, walked in ONE order: operations that yield the same in every world that meets S may be taken first; the others come up one by one; behind the head the rest is forced. No program is named here.
-/
namespace Go.Proofs.YtfgaikacijdodaaDoor
set_option linter.unusedVariables false
set_option linter.unusedSimpArgs false
set_option maxRecDepth 20000
open Go.RowKit

/-- Operation j waits for i, through others too. -/
def waits (md : Region.Mode) (ops : Array Oper) : Nat → Nat → Nat → Bool
  | 0, _, _ => false
  | f + 1, j, i => ((ops[j]?).map fun o => o.after.toList.any fun e => Region.binds md e && (e.on == i || waits md ops f e.on i)).getD false
def headDone (nh : Nat) (listed : Array Bool) : Bool := (List.range nh).all fun i => listed.getD i false
def tailB (md : Region.Mode) (ops : Array Oper) (nh : Nat) : Bool := (List.range ops.size).all fun j => decide (j < nh) || (List.range nh).all fun i => waits md ops ops.size j i
def linChk (md : Region.Mode) (ops : Array Oper) (nh : Nat) : List (Nat × Bool) → Array Bool → Bool
  | [], listed => headDone nh listed && Region.seqB md ops (ops.size - nh) nh listed
  | (i, true) :: r, listed => decide (i < nh) && (Region.ready md ops listed).contains i && Region.free md ops listed i && linChk md ops nh r (listed.setIfInBounds i true)
  | (i, false) :: r, listed => decide (i < nh) && decide (Region.ready md ops listed = [i]) && linChk md ops nh r (listed.setIfInBounds i true)

section
variable {P : Program} {ops : Array Oper} {Q : Exit → Act → World → Prop} {md : Region.Mode} {S : World → Prop} {nh : Nat}

def Closed (md : Region.Mode) (ops : Array Oper) (listed : Array Bool) : Prop :=
  listed.size = ops.size ∧ ∀ (j : Nat) (o : Oper), ops[j]? = some o → listed.getD j false = true → ∀ e ∈ o.after, Region.binds md e = true → listed.getD e.on false = true
theorem Closed.set {listed : Array Bool} {i : Nat} (h : Closed md ops listed) (hi : i ∈ Region.ready md ops listed) : Closed md ops (listed.setIfInBounds i true) := by
  refine ⟨by simpa using h.1, fun j o ho hj e he hb => ?_⟩
  obtain ⟨_, o', ho', hall⟩ := mem_ready.1 hi
  by_cases hij : i = j
  · subst hij
    rw [ho'] at ho
    injection ho with ho
    subst ho
    exact getD_set_true (hall e he hb)
  · rw [getD_set_ne false hij] at hj
    exact getD_set_true (h.2 j o ho hj e he hb)
theorem waits_spec {listed : Array Bool} (h : Closed md ops listed) : ∀ (f j i : Nat), (∀ (o : Oper), ops[j]? = some o → ∀ e ∈ o.after, Region.binds md e = true → listed.getD e.on false = true) → waits md ops f j i = true → listed.getD i false = true
  | 0, _, _, _, hw => by simp [waits] at hw
  | f + 1, j, i, hj, hw => by
    unfold waits at hw
    cases ho : ops[j]? with
    | none => simp [ho] at hw
    | some o =>
      simp only [ho, Option.map_some, Option.getD_some, List.any_eq_true, Bool.and_eq_true, Bool.or_eq_true, beq_iff_eq] at hw
      obtain ⟨e, he, hb, hx⟩ := hw
      have he := Array.mem_toList_iff.1 he
      have hl := hj o ho e he hb
      rcases hx with rfl | hx
      · exact hl
      · exact waits_spec h f e.on i (fun o' ho' e' he' hb' => h.2 e.on o' ho' hl e' he' hb') hx
theorem ready_head {listed : Array Bool} {j : Nat} (ht : tailB md ops nh = true) (h : Closed md ops listed) (hj : j ∈ Region.ready md ops listed) (hd : headDone nh listed = false) : j < nh := by
  obtain ⟨_, o, ho, hall⟩ := mem_ready.1 hj
  have hlt : j < ops.size := (Array.getElem?_eq_some_iff.1 ho).1
  have h1 := List.all_eq_true.1 ht j (List.mem_range.2 hlt)
  simp only [Bool.or_eq_true, decide_eq_true_eq] at h1
  rcases h1 with h1 | h1
  · exact h1
  · exfalso
    have : headDone nh listed = true := by
      refine List.all_eq_true.2 fun i hi => ?_
      exact waits_spec h _ j i (fun o' ho' e he hb => by rw [ho] at ho'; injection ho' with ho'; subst ho'; exact hall e he hb) (List.all_eq_true.1 h1 i hi)
    rw [this] at hd; cases hd

def wpHL (P : Program) (md : Region.Mode) (ops : Array Oper) (Q : Exit → Act → World → Prop) (S : World → Prop) (nh : Nat) : Nat → Array Bool → Act → World → Prop
  | 0, listed, a, w => headDone nh listed = true ∧ wpAny P md ops Q 0 listed a w
  | fuel + 1, listed, a, w => if headDone nh listed = true then wpAny P md ops Q (fuel + 1) listed a w else
      Region.ready md ops listed ≠ [] ∧ ∀ i ∈ Region.ready md ops listed, wpOp P ops Q i (fun a' w' => S w' ∧ wpHL P md ops Q S nh fuel (listed.setIfInBounds i true) a' w') a w
theorem wpAny_of_HL : ∀ (fuel : Nat) (listed : Array Bool) (a : Act) (w : World), wpHL P md ops Q S nh fuel listed a w → wpAny P md ops Q fuel listed a w
  | 0, _, _, _, h => h.2
  | fuel + 1, listed, a, w, h => by
    unfold wpHL at h
    split at h
    · exact h
    · exact ⟨fun e => absurd e h.1, fun i hi => wpOp_mono (fun a' w' h' => wpAny_of_HL fuel _ a' w' h'.2) (h.2 i hi)⟩
theorem wpHL_first {i : Nat} {oi : Oper} {v : Value} (hi : ops[i]? = some oi) (hin : i < nh) (hsel : Region.noSelect ops = true) (ht : tailB md ops nh = true)
    (hQ : ∀ c a w, Q (.panic c) (a.put oi.dst v) w → Q (.panic c) a w) :
    ∀ (fuel : Nat) (listed : Array Bool) (a : Act) (w : World), Closed md ops listed →
      (∀ j oj, ops[j]? = some oj → j ≠ i → listed.getD j true = false → (∀ e ∈ oj.after, Region.binds md e = true → e.on ≠ i) → oi.apart ops oj = true) →
      i ∈ Region.ready md ops listed → YieldsIf P ops S oi v a → S w →
      wpHL P md ops Q S nh fuel (listed.setIfInBounds i true) (a.put oi.dst v) w → wpHL P md ops Q S nh (fuel + 1) listed a w := by
  have hun : ∀ {listed : Array Bool} {j : Nat}, j < nh → listed.getD j true = false → headDone nh listed = false := by
    intro listed j hj hl
    cases hd : headDone nh listed with
    | false => rfl
    | true =>
      have := List.all_eq_true.1 hd j (List.mem_range.2 hj)
      rw [getD_both hl] at this
      cases this
  intro fuel
  induction fuel with
  | zero =>
    intro listed a w hcl _ hr hy hS H
    unfold wpHL
    rw [if_neg (by rw [hun hin (mem_ready.1 hr).1]; simp)]
    refine ⟨fun h => (by rw [h] at hr; cases hr), fun j hj => ?_⟩
    by_cases hji : j = i
    · subst hji; exact hy.wpOp hi hS ⟨hS, H⟩
    · have hjn := ready_head ht hcl hj (hun hin (mem_ready.1 hr).1)
      have := hun hjn (mem_ready.1 (ready_mono hj hji)).1
      have H1 := H.1
      rw [this] at H1
      cases H1
  | succ fuel ih =>
    intro listed a w hcl hfree hr hy hS H
    unfold wpHL
    have hnd := hun hin (mem_ready.1 hr).1
    rw [if_neg (by rw [hnd]; simp)]
    refine ⟨fun h => (by rw [h] at hr; cases hr), fun j hj => ?_⟩
    by_cases hji : j = i
    · subst hji; exact hy.wpOp hi hS ⟨hS, H⟩
    · have hjn := ready_head ht hcl hj hnd
      have hnd' := hun hjn (mem_ready.1 (ready_mono hj hji)).1
      unfold wpHL at H
      rw [if_neg (by rw [hnd']; simp)] at H
      have h1 := H.2 j (ready_mono hj hji)
      obtain ⟨hjun, oj, hoj, hall⟩ := mem_ready.1 hj
      have hnot : ∀ e ∈ oj.after, Region.binds md e = true → e.on ≠ i := fun e he hb heq => by
        have h1 := hall e he hb
        rw [heq, getD_both (mem_ready.1 hr).1] at h1
        cases h1
      have h2 := wpOp_putIf hoj (hfree j oj hoj hji hjun hnot) (fun cs b => Region.noSelect_spec hsel i oi cs b hi) (fun cs b => Region.noSelect_spec hsel j oj cs b hoj) hQ hy h1
      have hfree' : ∀ k ok, ops[k]? = some ok → k ≠ i → (listed.setIfInBounds j true).getD k true = false →
          (∀ e ∈ ok.after, Region.binds md e = true → e.on ≠ i) → oi.apart ops ok = true := fun k ok hk hki hun' hno => by
        refine hfree k ok hk hki ?_ hno
        by_cases hjk : j = k
        · subst hjk; exact hjun
        · rw [getD_set_ne true hjk] at hun'; exact hun'
      refine wpOp_mono (fun a' w' h3 => ⟨h3.2.1, ih (listed.setIfInBounds j true) a' w' (hcl.set hj) hfree' (ready_mono hr (Ne.symm hji)) h3.1 h3.2.1 ?_⟩) h2
      rw [Array.setIfInBounds_comm _ _ hji]
      exact h3.2.2

/-- Behind an operation that acts: S anew, and the rest. -/
def LinPost (Q : Exit → Act → World → Prop) (S : World → Prop) (T : Act → World → Prop) : Exit → Act → World → Prop
  | .normal, a, w => S w ∧ T a w
  | e, a, w => Q e a w
theorem LinPost.mk {Q : Exit → Act → World → Prop} {S : World → Prop} {T : Act → World → Prop} {a : Act} {w : World} (h1 : S w) (h2 : T a w) : LinPost Q S T .normal a w := ⟨h1, h2⟩
/-- The head in one order; T behind it. -/
def wpLin (P : Program) (ops : Array Oper) (Q : Exit → Act → World → Prop) (S : World → Prop) (T : Act → World → Prop) : List (Oper × Bool) → Act → World → Prop
  | [], a, w => T a w
  | (o, true) :: r, a, w => ∃ v, YieldsIf P ops S o v a ∧ wpLin P ops Q S T r (a.put o.dst v) w
  | (o, false) :: r, a, w => wpList P ops (LinPost Q S (wpLin P ops Q S T r)) [o] a w

theorem wpHL_of_lin (hsel : Region.noSelect ops = true) (ht : tailB md ops nh = true) (hQ : ∀ c a d v w, Q (.panic c) (Act.put a d v) w → Q (.panic c) a w) (tl : List Oper) (htl : ∀ j, tl[j]? = ops[nh + j]?) (htn : tl.length = ops.size - nh) :
    ∀ (l : List (Nat × Bool)) (listed : Array Bool) (a : Act) (w : World), Closed md ops listed → linChk md ops nh l listed = true → S w →
      wpLin P ops Q S (fun a w => wpList P ops Q tl a w) (l.map fun p => (ops[p.1]!, p.2)) a w → wpHL P md ops Q S nh (l.length + (ops.size - nh)) listed a w
  | [], listed, a, w, hcl, hB, hS, h => by
    simp only [linChk, Bool.and_eq_true] at hB
    have := wpAny_of_seq (P := P) (md := md) (ops := ops) (Q' := Q) tl nh listed a w htl (by rw [htn]; exact hB.2) h
    rw [htn] at this
    simp only [List.length_nil, Nat.zero_add]
    cases hn : ops.size - nh with
    | zero => rw [hn] at this; exact ⟨hB.1, this⟩
    | succ n => rw [hn] at this; unfold wpHL; rw [if_pos hB.1]; exact this
  | (i, true) :: r, listed, a, w, hcl, hB, hS, h => by
    simp only [linChk, Bool.and_eq_true, decide_eq_true_eq] at hB
    obtain ⟨⟨⟨hin, hr⟩, hf⟩, hrest⟩ := hB
    have hr' : i ∈ Region.ready md ops listed := by simpa using hr
    obtain ⟨_, oi, hoi, _⟩ := mem_ready.1 hr'
    obtain ⟨v, hy, h⟩ := h
    have hlt : i < ops.size := (Array.getElem?_eq_some_iff.1 hoi).1
    have e : ops[i]! = oi := by simp [getElem!_pos, hlt, (Array.getElem?_eq_some_iff.1 hoi).2]
    simp only [e] at hy h
    have hfin := wpHL_of_lin hsel ht hQ tl htl htn r _ _ w (hcl.set hr') hrest hS h
    have := wpHL_first (Q := Q) (S := S) hoi hin hsel ht (fun c a w => hQ c a _ _ w) _ listed a w hcl (Region.free_spec hoi hf) hr' hy hS hfin
    rw [show ((i, true) :: r).length + (ops.size - nh) = r.length + (ops.size - nh) + 1 by simp; omega]
    exact this
  | (i, false) :: r, listed, a, w, hcl, hB, hS, h => by
    simp only [linChk, Bool.and_eq_true, decide_eq_true_eq] at hB
    obtain ⟨⟨hin, hr⟩, hrest⟩ := hB
    have hr' : i ∈ Region.ready md ops listed := by rw [hr]; simp
    obtain ⟨hun, oi, hoi, _⟩ := mem_ready.1 hr'
    have hlt : i < ops.size := (Array.getElem?_eq_some_iff.1 hoi).1
    have e : ops[i]! = oi := by simp [getElem!_pos, hlt, (Array.getElem?_eq_some_iff.1 hoi).2]
    simp only [List.map_cons, e] at h
    rw [show ((i, false) :: r).length + (ops.size - nh) = r.length + (ops.size - nh) + 1 by simp; omega]
    unfold wpHL
    have hnd : headDone nh listed = false := by
      cases hd : headDone nh listed with
      | false => rfl
      | true =>
        have := List.all_eq_true.1 hd i (List.mem_range.2 hin)
        rw [getD_both hun] at this
        cases this
    rw [if_neg (by rw [hnd]; simp), hr]
    refine ⟨by simp, fun j hj => ?_⟩
    obtain rfl : j = i := by simpa using hj
    unfold wpOp
    simp only [hoi]
    unfold wpLin at h
    simp only [wpList] at h
    split
    · rename_i hw
      rw [if_pos hw] at h
      rcases h with h | ⟨h1, h2⟩
      · refine .inl ?_
        unfold Oper.wp at *
        generalize (execOp a.eval oi).run P w = rs at *
        have fin : ∀ a' w', (S w' ∧ wpLin P ops Q S (fun a w => wpList P ops Q tl a w) (r.map fun p => (ops[p.1]!, p.2)) a' w') → S w' ∧ wpHL P md ops Q S nh (r.length + (ops.size - nh)) (listed.setIfInBounds j true) a' w' :=
          fun a' w' h' => ⟨h'.1, wpHL_of_lin hsel ht hQ tl htl htn r _ _ w' (hcl.set hr') hrest h'.1 h'.2⟩
        cases rs with
        | ok n w' =>
          cases n <;> simp only [Oper.upon] at h ⊢
          case value u => exact fin _ _ h
          case skip => exact fin _ _ h
          case defer d => exact fin _ _ h
          case enter f args =>
            refine Calls.mono h fun e w'' he => ?_
            cases e with
            | returned u => exact fin _ _ he
            | panicked c => exact he
            | outgrown => exact he
          case row row args => exact Rows.mono h fun u w'' he => fin _ _ he
        | halt x w' => cases x <;> simp only [Oper.upon] at h ⊢; exact h
      · exact .inr ⟨h1, h2⟩
    · rename_i hw
      rw [if_neg hw] at h
      exact ⟨h.1, wpHL_of_lin hsel ht hQ tl htl htn r _ _ w (hcl.set hr') hrest h.1 h.2⟩

def pick : List Oper → Nat → Oper
  | [], _ => default
  | o :: _, 0 => o
  | _ :: r, n + 1 => pick r n
theorem pick_zero (o : Oper) (r : List Oper) : pick (o :: r) 0 = o := rfl
theorem pick_succ (o : Oper) (r : List Oper) (n : Nat) : pick (o :: r) (n + 1) = pick r n := rfl
theorem pick_eq : ∀ (l : List Oper) (i : Nat), pick l i = l.toArray[i]!
  | [], _ => by simp [pick]
  | o :: r, 0 => by simp [pick]
  | o :: r, n + 1 => by simp [pick, pick_eq r n]
/-- **A region that draws its order, in one order.** order: the head's operations as they are to be walked (quiet?); the others, from number nh on, are forced. -/
theorem wp_region_lin {id : Nat} {a : Act} {w : World} {l : List Oper} (S : World → Prop) (nh : Nat) (order : List (Nat × Bool)) (hm : P.follows .mixedOrders = true)
    (hB : (Region.noSelect l.toArray && tailB .any l.toArray nh && linChk .any l.toArray nh order (Array.replicate l.toArray.size false) && decide (order.length + (l.toArray.size - nh) = l.toArray.size)) = true)
    (hQ : ∀ c a d v w, Q (.panic c) (Act.put a d v) w → Q (.panic c) a w) (hS : S w.drew)
    (h : wpLin P l.toArray Q S (fun a w => wpList P l.toArray Q (l.drop nh) a w) (order.map fun p => (pick l p.1, p.2)) a w.drew) : (Code.region id l.toArray true).wp P Q a w := by
  simp only [Bool.and_eq_true, decide_eq_true_eq] at hB
  obtain ⟨⟨⟨hsel, ht⟩, hc⟩, hlen⟩ := hB
  refine wp_region_any hm (wpAny_of_HL (S := S) (nh := nh) _ _ _ _ ?_)
  have := wpHL_of_lin (P := P) (Q := Q) (S := S) hsel ht hQ (l.drop nh) (fun j => by simp [List.getElem?_drop]) (by simp) order (Array.replicate l.toArray.size false) a w.drew
    ⟨by simp, fun j o _ hj => by rw [getD_replicate_false] at hj; cases hj⟩ hc hS (by simpa only [pick_eq] using h)
  rw [hlen] at this
  exact this

theorem lin_nil {T : Act → World → Prop} {a : Act} {w : World} (h : T a w) : wpLin P ops Q S T [] a w := h
/-- A quiet operation. -/
theorem lin_q {T : Act → World → Prop} {r : List (Oper × Bool)} {o : Oper} {a : Act} {w : World} (v : Value) (hgd : o.guard = none) (hrun : ∀ w', S w' → (execOp a.eval o).run P w' = .ok (.value v) w')
    (h : wpLin P ops Q S T r (a.put o.dst v) w) : wpLin P ops Q S T ((o, true) :: r) a w :=
  ⟨v, .inl ⟨by simp [Region.wanted, hgd], hrun⟩, h⟩
/-- One whose guard says yes. -/
theorem lin_g {T : Act → World → Prop} {r : List (Oper × Bool)} {o : Oper} {a : Act} {w : World} (v : Value) (hw : Region.wanted o (yielded ops a.tmps) = true) (hrun : ∀ w', S w' → (execOp a.eval o).run P w' = .ok (.value v) w')
    (h : wpLin P ops Q S T r (a.put o.dst v) w) : wpLin P ops Q S T ((o, true) :: r) a w :=
  ⟨v, .inl ⟨hw, hrun⟩, h⟩
/-- One whose guard says no. -/
theorem lin_no {T : Act → World → Prop} {r : List (Oper × Bool)} {o : Oper} {a : Act} {w : World} (hw : Region.wanted o (yielded ops a.tmps) = false)
    (h : wpLin P ops Q S T r (a.put o.dst undef) w) : wpLin P ops Q S T ((o, true) :: r) a w :=
  ⟨undef, .inr ⟨hw, rfl⟩, h⟩
/-- One that acts: by the laws on 'wpList'; behind it S anew. -/
theorem lin_act {T : Act → World → Prop} {r : List (Oper × Bool)} {o : Oper} {a : Act} {w : World}
    (h : wpList P ops (LinPost Q S (wpLin P ops Q S T r)) [o] a w) : wpLin P ops Q S T ((o, false) :: r) a w := h
theorem lin_load {T : Act → World → Prop} {r : List (Oper × Bool)} {op : Oper} {a : Act} {w : World} (hgd : op.guard = none) (ty : TypeId) (x : Operand) (ho : op.op = .load ty x) (g off : Nat) (cs vs : List Value) (t : TypeId)
    (hx : a.eval x = .pointer (some ⟨g, off, none⟩)) (d : TypeDesc) (hu : P.underlying ty = some d) (hd : d.isRow = true) (hi : (P.info? ty).map (·.size) = some vs.length)
    (hv : (cs.drop off).take vs.length = vs) (hb : ∀ w', S w' → w'.heap[g]? = some (.cells cs.toArray t))
    (h : wpLin P ops Q S T r (a.put op.dst (.agg vs.toArray)) w) : wpLin P ops Q S T ((op, true) :: r) a w := by
  refine lin_q _ hgd (fun w' hS => ?_) h
  have hr : w'.rangeAt g off vs := by have := range_of_heap (hb w' hS) off vs.length; rwa [hv] at this
  unfold execOp
  simp only [ho, hx, Instr.loadAt, Instr.sureAddr, Sem.run_bind, Sem.run_pure, Result.andThen_ok, run_loadVar_mid w' g off ty vs d hr hu hd hi]
theorem lin_loadG {T : Act → World → Prop} {r : List (Oper × Bool)} {op : Oper} {a : Act} {w : World} (hw : Region.wanted op (yielded ops a.tmps) = true) (ty : TypeId) (x : Operand) (ho : op.op = .load ty x) (g off : Nat) (cs vs : List Value) (t : TypeId)
    (hx : a.eval x = .pointer (some ⟨g, off, none⟩)) (d : TypeDesc) (hu : P.underlying ty = some d) (hd : d.isRow = true) (hi : (P.info? ty).map (·.size) = some vs.length)
    (hv : (cs.drop off).take vs.length = vs) (hb : ∀ w', S w' → w'.heap[g]? = some (.cells cs.toArray t))
    (h : wpLin P ops Q S T r (a.put op.dst (.agg vs.toArray)) w) : wpLin P ops Q S T ((op, true) :: r) a w := by
  refine lin_g _ hw (fun w' hS => ?_) h
  have hr : w'.rangeAt g off vs := by have := range_of_heap (hb w' hS) off vs.length; rwa [hv] at this
  unfold execOp
  simp only [ho, hx, Instr.loadAt, Instr.sureAddr, Sem.run_bind, Sem.run_pure, Result.andThen_ok, run_loadVar_mid w' g off ty vs d hr hu hd hi]
/-- One that would act, whose guard says no. -/
theorem lin_actno {T : Act → World → Prop} {r : List (Oper × Bool)} {o : Oper} {a : Act} {w : World} (hw : Region.wanted o (yielded ops a.tmps) = false) (hS : S w)
    (h : wpLin P ops Q S T r (a.put o.dst undef) w) : wpLin P ops Q S T ((o, false) :: r) a w := by
  refine lin_act ?_
  simp only [wpList]
  rw [if_neg (by rw [hw]; simp)]
  exact ⟨hS, h⟩
end
theorem wl_call {P : Program} {w : World} {ops : Array Oper} {rest : List Oper} {op : Oper} {a : Act} {Q : Exit → Act → World → Prop} (hgd : op.guard = none) (f : FuncId) (args : Array Value) (post : Ending → World → Prop)
    (hrun : (execOp a.eval op).run P w = .ok (.enter f args) w) (hc : Calls P f args w post)
    (h : ∀ e w', post e w' → ∃ v, e = .returned v ∧ wpList P ops Q rest (a.put op.dst v) w') : wpList P ops Q (op :: rest) a w := by
  refine wpList_plain hgd fun K hK => ?_
  unfold Oper.wp
  rw [hrun]
  simp only [Oper.upon]
  refine hc.mono fun e w' he => ?_
  obtain ⟨v, rfl, hv⟩ := h e w' he
  exact hK _ _ hv
end Go.Proofs.YtfgaikacijdodaaDoor
/-
  The helps of the statements: Within, Same, Copy, Bytes.
-/
namespace Go.Proofs.YtfgaikacijdodaaDoor
set_option linter.unusedVariables false
set_option linter.unusedSimpArgs false
set_option maxRecDepth 20000
open Go.RowKit

theorem emod_neg (v n : Int) (h1 : 1 ≤ n) (h : v.tmod n < 0) : v % n = v.tmod n + n := by
  have h0 : ¬ (0 ≤ v ∨ n ∣ v) := by
    rintro (h' | h')
    · have := Int.tmod_nonneg n h'; omega
    · have := Int.tmod_eq_zero_of_dvd h'; omega
  have := Int.emod_eq_tmod (a := v) (b := n)
  rw [this, if_neg h0]
  omega
theorem emod_pos (v n : Int) (_h1 : 1 ≤ n) (h : ¬ v.tmod n < 0) : v % n = v.tmod n := by
  have := Int.emod_eq_tmod (a := v) (b := n)
  rw [this]
  split
  · omega
  · rename_i h0
    exfalso
    have h2 : v < 0 := by omega
    have h3 : ¬ n ∣ v := fun h' => h0 (.inr h')
    have h4 := Int.tmod_neg v n
    have h5 : 0 ≤ (-v).tmod n := Int.tmod_nonneg _ (by omega)
    have h6 : v.tmod n = - (-v).tmod n := by have := Int.neg_tmod (-v) n; rwa [Int.neg_neg] at this
    have h7 : v.tmod n = 0 := by omega
    exact h3 (Int.dvd_of_tmod_eq_zero h7)
set_option maxHeartbeats 1000000 in
theorem within_c {w : World} (v n : Int) (h1 : 1 ≤ n) (h2 : n ≤ 1000000000) : Calls Tryd.prog 10 #[.int .i64 v, .int .i64 n] w fun e w' => e = .returned (.int .i64 (v % n)) ∧ w = w' := by
  have hn0 : (n == 0) = false := by simp; omega
  have hb1 : -n < v.tmod n := by have := Int.lt_tmod_of_pos v (show 0 < n by omega); omega
  have hb2 : v.tmod n < n := Int.tmod_lt_of_pos v (by omega)
  by_cases hneg : v.tmod n < 0
  · rw [emod_neg v n h1 hneg]
    go_enter Tryd.func10, Tryd.ntmps10
    go_wp2
    go_ret
    exact ⟨rfl, rfl⟩
  · rw [emod_pos v n h1 hneg]
    go_enter Tryd.func10, Tryd.ntmps10
    go_wp2
    go_ret
    exact ⟨rfl, rfl⟩
theorem byte_info : (Tryd.prog.info? 5).map (fun i => (i.zero, i.size, i.bytes)) = some (some (.int .u8 0), 1, 1) := by kernel_rfl
theorem run_make_rowN {P : Program} (t e : TypeId) (i : TypeInfo) (z : Value) (ht : P.underlying t = some (.slice e)) (hi : P.info? e = some i) (hz : i.zero = some z)
    (kl kc : IntKind) (n c : Nat) (hnc : n ≤ c) (hbytes : i.bytes * c ≤ 281474976710656) (h63 : c ≤ 9223372036854775807) (w : World) :
    (Instr.makeSlice t (.int kl (n : Int)) (.int kc (c : Int))).run P w = .ok (.slice (some ⟨w.heap.size, 0, none⟩) n c) (w.alloc (.cells (madeCells z.cells (c * i.size)) e)) := by
  have hb : (i.bytes : Int) * (c : Int) ≤ 281474976710656 := by
    have h : ((i.bytes * c : Nat) : Int) ≤ 281474976710656 := by omega
    rwa [Int.natCast_mul] at h
  have hr := run_make (P := P) w t e i z ht hi hz kl kc n c (by omega) (by omega) hb (by omega)
  simp only [Int.toNat_natCast] at hr
  exact hr
theorem made_replicate (k : Nat) (hk : 0 < k) (z : Value) (n : Nat) : madeCells (List.replicate k z).toArray n = (List.replicate n z).toArray := by
  apply Array.ext'
  apply List.ext_getElem?
  intro j
  have hm : ∀ a, a % k < k := fun a => Nat.mod_lt a hk
  by_cases hj : j < n
  · simp [madeCells, hj, hm]
  · simp [madeCells, hj]
theorem make_bytes (n : Nat) (hn : n ≤ 1073741824) (w : World) : (Instr.makeSlice 64 (.int .i64 (n : Int)) (.int .i64 (n : Int))).run Tryd.prog w =
    .ok (.slice (some ⟨w.heap.size, 0, none⟩) n n) (w.alloc (.cells (bv (List.replicate n 0)).toArray 5)) := by
  obtain ⟨i0, hi0, hz0, hz1, hz2⟩ := info_parts byte_info
  have := run_make_rowN (P := Tryd.prog) 64 5 i0 _ Tryd.underlying64 hi0 hz0 .i64 .i64 n n (Nat.le_refl _) (by rw [hz2]; omega) (by omega) w
  rw [hz1] at this
  have e : madeCells (Value.int .u8 0).cells (n * 1) = (bv (List.replicate n 0)).toArray := by
    rw [Nat.mul_one, bv, List.map_replicate]
    exact made_replicate 1 (by omega) _ n
  rw [this, e]
/-- A byte of Bytes. -/
def pbyte (v : Int) (i : Nat) : Int := wrap64 (v + wrap64 (↑i * bits BinOp.or IntKind.i64 (wrap64 (v.tdiv 5)) 1)) % 256
def pbytes (v : Int) (k : Nat) : List Int := (List.range k).map (pbyte v)
def puntil (v : Int) (k i : Nat) : List Int := (List.range k).map fun j => if j < i then pbyte v j else 0
@[simp] theorem length_pbytes (v : Int) (k : Nat) : (pbytes v k).length = k := by simp [pbytes]
theorem length_puntil (v : Int) (k i : Nat) : (puntil v k i).length = k := by simp [puntil]
theorem puntil_zero (v : Int) (k : Nat) : puntil v k 0 = List.replicate k 0 := by
  apply List.ext_getElem?
  intro j
  by_cases hj : j < k
  · simp [puntil, hj]
  · simp [puntil, hj]
theorem puntil_all (v : Int) (k : Nat) : puntil v k k = pbytes v k := by
  unfold puntil pbytes
  apply List.map_congr_left
  intro j hj
  rw [if_pos (by simpa using hj)]
theorem puntil_set (v : Int) (k i : Nat) : (puntil v k i).set i (pbyte v i) = puntil v k (i + 1) := by
  apply List.ext_getElem?
  intro j
  rw [List.getElem?_set]
  by_cases hj : j < k
  · by_cases hij : i = j
    · subst hij; simp [puntil, hj]
    · by_cases hlt : j < i
      · simp [puntil, hj, hij, hlt, show j < i + 1 by omega]
      · simp [puntil, hj, hij, hlt, show ¬ j < i + 1 by omega]
  · by_cases hij : i = j
    · subst hij; simp [puntil, hj]
    · simp [puntil, hj, hij]
theorem bv_set (xs : List Int) (i : Nat) (x : Int) : (bv xs).toArray.setIfInBounds i (.int .u8 x) = (bv (xs.set i x)).toArray := by simp [bv]
theorem pbyte_range (v : Int) (i : Nat) : 0 ≤ pbyte v i ∧ pbyte v i ≤ 255 := by unfold pbyte; omega
def GotBytes (w0 : World) (R : Blks) (xs : List Int) (e : Ending) (w' : World) : Prop := ∃ v L, e = .returned v ∧ IsBytes v xs L ∧ Own w0 w' (L ++ R)
theorem isBytes_whole (g : Nat) (xs : List Int) (h : xs.length ≤ 1073741824) : IsBytes (.slice (some ⟨g, 0, none⟩) xs.length xs.length) xs [(g, .cells (bv xs).toArray 5)] :=
  ⟨by simp, .inr ⟨g, xs.length, [], rfl, by simp, by simp, Nat.le_refl _, by simp only [maxLen]; omega⟩⟩
/-- The world but for the draws. -/
def Quiet (w : World) (v : Value) (e : Ending) (w' : World) : Prop := e = .returned v ∧ ∃ m, w' = w.drewN m
theorem take_succ_eq {α : Type} {xs ys : List α} {k : Nat} (h : xs.take k = ys.take k) (hx : k < xs.length) (hy : k < ys.length) (e : xs[k] = ys[k]) : xs.take (k + 1) = ys.take (k + 1) := by
  rw [List.take_succ_eq_append_getElem hx, List.take_succ_eq_append_getElem hy, h, e]
theorem within_n {w : World} (v n : Int) (h1 : 1 ≤ n) (h2 : n ≤ 1000000000) : Calls Tryd.prog 10 #[.int .i64 v, .int .i64 n] w fun e w' => e = .returned (.int .i64 (((v % n).toNat : Nat) : Int)) ∧ w = w' := by
  have := Int.emod_nonneg v (show n ≠ 0 by omega)
  rw [Int.toNat_of_nonneg this]
  exact within_c v n h1 h2
theorem Rd.front {w0 : World} {R : Blks} {A : Option Addr} {n c : Nat} {xs : List Int} (h : Rd w0 R (.slice A n c) xs) (m : Nat) (hm : m ≤ n) : Rd w0 R (.slice A m c) (xs.take m) := by
  intro w' L' hO
  obtain ⟨A', n', c2, e, hn, hc, hA⟩ := h w' L' hO
  cases e
  refine ⟨_, _, _, rfl, by simp; omega, by omega, fun h0 => ?_⟩
  obtain ⟨ad', rfl, hcell⟩ := hA (by omega)
  refine ⟨ad', rfl, fun j x hx => ?_⟩
  have hj : j < m := by have := (List.getElem?_eq_some_iff.1 hx).1; simp at this; omega
  rw [List.getElem?_take_of_lt hj] at hx
  exact hcell j x hx
end Go.Proofs.YtfgaikacijdodaaDoor
/-
  What every law's row needs: slices of integers that came in; the row's imports.
-/
namespace Go.Proofs.YtfgaikacijdodaaDoor
set_option linter.unusedVariables false
set_option linter.unusedSimpArgs false
set_option maxRecDepth 20000
open Go.ChangeShapes Go.WideShapes Go.ChangeAt Go.RowKit
open Go.ChangeMaps (open_string shut_string)

theorem laidOut : laidOutB Tryd.prog = true := by kernel_rfl
/-- The law's walk: true, and nothing that was there has turned. -/
def Yes (w : World) (e : Ending) (w' : World) : Prop := e = .returned (.bool true) ∧ Below w.heap.size w w'
/-- A slice of integers that came in: its elements. -/
def InRow (k : IntKind) (w : World) (v : Value) (xs : List Int) : Prop :=
  ∃ A n c, v = .slice A n c ∧ xs.length = n ∧ n ≤ c ∧ c ≤ maxLen ∧ (∀ x ∈ xs, (Lit.int k x).wf = true) ∧
    (0 < n → ∃ ad, A = some ad ∧ ad.block < w.heap.size ∧ ∀ j x, xs[j]? = some x → w.cell? (ad.add j) = some (.int k x))
theorem inRow_nil (k : IntKind) (w : World) : InRow k w (.slice none 0 0) [] := ⟨none, 0, 0, rfl, rfl, Nat.le_refl _, by simp [maxLen], by simp, fun h => absurd h (by omega)⟩
theorem block_of_add (a : Addr) (n : Nat) : (a.add n).block = a.block := by unfold Addr.add; split <;> rfl
theorem inRow_mk {k : IntKind} {w : World} {x : Addr} {len cap : Nat} {zs : List Int} (hl : len ≤ cap) (hm : cap ≤ maxLen) (hz : zs.length = cap)
    (hc : ∀ i, i < zs.length → w.cell? (x.add i) = some (.int k (zs.getD i 0))) (hw : ∀ n ∈ zs, (Lit.int k n).wf = true) : InRow k w (.slice (some x) len cap) (zs.take len) := by
  refine ⟨_, _, _, rfl, by simp; omega, hl, hm, fun y hy => hw y (List.mem_of_mem_take hy), fun h => ⟨x, rfl, ?_, fun j y hy => ?_⟩⟩
  · have := block_lt_of_cell (hc 0 (by omega)); rwa [block_of_add] at this
  · have hj : j < len := by have := (List.getElem?_eq_some_iff.1 hy).1; simp at this; omega
    rw [List.getElem?_take_of_lt hj] at hy
    rw [hc j (by omega)]
    simp [List.getD, hy]
theorem InRow.rdv {k : IntKind} {w : World} {v : Value} {xs : List Int} (h : InRow k w v xs) (R : Blks) : RdV w R v (xs.map (Value.int k)) := by
  intro w' L' hO
  obtain ⟨A, n, c, rfl, hn, hc, _, _, hA⟩ := h
  refine ⟨_, _, _, rfl, by simpa using hn, hc, fun h => ?_⟩
  obtain ⟨ad, rfl, hb, hcell⟩ := hA h
  refine ⟨ad, rfl, fun j u hu => ?_⟩
  simp only [List.getElem?_map, Option.map_eq_some_iff] at hu
  obtain ⟨x, hx, rfl⟩ := hu
  rw [hO.below.cell (by rw [block_of_add]; exact hb)]
  exact hcell j x hx
theorem sub_here {A B : Blks} : A.Sublist (A ++ B) := List.sublist_append_left _ _
theorem sub_there {A B C : Blks} (h : A.Sublist C) : A.Sublist (B ++ C) := h.trans (List.sublist_append_right _ _)
theorem Own.yes {w w' : World} {L : Blks} {e : Ending} (h : Own w w' L) (he : e = .returned (.bool true)) : Yes w e w' := ⟨he, h.below⟩
theorem IsBytes.rd {w0 : World} {v : Value} {xs : List Int} {L R : Blks} (h : IsBytes v xs L) (hs : L.Sublist R) : Rd w0 R v xs := by
  intro w' L' hO
  have h1 : Own w0 w' L := hO.right.sub hs
  exact h.bs (R := []) (by rw [List.append_nil]; exact h1)
theorem IsBytes.bs_sub {w0 w : World} {v : Value} {xs : List Int} {L R : Blks} (h : IsBytes v xs L) (hO : Own w0 w R) (hs : L.Sublist R) : Bs w v xs :=
  h.bs (R := []) (by rw [List.append_nil]; exact hO.sub hs)
theorem IsBytes.blk {v : Value} {xs : List Int} {L : Blks} (h : IsBytes v xs L) (hx : 0 < xs.length) :
    ∃ g cap sp, v = .slice (some ⟨g, 0, none⟩) xs.length cap ∧ L = [(g, .cells (List.toArray (bv xs ++ sp)) 5)] ∧ (∀ ys : List Int, ys.length = xs.length → IsBytes v ys [(g, .cells (List.toArray (bv ys ++ sp)) 5)]) := by
  rcases h.2 with ⟨_, h0, _⟩ | ⟨g, cap, sp, rfl, rfl, hl, hn, hm⟩
  · omega
  · refine ⟨g, cap, sp, rfl, rfl, fun ys hy => ⟨by simp, .inr ⟨g, cap, sp, by rw [hy], rfl, ?_, by omega, hm⟩⟩⟩
    simp only [List.length_append, length_bv] at hl ⊢
    omega
theorem bv_set_sp (xs : List Int) (sp : List Value) (i : Nat) (x : Int) (h : i < xs.length) : (bv xs ++ sp).toArray.setIfInBounds i (.int .u8 x) = (bv (xs.set i x) ++ sp).toArray := by
  simp only [List.setIfInBounds_toArray]
  rw [List.set_append_left _ _ (by simpa using h)]
  simp [bv]
theorem bv_get_sp (xs : List Int) (sp : List Value) (i : Nat) (h : i < xs.length) : (bv xs ++ sp).toArray[i]? = some (.int .u8 xs[i]) := by
  simp only [List.getElem?_toArray]
  rw [List.getElem?_append_left (by simpa using h)]
  simp [bv, h]
end Go.Proofs.YtfgaikacijdodaaDoor
