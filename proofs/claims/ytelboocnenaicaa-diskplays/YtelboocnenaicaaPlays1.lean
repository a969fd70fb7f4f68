/-
  DiskPlays, first part: what its two maps tell of the sectors. Nothing runs here.
-/
import Derived.Test.YtelboocnenaicaaDiskU
import Derived.Test.YtelboocnenaicaaMapOps2
namespace Go.Proofs.Ytelboocnenaicaa
set_option linter.unusedVariables false
set_option linter.unusedSimpArgs false
set_option maxRecDepth 20000
open Go.RowKit

/-- The value shows these bytes, out of the blocks of X. -/
def Shows (X : Blks) (v : Value) (ys : List Int) : Prop := ∃ B, IsBytes v ys B ∧ ∀ b ∈ B, b ∈ X
def ikey (j : Nat) : Value := .int .i64 (j : Int)
theorem ikey_inj {i j : Nat} (h : ikey i = ikey j) : i = j := by simp [ikey] at h; omega
/-- The map tells of the sectors F: what it has is what F has there; where it has nothing, F has zeros. -/
structure Tells (X : Blks) (es : Array MapEntry) (F : List (List Int)) : Prop where
  has : ∀ a v, Has es a v → ∃ j ys, a = ikey j ∧ F[j]? = some ys ∧ Shows X v ys
  not : ∀ j ys, F[j]? = some ys → (∀ v, ¬ Has es (ikey j) v) → ys = zsec
section
variable {X X' : Blks} {es es' : Array MapEntry} {F : List (List Int)} {v x : Value} {ys : List Int} {j : Nat}
theorem Shows.mono (h : Shows X v ys) (hX : ∀ b ∈ X, b ∈ X') : Shows X' v ys := by
  obtain ⟨B, hB, hm⟩ := h; exact ⟨B, hB, fun b hb => hX b (hm b hb)⟩
theorem Shows.notNil (h : Shows X v ys) (hl : ys.length = 32) : v ≠ .slice none 0 0 := by
  rintro rfl
  obtain ⟨B, hB, _⟩ := h
  rcases hB.2 with ⟨_, hn, _⟩ | ⟨g, cap, sp, hv, _⟩
  · omega
  · cases hv
theorem Tells.mono (h : Tells X es F) (hX : ∀ b ∈ X, b ∈ X') : Tells X' es F :=
  ⟨fun a v hv => by obtain ⟨j, ys, h1, h2, h3⟩ := h.has a v hv; exact ⟨j, ys, h1, h2, h3.mono hX⟩, h.not⟩
theorem tells_start (X : Blks) (n : Nat) : Tells X #[] (zsecs n) :=
  ⟨fun a v h => absurd h (has_nil a v), fun j ys h _ => by
    simp only [zsecs, List.getElem?_replicate] at h
    split at h
    · cases h; rfl
    · cases h⟩
theorem Tells.set (h : Tells X es F) (hj : j < F.length) (hx : Shows X x ys) (hu : ∀ a v, Has es' a v ↔ (a = ikey j ∧ v = x) ∨ (a ≠ ikey j ∧ Has es a v)) : Tells X es' (F.set j ys) where
  has a v hv := by
    rcases (hu a v).1 hv with ⟨rfl, rfl⟩ | ⟨hne, hv'⟩
    · exact ⟨j, ys, rfl, by simp [hj], hx⟩
    · obtain ⟨i, zs, rfl, h2, h3⟩ := h.has a v hv'
      have : ¬ j = i := fun e => hne (by rw [e])
      exact ⟨i, zs, rfl, by rw [List.getElem?_set_ne this]; exact h2, h3⟩
  not i zs hi hno := by
    by_cases e : j = i
    · subst e
      exact absurd ((hu _ _).2 (.inl ⟨rfl, rfl⟩)) (hno x)
    · rw [List.getElem?_set_ne e] at hi
      exact h.not i zs hi fun v hv => hno v ((hu _ _).2 (.inr ⟨fun hk => e (ikey_inj hk).symm, hv⟩))
/-- The same with the sectors as they were: what is laid there is what was there. -/
theorem Tells.again (h : Tells X es F) (hj : F[j]? = some ys) (hx : Shows X x ys) (hu : ∀ a v, Has es' a v ↔ (a = ikey j ∧ v = x) ∨ (a ≠ ikey j ∧ Has es a v)) : Tells X es' F := by
  obtain ⟨hlt, rfl⟩ := List.getElem?_eq_some_iff.1 hj
  have := h.set hlt hx hu
  rwa [List.set_getElem_self] at this
/-- What a look at the map tells. -/
theorem Tells.look (h : Tells X es F) (hj : F[j]? = some ys) (hl : ys.length = 32) {v : Value} (hv : Has es (ikey j) v ∨ ((∀ v', ¬ Has es (ikey j) v') ∧ v = .slice none 0 0)) :
    (v ≠ .slice none 0 0 ∧ Shows X v ys) ∨ (v = .slice none 0 0 ∧ ys = zsec) := by
  rcases hv with hv | ⟨hno, rfl⟩
  · obtain ⟨i, zs, hk, h2, h3⟩ := h.has _ _ hv
    have := ikey_inj hk
    subst this
    rw [hj] at h2; cases h2
    exact .inl ⟨h3.notNil hl, h3⟩
  · exact .inr ⟨rfl, h.not j ys hj hno⟩
theorem Tells.same (h : Tells X es F) (he : ∀ a v, Has es' a v ↔ Has es a v) : Tells X es' F :=
  ⟨fun a v hv => h.has a v ((he a v).1 hv), fun j ys hj hno => h.not j ys hj fun v hv => hno v ((he _ _).2 hv)⟩
/-- The copy of a map by a range: it has what has come out so far. -/
def Copied (es : Array MapEntry) (seen : Array Nat) (es' : Array MapEntry) : Prop := ∀ a v, Has es' a v ↔ Gone es seen a v
theorem copied_start (es : Array MapEntry) : Copied es #[] #[] := fun a v => ⟨fun h => absurd h (has_nil a v), fun h => absurd h (gone_none es a v)⟩
theorem Copied.step {P : Program} {k : TypeId} {clock : Nat} (G : GoodMap P k es clock) {seen seen' : Array Nat} {es'' : Array MapEntry} (h : Copied es seen es') {a v : Value} (hhas : Has es a v)
    (hg : ∀ a' v', Gone es seen' a' v' ↔ Gone es seen a' v' ∨ (a' = a ∧ v' = v)) (hu : ∀ a' v', Has es'' a' v' ↔ (a' = a ∧ v' = v) ∨ (a' ≠ a ∧ Has es' a' v')) : Copied es seen' es'' := by
  intro a' v'
  rw [hu, hg, h a' v']
  constructor
  · rintro (h1 | ⟨_, h1⟩)
    · exact .inr h1
    · exact .inl h1
  · rintro (h1 | h1)
    · by_cases e : a' = a
      · subst e; exact .inl ⟨rfl, G.fn h1.has hhas⟩
      · exact .inr ⟨e, h1⟩
    · exact .inl h1
theorem Copied.done {seen : Array Nat} (h : Copied es seen es') (hall : ∀ x v, Has es x v → Gone es seen x v) : ∀ a v, Has es' a v ↔ Has es a v :=
  fun a v => (h a v).trans ⟨fun g => g.has, hall a v⟩
/-- The bytes that a crash leaves of a write: as the law cuts them. -/
def cutOf (k : Int) : Nat := if k = 2 then 32 else if k = 1 then 16 else 0
theorem surv_cut (F : List (List Int)) (q : Nat × List Int) (k : Int) (hF : F[q.1]? = some ys) (hy : ys.length = 32) (hq : q.2.length = 32) : surv F q k = F.set q.1 (q.2.take (cutOf k) ++ ys.drop (cutOf k)) := by
  obtain ⟨hlt, rfl⟩ := List.getElem?_eq_some_iff.1 hF
  unfold surv cutOf
  split
  · rw [List.take_of_length_le (by omega), List.drop_of_length_le (by omega), List.append_nil]
  · split
    · simp [hlt]
    · simp
end
end Go.Proofs.Ytelboocnenaicaa
