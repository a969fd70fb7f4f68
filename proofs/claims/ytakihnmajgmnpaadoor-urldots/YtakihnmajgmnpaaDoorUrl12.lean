/-
  Paths with points in them (for URLDots): plain lists; nothing runs here.
-/
import Derived.Test.YtakihnmajgmnpaaDoorUrl11
namespace Go.Proofs.YtakihnmajgmnpaaDoor
set_option linter.unusedVariables false
set_option linter.unusedSimpArgs false
set_option maxRecDepth 20000

instance : DecidableEq UL := fun a b =>
  if h : a.sch = b.sch ∧ a.host = b.host ∧ a.port = b.port ∧ a.path = b.path ∧ a.query = b.query then isTrue (by cases a; cases b; simp_all) else isFalse (by intro e; subst e; exact h ⟨rfl, rfl, rfl, rfl, rfl⟩)
/-- The parts that are played with. -/
def dkinds : List (List Int) := [[97], [46], [46, 46], [98, 99], []]
theorem dkind_same {p : List Int} (h : p ∈ dkinds) (h1 : p ≠ [46]) (h2 : p ≠ [46, 46]) : pctE p = p := by
  simp only [dkinds, List.mem_cons, List.not_mem_nil, or_false] at h
  rcases h with rfl | rfl | rfl | rfl | rfl
  · decide +kernel
  · exact absurd rfl h1
  · exact absurd rfl h2
  · decide +kernel
  · decide +kernel
theorem dkind_mem {p : List Int} (h : p ∈ dkinds) : p.length ≤ 2 ∧ ∀ x ∈ p, (x = 97 ∨ x = 46 ∨ x = 98 ∨ x = 99) := by
  simp only [dkinds, List.mem_cons, List.not_mem_nil, or_false] at h
  rcases h with rfl | rfl | rfl | rfl | rfl <;> simp
/-- One part behind others: the stack, and whether the last was a point. -/
def dstep (s : List (List Int) × Bool) (p : List Int) : List (List Int) × Bool :=
  if p = [46] then (s.1, true) else if p = [46, 46] then (s.1.dropLast, true) else (s.1 ++ [p], false)
def dfin (s : List (List Int) × Bool) : List (List Int) := if s.2 = true ∨ s.1 = [] then s.1 ++ [[]] else s.1
theorem dotGo_fold : ∀ (ps st : List (List Int)) (d : Bool), ps ≠ [] → (∀ p ∈ ps, p ∈ dkinds) → dotGo st ps = dfin (ps.foldl dstep (st, d))
  | [], _, _, h, _ => absurd rfl h
  | [p], st, d, _, h => by
    have hp := h p (.head _)
    show dotStep st p true = dfin (dstep (st, d) p)
    unfold dotStep dstep dfin
    by_cases h1 : p = [46]
    · subst h1; simp
    · by_cases h2 : p = [46, 46]
      · subst h2; simp
      · rw [if_neg (by rintro (e | e); exact h1 e; exact h2 e), if_neg h1, if_neg h2, dkind_same hp h1 h2]
        simp
  | p :: q :: r, st, d, _, h => by
    have hp := h p (.head _)
    show dotGo (dotStep st p false) (q :: r) = dfin ((q :: r).foldl dstep (dstep (st, d) p))
    have e : (dstep (st, d) p).1 = dotStep st p false := by
      unfold dotStep dstep
      by_cases h1 : p = [46]
      · subst h1; simp
      · by_cases h2 : p = [46, 46]
        · subst h2; simp
        · simp [h1, h2, dkind_same hp h1 h2]
    rw [← e]
    exact dotGo_fold (q :: r) _ _ (by simp) (fun x hx => h x (.tail _ hx))
theorem dstep_mem {s : List (List Int) × Bool} {p : List Int} (hs : ∀ q ∈ s.1, q ∈ dkinds) (hp : p ∈ dkinds) : (∀ q ∈ (dstep s p).1, q ∈ dkinds) ∧ (dstep s p).1.length ≤ s.1.length + 1 := by
  unfold dstep
  split
  · exact ⟨hs, by simp⟩
  · split
    · exact ⟨fun q hq => hs q (List.dropLast_subset _ hq), by simp; omega⟩
    · refine ⟨fun q hq => ?_, by simp⟩
      rcases List.mem_append.1 hq with h | h
      · exact hs q h
      · rw [List.mem_singleton.1 h]; exact hp
theorem dfold_mem : ∀ (ps : List (List Int)) (s : List (List Int) × Bool), (∀ q ∈ s.1, q ∈ dkinds) → (∀ p ∈ ps, p ∈ dkinds) → (∀ q ∈ (ps.foldl dstep s).1, q ∈ dkinds) ∧ (ps.foldl dstep s).1.length ≤ s.1.length + ps.length
  | [], s, h, _ => ⟨h, by simp⟩
  | p :: ps, s, h, hp => by
    have h1 := dstep_mem h (hp p (.head _))
    have h2 := dfold_mem ps (dstep s p) h1.1 (fun q hq => hp q (.tail _ hq))
    exact ⟨h2.1, by rw [List.foldl_cons, List.length_cons]; omega⟩
theorem dfin_mem {s : List (List Int) × Bool} (h : ∀ q ∈ s.1, q ∈ dkinds) : (∀ q ∈ dfin s, q ∈ dkinds) ∧ (dfin s).length ≤ s.1.length + 1 := by
  unfold dfin
  split
  · refine ⟨fun q hq => ?_, by simp⟩
    rcases List.mem_append.1 hq with h1 | h1
    · exact h q h1
    · rw [List.mem_singleton.1 h1]; simp [dkinds]
  · exact ⟨h, by omega⟩
theorem slashed_len : ∀ (ps : List (List Int)), (∀ p ∈ ps, p ∈ dkinds) → (slashed ps).length ≤ 3 * ps.length
  | [], _ => by simp [slashed]
  | p :: ps, h => by
    have h1 := (dkind_mem (h p (.head _))).1
    have h2 := slashed_len ps (fun q hq => h q (.tail _ hq))
    show ((47 :: p) ++ slashed ps).length ≤ _
    simp only [List.length_append, List.length_cons]; omega
theorem slashed_rng : ∀ (ps : List (List Int)), (∀ p ∈ ps, p ∈ dkinds) → ∀ x ∈ slashed ps, x = 47 ∨ x = 97 ∨ x = 46 ∨ x = 98 ∨ x = 99
  | [], _, x, hx => by cases hx
  | p :: ps, h, x, hx => by
    rcases List.mem_append.1 (show x ∈ (47 :: p) ++ slashed ps from hx) with h1 | h1
    · rcases List.mem_cons.1 h1 with rfl | h1
      · exact .inl rfl
      · exact .inr ((dkind_mem (h p (.head _))).2 x h1)
    · exact slashed_rng ps (fun q hq => h q (.tail _ hq)) x h1
/-- A host of one letter, and a path of such parts. -/
theorem parseI_dots (ps : List (List Int)) (h : ∀ p ∈ ps, p ∈ dkinds) (hl : ps.length ≤ 5) :
    parseI (httpI ++ ([58, 47, 47] ++ ([104] ++ slashed ps))) = some ⟨httpI, [104], 0, slashed (dfin (ps.foldl dstep ([], false))), []⟩ := by
  have hm := dfold_mem ps ([], false) (by intro q hq; cases hq) h
  have hf := dfin_mem hm.1
  have hsl := slashed_len _ hf.1
  have hlen : (slashed (dfin (ps.foldl dstep ([], false)))).length ≤ 18 := by have := hm.2; simp at this; omega
  have hd : dotsI (slashed ps) = slashed (dfin (ps.foldl dstep ([], false))) := by
    cases ps with
    | nil => decide +kernel
    | cons p r =>
      unfold dotsI
      have e : (slashed (p :: r)).drop 1 = p ++ slashed r := rfl
      rw [e, parts_slashed p r (fun q hq x hx => by have := (dkind_mem (h q hq)).2 x hx; omega), dotGo_fold _ [] false (by simp) h]
  have hrng := slashed_rng ps h
  have hno : ∀ (st : List Int), (∀ y ∈ st, y = 35 ∨ y = 63) → ∀ y ∈ slashed ps, st.contains y = false := by
    intro st hst y hy
    rw [← Bool.not_eq_true]
    intro hc
    have h1 := hst y (by simpa using hc)
    have h2 := hrng y hy
    omega
  have h35 := ahead_full (hno [35] (by simp))
  have h63 := ahead_full (hno [63] (by simp))
  have hrest : restI httpI [104] 0 (slashed ps) = some ⟨httpI, [104], 0, slashed (dfin (ps.foldl dstep ([], false))), []⟩ := by
    unfold restI
    simp only [h35.1, h63.1, h63.2, hd]
    rw [show queryI [] = [] by decide, if_neg]
    rw [printI_parts]
    simp [httpI, portT]
    omega
  cases ps with
  | nil => rw [← hrest]; decide +kernel
  | cons p r =>
    have hx : slashed (p :: r) = 47 :: (p ++ slashed r) := rfl
    rw [hx] at hrest hrng ⊢
    rw [parseI_hd (.inl rfl) (by decide) (by intro y hy; have := hrng y hy; omega) (by decide)]
    have hp0 : portI httpI (47 :: (p ++ slashed r)) = some (0, 47 :: (p ++ slashed r)) := by
      unfold portI; rw [if_neg (by rw [begI_iff]; simp)]
    rw [hp0]
    exact hrest
end Go.Proofs.YtakihnmajgmnpaaDoor
