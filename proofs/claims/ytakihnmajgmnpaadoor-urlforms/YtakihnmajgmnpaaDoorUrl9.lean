/-
  A parsed URL's print is parsed to itself: plain lists; nothing runs here.
-/
import Derived.Test.YtakihnmajgmnpaaDoorUrl6
namespace Go.Proofs.YtakihnmajgmnpaaDoor
set_option linter.unusedVariables false
set_option linter.unusedSimpArgs false
set_option maxRecDepth 20000

/-- Bytes that stand for themselves. -/
def Plain (l : List Int) : Prop := ∀ x ∈ l, 0 ≤ x ∧ x < 128 ∧ plainR x.toNat = true
theorem Plain.rng {l : List Int} (h : Plain l) : ∀ x ∈ l, 33 ≤ x ∧ x ≤ 126 ∧ x ≠ 34 ∧ x ≠ 96 ∧ x ≠ 35 ∧ x ≠ 60 ∧ x ≠ 62 ∧ x ≠ 63 ∧ x ≠ 123 ∧ x ≠ 125 := by
  intro x hx
  have := h x hx
  have h2 := (plainR_iff _).1 this.2.2
  omega
theorem Plain.same {l : List Int} (h : Plain l) : pctE l = l := pctE_same h
theorem plain_pctE (l : List Int) : Plain (pctE l) := pctE_plain l
/-- A part of a path that stays. -/
structure PartOk (p : List Int) : Prop where
  plain : Plain p
  slash : ∀ x ∈ p, x ≠ 47
  dot1 : p ≠ [46]
  dot2 : p ≠ [46, 46]
theorem partOk_nil : PartOk [] := ⟨fun x hx => (by cases hx), fun x hx => (by cases hx), by simp, by simp⟩
theorem parts_noslash : ∀ (l : List Int), ∀ p ∈ partsI l, ∀ x ∈ p, x ≠ 47
  | [], p, hp => by
    rw [show partsI [] = [[]] from rfl, List.mem_singleton] at hp
    subst hp; intro x hx; cases hx
  | c :: r, p, hp => by
    have ih := parts_noslash r
    unfold partsI at hp
    split at hp
    · rcases List.mem_cons.1 hp with rfl | hp
      · intro x hx; cases hx
      · exact ih p hp
    · rename_i hc
      split at hp
      · rename_i q qs hq
        rw [hq] at ih
        rcases List.mem_cons.1 hp with rfl | hp
        · intro x hx
          rcases List.mem_cons.1 hx with rfl | hx
          · exact hc
          · exact ih q (.head _) x hx
        · exact ih p (.tail _ hp)
      · rw [List.mem_singleton] at hp; subst hp
        intro x hx; rw [List.mem_singleton] at hx; subst hx; exact hc
/-- The runes of bytes without one that is below 128 do not hold it. -/
theorem decI_ascii (l : List Int) (h : (decI l).1 < 128) (hl : l ≠ []) : ((decI l).1 : Int) = ((l.getD 0 0).toNat : Int) ∧ (decI l).2 = 1 := by
  unfold decI at *
  rcases Lib.decodeN_shape l.length (l.getD 0 0).toNat (l.getD 1 0).toNat (l.getD 2 0).toNat (l.getD 3 0).toNat with ⟨h1, e⟩ | ⟨h1, h2, h3, h4, e⟩ | ⟨h1, h2, h3, h4, h5, h6, e⟩ | ⟨h1, h2, h3, h4, h5, h6, h7, e⟩ | e
  · rw [e]; exact ⟨rfl, rfl⟩
  all_goals rw [e] at h
  all_goals simp only [] at h
  all_goals omega
theorem runes_mem {l : List Int} (hB : Byt l) {c : Nat} (hc : c < 128) (h : c ∈ runes l) : (c : Int) ∈ l := by
  induction hn : l.length using Nat.strongRecOn generalizing l with
  | ind n ih =>
    by_cases hl : l = []
    · subst hl; cases h
    · rw [runes_step hl] at h
      rcases List.mem_cons.1 h with e | h
      · have h2 := decI_ascii l (by omega) hl
        rw [← e] at h2
        have h3 : 0 < l.length := List.length_pos_iff.2 hl
        have h4 : l.getD 0 0 ∈ l := by rw [List.getD_eq_getElem?_getD, List.getElem?_eq_getElem h3]; exact List.getElem_mem h3
        have h5 := hB _ h4
        have : (c : Int) = l.getD 0 0 := by omega
        rw [this]; exact h4
      · have hp := decI_pos l
        have h3 : 0 < l.length := List.length_pos_iff.2 hl
        have := ih _ (by rw [← hn, List.length_drop]; omega) (l := l.drop (decI l).2) (byt_drop hB _) h rfl
        exact List.mem_of_mem_drop this
theorem pctE_noslash {p : List Int} (hB : Byt p) (h : ∀ x ∈ p, x ≠ 47) : ∀ x ∈ pctE p, x ≠ 47 := by
  intro x hx e
  subst e
  rw [pctE, List.mem_flatMap] at hx
  obtain ⟨c, hc, hx⟩ := hx
  unfold pctR at hx
  split at hx
  · rw [List.mem_singleton] at hx
    have hc47 : c = 47 := by omega
    subst hc47
    exact h 47 (runes_mem hB (by decide) hc) rfl
  · rw [List.mem_flatMap] at hx
    obtain ⟨b, hb, hx⟩ := hx
    have hbb := encI_byt c b hb
    have h1 := hexD_plain (x := b / 16) (by omega) (by omega)
    have h2 := hexD_plain (x := b % 16) (by omega) (by omega)
    simp only [pct3, List.mem_cons, List.not_mem_nil, or_false] at hx
    omega
theorem pctR_one {c : Nat} {l : List Int} (h : pctR c = l) (hl : l.length < 3) : plainR c = true ∧ l = [(c : Int)] := by
  unfold pctR at h
  split at h
  · rename_i hp; exact ⟨hp, h.symm⟩
  · exfalso
    have h1 : (encI c) ≠ [] := encI_ne c
    obtain ⟨x, r, e⟩ := List.exists_cons_of_ne_nil h1
    rw [e, List.flatMap_cons] at h
    have := congrArg List.length h
    rw [List.length_append] at this
    simp [pct3] at this
    omega
theorem pctR_pos (c : Nat) : 1 ≤ (pctR c).length := by
  unfold pctR
  split
  · simp
  · obtain ⟨x, r, e⟩ := List.exists_cons_of_ne_nil (encI_ne c)
    rw [e, List.flatMap_cons, List.length_append]
    simp [pct3]; omega
/-- What is encoded to one point, or two, was that. -/
theorem pctE_dots {p : List Int} (hB : Byt p) : ∀ (k : Nat), k ≤ 2 → pctE p = List.replicate k 46 → p = List.replicate k 46 := by
  intro k hk h
  induction k generalizing p with
  | zero =>
    by_cases hp : p = []
    · exact hp
    · rw [pctE, runes_step hp, List.flatMap_cons] at h
      have := congrArg List.length h
      have h2 := pctR_pos (decI p).1
      rw [List.length_append, List.replicate_zero, List.length_nil] at this
      omega
  | succ k ih =>
    have hp : p ≠ [] := by rintro rfl; have := congrArg List.length h; rw [show pctE [] = [] from rfl] at this; simp at this
    rw [pctE, runes_step hp, List.flatMap_cons] at h
    have hlen := congrArg List.length h
    rw [List.length_append, List.length_replicate] at hlen
    obtain ⟨hpl, he⟩ := pctR_one (c := (decI p).1) rfl (by omega)
    rw [he, List.replicate_succ, List.singleton_append] at h
    injection h with h1 h2
    have h3 := decI_ascii p (by omega) hp
    have h4 : 0 < p.length := List.length_pos_iff.2 hp
    have h5 := getD_byt hB 0
    have h6 : p = p.getD 0 0 :: p.drop 1 := by
      rw [List.getD_eq_getElem?_getD, List.getElem?_eq_getElem h4, Option.getD_some]
      have := List.drop_eq_getElem_cons h4
      rwa [List.drop_zero] at this
    rw [h3.2] at h2
    have h7 := ih (p := p.drop 1) (byt_drop hB 1) (by omega) h2
    rw [h6, h7, List.replicate_succ]
    congr 1
    omega
theorem partOk_of {p : List Int} (hB : Byt p) (hs : ∀ x ∈ p, x ≠ 47) (h1 : p ≠ [46]) (h2 : p ≠ [46, 46]) : PartOk (pctE p) :=
  ⟨plain_pctE p, pctE_noslash hB hs, fun e => h1 (pctE_dots hB 1 (by omega) e), fun e => h2 (pctE_dots hB 2 (by omega) e)⟩
theorem dotStep_okp {st : List (List Int)} {p : List Int} {last : Bool} (h : ∀ q ∈ st, PartOk q) (hB : Byt p) (hs : ∀ x ∈ p, x ≠ 47) : ∀ q ∈ dotStep st p last, PartOk q := by
  intro q hq
  unfold dotStep at hq
  split at hq
  · simp only [] at hq
    have hst : ∀ q ∈ (if p = [46, 46] then st.dropLast else st), PartOk q := by
      intro q hq
      split at hq
      · exact h q ((List.dropLast_sublist _).subset hq)
      · exact h q hq
    split at hq
    · rcases List.mem_append.1 hq with hq | hq
      · exact hst q hq
      · rw [List.mem_singleton] at hq; subst hq; exact partOk_nil
    · exact hst q hq
  · rename_i hne
    rcases List.mem_append.1 hq with hq | hq
    · exact h q hq
    · rw [List.mem_singleton] at hq; subst hq
      exact partOk_of hB hs (fun e => hne (.inl e)) (fun e => hne (.inr e))
theorem dotGo_okp : ∀ (ps st : List (List Int)), (∀ q ∈ st, PartOk q) → (∀ q ∈ ps, Byt q ∧ ∀ x ∈ q, x ≠ 47) → ∀ q ∈ dotGo st ps, PartOk q
  | [], st, h, _ => h
  | [p], st, h, hp => dotStep_okp h (hp p (.head _)).1 (hp p (.head _)).2
  | p :: q :: r, st, h, hp => dotGo_okp (q :: r) _ (dotStep_okp h (hp p (.head _)).1 (hp p (.head _)).2) (fun x hx => hp x (.tail _ hx))
theorem dotStep_last (st : List (List Int)) (p : List Int) : dotStep st p true ≠ [] := by
  unfold dotStep
  split
  · simp
  · simp
theorem dotGo_ne : ∀ (ps st : List (List Int)), ps ≠ [] → dotGo st ps ≠ []
  | [], _, h => absurd rfl h
  | [p], st, _ => dotStep_last st p
  | p :: q :: r, st, _ => dotGo_ne (q :: r) _ (by simp)
theorem parts_byt : ∀ (l : List Int), Byt l → ∀ p ∈ partsI l, Byt p
  | [], _, p, hp => by
    rw [show partsI [] = [[]] from rfl, List.mem_singleton] at hp
    subst hp; intro x hx; cases hx
  | c :: r, h, p, hp => by
    have ih := parts_byt r (fun x hx => h x (.tail _ hx))
    unfold partsI at hp
    split at hp
    · rcases List.mem_cons.1 hp with rfl | hp
      · intro x hx; cases hx
      · exact ih p hp
    · split at hp
      · rename_i q qs hq
        rw [hq] at ih
        rcases List.mem_cons.1 hp with rfl | hp
        · intro x hx
          rcases List.mem_cons.1 hx with rfl | hx
          · exact h _ (.head _)
          · exact ih q (.head _) x hx
        · exact ih p (.tail _ hp)
      · rw [List.mem_singleton] at hp; subst hp
        intro x hx; rw [List.mem_singleton] at hx; subst hx; exact h _ (.head _)
/-- A path that stays as it is. -/
def PathOk (path : List Int) : Prop := ∃ ps, ps ≠ [] ∧ path = slashed ps ∧ ∀ p ∈ ps, PartOk p
theorem dotsI_ok {l : List Int} (h : Byt l) : PathOk (dotsI l) :=
  ⟨_, dotGo_ne _ _ (partsI_ne _), rfl, dotGo_okp _ [] (by simp) (fun q hq => ⟨parts_byt _ (byt_drop h 1) q hq, parts_noslash _ q hq⟩)⟩
theorem parts_slashed : ∀ (p : List Int) (ps : List (List Int)), (∀ q ∈ p :: ps, ∀ x ∈ q, x ≠ 47) → partsI (p ++ slashed ps) = p :: ps
  | [], [], _ => rfl
  | [], q :: qs, h => by
    show partsI (47 :: (q ++ slashed qs)) = _
    unfold partsI
    rw [if_pos rfl, parts_slashed q qs (fun x hx => h x (.tail _ hx))]
  | c :: p, ps, h => by
    have hc : c ≠ 47 := h _ (.head _) c (.head _)
    have ih := parts_slashed p ps (fun q hq x hx => by
      rcases List.mem_cons.1 hq with rfl | hq
      · exact h _ (.head _) x (.tail _ hx)
      · exact h q (.tail _ hq) x hx)
    show partsI (c :: (p ++ slashed ps)) = _
    unfold partsI
    rw [if_neg hc, ih]
theorem dotGo_id : ∀ (ps st : List (List Int)), ps ≠ [] → (∀ p ∈ ps, PartOk p) → dotGo st ps = st ++ ps
  | [], _, h, _ => absurd rfl h
  | [p], st, _, h => by
    have hp := h p (.head _)
    show dotStep st p true = _
    unfold dotStep
    rw [if_neg (by rintro (e | e); exact hp.dot1 e; exact hp.dot2 e), hp.plain.same]
  | p :: q :: r, st, _, h => by
    have hp := h p (.head _)
    show dotGo (dotStep st p false) (q :: r) = _
    rw [dotGo_id (q :: r) _ (by simp) (fun x hx => h x (.tail _ hx))]
    unfold dotStep
    rw [if_neg (by rintro (e | e); exact hp.dot1 e; exact hp.dot2 e), hp.plain.same]
    simp
theorem dotsI_same {path : List Int} (h : PathOk path) : dotsI path = path := by
  obtain ⟨ps, hne, rfl, hp⟩ := h
  obtain ⟨p, r, rfl⟩ := List.exists_cons_of_ne_nil hne
  unfold dotsI
  have : (slashed (p :: r)).drop 1 = p ++ slashed r := rfl
  rw [this, parts_slashed p r (fun q hq => (hp q hq).slash), dotGo_id _ [] (by simp) hp]
  rfl
theorem PathOk.plain {path : List Int} (h : PathOk path) : Plain path := by
  obtain ⟨ps, _, rfl, hp⟩ := h
  intro x hx
  unfold slashed at hx
  rw [List.mem_flatMap] at hx
  obtain ⟨p, hpp, hx⟩ := hx
  rcases List.mem_cons.1 hx with rfl | hx
  · exact ⟨by omega, by omega, by decide⟩
  · exact (hp p hpp).plain x hx
theorem PathOk.head {path : List Int} (h : PathOk path) : ∃ r, path = 47 :: r := by
  obtain ⟨ps, hne, rfl, _⟩ := h
  obtain ⟨p, r, rfl⟩ := List.exists_cons_of_ne_nil hne
  exact ⟨p ++ slashed r, rfl⟩
def QueryOk (q : List Int) : Prop := q = [] ∨ ∃ r, r ≠ [] ∧ q = 63 :: r ∧ Plain r
theorem queryI_ok (q : List Int) (hB : Byt q) : QueryOk (queryI q) := by
  unfold queryI
  split
  · rename_i h
    refine .inr ⟨_, ?_, rfl, plain_pctE _⟩
    intro e
    have := pctE_dots (byt_drop hB 1) 0 (by omega) e
    have h2 := congrArg List.length this
    rw [List.length_drop] at h2
    simp at h2
    omega
  · exact .inl rfl
theorem queryI_same {q : List Int} (h : QueryOk q) : queryI q = q := by
  rcases h with rfl | ⟨r, hr, rfl, hp⟩
  · rfl
  · unfold queryI
    have : 0 < r.length := List.length_pos_iff.2 hr
    rw [if_pos (by simp; omega)]
    show 63 :: pctE r = _
    rw [hp.same]
end Go.Proofs.YtakihnmajgmnpaaDoor
