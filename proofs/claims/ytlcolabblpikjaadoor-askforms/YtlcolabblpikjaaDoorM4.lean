/-
  Texts that the laws stand on: Url9, Nb, Url10, Rep1, Ask1, Head1.
-/
import Derived.Test.YtlcolabblpikjaaDoorM3
import Derived.Test.YtlcolabblpikjaaDoorM2
import Derived.Lib.SplitLaws
import Derived.Lib.ItoaNum

/-
  A parsed URL's print is parsed to itself: plain lists; nothing runs here.
-/
namespace Go.Proofs.YtlcolabblpikjaaDoor
set_option linter.unusedVariables false
set_option linter.unusedSimpArgs false
set_option maxRecDepth 20000

/-- Bytes that stand for themselves. -/
def Plain (l : List Int) : Prop := ∀ x ∈ l, 0 ≤ x ∧ x < 128 ∧ plainR x.toNat = true
theorem Plain.rng {l : List Int} (h : Plain l) : ∀ x ∈ l, 33 ≤ x ∧ x ≤ 126 ∧ x ≠ 34 ∧ x ≠ 96 ∧ x ≠ 35 ∧ x ≠ 60 ∧ x ≠ 62 ∧ x ≠ 63 ∧ x ≠ 123 ∧ x ≠ 125 := by
  intro x hx
  have := h x hx
  have h2 := (plainR_iff _).1 this.2.2
  omega
theorem Plain.same {l : List Int} (h : Plain l) : pctE l = l := pctE_same h
theorem plain_pctE (l : List Int) : Plain (pctE l) := pctE_plain l
/-- A part of a path that stays. -/
structure PartOk (p : List Int) : Prop where
  plain : Plain p
  slash : ∀ x ∈ p, x ≠ 47
  dot1 : p ≠ [46]
  dot2 : p ≠ [46, 46]
theorem partOk_nil : PartOk [] := ⟨fun x hx => (by cases hx), fun x hx => (by cases hx), by simp, by simp⟩
theorem parts_noslash : ∀ (l : List Int), ∀ p ∈ partsI l, ∀ x ∈ p, x ≠ 47
  | [], p, hp => by
    rw [show partsI [] = [[]] from rfl, List.mem_singleton] at hp
    subst hp; intro x hx; cases hx
  | c :: r, p, hp => by
    have ih := parts_noslash r
    unfold partsI at hp
    split at hp
    · rcases List.mem_cons.1 hp with rfl | hp
      · intro x hx; cases hx
      · exact ih p hp
    · rename_i hc
      split at hp
      · rename_i q qs hq
        rw [hq] at ih
        rcases List.mem_cons.1 hp with rfl | hp
        · intro x hx
          rcases List.mem_cons.1 hx with rfl | hx
          · exact hc
          · exact ih q (.head _) x hx
        · exact ih p (.tail _ hp)
      · rw [List.mem_singleton] at hp; subst hp
        intro x hx; rw [List.mem_singleton] at hx; subst hx; exact hc
/-- The runes of bytes without one that is below 128 do not hold it. -/
theorem decI_ascii (l : List Int) (h : (decI l).1 < 128) (hl : l ≠ []) : ((decI l).1 : Int) = ((l.getD 0 0).toNat : Int) ∧ (decI l).2 = 1 := by
  unfold decI at *
  rcases Lib.decodeN_shape l.length (l.getD 0 0).toNat (l.getD 1 0).toNat (l.getD 2 0).toNat (l.getD 3 0).toNat with ⟨h1, e⟩ | ⟨h1, h2, h3, h4, e⟩ | ⟨h1, h2, h3, h4, h5, h6, e⟩ | ⟨h1, h2, h3, h4, h5, h6, h7, e⟩ | e
  · rw [e]; exact ⟨rfl, rfl⟩
  all_goals rw [e] at h
  all_goals simp only [] at h
  all_goals omega
theorem runes_mem {l : List Int} (hB : Byt l) {c : Nat} (hc : c < 128) (h : c ∈ runes l) : (c : Int) ∈ l := by
  induction hn : l.length using Nat.strongRecOn generalizing l with
  | ind n ih =>
    by_cases hl : l = []
    · subst hl; cases h
    · rw [runes_step hl] at h
      rcases List.mem_cons.1 h with e | h
      · have h2 := decI_ascii l (by omega) hl
        rw [← e] at h2
        have h3 : 0 < l.length := List.length_pos_iff.2 hl
        have h4 : l.getD 0 0 ∈ l := by rw [List.getD_eq_getElem?_getD, List.getElem?_eq_getElem h3]; exact List.getElem_mem h3
        have h5 := hB _ h4
        have : (c : Int) = l.getD 0 0 := by omega
        rw [this]; exact h4
      · have hp := decI_pos l
        have h3 : 0 < l.length := List.length_pos_iff.2 hl
        have := ih _ (by rw [← hn, List.length_drop]; omega) (l := l.drop (decI l).2) (byt_drop hB _) h rfl
        exact List.mem_of_mem_drop this
theorem pctE_noslash {p : List Int} (hB : Byt p) (h : ∀ x ∈ p, x ≠ 47) : ∀ x ∈ pctE p, x ≠ 47 := by
  intro x hx e
  subst e
  rw [pctE, List.mem_flatMap] at hx
  obtain ⟨c, hc, hx⟩ := hx
  unfold pctR at hx
  split at hx
  · rw [List.mem_singleton] at hx
    have hc47 : c = 47 := by omega
    subst hc47
    exact h 47 (runes_mem hB (by decide) hc) rfl
  · rw [List.mem_flatMap] at hx
    obtain ⟨b, hb, hx⟩ := hx
    have hbb := encI_byt c b hb
    have h1 := hexD_plain (x := b / 16) (by omega) (by omega)
    have h2 := hexD_plain (x := b % 16) (by omega) (by omega)
    simp only [pct3, List.mem_cons, List.not_mem_nil, or_false] at hx
    omega
theorem pctR_one {c : Nat} {l : List Int} (h : pctR c = l) (hl : l.length < 3) : plainR c = true ∧ l = [(c : Int)] := by
  unfold pctR at h
  split at h
  · rename_i hp; exact ⟨hp, h.symm⟩
  · exfalso
    have h1 : (encI c) ≠ [] := encI_ne c
    obtain ⟨x, r, e⟩ := List.exists_cons_of_ne_nil h1
    rw [e, List.flatMap_cons] at h
    have := congrArg List.length h
    rw [List.length_append] at this
    simp [pct3] at this
    omega
theorem pctR_pos (c : Nat) : 1 ≤ (pctR c).length := by
  unfold pctR
  split
  · simp
  · obtain ⟨x, r, e⟩ := List.exists_cons_of_ne_nil (encI_ne c)
    rw [e, List.flatMap_cons, List.length_append]
    simp [pct3]; omega
/-- What is encoded to one point, or two, was that. -/
theorem pctE_dots {p : List Int} (hB : Byt p) : ∀ (k : Nat), k ≤ 2 → pctE p = List.replicate k 46 → p = List.replicate k 46 := by
  intro k hk h
  induction k generalizing p with
  | zero =>
    by_cases hp : p = []
    · exact hp
    · rw [pctE, runes_step hp, List.flatMap_cons] at h
      have := congrArg List.length h
      have h2 := pctR_pos (decI p).1
      rw [List.length_append, List.replicate_zero, List.length_nil] at this
      omega
  | succ k ih =>
    have hp : p ≠ [] := by rintro rfl; have := congrArg List.length h; rw [show pctE [] = [] from rfl] at this; simp at this
    rw [pctE, runes_step hp, List.flatMap_cons] at h
    have hlen := congrArg List.length h
    rw [List.length_append, List.length_replicate] at hlen
    obtain ⟨hpl, he⟩ := pctR_one (c := (decI p).1) rfl (by omega)
    rw [he, List.replicate_succ, List.singleton_append] at h
    injection h with h1 h2
    have h3 := decI_ascii p (by omega) hp
    have h4 : 0 < p.length := List.length_pos_iff.2 hp
    have h5 := getD_byt hB 0
    have h6 : p = p.getD 0 0 :: p.drop 1 := by
      rw [List.getD_eq_getElem?_getD, List.getElem?_eq_getElem h4, Option.getD_some]
      have := List.drop_eq_getElem_cons h4
      rwa [List.drop_zero] at this
    rw [h3.2] at h2
    have h7 := ih (p := p.drop 1) (byt_drop hB 1) (by omega) h2
    rw [h6, h7, List.replicate_succ]
    congr 1
    omega
theorem partOk_of {p : List Int} (hB : Byt p) (hs : ∀ x ∈ p, x ≠ 47) (h1 : p ≠ [46]) (h2 : p ≠ [46, 46]) : PartOk (pctE p) :=
  ⟨plain_pctE p, pctE_noslash hB hs, fun e => h1 (pctE_dots hB 1 (by omega) e), fun e => h2 (pctE_dots hB 2 (by omega) e)⟩
theorem dotStep_okp {st : List (List Int)} {p : List Int} {last : Bool} (h : ∀ q ∈ st, PartOk q) (hB : Byt p) (hs : ∀ x ∈ p, x ≠ 47) : ∀ q ∈ dotStep st p last, PartOk q := by
  intro q hq
  unfold dotStep at hq
  split at hq
  · simp only [] at hq
    have hst : ∀ q ∈ (if p = [46, 46] then st.dropLast else st), PartOk q := by
      intro q hq
      split at hq
      · exact h q ((List.dropLast_sublist _).subset hq)
      · exact h q hq
    split at hq
    · rcases List.mem_append.1 hq with hq | hq
      · exact hst q hq
      · rw [List.mem_singleton] at hq; subst hq; exact partOk_nil
    · exact hst q hq
  · rename_i hne
    rcases List.mem_append.1 hq with hq | hq
    · exact h q hq
    · rw [List.mem_singleton] at hq; subst hq
      exact partOk_of hB hs (fun e => hne (.inl e)) (fun e => hne (.inr e))
theorem dotGo_okp : ∀ (ps st : List (List Int)), (∀ q ∈ st, PartOk q) → (∀ q ∈ ps, Byt q ∧ ∀ x ∈ q, x ≠ 47) → ∀ q ∈ dotGo st ps, PartOk q
  | [], st, h, _ => h
  | [p], st, h, hp => dotStep_okp h (hp p (.head _)).1 (hp p (.head _)).2
  | p :: q :: r, st, h, hp => dotGo_okp (q :: r) _ (dotStep_okp h (hp p (.head _)).1 (hp p (.head _)).2) (fun x hx => hp x (.tail _ hx))
theorem dotStep_last (st : List (List Int)) (p : List Int) : dotStep st p true ≠ [] := by
  unfold dotStep
  split
  · simp
  · simp
theorem dotGo_ne : ∀ (ps st : List (List Int)), ps ≠ [] → dotGo st ps ≠ []
  | [], _, h => absurd rfl h
  | [p], st, _ => dotStep_last st p
  | p :: q :: r, st, _ => dotGo_ne (q :: r) _ (by simp)
theorem parts_byt : ∀ (l : List Int), Byt l → ∀ p ∈ partsI l, Byt p
  | [], _, p, hp => by
    rw [show partsI [] = [[]] from rfl, List.mem_singleton] at hp
    subst hp; intro x hx; cases hx
  | c :: r, h, p, hp => by
    have ih := parts_byt r (fun x hx => h x (.tail _ hx))
    unfold partsI at hp
    split at hp
    · rcases List.mem_cons.1 hp with rfl | hp
      · intro x hx; cases hx
      · exact ih p hp
    · split at hp
      · rename_i q qs hq
        rw [hq] at ih
        rcases List.mem_cons.1 hp with rfl | hp
        · intro x hx
          rcases List.mem_cons.1 hx with rfl | hx
          · exact h _ (.head _)
          · exact ih q (.head _) x hx
        · exact ih p (.tail _ hp)
      · rw [List.mem_singleton] at hp; subst hp
        intro x hx; rw [List.mem_singleton] at hx; subst hx; exact h _ (.head _)
/-- A path that stays as it is. -/
def PathOk (path : List Int) : Prop := ∃ ps, ps ≠ [] ∧ path = slashed ps ∧ ∀ p ∈ ps, PartOk p
theorem dotsI_ok {l : List Int} (h : Byt l) : PathOk (dotsI l) :=
  ⟨_, dotGo_ne _ _ (partsI_ne _), rfl, dotGo_okp _ [] (by simp) (fun q hq => ⟨parts_byt _ (byt_drop h 1) q hq, parts_noslash _ q hq⟩)⟩
theorem parts_slashed : ∀ (p : List Int) (ps : List (List Int)), (∀ q ∈ p :: ps, ∀ x ∈ q, x ≠ 47) → partsI (p ++ slashed ps) = p :: ps
  | [], [], _ => rfl
  | [], q :: qs, h => by
    show partsI (47 :: (q ++ slashed qs)) = _
    unfold partsI
    rw [if_pos rfl, parts_slashed q qs (fun x hx => h x (.tail _ hx))]
  | c :: p, ps, h => by
    have hc : c ≠ 47 := h _ (.head _) c (.head _)
    have ih := parts_slashed p ps (fun q hq x hx => by
      rcases List.mem_cons.1 hq with rfl | hq
      · exact h _ (.head _) x (.tail _ hx)
      · exact h q (.tail _ hq) x hx)
    show partsI (c :: (p ++ slashed ps)) = _
    unfold partsI
    rw [if_neg hc, ih]
theorem dotGo_id : ∀ (ps st : List (List Int)), ps ≠ [] → (∀ p ∈ ps, PartOk p) → dotGo st ps = st ++ ps
  | [], _, h, _ => absurd rfl h
  | [p], st, _, h => by
    have hp := h p (.head _)
    show dotStep st p true = _
    unfold dotStep
    rw [if_neg (by rintro (e | e); exact hp.dot1 e; exact hp.dot2 e), hp.plain.same]
  | p :: q :: r, st, _, h => by
    have hp := h p (.head _)
    show dotGo (dotStep st p false) (q :: r) = _
    rw [dotGo_id (q :: r) _ (by simp) (fun x hx => h x (.tail _ hx))]
    unfold dotStep
    rw [if_neg (by rintro (e | e); exact hp.dot1 e; exact hp.dot2 e), hp.plain.same]
    simp
theorem dotsI_same {path : List Int} (h : PathOk path) : dotsI path = path := by
  obtain ⟨ps, hne, rfl, hp⟩ := h
  obtain ⟨p, r, rfl⟩ := List.exists_cons_of_ne_nil hne
  unfold dotsI
  have : (slashed (p :: r)).drop 1 = p ++ slashed r := rfl
  rw [this, parts_slashed p r (fun q hq => (hp q hq).slash), dotGo_id _ [] (by simp) hp]
  rfl
theorem PathOk.plain {path : List Int} (h : PathOk path) : Plain path := by
  obtain ⟨ps, _, rfl, hp⟩ := h
  intro x hx
  unfold slashed at hx
  rw [List.mem_flatMap] at hx
  obtain ⟨p, hpp, hx⟩ := hx
  rcases List.mem_cons.1 hx with rfl | hx
  · exact ⟨by omega, by omega, by decide⟩
  · exact (hp p hpp).plain x hx
theorem PathOk.head {path : List Int} (h : PathOk path) : ∃ r, path = 47 :: r := by
  obtain ⟨ps, hne, rfl, _⟩ := h
  obtain ⟨p, r, rfl⟩ := List.exists_cons_of_ne_nil hne
  exact ⟨p ++ slashed r, rfl⟩
def QueryOk (q : List Int) : Prop := q = [] ∨ ∃ r, r ≠ [] ∧ q = 63 :: r ∧ Plain r
theorem queryI_ok (q : List Int) (hB : Byt q) : QueryOk (queryI q) := by
  unfold queryI
  split
  · rename_i h
    refine .inr ⟨_, ?_, rfl, plain_pctE _⟩
    intro e
    have := pctE_dots (byt_drop hB 1) 0 (by omega) e
    have h2 := congrArg List.length this
    rw [List.length_drop] at h2
    simp at h2
    omega
  · exact .inl rfl
theorem queryI_same {q : List Int} (h : QueryOk q) : queryI q = q := by
  rcases h with rfl | ⟨r, hr, rfl, hp⟩
  · rfl
  · unfold queryI
    have : 0 < r.length := List.length_pos_iff.2 hr
    rw [if_pos (by simp; omega)]
    show 63 :: pctE r = _
    rw [hp.same]
end Go.Proofs.YtlcolabblpikjaaDoor
/-
  Lists of bytes cut at a sign; digits; bytes as the library has them: nothing runs here.
-/
namespace Go.Proofs.YtlcolabblpikjaaDoor
set_option linter.unusedVariables false
set_option linter.unusedSimpArgs false
set_option maxRecDepth 20000

theorem ahead_app {st : List Int} : ∀ {p : List Int} (l : List Int), (∀ y ∈ p, st.contains y = false) → ahead st (p ++ l) = p ++ ahead st l ∧ behind st (p ++ l) = behind st l
  | [], l, _ => ⟨rfl, rfl⟩
  | x :: p, l, h => by
    have hx := h x (.head _)
    have ih := ahead_app (st := st) (p := p) l (fun y hy => h y (.tail _ hy))
    unfold ahead behind at *
    rw [List.cons_append, List.takeWhile_cons_of_pos (p := fun x => !st.contains x) (by rw [hx]; rfl), List.dropWhile_cons_of_pos (p := fun x => !st.contains x) (by rw [hx]; rfl), ih.1, ih.2]
    exact ⟨rfl, rfl⟩
theorem ahead_hd {st : List Int} {x : Int} (h : st.contains x = true) (l : List Int) : ahead st (x :: l) = [] ∧ behind st (x :: l) = x :: l := by
  unfold ahead behind
  rw [List.takeWhile_cons_of_neg (p := fun x => !st.contains x) (by rw [h]; simp), List.dropWhile_cons_of_neg (p := fun x => !st.contains x) (by rw [h]; simp)]
  exact ⟨rfl, rfl⟩
theorem ahead_stop {st p : List Int} {x : Int} {r : List Int} (hp : ∀ y ∈ p, st.contains y = false) (hx : st.contains x = true) : ahead st (p ++ x :: r) = p ∧ behind st (p ++ x :: r) = x :: r := by
  induction p with
  | nil =>
    unfold ahead behind
    rw [List.nil_append, List.takeWhile_cons_of_neg (by rw [hx]; simp), List.dropWhile_cons_of_neg (by rw [hx]; simp)]
    exact ⟨rfl, rfl⟩
  | cons y p ih =>
    have h0 := hp y (.head _)
    have := ih (fun z hz => hp z (.tail _ hz))
    unfold ahead behind at *
    rw [List.cons_append, List.takeWhile_cons_of_pos (by rw [h0]; rfl), List.dropWhile_cons_of_pos (by rw [h0]; rfl), this.1, this.2]
    exact ⟨rfl, rfl⟩
theorem ahead_full {st p : List Int} (hp : ∀ y ∈ p, st.contains y = false) : ahead st p = p ∧ behind st p = [] := by
  induction p with
  | nil => exact ⟨rfl, rfl⟩
  | cons y p ih =>
    have h0 := hp y (.head _)
    have := ih (fun z hz => hp z (.tail _ hz))
    unfold ahead behind at *
    rw [List.takeWhile_cons_of_pos (by rw [h0]; rfl), List.dropWhile_cons_of_pos (by rw [h0]; rfl), this.1, this.2]
    exact ⟨rfl, rfl⟩
theorem digs_short {n : Nat} (h : n < 100000) : (digs n).length ≤ 5 := by
  have key : ∀ f k m, m < 10 ^ (k + 1) → (digF f m).length ≤ k + 1 := by
    intro f
    induction f with
    | zero => intro k m _; simp [digF]
    | succ f ih =>
      intro k m hm
      simp only [digF]
      split
      · simp
      · rename_i h10
        cases k with
        | zero => simp at hm; omega
        | succ k =>
          have := ih k (m / 10) (by rw [Nat.pow_succ] at hm; omega)
          simp; omega
  exact key 20 4 n (by omega)
/-! ### bytes as the library has them -/
def nb (l : List UInt8) : List Int := l.map fun b => (b.toNat : Int)
theorem nb_str (l : List UInt8) : (⟨l.toArray⟩ : ByteArray) = strOfNums (nb l) := by
  rw [← str_sb (⟨l.toArray⟩ : ByteArray)]; rfl
theorem sb_nb (s : ByteArray) : sb s = nb s.data.toList := rfl
theorem nb_eq (b c : UInt8) : ((b.toNat : Int) = (c.toNat : Int)) ↔ b = c := by
  constructor
  · intro h; exact UInt8.toNat_inj.1 (by omega)
  · rintro rfl; rfl
theorem pre_begI : ∀ (p l : List UInt8), p.isPrefixOf l = begI (nb p) (nb l)
  | [], l => by unfold begI nb; simp
  | a :: p, [] => by unfold begI nb; simp
  | a :: p, b :: l => by
    rw [List.isPrefixOf_cons_cons, pre_begI p l]
    unfold begI nb
    simp only [List.map_cons, List.length_cons, List.take_succ_cons, List.cons.injEq]
    rw [Bool.eq_iff_iff]
    simp only [Bool.and_eq_true, beq_iff_eq, decide_eq_true_iff, nb_eq]
    exact ⟨fun ⟨h1, h2⟩ => ⟨h1.symm, h2⟩, fun ⟨h1, h2⟩ => ⟨h1.symm, h2⟩⟩
theorem cut_nil {sep : List UInt8} (h : sep ≠ []) : Lib.cut [] sep = ([], [], false) := by
  unfold Lib.cut Lib.index
  cases sep with
  | nil => exact absurd rfl h
  | cons a t => rfl
theorem cut_cons (b : UInt8) (l sep : List UInt8) : Lib.cut (b :: l) sep = if sep.isPrefixOf (b :: l) = true then ([], (b :: l).drop sep.length, true) else (b :: (Lib.cut l sep).1, (Lib.cut l sep).2.1, (Lib.cut l sep).2.2) := by
  have hge := Lib.index_ge l sep
  unfold Lib.cut
  rw [show Lib.index (b :: l) sep = if sep.isPrefixOf (b :: l) then 0 else if Lib.index l sep == -1 then -1 else Lib.index l sep + 1 from rfl]
  by_cases h : sep.isPrefixOf (b :: l) = true
  · rw [if_pos h, if_pos h, if_pos (by omega)]
    simp
  · rw [if_neg h, if_neg h]
    by_cases h1 : Lib.index l sep = -1
    · rw [h1]; simp
    · have h2 : (Lib.index l sep == -1) = false := beq_eq_false_iff_ne.2 h1
      rw [h2]
      have h3 : 0 ≤ Lib.index l sep := by omega
      obtain ⟨i, hi⟩ : ∃ i : Nat, Lib.index l sep = i := ⟨(Lib.index l sep).toNat, by omega⟩
      rw [hi]
      simp only [Bool.false_eq_true, if_false]
      rw [if_pos (by omega), if_pos (by omega)]
      have e1 : ((i : Int) + 1).toNat = i + 1 := by omega
      rw [e1, Int.toNat_natCast]
      simp [List.take_succ_cons, Nat.add_right_comm]
/-- Cut at one byte. -/
theorem cut_one (c : UInt8) : ∀ l : List UInt8, nb (Lib.cut l [c]).1 = ahead [(c.toNat : Int)] (nb l) ∧ nb (Lib.cut l [c]).2.1 = (behind [(c.toNat : Int)] (nb l)).drop 1 ∧ (Lib.cut l [c]).2.2 = decide (behind [(c.toNat : Int)] (nb l) ≠ [])
  | [] => by rw [cut_nil (by simp)]; exact ⟨rfl, rfl, rfl⟩
  | b :: l => by
    have ih := cut_one c l
    rw [cut_cons]
    have e : nb (b :: l) = (b.toNat : Int) :: nb l := rfl
    by_cases h : b = c
    · subst h
      rw [if_pos (by simp), e, (ahead_hd (by simp) _).1, (ahead_hd (by simp) _).2]
      simp [nb]
    · rw [if_neg (by simp; exact fun e => h e.symm), e]
      have hc : ([(c.toNat : Int)] : List Int).contains (b.toNat : Int) = false := by
        rw [← Bool.not_eq_true]; simp only [List.contains_cons, List.contains_nil, Bool.or_false, beq_iff_eq, nb_eq]; exact h
      have h1 := ahead_app (st := [(c.toNat : Int)]) (p := [(b.toNat : Int)]) (nb l) (by intro y hy; rw [List.mem_singleton.1 hy]; exact hc)
      rw [show (b.toNat : Int) :: nb l = [(b.toNat : Int)] ++ nb l from rfl, h1.1, h1.2]
      exact ⟨by show (b.toNat : Int) :: nb _ = _; rw [ih.1]; rfl, ih.2.1, ih.2.2⟩
/-- The digits. -/
theorem dec_digs : ∀ (n : Nat), n < 10 ^ 19 → nb (Lib.decDigits n) = digs n := by
  intro n
  induction n using Nat.strongRecOn with
  | ind n ih =>
    intro hn
    by_cases h : n < 10
    · rw [Lib.decDigits, dif_pos h, digs_small h]
      show [((UInt8.ofNat (48 + n)).toNat : Int)] = _
      rw [UInt8.toNat_ofNat']
      congr 1
      omega
    · rw [Lib.decDigits, dif_neg h, digs_step (by omega) hn]
      unfold nb
      rw [List.map_append]
      have := ih (n / 10) (by omega) (by omega)
      unfold nb at this
      rw [this]
      congr 1
      show [((UInt8.ofNat (48 + n % 10)).toNat : Int)] = _
      rw [UInt8.toNat_ofNat']
      congr 1
      omega
theorem itoa_digs (n : Nat) (hn : n < 10 ^ 19) : (⟨(Lib.itoa (n : Int)).toArray⟩ : ByteArray) = strOfNums (digs n) := by
  rw [nb_str]
  unfold Lib.itoa
  rw [if_neg (by omega), Int.toNat_natCast, dec_digs n hn]
end Go.Proofs.YtlcolabblpikjaaDoor
/-
  A parsed URL's print is parsed to itself, also with something behind a number sign: plain lists; nothing runs here.
-/
namespace Go.Proofs.YtlcolabblpikjaaDoor
set_option linter.unusedVariables false
set_option linter.unusedSimpArgs false
set_option maxRecDepth 20000

/-- A URL as Parse tells it. -/
structure UL.Norm (u : UL) : Prop where
  fine : u.Fine
  pathOk : PathOk u.path
  queryOk : QueryOk u.query
  portOk : u.port ≤ 65535
  portOwn : u.port ≠ ownI u.sch
theorem ownI_pos (s : List Int) : 0 < ownI s := by unfold ownI; split <;> decide
theorem parseI_norm {l : List Int} (hB : Byt l) {u : UL} (h : parseI l = some u) : u.Norm := by
  have hf := parseI_fine hB h
  unfold parseI at h
  rw [Option.bind_eq_some_iff] at h
  obtain ⟨⟨sch, r⟩, hs, h⟩ := h
  have hsr := schemeI_is hs
  have hrB : Byt r := by
    have ht : Byt (trimI l) := fun x hx => hB x ((trimI_sub l).subset hx)
    rcases hsr with ⟨_, rfl⟩ | ⟨_, rfl⟩ <;> exact byt_drop ht _
  unfold hostI at h
  simp only at h
  split at h
  · rw [Option.bind_eq_some_iff] at h
    obtain ⟨⟨port, rest2⟩, hp, h⟩ := h
    simp only at h
    have hpr : port ≤ 65535 ∧ port ≠ ownI sch ∧ Byt rest2 := by
      have hrb : Byt (behind [58, 47, 63, 35] r) := behind_byt hrB
      have hop := ownI_pos sch
      unfold portI at hp
      split at hp
      · rw [Option.bind_eq_some_iff] at hp
        obtain ⟨n, hn, hp⟩ := hp
        split at hp
        · cases hp
        · rename_i hbig
          injection hp with hp
          injection hp with hp1 hp2
          subst hp2
          refine ⟨?_, ?_, behind_byt (byt_drop hrb 1)⟩
          · rw [← hp1]; split <;> omega
          · rw [← hp1]; split
            · omega
            · assumption
      · injection hp with hp
        injection hp with hp1 hp2
        subst hp1 hp2
        exact ⟨by omega, by omega, hrb⟩
    unfold restI at h
    simp only at h
    split at h
    · cases h
    · cases h
      exact ⟨hf, dotsI_ok (ahead_byt (ahead_byt hpr.2.2)), queryI_ok _ (behind_byt (ahead_byt hpr.2.2)), hpr.1, hpr.2.1⟩
  · cases h
/-! ### reading the print -/
/-- Nothing, or a number sign and what is behind it. -/
def Frag (f : List Int) : Prop := f = [] ∨ ∃ r, f = 35 :: r
theorem HostOk.mem {h : List Int} (hh : HostOk h) : ∀ x ∈ h, HB x := by
  intro x hx
  obtain ⟨k, hk, e⟩ := List.getElem_of_mem hx
  have := (hh.2.2.2.2 k hk).1
  rw [List.getD_eq_getElem?_getD, List.getElem?_eq_getElem hk, Option.getD_some, e] at this
  exact this
theorem HostOk.low {h : List Int} (hh : HostOk h) : lowL h = h := by
  unfold lowL
  conv => rhs; rw [← List.map_id h]
  apply List.map_congr_left
  intro x hx
  have := hh.mem x hx
  unfold HB at this
  show lowI x = x
  unfold lowI
  rw [if_neg (by omega)]
def portT (u : UL) : List Int := if 0 < u.port then 58 :: digs u.port.toNat else []
theorem printI_parts (u : UL) : printI u = u.sch ++ ([58, 47, 47] ++ (u.host ++ (portT u ++ (u.path ++ u.query)))) := by
  unfold printI originI portT
  simp [List.append_assoc]
theorem printI_ascii {u : UL} (h : u.Norm) : ∀ x ∈ printI u, 33 ≤ x ∧ x ≤ 126 := by
  intro x hx
  rw [printI_parts] at hx
  simp only [List.mem_append] at hx
  rcases hx with hx | hx | hx | hx | hx | hx
  · rcases h.fine.sch with e | e <;> rw [e] at hx
    · simp [httpI] at hx; omega
    · simp [httpsI] at hx; omega
  · simp at hx; omega
  · have := h.fine.host.mem x hx; unfold HB at this; omega
  · unfold portT at hx
    split at hx
    · rcases List.mem_cons.1 hx with rfl | hx
      · omega
      · have := digs_dig _ x hx; omega
    · cases hx
  · have := h.pathOk.plain.rng x hx; omega
  · rcases h.queryOk with e | ⟨r, _, e, hp⟩ <;> rw [e] at hx
    · cases hx
    · rcases List.mem_cons.1 hx with rfl | hx
      · omega
      · have := hp.rng x hx; omega
theorem printI_head (u : UL) (h : u.Norm) : ∃ r, printI u = 104 :: r := by
  rw [printI_parts]
  rcases h.fine.sch with e | e <;> rw [e]
  · exact ⟨_, rfl⟩
  · exact ⟨_, rfl⟩
/-- Blanks behind a number sign alone are trimmed. -/
theorem trim_frag {p f : List Int} (hp : ∀ x ∈ p, 33 ≤ x ∧ x ≤ 126) (hne : p ≠ []) (hf : Frag f) : ∃ f', Frag f' ∧ trimI (p ++ f) = p ++ f' := by
  have hfirst : (p ++ f).dropWhile blank = p ++ f := by
    obtain ⟨x, r, rfl⟩ := List.exists_cons_of_ne_nil hne
    have := hp x (.head _)
    rw [List.cons_append, List.dropWhile_cons_of_neg (by unfold blank; simp; omega)]
  unfold trimI
  rw [hfirst, List.reverse_append, List.dropWhile_append]
  have hpr : p.reverse.dropWhile blank = p.reverse := by
    have hne2 : p.reverse ≠ [] := by simpa using hne
    obtain ⟨x, r, e⟩ := List.exists_cons_of_ne_nil hne2
    have hx : x ∈ p := by rw [← List.mem_reverse, e]; exact .head _
    have := hp x hx
    rw [e, List.dropWhile_cons_of_neg (by unfold blank; simp; omega)]
  rcases hf with rfl | ⟨r, rfl⟩
  · refine ⟨[], .inl rfl, ?_⟩
    simp [hpr]
  · have hx : ∃ g, ((35 :: r).reverse.dropWhile blank) = g ++ [35] := by
      rw [List.reverse_cons, List.dropWhile_append]
      split
      · exact ⟨[], by rw [List.dropWhile_cons_of_neg (by decide)]; rfl⟩
      · exact ⟨_, rfl⟩
    obtain ⟨g, hg⟩ := hx
    refine ⟨35 :: g.reverse, .inr ⟨_, rfl⟩, ?_⟩
    rw [hg]
    simp
theorem host_stops {h : List Int} (hh : HostOk h) : ∀ y ∈ h, ([58, 47, 63, 35] : List Int).contains y = false := by
  intro y hy
  have := hh.mem y hy
  unfold HB at this
  apply contains_no
  intro k hk e
  match k, hk, e with
  | 0, _, e => simp at e; omega
  | 1, _, e => simp at e; omega
  | 2, _, e => simp at e; omega
  | 3, _, e => simp at e; omega
  | (k + 4), hk, _ => simp only [List.length_cons, List.length_nil] at hk; omega
theorem portI_print {u : UL} (h : u.Norm) {t : List Int} (ht : ∃ r, t = 47 :: r) : portI u.sch (portT u ++ t) = some (u.port, t) := by
  obtain ⟨r, rfl⟩ := ht
  have hp0 := h.fine.port0
  have hp1 := h.portOk
  unfold portT
  by_cases h0 : 0 < u.port
  · rw [if_pos h0]
    have hb : begI [58] ((58 :: digs u.port.toNat) ++ 47 :: r) = true := by rw [begI_iff]; rfl
    have hdn : ∀ y ∈ digs u.port.toNat, ([47, 63, 35] : List Int).contains y = false := by
      intro y hy
      have := digs_dig _ y hy
      apply contains_no
      intro k hk e
      match k, hk, e with
      | 0, _, e => simp at e; omega
      | 1, _, e => simp at e; omega
      | 2, _, e => simp at e; omega
      | (k + 3), hk, _ => simp only [List.length_cons, List.length_nil] at hk; omega
    have hst := ahead_stop (r := r) hdn (show ([47, 63, 35] : List Int).contains 47 = true by decide)
    have hd1 : ((58 :: digs u.port.toNat) ++ 47 :: r).drop 1 = digs u.port.toNat ++ 47 :: r := rfl
    unfold portI
    rw [if_pos hb, hd1, hst.1, hst.2]
    have hlen := digs_len u.port.toNat
    have hsh := digs_short (n := u.port.toNat) (by omega)
    have hfig : figI (digs u.port.toNat) 1 5 = some u.port := by
      unfold figI
      rw [if_pos ⟨by omega, by omega, digs_dig _⟩, fig_digs (by omega)]
      congr 1; omega
    rw [hfig]
    show (if 65535 < u.port then none else some (if u.port = ownI u.sch then 0 else u.port, 47 :: r)) = _
    rw [if_neg (by omega), if_neg h.portOwn]
  · rw [if_neg h0, List.nil_append]
    have hz : u.port = 0 := by omega
    unfold portI
    rw [if_neg (by rw [begI_iff]; simp), hz]
theorem restI_print {u : UL} (h : u.Norm) {f : List Int} (hf : Frag f) : restI u.sch u.host u.port (u.path ++ (u.query ++ f)) = some u := by
  have hpp := h.pathOk.plain.rng
  have hq35 : ∀ y ∈ u.path ++ u.query, ([35] : List Int).contains y = false := by
    intro y hy
    have : y ≠ 35 := by
      rcases List.mem_append.1 hy with hy | hy
      · have := hpp y hy; omega
      · rcases h.queryOk with e | ⟨r, _, e, hp⟩ <;> rw [e] at hy
        · cases hy
        · rcases List.mem_cons.1 hy with rfl | hy
          · omega
          · have := hp.rng y hy; omega
    simpa using this
  have h1 : ahead [35] (u.path ++ (u.query ++ f)) = u.path ++ u.query := by
    rw [← List.append_assoc]
    rcases hf with rfl | ⟨r, rfl⟩
    · rw [List.append_nil]; exact (ahead_full hq35).1
    · exact (ahead_stop hq35 (by decide)).1
  have hp63 : ∀ y ∈ u.path, ([63] : List Int).contains y = false := by
    intro y hy
    have := hpp y hy
    have h2 : y ≠ 63 := by omega
    simpa using h2
  have h2 : ahead [63] (u.path ++ u.query) = u.path ∧ behind [63] (u.path ++ u.query) = u.query := by
    rcases h.queryOk with e | ⟨r, _, e, hp⟩ <;> rw [e]
    · rw [List.append_nil]; exact ahead_full hp63
    · exact ahead_stop hp63 (by decide)
  unfold restI
  rw [h1]
  simp only
  rw [h2.1, h2.2, dotsI_same h.pathOk, queryI_same h.queryOk]
  have hs := h.fine.short
  obtain ⟨a, b, c, d, e⟩ := u
  simp only at hs ⊢
  rw [if_neg (by omega)]
theorem parseI_print {u : UL} (h : u.Norm) {f : List Int} (hf : Frag f) : parseI (printI u ++ f) = some u := by
  obtain ⟨r0, hr0⟩ := printI_head u h
  obtain ⟨f', hf', ht⟩ := trim_frag (printI_ascii h) (by rw [hr0]; simp) hf
  unfold parseI
  rw [ht]
  have hsch : schemeI (printI u ++ f') = some (u.sch, u.host ++ (portT u ++ (u.path ++ (u.query ++ f')))) := by
    rw [printI_parts]
    unfold schemeI
    rcases h.fine.sch with e | e <;> rw [e]
    · have hb : begI (httpI ++ [58, 47, 47]) (lowL (httpI ++ ([58, 47, 47] ++ (u.host ++ (portT u ++ (u.path ++ u.query)))) ++ f')) = true := by rw [begI_iff]; rfl
      rw [if_pos hb]
      simp [httpI, List.append_assoc]
    · have hb1 : begI (httpI ++ [58, 47, 47]) (lowL (httpsI ++ ([58, 47, 47] ++ (u.host ++ (portT u ++ (u.path ++ u.query)))) ++ f')) = false := by
        rw [← Bool.not_eq_true, begI_iff]
        intro hx
        have := congrArg (fun l => l.getD 4 0) hx
        simp [httpI, httpsI, lowL, lowI] at this
      have hb2 : begI (httpsI ++ [58, 47, 47]) (lowL (httpsI ++ ([58, 47, 47] ++ (u.host ++ (portT u ++ (u.path ++ u.query)))) ++ f')) = true := by rw [begI_iff]; rfl
      rw [if_neg (by rw [hb1]; simp), if_pos hb2]
      simp [httpsI, List.append_assoc]
  rw [hsch]
  show hostI u.sch _ = some u
  obtain ⟨pr, hpr⟩ := h.pathOk.head
  have hnext : ∃ x q, portT u ++ (u.path ++ (u.query ++ f')) = x :: q ∧ ([58, 47, 63, 35] : List Int).contains x = true := by
    unfold portT
    split
    · exact ⟨58, _, rfl, by decide⟩
    · rw [hpr]; exact ⟨47, _, rfl, by decide⟩
  obtain ⟨x, q, hxq, hxs⟩ := hnext
  have hst : ahead [58, 47, 63, 35] (u.host ++ (portT u ++ (u.path ++ (u.query ++ f')))) = u.host ∧ behind [58, 47, 63, 35] (u.host ++ (portT u ++ (u.path ++ (u.query ++ f')))) = portT u ++ (u.path ++ (u.query ++ f')) := by
    rw [hxq]; exact ahead_stop (host_stops h.fine.host) hxs
  unfold hostI
  rw [hst.1, hst.2, h.fine.host.low, if_pos h.fine.host, portI_print h (by rw [hpr]; exact ⟨_, rfl⟩)]
  exact restI_print h hf'
/-- What is joined of its own path and query is the URL again, if its path does not begin as a host would. -/
theorem joinI_self {u : UL} (h : u.Norm) (h2 : u.path.getD 1 0 ≠ 47) : joinI u (u.path ++ u.query) = some u := by
  obtain ⟨pr, hpr⟩ := h.pathOk.head
  have hasc : ∀ x ∈ u.path ++ u.query, 33 ≤ x ∧ x ≤ 126 := fun x hx => printI_ascii h x (by
    rw [printI_parts]
    simp only [List.mem_append] at hx ⊢
    rcases hx with hx | hx
    · exact .inr (.inr (.inr (.inr (.inl hx))))
    · exact .inr (.inr (.inr (.inr (.inr hx)))))
  obtain ⟨f', hf', ht⟩ := trim_frag (f := []) hasc (by rw [hpr]; simp) (.inl rfl)
  have ht2 : trimI (u.path ++ u.query) = u.path ++ u.query := by
    have h1 := trimI_twice (u.path ++ u.query)
    rw [List.append_nil] at ht
    have hl := (trimI_sub (u.path ++ u.query)).length_le
    rw [ht, List.length_append] at hl
    have : f' = [] := List.eq_nil_of_length_eq_zero (by omega)
    rw [ht, this, List.append_nil]
  unfold joinI
  rw [ht2]
  have hb1 : begI [47, 47] (u.path ++ u.query) = false := by
    rw [← Bool.not_eq_true, begI_iff]
    intro hx
    rw [hpr] at hx h2
    cases pr with
    | nil =>
      rcases h.queryOk with e | ⟨r, _, e, hp⟩
      · rw [e] at hx; simp at hx
      · rw [e] at hx; simp at hx
    | cons y r =>
      simp at hx h2
      exact h2 hx
  have hb2 : begI [47] (u.path ++ u.query) = true := by rw [begI_iff, hpr]; rfl
  rw [if_neg (by rw [hb1]; simp), if_pos hb2]
  have := parseI_print h (f := []) (.inl rfl)
  rw [List.append_nil] at this
  unfold printI at this
  rw [List.append_assoc] at this
  exact this
end Go.Proofs.YtlcolabblpikjaaDoor
/-
  What a server says: plain lists; nothing runs here.
-/
namespace Go.Proofs.YtlcolabblpikjaaDoor
set_option linter.unusedVariables false
set_option linter.unusedSimpArgs false
set_option maxRecDepth 20000

/-! ### lines -/
/-- Up to 13, 10; none: there is none. -/
def lineI : List Int → Option (List Int × List Int)
  | [] => none
  | [_] => none
  | x :: y :: r => if x = 13 ∧ y = 10 then some ([], r) else (lineI (y :: r)).map fun p => (x :: p.1, p.2)
theorem lineI_cons (x : Int) (l : List Int) : lineI (x :: l) = if x = 13 ∧ l.head? = some 10 then some ([], l.tail) else (lineI l).map fun p => (x :: p.1, p.2) := by
  cases l with
  | nil => simp [lineI]
  | cons y r => simp [lineI]
theorem lineI_app : ∀ {p : List Int} (r : List Int), (∀ x ∈ p, x ≠ 13) → lineI (p ++ (13 :: 10 :: r)) = some (p, r)
  | [], r, _ => by simp [lineI]
  | x :: p, r, h => by
    have hx := h x (.head _)
    have ih := lineI_app (p := p) r (fun y hy => h y (.tail _ hy))
    rw [List.cons_append, lineI_cons, if_neg (by rintro ⟨e, _⟩; exact hx e), ih]
    rfl
theorem lineI_is : ∀ {l p r : List Int}, lineI l = some (p, r) → l = p ++ (13 :: 10 :: r)
  | [], _, _, h => by cases h
  | x :: l, p, r, h => by
    rw [lineI_cons] at h
    split at h
    · rename_i hx
      obtain ⟨rfl, hh⟩ := hx
      cases l with
      | nil => cases hh
      | cons y t =>
        simp only [List.head?_cons, Option.some.injEq] at hh
        subst hh
        cases h
        rfl
    · rw [Option.map_eq_some_iff] at h
      obtain ⟨⟨p', r'⟩, h1, h2⟩ := h
      cases h2
      rw [lineI_is h1]
      rfl
theorem lineI_len {l p r : List Int} (h : lineI l = some (p, r)) : p.length + r.length + 2 = l.length := by
  have := congrArg List.length (lineI_is h)
  simp at this; omega
theorem lineI_byt {l p r : List Int} (hB : Byt l) (h : lineI l = some (p, r)) : Byt p ∧ Byt r := by
  have e := lineI_is h
  subst e
  exact ⟨fun x hx => hB x (by simp [hx]), fun x hx => hB x (by simp [hx])⟩
/-- No line in what has no 13, but perhaps as its last. -/
theorem lineI_no : ∀ {l : List Int}, (∀ x ∈ l.dropLast, x ≠ 13) → lineI l = none
  | [], _ => rfl
  | [x], _ => rfl
  | x :: y :: r, h => by
    have hx := h x (by simp)
    rw [lineI_cons, if_neg (by rintro ⟨e, _⟩; exact hx e), lineI_no (fun z hz => h z (by simp at hz ⊢; exact .inr hz))]
    rfl
/-! ### blanks at the ends -/
def blanksI (l : List Int) : List Int := ((l.dropWhile (· == 32)).reverse.dropWhile (· == 32)).reverse
theorem blanksI_front (l : List Int) : blanksI (32 :: l) = blanksI l := by unfold blanksI; rw [List.dropWhile_cons_of_pos (by decide)]
theorem blanksI_nil : blanksI [] = [] := rfl
theorem blanksI_sub (l : List Int) : (blanksI l).Sublist l := by
  unfold blanksI
  have h1 := List.dropWhile_sublist (· == (32 : Int)) (l := (l.dropWhile (· == 32)).reverse)
  have h2 := h1.reverse
  rw [List.reverse_reverse] at h2
  exact h2.trans (List.dropWhile_sublist _)
theorem drop32_all : ∀ {l : List Int}, (∀ x ∈ l, x = 32) → l.dropWhile (· == (32 : Int)) = []
  | [], _ => rfl
  | x :: l, h => by
    rw [List.dropWhile_cons_of_pos (by simpa using h x (.head _))]
    exact drop32_all (fun y hy => h y (.tail _ hy))
theorem blanksI_back (l : List Int) : blanksI (l ++ [32]) = blanksI l := by
  unfold blanksI
  by_cases h : ∀ x ∈ l, x = 32
  · have e : l.dropWhile (· == (32 : Int)) = [] := drop32_all h
    have e2 : (l ++ [32]).dropWhile (· == (32 : Int)) = [] := by
      refine drop32_all (fun x hx => ?_)
      rcases List.mem_append.1 hx with hx | hx
      · exact h x hx
      · simpa using hx
    rw [e, e2]
  · have e : (l ++ [32]).dropWhile (· == (32 : Int)) = l.dropWhile (· == 32) ++ [32] := by
      induction l with
      | nil => exact absurd (fun x hx => by cases hx) h
      | cons y t ih =>
        by_cases hy : y = 32
        · subst hy
          rw [List.cons_append, List.dropWhile_cons_of_pos (by decide), List.dropWhile_cons_of_pos (by decide)]
          exact ih (fun h' => h (fun x hx => by rcases List.mem_cons.1 hx with rfl | hx; rfl; exact h' x hx))
        · rw [List.cons_append, List.dropWhile_cons_of_neg (by simpa using hy), List.dropWhile_cons_of_neg (by simpa using hy)]
          rfl
    rw [e, List.reverse_append]
    show (((32 : Int) :: (l.dropWhile (· == 32)).reverse).dropWhile (· == 32)).reverse = _
    rw [List.dropWhile_cons_of_pos (by decide)]
/-- What has no blank at its ends stays. -/
theorem blanksI_same {l : List Int} (h1 : l.head? ≠ some 32) (h2 : l.getLast? ≠ some 32) : blanksI l = l := by
  unfold blanksI
  have e1 : l.dropWhile (· == (32 : Int)) = l := by
    cases l with
    | nil => rfl
    | cons x t => rw [List.dropWhile_cons_of_neg (by simp at h1 ⊢; exact h1)]
  rw [e1]
  have e2 : l.reverse.dropWhile (· == (32 : Int)) = l.reverse := by
    have h3 : l.reverse.head? ≠ some 32 := by rw [List.head?_reverse]; exact h2
    cases hr : l.reverse with
    | nil => rfl
    | cons x t => rw [hr] at h3; rw [List.dropWhile_cons_of_neg (by simp at h3 ⊢; exact h3)]
  rw [e2, List.reverse_reverse]
theorem blanksI_ends {l : List Int} (h1 : l.head? ≠ some 32) (h2 : l.getLast? ≠ some 32) (a b : Nat) : blanksI (List.replicate a 32 ++ l ++ List.replicate b 32) = l := by
  have ha : ∀ a : Nat, ∀ m : List Int, blanksI (List.replicate a 32 ++ m) = blanksI m := by
    intro a
    induction a with
    | zero => intro m; rfl
    | succ a ih => intro m; rw [List.replicate_succ, List.cons_append, blanksI_front, ih]
  have hb : ∀ b : Nat, ∀ m : List Int, blanksI (m ++ List.replicate b 32) = blanksI m := by
    intro b
    induction b with
    | zero => intro m; rw [List.replicate_zero, List.append_nil]
    | succ b ih => intro m; rw [List.replicate_succ', ← List.append_assoc, blanksI_back, ih]
  rw [List.append_assoc, ha, hb, blanksI_same h1 h2]
/-! ### names and values -/
def NB (c : Int) : Prop := (65 ≤ c ∧ c ≤ 90) ∨ (97 ≤ c ∧ c ≤ 122) ∨ (48 ≤ c ∧ c ≤ 57) ∨ c = 45
instance (x : Int) : Decidable (NB x) := by unfold NB; infer_instance
def NameOk (most : Int) (l : List Int) : Prop := (∀ x ∈ l, NB x) ∧ 1 ≤ l.length ∧ (l.length : Int) ≤ most
instance (m : Int) (l : List Int) : Decidable (NameOk m l) := by unfold NameOk; infer_instance
def ValueOk (most : Int) (l : List Int) : Prop := (∀ x ∈ l, 32 ≤ x ∧ x ≤ 126) ∧ (l.length : Int) ≤ most ∧ (l = [] ∨ (l.getD 0 0 ≠ 32 ∧ l.getD (l.length - 1) 0 ≠ 32))
instance (m : Int) (l : List Int) : Decidable (ValueOk m l) := by unfold ValueOk; infer_instance
theorem ValueOk.ends {m : Int} {l : List Int} (h : ValueOk m l) : l.head? ≠ some 32 ∧ l.getLast? ≠ some 32 := by
  rcases h.2.2 with rfl | ⟨h1, h2⟩
  · exact ⟨by simp, by simp⟩
  · constructor
    · cases l with
      | nil => simp
      | cons x t => simpa using h1
    · intro e
      rw [List.getLast?_eq_getElem?] at e
      rw [List.getD_eq_getElem?_getD, e] at h2
      exact h2 rfl
/-! ### answers -/
abbrev HL := List (List Int × List Int)
structure RL where
  code : Int
  heads : HL
  body : List Int
  cut : Bool
def clI : List Int := [99, 111, 110, 116, 101, 110, 116, 45, 108, 101, 110, 103, 116, 104]
/-- A line as a header. -/
def headI (l : List Int) : Option (List Int × List Int) :=
  if behind [58] l = [] then none
  else if NameOk 20 (ahead [58] l) ∧ ValueOk 40 (blanksI ((behind [58] l).drop 1)) then some (ahead [58] l, blanksI ((behind [58] l).drop 1)) else none
/-- What a header tells of the length: wrong, nothing, a number. -/
def lenI (had : Option Int) (h : List Int × List Int) : Option (Option Int) :=
  if lowL h.1 = clI then (if had.isSome then none else (figI h.2 1 6).map some) else some had
def headsF : Nat → HL → Option Int → List Int → Option (HL × Option Int × List Int)
  | 0, _, _, _ => none
  | f + 1, hs, had, s => (lineI s).bind fun p =>
    if p.1 = [] then some (hs, had, p.2)
    else (headI p.1).bind fun h => if hs.length = 8 then none else (lenI had h).bind fun had' => headsF f (hs ++ [h]) had' p.2
theorem headsF_any : ∀ (f g : Nat) (hs : HL) (had : Option Int) (s : List Int), s.length < f → s.length < g → headsF f hs had s = headsF g hs had s
  | 0, _, _, _, s, h, _ => by omega
  | f + 1, 0, _, _, s, _, h => by omega
  | f + 1, g + 1, hs, had, s, hf, hg => by
    unfold headsF
    cases hl : lineI s with
    | none => rfl
    | some p =>
      obtain ⟨p1, p2⟩ := p
      have := lineI_len hl
      simp only [Option.bind_some]
      split
      · rfl
      · cases headI p1 with
        | none => rfl
        | some h =>
          simp only [Option.bind_some]
          split
          · rfl
          · cases lenI had h with
            | none => rfl
            | some h' => exact headsF_any f g _ _ _ (by omega) (by omega)
def headsI (hs : HL) (had : Option Int) (s : List Int) : Option (HL × Option Int × List Int) := headsF (s.length + 1) hs had s
theorem headsI_step (hs : HL) (had : Option Int) (s : List Int) : headsI hs had s = (lineI s).bind fun p =>
    if p.1 = [] then some (hs, had, p.2)
    else (headI p.1).bind fun h => if hs.length = 8 then none else (lenI had h).bind fun had' => headsI (hs ++ [h]) had' p.2 := by
  unfold headsI
  rw [headsF]
  cases hl : lineI s with
  | none => rfl
  | some p =>
    obtain ⟨p1, p2⟩ := p
    have := lineI_len hl
    simp only [Option.bind_some]
    split
    · rfl
    · cases headI p1 with
      | none => rfl
      | some h =>
        simp only [Option.bind_some]
        split
        · rfl
        · cases lenI had h with
          | none => rfl
          | some h' => exact headsF_any _ _ _ _ _ (by omega) (by omega)
def verI : List Int := [72, 84, 84, 80, 47, 49, 46, 49, 32]
/-- What a first line says. -/
def firstI (l : List Int) : Option Int :=
  if begI verI l ∧ 12 ≤ l.length then (figI ((l.drop 9).take 3) 3 3).bind fun n => if n < 100 ∨ 599 < n then none else some n else none
def bodyI (had : Option Int) (s : List Int) : List Int × Bool := match had with
  | none => (s, false)
  | some n => (s.take n.toNat, decide ((s.length : Int) < n))
def replyI (s : List Int) : Option RL := (lineI s).bind fun p => (firstI p.1).bind fun c => (headsI [] none p.2).map fun q => ⟨c, q.1, (bodyI q.2.1 q.2.2).1, (bodyI q.2.1 q.2.2).2⟩
/-! ### prints -/
def headP (h : List Int × List Int) : List Int := h.1 ++ ([58, 32] ++ (h.2 ++ [13, 10]))
def headsP (hs : HL) : List Int := hs.flatMap headP
def replyP (code : Nat) (hs : HL) (body : List Int) : List Int := verI ++ (digs code ++ ([32, 45, 13, 10] ++ (headsP hs ++ ([13, 10] ++ body))))
def HeadOk (h : List Int × List Int) : Prop := NameOk 20 h.1 ∧ ValueOk 40 h.2
theorem nb_no {x : Int} (h : NB x) : x ≠ 58 ∧ x ≠ 13 := by unfold NB at h; omega
/-- A line of a name, blanks, a value, blanks. -/
theorem headI_line {n v : List Int} (h : HeadOk (n, v)) (a b : Nat) : headI (n ++ 58 :: (List.replicate a 32 ++ v ++ List.replicate b 32)) = some (n, v) := by
  have hn : ∀ y ∈ n, ([58] : List Int).contains y = false := fun y hy => by
    rw [← Bool.not_eq_true]; intro hc; have := (nb_no (h.1.1 y hy)).1; simp at hc; exact this hc
  have hs := ahead_stop (st := [58]) (r := List.replicate a 32 ++ v ++ List.replicate b 32) hn (x := 58) (by decide)
  have he := h.2.ends
  unfold headI
  rw [hs.1, hs.2, if_neg (by simp), List.drop_succ_cons, List.drop_zero, blanksI_ends he.1 he.2]
  exact if_pos h
theorem line_ne {n v : List Int} (h : HeadOk (n, v)) (r : List Int) : n ++ 58 :: r ≠ [] := by simp
theorem line_13 {n v : List Int} (h : HeadOk (n, v)) (a b : Nat) : ∀ x ∈ n ++ 58 :: (List.replicate a 32 ++ v ++ List.replicate b 32), x ≠ 13 := by
  intro x hx
  simp only [List.mem_append, List.mem_cons, List.mem_replicate] at hx
  rcases hx with hx | rfl | (⟨_, rfl⟩ | hx) | ⟨_, rfl⟩
  · exact (nb_no (h.1.1 x hx)).2
  · decide
  · decide
  · have := h.2.1 x hx; omega
  · decide
/-- A header's line is read, whatever blanks stand beside its value. -/
theorem headsI_line {n v : List Int} (h : HeadOk (n, v)) (a b : Nat) (hs : HL) (had : Option Int) (s : List Int) :
    headsI hs had (n ++ 58 :: (List.replicate a 32 ++ v ++ List.replicate b 32) ++ (13 :: 10 :: s)) = if hs.length = 8 then none else (lenI had (n, v)).bind fun had' => headsI (hs ++ [(n, v)]) had' s := by
  rw [headsI_step, lineI_app _ (line_13 h a b)]
  simp only [Option.bind_some]
  rw [if_neg (line_ne h _), headI_line h a b]
  rfl
theorem headsI_end (hs : HL) (had : Option Int) (s : List Int) : headsI hs had (13 :: 10 :: s) = some (hs, had, s) := by
  rw [headsI_step, show (13 : Int) :: 10 :: s = [] ++ (13 :: 10 :: s) from rfl, lineI_app _ (by simp)]
  rfl
/-- Printed headers, read. -/
def lensI : Option Int → HL → Option (Option Int)
  | had, [] => some had
  | had, h :: hs => (lenI had h).bind fun had' => lensI had' hs
theorem headsI_print : ∀ (hs ks : HL) (had : Option Int) (s : List Int), (∀ h ∈ hs, HeadOk h) → ks.length + hs.length ≤ 8 →
    headsI ks had (headsP hs ++ (13 :: 10 :: s)) = (lensI had hs).map fun had' => (ks ++ hs, had', s)
  | [], ks, had, s, _, _ => by
    show headsI ks had (13 :: 10 :: s) = _
    rw [headsI_end]
    simp [lensI]
  | h :: hs, ks, had, s, hok, hl => by
    obtain ⟨n, v⟩ := h
    have h0 := hok (n, v) (.head _)
    have e : headsP ((n, v) :: hs) ++ (13 :: 10 :: s) = n ++ 58 :: (List.replicate 1 32 ++ v ++ List.replicate 0 32) ++ (13 :: 10 :: (headsP hs ++ (13 :: 10 :: s))) := by
      simp [headsP, headP]
    simp only [List.length_cons] at hl
    rw [e, headsI_line h0, if_neg (by omega)]
    simp only [lensI]
    cases lenI had (n, v) with
    | none => rfl
    | some had' =>
      simp only [Option.bind_some]
      rw [headsI_print hs (ks ++ [(n, v)]) had' s (fun x hx => hok x (.tail _ hx)) (by rw [List.length_append]; simp; omega)]
      simp
theorem digs_three {c : Nat} (h1 : 100 ≤ c) (h2 : c ≤ 999) : (digs c).length = 3 := by
  rw [digs_step (by omega) (by omega), digs_step (by omega) (by omega), digs_small (by omega)]; rfl
theorem first_print {c : Nat} (h1 : 100 ≤ c) (h2 : c ≤ 599) (t : List Int) : firstI (verI ++ (digs c ++ t)) = some (c : Int) := by
  have h3 := digs_three h1 (by omega)
  unfold firstI
  rw [if_pos ⟨by rw [begI_iff, List.take_left'] ; rfl, by rw [List.length_append, List.length_append, h3]; simp [verI]; omega⟩]
  have e : ((verI ++ (digs c ++ t)).drop 9).take 3 = digs c := by
    rw [show (9 : Nat) = verI.length from rfl, List.drop_left, ← h3, List.take_left']; rfl
  rw [e]
  unfold figI
  rw [if_pos ⟨by rw [h3]; decide, by rw [h3]; decide, digs_dig c⟩, fig_digs (by omega)]
  simp only [Option.bind_some]
  rw [if_neg (by omega)]
theorem ver_13 : ∀ x ∈ verI, x ≠ 13 := by decide
/-- A printed answer, read. -/
theorem replyI_print {c : Nat} (h1 : 100 ≤ c) (h2 : c ≤ 599) {hs : HL} (hok : ∀ h ∈ hs, HeadOk h) (hl : hs.length ≤ 8) (body : List Int) :
    replyI (replyP c hs body) = (lensI none hs).map fun had => ⟨c, hs, (bodyI had body).1, (bodyI had body).2⟩ := by
  have e : replyP c hs body = (verI ++ (digs c ++ [32, 45])) ++ (13 :: 10 :: (headsP hs ++ (13 :: 10 :: body))) := by simp [replyP]
  have h13 : ∀ x ∈ verI ++ (digs c ++ [32, 45]), x ≠ 13 := by
    intro x hx
    rcases List.mem_append.1 hx with hx | hx
    · exact ver_13 x hx
    · rcases List.mem_append.1 hx with hx | hx
      · have := digs_dig c x hx; omega
      · simp at hx; omega
  unfold replyI
  rw [e, lineI_app _ h13]
  simp only [Option.bind_some]
  rw [first_print h1 h2, Option.bind_some, headsI_print hs [] none body hok (by simpa using hl)]
  cases lensI none hs <;> rfl
end Go.Proofs.YtlcolabblpikjaaDoor
/-
  What is sent: requests as lists of bytes, their texts, and what a text says: plain lists; nothing runs here.
-/
namespace Go.Proofs.YtlcolabblpikjaaDoor
set_option linter.unusedVariables false
set_option linter.unusedSimpArgs false
set_option maxRecDepth 20000

structure AL where
  m : List Int
  u : List Int
  hs : HL
  body : List Int
def http11 : List Int := [32, 72, 84, 84, 80, 47, 49, 46, 49]
def hostW : List Int := [72, 111, 115, 116, 58, 32]
def schemeW : List Int := [83, 99, 104, 101, 109, 101, 58, 32]
def clW : List Int := [67, 111, 110, 116, 101, 110, 116, 45, 76, 101, 110, 103, 116, 104]
def MethOk (m : List Int) : Prop := 1 ≤ m.length ∧ m.length ≤ 8 ∧ ∀ x ∈ m, 65 ≤ x ∧ x ≤ 90
instance (m : List Int) : Decidable (MethOk m) := by unfold MethOk; infer_instance
def ValA (v : List Int) : Prop := (∀ x ∈ v, 32 ≤ x ∧ x ≤ 126) ∧ (v = [] ∨ (v.getD 0 0 ≠ 32 ∧ v.getD (v.length - 1) 0 ≠ 32))
instance (v : List Int) : Decidable (ValA v) := by unfold ValA; infer_instance
def NamA (n : List Int) : Prop := n ≠ [] ∧ ∀ x ∈ n, (32 ≤ x ∧ x ≤ 126) ∧ x ≠ 58
instance (n : List Int) : Decidable (NamA n) := by unfold NamA; infer_instance
def HeadA (h : List Int × List Int) : Prop := NamA h.1 ∧ ValA h.2
instance (h : List Int × List Int) : Decidable (HeadA h) := by unfold HeadA; infer_instance
def AskOk (a : AL) (u : UL) : Prop := printI u = a.u ∧ MethOk a.m ∧ ∀ h ∈ a.hs, HeadA h
instance (a : AL) (u : UL) : Decidable (AskOk a u) := by unfold AskOk; infer_instance
def lenT (body : List Int) : List Int := if body = [] then [] else headP (clW, digs body.length)
def topA (m : List Int) (u : UL) : List Int := m ++ (32 :: (u.path ++ (u.query ++ (http11 ++ (13 :: 10 :: (hostW ++ (u.host ++ (portT u ++ (13 :: 10 :: (schemeW ++ (u.sch ++ [13, 10])))))))))))
def textA (a : AL) (u : UL) : List Int := topA a.m u ++ (headsP a.hs ++ (lenT a.body ++ (13 :: 10 :: a.body)))
def askP (a : AL) : Option (List Int) := (parseI a.u).bind fun u => if AskOk a u then some (textA a u) else none

/-! ### what a text says -/
def endI (p l : List Int) : Bool := decide (p.length ≤ l.length) && decide (l.drop (l.length - p.length) = p)
def headA (l : List Int) : Option (List Int × List Int) := if 2 ≤ (behind [58] l).length ∧ (behind [58] l).getD 1 0 = 32 then some (ahead [58] l, (behind [58] l).drop 2) else none
def headsAF : Nat → HL → List Int → Option (HL × List Int)
  | 0, _, _ => none
  | f + 1, hs, s => (lineI s).bind fun p => if p.1 = [] then some (hs, p.2) else (headA p.1).bind fun h => headsAF f (hs ++ [h]) p.2
theorem headsAF_any : ∀ (f g : Nat) (hs : HL) (s : List Int), s.length < f → s.length < g → headsAF f hs s = headsAF g hs s
  | 0, _, _, s, h, _ => by omega
  | f + 1, 0, _, s, _, h => by omega
  | f + 1, g + 1, hs, s, hf, hg => by
    unfold headsAF
    cases hl : lineI s with
    | none => rfl
    | some p =>
      obtain ⟨p1, p2⟩ := p
      have := lineI_len hl
      simp only [Option.bind_some]
      split
      · rfl
      · cases headA p1 with
        | none => rfl
        | some h => exact headsAF_any f g _ _ (by omega) (by omega)
def headsA (hs : HL) (s : List Int) : Option (HL × List Int) := headsAF (s.length + 1) hs s
theorem headsA_step (hs : HL) (s : List Int) : headsA hs s = (lineI s).bind fun p => if p.1 = [] then some (hs, p.2) else (headA p.1).bind fun h => headsA (hs ++ [h]) p.2 := by
  unfold headsA
  rw [headsAF]
  cases hl : lineI s with
  | none => rfl
  | some p =>
    obtain ⟨p1, p2⟩ := p
    have := lineI_len hl
    simp only [Option.bind_some]
    split
    · rfl
    · cases headA p1 with
      | none => rfl
      | some h => exact headsAF_any _ _ _ _ (by omega) (by omega)
/-- The first line's path, between the blank and the version. -/
def pathA (l : List Int) : List Int := ((behind [32] l).take ((behind [32] l).length - 9)).drop 1
def lastA (q : HL × List Int) : HL := if q.2 = [] then q.1 else q.1.dropLast
def candI (s : List Int) : Option AL := (lineI s).bind fun p1 =>
  if 11 ≤ (behind [32] p1.1).length ∧ endI http11 (behind [32] p1.1) = true then (lineI p1.2).bind fun p2 =>
    if begI hostW p2.1 = true then (lineI p2.2).bind fun p3 =>
      if begI schemeW p3.1 = true then (headsA [] p3.2).map fun q => ⟨ahead [32] p1.1, p3.1.drop 8 ++ ([58, 47, 47] ++ (p2.1.drop 6 ++ pathA p1.1)), lastA q, q.2⟩ else none
    else none
  else none
def askI (s : List Int) : Option AL := (candI s).bind fun a => if askP a = some s then some a else none
theorem askI_is {s : List Int} {a : AL} (h : askI s = some a) : askP a = some s := by
  unfold askI at h
  rw [Option.bind_eq_some_iff] at h
  obtain ⟨b, _, h⟩ := h
  split at h
  · rename_i hb; cases h; exact hb
  · cases h
/-! ### what was printed is read -/
theorem headA_line {n v : List Int} (h : HeadA (n, v)) : headA (n ++ ([58, 32] ++ v)) = some (n, v) := by
  have hn : ∀ y ∈ n, ([58] : List Int).contains y = false := fun y hy => by
    rw [← Bool.not_eq_true]; intro hc; simp at hc; exact (h.1.2 y hy).2 hc
  have hs := ahead_stop (st := [58]) (r := 32 :: v) hn (x := 58) (by decide)
  unfold headA
  rw [show n ++ ([58, 32] ++ v) = n ++ 58 :: (32 :: v) from rfl, hs.1, hs.2, if_pos ⟨by simp, by simp⟩]
  rfl
theorem line_head {n v : List Int} (h : HeadA (n, v)) (s : List Int) : lineI (headP (n, v) ++ s) = some (n ++ ([58, 32] ++ v), s) := by
  have e : headP (n, v) ++ s = (n ++ ([58, 32] ++ v)) ++ (13 :: 10 :: s) := by simp [headP]
  rw [e]
  refine lineI_app s (fun x hx => ?_)
  simp only [List.mem_append, List.mem_cons, List.not_mem_nil, or_false] at hx
  rcases hx with hx | (rfl | rfl) | hx
  · have := (h.1.2 x hx).1; omega
  · decide
  · decide
  · have := h.2.1 x hx; omega
theorem headsA_print : ∀ (hs ks : HL) (s : List Int), (∀ h ∈ hs, HeadA h) → headsA ks (headsP hs ++ (13 :: 10 :: s)) = some (ks ++ hs, s)
  | [], ks, s, _ => by
    show headsA ks (13 :: 10 :: s) = _
    rw [headsA_step, show (13 : Int) :: 10 :: s = [] ++ (13 :: 10 :: s) from rfl, lineI_app _ (by simp)]
    simp
  | h :: hs, ks, s, hok => by
    obtain ⟨n, v⟩ := h
    have h0 := hok (n, v) (.head _)
    have e : headsP ((n, v) :: hs) ++ (13 :: 10 :: s) = headP (n, v) ++ (headsP hs ++ (13 :: 10 :: s)) := by simp [headsP]
    rw [e, headsA_step, line_head h0, Option.bind_some]
    simp only
    have hne : n ++ ([58, 32] ++ v) ≠ [] := by simp
    rw [if_neg hne, headA_line h0, Option.bind_some, headsA_print hs _ s (fun x hx => hok x (.tail _ hx))]
    simp
theorem headsP_app (a b : HL) : headsP (a ++ b) = headsP a ++ headsP b := by unfold headsP; rw [List.flatMap_append]
theorem clA (n : Nat) : HeadA (clW, digs n) := by
  have hd := digs_dig n
  have hl := digs_len n
  have hc : NamA clW := by decide
  refine ⟨hc, fun x hx => by have := hd x hx; omega, .inr ⟨?_, ?_⟩⟩
  · have hm : (digs n).getD 0 0 ∈ digs n := by rw [List.getD_eq_getElem?_getD, List.getElem?_eq_getElem (by omega)]; exact List.getElem_mem _
    have := hd _ hm
    show (digs n).getD 0 0 ≠ 32
    omega
  · have hm : (digs n).getD ((digs n).length - 1) 0 ∈ digs n := by rw [List.getD_eq_getElem?_getD, List.getElem?_eq_getElem (by omega)]; exact List.getElem_mem _
    have := hd _ hm
    show (digs n).getD ((digs n).length - 1) 0 ≠ 32
    omega
theorem cand_print {a : AL} {u : UL} (hB : Byt a.u) (hp : parseI a.u = some u) (hok : AskOk a u) : candI (textA a u) = some a := by
  have hN := parseI_norm hB hp
  obtain ⟨hpr, hm, hh⟩ := hok
  have hasc := printI_ascii hN
  rw [printI_parts] at hasc
  simp only [List.mem_append] at hasc
  have c1 : ∀ x ∈ u.sch, 33 ≤ x ∧ x ≤ 126 := fun x hx => hasc x (.inl hx)
  have c2 : ∀ x ∈ u.host, 33 ≤ x ∧ x ≤ 126 := fun x hx => hasc x (.inr (.inr (.inl hx)))
  have c3 : ∀ x ∈ portT u, 33 ≤ x ∧ x ≤ 126 := fun x hx => hasc x (.inr (.inr (.inr (.inl hx))))
  have c4 : ∀ x ∈ u.path, 33 ≤ x ∧ x ≤ 126 := fun x hx => hasc x (.inr (.inr (.inr (.inr (.inl hx)))))
  have c5 : ∀ x ∈ u.query, 33 ≤ x ∧ x ≤ 126 := fun x hx => hasc x (.inr (.inr (.inr (.inr (.inr hx)))))
  obtain ⟨r0, hr0⟩ := hN.pathOk.head
  have e1 : textA a u = (a.m ++ 32 :: (u.path ++ (u.query ++ http11))) ++ (13 :: 10 :: ((hostW ++ (u.host ++ portT u)) ++ (13 :: 10 :: ((schemeW ++ u.sch) ++ (13 :: 10 :: (headsP a.hs ++ (lenT a.body ++ (13 :: 10 :: a.body)))))))) := by
    simp [textA, topA, List.append_assoc]
  have l1 : ∀ x ∈ a.m ++ 32 :: (u.path ++ (u.query ++ http11)), x ≠ 13 := by
    intro x hx
    simp only [List.mem_append, List.mem_cons] at hx
    rcases hx with hx | rfl | hx | hx | hx
    · have := hm.2.2 x hx; omega
    · decide
    · have := c4 x hx; omega
    · have := c5 x hx; omega
    · have h9 : ∀ x ∈ http11, x ≠ 13 := by decide
      exact h9 x hx
  have l2 : ∀ x ∈ hostW ++ (u.host ++ portT u), x ≠ 13 := by
    intro x hx
    simp only [List.mem_append] at hx
    rcases hx with hx | hx | hx
    · have h9 : ∀ x ∈ hostW, x ≠ 13 := by decide
      exact h9 x hx
    · have := c2 x hx; omega
    · have := c3 x hx; omega
  have l3 : ∀ x ∈ schemeW ++ u.sch, x ≠ 13 := by
    intro x hx
    rcases List.mem_append.1 hx with hx | hx
    · have h9 : ∀ x ∈ schemeW, x ≠ 13 := by decide
      exact h9 x hx
    · have := c1 x hx; omega
  have hst := ahead_stop (st := [32]) (p := a.m) (r := u.path ++ (u.query ++ http11)) (fun y hy => by
    rw [← Bool.not_eq_true]; intro hc; simp at hc; have := hm.2.2 y hy; omega) (x := 32) (by decide)
  have h9 : http11.length = 9 := rfl
  have hlen : (32 :: (u.path ++ (u.query ++ http11))).length = u.path.length + u.query.length + 10 := by simp [h9]; omega
  have hpath : 1 ≤ u.path.length := by rw [hr0]; simp
  have hend : endI http11 (32 :: (u.path ++ (u.query ++ http11))) = true := by
    unfold endI
    rw [Bool.and_eq_true, decide_eq_true_iff, decide_eq_true_iff, hlen, h9]
    refine ⟨by omega, ?_⟩
    have e : (32 :: (u.path ++ (u.query ++ http11))) = (32 :: (u.path ++ u.query)) ++ http11 := by simp
    rw [e, show u.path.length + u.query.length + 10 - 9 = (32 :: (u.path ++ u.query)).length by simp, List.drop_left]
  have hpa : pathA (a.m ++ 32 :: (u.path ++ (u.query ++ http11))) = u.path ++ u.query := by
    unfold pathA
    rw [hst.2, hlen]
    have e : (32 :: (u.path ++ (u.query ++ http11))) = (32 :: (u.path ++ u.query)) ++ http11 := by simp
    rw [e, show u.path.length + u.query.length + 10 - 9 = (32 :: (u.path ++ u.query)).length by simp, List.take_left]
    rfl
  have hb1 : begI hostW (hostW ++ (u.host ++ portT u)) = true := by rw [begI_iff, List.take_left']; rfl
  have hb2 : begI schemeW (schemeW ++ u.sch) = true := by rw [begI_iff, List.take_left']; rfl
  have hhs : headsA [] (headsP a.hs ++ (lenT a.body ++ (13 :: 10 :: a.body))) = some (if a.body = [] then a.hs else a.hs ++ [(clW, digs a.body.length)], a.body) := by
    unfold lenT
    by_cases hb : a.body = []
    · rw [if_pos hb, if_pos hb, List.nil_append, headsA_print _ _ _ hh, List.nil_append]
    · rw [if_neg hb, if_neg hb, ← List.append_assoc]
      have e : headsP a.hs ++ headP (clW, digs a.body.length) = headsP (a.hs ++ [(clW, digs a.body.length)]) := by rw [headsP_app]; simp [headsP]
      rw [e, headsA_print, List.nil_append]
      intro x hx
      rcases List.mem_append.1 hx with hx | hx
      · exact hh x hx
      · rw [List.mem_singleton.1 hx]; exact clA _
  unfold candI
  rw [e1, lineI_app _ l1, Option.bind_some]
  simp only
  rw [hst.2, if_pos ⟨by rw [hlen]; omega, hend⟩, lineI_app _ l2, Option.bind_some]
  simp only
  rw [if_pos hb1, lineI_app _ l3, Option.bind_some]
  simp only
  rw [if_pos hb2, hhs, Option.map_some, hst.1, hpa]
  have hla : lastA (if a.body = [] then a.hs else a.hs ++ [(clW, digs a.body.length)], a.body) = a.hs := by
    unfold lastA
    by_cases hb : a.body = []
    · simp [hb]
    · simp [hb]
  rw [hla]
  have hu : (schemeW ++ u.sch).drop 8 ++ ([58, 47, 47] ++ ((hostW ++ (u.host ++ portT u)).drop 6 ++ (u.path ++ u.query))) = a.u := by
    rw [← hpr, printI_parts, show (8 : Nat) = schemeW.length from rfl, List.drop_left, show (6 : Nat) = hostW.length from rfl, List.drop_left]
    simp [List.append_assoc]
  rw [hu]
theorem askI_print {a : AL} {t : List Int} (hB : Byt a.u) (h : askP a = some t) : askI t = some a := by
  have h0 := h
  unfold askP at h
  rw [Option.bind_eq_some_iff] at h
  obtain ⟨u, hp, h⟩ := h
  split at h
  · rename_i hok
    cases h
    unfold askI
    rw [cand_print hB hp hok, Option.bind_some, if_pos h0]
  · cases h
theorem askP_inj {a b : AL} {t : List Int} (ha : Byt a.u) (hb : Byt b.u) (h1 : askP a = some t) (h2 : askP b = some t) : a = b :=
  Option.some.inj ((askI_print ha h1).symm.trans (askI_print hb h2))
end Go.Proofs.YtlcolabblpikjaaDoor
/-
  Package head: isNameByte, Name, Value, Forbidden; the library's HasPrefix, HasSuffix.
-/
namespace Go.Proofs.YtlcolabblpikjaaDoor
set_option linter.unusedVariables false
set_option linter.unusedSimpArgs false
set_option maxRecDepth 20000
open Go.RowKit

/-! ### names, values -/
def nbI (x : Int) : Bool := decide ((65 ≤ x ∧ x ≤ 90) ∨ (97 ≤ x ∧ x ≤ 122) ∨ (48 ≤ x ∧ x ≤ 57) ∨ x = 45)
def nameI (l : List Int) : Bool := decide (1 ≤ l.length ∧ l.length ≤ 12) && l.all nbI
def vbI (x : Int) : Bool := decide (32 ≤ x ∧ x ≤ 126)
def valI (l : List Int) : Bool := decide (l.length ≤ 16) && !begI [32] l && !begI [32] l.reverse && l.all vbI
def fobI : List (List Int) := [[104, 111, 115, 116], [111, 114, 105, 103, 105, 110], [114, 101, 102, 101, 114, 101, 114], [99, 111, 111, 107, 105, 101], [99, 111, 110, 110, 101, 99, 116, 105, 111, 110], [114, 97, 110, 103, 101], [105, 102, 45, 114, 97, 110, 103, 101]]
def secI : List Int := [115, 101, 99, 45]
def proxyI : List Int := [112, 114, 111, 120, 121, 45]
def forbI (l : List Int) : Bool := fobI.contains (lowL l) || begI secI (lowL l) || begI proxyI (lowL l)
theorem all_step {f : Int → Bool} {l : List Int} {k : Nat} (hk : k < l.length) (h : (l.take k).all f = true) (h2 : f (l.getD k 0) = true) : (l.take (k + 1)).all f = true := by
  rw [List.take_succ_eq_append_getElem hk, List.all_append, h]
  simpa [List.getD_eq_getElem?_getD, List.getElem?_eq_getElem hk] using h2
theorem all_not {f : Int → Bool} {l : List Int} {k : Nat} (hk : k < l.length) (h2 : f (l.getD k 0) = false) : l.all f = false := by
  rw [← Bool.not_eq_true, List.all_eq_true]
  intro h
  have := h l[k] (List.getElem_mem hk)
  rw [List.getD_eq_getElem?_getD, List.getElem?_eq_getElem hk, Option.getD_some] at h2
  rw [h2] at this; cases this
theorem begI_take {p l : List Int} : begI p l = decide (l.take p.length = p) := rfl

theorem pre_c {w : World} (s p : ByteArray) : Calls Tryd.prog 76 #[.string s, .string p] w fun e w' => e = .returned (.bool (begI (sb p) (sb s))) ∧ w = w' := by
  by_cases h : p.size ≤ s.size
  · have hc : ((s.extract 0 p.size).toList == p.toList) = begI (sb p) (sb s) := by
      rw [beq_sb, sb_extract, List.drop_zero]
      unfold begI
      rw [length_sb]
    have h1 : (p.size : Int) ≤ s.size := by omega
    generalize begI (sb p) (sb s) = b at *
    clear h
    go_enter Tryd.func76, Tryd.ntmps76
    go_wp2
    go_ret
    exact ⟨rfl, rfl⟩
  · have hb : begI (sb p) (sb s) = false := begI_short (by rw [length_sb, length_sb]; omega)
    have h1 : ¬ (p.size : Int) ≤ s.size := by omega
    rw [hb]
    clear h hb
    go_enter Tryd.func76, Tryd.ntmps76
    go_wp2
    go_ret
    exact ⟨rfl, rfl⟩
theorem suf_c {w : World} (s p : ByteArray) (hs : s.size ≤ 1073741824) : Calls Tryd.prog 75 #[.string s, .string p] w fun e w' => e = .returned (.bool (begI (sb p).reverse (sb s).reverse)) ∧ w = w' := by
  by_cases h : p.size ≤ s.size
  · have hc : ((s.extract (s.size - p.size) s.size).toList == p.toList) = begI (sb p).reverse (sb s).reverse := by
      rw [beq_sb, sb_from]
      unfold begI
      rw [List.length_reverse, length_sb, List.take_reverse, length_sb, decide_eq_decide]
      exact List.reverse_inj.symm
    have h1 : (p.size : Int) ≤ s.size := by omega
    have h2 : (s.size : Int) - p.size = ((s.size - p.size : Nat) : Int) := by omega
    have h3 : ((s.size : Int) - p.size).toNat = s.size - p.size := by omega
    have h4 : (p.size : Int) ≥ 0 := by omega
    generalize begI (sb p).reverse (sb s).reverse = b at *
    clear h
    go_enter Tryd.func75, Tryd.ntmps75
    go_wp2
    go_ret
    exact ⟨rfl, rfl⟩
  · have hb : begI (sb p).reverse (sb s).reverse = false := begI_short (by rw [List.length_reverse, List.length_reverse, length_sb, length_sb]; omega)
    have h1 : ¬ (p.size : Int) ≤ s.size := by omega
    rw [hb]
    clear h hb
    go_enter Tryd.func75, Tryd.ntmps75
    go_wp2
    go_ret
    exact ⟨rfl, rfl⟩
end Go.Proofs.YtlcolabblpikjaaDoor
