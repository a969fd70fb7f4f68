/-
  Texts that the laws stand on: Url9, Nb, Url10, Url11, UrlM.
-/
import Derived.Test.YtfgaikacijdodaaDoorM3
import Derived.Test.YtfgaikacijdodaaDoorM2
import Derived.Lib.SplitLaws
import Derived.Lib.ItoaNum

/-
  A parsed URL's print is parsed to itself: plain lists; nothing runs here.
-/
namespace Go.Proofs.YtfgaikacijdodaaDoor
set_option linter.unusedVariables false
set_option linter.unusedSimpArgs false
set_option maxRecDepth 20000

/-- Bytes that stand for themselves. -/
def Plain (l : List Int) : Prop := ∀ x ∈ l, 0 ≤ x ∧ x < 128 ∧ plainR x.toNat = true
theorem Plain.rng {l : List Int} (h : Plain l) : ∀ x ∈ l, 33 ≤ x ∧ x ≤ 126 ∧ x ≠ 34 ∧ x ≠ 96 ∧ x ≠ 35 ∧ x ≠ 60 ∧ x ≠ 62 ∧ x ≠ 63 ∧ x ≠ 123 ∧ x ≠ 125 := by
  intro x hx
  have := h x hx
  have h2 := (plainR_iff _).1 this.2.2
  omega
theorem Plain.same {l : List Int} (h : Plain l) : pctE l = l := pctE_same h
theorem plain_pctE (l : List Int) : Plain (pctE l) := pctE_plain l
/-- A part of a path that stays. -/
structure PartOk (p : List Int) : Prop where
  plain : Plain p
  slash : ∀ x ∈ p, x ≠ 47
  dot1 : p ≠ [46]
  dot2 : p ≠ [46, 46]
theorem partOk_nil : PartOk [] := ⟨fun x hx => (by cases hx), fun x hx => (by cases hx), by simp, by simp⟩
theorem parts_noslash : ∀ (l : List Int), ∀ p ∈ partsI l, ∀ x ∈ p, x ≠ 47
  | [], p, hp => by
    rw [show partsI [] = [[]] from rfl, List.mem_singleton] at hp
    subst hp; intro x hx; cases hx
  | c :: r, p, hp => by
    have ih := parts_noslash r
    unfold partsI at hp
    split at hp
    · rcases List.mem_cons.1 hp with rfl | hp
      · intro x hx; cases hx
      · exact ih p hp
    · rename_i hc
      split at hp
      · rename_i q qs hq
        rw [hq] at ih
        rcases List.mem_cons.1 hp with rfl | hp
        · intro x hx
          rcases List.mem_cons.1 hx with rfl | hx
          · exact hc
          · exact ih q (.head _) x hx
        · exact ih p (.tail _ hp)
      · rw [List.mem_singleton] at hp; subst hp
        intro x hx; rw [List.mem_singleton] at hx; subst hx; exact hc
/-- The runes of bytes without one that is below 128 do not hold it. -/
theorem decI_ascii (l : List Int) (h : (decI l).1 < 128) (hl : l ≠ []) : ((decI l).1 : Int) = ((l.getD 0 0).toNat : Int) ∧ (decI l).2 = 1 := by
  unfold decI at *
  rcases Lib.decodeN_shape l.length (l.getD 0 0).toNat (l.getD 1 0).toNat (l.getD 2 0).toNat (l.getD 3 0).toNat with ⟨h1, e⟩ | ⟨h1, h2, h3, h4, e⟩ | ⟨h1, h2, h3, h4, h5, h6, e⟩ | ⟨h1, h2, h3, h4, h5, h6, h7, e⟩ | e
  · rw [e]; exact ⟨rfl, rfl⟩
  all_goals rw [e] at h
  all_goals simp only [] at h
  all_goals omega
theorem runes_mem {l : List Int} (hB : Byt l) {c : Nat} (hc : c < 128) (h : c ∈ runes l) : (c : Int) ∈ l := by
  induction hn : l.length using Nat.strongRecOn generalizing l with
  | ind n ih =>
    by_cases hl : l = []
    · subst hl; cases h
    · rw [runes_step hl] at h
      rcases List.mem_cons.1 h with e | h
      · have h2 := decI_ascii l (by omega) hl
        rw [← e] at h2
        have h3 : 0 < l.length := List.length_pos_iff.2 hl
        have h4 : l.getD 0 0 ∈ l := by rw [List.getD_eq_getElem?_getD, List.getElem?_eq_getElem h3]; exact List.getElem_mem h3
        have h5 := hB _ h4
        have : (c : Int) = l.getD 0 0 := by omega
        rw [this]; exact h4
      · have hp := decI_pos l
        have h3 : 0 < l.length := List.length_pos_iff.2 hl
        have := ih _ (by rw [← hn, List.length_drop]; omega) (l := l.drop (decI l).2) (byt_drop hB _) h rfl
        exact List.mem_of_mem_drop this
theorem pctE_noslash {p : List Int} (hB : Byt p) (h : ∀ x ∈ p, x ≠ 47) : ∀ x ∈ pctE p, x ≠ 47 := by
  intro x hx e
  subst e
  rw [pctE, List.mem_flatMap] at hx
  obtain ⟨c, hc, hx⟩ := hx
  unfold pctR at hx
  split at hx
  · rw [List.mem_singleton] at hx
    have hc47 : c = 47 := by omega
    subst hc47
    exact h 47 (runes_mem hB (by decide) hc) rfl
  · rw [List.mem_flatMap] at hx
    obtain ⟨b, hb, hx⟩ := hx
    have hbb := encI_byt c b hb
    have h1 := hexD_plain (x := b / 16) (by omega) (by omega)
    have h2 := hexD_plain (x := b % 16) (by omega) (by omega)
    simp only [pct3, List.mem_cons, List.not_mem_nil, or_false] at hx
    omega
theorem pctR_one {c : Nat} {l : List Int} (h : pctR c = l) (hl : l.length < 3) : plainR c = true ∧ l = [(c : Int)] := by
  unfold pctR at h
  split at h
  · rename_i hp; exact ⟨hp, h.symm⟩
  · exfalso
    have h1 : (encI c) ≠ [] := encI_ne c
    obtain ⟨x, r, e⟩ := List.exists_cons_of_ne_nil h1
    rw [e, List.flatMap_cons] at h
    have := congrArg List.length h
    rw [List.length_append] at this
    simp [pct3] at this
    omega
theorem pctR_pos (c : Nat) : 1 ≤ (pctR c).length := by
  unfold pctR
  split
  · simp
  · obtain ⟨x, r, e⟩ := List.exists_cons_of_ne_nil (encI_ne c)
    rw [e, List.flatMap_cons, List.length_append]
    simp [pct3]; omega
/-- What is encoded to one point, or two, was that. -/
theorem pctE_dots {p : List Int} (hB : Byt p) : ∀ (k : Nat), k ≤ 2 → pctE p = List.replicate k 46 → p = List.replicate k 46 := by
  intro k hk h
  induction k generalizing p with
  | zero =>
    by_cases hp : p = []
    · exact hp
    · rw [pctE, runes_step hp, List.flatMap_cons] at h
      have := congrArg List.length h
      have h2 := pctR_pos (decI p).1
      rw [List.length_append, List.replicate_zero, List.length_nil] at this
      omega
  | succ k ih =>
    have hp : p ≠ [] := by rintro rfl; have := congrArg List.length h; rw [show pctE [] = [] from rfl] at this; simp at this
    rw [pctE, runes_step hp, List.flatMap_cons] at h
    have hlen := congrArg List.length h
    rw [List.length_append, List.length_replicate] at hlen
    obtain ⟨hpl, he⟩ := pctR_one (c := (decI p).1) rfl (by omega)
    rw [he, List.replicate_succ, List.singleton_append] at h
    injection h with h1 h2
    have h3 := decI_ascii p (by omega) hp
    have h4 : 0 < p.length := List.length_pos_iff.2 hp
    have h5 := getD_byt hB 0
    have h6 : p = p.getD 0 0 :: p.drop 1 := by
      rw [List.getD_eq_getElem?_getD, List.getElem?_eq_getElem h4, Option.getD_some]
      have := List.drop_eq_getElem_cons h4
      rwa [List.drop_zero] at this
    rw [h3.2] at h2
    have h7 := ih (p := p.drop 1) (byt_drop hB 1) (by omega) h2
    rw [h6, h7, List.replicate_succ]
    congr 1
    omega
theorem partOk_of {p : List Int} (hB : Byt p) (hs : ∀ x ∈ p, x ≠ 47) (h1 : p ≠ [46]) (h2 : p ≠ [46, 46]) : PartOk (pctE p) :=
  ⟨plain_pctE p, pctE_noslash hB hs, fun e => h1 (pctE_dots hB 1 (by omega) e), fun e => h2 (pctE_dots hB 2 (by omega) e)⟩
theorem dotStep_okp {st : List (List Int)} {p : List Int} {last : Bool} (h : ∀ q ∈ st, PartOk q) (hB : Byt p) (hs : ∀ x ∈ p, x ≠ 47) : ∀ q ∈ dotStep st p last, PartOk q := by
  intro q hq
  unfold dotStep at hq
  split at hq
  · simp only [] at hq
    have hst : ∀ q ∈ (if p = [46, 46] then st.dropLast else st), PartOk q := by
      intro q hq
      split at hq
      · exact h q ((List.dropLast_sublist _).subset hq)
      · exact h q hq
    split at hq
    · rcases List.mem_append.1 hq with hq | hq
      · exact hst q hq
      · rw [List.mem_singleton] at hq; subst hq; exact partOk_nil
    · exact hst q hq
  · rename_i hne
    rcases List.mem_append.1 hq with hq | hq
    · exact h q hq
    · rw [List.mem_singleton] at hq; subst hq
      exact partOk_of hB hs (fun e => hne (.inl e)) (fun e => hne (.inr e))
theorem dotGo_okp : ∀ (ps st : List (List Int)), (∀ q ∈ st, PartOk q) → (∀ q ∈ ps, Byt q ∧ ∀ x ∈ q, x ≠ 47) → ∀ q ∈ dotGo st ps, PartOk q
  | [], st, h, _ => h
  | [p], st, h, hp => dotStep_okp h (hp p (.head _)).1 (hp p (.head _)).2
  | p :: q :: r, st, h, hp => dotGo_okp (q :: r) _ (dotStep_okp h (hp p (.head _)).1 (hp p (.head _)).2) (fun x hx => hp x (.tail _ hx))
theorem dotStep_last (st : List (List Int)) (p : List Int) : dotStep st p true ≠ [] := by
  unfold dotStep
  split
  · simp
  · simp
theorem dotGo_ne : ∀ (ps st : List (List Int)), ps ≠ [] → dotGo st ps ≠ []
  | [], _, h => absurd rfl h
  | [p], st, _ => dotStep_last st p
  | p :: q :: r, st, _ => dotGo_ne (q :: r) _ (by simp)
theorem parts_byt : ∀ (l : List Int), Byt l → ∀ p ∈ partsI l, Byt p
  | [], _, p, hp => by
    rw [show partsI [] = [[]] from rfl, List.mem_singleton] at hp
    subst hp; intro x hx; cases hx
  | c :: r, h, p, hp => by
    have ih := parts_byt r (fun x hx => h x (.tail _ hx))
    unfold partsI at hp
    split at hp
    · rcases List.mem_cons.1 hp with rfl | hp
      · intro x hx; cases hx
      · exact ih p hp
    · split at hp
      · rename_i q qs hq
        rw [hq] at ih
        rcases List.mem_cons.1 hp with rfl | hp
        · intro x hx
          rcases List.mem_cons.1 hx with rfl | hx
          · exact h _ (.head _)
          · exact ih q (.head _) x hx
        · exact ih p (.tail _ hp)
      · rw [List.mem_singleton] at hp; subst hp
        intro x hx; rw [List.mem_singleton] at hx; subst hx; exact h _ (.head _)
/-- A path that stays as it is. -/
def PathOk (path : List Int) : Prop := ∃ ps, ps ≠ [] ∧ path = slashed ps ∧ ∀ p ∈ ps, PartOk p
theorem dotsI_ok {l : List Int} (h : Byt l) : PathOk (dotsI l) :=
  ⟨_, dotGo_ne _ _ (partsI_ne _), rfl, dotGo_okp _ [] (by simp) (fun q hq => ⟨parts_byt _ (byt_drop h 1) q hq, parts_noslash _ q hq⟩)⟩
theorem parts_slashed : ∀ (p : List Int) (ps : List (List Int)), (∀ q ∈ p :: ps, ∀ x ∈ q, x ≠ 47) → partsI (p ++ slashed ps) = p :: ps
  | [], [], _ => rfl
  | [], q :: qs, h => by
    show partsI (47 :: (q ++ slashed qs)) = _
    unfold partsI
    rw [if_pos rfl, parts_slashed q qs (fun x hx => h x (.tail _ hx))]
  | c :: p, ps, h => by
    have hc : c ≠ 47 := h _ (.head _) c (.head _)
    have ih := parts_slashed p ps (fun q hq x hx => by
      rcases List.mem_cons.1 hq with rfl | hq
      · exact h _ (.head _) x (.tail _ hx)
      · exact h q (.tail _ hq) x hx)
    show partsI (c :: (p ++ slashed ps)) = _
    unfold partsI
    rw [if_neg hc, ih]
theorem dotGo_id : ∀ (ps st : List (List Int)), ps ≠ [] → (∀ p ∈ ps, PartOk p) → dotGo st ps = st ++ ps
  | [], _, h, _ => absurd rfl h
  | [p], st, _, h => by
    have hp := h p (.head _)
    show dotStep st p true = _
    unfold dotStep
    rw [if_neg (by rintro (e | e); exact hp.dot1 e; exact hp.dot2 e), hp.plain.same]
  | p :: q :: r, st, _, h => by
    have hp := h p (.head _)
    show dotGo (dotStep st p false) (q :: r) = _
    rw [dotGo_id (q :: r) _ (by simp) (fun x hx => h x (.tail _ hx))]
    unfold dotStep
    rw [if_neg (by rintro (e | e); exact hp.dot1 e; exact hp.dot2 e), hp.plain.same]
    simp
theorem dotsI_same {path : List Int} (h : PathOk path) : dotsI path = path := by
  obtain ⟨ps, hne, rfl, hp⟩ := h
  obtain ⟨p, r, rfl⟩ := List.exists_cons_of_ne_nil hne
  unfold dotsI
  have : (slashed (p :: r)).drop 1 = p ++ slashed r := rfl
  rw [this, parts_slashed p r (fun q hq => (hp q hq).slash), dotGo_id _ [] (by simp) hp]
  rfl
theorem PathOk.plain {path : List Int} (h : PathOk path) : Plain path := by
  obtain ⟨ps, _, rfl, hp⟩ := h
  intro x hx
  unfold slashed at hx
  rw [List.mem_flatMap] at hx
  obtain ⟨p, hpp, hx⟩ := hx
  rcases List.mem_cons.1 hx with rfl | hx
  · exact ⟨by omega, by omega, by decide⟩
  · exact (hp p hpp).plain x hx
theorem PathOk.head {path : List Int} (h : PathOk path) : ∃ r, path = 47 :: r := by
  obtain ⟨ps, hne, rfl, _⟩ := h
  obtain ⟨p, r, rfl⟩ := List.exists_cons_of_ne_nil hne
  exact ⟨p ++ slashed r, rfl⟩
def QueryOk (q : List Int) : Prop := q = [] ∨ ∃ r, r ≠ [] ∧ q = 63 :: r ∧ Plain r
theorem queryI_ok (q : List Int) (hB : Byt q) : QueryOk (queryI q) := by
  unfold queryI
  split
  · rename_i h
    refine .inr ⟨_, ?_, rfl, plain_pctE _⟩
    intro e
    have := pctE_dots (byt_drop hB 1) 0 (by omega) e
    have h2 := congrArg List.length this
    rw [List.length_drop] at h2
    simp at h2
    omega
  · exact .inl rfl
theorem queryI_same {q : List Int} (h : QueryOk q) : queryI q = q := by
  rcases h with rfl | ⟨r, hr, rfl, hp⟩
  · rfl
  · unfold queryI
    have : 0 < r.length := List.length_pos_iff.2 hr
    rw [if_pos (by simp; omega)]
    show 63 :: pctE r = _
    rw [hp.same]
end Go.Proofs.YtfgaikacijdodaaDoor
/-
  Lists of bytes cut at a sign; digits; bytes as the library has them: nothing runs here.
-/
namespace Go.Proofs.YtfgaikacijdodaaDoor
set_option linter.unusedVariables false
set_option linter.unusedSimpArgs false
set_option maxRecDepth 20000

theorem ahead_app {st : List Int} : ∀ {p : List Int} (l : List Int), (∀ y ∈ p, st.contains y = false) → ahead st (p ++ l) = p ++ ahead st l ∧ behind st (p ++ l) = behind st l
  | [], l, _ => ⟨rfl, rfl⟩
  | x :: p, l, h => by
    have hx := h x (.head _)
    have ih := ahead_app (st := st) (p := p) l (fun y hy => h y (.tail _ hy))
    unfold ahead behind at *
    rw [List.cons_append, List.takeWhile_cons_of_pos (p := fun x => !st.contains x) (by rw [hx]; rfl), List.dropWhile_cons_of_pos (p := fun x => !st.contains x) (by rw [hx]; rfl), ih.1, ih.2]
    exact ⟨rfl, rfl⟩
theorem ahead_hd {st : List Int} {x : Int} (h : st.contains x = true) (l : List Int) : ahead st (x :: l) = [] ∧ behind st (x :: l) = x :: l := by
  unfold ahead behind
  rw [List.takeWhile_cons_of_neg (p := fun x => !st.contains x) (by rw [h]; simp), List.dropWhile_cons_of_neg (p := fun x => !st.contains x) (by rw [h]; simp)]
  exact ⟨rfl, rfl⟩
theorem ahead_stop {st p : List Int} {x : Int} {r : List Int} (hp : ∀ y ∈ p, st.contains y = false) (hx : st.contains x = true) : ahead st (p ++ x :: r) = p ∧ behind st (p ++ x :: r) = x :: r := by
  induction p with
  | nil =>
    unfold ahead behind
    rw [List.nil_append, List.takeWhile_cons_of_neg (by rw [hx]; simp), List.dropWhile_cons_of_neg (by rw [hx]; simp)]
    exact ⟨rfl, rfl⟩
  | cons y p ih =>
    have h0 := hp y (.head _)
    have := ih (fun z hz => hp z (.tail _ hz))
    unfold ahead behind at *
    rw [List.cons_append, List.takeWhile_cons_of_pos (by rw [h0]; rfl), List.dropWhile_cons_of_pos (by rw [h0]; rfl), this.1, this.2]
    exact ⟨rfl, rfl⟩
theorem ahead_full {st p : List Int} (hp : ∀ y ∈ p, st.contains y = false) : ahead st p = p ∧ behind st p = [] := by
  induction p with
  | nil => exact ⟨rfl, rfl⟩
  | cons y p ih =>
    have h0 := hp y (.head _)
    have := ih (fun z hz => hp z (.tail _ hz))
    unfold ahead behind at *
    rw [List.takeWhile_cons_of_pos (by rw [h0]; rfl), List.dropWhile_cons_of_pos (by rw [h0]; rfl), this.1, this.2]
    exact ⟨rfl, rfl⟩
theorem digs_short {n : Nat} (h : n < 100000) : (digs n).length ≤ 5 := by
  have key : ∀ f k m, m < 10 ^ (k + 1) → (digF f m).length ≤ k + 1 := by
    intro f
    induction f with
    | zero => intro k m _; simp [digF]
    | succ f ih =>
      intro k m hm
      simp only [digF]
      split
      · simp
      · rename_i h10
        cases k with
        | zero => simp at hm; omega
        | succ k =>
          have := ih k (m / 10) (by rw [Nat.pow_succ] at hm; omega)
          simp; omega
  exact key 20 4 n (by omega)
/-! ### bytes as the library has them -/
def nb (l : List UInt8) : List Int := l.map fun b => (b.toNat : Int)
theorem nb_str (l : List UInt8) : (⟨l.toArray⟩ : ByteArray) = strOfNums (nb l) := by
  rw [← str_sb (⟨l.toArray⟩ : ByteArray)]; rfl
theorem sb_nb (s : ByteArray) : sb s = nb s.data.toList := rfl
theorem nb_eq (b c : UInt8) : ((b.toNat : Int) = (c.toNat : Int)) ↔ b = c := by
  constructor
  · intro h; exact UInt8.toNat_inj.1 (by omega)
  · rintro rfl; rfl
theorem pre_begI : ∀ (p l : List UInt8), p.isPrefixOf l = begI (nb p) (nb l)
  | [], l => by unfold begI nb; simp
  | a :: p, [] => by unfold begI nb; simp
  | a :: p, b :: l => by
    rw [List.isPrefixOf_cons_cons, pre_begI p l]
    unfold begI nb
    simp only [List.map_cons, List.length_cons, List.take_succ_cons, List.cons.injEq]
    rw [Bool.eq_iff_iff]
    simp only [Bool.and_eq_true, beq_iff_eq, decide_eq_true_iff, nb_eq]
    exact ⟨fun ⟨h1, h2⟩ => ⟨h1.symm, h2⟩, fun ⟨h1, h2⟩ => ⟨h1.symm, h2⟩⟩
theorem cut_nil {sep : List UInt8} (h : sep ≠ []) : Lib.cut [] sep = ([], [], false) := by
  unfold Lib.cut Lib.index
  cases sep with
  | nil => exact absurd rfl h
  | cons a t => rfl
theorem cut_cons (b : UInt8) (l sep : List UInt8) : Lib.cut (b :: l) sep = if sep.isPrefixOf (b :: l) = true then ([], (b :: l).drop sep.length, true) else (b :: (Lib.cut l sep).1, (Lib.cut l sep).2.1, (Lib.cut l sep).2.2) := by
  have hge := Lib.index_ge l sep
  unfold Lib.cut
  rw [show Lib.index (b :: l) sep = if sep.isPrefixOf (b :: l) then 0 else if Lib.index l sep == -1 then -1 else Lib.index l sep + 1 from rfl]
  by_cases h : sep.isPrefixOf (b :: l) = true
  · rw [if_pos h, if_pos h, if_pos (by omega)]
    simp
  · rw [if_neg h, if_neg h]
    by_cases h1 : Lib.index l sep = -1
    · rw [h1]; simp
    · have h2 : (Lib.index l sep == -1) = false := beq_eq_false_iff_ne.2 h1
      rw [h2]
      have h3 : 0 ≤ Lib.index l sep := by omega
      obtain ⟨i, hi⟩ : ∃ i : Nat, Lib.index l sep = i := ⟨(Lib.index l sep).toNat, by omega⟩
      rw [hi]
      simp only [Bool.false_eq_true, if_false]
      rw [if_pos (by omega), if_pos (by omega)]
      have e1 : ((i : Int) + 1).toNat = i + 1 := by omega
      rw [e1, Int.toNat_natCast]
      simp [List.take_succ_cons, Nat.add_right_comm]
/-- Cut at one byte. -/
theorem cut_one (c : UInt8) : ∀ l : List UInt8, nb (Lib.cut l [c]).1 = ahead [(c.toNat : Int)] (nb l) ∧ nb (Lib.cut l [c]).2.1 = (behind [(c.toNat : Int)] (nb l)).drop 1 ∧ (Lib.cut l [c]).2.2 = decide (behind [(c.toNat : Int)] (nb l) ≠ [])
  | [] => by rw [cut_nil (by simp)]; exact ⟨rfl, rfl, rfl⟩
  | b :: l => by
    have ih := cut_one c l
    rw [cut_cons]
    have e : nb (b :: l) = (b.toNat : Int) :: nb l := rfl
    by_cases h : b = c
    · subst h
      rw [if_pos (by simp), e, (ahead_hd (by simp) _).1, (ahead_hd (by simp) _).2]
      simp [nb]
    · rw [if_neg (by simp; exact fun e => h e.symm), e]
      have hc : ([(c.toNat : Int)] : List Int).contains (b.toNat : Int) = false := by
        rw [← Bool.not_eq_true]; simp only [List.contains_cons, List.contains_nil, Bool.or_false, beq_iff_eq, nb_eq]; exact h
      have h1 := ahead_app (st := [(c.toNat : Int)]) (p := [(b.toNat : Int)]) (nb l) (by intro y hy; rw [List.mem_singleton.1 hy]; exact hc)
      rw [show (b.toNat : Int) :: nb l = [(b.toNat : Int)] ++ nb l from rfl, h1.1, h1.2]
      exact ⟨by show (b.toNat : Int) :: nb _ = _; rw [ih.1]; rfl, ih.2.1, ih.2.2⟩
/-- The digits. -/
theorem dec_digs : ∀ (n : Nat), n < 10 ^ 19 → nb (Lib.decDigits n) = digs n := by
  intro n
  induction n using Nat.strongRecOn with
  | ind n ih =>
    intro hn
    by_cases h : n < 10
    · rw [Lib.decDigits, dif_pos h, digs_small h]
      show [((UInt8.ofNat (48 + n)).toNat : Int)] = _
      rw [UInt8.toNat_ofNat']
      congr 1
      omega
    · rw [Lib.decDigits, dif_neg h, digs_step (by omega) hn]
      unfold nb
      rw [List.map_append]
      have := ih (n / 10) (by omega) (by omega)
      unfold nb at this
      rw [this]
      congr 1
      show [((UInt8.ofNat (48 + n % 10)).toNat : Int)] = _
      rw [UInt8.toNat_ofNat']
      congr 1
      omega
theorem itoa_digs (n : Nat) (hn : n < 10 ^ 19) : (⟨(Lib.itoa (n : Int)).toArray⟩ : ByteArray) = strOfNums (digs n) := by
  rw [nb_str]
  unfold Lib.itoa
  rw [if_neg (by omega), Int.toNat_natCast, dec_digs n hn]
end Go.Proofs.YtfgaikacijdodaaDoor
/-
  A parsed URL's print is parsed to itself, also with something behind a number sign: plain lists; nothing runs here.
-/
namespace Go.Proofs.YtfgaikacijdodaaDoor
set_option linter.unusedVariables false
set_option linter.unusedSimpArgs false
set_option maxRecDepth 20000

/-- A URL as Parse tells it. -/
structure UL.Norm (u : UL) : Prop where
  fine : u.Fine
  pathOk : PathOk u.path
  queryOk : QueryOk u.query
  portOk : u.port ≤ 65535
  portOwn : u.port ≠ ownI u.sch
theorem ownI_pos (s : List Int) : 0 < ownI s := by unfold ownI; split <;> decide
theorem parseI_norm {l : List Int} (hB : Byt l) {u : UL} (h : parseI l = some u) : u.Norm := by
  have hf := parseI_fine hB h
  unfold parseI at h
  rw [Option.bind_eq_some_iff] at h
  obtain ⟨⟨sch, r⟩, hs, h⟩ := h
  have hsr := schemeI_is hs
  have hrB : Byt r := by
    have ht : Byt (trimI l) := fun x hx => hB x ((trimI_sub l).subset hx)
    rcases hsr with ⟨_, rfl⟩ | ⟨_, rfl⟩ <;> exact byt_drop ht _
  unfold hostI at h
  simp only at h
  split at h
  · rw [Option.bind_eq_some_iff] at h
    obtain ⟨⟨port, rest2⟩, hp, h⟩ := h
    simp only at h
    have hpr : port ≤ 65535 ∧ port ≠ ownI sch ∧ Byt rest2 := by
      have hrb : Byt (behind [58, 47, 63, 35] r) := behind_byt hrB
      have hop := ownI_pos sch
      unfold portI at hp
      split at hp
      · rw [Option.bind_eq_some_iff] at hp
        obtain ⟨n, hn, hp⟩ := hp
        split at hp
        · cases hp
        · rename_i hbig
          injection hp with hp
          injection hp with hp1 hp2
          subst hp2
          refine ⟨?_, ?_, behind_byt (byt_drop hrb 1)⟩
          · rw [← hp1]; split <;> omega
          · rw [← hp1]; split
            · omega
            · assumption
      · injection hp with hp
        injection hp with hp1 hp2
        subst hp1 hp2
        exact ⟨by omega, by omega, hrb⟩
    unfold restI at h
    simp only at h
    split at h
    · cases h
    · cases h
      exact ⟨hf, dotsI_ok (ahead_byt (ahead_byt hpr.2.2)), queryI_ok _ (behind_byt (ahead_byt hpr.2.2)), hpr.1, hpr.2.1⟩
  · cases h
/-! ### reading the print -/
/-- Nothing, or a number sign and what is behind it. -/
def Frag (f : List Int) : Prop := f = [] ∨ ∃ r, f = 35 :: r
theorem HostOk.mem {h : List Int} (hh : HostOk h) : ∀ x ∈ h, HB x := by
  intro x hx
  obtain ⟨k, hk, e⟩ := List.getElem_of_mem hx
  have := (hh.2.2.2.2 k hk).1
  rw [List.getD_eq_getElem?_getD, List.getElem?_eq_getElem hk, Option.getD_some, e] at this
  exact this
theorem HostOk.low {h : List Int} (hh : HostOk h) : lowL h = h := by
  unfold lowL
  conv => rhs; rw [← List.map_id h]
  apply List.map_congr_left
  intro x hx
  have := hh.mem x hx
  unfold HB at this
  show lowI x = x
  unfold lowI
  rw [if_neg (by omega)]
def portT (u : UL) : List Int := if 0 < u.port then 58 :: digs u.port.toNat else []
theorem printI_parts (u : UL) : printI u = u.sch ++ ([58, 47, 47] ++ (u.host ++ (portT u ++ (u.path ++ u.query)))) := by
  unfold printI originI portT
  simp [List.append_assoc]
theorem printI_ascii {u : UL} (h : u.Norm) : ∀ x ∈ printI u, 33 ≤ x ∧ x ≤ 126 := by
  intro x hx
  rw [printI_parts] at hx
  simp only [List.mem_append] at hx
  rcases hx with hx | hx | hx | hx | hx | hx
  · rcases h.fine.sch with e | e <;> rw [e] at hx
    · simp [httpI] at hx; omega
    · simp [httpsI] at hx; omega
  · simp at hx; omega
  · have := h.fine.host.mem x hx; unfold HB at this; omega
  · unfold portT at hx
    split at hx
    · rcases List.mem_cons.1 hx with rfl | hx
      · omega
      · have := digs_dig _ x hx; omega
    · cases hx
  · have := h.pathOk.plain.rng x hx; omega
  · rcases h.queryOk with e | ⟨r, _, e, hp⟩ <;> rw [e] at hx
    · cases hx
    · rcases List.mem_cons.1 hx with rfl | hx
      · omega
      · have := hp.rng x hx; omega
theorem printI_head (u : UL) (h : u.Norm) : ∃ r, printI u = 104 :: r := by
  rw [printI_parts]
  rcases h.fine.sch with e | e <;> rw [e]
  · exact ⟨_, rfl⟩
  · exact ⟨_, rfl⟩
/-- Blanks behind a number sign alone are trimmed. -/
theorem trim_frag {p f : List Int} (hp : ∀ x ∈ p, 33 ≤ x ∧ x ≤ 126) (hne : p ≠ []) (hf : Frag f) : ∃ f', Frag f' ∧ trimI (p ++ f) = p ++ f' := by
  have hfirst : (p ++ f).dropWhile blank = p ++ f := by
    obtain ⟨x, r, rfl⟩ := List.exists_cons_of_ne_nil hne
    have := hp x (.head _)
    rw [List.cons_append, List.dropWhile_cons_of_neg (by unfold blank; simp; omega)]
  unfold trimI
  rw [hfirst, List.reverse_append, List.dropWhile_append]
  have hpr : p.reverse.dropWhile blank = p.reverse := by
    have hne2 : p.reverse ≠ [] := by simpa using hne
    obtain ⟨x, r, e⟩ := List.exists_cons_of_ne_nil hne2
    have hx : x ∈ p := by rw [← List.mem_reverse, e]; exact .head _
    have := hp x hx
    rw [e, List.dropWhile_cons_of_neg (by unfold blank; simp; omega)]
  rcases hf with rfl | ⟨r, rfl⟩
  · refine ⟨[], .inl rfl, ?_⟩
    simp [hpr]
  · have hx : ∃ g, ((35 :: r).reverse.dropWhile blank) = g ++ [35] := by
      rw [List.reverse_cons, List.dropWhile_append]
      split
      · exact ⟨[], by rw [List.dropWhile_cons_of_neg (by decide)]; rfl⟩
      · exact ⟨_, rfl⟩
    obtain ⟨g, hg⟩ := hx
    refine ⟨35 :: g.reverse, .inr ⟨_, rfl⟩, ?_⟩
    rw [hg]
    simp
theorem host_stops {h : List Int} (hh : HostOk h) : ∀ y ∈ h, ([58, 47, 63, 35] : List Int).contains y = false := by
  intro y hy
  have := hh.mem y hy
  unfold HB at this
  apply contains_no
  intro k hk e
  match k, hk, e with
  | 0, _, e => simp at e; omega
  | 1, _, e => simp at e; omega
  | 2, _, e => simp at e; omega
  | 3, _, e => simp at e; omega
  | (k + 4), hk, _ => simp only [List.length_cons, List.length_nil] at hk; omega
theorem portI_print {u : UL} (h : u.Norm) {t : List Int} (ht : ∃ r, t = 47 :: r) : portI u.sch (portT u ++ t) = some (u.port, t) := by
  obtain ⟨r, rfl⟩ := ht
  have hp0 := h.fine.port0
  have hp1 := h.portOk
  unfold portT
  by_cases h0 : 0 < u.port
  · rw [if_pos h0]
    have hb : begI [58] ((58 :: digs u.port.toNat) ++ 47 :: r) = true := by rw [begI_iff]; rfl
    have hdn : ∀ y ∈ digs u.port.toNat, ([47, 63, 35] : List Int).contains y = false := by
      intro y hy
      have := digs_dig _ y hy
      apply contains_no
      intro k hk e
      match k, hk, e with
      | 0, _, e => simp at e; omega
      | 1, _, e => simp at e; omega
      | 2, _, e => simp at e; omega
      | (k + 3), hk, _ => simp only [List.length_cons, List.length_nil] at hk; omega
    have hst := ahead_stop (r := r) hdn (show ([47, 63, 35] : List Int).contains 47 = true by decide)
    have hd1 : ((58 :: digs u.port.toNat) ++ 47 :: r).drop 1 = digs u.port.toNat ++ 47 :: r := rfl
    unfold portI
    rw [if_pos hb, hd1, hst.1, hst.2]
    have hlen := digs_len u.port.toNat
    have hsh := digs_short (n := u.port.toNat) (by omega)
    have hfig : figI (digs u.port.toNat) 1 5 = some u.port := by
      unfold figI
      rw [if_pos ⟨by omega, by omega, digs_dig _⟩, fig_digs (by omega)]
      congr 1; omega
    rw [hfig]
    show (if 65535 < u.port then none else some (if u.port = ownI u.sch then 0 else u.port, 47 :: r)) = _
    rw [if_neg (by omega), if_neg h.portOwn]
  · rw [if_neg h0, List.nil_append]
    have hz : u.port = 0 := by omega
    unfold portI
    rw [if_neg (by rw [begI_iff]; simp), hz]
theorem restI_print {u : UL} (h : u.Norm) {f : List Int} (hf : Frag f) : restI u.sch u.host u.port (u.path ++ (u.query ++ f)) = some u := by
  have hpp := h.pathOk.plain.rng
  have hq35 : ∀ y ∈ u.path ++ u.query, ([35] : List Int).contains y = false := by
    intro y hy
    have : y ≠ 35 := by
      rcases List.mem_append.1 hy with hy | hy
      · have := hpp y hy; omega
      · rcases h.queryOk with e | ⟨r, _, e, hp⟩ <;> rw [e] at hy
        · cases hy
        · rcases List.mem_cons.1 hy with rfl | hy
          · omega
          · have := hp.rng y hy; omega
    simpa using this
  have h1 : ahead [35] (u.path ++ (u.query ++ f)) = u.path ++ u.query := by
    rw [← List.append_assoc]
    rcases hf with rfl | ⟨r, rfl⟩
    · rw [List.append_nil]; exact (ahead_full hq35).1
    · exact (ahead_stop hq35 (by decide)).1
  have hp63 : ∀ y ∈ u.path, ([63] : List Int).contains y = false := by
    intro y hy
    have := hpp y hy
    have h2 : y ≠ 63 := by omega
    simpa using h2
  have h2 : ahead [63] (u.path ++ u.query) = u.path ∧ behind [63] (u.path ++ u.query) = u.query := by
    rcases h.queryOk with e | ⟨r, _, e, hp⟩ <;> rw [e]
    · rw [List.append_nil]; exact ahead_full hp63
    · exact ahead_stop hp63 (by decide)
  unfold restI
  rw [h1]
  simp only
  rw [h2.1, h2.2, dotsI_same h.pathOk, queryI_same h.queryOk]
  have hs := h.fine.short
  obtain ⟨a, b, c, d, e⟩ := u
  simp only at hs ⊢
  rw [if_neg (by omega)]
theorem parseI_print {u : UL} (h : u.Norm) {f : List Int} (hf : Frag f) : parseI (printI u ++ f) = some u := by
  obtain ⟨r0, hr0⟩ := printI_head u h
  obtain ⟨f', hf', ht⟩ := trim_frag (printI_ascii h) (by rw [hr0]; simp) hf
  unfold parseI
  rw [ht]
  have hsch : schemeI (printI u ++ f') = some (u.sch, u.host ++ (portT u ++ (u.path ++ (u.query ++ f')))) := by
    rw [printI_parts]
    unfold schemeI
    rcases h.fine.sch with e | e <;> rw [e]
    · have hb : begI (httpI ++ [58, 47, 47]) (lowL (httpI ++ ([58, 47, 47] ++ (u.host ++ (portT u ++ (u.path ++ u.query)))) ++ f')) = true := by rw [begI_iff]; rfl
      rw [if_pos hb]
      simp [httpI, List.append_assoc]
    · have hb1 : begI (httpI ++ [58, 47, 47]) (lowL (httpsI ++ ([58, 47, 47] ++ (u.host ++ (portT u ++ (u.path ++ u.query)))) ++ f')) = false := by
        rw [← Bool.not_eq_true, begI_iff]
        intro hx
        have := congrArg (fun l => l.getD 4 0) hx
        simp [httpI, httpsI, lowL, lowI] at this
      have hb2 : begI (httpsI ++ [58, 47, 47]) (lowL (httpsI ++ ([58, 47, 47] ++ (u.host ++ (portT u ++ (u.path ++ u.query)))) ++ f')) = true := by rw [begI_iff]; rfl
      rw [if_neg (by rw [hb1]; simp), if_pos hb2]
      simp [httpsI, List.append_assoc]
  rw [hsch]
  show hostI u.sch _ = some u
  obtain ⟨pr, hpr⟩ := h.pathOk.head
  have hnext : ∃ x q, portT u ++ (u.path ++ (u.query ++ f')) = x :: q ∧ ([58, 47, 63, 35] : List Int).contains x = true := by
    unfold portT
    split
    · exact ⟨58, _, rfl, by decide⟩
    · rw [hpr]; exact ⟨47, _, rfl, by decide⟩
  obtain ⟨x, q, hxq, hxs⟩ := hnext
  have hst : ahead [58, 47, 63, 35] (u.host ++ (portT u ++ (u.path ++ (u.query ++ f')))) = u.host ∧ behind [58, 47, 63, 35] (u.host ++ (portT u ++ (u.path ++ (u.query ++ f')))) = portT u ++ (u.path ++ (u.query ++ f')) := by
    rw [hxq]; exact ahead_stop (host_stops h.fine.host) hxs
  unfold hostI
  rw [hst.1, hst.2, h.fine.host.low, if_pos h.fine.host, portI_print h (by rw [hpr]; exact ⟨_, rfl⟩)]
  exact restI_print h hf'
/-- What is joined of its own path and query is the URL again, if its path does not begin as a host would. -/
theorem joinI_self {u : UL} (h : u.Norm) (h2 : u.path.getD 1 0 ≠ 47) : joinI u (u.path ++ u.query) = some u := by
  obtain ⟨pr, hpr⟩ := h.pathOk.head
  have hasc : ∀ x ∈ u.path ++ u.query, 33 ≤ x ∧ x ≤ 126 := fun x hx => printI_ascii h x (by
    rw [printI_parts]
    simp only [List.mem_append] at hx ⊢
    rcases hx with hx | hx
    · exact .inr (.inr (.inr (.inr (.inl hx))))
    · exact .inr (.inr (.inr (.inr (.inr hx)))))
  obtain ⟨f', hf', ht⟩ := trim_frag (f := []) hasc (by rw [hpr]; simp) (.inl rfl)
  have ht2 : trimI (u.path ++ u.query) = u.path ++ u.query := by
    have h1 := trimI_twice (u.path ++ u.query)
    rw [List.append_nil] at ht
    have hl := (trimI_sub (u.path ++ u.query)).length_le
    rw [ht, List.length_append] at hl
    have : f' = [] := List.eq_nil_of_length_eq_zero (by omega)
    rw [ht, this, List.append_nil]
  unfold joinI
  rw [ht2]
  have hb1 : begI [47, 47] (u.path ++ u.query) = false := by
    rw [← Bool.not_eq_true, begI_iff]
    intro hx
    rw [hpr] at hx h2
    cases pr with
    | nil =>
      rcases h.queryOk with e | ⟨r, _, e, hp⟩
      · rw [e] at hx; simp at hx
      · rw [e] at hx; simp at hx
    | cons y r =>
      simp at hx h2
      exact h2 hx
  have hb2 : begI [47] (u.path ++ u.query) = true := by rw [begI_iff, hpr]; rfl
  rw [if_neg (by rw [hb1]; simp), if_pos hb2]
  have := parseI_print h (f := []) (.inl rfl)
  rw [List.append_nil] at this
  unfold printI at this
  rw [List.append_assoc] at this
  exact this
end Go.Proofs.YtfgaikacijdodaaDoor
/-
  URLs with a port written out (for URLPorts): plain lists; nothing runs here.
-/
namespace Go.Proofs.YtfgaikacijdodaaDoor
set_option linter.unusedVariables false
set_option linter.unusedSimpArgs false
set_option maxRecDepth 20000

def abI : List Int := [97, 46, 98]
theorem abI_ok : HostOk abI := by decide
/-- Scheme and host are read; what is behind them goes on. -/
theorem parseI_hd {sch hst : List Int} {x : Int} {q : List Int} (hs : sch = httpI ∨ sch = httpsI) (hh : HostOk hst) (ht : ∀ y ∈ x :: q, 33 ≤ y ∧ y ≤ 126) (hx : ([58, 47, 63, 35] : List Int).contains x = true) :
    parseI (sch ++ ([58, 47, 47] ++ (hst ++ x :: q))) = (portI sch (x :: q)).bind fun p => restI sch hst p.1 p.2 := by
  have hall : ∀ y ∈ sch ++ ([58, 47, 47] ++ (hst ++ x :: q)), 33 ≤ y ∧ y ≤ 126 := by
    intro y hy
    rcases List.mem_append.1 hy with h | h
    · rcases hs with rfl | rfl <;> simp [httpI, httpsI] at h <;> omega
    · rcases List.mem_append.1 h with h | h
      · simp at h; omega
      · rcases List.mem_append.1 h with h | h
        · have := hh.mem y h; unfold HB at this; omega
        · exact ht y h
  obtain ⟨f', hf', htr⟩ := trim_frag (f := []) hall (by rcases hs with rfl | rfl <;> simp [httpI, httpsI]) (.inl rfl)
  have hf0 : f' = [] := by
    have h1 := (trimI_sub (sch ++ ([58, 47, 47] ++ (hst ++ x :: q)) ++ [])).length_le
    rw [htr, List.append_nil, List.length_append] at h1
    exact List.eq_nil_of_length_eq_zero (by omega)
  rw [hf0, List.append_nil] at htr
  unfold parseI
  rw [htr]
  have hsch : schemeI (sch ++ ([58, 47, 47] ++ (hst ++ x :: q))) = some (sch, hst ++ x :: q) := by
    unfold schemeI
    rcases hs with e | e <;> rw [e]
    · have hb : begI (httpI ++ [58, 47, 47]) (lowL (httpI ++ ([58, 47, 47] ++ (hst ++ x :: q)))) = true := by rw [begI_iff]; rfl
      rw [if_pos hb]
      rfl
    · have hb1 : begI (httpI ++ [58, 47, 47]) (lowL (httpsI ++ ([58, 47, 47] ++ (hst ++ x :: q)))) = false := by
        rw [← Bool.not_eq_true, begI_iff]
        intro hx
        have := congrArg (fun l => l.getD 4 0) hx
        simp [httpI, httpsI, lowL, lowI] at this
      have hb2 : begI (httpsI ++ [58, 47, 47]) (lowL (httpsI ++ ([58, 47, 47] ++ (hst ++ x :: q)))) = true := by rw [begI_iff]; rfl
      rw [if_neg (by rw [hb1]; simp), if_pos hb2]
      rfl
  rw [hsch]
  show hostI sch _ = _
  have hstp := ahead_stop (r := q) (host_stops hh) hx
  unfold hostI
  rw [hstp.1, hstp.2, hh.low, if_pos hh]
theorem parseI_ab {sch : List Int} {x : Int} {q : List Int} (hs : sch = httpI ∨ sch = httpsI) (ht : ∀ y ∈ x :: q, 33 ≤ y ∧ y ≤ 126) (hx : ([58, 47, 63, 35] : List Int).contains x = true) :
    parseI (sch ++ ([58, 47, 47] ++ (abI ++ x :: q))) = (portI sch (x :: q)).bind fun p => restI sch abI p.1 p.2 := parseI_hd hs abI_ok ht hx
theorem figN_zeros (z : Nat) (l : List Int) : figN (List.replicate z 48 ++ l) = figN l := by
  induction z with
  | zero => rfl
  | succ z ih =>
    rw [List.replicate_succ, List.cons_append]
    unfold figN at *
    rw [List.foldl_cons]
    exact ih
/-- A port of one to five digits, and a path behind it. -/
theorem portI_digits {sch ds r : List Int} (h1 : 1 ≤ ds.length) (h5 : ds.length ≤ 5) (hd : ∀ x ∈ ds, 48 ≤ x ∧ x ≤ 57) :
    portI sch (58 :: (ds ++ 47 :: r)) = if 65535 < figN ds then none else some (if figN ds = ownI sch then 0 else figN ds, 47 :: r) := by
  have hb : begI [58] (58 :: (ds ++ 47 :: r)) = true := by rw [begI_iff]; rfl
  have hdn : ∀ y ∈ ds, ([47, 63, 35] : List Int).contains y = false := by
    intro y hy
    have := hd y hy
    apply contains_no
    intro k hk e
    match k, hk, e with
    | 0, _, e => simp at e; omega
    | 1, _, e => simp at e; omega
    | 2, _, e => simp at e; omega
    | (k + 3), hk, _ => simp only [List.length_cons, List.length_nil] at hk; omega
  have hst := ahead_stop (r := r) hdn (show ([47, 63, 35] : List Int).contains 47 = true by decide)
  have hd1 : (58 :: (ds ++ 47 :: r)).drop 1 = ds ++ 47 :: r := rfl
  unfold portI
  rw [if_pos hb, hd1, hst.1, hst.2]
  have hfig : figI ds 1 5 = some (figN ds) := by
    unfold figI
    rw [if_pos ⟨by omega, by omega, hd⟩]
  rw [hfig]
  rfl
theorem portT_len {u : UL} (h : u.port < 100000) : (portT u).length ≤ 6 := by
  unfold portT
  split
  · have := digs_short (n := u.port.toNat) (by omega)
    simp only [List.length_cons]; omega
  · simp
theorem restI_x {sch : List Int} {p : Int} (hs : sch = httpI ∨ sch = httpsI) (hp : p < 100000) : restI sch abI p [47, 120] = some ⟨sch, abI, p, [47, 120], []⟩ := by
  have e1 : dotsI (ahead [63] (ahead [35] [47, 120])) = [47, 120] := by decide +kernel
  have e2 : queryI (behind [63] (ahead [35] [47, 120])) = [] := by decide +kernel
  have hl := portT_len (u := ⟨sch, abI, p, [47, 120], []⟩) hp
  unfold restI
  simp only [e1, e2]
  rw [if_neg]
  rw [printI_parts]
  rcases hs with rfl | rfl <;> simp [httpI, httpsI, abI] at * <;> omega
theorem restI_0 {sch : List Int} (hs : sch = httpI ∨ sch = httpsI) : restI sch abI 0 [47] = some ⟨sch, abI, 0, [47], []⟩ := by
  have e1 : dotsI (ahead [63] (ahead [35] [47])) = [47] := by decide +kernel
  have e2 : queryI (behind [63] (ahead [35] [47])) = [] := by decide +kernel
  unfold restI
  simp only [e1, e2]
  rw [if_neg]
  rw [printI_parts]
  rcases hs with rfl | rfl <;> decide
/-- A port with zeros before it. -/
theorem parseI_port {sch : List Int} (hs : sch = httpI ∨ sch = httpsI) {n z : Nat} (hn : n < 100000) (hz : z + (digs n).length ≤ 5) :
    parseI (sch ++ ([58, 47, 47] ++ (abI ++ 58 :: ((List.replicate z 48 ++ digs n) ++ [47, 120])))) = if 65535 < n then none else some ⟨sch, abI, if (n : Int) = ownI sch then 0 else n, [47, 120], []⟩ := by
  have hd : ∀ x ∈ List.replicate z 48 ++ digs n, (48 : Int) ≤ x ∧ x ≤ 57 := by
    intro x hx
    rcases List.mem_append.1 hx with h | h
    · have := (List.mem_replicate.1 h).2; omega
    · exact digs_dig n x h
  have hlen := digs_len n
  rw [parseI_ab hs (by
    intro y hy
    rcases List.mem_cons.1 hy with rfl | h
    · omega
    · rcases List.mem_append.1 h with h | h
      · have := hd y h; omega
      · simp at h; omega) (by decide)]
  rw [portI_digits (by simp; omega) (by simp; omega) hd, figN_zeros, fig_digs (by omega)]
  by_cases h : 65535 < n
  · rw [if_pos (by omega), if_pos h]; rfl
  · rw [if_neg (by omega), if_neg h]
    show restI sch abI _ _ = _
    rw [restI_x hs (by split <;> omega)]
theorem parseI_bare {sch : List Int} (hs : sch = httpI ∨ sch = httpsI) : parseI (sch ++ ([58, 47, 47] ++ (abI ++ [47]))) = some ⟨sch, abI, 0, [47], []⟩ := by
  rw [parseI_ab hs (by simp) (by decide)]
  have : portI sch [47] = some (0, [47]) := by unfold portI; rw [if_neg (by decide)]
  rw [this]
  exact restI_0 hs
end Go.Proofs.YtfgaikacijdodaaDoor
/-
  The landed program's own way to read a URL: plain lists; nothing runs here.
-/
namespace Go.Proofs.YtfgaikacijdodaaDoor
set_option linter.unusedVariables false
set_option linter.unusedSimpArgs false
set_option maxRecDepth 20000

/-! ### parts -/
theorem contains_app (a b : List Int) (x : Int) : (a ++ b).contains x = (a.contains x || b.contains x) := by
  rw [Bool.eq_iff_iff]; simp
theorem ahead_ahead (a b : List Int) : ∀ l : List Int, ahead a (ahead b l) = ahead (a ++ b) l
  | [] => rfl
  | x :: l => by
    have ih := ahead_ahead a b l
    unfold ahead at *
    by_cases hb : b.contains x = true
    · rw [List.takeWhile_cons_of_neg (p := fun x => !b.contains x) (by rw [hb]; simp), List.takeWhile_cons_of_neg (p := fun x => !(a ++ b).contains x) (by rw [contains_app, hb]; simp)]
      rfl
    · rw [Bool.not_eq_true] at hb
      rw [List.takeWhile_cons_of_pos (p := fun x => !b.contains x) (by rw [hb]; rfl)]
      by_cases ha : a.contains x = true
      · rw [List.takeWhile_cons_of_neg (p := fun x => !a.contains x) (by rw [ha]; simp), List.takeWhile_cons_of_neg (p := fun x => !(a ++ b).contains x) (by rw [contains_app, ha]; simp)]
      · rw [Bool.not_eq_true] at ha
        rw [List.takeWhile_cons_of_pos (p := fun x => !a.contains x) (by rw [ha]; rfl), List.takeWhile_cons_of_pos (p := fun x => !(a ++ b).contains x) (by rw [contains_app, ha, hb]; rfl), ih]
theorem ahead_no (st : List Int) : ∀ (l : List Int), ∀ y ∈ ahead st l, st.contains y = false
  | [], y, h => by cases h
  | x :: l, y, h => by
    have ih := ahead_no st l y
    unfold ahead at *
    by_cases hx : st.contains x = true
    · rw [List.takeWhile_cons_of_neg (p := fun x => !st.contains x) (by rw [hx]; simp)] at h; cases h
    · rw [Bool.not_eq_true] at hx
      rw [List.takeWhile_cons_of_pos (p := fun x => !st.contains x) (by rw [hx]; rfl)] at h
      rcases List.mem_cons.1 h with rfl | h
      · exact hx
      · exact ih h
theorem behind_hd (st : List Int) : ∀ (l : List Int), behind st l = [] ∨ ∃ x r, behind st l = x :: r ∧ st.contains x = true
  | [] => .inl rfl
  | x :: l => by
    have ih := behind_hd st l
    unfold behind at *
    by_cases hx : st.contains x = true
    · rw [List.dropWhile_cons_of_neg (p := fun x => !st.contains x) (by rw [hx]; simp)]
      exact .inr ⟨x, l, rfl, hx⟩
    · rw [Bool.not_eq_true] at hx
      rw [List.dropWhile_cons_of_pos (p := fun x => !st.contains x) (by rw [hx]; rfl)]
      exact ih
/-! ### the mark behind the scheme -/
def cut3 : List Int → List Int × List Int
  | [] => ([], [])
  | x :: l => if begI [58, 47, 47] (x :: l) then ([], (x :: l).drop 3) else (x :: (cut3 l).1, (cut3 l).2)
theorem cut3_hit : ∀ {p : List Int} (r : List Int), (∀ y ∈ p, y ≠ 58) → cut3 (p ++ (58 :: 47 :: 47 :: r)) = (p, r)
  | [], r, _ => by
    show cut3 (58 :: 47 :: 47 :: r) = _
    unfold cut3
    rw [if_pos (by rw [begI_iff]; rfl)]
    rfl
  | x :: p, r, h => by
    have hx := h x (.head _)
    have ih := cut3_hit (p := p) r (fun y hy => h y (.tail _ hy))
    rw [List.cons_append]
    unfold cut3
    rw [if_neg (by rw [begI_iff]; simp [hx]), ih]
theorem cut3_is : ∀ (l : List Int), l = (cut3 l).1 ++ (58 :: 47 :: 47 :: (cut3 l).2) ∨ ((cut3 l).1 = l ∧ (cut3 l).2 = [])
  | [] => .inr ⟨rfl, rfl⟩
  | x :: l => by
    unfold cut3
    split
    · rename_i h
      left
      have := begI_drop h
      simpa using this
    · rcases cut3_is l with h | ⟨h1, h2⟩
      · left
        show x :: l = x :: ((cut3 l).1 ++ _)
        rw [← h]
      · right
        exact ⟨by show x :: (cut3 l).1 = _; rw [h1], h2⟩
theorem cut3_mem (l : List Int) : (∀ x ∈ (cut3 l).1, x ∈ l) ∧ (∀ x ∈ (cut3 l).2, x ∈ l) ∧ (cut3 l).1.length + (cut3 l).2.length ≤ l.length := by
  rcases cut3_is l with h | ⟨h1, h2⟩
  · refine ⟨fun x hx => ?_, fun x hx => ?_, ?_⟩
    · rw [h]; simp [hx]
    · rw [h]; simp [hx]
    · have := congrArg List.length h; simp at this; omega
  · exact ⟨fun x hx => (by rw [← h1]; exact hx), fun x hx => (by rw [h2] at hx; cases hx), (by rw [h1, h2]; simp)⟩
/-! ### paths -/
def rawStep (st : List (List Int)) (p : List Int) (last : Bool) : List (List Int) :=
  if p = [46] ∨ p = [46, 46] then
    (let st1 := if p = [46, 46] then st.dropLast else st
     if last then st1 ++ [[]] else st1)
  else st ++ [p]
def rawGo : List (List Int) → List (List Int) → List (List Int)
  | st, [] => st
  | st, [p] => rawStep st p true
  | st, p :: q :: r => rawGo (rawStep st p false) (q :: r)
theorem dotStep_raw (st : List (List Int)) (p : List Int) (last : Bool) : dotStep (st.map pctE) p last = (rawStep st p last).map pctE := by
  unfold dotStep rawStep
  split
  · simp only []
    have e : (if p = [46, 46] then (st.map pctE).dropLast else st.map pctE) = (if p = [46, 46] then st.dropLast else st).map pctE := by
      split
      · rw [List.map_dropLast]
      · rfl
    rw [e]
    cases last
    · rfl
    · simp only [if_true, List.map_append, List.map_cons, List.map_nil]
      rfl
  · simp
theorem dotGo_raw : ∀ (ps st : List (List Int)), dotGo (st.map pctE) ps = (rawGo st ps).map pctE
  | [], st => rfl
  | [p], st => dotStep_raw st p true
  | p :: q :: r, st => by
    show dotGo (dotStep (st.map pctE) p false) (q :: r) = (rawGo (rawStep st p false) (q :: r)).map pctE
    rw [dotStep_raw, dotGo_raw (q :: r)]
theorem rawGo_cons (st : List (List Int)) (p : List Int) {ps : List (List Int)} (h : ps ≠ []) : rawGo st (p :: ps) = rawGo (rawStep st p false) ps := by
  cases ps with
  | nil => exact absurd rfl h
  | cons q r => rfl
theorem dec_slash {p : List Int} (hp : p ≠ []) (r : List Int) : decI (p ++ 47 :: r) = decI p := by
  unfold decI
  rcases p with _ | ⟨a, _ | ⟨b, _ | ⟨c, _ | ⟨d, t⟩⟩⟩⟩
  · exact absurd rfl hp
  · simp [Lib.decodeN]
  · simp [Lib.decodeN]
  · simp [Lib.decodeN]
  · simp [Lib.decodeN]
theorem runes_slash : ∀ (n : Nat) (p : List Int), p.length ≤ n → ∀ r, runes (p ++ 47 :: r) = runes p ++ 47 :: runes r
  | n, [], _, r => by
    have := runes_enc (c := 47) (by unfold vrune; omega) r
    rw [encI_one (by decide)] at this
    exact this
  | 0, x :: p, h, _ => by simp at h
  | n + 1, x :: p, h, r => by
    have hne : x :: p ≠ [] := by simp
    have h1 := decI_pos (x :: p)
    have h2 := decI_le hne
    rw [runes_step (by simp), dec_slash hne, runes_step hne, List.drop_append_of_le_length h2, runes_slash n _ (by rw [List.length_drop]; simp only [List.length_cons] at *; omega)]
    rfl
theorem pctE_slash (p r : List Int) : pctE (p ++ 47 :: r) = pctE p ++ 47 :: pctE r := by
  unfold pctE
  rw [runes_slash p.length p (Nat.le_refl _), List.flatMap_append, List.flatMap_cons]
  rfl
theorem pctE_slashed : ∀ st : List (List Int), slashed (st.map pctE) = pctE (slashed st)
  | [] => rfl
  | [p] => by
    show 47 :: pctE p ++ [] = pctE (47 :: p ++ [])
    rw [List.append_nil, List.append_nil]
    exact (pctE_slash [] p).symm
  | p :: q :: r => by
    have ih := pctE_slashed (q :: r)
    show (47 :: pctE p) ++ slashed ((q :: r).map pctE) = pctE ((47 :: p) ++ slashed (q :: r))
    rw [ih]
    have e : slashed (q :: r) = 47 :: (q ++ slashed r) := rfl
    rw [e, pctE_slash (47 :: p)]
    have h1 : pctE (47 :: p) = 47 :: pctE p := pctE_slash [] p
    have h2 : pctE (47 :: (q ++ slashed r)) = 47 :: pctE (q ++ slashed r) := pctE_slash [] _
    rw [h1, h2]
/-- The path that the parts of l lead to (without the slash that begins it). -/
def walkI (l : List Int) : List Int := slashed (rawGo [] (partsI l))
theorem walk_dots (l : List Int) : pctE (walkI (l.drop 1)) = dotsI l := by
  unfold walkI dotsI
  rw [← pctE_slashed, ← dotGo_raw]
  rfl
/-! ### reading -/
def schI (s : List Int) : Option (List Int) := if lowL s = httpI then some httpI else if lowL s = httpsI then some httpsI else none
def prtI (p : List Int) : Option Int := (figI p 1 5).bind fun n => if 65535 < n then none else some n
def prtI' (at_ : List Int) : Option Int := if behind [58] at_ = [] then some 0 else prtI ((behind [58] at_).drop 1)
def readI (T : List Int) : Option UL :=
  let s1 := ahead [35] T
  let c := cut3 (ahead [63] s1)
  let q := (behind [63] s1).drop 1
  let at_ := ahead [47] c.2
  (schI c.1).bind fun sch => if HostOk (lowL (ahead [58] at_)) then
    (prtI' at_).bind fun n => some ⟨sch, lowL (ahead [58] at_), if n = ownI sch then 0 else n, pctE (walkI ((behind [47] c.2).drop 1)), if q = [] then [] else 63 :: pctE q⟩
  else none
theorem low_is {y a : Int} (h : lowI y = a) : y = a ∨ (97 ≤ a ∧ a ≤ 122 ∧ y = a - 32) := by
  unfold lowI at h
  split at h
  · right; omega
  · exact .inl h
theorem low_http {P : List Int} (h : lowL P = httpI ∨ lowL P = httpsI) : ∀ y ∈ P, y ≠ 58 ∧ y ≠ 35 ∧ y ≠ 63 ∧ y ≠ 47 := by
  intro y hy
  have hm : lowI y ∈ httpsI := by
    have h1 : lowI y ∈ lowL P := List.mem_map.2 ⟨y, hy, rfl⟩
    rcases h with h | h <;> rw [h] at h1
    · simp [httpI, httpsI] at h1 ⊢; omega
    · exact h1
  simp only [httpsI, List.mem_cons, List.not_mem_nil, or_false] at hm
  rcases hm with e | e | e | e | e <;> rcases low_is e with h1 | h1 <;> omega
theorem low_marks {M : List Int} (h : lowL M = [58, 47, 47]) : M = [58, 47, 47] := by
  rcases M with _ | ⟨a, _ | ⟨b, _ | ⟨c, _ | ⟨d, t⟩⟩⟩⟩ <;> simp [lowL] at h
  have h1 := low_is h.1; have h2 := low_is h.2.1; have h3 := low_is h.2.2
  simp; omega
theorem begI_low {p T : List Int} (h : begI p (lowL T) = true) : lowL (T.take p.length) = p := by
  have := begI_iff.1 h
  unfold lowL at *
  rw [List.map_take]; exact this
theorem lowL_take (l : List Int) (n : Nat) : lowL (l.take n) = (lowL l).take n := by unfold lowL; rw [List.map_take]
/-- What has a scheme is the scheme's letters, the mark, the rest. -/
theorem scheme_parts {T sch r : List Int} (h : schemeI T = some (sch, r)) : ∃ P, T = P ++ (58 :: 47 :: 47 :: r) ∧ lowL P = sch ∧ schI P = some sch := by
  have key : ∀ (q : List Int) (n : Nat), q.length = n → begI (q ++ [58, 47, 47]) (lowL T) = true → T = T.take n ++ (58 :: 47 :: 47 :: T.drop (n + 3)) ∧ lowL (T.take n) = q := by
    intro q n hn hb
    have h1 := begI_low hb
    have hl := begI_len hb
    have hlen : n + 3 ≤ T.length := by have : (lowL T).length = T.length := by simp [lowL]
                                       simp only [List.length_append, List.length_cons, List.length_nil] at hl; omega
    rw [List.length_append, hn, show ([58, 47, 47] : List Int).length = 3 from rfl] at h1
    have e : T.take (n + 3) = T.take n ++ (T.drop n).take 3 := by rw [List.take_add]
    rw [e, lowL_append] at h1
    have h2 : lowL (T.take n) = q ∧ lowL ((T.drop n).take 3) = [58, 47, 47] := by
      apply List.append_inj h1
      simp [lowL]; omega
    have h3 := low_marks h2.2
    refine ⟨?_, h2.1⟩
    have h4 : T.drop n = (T.drop n).take 3 ++ (T.drop n).drop 3 := (List.take_append_drop 3 _).symm
    rw [h3, List.drop_drop] at h4
    have h5 : T = T.take n ++ T.drop n := (List.take_append_drop n T).symm
    rw [h4] at h5
    exact h5
  unfold schemeI at h
  split at h
  · rename_i hb
    cases h
    have := key httpI 4 rfl hb
    exact ⟨_, this.1, this.2, by unfold schI; rw [if_pos this.2]⟩
  · split at h
    · rename_i hb
      cases h
      have := key httpsI 5 rfl hb
      exact ⟨_, this.1, this.2, by unfold schI; rw [if_neg (by rw [this.2]; decide), if_pos this.2]⟩
    · cases h
theorem scheme_of {P r sch : List Int} (h : schI P = some sch) : schemeI (P ++ (58 :: 47 :: 47 :: r)) = some (sch, r) := by
  have low : lowL (P ++ (58 :: 47 :: 47 :: r)) = lowL P ++ ([58, 47, 47] ++ lowL r) := by rw [lowL_append]; rfl
  unfold schI at h
  split at h
  · rename_i e
    cases h
    have hl : P.length = 4 := by have := congrArg List.length e; simpa [lowL, httpI] using this
    unfold schemeI
    rw [low, e, if_pos (by rw [begI_iff, ← List.append_assoc, List.take_left']; rfl)]
    rw [List.drop_append, hl]
    simp [hl, List.drop_eq_nil_of_le]
  · split at h
    · rename_i hne e
      cases h
      have hl : P.length = 5 := by have := congrArg List.length e; simpa [lowL, httpsI] using this
      unfold schemeI
      rw [low, e, if_neg (by rw [begI_iff]; simp [httpsI, httpI]), if_pos (by rw [begI_iff, ← List.append_assoc, List.take_left']; rfl)]
      rw [List.drop_append, hl]
      simp [hl, List.drop_eq_nil_of_le]
    · cases h
def cap40 (u : UL) : Option UL := if 40 < (printI u).length then none else some u
/-- What follows the host, or the port: nothing, or one of the three signs. -/
theorem tail_parts {E : List Int} (h : E = [] ∨ ∃ x r, E = x :: r ∧ ([47, 63, 35] : List Int).contains x = true) :
    ahead [47] (ahead [63] (ahead [35] E)) = [] ∧ behind [47] (ahead [63] (ahead [35] E)) = ahead [63] (ahead [35] E) := by
  rcases h with rfl | ⟨x, r, rfl, hx⟩
  · exact ⟨rfl, rfl⟩
  · have h1 := (ahead_hd hx r).1
    rw [ahead_ahead, ahead_ahead]
    refine ⟨h1, ?_⟩
    rw [ahead_ahead]
    simp only [List.contains_cons, List.contains_nil, Bool.or_false, Bool.or_eq_true, beq_iff_eq] at hx
    rcases hx with rfl | rfl | rfl
    · unfold ahead behind
      rw [List.takeWhile_cons_of_pos (by decide), List.dropWhile_cons_of_neg (by decide)]
    · unfold ahead behind
      rw [List.takeWhile_cons_of_neg (by decide)]
      rfl
    · unfold ahead behind
      rw [List.takeWhile_cons_of_neg (by decide)]
      rfl
theorem query_same (q : List Int) : queryI q = if q.drop 1 = [] then [] else 63 :: pctE (q.drop 1) := by
  unfold queryI
  by_cases h : 1 < q.length
  · rw [if_pos h, if_neg (by intro e; have := congrArg List.length e; simp at this; omega)]
  · rw [if_neg h, if_pos (by apply List.drop_eq_nil_of_le; omega)]
theorem read_hit {P r sch : List Int} (hs : schI P = some sch) : (readI (P ++ (58 :: 47 :: 47 :: r))).bind cap40 = hostI sch r := by
  have hP := low_http (P := P) (by
    unfold schI at hs
    split at hs
    · rename_i e; exact .inl e
    · split at hs
      · rename_i e; exact .inr e
      · cases hs)
  have hno : ∀ (st : List Int), (∀ y ∈ st, y = 35 ∨ y = 63) → ∀ y ∈ P ++ [58, 47, 47], st.contains y = false := by
    intro st hst y hy
    rw [← Bool.not_eq_true]
    intro hc
    have h1 := hst y (by simpa using hc)
    rcases List.mem_append.1 hy with h2 | h2
    · have := hP y h2; omega
    · simp at h2; omega
  have e1 : P ++ (58 :: 47 :: 47 :: r) = (P ++ [58, 47, 47]) ++ r := by simp
  have a1 := ahead_app (st := [35]) (p := P ++ [58, 47, 47]) r (hno _ (by simp))
  have a2 := ahead_app (st := [63]) (p := P ++ [58, 47, 47]) (ahead [35] r) (hno _ (by simp))
  have c3 : cut3 (P ++ [58, 47, 47] ++ ahead [63] (ahead [35] r)) = (P, ahead [63] (ahead [35] r)) := by
    rw [show P ++ [58, 47, 47] ++ ahead [63] (ahead [35] r) = P ++ (58 :: 47 :: 47 :: ahead [63] (ahead [35] r)) by simp]
    exact cut3_hit _ (fun y hy => (hP y hy).1)
  unfold readI
  simp only [e1, a1.1, a2.1, a2.2, c3, hs, Option.bind_some]
  unfold hostI
  -- the host
  have hH : ahead [58] (ahead [47] (ahead [63] (ahead [35] r))) = ahead [58, 47, 63, 35] r := by rw [ahead_ahead, ahead_ahead, ahead_ahead]; rfl
  rw [hH]
  split
  · rename_i hho
    have hr : r = ahead [58, 47, 63, 35] r ++ behind [58, 47, 63, 35] r := (ahead_behind _ r).symm
    have hHno := ahead_no [58, 47, 63, 35] r
    have hBhd := behind_hd [58, 47, 63, 35] r
    generalize ahead [58, 47, 63, 35] r = H at *
    generalize behind [58, 47, 63, 35] r = B at *
    have hn : ∀ st : List Int, (∀ y ∈ st, y ∈ ([58, 47, 63, 35] : List Int)) → ∀ y ∈ H, st.contains y = false := by
      intro st hst y hy
      rw [← Bool.not_eq_true]
      intro hc
      have h1 := hst y (by simpa using hc)
      have h2 := hHno y hy
      simp only [List.contains_cons, List.contains_nil, Bool.or_false, Bool.or_eq_false_iff, beq_eq_false_iff_ne] at h2
      simp at h1; omega
    have b1 := ahead_app (st := [35]) (p := H) B (hn _ (by simp))
    have b2 := ahead_app (st := [63]) (p := H) (ahead [35] B) (hn _ (by simp))
    have b3 := ahead_app (st := [47]) (p := H) (ahead [63] (ahead [35] B)) (hn _ (by simp))
    have b4 := ahead_app (st := [58]) (p := H) (ahead [47] (ahead [63] (ahead [35] B))) (hn _ (by simp))
    rw [hr, b1.1, b2.1, b2.2, b3.1, b3.2]
    unfold prtI' portI
    rw [b4.2]
    by_cases hb : begI [58] B = true
    · obtain ⟨C, rfl⟩ : ∃ C, B = 58 :: C := ⟨B.drop 1, by have := begI_drop hb; simpa using this⟩
      rw [if_pos hb]
      have hC : C = ahead [47, 63, 35] C ++ behind [47, 63, 35] C := (ahead_behind _ C).symm
      have hDno := ahead_no [47, 63, 35] C
      have hEhd := behind_hd [47, 63, 35] C
      rw [show (58 :: C).drop 1 = C from rfl]
      generalize ahead [47, 63, 35] C = D at *
      generalize behind [47, 63, 35] C = E at *
      subst hC
      have hn2 : ∀ st : List Int, (∀ y ∈ st, y ∈ ([47, 63, 35] : List Int)) → ∀ y ∈ 58 :: D, st.contains y = false := by
        intro st hst y hy
        rw [← Bool.not_eq_true]
        intro hc
        have h1 := hst y (by simpa using hc)
        rcases List.mem_cons.1 hy with rfl | hy
        · simp at h1
        · have h2 := hDno y hy
          simp only [List.contains_cons, List.contains_nil, Bool.or_false, Bool.or_eq_false_iff, beq_eq_false_iff_ne] at h2
          simp at h1; omega
      have d1 := ahead_app (st := [35]) (p := 58 :: D) E (hn2 _ (by simp))
      have d2 := ahead_app (st := [63]) (p := 58 :: D) (ahead [35] E) (hn2 _ (by simp))
      have d3 := ahead_app (st := [47]) (p := 58 :: D) (ahead [63] (ahead [35] E)) (hn2 _ (by simp))
      have ht := tail_parts hEhd
      simp only [List.cons_append] at d1 d2 d3
      rw [d1.1, d2.1, d2.2, d3.1, d3.2, ht.1, ht.2, List.append_nil]
      have h58 := (ahead_hd (st := [58]) (x := 58) (by decide) D).2
      rw [h58, if_neg (by simp), List.drop_succ_cons, List.drop_zero, walk_dots, ← query_same]
      unfold prtI restI
      cases figI D 1 5 with
      | none => rfl
      | some n =>
        simp only [Option.bind_some]
        by_cases h65 : 65535 < n
        · rw [if_pos h65, if_pos h65]; rfl
        · rw [if_neg h65, if_neg h65]
          rfl
    · rw [if_neg hb]
      have hB : B = [] ∨ ∃ x q, B = x :: q ∧ ([47, 63, 35] : List Int).contains x = true := by
        rcases hBhd with h | ⟨x, q, rfl, hx⟩
        · exact .inl h
        · refine .inr ⟨x, q, rfl, ?_⟩
          simp only [List.contains_cons, List.contains_nil, Bool.or_false, Bool.or_eq_true, beq_iff_eq] at hx ⊢
          rcases hx with rfl | hx
          · exact absurd (by rw [begI_iff]; rfl) hb
          · exact hx
      have ht := tail_parts hB
      rw [ht.1, ht.2, show behind [58] [] = [] from rfl, if_pos rfl, walk_dots, ← query_same]
      have hown : (if (0 : Int) = ownI sch then (0 : Int) else 0) = 0 := by split <;> rfl
      unfold restI
      simp only [Option.bind_some, hown]
      rfl
  · rfl
/-- The landed program reads what the document's Parse reads. -/
theorem read_parse (T : List Int) : (readI T).bind cap40 = (schemeI T).bind fun p => hostI p.1 p.2 := by
  cases hs : schemeI T with
  | some p =>
    obtain ⟨sch, r⟩ := p
    obtain ⟨P, rfl, _, h⟩ := scheme_parts hs
    exact read_hit h
  | none =>
    rw [Option.bind_none]
    unfold readI
    simp only []
    have hT1 : T = ahead [35] T ++ behind [35] T := (ahead_behind _ T).symm
    have hT2 : ahead [35] T = ahead [63] (ahead [35] T) ++ behind [63] (ahead [35] T) := (ahead_behind _ _).symm
    rcases cut3_is (ahead [63] (ahead [35] T)) with h | ⟨_, h2⟩
    · cases hc : schI (cut3 (ahead [63] (ahead [35] T))).1 with
      | none => rfl
      | some sch =>
        exfalso
        have := scheme_of (r := (cut3 (ahead [63] (ahead [35] T))).2 ++ (behind [63] (ahead [35] T) ++ behind [35] T)) hc
        have e : (cut3 (ahead [63] (ahead [35] T))).1 ++ (58 :: 47 :: 47 :: ((cut3 (ahead [63] (ahead [35] T))).2 ++ (behind [63] (ahead [35] T) ++ behind [35] T))) = T := by
          conv => rhs; rw [hT1, hT2, h]
          simp
        rw [e, hs] at this
        cases this
    · rw [h2]
      cases schI (cut3 (ahead [63] (ahead [35] T))).1 with
      | none => rfl
      | some sch =>
        rw [Option.bind_some, if_neg (by decide)]
        rfl
theorem parse_read (l : List Int) : parseI l = (readI (trimI l)).bind cap40 := by rw [read_parse]; rfl
end Go.Proofs.YtfgaikacijdodaaDoor
