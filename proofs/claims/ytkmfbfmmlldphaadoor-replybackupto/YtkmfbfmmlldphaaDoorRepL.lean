/-
  The landed program's own way to read an answer, as lists of bytes: lines, headers, lengths: nothing runs here.
-/
import Derived.Test.YtkmfbfmmlldphaaDoorRep1
import Derived.Test.YtkmfbfmmlldphaaDoorNb
import Derived.Test.YtkmfbfmmlldphaaDoorHead1
import Derived.Lib.TrimByte
namespace Go.Proofs.YtkmfbfmmlldphaaDoor
set_option linter.unusedVariables false
set_option linter.unusedSimpArgs false
set_option maxRecDepth 20000

/-! ### a cut at a line's end -/
def cutL (l : List Int) : List Int × List Int × Bool := match lineI l with
  | some (p, r) => (p, r, true)
  | none => (l, [], false)
theorem cut_line : ∀ l : List UInt8, nb (Lib.cut l [13, 10]).1 = (cutL (nb l)).1 ∧ nb (Lib.cut l [13, 10]).2.1 = (cutL (nb l)).2.1 ∧ (Lib.cut l [13, 10]).2.2 = (cutL (nb l)).2.2
  | [] => by rw [cut_nil (by simp)]; exact ⟨rfl, rfl, rfl⟩
  | b :: l => by
    have ih := cut_line l
    rw [cut_cons]
    have e : nb (b :: l) = (b.toNat : Int) :: nb l := rfl
    by_cases h : ([13, 10] : List UInt8).isPrefixOf (b :: l) = true
    · rw [if_pos h]
      cases l with
      | nil => simp [List.isPrefixOf] at h
      | cons c r =>
        simp only [List.isPrefixOf, Bool.and_true, Bool.and_eq_true, beq_iff_eq] at h
        obtain ⟨rfl, rfl⟩ := h
        have h2 : lineI (nb (13 :: 10 :: r)) = some ([], nb r) := by
          show lineI ((13 : Int) :: 10 :: nb r) = _
          rw [lineI_cons]
          simp
        unfold cutL
        rw [h2]
        exact ⟨rfl, rfl, rfl⟩
    · rw [if_neg h]
      have hl : lineI ((b.toNat : Int) :: nb l) = (lineI (nb l)).map fun p => ((b.toNat : Int) :: p.1, p.2) := by
        rw [lineI_cons, if_neg]
        rintro ⟨h1, h2⟩
        apply h
        cases l with
        | nil => cases h2
        | cons c r =>
          have h3 : (c.toNat : Int) = 10 := by simpa [nb] using h2
          have hb : b = 13 := UInt8.toNat_inj.1 (by have : (13 : UInt8).toNat = 13 := rfl; omega)
          have hc : c = 10 := UInt8.toNat_inj.1 (by have : (10 : UInt8).toNat = 10 := rfl; omega)
          rw [hb, hc]
          simp [List.isPrefixOf]
      unfold cutL at ih ⊢
      rw [e, hl]
      cases hq : lineI (nb l) with
      | none =>
        rw [hq] at ih
        exact ⟨by show (b.toNat : Int) :: nb _ = _; rw [ih.1]; rfl, ih.2.1, ih.2.2⟩
      | some p =>
        rw [hq] at ih
        exact ⟨by show (b.toNat : Int) :: nb _ = _; rw [ih.1]; rfl, ih.2.1, ih.2.2⟩
/-! ### blanks, from behind first -/
def rdI (l : List Int) : List Int := (l.reverse.dropWhile (· == 32)).reverse
theorem rdI_cons (x : Int) (t : List Int) : rdI (x :: t) = if x = 32 ∧ rdI t = [] then [] else x :: rdI t := by
  unfold rdI
  rw [List.reverse_cons, List.dropWhile_append]
  by_cases h : t.reverse.dropWhile (· == (32 : Int)) = []
  · simp only [h, List.isEmpty_nil, if_true, List.reverse_nil, and_true]
    by_cases hx : x = 32
    · subst hx; rfl
    · rw [if_neg hx, List.dropWhile_cons_of_neg (by simpa using hx)]
      rfl
  · have h2 : (t.reverse.dropWhile (· == (32 : Int))).isEmpty = false := by simpa using h
    have h3 : ¬ (x = 32 ∧ (t.reverse.dropWhile (· == (32 : Int))).reverse = []) := fun h' => h (List.reverse_eq_nil_iff.1 h'.2)
    simp only [h2, Bool.false_eq_true, if_false]
    rw [if_neg h3, List.reverse_append]
    rfl
theorem rd_swap : ∀ l : List Int, (rdI l).dropWhile (· == (32 : Int)) = rdI (l.dropWhile (· == 32))
  | [] => rfl
  | x :: t => by
    have ih := rd_swap t
    rw [rdI_cons]
    by_cases hx : x = 32
    · subst hx
      rw [List.dropWhile_cons_of_pos (by decide), ← ih]
      by_cases hr : rdI t = []
      · rw [if_pos ⟨rfl, hr⟩, hr]
      · rw [if_neg (fun h => hr h.2), List.dropWhile_cons_of_pos (by decide)]
    · rw [if_neg (fun h => hx h.1), List.dropWhile_cons_of_neg (by simpa using hx), List.dropWhile_cons_of_neg (by simpa using hx), rdI_cons, if_neg (fun h => hx h.1)]
theorem nb_drop (c : UInt8) : ∀ l : List UInt8, nb (l.dropWhile (· == c)) = (nb l).dropWhile (· == (c.toNat : Int))
  | [] => rfl
  | b :: l => by
    have e : nb (b :: l) = (b.toNat : Int) :: nb l := rfl
    by_cases h : b = c
    · subst h
      rw [List.dropWhile_cons_of_pos (by simp), e, List.dropWhile_cons_of_pos (by simp)]
      exact nb_drop b l
    · rw [List.dropWhile_cons_of_neg (by simpa using h), e, List.dropWhile_cons_of_neg (by simp only [beq_iff_eq]; exact fun h' => h ((nb_eq _ _).1 h'))]; try rfl
theorem nb_rev (l : List UInt8) : nb l.reverse = (nb l).reverse := by unfold nb; rw [List.map_reverse]
theorem trim_blanks (l : List UInt8) : nb (Lib.trimB l 32) = blanksI (nb l) := by
  unfold Lib.trimB Lib.trimLeftB Lib.trimRightB
  rw [nb_drop, nb_rev, nb_drop, nb_rev]
  exact rd_swap (nb l)
theorem blanksI_edges (l : List Int) : (blanksI l).head? ≠ some 32 ∧ (blanksI l).getLast? ≠ some 32 := by
  have h0 : ∀ m : List Int, (m.dropWhile (· == (32 : Int))).head? ≠ some 32 := by
    intro m
    induction m with
    | nil => simp
    | cons x t ih =>
      by_cases hx : x = 32
      · rw [List.dropWhile_cons_of_pos (by simpa using hx)]; exact ih
      · rw [List.dropWhile_cons_of_neg (by simpa using hx)]; simpa using hx
  constructor
  · have e : blanksI l = (rdI l).dropWhile (· == (32 : Int)) := (rd_swap l).symm
    rw [e]
    exact h0 _
  · show ((l.dropWhile (· == (32 : Int))).reverse.dropWhile (· == 32)).reverse.getLast? ≠ some 32
    rw [List.getLast?_reverse]
    exact h0 _
theorem valueOk_blanks (l : List Int) : ValueOk 40 (blanksI l) ↔ (blanksI l).all vbI = true ∧ (blanksI l).length ≤ 40 := by
  obtain ⟨h1, h2⟩ := blanksI_edges l
  generalize blanksI l = m at *
  have hv : ∀ x : Int, vbI x = true ↔ (32 ≤ x ∧ x ≤ 126) := fun x => by unfold vbI; rw [decide_eq_true_iff]
  unfold ValueOk
  simp only [List.all_eq_true, hv]
  constructor
  · rintro ⟨a, b, _⟩; exact ⟨a, by omega⟩
  · rintro ⟨a, b⟩
    refine ⟨a, by omega, ?_⟩
    cases m with
    | nil => exact .inl rfl
    | cons x t =>
      refine .inr ⟨by simpa using h1, fun e => h2 ?_⟩
      rw [List.getLast?_eq_getElem?]
      rw [List.getD_eq_getElem?_getD, List.getElem?_eq_getElem (by simp), Option.getD_some] at e
      rw [List.getElem?_eq_getElem (by simp), e]
theorem nameOk_all (l : List Int) : NameOk 20 l ↔ l.all nbI = true ∧ 1 ≤ l.length ∧ l.length ≤ 20 := by
  have hv : ∀ x : Int, nbI x = true ↔ NB x := fun x => by unfold nbI NB; rw [decide_eq_true_iff]
  unfold NameOk
  simp only [List.all_eq_true, hv]
  constructor
  · rintro ⟨a, b, c⟩; exact ⟨a, b, by omega⟩
  · rintro ⟨a, b, c⟩; exact ⟨a, b, by omega⟩
/-! ### headers, whatever they say of a length -/
def headsGF : Nat → HL → List Int → Option (HL × List Int)
  | 0, _, _ => none
  | f + 1, hs, s => (lineI s).bind fun p =>
    if p.1 = [] then some (hs, p.2)
    else (headI p.1).bind fun h => if hs.length = 8 then none else headsGF f (hs ++ [h]) p.2
theorem headsGF_any : ∀ (f g : Nat) (hs : HL) (s : List Int), s.length < f → s.length < g → headsGF f hs s = headsGF g hs s
  | 0, _, _, s, h, _ => by omega
  | f + 1, 0, _, s, _, h => by omega
  | f + 1, g + 1, hs, s, hf, hg => by
    unfold headsGF
    cases hl : lineI s with
    | none => rfl
    | some p =>
      obtain ⟨p1, p2⟩ := p
      have := lineI_len hl
      simp only [Option.bind_some]
      split
      · rfl
      · cases headI p1 with
        | none => rfl
        | some h =>
          simp only [Option.bind_some]
          split
          · rfl
          · exact headsGF_any f g _ _ (by omega) (by omega)
def headsG (hs : HL) (s : List Int) : Option (HL × List Int) := headsGF (s.length + 1) hs s
theorem headsG_step (hs : HL) (s : List Int) : headsG hs s = (lineI s).bind fun p =>
    if p.1 = [] then some (hs, p.2)
    else (headI p.1).bind fun h => if hs.length = 8 then none else headsG (hs ++ [h]) p.2 := by
  unfold headsG
  rw [headsGF]
  cases hl : lineI s with
  | none => rfl
  | some p =>
    obtain ⟨p1, p2⟩ := p
    have := lineI_len hl
    simp only [Option.bind_some]
    split
    · rfl
    · cases headI p1 with
      | none => rfl
      | some h =>
        simp only [Option.bind_some]
        split
        · rfl
        · exact headsGF_any _ _ _ _ (by omega) (by omega)
theorem headsGF_pre : ∀ (f : Nat) (hs : HL) (s : List Int) (q : HL × List Int), headsGF f hs s = some q → ∃ m, q.1 = hs ++ m
  | 0, _, _, _, h => by cases h
  | f + 1, hs, s, q, h => by
    unfold headsGF at h
    cases hl : lineI s with
    | none => rw [hl] at h; cases h
    | some p =>
      rw [hl, Option.bind_some] at h
      split at h
      · cases h; exact ⟨[], by simp⟩
      · cases hh : headI p.1 with
        | none => rw [hh] at h; cases h
        | some x =>
          rw [hh, Option.bind_some] at h
          split at h
          · cases h
          · obtain ⟨m, hm⟩ := headsGF_pre f _ _ _ h
            exact ⟨x :: m, by rw [hm]; simp⟩
theorem headsF_G : ∀ (f : Nat) (hs : HL) (had : Option Int) (s : List Int), headsF f hs had s = (headsGF f hs s).bind fun q => (lensI had (q.1.drop hs.length)).map fun had' => (q.1, had', q.2)
  | 0, _, _, _ => rfl
  | f + 1, hs, had, s => by
    unfold headsF headsGF
    cases lineI s with
    | none => rfl
    | some p =>
      simp only [Option.bind_some]
      split
      · simp [lensI]
      · cases headI p.1 with
        | none => rfl
        | some h =>
          simp only [Option.bind_some]
          split
          · rfl
          · cases hg : headsGF f (hs ++ [h]) p.2 with
            | none =>
              cases lenI had h with
              | none => rfl
              | some had' => simp only [Option.bind_some]; rw [headsF_G f, hg]; rfl
            | some q =>
              obtain ⟨m, hm⟩ := headsGF_pre _ _ _ _ hg
              have e1 : q.1.drop hs.length = h :: m := by rw [hm, List.append_assoc, List.drop_left]; rfl
              have e2 : q.1.drop (hs ++ [h]).length = m := by rw [hm, List.drop_left]
              simp only [Option.bind_some]
              rw [e1]
              simp only [lensI]
              cases lenI had h with
              | none => rfl
              | some had' => simp only [Option.bind_some]; rw [headsF_G f, hg, Option.bind_some, e2]
theorem headsI_G (had : Option Int) (s : List Int) : headsI [] had s = (headsG [] s).bind fun q => (lensI had q.1).map fun had' => (q.1, had', q.2) := headsF_G _ _ _ _
/-! ### what headers say of a length -/
def valsI (hs : HL) : List (List Int) := (hs.filter fun h => decide (lowL h.1 = clI)).map (·.2)
def lenV : List (List Int) → Option (Option Int)
  | [] => some none
  | [v] => (figI v 1 6).map some
  | _ :: _ :: _ => none
theorem valsI_cons (h : List Int × List Int) (t : HL) : valsI (h :: t) = if lowL h.1 = clI then h.2 :: valsI t else valsI t := by
  unfold valsI
  by_cases hc : lowL h.1 = clI
  · rw [List.filter_cons_of_pos (by simpa using hc), if_pos hc]; rfl
  · rw [List.filter_cons_of_neg (by simpa using hc), if_neg hc]
theorem lensI_some (k : Int) : ∀ hs : HL, lensI (some k) hs = if valsI hs = [] then some (some k) else none
  | [] => rfl
  | h :: t => by
    rw [valsI_cons]
    simp only [lensI, lenI]
    by_cases hc : lowL h.1 = clI
    · simp [hc]
    · rw [if_neg hc, if_neg hc, Option.bind_some, lensI_some k t]
theorem lensI_vals : ∀ hs : HL, lensI none hs = lenV (valsI hs)
  | [] => rfl
  | h :: t => by
    rw [valsI_cons]
    simp only [lensI, lenI]
    by_cases hc : lowL h.1 = clI
    · rw [if_pos hc, if_pos hc]
      cases hf : figI h.2 1 6 with
      | none => cases valsI t <;> simp [lenV, hf]
      | some k =>
        simp only [Option.isSome_none, Bool.false_eq_true, if_false, Option.map_some, Option.bind_some]
        rw [lensI_some]
        cases valsI t <;> simp [lenV, hf]
    · rw [if_neg hc, if_neg hc, Option.bind_some, lensI_vals t]
theorem valsI_snoc (hs : HL) (h : List Int × List Int) : valsI (hs ++ [h]) = if lowL h.1 = clI then valsI hs ++ [h.2] else valsI hs := by
  unfold valsI
  rw [List.filter_append, List.map_append]
  by_cases hc : lowL h.1 = clI
  · rw [List.filter_cons_of_pos (by simpa using hc), if_pos hc]; rfl
  · rw [List.filter_cons_of_neg (by simpa using hc), if_neg hc]; simp
theorem replyI_G (s : List Int) : replyI s = (lineI s).bind fun p => (firstI p.1).bind fun c => (headsG [] p.2).bind fun q => (lenV (valsI q.1)).map fun had => ⟨c, q.1, (bodyI had q.2).1, (bodyI had q.2).2⟩ := by
  unfold replyI
  congr 1
  funext p
  congr 1
  funext c
  rw [headsI_G]
  cases headsG [] p.2 with
  | none => rfl
  | some q =>
    simp only [Option.bind_some]
    rw [lensI_vals]
    cases lenV (valsI q.1) <;> rfl
theorem headsG_ok : ∀ (f : Nat) (hs : HL) (s : List Int) (q : HL × List Int), headsGF f hs s = some q → (∀ h ∈ hs, HeadOk h) → hs.length ≤ 8 → (∀ h ∈ q.1, HeadOk h) ∧ q.1.length ≤ 8
  | 0, _, _, _, h, _, _ => by cases h
  | f + 1, hs, s, q, h, hk, h8 => by
    unfold headsGF at h
    cases hl : lineI s with
    | none => rw [hl] at h; cases h
    | some p =>
      rw [hl, Option.bind_some] at h
      split at h
      · cases h; exact ⟨hk, h8⟩
      · cases hh : headI p.1 with
        | none => rw [hh] at h; cases h
        | some x =>
          rw [hh, Option.bind_some] at h
          split at h
          · cases h
          · refine headsG_ok f _ _ _ h (fun y hy => ?_) (by simp; omega)
            rcases List.mem_append.1 hy with hy | hy
            · exact hk y hy
            · rw [List.mem_singleton.1 hy]
              unfold headI at hh
              split at hh
              · cases hh
              · split at hh
                · rename_i hok; cases hh; exact hok
                · cases hh
theorem headsGF_rest : ∀ (f : Nat) (hs : HL) (s : List Int) (q : HL × List Int), headsGF f hs s = some q → Byt s → Byt q.2 ∧ q.2.length ≤ s.length
  | 0, _, _, _, h, _ => by cases h
  | f + 1, hs, s, q, h, hB => by
    unfold headsGF at h
    cases hl : lineI s with
    | none => rw [hl] at h; cases h
    | some p =>
      rw [hl, Option.bind_some] at h
      have h1 := lineI_byt hB (p := p.1) (r := p.2) hl
      have h2 := lineI_len (p := p.1) (r := p.2) hl
      split at h
      · cases h; exact ⟨h1.2, by show p.2.length ≤ _; omega⟩
      · cases hh : headI p.1 with
        | none => rw [hh] at h; cases h
        | some x =>
          rw [hh, Option.bind_some] at h
          split at h
          · cases h
          · have := headsGF_rest f _ _ _ h h1.2
            exact ⟨this.1, by omega⟩
theorem headsG_rest {s : List Int} {hs : HL} {r : List Int} {n : Nat} (hB : Byt s) (hl : s.length ≤ n) (h : headsG [] s = some (hs, r)) : Byt r ∧ r.length ≤ n := by
  have := headsGF_rest _ _ _ _ h hB
  exact ⟨this.1, Nat.le_trans this.2 hl⟩
theorem headI_of {l : List Int} : headI l = if behind [58] l ≠ [] ∧ (ahead [58] l).all nbI = true ∧ (1 ≤ (ahead [58] l).length ∧ (ahead [58] l).length ≤ 20) ∧ (blanksI ((behind [58] l).drop 1)).all vbI = true ∧ (blanksI ((behind [58] l).drop 1)).length ≤ 40 then some (ahead [58] l, blanksI ((behind [58] l).drop 1)) else none := by
  unfold headI
  by_cases h1 : behind [58] l = []
  · rw [if_pos h1, if_neg (fun h => h.1 h1)]
  · rw [if_neg h1]
    have h2 := nameOk_all (ahead [58] l)
    have h3 := valueOk_blanks ((behind [58] l).drop 1)
    by_cases h4 : NameOk 20 (ahead [58] l) ∧ ValueOk 40 (blanksI ((behind [58] l).drop 1))
    · rw [if_pos h4, if_pos ⟨h1, (h2.1 h4.1).1, (h2.1 h4.1).2, h3.1 h4.2⟩]
    · rw [if_neg h4, if_neg (fun h => h4 ⟨h2.2 ⟨h.2.1, h.2.2.1⟩, h3.2 h.2.2.2⟩)]
end Go.Proofs.YtkmfbfmmlldphaaDoor
