/-
  Texts that the laws stand on: RepL, AskL, Shelf, LibV.
-/
import Derived.Test.YtlcolabblpikjaaGreatDoorM7
import Derived.Lib.TrimByte
import Derived.Test.YtlcolabblpikjaaGreatDoorM10
import Derived.Lib.IndexAny
import Derived.Shelf.Strings.Builder1
import Derived.Shelf.Strings.Trim
import Derived.Shelf.Small.Utf8
import Derived.Shelf.Small.Strs
import Derived.Shelf.Strings.BuilderF
import Derived.Shelf.Strconv.Itoa0
import Derived.Shelf.Strconv.Itoa1
import Derived.Shelf.LaysM
import Derived.Shelf.Strconv.Itoa2
import Derived.Shelf.Strconv.Itoa3
import Derived.Shelf.Strconv.Clone
import Derived.Shelf.Strings.Search1
import Derived.Shelf.Strings.Search2
import Derived.Shelf.Strings.Search3
import Derived.Shelf.Strings.Cut
import Derived.Shelf.Strings.Count
import Derived.Shelf.Strings.Shaped
import Derived.Shelf.Strings.Prefix
import Derived.Shelf.Strings.Split
import Derived.Shelf.Strings.SplitShaped
import Derived.Shelf.Strings.Runes
import Derived.Shelf.Strings.AsciiSet
import Derived.Test.YtlcolabblpikjaaGreatDoorProg
import Derived.Test.YtlcolabblpikjaaGreatDoorM1
import Derived.Lib.LaidTab

/-
  The landed program's own way to read an answer, as lists of bytes: lines, headers, lengths: nothing runs here.
-/
namespace Go.Proofs.YtlcolabblpikjaaGreatDoor
set_option linter.unusedVariables false
set_option linter.unusedSimpArgs false
set_option maxRecDepth 20000

/-! ### a cut at a line's end -/
def cutL (l : List Int) : List Int × List Int × Bool := match lineI l with
  | some (p, r) => (p, r, true)
  | none => (l, [], false)
theorem cut_line : ∀ l : List UInt8, nb (Lib.cut l [13, 10]).1 = (cutL (nb l)).1 ∧ nb (Lib.cut l [13, 10]).2.1 = (cutL (nb l)).2.1 ∧ (Lib.cut l [13, 10]).2.2 = (cutL (nb l)).2.2
  | [] => by rw [cut_nil (by simp)]; exact ⟨rfl, rfl, rfl⟩
  | b :: l => by
    have ih := cut_line l
    rw [cut_cons]
    have e : nb (b :: l) = (b.toNat : Int) :: nb l := rfl
    by_cases h : ([13, 10] : List UInt8).isPrefixOf (b :: l) = true
    · rw [if_pos h]
      cases l with
      | nil => simp [List.isPrefixOf] at h
      | cons c r =>
        simp only [List.isPrefixOf, Bool.and_true, Bool.and_eq_true, beq_iff_eq] at h
        obtain ⟨rfl, rfl⟩ := h
        have h2 : lineI (nb (13 :: 10 :: r)) = some ([], nb r) := by
          show lineI ((13 : Int) :: 10 :: nb r) = _
          rw [lineI_cons]
          simp
        unfold cutL
        rw [h2]
        exact ⟨rfl, rfl, rfl⟩
    · rw [if_neg h]
      have hl : lineI ((b.toNat : Int) :: nb l) = (lineI (nb l)).map fun p => ((b.toNat : Int) :: p.1, p.2) := by
        rw [lineI_cons, if_neg]
        rintro ⟨h1, h2⟩
        apply h
        cases l with
        | nil => cases h2
        | cons c r =>
          have h3 : (c.toNat : Int) = 10 := by simpa [nb] using h2
          have hb : b = 13 := UInt8.toNat_inj.1 (by have : (13 : UInt8).toNat = 13 := rfl; omega)
          have hc : c = 10 := UInt8.toNat_inj.1 (by have : (10 : UInt8).toNat = 10 := rfl; omega)
          rw [hb, hc]
          simp [List.isPrefixOf]
      unfold cutL at ih ⊢
      rw [e, hl]
      cases hq : lineI (nb l) with
      | none =>
        rw [hq] at ih
        exact ⟨by show (b.toNat : Int) :: nb _ = _; rw [ih.1]; rfl, ih.2.1, ih.2.2⟩
      | some p =>
        rw [hq] at ih
        exact ⟨by show (b.toNat : Int) :: nb _ = _; rw [ih.1]; rfl, ih.2.1, ih.2.2⟩
/-! ### blanks, from behind first -/
def rdI (l : List Int) : List Int := (l.reverse.dropWhile (· == 32)).reverse
theorem rdI_cons (x : Int) (t : List Int) : rdI (x :: t) = if x = 32 ∧ rdI t = [] then [] else x :: rdI t := by
  unfold rdI
  rw [List.reverse_cons, List.dropWhile_append]
  by_cases h : t.reverse.dropWhile (· == (32 : Int)) = []
  · simp only [h, List.isEmpty_nil, if_true, List.reverse_nil, and_true]
    by_cases hx : x = 32
    · subst hx; rfl
    · rw [if_neg hx, List.dropWhile_cons_of_neg (by simpa using hx)]
      rfl
  · have h2 : (t.reverse.dropWhile (· == (32 : Int))).isEmpty = false := by simpa using h
    have h3 : ¬ (x = 32 ∧ (t.reverse.dropWhile (· == (32 : Int))).reverse = []) := fun h' => h (List.reverse_eq_nil_iff.1 h'.2)
    simp only [h2, Bool.false_eq_true, if_false]
    rw [if_neg h3, List.reverse_append]
    rfl
theorem rd_swap : ∀ l : List Int, (rdI l).dropWhile (· == (32 : Int)) = rdI (l.dropWhile (· == 32))
  | [] => rfl
  | x :: t => by
    have ih := rd_swap t
    rw [rdI_cons]
    by_cases hx : x = 32
    · subst hx
      rw [List.dropWhile_cons_of_pos (by decide), ← ih]
      by_cases hr : rdI t = []
      · rw [if_pos ⟨rfl, hr⟩, hr]
      · rw [if_neg (fun h => hr h.2), List.dropWhile_cons_of_pos (by decide)]
    · rw [if_neg (fun h => hx h.1), List.dropWhile_cons_of_neg (by simpa using hx), List.dropWhile_cons_of_neg (by simpa using hx), rdI_cons, if_neg (fun h => hx h.1)]
theorem nb_drop (c : UInt8) : ∀ l : List UInt8, nb (l.dropWhile (· == c)) = (nb l).dropWhile (· == (c.toNat : Int))
  | [] => rfl
  | b :: l => by
    have e : nb (b :: l) = (b.toNat : Int) :: nb l := rfl
    by_cases h : b = c
    · subst h
      rw [List.dropWhile_cons_of_pos (by simp), e, List.dropWhile_cons_of_pos (by simp)]
      exact nb_drop b l
    · rw [List.dropWhile_cons_of_neg (by simpa using h), e, List.dropWhile_cons_of_neg (by simp only [beq_iff_eq]; exact fun h' => h ((nb_eq _ _).1 h'))]; try rfl
theorem nb_rev (l : List UInt8) : nb l.reverse = (nb l).reverse := by unfold nb; rw [List.map_reverse]
theorem trim_blanks (l : List UInt8) : nb (Lib.trimB l 32) = blanksI (nb l) := by
  unfold Lib.trimB Lib.trimLeftB Lib.trimRightB
  rw [nb_drop, nb_rev, nb_drop, nb_rev]
  exact rd_swap (nb l)
theorem blanksI_edges (l : List Int) : (blanksI l).head? ≠ some 32 ∧ (blanksI l).getLast? ≠ some 32 := by
  have h0 : ∀ m : List Int, (m.dropWhile (· == (32 : Int))).head? ≠ some 32 := by
    intro m
    induction m with
    | nil => simp
    | cons x t ih =>
      by_cases hx : x = 32
      · rw [List.dropWhile_cons_of_pos (by simpa using hx)]; exact ih
      · rw [List.dropWhile_cons_of_neg (by simpa using hx)]; simpa using hx
  constructor
  · have e : blanksI l = (rdI l).dropWhile (· == (32 : Int)) := (rd_swap l).symm
    rw [e]
    exact h0 _
  · show ((l.dropWhile (· == (32 : Int))).reverse.dropWhile (· == 32)).reverse.getLast? ≠ some 32
    rw [List.getLast?_reverse]
    exact h0 _
theorem valueOk_blanks (l : List Int) : ValueOk 40 (blanksI l) ↔ (blanksI l).all vbI = true ∧ (blanksI l).length ≤ 40 := by
  obtain ⟨h1, h2⟩ := blanksI_edges l
  generalize blanksI l = m at *
  have hv : ∀ x : Int, vbI x = true ↔ (32 ≤ x ∧ x ≤ 126) := fun x => by unfold vbI; rw [decide_eq_true_iff]
  unfold ValueOk
  simp only [List.all_eq_true, hv]
  constructor
  · rintro ⟨a, b, _⟩; exact ⟨a, by omega⟩
  · rintro ⟨a, b⟩
    refine ⟨a, by omega, ?_⟩
    cases m with
    | nil => exact .inl rfl
    | cons x t =>
      refine .inr ⟨by simpa using h1, fun e => h2 ?_⟩
      rw [List.getLast?_eq_getElem?]
      rw [List.getD_eq_getElem?_getD, List.getElem?_eq_getElem (by simp), Option.getD_some] at e
      rw [List.getElem?_eq_getElem (by simp), e]
theorem nameOk_all (l : List Int) : NameOk 20 l ↔ l.all nbI = true ∧ 1 ≤ l.length ∧ l.length ≤ 20 := by
  have hv : ∀ x : Int, nbI x = true ↔ NB x := fun x => by unfold nbI NB; rw [decide_eq_true_iff]
  unfold NameOk
  simp only [List.all_eq_true, hv]
  constructor
  · rintro ⟨a, b, c⟩; exact ⟨a, b, by omega⟩
  · rintro ⟨a, b, c⟩; exact ⟨a, b, by omega⟩
/-! ### headers, whatever they say of a length -/
def headsGF : Nat → HL → List Int → Option (HL × List Int)
  | 0, _, _ => none
  | f + 1, hs, s => (lineI s).bind fun p =>
    if p.1 = [] then some (hs, p.2)
    else (headI p.1).bind fun h => if hs.length = 8 then none else headsGF f (hs ++ [h]) p.2
theorem headsGF_any : ∀ (f g : Nat) (hs : HL) (s : List Int), s.length < f → s.length < g → headsGF f hs s = headsGF g hs s
  | 0, _, _, s, h, _ => by omega
  | f + 1, 0, _, s, _, h => by omega
  | f + 1, g + 1, hs, s, hf, hg => by
    unfold headsGF
    cases hl : lineI s with
    | none => rfl
    | some p =>
      obtain ⟨p1, p2⟩ := p
      have := lineI_len hl
      simp only [Option.bind_some]
      split
      · rfl
      · cases headI p1 with
        | none => rfl
        | some h =>
          simp only [Option.bind_some]
          split
          · rfl
          · exact headsGF_any f g _ _ (by omega) (by omega)
def headsG (hs : HL) (s : List Int) : Option (HL × List Int) := headsGF (s.length + 1) hs s
theorem headsG_step (hs : HL) (s : List Int) : headsG hs s = (lineI s).bind fun p =>
    if p.1 = [] then some (hs, p.2)
    else (headI p.1).bind fun h => if hs.length = 8 then none else headsG (hs ++ [h]) p.2 := by
  unfold headsG
  rw [headsGF]
  cases hl : lineI s with
  | none => rfl
  | some p =>
    obtain ⟨p1, p2⟩ := p
    have := lineI_len hl
    simp only [Option.bind_some]
    split
    · rfl
    · cases headI p1 with
      | none => rfl
      | some h =>
        simp only [Option.bind_some]
        split
        · rfl
        · exact headsGF_any _ _ _ _ (by omega) (by omega)
theorem headsGF_pre : ∀ (f : Nat) (hs : HL) (s : List Int) (q : HL × List Int), headsGF f hs s = some q → ∃ m, q.1 = hs ++ m
  | 0, _, _, _, h => by cases h
  | f + 1, hs, s, q, h => by
    unfold headsGF at h
    cases hl : lineI s with
    | none => rw [hl] at h; cases h
    | some p =>
      rw [hl, Option.bind_some] at h
      split at h
      · cases h; exact ⟨[], by simp⟩
      · cases hh : headI p.1 with
        | none => rw [hh] at h; cases h
        | some x =>
          rw [hh, Option.bind_some] at h
          split at h
          · cases h
          · obtain ⟨m, hm⟩ := headsGF_pre f _ _ _ h
            exact ⟨x :: m, by rw [hm]; simp⟩
theorem headsF_G : ∀ (f : Nat) (hs : HL) (had : Option Int) (s : List Int), headsF f hs had s = (headsGF f hs s).bind fun q => (lensI had (q.1.drop hs.length)).map fun had' => (q.1, had', q.2)
  | 0, _, _, _ => rfl
  | f + 1, hs, had, s => by
    unfold headsF headsGF
    cases lineI s with
    | none => rfl
    | some p =>
      simp only [Option.bind_some]
      split
      · simp [lensI]
      · cases headI p.1 with
        | none => rfl
        | some h =>
          simp only [Option.bind_some]
          split
          · rfl
          · cases hg : headsGF f (hs ++ [h]) p.2 with
            | none =>
              cases lenI had h with
              | none => rfl
              | some had' => simp only [Option.bind_some]; rw [headsF_G f, hg]; rfl
            | some q =>
              obtain ⟨m, hm⟩ := headsGF_pre _ _ _ _ hg
              have e1 : q.1.drop hs.length = h :: m := by rw [hm, List.append_assoc, List.drop_left]; rfl
              have e2 : q.1.drop (hs ++ [h]).length = m := by rw [hm, List.drop_left]
              simp only [Option.bind_some]
              rw [e1]
              simp only [lensI]
              cases lenI had h with
              | none => rfl
              | some had' => simp only [Option.bind_some]; rw [headsF_G f, hg, Option.bind_some, e2]
theorem headsI_G (had : Option Int) (s : List Int) : headsI [] had s = (headsG [] s).bind fun q => (lensI had q.1).map fun had' => (q.1, had', q.2) := headsF_G _ _ _ _
/-! ### what headers say of a length -/
def valsI (hs : HL) : List (List Int) := (hs.filter fun h => decide (lowL h.1 = clI)).map (·.2)
def lenV : List (List Int) → Option (Option Int)
  | [] => some none
  | [v] => (figI v 1 6).map some
  | _ :: _ :: _ => none
theorem valsI_cons (h : List Int × List Int) (t : HL) : valsI (h :: t) = if lowL h.1 = clI then h.2 :: valsI t else valsI t := by
  unfold valsI
  by_cases hc : lowL h.1 = clI
  · rw [List.filter_cons_of_pos (by simpa using hc), if_pos hc]; rfl
  · rw [List.filter_cons_of_neg (by simpa using hc), if_neg hc]
theorem lensI_some (k : Int) : ∀ hs : HL, lensI (some k) hs = if valsI hs = [] then some (some k) else none
  | [] => rfl
  | h :: t => by
    rw [valsI_cons]
    simp only [lensI, lenI]
    by_cases hc : lowL h.1 = clI
    · simp [hc]
    · rw [if_neg hc, if_neg hc, Option.bind_some, lensI_some k t]
theorem lensI_vals : ∀ hs : HL, lensI none hs = lenV (valsI hs)
  | [] => rfl
  | h :: t => by
    rw [valsI_cons]
    simp only [lensI, lenI]
    by_cases hc : lowL h.1 = clI
    · rw [if_pos hc, if_pos hc]
      cases hf : figI h.2 1 6 with
      | none => cases valsI t <;> simp [lenV, hf]
      | some k =>
        simp only [Option.isSome_none, Bool.false_eq_true, if_false, Option.map_some, Option.bind_some]
        rw [lensI_some]
        cases valsI t <;> simp [lenV, hf]
    · rw [if_neg hc, if_neg hc, Option.bind_some, lensI_vals t]
theorem valsI_snoc (hs : HL) (h : List Int × List Int) : valsI (hs ++ [h]) = if lowL h.1 = clI then valsI hs ++ [h.2] else valsI hs := by
  unfold valsI
  rw [List.filter_append, List.map_append]
  by_cases hc : lowL h.1 = clI
  · rw [List.filter_cons_of_pos (by simpa using hc), if_pos hc]; rfl
  · rw [List.filter_cons_of_neg (by simpa using hc), if_neg hc]; simp
theorem replyI_G (s : List Int) : replyI s = (lineI s).bind fun p => (firstI p.1).bind fun c => (headsG [] p.2).bind fun q => (lenV (valsI q.1)).map fun had => ⟨c, q.1, (bodyI had q.2).1, (bodyI had q.2).2⟩ := by
  unfold replyI
  congr 1
  funext p
  congr 1
  funext c
  rw [headsI_G]
  cases headsG [] p.2 with
  | none => rfl
  | some q =>
    simp only [Option.bind_some]
    rw [lensI_vals]
    cases lenV (valsI q.1) <;> rfl
theorem headsG_ok : ∀ (f : Nat) (hs : HL) (s : List Int) (q : HL × List Int), headsGF f hs s = some q → (∀ h ∈ hs, HeadOk h) → hs.length ≤ 8 → (∀ h ∈ q.1, HeadOk h) ∧ q.1.length ≤ 8
  | 0, _, _, _, h, _, _ => by cases h
  | f + 1, hs, s, q, h, hk, h8 => by
    unfold headsGF at h
    cases hl : lineI s with
    | none => rw [hl] at h; cases h
    | some p =>
      rw [hl, Option.bind_some] at h
      split at h
      · cases h; exact ⟨hk, h8⟩
      · cases hh : headI p.1 with
        | none => rw [hh] at h; cases h
        | some x =>
          rw [hh, Option.bind_some] at h
          split at h
          · cases h
          · refine headsG_ok f _ _ _ h (fun y hy => ?_) (by simp; omega)
            rcases List.mem_append.1 hy with hy | hy
            · exact hk y hy
            · rw [List.mem_singleton.1 hy]
              unfold headI at hh
              split at hh
              · cases hh
              · split at hh
                · rename_i hok; cases hh; exact hok
                · cases hh
theorem headsGF_rest : ∀ (f : Nat) (hs : HL) (s : List Int) (q : HL × List Int), headsGF f hs s = some q → Byt s → Byt q.2 ∧ q.2.length ≤ s.length
  | 0, _, _, _, h, _ => by cases h
  | f + 1, hs, s, q, h, hB => by
    unfold headsGF at h
    cases hl : lineI s with
    | none => rw [hl] at h; cases h
    | some p =>
      rw [hl, Option.bind_some] at h
      have h1 := lineI_byt hB (p := p.1) (r := p.2) hl
      have h2 := lineI_len (p := p.1) (r := p.2) hl
      split at h
      · cases h; exact ⟨h1.2, by show p.2.length ≤ _; omega⟩
      · cases hh : headI p.1 with
        | none => rw [hh] at h; cases h
        | some x =>
          rw [hh, Option.bind_some] at h
          split at h
          · cases h
          · have := headsGF_rest f _ _ _ h h1.2
            exact ⟨this.1, by omega⟩
theorem headsG_rest {s : List Int} {hs : HL} {r : List Int} {n : Nat} (hB : Byt s) (hl : s.length ≤ n) (h : headsG [] s = some (hs, r)) : Byt r ∧ r.length ≤ n := by
  have := headsGF_rest _ _ _ _ h hB
  exact ⟨this.1, Nat.le_trans this.2 hl⟩
theorem headI_of {l : List Int} : headI l = if behind [58] l ≠ [] ∧ (ahead [58] l).all nbI = true ∧ (1 ≤ (ahead [58] l).length ∧ (ahead [58] l).length ≤ 20) ∧ (blanksI ((behind [58] l).drop 1)).all vbI = true ∧ (blanksI ((behind [58] l).drop 1)).length ≤ 40 then some (ahead [58] l, blanksI ((behind [58] l).drop 1)) else none := by
  unfold headI
  by_cases h1 : behind [58] l = []
  · rw [if_pos h1, if_neg (fun h => h.1 h1)]
  · rw [if_neg h1]
    have h2 := nameOk_all (ahead [58] l)
    have h3 := valueOk_blanks ((behind [58] l).drop 1)
    by_cases h4 : NameOk 20 (ahead [58] l) ∧ ValueOk 40 (blanksI ((behind [58] l).drop 1))
    · rw [if_pos h4, if_pos ⟨h1, (h2.1 h4.1).1, (h2.1 h4.1).2, h3.1 h4.2⟩]
    · rw [if_neg h4, if_neg (fun h => h4 ⟨h2.2 ⟨h.2.1, h.2.2.1⟩, h3.2 h.2.2.2⟩)]
end Go.Proofs.YtlcolabblpikjaaGreatDoor
/-
  The landed program's own way to read a request, as lists of bytes: cuts, lines, headers: nothing runs here.
-/
namespace Go.Proofs.YtlcolabblpikjaaGreatDoor
set_option linter.unusedVariables false
set_option linter.unusedSimpArgs false
set_option maxRecDepth 20000

/-! ### a cut at whatever sign -/
def cutS (p : List Int) : List Int → List Int × List Int × Bool
  | [] => ([], [], false)
  | x :: t => if begI p (x :: t) = true then ([], (x :: t).drop p.length, true) else (x :: (cutS p t).1, (cutS p t).2.1, (cutS p t).2.2)
theorem cut_nb {p : List UInt8} (hp : p ≠ []) : ∀ l : List UInt8, nb (Lib.cut l p).1 = (cutS (nb p) (nb l)).1 ∧ nb (Lib.cut l p).2.1 = (cutS (nb p) (nb l)).2.1 ∧ (Lib.cut l p).2.2 = (cutS (nb p) (nb l)).2.2
  | [] => by rw [cut_nil hp]; exact ⟨rfl, rfl, rfl⟩
  | b :: l => by
    have ih := cut_nb hp l
    have e : nb (b :: l) = (b.toNat : Int) :: nb l := rfl
    rw [cut_cons, pre_begI, e, cutS]
    by_cases h : begI (nb p) ((b.toNat : Int) :: nb l) = true
    · rw [if_pos h, if_pos h]
      refine ⟨rfl, ?_, rfl⟩
      show nb ((b :: l).drop p.length) = _
      rw [← e]
      unfold nb
      rw [List.map_drop, List.length_map]
    · rw [if_neg h, if_neg h]
      exact ⟨by show (b.toNat : Int) :: nb _ = _; rw [ih.1], ih.2⟩
theorem cutS_skip {c : Int} {p : List Int} : ∀ {l : List Int} (r : List Int), (∀ x ∈ l, x ≠ c) → cutS (c :: p) (l ++ r) = (l ++ (cutS (c :: p) r).1, (cutS (c :: p) r).2.1, (cutS (c :: p) r).2.2)
  | [], r, _ => rfl
  | x :: l, r, h => by
    have hx := h x (.head _)
    have hb : ¬ begI (c :: p) (x :: (l ++ r)) = true := by
      rw [begI_iff, List.length_cons, List.take_succ_cons]
      intro e
      injection e with e1 _
      exact hx e1
    rw [List.cons_append, cutS, if_neg hb, cutS_skip r (fun y hy => h y (.tail _ hy))]
    rfl
theorem cutS_hit {p : List Int} {x : Int} (l : List Int) : cutS (x :: p) (x :: p ++ l) = ([], l, true) := by
  have hb : begI (x :: p) (x :: (p ++ l)) = true := by rw [begI_iff, ← List.cons_append, List.take_left']; rfl
  rw [List.cons_append, cutS, if_pos hb, ← List.cons_append, List.drop_left']
  rfl
theorem cutS_len (p : List Int) : ∀ l : List Int, (cutS p l).1.length + (cutS p l).2.1.length ≤ l.length
  | [] => by simp [cutS]
  | x :: t => by
    have ih := cutS_len p t
    unfold cutS
    split
    · simp only [List.length_nil, List.length_drop]; omega
    · simp only [List.length_cons]; omega
theorem cutS_found (p : List Int) : ∀ l : List Int, (cutS p l).2.2 = true → (cutS p l).1.length + p.length + (cutS p l).2.1.length = l.length
  | [], h => by simp [cutS] at h
  | x :: t, h => by
    have ih := cutS_found p t
    unfold cutS at h ⊢
    split
    · rename_i hb
      have := begI_len hb
      simp only [List.length_nil, List.length_drop]; omega
    · rename_i hb
      rw [if_neg hb] at h
      have := ih h
      simp only [List.length_cons]; omega
theorem cutS_byt (p : List Int) : ∀ {l : List Int}, Byt l → Byt (cutS p l).1 ∧ Byt (cutS p l).2.1
  | [], h => ⟨h, h⟩
  | x :: t, h => by
    have ih := cutS_byt p (l := t) (fun y hy => h y (.tail _ hy))
    unfold cutS
    split
    · exact ⟨(fun y hy => by cases hy), byt_drop h _⟩
    · refine ⟨fun y hy => ?_, ih.2⟩
      rcases List.mem_cons.1 hy with rfl | hy
      · exact h _ (.head _)
      · exact ih.1 y hy

/-! ### lines -/
def splEF : Nat → List Int → List (List Int)
  | 0, l => [l]
  | f + 1, l => match lineI l with
    | none => [l]
    | some (p, r) => p :: splEF f r
theorem splEF_any : ∀ (f g : Nat) (l : List Int), l.length ≤ f → l.length ≤ g → splEF f l = splEF g l
  | 0, 0, _, _, _ => rfl
  | 0, g + 1, l, h, _ => by
    have : l = [] := List.length_eq_zero_iff.1 (by omega)
    subst this
    rfl
  | f + 1, 0, l, _, h => by
    have : l = [] := List.length_eq_zero_iff.1 (by omega)
    subst this
    rfl
  | f + 1, g + 1, l, hf, hg => by
    unfold splEF
    cases hl : lineI l with
    | none => rfl
    | some q =>
      obtain ⟨p, r⟩ := q
      have := lineI_len hl
      simp only
      rw [splEF_any f g r (by omega) (by omega)]
def splE (l : List Int) : List (List Int) := splEF l.length l
theorem splE_none {l : List Int} (h : lineI l = none) : splE l = [l] := by
  unfold splE
  cases hn : l.length with
  | zero => rfl
  | succ k => rw [splEF, h]
theorem splE_some {l p r : List Int} (h : lineI l = some (p, r)) : splE l = p :: splE r := by
  have hl := lineI_len h
  unfold splE
  cases hn : l.length with
  | zero => omega
  | succ k =>
    rw [splEF, h]
    simp only
    rw [splEF_any k r.length r (by omega) (Nat.le_refl _)]
theorem index_line (l : List UInt8) : (Lib.index l [13, 10] = -1 ∧ lineI (nb l) = none) ∨ (∃ i : Nat, Lib.index l [13, 10] = i ∧ lineI (nb l) = some (nb (l.take i), nb (l.drop (i + 2)))) := by
  have h := cut_line l
  have hge := Lib.index_ge l [13, 10]
  unfold Lib.cut at h
  by_cases h0 : 0 ≤ Lib.index l [13, 10]
  · rw [if_pos h0] at h
    refine .inr ⟨(Lib.index l [13, 10]).toNat, by omega, ?_⟩
    unfold cutL at h
    cases hl : lineI (nb l) with
    | none => rw [hl] at h; exact absurd h.2.2 (by simp)
    | some q =>
      rw [hl] at h
      obtain ⟨p, r⟩ := q
      rw [h.1, ← show nb (l.drop ((Lib.index l [13, 10]).toNat + 2)) = r from h.2.1]
  · rw [if_neg h0] at h
    refine .inl ⟨by omega, ?_⟩
    unfold cutL at h
    cases hl : lineI (nb l) with
    | none => rfl
    | some q => rw [hl] at h; exact absurd h.2.2 (by simp)
theorem splitK_line : ∀ (k : Nat) (l : List UInt8), Lib.count l [13, 10] = k → (Lib.splitK [13, 10] 0 k l).map nb = splE (nb l)
  | 0, l, hk => by
    rcases index_line l with ⟨_, h⟩ | ⟨i, hi, _⟩
    · rw [splE_none h]; rfl
    · have := Lib.count_hit (sub := [13, 10]) (by simp) hi; omega
  | k + 1, l, hk => by
    rcases index_line l with ⟨h, _⟩ | ⟨i, hi, h⟩
    · rw [Lib.count_miss h] at hk; omega
    · have hc := Lib.count_hit (sub := [13, 10]) (by simp) hi
      have hc2 : Lib.count (l.drop (i + 2)) [13, 10] = k := by
        have e : Lib.count (l.drop (i + ([13, 10] : List UInt8).length)) [13, 10] = Lib.count (l.drop (i + 2)) [13, 10] := rfl
        omega
      have ih := splitK_line k (l.drop (i + 2)) hc2
      rw [splE_some h, ← ih, Lib.splitK, hi, if_neg (by simp), List.map_cons, Int.toNat_natCast]
      rfl
theorem splitB_line (s : ByteArray) : Lib.splitB ⟨#[13, 10]⟩ 0 (Lib.countB s ⟨#[13, 10]⟩) s = (splE (sb s)).map strOfNums := by
  have h1 := Lib.splitB_data ⟨#[13, 10]⟩ 0 (Lib.countB s ⟨#[13, 10]⟩) s
  have h2 := splitK_line _ s.data.toList rfl
  have e : (Lib.splitB ⟨#[13, 10]⟩ 0 (Lib.countB s ⟨#[13, 10]⟩) s).map sb = splE (sb s) := by
    rw [sb_nb s, ← h2]
    show List.map sb _ = (Lib.splitK [13, 10] 0 (Lib.countB s ⟨#[13, 10]⟩) s.data.toList).map nb
    rw [← h1, List.map_map]
    rfl
  rw [← e, List.map_map]
  conv => lhs; rw [← List.map_id (Lib.splitB ⟨#[13, 10]⟩ 0 (Lib.countB s ⟨#[13, 10]⟩) s)]
  apply List.map_congr_left
  intro x _
  exact (str_sb x).symm
theorem countB_line (s : ByteArray) : Lib.countB s ⟨#[13, 10]⟩ + 1 = (splE (sb s)).length := by
  have h := Lib.splitB_all ⟨#[13, 10]⟩ (by decide) 0 _ s rfl
  rw [splitB_line, List.length_map] at h
  exact h.symm
/-- How long the lines are, their ends counted. -/
def sumL (ls : List (List Int)) : Nat := (ls.map fun l => l.length + 2).sum
theorem sumL_cons (l : List Int) (ls : List (List Int)) : sumL (l :: ls) = l.length + 2 + sumL ls := by unfold sumL; rw [List.map_cons, List.sum_cons]
theorem sumL_drop_last : ∀ ls : List (List Int), sumL ls.dropLast ≤ sumL ls
  | [] => Nat.le_refl _
  | [l] => Nat.zero_le _
  | l :: m :: r => by
    rw [List.dropLast_cons_of_ne_nil (by simp), sumL_cons, sumL_cons l]
    have := sumL_drop_last (m :: r)
    omega
theorem splE_all : ∀ (n : Nat) {l : List Int}, l.length ≤ n → sumL (splE l) = l.length + 2 ∧ splE l ≠ [] ∧ (Byt l → ∀ x ∈ splE l, Byt x) := by
  intro n
  induction n with
  | zero =>
    intro l h
    have : l = [] := List.length_eq_zero_iff.1 (by omega)
    subst this
    exact ⟨rfl, by simp [splE, splEF], fun h x hx => by rw [List.mem_singleton.1 hx]; exact h⟩
  | succ n ih =>
    intro l h
    cases hl : lineI l with
    | none =>
      rw [splE_none hl]
      exact ⟨by rw [sumL_cons]; rfl, by simp, fun h x hx => by rw [List.mem_singleton.1 hx]; exact h⟩
    | some q =>
      obtain ⟨p, r⟩ := q
      have hlen := lineI_len hl
      obtain ⟨h1, h2, h3⟩ := ih (l := r) (by omega)
      rw [splE_some hl]
      refine ⟨by rw [sumL_cons, h1]; omega, by simp, fun hB x hx => ?_⟩
      have hb := lineI_byt hB hl
      rcases List.mem_cons.1 hx with rfl | hx
      · exact hb.1
      · exact h3 hb.2 x hx
theorem splE_sum (l : List Int) : sumL (splE l) = l.length + 2 := (splE_all _ (Nat.le_refl _)).1
theorem splE_ne (l : List Int) : splE l ≠ [] := (splE_all _ (Nat.le_refl _)).2.1
theorem splE_byt {l : List Int} (hB : Byt l) : ∀ x ∈ splE l, Byt x := (splE_all _ (Nat.le_refl _)).2.2 hB

/-! ### ends cut off -/
def trimP (p l : List Int) : List Int := if begI p l = true then l.drop p.length else l
def trimS (p l : List Int) : List Int := if endI p l = true then l.take (l.length - p.length) else l
theorem nb_inj {a b : List UInt8} (h : nb a = nb b) : a = b := by
  induction a generalizing b with
  | nil => cases b with
    | nil => rfl
    | cons x t => cases h
  | cons x t ih => cases b with
    | nil => cases h
    | cons y r =>
      have h2 : (x.toNat : Int) :: nb t = (y.toNat : Int) :: nb r := h
      injection h2 with e1 e2
      rw [(nb_eq _ _).1 e1, ih e2]
theorem nb_length (a : List UInt8) : (nb a).length = a.length := by unfold nb; rw [List.length_map]
theorem trim_pre (l p : List UInt8) : nb (Lib.trimPrefix l p) = trimP (nb p) (nb l) := by
  have h1 : Lib.hasPrefix l p = begI (nb p) (nb l) := by rw [← pre_begI]; rfl
  unfold Lib.trimPrefix trimP
  rw [h1]
  split
  · unfold nb; rw [List.map_drop, List.length_map]
  · rfl
theorem suf_endI (p l : List UInt8) : p.isSuffixOf l = endI (nb p) (nb l) := by
  rw [Bool.eq_iff_iff, List.isSuffixOf_iff_suffix]
  unfold endI
  rw [Bool.and_eq_true, decide_eq_true_iff, decide_eq_true_iff, nb_length, nb_length]
  have e : (nb l).drop (l.length - p.length) = nb (l.drop (l.length - p.length)) := by unfold nb; rw [List.map_drop]
  rw [e]
  constructor
  · rintro ⟨t, rfl⟩
    refine ⟨by rw [List.length_append]; omega, ?_⟩
    rw [List.length_append, Nat.add_sub_cancel, List.drop_left]
  · rintro ⟨h1, h2⟩
    obtain ⟨k, hk⟩ : ∃ k, k = l.length - p.length := ⟨_, rfl⟩
    rw [← hk] at h2
    refine ⟨l.take k, ?_⟩
    rw [← nb_inj h2]
    exact List.take_append_drop _ _
theorem trim_suf (l p : List UInt8) : nb (Lib.trimSuffix l p) = trimS (nb p) (nb l) := by
  have h1 : Lib.hasSuffix l p = endI (nb p) (nb l) := by rw [← suf_endI]; rfl
  unfold Lib.trimSuffix trimS
  rw [h1]
  split
  · unfold nb; rw [List.map_take, List.length_map, List.length_map]
  · rfl
theorem trimP_len (p l : List Int) : (trimP p l).length ≤ l.length := by
  unfold trimP; split
  · rw [List.length_drop]; omega
  · exact Nat.le_refl _
theorem trimS_len (p l : List Int) : (trimS p l).length ≤ l.length := by
  unfold trimS; split
  · rw [List.length_take]; omega
  · exact Nat.le_refl _
theorem trimP_byt {p l : List Int} (h : Byt l) : Byt (trimP p l) := by
  unfold trimP; split
  · exact byt_drop h _
  · exact h
theorem trimS_byt {p l : List Int} (h : Byt l) : Byt (trimS p l) := by
  unfold trimS; split
  · exact fun x hx => h x (List.mem_of_mem_take hx)
  · exact h
theorem has_sign (l : List UInt8) (c : UInt8) : decide (0 ≤ Lib.indexByte l c) = (nb l).contains (c.toNat : Int) := by
  rw [← Lib.contains_iff_indexByte, Bool.eq_iff_iff]
  unfold nb
  simp only [List.contains_iff_mem, List.mem_map]
  constructor
  · intro h; exact ⟨c, h, rfl⟩
  · rintro ⟨b, hb, e⟩; rw [← (nb_eq _ _).1 e]; exact hb

/-! ### a header's two parts -/
def visI (l : List Int) : Bool := l.all vbI
theorem visI_iff (l : List Int) : visI l = true ↔ ∀ x ∈ l, 32 ≤ x ∧ x ≤ 126 := by
  unfold visI vbI
  simp only [List.all_eq_true, decide_eq_true_iff]
theorem blanks_kept (v : List Int) : blanksI v = v ↔ (v = [] ∨ (v.getD 0 0 ≠ 32 ∧ v.getD (v.length - 1) 0 ≠ 32)) := by
  constructor
  · intro h
    obtain ⟨h1, h2⟩ := blanksI_edges v
    rw [h] at h1 h2
    cases v with
    | nil => exact .inl rfl
    | cons x t =>
      refine .inr ⟨by simpa using h1, fun e => h2 ?_⟩
      rw [List.getLast?_eq_getElem?]
      rw [List.getD_eq_getElem?_getD, List.getElem?_eq_getElem (by simp), Option.getD_some] at e
      rw [List.getElem?_eq_getElem (by simp), e]
  · rintro (rfl | ⟨h1, h2⟩)
    · rfl
    · cases v with
      | nil => rfl
      | cons x t =>
        refine blanksI_same (by simpa using h1) (fun e => h2 ?_)
        rw [List.getLast?_eq_getElem?] at e
        rw [List.getD_eq_getElem?_getD, e]
        rfl
theorem headA_tests (n v : List Int) : HeadA (n, v) ↔ n ≠ [] ∧ n.contains 58 = false ∧ visI n = true ∧ blanksI v = v ∧ visI v = true := by
  rw [visI_iff, visI_iff, blanks_kept]
  unfold HeadA NamA ValA
  have hc : n.contains 58 = false ↔ ∀ x ∈ n, x ≠ 58 := by
    rw [← Bool.not_eq_true, List.contains_iff_mem]
    exact ⟨fun h x hx e => h (e ▸ hx), fun h hm => h 58 hm rfl⟩
  rw [hc]
  constructor
  · rintro ⟨⟨a, b⟩, c, d⟩; exact ⟨a, fun x hx => (b x hx).2, fun x hx => (b x hx).1, d, c⟩
  · rintro ⟨a, b, c, d, e⟩; exact ⟨⟨a, fun x hx => ⟨c x hx, b x hx⟩⟩, e, d⟩

/-! ### a text read -/
def readHG : List (List Int) → Option HL
  | [] => some []
  | l :: ls => if (cutS [58, 32] l).2.2 = true then (readHG ls).map fun hs => ((cutS [58, 32] l).1, (cutS [58, 32] l).2.1) :: hs else none
def linesG (t body : List Int) : List (List Int) := if body = [] then splE t else (splE t).dropLast
def mkG (l0 l1 l2 : List Int) (hs : HL) (body : List Int) : AL :=
  ⟨ahead [32] (trimS http11 l0), trimP schemeW l2 ++ ([58, 47, 47] ++ (trimP hostW l1 ++ (behind [32] (trimS http11 l0)).drop 1)), hs, body⟩
def readG (s : List Int) : Option AL :=
  if (cutS [13, 10, 13, 10] s).2.2 = true then match linesG (cutS [13, 10, 13, 10] s).1 (cutS [13, 10, 13, 10] s).2.1 with
    | l0 :: l1 :: l2 :: r => (readHG r).map fun hs => mkG l0 l1 l2 hs (cutS [13, 10, 13, 10] s).2.1
    | _ => none
  else none
theorem readHG_all : ∀ {ls : List (List Int)} {hs : HL}, readHG ls = some hs → (headsP hs).length = sumL ls ∧ hs.length = ls.length ∧ ((∀ x ∈ ls, Byt x) → ∀ h ∈ hs, Byt h.1 ∧ Byt h.2)
  | [], hs, h => by cases h; exact ⟨rfl, rfl, fun _ x hx => by cases hx⟩
  | l :: ls, hs, h => by
    unfold readHG at h
    split at h
    · rename_i hf
      rw [Option.map_eq_some_iff] at h
      obtain ⟨ks, hk, rfl⟩ := h
      obtain ⟨h1, h2, h3⟩ := readHG_all hk
      have hc := cutS_found [58, 32] l hf
      refine ⟨?_, by rw [List.length_cons, List.length_cons, h2], fun hB x hx => ?_⟩
      · rw [sumL_cons, ← h1]
        unfold headsP headP
        simp only [List.flatMap_cons, List.length_append, List.length_cons, List.length_nil] at hc ⊢
        omega
      · rcases List.mem_cons.1 hx with rfl | hx
        · exact cutS_byt _ (hB l (.head _))
        · exact h3 (fun y hy => hB y (.tail _ hy)) x hx
    · cases h
theorem linesG_byt {t b : List Int} (hB : Byt t) : ∀ x ∈ linesG t b, Byt x := by
  unfold linesG
  split
  · exact splE_byt hB
  · exact fun x hx => splE_byt hB x ((List.dropLast_sublist _).subset hx)
theorem linesG_sum (t b : List Int) : sumL (linesG t b) ≤ t.length + 2 := by
  have := splE_sum t
  unfold linesG
  split
  · omega
  · have := sumL_drop_last (splE t); omega
structure ReadOk (s : List Int) (a : AL) : Prop where
  m : Byt a.m
  u : Byt a.u
  hs : ∀ h ∈ a.hs, Byt h.1 ∧ Byt h.2
  b : Byt a.body
  lm : a.m.length ≤ s.length
  lu : a.u.length ≤ s.length + 5
  lh : (headsP a.hs).length ≤ s.length + 2
  lb : a.body.length ≤ s.length
theorem readG_ok {s : List Int} {a : AL} (hB : Byt s) (h : readG s = some a) : ReadOk s a := by
  unfold readG at h
  split at h
  · rename_i hf
    have hcl := cutS_len [13, 10, 13, 10] s
    have hcb := cutS_byt [13, 10, 13, 10] hB
    have hsum := linesG_sum (cutS [13, 10, 13, 10] s).1 (cutS [13, 10, 13, 10] s).2.1
    have hlb := linesG_byt (b := (cutS [13, 10, 13, 10] s).2.1) hcb.1
    split at h
    · rename_i l0 l1 l2 r hl
      rw [hl] at hsum hlb
      rw [Option.map_eq_some_iff] at h
      obtain ⟨hs, hr, rfl⟩ := h
      obtain ⟨h1, h2, h3⟩ := readHG_all hr
      rw [sumL_cons, sumL_cons, sumL_cons, ← h1] at hsum
      have b0 := hlb l0 (.head _)
      have b1 := hlb l1 (.tail _ (.head _))
      have b2 := hlb l2 (.tail _ (.tail _ (.head _)))
      have t0 := trimS_len http11 l0
      have t1 := trimP_len hostW l1
      have t2 := trimP_len schemeW l2
      have e : ahead [32] (trimS http11 l0) ++ behind [32] (trimS http11 l0) = trimS http11 l0 := List.takeWhile_append_dropWhile
      have el := congrArg List.length e
      rw [List.length_append] at el
      have hsep : Byt ([58, 47, 47] : List Int) := by intro x hx; simp at hx; omega
      refine ⟨ahead_byt (trimS_byt b0), byt_append (trimP_byt b2) (byt_append hsep (byt_append (trimP_byt b1) (byt_drop (behind_byt (trimS_byt b0)) 1))), h3 (fun x hx => hlb x (.tail _ (.tail _ (.tail _ hx)))), hcb.2, ?_, ?_, ?_, ?_⟩
      · show (ahead [32] (trimS http11 l0)).length ≤ _
        omega
      · show (trimP schemeW l2 ++ ([58, 47, 47] ++ (trimP hostW l1 ++ (behind [32] (trimS http11 l0)).drop 1))).length ≤ _
        simp only [List.length_append, List.length_cons, List.length_nil, List.length_drop]
        omega
      · show (headsP hs).length ≤ _
        omega
      · show (cutS [13, 10, 13, 10] s).2.1.length ≤ _
        omega
    · cases h
  · cases h

/-! ### what was printed is read -/
def linesT (ls : List (List Int)) : List Int := ls.flatMap fun l => l ++ [13, 10]
def joinL : List (List Int) → List Int
  | [] => []
  | [l] => l
  | l :: m :: r => l ++ 13 :: 10 :: joinL (m :: r)
def LineOk (l : List Int) : Prop := l ≠ [] ∧ ∀ x ∈ l, x ≠ 13
theorem cutS_lines (b : List Int) : ∀ {ls : List (List Int)}, ls ≠ [] → (∀ l ∈ ls, LineOk l) → cutS [13, 10, 13, 10] (linesT ls ++ ([13, 10] ++ b)) = (joinL ls, b, true)
  | [], h, _ => absurd rfl h
  | [l], _, h => by
    have hl := (h l (.head _)).2
    rw [show linesT [l] ++ ([13, 10] ++ b) = l ++ ([13, 10, 13, 10] ++ b) by simp [linesT], cutS_skip _ hl, show ([13, 10, 13, 10] : List Int) ++ b = 13 :: [10, 13, 10] ++ b from rfl, cutS_hit]
    simp [joinL]
  | l :: m :: r, _, h => by
    have hl := (h l (.head _)).2
    obtain ⟨hm1, hm2⟩ := h m (.tail _ (.head _))
    have ih := cutS_lines b (ls := m :: r) (by simp) (fun x hx => h x (.tail _ hx))
    obtain ⟨y, t, rfl⟩ := List.exists_cons_of_ne_nil hm1
    have hy := hm2 y (.head _)
    have e : linesT (l :: (y :: t) :: r) ++ ([13, 10] ++ b) = l ++ (13 :: 10 :: (linesT ((y :: t) :: r) ++ ([13, 10] ++ b))) := by simp [linesT]
    have e2 : ∃ z, linesT ((y :: t) :: r) ++ ([13, 10] ++ b) = y :: z := ⟨_, by simp only [linesT, List.flatMap_cons, List.cons_append]; rfl⟩
    obtain ⟨z, hz⟩ := e2
    rw [e, cutS_skip _ hl]
    rw [hz] at ih ⊢
    have n1 : ¬ begI [13, 10, 13, 10] (13 :: 10 :: y :: z) = true := by
      rw [begI_iff]; simp only [List.length_cons, List.length_nil, List.take_succ_cons]
      intro e
      injection e with _ e
      injection e with _ e
      injection e with e _
      exact hy e
    have n2 : ¬ begI [13, 10, 13, 10] (10 :: y :: z) = true := by
      rw [begI_iff]; simp only [List.length_cons, List.length_nil, List.take_succ_cons]
      intro e
      injection e with e _
      omega
    rw [cutS, if_neg n1, cutS, if_neg n2, ih]
    rfl
theorem splE_lines : ∀ {ls : List (List Int)}, ls ≠ [] → (∀ l ∈ ls, LineOk l) → splE (joinL ls) = ls
  | [], h, _ => absurd rfl h
  | [l], _, h => splE_none (lineI_no (fun x hx => (h l (.head _)).2 x ((List.dropLast_sublist _).subset hx)))
  | l :: m :: r, _, h => by
    have ih := splE_lines (ls := m :: r) (by simp) (fun x hx => h x (.tail _ hx))
    rw [joinL, splE_some (lineI_app _ (h l (.head _)).2), ih]
def lineH (h : List Int × List Int) : List Int := h.1 ++ ([58, 32] ++ h.2)
theorem headsP_lines (hs : HL) : headsP hs = linesT (hs.map lineH) := by
  unfold headsP linesT lineH
  rw [List.flatMap_map]
  congr 1
  funext h
  unfold headP
  simp
theorem readHG_lines : ∀ {hs : HL}, (∀ h ∈ hs, HeadA h) → readHG (hs.map lineH) = some hs
  | [], _ => rfl
  | (n, v) :: hs, h => by
    have h0 := h (n, v) (.head _)
    have hn : ∀ x ∈ n, x ≠ 58 := fun x hx => (h0.1.2 x hx).2
    have hc : cutS [58, 32] (lineH (n, v)) = (n, v, true) := by
      unfold lineH
      rw [cutS_skip _ hn, show ([58, 32] : List Int) ++ (n, v).2 = 58 :: [32] ++ v from rfl, cutS_hit]
      simp
    rw [List.map_cons, readHG, hc, if_pos rfl, readHG_lines (fun x hx => h x (.tail _ hx))]
    rfl
theorem lineH_ok {h : List Int × List Int} (hk : HeadA h) : LineOk (lineH h) := by
  obtain ⟨n, v⟩ := h
  refine ⟨by unfold lineH; simp, fun x hx => ?_⟩
  unfold lineH at hx
  simp only [List.mem_append, List.mem_cons, List.not_mem_nil, or_false] at hx
  rcases hx with hx | (rfl | rfl) | hx
  · have := (hk.1.2 x hx).1; omega
  · decide
  · decide
  · have := hk.2.1 x hx; omega
theorem readG_print {a : AL} {u : UL} (hB : Byt a.u) (hp : parseI a.u = some u) (hok : AskOk a u) : readG (textA a u) = some a := by
  have hN := parseI_norm hB hp
  obtain ⟨hpr, hm, hh⟩ := hok
  have hasc := printI_ascii hN
  rw [printI_parts] at hasc
  simp only [List.mem_append] at hasc
  have c1 : ∀ x ∈ u.sch, 33 ≤ x ∧ x ≤ 126 := fun x hx => hasc x (.inl hx)
  have c2 : ∀ x ∈ u.host, 33 ≤ x ∧ x ≤ 126 := fun x hx => hasc x (.inr (.inr (.inl hx)))
  have c3 : ∀ x ∈ portT u, 33 ≤ x ∧ x ≤ 126 := fun x hx => hasc x (.inr (.inr (.inr (.inl hx))))
  have c4 : ∀ x ∈ u.path, 33 ≤ x ∧ x ≤ 126 := fun x hx => hasc x (.inr (.inr (.inr (.inr (.inl hx)))))
  have c5 : ∀ x ∈ u.query, 33 ≤ x ∧ x ≤ 126 := fun x hx => hasc x (.inr (.inr (.inr (.inr (.inr hx)))))
  have k1 : LineOk (a.m ++ 32 :: (u.path ++ (u.query ++ http11))) := by
    refine ⟨by simp, fun x hx => ?_⟩
    simp only [List.mem_append, List.mem_cons] at hx
    rcases hx with hx | rfl | hx | hx | hx
    · have := hm.2.2 x hx; omega
    · decide
    · have := c4 x hx; omega
    · have := c5 x hx; omega
    · have h9 : ∀ x ∈ http11, x ≠ 13 := by decide
      exact h9 x hx
  have k2 : LineOk (hostW ++ (u.host ++ portT u)) := by
    refine ⟨by simp [hostW], fun x hx => ?_⟩
    simp only [List.mem_append] at hx
    rcases hx with hx | hx | hx
    · have h9 : ∀ x ∈ hostW, x ≠ 13 := by decide
      exact h9 x hx
    · have := c2 x hx; omega
    · have := c3 x hx; omega
  have k3 : LineOk (schemeW ++ u.sch) := by
    refine ⟨by simp [schemeW], fun x hx => ?_⟩
    rcases List.mem_append.1 hx with hx | hx
    · have h9 : ∀ x ∈ schemeW, x ≠ 13 := by decide
      exact h9 x hx
    · have := c1 x hx; omega
  obtain ⟨ex, hex⟩ : ∃ ex : HL, ex = if a.body = [] then [] else [(clW, digs a.body.length)] := ⟨_, rfl⟩
  have hexl : lenT a.body = headsP ex := by
    rw [hex]; unfold lenT
    split
    · rfl
    · simp [headsP]
  obtain ⟨ls, hls⟩ : ∃ ls, ls = (a.m ++ 32 :: (u.path ++ (u.query ++ http11))) :: (hostW ++ (u.host ++ portT u)) :: (schemeW ++ u.sch) :: (a.hs ++ ex).map lineH := ⟨_, rfl⟩
  have e1 : textA a u = linesT ls ++ ([13, 10] ++ a.body) := by
    rw [hls]
    unfold textA
    rw [hexl, ← List.append_assoc (headsP a.hs), ← headsP_app, headsP_lines]
    simp [linesT, topA, List.append_assoc]
  have hall : ∀ l ∈ ls, LineOk l := by
    rw [hls]
    intro l hl
    rcases List.mem_cons.1 hl with rfl | hl
    · exact k1
    rcases List.mem_cons.1 hl with rfl | hl
    · exact k2
    rcases List.mem_cons.1 hl with rfl | hl
    · exact k3
    obtain ⟨h, hm, rfl⟩ := List.mem_map.1 hl
    refine lineH_ok ?_
    rcases List.mem_append.1 hm with hm | hm
    · exact hh h hm
    · rw [hex] at hm
      split at hm
      · cases hm
      · rw [List.mem_singleton.1 hm]; exact clA _
  have hne : ls ≠ [] := by rw [hls]; simp
  have hlg : linesG (joinL ls) a.body = (a.m ++ 32 :: (u.path ++ (u.query ++ http11))) :: (hostW ++ (u.host ++ portT u)) :: (schemeW ++ u.sch) :: a.hs.map lineH := by
    unfold linesG
    rw [splE_lines hne hall, hls, hex]
    by_cases hb : a.body = []
    · rw [if_pos hb, if_pos hb, List.append_nil]
    · have key : ∀ (p q r : List Int) (t : List (List Int)) (z : List Int), (p :: q :: r :: (t ++ [z])).dropLast = p :: q :: r :: t := fun p q r t z => by
        rw [← List.cons_append, ← List.cons_append, ← List.cons_append, List.dropLast_concat]
      rw [if_neg hb, if_neg hb, List.map_append, List.map_cons, List.map_nil, key]
  have hsu : trimS http11 (a.m ++ 32 :: (u.path ++ (u.query ++ http11))) = a.m ++ 32 :: (u.path ++ u.query) := by
    have e : a.m ++ 32 :: (u.path ++ (u.query ++ http11)) = (a.m ++ 32 :: (u.path ++ u.query)) ++ http11 := by simp
    have hn : ((a.m ++ 32 :: (u.path ++ u.query)) ++ http11).length - http11.length = (a.m ++ 32 :: (u.path ++ u.query)).length := by rw [List.length_append, Nat.add_sub_cancel]
    rw [e]
    unfold trimS endI
    rw [hn, List.drop_left, List.take_left, if_pos]
    rw [Bool.and_eq_true, decide_eq_true_iff, decide_eq_true_iff]
    exact ⟨by rw [List.length_append]; omega, rfl⟩
  have hst := ahead_stop (st := [32]) (p := a.m) (r := u.path ++ u.query) (fun y hy => by
    rw [← Bool.not_eq_true]; intro hc; simp at hc; have := hm.2.2 y hy; omega) (x := 32) (by decide)
  have hb1 : trimP hostW (hostW ++ (u.host ++ portT u)) = u.host ++ portT u := by
    unfold trimP
    rw [if_pos (by rw [begI_iff, List.take_left']; rfl), List.drop_left']
    rfl
  have hb2 : trimP schemeW (schemeW ++ u.sch) = u.sch := by
    unfold trimP
    rw [if_pos (by rw [begI_iff, List.take_left']; rfl), List.drop_left']
    rfl
  unfold readG
  rw [e1, cutS_lines a.body hne hall]
  simp only
  rw [if_pos trivial, hlg]
  simp only
  rw [readHG_lines hh, Option.map_some]
  unfold mkG
  rw [hsu, hst.1, hst.2, hb1, hb2]
  have hu : u.sch ++ ([58, 47, 47] ++ (u.host ++ portT u ++ (32 :: (u.path ++ u.query)).drop 1)) = a.u := by
    rw [← hpr, printI_parts]
    simp [List.append_assoc]
  rw [hu]
theorem askI_u {s : List Int} {a : AL} (hB : Byt s) (h : askI s = some a) : Byt a.u := by
  unfold askI at h
  rw [Option.bind_eq_some_iff] at h
  obtain ⟨b, hc, h⟩ := h
  split at h
  · cases h
    unfold candI at hc
    rw [Option.bind_eq_some_iff] at hc
    obtain ⟨⟨p1, q1⟩, h1, hc⟩ := hc
    split at hc
    · rw [Option.bind_eq_some_iff] at hc
      obtain ⟨⟨p2, q2⟩, h2, hc⟩ := hc
      split at hc
      · rw [Option.bind_eq_some_iff] at hc
        obtain ⟨⟨p3, q3⟩, h3, hc⟩ := hc
        split at hc
        · rw [Option.map_eq_some_iff] at hc
          obtain ⟨q, _, rfl⟩ := hc
          have b1 := lineI_byt hB h1
          have b2 := lineI_byt b1.2 h2
          have b3 := lineI_byt b2.2 h3
          have hsep : Byt ([58, 47, 47] : List Int) := by intro x hx; simp at hx; omega
          exact byt_append (byt_drop b3.1 _) (byt_append hsep (byt_append (byt_drop b2.1 _) (byt_drop (fun x hx => behind_byt b1.1 x (List.mem_of_mem_take hx)) 1)))
        · cases hc
      · cases hc
    · cases hc
  · cases h
/-- The program reads as the document does. -/
theorem askI_read {s : List Int} (hB : Byt s) : askI s = (readG s).bind fun a => if askP a = some s then some a else none := by
  cases h : askI s with
  | some a =>
    have hp := askI_is h
    have hp2 := hp
    unfold askP at hp2
    rw [Option.bind_eq_some_iff] at hp2
    obtain ⟨u, hu, hp2⟩ := hp2
    split at hp2
    · rename_i hok
      have hub : Byt a.u := askI_u hB h
      have e : textA a u = s := Option.some.inj hp2
      have := readG_print hub hu hok
      rw [e] at this
      rw [this, Option.bind_some, if_pos hp]
    · cases hp2
  | none =>
    cases hr : readG s with
    | none => rfl
    | some a =>
      rw [Option.bind_some]
      split
      · rename_i hp
        rw [askI_print (readG_ok hB hr).u hp] at h
        cases h
      · rfl
/-! ### a request printed, test by test -/
def goodU (l : List Int) : Option UL := (parseI l).bind fun u => if printI u = l then some u else none
theorem goodU_ok {l : List Int} {u : UL} (hB : Byt l) (h : goodU l = some u) : parseI l = some u ∧ printI u = l ∧ u.Norm := by
  unfold goodU at h
  rw [Option.bind_eq_some_iff] at h
  obtain ⟨v, hp, h⟩ := h
  split at h
  · rename_i he; cases h; exact ⟨hp, he, parseI_norm hB hp⟩
  · cases h
theorem askP_good (a : AL) : askP a = (goodU a.u).bind fun u => if MethOk a.m ∧ ∀ h ∈ a.hs, HeadA h then some (textA a u) else none := by
  unfold askP goodU
  cases parseI a.u with
  | none => rfl
  | some u =>
    simp only [Option.bind_some]
    by_cases h : printI u = a.u
    · rw [if_pos h, Option.bind_some]
      by_cases h2 : MethOk a.m ∧ ∀ h ∈ a.hs, HeadA h
      · rw [if_pos (show AskOk a u from ⟨h, h2⟩), if_pos h2]
      · rw [if_neg (fun x : AskOk a u => h2 x.2), if_neg h2]
    · rw [if_neg h, if_neg (fun x : AskOk a u => h x.1)]; rfl
end Go.Proofs.YtlcolabblpikjaaGreatDoor
/-
  The library's contracts that the landed program's calls want, laid at this seat's program (by the kit's commands).
-/
set_option linter.unusedVariables false
set_option maxRecDepth 100000
namespace Go.Proofs
open Go.Shelf Go.RowKit Go.Sort Go.Lib
def Tryz.lays169_ren : Go.Shelf.Ren := ⟨fun | 169 => 23 | n => n, fun | 70 => 54 | 9 => 9 | 0 => 0 | 72 => 57 | 37 => 55 | 127 => 81 | 3 => 3 | 5 => 5 | n => n, fun | n => n⟩
theorem Tryz.lays169 : Go.Proofs.Lays.n169 Tryz.prog Tryz.lays169_ren := {
  mixed := by kernel_rfl
  f169 := Tryz.func23.trans (congrArg some (by kernel_rfl))
  t0 := Tryz.underlying0
  a0 := Tryz.isAgg0
  z0 := Tryz.sizeOf0
  v0 := Tryz.zeroValue0
  t3 := Tryz.underlying3
  a3 := Tryz.isAgg3
  z3 := Tryz.sizeOf3
  v3 := Tryz.zeroValue3
  t9 := Tryz.underlying9
  a9 := Tryz.isAgg9
  z9 := Tryz.sizeOf9
  v9 := Tryz.zeroValue9
  t37 := Tryz.underlying55
  a37 := Tryz.isAgg55
  z37 := Tryz.sizeOf55
  v37 := Tryz.zeroValue55
  t70 := Tryz.underlying54
  a70 := Tryz.isAgg54
  z70 := Tryz.sizeOf54
  v70 := Tryz.zeroValue54
  t72 := Tryz.underlying57
  a72 := Tryz.isAgg57
  z72 := Tryz.sizeOf57
  v72 := Tryz.zeroValue57
  t127 := Tryz.underlying81
  a127 := Tryz.isAgg81
  z127 := Tryz.sizeOf81
  v127 := Tryz.zeroValue81 }
theorem Tryz.Builder_Extra_169 : Builder.Extra Tryz.prog Tryz.lays169_ren := {
  sizeBuilder := by kernel_rfl
  liesBuilder := by kernel_rfl
  t5 := Tryz.underlying5
  a5 := Tryz.isAgg5
  z5 := Tryz.sizeOf5
  v5 := Tryz.zeroValue5
  infoByte := by kernel_rfl
  cellsByte := by kernel_rfl
  sizeByte := by kernel_rfl
  neB5 := by decide }
def Tryz.lays160_ren : Go.Shelf.Ren := ⟨fun | 160 => 39 | 232 => 61 | 231 => 60 | 227 => 62 | 234 => 64 | 233 => 63 | 236 => 66 | 235 => 65 | 228 => 83 | 271 => 86 | 151 => 85 | 197 => 84 | 120 => 105 | 152 => 104 | 260 => 103 | 137 => 117 | 119 => 118 | 224 => 101 | 225 => 100 | 217 => 99 | 266 => 115 | n => n, fun | 9 => 9 | 4 => 4 | 3 => 3 | 5 => 5 | 117 => 94 | 116 => 93 | 0 => 0 | 124 => 97 | 21 => 21 | 105 => 106 | 46 => 101 | 119 => 130 | 139 => 133 | 138 => 132 | n => n, fun | 3 => 2 | 4 => 3 | n => n⟩
theorem Tryz.lays160 : Go.Proofs.Lays.n160 Tryz.prog Tryz.lays160_ren := {
  mixed := by kernel_rfl
  f119 := Tryz.func118.trans (congrArg some (by kernel_rfl))
  f120 := Tryz.func105.trans (congrArg some (by kernel_rfl))
  f137 := Tryz.func117.trans (congrArg some (by kernel_rfl))
  f151 := Tryz.func85.trans (congrArg some (by kernel_rfl))
  f152 := Tryz.func104.trans (congrArg some (by kernel_rfl))
  f160 := Tryz.func39.trans (congrArg some (by kernel_rfl))
  f197 := Tryz.func84.trans (congrArg some (by kernel_rfl))
  f217 := Tryz.func99.trans (congrArg some (by kernel_rfl))
  f224 := Tryz.func101.trans (congrArg some (by kernel_rfl))
  f225 := Tryz.func100.trans (congrArg some (by kernel_rfl))
  f227 := Tryz.func62.trans (congrArg some (by kernel_rfl))
  f228 := Tryz.func83.trans (congrArg some (by kernel_rfl))
  f231 := Tryz.func60.trans (congrArg some (by kernel_rfl))
  f232 := Tryz.func61.trans (congrArg some (by kernel_rfl))
  f233 := Tryz.func63.trans (congrArg some (by kernel_rfl))
  f234 := Tryz.func64.trans (congrArg some (by kernel_rfl))
  f235 := Tryz.func65.trans (congrArg some (by kernel_rfl))
  f236 := Tryz.func66.trans (congrArg some (by kernel_rfl))
  f260 := Tryz.func103.trans (congrArg some (by kernel_rfl))
  f266 := Tryz.func115.trans (congrArg some (by kernel_rfl))
  f271 := Tryz.func86.trans (congrArg some (by kernel_rfl))
  t0 := Tryz.underlying0
  a0 := Tryz.isAgg0
  z0 := Tryz.sizeOf0
  v0 := Tryz.zeroValue0
  t3 := Tryz.underlying3
  a3 := Tryz.isAgg3
  z3 := Tryz.sizeOf3
  v3 := Tryz.zeroValue3
  t4 := Tryz.underlying4
  a4 := Tryz.isAgg4
  z4 := Tryz.sizeOf4
  v4 := Tryz.zeroValue4
  t5 := Tryz.underlying5
  a5 := Tryz.isAgg5
  z5 := Tryz.sizeOf5
  v5 := Tryz.zeroValue5
  t9 := Tryz.underlying9
  a9 := Tryz.isAgg9
  z9 := Tryz.sizeOf9
  v9 := Tryz.zeroValue9
  t21 := Tryz.underlying21
  a21 := Tryz.isAgg21
  z21 := Tryz.sizeOf21
  v21 := Tryz.zeroValue21
  t46 := Tryz.underlying101
  a46 := Tryz.isAgg101
  z46 := Tryz.sizeOf101
  v46 := Tryz.zeroValue101
  t105 := Tryz.underlying106
  a105 := Tryz.isAgg106
  z105 := Tryz.sizeOf106
  v105 := Tryz.zeroValue106
  t116 := Tryz.underlying93
  a116 := Tryz.isAgg93
  z116 := Tryz.sizeOf93
  t117 := Tryz.underlying94
  a117 := Tryz.isAgg94
  z117 := Tryz.sizeOf94
  v117 := Tryz.zeroValue94
  t119 := Tryz.underlying130
  a119 := Tryz.isAgg130
  z119 := Tryz.sizeOf130
  t124 := Tryz.underlying97
  a124 := Tryz.isAgg97
  z124 := Tryz.sizeOf97
  v124 := Tryz.zeroValue97
  t138 := Tryz.underlying132
  a138 := Tryz.isAgg132
  z138 := Tryz.sizeOf132
  v138 := Tryz.zeroValue132
  t139 := Tryz.underlying133
  a139 := Tryz.isAgg133
  z139 := Tryz.sizeOf133
  v139 := Tryz.zeroValue133
  g3 := by kernel_rfl
  g4 := by kernel_rfl }
theorem Tryz.strings_Trim_one (s : ByteArray) (c : UInt8) (hc : c.toNat < 128) (w : World) (hs : s.size ≤ 9223372036854775807) :
    Calls Tryz.prog 39 #[.string s, .string ⟨#[c]⟩] w fun e w' => e = .returned (.string ⟨(Lib.trimB s.data.toList c).toArray⟩) ∧ (w' = w ∨ w' = w.drew) := Any.strings_Trim_one Tryz.lays160 s c hc w hs
theorem Tryz.Builder_String_any_f (B b : Nat) (l : List UInt8) (w : World) (h : Lib.IsBuilderF 57 5 B b (Lib.byteCells l) w) (hBw : B ≤ w.heap.size) :
    Calls Tryz.prog 23 #[.pointer (some ⟨b, 0, none⟩)] w fun e w' => e = .returned (.string ⟨l.toArray⟩) ∧ (Lib.IsBuilderF 57 5 B b (Lib.byteCells l) w' ∧ Below B w w') := Any.Builder_String_any_f Tryz.lays169 Tryz.Builder_Extra_169 B b l w h hBw
def Tryz.laysM171_ren : Go.Shelf.Ren := ⟨fun | 171 => 22 | 243 => 41 | 246 => 68 | 283 => 87 | 284 => 88 | 285 => 89 | 286 => 90 | 129 => 107 | 317 => 106 | 318 => 108 | 319 => 109 | 320 => 110 | 337 => 119 | 338 => 120 | n => n, fun | 3 => 3 | 9 => 9 | 2 => 2 | 4 => 4 | 171 => 109 | 0 => 0 | 53 => 110 | 37 => 55 | 5 => 5 | 173 => 113 | 212 => 123 | 51 => 124 | 20 => 20 | 213 => 125 | 46 => 101 | 232 => 135 | 233 => 136 | n => n, fun | 17 => 1 | 18 => 4 | 19 => 5 | n => n⟩
theorem Tryz.laysM171 : Go.Proofs.LaysM.n171 Tryz.prog Tryz.laysM171_ren := {
  mixed := by kernel_rfl
  f129 := Tryz.func107.trans (congrArg some (by kernel_rfl))
  f171 := Tryz.func22.trans (congrArg some (by kernel_rfl))
  f243 := Tryz.func41.trans (congrArg some (by kernel_rfl))
  f246 := Tryz.func68.trans (congrArg some (by kernel_rfl))
  f283 := Tryz.func87.trans (congrArg some (by kernel_rfl))
  f284 := Tryz.func88.trans (congrArg some (by kernel_rfl))
  f285 := Tryz.func89.trans (congrArg some (by kernel_rfl))
  f286 := Tryz.func90.trans (congrArg some (by kernel_rfl))
  f317 := Tryz.func106.trans (congrArg some (by kernel_rfl))
  f318 := Tryz.func108.trans (congrArg some (by kernel_rfl))
  f319 := Tryz.func109.trans (congrArg some (by kernel_rfl))
  f320 := Tryz.func110.trans (congrArg some (by kernel_rfl))
  f337 := Tryz.func119.trans (congrArg some (by kernel_rfl))
  f338 := Tryz.func120.trans (congrArg some (by kernel_rfl))
  t0 := Tryz.underlying0
  a0 := Tryz.isAgg0
  z0 := Tryz.sizeOf0
  v0 := Tryz.zeroValue0
  t2 := Tryz.underlying2
  a2 := Tryz.isAgg2
  z2 := Tryz.sizeOf2
  v2 := Tryz.zeroValue2
  t3 := Tryz.underlying3
  a3 := Tryz.isAgg3
  z3 := Tryz.sizeOf3
  v3 := Tryz.zeroValue3
  t4 := Tryz.underlying4
  a4 := Tryz.isAgg4
  z4 := Tryz.sizeOf4
  v4 := Tryz.zeroValue4
  t5 := Tryz.underlying5
  a5 := Tryz.isAgg5
  z5 := Tryz.sizeOf5
  v5 := Tryz.zeroValue5
  t9 := Tryz.underlying9
  a9 := Tryz.isAgg9
  z9 := Tryz.sizeOf9
  v9 := Tryz.zeroValue9
  t20 := Tryz.underlying20
  a20 := Tryz.isAgg20
  z20 := Tryz.sizeOf20
  v20 := Tryz.zeroValue20
  t37 := Tryz.underlying55
  a37 := Tryz.isAgg55
  z37 := Tryz.sizeOf55
  v37 := Tryz.zeroValue55
  t46 := Tryz.underlying101
  a46 := Tryz.isAgg101
  z46 := Tryz.sizeOf101
  v46 := Tryz.zeroValue101
  t51 := Tryz.underlying124
  a51 := Tryz.isAgg124
  z51 := Tryz.sizeOf124
  v51 := Tryz.zeroValue124
  t53 := Tryz.underlying110
  a53 := Tryz.isAgg110
  z53 := Tryz.sizeOf110
  v53 := Tryz.zeroValue110
  t171 := Tryz.underlying109
  a171 := Tryz.isAgg109
  z171 := Tryz.sizeOf109
  v171 := Tryz.zeroValue109
  t173 := Tryz.underlying113
  a173 := Tryz.isAgg113
  z173 := Tryz.sizeOf113
  v173 := Tryz.zeroValue113
  t212 := Tryz.underlying123
  a212 := Tryz.isAgg123
  z212 := Tryz.sizeOf123
  v212 := Tryz.zeroValue123
  t213 := Tryz.underlying125
  a213 := Tryz.isAgg125
  z213 := Tryz.sizeOf125
  t232 := Tryz.underlying135
  a232 := Tryz.isAgg135
  z232 := Tryz.sizeOf135
  v232 := Tryz.zeroValue135
  t233 := Tryz.underlying136
  a233 := Tryz.isAgg136
  z233 := Tryz.sizeOf136
  v233 := Tryz.zeroValue136
  g17 := by kernel_rfl
  g18 := by kernel_rfl
  g19 := by kernel_rfl
  i0 := by kernel_rfl
  i2 := by kernel_rfl
  i3 := by kernel_rfl
  i4 := by kernel_rfl
  i5 := by kernel_rfl
  i9 := by kernel_rfl
  i20 := by kernel_rfl
  i37 := by kernel_rfl
  i46 := by kernel_rfl
  i51 := by kernel_rfl
  i53 := by kernel_rfl
  i171 := by kernel_rfl
  i173 := by kernel_rfl
  i212 := by kernel_rfl
  i232 := by kernel_rfl
  i233 := by kernel_rfl
  m17 := by kernel_rfl
  m18 := by kernel_rfl
  m19 := by kernel_rfl }
theorem Tryz.strconv_Itoa (n : Int) (h0 : -9223372036854775808 ≤ n) (h1 : n ≤ 9223372036854775807) (w : World) (htab : Lib.TabIs Tryz.prog w "internal/strconv.uint64pow10" .u64 Lib.pow10Tab) :
    Calls Tryz.prog 22 #[.int .i64 n] w fun e w' => e = .returned (.string ⟨(Lib.itoa n).toArray⟩) ∧ ∃ k os, w' = grow (w.drewN k) os := Any.strconv_Itoa Tryz.laysM171 n h0 h1 w htab
def Tryz.lays144_ren : Go.Shelf.Ren := ⟨fun | 144 => 37 | 143 => 59 | 219 => 82 | 217 => 99 | 225 => 100 | 224 => 101 | 267 => 102 | 266 => 115 | 314 => 116 | n => n, fun | 9 => 9 | 4 => 4 | 3 => 3 | 5 => 5 | 46 => 101 | 146 => 128 | 51 => 124 | n => n, fun | 1 => 0 | n => n⟩
theorem Tryz.lays144 : Go.Proofs.Lays.n144 Tryz.prog Tryz.lays144_ren := {
  mixed := by kernel_rfl
  f143 := Tryz.func59.trans (congrArg some (by kernel_rfl))
  f144 := Tryz.func37.trans (congrArg some (by kernel_rfl))
  f217 := Tryz.func99.trans (congrArg some (by kernel_rfl))
  f219 := Tryz.func82.trans (congrArg some (by kernel_rfl))
  f224 := Tryz.func101.trans (congrArg some (by kernel_rfl))
  f225 := Tryz.func100.trans (congrArg some (by kernel_rfl))
  f266 := Tryz.func115.trans (congrArg some (by kernel_rfl))
  f267 := Tryz.func102.trans (congrArg some (by kernel_rfl))
  f314 := Tryz.func116.trans (congrArg some (by kernel_rfl))
  t3 := Tryz.underlying3
  a3 := Tryz.isAgg3
  z3 := Tryz.sizeOf3
  v3 := Tryz.zeroValue3
  t4 := Tryz.underlying4
  a4 := Tryz.isAgg4
  z4 := Tryz.sizeOf4
  v4 := Tryz.zeroValue4
  t5 := Tryz.underlying5
  a5 := Tryz.isAgg5
  z5 := Tryz.sizeOf5
  v5 := Tryz.zeroValue5
  t9 := Tryz.underlying9
  a9 := Tryz.isAgg9
  z9 := Tryz.sizeOf9
  v9 := Tryz.zeroValue9
  t46 := Tryz.underlying101
  a46 := Tryz.isAgg101
  z46 := Tryz.sizeOf101
  v46 := Tryz.zeroValue101
  t51 := Tryz.underlying124
  a51 := Tryz.isAgg124
  z51 := Tryz.sizeOf124
  v51 := Tryz.zeroValue124
  t146 := Tryz.underlying128
  a146 := Tryz.isAgg128
  z146 := Tryz.sizeOf128
  v146 := Tryz.zeroValue128
  g1 := by kernel_rfl }
theorem Tryz.strings_Contains_one (s : ByteArray) (c : UInt8) (w : World) :
    Calls Tryz.prog 37 #[.string s, .string ⟨#[c]⟩] w fun e w' => e = .returned (.bool (decide (0 ≤ Lib.indexByte s.data.toList c))) ∧ w' = w := Any.strings_Contains_one Tryz.lays144 s c w
def Tryz.lays145_ren : Go.Shelf.Ren := ⟨fun | 145 => 50 | 220 => 69 | 219 => 82 | 217 => 99 | 225 => 100 | 224 => 101 | 267 => 102 | 266 => 115 | 314 => 116 | n => n, fun | 9 => 9 | 4 => 4 | 59 => 73 | 3 => 3 | 5 => 5 | 46 => 101 | 146 => 128 | 51 => 124 | n => n, fun | 1 => 0 | n => n⟩
theorem Tryz.lays145 : Go.Proofs.Lays.n145 Tryz.prog Tryz.lays145_ren := {
  mixed := by kernel_rfl
  f145 := Tryz.func50.trans (congrArg some (by kernel_rfl))
  f217 := Tryz.func99.trans (congrArg some (by kernel_rfl))
  f219 := Tryz.func82.trans (congrArg some (by kernel_rfl))
  f220 := Tryz.func69.trans (congrArg some (by kernel_rfl))
  f224 := Tryz.func101.trans (congrArg some (by kernel_rfl))
  f225 := Tryz.func100.trans (congrArg some (by kernel_rfl))
  f266 := Tryz.func115.trans (congrArg some (by kernel_rfl))
  f267 := Tryz.func102.trans (congrArg some (by kernel_rfl))
  f314 := Tryz.func116.trans (congrArg some (by kernel_rfl))
  t3 := Tryz.underlying3
  a3 := Tryz.isAgg3
  z3 := Tryz.sizeOf3
  v3 := Tryz.zeroValue3
  t4 := Tryz.underlying4
  a4 := Tryz.isAgg4
  z4 := Tryz.sizeOf4
  v4 := Tryz.zeroValue4
  t5 := Tryz.underlying5
  a5 := Tryz.isAgg5
  z5 := Tryz.sizeOf5
  v5 := Tryz.zeroValue5
  t9 := Tryz.underlying9
  a9 := Tryz.isAgg9
  z9 := Tryz.sizeOf9
  v9 := Tryz.zeroValue9
  t46 := Tryz.underlying101
  a46 := Tryz.isAgg101
  z46 := Tryz.sizeOf101
  v46 := Tryz.zeroValue101
  t51 := Tryz.underlying124
  a51 := Tryz.isAgg124
  z51 := Tryz.sizeOf124
  v51 := Tryz.zeroValue124
  t59 := Tryz.underlying73
  a59 := Tryz.isAgg73
  z59 := Tryz.sizeOf73
  v59 := Tryz.zeroValue73
  t146 := Tryz.underlying128
  a146 := Tryz.isAgg128
  z146 := Tryz.sizeOf128
  v146 := Tryz.zeroValue128
  g1 := by kernel_rfl }
theorem Tryz.strings_Cut (s sep : ByteArray) (m : Int) (w : World) (hs : s.size < 4294967281) (hm : w.cell? ⟨0, 0, none⟩ = some (.int .i64 m)) :
    Calls Tryz.prog 50 #[.string s, .string sep] w fun e w' => e = .returned (.tuple #[.string ⟨(Lib.cut s.data.toList sep.data.toList).1.toArray⟩, .string ⟨(Lib.cut s.data.toList sep.data.toList).2.1.toArray⟩, .bool (Lib.cut s.data.toList sep.data.toList).2.2]) ∧ ∃ n, w' = w.drewN n := Any.strings_Cut Tryz.lays145 s sep m w hs hm
def Tryz.laysM145_ren : Go.Shelf.Ren := ⟨fun | 145 => 50 | 220 => 69 | 219 => 82 | 217 => 99 | 225 => 100 | 224 => 101 | 267 => 102 | 266 => 115 | 314 => 116 | n => n, fun | 9 => 9 | 4 => 4 | 59 => 73 | 3 => 3 | 5 => 5 | 46 => 101 | 146 => 128 | 51 => 124 | n => n, fun | 1 => 0 | n => n⟩
theorem Tryz.laysM145 : Go.Proofs.LaysM.n145 Tryz.prog Tryz.laysM145_ren := {
  mixed := by kernel_rfl
  f145 := Tryz.func50.trans (congrArg some (by kernel_rfl))
  f217 := Tryz.func99.trans (congrArg some (by kernel_rfl))
  f219 := Tryz.func82.trans (congrArg some (by kernel_rfl))
  f220 := Tryz.func69.trans (congrArg some (by kernel_rfl))
  f224 := Tryz.func101.trans (congrArg some (by kernel_rfl))
  f225 := Tryz.func100.trans (congrArg some (by kernel_rfl))
  f266 := Tryz.func115.trans (congrArg some (by kernel_rfl))
  f267 := Tryz.func102.trans (congrArg some (by kernel_rfl))
  f314 := Tryz.func116.trans (congrArg some (by kernel_rfl))
  t3 := Tryz.underlying3
  a3 := Tryz.isAgg3
  z3 := Tryz.sizeOf3
  v3 := Tryz.zeroValue3
  t4 := Tryz.underlying4
  a4 := Tryz.isAgg4
  z4 := Tryz.sizeOf4
  v4 := Tryz.zeroValue4
  t5 := Tryz.underlying5
  a5 := Tryz.isAgg5
  z5 := Tryz.sizeOf5
  v5 := Tryz.zeroValue5
  t9 := Tryz.underlying9
  a9 := Tryz.isAgg9
  z9 := Tryz.sizeOf9
  v9 := Tryz.zeroValue9
  t46 := Tryz.underlying101
  a46 := Tryz.isAgg101
  z46 := Tryz.sizeOf101
  v46 := Tryz.zeroValue101
  t51 := Tryz.underlying124
  a51 := Tryz.isAgg124
  z51 := Tryz.sizeOf124
  v51 := Tryz.zeroValue124
  t59 := Tryz.underlying73
  a59 := Tryz.isAgg73
  z59 := Tryz.sizeOf73
  v59 := Tryz.zeroValue73
  t146 := Tryz.underlying128
  a146 := Tryz.isAgg128
  z146 := Tryz.sizeOf128
  v146 := Tryz.zeroValue128
  g1 := by kernel_rfl
  i3 := by kernel_rfl
  i4 := by kernel_rfl
  i5 := by kernel_rfl
  i9 := by kernel_rfl
  i46 := by kernel_rfl
  i51 := by kernel_rfl
  i59 := by kernel_rfl
  i146 := by kernel_rfl
  m1 := by kernel_rfl
  s1_3 := fun w h => Go.Proofs.cell_of_shapedOpen_int (zero := #[.int .i64 0]) (t := 3) h (of_decide_eq_true (by kernel_rfl)) (by kernel_rfl) rfl (by kernel_rfl) (by kernel_rfl) Tryz.underlying3 }
theorem Tryz.strings_Cut_shaped (s sep : ByteArray) (w : World) (h : w.ShapedOpen Tryz.prog) (hs : s.size < 4294967281) :
    Calls Tryz.prog 50 #[.string s, .string sep] w fun e w' => e = .returned (.tuple #[.string ⟨(Lib.cut s.data.toList sep.data.toList).1.toArray⟩, .string ⟨(Lib.cut s.data.toList sep.data.toList).2.1.toArray⟩, .bool (Lib.cut s.data.toList sep.data.toList).2.2]) ∧ ∃ n, w' = w.drewN n := Any.strings_Cut_shaped Tryz.laysM145 s sep w h hs
def Tryz.lays101_ren : Go.Shelf.Ren := ⟨fun | 101 => 55 | 208 => 73 | 206 => 94 | n => n, fun | 9 => 9 | 4 => 4 | 3 => 3 | n => n, fun | n => n⟩
theorem Tryz.lays101 : Go.Proofs.Lays.n101 Tryz.prog Tryz.lays101_ren := {
  mixed := by kernel_rfl
  f101 := Tryz.func55.trans (congrArg some (by kernel_rfl))
  f206 := Tryz.func94.trans (congrArg some (by kernel_rfl))
  f208 := Tryz.func73.trans (congrArg some (by kernel_rfl))
  t3 := Tryz.underlying3
  a3 := Tryz.isAgg3
  z3 := Tryz.sizeOf3
  v3 := Tryz.zeroValue3
  t4 := Tryz.underlying4
  a4 := Tryz.isAgg4
  z4 := Tryz.sizeOf4
  v4 := Tryz.zeroValue4
  t9 := Tryz.underlying9
  a9 := Tryz.isAgg9
  z9 := Tryz.sizeOf9
  v9 := Tryz.zeroValue9 }
theorem Tryz.strings_TrimPrefix (s p : ByteArray) (w : World) :
    Calls Tryz.prog 55 #[.string s, .string p] w fun e w' => e = .returned (.string ⟨(Lib.trimPrefix s.data.toList p.data.toList).toArray⟩) ∧ w' = w := Any.strings_TrimPrefix Tryz.lays101 s p w
def Tryz.lays102_ren : Go.Shelf.Ren := ⟨fun | 102 => 54 | 209 => 72 | 207 => 93 | n => n, fun | 9 => 9 | 4 => 4 | 3 => 3 | n => n, fun | n => n⟩
theorem Tryz.lays102 : Go.Proofs.Lays.n102 Tryz.prog Tryz.lays102_ren := {
  mixed := by kernel_rfl
  f102 := Tryz.func54.trans (congrArg some (by kernel_rfl))
  f207 := Tryz.func93.trans (congrArg some (by kernel_rfl))
  f209 := Tryz.func72.trans (congrArg some (by kernel_rfl))
  t3 := Tryz.underlying3
  a3 := Tryz.isAgg3
  z3 := Tryz.sizeOf3
  v3 := Tryz.zeroValue3
  t4 := Tryz.underlying4
  a4 := Tryz.isAgg4
  z4 := Tryz.sizeOf4
  v4 := Tryz.zeroValue4
  t9 := Tryz.underlying9
  a9 := Tryz.isAgg9
  z9 := Tryz.sizeOf9
  v9 := Tryz.zeroValue9 }
theorem Tryz.strings_TrimSuffix (s p : ByteArray) (w : World) (hs : s.size ≤ 9223372036854775807) :
    Calls Tryz.prog 54 #[.string s, .string p] w fun e w' => e = .returned (.string ⟨(Lib.trimSuffix s.data.toList p.data.toList).toArray⟩) ∧ w' = w := Any.strings_TrimSuffix Tryz.lays102 s p w hs
def Tryz.lays146_ren : Go.Shelf.Ren := ⟨fun | 146 => 51 | 221 => 70 | 268 => 91 | 138 => 92 | 143 => 59 | 195 => 111 | 197 => 84 | 218 => 112 | 219 => 82 | 260 => 103 | 217 => 99 | 225 => 100 | 224 => 101 | 267 => 102 | 266 => 115 | 314 => 116 | n => n, fun | 9 => 9 | 31 => 34 | 3 => 3 | 4 => 4 | 0 => 0 | 105 => 106 | 21 => 21 | 5 => 5 | 46 => 101 | 119 => 130 | 139 => 133 | 138 => 132 | 146 => 128 | 51 => 124 | n => n, fun | 1 => 0 | 3 => 2 | 4 => 3 | n => n⟩
theorem Tryz.lays146 : Go.Proofs.Lays.n146 Tryz.prog Tryz.lays146_ren := {
  mixed := by kernel_rfl
  f138 := Tryz.func92.trans (congrArg some (by kernel_rfl))
  f143 := Tryz.func59.trans (congrArg some (by kernel_rfl))
  f146 := Tryz.func51.trans (congrArg some (by kernel_rfl))
  f195 := Tryz.func111.trans (congrArg some (by kernel_rfl))
  f197 := Tryz.func84.trans (congrArg some (by kernel_rfl))
  f217 := Tryz.func99.trans (congrArg some (by kernel_rfl))
  f218 := Tryz.func112.trans (congrArg some (by kernel_rfl))
  f219 := Tryz.func82.trans (congrArg some (by kernel_rfl))
  f221 := Tryz.func70.trans (congrArg some (by kernel_rfl))
  f224 := Tryz.func101.trans (congrArg some (by kernel_rfl))
  f225 := Tryz.func100.trans (congrArg some (by kernel_rfl))
  f260 := Tryz.func103.trans (congrArg some (by kernel_rfl))
  f266 := Tryz.func115.trans (congrArg some (by kernel_rfl))
  f267 := Tryz.func102.trans (congrArg some (by kernel_rfl))
  f268 := Tryz.func91.trans (congrArg some (by kernel_rfl))
  f314 := Tryz.func116.trans (congrArg some (by kernel_rfl))
  t0 := Tryz.underlying0
  a0 := Tryz.isAgg0
  z0 := Tryz.sizeOf0
  v0 := Tryz.zeroValue0
  t3 := Tryz.underlying3
  a3 := Tryz.isAgg3
  z3 := Tryz.sizeOf3
  v3 := Tryz.zeroValue3
  t4 := Tryz.underlying4
  a4 := Tryz.isAgg4
  z4 := Tryz.sizeOf4
  v4 := Tryz.zeroValue4
  t5 := Tryz.underlying5
  a5 := Tryz.isAgg5
  z5 := Tryz.sizeOf5
  v5 := Tryz.zeroValue5
  t9 := Tryz.underlying9
  a9 := Tryz.isAgg9
  z9 := Tryz.sizeOf9
  v9 := Tryz.zeroValue9
  t21 := Tryz.underlying21
  a21 := Tryz.isAgg21
  z21 := Tryz.sizeOf21
  v21 := Tryz.zeroValue21
  t31 := Tryz.underlying34
  a31 := Tryz.isAgg34
  z31 := Tryz.sizeOf34
  v31 := Tryz.zeroValue34
  t46 := Tryz.underlying101
  a46 := Tryz.isAgg101
  z46 := Tryz.sizeOf101
  v46 := Tryz.zeroValue101
  t51 := Tryz.underlying124
  a51 := Tryz.isAgg124
  z51 := Tryz.sizeOf124
  v51 := Tryz.zeroValue124
  t105 := Tryz.underlying106
  a105 := Tryz.isAgg106
  z105 := Tryz.sizeOf106
  v105 := Tryz.zeroValue106
  t119 := Tryz.underlying130
  a119 := Tryz.isAgg130
  z119 := Tryz.sizeOf130
  t138 := Tryz.underlying132
  a138 := Tryz.isAgg132
  z138 := Tryz.sizeOf132
  v138 := Tryz.zeroValue132
  t139 := Tryz.underlying133
  a139 := Tryz.isAgg133
  z139 := Tryz.sizeOf133
  v139 := Tryz.zeroValue133
  t146 := Tryz.underlying128
  a146 := Tryz.isAgg128
  z146 := Tryz.sizeOf128
  v146 := Tryz.zeroValue128
  g1 := by kernel_rfl
  g3 := by kernel_rfl
  g4 := by kernel_rfl }
theorem Tryz.strings_Split (s sep : ByteArray) (m : Int) (w : World) (hs : s.size < 4294967281) (hm : w.cell? ⟨0, 0, none⟩ = some (.int .i64 m)) (h1 : 1 ≤ sep.size) :
    Calls Tryz.prog 51 #[.string s, .string sep] w fun e w' =>
      e = .returned (.slice (some ⟨w.heap.size, 0, none⟩) (Lib.countB s sep + 1) (Lib.countB s sep + 1)) ∧ w' = w.alloc (.cells ((Lib.splitB sep 0 (Lib.countB s sep) s).map Value.string).toArray 9) := Any.strings_Split Tryz.lays146 (by kernel_rfl) s sep m w hs hm h1
end Go.Proofs
/-
  What package-level variables of the library's hold ahead of a call (the seat's Shelf names them).
-/
namespace Go.Proofs.YtlcolabblpikjaaGreatDoor
set_option linter.unusedVariables false
set_option linter.unusedSimpArgs false
set_option maxRecDepth 20000
open Go.RowKit

/-- What package-level variables of the library's hold ahead of the call: a number. -/
structure MostOk (w : World) : Prop where
  most : ∃ m, w.cell? ⟨Tryz.lays145_ren.g 1, 0, none⟩ = some (.int .i64 m)
theorem MostOk.on {w0 w : World} (h : MostOk w0) (hb : Below w0.heap.size w0 w) : MostOk w where
  most := by
    obtain ⟨m, hm⟩ := h.most
    have hlt := block_lt_of_cell hm
    exact ⟨m, by rw [hb.cell (p := ⟨Tryz.lays145_ren.g 1, 0, none⟩) hlt]; exact hm⟩
/-- .. and the powers of ten. -/
structure VarsOk (w : World) : Prop extends MostOk w where
  tens : Lib.TabIs Tryz.prog w "internal/strconv.uint64pow10" .u64 Lib.pow10Tab
theorem VarsOk.on {w0 w : World} (h : VarsOk w0) (hb : Below w0.heap.size w0 w) : VarsOk w where
  toMostOk := h.toMostOk.on hb
  tens := by
    have h := h.tens
    unfold Lib.TabIs World.var? at *
    cases hg : Tryz.prog.globalNamed "internal/strconv.uint64pow10" with
    | none => simp [hg] at h
    | some g =>
      simp only [hg, Option.bind_some] at h ⊢
      have hlt : g < w0.heap.size := by
        rcases Nat.lt_or_ge g w0.heap.size with h' | h'
        · exact h'
        · rw [Array.getElem?_eq_none h'] at h; simp at h
      rw [hb.block g hlt]
      exact h
end Go.Proofs.YtlcolabblpikjaaGreatDoor
