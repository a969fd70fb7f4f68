/-
  Texts that the laws stand on: RepL, AskL, Shelf, LibV.
-/
import Derived.Test.YtlcolabblpikjaaDoorM4
import Derived.Lib.TrimByte
import Derived.Test.YtlcolabblpikjaaDoorM5
import Derived.Lib.IndexAny
import Derived.Shelf.Strings.Builder1
import Derived.Shelf.Strings.Trim
import Derived.Shelf.Small.Utf8
import Derived.Shelf.Small.Strs
import Derived.Shelf.Strings.BuilderF
import Derived.Shelf.Strconv.Itoa0
import Derived.Shelf.Strconv.Itoa1
import Derived.Shelf.LaysM
import Derived.Shelf.Strconv.Itoa2
import Derived.Shelf.Strconv.Itoa3
import Derived.Shelf.Strconv.Clone
import Derived.Shelf.Strings.Search1
import Derived.Shelf.Strings.Search2
import Derived.Shelf.Strings.Search3
import Derived.Shelf.Strings.Cut
import Derived.Shelf.Strings.Count
import Derived.Shelf.Strings.Shaped
import Derived.Shelf.Strings.Prefix
import Derived.Shelf.Strings.Split
import Derived.Shelf.Strings.SplitShaped
import Derived.Shelf.Strings.Runes
import Derived.Shelf.Strings.AsciiSet
import Derived.Test.YtlcolabblpikjaaDoorProg
import Derived.Test.YtlcolabblpikjaaDoorM1
import Derived.Lib.LaidTab

/-
  The landed program's own way to read an answer, as lists of bytes: lines, headers, lengths: nothing runs here.
-/
namespace Go.Proofs.YtlcolabblpikjaaDoor
set_option linter.unusedVariables false
set_option linter.unusedSimpArgs false
set_option maxRecDepth 20000

/-! ### a cut at a line's end -/
def cutL (l : List Int) : List Int × List Int × Bool := match lineI l with
  | some (p, r) => (p, r, true)
  | none => (l, [], false)
theorem cut_line : ∀ l : List UInt8, nb (Lib.cut l [13, 10]).1 = (cutL (nb l)).1 ∧ nb (Lib.cut l [13, 10]).2.1 = (cutL (nb l)).2.1 ∧ (Lib.cut l [13, 10]).2.2 = (cutL (nb l)).2.2
  | [] => by rw [cut_nil (by simp)]; exact ⟨rfl, rfl, rfl⟩
  | b :: l => by
    have ih := cut_line l
    rw [cut_cons]
    have e : nb (b :: l) = (b.toNat : Int) :: nb l := rfl
    by_cases h : ([13, 10] : List UInt8).isPrefixOf (b :: l) = true
    · rw [if_pos h]
      cases l with
      | nil => simp [List.isPrefixOf] at h
      | cons c r =>
        simp only [List.isPrefixOf, Bool.and_true, Bool.and_eq_true, beq_iff_eq] at h
        obtain ⟨rfl, rfl⟩ := h
        have h2 : lineI (nb (13 :: 10 :: r)) = some ([], nb r) := by
          show lineI ((13 : Int) :: 10 :: nb r) = _
          rw [lineI_cons]
          simp
        unfold cutL
        rw [h2]
        exact ⟨rfl, rfl, rfl⟩
    · rw [if_neg h]
      have hl : lineI ((b.toNat : Int) :: nb l) = (lineI (nb l)).map fun p => ((b.toNat : Int) :: p.1, p.2) := by
        rw [lineI_cons, if_neg]
        rintro ⟨h1, h2⟩
        apply h
        cases l with
        | nil => cases h2
        | cons c r =>
          have h3 : (c.toNat : Int) = 10 := by simpa [nb] using h2
          have hb : b = 13 := UInt8.toNat_inj.1 (by have : (13 : UInt8).toNat = 13 := rfl; omega)
          have hc : c = 10 := UInt8.toNat_inj.1 (by have : (10 : UInt8).toNat = 10 := rfl; omega)
          rw [hb, hc]
          simp [List.isPrefixOf]
      unfold cutL at ih ⊢
      rw [e, hl]
      cases hq : lineI (nb l) with
      | none =>
        rw [hq] at ih
        exact ⟨by show (b.toNat : Int) :: nb _ = _; rw [ih.1]; rfl, ih.2.1, ih.2.2⟩
      | some p =>
        rw [hq] at ih
        exact ⟨by show (b.toNat : Int) :: nb _ = _; rw [ih.1]; rfl, ih.2.1, ih.2.2⟩
/-! ### blanks, from behind first -/
def rdI (l : List Int) : List Int := (l.reverse.dropWhile (· == 32)).reverse
theorem rdI_cons (x : Int) (t : List Int) : rdI (x :: t) = if x = 32 ∧ rdI t = [] then [] else x :: rdI t := by
  unfold rdI
  rw [List.reverse_cons, List.dropWhile_append]
  by_cases h : t.reverse.dropWhile (· == (32 : Int)) = []
  · simp only [h, List.isEmpty_nil, if_true, List.reverse_nil, and_true]
    by_cases hx : x = 32
    · subst hx; rfl
    · rw [if_neg hx, List.dropWhile_cons_of_neg (by simpa using hx)]
      rfl
  · have h2 : (t.reverse.dropWhile (· == (32 : Int))).isEmpty = false := by simpa using h
    have h3 : ¬ (x = 32 ∧ (t.reverse.dropWhile (· == (32 : Int))).reverse = []) := fun h' => h (List.reverse_eq_nil_iff.1 h'.2)
    simp only [h2, Bool.false_eq_true, if_false]
    rw [if_neg h3, List.reverse_append]
    rfl
theorem rd_swap : ∀ l : List Int, (rdI l).dropWhile (· == (32 : Int)) = rdI (l.dropWhile (· == 32))
  | [] => rfl
  | x :: t => by
    have ih := rd_swap t
    rw [rdI_cons]
    by_cases hx : x = 32
    · subst hx
      rw [List.dropWhile_cons_of_pos (by decide), ← ih]
      by_cases hr : rdI t = []
      · rw [if_pos ⟨rfl, hr⟩, hr]
      · rw [if_neg (fun h => hr h.2), List.dropWhile_cons_of_pos (by decide)]
    · rw [if_neg (fun h => hx h.1), List.dropWhile_cons_of_neg (by simpa using hx), List.dropWhile_cons_of_neg (by simpa using hx), rdI_cons, if_neg (fun h => hx h.1)]
theorem nb_drop (c : UInt8) : ∀ l : List UInt8, nb (l.dropWhile (· == c)) = (nb l).dropWhile (· == (c.toNat : Int))
  | [] => rfl
  | b :: l => by
    have e : nb (b :: l) = (b.toNat : Int) :: nb l := rfl
    by_cases h : b = c
    · subst h
      rw [List.dropWhile_cons_of_pos (by simp), e, List.dropWhile_cons_of_pos (by simp)]
      exact nb_drop b l
    · rw [List.dropWhile_cons_of_neg (by simpa using h), e, List.dropWhile_cons_of_neg (by simp only [beq_iff_eq]; exact fun h' => h ((nb_eq _ _).1 h'))]; try rfl
theorem nb_rev (l : List UInt8) : nb l.reverse = (nb l).reverse := by unfold nb; rw [List.map_reverse]
theorem trim_blanks (l : List UInt8) : nb (Lib.trimB l 32) = blanksI (nb l) := by
  unfold Lib.trimB Lib.trimLeftB Lib.trimRightB
  rw [nb_drop, nb_rev, nb_drop, nb_rev]
  exact rd_swap (nb l)
theorem blanksI_edges (l : List Int) : (blanksI l).head? ≠ some 32 ∧ (blanksI l).getLast? ≠ some 32 := by
  have h0 : ∀ m : List Int, (m.dropWhile (· == (32 : Int))).head? ≠ some 32 := by
    intro m
    induction m with
    | nil => simp
    | cons x t ih =>
      by_cases hx : x = 32
      · rw [List.dropWhile_cons_of_pos (by simpa using hx)]; exact ih
      · rw [List.dropWhile_cons_of_neg (by simpa using hx)]; simpa using hx
  constructor
  · have e : blanksI l = (rdI l).dropWhile (· == (32 : Int)) := (rd_swap l).symm
    rw [e]
    exact h0 _
  · show ((l.dropWhile (· == (32 : Int))).reverse.dropWhile (· == 32)).reverse.getLast? ≠ some 32
    rw [List.getLast?_reverse]
    exact h0 _
theorem valueOk_blanks (l : List Int) : ValueOk 40 (blanksI l) ↔ (blanksI l).all vbI = true ∧ (blanksI l).length ≤ 40 := by
  obtain ⟨h1, h2⟩ := blanksI_edges l
  generalize blanksI l = m at *
  have hv : ∀ x : Int, vbI x = true ↔ (32 ≤ x ∧ x ≤ 126) := fun x => by unfold vbI; rw [decide_eq_true_iff]
  unfold ValueOk
  simp only [List.all_eq_true, hv]
  constructor
  · rintro ⟨a, b, _⟩; exact ⟨a, by omega⟩
  · rintro ⟨a, b⟩
    refine ⟨a, by omega, ?_⟩
    cases m with
    | nil => exact .inl rfl
    | cons x t =>
      refine .inr ⟨by simpa using h1, fun e => h2 ?_⟩
      rw [List.getLast?_eq_getElem?]
      rw [List.getD_eq_getElem?_getD, List.getElem?_eq_getElem (by simp), Option.getD_some] at e
      rw [List.getElem?_eq_getElem (by simp), e]
theorem nameOk_all (l : List Int) : NameOk 20 l ↔ l.all nbI = true ∧ 1 ≤ l.length ∧ l.length ≤ 20 := by
  have hv : ∀ x : Int, nbI x = true ↔ NB x := fun x => by unfold nbI NB; rw [decide_eq_true_iff]
  unfold NameOk
  simp only [List.all_eq_true, hv]
  constructor
  · rintro ⟨a, b, c⟩; exact ⟨a, b, by omega⟩
  · rintro ⟨a, b, c⟩; exact ⟨a, b, by omega⟩
/-! ### headers, whatever they say of a length -/
def headsGF : Nat → HL → List Int → Option (HL × List Int)
  | 0, _, _ => none
  | f + 1, hs, s => (lineI s).bind fun p =>
    if p.1 = [] then some (hs, p.2)
    else (headI p.1).bind fun h => if hs.length = 8 then none else headsGF f (hs ++ [h]) p.2
theorem headsGF_any : ∀ (f g : Nat) (hs : HL) (s : List Int), s.length < f → s.length < g → headsGF f hs s = headsGF g hs s
  | 0, _, _, s, h, _ => by omega
  | f + 1, 0, _, s, _, h => by omega
  | f + 1, g + 1, hs, s, hf, hg => by
    unfold headsGF
    cases hl : lineI s with
    | none => rfl
    | some p =>
      obtain ⟨p1, p2⟩ := p
      have := lineI_len hl
      simp only [Option.bind_some]
      split
      · rfl
      · cases headI p1 with
        | none => rfl
        | some h =>
          simp only [Option.bind_some]
          split
          · rfl
          · exact headsGF_any f g _ _ (by omega) (by omega)
def headsG (hs : HL) (s : List Int) : Option (HL × List Int) := headsGF (s.length + 1) hs s
theorem headsG_step (hs : HL) (s : List Int) : headsG hs s = (lineI s).bind fun p =>
    if p.1 = [] then some (hs, p.2)
    else (headI p.1).bind fun h => if hs.length = 8 then none else headsG (hs ++ [h]) p.2 := by
  unfold headsG
  rw [headsGF]
  cases hl : lineI s with
  | none => rfl
  | some p =>
    obtain ⟨p1, p2⟩ := p
    have := lineI_len hl
    simp only [Option.bind_some]
    split
    · rfl
    · cases headI p1 with
      | none => rfl
      | some h =>
        simp only [Option.bind_some]
        split
        · rfl
        · exact headsGF_any _ _ _ _ (by omega) (by omega)
theorem headsGF_pre : ∀ (f : Nat) (hs : HL) (s : List Int) (q : HL × List Int), headsGF f hs s = some q → ∃ m, q.1 = hs ++ m
  | 0, _, _, _, h => by cases h
  | f + 1, hs, s, q, h => by
    unfold headsGF at h
    cases hl : lineI s with
    | none => rw [hl] at h; cases h
    | some p =>
      rw [hl, Option.bind_some] at h
      split at h
      · cases h; exact ⟨[], by simp⟩
      · cases hh : headI p.1 with
        | none => rw [hh] at h; cases h
        | some x =>
          rw [hh, Option.bind_some] at h
          split at h
          · cases h
          · obtain ⟨m, hm⟩ := headsGF_pre f _ _ _ h
            exact ⟨x :: m, by rw [hm]; simp⟩
theorem headsF_G : ∀ (f : Nat) (hs : HL) (had : Option Int) (s : List Int), headsF f hs had s = (headsGF f hs s).bind fun q => (lensI had (q.1.drop hs.length)).map fun had' => (q.1, had', q.2)
  | 0, _, _, _ => rfl
  | f + 1, hs, had, s => by
    unfold headsF headsGF
    cases lineI s with
    | none => rfl
    | some p =>
      simp only [Option.bind_some]
      split
      · simp [lensI]
      · cases headI p.1 with
        | none => rfl
        | some h =>
          simp only [Option.bind_some]
          split
          · rfl
          · cases hg : headsGF f (hs ++ [h]) p.2 with
            | none =>
              cases lenI had h with
              | none => rfl
              | some had' => simp only [Option.bind_some]; rw [headsF_G f, hg]; rfl
            | some q =>
              obtain ⟨m, hm⟩ := headsGF_pre _ _ _ _ hg
              have e1 : q.1.drop hs.length = h :: m := by rw [hm, List.append_assoc, List.drop_left]; rfl
              have e2 : q.1.drop (hs ++ [h]).length = m := by rw [hm, List.drop_left]
              simp only [Option.bind_some]
              rw [e1]
              simp only [lensI]
              cases lenI had h with
              | none => rfl
              | some had' => simp only [Option.bind_some]; rw [headsF_G f, hg, Option.bind_some, e2]
theorem headsI_G (had : Option Int) (s : List Int) : headsI [] had s = (headsG [] s).bind fun q => (lensI had q.1).map fun had' => (q.1, had', q.2) := headsF_G _ _ _ _
/-! ### what headers say of a length -/
def valsI (hs : HL) : List (List Int) := (hs.filter fun h => decide (lowL h.1 = clI)).map (·.2)
def lenV : List (List Int) → Option (Option Int)
  | [] => some none
  | [v] => (figI v 1 6).map some
  | _ :: _ :: _ => none
theorem valsI_cons (h : List Int × List Int) (t : HL) : valsI (h :: t) = if lowL h.1 = clI then h.2 :: valsI t else valsI t := by
  unfold valsI
  by_cases hc : lowL h.1 = clI
  · rw [List.filter_cons_of_pos (by simpa using hc), if_pos hc]; rfl
  · rw [List.filter_cons_of_neg (by simpa using hc), if_neg hc]
theorem lensI_some (k : Int) : ∀ hs : HL, lensI (some k) hs = if valsI hs = [] then some (some k) else none
  | [] => rfl
  | h :: t => by
    rw [valsI_cons]
    simp only [lensI, lenI]
    by_cases hc : lowL h.1 = clI
    · simp [hc]
    · rw [if_neg hc, if_neg hc, Option.bind_some, lensI_some k t]
theorem lensI_vals : ∀ hs : HL, lensI none hs = lenV (valsI hs)
  | [] => rfl
  | h :: t => by
    rw [valsI_cons]
    simp only [lensI, lenI]
    by_cases hc : lowL h.1 = clI
    · rw [if_pos hc, if_pos hc]
      cases hf : figI h.2 1 6 with
      | none => cases valsI t <;> simp [lenV, hf]
      | some k =>
        simp only [Option.isSome_none, Bool.false_eq_true, if_false, Option.map_some, Option.bind_some]
        rw [lensI_some]
        cases valsI t <;> simp [lenV, hf]
    · rw [if_neg hc, if_neg hc, Option.bind_some, lensI_vals t]
theorem valsI_snoc (hs : HL) (h : List Int × List Int) : valsI (hs ++ [h]) = if lowL h.1 = clI then valsI hs ++ [h.2] else valsI hs := by
  unfold valsI
  rw [List.filter_append, List.map_append]
  by_cases hc : lowL h.1 = clI
  · rw [List.filter_cons_of_pos (by simpa using hc), if_pos hc]; rfl
  · rw [List.filter_cons_of_neg (by simpa using hc), if_neg hc]; simp
theorem replyI_G (s : List Int) : replyI s = (lineI s).bind fun p => (firstI p.1).bind fun c => (headsG [] p.2).bind fun q => (lenV (valsI q.1)).map fun had => ⟨c, q.1, (bodyI had q.2).1, (bodyI had q.2).2⟩ := by
  unfold replyI
  congr 1
  funext p
  congr 1
  funext c
  rw [headsI_G]
  cases headsG [] p.2 with
  | none => rfl
  | some q =>
    simp only [Option.bind_some]
    rw [lensI_vals]
    cases lenV (valsI q.1) <;> rfl
theorem headsG_ok : ∀ (f : Nat) (hs : HL) (s : List Int) (q : HL × List Int), headsGF f hs s = some q → (∀ h ∈ hs, HeadOk h) → hs.length ≤ 8 → (∀ h ∈ q.1, HeadOk h) ∧ q.1.length ≤ 8
  | 0, _, _, _, h, _, _ => by cases h
  | f + 1, hs, s, q, h, hk, h8 => by
    unfold headsGF at h
    cases hl : lineI s with
    | none => rw [hl] at h; cases h
    | some p =>
      rw [hl, Option.bind_some] at h
      split at h
      · cases h; exact ⟨hk, h8⟩
      · cases hh : headI p.1 with
        | none => rw [hh] at h; cases h
        | some x =>
          rw [hh, Option.bind_some] at h
          split at h
          · cases h
          · refine headsG_ok f _ _ _ h (fun y hy => ?_) (by simp; omega)
            rcases List.mem_append.1 hy with hy | hy
            · exact hk y hy
            · rw [List.mem_singleton.1 hy]
              unfold headI at hh
              split at hh
              · cases hh
              · split at hh
                · rename_i hok; cases hh; exact hok
                · cases hh
theorem headsGF_rest : ∀ (f : Nat) (hs : HL) (s : List Int) (q : HL × List Int), headsGF f hs s = some q → Byt s → Byt q.2 ∧ q.2.length ≤ s.length
  | 0, _, _, _, h, _ => by cases h
  | f + 1, hs, s, q, h, hB => by
    unfold headsGF at h
    cases hl : lineI s with
    | none => rw [hl] at h; cases h
    | some p =>
      rw [hl, Option.bind_some] at h
      have h1 := lineI_byt hB (p := p.1) (r := p.2) hl
      have h2 := lineI_len (p := p.1) (r := p.2) hl
      split at h
      · cases h; exact ⟨h1.2, by show p.2.length ≤ _; omega⟩
      · cases hh : headI p.1 with
        | none => rw [hh] at h; cases h
        | some x =>
          rw [hh, Option.bind_some] at h
          split at h
          · cases h
          · have := headsGF_rest f _ _ _ h h1.2
            exact ⟨this.1, by omega⟩
theorem headsG_rest {s : List Int} {hs : HL} {r : List Int} {n : Nat} (hB : Byt s) (hl : s.length ≤ n) (h : headsG [] s = some (hs, r)) : Byt r ∧ r.length ≤ n := by
  have := headsGF_rest _ _ _ _ h hB
  exact ⟨this.1, Nat.le_trans this.2 hl⟩
theorem headI_of {l : List Int} : headI l = if behind [58] l ≠ [] ∧ (ahead [58] l).all nbI = true ∧ (1 ≤ (ahead [58] l).length ∧ (ahead [58] l).length ≤ 20) ∧ (blanksI ((behind [58] l).drop 1)).all vbI = true ∧ (blanksI ((behind [58] l).drop 1)).length ≤ 40 then some (ahead [58] l, blanksI ((behind [58] l).drop 1)) else none := by
  unfold headI
  by_cases h1 : behind [58] l = []
  · rw [if_pos h1, if_neg (fun h => h.1 h1)]
  · rw [if_neg h1]
    have h2 := nameOk_all (ahead [58] l)
    have h3 := valueOk_blanks ((behind [58] l).drop 1)
    by_cases h4 : NameOk 20 (ahead [58] l) ∧ ValueOk 40 (blanksI ((behind [58] l).drop 1))
    · rw [if_pos h4, if_pos ⟨h1, (h2.1 h4.1).1, (h2.1 h4.1).2, h3.1 h4.2⟩]
    · rw [if_neg h4, if_neg (fun h => h4 ⟨h2.2 ⟨h.2.1, h.2.2.1⟩, h3.2 h.2.2.2⟩)]
end Go.Proofs.YtlcolabblpikjaaDoor
/-
  The landed program's own way to read a request, as lists of bytes: cuts, lines, headers: nothing runs here.
-/
namespace Go.Proofs.YtlcolabblpikjaaDoor
set_option linter.unusedVariables false
set_option linter.unusedSimpArgs false
set_option maxRecDepth 20000

/-! ### a cut at whatever sign -/
def cutS (p : List Int) : List Int → List Int × List Int × Bool
  | [] => ([], [], false)
  | x :: t => if begI p (x :: t) = true then ([], (x :: t).drop p.length, true) else (x :: (cutS p t).1, (cutS p t).2.1, (cutS p t).2.2)
theorem cut_nb {p : List UInt8} (hp : p ≠ []) : ∀ l : List UInt8, nb (Lib.cut l p).1 = (cutS (nb p) (nb l)).1 ∧ nb (Lib.cut l p).2.1 = (cutS (nb p) (nb l)).2.1 ∧ (Lib.cut l p).2.2 = (cutS (nb p) (nb l)).2.2
  | [] => by rw [cut_nil hp]; exact ⟨rfl, rfl, rfl⟩
  | b :: l => by
    have ih := cut_nb hp l
    have e : nb (b :: l) = (b.toNat : Int) :: nb l := rfl
    rw [cut_cons, pre_begI, e, cutS]
    by_cases h : begI (nb p) ((b.toNat : Int) :: nb l) = true
    · rw [if_pos h, if_pos h]
      refine ⟨rfl, ?_, rfl⟩
      show nb ((b :: l).drop p.length) = _
      rw [← e]
      unfold nb
      rw [List.map_drop, List.length_map]
    · rw [if_neg h, if_neg h]
      exact ⟨by show (b.toNat : Int) :: nb _ = _; rw [ih.1], ih.2⟩
theorem cutS_skip {c : Int} {p : List Int} : ∀ {l : List Int} (r : List Int), (∀ x ∈ l, x ≠ c) → cutS (c :: p) (l ++ r) = (l ++ (cutS (c :: p) r).1, (cutS (c :: p) r).2.1, (cutS (c :: p) r).2.2)
  | [], r, _ => rfl
  | x :: l, r, h => by
    have hx := h x (.head _)
    have hb : ¬ begI (c :: p) (x :: (l ++ r)) = true := by
      rw [begI_iff, List.length_cons, List.take_succ_cons]
      intro e
      injection e with e1 _
      exact hx e1
    rw [List.cons_append, cutS, if_neg hb, cutS_skip r (fun y hy => h y (.tail _ hy))]
    rfl
theorem cutS_hit {p : List Int} {x : Int} (l : List Int) : cutS (x :: p) (x :: p ++ l) = ([], l, true) := by
  have hb : begI (x :: p) (x :: (p ++ l)) = true := by rw [begI_iff, ← List.cons_append, List.take_left']; rfl
  rw [List.cons_append, cutS, if_pos hb, ← List.cons_append, List.drop_left']
  rfl
theorem cutS_len (p : List Int) : ∀ l : List Int, (cutS p l).1.length + (cutS p l).2.1.length ≤ l.length
  | [] => by simp [cutS]
  | x :: t => by
    have ih := cutS_len p t
    unfold cutS
    split
    · simp only [List.length_nil, List.length_drop]; omega
    · simp only [List.length_cons]; omega
theorem cutS_found (p : List Int) : ∀ l : List Int, (cutS p l).2.2 = true → (cutS p l).1.length + p.length + (cutS p l).2.1.length = l.length
  | [], h => by simp [cutS] at h
  | x :: t, h => by
    have ih := cutS_found p t
    unfold cutS at h ⊢
    split
    · rename_i hb
      have := begI_len hb
      simp only [List.length_nil, List.length_drop]; omega
    · rename_i hb
      rw [if_neg hb] at h
      have := ih h
      simp only [List.length_cons]; omega
theorem cutS_byt (p : List Int) : ∀ {l : List Int}, Byt l → Byt (cutS p l).1 ∧ Byt (cutS p l).2.1
  | [], h => ⟨h, h⟩
  | x :: t, h => by
    have ih := cutS_byt p (l := t) (fun y hy => h y (.tail _ hy))
    unfold cutS
    split
    · exact ⟨(fun y hy => by cases hy), byt_drop h _⟩
    · refine ⟨fun y hy => ?_, ih.2⟩
      rcases List.mem_cons.1 hy with rfl | hy
      · exact h _ (.head _)
      · exact ih.1 y hy

/-! ### lines -/
def splEF : Nat → List Int → List (List Int)
  | 0, l => [l]
  | f + 1, l => match lineI l with
    | none => [l]
    | some (p, r) => p :: splEF f r
theorem splEF_any : ∀ (f g : Nat) (l : List Int), l.length ≤ f → l.length ≤ g → splEF f l = splEF g l
  | 0, 0, _, _, _ => rfl
  | 0, g + 1, l, h, _ => by
    have : l = [] := List.length_eq_zero_iff.1 (by omega)
    subst this
    rfl
  | f + 1, 0, l, _, h => by
    have : l = [] := List.length_eq_zero_iff.1 (by omega)
    subst this
    rfl
  | f + 1, g + 1, l, hf, hg => by
    unfold splEF
    cases hl : lineI l with
    | none => rfl
    | some q =>
      obtain ⟨p, r⟩ := q
      have := lineI_len hl
      simp only
      rw [splEF_any f g r (by omega) (by omega)]
def splE (l : List Int) : List (List Int) := splEF l.length l
theorem splE_none {l : List Int} (h : lineI l = none) : splE l = [l] := by
  unfold splE
  cases hn : l.length with
  | zero => rfl
  | succ k => rw [splEF, h]
theorem splE_some {l p r : List Int} (h : lineI l = some (p, r)) : splE l = p :: splE r := by
  have hl := lineI_len h
  unfold splE
  cases hn : l.length with
  | zero => omega
  | succ k =>
    rw [splEF, h]
    simp only
    rw [splEF_any k r.length r (by omega) (Nat.le_refl _)]
theorem index_line (l : List UInt8) : (Lib.index l [13, 10] = -1 ∧ lineI (nb l) = none) ∨ (∃ i : Nat, Lib.index l [13, 10] = i ∧ lineI (nb l) = some (nb (l.take i), nb (l.drop (i + 2)))) := by
  have h := cut_line l
  have hge := Lib.index_ge l [13, 10]
  unfold Lib.cut at h
  by_cases h0 : 0 ≤ Lib.index l [13, 10]
  · rw [if_pos h0] at h
    refine .inr ⟨(Lib.index l [13, 10]).toNat, by omega, ?_⟩
    unfold cutL at h
    cases hl : lineI (nb l) with
    | none => rw [hl] at h; exact absurd h.2.2 (by simp)
    | some q =>
      rw [hl] at h
      obtain ⟨p, r⟩ := q
      rw [h.1, ← show nb (l.drop ((Lib.index l [13, 10]).toNat + 2)) = r from h.2.1]
  · rw [if_neg h0] at h
    refine .inl ⟨by omega, ?_⟩
    unfold cutL at h
    cases hl : lineI (nb l) with
    | none => rfl
    | some q => rw [hl] at h; exact absurd h.2.2 (by simp)
theorem splitK_line : ∀ (k : Nat) (l : List UInt8), Lib.count l [13, 10] = k → (Lib.splitK [13, 10] 0 k l).map nb = splE (nb l)
  | 0, l, hk => by
    rcases index_line l with ⟨_, h⟩ | ⟨i, hi, _⟩
    · rw [splE_none h]; rfl
    · have := Lib.count_hit (sub := [13, 10]) (by simp) hi; omega
  | k + 1, l, hk => by
    rcases index_line l with ⟨h, _⟩ | ⟨i, hi, h⟩
    · rw [Lib.count_miss h] at hk; omega
    · have hc := Lib.count_hit (sub := [13, 10]) (by simp) hi
      have hc2 : Lib.count (l.drop (i + 2)) [13, 10] = k := by
        have e : Lib.count (l.drop (i + ([13, 10] : List UInt8).length)) [13, 10] = Lib.count (l.drop (i + 2)) [13, 10] := rfl
        omega
      have ih := splitK_line k (l.drop (i + 2)) hc2
      rw [splE_some h, ← ih, Lib.splitK, hi, if_neg (by simp), List.map_cons, Int.toNat_natCast]
      rfl
theorem splitB_line (s : ByteArray) : Lib.splitB ⟨#[13, 10]⟩ 0 (Lib.countB s ⟨#[13, 10]⟩) s = (splE (sb s)).map strOfNums := by
  have h1 := Lib.splitB_data ⟨#[13, 10]⟩ 0 (Lib.countB s ⟨#[13, 10]⟩) s
  have h2 := splitK_line _ s.data.toList rfl
  have e : (Lib.splitB ⟨#[13, 10]⟩ 0 (Lib.countB s ⟨#[13, 10]⟩) s).map sb = splE (sb s) := by
    rw [sb_nb s, ← h2]
    show List.map sb _ = (Lib.splitK [13, 10] 0 (Lib.countB s ⟨#[13, 10]⟩) s.data.toList).map nb
    rw [← h1, List.map_map]
    rfl
  rw [← e, List.map_map]
  conv => lhs; rw [← List.map_id (Lib.splitB ⟨#[13, 10]⟩ 0 (Lib.countB s ⟨#[13, 10]⟩) s)]
  apply List.map_congr_left
  intro x _
  exact (str_sb x).symm
theorem countB_line (s : ByteArray) : Lib.countB s ⟨#[13, 10]⟩ + 1 = (splE (sb s)).length := by
  have h := Lib.splitB_all ⟨#[13, 10]⟩ (by decide) 0 _ s rfl
  rw [splitB_line, List.length_map] at h
  exact h.symm
/-- How long the lines are, their ends counted. -/
def sumL (ls : List (List Int)) : Nat := (ls.map fun l => l.length + 2).sum
theorem sumL_cons (l : List Int) (ls : List (List Int)) : sumL (l :: ls) = l.length + 2 + sumL ls := by unfold sumL; rw [List.map_cons, List.sum_cons]
theorem sumL_drop_last : ∀ ls : List (List Int), sumL ls.dropLast ≤ sumL ls
  | [] => Nat.le_refl _
  | [l] => Nat.zero_le _
  | l :: m :: r => by
    rw [List.dropLast_cons_of_ne_nil (by simp), sumL_cons, sumL_cons l]
    have := sumL_drop_last (m :: r)
    omega
theorem splE_all : ∀ (n : Nat) {l : List Int}, l.length ≤ n → sumL (splE l) = l.length + 2 ∧ splE l ≠ [] ∧ (Byt l → ∀ x ∈ splE l, Byt x) := by
  intro n
  induction n with
  | zero =>
    intro l h
    have : l = [] := List.length_eq_zero_iff.1 (by omega)
    subst this
    exact ⟨rfl, by simp [splE, splEF], fun h x hx => by rw [List.mem_singleton.1 hx]; exact h⟩
  | succ n ih =>
    intro l h
    cases hl : lineI l with
    | none =>
      rw [splE_none hl]
      exact ⟨by rw [sumL_cons]; rfl, by simp, fun h x hx => by rw [List.mem_singleton.1 hx]; exact h⟩
    | some q =>
      obtain ⟨p, r⟩ := q
      have hlen := lineI_len hl
      obtain ⟨h1, h2, h3⟩ := ih (l := r) (by omega)
      rw [splE_some hl]
      refine ⟨by rw [sumL_cons, h1]; omega, by simp, fun hB x hx => ?_⟩
      have hb := lineI_byt hB hl
      rcases List.mem_cons.1 hx with rfl | hx
      · exact hb.1
      · exact h3 hb.2 x hx
theorem splE_sum (l : List Int) : sumL (splE l) = l.length + 2 := (splE_all _ (Nat.le_refl _)).1
theorem splE_ne (l : List Int) : splE l ≠ [] := (splE_all _ (Nat.le_refl _)).2.1
theorem splE_byt {l : List Int} (hB : Byt l) : ∀ x ∈ splE l, Byt x := (splE_all _ (Nat.le_refl _)).2.2 hB

/-! ### ends cut off -/
def trimP (p l : List Int) : List Int := if begI p l = true then l.drop p.length else l
def trimS (p l : List Int) : List Int := if endI p l = true then l.take (l.length - p.length) else l
theorem nb_inj {a b : List UInt8} (h : nb a = nb b) : a = b := by
  induction a generalizing b with
  | nil => cases b with
    | nil => rfl
    | cons x t => cases h
  | cons x t ih => cases b with
    | nil => cases h
    | cons y r =>
      have h2 : (x.toNat : Int) :: nb t = (y.toNat : Int) :: nb r := h
      injection h2 with e1 e2
      rw [(nb_eq _ _).1 e1, ih e2]
theorem nb_length (a : List UInt8) : (nb a).length = a.length := by unfold nb; rw [List.length_map]
theorem trim_pre (l p : List UInt8) : nb (Lib.trimPrefix l p) = trimP (nb p) (nb l) := by
  have h1 : Lib.hasPrefix l p = begI (nb p) (nb l) := by rw [← pre_begI]; rfl
  unfold Lib.trimPrefix trimP
  rw [h1]
  split
  · unfold nb; rw [List.map_drop, List.length_map]
  · rfl
theorem suf_endI (p l : List UInt8) : p.isSuffixOf l = endI (nb p) (nb l) := by
  rw [Bool.eq_iff_iff, List.isSuffixOf_iff_suffix]
  unfold endI
  rw [Bool.and_eq_true, decide_eq_true_iff, decide_eq_true_iff, nb_length, nb_length]
  have e : (nb l).drop (l.length - p.length) = nb (l.drop (l.length - p.length)) := by unfold nb; rw [List.map_drop]
  rw [e]
  constructor
  · rintro ⟨t, rfl⟩
    refine ⟨by rw [List.length_append]; omega, ?_⟩
    rw [List.length_append, Nat.add_sub_cancel, List.drop_left]
  · rintro ⟨h1, h2⟩
    obtain ⟨k, hk⟩ : ∃ k, k = l.length - p.length := ⟨_, rfl⟩
    rw [← hk] at h2
    refine ⟨l.take k, ?_⟩
    rw [← nb_inj h2]
    exact List.take_append_drop _ _
theorem trim_suf (l p : List UInt8) : nb (Lib.trimSuffix l p) = trimS (nb p) (nb l) := by
  have h1 : Lib.hasSuffix l p = endI (nb p) (nb l) := by rw [← suf_endI]; rfl
  unfold Lib.trimSuffix trimS
  rw [h1]
  split
  · unfold nb; rw [List.map_take, List.length_map, List.length_map]
  · rfl
theorem trimP_len (p l : List Int) : (trimP p l).length ≤ l.length := by
  unfold trimP; split
  · rw [List.length_drop]; omega
  · exact Nat.le_refl _
theorem trimS_len (p l : List Int) : (trimS p l).length ≤ l.length := by
  unfold trimS; split
  · rw [List.length_take]; omega
  · exact Nat.le_refl _
theorem trimP_byt {p l : List Int} (h : Byt l) : Byt (trimP p l) := by
  unfold trimP; split
  · exact byt_drop h _
  · exact h
theorem trimS_byt {p l : List Int} (h : Byt l) : Byt (trimS p l) := by
  unfold trimS; split
  · exact fun x hx => h x (List.mem_of_mem_take hx)
  · exact h
theorem has_sign (l : List UInt8) (c : UInt8) : decide (0 ≤ Lib.indexByte l c) = (nb l).contains (c.toNat : Int) := by
  rw [← Lib.contains_iff_indexByte, Bool.eq_iff_iff]
  unfold nb
  simp only [List.contains_iff_mem, List.mem_map]
  constructor
  · intro h; exact ⟨c, h, rfl⟩
  · rintro ⟨b, hb, e⟩; rw [← (nb_eq _ _).1 e]; exact hb

/-! ### a header's two parts -/
def visI (l : List Int) : Bool := l.all vbI
theorem visI_iff (l : List Int) : visI l = true ↔ ∀ x ∈ l, 32 ≤ x ∧ x ≤ 126 := by
  unfold visI vbI
  simp only [List.all_eq_true, decide_eq_true_iff]
theorem blanks_kept (v : List Int) : blanksI v = v ↔ (v = [] ∨ (v.getD 0 0 ≠ 32 ∧ v.getD (v.length - 1) 0 ≠ 32)) := by
  constructor
  · intro h
    obtain ⟨h1, h2⟩ := blanksI_edges v
    rw [h] at h1 h2
    cases v with
    | nil => exact .inl rfl
    | cons x t =>
      refine .inr ⟨by simpa using h1, fun e => h2 ?_⟩
      rw [List.getLast?_eq_getElem?]
      rw [List.getD_eq_getElem?_getD, List.getElem?_eq_getElem (by simp), Option.getD_some] at e
      rw [List.getElem?_eq_getElem (by simp), e]
  · rintro (rfl | ⟨h1, h2⟩)
    · rfl
    · cases v with
      | nil => rfl
      | cons x t =>
        refine blanksI_same (by simpa using h1) (fun e => h2 ?_)
        rw [List.getLast?_eq_getElem?] at e
        rw [List.getD_eq_getElem?_getD, e]
        rfl
theorem headA_tests (n v : List Int) : HeadA (n, v) ↔ n ≠ [] ∧ n.contains 58 = false ∧ visI n = true ∧ blanksI v = v ∧ visI v = true := by
  rw [visI_iff, visI_iff, blanks_kept]
  unfold HeadA NamA ValA
  have hc : n.contains 58 = false ↔ ∀ x ∈ n, x ≠ 58 := by
    rw [← Bool.not_eq_true, List.contains_iff_mem]
    exact ⟨fun h x hx e => h (e ▸ hx), fun h hm => h 58 hm rfl⟩
  rw [hc]
  constructor
  · rintro ⟨⟨a, b⟩, c, d⟩; exact ⟨a, fun x hx => (b x hx).2, fun x hx => (b x hx).1, d, c⟩
  · rintro ⟨a, b, c, d, e⟩; exact ⟨⟨a, fun x hx => ⟨c x hx, b x hx⟩⟩, e, d⟩

/-! ### a text read -/
def readHG : List (List Int) → Option HL
  | [] => some []
  | l :: ls => if (cutS [58, 32] l).2.2 = true then (readHG ls).map fun hs => ((cutS [58, 32] l).1, (cutS [58, 32] l).2.1) :: hs else none
def linesG (t body : List Int) : List (List Int) := if body = [] then splE t else (splE t).dropLast
def mkG (l0 l1 l2 : List Int) (hs : HL) (body : List Int) : AL :=
  ⟨ahead [32] (trimS http11 l0), trimP schemeW l2 ++ ([58, 47, 47] ++ (trimP hostW l1 ++ (behind [32] (trimS http11 l0)).drop 1)), hs, body⟩
def readG (s : List Int) : Option AL :=
  if (cutS [13, 10, 13, 10] s).2.2 = true then match linesG (cutS [13, 10, 13, 10] s).1 (cutS [13, 10, 13, 10] s).2.1 with
    | l0 :: l1 :: l2 :: r => (readHG r).map fun hs => mkG l0 l1 l2 hs (cutS [13, 10, 13, 10] s).2.1
    | _ => none
  else none
theorem readHG_all : ∀ {ls : List (List Int)} {hs : HL}, readHG ls = some hs → (headsP hs).length = sumL ls ∧ hs.length = ls.length ∧ ((∀ x ∈ ls, Byt x) → ∀ h ∈ hs, Byt h.1 ∧ Byt h.2)
  | [], hs, h => by cases h; exact ⟨rfl, rfl, fun _ x hx => by cases hx⟩
  | l :: ls, hs, h => by
    unfold readHG at h
    split at h
    · rename_i hf
      rw [Option.map_eq_some_iff] at h
      obtain ⟨ks, hk, rfl⟩ := h
      obtain ⟨h1, h2, h3⟩ := readHG_all hk
      have hc := cutS_found [58, 32] l hf
      refine ⟨?_, by rw [List.length_cons, List.length_cons, h2], fun hB x hx => ?_⟩
      · rw [sumL_cons, ← h1]
        unfold headsP headP
        simp only [List.flatMap_cons, List.length_append, List.length_cons, List.length_nil] at hc ⊢
        omega
      · rcases List.mem_cons.1 hx with rfl | hx
        · exact cutS_byt _ (hB l (.head _))
        · exact h3 (fun y hy => hB y (.tail _ hy)) x hx
    · cases h
theorem linesG_byt {t b : List Int} (hB : Byt t) : ∀ x ∈ linesG t b, Byt x := by
  unfold linesG
  split
  · exact splE_byt hB
  · exact fun x hx => splE_byt hB x ((List.dropLast_sublist _).subset hx)
theorem linesG_sum (t b : List Int) : sumL (linesG t b) ≤ t.length + 2 := by
  have := splE_sum t
  unfold linesG
  split
  · omega
  · have := sumL_drop_last (splE t); omega
structure ReadOk (s : List Int) (a : AL) : Prop where
  m : Byt a.m
  u : Byt a.u
  hs : ∀ h ∈ a.hs, Byt h.1 ∧ Byt h.2
  b : Byt a.body
  lm : a.m.length ≤ s.length
  lu : a.u.length ≤ s.length + 5
  lh : (headsP a.hs).length ≤ s.length + 2
  lb : a.body.length ≤ s.length
theorem readG_ok {s : List Int} {a : AL} (hB : Byt s) (h : readG s = some a) : ReadOk s a := by
  unfold readG at h
  split at h
  · rename_i hf
    have hcl := cutS_len [13, 10, 13, 10] s
    have hcb := cutS_byt [13, 10, 13, 10] hB
    have hsum := linesG_sum (cutS [13, 10, 13, 10] s).1 (cutS [13, 10, 13, 10] s).2.1
    have hlb := linesG_byt (b := (cutS [13, 10, 13, 10] s).2.1) hcb.1
    split at h
    · rename_i l0 l1 l2 r hl
      rw [hl] at hsum hlb
      rw [Option.map_eq_some_iff] at h
      obtain ⟨hs, hr, rfl⟩ := h
      obtain ⟨h1, h2, h3⟩ := readHG_all hr
      rw [sumL_cons, sumL_cons, sumL_cons, ← h1] at hsum
      have b0 := hlb l0 (.head _)
      have b1 := hlb l1 (.tail _ (.head _))
      have b2 := hlb l2 (.tail _ (.tail _ (.head _)))
      have t0 := trimS_len http11 l0
      have t1 := trimP_len hostW l1
      have t2 := trimP_len schemeW l2
      have e : ahead [32] (trimS http11 l0) ++ behind [32] (trimS http11 l0) = trimS http11 l0 := List.takeWhile_append_dropWhile
      have el := congrArg List.length e
      rw [List.length_append] at el
      have hsep : Byt ([58, 47, 47] : List Int) := by intro x hx; simp at hx; omega
      refine ⟨ahead_byt (trimS_byt b0), byt_append (trimP_byt b2) (byt_append hsep (byt_append (trimP_byt b1) (byt_drop (behind_byt (trimS_byt b0)) 1))), h3 (fun x hx => hlb x (.tail _ (.tail _ (.tail _ hx)))), hcb.2, ?_, ?_, ?_, ?_⟩
      · show (ahead [32] (trimS http11 l0)).length ≤ _
        omega
      · show (trimP schemeW l2 ++ ([58, 47, 47] ++ (trimP hostW l1 ++ (behind [32] (trimS http11 l0)).drop 1))).length ≤ _
        simp only [List.length_append, List.length_cons, List.length_nil, List.length_drop]
        omega
      · show (headsP hs).length ≤ _
        omega
      · show (cutS [13, 10, 13, 10] s).2.1.length ≤ _
        omega
    · cases h
  · cases h

/-! ### what was printed is read -/
def linesT (ls : List (List Int)) : List Int := ls.flatMap fun l => l ++ [13, 10]
def joinL : List (List Int) → List Int
  | [] => []
  | [l] => l
  | l :: m :: r => l ++ 13 :: 10 :: joinL (m :: r)
def LineOk (l : List Int) : Prop := l ≠ [] ∧ ∀ x ∈ l, x ≠ 13
theorem cutS_lines (b : List Int) : ∀ {ls : List (List Int)}, ls ≠ [] → (∀ l ∈ ls, LineOk l) → cutS [13, 10, 13, 10] (linesT ls ++ ([13, 10] ++ b)) = (joinL ls, b, true)
  | [], h, _ => absurd rfl h
  | [l], _, h => by
    have hl := (h l (.head _)).2
    rw [show linesT [l] ++ ([13, 10] ++ b) = l ++ ([13, 10, 13, 10] ++ b) by simp [linesT], cutS_skip _ hl, show ([13, 10, 13, 10] : List Int) ++ b = 13 :: [10, 13, 10] ++ b from rfl, cutS_hit]
    simp [joinL]
  | l :: m :: r, _, h => by
    have hl := (h l (.head _)).2
    obtain ⟨hm1, hm2⟩ := h m (.tail _ (.head _))
    have ih := cutS_lines b (ls := m :: r) (by simp) (fun x hx => h x (.tail _ hx))
    obtain ⟨y, t, rfl⟩ := List.exists_cons_of_ne_nil hm1
    have hy := hm2 y (.head _)
    have e : linesT (l :: (y :: t) :: r) ++ ([13, 10] ++ b) = l ++ (13 :: 10 :: (linesT ((y :: t) :: r) ++ ([13, 10] ++ b))) := by simp [linesT]
    have e2 : ∃ z, linesT ((y :: t) :: r) ++ ([13, 10] ++ b) = y :: z := ⟨_, by simp only [linesT, List.flatMap_cons, List.cons_append]; rfl⟩
    obtain ⟨z, hz⟩ := e2
    rw [e, cutS_skip _ hl]
    rw [hz] at ih ⊢
    have n1 : ¬ begI [13, 10, 13, 10] (13 :: 10 :: y :: z) = true := by
      rw [begI_iff]; simp only [List.length_cons, List.length_nil, List.take_succ_cons]
      intro e
      injection e with _ e
      injection e with _ e
      injection e with e _
      exact hy e
    have n2 : ¬ begI [13, 10, 13, 10] (10 :: y :: z) = true := by
      rw [begI_iff]; simp only [List.length_cons, List.length_nil, List.take_succ_cons]
      intro e
      injection e with e _
      omega
    rw [cutS, if_neg n1, cutS, if_neg n2, ih]
    rfl
theorem splE_lines : ∀ {ls : List (List Int)}, ls ≠ [] → (∀ l ∈ ls, LineOk l) → splE (joinL ls) = ls
  | [], h, _ => absurd rfl h
  | [l], _, h => splE_none (lineI_no (fun x hx => (h l (.head _)).2 x ((List.dropLast_sublist _).subset hx)))
  | l :: m :: r, _, h => by
    have ih := splE_lines (ls := m :: r) (by simp) (fun x hx => h x (.tail _ hx))
    rw [joinL, splE_some (lineI_app _ (h l (.head _)).2), ih]
def lineH (h : List Int × List Int) : List Int := h.1 ++ ([58, 32] ++ h.2)
theorem headsP_lines (hs : HL) : headsP hs = linesT (hs.map lineH) := by
  unfold headsP linesT lineH
  rw [List.flatMap_map]
  congr 1
  funext h
  unfold headP
  simp
theorem readHG_lines : ∀ {hs : HL}, (∀ h ∈ hs, HeadA h) → readHG (hs.map lineH) = some hs
  | [], _ => rfl
  | (n, v) :: hs, h => by
    have h0 := h (n, v) (.head _)
    have hn : ∀ x ∈ n, x ≠ 58 := fun x hx => (h0.1.2 x hx).2
    have hc : cutS [58, 32] (lineH (n, v)) = (n, v, true) := by
      unfold lineH
      rw [cutS_skip _ hn, show ([58, 32] : List Int) ++ (n, v).2 = 58 :: [32] ++ v from rfl, cutS_hit]
      simp
    rw [List.map_cons, readHG, hc, if_pos rfl, readHG_lines (fun x hx => h x (.tail _ hx))]
    rfl
theorem lineH_ok {h : List Int × List Int} (hk : HeadA h) : LineOk (lineH h) := by
  obtain ⟨n, v⟩ := h
  refine ⟨by unfold lineH; simp, fun x hx => ?_⟩
  unfold lineH at hx
  simp only [List.mem_append, List.mem_cons, List.not_mem_nil, or_false] at hx
  rcases hx with hx | (rfl | rfl) | hx
  · have := (hk.1.2 x hx).1; omega
  · decide
  · decide
  · have := hk.2.1 x hx; omega
theorem readG_print {a : AL} {u : UL} (hB : Byt a.u) (hp : parseI a.u = some u) (hok : AskOk a u) : readG (textA a u) = some a := by
  have hN := parseI_norm hB hp
  obtain ⟨hpr, hm, hh⟩ := hok
  have hasc := printI_ascii hN
  rw [printI_parts] at hasc
  simp only [List.mem_append] at hasc
  have c1 : ∀ x ∈ u.sch, 33 ≤ x ∧ x ≤ 126 := fun x hx => hasc x (.inl hx)
  have c2 : ∀ x ∈ u.host, 33 ≤ x ∧ x ≤ 126 := fun x hx => hasc x (.inr (.inr (.inl hx)))
  have c3 : ∀ x ∈ portT u, 33 ≤ x ∧ x ≤ 126 := fun x hx => hasc x (.inr (.inr (.inr (.inl hx))))
  have c4 : ∀ x ∈ u.path, 33 ≤ x ∧ x ≤ 126 := fun x hx => hasc x (.inr (.inr (.inr (.inr (.inl hx)))))
  have c5 : ∀ x ∈ u.query, 33 ≤ x ∧ x ≤ 126 := fun x hx => hasc x (.inr (.inr (.inr (.inr (.inr hx)))))
  have k1 : LineOk (a.m ++ 32 :: (u.path ++ (u.query ++ http11))) := by
    refine ⟨by simp, fun x hx => ?_⟩
    simp only [List.mem_append, List.mem_cons] at hx
    rcases hx with hx | rfl | hx | hx | hx
    · have := hm.2.2 x hx; omega
    · decide
    · have := c4 x hx; omega
    · have := c5 x hx; omega
    · have h9 : ∀ x ∈ http11, x ≠ 13 := by decide
      exact h9 x hx
  have k2 : LineOk (hostW ++ (u.host ++ portT u)) := by
    refine ⟨by simp [hostW], fun x hx => ?_⟩
    simp only [List.mem_append] at hx
    rcases hx with hx | hx | hx
    · have h9 : ∀ x ∈ hostW, x ≠ 13 := by decide
      exact h9 x hx
    · have := c2 x hx; omega
    · have := c3 x hx; omega
  have k3 : LineOk (schemeW ++ u.sch) := by
    refine ⟨by simp [schemeW], fun x hx => ?_⟩
    rcases List.mem_append.1 hx with hx | hx
    · have h9 : ∀ x ∈ schemeW, x ≠ 13 := by decide
      exact h9 x hx
    · have := c1 x hx; omega
  obtain ⟨ex, hex⟩ : ∃ ex : HL, ex = if a.body = [] then [] else [(clW, digs a.body.length)] := ⟨_, rfl⟩
  have hexl : lenT a.body = headsP ex := by
    rw [hex]; unfold lenT
    split
    · rfl
    · simp [headsP]
  obtain ⟨ls, hls⟩ : ∃ ls, ls = (a.m ++ 32 :: (u.path ++ (u.query ++ http11))) :: (hostW ++ (u.host ++ portT u)) :: (schemeW ++ u.sch) :: (a.hs ++ ex).map lineH := ⟨_, rfl⟩
  have e1 : textA a u = linesT ls ++ ([13, 10] ++ a.body) := by
    rw [hls]
    unfold textA
    rw [hexl, ← List.append_assoc (headsP a.hs), ← headsP_app, headsP_lines]
    simp [linesT, topA, List.append_assoc]
  have hall : ∀ l ∈ ls, LineOk l := by
    rw [hls]
    intro l hl
    rcases List.mem_cons.1 hl with rfl | hl
    · exact k1
    rcases List.mem_cons.1 hl with rfl | hl
    · exact k2
    rcases List.mem_cons.1 hl with rfl | hl
    · exact k3
    obtain ⟨h, hm, rfl⟩ := List.mem_map.1 hl
    refine lineH_ok ?_
    rcases List.mem_append.1 hm with hm | hm
    · exact hh h hm
    · rw [hex] at hm
      split at hm
      · cases hm
      · rw [List.mem_singleton.1 hm]; exact clA _
  have hne : ls ≠ [] := by rw [hls]; simp
  have hlg : linesG (joinL ls) a.body = (a.m ++ 32 :: (u.path ++ (u.query ++ http11))) :: (hostW ++ (u.host ++ portT u)) :: (schemeW ++ u.sch) :: a.hs.map lineH := by
    unfold linesG
    rw [splE_lines hne hall, hls, hex]
    by_cases hb : a.body = []
    · rw [if_pos hb, if_pos hb, List.append_nil]
    · have key : ∀ (p q r : List Int) (t : List (List Int)) (z : List Int), (p :: q :: r :: (t ++ [z])).dropLast = p :: q :: r :: t := fun p q r t z => by
        rw [← List.cons_append, ← List.cons_append, ← List.cons_append, List.dropLast_concat]
      rw [if_neg hb, if_neg hb, List.map_append, List.map_cons, List.map_nil, key]
  have hsu : trimS http11 (a.m ++ 32 :: (u.path ++ (u.query ++ http11))) = a.m ++ 32 :: (u.path ++ u.query) := by
    have e : a.m ++ 32 :: (u.path ++ (u.query ++ http11)) = (a.m ++ 32 :: (u.path ++ u.query)) ++ http11 := by simp
    have hn : ((a.m ++ 32 :: (u.path ++ u.query)) ++ http11).length - http11.length = (a.m ++ 32 :: (u.path ++ u.query)).length := by rw [List.length_append, Nat.add_sub_cancel]
    rw [e]
    unfold trimS endI
    rw [hn, List.drop_left, List.take_left, if_pos]
    rw [Bool.and_eq_true, decide_eq_true_iff, decide_eq_true_iff]
    exact ⟨by rw [List.length_append]; omega, rfl⟩
  have hst := ahead_stop (st := [32]) (p := a.m) (r := u.path ++ u.query) (fun y hy => by
    rw [← Bool.not_eq_true]; intro hc; simp at hc; have := hm.2.2 y hy; omega) (x := 32) (by decide)
  have hb1 : trimP hostW (hostW ++ (u.host ++ portT u)) = u.host ++ portT u := by
    unfold trimP
    rw [if_pos (by rw [begI_iff, List.take_left']; rfl), List.drop_left']
    rfl
  have hb2 : trimP schemeW (schemeW ++ u.sch) = u.sch := by
    unfold trimP
    rw [if_pos (by rw [begI_iff, List.take_left']; rfl), List.drop_left']
    rfl
  unfold readG
  rw [e1, cutS_lines a.body hne hall]
  simp only
  rw [if_pos trivial, hlg]
  simp only
  rw [readHG_lines hh, Option.map_some]
  unfold mkG
  rw [hsu, hst.1, hst.2, hb1, hb2]
  have hu : u.sch ++ ([58, 47, 47] ++ (u.host ++ portT u ++ (32 :: (u.path ++ u.query)).drop 1)) = a.u := by
    rw [← hpr, printI_parts]
    simp [List.append_assoc]
  rw [hu]
theorem askI_u {s : List Int} {a : AL} (hB : Byt s) (h : askI s = some a) : Byt a.u := by
  unfold askI at h
  rw [Option.bind_eq_some_iff] at h
  obtain ⟨b, hc, h⟩ := h
  split at h
  · cases h
    unfold candI at hc
    rw [Option.bind_eq_some_iff] at hc
    obtain ⟨⟨p1, q1⟩, h1, hc⟩ := hc
    split at hc
    · rw [Option.bind_eq_some_iff] at hc
      obtain ⟨⟨p2, q2⟩, h2, hc⟩ := hc
      split at hc
      · rw [Option.bind_eq_some_iff] at hc
        obtain ⟨⟨p3, q3⟩, h3, hc⟩ := hc
        split at hc
        · rw [Option.map_eq_some_iff] at hc
          obtain ⟨q, _, rfl⟩ := hc
          have b1 := lineI_byt hB h1
          have b2 := lineI_byt b1.2 h2
          have b3 := lineI_byt b2.2 h3
          have hsep : Byt ([58, 47, 47] : List Int) := by intro x hx; simp at hx; omega
          exact byt_append (byt_drop b3.1 _) (byt_append hsep (byt_append (byt_drop b2.1 _) (byt_drop (fun x hx => behind_byt b1.1 x (List.mem_of_mem_take hx)) 1)))
        · cases hc
      · cases hc
    · cases hc
  · cases h
/-- The program reads as the document does. -/
theorem askI_read {s : List Int} (hB : Byt s) : askI s = (readG s).bind fun a => if askP a = some s then some a else none := by
  cases h : askI s with
  | some a =>
    have hp := askI_is h
    have hp2 := hp
    unfold askP at hp2
    rw [Option.bind_eq_some_iff] at hp2
    obtain ⟨u, hu, hp2⟩ := hp2
    split at hp2
    · rename_i hok
      have hub : Byt a.u := askI_u hB h
      have e : textA a u = s := Option.some.inj hp2
      have := readG_print hub hu hok
      rw [e] at this
      rw [this, Option.bind_some, if_pos hp]
    · cases hp2
  | none =>
    cases hr : readG s with
    | none => rfl
    | some a =>
      rw [Option.bind_some]
      split
      · rename_i hp
        rw [askI_print (readG_ok hB hr).u hp] at h
        cases h
      · rfl
/-! ### a request printed, test by test -/
def goodU (l : List Int) : Option UL := (parseI l).bind fun u => if printI u = l then some u else none
theorem goodU_ok {l : List Int} {u : UL} (hB : Byt l) (h : goodU l = some u) : parseI l = some u ∧ printI u = l ∧ u.Norm := by
  unfold goodU at h
  rw [Option.bind_eq_some_iff] at h
  obtain ⟨v, hp, h⟩ := h
  split at h
  · rename_i he; cases h; exact ⟨hp, he, parseI_norm hB hp⟩
  · cases h
theorem askP_good (a : AL) : askP a = (goodU a.u).bind fun u => if MethOk a.m ∧ ∀ h ∈ a.hs, HeadA h then some (textA a u) else none := by
  unfold askP goodU
  cases parseI a.u with
  | none => rfl
  | some u =>
    simp only [Option.bind_some]
    by_cases h : printI u = a.u
    · rw [if_pos h, Option.bind_some]
      by_cases h2 : MethOk a.m ∧ ∀ h ∈ a.hs, HeadA h
      · rw [if_pos (show AskOk a u from ⟨h, h2⟩), if_pos h2]
      · rw [if_neg (fun x : AskOk a u => h2 x.2), if_neg h2]
    · rw [if_neg h, if_neg (fun x : AskOk a u => h x.1)]; rfl
end Go.Proofs.YtlcolabblpikjaaDoor
/-
  The library's contracts that the landed program's calls want, laid at this seat's program (by the kit's commands).
-/
set_option linter.unusedVariables false
set_option maxRecDepth 100000
namespace Go.Proofs
open Go.Shelf Go.RowKit Go.Sort Go.Lib
def Tryd.lays169_ren : Go.Shelf.Ren := ⟨fun | 169 => 19 | n => n, fun | 70 => 49 | 9 => 9 | 0 => 0 | 72 => 52 | 37 => 50 | 127 => 68 | 3 => 3 | 5 => 5 | n => n, fun | n => n⟩
theorem Tryd.lays169 : Go.Proofs.Lays.n169 Tryd.prog Tryd.lays169_ren := {
  mixed := by kernel_rfl
  f169 := Tryd.func19.trans (congrArg some (by kernel_rfl))
  t0 := Tryd.underlying0
  a0 := Tryd.isAgg0
  z0 := Tryd.sizeOf0
  v0 := Tryd.zeroValue0
  t3 := Tryd.underlying3
  a3 := Tryd.isAgg3
  z3 := Tryd.sizeOf3
  v3 := Tryd.zeroValue3
  t9 := Tryd.underlying9
  a9 := Tryd.isAgg9
  z9 := Tryd.sizeOf9
  v9 := Tryd.zeroValue9
  t37 := Tryd.underlying50
  a37 := Tryd.isAgg50
  z37 := Tryd.sizeOf50
  v37 := Tryd.zeroValue50
  t70 := Tryd.underlying49
  a70 := Tryd.isAgg49
  z70 := Tryd.sizeOf49
  v70 := Tryd.zeroValue49
  t72 := Tryd.underlying52
  a72 := Tryd.isAgg52
  z72 := Tryd.sizeOf52
  v72 := Tryd.zeroValue52
  t127 := Tryd.underlying68
  a127 := Tryd.isAgg68
  z127 := Tryd.sizeOf68
  v127 := Tryd.zeroValue68 }
theorem Tryd.Builder_Extra_169 : Builder.Extra Tryd.prog Tryd.lays169_ren := {
  sizeBuilder := by kernel_rfl
  liesBuilder := by kernel_rfl
  t5 := Tryd.underlying5
  a5 := Tryd.isAgg5
  z5 := Tryd.sizeOf5
  v5 := Tryd.zeroValue5
  infoByte := by kernel_rfl
  cellsByte := by kernel_rfl
  sizeByte := by kernel_rfl
  neB5 := by decide }
def Tryd.lays160_ren : Go.Shelf.Ren := ⟨fun | 160 => 28 | 232 => 43 | 231 => 42 | 227 => 44 | 234 => 46 | 233 => 45 | 236 => 48 | 235 => 47 | 228 => 65 | 271 => 68 | 151 => 67 | 197 => 66 | 120 => 87 | 152 => 86 | 260 => 85 | 137 => 99 | 119 => 100 | 224 => 83 | 225 => 82 | 217 => 81 | 266 => 97 | n => n, fun | 9 => 9 | 4 => 4 | 3 => 3 | 5 => 5 | 117 => 80 | 116 => 79 | 0 => 0 | 124 => 83 | 21 => 21 | 105 => 94 | 46 => 109 | 119 => 118 | 139 => 121 | 138 => 120 | n => n, fun | 3 => 2 | 4 => 3 | n => n⟩
theorem Tryd.lays160 : Go.Proofs.Lays.n160 Tryd.prog Tryd.lays160_ren := {
  mixed := by kernel_rfl
  f119 := Tryd.func100.trans (congrArg some (by kernel_rfl))
  f120 := Tryd.func87.trans (congrArg some (by kernel_rfl))
  f137 := Tryd.func99.trans (congrArg some (by kernel_rfl))
  f151 := Tryd.func67.trans (congrArg some (by kernel_rfl))
  f152 := Tryd.func86.trans (congrArg some (by kernel_rfl))
  f160 := Tryd.func28.trans (congrArg some (by kernel_rfl))
  f197 := Tryd.func66.trans (congrArg some (by kernel_rfl))
  f217 := Tryd.func81.trans (congrArg some (by kernel_rfl))
  f224 := Tryd.func83.trans (congrArg some (by kernel_rfl))
  f225 := Tryd.func82.trans (congrArg some (by kernel_rfl))
  f227 := Tryd.func44.trans (congrArg some (by kernel_rfl))
  f228 := Tryd.func65.trans (congrArg some (by kernel_rfl))
  f231 := Tryd.func42.trans (congrArg some (by kernel_rfl))
  f232 := Tryd.func43.trans (congrArg some (by kernel_rfl))
  f233 := Tryd.func45.trans (congrArg some (by kernel_rfl))
  f234 := Tryd.func46.trans (congrArg some (by kernel_rfl))
  f235 := Tryd.func47.trans (congrArg some (by kernel_rfl))
  f236 := Tryd.func48.trans (congrArg some (by kernel_rfl))
  f260 := Tryd.func85.trans (congrArg some (by kernel_rfl))
  f266 := Tryd.func97.trans (congrArg some (by kernel_rfl))
  f271 := Tryd.func68.trans (congrArg some (by kernel_rfl))
  t0 := Tryd.underlying0
  a0 := Tryd.isAgg0
  z0 := Tryd.sizeOf0
  v0 := Tryd.zeroValue0
  t3 := Tryd.underlying3
  a3 := Tryd.isAgg3
  z3 := Tryd.sizeOf3
  v3 := Tryd.zeroValue3
  t4 := Tryd.underlying4
  a4 := Tryd.isAgg4
  z4 := Tryd.sizeOf4
  v4 := Tryd.zeroValue4
  t5 := Tryd.underlying5
  a5 := Tryd.isAgg5
  z5 := Tryd.sizeOf5
  v5 := Tryd.zeroValue5
  t9 := Tryd.underlying9
  a9 := Tryd.isAgg9
  z9 := Tryd.sizeOf9
  v9 := Tryd.zeroValue9
  t21 := Tryd.underlying21
  a21 := Tryd.isAgg21
  z21 := Tryd.sizeOf21
  v21 := Tryd.zeroValue21
  t46 := Tryd.underlying109
  a46 := Tryd.isAgg109
  z46 := Tryd.sizeOf109
  v46 := Tryd.zeroValue109
  t105 := Tryd.underlying94
  a105 := Tryd.isAgg94
  z105 := Tryd.sizeOf94
  v105 := Tryd.zeroValue94
  t116 := Tryd.underlying79
  a116 := Tryd.isAgg79
  z116 := Tryd.sizeOf79
  t117 := Tryd.underlying80
  a117 := Tryd.isAgg80
  z117 := Tryd.sizeOf80
  v117 := Tryd.zeroValue80
  t119 := Tryd.underlying118
  a119 := Tryd.isAgg118
  z119 := Tryd.sizeOf118
  t124 := Tryd.underlying83
  a124 := Tryd.isAgg83
  z124 := Tryd.sizeOf83
  v124 := Tryd.zeroValue83
  t138 := Tryd.underlying120
  a138 := Tryd.isAgg120
  z138 := Tryd.sizeOf120
  v138 := Tryd.zeroValue120
  t139 := Tryd.underlying121
  a139 := Tryd.isAgg121
  z139 := Tryd.sizeOf121
  v139 := Tryd.zeroValue121
  g3 := by kernel_rfl
  g4 := by kernel_rfl }
theorem Tryd.strings_Trim_one (s : ByteArray) (c : UInt8) (hc : c.toNat < 128) (w : World) (hs : s.size ≤ 9223372036854775807) :
    Calls Tryd.prog 28 #[.string s, .string ⟨#[c]⟩] w fun e w' => e = .returned (.string ⟨(Lib.trimB s.data.toList c).toArray⟩) ∧ (w' = w ∨ w' = w.drew) := Any.strings_Trim_one Tryd.lays160 s c hc w hs
theorem Tryd.Builder_String_any_f (B b : Nat) (l : List UInt8) (w : World) (h : Lib.IsBuilderF 52 5 B b (Lib.byteCells l) w) (hBw : B ≤ w.heap.size) :
    Calls Tryd.prog 19 #[.pointer (some ⟨b, 0, none⟩)] w fun e w' => e = .returned (.string ⟨l.toArray⟩) ∧ (Lib.IsBuilderF 52 5 B b (Lib.byteCells l) w' ∧ Below B w w') := Any.Builder_String_any_f Tryd.lays169 Tryd.Builder_Extra_169 B b l w h hBw
def Tryd.laysM171_ren : Go.Shelf.Ren := ⟨fun | 171 => 18 | 243 => 30 | 246 => 50 | 283 => 69 | 284 => 70 | 285 => 71 | 286 => 72 | 129 => 89 | 317 => 88 | 318 => 90 | 319 => 91 | 320 => 92 | 337 => 101 | 338 => 102 | n => n, fun | 3 => 3 | 9 => 9 | 2 => 2 | 4 => 4 | 171 => 97 | 0 => 0 | 53 => 98 | 37 => 50 | 5 => 5 | 173 => 101 | 212 => 112 | 51 => 113 | 20 => 20 | 213 => 114 | 46 => 109 | 232 => 123 | 233 => 124 | n => n, fun | 17 => 1 | 18 => 4 | 19 => 5 | n => n⟩
theorem Tryd.laysM171 : Go.Proofs.LaysM.n171 Tryd.prog Tryd.laysM171_ren := {
  mixed := by kernel_rfl
  f129 := Tryd.func89.trans (congrArg some (by kernel_rfl))
  f171 := Tryd.func18.trans (congrArg some (by kernel_rfl))
  f243 := Tryd.func30.trans (congrArg some (by kernel_rfl))
  f246 := Tryd.func50.trans (congrArg some (by kernel_rfl))
  f283 := Tryd.func69.trans (congrArg some (by kernel_rfl))
  f284 := Tryd.func70.trans (congrArg some (by kernel_rfl))
  f285 := Tryd.func71.trans (congrArg some (by kernel_rfl))
  f286 := Tryd.func72.trans (congrArg some (by kernel_rfl))
  f317 := Tryd.func88.trans (congrArg some (by kernel_rfl))
  f318 := Tryd.func90.trans (congrArg some (by kernel_rfl))
  f319 := Tryd.func91.trans (congrArg some (by kernel_rfl))
  f320 := Tryd.func92.trans (congrArg some (by kernel_rfl))
  f337 := Tryd.func101.trans (congrArg some (by kernel_rfl))
  f338 := Tryd.func102.trans (congrArg some (by kernel_rfl))
  t0 := Tryd.underlying0
  a0 := Tryd.isAgg0
  z0 := Tryd.sizeOf0
  v0 := Tryd.zeroValue0
  t2 := Tryd.underlying2
  a2 := Tryd.isAgg2
  z2 := Tryd.sizeOf2
  v2 := Tryd.zeroValue2
  t3 := Tryd.underlying3
  a3 := Tryd.isAgg3
  z3 := Tryd.sizeOf3
  v3 := Tryd.zeroValue3
  t4 := Tryd.underlying4
  a4 := Tryd.isAgg4
  z4 := Tryd.sizeOf4
  v4 := Tryd.zeroValue4
  t5 := Tryd.underlying5
  a5 := Tryd.isAgg5
  z5 := Tryd.sizeOf5
  v5 := Tryd.zeroValue5
  t9 := Tryd.underlying9
  a9 := Tryd.isAgg9
  z9 := Tryd.sizeOf9
  v9 := Tryd.zeroValue9
  t20 := Tryd.underlying20
  a20 := Tryd.isAgg20
  z20 := Tryd.sizeOf20
  v20 := Tryd.zeroValue20
  t37 := Tryd.underlying50
  a37 := Tryd.isAgg50
  z37 := Tryd.sizeOf50
  v37 := Tryd.zeroValue50
  t46 := Tryd.underlying109
  a46 := Tryd.isAgg109
  z46 := Tryd.sizeOf109
  v46 := Tryd.zeroValue109
  t51 := Tryd.underlying113
  a51 := Tryd.isAgg113
  z51 := Tryd.sizeOf113
  v51 := Tryd.zeroValue113
  t53 := Tryd.underlying98
  a53 := Tryd.isAgg98
  z53 := Tryd.sizeOf98
  v53 := Tryd.zeroValue98
  t171 := Tryd.underlying97
  a171 := Tryd.isAgg97
  z171 := Tryd.sizeOf97
  v171 := Tryd.zeroValue97
  t173 := Tryd.underlying101
  a173 := Tryd.isAgg101
  z173 := Tryd.sizeOf101
  v173 := Tryd.zeroValue101
  t212 := Tryd.underlying112
  a212 := Tryd.isAgg112
  z212 := Tryd.sizeOf112
  v212 := Tryd.zeroValue112
  t213 := Tryd.underlying114
  a213 := Tryd.isAgg114
  z213 := Tryd.sizeOf114
  t232 := Tryd.underlying123
  a232 := Tryd.isAgg123
  z232 := Tryd.sizeOf123
  v232 := Tryd.zeroValue123
  t233 := Tryd.underlying124
  a233 := Tryd.isAgg124
  z233 := Tryd.sizeOf124
  v233 := Tryd.zeroValue124
  g17 := by kernel_rfl
  g18 := by kernel_rfl
  g19 := by kernel_rfl
  i0 := by kernel_rfl
  i2 := by kernel_rfl
  i3 := by kernel_rfl
  i4 := by kernel_rfl
  i5 := by kernel_rfl
  i9 := by kernel_rfl
  i20 := by kernel_rfl
  i37 := by kernel_rfl
  i46 := by kernel_rfl
  i51 := by kernel_rfl
  i53 := by kernel_rfl
  i171 := by kernel_rfl
  i173 := by kernel_rfl
  i212 := by kernel_rfl
  i232 := by kernel_rfl
  i233 := by kernel_rfl
  m17 := by kernel_rfl
  m18 := by kernel_rfl
  m19 := by kernel_rfl }
theorem Tryd.strconv_Itoa (n : Int) (h0 : -9223372036854775808 ≤ n) (h1 : n ≤ 9223372036854775807) (w : World) (htab : Lib.TabIs Tryd.prog w "internal/strconv.uint64pow10" .u64 Lib.pow10Tab) :
    Calls Tryd.prog 18 #[.int .i64 n] w fun e w' => e = .returned (.string ⟨(Lib.itoa n).toArray⟩) ∧ ∃ k os, w' = grow (w.drewN k) os := Any.strconv_Itoa Tryd.laysM171 n h0 h1 w htab
def Tryd.lays144_ren : Go.Shelf.Ren := ⟨fun | 144 => 26 | 143 => 41 | 219 => 64 | 217 => 81 | 225 => 82 | 224 => 83 | 267 => 84 | 266 => 97 | 314 => 98 | n => n, fun | 9 => 9 | 4 => 4 | 3 => 3 | 5 => 5 | 46 => 109 | 146 => 116 | 51 => 113 | n => n, fun | 1 => 0 | n => n⟩
theorem Tryd.lays144 : Go.Proofs.Lays.n144 Tryd.prog Tryd.lays144_ren := {
  mixed := by kernel_rfl
  f143 := Tryd.func41.trans (congrArg some (by kernel_rfl))
  f144 := Tryd.func26.trans (congrArg some (by kernel_rfl))
  f217 := Tryd.func81.trans (congrArg some (by kernel_rfl))
  f219 := Tryd.func64.trans (congrArg some (by kernel_rfl))
  f224 := Tryd.func83.trans (congrArg some (by kernel_rfl))
  f225 := Tryd.func82.trans (congrArg some (by kernel_rfl))
  f266 := Tryd.func97.trans (congrArg some (by kernel_rfl))
  f267 := Tryd.func84.trans (congrArg some (by kernel_rfl))
  f314 := Tryd.func98.trans (congrArg some (by kernel_rfl))
  t3 := Tryd.underlying3
  a3 := Tryd.isAgg3
  z3 := Tryd.sizeOf3
  v3 := Tryd.zeroValue3
  t4 := Tryd.underlying4
  a4 := Tryd.isAgg4
  z4 := Tryd.sizeOf4
  v4 := Tryd.zeroValue4
  t5 := Tryd.underlying5
  a5 := Tryd.isAgg5
  z5 := Tryd.sizeOf5
  v5 := Tryd.zeroValue5
  t9 := Tryd.underlying9
  a9 := Tryd.isAgg9
  z9 := Tryd.sizeOf9
  v9 := Tryd.zeroValue9
  t46 := Tryd.underlying109
  a46 := Tryd.isAgg109
  z46 := Tryd.sizeOf109
  v46 := Tryd.zeroValue109
  t51 := Tryd.underlying113
  a51 := Tryd.isAgg113
  z51 := Tryd.sizeOf113
  v51 := Tryd.zeroValue113
  t146 := Tryd.underlying116
  a146 := Tryd.isAgg116
  z146 := Tryd.sizeOf116
  v146 := Tryd.zeroValue116
  g1 := by kernel_rfl }
theorem Tryd.strings_Contains_one (s : ByteArray) (c : UInt8) (w : World) :
    Calls Tryd.prog 26 #[.string s, .string ⟨#[c]⟩] w fun e w' => e = .returned (.bool (decide (0 ≤ Lib.indexByte s.data.toList c))) ∧ w' = w := Any.strings_Contains_one Tryd.lays144 s c w
def Tryd.lays145_ren : Go.Shelf.Ren := ⟨fun | 145 => 31 | 220 => 51 | 219 => 64 | 217 => 81 | 225 => 82 | 224 => 83 | 267 => 84 | 266 => 97 | 314 => 98 | n => n, fun | 9 => 9 | 4 => 4 | 59 => 69 | 3 => 3 | 5 => 5 | 46 => 109 | 146 => 116 | 51 => 113 | n => n, fun | 1 => 0 | n => n⟩
theorem Tryd.lays145 : Go.Proofs.Lays.n145 Tryd.prog Tryd.lays145_ren := {
  mixed := by kernel_rfl
  f145 := Tryd.func31.trans (congrArg some (by kernel_rfl))
  f217 := Tryd.func81.trans (congrArg some (by kernel_rfl))
  f219 := Tryd.func64.trans (congrArg some (by kernel_rfl))
  f220 := Tryd.func51.trans (congrArg some (by kernel_rfl))
  f224 := Tryd.func83.trans (congrArg some (by kernel_rfl))
  f225 := Tryd.func82.trans (congrArg some (by kernel_rfl))
  f266 := Tryd.func97.trans (congrArg some (by kernel_rfl))
  f267 := Tryd.func84.trans (congrArg some (by kernel_rfl))
  f314 := Tryd.func98.trans (congrArg some (by kernel_rfl))
  t3 := Tryd.underlying3
  a3 := Tryd.isAgg3
  z3 := Tryd.sizeOf3
  v3 := Tryd.zeroValue3
  t4 := Tryd.underlying4
  a4 := Tryd.isAgg4
  z4 := Tryd.sizeOf4
  v4 := Tryd.zeroValue4
  t5 := Tryd.underlying5
  a5 := Tryd.isAgg5
  z5 := Tryd.sizeOf5
  v5 := Tryd.zeroValue5
  t9 := Tryd.underlying9
  a9 := Tryd.isAgg9
  z9 := Tryd.sizeOf9
  v9 := Tryd.zeroValue9
  t46 := Tryd.underlying109
  a46 := Tryd.isAgg109
  z46 := Tryd.sizeOf109
  v46 := Tryd.zeroValue109
  t51 := Tryd.underlying113
  a51 := Tryd.isAgg113
  z51 := Tryd.sizeOf113
  v51 := Tryd.zeroValue113
  t59 := Tryd.underlying69
  a59 := Tryd.isAgg69
  z59 := Tryd.sizeOf69
  v59 := Tryd.zeroValue69
  t146 := Tryd.underlying116
  a146 := Tryd.isAgg116
  z146 := Tryd.sizeOf116
  v146 := Tryd.zeroValue116
  g1 := by kernel_rfl }
theorem Tryd.strings_Cut (s sep : ByteArray) (m : Int) (w : World) (hs : s.size < 4294967281) (hm : w.cell? ⟨0, 0, none⟩ = some (.int .i64 m)) :
    Calls Tryd.prog 31 #[.string s, .string sep] w fun e w' => e = .returned (.tuple #[.string ⟨(Lib.cut s.data.toList sep.data.toList).1.toArray⟩, .string ⟨(Lib.cut s.data.toList sep.data.toList).2.1.toArray⟩, .bool (Lib.cut s.data.toList sep.data.toList).2.2]) ∧ ∃ n, w' = w.drewN n := Any.strings_Cut Tryd.lays145 s sep m w hs hm
def Tryd.laysM145_ren : Go.Shelf.Ren := ⟨fun | 145 => 31 | 220 => 51 | 219 => 64 | 217 => 81 | 225 => 82 | 224 => 83 | 267 => 84 | 266 => 97 | 314 => 98 | n => n, fun | 9 => 9 | 4 => 4 | 59 => 69 | 3 => 3 | 5 => 5 | 46 => 109 | 146 => 116 | 51 => 113 | n => n, fun | 1 => 0 | n => n⟩
theorem Tryd.laysM145 : Go.Proofs.LaysM.n145 Tryd.prog Tryd.laysM145_ren := {
  mixed := by kernel_rfl
  f145 := Tryd.func31.trans (congrArg some (by kernel_rfl))
  f217 := Tryd.func81.trans (congrArg some (by kernel_rfl))
  f219 := Tryd.func64.trans (congrArg some (by kernel_rfl))
  f220 := Tryd.func51.trans (congrArg some (by kernel_rfl))
  f224 := Tryd.func83.trans (congrArg some (by kernel_rfl))
  f225 := Tryd.func82.trans (congrArg some (by kernel_rfl))
  f266 := Tryd.func97.trans (congrArg some (by kernel_rfl))
  f267 := Tryd.func84.trans (congrArg some (by kernel_rfl))
  f314 := Tryd.func98.trans (congrArg some (by kernel_rfl))
  t3 := Tryd.underlying3
  a3 := Tryd.isAgg3
  z3 := Tryd.sizeOf3
  v3 := Tryd.zeroValue3
  t4 := Tryd.underlying4
  a4 := Tryd.isAgg4
  z4 := Tryd.sizeOf4
  v4 := Tryd.zeroValue4
  t5 := Tryd.underlying5
  a5 := Tryd.isAgg5
  z5 := Tryd.sizeOf5
  v5 := Tryd.zeroValue5
  t9 := Tryd.underlying9
  a9 := Tryd.isAgg9
  z9 := Tryd.sizeOf9
  v9 := Tryd.zeroValue9
  t46 := Tryd.underlying109
  a46 := Tryd.isAgg109
  z46 := Tryd.sizeOf109
  v46 := Tryd.zeroValue109
  t51 := Tryd.underlying113
  a51 := Tryd.isAgg113
  z51 := Tryd.sizeOf113
  v51 := Tryd.zeroValue113
  t59 := Tryd.underlying69
  a59 := Tryd.isAgg69
  z59 := Tryd.sizeOf69
  v59 := Tryd.zeroValue69
  t146 := Tryd.underlying116
  a146 := Tryd.isAgg116
  z146 := Tryd.sizeOf116
  v146 := Tryd.zeroValue116
  g1 := by kernel_rfl
  i3 := by kernel_rfl
  i4 := by kernel_rfl
  i5 := by kernel_rfl
  i9 := by kernel_rfl
  i46 := by kernel_rfl
  i51 := by kernel_rfl
  i59 := by kernel_rfl
  i146 := by kernel_rfl
  m1 := by kernel_rfl
  s1_3 := fun w h => Go.Proofs.cell_of_shapedOpen_int (zero := #[.int .i64 0]) (t := 3) h (of_decide_eq_true (by kernel_rfl)) (by kernel_rfl) rfl (by kernel_rfl) (by kernel_rfl) Tryd.underlying3 }
theorem Tryd.strings_Cut_shaped (s sep : ByteArray) (w : World) (h : w.ShapedOpen Tryd.prog) (hs : s.size < 4294967281) :
    Calls Tryd.prog 31 #[.string s, .string sep] w fun e w' => e = .returned (.tuple #[.string ⟨(Lib.cut s.data.toList sep.data.toList).1.toArray⟩, .string ⟨(Lib.cut s.data.toList sep.data.toList).2.1.toArray⟩, .bool (Lib.cut s.data.toList sep.data.toList).2.2]) ∧ ∃ n, w' = w.drewN n := Any.strings_Cut_shaped Tryd.laysM145 s sep w h hs
def Tryd.lays101_ren : Go.Shelf.Ren := ⟨fun | 101 => 36 | 208 => 55 | 206 => 76 | n => n, fun | 9 => 9 | 4 => 4 | 3 => 3 | n => n, fun | n => n⟩
theorem Tryd.lays101 : Go.Proofs.Lays.n101 Tryd.prog Tryd.lays101_ren := {
  mixed := by kernel_rfl
  f101 := Tryd.func36.trans (congrArg some (by kernel_rfl))
  f206 := Tryd.func76.trans (congrArg some (by kernel_rfl))
  f208 := Tryd.func55.trans (congrArg some (by kernel_rfl))
  t3 := Tryd.underlying3
  a3 := Tryd.isAgg3
  z3 := Tryd.sizeOf3
  v3 := Tryd.zeroValue3
  t4 := Tryd.underlying4
  a4 := Tryd.isAgg4
  z4 := Tryd.sizeOf4
  v4 := Tryd.zeroValue4
  t9 := Tryd.underlying9
  a9 := Tryd.isAgg9
  z9 := Tryd.sizeOf9
  v9 := Tryd.zeroValue9 }
theorem Tryd.strings_TrimPrefix (s p : ByteArray) (w : World) :
    Calls Tryd.prog 36 #[.string s, .string p] w fun e w' => e = .returned (.string ⟨(Lib.trimPrefix s.data.toList p.data.toList).toArray⟩) ∧ w' = w := Any.strings_TrimPrefix Tryd.lays101 s p w
def Tryd.lays102_ren : Go.Shelf.Ren := ⟨fun | 102 => 35 | 209 => 54 | 207 => 75 | n => n, fun | 9 => 9 | 4 => 4 | 3 => 3 | n => n, fun | n => n⟩
theorem Tryd.lays102 : Go.Proofs.Lays.n102 Tryd.prog Tryd.lays102_ren := {
  mixed := by kernel_rfl
  f102 := Tryd.func35.trans (congrArg some (by kernel_rfl))
  f207 := Tryd.func75.trans (congrArg some (by kernel_rfl))
  f209 := Tryd.func54.trans (congrArg some (by kernel_rfl))
  t3 := Tryd.underlying3
  a3 := Tryd.isAgg3
  z3 := Tryd.sizeOf3
  v3 := Tryd.zeroValue3
  t4 := Tryd.underlying4
  a4 := Tryd.isAgg4
  z4 := Tryd.sizeOf4
  v4 := Tryd.zeroValue4
  t9 := Tryd.underlying9
  a9 := Tryd.isAgg9
  z9 := Tryd.sizeOf9
  v9 := Tryd.zeroValue9 }
theorem Tryd.strings_TrimSuffix (s p : ByteArray) (w : World) (hs : s.size ≤ 9223372036854775807) :
    Calls Tryd.prog 35 #[.string s, .string p] w fun e w' => e = .returned (.string ⟨(Lib.trimSuffix s.data.toList p.data.toList).toArray⟩) ∧ w' = w := Any.strings_TrimSuffix Tryd.lays102 s p w hs
def Tryd.lays146_ren : Go.Shelf.Ren := ⟨fun | 146 => 32 | 221 => 52 | 268 => 73 | 138 => 74 | 143 => 41 | 195 => 93 | 197 => 66 | 218 => 94 | 219 => 64 | 260 => 85 | 217 => 81 | 225 => 82 | 224 => 83 | 267 => 84 | 266 => 97 | 314 => 98 | n => n, fun | 9 => 9 | 31 => 34 | 3 => 3 | 4 => 4 | 0 => 0 | 105 => 94 | 21 => 21 | 5 => 5 | 46 => 109 | 119 => 118 | 139 => 121 | 138 => 120 | 146 => 116 | 51 => 113 | n => n, fun | 1 => 0 | 3 => 2 | 4 => 3 | n => n⟩
theorem Tryd.lays146 : Go.Proofs.Lays.n146 Tryd.prog Tryd.lays146_ren := {
  mixed := by kernel_rfl
  f138 := Tryd.func74.trans (congrArg some (by kernel_rfl))
  f143 := Tryd.func41.trans (congrArg some (by kernel_rfl))
  f146 := Tryd.func32.trans (congrArg some (by kernel_rfl))
  f195 := Tryd.func93.trans (congrArg some (by kernel_rfl))
  f197 := Tryd.func66.trans (congrArg some (by kernel_rfl))
  f217 := Tryd.func81.trans (congrArg some (by kernel_rfl))
  f218 := Tryd.func94.trans (congrArg some (by kernel_rfl))
  f219 := Tryd.func64.trans (congrArg some (by kernel_rfl))
  f221 := Tryd.func52.trans (congrArg some (by kernel_rfl))
  f224 := Tryd.func83.trans (congrArg some (by kernel_rfl))
  f225 := Tryd.func82.trans (congrArg some (by kernel_rfl))
  f260 := Tryd.func85.trans (congrArg some (by kernel_rfl))
  f266 := Tryd.func97.trans (congrArg some (by kernel_rfl))
  f267 := Tryd.func84.trans (congrArg some (by kernel_rfl))
  f268 := Tryd.func73.trans (congrArg some (by kernel_rfl))
  f314 := Tryd.func98.trans (congrArg some (by kernel_rfl))
  t0 := Tryd.underlying0
  a0 := Tryd.isAgg0
  z0 := Tryd.sizeOf0
  v0 := Tryd.zeroValue0
  t3 := Tryd.underlying3
  a3 := Tryd.isAgg3
  z3 := Tryd.sizeOf3
  v3 := Tryd.zeroValue3
  t4 := Tryd.underlying4
  a4 := Tryd.isAgg4
  z4 := Tryd.sizeOf4
  v4 := Tryd.zeroValue4
  t5 := Tryd.underlying5
  a5 := Tryd.isAgg5
  z5 := Tryd.sizeOf5
  v5 := Tryd.zeroValue5
  t9 := Tryd.underlying9
  a9 := Tryd.isAgg9
  z9 := Tryd.sizeOf9
  v9 := Tryd.zeroValue9
  t21 := Tryd.underlying21
  a21 := Tryd.isAgg21
  z21 := Tryd.sizeOf21
  v21 := Tryd.zeroValue21
  t31 := Tryd.underlying34
  a31 := Tryd.isAgg34
  z31 := Tryd.sizeOf34
  v31 := Tryd.zeroValue34
  t46 := Tryd.underlying109
  a46 := Tryd.isAgg109
  z46 := Tryd.sizeOf109
  v46 := Tryd.zeroValue109
  t51 := Tryd.underlying113
  a51 := Tryd.isAgg113
  z51 := Tryd.sizeOf113
  v51 := Tryd.zeroValue113
  t105 := Tryd.underlying94
  a105 := Tryd.isAgg94
  z105 := Tryd.sizeOf94
  v105 := Tryd.zeroValue94
  t119 := Tryd.underlying118
  a119 := Tryd.isAgg118
  z119 := Tryd.sizeOf118
  t138 := Tryd.underlying120
  a138 := Tryd.isAgg120
  z138 := Tryd.sizeOf120
  v138 := Tryd.zeroValue120
  t139 := Tryd.underlying121
  a139 := Tryd.isAgg121
  z139 := Tryd.sizeOf121
  v139 := Tryd.zeroValue121
  t146 := Tryd.underlying116
  a146 := Tryd.isAgg116
  z146 := Tryd.sizeOf116
  v146 := Tryd.zeroValue116
  g1 := by kernel_rfl
  g3 := by kernel_rfl
  g4 := by kernel_rfl }
theorem Tryd.strings_Split (s sep : ByteArray) (m : Int) (w : World) (hs : s.size < 4294967281) (hm : w.cell? ⟨0, 0, none⟩ = some (.int .i64 m)) (h1 : 1 ≤ sep.size) :
    Calls Tryd.prog 32 #[.string s, .string sep] w fun e w' =>
      e = .returned (.slice (some ⟨w.heap.size, 0, none⟩) (Lib.countB s sep + 1) (Lib.countB s sep + 1)) ∧ w' = w.alloc (.cells ((Lib.splitB sep 0 (Lib.countB s sep) s).map Value.string).toArray 9) := Any.strings_Split Tryd.lays146 (by kernel_rfl) s sep m w hs hm h1
end Go.Proofs
/-
  What package-level variables of the library's hold ahead of a call (the seat's Shelf names them).
-/
namespace Go.Proofs.YtlcolabblpikjaaDoor
set_option linter.unusedVariables false
set_option linter.unusedSimpArgs false
set_option maxRecDepth 20000
open Go.RowKit

/-- What package-level variables of the library's hold ahead of the call: a number. -/
structure MostOk (w : World) : Prop where
  most : ∃ m, w.cell? ⟨Tryd.lays145_ren.g 1, 0, none⟩ = some (.int .i64 m)
theorem MostOk.on {w0 w : World} (h : MostOk w0) (hb : Below w0.heap.size w0 w) : MostOk w where
  most := by
    obtain ⟨m, hm⟩ := h.most
    have hlt := block_lt_of_cell hm
    exact ⟨m, by rw [hb.cell (p := ⟨Tryd.lays145_ren.g 1, 0, none⟩) hlt]; exact hm⟩
/-- .. and the powers of ten. -/
structure VarsOk (w : World) : Prop extends MostOk w where
  tens : Lib.TabIs Tryd.prog w "internal/strconv.uint64pow10" .u64 Lib.pow10Tab
theorem VarsOk.on {w0 w : World} (h : VarsOk w0) (hb : Below w0.heap.size w0 w) : VarsOk w where
  toMostOk := h.toMostOk.on hb
  tens := by
    have h := h.tens
    unfold Lib.TabIs World.var? at *
    cases hg : Tryd.prog.globalNamed "internal/strconv.uint64pow10" with
    | none => simp [hg] at h
    | some g =>
      simp only [hg, Option.bind_some] at h ⊢
      have hlt : g < w0.heap.size := by
        rcases Nat.lt_or_ge g w0.heap.size with h' | h'
        · exact h'
        · rw [Array.getElem?_eq_none h'] at h; simp at h
      rw [hb.block g hlt]
      exact h
end Go.Proofs.YtlcolabblpikjaaDoor
