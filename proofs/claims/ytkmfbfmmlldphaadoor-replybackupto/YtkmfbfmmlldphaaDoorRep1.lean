/-
  What a server says: plain lists; nothing runs here.
-/
import Derived.Test.YtkmfbfmmlldphaaDoorNb
namespace Go.Proofs.YtkmfbfmmlldphaaDoor
set_option linter.unusedVariables false
set_option linter.unusedSimpArgs false
set_option maxRecDepth 20000

/-! ### lines -/
/-- Up to 13, 10; none: there is none. -/
def lineI : List Int → Option (List Int × List Int)
  | [] => none
  | [_] => none
  | x :: y :: r => if x = 13 ∧ y = 10 then some ([], r) else (lineI (y :: r)).map fun p => (x :: p.1, p.2)
theorem lineI_cons (x : Int) (l : List Int) : lineI (x :: l) = if x = 13 ∧ l.head? = some 10 then some ([], l.tail) else (lineI l).map fun p => (x :: p.1, p.2) := by
  cases l with
  | nil => simp [lineI]
  | cons y r => simp [lineI]
theorem lineI_app : ∀ {p : List Int} (r : List Int), (∀ x ∈ p, x ≠ 13) → lineI (p ++ (13 :: 10 :: r)) = some (p, r)
  | [], r, _ => by simp [lineI]
  | x :: p, r, h => by
    have hx := h x (.head _)
    have ih := lineI_app (p := p) r (fun y hy => h y (.tail _ hy))
    rw [List.cons_append, lineI_cons, if_neg (by rintro ⟨e, _⟩; exact hx e), ih]
    rfl
theorem lineI_is : ∀ {l p r : List Int}, lineI l = some (p, r) → l = p ++ (13 :: 10 :: r)
  | [], _, _, h => by cases h
  | x :: l, p, r, h => by
    rw [lineI_cons] at h
    split at h
    · rename_i hx
      obtain ⟨rfl, hh⟩ := hx
      cases l with
      | nil => cases hh
      | cons y t =>
        simp only [List.head?_cons, Option.some.injEq] at hh
        subst hh
        cases h
        rfl
    · rw [Option.map_eq_some_iff] at h
      obtain ⟨⟨p', r'⟩, h1, h2⟩ := h
      cases h2
      rw [lineI_is h1]
      rfl
theorem lineI_len {l p r : List Int} (h : lineI l = some (p, r)) : p.length + r.length + 2 = l.length := by
  have := congrArg List.length (lineI_is h)
  simp at this; omega
theorem lineI_byt {l p r : List Int} (hB : Byt l) (h : lineI l = some (p, r)) : Byt p ∧ Byt r := by
  have e := lineI_is h
  subst e
  exact ⟨fun x hx => hB x (by simp [hx]), fun x hx => hB x (by simp [hx])⟩
/-- No line in what has no 13, but perhaps as its last. -/
theorem lineI_no : ∀ {l : List Int}, (∀ x ∈ l.dropLast, x ≠ 13) → lineI l = none
  | [], _ => rfl
  | [x], _ => rfl
  | x :: y :: r, h => by
    have hx := h x (by simp)
    rw [lineI_cons, if_neg (by rintro ⟨e, _⟩; exact hx e), lineI_no (fun z hz => h z (by simp at hz ⊢; exact .inr hz))]
    rfl
/-! ### blanks at the ends -/
def blanksI (l : List Int) : List Int := ((l.dropWhile (· == 32)).reverse.dropWhile (· == 32)).reverse
theorem blanksI_front (l : List Int) : blanksI (32 :: l) = blanksI l := by unfold blanksI; rw [List.dropWhile_cons_of_pos (by decide)]
theorem blanksI_nil : blanksI [] = [] := rfl
theorem blanksI_sub (l : List Int) : (blanksI l).Sublist l := by
  unfold blanksI
  have h1 := List.dropWhile_sublist (· == (32 : Int)) (l := (l.dropWhile (· == 32)).reverse)
  have h2 := h1.reverse
  rw [List.reverse_reverse] at h2
  exact h2.trans (List.dropWhile_sublist _)
theorem drop32_all : ∀ {l : List Int}, (∀ x ∈ l, x = 32) → l.dropWhile (· == (32 : Int)) = []
  | [], _ => rfl
  | x :: l, h => by
    rw [List.dropWhile_cons_of_pos (by simpa using h x (.head _))]
    exact drop32_all (fun y hy => h y (.tail _ hy))
theorem blanksI_back (l : List Int) : blanksI (l ++ [32]) = blanksI l := by
  unfold blanksI
  by_cases h : ∀ x ∈ l, x = 32
  · have e : l.dropWhile (· == (32 : Int)) = [] := drop32_all h
    have e2 : (l ++ [32]).dropWhile (· == (32 : Int)) = [] := by
      refine drop32_all (fun x hx => ?_)
      rcases List.mem_append.1 hx with hx | hx
      · exact h x hx
      · simpa using hx
    rw [e, e2]
  · have e : (l ++ [32]).dropWhile (· == (32 : Int)) = l.dropWhile (· == 32) ++ [32] := by
      induction l with
      | nil => exact absurd (fun x hx => by cases hx) h
      | cons y t ih =>
        by_cases hy : y = 32
        · subst hy
          rw [List.cons_append, List.dropWhile_cons_of_pos (by decide), List.dropWhile_cons_of_pos (by decide)]
          exact ih (fun h' => h (fun x hx => by rcases List.mem_cons.1 hx with rfl | hx; rfl; exact h' x hx))
        · rw [List.cons_append, List.dropWhile_cons_of_neg (by simpa using hy), List.dropWhile_cons_of_neg (by simpa using hy)]
          rfl
    rw [e, List.reverse_append]
    show (((32 : Int) :: (l.dropWhile (· == 32)).reverse).dropWhile (· == 32)).reverse = _
    rw [List.dropWhile_cons_of_pos (by decide)]
/-- What has no blank at its ends stays. -/
theorem blanksI_same {l : List Int} (h1 : l.head? ≠ some 32) (h2 : l.getLast? ≠ some 32) : blanksI l = l := by
  unfold blanksI
  have e1 : l.dropWhile (· == (32 : Int)) = l := by
    cases l with
    | nil => rfl
    | cons x t => rw [List.dropWhile_cons_of_neg (by simp at h1 ⊢; exact h1)]
  rw [e1]
  have e2 : l.reverse.dropWhile (· == (32 : Int)) = l.reverse := by
    have h3 : l.reverse.head? ≠ some 32 := by rw [List.head?_reverse]; exact h2
    cases hr : l.reverse with
    | nil => rfl
    | cons x t => rw [hr] at h3; rw [List.dropWhile_cons_of_neg (by simp at h3 ⊢; exact h3)]
  rw [e2, List.reverse_reverse]
theorem blanksI_ends {l : List Int} (h1 : l.head? ≠ some 32) (h2 : l.getLast? ≠ some 32) (a b : Nat) : blanksI (List.replicate a 32 ++ l ++ List.replicate b 32) = l := by
  have ha : ∀ a : Nat, ∀ m : List Int, blanksI (List.replicate a 32 ++ m) = blanksI m := by
    intro a
    induction a with
    | zero => intro m; rfl
    | succ a ih => intro m; rw [List.replicate_succ, List.cons_append, blanksI_front, ih]
  have hb : ∀ b : Nat, ∀ m : List Int, blanksI (m ++ List.replicate b 32) = blanksI m := by
    intro b
    induction b with
    | zero => intro m; rw [List.replicate_zero, List.append_nil]
    | succ b ih => intro m; rw [List.replicate_succ', ← List.append_assoc, blanksI_back, ih]
  rw [List.append_assoc, ha, hb, blanksI_same h1 h2]
/-! ### names and values -/
def NB (c : Int) : Prop := (65 ≤ c ∧ c ≤ 90) ∨ (97 ≤ c ∧ c ≤ 122) ∨ (48 ≤ c ∧ c ≤ 57) ∨ c = 45
instance (x : Int) : Decidable (NB x) := by unfold NB; infer_instance
def NameOk (most : Int) (l : List Int) : Prop := (∀ x ∈ l, NB x) ∧ 1 ≤ l.length ∧ (l.length : Int) ≤ most
instance (m : Int) (l : List Int) : Decidable (NameOk m l) := by unfold NameOk; infer_instance
def ValueOk (most : Int) (l : List Int) : Prop := (∀ x ∈ l, 32 ≤ x ∧ x ≤ 126) ∧ (l.length : Int) ≤ most ∧ (l = [] ∨ (l.getD 0 0 ≠ 32 ∧ l.getD (l.length - 1) 0 ≠ 32))
instance (m : Int) (l : List Int) : Decidable (ValueOk m l) := by unfold ValueOk; infer_instance
theorem ValueOk.ends {m : Int} {l : List Int} (h : ValueOk m l) : l.head? ≠ some 32 ∧ l.getLast? ≠ some 32 := by
  rcases h.2.2 with rfl | ⟨h1, h2⟩
  · exact ⟨by simp, by simp⟩
  · constructor
    · cases l with
      | nil => simp
      | cons x t => simpa using h1
    · intro e
      rw [List.getLast?_eq_getElem?] at e
      rw [List.getD_eq_getElem?_getD, e] at h2
      exact h2 rfl
/-! ### answers -/
abbrev HL := List (List Int × List Int)
structure RL where
  code : Int
  heads : HL
  body : List Int
  cut : Bool
def clI : List Int := [99, 111, 110, 116, 101, 110, 116, 45, 108, 101, 110, 103, 116, 104]
/-- A line as a header. -/
def headI (l : List Int) : Option (List Int × List Int) :=
  if behind [58] l = [] then none
  else if NameOk 20 (ahead [58] l) ∧ ValueOk 40 (blanksI ((behind [58] l).drop 1)) then some (ahead [58] l, blanksI ((behind [58] l).drop 1)) else none
/-- What a header tells of the length: wrong, nothing, a number. -/
def lenI (had : Option Int) (h : List Int × List Int) : Option (Option Int) :=
  if lowL h.1 = clI then (if had.isSome then none else (figI h.2 1 6).map some) else some had
def headsF : Nat → HL → Option Int → List Int → Option (HL × Option Int × List Int)
  | 0, _, _, _ => none
  | f + 1, hs, had, s => (lineI s).bind fun p =>
    if p.1 = [] then some (hs, had, p.2)
    else (headI p.1).bind fun h => if hs.length = 8 then none else (lenI had h).bind fun had' => headsF f (hs ++ [h]) had' p.2
theorem headsF_any : ∀ (f g : Nat) (hs : HL) (had : Option Int) (s : List Int), s.length < f → s.length < g → headsF f hs had s = headsF g hs had s
  | 0, _, _, _, s, h, _ => by omega
  | f + 1, 0, _, _, s, _, h => by omega
  | f + 1, g + 1, hs, had, s, hf, hg => by
    unfold headsF
    cases hl : lineI s with
    | none => rfl
    | some p =>
      obtain ⟨p1, p2⟩ := p
      have := lineI_len hl
      simp only [Option.bind_some]
      split
      · rfl
      · cases headI p1 with
        | none => rfl
        | some h =>
          simp only [Option.bind_some]
          split
          · rfl
          · cases lenI had h with
            | none => rfl
            | some h' => exact headsF_any f g _ _ _ (by omega) (by omega)
def headsI (hs : HL) (had : Option Int) (s : List Int) : Option (HL × Option Int × List Int) := headsF (s.length + 1) hs had s
theorem headsI_step (hs : HL) (had : Option Int) (s : List Int) : headsI hs had s = (lineI s).bind fun p =>
    if p.1 = [] then some (hs, had, p.2)
    else (headI p.1).bind fun h => if hs.length = 8 then none else (lenI had h).bind fun had' => headsI (hs ++ [h]) had' p.2 := by
  unfold headsI
  rw [headsF]
  cases hl : lineI s with
  | none => rfl
  | some p =>
    obtain ⟨p1, p2⟩ := p
    have := lineI_len hl
    simp only [Option.bind_some]
    split
    · rfl
    · cases headI p1 with
      | none => rfl
      | some h =>
        simp only [Option.bind_some]
        split
        · rfl
        · cases lenI had h with
          | none => rfl
          | some h' => exact headsF_any _ _ _ _ _ (by omega) (by omega)
def verI : List Int := [72, 84, 84, 80, 47, 49, 46, 49, 32]
/-- What a first line says. -/
def firstI (l : List Int) : Option Int :=
  if begI verI l ∧ 12 ≤ l.length then (figI ((l.drop 9).take 3) 3 3).bind fun n => if n < 100 ∨ 599 < n then none else some n else none
def bodyI (had : Option Int) (s : List Int) : List Int × Bool := match had with
  | none => (s, false)
  | some n => (s.take n.toNat, decide ((s.length : Int) < n))
def replyI (s : List Int) : Option RL := (lineI s).bind fun p => (firstI p.1).bind fun c => (headsI [] none p.2).map fun q => ⟨c, q.1, (bodyI q.2.1 q.2.2).1, (bodyI q.2.1 q.2.2).2⟩
/-! ### prints -/
def headP (h : List Int × List Int) : List Int := h.1 ++ ([58, 32] ++ (h.2 ++ [13, 10]))
def headsP (hs : HL) : List Int := hs.flatMap headP
def replyP (code : Nat) (hs : HL) (body : List Int) : List Int := verI ++ (digs code ++ ([32, 45, 13, 10] ++ (headsP hs ++ ([13, 10] ++ body))))
def HeadOk (h : List Int × List Int) : Prop := NameOk 20 h.1 ∧ ValueOk 40 h.2
theorem nb_no {x : Int} (h : NB x) : x ≠ 58 ∧ x ≠ 13 := by unfold NB at h; omega
/-- A line of a name, blanks, a value, blanks. -/
theorem headI_line {n v : List Int} (h : HeadOk (n, v)) (a b : Nat) : headI (n ++ 58 :: (List.replicate a 32 ++ v ++ List.replicate b 32)) = some (n, v) := by
  have hn : ∀ y ∈ n, ([58] : List Int).contains y = false := fun y hy => by
    rw [← Bool.not_eq_true]; intro hc; have := (nb_no (h.1.1 y hy)).1; simp at hc; exact this hc
  have hs := ahead_stop (st := [58]) (r := List.replicate a 32 ++ v ++ List.replicate b 32) hn (x := 58) (by decide)
  have he := h.2.ends
  unfold headI
  rw [hs.1, hs.2, if_neg (by simp), List.drop_succ_cons, List.drop_zero, blanksI_ends he.1 he.2]
  exact if_pos h
theorem line_ne {n v : List Int} (h : HeadOk (n, v)) (r : List Int) : n ++ 58 :: r ≠ [] := by simp
theorem line_13 {n v : List Int} (h : HeadOk (n, v)) (a b : Nat) : ∀ x ∈ n ++ 58 :: (List.replicate a 32 ++ v ++ List.replicate b 32), x ≠ 13 := by
  intro x hx
  simp only [List.mem_append, List.mem_cons, List.mem_replicate] at hx
  rcases hx with hx | rfl | (⟨_, rfl⟩ | hx) | ⟨_, rfl⟩
  · exact (nb_no (h.1.1 x hx)).2
  · decide
  · decide
  · have := h.2.1 x hx; omega
  · decide
/-- A header's line is read, whatever blanks stand beside its value. -/
theorem headsI_line {n v : List Int} (h : HeadOk (n, v)) (a b : Nat) (hs : HL) (had : Option Int) (s : List Int) :
    headsI hs had (n ++ 58 :: (List.replicate a 32 ++ v ++ List.replicate b 32) ++ (13 :: 10 :: s)) = if hs.length = 8 then none else (lenI had (n, v)).bind fun had' => headsI (hs ++ [(n, v)]) had' s := by
  rw [headsI_step, lineI_app _ (line_13 h a b)]
  simp only [Option.bind_some]
  rw [if_neg (line_ne h _), headI_line h a b]
  rfl
theorem headsI_end (hs : HL) (had : Option Int) (s : List Int) : headsI hs had (13 :: 10 :: s) = some (hs, had, s) := by
  rw [headsI_step, show (13 : Int) :: 10 :: s = [] ++ (13 :: 10 :: s) from rfl, lineI_app _ (by simp)]
  rfl
/-- Printed headers, read. -/
def lensI : Option Int → HL → Option (Option Int)
  | had, [] => some had
  | had, h :: hs => (lenI had h).bind fun had' => lensI had' hs
theorem headsI_print : ∀ (hs ks : HL) (had : Option Int) (s : List Int), (∀ h ∈ hs, HeadOk h) → ks.length + hs.length ≤ 8 →
    headsI ks had (headsP hs ++ (13 :: 10 :: s)) = (lensI had hs).map fun had' => (ks ++ hs, had', s)
  | [], ks, had, s, _, _ => by
    show headsI ks had (13 :: 10 :: s) = _
    rw [headsI_end]
    simp [lensI]
  | h :: hs, ks, had, s, hok, hl => by
    obtain ⟨n, v⟩ := h
    have h0 := hok (n, v) (.head _)
    have e : headsP ((n, v) :: hs) ++ (13 :: 10 :: s) = n ++ 58 :: (List.replicate 1 32 ++ v ++ List.replicate 0 32) ++ (13 :: 10 :: (headsP hs ++ (13 :: 10 :: s))) := by
      simp [headsP, headP]
    simp only [List.length_cons] at hl
    rw [e, headsI_line h0, if_neg (by omega)]
    simp only [lensI]
    cases lenI had (n, v) with
    | none => rfl
    | some had' =>
      simp only [Option.bind_some]
      rw [headsI_print hs (ks ++ [(n, v)]) had' s (fun x hx => hok x (.tail _ hx)) (by rw [List.length_append]; simp; omega)]
      simp
theorem digs_three {c : Nat} (h1 : 100 ≤ c) (h2 : c ≤ 999) : (digs c).length = 3 := by
  rw [digs_step (by omega) (by omega), digs_step (by omega) (by omega), digs_small (by omega)]; rfl
theorem first_print {c : Nat} (h1 : 100 ≤ c) (h2 : c ≤ 599) (t : List Int) : firstI (verI ++ (digs c ++ t)) = some (c : Int) := by
  have h3 := digs_three h1 (by omega)
  unfold firstI
  rw [if_pos ⟨by rw [begI_iff, List.take_left'] ; rfl, by rw [List.length_append, List.length_append, h3]; simp [verI]; omega⟩]
  have e : ((verI ++ (digs c ++ t)).drop 9).take 3 = digs c := by
    rw [show (9 : Nat) = verI.length from rfl, List.drop_left, ← h3, List.take_left']; rfl
  rw [e]
  unfold figI
  rw [if_pos ⟨by rw [h3]; decide, by rw [h3]; decide, digs_dig c⟩, fig_digs (by omega)]
  simp only [Option.bind_some]
  rw [if_neg (by omega)]
theorem ver_13 : ∀ x ∈ verI, x ≠ 13 := by decide
/-- A printed answer, read. -/
theorem replyI_print {c : Nat} (h1 : 100 ≤ c) (h2 : c ≤ 599) {hs : HL} (hok : ∀ h ∈ hs, HeadOk h) (hl : hs.length ≤ 8) (body : List Int) :
    replyI (replyP c hs body) = (lensI none hs).map fun had => ⟨c, hs, (bodyI had body).1, (bodyI had body).2⟩ := by
  have e : replyP c hs body = (verI ++ (digs c ++ [32, 45])) ++ (13 :: 10 :: (headsP hs ++ (13 :: 10 :: body))) := by simp [replyP]
  have h13 : ∀ x ∈ verI ++ (digs c ++ [32, 45]), x ≠ 13 := by
    intro x hx
    rcases List.mem_append.1 hx with hx | hx
    · exact ver_13 x hx
    · rcases List.mem_append.1 hx with hx | hx
      · have := digs_dig c x hx; omega
      · simp at hx; omega
  unfold replyI
  rw [e, lineI_app _ h13]
  simp only [Option.bind_some]
  rw [first_print h1 h2, Option.bind_some, headsI_print hs [] none body hok (by simpa using hl)]
  cases lensI none hs <;> rfl
end Go.Proofs.YtkmfbfmmlldphaaDoor
