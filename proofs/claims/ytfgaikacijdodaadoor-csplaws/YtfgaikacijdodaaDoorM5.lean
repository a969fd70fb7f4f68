/-
  Texts that the laws stand on: UrlH, Rep1, Ask1, Csp1, Cuts, Url7, Url8.
-/
import Derived.Test.YtfgaikacijdodaaDoorM4
import Derived.Lib.SplitLaws
import Derived.Lib.ItoaNum
import Derived.Test.YtfgaikacijdodaaDoorM3

/-
  Hosts by their parts; the library's cuts, parts, digits as lists of bytes: nothing runs here.
-/
namespace Go.Proofs.YtfgaikacijdodaaDoor
set_option linter.unusedVariables false
set_option linter.unusedSimpArgs false
set_option maxRecDepth 20000

/-! ### parts between a sign -/
def splI (c : Int) : List Int → List (List Int)
  | [] => [[]]
  | x :: r => if x = c then [] :: splI c r else match splI c r with
    | p :: ps => (x :: p) :: ps
    | [] => [[x]]
theorem splI_ne (c : Int) (l : List Int) : splI c l ≠ [] := by
  cases l with
  | nil => simp [splI]
  | cons x r => unfold splI; split; simp; split <;> simp
theorem splI_hit (c : Int) (r : List Int) : splI c (c :: r) = [] :: splI c r := by simp [splI]
theorem splI_go {c x : Int} {r : List Int} (h : x ≠ c) : splI c (x :: r) = (x :: (splI c r).headD []) :: (splI c r).tail := by
  have := splI_ne c r
  simp only [splI, if_neg h]
  cases hs : splI c r with
  | nil => exact absurd hs this
  | cons p ps => rfl
theorem splI_len (c : Int) : ∀ l : List Int, (splI c l).length ≤ l.length + 1
  | [] => by simp [splI]
  | x :: r => by
    have ih := splI_len c r
    by_cases h : x = c
    · subst h; rw [splI_hit]; simp; omega
    · rw [splI_go h]
      have := splI_ne c r
      have h2 : 0 < (splI c r).length := List.length_pos_iff.2 this
      simp; omega
theorem splI_mem (c : Int) : ∀ (l : List Int), ∀ p ∈ splI c l, p.length ≤ l.length ∧ ∀ x ∈ p, x ∈ l
  | [], p, h => by simp [splI] at h; subst h; simp
  | x :: r, p, h => by
    by_cases hx : x = c
    · subst hx
      rw [splI_hit] at h
      rcases List.mem_cons.1 h with rfl | h
      · simp
      · have := splI_mem _ r p h
        exact ⟨by simp; omega, fun y hy => .tail _ (this.2 y hy)⟩
    · rw [splI_go hx] at h
      rcases List.mem_cons.1 h with rfl | h
      · have hm : (splI c r).headD [] ∈ splI c r := by
          cases hs : splI c r with
          | nil => exact absurd hs (splI_ne c r)
          | cons q qs => exact .head _
        have := splI_mem c r _ hm
        refine ⟨by rw [List.length_cons, List.length_cons]; omega, fun y hy => ?_⟩
        rcases List.mem_cons.1 hy with rfl | hy
        · exact .head _
        · exact .tail _ (this.2 y hy)
      · have := splI_mem c r p (List.mem_of_mem_tail h)
        exact ⟨by simp; omega, fun y hy => .tail _ (this.2 y hy)⟩
/-! ### hosts -/
def HB0 (x : Int) : Prop := (97 ≤ x ∧ x ≤ 122) ∨ (48 ≤ x ∧ x ≤ 57) ∨ x = 45
instance (x : Int) : Decidable (HB0 x) := by unfold HB0; infer_instance
def PartH (p : List Int) : Prop := p ≠ [] ∧ ∀ x ∈ p, HB0 x
instance (p : List Int) : Decidable (PartH p) := by unfold PartH; infer_instance
def HostP (l : List Int) : Prop := l.length ≤ 20 ∧ ∀ p ∈ splI 46 l, PartH p
instance (l : List Int) : Decidable (HostP l) := by unfold HostP; infer_instance
/-- The parts are well, but that the first may be empty. -/
def Half46 (l : List Int) : Prop := (∀ x ∈ (splI 46 l).headD [], HB0 x) ∧ ∀ p ∈ (splI 46 l).tail, PartH p
/-- The same by places. -/
def Tail46 (l : List Int) : Prop := (∀ j, j < l.length → HostAt l j) ∧ (l ≠ [] → l.getD (l.length - 1) 0 ≠ 46)
theorem half_nil : Half46 [] := ⟨by simp [splI], by simp [splI]⟩
theorem all_of_half (l : List Int) : (∀ p ∈ splI 46 l, PartH p) ↔ (l ≠ [] ∧ l.getD 0 0 ≠ 46 ∧ Half46 l) := by
  cases l with
  | nil => simp [splI, PartH]
  | cons x r =>
    by_cases hx : x = 46
    · subst hx
      rw [splI_hit]
      constructor
      · intro h; exact absurd rfl (h [] (.head _)).1
      · rintro ⟨_, h, _⟩; exact absurd rfl h
    · unfold Half46
      rw [splI_go hx]
      constructor
      · intro h
        refine ⟨by simp, by simpa using hx, (h _ (.head _)).2, fun p hp => h p (.tail _ hp)⟩
      · rintro ⟨_, _, h1, h2⟩ p hp
        rcases List.mem_cons.1 hp with rfl | hp
        · exact ⟨by simp, h1⟩
        · exact h2 p hp
theorem half_cons (x : Int) (r : List Int) : Half46 (x :: r) ↔ (if x = 46 then r ≠ [] ∧ r.getD 0 0 ≠ 46 ∧ Half46 r else HB0 x ∧ Half46 r) := by
  by_cases hx : x = 46
  · subst hx
    rw [if_pos rfl, ← all_of_half]
    unfold Half46
    rw [splI_hit]
    simp
  · rw [if_neg hx]
    unfold Half46
    rw [splI_go hx]
    simp only [List.headD_cons, List.tail_cons, List.forall_mem_cons]
    exact ⟨fun ⟨⟨a, b⟩, c⟩ => ⟨a, b, c⟩, fun ⟨a, b, c⟩ => ⟨⟨a, b⟩, c⟩⟩
theorem tail_cons (x : Int) (r : List Int) : Tail46 (x :: r) ↔ (if x = 46 then r ≠ [] ∧ r.getD 0 0 ≠ 46 ∧ Tail46 r else HB0 x ∧ Tail46 r) := by
  have hlast : ∀ r : List Int, r ≠ [] → (x :: r).getD ((x :: r).length - 1) 0 = r.getD (r.length - 1) 0 := by
    intro r hr
    obtain ⟨y, t, rfl⟩ := List.exists_cons_of_ne_nil hr
    simp
  have hat : ∀ j, HostAt (x :: r) (j + 1) ↔ HostAt r j := by
    intro j; unfold HostAt; rw [List.getD_cons_succ, List.getD_cons_succ]
  have h0 : HostAt (x :: r) 0 ↔ (HB x ∧ ¬ (x = 46 ∧ r.getD 0 0 = 46)) := by
    unfold HostAt; rw [List.getD_cons_zero, List.getD_cons_succ]
  unfold Tail46
  constructor
  · rintro ⟨h1, h2⟩
    have a0 := h0.1 (h1 0 (by simp))
    have a1 : ∀ j, j < r.length → HostAt r j := fun j hj => (hat j).1 (h1 (j + 1) (by simp; omega))
    have a2 : r ≠ [] → r.getD (r.length - 1) 0 ≠ 46 := fun hr => by rw [← hlast r hr]; exact h2 (by simp)
    by_cases hx : x = 46
    · rw [if_pos hx]
      refine ⟨?_, fun e => a0.2 ⟨hx, e⟩, a1, a2⟩
      rintro rfl
      exact h2 (by simp) (by simpa using hx)
    · rw [if_neg hx]
      refine ⟨?_, a1, a2⟩
      have := a0.1
      unfold HB at this; unfold HB0; omega
  · by_cases hx : x = 46
    · rw [if_pos hx]
      rintro ⟨h1, h2, h3, h4⟩
      refine ⟨fun j hj => ?_, fun _ => by rw [hlast r h1]; exact h4 h1⟩
      cases j with
      | zero => exact h0.2 ⟨by unfold HB; omega, fun e => h2 e.2⟩
      | succ j => exact (hat j).2 (h3 j (by simp at hj; omega))
    · rw [if_neg hx]
      rintro ⟨h1, h3, h4⟩
      refine ⟨fun j hj => ?_, fun _ => ?_⟩
      · cases j with
        | zero => exact h0.2 ⟨by unfold HB0 at h1; unfold HB; omega, fun e => hx e.1⟩
        | succ j => exact (hat j).2 (h3 j (by simp at hj; omega))
      · cases r with
        | nil => simpa using hx
        | cons y t => rw [hlast _ (by simp)]; exact h4 (by simp)
theorem half_tail : ∀ l : List Int, Half46 l ↔ Tail46 l
  | [] => ⟨fun _ => ⟨fun j hj => absurd hj (by simp), fun h => absurd rfl h⟩, fun _ => half_nil⟩
  | x :: r => by rw [half_cons, tail_cons, half_tail r]
theorem host_parts (l : List Int) : HostOk l ↔ HostP l := by
  unfold HostOk HostP
  rw [all_of_half, half_tail]
  unfold Tail46
  constructor
  · rintro ⟨h1, h2, h3, h4, h5⟩
    exact ⟨h2, by rintro rfl; simp at h1, h3, h5, fun _ => h4⟩
  · rintro ⟨h1, h2, h3, h4, h5⟩
    exact ⟨List.length_pos_iff.2 h2, h1, h3, h5 h2, h4⟩
theorem hostP_dec (l : List Int) : decide (HostOk l) = decide (HostP l) := by
  rw [Bool.eq_iff_iff, decide_eq_true_iff, decide_eq_true_iff]; exact host_parts l
/-- Cut at the mark behind a scheme. -/
theorem cut_mark : ∀ l : List UInt8, nb (Lib.cut l [58, 47, 47]).1 = (cut3 (nb l)).1 ∧ nb (Lib.cut l [58, 47, 47]).2.1 = (cut3 (nb l)).2
  | [] => by rw [cut_nil (by simp)]; exact ⟨rfl, rfl⟩
  | b :: l => by
    have ih := cut_mark l
    rw [cut_cons, pre_begI]
    have e : nb (b :: l) = (b.toNat : Int) :: nb l := rfl
    have e2 : nb [58, 47, 47] = [58, 47, 47] := by decide
    rw [e2, e]
    unfold cut3
    by_cases h : begI [58, 47, 47] ((b.toNat : Int) :: nb l) = true
    · rw [if_pos h, if_pos h]
      refine ⟨rfl, ?_⟩
      show nb ((b :: l).drop 3) = _
      rw [← e]
      unfold nb
      rw [List.map_drop]
    · rw [if_neg h, if_neg h]
      exact ⟨by show (b.toNat : Int) :: nb _ = _; rw [ih.1], ih.2⟩
/-- The parts. -/
theorem index_cons (b : UInt8) (l : List UInt8) (c : UInt8) : Lib.index (b :: l) [c] = if b = c then 0 else if Lib.index l [c] = -1 then -1 else Lib.index l [c] + 1 := by
  rw [show Lib.index (b :: l) [c] = if ([c] : List UInt8).isPrefixOf (b :: l) then 0 else if Lib.index l [c] == -1 then -1 else Lib.index l [c] + 1 from rfl]
  by_cases h : b = c
  · subst h; simp
  · rw [if_neg (by simp; exact fun e => h e.symm), if_neg h]
    by_cases h1 : Lib.index l [c] = -1
    · rw [if_pos h1, h1]; rfl
    · rw [if_neg h1, if_neg (by simpa using h1)]
theorem splitK_go {b c : UInt8} (h : b ≠ c) (k : Nat) (l : List UInt8) : Lib.splitK [c] 0 k (b :: l) = (b :: (Lib.splitK [c] 0 k l).headD []) :: (Lib.splitK [c] 0 k l).tail := by
  cases k with
  | zero => rfl
  | succ k =>
    have hge := Lib.index_ge l [c]
    unfold Lib.splitK
    rw [index_cons, if_neg h]
    by_cases h1 : Lib.index l [c] = -1
    · rw [if_pos h1, h1]; rfl
    · rw [if_neg h1]
      obtain ⟨i, hi⟩ : ∃ i : Nat, Lib.index l [c] = i := ⟨(Lib.index l [c]).toNat, by omega⟩
      rw [hi, if_neg (by simp; omega), if_neg (by simp)]
      have e1 : ((i : Int) + 1).toNat = i + 1 := by omega
      rw [e1, Int.toNat_natCast]
      simp [Nat.add_right_comm]
theorem splitK_one (c : UInt8) : ∀ l : List UInt8, (Lib.splitK [c] 0 (Lib.count l [c]) l).map nb = splI (c.toNat : Int) (nb l)
  | [] => by
    rw [Lib.count_one]
    rfl
  | b :: l => by
    have ih := splitK_one c l
    have e : nb (b :: l) = (b.toNat : Int) :: nb l := rfl
    by_cases h : b = c
    · subst h
      rw [Lib.count_cons_eq, Nat.add_comm 1, e, splI_hit, ← ih]
      have e1 : ∀ k, Lib.splitK [b] 0 (k + 1) (b :: l) = [] :: Lib.splitK [b] 0 k l := by
        intro k
        rw [Lib.splitK, index_cons, if_pos rfl, if_neg (by decide)]
        simp
      rw [e1]
      rfl
    · rw [Lib.count_cons_ne _ _ _ h, splitK_go h, e, splI_go (fun x => h ((nb_eq _ _).1 x)), ← ih]
      cases Lib.splitK [c] 0 (Lib.count l [c]) l <;> simp [nb]
theorem splitB_sb (s : ByteArray) (c : UInt8) : (Lib.splitB ⟨#[c]⟩ 0 (Lib.countB s ⟨#[c]⟩) s) = (splI (c.toNat : Int) (sb s)).map strOfNums := by
  have h1 := Lib.splitB_data ⟨#[c]⟩ 0 (Lib.countB s ⟨#[c]⟩) s
  have h2 := splitK_one c s.data.toList
  have e : (Lib.splitB ⟨#[c]⟩ 0 (Lib.countB s ⟨#[c]⟩) s).map sb = splI (c.toNat : Int) (sb s) := by
    rw [sb_nb s, ← h2]
    show List.map sb _ = (Lib.splitK [c] 0 (Lib.countB s ⟨#[c]⟩) s.data.toList).map nb
    rw [← h1, List.map_map]
    rfl
  rw [← e, List.map_map]
  conv => lhs; rw [← List.map_id (Lib.splitB ⟨#[c]⟩ 0 (Lib.countB s ⟨#[c]⟩) s)]
  apply List.map_congr_left
  intro x _
  exact (str_sb x).symm
theorem countB_splI (s : ByteArray) (c : UInt8) : Lib.countB s ⟨#[c]⟩ + 1 = (splI (c.toNat : Int) (sb s)).length := by
  have h := Lib.splitB_all ⟨#[c]⟩ (Nat.le_refl 1) 0 _ s rfl
  rw [splitB_sb, List.length_map] at h
  exact h.symm
end Go.Proofs.YtfgaikacijdodaaDoor
/-
  What a server says: plain lists; nothing runs here.
-/
namespace Go.Proofs.YtfgaikacijdodaaDoor
set_option linter.unusedVariables false
set_option linter.unusedSimpArgs false
set_option maxRecDepth 20000

/-! ### lines -/
/-- Up to 13, 10; none: there is none. -/
def lineI : List Int → Option (List Int × List Int)
  | [] => none
  | [_] => none
  | x :: y :: r => if x = 13 ∧ y = 10 then some ([], r) else (lineI (y :: r)).map fun p => (x :: p.1, p.2)
theorem lineI_cons (x : Int) (l : List Int) : lineI (x :: l) = if x = 13 ∧ l.head? = some 10 then some ([], l.tail) else (lineI l).map fun p => (x :: p.1, p.2) := by
  cases l with
  | nil => simp [lineI]
  | cons y r => simp [lineI]
theorem lineI_app : ∀ {p : List Int} (r : List Int), (∀ x ∈ p, x ≠ 13) → lineI (p ++ (13 :: 10 :: r)) = some (p, r)
  | [], r, _ => by simp [lineI]
  | x :: p, r, h => by
    have hx := h x (.head _)
    have ih := lineI_app (p := p) r (fun y hy => h y (.tail _ hy))
    rw [List.cons_append, lineI_cons, if_neg (by rintro ⟨e, _⟩; exact hx e), ih]
    rfl
theorem lineI_is : ∀ {l p r : List Int}, lineI l = some (p, r) → l = p ++ (13 :: 10 :: r)
  | [], _, _, h => by cases h
  | x :: l, p, r, h => by
    rw [lineI_cons] at h
    split at h
    · rename_i hx
      obtain ⟨rfl, hh⟩ := hx
      cases l with
      | nil => cases hh
      | cons y t =>
        simp only [List.head?_cons, Option.some.injEq] at hh
        subst hh
        cases h
        rfl
    · rw [Option.map_eq_some_iff] at h
      obtain ⟨⟨p', r'⟩, h1, h2⟩ := h
      cases h2
      rw [lineI_is h1]
      rfl
theorem lineI_len {l p r : List Int} (h : lineI l = some (p, r)) : p.length + r.length + 2 = l.length := by
  have := congrArg List.length (lineI_is h)
  simp at this; omega
theorem lineI_byt {l p r : List Int} (hB : Byt l) (h : lineI l = some (p, r)) : Byt p ∧ Byt r := by
  have e := lineI_is h
  subst e
  exact ⟨fun x hx => hB x (by simp [hx]), fun x hx => hB x (by simp [hx])⟩
/-- No line in what has no 13, but perhaps as its last. -/
theorem lineI_no : ∀ {l : List Int}, (∀ x ∈ l.dropLast, x ≠ 13) → lineI l = none
  | [], _ => rfl
  | [x], _ => rfl
  | x :: y :: r, h => by
    have hx := h x (by simp)
    rw [lineI_cons, if_neg (by rintro ⟨e, _⟩; exact hx e), lineI_no (fun z hz => h z (by simp at hz ⊢; exact .inr hz))]
    rfl
/-! ### blanks at the ends -/
def blanksI (l : List Int) : List Int := ((l.dropWhile (· == 32)).reverse.dropWhile (· == 32)).reverse
theorem blanksI_front (l : List Int) : blanksI (32 :: l) = blanksI l := by unfold blanksI; rw [List.dropWhile_cons_of_pos (by decide)]
theorem blanksI_nil : blanksI [] = [] := rfl
theorem blanksI_sub (l : List Int) : (blanksI l).Sublist l := by
  unfold blanksI
  have h1 := List.dropWhile_sublist (· == (32 : Int)) (l := (l.dropWhile (· == 32)).reverse)
  have h2 := h1.reverse
  rw [List.reverse_reverse] at h2
  exact h2.trans (List.dropWhile_sublist _)
theorem drop32_all : ∀ {l : List Int}, (∀ x ∈ l, x = 32) → l.dropWhile (· == (32 : Int)) = []
  | [], _ => rfl
  | x :: l, h => by
    rw [List.dropWhile_cons_of_pos (by simpa using h x (.head _))]
    exact drop32_all (fun y hy => h y (.tail _ hy))
theorem blanksI_back (l : List Int) : blanksI (l ++ [32]) = blanksI l := by
  unfold blanksI
  by_cases h : ∀ x ∈ l, x = 32
  · have e : l.dropWhile (· == (32 : Int)) = [] := drop32_all h
    have e2 : (l ++ [32]).dropWhile (· == (32 : Int)) = [] := by
      refine drop32_all (fun x hx => ?_)
      rcases List.mem_append.1 hx with hx | hx
      · exact h x hx
      · simpa using hx
    rw [e, e2]
  · have e : (l ++ [32]).dropWhile (· == (32 : Int)) = l.dropWhile (· == 32) ++ [32] := by
      induction l with
      | nil => exact absurd (fun x hx => by cases hx) h
      | cons y t ih =>
        by_cases hy : y = 32
        · subst hy
          rw [List.cons_append, List.dropWhile_cons_of_pos (by decide), List.dropWhile_cons_of_pos (by decide)]
          exact ih (fun h' => h (fun x hx => by rcases List.mem_cons.1 hx with rfl | hx; rfl; exact h' x hx))
        · rw [List.cons_append, List.dropWhile_cons_of_neg (by simpa using hy), List.dropWhile_cons_of_neg (by simpa using hy)]
          rfl
    rw [e, List.reverse_append]
    show (((32 : Int) :: (l.dropWhile (· == 32)).reverse).dropWhile (· == 32)).reverse = _
    rw [List.dropWhile_cons_of_pos (by decide)]
/-- What has no blank at its ends stays. -/
theorem blanksI_same {l : List Int} (h1 : l.head? ≠ some 32) (h2 : l.getLast? ≠ some 32) : blanksI l = l := by
  unfold blanksI
  have e1 : l.dropWhile (· == (32 : Int)) = l := by
    cases l with
    | nil => rfl
    | cons x t => rw [List.dropWhile_cons_of_neg (by simp at h1 ⊢; exact h1)]
  rw [e1]
  have e2 : l.reverse.dropWhile (· == (32 : Int)) = l.reverse := by
    have h3 : l.reverse.head? ≠ some 32 := by rw [List.head?_reverse]; exact h2
    cases hr : l.reverse with
    | nil => rfl
    | cons x t => rw [hr] at h3; rw [List.dropWhile_cons_of_neg (by simp at h3 ⊢; exact h3)]
  rw [e2, List.reverse_reverse]
theorem blanksI_ends {l : List Int} (h1 : l.head? ≠ some 32) (h2 : l.getLast? ≠ some 32) (a b : Nat) : blanksI (List.replicate a 32 ++ l ++ List.replicate b 32) = l := by
  have ha : ∀ a : Nat, ∀ m : List Int, blanksI (List.replicate a 32 ++ m) = blanksI m := by
    intro a
    induction a with
    | zero => intro m; rfl
    | succ a ih => intro m; rw [List.replicate_succ, List.cons_append, blanksI_front, ih]
  have hb : ∀ b : Nat, ∀ m : List Int, blanksI (m ++ List.replicate b 32) = blanksI m := by
    intro b
    induction b with
    | zero => intro m; rw [List.replicate_zero, List.append_nil]
    | succ b ih => intro m; rw [List.replicate_succ', ← List.append_assoc, blanksI_back, ih]
  rw [List.append_assoc, ha, hb, blanksI_same h1 h2]
/-! ### names and values -/
def NB (c : Int) : Prop := (65 ≤ c ∧ c ≤ 90) ∨ (97 ≤ c ∧ c ≤ 122) ∨ (48 ≤ c ∧ c ≤ 57) ∨ c = 45
instance (x : Int) : Decidable (NB x) := by unfold NB; infer_instance
def NameOk (most : Int) (l : List Int) : Prop := (∀ x ∈ l, NB x) ∧ 1 ≤ l.length ∧ (l.length : Int) ≤ most
instance (m : Int) (l : List Int) : Decidable (NameOk m l) := by unfold NameOk; infer_instance
def ValueOk (most : Int) (l : List Int) : Prop := (∀ x ∈ l, 32 ≤ x ∧ x ≤ 126) ∧ (l.length : Int) ≤ most ∧ (l = [] ∨ (l.getD 0 0 ≠ 32 ∧ l.getD (l.length - 1) 0 ≠ 32))
instance (m : Int) (l : List Int) : Decidable (ValueOk m l) := by unfold ValueOk; infer_instance
theorem ValueOk.ends {m : Int} {l : List Int} (h : ValueOk m l) : l.head? ≠ some 32 ∧ l.getLast? ≠ some 32 := by
  rcases h.2.2 with rfl | ⟨h1, h2⟩
  · exact ⟨by simp, by simp⟩
  · constructor
    · cases l with
      | nil => simp
      | cons x t => simpa using h1
    · intro e
      rw [List.getLast?_eq_getElem?] at e
      rw [List.getD_eq_getElem?_getD, e] at h2
      exact h2 rfl
/-! ### answers -/
abbrev HL := List (List Int × List Int)
structure RL where
  code : Int
  heads : HL
  body : List Int
  cut : Bool
def clI : List Int := [99, 111, 110, 116, 101, 110, 116, 45, 108, 101, 110, 103, 116, 104]
/-- A line as a header. -/
def headI (l : List Int) : Option (List Int × List Int) :=
  if behind [58] l = [] then none
  else if NameOk 20 (ahead [58] l) ∧ ValueOk 40 (blanksI ((behind [58] l).drop 1)) then some (ahead [58] l, blanksI ((behind [58] l).drop 1)) else none
/-- What a header tells of the length: wrong, nothing, a number. -/
def lenI (had : Option Int) (h : List Int × List Int) : Option (Option Int) :=
  if lowL h.1 = clI then (if had.isSome then none else (figI h.2 1 6).map some) else some had
def headsF : Nat → HL → Option Int → List Int → Option (HL × Option Int × List Int)
  | 0, _, _, _ => none
  | f + 1, hs, had, s => (lineI s).bind fun p =>
    if p.1 = [] then some (hs, had, p.2)
    else (headI p.1).bind fun h => if hs.length = 8 then none else (lenI had h).bind fun had' => headsF f (hs ++ [h]) had' p.2
theorem headsF_any : ∀ (f g : Nat) (hs : HL) (had : Option Int) (s : List Int), s.length < f → s.length < g → headsF f hs had s = headsF g hs had s
  | 0, _, _, _, s, h, _ => by omega
  | f + 1, 0, _, _, s, _, h => by omega
  | f + 1, g + 1, hs, had, s, hf, hg => by
    unfold headsF
    cases hl : lineI s with
    | none => rfl
    | some p =>
      obtain ⟨p1, p2⟩ := p
      have := lineI_len hl
      simp only [Option.bind_some]
      split
      · rfl
      · cases headI p1 with
        | none => rfl
        | some h =>
          simp only [Option.bind_some]
          split
          · rfl
          · cases lenI had h with
            | none => rfl
            | some h' => exact headsF_any f g _ _ _ (by omega) (by omega)
def headsI (hs : HL) (had : Option Int) (s : List Int) : Option (HL × Option Int × List Int) := headsF (s.length + 1) hs had s
theorem headsI_step (hs : HL) (had : Option Int) (s : List Int) : headsI hs had s = (lineI s).bind fun p =>
    if p.1 = [] then some (hs, had, p.2)
    else (headI p.1).bind fun h => if hs.length = 8 then none else (lenI had h).bind fun had' => headsI (hs ++ [h]) had' p.2 := by
  unfold headsI
  rw [headsF]
  cases hl : lineI s with
  | none => rfl
  | some p =>
    obtain ⟨p1, p2⟩ := p
    have := lineI_len hl
    simp only [Option.bind_some]
    split
    · rfl
    · cases headI p1 with
      | none => rfl
      | some h =>
        simp only [Option.bind_some]
        split
        · rfl
        · cases lenI had h with
          | none => rfl
          | some h' => exact headsF_any _ _ _ _ _ (by omega) (by omega)
def verI : List Int := [72, 84, 84, 80, 47, 49, 46, 49, 32]
/-- What a first line says. -/
def firstI (l : List Int) : Option Int :=
  if begI verI l ∧ 12 ≤ l.length then (figI ((l.drop 9).take 3) 3 3).bind fun n => if n < 100 ∨ 599 < n then none else some n else none
def bodyI (had : Option Int) (s : List Int) : List Int × Bool := match had with
  | none => (s, false)
  | some n => (s.take n.toNat, decide ((s.length : Int) < n))
def replyI (s : List Int) : Option RL := (lineI s).bind fun p => (firstI p.1).bind fun c => (headsI [] none p.2).map fun q => ⟨c, q.1, (bodyI q.2.1 q.2.2).1, (bodyI q.2.1 q.2.2).2⟩
/-! ### prints -/
def headP (h : List Int × List Int) : List Int := h.1 ++ ([58, 32] ++ (h.2 ++ [13, 10]))
def headsP (hs : HL) : List Int := hs.flatMap headP
def replyP (code : Nat) (hs : HL) (body : List Int) : List Int := verI ++ (digs code ++ ([32, 45, 13, 10] ++ (headsP hs ++ ([13, 10] ++ body))))
def HeadOk (h : List Int × List Int) : Prop := NameOk 20 h.1 ∧ ValueOk 40 h.2
theorem nb_no {x : Int} (h : NB x) : x ≠ 58 ∧ x ≠ 13 := by unfold NB at h; omega
/-- A line of a name, blanks, a value, blanks. -/
theorem headI_line {n v : List Int} (h : HeadOk (n, v)) (a b : Nat) : headI (n ++ 58 :: (List.replicate a 32 ++ v ++ List.replicate b 32)) = some (n, v) := by
  have hn : ∀ y ∈ n, ([58] : List Int).contains y = false := fun y hy => by
    rw [← Bool.not_eq_true]; intro hc; have := (nb_no (h.1.1 y hy)).1; simp at hc; exact this hc
  have hs := ahead_stop (st := [58]) (r := List.replicate a 32 ++ v ++ List.replicate b 32) hn (x := 58) (by decide)
  have he := h.2.ends
  unfold headI
  rw [hs.1, hs.2, if_neg (by simp), List.drop_succ_cons, List.drop_zero, blanksI_ends he.1 he.2]
  exact if_pos h
theorem line_ne {n v : List Int} (h : HeadOk (n, v)) (r : List Int) : n ++ 58 :: r ≠ [] := by simp
theorem line_13 {n v : List Int} (h : HeadOk (n, v)) (a b : Nat) : ∀ x ∈ n ++ 58 :: (List.replicate a 32 ++ v ++ List.replicate b 32), x ≠ 13 := by
  intro x hx
  simp only [List.mem_append, List.mem_cons, List.mem_replicate] at hx
  rcases hx with hx | rfl | (⟨_, rfl⟩ | hx) | ⟨_, rfl⟩
  · exact (nb_no (h.1.1 x hx)).2
  · decide
  · decide
  · have := h.2.1 x hx; omega
  · decide
/-- A header's line is read, whatever blanks stand beside its value. -/
theorem headsI_line {n v : List Int} (h : HeadOk (n, v)) (a b : Nat) (hs : HL) (had : Option Int) (s : List Int) :
    headsI hs had (n ++ 58 :: (List.replicate a 32 ++ v ++ List.replicate b 32) ++ (13 :: 10 :: s)) = if hs.length = 8 then none else (lenI had (n, v)).bind fun had' => headsI (hs ++ [(n, v)]) had' s := by
  rw [headsI_step, lineI_app _ (line_13 h a b)]
  simp only [Option.bind_some]
  rw [if_neg (line_ne h _), headI_line h a b]
  rfl
theorem headsI_end (hs : HL) (had : Option Int) (s : List Int) : headsI hs had (13 :: 10 :: s) = some (hs, had, s) := by
  rw [headsI_step, show (13 : Int) :: 10 :: s = [] ++ (13 :: 10 :: s) from rfl, lineI_app _ (by simp)]
  rfl
/-- Printed headers, read. -/
def lensI : Option Int → HL → Option (Option Int)
  | had, [] => some had
  | had, h :: hs => (lenI had h).bind fun had' => lensI had' hs
theorem headsI_print : ∀ (hs ks : HL) (had : Option Int) (s : List Int), (∀ h ∈ hs, HeadOk h) → ks.length + hs.length ≤ 8 →
    headsI ks had (headsP hs ++ (13 :: 10 :: s)) = (lensI had hs).map fun had' => (ks ++ hs, had', s)
  | [], ks, had, s, _, _ => by
    show headsI ks had (13 :: 10 :: s) = _
    rw [headsI_end]
    simp [lensI]
  | h :: hs, ks, had, s, hok, hl => by
    obtain ⟨n, v⟩ := h
    have h0 := hok (n, v) (.head _)
    have e : headsP ((n, v) :: hs) ++ (13 :: 10 :: s) = n ++ 58 :: (List.replicate 1 32 ++ v ++ List.replicate 0 32) ++ (13 :: 10 :: (headsP hs ++ (13 :: 10 :: s))) := by
      simp [headsP, headP]
    simp only [List.length_cons] at hl
    rw [e, headsI_line h0, if_neg (by omega)]
    simp only [lensI]
    cases lenI had (n, v) with
    | none => rfl
    | some had' =>
      simp only [Option.bind_some]
      rw [headsI_print hs (ks ++ [(n, v)]) had' s (fun x hx => hok x (.tail _ hx)) (by rw [List.length_append]; simp; omega)]
      simp
theorem digs_three {c : Nat} (h1 : 100 ≤ c) (h2 : c ≤ 999) : (digs c).length = 3 := by
  rw [digs_step (by omega) (by omega), digs_step (by omega) (by omega), digs_small (by omega)]; rfl
theorem first_print {c : Nat} (h1 : 100 ≤ c) (h2 : c ≤ 599) (t : List Int) : firstI (verI ++ (digs c ++ t)) = some (c : Int) := by
  have h3 := digs_three h1 (by omega)
  unfold firstI
  rw [if_pos ⟨by rw [begI_iff, List.take_left'] ; rfl, by rw [List.length_append, List.length_append, h3]; simp [verI]; omega⟩]
  have e : ((verI ++ (digs c ++ t)).drop 9).take 3 = digs c := by
    rw [show (9 : Nat) = verI.length from rfl, List.drop_left, ← h3, List.take_left']; rfl
  rw [e]
  unfold figI
  rw [if_pos ⟨by rw [h3]; decide, by rw [h3]; decide, digs_dig c⟩, fig_digs (by omega)]
  simp only [Option.bind_some]
  rw [if_neg (by omega)]
theorem ver_13 : ∀ x ∈ verI, x ≠ 13 := by decide
/-- A printed answer, read. -/
theorem replyI_print {c : Nat} (h1 : 100 ≤ c) (h2 : c ≤ 599) {hs : HL} (hok : ∀ h ∈ hs, HeadOk h) (hl : hs.length ≤ 8) (body : List Int) :
    replyI (replyP c hs body) = (lensI none hs).map fun had => ⟨c, hs, (bodyI had body).1, (bodyI had body).2⟩ := by
  have e : replyP c hs body = (verI ++ (digs c ++ [32, 45])) ++ (13 :: 10 :: (headsP hs ++ (13 :: 10 :: body))) := by simp [replyP]
  have h13 : ∀ x ∈ verI ++ (digs c ++ [32, 45]), x ≠ 13 := by
    intro x hx
    rcases List.mem_append.1 hx with hx | hx
    · exact ver_13 x hx
    · rcases List.mem_append.1 hx with hx | hx
      · have := digs_dig c x hx; omega
      · simp at hx; omega
  unfold replyI
  rw [e, lineI_app _ h13]
  simp only [Option.bind_some]
  rw [first_print h1 h2, Option.bind_some, headsI_print hs [] none body hok (by simpa using hl)]
  cases lensI none hs <;> rfl
end Go.Proofs.YtfgaikacijdodaaDoor
/-
  What is sent: requests as lists of bytes, their texts, and what a text says: plain lists; nothing runs here.
-/
namespace Go.Proofs.YtfgaikacijdodaaDoor
set_option linter.unusedVariables false
set_option linter.unusedSimpArgs false
set_option maxRecDepth 20000

structure AL where
  m : List Int
  u : List Int
  hs : HL
  body : List Int
def http11 : List Int := [32, 72, 84, 84, 80, 47, 49, 46, 49]
def hostW : List Int := [72, 111, 115, 116, 58, 32]
def schemeW : List Int := [83, 99, 104, 101, 109, 101, 58, 32]
def clW : List Int := [67, 111, 110, 116, 101, 110, 116, 45, 76, 101, 110, 103, 116, 104]
def MethOk (m : List Int) : Prop := 1 ≤ m.length ∧ m.length ≤ 8 ∧ ∀ x ∈ m, 65 ≤ x ∧ x ≤ 90
instance (m : List Int) : Decidable (MethOk m) := by unfold MethOk; infer_instance
def ValA (v : List Int) : Prop := (∀ x ∈ v, 32 ≤ x ∧ x ≤ 126) ∧ (v = [] ∨ (v.getD 0 0 ≠ 32 ∧ v.getD (v.length - 1) 0 ≠ 32))
instance (v : List Int) : Decidable (ValA v) := by unfold ValA; infer_instance
def NamA (n : List Int) : Prop := n ≠ [] ∧ ∀ x ∈ n, (32 ≤ x ∧ x ≤ 126) ∧ x ≠ 58
instance (n : List Int) : Decidable (NamA n) := by unfold NamA; infer_instance
def HeadA (h : List Int × List Int) : Prop := NamA h.1 ∧ ValA h.2
instance (h : List Int × List Int) : Decidable (HeadA h) := by unfold HeadA; infer_instance
def AskOk (a : AL) (u : UL) : Prop := printI u = a.u ∧ MethOk a.m ∧ ∀ h ∈ a.hs, HeadA h
instance (a : AL) (u : UL) : Decidable (AskOk a u) := by unfold AskOk; infer_instance
def lenT (body : List Int) : List Int := if body = [] then [] else headP (clW, digs body.length)
def topA (m : List Int) (u : UL) : List Int := m ++ (32 :: (u.path ++ (u.query ++ (http11 ++ (13 :: 10 :: (hostW ++ (u.host ++ (portT u ++ (13 :: 10 :: (schemeW ++ (u.sch ++ [13, 10])))))))))))
def textA (a : AL) (u : UL) : List Int := topA a.m u ++ (headsP a.hs ++ (lenT a.body ++ (13 :: 10 :: a.body)))
def askP (a : AL) : Option (List Int) := (parseI a.u).bind fun u => if AskOk a u then some (textA a u) else none

/-! ### what a text says -/
def endI (p l : List Int) : Bool := decide (p.length ≤ l.length) && decide (l.drop (l.length - p.length) = p)
def headA (l : List Int) : Option (List Int × List Int) := if 2 ≤ (behind [58] l).length ∧ (behind [58] l).getD 1 0 = 32 then some (ahead [58] l, (behind [58] l).drop 2) else none
def headsAF : Nat → HL → List Int → Option (HL × List Int)
  | 0, _, _ => none
  | f + 1, hs, s => (lineI s).bind fun p => if p.1 = [] then some (hs, p.2) else (headA p.1).bind fun h => headsAF f (hs ++ [h]) p.2
theorem headsAF_any : ∀ (f g : Nat) (hs : HL) (s : List Int), s.length < f → s.length < g → headsAF f hs s = headsAF g hs s
  | 0, _, _, s, h, _ => by omega
  | f + 1, 0, _, s, _, h => by omega
  | f + 1, g + 1, hs, s, hf, hg => by
    unfold headsAF
    cases hl : lineI s with
    | none => rfl
    | some p =>
      obtain ⟨p1, p2⟩ := p
      have := lineI_len hl
      simp only [Option.bind_some]
      split
      · rfl
      · cases headA p1 with
        | none => rfl
        | some h => exact headsAF_any f g _ _ (by omega) (by omega)
def headsA (hs : HL) (s : List Int) : Option (HL × List Int) := headsAF (s.length + 1) hs s
theorem headsA_step (hs : HL) (s : List Int) : headsA hs s = (lineI s).bind fun p => if p.1 = [] then some (hs, p.2) else (headA p.1).bind fun h => headsA (hs ++ [h]) p.2 := by
  unfold headsA
  rw [headsAF]
  cases hl : lineI s with
  | none => rfl
  | some p =>
    obtain ⟨p1, p2⟩ := p
    have := lineI_len hl
    simp only [Option.bind_some]
    split
    · rfl
    · cases headA p1 with
      | none => rfl
      | some h => exact headsAF_any _ _ _ _ (by omega) (by omega)
/-- The first line's path, between the blank and the version. -/
def pathA (l : List Int) : List Int := ((behind [32] l).take ((behind [32] l).length - 9)).drop 1
def lastA (q : HL × List Int) : HL := if q.2 = [] then q.1 else q.1.dropLast
def candI (s : List Int) : Option AL := (lineI s).bind fun p1 =>
  if 11 ≤ (behind [32] p1.1).length ∧ endI http11 (behind [32] p1.1) = true then (lineI p1.2).bind fun p2 =>
    if begI hostW p2.1 = true then (lineI p2.2).bind fun p3 =>
      if begI schemeW p3.1 = true then (headsA [] p3.2).map fun q => ⟨ahead [32] p1.1, p3.1.drop 8 ++ ([58, 47, 47] ++ (p2.1.drop 6 ++ pathA p1.1)), lastA q, q.2⟩ else none
    else none
  else none
def askI (s : List Int) : Option AL := (candI s).bind fun a => if askP a = some s then some a else none
theorem askI_is {s : List Int} {a : AL} (h : askI s = some a) : askP a = some s := by
  unfold askI at h
  rw [Option.bind_eq_some_iff] at h
  obtain ⟨b, _, h⟩ := h
  split at h
  · rename_i hb; cases h; exact hb
  · cases h
/-! ### what was printed is read -/
theorem headA_line {n v : List Int} (h : HeadA (n, v)) : headA (n ++ ([58, 32] ++ v)) = some (n, v) := by
  have hn : ∀ y ∈ n, ([58] : List Int).contains y = false := fun y hy => by
    rw [← Bool.not_eq_true]; intro hc; simp at hc; exact (h.1.2 y hy).2 hc
  have hs := ahead_stop (st := [58]) (r := 32 :: v) hn (x := 58) (by decide)
  unfold headA
  rw [show n ++ ([58, 32] ++ v) = n ++ 58 :: (32 :: v) from rfl, hs.1, hs.2, if_pos ⟨by simp, by simp⟩]
  rfl
theorem line_head {n v : List Int} (h : HeadA (n, v)) (s : List Int) : lineI (headP (n, v) ++ s) = some (n ++ ([58, 32] ++ v), s) := by
  have e : headP (n, v) ++ s = (n ++ ([58, 32] ++ v)) ++ (13 :: 10 :: s) := by simp [headP]
  rw [e]
  refine lineI_app s (fun x hx => ?_)
  simp only [List.mem_append, List.mem_cons, List.not_mem_nil, or_false] at hx
  rcases hx with hx | (rfl | rfl) | hx
  · have := (h.1.2 x hx).1; omega
  · decide
  · decide
  · have := h.2.1 x hx; omega
theorem headsA_print : ∀ (hs ks : HL) (s : List Int), (∀ h ∈ hs, HeadA h) → headsA ks (headsP hs ++ (13 :: 10 :: s)) = some (ks ++ hs, s)
  | [], ks, s, _ => by
    show headsA ks (13 :: 10 :: s) = _
    rw [headsA_step, show (13 : Int) :: 10 :: s = [] ++ (13 :: 10 :: s) from rfl, lineI_app _ (by simp)]
    simp
  | h :: hs, ks, s, hok => by
    obtain ⟨n, v⟩ := h
    have h0 := hok (n, v) (.head _)
    have e : headsP ((n, v) :: hs) ++ (13 :: 10 :: s) = headP (n, v) ++ (headsP hs ++ (13 :: 10 :: s)) := by simp [headsP]
    rw [e, headsA_step, line_head h0, Option.bind_some]
    simp only
    have hne : n ++ ([58, 32] ++ v) ≠ [] := by simp
    rw [if_neg hne, headA_line h0, Option.bind_some, headsA_print hs _ s (fun x hx => hok x (.tail _ hx))]
    simp
theorem headsP_app (a b : HL) : headsP (a ++ b) = headsP a ++ headsP b := by unfold headsP; rw [List.flatMap_append]
theorem clA (n : Nat) : HeadA (clW, digs n) := by
  have hd := digs_dig n
  have hl := digs_len n
  have hc : NamA clW := by decide
  refine ⟨hc, fun x hx => by have := hd x hx; omega, .inr ⟨?_, ?_⟩⟩
  · have hm : (digs n).getD 0 0 ∈ digs n := by rw [List.getD_eq_getElem?_getD, List.getElem?_eq_getElem (by omega)]; exact List.getElem_mem _
    have := hd _ hm
    show (digs n).getD 0 0 ≠ 32
    omega
  · have hm : (digs n).getD ((digs n).length - 1) 0 ∈ digs n := by rw [List.getD_eq_getElem?_getD, List.getElem?_eq_getElem (by omega)]; exact List.getElem_mem _
    have := hd _ hm
    show (digs n).getD ((digs n).length - 1) 0 ≠ 32
    omega
theorem cand_print {a : AL} {u : UL} (hB : Byt a.u) (hp : parseI a.u = some u) (hok : AskOk a u) : candI (textA a u) = some a := by
  have hN := parseI_norm hB hp
  obtain ⟨hpr, hm, hh⟩ := hok
  have hasc := printI_ascii hN
  rw [printI_parts] at hasc
  simp only [List.mem_append] at hasc
  have c1 : ∀ x ∈ u.sch, 33 ≤ x ∧ x ≤ 126 := fun x hx => hasc x (.inl hx)
  have c2 : ∀ x ∈ u.host, 33 ≤ x ∧ x ≤ 126 := fun x hx => hasc x (.inr (.inr (.inl hx)))
  have c3 : ∀ x ∈ portT u, 33 ≤ x ∧ x ≤ 126 := fun x hx => hasc x (.inr (.inr (.inr (.inl hx))))
  have c4 : ∀ x ∈ u.path, 33 ≤ x ∧ x ≤ 126 := fun x hx => hasc x (.inr (.inr (.inr (.inr (.inl hx)))))
  have c5 : ∀ x ∈ u.query, 33 ≤ x ∧ x ≤ 126 := fun x hx => hasc x (.inr (.inr (.inr (.inr (.inr hx)))))
  obtain ⟨r0, hr0⟩ := hN.pathOk.head
  have e1 : textA a u = (a.m ++ 32 :: (u.path ++ (u.query ++ http11))) ++ (13 :: 10 :: ((hostW ++ (u.host ++ portT u)) ++ (13 :: 10 :: ((schemeW ++ u.sch) ++ (13 :: 10 :: (headsP a.hs ++ (lenT a.body ++ (13 :: 10 :: a.body)))))))) := by
    simp [textA, topA, List.append_assoc]
  have l1 : ∀ x ∈ a.m ++ 32 :: (u.path ++ (u.query ++ http11)), x ≠ 13 := by
    intro x hx
    simp only [List.mem_append, List.mem_cons] at hx
    rcases hx with hx | rfl | hx | hx | hx
    · have := hm.2.2 x hx; omega
    · decide
    · have := c4 x hx; omega
    · have := c5 x hx; omega
    · have h9 : ∀ x ∈ http11, x ≠ 13 := by decide
      exact h9 x hx
  have l2 : ∀ x ∈ hostW ++ (u.host ++ portT u), x ≠ 13 := by
    intro x hx
    simp only [List.mem_append] at hx
    rcases hx with hx | hx | hx
    · have h9 : ∀ x ∈ hostW, x ≠ 13 := by decide
      exact h9 x hx
    · have := c2 x hx; omega
    · have := c3 x hx; omega
  have l3 : ∀ x ∈ schemeW ++ u.sch, x ≠ 13 := by
    intro x hx
    rcases List.mem_append.1 hx with hx | hx
    · have h9 : ∀ x ∈ schemeW, x ≠ 13 := by decide
      exact h9 x hx
    · have := c1 x hx; omega
  have hst := ahead_stop (st := [32]) (p := a.m) (r := u.path ++ (u.query ++ http11)) (fun y hy => by
    rw [← Bool.not_eq_true]; intro hc; simp at hc; have := hm.2.2 y hy; omega) (x := 32) (by decide)
  have h9 : http11.length = 9 := rfl
  have hlen : (32 :: (u.path ++ (u.query ++ http11))).length = u.path.length + u.query.length + 10 := by simp [h9]; omega
  have hpath : 1 ≤ u.path.length := by rw [hr0]; simp
  have hend : endI http11 (32 :: (u.path ++ (u.query ++ http11))) = true := by
    unfold endI
    rw [Bool.and_eq_true, decide_eq_true_iff, decide_eq_true_iff, hlen, h9]
    refine ⟨by omega, ?_⟩
    have e : (32 :: (u.path ++ (u.query ++ http11))) = (32 :: (u.path ++ u.query)) ++ http11 := by simp
    rw [e, show u.path.length + u.query.length + 10 - 9 = (32 :: (u.path ++ u.query)).length by simp, List.drop_left]
  have hpa : pathA (a.m ++ 32 :: (u.path ++ (u.query ++ http11))) = u.path ++ u.query := by
    unfold pathA
    rw [hst.2, hlen]
    have e : (32 :: (u.path ++ (u.query ++ http11))) = (32 :: (u.path ++ u.query)) ++ http11 := by simp
    rw [e, show u.path.length + u.query.length + 10 - 9 = (32 :: (u.path ++ u.query)).length by simp, List.take_left]
    rfl
  have hb1 : begI hostW (hostW ++ (u.host ++ portT u)) = true := by rw [begI_iff, List.take_left']; rfl
  have hb2 : begI schemeW (schemeW ++ u.sch) = true := by rw [begI_iff, List.take_left']; rfl
  have hhs : headsA [] (headsP a.hs ++ (lenT a.body ++ (13 :: 10 :: a.body))) = some (if a.body = [] then a.hs else a.hs ++ [(clW, digs a.body.length)], a.body) := by
    unfold lenT
    by_cases hb : a.body = []
    · rw [if_pos hb, if_pos hb, List.nil_append, headsA_print _ _ _ hh, List.nil_append]
    · rw [if_neg hb, if_neg hb, ← List.append_assoc]
      have e : headsP a.hs ++ headP (clW, digs a.body.length) = headsP (a.hs ++ [(clW, digs a.body.length)]) := by rw [headsP_app]; simp [headsP]
      rw [e, headsA_print, List.nil_append]
      intro x hx
      rcases List.mem_append.1 hx with hx | hx
      · exact hh x hx
      · rw [List.mem_singleton.1 hx]; exact clA _
  unfold candI
  rw [e1, lineI_app _ l1, Option.bind_some]
  simp only
  rw [hst.2, if_pos ⟨by rw [hlen]; omega, hend⟩, lineI_app _ l2, Option.bind_some]
  simp only
  rw [if_pos hb1, lineI_app _ l3, Option.bind_some]
  simp only
  rw [if_pos hb2, hhs, Option.map_some, hst.1, hpa]
  have hla : lastA (if a.body = [] then a.hs else a.hs ++ [(clW, digs a.body.length)], a.body) = a.hs := by
    unfold lastA
    by_cases hb : a.body = []
    · simp [hb]
    · simp [hb]
  rw [hla]
  have hu : (schemeW ++ u.sch).drop 8 ++ ([58, 47, 47] ++ ((hostW ++ (u.host ++ portT u)).drop 6 ++ (u.path ++ u.query))) = a.u := by
    rw [← hpr, printI_parts, show (8 : Nat) = schemeW.length from rfl, List.drop_left, show (6 : Nat) = hostW.length from rfl, List.drop_left]
    simp [List.append_assoc]
  rw [hu]
theorem askI_print {a : AL} {t : List Int} (hB : Byt a.u) (h : askP a = some t) : askI t = some a := by
  have h0 := h
  unfold askP at h
  rw [Option.bind_eq_some_iff] at h
  obtain ⟨u, hp, h⟩ := h
  split at h
  · rename_i hok
    cases h
    unfold askI
    rw [cand_print hB hp hok, Option.bind_some, if_pos h0]
  · cases h
theorem askP_inj {a b : AL} {t : List Int} (ha : Byt a.u) (hb : Byt b.u) (h1 : askP a = some t) (h2 : askP b = some t) : a = b :=
  Option.some.inj ((askI_print ha h1).symm.trans (askI_print hb h2))
end Go.Proofs.YtfgaikacijdodaaDoor
/-
  Where a page may connect to: lists of sources, what a source is, what it matches: plain lists; nothing runs here.
-/
namespace Go.Proofs.YtfgaikacijdodaaDoor
set_option linter.unusedVariables false
set_option linter.unusedSimpArgs false
set_option maxRecDepth 20000

/-! ### words between blanks -/
def pushW (w : List Int) : List (List Int) := if w = [] then [] else [w]
/-- The words of what is left, w read already. -/
def wordsF (w : List Int) : List Int → List (List Int)
  | [] => pushW w
  | x :: t => if x = 32 then pushW w ++ wordsF [] t else wordsF (w ++ [x]) t
def wordsI (l : List Int) : List (List Int) := wordsF [] l
theorem wordsF_app : ∀ (p w t : List Int), (∀ x ∈ p, x ≠ 32) → wordsF w (p ++ t) = wordsF (w ++ p) t
  | [], w, t, _ => by rw [List.nil_append, List.append_nil]
  | x :: p, w, t, h => by
    rw [List.cons_append, wordsF, if_neg (h x (.head _)), wordsF_app p (w ++ [x]) t (fun y hy => h y (.tail _ hy)), List.append_assoc, List.singleton_append]
theorem wordsF_spl : ∀ (l w : List Int), wordsF w l = ((w ++ (splI 32 l).headD []) :: (splI 32 l).tail).filter (fun p => decide (p ≠ []))
  | [], w => by
    show pushW w = _
    unfold pushW
    by_cases h : w = []
    · subst h; rfl
    · rw [if_neg h]; simp [splI, h]
  | x :: t, w => by
    rw [wordsF]
    by_cases h : x = 32
    · subst h
      rw [if_pos rfl, splI_hit, wordsF_spl t []]
      have e : ([] ++ (splI 32 t).headD []) :: (splI 32 t).tail = splI 32 t := by
        cases hs : splI 32 t with
        | nil => exact absurd hs (splI_ne 32 t)
        | cons a b => rfl
      rw [e]
      unfold pushW
      by_cases hw : w = []
      · subst hw; simp
      · rw [if_neg hw]; simp [hw]
    · rw [if_neg h, wordsF_spl t (w ++ [x]), splI_go h]
      simp
/-- The words: the parts between blanks that are not empty. -/
theorem wordsI_spl (l : List Int) : wordsI l = (splI 32 l).filter (fun p => decide (p ≠ [])) := by
  unfold wordsI
  rw [wordsF_spl]
  congr 1
  cases hs : splI 32 l with
  | nil => exact absurd hs (splI_ne 32 l)
  | cons a b => rfl
theorem wordsF_byt : ∀ (l w : List Int), Byt w → Byt l → ∀ p ∈ wordsF w l, Byt p
  | [], w, hw, _, p, hp => by
    have : p ∈ pushW w := hp
    unfold pushW at this
    split at this
    · cases this
    · rw [List.mem_singleton.1 this]; exact hw
  | x :: t, w, hw, hl, p, hp => by
    rw [wordsF] at hp
    split at hp
    · rcases List.mem_append.1 hp with hp | hp
      · unfold pushW at hp
        split at hp
        · cases hp
        · rw [List.mem_singleton.1 hp]; exact hw
      · exact wordsF_byt t [] (fun y hy => by cases hy) (fun y hy => hl y (.tail _ hy)) p hp
    · refine wordsF_byt t (w ++ [x]) (fun y hy => ?_) (fun y hy => hl y (.tail _ hy)) p hp
      rcases List.mem_append.1 hy with hy | hy
      · exact hw y hy
      · rw [List.mem_singleton.1 hy]; exact hl x (.head _)
theorem wordsI_byt {l : List Int} (h : Byt l) : ∀ p ∈ wordsI l, Byt p := wordsF_byt l [] (fun y hy => by cases hy) h
theorem wordsF_len : ∀ (l w : List Int), (wordsF w l).length ≤ l.length + 1 ∧ ∀ p ∈ wordsF w l, p ≠ [] ∧ p.length ≤ w.length + l.length ∧ (∀ x ∈ p, x ∈ w ∨ (x ∈ l ∧ x ≠ 32))
  | [], w => by
    show (pushW w).length ≤ 1 ∧ ∀ p ∈ pushW w, _
    unfold pushW
    split
    · exact ⟨by simp, fun p hp => by cases hp⟩
    · rename_i h
      refine ⟨by simp, fun p hp => ?_⟩
      rw [List.mem_singleton.1 hp]
      exact ⟨h, by omega, fun x hx => .inl hx⟩
  | x :: t, w => by
    rw [wordsF]
    split
    · rename_i hx
      obtain ⟨h1, h2⟩ := wordsF_len t []
      have hp : (pushW w).length ≤ 1 ∧ ∀ p ∈ pushW w, p = w ∧ w ≠ [] := by
        unfold pushW
        split
        · exact ⟨by simp, fun p hp => by cases hp⟩
        · rename_i h; exact ⟨by simp, fun p hp => ⟨List.mem_singleton.1 hp, h⟩⟩
      refine ⟨by rw [List.length_append, List.length_cons]; omega, fun p hm => ?_⟩
      rcases List.mem_append.1 hm with hm | hm
      · obtain ⟨rfl, hne⟩ := hp.2 p hm
        exact ⟨hne, by omega, fun x hx => .inl hx⟩
      · obtain ⟨a, b, c⟩ := h2 p hm
        refine ⟨a, by simp at b ⊢; omega, fun y hy => ?_⟩
        rcases c y hy with h | h
        · cases h
        · exact .inr ⟨.tail _ h.1, h.2⟩
    · rename_i hx
      obtain ⟨h1, h2⟩ := wordsF_len t (w ++ [x])
      refine ⟨by rw [List.length_cons]; omega, fun p hm => ?_⟩
      obtain ⟨a, b, c⟩ := h2 p hm
      refine ⟨a, by simp at b ⊢; omega, fun y hy => ?_⟩
      rcases c y hy with h | h
      · rcases List.mem_append.1 h with h | h
        · exact .inl h
        · rw [List.mem_singleton.1 h]; exact .inr ⟨.head _, hx⟩
      · exact .inr ⟨.tail _ h.1, h.2⟩

/-! ### a source -/
def noneW : List Int := [39, 110, 111, 110, 101, 39]
def selfW : List Int := [39, 115, 101, 108, 102, 39]
def markI : List Int := [58, 47, 47]
structure SL where
  sch : List Int
  host : List Int
  port : List Int
def starI (h : List Int) : List Int := if begI [42, 46] h = true then h.drop 2 else h
def PortW (p : List Int) : Prop := p = [42] ∨ ∃ n, figI p 1 5 = some n ∧ n ≤ 65535
instance (p : List Int) : Decidable (PortW p) := by
  unfold PortW
  cases h : figI p 1 5 with
  | none => exact decidable_of_iff (p = [42]) ⟨.inl, fun h => h.elim id (fun ⟨n, h, _⟩ => by cases h)⟩
  | some n => exact decidable_of_iff (p = [42] ∨ n ≤ 65535) ⟨fun h => h.elim .inl (fun h => .inr ⟨n, rfl, h⟩), fun h => h.elim .inl (fun ⟨m, e, h⟩ => by cases e; exact .inr h)⟩
/-- A host and a port behind a scheme, or behind none. -/
def hostP (sch r : List Int) : Option SL :=
  if HostOk (starI (ahead [58] r)) ∧ (behind [58] r = [] ∨ PortW ((behind [58] r).drop 1)) then some ⟨sch, ahead [58] r, (behind [58] r).drop 1⟩ else none
/-- A source, its letters small already. -/
def sourceL (s : List Int) : Option SL :=
  if s = httpI ++ [58] then some ⟨httpI, [], []⟩
  else if begI (httpI ++ markI) s = true then hostP httpI (s.drop 7)
  else if s = httpsI ++ [58] then some ⟨httpsI, [], []⟩
  else if begI (httpsI ++ markI) s = true then hostP httpsI (s.drop 8)
  else hostP [] s
def sourceI (s : List Int) : Option SL := sourceL (lowL s)
/-! ### Check, Match, Allows -/
def WordOk (k : Nat) (w : List Int) : Prop := (lowL w = noneW → k ≤ 1) ∧ ((sourceI w).isSome ∨ lowL w = noneW ∨ lowL w = selfW ∨ lowL w = [42])
instance (k : Nat) (w : List Int) : Decidable (WordOk k w) := by unfold WordOk; infer_instance
def checkI (l : List Int) : Bool := decide (l.length ≤ 40) && (wordsI l).all fun w => decide (WordOk (wordsI l).length w)
def likeI (sch : List Int) (u : UL) : Bool := decide (u.sch = sch) || (decide (sch = httpI) && decide (u.sch = httpsI))
def ownPort (u : UL) : Int := if u.port = 0 then ownI u.sch else u.port
def portM (p : List Int) (u : UL) : Bool := if p = [42] then true else if p = [] then decide (u.port = 0) else decide (ownPort u = (figI p 1 5).getD 0)
def hostM (h : List Int) (u : UL) : Bool := if begI [42, 46] h = true then endI (h.drop 1) u.host && decide (u.host.length ≠ h.length - 1) else decide (u.host = h)
def matchS (x : SL) (page u : UL) : Bool := if x.host = [] then likeI x.sch u else likeI (if x.sch = [] then page.sch else x.sch) u && (hostM x.host u && portM x.port u)
def matchI (s : List Int) (page u : UL) : Bool := if lowL s = selfW then decide (originI page = originI u) else if lowL s = [42] then true else match sourceI s with
  | none => false
  | some x => matchS x page u
def allowsI (l : List Int) (page u : UL) : Bool := (wordsI l).any (fun w => matchI w page u) || decide (wordsI l = [])
end Go.Proofs.YtfgaikacijdodaaDoor
/-
  Lists of bytes cut at whatever sign, ends cut off; the library's own cuts: nothing runs here.
-/
namespace Go.Proofs.YtfgaikacijdodaaDoor
set_option linter.unusedVariables false
set_option linter.unusedSimpArgs false
set_option maxRecDepth 20000

/-! ### a cut at whatever sign -/
def cutS (p : List Int) : List Int → List Int × List Int × Bool
  | [] => ([], [], false)
  | x :: t => if begI p (x :: t) = true then ([], (x :: t).drop p.length, true) else (x :: (cutS p t).1, (cutS p t).2.1, (cutS p t).2.2)
theorem cut_nb {p : List UInt8} (hp : p ≠ []) : ∀ l : List UInt8, nb (Lib.cut l p).1 = (cutS (nb p) (nb l)).1 ∧ nb (Lib.cut l p).2.1 = (cutS (nb p) (nb l)).2.1 ∧ (Lib.cut l p).2.2 = (cutS (nb p) (nb l)).2.2
  | [] => by rw [cut_nil hp]; exact ⟨rfl, rfl, rfl⟩
  | b :: l => by
    have ih := cut_nb hp l
    have e : nb (b :: l) = (b.toNat : Int) :: nb l := rfl
    rw [cut_cons, pre_begI, e, cutS]
    by_cases h : begI (nb p) ((b.toNat : Int) :: nb l) = true
    · rw [if_pos h, if_pos h]
      refine ⟨rfl, ?_, rfl⟩
      show nb ((b :: l).drop p.length) = _
      rw [← e]
      unfold nb
      rw [List.map_drop, List.length_map]
    · rw [if_neg h, if_neg h]
      exact ⟨by show (b.toNat : Int) :: nb _ = _; rw [ih.1], ih.2⟩
theorem cutS_skip {c : Int} {p : List Int} : ∀ {l : List Int} (r : List Int), (∀ x ∈ l, x ≠ c) → cutS (c :: p) (l ++ r) = (l ++ (cutS (c :: p) r).1, (cutS (c :: p) r).2.1, (cutS (c :: p) r).2.2)
  | [], r, _ => rfl
  | x :: l, r, h => by
    have hx := h x (.head _)
    have hb : ¬ begI (c :: p) (x :: (l ++ r)) = true := by
      rw [begI_iff, List.length_cons, List.take_succ_cons]
      intro e
      injection e with e1 _
      exact hx e1
    rw [List.cons_append, cutS, if_neg hb, cutS_skip r (fun y hy => h y (.tail _ hy))]
    rfl
theorem cutS_hit {p : List Int} {x : Int} (l : List Int) : cutS (x :: p) (x :: p ++ l) = ([], l, true) := by
  have hb : begI (x :: p) (x :: (p ++ l)) = true := by rw [begI_iff, ← List.cons_append, List.take_left']; rfl
  rw [List.cons_append, cutS, if_pos hb, ← List.cons_append, List.drop_left']
  rfl
theorem cutS_len (p : List Int) : ∀ l : List Int, (cutS p l).1.length + (cutS p l).2.1.length ≤ l.length
  | [] => by simp [cutS]
  | x :: t => by
    have ih := cutS_len p t
    unfold cutS
    split
    · simp only [List.length_nil, List.length_drop]; omega
    · simp only [List.length_cons]; omega
theorem cutS_found (p : List Int) : ∀ l : List Int, (cutS p l).2.2 = true → (cutS p l).1.length + p.length + (cutS p l).2.1.length = l.length
  | [], h => by simp [cutS] at h
  | x :: t, h => by
    have ih := cutS_found p t
    unfold cutS at h ⊢
    split
    · rename_i hb
      have := begI_len hb
      simp only [List.length_nil, List.length_drop]; omega
    · rename_i hb
      rw [if_neg hb] at h
      have := ih h
      simp only [List.length_cons]; omega
theorem cutS_byt (p : List Int) : ∀ {l : List Int}, Byt l → Byt (cutS p l).1 ∧ Byt (cutS p l).2.1
  | [], h => ⟨h, h⟩
  | x :: t, h => by
    have ih := cutS_byt p (l := t) (fun y hy => h y (.tail _ hy))
    unfold cutS
    split
    · exact ⟨(fun y hy => by cases hy), byt_drop h _⟩
    · refine ⟨fun y hy => ?_, ih.2⟩
      rcases List.mem_cons.1 hy with rfl | hy
      · exact h _ (.head _)
      · exact ih.1 y hy

/-! ### ends cut off -/
def trimP (p l : List Int) : List Int := if begI p l = true then l.drop p.length else l
def trimS (p l : List Int) : List Int := if endI p l = true then l.take (l.length - p.length) else l
theorem nb_inj {a b : List UInt8} (h : nb a = nb b) : a = b := by
  induction a generalizing b with
  | nil => cases b with
    | nil => rfl
    | cons x t => cases h
  | cons x t ih => cases b with
    | nil => cases h
    | cons y r =>
      have h2 : (x.toNat : Int) :: nb t = (y.toNat : Int) :: nb r := h
      injection h2 with e1 e2
      rw [(nb_eq _ _).1 e1, ih e2]
theorem nb_length (a : List UInt8) : (nb a).length = a.length := by unfold nb; rw [List.length_map]
theorem trim_pre (l p : List UInt8) : nb (Lib.trimPrefix l p) = trimP (nb p) (nb l) := by
  have h1 : Lib.hasPrefix l p = begI (nb p) (nb l) := by rw [← pre_begI]; rfl
  unfold Lib.trimPrefix trimP
  rw [h1]
  split
  · unfold nb; rw [List.map_drop, List.length_map]
  · rfl
theorem suf_endI (p l : List UInt8) : p.isSuffixOf l = endI (nb p) (nb l) := by
  rw [Bool.eq_iff_iff, List.isSuffixOf_iff_suffix]
  unfold endI
  rw [Bool.and_eq_true, decide_eq_true_iff, decide_eq_true_iff, nb_length, nb_length]
  have e : (nb l).drop (l.length - p.length) = nb (l.drop (l.length - p.length)) := by unfold nb; rw [List.map_drop]
  rw [e]
  constructor
  · rintro ⟨t, rfl⟩
    refine ⟨by rw [List.length_append]; omega, ?_⟩
    rw [List.length_append, Nat.add_sub_cancel, List.drop_left]
  · rintro ⟨h1, h2⟩
    obtain ⟨k, hk⟩ : ∃ k, k = l.length - p.length := ⟨_, rfl⟩
    rw [← hk] at h2
    refine ⟨l.take k, ?_⟩
    rw [← nb_inj h2]
    exact List.take_append_drop _ _
theorem trim_suf (l p : List UInt8) : nb (Lib.trimSuffix l p) = trimS (nb p) (nb l) := by
  have h1 : Lib.hasSuffix l p = endI (nb p) (nb l) := by rw [← suf_endI]; rfl
  unfold Lib.trimSuffix trimS
  rw [h1]
  split
  · unfold nb; rw [List.map_take, List.length_map, List.length_map]
  · rfl
theorem trimP_len (p l : List Int) : (trimP p l).length ≤ l.length := by
  unfold trimP; split
  · rw [List.length_drop]; omega
  · exact Nat.le_refl _
theorem trimS_len (p l : List Int) : (trimS p l).length ≤ l.length := by
  unfold trimS; split
  · rw [List.length_take]; omega
  · exact Nat.le_refl _
theorem trimP_byt {p l : List Int} (h : Byt l) : Byt (trimP p l) := by
  unfold trimP; split
  · exact byt_drop h _
  · exact h
theorem trimS_byt {p l : List Int} (h : Byt l) : Byt (trimS p l) := by
  unfold trimS; split
  · exact fun x hx => h x (List.mem_of_mem_take hx)
  · exact h
end Go.Proofs.YtfgaikacijdodaaDoor
/-
  The texts of URLs that the statements make of numbers.
-/
namespace Go.Proofs.YtfgaikacijdodaaDoor
set_option linter.unusedVariables false
set_option linter.unusedSimpArgs false
set_option maxRecDepth 20000
open Go.RowKit

def purls : List ByteArray := [⟨#[104, 116, 116, 112, 58, 47, 47, 97, 46, 98, 47]⟩, ⟨#[104, 116, 116, 112, 115, 58, 47, 47, 97, 46, 98, 47]⟩, ⟨#[104, 116, 116, 112, 115, 58, 47, 47, 97, 46, 98, 47, 120]⟩, ⟨#[104, 116, 116, 112, 58, 47, 47, 97, 46, 98, 47, 120]⟩, ⟨#[104, 116, 116, 112, 115, 58, 47, 47, 99, 46, 100, 47]⟩, ⟨#[104, 116, 116, 112, 115, 58, 47, 47, 99, 46, 100, 47, 112, 63, 113]⟩, ⟨#[104, 116, 116, 112, 115, 58, 47, 47, 99, 46, 100, 58, 56, 47]⟩, ⟨#[104, 116, 116, 112, 58, 47, 47, 99, 46, 100, 47]⟩, ⟨#[104, 116, 116, 112, 115, 58, 47, 47, 115, 46, 99, 46, 100, 47, 121]⟩, ⟨#[104, 116, 116, 112, 58, 47, 47, 108, 111, 99, 97, 108, 104, 111, 115, 116, 47, 108]⟩, ⟨#[104, 116, 116, 112, 115, 58, 47, 47, 97, 46, 98, 47, 122]⟩, ⟨#[104, 116, 116, 112, 115, 58, 47, 47, 97, 46, 98, 58, 56, 47]⟩]
def purl (n : Int) : ByteArray := purls.getD (n % 12).toNat ⟨#[]⟩
def podds (s : ByteArray) : List ByteArray := [⟨#[]⟩, ⟨#[97, 46, 98]⟩, ⟨#[47, 120]⟩, ⟨#[47, 47, 99, 46, 100, 47, 120]⟩, ⟨#[104, 116, 116, 112, 58, 47, 97, 46, 98]⟩, ⟨#[104, 116, 116, 112, 58, 47, 47]⟩, ⟨#[72, 84, 84, 80, 58, 47, 47, 65, 46, 66, 58, 56, 48, 47, 120]⟩, ⟨#[104, 116, 116, 112, 115, 58, 47, 47, 97, 46, 98, 58, 52, 52, 51]⟩, ⟨#[104, 116, 116, 112, 58, 47, 47, 97, 46, 98, 58, 52, 52, 51]⟩, ⟨#[104, 116, 116, 112, 58, 47, 47, 97, 46, 98, 58, 57, 57, 57, 57, 57]⟩, ⟨#[104, 116, 116, 112, 58, 47, 47, 97, 46, 98, 58]⟩, ⟨#[104, 116, 116, 112, 58, 47, 47, 97, 46, 98, 58, 48, 47]⟩, ⟨#[104, 116, 116, 112, 58, 47, 47, 97, 46, 46, 98, 47]⟩, ⟨#[104, 116, 116, 112, 58, 47, 47, 46, 97, 47]⟩, ⟨#[104, 116, 116, 112, 58, 47, 47, 97, 46, 47]⟩, ⟨#[104, 116, 116, 112, 58, 47, 47, 97, 95, 98, 47]⟩, ⟨#[104, 116, 116, 112, 58, 47, 47, 117, 64, 97, 46, 98, 47]⟩, ⟨#[32, 104, 116, 116, 112, 58, 47, 47, 97, 46, 98, 47, 195, 169, 32]⟩, ⟨#[104, 116, 116, 112, 58, 47, 47, 97, 46, 98, 47, 37, 122, 122]⟩, ⟨#[104, 116, 116, 112, 58, 47, 47, 97, 46, 98, 47, 97, 32, 98, 63, 99, 32, 100, 35, 101]⟩, ⟨#[104, 116, 116, 112, 58, 47, 47, 97, 46, 98, 63, 120]⟩, ⟨#[104, 116, 116, 112, 58, 47, 47, 97, 46, 98, 35, 102]⟩, ⟨#[104, 116, 116, 112, 58, 47, 47, 97, 46, 98, 47, 46, 47, 97, 47, 46, 46, 47, 98, 47, 46]⟩, ⟨#[104, 116, 116, 112, 58, 47, 47, 97, 46, 98, 47, 46, 46]⟩, ⟨#[104, 116, 116, 112, 58, 47, 47, 97, 46, 98, 47, 47, 46, 46]⟩, ⟨#[104, 116, 116, 112, 58, 47, 47, 97, 46, 98, 47, 97, 47, 47, 46, 46]⟩, ⟨#[102, 116, 112, 58, 47, 47, 97, 46, 98, 47]⟩, ⟨#[104, 116, 116, 112, 115, 58, 47, 47, 97, 98, 99, 100, 101, 102, 103, 104, 105, 106, 107, 108, 109, 110, 111, 112, 113, 114, 115, 116, 117, 47]⟩, ⟨#[104, 116, 116, 112, 115, 58, 47, 47, 97, 46, 98, 47, 48, 49, 50, 51, 52, 53, 54, 55, 56, 57, 48, 49, 50, 51, 52, 53, 54, 55, 56, 57, 48, 49, 50, 51, 52, 53, 54, 55]⟩, ⟨#[104, 116, 116, 112, 58, 47, 47, 97, 46, 98, 47, 48, 49, 50, 51, 52, 53, 54, 55, 56, 57, 48, 49, 50, 51, 52, 53, 54, 55, 56, 57, 48, 49, 50, 51, 52, 53, 54, 55, 56, 57, 48, 49]⟩, ⟨#[104, 116, 116, 112, 58, 47, 47, 97, 46, 98, 47, 63]⟩, ⟨#[104, 116, 116, 112, 58, 47, 47, 97, 46, 98, 47, 63, 63]⟩, ⟨#[104, 116, 116, 112, 58, 47, 47, 97, 46, 98, 47, 97, 63, 98, 47, 46, 46, 47, 99]⟩, ⟨#[104, 116, 116, 112, 115, 58, 47, 47, 99, 46, 100, 47, 46, 46, 47, 46, 46, 47, 47, 120]⟩, s, (⟨#[104, 116, 116, 112, 58, 47, 47, 97, 46, 98, 47]⟩ : ByteArray) ++ s, (⟨#[104, 116, 116, 112, 115, 58, 47, 47]⟩ : ByteArray) ++ s ++ (⟨#[47]⟩ : ByteArray), (⟨#[47]⟩ : ByteArray) ++ s]
def podd (n : Int) (s : ByteArray) : ByteArray := if n % 4 < 2 then purl (n.tdiv 4) else (podds s).getD (n.tdiv 4 % 38).toNat ⟨#[]⟩
theorem at_c {w : World} (n : Int) (v : Value) (ss : List ByteArray) (hv : Vs w v (sv ss)) (h1 : 1 ≤ ss.length) (h2 : ss.length ≤ 1000000000) : Calls Tryd.prog 29 #[.int .i64 n, v] w fun e w' => e = .returned (.string (ss.getD (n % (ss.length : Int)).toNat ⟨#[]⟩)) ∧ w = w' := by
  obtain ⟨A, m, c, rfl, hm, hc, hA⟩ := hv
  rw [length_sv] at hm
  subst hm
  obtain ⟨ad, rfl, hcell⟩ := hA (by omega)
  have hj : (n % (ss.length : Int)).toNat < ss.length := by
    have h3 := Int.emod_nonneg n (show (ss.length : Int) ≠ 0 by omega)
    have h4 := Int.emod_lt_of_pos n (show (0 : Int) < ss.length by omega)
    omega
  have hw := within_n (w := w) n ss.length (by omega) (by omega)
  generalize hjj : (n % (ss.length : Int)).toNat = j at *
  have hcj := hcell j (.string ss[j]) (by simp [sv, hj])
  rw [List.getD_eq_getElem?_getD, List.getElem?_eq_getElem hj, Option.getD_some]
  generalize ss[j] = x at *
  have hjI : (j : Int) < ss.length := by omega
  have HW := Lib.hid hw
  clear hw hcell hA hjj hj
  go_enter Tryd.func29, Tryd.ntmps29
  go_wp2_with fail
  with_reducible refine HW.out.mono ?_
  rintro e w1 ⟨rfl, rfl⟩
  go_wp2
  go_ret
  exact ⟨rfl, rfl⟩
theorem purl_c {w0 w : World} {R : Blks} (hO : Own w0 w R) (n : Int) : Calls Tryd.prog 14 #[.int .i64 n] w fun e w' => e = .returned (.string (purl n)) ∧ Own w0 w' R := by
  have HO := Lib.hid hO
  clear hO
  obtain ⟨r, hr⟩ : ∃ r, purl n = r := ⟨_, rfl⟩
  have HR := Lib.hid hr
  rw [hr]
  clear hr
  go_enter Tryd.func14, Tryd.ntmps14
  go_wp2_with fail
  generalize hwx : w.alloc _ = wx
  have hV : Vs wx (.slice (some ⟨w.heap.size, 0, none⟩) 12 12) (sv purls) := by rw [← hwx]; exact vs_new (sv purls) 12 rfl
  have hO2 : Own w0 wx ((w.heap.size, .cells (sv purls).toArray 9) :: R) := by rw [← hwx]; exact HO.out.alloc (.cells (sv purls).toArray 9)
  have hcall := at_c (w := wx) n _ purls hV (by decide) (by decide)
  rw [show purls.getD (n % (purls.length : Int)).toNat ⟨#[]⟩ = r from HR.out] at hcall
  have HO2 := Lib.hid hO2.tail
  with_reducible refine hcall.mono ?_
  clear hcall hO2 hV hwx
  rintro e w1 ⟨rfl, rfl⟩
  go_wp2
  go_ret
  exact ⟨rfl, HO2.out⟩
end Go.Proofs.YtfgaikacijdodaaDoor
/-
  Package url: what its calls answer, as the laws take it.
-/
namespace Go.Proofs.YtfgaikacijdodaaDoor
set_option linter.unusedVariables false
set_option linter.unusedSimpArgs false
set_option maxRecDepth 20000
open Go.RowKit

theorem url_size : (Tryd.prog.info? 23).map (·.size) = some 5 := by kernel_rfl
theorem alloc_url (w : World) : (Instr.alloc 23 true (.tuple #[])).run Tryd.prog w = .ok (.pointer (some ⟨w.heap.size, 0, none⟩)) (w.alloc (.cells UL.zero.val.toArray 23)) := by kernel_rfl
/-- A URL and OK, or none and ErrForm. -/
def GotE (w0 : World) (R : Blks) (o : Option UL) (e : Ending) (w' : World) : Prop := e = .returned (.tuple #[.agg (o.getD UL.zero).val.toArray, .int .i64 (if o.isSome then 0 else 2)]) ∧ Own w0 w' R
/-- Fine but for its path and query. -/
structure UL.Half (u : UL) : Prop where
  sch : u.sch = httpI ∨ u.sch = httpsI
  host : HostOk u.host
  hostB : Byt u.host
  port0 : 0 ≤ u.port
  port1 : u.port < 100000
  path : u.path.length ≤ 1000000000
  query : u.query.length ≤ 1000000000
theorem UL.Fine.half {u : UL} (h : u.Fine) : u.Half := ⟨h.sch, h.host, h.hostB, h.port0, h.port1, by have := h.lens; omega, by have := h.lens; omega⟩
theorem UL.Half.schB {u : UL} (h : u.Half) : Byt u.sch := by rcases h.sch with e | e <;> rw [e]; exact http_byt; exact https_byt
theorem UL.Half.schl {u : UL} (h : u.Half) : u.sch.length ≤ 5 := by rcases h.sch with e | e <;> rw [e] <;> decide
theorem UL.Half.ok {u : UL} (h : u.Half) : u.Ok := ⟨by have := h.schl; omega, by have := h.host.2.1; omega, h.path, h.query, h.port0, by have := h.port1; omega⟩
end Go.Proofs.YtfgaikacijdodaaDoor
