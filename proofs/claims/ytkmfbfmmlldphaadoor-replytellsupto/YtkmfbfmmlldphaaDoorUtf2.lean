/-
  Runes of bytes; percent signs; small letters; blanks at the ends: plain lists; nothing runs here.
-/
import Derived.Test.YtkmfbfmmlldphaaDoorUtf
namespace Go.Proofs.YtkmfbfmmlldphaaDoor
set_option linter.unusedVariables false
set_option linter.unusedSimpArgs false
set_option maxRecDepth 20000

def runesF : Nat → List Int → List Nat
  | 0, _ => []
  | _ + 1, [] => []
  | f + 1, x :: l => (decI (x :: l)).1 :: runesF f ((x :: l).drop (decI (x :: l)).2)
/-- The runes of bytes, in order. -/
def runes (l : List Int) : List Nat := runesF l.length l
theorem runesF_nil (f : Nat) : runesF f [] = [] := by cases f <;> rfl
theorem runesF_any : ∀ (f g : Nat) (l : List Int), l.length ≤ f → l.length ≤ g → runesF f l = runesF g l
  | f, g, [], _, _ => by rw [runesF_nil, runesF_nil]
  | 0, _, x :: l, h, _ => by simp at h
  | f + 1, 0, x :: l, _, h => by simp at h
  | f + 1, g + 1, x :: l, hf, hg => by
    have h1 := decI_pos (x :: l)
    simp only [List.length_cons] at hf hg
    simp only [runesF]
    rw [runesF_any f g _ (by simp only [List.length_drop, List.length_cons]; omega) (by simp only [List.length_drop, List.length_cons]; omega)]
theorem runes_nil : runes [] = [] := rfl
theorem runes_step {l : List Int} (h : l ≠ []) : runes l = (decI l).1 :: runes (l.drop (decI l).2) := by
  cases l with
  | nil => exact absurd rfl h
  | cons x l =>
    have h1 := decI_pos (x :: l)
    unfold runes
    simp only [List.length_cons, runesF]
    rw [runesF_any l.length ((x :: l).drop (decI (x :: l)).2).length _ (by simp only [List.length_drop, List.length_cons]; omega) (Nat.le_refl _)]
theorem runes_enc {c : Nat} (h : vrune c) (r : List Int) : runes (encI c ++ r) = c :: runes r := by
  have hne : encI c ++ r ≠ [] := by have := encI_ne c; simp [this]
  rw [runes_step hne, dec_enc h]
  simp
theorem runes_encs : ∀ (cs : List Nat), (∀ c ∈ cs, vrune c) → ∀ r, runes (cs.flatMap encI ++ r) = cs ++ runes r
  | [], _, r => by simp
  | c :: cs, h, r => by
    rw [List.flatMap_cons, List.append_assoc, runes_enc (h c (.head _)), runes_encs cs (fun x hx => h x (.tail _ hx))]
    rfl
theorem runesF_valid : ∀ (f : Nat) (l : List Int), ∀ c ∈ runesF f l, vrune c
  | 0, _, c, h => by simp [runesF] at h
  | f + 1, [], c, h => by simp [runesF] at h
  | f + 1, x :: l, c, h => by
    simp only [runesF, List.mem_cons] at h
    rcases h with rfl | h
    · exact decI_valid _
    · exact runesF_valid f _ c h
theorem runes_valid (l : List Int) : ∀ c ∈ runes l, vrune c := runesF_valid _ l
theorem runesF_len : ∀ (f : Nat) (l : List Int), (runesF f l).length ≤ l.length
  | 0, l => by simp [runesF]
  | f + 1, [] => by simp [runesF]
  | f + 1, x :: l => by
    have h1 := decI_pos (x :: l)
    have := runesF_len f ((x :: l).drop (decI (x :: l)).2)
    simp only [List.length_drop, List.length_cons] at this
    simp only [runesF, List.length_cons]
    omega
theorem runes_len (l : List Int) : (runes l).length ≤ l.length := runesF_len _ l
/-- What is UTF-8 has its runes' bytes. -/
def clean (l : List Int) : List Int := (runes l).flatMap encI
theorem runes_clean (l r : List Int) : runes (clean l ++ r) = runes l ++ runes r := runes_encs _ (runes_valid l) r
/-- Bytes below 128 are runes of their own. -/
theorem runes_ascii : ∀ (l : List Int), (∀ x ∈ l, 0 ≤ x ∧ x < 128) → runes l = l.map Int.toNat
  | [], _ => rfl
  | x :: l, h => by
    have hx := h x (.head _)
    have e : x :: l = encI x.toNat ++ l := by rw [encI_one (by omega)]; simp; omega
    rw [e, runes_enc (by unfold vrune; omega), runes_ascii l (fun y hy => h y (.tail _ hy)), ← e]
    rfl
/-! ### percent signs -/
/-- Does the rune stand for itself? -/
def plainR (c : Nat) : Bool := decide (33 ≤ c ∧ c ≤ 126 ∧ c ≠ 34 ∧ c ≠ 96 ∧ c ≠ 35 ∧ c ≠ 60 ∧ c ≠ 62 ∧ c ≠ 63 ∧ c ≠ 123 ∧ c ≠ 125)
theorem plainR_iff (c : Nat) : plainR c = true ↔ (33 ≤ c ∧ c ≤ 126 ∧ c ≠ 34 ∧ c ≠ 96 ∧ c ≠ 35 ∧ c ≠ 60 ∧ c ≠ 62 ∧ c ≠ 63 ∧ c ≠ 123 ∧ c ≠ 125) := by unfold plainR; exact decide_eq_true_iff
/-- A digit to the base 16, greater letters. -/
def hexD (x : Int) : Int := if x < 10 then 48 + x else 55 + x
def pct3 (b : Int) : List Int := [37, hexD (b / 16), hexD (b % 16)]
def pctR (c : Nat) : List Int := if plainR c then [(c : Int)] else (encI c).flatMap pct3
def pctE (l : List Int) : List Int := (runes l).flatMap pctR
theorem hexD_plain {x : Int} (h0 : 0 ≤ x) (h1 : x < 16) : (48 ≤ hexD x ∧ hexD x ≤ 57) ∨ (65 ≤ hexD x ∧ hexD x ≤ 70) := by unfold hexD; split <;> omega
theorem pct3_plain {b : Int} (h : 0 ≤ b ∧ b ≤ 255) : ∀ x ∈ pct3 b, 0 ≤ x ∧ x < 128 ∧ plainR x.toNat = true := by
  have h1 := hexD_plain (x := b / 16) (by omega) (by omega)
  have h2 := hexD_plain (x := b % 16) (by omega) (by omega)
  intro x hx
  simp only [pct3, List.mem_cons, List.not_mem_nil, or_false] at hx
  rw [plainR_iff]
  rcases hx with rfl | rfl | rfl <;> omega
theorem pctR_plain (c : Nat) : ∀ x ∈ pctR c, 0 ≤ x ∧ x < 128 ∧ plainR x.toNat = true := by
  intro x hx
  unfold pctR at hx
  split at hx
  · rename_i h
    rw [List.mem_singleton] at hx
    subst hx
    have := (plainR_iff c).1 h
    exact ⟨by omega, by omega, by simpa using h⟩
  · rw [List.mem_flatMap] at hx
    obtain ⟨b, hb, hx⟩ := hx
    exact pct3_plain (encI_byt c b hb) x hx
theorem pctE_plain (l : List Int) : ∀ x ∈ pctE l, 0 ≤ x ∧ x < 128 ∧ plainR x.toNat = true := by
  intro x hx
  rw [pctE, List.mem_flatMap] at hx
  obtain ⟨c, _, hx⟩ := hx
  exact pctR_plain c x hx
theorem pctE_same {l : List Int} (h : ∀ x ∈ l, 0 ≤ x ∧ x < 128 ∧ plainR x.toNat = true) : pctE l = l := by
  unfold pctE
  rw [runes_ascii l (fun x hx => ⟨(h x hx).1, (h x hx).2.1⟩)]
  induction l with
  | nil => rfl
  | cons x l ih =>
    have hx := h x (.head _)
    rw [List.map_cons, List.flatMap_cons, ih (fun y hy => h y (.tail _ hy))]
    unfold pctR
    rw [if_pos hx.2.2]
    simp; omega
theorem pctE_twice (l : List Int) : pctE (pctE l) = pctE l := pctE_same (pctE_plain l)
theorem pctE_clean (l r : List Int) : pctE (clean l ++ r) = pctE l ++ pctE r := by unfold pctE; rw [runes_clean, List.flatMap_append]
theorem pctR_len (c : Nat) : (pctR c).length ≤ 12 := by
  unfold pctR
  split
  · simp
  · have h : ∀ l : List Int, (l.flatMap pct3).length = 3 * l.length := by
      intro l
      induction l with
      | nil => rfl
      | cons x l ih => rw [List.flatMap_cons, List.length_append, ih]; simp [pct3]; omega
    rw [h]; have := encI_len c; omega
theorem flatMap_len {α : Type} (f : α → List Int) (k : Nat) (h : ∀ a, (f a).length ≤ k) (l : List α) : (l.flatMap f).length ≤ k * l.length := by
  induction l with
  | nil => simp
  | cons x l ih => rw [List.flatMap_cons, List.length_append, List.length_cons, Nat.mul_succ]; have := h x; omega
theorem pctE_len (l : List Int) : (pctE l).length ≤ 12 * l.length := by
  have h1 := flatMap_len pctR 12 pctR_len (runes l)
  have h2 := runes_len l
  have h3 : 12 * (runes l).length ≤ 12 * l.length := Nat.mul_le_mul_left 12 h2
  exact Nat.le_trans h1 h3
/-! ### back -/
def digI (c : Int) : Option Int := if 48 ≤ c ∧ c ≤ 57 then some (c - 48) else if 97 ≤ c ∧ c ≤ 102 then some (c - 87) else if 65 ≤ c ∧ c ≤ 70 then some (c - 55) else none
theorem digI_hex {x : Int} (h0 : 0 ≤ x) (h1 : x < 16) : digI (hexD x) = some x := by
  unfold digI hexD
  split
  · rw [if_pos (by omega)]; congr 1; omega
  · rw [if_neg (by omega), if_neg (by omega), if_pos (by omega)]; congr 1; omega
def unpF : Nat → List Int → Option (List Int)
  | _, [] => some []
  | 0, _ :: _ => none
  | f + 1, x :: r =>
    if x = 37 then
      (match r with
        | a :: b :: q => (digI a).bind fun h => (digI b).bind fun l => (unpF f q).map fun t => (16 * h + l) :: t
        | _ => none)
    else (unpF f r).map fun t => x :: t
/-- Percent signs taken back; none where one lacks its digits. -/
def unp (l : List Int) : Option (List Int) := unpF l.length l
theorem unpF_any : ∀ (f g : Nat) (l : List Int), l.length ≤ f → l.length ≤ g → unpF f l = unpF g l
  | f, g, [], _, _ => by cases f <;> cases g <;> rfl
  | 0, _, x :: l, h, _ => by simp at h
  | f + 1, 0, x :: l, _, h => by simp at h
  | f + 1, g + 1, x :: r, hf, hg => by
    simp only [List.length_cons] at hf hg
    simp only [unpF]
    split
    · match r with
      | [] => rfl
      | [a] => rfl
      | a :: b :: q =>
        simp only [List.length_cons] at hf hg
        simp only []
        rw [unpF_any f g q (by omega) (by omega)]
    · rw [unpF_any f g r (by omega) (by omega)]
theorem unp_nil : unp [] = some [] := rfl
theorem unp_other {x : Int} (h : x ≠ 37) (r : List Int) : unp (x :: r) = (unp r).map fun t => x :: t := by
  unfold unp
  simp only [List.length_cons, unpF, if_neg h]
theorem unp_pct (a b : Int) (q : List Int) : unp (37 :: a :: b :: q) = (digI a).bind fun h => (digI b).bind fun l => (unp q).map fun t => (16 * h + l) :: t := by
  unfold unp
  simp only [List.length_cons, unpF, if_true]
  rw [unpF_any (q.length + 1 + 1) q.length q (by omega) (Nat.le_refl _)]
theorem unp_short1 : unp [37] = none := rfl
theorem unp_short2 (a : Int) : unp [37, a] = none := rfl
theorem unp_pct3 {b : Int} (h : 0 ≤ b ∧ b ≤ 255) (r : List Int) : unp (pct3 b ++ r) = (unp r).map fun t => b :: t := by
  show unp (37 :: hexD (b / 16) :: hexD (b % 16) :: r) = _
  rw [unp_pct, digI_hex (by omega) (by omega), digI_hex (by omega) (by omega)]
  simp only [Option.bind_some]
  rw [show 16 * (b / 16) + b % 16 = b by omega]
theorem unp_pct3s : ∀ (bs : List Int), Byt bs → ∀ r, unp (bs.flatMap pct3 ++ r) = (unp r).map fun t => bs ++ t
  | [], _, r => by simp
  | b :: bs, h, r => by
    rw [List.flatMap_cons, List.append_assoc, unp_pct3 (h b (.head _)), unp_pct3s bs (fun x hx => h x (.tail _ hx))]
    cases unp r <;> simp
theorem unp_pctR {c : Nat} (h : c ≠ 37) (r : List Int) : unp (pctR c ++ r) = (unp r).map fun t => encI c ++ t := by
  unfold pctR
  split
  · rename_i hp
    have := (plainR_iff c).1 hp
    rw [List.singleton_append, unp_other (by omega), encI_one (by omega)]
    rfl
  · exact unp_pct3s _ (encI_byt c) r
theorem unp_pctRs : ∀ (cs : List Nat), (∀ c ∈ cs, c ≠ 37) → unp (cs.flatMap pctR) = some (cs.flatMap encI)
  | [], _ => rfl
  | c :: cs, h => by
    rw [List.flatMap_cons, unp_pctR (h c (.head _)), unp_pctRs cs (fun x hx => h x (.tail _ hx))]
    simp
theorem unpF_len : ∀ (f : Nat) (l t : List Int), unpF f l = some t → t.length ≤ l.length
  | f, [], t, h => by cases f <;> (simp only [unpF, Option.some.injEq] at h; subst h; simp)
  | 0, _ :: _, t, h => by simp [unpF] at h
  | f + 1, x :: r, t, h => by
    simp only [unpF] at h
    split at h
    · match r, h with
      | [], h => cases h
      | [a], h => cases h
      | a :: b :: q, h =>
        simp only [Option.bind_eq_some_iff, Option.map_eq_some_iff] at h
        obtain ⟨_, _, _, _, u, hu, rfl⟩ := h
        have := unpF_len f q u hu
        simp only [List.length_cons]; omega
    · simp only [Option.map_eq_some_iff] at h
      obtain ⟨u, hu, rfl⟩ := h
      have := unpF_len f r u hu
      simp only [List.length_cons]; omega
theorem unp_len {l t : List Int} (h : unp l = some t) : t.length ≤ l.length := unpF_len _ l t h
theorem digI_lt {c x : Int} (h : digI c = some x) : 0 ≤ x ∧ x < 16 := by
  unfold digI at h
  split at h
  · cases h; omega
  · split at h
    · cases h; omega
    · split at h
      · cases h; omega
      · cases h
theorem unpF_byt : ∀ (f : Nat) (l t : List Int), Byt l → unpF f l = some t → Byt t
  | f, [], t, _, h => by cases f <;> (simp only [unpF, Option.some.injEq] at h; subst h; intro x hx; cases hx)
  | 0, _ :: _, t, _, h => by simp [unpF] at h
  | f + 1, x :: r, t, hB, h => by
    simp only [unpF] at h
    split at h
    · match r, hB, h with
      | [], _, h => cases h
      | [a], _, h => cases h
      | a :: b :: q, hB, h =>
        simp only [Option.bind_eq_some_iff, Option.map_eq_some_iff] at h
        obtain ⟨h1, e1, l1, e2, u, hu, rfl⟩ := h
        have b1 := digI_lt e1
        have b2 := digI_lt e2
        have := unpF_byt f q u (fun y hy => hB y (.tail _ (.tail _ (.tail _ hy)))) hu
        intro y hy
        rcases List.mem_cons.1 hy with rfl | hy
        · omega
        · exact this y hy
    · simp only [Option.map_eq_some_iff] at h
      obtain ⟨u, hu, rfl⟩ := h
      have := unpF_byt f r u (fun y hy => hB y (.tail _ hy)) hu
      intro y hy
      rcases List.mem_cons.1 hy with rfl | hy
      · exact hB y (.head _)
      · exact this y hy
theorem unp_byt {l t : List Int} (hB : Byt l) (h : unp l = some t) : Byt t := unpF_byt _ l t hB h
/-! ### small letters; blanks -/
def lowI (c : Int) : Int := if 65 ≤ c ∧ c ≤ 90 then c + 32 else c
theorem lowI_twice (c : Int) : lowI (lowI c) = lowI c := by unfold lowI; repeat' split <;> omega
def lowL (l : List Int) : List Int := l.map lowI
theorem lowL_twice (l : List Int) : lowL (lowL l) = lowL l := by simp only [lowL, List.map_map]; exact List.map_congr_left (fun x _ => lowI_twice x)
theorem lowL_append (l m : List Int) : lowL (l ++ m) = lowL l ++ lowL m := by simp [lowL]
theorem lowL_byt {l : List Int} (h : Byt l) : Byt (lowL l) := by
  intro x hx
  simp only [lowL, List.mem_map] at hx
  obtain ⟨y, hy, rfl⟩ := hx
  have := h y hy
  unfold lowI; split <;> omega
def blank (x : Int) : Bool := decide (x ≤ 32)
def trimI (l : List Int) : List Int := ((l.dropWhile blank).reverse.dropWhile blank).reverse
theorem dropWhile_idem (p : Int → Bool) : ∀ l : List Int, (l.dropWhile p).dropWhile p = l.dropWhile p
  | [] => rfl
  | x :: l => by
    by_cases h : p x = true
    · rw [List.dropWhile_cons_of_pos h]; exact dropWhile_idem p l
    · rw [List.dropWhile_cons_of_neg h, List.dropWhile_cons_of_neg h]
theorem trimI_twice (l : List Int) : trimI (trimI l) = trimI l := by
  have key : ∀ b : List Int, b.dropWhile blank = b → b.reverse.dropWhile blank = b.reverse → trimI b = b := by
    intro b h1 h2
    unfold trimI
    rw [h1, h2, List.reverse_reverse]
  apply key
  · unfold trimI
    generalize ha : l.dropWhile blank = a
    have hid : a.dropWhile blank = a := by rw [← ha]; exact dropWhile_idem _ _
    have hp : (a.reverse.dropWhile blank).reverse <+: a := by
      have h1 := List.dropWhile_suffix (l := a.reverse) blank
      have h2 := List.reverse_prefix.2 h1
      rwa [List.reverse_reverse] at h2
    generalize (a.reverse.dropWhile blank).reverse = b at hp
    cases b with
    | nil => rfl
    | cons x b =>
      obtain ⟨r, hr⟩ := hp
      rw [← hr, List.cons_append] at hid
      by_cases hx : blank x = true
      · rw [List.dropWhile_cons_of_pos hx] at hid
        have h1 : ((b ++ r).dropWhile blank).length ≤ (b ++ r).length := (List.dropWhile_sublist _).length_le
        rw [hid] at h1
        simp at h1
        omega
      · rw [List.dropWhile_cons_of_neg hx]
  · unfold trimI
    rw [List.reverse_reverse]
    exact dropWhile_idem _ _
theorem trimI_sub (l : List Int) : (trimI l).Sublist l := by
  unfold trimI
  have h1 := (List.dropWhile_sublist blank (l := (l.dropWhile blank).reverse)).reverse
  rw [List.reverse_reverse] at h1
  exact h1.trans (List.dropWhile_sublist _)
end Go.Proofs.YtkmfbfmmlldphaaDoor
