/-
  Hosts by their parts; the library's cuts, parts, digits as lists of bytes: nothing runs here.
-/
import Derived.Test.YtakihnmajgmnpaaDoorUrlM
import Derived.Lib.SplitLaws
import Derived.Lib.ItoaNum
namespace Go.Proofs.YtakihnmajgmnpaaDoor
set_option linter.unusedVariables false
set_option linter.unusedSimpArgs false
set_option maxRecDepth 20000

/-! ### parts between a sign -/
def splI (c : Int) : List Int → List (List Int)
  | [] => [[]]
  | x :: r => if x = c then [] :: splI c r else match splI c r with
    | p :: ps => (x :: p) :: ps
    | [] => [[x]]
theorem splI_ne (c : Int) (l : List Int) : splI c l ≠ [] := by
  cases l with
  | nil => simp [splI]
  | cons x r => unfold splI; split; simp; split <;> simp
theorem splI_hit (c : Int) (r : List Int) : splI c (c :: r) = [] :: splI c r := by simp [splI]
theorem splI_go {c x : Int} {r : List Int} (h : x ≠ c) : splI c (x :: r) = (x :: (splI c r).headD []) :: (splI c r).tail := by
  have := splI_ne c r
  simp only [splI, if_neg h]
  cases hs : splI c r with
  | nil => exact absurd hs this
  | cons p ps => rfl
theorem splI_len (c : Int) : ∀ l : List Int, (splI c l).length ≤ l.length + 1
  | [] => by simp [splI]
  | x :: r => by
    have ih := splI_len c r
    by_cases h : x = c
    · subst h; rw [splI_hit]; simp; omega
    · rw [splI_go h]
      have := splI_ne c r
      have h2 : 0 < (splI c r).length := List.length_pos_iff.2 this
      simp; omega
theorem splI_mem (c : Int) : ∀ (l : List Int), ∀ p ∈ splI c l, p.length ≤ l.length ∧ ∀ x ∈ p, x ∈ l
  | [], p, h => by simp [splI] at h; subst h; simp
  | x :: r, p, h => by
    by_cases hx : x = c
    · subst hx
      rw [splI_hit] at h
      rcases List.mem_cons.1 h with rfl | h
      · simp
      · have := splI_mem _ r p h
        exact ⟨by simp; omega, fun y hy => .tail _ (this.2 y hy)⟩
    · rw [splI_go hx] at h
      rcases List.mem_cons.1 h with rfl | h
      · have hm : (splI c r).headD [] ∈ splI c r := by
          cases hs : splI c r with
          | nil => exact absurd hs (splI_ne c r)
          | cons q qs => exact .head _
        have := splI_mem c r _ hm
        refine ⟨by rw [List.length_cons, List.length_cons]; omega, fun y hy => ?_⟩
        rcases List.mem_cons.1 hy with rfl | hy
        · exact .head _
        · exact .tail _ (this.2 y hy)
      · have := splI_mem c r p (List.mem_of_mem_tail h)
        exact ⟨by simp; omega, fun y hy => .tail _ (this.2 y hy)⟩
/-! ### hosts -/
def HB0 (x : Int) : Prop := (97 ≤ x ∧ x ≤ 122) ∨ (48 ≤ x ∧ x ≤ 57) ∨ x = 45
instance (x : Int) : Decidable (HB0 x) := by unfold HB0; infer_instance
def PartH (p : List Int) : Prop := p ≠ [] ∧ ∀ x ∈ p, HB0 x
instance (p : List Int) : Decidable (PartH p) := by unfold PartH; infer_instance
def HostP (l : List Int) : Prop := l.length ≤ 20 ∧ ∀ p ∈ splI 46 l, PartH p
instance (l : List Int) : Decidable (HostP l) := by unfold HostP; infer_instance
/-- The parts are well, but that the first may be empty. -/
def Half46 (l : List Int) : Prop := (∀ x ∈ (splI 46 l).headD [], HB0 x) ∧ ∀ p ∈ (splI 46 l).tail, PartH p
/-- The same by places. -/
def Tail46 (l : List Int) : Prop := (∀ j, j < l.length → HostAt l j) ∧ (l ≠ [] → l.getD (l.length - 1) 0 ≠ 46)
theorem half_nil : Half46 [] := ⟨by simp [splI], by simp [splI]⟩
theorem all_of_half (l : List Int) : (∀ p ∈ splI 46 l, PartH p) ↔ (l ≠ [] ∧ l.getD 0 0 ≠ 46 ∧ Half46 l) := by
  cases l with
  | nil => simp [splI, PartH]
  | cons x r =>
    by_cases hx : x = 46
    · subst hx
      rw [splI_hit]
      constructor
      · intro h; exact absurd rfl (h [] (.head _)).1
      · rintro ⟨_, h, _⟩; exact absurd rfl h
    · unfold Half46
      rw [splI_go hx]
      constructor
      · intro h
        refine ⟨by simp, by simpa using hx, (h _ (.head _)).2, fun p hp => h p (.tail _ hp)⟩
      · rintro ⟨_, _, h1, h2⟩ p hp
        rcases List.mem_cons.1 hp with rfl | hp
        · exact ⟨by simp, h1⟩
        · exact h2 p hp
theorem half_cons (x : Int) (r : List Int) : Half46 (x :: r) ↔ (if x = 46 then r ≠ [] ∧ r.getD 0 0 ≠ 46 ∧ Half46 r else HB0 x ∧ Half46 r) := by
  by_cases hx : x = 46
  · subst hx
    rw [if_pos rfl, ← all_of_half]
    unfold Half46
    rw [splI_hit]
    simp
  · rw [if_neg hx]
    unfold Half46
    rw [splI_go hx]
    simp only [List.headD_cons, List.tail_cons, List.forall_mem_cons]
    exact ⟨fun ⟨⟨a, b⟩, c⟩ => ⟨a, b, c⟩, fun ⟨a, b, c⟩ => ⟨⟨a, b⟩, c⟩⟩
theorem tail_cons (x : Int) (r : List Int) : Tail46 (x :: r) ↔ (if x = 46 then r ≠ [] ∧ r.getD 0 0 ≠ 46 ∧ Tail46 r else HB0 x ∧ Tail46 r) := by
  have hlast : ∀ r : List Int, r ≠ [] → (x :: r).getD ((x :: r).length - 1) 0 = r.getD (r.length - 1) 0 := by
    intro r hr
    obtain ⟨y, t, rfl⟩ := List.exists_cons_of_ne_nil hr
    simp
  have hat : ∀ j, HostAt (x :: r) (j + 1) ↔ HostAt r j := by
    intro j; unfold HostAt; rw [List.getD_cons_succ, List.getD_cons_succ]
  have h0 : HostAt (x :: r) 0 ↔ (HB x ∧ ¬ (x = 46 ∧ r.getD 0 0 = 46)) := by
    unfold HostAt; rw [List.getD_cons_zero, List.getD_cons_succ]
  unfold Tail46
  constructor
  · rintro ⟨h1, h2⟩
    have a0 := h0.1 (h1 0 (by simp))
    have a1 : ∀ j, j < r.length → HostAt r j := fun j hj => (hat j).1 (h1 (j + 1) (by simp; omega))
    have a2 : r ≠ [] → r.getD (r.length - 1) 0 ≠ 46 := fun hr => by rw [← hlast r hr]; exact h2 (by simp)
    by_cases hx : x = 46
    · rw [if_pos hx]
      refine ⟨?_, fun e => a0.2 ⟨hx, e⟩, a1, a2⟩
      rintro rfl
      exact h2 (by simp) (by simpa using hx)
    · rw [if_neg hx]
      refine ⟨?_, a1, a2⟩
      have := a0.1
      unfold HB at this; unfold HB0; omega
  · by_cases hx : x = 46
    · rw [if_pos hx]
      rintro ⟨h1, h2, h3, h4⟩
      refine ⟨fun j hj => ?_, fun _ => by rw [hlast r h1]; exact h4 h1⟩
      cases j with
      | zero => exact h0.2 ⟨by unfold HB; omega, fun e => h2 e.2⟩
      | succ j => exact (hat j).2 (h3 j (by simp at hj; omega))
    · rw [if_neg hx]
      rintro ⟨h1, h3, h4⟩
      refine ⟨fun j hj => ?_, fun _ => ?_⟩
      · cases j with
        | zero => exact h0.2 ⟨by unfold HB0 at h1; unfold HB; omega, fun e => hx e.1⟩
        | succ j => exact (hat j).2 (h3 j (by simp at hj; omega))
      · cases r with
        | nil => simpa using hx
        | cons y t => rw [hlast _ (by simp)]; exact h4 (by simp)
theorem half_tail : ∀ l : List Int, Half46 l ↔ Tail46 l
  | [] => ⟨fun _ => ⟨fun j hj => absurd hj (by simp), fun h => absurd rfl h⟩, fun _ => half_nil⟩
  | x :: r => by rw [half_cons, tail_cons, half_tail r]
theorem host_parts (l : List Int) : HostOk l ↔ HostP l := by
  unfold HostOk HostP
  rw [all_of_half, half_tail]
  unfold Tail46
  constructor
  · rintro ⟨h1, h2, h3, h4, h5⟩
    exact ⟨h2, by rintro rfl; simp at h1, h3, h5, fun _ => h4⟩
  · rintro ⟨h1, h2, h3, h4, h5⟩
    exact ⟨List.length_pos_iff.2 h2, h1, h3, h5 h2, h4⟩
theorem hostP_dec (l : List Int) : decide (HostOk l) = decide (HostP l) := by
  rw [Bool.eq_iff_iff, decide_eq_true_iff, decide_eq_true_iff]; exact host_parts l
/-! ### bytes as the library has them -/
def nb (l : List UInt8) : List Int := l.map fun b => (b.toNat : Int)
theorem nb_str (l : List UInt8) : (⟨l.toArray⟩ : ByteArray) = strOfNums (nb l) := by
  rw [← str_sb (⟨l.toArray⟩ : ByteArray)]; rfl
theorem sb_nb (s : ByteArray) : sb s = nb s.data.toList := rfl
theorem nb_eq (b c : UInt8) : ((b.toNat : Int) = (c.toNat : Int)) ↔ b = c := by
  constructor
  · intro h; exact UInt8.toNat_inj.1 (by omega)
  · rintro rfl; rfl
theorem pre_begI : ∀ (p l : List UInt8), p.isPrefixOf l = begI (nb p) (nb l)
  | [], l => by unfold begI nb; simp
  | a :: p, [] => by unfold begI nb; simp
  | a :: p, b :: l => by
    rw [List.isPrefixOf_cons_cons, pre_begI p l]
    unfold begI nb
    simp only [List.map_cons, List.length_cons, List.take_succ_cons, List.cons.injEq]
    rw [Bool.eq_iff_iff]
    simp only [Bool.and_eq_true, beq_iff_eq, decide_eq_true_iff, nb_eq]
    exact ⟨fun ⟨h1, h2⟩ => ⟨h1.symm, h2⟩, fun ⟨h1, h2⟩ => ⟨h1.symm, h2⟩⟩
theorem cut_nil {sep : List UInt8} (h : sep ≠ []) : Lib.cut [] sep = ([], [], false) := by
  unfold Lib.cut Lib.index
  cases sep with
  | nil => exact absurd rfl h
  | cons a t => rfl
theorem cut_cons (b : UInt8) (l sep : List UInt8) : Lib.cut (b :: l) sep = if sep.isPrefixOf (b :: l) = true then ([], (b :: l).drop sep.length, true) else (b :: (Lib.cut l sep).1, (Lib.cut l sep).2.1, (Lib.cut l sep).2.2) := by
  have hge := Lib.index_ge l sep
  unfold Lib.cut
  rw [show Lib.index (b :: l) sep = if sep.isPrefixOf (b :: l) then 0 else if Lib.index l sep == -1 then -1 else Lib.index l sep + 1 from rfl]
  by_cases h : sep.isPrefixOf (b :: l) = true
  · rw [if_pos h, if_pos h, if_pos (by omega)]
    simp
  · rw [if_neg h, if_neg h]
    by_cases h1 : Lib.index l sep = -1
    · rw [h1]; simp
    · have h2 : (Lib.index l sep == -1) = false := beq_eq_false_iff_ne.2 h1
      rw [h2]
      have h3 : 0 ≤ Lib.index l sep := by omega
      obtain ⟨i, hi⟩ : ∃ i : Nat, Lib.index l sep = i := ⟨(Lib.index l sep).toNat, by omega⟩
      rw [hi]
      simp only [Bool.false_eq_true, if_false]
      rw [if_pos (by omega), if_pos (by omega)]
      have e1 : ((i : Int) + 1).toNat = i + 1 := by omega
      rw [e1, Int.toNat_natCast]
      simp [List.take_succ_cons, Nat.add_right_comm]
/-- Cut at one byte. -/
theorem cut_one (c : UInt8) : ∀ l : List UInt8, nb (Lib.cut l [c]).1 = ahead [(c.toNat : Int)] (nb l) ∧ nb (Lib.cut l [c]).2.1 = (behind [(c.toNat : Int)] (nb l)).drop 1 ∧ (Lib.cut l [c]).2.2 = decide (behind [(c.toNat : Int)] (nb l) ≠ [])
  | [] => by rw [cut_nil (by simp)]; exact ⟨rfl, rfl, rfl⟩
  | b :: l => by
    have ih := cut_one c l
    rw [cut_cons]
    have e : nb (b :: l) = (b.toNat : Int) :: nb l := rfl
    by_cases h : b = c
    · subst h
      rw [if_pos (by simp), e, (ahead_hd (by simp) _).1, (ahead_hd (by simp) _).2]
      simp [nb]
    · rw [if_neg (by simp; exact fun e => h e.symm), e]
      have hc : ([(c.toNat : Int)] : List Int).contains (b.toNat : Int) = false := by
        rw [← Bool.not_eq_true]; simp only [List.contains_cons, List.contains_nil, Bool.or_false, beq_iff_eq, nb_eq]; exact h
      have h1 := ahead_app (st := [(c.toNat : Int)]) (p := [(b.toNat : Int)]) (nb l) (by intro y hy; rw [List.mem_singleton.1 hy]; exact hc)
      rw [show (b.toNat : Int) :: nb l = [(b.toNat : Int)] ++ nb l from rfl, h1.1, h1.2]
      exact ⟨by show (b.toNat : Int) :: nb _ = _; rw [ih.1]; rfl, ih.2.1, ih.2.2⟩
/-- Cut at the mark behind a scheme. -/
theorem cut_mark : ∀ l : List UInt8, nb (Lib.cut l [58, 47, 47]).1 = (cut3 (nb l)).1 ∧ nb (Lib.cut l [58, 47, 47]).2.1 = (cut3 (nb l)).2
  | [] => by rw [cut_nil (by simp)]; exact ⟨rfl, rfl⟩
  | b :: l => by
    have ih := cut_mark l
    rw [cut_cons, pre_begI]
    have e : nb (b :: l) = (b.toNat : Int) :: nb l := rfl
    have e2 : nb [58, 47, 47] = [58, 47, 47] := by decide
    rw [e2, e]
    unfold cut3
    by_cases h : begI [58, 47, 47] ((b.toNat : Int) :: nb l) = true
    · rw [if_pos h, if_pos h]
      refine ⟨rfl, ?_⟩
      show nb ((b :: l).drop 3) = _
      rw [← e]
      unfold nb
      rw [List.map_drop]
    · rw [if_neg h, if_neg h]
      exact ⟨by show (b.toNat : Int) :: nb _ = _; rw [ih.1], ih.2⟩
/-- The parts. -/
theorem index_cons (b : UInt8) (l : List UInt8) (c : UInt8) : Lib.index (b :: l) [c] = if b = c then 0 else if Lib.index l [c] = -1 then -1 else Lib.index l [c] + 1 := by
  rw [show Lib.index (b :: l) [c] = if ([c] : List UInt8).isPrefixOf (b :: l) then 0 else if Lib.index l [c] == -1 then -1 else Lib.index l [c] + 1 from rfl]
  by_cases h : b = c
  · subst h; simp
  · rw [if_neg (by simp; exact fun e => h e.symm), if_neg h]
    by_cases h1 : Lib.index l [c] = -1
    · rw [if_pos h1, h1]; rfl
    · rw [if_neg h1, if_neg (by simpa using h1)]
theorem splitK_go {b c : UInt8} (h : b ≠ c) (k : Nat) (l : List UInt8) : Lib.splitK [c] 0 k (b :: l) = (b :: (Lib.splitK [c] 0 k l).headD []) :: (Lib.splitK [c] 0 k l).tail := by
  cases k with
  | zero => rfl
  | succ k =>
    have hge := Lib.index_ge l [c]
    unfold Lib.splitK
    rw [index_cons, if_neg h]
    by_cases h1 : Lib.index l [c] = -1
    · rw [if_pos h1, h1]; rfl
    · rw [if_neg h1]
      obtain ⟨i, hi⟩ : ∃ i : Nat, Lib.index l [c] = i := ⟨(Lib.index l [c]).toNat, by omega⟩
      rw [hi, if_neg (by simp; omega), if_neg (by simp)]
      have e1 : ((i : Int) + 1).toNat = i + 1 := by omega
      rw [e1, Int.toNat_natCast]
      simp [Nat.add_right_comm]
theorem splitK_one (c : UInt8) : ∀ l : List UInt8, (Lib.splitK [c] 0 (Lib.count l [c]) l).map nb = splI (c.toNat : Int) (nb l)
  | [] => by
    rw [Lib.count_one]
    rfl
  | b :: l => by
    have ih := splitK_one c l
    have e : nb (b :: l) = (b.toNat : Int) :: nb l := rfl
    by_cases h : b = c
    · subst h
      rw [Lib.count_cons_eq, Nat.add_comm 1, e, splI_hit, ← ih]
      have e1 : ∀ k, Lib.splitK [b] 0 (k + 1) (b :: l) = [] :: Lib.splitK [b] 0 k l := by
        intro k
        rw [Lib.splitK, index_cons, if_pos rfl, if_neg (by decide)]
        simp
      rw [e1]
      rfl
    · rw [Lib.count_cons_ne _ _ _ h, splitK_go h, e, splI_go (fun x => h ((nb_eq _ _).1 x)), ← ih]
      cases Lib.splitK [c] 0 (Lib.count l [c]) l <;> simp [nb]
theorem splitB_sb (s : ByteArray) (c : UInt8) : (Lib.splitB ⟨#[c]⟩ 0 (Lib.countB s ⟨#[c]⟩) s) = (splI (c.toNat : Int) (sb s)).map strOfNums := by
  have h1 := Lib.splitB_data ⟨#[c]⟩ 0 (Lib.countB s ⟨#[c]⟩) s
  have h2 := splitK_one c s.data.toList
  have e : (Lib.splitB ⟨#[c]⟩ 0 (Lib.countB s ⟨#[c]⟩) s).map sb = splI (c.toNat : Int) (sb s) := by
    rw [sb_nb s, ← h2]
    show List.map sb _ = (Lib.splitK [c] 0 (Lib.countB s ⟨#[c]⟩) s.data.toList).map nb
    rw [← h1, List.map_map]
    rfl
  rw [← e, List.map_map]
  conv => lhs; rw [← List.map_id (Lib.splitB ⟨#[c]⟩ 0 (Lib.countB s ⟨#[c]⟩) s)]
  apply List.map_congr_left
  intro x _
  exact (str_sb x).symm
theorem countB_splI (s : ByteArray) (c : UInt8) : Lib.countB s ⟨#[c]⟩ + 1 = (splI (c.toNat : Int) (sb s)).length := by
  have h := Lib.splitB_all ⟨#[c]⟩ (Nat.le_refl 1) 0 _ s rfl
  rw [splitB_sb, List.length_map] at h
  exact h.symm
/-- The digits. -/
theorem dec_digs : ∀ (n : Nat), n < 10 ^ 19 → nb (Lib.decDigits n) = digs n := by
  intro n
  induction n using Nat.strongRecOn with
  | ind n ih =>
    intro hn
    by_cases h : n < 10
    · rw [Lib.decDigits, dif_pos h, digs_small h]
      show [((UInt8.ofNat (48 + n)).toNat : Int)] = _
      rw [UInt8.toNat_ofNat']
      congr 1
      omega
    · rw [Lib.decDigits, dif_neg h, digs_step (by omega) hn]
      unfold nb
      rw [List.map_append]
      have := ih (n / 10) (by omega) (by omega)
      unfold nb at this
      rw [this]
      congr 1
      show [((UInt8.ofNat (48 + n % 10)).toNat : Int)] = _
      rw [UInt8.toNat_ofNat']
      congr 1
      omega
theorem itoa_digs (n : Nat) (hn : n < 10 ^ 19) : (⟨(Lib.itoa (n : Int)).toArray⟩ : ByteArray) = strOfNums (digs n) := by
  rw [nb_str]
  unfold Lib.itoa
  rw [if_neg (by omega), Int.toNat_natCast, dec_digs n hn]
end Go.Proofs.YtakihnmajgmnpaaDoor
