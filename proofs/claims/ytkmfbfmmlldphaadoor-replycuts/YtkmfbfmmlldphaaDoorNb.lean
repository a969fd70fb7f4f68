/-
  Lists of bytes cut at a sign; digits; bytes as the library has them: nothing runs here.
-/
import Derived.Test.YtkmfbfmmlldphaaDoorUrl1
import Derived.Lib.SplitLaws
import Derived.Lib.ItoaNum
namespace Go.Proofs.YtkmfbfmmlldphaaDoor
set_option linter.unusedVariables false
set_option linter.unusedSimpArgs false
set_option maxRecDepth 20000

theorem ahead_app {st : List Int} : ∀ {p : List Int} (l : List Int), (∀ y ∈ p, st.contains y = false) → ahead st (p ++ l) = p ++ ahead st l ∧ behind st (p ++ l) = behind st l
  | [], l, _ => ⟨rfl, rfl⟩
  | x :: p, l, h => by
    have hx := h x (.head _)
    have ih := ahead_app (st := st) (p := p) l (fun y hy => h y (.tail _ hy))
    unfold ahead behind at *
    rw [List.cons_append, List.takeWhile_cons_of_pos (p := fun x => !st.contains x) (by rw [hx]; rfl), List.dropWhile_cons_of_pos (p := fun x => !st.contains x) (by rw [hx]; rfl), ih.1, ih.2]
    exact ⟨rfl, rfl⟩
theorem ahead_hd {st : List Int} {x : Int} (h : st.contains x = true) (l : List Int) : ahead st (x :: l) = [] ∧ behind st (x :: l) = x :: l := by
  unfold ahead behind
  rw [List.takeWhile_cons_of_neg (p := fun x => !st.contains x) (by rw [h]; simp), List.dropWhile_cons_of_neg (p := fun x => !st.contains x) (by rw [h]; simp)]
  exact ⟨rfl, rfl⟩
theorem ahead_stop {st p : List Int} {x : Int} {r : List Int} (hp : ∀ y ∈ p, st.contains y = false) (hx : st.contains x = true) : ahead st (p ++ x :: r) = p ∧ behind st (p ++ x :: r) = x :: r := by
  induction p with
  | nil =>
    unfold ahead behind
    rw [List.nil_append, List.takeWhile_cons_of_neg (by rw [hx]; simp), List.dropWhile_cons_of_neg (by rw [hx]; simp)]
    exact ⟨rfl, rfl⟩
  | cons y p ih =>
    have h0 := hp y (.head _)
    have := ih (fun z hz => hp z (.tail _ hz))
    unfold ahead behind at *
    rw [List.cons_append, List.takeWhile_cons_of_pos (by rw [h0]; rfl), List.dropWhile_cons_of_pos (by rw [h0]; rfl), this.1, this.2]
    exact ⟨rfl, rfl⟩
theorem ahead_full {st p : List Int} (hp : ∀ y ∈ p, st.contains y = false) : ahead st p = p ∧ behind st p = [] := by
  induction p with
  | nil => exact ⟨rfl, rfl⟩
  | cons y p ih =>
    have h0 := hp y (.head _)
    have := ih (fun z hz => hp z (.tail _ hz))
    unfold ahead behind at *
    rw [List.takeWhile_cons_of_pos (by rw [h0]; rfl), List.dropWhile_cons_of_pos (by rw [h0]; rfl), this.1, this.2]
    exact ⟨rfl, rfl⟩
theorem digs_short {n : Nat} (h : n < 100000) : (digs n).length ≤ 5 := by
  have key : ∀ f k m, m < 10 ^ (k + 1) → (digF f m).length ≤ k + 1 := by
    intro f
    induction f with
    | zero => intro k m _; simp [digF]
    | succ f ih =>
      intro k m hm
      simp only [digF]
      split
      · simp
      · rename_i h10
        cases k with
        | zero => simp at hm; omega
        | succ k =>
          have := ih k (m / 10) (by rw [Nat.pow_succ] at hm; omega)
          simp; omega
  exact key 20 4 n (by omega)
/-! ### bytes as the library has them -/
def nb (l : List UInt8) : List Int := l.map fun b => (b.toNat : Int)
theorem nb_str (l : List UInt8) : (⟨l.toArray⟩ : ByteArray) = strOfNums (nb l) := by
  rw [← str_sb (⟨l.toArray⟩ : ByteArray)]; rfl
theorem sb_nb (s : ByteArray) : sb s = nb s.data.toList := rfl
theorem nb_eq (b c : UInt8) : ((b.toNat : Int) = (c.toNat : Int)) ↔ b = c := by
  constructor
  · intro h; exact UInt8.toNat_inj.1 (by omega)
  · rintro rfl; rfl
theorem pre_begI : ∀ (p l : List UInt8), p.isPrefixOf l = begI (nb p) (nb l)
  | [], l => by unfold begI nb; simp
  | a :: p, [] => by unfold begI nb; simp
  | a :: p, b :: l => by
    rw [List.isPrefixOf_cons_cons, pre_begI p l]
    unfold begI nb
    simp only [List.map_cons, List.length_cons, List.take_succ_cons, List.cons.injEq]
    rw [Bool.eq_iff_iff]
    simp only [Bool.and_eq_true, beq_iff_eq, decide_eq_true_iff, nb_eq]
    exact ⟨fun ⟨h1, h2⟩ => ⟨h1.symm, h2⟩, fun ⟨h1, h2⟩ => ⟨h1.symm, h2⟩⟩
theorem cut_nil {sep : List UInt8} (h : sep ≠ []) : Lib.cut [] sep = ([], [], false) := by
  unfold Lib.cut Lib.index
  cases sep with
  | nil => exact absurd rfl h
  | cons a t => rfl
theorem cut_cons (b : UInt8) (l sep : List UInt8) : Lib.cut (b :: l) sep = if sep.isPrefixOf (b :: l) = true then ([], (b :: l).drop sep.length, true) else (b :: (Lib.cut l sep).1, (Lib.cut l sep).2.1, (Lib.cut l sep).2.2) := by
  have hge := Lib.index_ge l sep
  unfold Lib.cut
  rw [show Lib.index (b :: l) sep = if sep.isPrefixOf (b :: l) then 0 else if Lib.index l sep == -1 then -1 else Lib.index l sep + 1 from rfl]
  by_cases h : sep.isPrefixOf (b :: l) = true
  · rw [if_pos h, if_pos h, if_pos (by omega)]
    simp
  · rw [if_neg h, if_neg h]
    by_cases h1 : Lib.index l sep = -1
    · rw [h1]; simp
    · have h2 : (Lib.index l sep == -1) = false := beq_eq_false_iff_ne.2 h1
      rw [h2]
      have h3 : 0 ≤ Lib.index l sep := by omega
      obtain ⟨i, hi⟩ : ∃ i : Nat, Lib.index l sep = i := ⟨(Lib.index l sep).toNat, by omega⟩
      rw [hi]
      simp only [Bool.false_eq_true, if_false]
      rw [if_pos (by omega), if_pos (by omega)]
      have e1 : ((i : Int) + 1).toNat = i + 1 := by omega
      rw [e1, Int.toNat_natCast]
      simp [List.take_succ_cons, Nat.add_right_comm]
/-- Cut at one byte. -/
theorem cut_one (c : UInt8) : ∀ l : List UInt8, nb (Lib.cut l [c]).1 = ahead [(c.toNat : Int)] (nb l) ∧ nb (Lib.cut l [c]).2.1 = (behind [(c.toNat : Int)] (nb l)).drop 1 ∧ (Lib.cut l [c]).2.2 = decide (behind [(c.toNat : Int)] (nb l) ≠ [])
  | [] => by rw [cut_nil (by simp)]; exact ⟨rfl, rfl, rfl⟩
  | b :: l => by
    have ih := cut_one c l
    rw [cut_cons]
    have e : nb (b :: l) = (b.toNat : Int) :: nb l := rfl
    by_cases h : b = c
    · subst h
      rw [if_pos (by simp), e, (ahead_hd (by simp) _).1, (ahead_hd (by simp) _).2]
      simp [nb]
    · rw [if_neg (by simp; exact fun e => h e.symm), e]
      have hc : ([(c.toNat : Int)] : List Int).contains (b.toNat : Int) = false := by
        rw [← Bool.not_eq_true]; simp only [List.contains_cons, List.contains_nil, Bool.or_false, beq_iff_eq, nb_eq]; exact h
      have h1 := ahead_app (st := [(c.toNat : Int)]) (p := [(b.toNat : Int)]) (nb l) (by intro y hy; rw [List.mem_singleton.1 hy]; exact hc)
      rw [show (b.toNat : Int) :: nb l = [(b.toNat : Int)] ++ nb l from rfl, h1.1, h1.2]
      exact ⟨by show (b.toNat : Int) :: nb _ = _; rw [ih.1]; rfl, ih.2.1, ih.2.2⟩
/-- The digits. -/
theorem dec_digs : ∀ (n : Nat), n < 10 ^ 19 → nb (Lib.decDigits n) = digs n := by
  intro n
  induction n using Nat.strongRecOn with
  | ind n ih =>
    intro hn
    by_cases h : n < 10
    · rw [Lib.decDigits, dif_pos h, digs_small h]
      show [((UInt8.ofNat (48 + n)).toNat : Int)] = _
      rw [UInt8.toNat_ofNat']
      congr 1
      omega
    · rw [Lib.decDigits, dif_neg h, digs_step (by omega) hn]
      unfold nb
      rw [List.map_append]
      have := ih (n / 10) (by omega) (by omega)
      unfold nb at this
      rw [this]
      congr 1
      show [((UInt8.ofNat (48 + n % 10)).toNat : Int)] = _
      rw [UInt8.toNat_ofNat']
      congr 1
      omega
theorem itoa_digs (n : Nat) (hn : n < 10 ^ 19) : (⟨(Lib.itoa (n : Int)).toArray⟩ : ByteArray) = strOfNums (digs n) := by
  rw [nb_str]
  unfold Lib.itoa
  rw [if_neg (by omega), Int.toNat_natCast, dec_digs n hn]
end Go.Proofs.YtkmfbfmmlldphaaDoor
