/-
  Package disk: what a Disk holds, and its calls that only look.
-/
import Derived.Test.YtelboocnenaicaaRows
import Derived.Test.YtelboocnenaicaaOps
namespace Go.Proofs.Ytelboocnenaicaa
set_option linter.unusedVariables false
set_option linter.unusedSimpArgs false
set_option maxRecDepth 20000
open Go.RowKit

/-- A disk's state: its flushed sectors, the pending writes, how many Writes are left, no power? -/
structure DSt where
  fl : List (List Int)
  pend : List (Nat × List Int)
  left : Int
  down : Bool
def over (fl : List (List Int)) (p : List (Nat × List Int)) : List (List Int) := p.foldl (fun acc q => acc.set q.1 q.2) fl
def DSt.la (s : DSt) : List (List Int) := over s.fl s.pend
def DSt.n (s : DSt) : Nat := s.fl.length
structure DSt.Ok (s : DSt) : Prop where
  n : s.n ≤ 1024
  row : ∀ x ∈ s.fl, x.length = 32
  prow : ∀ q ∈ s.pend, q.1 < s.n ∧ q.2.length = 32
  left : -1 ≤ s.left ∧ s.left ≤ 1000000
  plen : s.pend.length ≤ 1000000
def secs (fl : List (List Int)) : List Value := fl.flatMap bv
def wcell (q : Nat × List Int) : List Value := .int .i64 (q.1 : Int) :: bv q.2
def pcells (p : List (Nat × List Int)) : List Value := p.flatMap wcell
def IsPend (pv : Value) (p : List (Nat × List Int)) (pb : Blks) : Prop := IsRow 50 33 pv p.length (pcells p) pb
def dcells (bf bl cf cl : Nat) (pv : Value) (s : DSt) : Array Value :=
  #[.slice (some ⟨bf, 0, none⟩) s.n cf, .slice (some ⟨bl, 0, none⟩) s.n cl, pv, .int .i64 s.left, .bool s.down]
def IsDisk (d : Value) (s : DSt) (L : Blks) : Prop :=
  s.Ok ∧ ∃ bd bf bl cf cl sf sl pv pb, d = .pointer (some ⟨bd, 0, none⟩) ∧ IsPend pv s.pend pb ∧ s.n ≤ cf ∧ s.n ≤ cl ∧
    L = (bd, .cells (dcells bf bl cf cl pv s) 45) :: (bf, .cells (List.toArray (secs s.fl ++ sf)) 48) :: (bl, .cells (List.toArray (secs s.la ++ sl)) 48) :: pb

theorem length_secs : ∀ (fl : List (List Int)), (∀ x ∈ fl, x.length = 32) → (secs fl).length = fl.length * 32
  | [], _ => rfl
  | x :: fl, h => by
    have := length_secs fl (fun y hy => h y (List.mem_cons_of_mem _ hy))
    have hx := h x (List.mem_cons_self)
    simp only [secs, List.flatMap_cons, List.length_append, length_bv, List.length_cons] at *
    omega
theorem secs_cons (x : List Int) (fl : List (List Int)) : secs (x :: fl) = bv x ++ secs fl := rfl
theorem secs_take (i : Nat) : ∀ (fl : List (List Int)), (∀ x ∈ fl, x.length = 32) → ∀ hi : i < fl.length, ((secs fl).drop (i * 32)).take 32 = bv (fl[i]) := by
  induction i with
  | zero =>
    intro fl h hi
    cases fl with
    | nil => simp at hi
    | cons x fl =>
      have hx := h x (List.mem_cons_self)
      simp [secs_cons, List.take_append, hx, List.take_of_length_le]
  | succ i ih =>
    intro fl h hi
    cases fl with
    | nil => simp at hi
    | cons x fl =>
      have hx := h x (List.mem_cons_self)
      have := ih fl (fun y hy => h y (List.mem_cons_of_mem _ hy)) (by simpa using hi)
      rw [secs_cons, List.drop_append, List.drop_of_length_le (by simp; omega)]
      simp only [List.nil_append, length_bv, hx, List.getElem_cons_succ]
      rw [show (i + 1) * 32 - 32 = i * 32 by omega]; exact this
theorem secs_set (i : Nat) (y : List Int) (hy : y.length = 32) : ∀ (fl : List (List Int)) (sp : List Value), (∀ x ∈ fl, x.length = 32) → i < fl.length → wr (secs fl ++ sp) (i * 32) (bv y) = secs (fl.set i y) ++ sp := by
  induction i with
  | zero =>
    intro fl sp h hi
    cases fl with
    | nil => simp at hi
    | cons x fl =>
      have hx := h x (List.mem_cons_self)
      simp only [wr, secs_cons, List.set_cons_zero, Nat.zero_mul, List.take_zero, List.nil_append, length_bv, hy, Nat.zero_add, List.append_assoc]
      rw [List.drop_append, List.drop_of_length_le (by simp; omega)]
      simp [hx]
  | succ i ih =>
    intro fl sp h hi
    cases fl with
    | nil => simp at hi
    | cons x fl =>
      have hx := h x (List.mem_cons_self)
      have := ih fl sp (fun y hy => h y (List.mem_cons_of_mem _ hy)) (by simpa using hi)
      simp only [wr, length_bv, hy] at this ⊢
      simp only [secs_cons, List.set_cons_succ, List.append_assoc]
      rw [← this, List.take_append, List.drop_append, List.take_of_length_le (by simp; omega), List.drop_of_length_le (by simp; omega)]
      simp only [length_bv, hx, List.nil_append, List.append_assoc]
      rw [show (i + 1) * 32 - 32 = i * 32 by omega, show (i + 1) * 32 + 32 - 32 = i * 32 + 32 by omega]
theorem length_pcells : ∀ (p : List (Nat × List Int)), (∀ q ∈ p, q.2.length = 32) → (pcells p).length = p.length * 33
  | [], _ => rfl
  | q :: p, h => by
    have := length_pcells p (fun y hy => h y (List.mem_cons_of_mem _ hy))
    have hx := h q (List.mem_cons_self)
    simp only [pcells, List.flatMap_cons, List.length_append, wcell, List.length_cons, length_bv] at *
    omega
theorem pcells_take (i : Nat) : ∀ (p : List (Nat × List Int)), (∀ q ∈ p, q.2.length = 32) → ∀ hi : i < p.length, ((pcells p).drop (i * 33)).take 33 = wcell (p[i]) := by
  induction i with
  | zero =>
    intro p h hi
    cases p with
    | nil => simp at hi
    | cons q p =>
      have hx := h q (List.mem_cons_self)
      simp [pcells, wcell, List.take_append, hx, List.take_of_length_le]
  | succ i ih =>
    intro p h hi
    cases p with
    | nil => simp at hi
    | cons q p =>
      have hx := h q (List.mem_cons_self)
      have := ih p (fun y hy => h y (List.mem_cons_of_mem _ hy)) (by simpa using hi)
      have e : pcells (q :: p) = wcell q ++ pcells p := rfl
      rw [e, List.drop_append, List.drop_of_length_le (by simp [wcell]; omega)]
      simp only [List.nil_append, List.getElem_cons_succ]
      rw [show (i + 1) * 33 - (wcell q).length = i * 33 by simp [wcell]; omega]; exact this
theorem length_over (fl : List (List Int)) : ∀ (p : List (Nat × List Int)), (over fl p).length = fl.length := by
  intro p
  induction p generalizing fl with
  | nil => rfl
  | cons q p ih => simp only [over, List.foldl_cons] at *; rw [ih]; simp
theorem row_over (fl : List (List Int)) (h : ∀ x ∈ fl, x.length = 32) : ∀ (p : List (Nat × List Int)), (∀ q ∈ p, q.2.length = 32) → ∀ x ∈ over fl p, x.length = 32 := by
  intro p
  induction p generalizing fl with
  | nil => exact fun _ => h
  | cons q p ih =>
    intro hp
    simp only [over, List.foldl_cons] at *
    refine ih _ (fun x hx => ?_) (fun q hq => hp q (List.mem_cons_of_mem _ hq))
    rcases List.mem_or_eq_of_mem_set hx with hx | rfl
    · exact h x hx
    · exact hp q (List.mem_cons_self)
theorem over_snoc (fl : List (List Int)) (p : List (Nat × List Int)) (i : Nat) (x : List Int) : over fl (p ++ [(i, x)]) = (over fl p).set i x := by simp [over]
theorem DSt.Ok.larow {s : DSt} (h : s.Ok) : ∀ x ∈ s.la, x.length = 32 := row_over _ h.row _ (fun q hq => (h.prow q hq).2)
theorem DSt.length_la (s : DSt) : s.la.length = s.n := length_over _ _

section
variable {w0 w : World} {d : Value} {s : DSt} {L R : Blks}

set_option maxHeartbeats 400000 in
theorem len_c (hd : IsDisk d s L) (hO : Own w0 w (L ++ R)) : Calls Try.prog 14 #[d] w fun e w' => e = .returned (.int .i64 s.n) ∧ w = w' := by
  obtain ⟨ok, bd, bf, bl, cf, cl, sf, sl, pv, pb, rfl, hp, hcf, hcl, rfl⟩ := hd
  have hc : w.cell? ⟨bd, 0, none⟩ = some (.slice (some ⟨bf, 0, none⟩) s.n cf) := hO.cell (.head _) 0
  clear hO hp hcf hcl ok
  go_enter Try.func14, Try.ntmps14
  go_wp2
  go_ret
  exact ⟨rfl, rfl⟩
set_option maxHeartbeats 400000 in
theorem down_c (hd : IsDisk d s L) (hO : Own w0 w (L ++ R)) : Calls Try.prog 15 #[d] w fun e w' => e = .returned (.bool s.down) ∧ w = w' := by
  obtain ⟨ok, bd, bf, bl, cf, cl, sf, sl, pv, pb, rfl, hp, hcf, hcl, rfl⟩ := hd
  have hc : w.cell? ⟨bd, 4, none⟩ = some (.bool s.down) := hO.cell (.head _) 4
  clear hO hp hcf hcl ok
  go_enter Try.func15, Try.ntmps15
  go_wp2
  go_ret
  exact ⟨rfl, rfl⟩
set_option maxHeartbeats 400000 in
theorem pending_c (hd : IsDisk d s L) (hO : Own w0 w (L ++ R)) : Calls Try.prog 16 #[d] w fun e w' => e = .returned (.int .i64 s.pend.length) ∧ w = w' := by
  obtain ⟨ok, bd, bf, bl, cf, cl, sf, sl, pv, pb, rfl, hp, hcf, hcl, rfl⟩ := hd
  obtain ⟨A, c, rfl⟩ := IsRow.val hp
  have hc : w.cell? ⟨bd, 2, none⟩ = some (.slice A s.pend.length c) := hO.cell (.head _) 2
  clear hO hp hcf hcl ok
  go_enter Try.func16, Try.ntmps16
  go_wp2
  go_ret
  exact ⟨rfl, rfl⟩
/-- The error that stands in the way of sector at. -/
def DSt.refuse (s : DSt) (at_ : Int) : Int := if s.down then 8 else if at_ < 0 ∨ (s.n : Int) ≤ at_ then 9 else 0
set_option maxHeartbeats 400000 in
theorem refusal_c (hd : IsDisk d s L) (hO : Own w0 w (L ++ R)) (i : Int) : Calls Try.prog 18 #[d, .int .i64 i] w fun e w' => e = .returned (.int .i64 (s.refuse i)) ∧ w = w' := by
  have hl := Lib.hid (len_c hd hO)
  obtain ⟨ok, bd, bf, bl, cf, cl, sf, sl, pv, pb, rfl, hp, hcf, hcl, rfl⟩ := hd
  have hc : w.cell? ⟨bd, 4, none⟩ = some (.bool s.down) := hO.cell (.head _) 4
  clear hO hp hcf hcl ok
  unfold DSt.refuse
  cases hdn : s.down
  all_goals rw [hdn] at hc
  · by_cases h1 : i < 0
    · go_enter Try.func18, Try.ntmps18
      go_wp2
      go_ret
      exact ⟨by simp [h1], rfl⟩
    · by_cases h2 : (s.n : Int) ≤ i
      all_goals
        go_enter Try.func18, Try.ntmps18
        go_wp2_with (go_at_call 14; refine (hl.out).mono ?_; rintro e w' ⟨rfl, rfl⟩)
        go_ret
        exact ⟨by simp [h1, h2], rfl⟩
  · go_enter Try.func18, Try.ntmps18
    go_wp2
    go_ret
    exact ⟨by simp, rfl⟩
end
end Go.Proofs.Ytelboocnenaicaa
