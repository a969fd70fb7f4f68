/-
  URLs: plain lists; nothing runs here.
-/
import Derived.Test.YtkmfbfmmlldphaaDoorUtf2
namespace Go.Proofs.YtkmfbfmmlldphaaDoor
set_option linter.unusedVariables false
set_option linter.unusedSimpArgs false
set_option maxRecDepth 20000

/-! ### parts of a text -/
def ahead (stops : List Int) (l : List Int) : List Int := l.takeWhile fun x => !stops.contains x
def behind (stops : List Int) (l : List Int) : List Int := l.dropWhile fun x => !stops.contains x
theorem ahead_behind (stops l : List Int) : ahead stops l ++ behind stops l = l := List.takeWhile_append_dropWhile
theorem ahead_len (stops l : List Int) : (ahead stops l).length ≤ l.length := (List.takeWhile_sublist _).length_le
theorem behind_len (stops l : List Int) : (behind stops l).length ≤ l.length := (List.dropWhile_sublist _).length_le
theorem ahead_byt {stops l : List Int} (h : Byt l) : Byt (ahead stops l) := fun x hx => h x ((List.takeWhile_sublist _).subset hx)
theorem behind_byt {stops l : List Int} (h : Byt l) : Byt (behind stops l) := fun x hx => h x ((List.dropWhile_sublist _).subset hx)
/-- None of the first i bytes is a stop, the next one is. -/
theorem ahead_at {stops l : List Int} {i : Nat} (hi : i < l.length) (h : ∀ j, j < i → stops.contains (l.getD j 0) = false) (hs : stops.contains (l.getD i 0) = true) : ahead stops l = l.take i ∧ behind stops l = l.drop i := by
  induction l generalizing i with
  | nil => simp at hi
  | cons x l ih =>
    cases i with
    | zero =>
      rw [List.getD_cons_zero] at hs
      unfold ahead behind
      rw [List.takeWhile_cons_of_neg (by rw [hs]; simp), List.dropWhile_cons_of_neg (by rw [hs]; simp)]
      simp
    | succ i =>
      have h0 := h 0 (by omega)
      rw [List.getD_cons_zero] at h0
      have := ih (i := i) (by simp at hi; omega) (fun j hj => by have := h (j + 1) (by omega); rwa [List.getD_cons_succ] at this) (by rwa [List.getD_cons_succ] at hs)
      unfold ahead behind at *
      rw [List.takeWhile_cons_of_pos (by rw [h0]; rfl), List.dropWhile_cons_of_pos (by rw [h0]; rfl), this.1, this.2]
      simp
theorem ahead_none {stops l : List Int} (h : ∀ j, j < l.length → stops.contains (l.getD j 0) = false) : ahead stops l = l ∧ behind stops l = [] := by
  induction l with
  | nil => exact ⟨rfl, rfl⟩
  | cons x l ih =>
    have h0 := h 0 (by simp)
    rw [List.getD_cons_zero] at h0
    have := ih (fun j hj => by have := h (j + 1) (by simp; omega); rwa [List.getD_cons_succ] at this)
    unfold ahead behind at *
    rw [List.takeWhile_cons_of_pos (by rw [h0]; rfl), List.dropWhile_cons_of_pos (by rw [h0]; rfl), this.1, this.2]
    exact ⟨rfl, rfl⟩
/-- Does it begin so? -/
def begI (p l : List Int) : Bool := decide (l.take p.length = p)
theorem begI_iff {p l : List Int} : begI p l = true ↔ l.take p.length = p := by unfold begI; exact decide_eq_true_iff
theorem begI_drop {p l : List Int} (h : begI p l = true) : l = p ++ l.drop p.length := by
  have := List.take_append_drop p.length l
  rw [begI_iff.1 h] at this
  exact this.symm
theorem begI_len {p l : List Int} (h : begI p l = true) : p.length ≤ l.length := by
  have := congrArg List.length (begI_iff.1 h)
  rw [List.length_take] at this; omega
theorem begI_short {p l : List Int} (h : l.length < p.length) : begI p l = false := by
  rw [← Bool.not_eq_true]; intro e; have := begI_len e; omega
/-! ### hosts -/
def HB (x : Int) : Prop := (97 ≤ x ∧ x ≤ 122) ∨ (48 ≤ x ∧ x ≤ 57) ∨ x = 45 ∨ x = 46
instance (x : Int) : Decidable (HB x) := by unfold HB; infer_instance
def HostAt (l : List Int) (j : Nat) : Prop := HB (l.getD j 0) ∧ ¬ (l.getD j 0 = 46 ∧ l.getD (j + 1) 0 = 46)
instance (l : List Int) (j : Nat) : Decidable (HostAt l j) := by unfold HostAt; infer_instance
def HostOk (l : List Int) : Prop := 1 ≤ l.length ∧ l.length ≤ 20 ∧ l.getD 0 0 ≠ 46 ∧ l.getD (l.length - 1) 0 ≠ 46 ∧ ∀ j, j < l.length → HostAt l j
instance (l : List Int) : Decidable (HostOk l) := by unfold HostOk; infer_instance
/-! ### numbers -/
def digF : Nat → Nat → List Int
  | 0, n => [48 + ((n % 10 : Nat) : Int)]
  | f + 1, n => if n < 10 then [48 + (n : Int)] else digF f (n / 10) ++ [48 + ((n % 10 : Nat) : Int)]
/-- The digits of a number. -/
def digs (n : Nat) : List Int := digF 20 n
theorem digF_any : ∀ (f g n : Nat), n < 10 ^ (f + 1) → n < 10 ^ (g + 1) → digF f n = digF g n
  | 0, 0, n, _, _ => rfl
  | 0, g + 1, n, h, _ => by
    have h' : n < 10 := by simpa using h
    simp only [digF, if_pos h', Nat.mod_eq_of_lt h']
  | f + 1, 0, n, _, h => by
    have h' : n < 10 := by simpa using h
    simp only [digF, if_pos h', Nat.mod_eq_of_lt h']
  | f + 1, g + 1, n, h1, h2 => by
    simp only [digF]
    split
    · rfl
    · rw [digF_any f g (n / 10) (by rw [Nat.pow_succ] at h1; omega) (by rw [Nat.pow_succ] at h2; omega)]
theorem digs_small {n : Nat} (h : n < 10) : digs n = [48 + (n : Int)] := by unfold digs; simp only [digF, if_pos h]
theorem digs_step {n : Nat} (h : 10 ≤ n) (hn : n < 10 ^ 19) : digs n = digs (n / 10) ++ [48 + ((n % 10 : Nat) : Int)] := by
  unfold digs
  rw [show digF 20 n = digF 19 (n / 10) ++ [48 + ((n % 10 : Nat) : Int)] by simp only [digF]; rw [if_neg (by omega)]]
  rw [digF_any 19 20 (n / 10) (by omega) (by omega)]
theorem digF_len : ∀ (f n : Nat), 1 ≤ (digF f n).length ∧ (digF f n).length ≤ f + 1
  | 0, n => by simp [digF]
  | f + 1, n => by
    simp only [digF]
    split
    · simp
    · have := digF_len f (n / 10); simp; omega
theorem digs_len (n : Nat) : 1 ≤ (digs n).length ∧ (digs n).length ≤ 21 := digF_len 20 n
theorem digF_dig : ∀ (f n : Nat), ∀ x ∈ digF f n, 48 ≤ x ∧ x ≤ 57
  | 0, n, x, h => by simp only [digF, List.mem_singleton] at h; omega
  | f + 1, n, x, h => by
    simp only [digF] at h
    split at h
    · rw [List.mem_singleton] at h; omega
    · rcases List.mem_append.1 h with h | h
      · exact digF_dig f _ x h
      · rw [List.mem_singleton] at h; omega
theorem digs_dig (n : Nat) : ∀ x ∈ digs n, 48 ≤ x ∧ x ≤ 57 := digF_dig 20 n
theorem digs_byt (n : Nat) : Byt (digs n) := fun x hx => by have := digs_dig n x hx; omega
/-- The number that digits tell. -/
def figN (l : List Int) : Int := l.foldl (fun n c => 10 * n + (c - 48)) 0
theorem figN_snoc (l : List Int) (c : Int) : figN (l ++ [c]) = 10 * figN l + (c - 48) := by unfold figN; rw [List.foldl_append]; rfl
theorem figF_bound : ∀ (l : List Int) (n : Int) (k : Nat), 0 ≤ n → n < 10 ^ k → (∀ x ∈ l, 48 ≤ x ∧ x ≤ 57) → 0 ≤ l.foldl (fun n c => 10 * n + (c - 48)) n ∧ l.foldl (fun n c => 10 * n + (c - 48)) n < 10 ^ (k + l.length)
  | [], n, k, h0, h1, _ => ⟨h0, h1⟩
  | c :: l, n, k, h0, h1, h => by
    have hc := h c (.head _)
    have e : (10 : Int) ^ (k + 1) = 10 ^ k * 10 := Int.pow_succ ..
    have := figF_bound l (10 * n + (c - 48)) (k + 1) (by omega) (by rw [e]; generalize (10 : Int) ^ k = p at *; omega) (fun x hx => h x (.tail _ hx))
    rw [List.foldl_cons, List.length_cons, show k + (l.length + 1) = k + 1 + l.length by omega]
    exact this
theorem figN_bound (l : List Int) (h : ∀ x ∈ l, 48 ≤ x ∧ x ≤ 57) : 0 ≤ figN l ∧ figN l < 10 ^ l.length := by
  have := figF_bound l 0 0 (by omega) (by decide) h
  rwa [Nat.zero_add] at this
def FigOk (l : List Int) (least most : Int) : Prop := least ≤ l.length ∧ (l.length : Int) ≤ most ∧ ∀ x ∈ l, 48 ≤ x ∧ x ≤ 57
instance (l : List Int) (a b : Int) : Decidable (FigOk l a b) := by unfold FigOk; infer_instance
def figI (l : List Int) (least most : Int) : Option Int := if FigOk l least most then some (figN l) else none
theorem figN_digs : ∀ (f n : Nat), n < 10 ^ (f + 1) → figN (digF f n) = n
  | 0, n, h => by
    have h' : n < 10 := by simpa using h
    simp [digF, figN]; omega
  | f + 1, n, h => by
    simp only [digF]
    split
    · simp [figN]; omega
    · rw [figN_snoc, figN_digs f (n / 10) (by rw [Nat.pow_succ] at h; omega)]
      omega
theorem fig_digs {n : Nat} (h : n < 10 ^ 19) : figN (digs n) = n := figN_digs 20 n (by omega)
/-! ### paths -/
def partsI : List Int → List (List Int)
  | [] => [[]]
  | c :: r => if c = 47 then [] :: partsI r else match partsI r with
    | p :: ps => (c :: p) :: ps
    | [] => [[c]]
theorem partsI_ne (l : List Int) : partsI l ≠ [] := by
  cases l with
  | nil => simp [partsI]
  | cons c r => unfold partsI; split; simp; split <;> simp
theorem partsI_at : ∀ (l : List Int), partsI l = match behind [47] l with
    | [] => [ahead [47] l]
    | _ :: r => ahead [47] l :: partsI r
  | [] => rfl
  | c :: r => by
    by_cases hc : c = 47
    · subst hc
      show partsI (47 :: r) = _
      have h1 : behind [47] (47 :: r) = 47 :: r := by unfold behind; rw [List.dropWhile_cons_of_neg (by simp)]
      have h2 : ahead [47] (47 :: r) = [] := by unfold ahead; rw [List.takeWhile_cons_of_neg (by simp)]
      rw [h1, h2]
      simp [partsI]
    · have h1 : behind [47] (c :: r) = behind [47] r := by unfold behind; rw [List.dropWhile_cons_of_pos (by simp [hc])]
      have h2 : ahead [47] (c :: r) = c :: ahead [47] r := by unfold ahead; rw [List.takeWhile_cons_of_pos (by simp [hc])]
      rw [h1, h2]
      have ih := partsI_at r
      simp only [partsI, if_neg hc]
      rw [ih]
      cases behind [47] r <;> rfl
theorem partsI_end {l : List Int} (h : behind [47] l = []) : partsI l = [ahead [47] l] := by rw [partsI_at, h]
theorem partsI_more {l : List Int} {c : Int} {r : List Int} (h : behind [47] l = c :: r) : partsI l = ahead [47] l :: partsI r := by rw [partsI_at, h]
/-- One part behind others. -/
def dotStep (st : List (List Int)) (p : List Int) (last : Bool) : List (List Int) :=
  if p = [46] ∨ p = [46, 46] then
    (let st1 := if p = [46, 46] then st.dropLast else st
     if last then st1 ++ [[]] else st1)
  else st ++ [pctE p]
def dotGo : List (List Int) → List (List Int) → List (List Int)
  | st, [] => st
  | st, [p] => dotStep st p true
  | st, p :: q :: r => dotGo (dotStep st p false) (q :: r)
def slashed (ps : List (List Int)) : List Int := ps.flatMap fun p => 47 :: p
/-- A path without its points. -/
def dotsI (path : List Int) : List Int := slashed (dotGo [] (partsI (path.drop 1)))
/-! ### URLs -/
structure UL where
  sch : List Int
  host : List Int
  port : Int
  path : List Int
  query : List Int
def httpI : List Int := [104, 116, 116, 112]
def httpsI : List Int := [104, 116, 116, 112, 115]
def ownI (sch : List Int) : Int := if sch = httpsI then 443 else 80
def schemeI (t : List Int) : Option (List Int × List Int) :=
  if begI (httpI ++ [58, 47, 47]) (lowL t) then some (httpI, t.drop 7) else if begI (httpsI ++ [58, 47, 47]) (lowL t) then some (httpsI, t.drop 8) else none
def portI (sch rest : List Int) : Option (Int × List Int) :=
  if begI [58] rest then
    (figI (ahead [47, 63, 35] (rest.drop 1)) 1 5).bind fun n => if 65535 < n then none else some (if n = ownI sch then 0 else n, behind [47, 63, 35] (rest.drop 1))
  else some (0, rest)
def originI (u : UL) : List Int := u.sch ++ [58, 47, 47] ++ u.host ++ (if 0 < u.port then 58 :: digs u.port.toNat else [])
def printI (u : UL) : List Int := originI u ++ u.path ++ u.query
def queryI (q : List Int) : List Int := if 1 < q.length then 63 :: pctE (q.drop 1) else []
def restI (sch host : List Int) (port : Int) (rest : List Int) : Option UL :=
  let r := ahead [35] rest
  let u : UL := ⟨sch, host, port, dotsI (ahead [63] r), queryI (behind [63] r)⟩
  if 40 < (printI u).length then none else some u
def hostI (sch r : List Int) : Option UL :=
  if HostOk (lowL (ahead [58, 47, 63, 35] r)) then (portI sch (behind [58, 47, 63, 35] r)).bind fun p => restI sch (lowL (ahead [58, 47, 63, 35] r)) p.1 p.2 else none
def parseI (l : List Int) : Option UL := (schemeI (trimI l)).bind fun p => hostI p.1 p.2
def joinI (base : UL) (l : List Int) : Option UL :=
  if begI [47, 47] (trimI l) then parseI (base.sch ++ [58] ++ trimI l) else if begI [47] (trimI l) then parseI (originI base ++ trimI l) else parseI (trimI l)
def secureI (u : UL) : Bool := decide (u.sch = httpsI) || decide (u.host = [108, 111, 99, 97, 108, 104, 111, 115, 116])
end Go.Proofs.YtkmfbfmmlldphaaDoor
