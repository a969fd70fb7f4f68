/-
  The landed program's own way to read a URL: plain lists; nothing runs here.
-/
import Derived.Test.YtakihnmajgmnpaaDoorUrl11
namespace Go.Proofs.YtakihnmajgmnpaaDoor
set_option linter.unusedVariables false
set_option linter.unusedSimpArgs false
set_option maxRecDepth 20000

/-! ### parts -/
theorem contains_app (a b : List Int) (x : Int) : (a ++ b).contains x = (a.contains x || b.contains x) := by
  rw [Bool.eq_iff_iff]; simp
theorem ahead_ahead (a b : List Int) : ∀ l : List Int, ahead a (ahead b l) = ahead (a ++ b) l
  | [] => rfl
  | x :: l => by
    have ih := ahead_ahead a b l
    unfold ahead at *
    by_cases hb : b.contains x = true
    · rw [List.takeWhile_cons_of_neg (p := fun x => !b.contains x) (by rw [hb]; simp), List.takeWhile_cons_of_neg (p := fun x => !(a ++ b).contains x) (by rw [contains_app, hb]; simp)]
      rfl
    · rw [Bool.not_eq_true] at hb
      rw [List.takeWhile_cons_of_pos (p := fun x => !b.contains x) (by rw [hb]; rfl)]
      by_cases ha : a.contains x = true
      · rw [List.takeWhile_cons_of_neg (p := fun x => !a.contains x) (by rw [ha]; simp), List.takeWhile_cons_of_neg (p := fun x => !(a ++ b).contains x) (by rw [contains_app, ha]; simp)]
      · rw [Bool.not_eq_true] at ha
        rw [List.takeWhile_cons_of_pos (p := fun x => !a.contains x) (by rw [ha]; rfl), List.takeWhile_cons_of_pos (p := fun x => !(a ++ b).contains x) (by rw [contains_app, ha, hb]; rfl), ih]
theorem ahead_no (st : List Int) : ∀ (l : List Int), ∀ y ∈ ahead st l, st.contains y = false
  | [], y, h => by cases h
  | x :: l, y, h => by
    have ih := ahead_no st l y
    unfold ahead at *
    by_cases hx : st.contains x = true
    · rw [List.takeWhile_cons_of_neg (p := fun x => !st.contains x) (by rw [hx]; simp)] at h; cases h
    · rw [Bool.not_eq_true] at hx
      rw [List.takeWhile_cons_of_pos (p := fun x => !st.contains x) (by rw [hx]; rfl)] at h
      rcases List.mem_cons.1 h with rfl | h
      · exact hx
      · exact ih h
theorem behind_hd (st : List Int) : ∀ (l : List Int), behind st l = [] ∨ ∃ x r, behind st l = x :: r ∧ st.contains x = true
  | [] => .inl rfl
  | x :: l => by
    have ih := behind_hd st l
    unfold behind at *
    by_cases hx : st.contains x = true
    · rw [List.dropWhile_cons_of_neg (p := fun x => !st.contains x) (by rw [hx]; simp)]
      exact .inr ⟨x, l, rfl, hx⟩
    · rw [Bool.not_eq_true] at hx
      rw [List.dropWhile_cons_of_pos (p := fun x => !st.contains x) (by rw [hx]; rfl)]
      exact ih
theorem ahead_app {st : List Int} : ∀ {p : List Int} (l : List Int), (∀ y ∈ p, st.contains y = false) → ahead st (p ++ l) = p ++ ahead st l ∧ behind st (p ++ l) = behind st l
  | [], l, _ => ⟨rfl, rfl⟩
  | x :: p, l, h => by
    have hx := h x (.head _)
    have ih := ahead_app (st := st) (p := p) l (fun y hy => h y (.tail _ hy))
    unfold ahead behind at *
    rw [List.cons_append, List.takeWhile_cons_of_pos (p := fun x => !st.contains x) (by rw [hx]; rfl), List.dropWhile_cons_of_pos (p := fun x => !st.contains x) (by rw [hx]; rfl), ih.1, ih.2]
    exact ⟨rfl, rfl⟩
theorem ahead_hd {st : List Int} {x : Int} (h : st.contains x = true) (l : List Int) : ahead st (x :: l) = [] ∧ behind st (x :: l) = x :: l := by
  unfold ahead behind
  rw [List.takeWhile_cons_of_neg (p := fun x => !st.contains x) (by rw [h]; simp), List.dropWhile_cons_of_neg (p := fun x => !st.contains x) (by rw [h]; simp)]
  exact ⟨rfl, rfl⟩
/-! ### the mark behind the scheme -/
def cut3 : List Int → List Int × List Int
  | [] => ([], [])
  | x :: l => if begI [58, 47, 47] (x :: l) then ([], (x :: l).drop 3) else (x :: (cut3 l).1, (cut3 l).2)
theorem cut3_hit : ∀ {p : List Int} (r : List Int), (∀ y ∈ p, y ≠ 58) → cut3 (p ++ (58 :: 47 :: 47 :: r)) = (p, r)
  | [], r, _ => by
    show cut3 (58 :: 47 :: 47 :: r) = _
    unfold cut3
    rw [if_pos (by rw [begI_iff]; rfl)]
    rfl
  | x :: p, r, h => by
    have hx := h x (.head _)
    have ih := cut3_hit (p := p) r (fun y hy => h y (.tail _ hy))
    rw [List.cons_append]
    unfold cut3
    rw [if_neg (by rw [begI_iff]; simp [hx]), ih]
theorem cut3_is : ∀ (l : List Int), l = (cut3 l).1 ++ (58 :: 47 :: 47 :: (cut3 l).2) ∨ ((cut3 l).1 = l ∧ (cut3 l).2 = [])
  | [] => .inr ⟨rfl, rfl⟩
  | x :: l => by
    unfold cut3
    split
    · rename_i h
      left
      have := begI_drop h
      simpa using this
    · rcases cut3_is l with h | ⟨h1, h2⟩
      · left
        show x :: l = x :: ((cut3 l).1 ++ _)
        rw [← h]
      · right
        exact ⟨by show x :: (cut3 l).1 = _; rw [h1], h2⟩
theorem cut3_mem (l : List Int) : (∀ x ∈ (cut3 l).1, x ∈ l) ∧ (∀ x ∈ (cut3 l).2, x ∈ l) ∧ (cut3 l).1.length + (cut3 l).2.length ≤ l.length := by
  rcases cut3_is l with h | ⟨h1, h2⟩
  · refine ⟨fun x hx => ?_, fun x hx => ?_, ?_⟩
    · rw [h]; simp [hx]
    · rw [h]; simp [hx]
    · have := congrArg List.length h; simp at this; omega
  · exact ⟨fun x hx => (by rw [← h1]; exact hx), fun x hx => (by rw [h2] at hx; cases hx), (by rw [h1, h2]; simp)⟩
/-! ### paths -/
def rawStep (st : List (List Int)) (p : List Int) (last : Bool) : List (List Int) :=
  if p = [46] ∨ p = [46, 46] then
    (let st1 := if p = [46, 46] then st.dropLast else st
     if last then st1 ++ [[]] else st1)
  else st ++ [p]
def rawGo : List (List Int) → List (List Int) → List (List Int)
  | st, [] => st
  | st, [p] => rawStep st p true
  | st, p :: q :: r => rawGo (rawStep st p false) (q :: r)
theorem dotStep_raw (st : List (List Int)) (p : List Int) (last : Bool) : dotStep (st.map pctE) p last = (rawStep st p last).map pctE := by
  unfold dotStep rawStep
  split
  · simp only []
    have e : (if p = [46, 46] then (st.map pctE).dropLast else st.map pctE) = (if p = [46, 46] then st.dropLast else st).map pctE := by
      split
      · rw [List.map_dropLast]
      · rfl
    rw [e]
    cases last
    · rfl
    · simp only [if_true, List.map_append, List.map_cons, List.map_nil]
      rfl
  · simp
theorem dotGo_raw : ∀ (ps st : List (List Int)), dotGo (st.map pctE) ps = (rawGo st ps).map pctE
  | [], st => rfl
  | [p], st => dotStep_raw st p true
  | p :: q :: r, st => by
    show dotGo (dotStep (st.map pctE) p false) (q :: r) = (rawGo (rawStep st p false) (q :: r)).map pctE
    rw [dotStep_raw, dotGo_raw (q :: r)]
theorem rawGo_cons (st : List (List Int)) (p : List Int) {ps : List (List Int)} (h : ps ≠ []) : rawGo st (p :: ps) = rawGo (rawStep st p false) ps := by
  cases ps with
  | nil => exact absurd rfl h
  | cons q r => rfl
theorem dec_slash {p : List Int} (hp : p ≠ []) (r : List Int) : decI (p ++ 47 :: r) = decI p := by
  unfold decI
  rcases p with _ | ⟨a, _ | ⟨b, _ | ⟨c, _ | ⟨d, t⟩⟩⟩⟩
  · exact absurd rfl hp
  · simp [Lib.decodeN]
  · simp [Lib.decodeN]
  · simp [Lib.decodeN]
  · simp [Lib.decodeN]
theorem runes_slash : ∀ (n : Nat) (p : List Int), p.length ≤ n → ∀ r, runes (p ++ 47 :: r) = runes p ++ 47 :: runes r
  | n, [], _, r => by
    have := runes_enc (c := 47) (by unfold vrune; omega) r
    rw [encI_one (by decide)] at this
    exact this
  | 0, x :: p, h, _ => by simp at h
  | n + 1, x :: p, h, r => by
    have hne : x :: p ≠ [] := by simp
    have h1 := decI_pos (x :: p)
    have h2 := decI_le hne
    rw [runes_step (by simp), dec_slash hne, runes_step hne, List.drop_append_of_le_length h2, runes_slash n _ (by rw [List.length_drop]; simp only [List.length_cons] at *; omega)]
    rfl
theorem pctE_slash (p r : List Int) : pctE (p ++ 47 :: r) = pctE p ++ 47 :: pctE r := by
  unfold pctE
  rw [runes_slash p.length p (Nat.le_refl _), List.flatMap_append, List.flatMap_cons]
  rfl
theorem pctE_slashed : ∀ st : List (List Int), slashed (st.map pctE) = pctE (slashed st)
  | [] => rfl
  | [p] => by
    show 47 :: pctE p ++ [] = pctE (47 :: p ++ [])
    rw [List.append_nil, List.append_nil]
    exact (pctE_slash [] p).symm
  | p :: q :: r => by
    have ih := pctE_slashed (q :: r)
    show (47 :: pctE p) ++ slashed ((q :: r).map pctE) = pctE ((47 :: p) ++ slashed (q :: r))
    rw [ih]
    have e : slashed (q :: r) = 47 :: (q ++ slashed r) := rfl
    rw [e, pctE_slash (47 :: p)]
    have h1 : pctE (47 :: p) = 47 :: pctE p := pctE_slash [] p
    have h2 : pctE (47 :: (q ++ slashed r)) = 47 :: pctE (q ++ slashed r) := pctE_slash [] _
    rw [h1, h2]
/-- The path that the parts of l lead to (without the slash that begins it). -/
def walkI (l : List Int) : List Int := slashed (rawGo [] (partsI l))
theorem walk_dots (l : List Int) : pctE (walkI (l.drop 1)) = dotsI l := by
  unfold walkI dotsI
  rw [← pctE_slashed, ← dotGo_raw]
  rfl
/-! ### reading -/
def schI (s : List Int) : Option (List Int) := if lowL s = httpI then some httpI else if lowL s = httpsI then some httpsI else none
def prtI (p : List Int) : Option Int := (figI p 1 5).bind fun n => if 65535 < n then none else some n
def prtI' (at_ : List Int) : Option Int := if behind [58] at_ = [] then some 0 else prtI ((behind [58] at_).drop 1)
def readI (T : List Int) : Option UL :=
  let s1 := ahead [35] T
  let c := cut3 (ahead [63] s1)
  let q := (behind [63] s1).drop 1
  let at_ := ahead [47] c.2
  (schI c.1).bind fun sch => if HostOk (lowL (ahead [58] at_)) then
    (prtI' at_).bind fun n => some ⟨sch, lowL (ahead [58] at_), if n = ownI sch then 0 else n, pctE (walkI ((behind [47] c.2).drop 1)), if q = [] then [] else 63 :: pctE q⟩
  else none
theorem low_is {y a : Int} (h : lowI y = a) : y = a ∨ (97 ≤ a ∧ a ≤ 122 ∧ y = a - 32) := by
  unfold lowI at h
  split at h
  · right; omega
  · exact .inl h
theorem low_http {P : List Int} (h : lowL P = httpI ∨ lowL P = httpsI) : ∀ y ∈ P, y ≠ 58 ∧ y ≠ 35 ∧ y ≠ 63 ∧ y ≠ 47 := by
  intro y hy
  have hm : lowI y ∈ httpsI := by
    have h1 : lowI y ∈ lowL P := List.mem_map.2 ⟨y, hy, rfl⟩
    rcases h with h | h <;> rw [h] at h1
    · simp [httpI, httpsI] at h1 ⊢; omega
    · exact h1
  simp only [httpsI, List.mem_cons, List.not_mem_nil, or_false] at hm
  rcases hm with e | e | e | e | e <;> rcases low_is e with h1 | h1 <;> omega
theorem low_marks {M : List Int} (h : lowL M = [58, 47, 47]) : M = [58, 47, 47] := by
  rcases M with _ | ⟨a, _ | ⟨b, _ | ⟨c, _ | ⟨d, t⟩⟩⟩⟩ <;> simp [lowL] at h
  have h1 := low_is h.1; have h2 := low_is h.2.1; have h3 := low_is h.2.2
  simp; omega
theorem begI_low {p T : List Int} (h : begI p (lowL T) = true) : lowL (T.take p.length) = p := by
  have := begI_iff.1 h
  unfold lowL at *
  rw [List.map_take]; exact this
theorem lowL_take (l : List Int) (n : Nat) : lowL (l.take n) = (lowL l).take n := by unfold lowL; rw [List.map_take]
/-- What has a scheme is the scheme's letters, the mark, the rest. -/
theorem scheme_parts {T sch r : List Int} (h : schemeI T = some (sch, r)) : ∃ P, T = P ++ (58 :: 47 :: 47 :: r) ∧ lowL P = sch ∧ schI P = some sch := by
  have key : ∀ (q : List Int) (n : Nat), q.length = n → begI (q ++ [58, 47, 47]) (lowL T) = true → T = T.take n ++ (58 :: 47 :: 47 :: T.drop (n + 3)) ∧ lowL (T.take n) = q := by
    intro q n hn hb
    have h1 := begI_low hb
    have hl := begI_len hb
    have hlen : n + 3 ≤ T.length := by have : (lowL T).length = T.length := by simp [lowL]
                                       simp only [List.length_append, List.length_cons, List.length_nil] at hl; omega
    rw [List.length_append, hn, show ([58, 47, 47] : List Int).length = 3 from rfl] at h1
    have e : T.take (n + 3) = T.take n ++ (T.drop n).take 3 := by rw [List.take_add]
    rw [e, lowL_append] at h1
    have h2 : lowL (T.take n) = q ∧ lowL ((T.drop n).take 3) = [58, 47, 47] := by
      apply List.append_inj h1
      simp [lowL]; omega
    have h3 := low_marks h2.2
    refine ⟨?_, h2.1⟩
    have h4 : T.drop n = (T.drop n).take 3 ++ (T.drop n).drop 3 := (List.take_append_drop 3 _).symm
    rw [h3, List.drop_drop] at h4
    have h5 : T = T.take n ++ T.drop n := (List.take_append_drop n T).symm
    rw [h4] at h5
    exact h5
  unfold schemeI at h
  split at h
  · rename_i hb
    cases h
    have := key httpI 4 rfl hb
    exact ⟨_, this.1, this.2, by unfold schI; rw [if_pos this.2]⟩
  · split at h
    · rename_i hb
      cases h
      have := key httpsI 5 rfl hb
      exact ⟨_, this.1, this.2, by unfold schI; rw [if_neg (by rw [this.2]; decide), if_pos this.2]⟩
    · cases h
theorem scheme_of {P r sch : List Int} (h : schI P = some sch) : schemeI (P ++ (58 :: 47 :: 47 :: r)) = some (sch, r) := by
  have low : lowL (P ++ (58 :: 47 :: 47 :: r)) = lowL P ++ ([58, 47, 47] ++ lowL r) := by rw [lowL_append]; rfl
  unfold schI at h
  split at h
  · rename_i e
    cases h
    have hl : P.length = 4 := by have := congrArg List.length e; simpa [lowL, httpI] using this
    unfold schemeI
    rw [low, e, if_pos (by rw [begI_iff, ← List.append_assoc, List.take_left']; rfl)]
    rw [List.drop_append, hl]
    simp [hl, List.drop_eq_nil_of_le]
  · split at h
    · rename_i hne e
      cases h
      have hl : P.length = 5 := by have := congrArg List.length e; simpa [lowL, httpsI] using this
      unfold schemeI
      rw [low, e, if_neg (by rw [begI_iff]; simp [httpsI, httpI]), if_pos (by rw [begI_iff, ← List.append_assoc, List.take_left']; rfl)]
      rw [List.drop_append, hl]
      simp [hl, List.drop_eq_nil_of_le]
    · cases h
def cap40 (u : UL) : Option UL := if 40 < (printI u).length then none else some u
/-- What follows the host, or the port: nothing, or one of the three signs. -/
theorem tail_parts {E : List Int} (h : E = [] ∨ ∃ x r, E = x :: r ∧ ([47, 63, 35] : List Int).contains x = true) :
    ahead [47] (ahead [63] (ahead [35] E)) = [] ∧ behind [47] (ahead [63] (ahead [35] E)) = ahead [63] (ahead [35] E) := by
  rcases h with rfl | ⟨x, r, rfl, hx⟩
  · exact ⟨rfl, rfl⟩
  · have h1 := (ahead_hd hx r).1
    rw [ahead_ahead, ahead_ahead]
    refine ⟨h1, ?_⟩
    rw [ahead_ahead]
    simp only [List.contains_cons, List.contains_nil, Bool.or_false, Bool.or_eq_true, beq_iff_eq] at hx
    rcases hx with rfl | rfl | rfl
    · unfold ahead behind
      rw [List.takeWhile_cons_of_pos (by decide), List.dropWhile_cons_of_neg (by decide)]
    · unfold ahead behind
      rw [List.takeWhile_cons_of_neg (by decide)]
      rfl
    · unfold ahead behind
      rw [List.takeWhile_cons_of_neg (by decide)]
      rfl
theorem query_same (q : List Int) : queryI q = if q.drop 1 = [] then [] else 63 :: pctE (q.drop 1) := by
  unfold queryI
  by_cases h : 1 < q.length
  · rw [if_pos h, if_neg (by intro e; have := congrArg List.length e; simp at this; omega)]
  · rw [if_neg h, if_pos (by apply List.drop_eq_nil_of_le; omega)]
theorem read_hit {P r sch : List Int} (hs : schI P = some sch) : (readI (P ++ (58 :: 47 :: 47 :: r))).bind cap40 = hostI sch r := by
  have hP := low_http (P := P) (by
    unfold schI at hs
    split at hs
    · rename_i e; exact .inl e
    · split at hs
      · rename_i e; exact .inr e
      · cases hs)
  have hno : ∀ (st : List Int), (∀ y ∈ st, y = 35 ∨ y = 63) → ∀ y ∈ P ++ [58, 47, 47], st.contains y = false := by
    intro st hst y hy
    rw [← Bool.not_eq_true]
    intro hc
    have h1 := hst y (by simpa using hc)
    rcases List.mem_append.1 hy with h2 | h2
    · have := hP y h2; omega
    · simp at h2; omega
  have e1 : P ++ (58 :: 47 :: 47 :: r) = (P ++ [58, 47, 47]) ++ r := by simp
  have a1 := ahead_app (st := [35]) (p := P ++ [58, 47, 47]) r (hno _ (by simp))
  have a2 := ahead_app (st := [63]) (p := P ++ [58, 47, 47]) (ahead [35] r) (hno _ (by simp))
  have c3 : cut3 (P ++ [58, 47, 47] ++ ahead [63] (ahead [35] r)) = (P, ahead [63] (ahead [35] r)) := by
    rw [show P ++ [58, 47, 47] ++ ahead [63] (ahead [35] r) = P ++ (58 :: 47 :: 47 :: ahead [63] (ahead [35] r)) by simp]
    exact cut3_hit _ (fun y hy => (hP y hy).1)
  unfold readI
  simp only [e1, a1.1, a2.1, a2.2, c3, hs, Option.bind_some]
  unfold hostI
  -- the host
  have hH : ahead [58] (ahead [47] (ahead [63] (ahead [35] r))) = ahead [58, 47, 63, 35] r := by rw [ahead_ahead, ahead_ahead, ahead_ahead]; rfl
  rw [hH]
  split
  · rename_i hho
    have hr : r = ahead [58, 47, 63, 35] r ++ behind [58, 47, 63, 35] r := (ahead_behind _ r).symm
    have hHno := ahead_no [58, 47, 63, 35] r
    have hBhd := behind_hd [58, 47, 63, 35] r
    generalize ahead [58, 47, 63, 35] r = H at *
    generalize behind [58, 47, 63, 35] r = B at *
    have hn : ∀ st : List Int, (∀ y ∈ st, y ∈ ([58, 47, 63, 35] : List Int)) → ∀ y ∈ H, st.contains y = false := by
      intro st hst y hy
      rw [← Bool.not_eq_true]
      intro hc
      have h1 := hst y (by simpa using hc)
      have h2 := hHno y hy
      simp only [List.contains_cons, List.contains_nil, Bool.or_false, Bool.or_eq_false_iff, beq_eq_false_iff_ne] at h2
      simp at h1; omega
    have b1 := ahead_app (st := [35]) (p := H) B (hn _ (by simp))
    have b2 := ahead_app (st := [63]) (p := H) (ahead [35] B) (hn _ (by simp))
    have b3 := ahead_app (st := [47]) (p := H) (ahead [63] (ahead [35] B)) (hn _ (by simp))
    have b4 := ahead_app (st := [58]) (p := H) (ahead [47] (ahead [63] (ahead [35] B))) (hn _ (by simp))
    rw [hr, b1.1, b2.1, b2.2, b3.1, b3.2]
    unfold prtI' portI
    rw [b4.2]
    by_cases hb : begI [58] B = true
    · obtain ⟨C, rfl⟩ : ∃ C, B = 58 :: C := ⟨B.drop 1, by have := begI_drop hb; simpa using this⟩
      rw [if_pos hb]
      have hC : C = ahead [47, 63, 35] C ++ behind [47, 63, 35] C := (ahead_behind _ C).symm
      have hDno := ahead_no [47, 63, 35] C
      have hEhd := behind_hd [47, 63, 35] C
      rw [show (58 :: C).drop 1 = C from rfl]
      generalize ahead [47, 63, 35] C = D at *
      generalize behind [47, 63, 35] C = E at *
      subst hC
      have hn2 : ∀ st : List Int, (∀ y ∈ st, y ∈ ([47, 63, 35] : List Int)) → ∀ y ∈ 58 :: D, st.contains y = false := by
        intro st hst y hy
        rw [← Bool.not_eq_true]
        intro hc
        have h1 := hst y (by simpa using hc)
        rcases List.mem_cons.1 hy with rfl | hy
        · simp at h1
        · have h2 := hDno y hy
          simp only [List.contains_cons, List.contains_nil, Bool.or_false, Bool.or_eq_false_iff, beq_eq_false_iff_ne] at h2
          simp at h1; omega
      have d1 := ahead_app (st := [35]) (p := 58 :: D) E (hn2 _ (by simp))
      have d2 := ahead_app (st := [63]) (p := 58 :: D) (ahead [35] E) (hn2 _ (by simp))
      have d3 := ahead_app (st := [47]) (p := 58 :: D) (ahead [63] (ahead [35] E)) (hn2 _ (by simp))
      have ht := tail_parts hEhd
      simp only [List.cons_append] at d1 d2 d3
      rw [d1.1, d2.1, d2.2, d3.1, d3.2, ht.1, ht.2, List.append_nil]
      have h58 := (ahead_hd (st := [58]) (x := 58) (by decide) D).2
      rw [h58, if_neg (by simp), List.drop_succ_cons, List.drop_zero, walk_dots, ← query_same]
      unfold prtI restI
      cases figI D 1 5 with
      | none => rfl
      | some n =>
        simp only [Option.bind_some]
        by_cases h65 : 65535 < n
        · rw [if_pos h65, if_pos h65]; rfl
        · rw [if_neg h65, if_neg h65]
          rfl
    · rw [if_neg hb]
      have hB : B = [] ∨ ∃ x q, B = x :: q ∧ ([47, 63, 35] : List Int).contains x = true := by
        rcases hBhd with h | ⟨x, q, rfl, hx⟩
        · exact .inl h
        · refine .inr ⟨x, q, rfl, ?_⟩
          simp only [List.contains_cons, List.contains_nil, Bool.or_false, Bool.or_eq_true, beq_iff_eq] at hx ⊢
          rcases hx with rfl | hx
          · exact absurd (by rw [begI_iff]; rfl) hb
          · exact hx
      have ht := tail_parts hB
      rw [ht.1, ht.2, show behind [58] [] = [] from rfl, if_pos rfl, walk_dots, ← query_same]
      have hown : (if (0 : Int) = ownI sch then (0 : Int) else 0) = 0 := by split <;> rfl
      unfold restI
      simp only [Option.bind_some, hown]
      rfl
  · rfl
/-- The landed program reads what the document's Parse reads. -/
theorem read_parse (T : List Int) : (readI T).bind cap40 = (schemeI T).bind fun p => hostI p.1 p.2 := by
  cases hs : schemeI T with
  | some p =>
    obtain ⟨sch, r⟩ := p
    obtain ⟨P, rfl, _, h⟩ := scheme_parts hs
    exact read_hit h
  | none =>
    rw [Option.bind_none]
    unfold readI
    simp only []
    have hT1 : T = ahead [35] T ++ behind [35] T := (ahead_behind _ T).symm
    have hT2 : ahead [35] T = ahead [63] (ahead [35] T) ++ behind [63] (ahead [35] T) := (ahead_behind _ _).symm
    rcases cut3_is (ahead [63] (ahead [35] T)) with h | ⟨_, h2⟩
    · cases hc : schI (cut3 (ahead [63] (ahead [35] T))).1 with
      | none => rfl
      | some sch =>
        exfalso
        have := scheme_of (r := (cut3 (ahead [63] (ahead [35] T))).2 ++ (behind [63] (ahead [35] T) ++ behind [35] T)) hc
        have e : (cut3 (ahead [63] (ahead [35] T))).1 ++ (58 :: 47 :: 47 :: ((cut3 (ahead [63] (ahead [35] T))).2 ++ (behind [63] (ahead [35] T) ++ behind [35] T))) = T := by
          conv => rhs; rw [hT1, hT2, h]
          simp
        rw [e, hs] at this
        cases this
    · rw [h2]
      cases schI (cut3 (ahead [63] (ahead [35] T))).1 with
      | none => rfl
      | some sch =>
        rw [Option.bind_some, if_neg (by decide)]
        rfl
theorem parse_read (l : List Int) : parseI l = (readI (trimI l)).bind cap40 := by rw [read_parse]; rfl
end Go.Proofs.YtakihnmajgmnpaaDoor
