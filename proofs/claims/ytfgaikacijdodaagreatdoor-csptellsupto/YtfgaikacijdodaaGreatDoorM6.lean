/-
  Texts that the laws stand on: Ask1, Csp1, Cuts, Url7, Url8, CspL.
-/
import Derived.Test.YtfgaikacijdodaaGreatDoorM5
import Derived.Test.YtfgaikacijdodaaGreatDoorM4
import Derived.Test.YtfgaikacijdodaaGreatDoorM3
import Derived.Test.YtfgaikacijdodaaGreatDoorM2
import Derived.Lib.FieldsP
import Derived.Lib.SpaceUEq
import Derived.Lib.ParseIntB

/-
  What is sent: requests as lists of bytes, their texts, and what a text says: plain lists; nothing runs here.
-/
namespace Go.Proofs.YtfgaikacijdodaaGreatDoor
set_option linter.unusedVariables false
set_option linter.unusedSimpArgs false
set_option maxRecDepth 20000

structure AL where
  m : List Int
  u : List Int
  hs : HL
  body : List Int
def http11 : List Int := [32, 72, 84, 84, 80, 47, 49, 46, 49]
def hostW : List Int := [72, 111, 115, 116, 58, 32]
def schemeW : List Int := [83, 99, 104, 101, 109, 101, 58, 32]
def clW : List Int := [67, 111, 110, 116, 101, 110, 116, 45, 76, 101, 110, 103, 116, 104]
def MethOk (m : List Int) : Prop := 1 ≤ m.length ∧ m.length ≤ 8 ∧ ∀ x ∈ m, 65 ≤ x ∧ x ≤ 90
instance (m : List Int) : Decidable (MethOk m) := by unfold MethOk; infer_instance
def ValA (v : List Int) : Prop := (∀ x ∈ v, 32 ≤ x ∧ x ≤ 126) ∧ (v = [] ∨ (v.getD 0 0 ≠ 32 ∧ v.getD (v.length - 1) 0 ≠ 32))
instance (v : List Int) : Decidable (ValA v) := by unfold ValA; infer_instance
def NamA (n : List Int) : Prop := n ≠ [] ∧ ∀ x ∈ n, (32 ≤ x ∧ x ≤ 126) ∧ x ≠ 58
instance (n : List Int) : Decidable (NamA n) := by unfold NamA; infer_instance
def HeadA (h : List Int × List Int) : Prop := NamA h.1 ∧ ValA h.2
instance (h : List Int × List Int) : Decidable (HeadA h) := by unfold HeadA; infer_instance
def AskOk (a : AL) (u : UL) : Prop := printI u = a.u ∧ MethOk a.m ∧ ∀ h ∈ a.hs, HeadA h
instance (a : AL) (u : UL) : Decidable (AskOk a u) := by unfold AskOk; infer_instance
def lenT (body : List Int) : List Int := if body = [] then [] else headP (clW, digs body.length)
def topA (m : List Int) (u : UL) : List Int := m ++ (32 :: (u.path ++ (u.query ++ (http11 ++ (13 :: 10 :: (hostW ++ (u.host ++ (portT u ++ (13 :: 10 :: (schemeW ++ (u.sch ++ [13, 10])))))))))))
def textA (a : AL) (u : UL) : List Int := topA a.m u ++ (headsP a.hs ++ (lenT a.body ++ (13 :: 10 :: a.body)))
def askP (a : AL) : Option (List Int) := (parseI a.u).bind fun u => if AskOk a u then some (textA a u) else none

/-! ### what a text says -/
def endI (p l : List Int) : Bool := decide (p.length ≤ l.length) && decide (l.drop (l.length - p.length) = p)
def headA (l : List Int) : Option (List Int × List Int) := if 2 ≤ (behind [58] l).length ∧ (behind [58] l).getD 1 0 = 32 then some (ahead [58] l, (behind [58] l).drop 2) else none
def headsAF : Nat → HL → List Int → Option (HL × List Int)
  | 0, _, _ => none
  | f + 1, hs, s => (lineI s).bind fun p => if p.1 = [] then some (hs, p.2) else (headA p.1).bind fun h => headsAF f (hs ++ [h]) p.2
theorem headsAF_any : ∀ (f g : Nat) (hs : HL) (s : List Int), s.length < f → s.length < g → headsAF f hs s = headsAF g hs s
  | 0, _, _, s, h, _ => by omega
  | f + 1, 0, _, s, _, h => by omega
  | f + 1, g + 1, hs, s, hf, hg => by
    unfold headsAF
    cases hl : lineI s with
    | none => rfl
    | some p =>
      obtain ⟨p1, p2⟩ := p
      have := lineI_len hl
      simp only [Option.bind_some]
      split
      · rfl
      · cases headA p1 with
        | none => rfl
        | some h => exact headsAF_any f g _ _ (by omega) (by omega)
def headsA (hs : HL) (s : List Int) : Option (HL × List Int) := headsAF (s.length + 1) hs s
theorem headsA_step (hs : HL) (s : List Int) : headsA hs s = (lineI s).bind fun p => if p.1 = [] then some (hs, p.2) else (headA p.1).bind fun h => headsA (hs ++ [h]) p.2 := by
  unfold headsA
  rw [headsAF]
  cases hl : lineI s with
  | none => rfl
  | some p =>
    obtain ⟨p1, p2⟩ := p
    have := lineI_len hl
    simp only [Option.bind_some]
    split
    · rfl
    · cases headA p1 with
      | none => rfl
      | some h => exact headsAF_any _ _ _ _ (by omega) (by omega)
/-- The first line's path, between the blank and the version. -/
def pathA (l : List Int) : List Int := ((behind [32] l).take ((behind [32] l).length - 9)).drop 1
def lastA (q : HL × List Int) : HL := if q.2 = [] then q.1 else q.1.dropLast
def candI (s : List Int) : Option AL := (lineI s).bind fun p1 =>
  if 11 ≤ (behind [32] p1.1).length ∧ endI http11 (behind [32] p1.1) = true then (lineI p1.2).bind fun p2 =>
    if begI hostW p2.1 = true then (lineI p2.2).bind fun p3 =>
      if begI schemeW p3.1 = true then (headsA [] p3.2).map fun q => ⟨ahead [32] p1.1, p3.1.drop 8 ++ ([58, 47, 47] ++ (p2.1.drop 6 ++ pathA p1.1)), lastA q, q.2⟩ else none
    else none
  else none
def askI (s : List Int) : Option AL := (candI s).bind fun a => if askP a = some s then some a else none
theorem askI_is {s : List Int} {a : AL} (h : askI s = some a) : askP a = some s := by
  unfold askI at h
  rw [Option.bind_eq_some_iff] at h
  obtain ⟨b, _, h⟩ := h
  split at h
  · rename_i hb; cases h; exact hb
  · cases h
/-! ### what was printed is read -/
theorem headA_line {n v : List Int} (h : HeadA (n, v)) : headA (n ++ ([58, 32] ++ v)) = some (n, v) := by
  have hn : ∀ y ∈ n, ([58] : List Int).contains y = false := fun y hy => by
    rw [← Bool.not_eq_true]; intro hc; simp at hc; exact (h.1.2 y hy).2 hc
  have hs := ahead_stop (st := [58]) (r := 32 :: v) hn (x := 58) (by decide)
  unfold headA
  rw [show n ++ ([58, 32] ++ v) = n ++ 58 :: (32 :: v) from rfl, hs.1, hs.2, if_pos ⟨by simp, by simp⟩]
  rfl
theorem line_head {n v : List Int} (h : HeadA (n, v)) (s : List Int) : lineI (headP (n, v) ++ s) = some (n ++ ([58, 32] ++ v), s) := by
  have e : headP (n, v) ++ s = (n ++ ([58, 32] ++ v)) ++ (13 :: 10 :: s) := by simp [headP]
  rw [e]
  refine lineI_app s (fun x hx => ?_)
  simp only [List.mem_append, List.mem_cons, List.not_mem_nil, or_false] at hx
  rcases hx with hx | (rfl | rfl) | hx
  · have := (h.1.2 x hx).1; omega
  · decide
  · decide
  · have := h.2.1 x hx; omega
theorem headsA_print : ∀ (hs ks : HL) (s : List Int), (∀ h ∈ hs, HeadA h) → headsA ks (headsP hs ++ (13 :: 10 :: s)) = some (ks ++ hs, s)
  | [], ks, s, _ => by
    show headsA ks (13 :: 10 :: s) = _
    rw [headsA_step, show (13 : Int) :: 10 :: s = [] ++ (13 :: 10 :: s) from rfl, lineI_app _ (by simp)]
    simp
  | h :: hs, ks, s, hok => by
    obtain ⟨n, v⟩ := h
    have h0 := hok (n, v) (.head _)
    have e : headsP ((n, v) :: hs) ++ (13 :: 10 :: s) = headP (n, v) ++ (headsP hs ++ (13 :: 10 :: s)) := by simp [headsP]
    rw [e, headsA_step, line_head h0, Option.bind_some]
    simp only
    have hne : n ++ ([58, 32] ++ v) ≠ [] := by simp
    rw [if_neg hne, headA_line h0, Option.bind_some, headsA_print hs _ s (fun x hx => hok x (.tail _ hx))]
    simp
theorem headsP_app (a b : HL) : headsP (a ++ b) = headsP a ++ headsP b := by unfold headsP; rw [List.flatMap_append]
theorem clA (n : Nat) : HeadA (clW, digs n) := by
  have hd := digs_dig n
  have hl := digs_len n
  have hc : NamA clW := by decide
  refine ⟨hc, fun x hx => by have := hd x hx; omega, .inr ⟨?_, ?_⟩⟩
  · have hm : (digs n).getD 0 0 ∈ digs n := by rw [List.getD_eq_getElem?_getD, List.getElem?_eq_getElem (by omega)]; exact List.getElem_mem _
    have := hd _ hm
    show (digs n).getD 0 0 ≠ 32
    omega
  · have hm : (digs n).getD ((digs n).length - 1) 0 ∈ digs n := by rw [List.getD_eq_getElem?_getD, List.getElem?_eq_getElem (by omega)]; exact List.getElem_mem _
    have := hd _ hm
    show (digs n).getD ((digs n).length - 1) 0 ≠ 32
    omega
theorem cand_print {a : AL} {u : UL} (hB : Byt a.u) (hp : parseI a.u = some u) (hok : AskOk a u) : candI (textA a u) = some a := by
  have hN := parseI_norm hB hp
  obtain ⟨hpr, hm, hh⟩ := hok
  have hasc := printI_ascii hN
  rw [printI_parts] at hasc
  simp only [List.mem_append] at hasc
  have c1 : ∀ x ∈ u.sch, 33 ≤ x ∧ x ≤ 126 := fun x hx => hasc x (.inl hx)
  have c2 : ∀ x ∈ u.host, 33 ≤ x ∧ x ≤ 126 := fun x hx => hasc x (.inr (.inr (.inl hx)))
  have c3 : ∀ x ∈ portT u, 33 ≤ x ∧ x ≤ 126 := fun x hx => hasc x (.inr (.inr (.inr (.inl hx))))
  have c4 : ∀ x ∈ u.path, 33 ≤ x ∧ x ≤ 126 := fun x hx => hasc x (.inr (.inr (.inr (.inr (.inl hx)))))
  have c5 : ∀ x ∈ u.query, 33 ≤ x ∧ x ≤ 126 := fun x hx => hasc x (.inr (.inr (.inr (.inr (.inr hx)))))
  obtain ⟨r0, hr0⟩ := hN.pathOk.head
  have e1 : textA a u = (a.m ++ 32 :: (u.path ++ (u.query ++ http11))) ++ (13 :: 10 :: ((hostW ++ (u.host ++ portT u)) ++ (13 :: 10 :: ((schemeW ++ u.sch) ++ (13 :: 10 :: (headsP a.hs ++ (lenT a.body ++ (13 :: 10 :: a.body)))))))) := by
    simp [textA, topA, List.append_assoc]
  have l1 : ∀ x ∈ a.m ++ 32 :: (u.path ++ (u.query ++ http11)), x ≠ 13 := by
    intro x hx
    simp only [List.mem_append, List.mem_cons] at hx
    rcases hx with hx | rfl | hx | hx | hx
    · have := hm.2.2 x hx; omega
    · decide
    · have := c4 x hx; omega
    · have := c5 x hx; omega
    · have h9 : ∀ x ∈ http11, x ≠ 13 := by decide
      exact h9 x hx
  have l2 : ∀ x ∈ hostW ++ (u.host ++ portT u), x ≠ 13 := by
    intro x hx
    simp only [List.mem_append] at hx
    rcases hx with hx | hx | hx
    · have h9 : ∀ x ∈ hostW, x ≠ 13 := by decide
      exact h9 x hx
    · have := c2 x hx; omega
    · have := c3 x hx; omega
  have l3 : ∀ x ∈ schemeW ++ u.sch, x ≠ 13 := by
    intro x hx
    rcases List.mem_append.1 hx with hx | hx
    · have h9 : ∀ x ∈ schemeW, x ≠ 13 := by decide
      exact h9 x hx
    · have := c1 x hx; omega
  have hst := ahead_stop (st := [32]) (p := a.m) (r := u.path ++ (u.query ++ http11)) (fun y hy => by
    rw [← Bool.not_eq_true]; intro hc; simp at hc; have := hm.2.2 y hy; omega) (x := 32) (by decide)
  have h9 : http11.length = 9 := rfl
  have hlen : (32 :: (u.path ++ (u.query ++ http11))).length = u.path.length + u.query.length + 10 := by simp [h9]; omega
  have hpath : 1 ≤ u.path.length := by rw [hr0]; simp
  have hend : endI http11 (32 :: (u.path ++ (u.query ++ http11))) = true := by
    unfold endI
    rw [Bool.and_eq_true, decide_eq_true_iff, decide_eq_true_iff, hlen, h9]
    refine ⟨by omega, ?_⟩
    have e : (32 :: (u.path ++ (u.query ++ http11))) = (32 :: (u.path ++ u.query)) ++ http11 := by simp
    rw [e, show u.path.length + u.query.length + 10 - 9 = (32 :: (u.path ++ u.query)).length by simp, List.drop_left]
  have hpa : pathA (a.m ++ 32 :: (u.path ++ (u.query ++ http11))) = u.path ++ u.query := by
    unfold pathA
    rw [hst.2, hlen]
    have e : (32 :: (u.path ++ (u.query ++ http11))) = (32 :: (u.path ++ u.query)) ++ http11 := by simp
    rw [e, show u.path.length + u.query.length + 10 - 9 = (32 :: (u.path ++ u.query)).length by simp, List.take_left]
    rfl
  have hb1 : begI hostW (hostW ++ (u.host ++ portT u)) = true := by rw [begI_iff, List.take_left']; rfl
  have hb2 : begI schemeW (schemeW ++ u.sch) = true := by rw [begI_iff, List.take_left']; rfl
  have hhs : headsA [] (headsP a.hs ++ (lenT a.body ++ (13 :: 10 :: a.body))) = some (if a.body = [] then a.hs else a.hs ++ [(clW, digs a.body.length)], a.body) := by
    unfold lenT
    by_cases hb : a.body = []
    · rw [if_pos hb, if_pos hb, List.nil_append, headsA_print _ _ _ hh, List.nil_append]
    · rw [if_neg hb, if_neg hb, ← List.append_assoc]
      have e : headsP a.hs ++ headP (clW, digs a.body.length) = headsP (a.hs ++ [(clW, digs a.body.length)]) := by rw [headsP_app]; simp [headsP]
      rw [e, headsA_print, List.nil_append]
      intro x hx
      rcases List.mem_append.1 hx with hx | hx
      · exact hh x hx
      · rw [List.mem_singleton.1 hx]; exact clA _
  unfold candI
  rw [e1, lineI_app _ l1, Option.bind_some]
  simp only
  rw [hst.2, if_pos ⟨by rw [hlen]; omega, hend⟩, lineI_app _ l2, Option.bind_some]
  simp only
  rw [if_pos hb1, lineI_app _ l3, Option.bind_some]
  simp only
  rw [if_pos hb2, hhs, Option.map_some, hst.1, hpa]
  have hla : lastA (if a.body = [] then a.hs else a.hs ++ [(clW, digs a.body.length)], a.body) = a.hs := by
    unfold lastA
    by_cases hb : a.body = []
    · simp [hb]
    · simp [hb]
  rw [hla]
  have hu : (schemeW ++ u.sch).drop 8 ++ ([58, 47, 47] ++ ((hostW ++ (u.host ++ portT u)).drop 6 ++ (u.path ++ u.query))) = a.u := by
    rw [← hpr, printI_parts, show (8 : Nat) = schemeW.length from rfl, List.drop_left, show (6 : Nat) = hostW.length from rfl, List.drop_left]
    simp [List.append_assoc]
  rw [hu]
theorem askI_print {a : AL} {t : List Int} (hB : Byt a.u) (h : askP a = some t) : askI t = some a := by
  have h0 := h
  unfold askP at h
  rw [Option.bind_eq_some_iff] at h
  obtain ⟨u, hp, h⟩ := h
  split at h
  · rename_i hok
    cases h
    unfold askI
    rw [cand_print hB hp hok, Option.bind_some, if_pos h0]
  · cases h
theorem askP_inj {a b : AL} {t : List Int} (ha : Byt a.u) (hb : Byt b.u) (h1 : askP a = some t) (h2 : askP b = some t) : a = b :=
  Option.some.inj ((askI_print ha h1).symm.trans (askI_print hb h2))
end Go.Proofs.YtfgaikacijdodaaGreatDoor
/-
  Where a page may connect to: lists of sources, what a source is, what it matches: plain lists; nothing runs here.
-/
namespace Go.Proofs.YtfgaikacijdodaaGreatDoor
set_option linter.unusedVariables false
set_option linter.unusedSimpArgs false
set_option maxRecDepth 20000

/-! ### words between blanks -/
def pushW (w : List Int) : List (List Int) := if w = [] then [] else [w]
/-- The words of what is left, w read already. -/
def wordsF (w : List Int) : List Int → List (List Int)
  | [] => pushW w
  | x :: t => if x = 32 then pushW w ++ wordsF [] t else wordsF (w ++ [x]) t
def wordsI (l : List Int) : List (List Int) := wordsF [] l
theorem wordsF_app : ∀ (p w t : List Int), (∀ x ∈ p, x ≠ 32) → wordsF w (p ++ t) = wordsF (w ++ p) t
  | [], w, t, _ => by rw [List.nil_append, List.append_nil]
  | x :: p, w, t, h => by
    rw [List.cons_append, wordsF, if_neg (h x (.head _)), wordsF_app p (w ++ [x]) t (fun y hy => h y (.tail _ hy)), List.append_assoc, List.singleton_append]
theorem wordsF_spl : ∀ (l w : List Int), wordsF w l = ((w ++ (splI 32 l).headD []) :: (splI 32 l).tail).filter (fun p => decide (p ≠ []))
  | [], w => by
    show pushW w = _
    unfold pushW
    by_cases h : w = []
    · subst h; rfl
    · rw [if_neg h]; simp [splI, h]
  | x :: t, w => by
    rw [wordsF]
    by_cases h : x = 32
    · subst h
      rw [if_pos rfl, splI_hit, wordsF_spl t []]
      have e : ([] ++ (splI 32 t).headD []) :: (splI 32 t).tail = splI 32 t := by
        cases hs : splI 32 t with
        | nil => exact absurd hs (splI_ne 32 t)
        | cons a b => rfl
      rw [e]
      unfold pushW
      by_cases hw : w = []
      · subst hw; simp
      · rw [if_neg hw]; simp [hw]
    · rw [if_neg h, wordsF_spl t (w ++ [x]), splI_go h]
      simp
/-- The words: the parts between blanks that are not empty. -/
theorem wordsI_spl (l : List Int) : wordsI l = (splI 32 l).filter (fun p => decide (p ≠ [])) := by
  unfold wordsI
  rw [wordsF_spl]
  congr 1
  cases hs : splI 32 l with
  | nil => exact absurd hs (splI_ne 32 l)
  | cons a b => rfl
theorem wordsF_byt : ∀ (l w : List Int), Byt w → Byt l → ∀ p ∈ wordsF w l, Byt p
  | [], w, hw, _, p, hp => by
    have : p ∈ pushW w := hp
    unfold pushW at this
    split at this
    · cases this
    · rw [List.mem_singleton.1 this]; exact hw
  | x :: t, w, hw, hl, p, hp => by
    rw [wordsF] at hp
    split at hp
    · rcases List.mem_append.1 hp with hp | hp
      · unfold pushW at hp
        split at hp
        · cases hp
        · rw [List.mem_singleton.1 hp]; exact hw
      · exact wordsF_byt t [] (fun y hy => by cases hy) (fun y hy => hl y (.tail _ hy)) p hp
    · refine wordsF_byt t (w ++ [x]) (fun y hy => ?_) (fun y hy => hl y (.tail _ hy)) p hp
      rcases List.mem_append.1 hy with hy | hy
      · exact hw y hy
      · rw [List.mem_singleton.1 hy]; exact hl x (.head _)
theorem wordsI_byt {l : List Int} (h : Byt l) : ∀ p ∈ wordsI l, Byt p := wordsF_byt l [] (fun y hy => by cases hy) h
theorem wordsF_len : ∀ (l w : List Int), (wordsF w l).length ≤ l.length + 1 ∧ ∀ p ∈ wordsF w l, p ≠ [] ∧ p.length ≤ w.length + l.length ∧ (∀ x ∈ p, x ∈ w ∨ (x ∈ l ∧ x ≠ 32))
  | [], w => by
    show (pushW w).length ≤ 1 ∧ ∀ p ∈ pushW w, _
    unfold pushW
    split
    · exact ⟨by simp, fun p hp => by cases hp⟩
    · rename_i h
      refine ⟨by simp, fun p hp => ?_⟩
      rw [List.mem_singleton.1 hp]
      exact ⟨h, by omega, fun x hx => .inl hx⟩
  | x :: t, w => by
    rw [wordsF]
    split
    · rename_i hx
      obtain ⟨h1, h2⟩ := wordsF_len t []
      have hp : (pushW w).length ≤ 1 ∧ ∀ p ∈ pushW w, p = w ∧ w ≠ [] := by
        unfold pushW
        split
        · exact ⟨by simp, fun p hp => by cases hp⟩
        · rename_i h; exact ⟨by simp, fun p hp => ⟨List.mem_singleton.1 hp, h⟩⟩
      refine ⟨by rw [List.length_append, List.length_cons]; omega, fun p hm => ?_⟩
      rcases List.mem_append.1 hm with hm | hm
      · obtain ⟨rfl, hne⟩ := hp.2 p hm
        exact ⟨hne, by omega, fun x hx => .inl hx⟩
      · obtain ⟨a, b, c⟩ := h2 p hm
        refine ⟨a, by simp at b ⊢; omega, fun y hy => ?_⟩
        rcases c y hy with h | h
        · cases h
        · exact .inr ⟨.tail _ h.1, h.2⟩
    · rename_i hx
      obtain ⟨h1, h2⟩ := wordsF_len t (w ++ [x])
      refine ⟨by rw [List.length_cons]; omega, fun p hm => ?_⟩
      obtain ⟨a, b, c⟩ := h2 p hm
      refine ⟨a, by simp at b ⊢; omega, fun y hy => ?_⟩
      rcases c y hy with h | h
      · rcases List.mem_append.1 h with h | h
        · exact .inl h
        · rw [List.mem_singleton.1 h]; exact .inr ⟨.head _, hx⟩
      · exact .inr ⟨.tail _ h.1, h.2⟩

/-! ### a source -/
def noneW : List Int := [39, 110, 111, 110, 101, 39]
def selfW : List Int := [39, 115, 101, 108, 102, 39]
def markI : List Int := [58, 47, 47]
structure SL where
  sch : List Int
  host : List Int
  port : List Int
def starI (h : List Int) : List Int := if begI [42, 46] h = true then h.drop 2 else h
def PortW (p : List Int) : Prop := p = [42] ∨ ∃ n, figI p 1 5 = some n ∧ n ≤ 65535
instance (p : List Int) : Decidable (PortW p) := by
  unfold PortW
  cases h : figI p 1 5 with
  | none => exact decidable_of_iff (p = [42]) ⟨.inl, fun h => h.elim id (fun ⟨n, h, _⟩ => by cases h)⟩
  | some n => exact decidable_of_iff (p = [42] ∨ n ≤ 65535) ⟨fun h => h.elim .inl (fun h => .inr ⟨n, rfl, h⟩), fun h => h.elim .inl (fun ⟨m, e, h⟩ => by cases e; exact .inr h)⟩
/-- A host and a port behind a scheme, or behind none. -/
def hostP (sch r : List Int) : Option SL :=
  if HostOk (starI (ahead [58] r)) ∧ (behind [58] r = [] ∨ PortW ((behind [58] r).drop 1)) then some ⟨sch, ahead [58] r, (behind [58] r).drop 1⟩ else none
/-- A source, its letters small already. -/
def sourceL (s : List Int) : Option SL :=
  if s = httpI ++ [58] then some ⟨httpI, [], []⟩
  else if begI (httpI ++ markI) s = true then hostP httpI (s.drop 7)
  else if s = httpsI ++ [58] then some ⟨httpsI, [], []⟩
  else if begI (httpsI ++ markI) s = true then hostP httpsI (s.drop 8)
  else hostP [] s
def sourceI (s : List Int) : Option SL := sourceL (lowL s)
/-! ### Check, Match, Allows -/
def WordOk (k : Nat) (w : List Int) : Prop := (lowL w = noneW → k ≤ 1) ∧ ((sourceI w).isSome ∨ lowL w = noneW ∨ lowL w = selfW ∨ lowL w = [42])
instance (k : Nat) (w : List Int) : Decidable (WordOk k w) := by unfold WordOk; infer_instance
def checkI (l : List Int) : Bool := decide (l.length ≤ 40) && (wordsI l).all fun w => decide (WordOk (wordsI l).length w)
def likeI (sch : List Int) (u : UL) : Bool := decide (u.sch = sch) || (decide (sch = httpI) && decide (u.sch = httpsI))
def ownPort (u : UL) : Int := if u.port = 0 then ownI u.sch else u.port
def portM (p : List Int) (u : UL) : Bool := if p = [42] then true else if p = [] then decide (u.port = 0) else decide (ownPort u = (figI p 1 5).getD 0)
def hostM (h : List Int) (u : UL) : Bool := if begI [42, 46] h = true then endI (h.drop 1) u.host && decide (u.host.length ≠ h.length - 1) else decide (u.host = h)
def matchS (x : SL) (page u : UL) : Bool := if x.host = [] then likeI x.sch u else likeI (if x.sch = [] then page.sch else x.sch) u && (hostM x.host u && portM x.port u)
def matchI (s : List Int) (page u : UL) : Bool := if lowL s = selfW then decide (originI page = originI u) else if lowL s = [42] then true else match sourceI s with
  | none => false
  | some x => matchS x page u
def allowsI (l : List Int) (page u : UL) : Bool := (wordsI l).any (fun w => matchI w page u) || decide (wordsI l = [])
end Go.Proofs.YtfgaikacijdodaaGreatDoor
/-
  Lists of bytes cut at whatever sign, ends cut off; the library's own cuts: nothing runs here.
-/
namespace Go.Proofs.YtfgaikacijdodaaGreatDoor
set_option linter.unusedVariables false
set_option linter.unusedSimpArgs false
set_option maxRecDepth 20000

/-! ### a cut at whatever sign -/
def cutS (p : List Int) : List Int → List Int × List Int × Bool
  | [] => ([], [], false)
  | x :: t => if begI p (x :: t) = true then ([], (x :: t).drop p.length, true) else (x :: (cutS p t).1, (cutS p t).2.1, (cutS p t).2.2)
theorem cut_nb {p : List UInt8} (hp : p ≠ []) : ∀ l : List UInt8, nb (Lib.cut l p).1 = (cutS (nb p) (nb l)).1 ∧ nb (Lib.cut l p).2.1 = (cutS (nb p) (nb l)).2.1 ∧ (Lib.cut l p).2.2 = (cutS (nb p) (nb l)).2.2
  | [] => by rw [cut_nil hp]; exact ⟨rfl, rfl, rfl⟩
  | b :: l => by
    have ih := cut_nb hp l
    have e : nb (b :: l) = (b.toNat : Int) :: nb l := rfl
    rw [cut_cons, pre_begI, e, cutS]
    by_cases h : begI (nb p) ((b.toNat : Int) :: nb l) = true
    · rw [if_pos h, if_pos h]
      refine ⟨rfl, ?_, rfl⟩
      show nb ((b :: l).drop p.length) = _
      rw [← e]
      unfold nb
      rw [List.map_drop, List.length_map]
    · rw [if_neg h, if_neg h]
      exact ⟨by show (b.toNat : Int) :: nb _ = _; rw [ih.1], ih.2⟩
theorem cutS_skip {c : Int} {p : List Int} : ∀ {l : List Int} (r : List Int), (∀ x ∈ l, x ≠ c) → cutS (c :: p) (l ++ r) = (l ++ (cutS (c :: p) r).1, (cutS (c :: p) r).2.1, (cutS (c :: p) r).2.2)
  | [], r, _ => rfl
  | x :: l, r, h => by
    have hx := h x (.head _)
    have hb : ¬ begI (c :: p) (x :: (l ++ r)) = true := by
      rw [begI_iff, List.length_cons, List.take_succ_cons]
      intro e
      injection e with e1 _
      exact hx e1
    rw [List.cons_append, cutS, if_neg hb, cutS_skip r (fun y hy => h y (.tail _ hy))]
    rfl
theorem cutS_hit {p : List Int} {x : Int} (l : List Int) : cutS (x :: p) (x :: p ++ l) = ([], l, true) := by
  have hb : begI (x :: p) (x :: (p ++ l)) = true := by rw [begI_iff, ← List.cons_append, List.take_left']; rfl
  rw [List.cons_append, cutS, if_pos hb, ← List.cons_append, List.drop_left']
  rfl
theorem cutS_len (p : List Int) : ∀ l : List Int, (cutS p l).1.length + (cutS p l).2.1.length ≤ l.length
  | [] => by simp [cutS]
  | x :: t => by
    have ih := cutS_len p t
    unfold cutS
    split
    · simp only [List.length_nil, List.length_drop]; omega
    · simp only [List.length_cons]; omega
theorem cutS_found (p : List Int) : ∀ l : List Int, (cutS p l).2.2 = true → (cutS p l).1.length + p.length + (cutS p l).2.1.length = l.length
  | [], h => by simp [cutS] at h
  | x :: t, h => by
    have ih := cutS_found p t
    unfold cutS at h ⊢
    split
    · rename_i hb
      have := begI_len hb
      simp only [List.length_nil, List.length_drop]; omega
    · rename_i hb
      rw [if_neg hb] at h
      have := ih h
      simp only [List.length_cons]; omega
theorem cutS_byt (p : List Int) : ∀ {l : List Int}, Byt l → Byt (cutS p l).1 ∧ Byt (cutS p l).2.1
  | [], h => ⟨h, h⟩
  | x :: t, h => by
    have ih := cutS_byt p (l := t) (fun y hy => h y (.tail _ hy))
    unfold cutS
    split
    · exact ⟨(fun y hy => by cases hy), byt_drop h _⟩
    · refine ⟨fun y hy => ?_, ih.2⟩
      rcases List.mem_cons.1 hy with rfl | hy
      · exact h _ (.head _)
      · exact ih.1 y hy

/-! ### ends cut off -/
def trimP (p l : List Int) : List Int := if begI p l = true then l.drop p.length else l
def trimS (p l : List Int) : List Int := if endI p l = true then l.take (l.length - p.length) else l
theorem nb_inj {a b : List UInt8} (h : nb a = nb b) : a = b := by
  induction a generalizing b with
  | nil => cases b with
    | nil => rfl
    | cons x t => cases h
  | cons x t ih => cases b with
    | nil => cases h
    | cons y r =>
      have h2 : (x.toNat : Int) :: nb t = (y.toNat : Int) :: nb r := h
      injection h2 with e1 e2
      rw [(nb_eq _ _).1 e1, ih e2]
theorem nb_length (a : List UInt8) : (nb a).length = a.length := by unfold nb; rw [List.length_map]
theorem trim_pre (l p : List UInt8) : nb (Lib.trimPrefix l p) = trimP (nb p) (nb l) := by
  have h1 : Lib.hasPrefix l p = begI (nb p) (nb l) := by rw [← pre_begI]; rfl
  unfold Lib.trimPrefix trimP
  rw [h1]
  split
  · unfold nb; rw [List.map_drop, List.length_map]
  · rfl
theorem suf_endI (p l : List UInt8) : p.isSuffixOf l = endI (nb p) (nb l) := by
  rw [Bool.eq_iff_iff, List.isSuffixOf_iff_suffix]
  unfold endI
  rw [Bool.and_eq_true, decide_eq_true_iff, decide_eq_true_iff, nb_length, nb_length]
  have e : (nb l).drop (l.length - p.length) = nb (l.drop (l.length - p.length)) := by unfold nb; rw [List.map_drop]
  rw [e]
  constructor
  · rintro ⟨t, rfl⟩
    refine ⟨by rw [List.length_append]; omega, ?_⟩
    rw [List.length_append, Nat.add_sub_cancel, List.drop_left]
  · rintro ⟨h1, h2⟩
    obtain ⟨k, hk⟩ : ∃ k, k = l.length - p.length := ⟨_, rfl⟩
    rw [← hk] at h2
    refine ⟨l.take k, ?_⟩
    rw [← nb_inj h2]
    exact List.take_append_drop _ _
theorem trim_suf (l p : List UInt8) : nb (Lib.trimSuffix l p) = trimS (nb p) (nb l) := by
  have h1 : Lib.hasSuffix l p = endI (nb p) (nb l) := by rw [← suf_endI]; rfl
  unfold Lib.trimSuffix trimS
  rw [h1]
  split
  · unfold nb; rw [List.map_take, List.length_map, List.length_map]
  · rfl
theorem trimP_len (p l : List Int) : (trimP p l).length ≤ l.length := by
  unfold trimP; split
  · rw [List.length_drop]; omega
  · exact Nat.le_refl _
theorem trimS_len (p l : List Int) : (trimS p l).length ≤ l.length := by
  unfold trimS; split
  · rw [List.length_take]; omega
  · exact Nat.le_refl _
theorem trimP_byt {p l : List Int} (h : Byt l) : Byt (trimP p l) := by
  unfold trimP; split
  · exact byt_drop h _
  · exact h
theorem trimS_byt {p l : List Int} (h : Byt l) : Byt (trimS p l) := by
  unfold trimS; split
  · exact fun x hx => h x (List.mem_of_mem_take hx)
  · exact h
end Go.Proofs.YtfgaikacijdodaaGreatDoor
/-
  The texts of URLs that the statements make of numbers.
-/
namespace Go.Proofs.YtfgaikacijdodaaGreatDoor
set_option linter.unusedVariables false
set_option linter.unusedSimpArgs false
set_option maxRecDepth 20000
open Go.RowKit

def purls : List ByteArray := [⟨#[104, 116, 116, 112, 58, 47, 47, 97, 46, 98, 47]⟩, ⟨#[104, 116, 116, 112, 115, 58, 47, 47, 97, 46, 98, 47]⟩, ⟨#[104, 116, 116, 112, 115, 58, 47, 47, 97, 46, 98, 47, 120]⟩, ⟨#[104, 116, 116, 112, 58, 47, 47, 97, 46, 98, 47, 120]⟩, ⟨#[104, 116, 116, 112, 115, 58, 47, 47, 99, 46, 100, 47]⟩, ⟨#[104, 116, 116, 112, 115, 58, 47, 47, 99, 46, 100, 47, 112, 63, 113]⟩, ⟨#[104, 116, 116, 112, 115, 58, 47, 47, 99, 46, 100, 58, 56, 47]⟩, ⟨#[104, 116, 116, 112, 58, 47, 47, 99, 46, 100, 47]⟩, ⟨#[104, 116, 116, 112, 115, 58, 47, 47, 115, 46, 99, 46, 100, 47, 121]⟩, ⟨#[104, 116, 116, 112, 58, 47, 47, 108, 111, 99, 97, 108, 104, 111, 115, 116, 47, 108]⟩, ⟨#[104, 116, 116, 112, 115, 58, 47, 47, 97, 46, 98, 47, 122]⟩, ⟨#[104, 116, 116, 112, 115, 58, 47, 47, 97, 46, 98, 58, 56, 47]⟩]
def purl (n : Int) : ByteArray := purls.getD (n % 12).toNat ⟨#[]⟩
def podds (s : ByteArray) : List ByteArray := [⟨#[]⟩, ⟨#[97, 46, 98]⟩, ⟨#[47, 120]⟩, ⟨#[47, 47, 99, 46, 100, 47, 120]⟩, ⟨#[104, 116, 116, 112, 58, 47, 97, 46, 98]⟩, ⟨#[104, 116, 116, 112, 58, 47, 47]⟩, ⟨#[72, 84, 84, 80, 58, 47, 47, 65, 46, 66, 58, 56, 48, 47, 120]⟩, ⟨#[104, 116, 116, 112, 115, 58, 47, 47, 97, 46, 98, 58, 52, 52, 51]⟩, ⟨#[104, 116, 116, 112, 58, 47, 47, 97, 46, 98, 58, 52, 52, 51]⟩, ⟨#[104, 116, 116, 112, 58, 47, 47, 97, 46, 98, 58, 57, 57, 57, 57, 57]⟩, ⟨#[104, 116, 116, 112, 58, 47, 47, 97, 46, 98, 58]⟩, ⟨#[104, 116, 116, 112, 58, 47, 47, 97, 46, 98, 58, 48, 47]⟩, ⟨#[104, 116, 116, 112, 58, 47, 47, 97, 46, 46, 98, 47]⟩, ⟨#[104, 116, 116, 112, 58, 47, 47, 46, 97, 47]⟩, ⟨#[104, 116, 116, 112, 58, 47, 47, 97, 46, 47]⟩, ⟨#[104, 116, 116, 112, 58, 47, 47, 97, 95, 98, 47]⟩, ⟨#[104, 116, 116, 112, 58, 47, 47, 117, 64, 97, 46, 98, 47]⟩, ⟨#[32, 104, 116, 116, 112, 58, 47, 47, 97, 46, 98, 47, 195, 169, 32]⟩, ⟨#[104, 116, 116, 112, 58, 47, 47, 97, 46, 98, 47, 37, 122, 122]⟩, ⟨#[104, 116, 116, 112, 58, 47, 47, 97, 46, 98, 47, 97, 32, 98, 63, 99, 32, 100, 35, 101]⟩, ⟨#[104, 116, 116, 112, 58, 47, 47, 97, 46, 98, 63, 120]⟩, ⟨#[104, 116, 116, 112, 58, 47, 47, 97, 46, 98, 35, 102]⟩, ⟨#[104, 116, 116, 112, 58, 47, 47, 97, 46, 98, 47, 46, 47, 97, 47, 46, 46, 47, 98, 47, 46]⟩, ⟨#[104, 116, 116, 112, 58, 47, 47, 97, 46, 98, 47, 46, 46]⟩, ⟨#[104, 116, 116, 112, 58, 47, 47, 97, 46, 98, 47, 47, 46, 46]⟩, ⟨#[104, 116, 116, 112, 58, 47, 47, 97, 46, 98, 47, 97, 47, 47, 46, 46]⟩, ⟨#[102, 116, 112, 58, 47, 47, 97, 46, 98, 47]⟩, ⟨#[104, 116, 116, 112, 115, 58, 47, 47, 97, 98, 99, 100, 101, 102, 103, 104, 105, 106, 107, 108, 109, 110, 111, 112, 113, 114, 115, 116, 117, 47]⟩, ⟨#[104, 116, 116, 112, 115, 58, 47, 47, 97, 46, 98, 47, 48, 49, 50, 51, 52, 53, 54, 55, 56, 57, 48, 49, 50, 51, 52, 53, 54, 55, 56, 57, 48, 49, 50, 51, 52, 53, 54, 55]⟩, ⟨#[104, 116, 116, 112, 58, 47, 47, 97, 46, 98, 47, 48, 49, 50, 51, 52, 53, 54, 55, 56, 57, 48, 49, 50, 51, 52, 53, 54, 55, 56, 57, 48, 49, 50, 51, 52, 53, 54, 55, 56, 57, 48, 49]⟩, ⟨#[104, 116, 116, 112, 58, 47, 47, 97, 46, 98, 47, 63]⟩, ⟨#[104, 116, 116, 112, 58, 47, 47, 97, 46, 98, 47, 63, 63]⟩, ⟨#[104, 116, 116, 112, 58, 47, 47, 97, 46, 98, 47, 97, 63, 98, 47, 46, 46, 47, 99]⟩, ⟨#[104, 116, 116, 112, 115, 58, 47, 47, 99, 46, 100, 47, 46, 46, 47, 46, 46, 47, 47, 120]⟩, s, (⟨#[104, 116, 116, 112, 58, 47, 47, 97, 46, 98, 47]⟩ : ByteArray) ++ s, (⟨#[104, 116, 116, 112, 115, 58, 47, 47]⟩ : ByteArray) ++ s ++ (⟨#[47]⟩ : ByteArray), (⟨#[47]⟩ : ByteArray) ++ s]
def podd (n : Int) (s : ByteArray) : ByteArray := if n % 4 < 2 then purl (n.tdiv 4) else (podds s).getD (n.tdiv 4 % 38).toNat ⟨#[]⟩
theorem at_c {w : World} (n : Int) (v : Value) (ss : List ByteArray) (hv : Vs w v (sv ss)) (h1 : 1 ≤ ss.length) (h2 : ss.length ≤ 1000000000) : Calls Tryz.prog 18 #[.int .i64 n, v] w fun e w' => e = .returned (.string (ss.getD (n % (ss.length : Int)).toNat ⟨#[]⟩)) ∧ w = w' := by
  obtain ⟨A, m, c, rfl, hm, hc, hA⟩ := hv
  rw [length_sv] at hm
  subst hm
  obtain ⟨ad, rfl, hcell⟩ := hA (by omega)
  have hj : (n % (ss.length : Int)).toNat < ss.length := by
    have h3 := Int.emod_nonneg n (show (ss.length : Int) ≠ 0 by omega)
    have h4 := Int.emod_lt_of_pos n (show (0 : Int) < ss.length by omega)
    omega
  have hw := within_n (w := w) n ss.length (by omega) (by omega)
  generalize hjj : (n % (ss.length : Int)).toNat = j at *
  have hcj := hcell j (.string ss[j]) (by simp [sv, hj])
  rw [List.getD_eq_getElem?_getD, List.getElem?_eq_getElem hj, Option.getD_some]
  generalize ss[j] = x at *
  have hjI : (j : Int) < ss.length := by omega
  have HW := Lib.hid hw
  clear hw hcell hA hjj hj
  go_enter Tryz.func18, Tryz.ntmps18
  go_wp2_with fail
  with_reducible refine HW.out.mono ?_
  rintro e w1 ⟨rfl, rfl⟩
  go_wp2
  go_ret
  exact ⟨rfl, rfl⟩
theorem purl_c {w0 w : World} {R : Blks} (hO : Own w0 w R) (n : Int) : Calls Tryz.prog 6 #[.int .i64 n] w fun e w' => e = .returned (.string (purl n)) ∧ Own w0 w' R := by
  have HO := Lib.hid hO
  clear hO
  obtain ⟨r, hr⟩ : ∃ r, purl n = r := ⟨_, rfl⟩
  have HR := Lib.hid hr
  rw [hr]
  clear hr
  go_enter Tryz.func6, Tryz.ntmps6
  go_wp2_with fail
  generalize hwx : w.alloc _ = wx
  have hV : Vs wx (.slice (some ⟨w.heap.size, 0, none⟩) 12 12) (sv purls) := by rw [← hwx]; exact vs_new (sv purls) 12 rfl
  have hO2 : Own w0 wx ((w.heap.size, .cells (sv purls).toArray 9) :: R) := by rw [← hwx]; exact HO.out.alloc (.cells (sv purls).toArray 9)
  have hcall := at_c (w := wx) n _ purls hV (by decide) (by decide)
  rw [show purls.getD (n % (purls.length : Int)).toNat ⟨#[]⟩ = r from HR.out] at hcall
  have HO2 := Lib.hid hO2.tail
  with_reducible refine hcall.mono ?_
  clear hcall hO2 hV hwx
  rintro e w1 ⟨rfl, rfl⟩
  go_wp2
  go_ret
  exact ⟨rfl, HO2.out⟩
end Go.Proofs.YtfgaikacijdodaaGreatDoor
/-
  Package url: what its calls answer, as the laws take it.
-/
namespace Go.Proofs.YtfgaikacijdodaaGreatDoor
set_option linter.unusedVariables false
set_option linter.unusedSimpArgs false
set_option maxRecDepth 20000
open Go.RowKit

theorem url_size : (Tryz.prog.info? 24).map (·.size) = some 5 := by kernel_rfl
theorem alloc_url (w : World) : (Instr.alloc 24 true (.tuple #[])).run Tryz.prog w = .ok (.pointer (some ⟨w.heap.size, 0, none⟩)) (w.alloc (.cells UL.zero.val.toArray 24)) := by kernel_rfl
/-- A URL and OK, or none and ErrForm. -/
def GotE (w0 : World) (R : Blks) (o : Option UL) (e : Ending) (w' : World) : Prop := e = .returned (.tuple #[.agg (o.getD UL.zero).val.toArray, .int .i64 (if o.isSome then 0 else 2)]) ∧ Own w0 w' R
/-- Fine but for its path and query. -/
structure UL.Half (u : UL) : Prop where
  sch : u.sch = httpI ∨ u.sch = httpsI
  host : HostOk u.host
  hostB : Byt u.host
  port0 : 0 ≤ u.port
  port1 : u.port < 100000
  path : u.path.length ≤ 1000000000
  query : u.query.length ≤ 1000000000
theorem UL.Fine.half {u : UL} (h : u.Fine) : u.Half := ⟨h.sch, h.host, h.hostB, h.port0, h.port1, by have := h.lens; omega, by have := h.lens; omega⟩
theorem UL.Half.schB {u : UL} (h : u.Half) : Byt u.sch := by rcases h.sch with e | e <;> rw [e]; exact http_byt; exact https_byt
theorem UL.Half.schl {u : UL} (h : u.Half) : u.sch.length ≤ 5 := by rcases h.sch with e | e <;> rw [e] <;> decide
theorem UL.Half.ok {u : UL} (h : u.Half) : u.Ok := ⟨by have := h.schl; omega, by have := h.host.2.1; omega, h.path, h.query, h.port0, by have := h.port1; omega⟩
end Go.Proofs.YtfgaikacijdodaaGreatDoor
/-
  The landed program's own way to read a list and its sources, as lists of bytes; what the library's FieldsFunc and ParseUint tell, as lists: nothing runs here.
-/
namespace Go.Proofs.YtfgaikacijdodaaGreatDoor
set_option linter.unusedVariables false
set_option linter.unusedSimpArgs false
set_option maxRecDepth 20000

/-! ### words -/
def blankR (r : Nat) : Bool := decide (r = 32)
theorem dec_blank {l : List Int} (hB : Byt l) : ((decI l).1 = 32 → (decI l).2 = 1 ∧ l.getD 0 0 = 32) ∧ ((decI l).1 ≠ 32 → ∀ j, j < (decI l).2 → l.getD j 0 ≠ 32) := by
  have h0 := getD_byt hB 0
  have hc := Lib.decodeN_cases l.length (l.getD 0 0).toNat (l.getD 1 0).toNat (l.getD 2 0).toNat (l.getD 3 0).toNat
  have hk := Lib.decodeN_conts l.length (l.getD 0 0).toNat (l.getD 1 0).toNat (l.getD 2 0).toNat (l.getD 3 0).toNat
  have ho := fun h => decN_one l.length (l.getD 0 0).toNat (l.getD 1 0).toNat (l.getD 2 0).toNat (l.getD 3 0).toNat h
  unfold decI
  generalize Lib.decodeN l.length (l.getD 0 0).toNat (l.getD 1 0).toNat (l.getD 2 0).toNat (l.getD 3 0).toNat = d at *
  constructor
  · intro h
    rcases hc with ⟨_, e⟩ | ⟨_, _, _, _, e⟩ | ⟨_, _, _, _, _, e⟩ | ⟨h4, _⟩ | e
    · rw [e] at h ⊢; simp only at h ⊢; exact ⟨trivial, by omega⟩
    · rw [e] at h; simp only at h; omega
    · rw [e] at h; simp only at h; omega
    · omega
    · rw [e] at h; simp at h
  · intro h j hj hjj
    have h3 : j = 0 ∨ j = 1 ∨ j = 2 ∨ j = 3 := by omega
    rcases h3 with rfl | rfl | rfl | rfl
    · have := ho (by omega); rw [this] at h; simp only at h; omega
    · have := (hk.1 (by omega)).1; omega
    · have := (hk.2.1 (by omega)).1; omega
    · have := (hk.2.2.1 (by omega)).1; omega
def stW (l : List Int) (pos : Nat) : Option Nat → List Int
  | some a => (l.take pos).drop a
  | none => []
def pieceW (l : List Int) (x : Nat × Nat) : List Int := (l.take x.2).drop x.1
theorem stW_ne {l : List Int} {pos a : Nat} (h : a < pos) (hp : pos ≤ l.length) : stW l pos (some a) ≠ [] := by
  intro e
  have := congrArg List.length e
  simp only [stW, List.length_drop, List.length_take, List.length_nil] at this
  omega
theorem fields_end (s : ByteArray) (pos : Nat) (st : Option Nat) (acc : List (Nat × Nat)) (f : Nat) (h : pos = s.size) (ha : ∀ a, st = some a → a < pos) :
    (Lib.closeSpans s (Lib.spansFromP blankR s f pos st acc)).map (pieceW (sb s)) = acc.map (pieceW (sb s)) ++ wordsF (stW (sb s) pos st) ((sb s).drop pos) := by
  rw [Lib.spansFromP_end blankR s f pos st acc (by omega), List.drop_of_length_le (by rw [length_sb]; omega)]
  unfold Lib.closeSpans
  cases st with
  | none => simp [stW, wordsF, pushW]
  | some a =>
    have hne : stW (sb s) pos (some a) ≠ [] := stW_ne (ha a rfl) (by rw [length_sb]; omega)
    simp only [List.map_append, List.map_cons, List.map_nil]
    congr 1
    show [pieceW (sb s) (a, s.size)] = pushW _
    unfold pushW
    rw [if_neg hne, h]
    rfl
theorem fields_go (s : ByteArray) : ∀ (f pos : Nat) (st : Option Nat) (acc : List (Nat × Nat)), s.size - pos ≤ f → pos ≤ s.size → (∀ a, st = some a → a < pos) →
    (Lib.closeSpans s (Lib.spansFromP blankR s f pos st acc)).map (pieceW (sb s)) = acc.map (pieceW (sb s)) ++ wordsF (stW (sb s) pos st) ((sb s).drop pos) := by
  intro f
  induction f with
  | zero =>
    intro pos st acc hf hp ha
    exact fields_end s pos st acc 0 (by omega) ha
  | succ f ih =>
    intro pos st acc hf hp ha
    by_cases hlt : pos < s.size
    · have hne : (sb s).drop pos ≠ [] := by
        intro e; have := congrArg List.length e; rw [List.length_drop, length_sb] at this; simp at this; omega
      have hd := decode_sb s pos
      have hbl := dec_blank (byt_drop (byt_sb s) pos)
      have hk1 := decI_pos ((sb s).drop pos)
      have hk2 := decI_le hne
      rw [List.length_drop, length_sb] at hk2
      rw [Lib.spansFromP.eq_def]
      simp only []
      rw [if_pos hlt, hd]
      generalize decI ((sb s).drop pos) = d at *
      obtain ⟨r, k⟩ := d
      simp only at hbl hk1 hk2 ⊢
      by_cases hr : r = 32
      · obtain ⟨rfl, hh⟩ := hbl.1 hr
        have hcons : (sb s).drop pos = 32 :: (sb s).drop (pos + 1) := by
          have hp2 : pos < (sb s).length := by rw [length_sb]; exact hlt
          rw [List.drop_eq_getElem_cons hp2] at hh ⊢
          rw [List.getD_cons_zero] at hh
          rw [hh]
        rw [if_pos (by unfold blankR; exact decide_eq_true hr)]
        cases st with
        | some a =>
          simp only
          rw [ih (pos + 1) none (acc ++ [(a, pos)]) (by omega) (by omega) (by intro b h; cases h), hcons, wordsF, if_pos rfl, List.map_append, List.append_assoc]
          congr 1
          have hw : stW (sb s) pos (some a) ≠ [] := stW_ne (ha a rfl) (by rw [length_sb]; omega)
          unfold pushW
          rw [if_neg hw]
          rfl
        | none =>
          simp only
          rw [ih (pos + 1) none acc (by omega) (by omega) (by intro b h; cases h), hcons, wordsF, if_pos rfl]
          rfl
      · have hj := hbl.2 hr
        have hsplit : (sb s).drop pos = ((sb s).drop pos).take k ++ (sb s).drop (pos + k) := by rw [← List.drop_drop, List.take_append_drop]
        have hno : ∀ x ∈ ((sb s).drop pos).take k, x ≠ 32 := by
          intro x hx
          obtain ⟨i, hi, rfl⟩ := List.mem_iff_getElem.1 hx
          rw [List.length_take] at hi
          have := hj i (by omega)
          rw [List.getD_eq_getElem?_getD, List.getElem?_eq_getElem (by omega), Option.getD_some] at this
          rwa [List.getElem_take]
        have hw2 : ∀ w, wordsF w ((sb s).drop pos) = wordsF (w ++ ((sb s).drop pos).take k) ((sb s).drop (pos + k)) := fun w => by
          rw [← wordsF_app _ w _ hno, ← hsplit]
        rw [if_neg (by unfold blankR; simp [hr])]
        cases st with
        | some a =>
          have hap := ha a rfl
          simp only
          rw [ih (pos + k) (some a) acc (by omega) (by omega) (by intro b hb; cases hb; omega), hw2]
          congr 2
          show ((sb s).take (pos + k)).drop a = ((sb s).take pos).drop a ++ _
          rw [List.take_add, List.drop_append_of_le_length (by rw [List.length_take, length_sb]; omega)]
        | none =>
          simp only
          rw [ih (pos + k) (some pos) acc (by omega) (by omega) (by intro b hb; cases hb; omega), hw2]
          congr 2
          show ((sb s).take (pos + k)).drop pos = [] ++ _
          rw [List.take_add, List.nil_append, List.drop_left' (by rw [List.length_take, length_sb]; omega)]
    · exact fields_end s pos st acc (f + 1) (by omega) ha
/-- FieldsFunc at a blank: the words. -/
theorem fields_words (s : ByteArray) : Lib.goFieldsP blankR s = (wordsI (sb s)).map strOfNums := by
  have h := fields_go s s.size 0 none [] (by omega) (by omega) (by intro a e; cases e)
  rw [List.map_nil, List.nil_append, List.drop_zero] at h
  have h2 : wordsI (sb s) = (Lib.spansOfP blankR s).map (pieceW (sb s)) := h.symm
  rw [h2, List.map_map]
  unfold Lib.goFieldsP
  refine List.map_congr_left (fun x _ => ?_)
  show s.extract x.1 x.2 = strOfNums (pieceW (sb s) x)
  rw [← str_sb (s.extract x.1 x.2), sb_extract]
  rfl

/-! ### ports -/
theorem fold_ge : ∀ (l : List Int) (n : Int), 0 ≤ n → (∀ x ∈ l, 48 ≤ x ∧ x ≤ 57) → n ≤ l.foldl (fun n c => 10 * n + (c - 48)) n
  | [], n, _, _ => Int.le_refl _
  | c :: l, n, h0, h => by
    have hc := h c (.head _)
    have := fold_ge l (10 * n + (c - 48)) (by omega) (fun x hx => h x (.tail _ hx))
    rw [List.foldl_cons]; omega
theorem uintM_ok : ∀ (l : List UInt8) (acc u : Nat), acc ≤ 65535 → (Lib.parseUintM 65535 acc l = .ok u ↔ (∀ x ∈ nb l, 48 ≤ x ∧ x ≤ 57) ∧ (nb l).foldl (fun n c => 10 * n + (c - 48)) (acc : Int) = u ∧ u ≤ 65535)
  | [], acc, u, h => by
    rw [Lib.parseUintM]
    constructor
    · intro e; injection e with e; exact ⟨(fun x hx => by cases hx), by rw [← e]; rfl, by omega⟩
    · rintro ⟨_, e, _⟩
      have e2 : (acc : Int) = u := e
      congr 1; omega
  | c :: r, acc, u, h => by
    have hn : nb (c :: r) = (c.toNat : Int) :: nb r := rfl
    rw [Lib.parseUintM, hn]
    by_cases hd : 48 ≤ c.toNat ∧ c.toNat ≤ 57
    · rw [if_pos hd, if_neg (by omega)]
      have hacc : ((10 : Int) * acc + ((c.toNat : Int) - 48)) = ((acc * 10 + (c.toNat - 48) : Nat) : Int) := by omega
      by_cases hM : 65535 < acc * 10 + (c.toNat - 48)
      · rw [if_pos hM]
        constructor
        · intro e; cases e
        · rintro ⟨h1, h2, h3⟩
          rw [List.foldl_cons, hacc] at h2
          have := fold_ge (nb r) ((acc * 10 + (c.toNat - 48) : Nat) : Int) (by omega) (fun x hx => h1 x (.tail _ hx))
          omega
      · rw [if_neg hM, uintM_ok r _ u (by omega), List.foldl_cons, hacc]
        constructor
        · rintro ⟨h1, h2, h3⟩
          refine ⟨fun x hx => ?_, h2, h3⟩
          rcases List.mem_cons.1 hx with rfl | hx
          · omega
          · exact h1 x hx
        · rintro ⟨h1, h2, h3⟩
          exact ⟨fun x hx => h1 x (.tail _ hx), h2, h3⟩
    · rw [if_neg hd]
      constructor
      · intro e; cases e
      · rintro ⟨h1, _, _⟩
        have := h1 _ (.head _)
        omega
theorem prt_some {p : List Int} {n : Int} : prtI p = some n ↔ FigOk p 1 5 ∧ figN p = n ∧ n ≤ 65535 := by
  unfold prtI figI
  by_cases h : FigOk p 1 5
  · rw [if_pos h, Option.bind_some]
    by_cases h2 : 65535 < figN p
    · rw [if_pos h2]
      constructor
      · intro e; cases e
      · rintro ⟨_, e, h3⟩; omega
    · rw [if_neg h2]
      constructor
      · intro e; injection e with e; exact ⟨h, e, by omega⟩
      · rintro ⟨_, e, _⟩; rw [e]
  · rw [if_neg h, Option.bind_none]
    constructor
    · intro e; cases e
    · rintro ⟨e, _⟩; exact absurd e h
/-- ParseUint with sixteen bits, at no more than five digits. -/
theorem uint_port {s : ByteArray} (h5 : s.size ≤ 5) (u : Nat) : Lib.parseUintB 16 s.data.toList = .ok u ↔ prtI (sb s) = some (u : Int) := by
  rw [prt_some]
  have hlen : (sb s).length = s.size := length_sb s
  have hnb : nb s.data.toList = sb s := rfl
  have hsz : s.data.toList.length = s.size := by simp
  unfold Lib.parseUintB
  by_cases h0 : s.data.toList = []
  · rw [if_pos h0]
    constructor
    · intro e; cases e
    · rintro ⟨⟨h1, _, _⟩, _⟩
      have : s.size = 0 := by rw [← hsz, h0]; rfl
      omega
  · rw [if_neg h0, show (2 ^ 16 - 1 : Nat) = 65535 by decide, uintM_ok _ 0 u (by omega), hnb]
    have h1 : 1 ≤ s.size := by
      have := List.length_pos_iff.2 h0
      omega
    constructor
    · rintro ⟨a, b, c⟩
      exact ⟨⟨by omega, by omega, a⟩, b, by omega⟩
    · rintro ⟨⟨_, _, a⟩, b, c⟩
      exact ⟨a, b, by omega⟩
theorem prt_long {p : List Int} (h : 5 < p.length) : prtI p = none := by
  unfold prtI figI
  rw [if_neg (fun h2 => by have := h2.2.1; omega)]
  rfl
/-- A port as the program has it: -2 whatever, else the number. -/
def portG (p : List Int) : Option Int := if p = [42] then some (-2) else prtI p
def portNum (p : List Int) : Int := if p = [] then -1 else if p = [42] then -2 else (figI p 1 5).getD 0
theorem portW_iff {p : List Int} : PortW p ↔ (portG p).isSome := by
  unfold PortW portG
  by_cases h : p = [42]
  · simp [h]
  · rw [if_neg h]
    constructor
    · rintro (e | ⟨n, e, hn⟩)
      · exact absurd e h
      · unfold prtI; rw [e, Option.bind_some, if_neg (by omega)]; rfl
    · intro e
      obtain ⟨n, hn⟩ := Option.isSome_iff_exists.1 e
      have := prt_some.1 hn
      exact .inr ⟨n, by unfold figI; rw [if_pos this.1, this.2.1], this.2.2⟩
theorem portG_num {p : List Int} {n : Int} (h : portG p = some n) : n = portNum p ∧ (p ≠ [42] → 0 ≤ n) ∧ p ≠ [] ∧ n ≤ 65535 ∧ -2 ≤ n := by
  unfold portG at h
  unfold portNum
  by_cases h2 : p = [42]
  · rw [if_pos h2] at h
    injection h with h
    subst h2; subst h
    exact ⟨by rw [if_neg (by simp), if_pos rfl], fun e => absurd rfl e, by simp, by omega, by omega⟩
  · rw [if_neg h2] at h
    have hp := prt_some.1 h
    have hne : p ≠ [] := by
      rintro rfl
      have := hp.1.1
      simp at this
    have hb := figN_bound p hp.1.2.2
    rw [if_neg hne, if_neg h2]
    unfold figI
    rw [if_pos hp.1, Option.getD_some]
    exact ⟨hp.2.1.symm, fun _ => by omega, hne, hp.2.2, by omega⟩

/-! ### hosts -/
theorem hostOk_hb {s : List Int} (h : HostOk s) : ∀ x ∈ s, HB x := by
  intro x hx
  obtain ⟨i, hi, rfl⟩ := List.mem_iff_getElem.1 hx
  have := (h.2.2.2.2 i hi).1
  rwa [List.getD_eq_getElem?_getD, List.getElem?_eq_getElem hi, Option.getD_some] at this
theorem hostOk_parse {s : List Int} (h : HostOk s) : parseI (httpI ++ markI ++ s) = some ⟨httpI, s, 0, [47], []⟩ := by
  have hb := hostOk_hb h
  have hbl : ∀ x ∈ httpI ++ markI ++ s, blank x = false := by
    intro x hx
    unfold blank
    rw [decide_eq_false_iff_not]
    rcases List.mem_append.1 hx with hx | hx
    · have h1 : ∀ x ∈ httpI ++ markI, ¬ x ≤ 32 := by decide
      exact h1 x hx
    · have := hb x hx; unfold HB at this; omega
  have ht : trimI (httpI ++ markI ++ s) = httpI ++ markI ++ s :=
    trim_done (fun x r e => hbl x (by rw [e]; exact .head _)) (fun r x e => hbl x (by rw [e]; simp))
  have hs := scheme_of (P := httpI) (r := s) (sch := httpI) (by decide)
  unfold parseI
  rw [ht, show httpI ++ markI ++ s = httpI ++ (58 :: 47 :: 47 :: s) by simp [markI], hs, Option.bind_some]
  show hostI httpI s = _
  have hf := ahead_full (st := [58, 47, 63, 35]) (p := s) (fun y hy => by
    have := hb y hy; unfold HB at this
    simp only [List.contains_cons, List.contains_nil, Bool.or_false, Bool.or_eq_false_iff, beq_eq_false_iff_ne]
    omega)
  have hl : lowL s = s := by
    unfold lowL
    rw [List.map_congr_left (g := id) (fun x hx => by have := hb x hx; unfold HB at this; unfold lowI; rw [if_neg (by omega)]; rfl), List.map_id]
  unfold hostI
  rw [hf.1, hf.2, hl, if_pos h, show portI httpI [] = some (0, []) from rfl, Option.bind_some]
  show (if 40 < (printI (UL.mk httpI s 0 (dotsI (ahead [63] (ahead [35] []))) (queryI (behind [63] (ahead [35] []))))).length then none else some (UL.mk httpI s 0 (dotsI (ahead [63] (ahead [35] []))) (queryI (behind [63] (ahead [35] [])))) : Option UL) = _
  rw [show dotsI (ahead [63] (ahead [35] [])) = [47] by decide, show queryI (behind [63] (ahead [35] [])) = [] by decide, if_neg]
  have := h.2.1
  unfold printI originI
  simp [httpI]
  omega
theorem mark_byt : Byt markI := by intro x hx; simp [markI] at hx; omega
/-- Whether the program takes it for a host. -/
theorem host_parse {s : List Int} (hB : Byt s) : (match parseI (httpI ++ markI ++ s) with | some u => decide (u.host = s) | none => false) = decide (HostOk s) := by
  by_cases h : HostOk s
  · rw [hostOk_parse h, decide_eq_true h]
    exact decide_eq_true rfl
  · rw [decide_eq_false h]
    cases hp : parseI (httpI ++ markI ++ s) with
    | none => rfl
    | some u =>
      have hN := parseI_norm (byt_append (byt_append http_byt mark_byt) hB) hp
      refine decide_eq_false (fun e => h ?_)
      rw [← e]
      exact hN.fine.half.host

/-! ### sources that name a host -/
structure PL where
  sch : List Int
  host : List Int
  under : Bool
  port : Int
def SL.pl (x : SL) : PL := ⟨x.sch, starI x.host, begI [42, 46] x.host, portNum x.port⟩
def PL.zero : PL := ⟨[], [], false, 0⟩
def restG (sch r : List Int) : Option PL :=
  if HostOk (ahead [58] (trimP [42, 46] r)) then
    if behind [58] (trimP [42, 46] r) = [] then some ⟨sch, ahead [58] (trimP [42, 46] r), begI [42, 46] r, -1⟩
    else (portG ((behind [58] (trimP [42, 46] r)).drop 1)).map fun p => ⟨sch, ahead [58] (trimP [42, 46] r), begI [42, 46] r, p⟩
  else none
def placeG (S : List Int) : Option PL :=
  if (cutS [58, 47, 47] S).2.2 = true then
    if (cutS [58, 47, 47] S).1 = httpI ∨ (cutS [58, 47, 47] S).1 = httpsI then restG (cutS [58, 47, 47] S).1 (cutS [58, 47, 47] S).2.1 else none
  else restG [] S
theorem star_parts (r : List Int) : starI (ahead [58] r) = ahead [58] (trimP [42, 46] r) ∧ behind [58] r = behind [58] (trimP [42, 46] r) ∧ begI [42, 46] (ahead [58] r) = begI [42, 46] r := by
  by_cases h : begI [42, 46] r = true
  · have e := begI_drop h
    have ht : trimP [42, 46] r = r.drop 2 := by unfold trimP; rw [if_pos h]; rfl
    have hap := ahead_app (st := [58]) (p := [42, 46]) (r.drop 2) (by decide)
    have e2 : r = [42, 46] ++ r.drop 2 := e
    rw [ht]
    have h1 : ahead [58] r = [42, 46] ++ ahead [58] (r.drop 2) := by rw [← hap.1, ← e2]
    have h2 : behind [58] r = behind [58] (r.drop 2) := by rw [← hap.2, ← e2]
    have hb : begI [42, 46] (ahead [58] r) = true := by rw [h1, begI_iff]; simp
    refine ⟨?_, h2, by rw [hb, h]⟩
    unfold starI
    rw [if_pos hb, h1]
    rfl
  · have h' : begI [42, 46] r = false := by simpa using h
    have ht : trimP [42, 46] r = r := by unfold trimP; rw [if_neg h]
    have hb : begI [42, 46] (ahead [58] r) = false := by
      rw [← Bool.not_eq_true]
      intro hb
      apply h
      have e := begI_drop hb
      have e2 := ahead_behind [58] r
      rw [begI_iff, ← e2, e]
      simp
    rw [ht]
    refine ⟨?_, rfl, by rw [hb, h']⟩
    unfold starI
    rw [hb]
    rfl
theorem hostP_rest (sch r : List Int) : (hostP sch r).map SL.pl = restG sch r := by
  obtain ⟨h1, h2, h3⟩ := star_parts r
  unfold hostP restG
  rw [h1, h2]
  by_cases hh : HostOk (ahead [58] (trimP [42, 46] r))
  · rw [if_pos hh]
    by_cases hb : behind [58] (trimP [42, 46] r) = []
    · rw [if_pos ⟨hh, .inl hb⟩, if_pos hb, hb, Option.map_some]
      show some (PL.mk sch (starI (ahead [58] r)) (begI [42, 46] (ahead [58] r)) (portNum [])) = _
      rw [h1, h3]
      rfl
    · rw [if_neg hb]
      cases hp : portG ((behind [58] (trimP [42, 46] r)).drop 1) with
      | none =>
        rw [if_neg (fun h => by rcases h.2 with e | e; exact hb e; rw [portW_iff, hp] at e; cases e)]
        rfl
      | some n =>
        rw [if_pos ⟨hh, .inr (by rw [portW_iff, hp]; rfl)⟩, Option.map_some, Option.map_some]
        show some (PL.mk sch (starI (ahead [58] r)) (begI [42, 46] (ahead [58] r)) (portNum ((behind [58] (trimP [42, 46] r)).drop 1))) = _
        rw [h1, h3, ← (portG_num hp).1]
  · rw [if_neg hh, if_neg (fun h => hh h.1)]
    rfl
theorem behind_mark : ∀ (a b : List Int), 47 ∈ (behind [58] (a ++ (58 :: 47 :: 47 :: b))).drop 1
  | [], b => by
    rw [List.nil_append, (ahead_hd (st := [58]) (x := 58) (by decide) _).2]
    simp
  | x :: a, b => by
    rw [List.cons_append]
    by_cases h : x = 58
    · rw [(ahead_hd (st := [58]) (x := x) (by rw [h]; decide) _).2]
      simp
    · have e : behind [58] (x :: (a ++ (58 :: 47 :: 47 :: b))) = behind [58] (a ++ (58 :: 47 :: 47 :: b)) := by
        unfold behind
        rw [List.dropWhile_cons_of_pos (by simp [h])]
      rw [e]
      exact behind_mark a b
theorem portW_mark {p : List Int} (h : 47 ∈ p) : ¬ PortW p := by
  rintro (rfl | ⟨n, e, _⟩)
  · simp at h
  · unfold figI at e
    split at e
    · rename_i hf
      have := hf.2.2 47 h
      omega
    · cases e
theorem cutS_is {p : List Int} : ∀ {l : List Int}, (cutS p l).2.2 = true → l = (cutS p l).1 ++ (p ++ (cutS p l).2.1)
  | [], h => by simp [cutS] at h
  | x :: t, h => by
    unfold cutS at h ⊢
    split
    · rename_i hb
      rw [List.nil_append]
      exact begI_drop hb
    · rename_i hb
      rw [if_neg hb] at h
      have := cutS_is h
      rw [List.cons_append, ← this]
theorem place_is {S : List Int} (h1 : S ≠ httpI ++ [58]) (h2 : S ≠ httpsI ++ [58]) : placeG S = (sourceL S).map SL.pl := by
  unfold sourceL
  rw [if_neg h1, if_neg h2]
  by_cases a : begI (httpI ++ markI) S = true
  · have e := begI_drop a
    have e2 : S = httpI ++ ([58, 47, 47] ++ S.drop 7) := by rw [← List.append_assoc]; exact e
    have hc : cutS [58, 47, 47] S = (httpI, S.drop 7, true) := by
      conv => lhs; rw [e2]
      rw [cutS_skip _ (by decide), cutS_hit]
      rfl
    rw [if_pos a, hostP_rest]
    unfold placeG
    rw [hc, if_pos rfl, if_pos (.inl rfl)]
  · rw [if_neg a]
    by_cases b : begI (httpsI ++ markI) S = true
    · have e := begI_drop b
      have e2 : S = httpsI ++ ([58, 47, 47] ++ S.drop 8) := by rw [← List.append_assoc]; exact e
      have hc : cutS [58, 47, 47] S = (httpsI, S.drop 8, true) := by
        conv => lhs; rw [e2]
        rw [cutS_skip _ (by decide), cutS_hit]
        rfl
      rw [if_pos b, hostP_rest]
      unfold placeG
      rw [hc, if_pos rfl, if_pos (.inr rfl)]
    · rw [if_neg b]
      unfold placeG
      by_cases c : (cutS [58, 47, 47] S).2.2 = true
      · have e := cutS_is c
        rw [if_pos c]
        have hn : ¬ ((cutS [58, 47, 47] S).1 = httpI ∨ (cutS [58, 47, 47] S).1 = httpsI) := by
          rintro (d | d)
          · apply a
            rw [begI_iff, e, d]
            simp [httpI, markI]
          · apply b
            rw [begI_iff, e, d]
            simp [httpsI, markI]
        rw [if_neg hn]
        have hm := behind_mark (cutS [58, 47, 47] S).1 (cutS [58, 47, 47] S).2.1
        have e3 : S = (cutS [58, 47, 47] S).1 ++ (58 :: 47 :: 47 :: (cutS [58, 47, 47] S).2.1) := e
        rw [← e3] at hm
        unfold hostP
        rw [if_neg]
        · rfl
        · rintro ⟨_, d | d⟩
          · rw [d] at hm; simp at hm
          · exact portW_mark hm d
      · rw [if_neg c, hostP_rest]
/-- What a source that names a host matches, as the program tells it. -/
def saferI (a b : List Int) : Bool := decide (a = b) || decide (a = httpsI)
def PL.hasSch (p : PL) (page u : UL) : Bool := if p.sch = [] then saferI u.sch page.sch else saferI u.sch p.sch
def PL.hasHost (p : PL) (u : UL) : Bool := if p.under = true then endI (46 :: p.host) u.host && decide (p.host.length + 1 < u.host.length) else decide (u.host = p.host)
def PL.hasPort (p : PL) (u : UL) : Bool := if p.port = -2 then true else if p.port = -1 then decide (u.port = 0) else decide (p.port = ownPort u)
theorem safer_like {sc : List Int} (h : sc = httpI ∨ sc = httpsI) (u : UL) : saferI u.sch sc = likeI sc u := by
  unfold saferI likeI
  rcases h with rfl | rfl
  · rw [decide_eq_true (rfl : httpI = httpI), Bool.true_and]
  · rw [decide_eq_false (by decide : ¬ httpsI = httpI), Bool.false_and, Bool.or_false, Bool.or_self]
theorem hostP_some {sch r : List Int} {x : SL} (h : hostP sch r = some x) : x.sch = sch ∧ HostOk (starI x.host) ∧ (x.port = [] ∨ PortW x.port) := by
  unfold hostP at h
  split at h
  · rename_i hc
    cases h
    refine ⟨rfl, hc.1, ?_⟩
    rcases hc.2 with e | e
    · left; show (behind [58] r).drop 1 = []; rw [e]; rfl
    · exact .inr e
  · cases h
theorem source_some {S : List Int} {x : SL} (h1 : S ≠ httpI ++ [58]) (h2 : S ≠ httpsI ++ [58]) (h : sourceL S = some x) :
    (x.sch = [] ∨ x.sch = httpI ∨ x.sch = httpsI) ∧ HostOk (starI x.host) ∧ (x.port = [] ∨ PortW x.port) := by
  unfold sourceL at h
  rw [if_neg h1, if_neg h2] at h
  split at h
  · have := hostP_some h; exact ⟨.inr (.inl this.1), this.2⟩
  · split at h
    · have := hostP_some h; exact ⟨.inr (.inr this.1), this.2⟩
    · have := hostP_some h; exact ⟨.inl this.1, this.2⟩
theorem match_place {S : List Int} {x : SL} (h1 : S ≠ httpI ++ [58]) (h2 : S ≠ httpsI ++ [58]) (h : sourceL S = some x) (page u : UL) (hp : page.sch = httpI ∨ page.sch = httpsI) :
    matchS x page u = (x.pl.hasSch page u && (x.pl.hasHost u && x.pl.hasPort u)) := by
  obtain ⟨a, b, c⟩ := source_some h1 h2 h
  have hne : x.host ≠ [] := by
    intro e
    rw [e] at b
    have := b.1
    simp [starI, begI] at this
  unfold matchS
  rw [if_neg hne]
  have e1 : likeI (if x.sch = [] then page.sch else x.sch) u = x.pl.hasSch page u := by
    unfold PL.hasSch
    show _ = if x.sch = [] then _ else saferI u.sch x.sch
    by_cases d : x.sch = []
    · rw [if_pos d, if_pos d, safer_like hp]
    · rw [if_neg d, if_neg d, safer_like (a.resolve_left d)]
  have e2 : hostM x.host u = x.pl.hasHost u := by
    unfold hostM PL.hasHost
    show _ = if begI [42, 46] x.host = true then endI (46 :: starI x.host) u.host && decide ((starI x.host).length + 1 < u.host.length) else decide (u.host = starI x.host)
    by_cases d : begI [42, 46] x.host = true
    · rw [if_pos d, if_pos d]
      have e := begI_drop d
      have e0 : x.host = [42, 46] ++ x.host.drop 2 := e
      have es : starI x.host = x.host.drop 2 := by unfold starI; rw [if_pos d]
      have ed : x.host.drop 1 = 46 :: x.host.drop 2 := by
        conv => lhs; rw [e0]
        rfl
      have el : x.host.length = (x.host.drop 2).length + 2 := by
        have := begI_len d
        simp at this ⊢
        omega
      rw [ed, es]
      cases f : endI (46 :: x.host.drop 2) u.host with
      | false => rfl
      | true =>
        rw [Bool.true_and, Bool.true_and]
        unfold endI at f
        rw [Bool.and_eq_true, decide_eq_true_iff] at f
        have f1 := f.1
        rw [List.length_cons] at f1
        rw [Bool.eq_iff_iff, decide_eq_true_iff, decide_eq_true_iff]
        omega
    · rw [if_neg d, if_neg d]
      have es : starI x.host = x.host := by unfold starI; rw [if_neg d]
      rw [es]
  have e3 : portM x.port u = x.pl.hasPort u := by
    unfold portM PL.hasPort
    show _ = if portNum x.port = -2 then true else if portNum x.port = -1 then decide (u.port = 0) else decide (portNum x.port = ownPort u)
    by_cases d : x.port = [42]
    · rw [d, if_pos rfl, if_pos (by decide)]
    · rw [if_neg d]
      by_cases f : x.port = []
      · rw [f, if_pos rfl, if_neg (by decide), if_pos (by decide)]
      · rw [if_neg f]
        have hw := portW_iff.1 (c.resolve_left f)
        obtain ⟨n, hn⟩ := Option.isSome_iff_exists.1 hw
        have g := portG_num hn
        have g2 := g.2.1 d
        rw [g.1] at g2
        rw [if_neg (by omega), if_neg (by omega)]
        unfold portNum at g2 ⊢
        rw [if_neg f, if_neg d]
        rw [Bool.eq_iff_iff, decide_eq_true_iff, decide_eq_true_iff]
        exact eq_comm
  rw [e1, e2, e3]
end Go.Proofs.YtfgaikacijdodaaGreatDoor
