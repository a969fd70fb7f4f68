/-
  Texts that the laws stand on: CspL, Shelf, LibV, CspV, UrlV.
-/
import Derived.Test.YtfgaikacijdodaaDoorM5
import Derived.Test.YtfgaikacijdodaaDoorM3
import Derived.Test.YtfgaikacijdodaaDoorM2
import Derived.Test.YtfgaikacijdodaaDoorM4
import Derived.Lib.FieldsP
import Derived.Lib.SpaceUEq
import Derived.Lib.ParseIntB
import Derived.Shelf.Small.Wraps
import Derived.Shelf.Strconv.Itoa0
import Derived.Shelf.Strconv.Itoa1
import Derived.Shelf.LaysM
import Derived.Shelf.Strconv.Itoa2
import Derived.Shelf.Strconv.Itoa3
import Derived.Shelf.Strconv.Clone
import Derived.Ground.MpProg
import Derived.Shelf.Pu.ParseUintPublic10
import Derived.Shelf.Pu.ErrVarParseUint
import Derived.Shelf.Strings.Search1
import Derived.Shelf.Strings.Search2
import Derived.Shelf.Strings.Search3
import Derived.Shelf.Strings.Cut
import Derived.Shelf.Strings.Count
import Derived.Shelf.Strings.Shaped
import Derived.Shelf.Strings.Prefix
import Derived.Shelf.Strings.Split
import Derived.Shelf.Strings.SplitShaped
import Derived.Shelf.Strings.FieldsFuncAny
import Derived.Test.YtfgaikacijdodaaDoorProg
import Derived.Test.YtfgaikacijdodaaDoorM1
import Derived.Lib.LaidTab
import Derived.Lib.AtoiErrMem
import Derived.Lib.ParseIntBCases
import Derived.Shelf.GgClosure.GivesRunes

/-
  The landed program's own way to read a list and its sources, as lists of bytes; what the library's FieldsFunc and ParseUint tell, as lists: nothing runs here.
-/
namespace Go.Proofs.YtfgaikacijdodaaDoor
set_option linter.unusedVariables false
set_option linter.unusedSimpArgs false
set_option maxRecDepth 20000

/-! ### words -/
def blankR (r : Nat) : Bool := decide (r = 32)
theorem dec_blank {l : List Int} (hB : Byt l) : ((decI l).1 = 32 → (decI l).2 = 1 ∧ l.getD 0 0 = 32) ∧ ((decI l).1 ≠ 32 → ∀ j, j < (decI l).2 → l.getD j 0 ≠ 32) := by
  have h0 := getD_byt hB 0
  have hc := Lib.decodeN_cases l.length (l.getD 0 0).toNat (l.getD 1 0).toNat (l.getD 2 0).toNat (l.getD 3 0).toNat
  have hk := Lib.decodeN_conts l.length (l.getD 0 0).toNat (l.getD 1 0).toNat (l.getD 2 0).toNat (l.getD 3 0).toNat
  have ho := fun h => decN_one l.length (l.getD 0 0).toNat (l.getD 1 0).toNat (l.getD 2 0).toNat (l.getD 3 0).toNat h
  unfold decI
  generalize Lib.decodeN l.length (l.getD 0 0).toNat (l.getD 1 0).toNat (l.getD 2 0).toNat (l.getD 3 0).toNat = d at *
  constructor
  · intro h
    rcases hc with ⟨_, e⟩ | ⟨_, _, _, _, e⟩ | ⟨_, _, _, _, _, e⟩ | ⟨h4, _⟩ | e
    · rw [e] at h ⊢; simp only at h ⊢; exact ⟨trivial, by omega⟩
    · rw [e] at h; simp only at h; omega
    · rw [e] at h; simp only at h; omega
    · omega
    · rw [e] at h; simp at h
  · intro h j hj hjj
    have h3 : j = 0 ∨ j = 1 ∨ j = 2 ∨ j = 3 := by omega
    rcases h3 with rfl | rfl | rfl | rfl
    · have := ho (by omega); rw [this] at h; simp only at h; omega
    · have := (hk.1 (by omega)).1; omega
    · have := (hk.2.1 (by omega)).1; omega
    · have := (hk.2.2.1 (by omega)).1; omega
def stW (l : List Int) (pos : Nat) : Option Nat → List Int
  | some a => (l.take pos).drop a
  | none => []
def pieceW (l : List Int) (x : Nat × Nat) : List Int := (l.take x.2).drop x.1
theorem stW_ne {l : List Int} {pos a : Nat} (h : a < pos) (hp : pos ≤ l.length) : stW l pos (some a) ≠ [] := by
  intro e
  have := congrArg List.length e
  simp only [stW, List.length_drop, List.length_take, List.length_nil] at this
  omega
theorem fields_end (s : ByteArray) (pos : Nat) (st : Option Nat) (acc : List (Nat × Nat)) (f : Nat) (h : pos = s.size) (ha : ∀ a, st = some a → a < pos) :
    (Lib.closeSpans s (Lib.spansFromP blankR s f pos st acc)).map (pieceW (sb s)) = acc.map (pieceW (sb s)) ++ wordsF (stW (sb s) pos st) ((sb s).drop pos) := by
  rw [Lib.spansFromP_end blankR s f pos st acc (by omega), List.drop_of_length_le (by rw [length_sb]; omega)]
  unfold Lib.closeSpans
  cases st with
  | none => simp [stW, wordsF, pushW]
  | some a =>
    have hne : stW (sb s) pos (some a) ≠ [] := stW_ne (ha a rfl) (by rw [length_sb]; omega)
    simp only [List.map_append, List.map_cons, List.map_nil]
    congr 1
    show [pieceW (sb s) (a, s.size)] = pushW _
    unfold pushW
    rw [if_neg hne, h]
    rfl
theorem fields_go (s : ByteArray) : ∀ (f pos : Nat) (st : Option Nat) (acc : List (Nat × Nat)), s.size - pos ≤ f → pos ≤ s.size → (∀ a, st = some a → a < pos) →
    (Lib.closeSpans s (Lib.spansFromP blankR s f pos st acc)).map (pieceW (sb s)) = acc.map (pieceW (sb s)) ++ wordsF (stW (sb s) pos st) ((sb s).drop pos) := by
  intro f
  induction f with
  | zero =>
    intro pos st acc hf hp ha
    exact fields_end s pos st acc 0 (by omega) ha
  | succ f ih =>
    intro pos st acc hf hp ha
    by_cases hlt : pos < s.size
    · have hne : (sb s).drop pos ≠ [] := by
        intro e; have := congrArg List.length e; rw [List.length_drop, length_sb] at this; simp at this; omega
      have hd := decode_sb s pos
      have hbl := dec_blank (byt_drop (byt_sb s) pos)
      have hk1 := decI_pos ((sb s).drop pos)
      have hk2 := decI_le hne
      rw [List.length_drop, length_sb] at hk2
      rw [Lib.spansFromP.eq_def]
      simp only []
      rw [if_pos hlt, hd]
      generalize decI ((sb s).drop pos) = d at *
      obtain ⟨r, k⟩ := d
      simp only at hbl hk1 hk2 ⊢
      by_cases hr : r = 32
      · obtain ⟨rfl, hh⟩ := hbl.1 hr
        have hcons : (sb s).drop pos = 32 :: (sb s).drop (pos + 1) := by
          have hp2 : pos < (sb s).length := by rw [length_sb]; exact hlt
          rw [List.drop_eq_getElem_cons hp2] at hh ⊢
          rw [List.getD_cons_zero] at hh
          rw [hh]
        rw [if_pos (by unfold blankR; exact decide_eq_true hr)]
        cases st with
        | some a =>
          simp only
          rw [ih (pos + 1) none (acc ++ [(a, pos)]) (by omega) (by omega) (by intro b h; cases h), hcons, wordsF, if_pos rfl, List.map_append, List.append_assoc]
          congr 1
          have hw : stW (sb s) pos (some a) ≠ [] := stW_ne (ha a rfl) (by rw [length_sb]; omega)
          unfold pushW
          rw [if_neg hw]
          rfl
        | none =>
          simp only
          rw [ih (pos + 1) none acc (by omega) (by omega) (by intro b h; cases h), hcons, wordsF, if_pos rfl]
          rfl
      · have hj := hbl.2 hr
        have hsplit : (sb s).drop pos = ((sb s).drop pos).take k ++ (sb s).drop (pos + k) := by rw [← List.drop_drop, List.take_append_drop]
        have hno : ∀ x ∈ ((sb s).drop pos).take k, x ≠ 32 := by
          intro x hx
          obtain ⟨i, hi, rfl⟩ := List.mem_iff_getElem.1 hx
          rw [List.length_take] at hi
          have := hj i (by omega)
          rw [List.getD_eq_getElem?_getD, List.getElem?_eq_getElem (by omega), Option.getD_some] at this
          rwa [List.getElem_take]
        have hw2 : ∀ w, wordsF w ((sb s).drop pos) = wordsF (w ++ ((sb s).drop pos).take k) ((sb s).drop (pos + k)) := fun w => by
          rw [← wordsF_app _ w _ hno, ← hsplit]
        rw [if_neg (by unfold blankR; simp [hr])]
        cases st with
        | some a =>
          have hap := ha a rfl
          simp only
          rw [ih (pos + k) (some a) acc (by omega) (by omega) (by intro b hb; cases hb; omega), hw2]
          congr 2
          show ((sb s).take (pos + k)).drop a = ((sb s).take pos).drop a ++ _
          rw [List.take_add, List.drop_append_of_le_length (by rw [List.length_take, length_sb]; omega)]
        | none =>
          simp only
          rw [ih (pos + k) (some pos) acc (by omega) (by omega) (by intro b hb; cases hb; omega), hw2]
          congr 2
          show ((sb s).take (pos + k)).drop pos = [] ++ _
          rw [List.take_add, List.nil_append, List.drop_left' (by rw [List.length_take, length_sb]; omega)]
    · exact fields_end s pos st acc (f + 1) (by omega) ha
/-- FieldsFunc at a blank: the words. -/
theorem fields_words (s : ByteArray) : Lib.goFieldsP blankR s = (wordsI (sb s)).map strOfNums := by
  have h := fields_go s s.size 0 none [] (by omega) (by omega) (by intro a e; cases e)
  rw [List.map_nil, List.nil_append, List.drop_zero] at h
  have h2 : wordsI (sb s) = (Lib.spansOfP blankR s).map (pieceW (sb s)) := h.symm
  rw [h2, List.map_map]
  unfold Lib.goFieldsP
  refine List.map_congr_left (fun x _ => ?_)
  show s.extract x.1 x.2 = strOfNums (pieceW (sb s) x)
  rw [← str_sb (s.extract x.1 x.2), sb_extract]
  rfl

/-! ### ports -/
theorem fold_ge : ∀ (l : List Int) (n : Int), 0 ≤ n → (∀ x ∈ l, 48 ≤ x ∧ x ≤ 57) → n ≤ l.foldl (fun n c => 10 * n + (c - 48)) n
  | [], n, _, _ => Int.le_refl _
  | c :: l, n, h0, h => by
    have hc := h c (.head _)
    have := fold_ge l (10 * n + (c - 48)) (by omega) (fun x hx => h x (.tail _ hx))
    rw [List.foldl_cons]; omega
theorem uintM_ok : ∀ (l : List UInt8) (acc u : Nat), acc ≤ 65535 → (Lib.parseUintM 65535 acc l = .ok u ↔ (∀ x ∈ nb l, 48 ≤ x ∧ x ≤ 57) ∧ (nb l).foldl (fun n c => 10 * n + (c - 48)) (acc : Int) = u ∧ u ≤ 65535)
  | [], acc, u, h => by
    rw [Lib.parseUintM]
    constructor
    · intro e; injection e with e; exact ⟨(fun x hx => by cases hx), by rw [← e]; rfl, by omega⟩
    · rintro ⟨_, e, _⟩
      have e2 : (acc : Int) = u := e
      congr 1; omega
  | c :: r, acc, u, h => by
    have hn : nb (c :: r) = (c.toNat : Int) :: nb r := rfl
    rw [Lib.parseUintM, hn]
    by_cases hd : 48 ≤ c.toNat ∧ c.toNat ≤ 57
    · rw [if_pos hd, if_neg (by omega)]
      have hacc : ((10 : Int) * acc + ((c.toNat : Int) - 48)) = ((acc * 10 + (c.toNat - 48) : Nat) : Int) := by omega
      by_cases hM : 65535 < acc * 10 + (c.toNat - 48)
      · rw [if_pos hM]
        constructor
        · intro e; cases e
        · rintro ⟨h1, h2, h3⟩
          rw [List.foldl_cons, hacc] at h2
          have := fold_ge (nb r) ((acc * 10 + (c.toNat - 48) : Nat) : Int) (by omega) (fun x hx => h1 x (.tail _ hx))
          omega
      · rw [if_neg hM, uintM_ok r _ u (by omega), List.foldl_cons, hacc]
        constructor
        · rintro ⟨h1, h2, h3⟩
          refine ⟨fun x hx => ?_, h2, h3⟩
          rcases List.mem_cons.1 hx with rfl | hx
          · omega
          · exact h1 x hx
        · rintro ⟨h1, h2, h3⟩
          exact ⟨fun x hx => h1 x (.tail _ hx), h2, h3⟩
    · rw [if_neg hd]
      constructor
      · intro e; cases e
      · rintro ⟨h1, _, _⟩
        have := h1 _ (.head _)
        omega
theorem prt_some {p : List Int} {n : Int} : prtI p = some n ↔ FigOk p 1 5 ∧ figN p = n ∧ n ≤ 65535 := by
  unfold prtI figI
  by_cases h : FigOk p 1 5
  · rw [if_pos h, Option.bind_some]
    by_cases h2 : 65535 < figN p
    · rw [if_pos h2]
      constructor
      · intro e; cases e
      · rintro ⟨_, e, h3⟩; omega
    · rw [if_neg h2]
      constructor
      · intro e; injection e with e; exact ⟨h, e, by omega⟩
      · rintro ⟨_, e, _⟩; rw [e]
  · rw [if_neg h, Option.bind_none]
    constructor
    · intro e; cases e
    · rintro ⟨e, _⟩; exact absurd e h
/-- ParseUint with sixteen bits, at no more than five digits. -/
theorem uint_port {s : ByteArray} (h5 : s.size ≤ 5) (u : Nat) : Lib.parseUintB 16 s.data.toList = .ok u ↔ prtI (sb s) = some (u : Int) := by
  rw [prt_some]
  have hlen : (sb s).length = s.size := length_sb s
  have hnb : nb s.data.toList = sb s := rfl
  have hsz : s.data.toList.length = s.size := by simp
  unfold Lib.parseUintB
  by_cases h0 : s.data.toList = []
  · rw [if_pos h0]
    constructor
    · intro e; cases e
    · rintro ⟨⟨h1, _, _⟩, _⟩
      have : s.size = 0 := by rw [← hsz, h0]; rfl
      omega
  · rw [if_neg h0, show (2 ^ 16 - 1 : Nat) = 65535 by decide, uintM_ok _ 0 u (by omega), hnb]
    have h1 : 1 ≤ s.size := by
      have := List.length_pos_iff.2 h0
      omega
    constructor
    · rintro ⟨a, b, c⟩
      exact ⟨⟨by omega, by omega, a⟩, b, by omega⟩
    · rintro ⟨⟨_, _, a⟩, b, c⟩
      exact ⟨a, b, by omega⟩
theorem prt_long {p : List Int} (h : 5 < p.length) : prtI p = none := by
  unfold prtI figI
  rw [if_neg (fun h2 => by have := h2.2.1; omega)]
  rfl
/-- A port as the program has it: -2 whatever, else the number. -/
def portG (p : List Int) : Option Int := if p = [42] then some (-2) else prtI p
def portNum (p : List Int) : Int := if p = [] then -1 else if p = [42] then -2 else (figI p 1 5).getD 0
theorem portW_iff {p : List Int} : PortW p ↔ (portG p).isSome := by
  unfold PortW portG
  by_cases h : p = [42]
  · simp [h]
  · rw [if_neg h]
    constructor
    · rintro (e | ⟨n, e, hn⟩)
      · exact absurd e h
      · unfold prtI; rw [e, Option.bind_some, if_neg (by omega)]; rfl
    · intro e
      obtain ⟨n, hn⟩ := Option.isSome_iff_exists.1 e
      have := prt_some.1 hn
      exact .inr ⟨n, by unfold figI; rw [if_pos this.1, this.2.1], this.2.2⟩
theorem portG_num {p : List Int} {n : Int} (h : portG p = some n) : n = portNum p ∧ (p ≠ [42] → 0 ≤ n) ∧ p ≠ [] ∧ n ≤ 65535 ∧ -2 ≤ n := by
  unfold portG at h
  unfold portNum
  by_cases h2 : p = [42]
  · rw [if_pos h2] at h
    injection h with h
    subst h2; subst h
    exact ⟨by rw [if_neg (by simp), if_pos rfl], fun e => absurd rfl e, by simp, by omega, by omega⟩
  · rw [if_neg h2] at h
    have hp := prt_some.1 h
    have hne : p ≠ [] := by
      rintro rfl
      have := hp.1.1
      simp at this
    have hb := figN_bound p hp.1.2.2
    rw [if_neg hne, if_neg h2]
    unfold figI
    rw [if_pos hp.1, Option.getD_some]
    exact ⟨hp.2.1.symm, fun _ => by omega, hne, hp.2.2, by omega⟩

/-! ### hosts -/
theorem hostOk_hb {s : List Int} (h : HostOk s) : ∀ x ∈ s, HB x := by
  intro x hx
  obtain ⟨i, hi, rfl⟩ := List.mem_iff_getElem.1 hx
  have := (h.2.2.2.2 i hi).1
  rwa [List.getD_eq_getElem?_getD, List.getElem?_eq_getElem hi, Option.getD_some] at this
theorem hostOk_parse {s : List Int} (h : HostOk s) : parseI (httpI ++ markI ++ s) = some ⟨httpI, s, 0, [47], []⟩ := by
  have hb := hostOk_hb h
  have hbl : ∀ x ∈ httpI ++ markI ++ s, blank x = false := by
    intro x hx
    unfold blank
    rw [decide_eq_false_iff_not]
    rcases List.mem_append.1 hx with hx | hx
    · have h1 : ∀ x ∈ httpI ++ markI, ¬ x ≤ 32 := by decide
      exact h1 x hx
    · have := hb x hx; unfold HB at this; omega
  have ht : trimI (httpI ++ markI ++ s) = httpI ++ markI ++ s :=
    trim_done (fun x r e => hbl x (by rw [e]; exact .head _)) (fun r x e => hbl x (by rw [e]; simp))
  have hs := scheme_of (P := httpI) (r := s) (sch := httpI) (by decide)
  unfold parseI
  rw [ht, show httpI ++ markI ++ s = httpI ++ (58 :: 47 :: 47 :: s) by simp [markI], hs, Option.bind_some]
  show hostI httpI s = _
  have hf := ahead_full (st := [58, 47, 63, 35]) (p := s) (fun y hy => by
    have := hb y hy; unfold HB at this
    simp only [List.contains_cons, List.contains_nil, Bool.or_false, Bool.or_eq_false_iff, beq_eq_false_iff_ne]
    omega)
  have hl : lowL s = s := by
    unfold lowL
    rw [List.map_congr_left (g := id) (fun x hx => by have := hb x hx; unfold HB at this; unfold lowI; rw [if_neg (by omega)]; rfl), List.map_id]
  unfold hostI
  rw [hf.1, hf.2, hl, if_pos h, show portI httpI [] = some (0, []) from rfl, Option.bind_some]
  show (if 40 < (printI (UL.mk httpI s 0 (dotsI (ahead [63] (ahead [35] []))) (queryI (behind [63] (ahead [35] []))))).length then none else some (UL.mk httpI s 0 (dotsI (ahead [63] (ahead [35] []))) (queryI (behind [63] (ahead [35] [])))) : Option UL) = _
  rw [show dotsI (ahead [63] (ahead [35] [])) = [47] by decide, show queryI (behind [63] (ahead [35] [])) = [] by decide, if_neg]
  have := h.2.1
  unfold printI originI
  simp [httpI]
  omega
theorem mark_byt : Byt markI := by intro x hx; simp [markI] at hx; omega
/-- Whether the program takes it for a host. -/
theorem host_parse {s : List Int} (hB : Byt s) : (match parseI (httpI ++ markI ++ s) with | some u => decide (u.host = s) | none => false) = decide (HostOk s) := by
  by_cases h : HostOk s
  · rw [hostOk_parse h, decide_eq_true h]
    exact decide_eq_true rfl
  · rw [decide_eq_false h]
    cases hp : parseI (httpI ++ markI ++ s) with
    | none => rfl
    | some u =>
      have hN := parseI_norm (byt_append (byt_append http_byt mark_byt) hB) hp
      refine decide_eq_false (fun e => h ?_)
      rw [← e]
      exact hN.fine.half.host

/-! ### sources that name a host -/
structure PL where
  sch : List Int
  host : List Int
  under : Bool
  port : Int
def SL.pl (x : SL) : PL := ⟨x.sch, starI x.host, begI [42, 46] x.host, portNum x.port⟩
def PL.zero : PL := ⟨[], [], false, 0⟩
def restG (sch r : List Int) : Option PL :=
  if HostOk (ahead [58] (trimP [42, 46] r)) then
    if behind [58] (trimP [42, 46] r) = [] then some ⟨sch, ahead [58] (trimP [42, 46] r), begI [42, 46] r, -1⟩
    else (portG ((behind [58] (trimP [42, 46] r)).drop 1)).map fun p => ⟨sch, ahead [58] (trimP [42, 46] r), begI [42, 46] r, p⟩
  else none
def placeG (S : List Int) : Option PL :=
  if (cutS [58, 47, 47] S).2.2 = true then
    if (cutS [58, 47, 47] S).1 = httpI ∨ (cutS [58, 47, 47] S).1 = httpsI then restG (cutS [58, 47, 47] S).1 (cutS [58, 47, 47] S).2.1 else none
  else restG [] S
theorem star_parts (r : List Int) : starI (ahead [58] r) = ahead [58] (trimP [42, 46] r) ∧ behind [58] r = behind [58] (trimP [42, 46] r) ∧ begI [42, 46] (ahead [58] r) = begI [42, 46] r := by
  by_cases h : begI [42, 46] r = true
  · have e := begI_drop h
    have ht : trimP [42, 46] r = r.drop 2 := by unfold trimP; rw [if_pos h]; rfl
    have hap := ahead_app (st := [58]) (p := [42, 46]) (r.drop 2) (by decide)
    have e2 : r = [42, 46] ++ r.drop 2 := e
    rw [ht]
    have h1 : ahead [58] r = [42, 46] ++ ahead [58] (r.drop 2) := by rw [← hap.1, ← e2]
    have h2 : behind [58] r = behind [58] (r.drop 2) := by rw [← hap.2, ← e2]
    have hb : begI [42, 46] (ahead [58] r) = true := by rw [h1, begI_iff]; simp
    refine ⟨?_, h2, by rw [hb, h]⟩
    unfold starI
    rw [if_pos hb, h1]
    rfl
  · have h' : begI [42, 46] r = false := by simpa using h
    have ht : trimP [42, 46] r = r := by unfold trimP; rw [if_neg h]
    have hb : begI [42, 46] (ahead [58] r) = false := by
      rw [← Bool.not_eq_true]
      intro hb
      apply h
      have e := begI_drop hb
      have e2 := ahead_behind [58] r
      rw [begI_iff, ← e2, e]
      simp
    rw [ht]
    refine ⟨?_, rfl, by rw [hb, h']⟩
    unfold starI
    rw [hb]
    rfl
theorem hostP_rest (sch r : List Int) : (hostP sch r).map SL.pl = restG sch r := by
  obtain ⟨h1, h2, h3⟩ := star_parts r
  unfold hostP restG
  rw [h1, h2]
  by_cases hh : HostOk (ahead [58] (trimP [42, 46] r))
  · rw [if_pos hh]
    by_cases hb : behind [58] (trimP [42, 46] r) = []
    · rw [if_pos ⟨hh, .inl hb⟩, if_pos hb, hb, Option.map_some]
      show some (PL.mk sch (starI (ahead [58] r)) (begI [42, 46] (ahead [58] r)) (portNum [])) = _
      rw [h1, h3]
      rfl
    · rw [if_neg hb]
      cases hp : portG ((behind [58] (trimP [42, 46] r)).drop 1) with
      | none =>
        rw [if_neg (fun h => by rcases h.2 with e | e; exact hb e; rw [portW_iff, hp] at e; cases e)]
        rfl
      | some n =>
        rw [if_pos ⟨hh, .inr (by rw [portW_iff, hp]; rfl)⟩, Option.map_some, Option.map_some]
        show some (PL.mk sch (starI (ahead [58] r)) (begI [42, 46] (ahead [58] r)) (portNum ((behind [58] (trimP [42, 46] r)).drop 1))) = _
        rw [h1, h3, ← (portG_num hp).1]
  · rw [if_neg hh, if_neg (fun h => hh h.1)]
    rfl
theorem behind_mark : ∀ (a b : List Int), 47 ∈ (behind [58] (a ++ (58 :: 47 :: 47 :: b))).drop 1
  | [], b => by
    rw [List.nil_append, (ahead_hd (st := [58]) (x := 58) (by decide) _).2]
    simp
  | x :: a, b => by
    rw [List.cons_append]
    by_cases h : x = 58
    · rw [(ahead_hd (st := [58]) (x := x) (by rw [h]; decide) _).2]
      simp
    · have e : behind [58] (x :: (a ++ (58 :: 47 :: 47 :: b))) = behind [58] (a ++ (58 :: 47 :: 47 :: b)) := by
        unfold behind
        rw [List.dropWhile_cons_of_pos (by simp [h])]
      rw [e]
      exact behind_mark a b
theorem portW_mark {p : List Int} (h : 47 ∈ p) : ¬ PortW p := by
  rintro (rfl | ⟨n, e, _⟩)
  · simp at h
  · unfold figI at e
    split at e
    · rename_i hf
      have := hf.2.2 47 h
      omega
    · cases e
theorem cutS_is {p : List Int} : ∀ {l : List Int}, (cutS p l).2.2 = true → l = (cutS p l).1 ++ (p ++ (cutS p l).2.1)
  | [], h => by simp [cutS] at h
  | x :: t, h => by
    unfold cutS at h ⊢
    split
    · rename_i hb
      rw [List.nil_append]
      exact begI_drop hb
    · rename_i hb
      rw [if_neg hb] at h
      have := cutS_is h
      rw [List.cons_append, ← this]
theorem place_is {S : List Int} (h1 : S ≠ httpI ++ [58]) (h2 : S ≠ httpsI ++ [58]) : placeG S = (sourceL S).map SL.pl := by
  unfold sourceL
  rw [if_neg h1, if_neg h2]
  by_cases a : begI (httpI ++ markI) S = true
  · have e := begI_drop a
    have e2 : S = httpI ++ ([58, 47, 47] ++ S.drop 7) := by rw [← List.append_assoc]; exact e
    have hc : cutS [58, 47, 47] S = (httpI, S.drop 7, true) := by
      conv => lhs; rw [e2]
      rw [cutS_skip _ (by decide), cutS_hit]
      rfl
    rw [if_pos a, hostP_rest]
    unfold placeG
    rw [hc, if_pos rfl, if_pos (.inl rfl)]
  · rw [if_neg a]
    by_cases b : begI (httpsI ++ markI) S = true
    · have e := begI_drop b
      have e2 : S = httpsI ++ ([58, 47, 47] ++ S.drop 8) := by rw [← List.append_assoc]; exact e
      have hc : cutS [58, 47, 47] S = (httpsI, S.drop 8, true) := by
        conv => lhs; rw [e2]
        rw [cutS_skip _ (by decide), cutS_hit]
        rfl
      rw [if_pos b, hostP_rest]
      unfold placeG
      rw [hc, if_pos rfl, if_pos (.inr rfl)]
    · rw [if_neg b]
      unfold placeG
      by_cases c : (cutS [58, 47, 47] S).2.2 = true
      · have e := cutS_is c
        rw [if_pos c]
        have hn : ¬ ((cutS [58, 47, 47] S).1 = httpI ∨ (cutS [58, 47, 47] S).1 = httpsI) := by
          rintro (d | d)
          · apply a
            rw [begI_iff, e, d]
            simp [httpI, markI]
          · apply b
            rw [begI_iff, e, d]
            simp [httpsI, markI]
        rw [if_neg hn]
        have hm := behind_mark (cutS [58, 47, 47] S).1 (cutS [58, 47, 47] S).2.1
        have e3 : S = (cutS [58, 47, 47] S).1 ++ (58 :: 47 :: 47 :: (cutS [58, 47, 47] S).2.1) := e
        rw [← e3] at hm
        unfold hostP
        rw [if_neg]
        · rfl
        · rintro ⟨_, d | d⟩
          · rw [d] at hm; simp at hm
          · exact portW_mark hm d
      · rw [if_neg c, hostP_rest]
/-- What a source that names a host matches, as the program tells it. -/
def saferI (a b : List Int) : Bool := decide (a = b) || decide (a = httpsI)
def PL.hasSch (p : PL) (page u : UL) : Bool := if p.sch = [] then saferI u.sch page.sch else saferI u.sch p.sch
def PL.hasHost (p : PL) (u : UL) : Bool := if p.under = true then endI (46 :: p.host) u.host && decide (p.host.length + 1 < u.host.length) else decide (u.host = p.host)
def PL.hasPort (p : PL) (u : UL) : Bool := if p.port = -2 then true else if p.port = -1 then decide (u.port = 0) else decide (p.port = ownPort u)
theorem safer_like {sc : List Int} (h : sc = httpI ∨ sc = httpsI) (u : UL) : saferI u.sch sc = likeI sc u := by
  unfold saferI likeI
  rcases h with rfl | rfl
  · rw [decide_eq_true (rfl : httpI = httpI), Bool.true_and]
  · rw [decide_eq_false (by decide : ¬ httpsI = httpI), Bool.false_and, Bool.or_false, Bool.or_self]
theorem hostP_some {sch r : List Int} {x : SL} (h : hostP sch r = some x) : x.sch = sch ∧ HostOk (starI x.host) ∧ (x.port = [] ∨ PortW x.port) := by
  unfold hostP at h
  split at h
  · rename_i hc
    cases h
    refine ⟨rfl, hc.1, ?_⟩
    rcases hc.2 with e | e
    · left; show (behind [58] r).drop 1 = []; rw [e]; rfl
    · exact .inr e
  · cases h
theorem source_some {S : List Int} {x : SL} (h1 : S ≠ httpI ++ [58]) (h2 : S ≠ httpsI ++ [58]) (h : sourceL S = some x) :
    (x.sch = [] ∨ x.sch = httpI ∨ x.sch = httpsI) ∧ HostOk (starI x.host) ∧ (x.port = [] ∨ PortW x.port) := by
  unfold sourceL at h
  rw [if_neg h1, if_neg h2] at h
  split at h
  · have := hostP_some h; exact ⟨.inr (.inl this.1), this.2⟩
  · split at h
    · have := hostP_some h; exact ⟨.inr (.inr this.1), this.2⟩
    · have := hostP_some h; exact ⟨.inl this.1, this.2⟩
theorem match_place {S : List Int} {x : SL} (h1 : S ≠ httpI ++ [58]) (h2 : S ≠ httpsI ++ [58]) (h : sourceL S = some x) (page u : UL) (hp : page.sch = httpI ∨ page.sch = httpsI) :
    matchS x page u = (x.pl.hasSch page u && (x.pl.hasHost u && x.pl.hasPort u)) := by
  obtain ⟨a, b, c⟩ := source_some h1 h2 h
  have hne : x.host ≠ [] := by
    intro e
    rw [e] at b
    have := b.1
    simp [starI, begI] at this
  unfold matchS
  rw [if_neg hne]
  have e1 : likeI (if x.sch = [] then page.sch else x.sch) u = x.pl.hasSch page u := by
    unfold PL.hasSch
    show _ = if x.sch = [] then _ else saferI u.sch x.sch
    by_cases d : x.sch = []
    · rw [if_pos d, if_pos d, safer_like hp]
    · rw [if_neg d, if_neg d, safer_like (a.resolve_left d)]
  have e2 : hostM x.host u = x.pl.hasHost u := by
    unfold hostM PL.hasHost
    show _ = if begI [42, 46] x.host = true then endI (46 :: starI x.host) u.host && decide ((starI x.host).length + 1 < u.host.length) else decide (u.host = starI x.host)
    by_cases d : begI [42, 46] x.host = true
    · rw [if_pos d, if_pos d]
      have e := begI_drop d
      have e0 : x.host = [42, 46] ++ x.host.drop 2 := e
      have es : starI x.host = x.host.drop 2 := by unfold starI; rw [if_pos d]
      have ed : x.host.drop 1 = 46 :: x.host.drop 2 := by
        conv => lhs; rw [e0]
        rfl
      have el : x.host.length = (x.host.drop 2).length + 2 := by
        have := begI_len d
        simp at this ⊢
        omega
      rw [ed, es]
      cases f : endI (46 :: x.host.drop 2) u.host with
      | false => rfl
      | true =>
        rw [Bool.true_and, Bool.true_and]
        unfold endI at f
        rw [Bool.and_eq_true, decide_eq_true_iff] at f
        have f1 := f.1
        rw [List.length_cons] at f1
        rw [Bool.eq_iff_iff, decide_eq_true_iff, decide_eq_true_iff]
        omega
    · rw [if_neg d, if_neg d]
      have es : starI x.host = x.host := by unfold starI; rw [if_neg d]
      rw [es]
  have e3 : portM x.port u = x.pl.hasPort u := by
    unfold portM PL.hasPort
    show _ = if portNum x.port = -2 then true else if portNum x.port = -1 then decide (u.port = 0) else decide (portNum x.port = ownPort u)
    by_cases d : x.port = [42]
    · rw [d, if_pos rfl, if_pos (by decide)]
    · rw [if_neg d]
      by_cases f : x.port = []
      · rw [f, if_pos rfl, if_neg (by decide), if_pos (by decide)]
      · rw [if_neg f]
        have hw := portW_iff.1 (c.resolve_left f)
        obtain ⟨n, hn⟩ := Option.isSome_iff_exists.1 hw
        have g := portG_num hn
        have g2 := g.2.1 d
        rw [g.1] at g2
        rw [if_neg (by omega), if_neg (by omega)]
        unfold portNum at g2 ⊢
        rw [if_neg f, if_neg d]
        rw [Bool.eq_iff_iff, decide_eq_true_iff, decide_eq_true_iff]
        exact eq_comm
  rw [e1, e2, e3]
end Go.Proofs.YtfgaikacijdodaaDoor
/-
  The library's contracts that the landed program's calls want, laid at this seat's program (by the kit's commands).
-/
set_option linter.unusedVariables false
set_option maxRecDepth 100000
namespace Go.Proofs
open Go.Shelf Go.RowKit Go.Sort Go.Lib
def Tryd.lays103_ren : Go.Shelf.Ren := ⟨fun | 103 => 41 | 210 => 57 | 206 => 64 | n => n, fun | 9 => 9 | 4 => 4 | 24 => 58 | 3 => 3 | n => n, fun | n => n⟩
theorem Tryd.lays103 : Go.Proofs.Lays.n103 Tryd.prog Tryd.lays103_ren := {
  mixed := by kernel_rfl
  f103 := Tryd.func41.trans (congrArg some (by kernel_rfl))
  f206 := Tryd.func64.trans (congrArg some (by kernel_rfl))
  f210 := Tryd.func57.trans (congrArg some (by kernel_rfl))
  t3 := Tryd.underlying3
  a3 := Tryd.isAgg3
  z3 := Tryd.sizeOf3
  v3 := Tryd.zeroValue3
  t4 := Tryd.underlying4
  a4 := Tryd.isAgg4
  z4 := Tryd.sizeOf4
  v4 := Tryd.zeroValue4
  t9 := Tryd.underlying9
  a9 := Tryd.isAgg9
  z9 := Tryd.sizeOf9
  v9 := Tryd.zeroValue9
  t24 := Tryd.underlying58
  a24 := Tryd.isAgg58
  z24 := Tryd.sizeOf58
  v24 := Tryd.zeroValue58 }
theorem Tryd.strings_CutPrefix (s p : ByteArray) (w : World) :
    Calls Tryd.prog 41 #[.string s, .string p] w fun e w' => e = .returned (.tuple #[.string ⟨(Lib.trimPrefix s.data.toList p.data.toList).toArray⟩, .bool (Lib.hasPrefix s.data.toList p.data.toList)]) ∧ w' = w := Any.strings_CutPrefix Tryd.lays103 s p w
def Tryd.laysM171_ren : Go.Shelf.Ren := ⟨fun | 171 => 48 | 243 => 59 | 246 => 67 | 283 => 82 | 284 => 83 | 285 => 84 | 286 => 85 | 129 => 93 | 317 => 92 | 318 => 94 | 319 => 95 | 320 => 96 | 337 => 98 | 338 => 99 | n => n, fun | 3 => 3 | 9 => 9 | 2 => 2 | 4 => 4 | 171 => 95 | 0 => 0 | 53 => 72 | 37 => 64 | 5 => 5 | 173 => 98 | 212 => 108 | 51 => 89 | 20 => 20 | 213 => 109 | 46 => 82 | 232 => 119 | 233 => 120 | n => n, fun | 17 => 3 | 18 => 6 | 19 => 7 | n => n⟩
theorem Tryd.laysM171 : Go.Proofs.LaysM.n171 Tryd.prog Tryd.laysM171_ren := {
  mixed := by kernel_rfl
  f129 := Tryd.func93.trans (congrArg some (by kernel_rfl))
  f171 := Tryd.func48.trans (congrArg some (by kernel_rfl))
  f243 := Tryd.func59.trans (congrArg some (by kernel_rfl))
  f246 := Tryd.func67.trans (congrArg some (by kernel_rfl))
  f283 := Tryd.func82.trans (congrArg some (by kernel_rfl))
  f284 := Tryd.func83.trans (congrArg some (by kernel_rfl))
  f285 := Tryd.func84.trans (congrArg some (by kernel_rfl))
  f286 := Tryd.func85.trans (congrArg some (by kernel_rfl))
  f317 := Tryd.func92.trans (congrArg some (by kernel_rfl))
  f318 := Tryd.func94.trans (congrArg some (by kernel_rfl))
  f319 := Tryd.func95.trans (congrArg some (by kernel_rfl))
  f320 := Tryd.func96.trans (congrArg some (by kernel_rfl))
  f337 := Tryd.func98.trans (congrArg some (by kernel_rfl))
  f338 := Tryd.func99.trans (congrArg some (by kernel_rfl))
  t0 := Tryd.underlying0
  a0 := Tryd.isAgg0
  z0 := Tryd.sizeOf0
  v0 := Tryd.zeroValue0
  t2 := Tryd.underlying2
  a2 := Tryd.isAgg2
  z2 := Tryd.sizeOf2
  v2 := Tryd.zeroValue2
  t3 := Tryd.underlying3
  a3 := Tryd.isAgg3
  z3 := Tryd.sizeOf3
  v3 := Tryd.zeroValue3
  t4 := Tryd.underlying4
  a4 := Tryd.isAgg4
  z4 := Tryd.sizeOf4
  v4 := Tryd.zeroValue4
  t5 := Tryd.underlying5
  a5 := Tryd.isAgg5
  z5 := Tryd.sizeOf5
  v5 := Tryd.zeroValue5
  t9 := Tryd.underlying9
  a9 := Tryd.isAgg9
  z9 := Tryd.sizeOf9
  v9 := Tryd.zeroValue9
  t20 := Tryd.underlying20
  a20 := Tryd.isAgg20
  z20 := Tryd.sizeOf20
  v20 := Tryd.zeroValue20
  t37 := Tryd.underlying64
  a37 := Tryd.isAgg64
  z37 := Tryd.sizeOf64
  v37 := Tryd.zeroValue64
  t46 := Tryd.underlying82
  a46 := Tryd.isAgg82
  z46 := Tryd.sizeOf82
  v46 := Tryd.zeroValue82
  t51 := Tryd.underlying89
  a51 := Tryd.isAgg89
  z51 := Tryd.sizeOf89
  v51 := Tryd.zeroValue89
  t53 := Tryd.underlying72
  a53 := Tryd.isAgg72
  z53 := Tryd.sizeOf72
  v53 := Tryd.zeroValue72
  t171 := Tryd.underlying95
  a171 := Tryd.isAgg95
  z171 := Tryd.sizeOf95
  v171 := Tryd.zeroValue95
  t173 := Tryd.underlying98
  a173 := Tryd.isAgg98
  z173 := Tryd.sizeOf98
  v173 := Tryd.zeroValue98
  t212 := Tryd.underlying108
  a212 := Tryd.isAgg108
  z212 := Tryd.sizeOf108
  v212 := Tryd.zeroValue108
  t213 := Tryd.underlying109
  a213 := Tryd.isAgg109
  z213 := Tryd.sizeOf109
  t232 := Tryd.underlying119
  a232 := Tryd.isAgg119
  z232 := Tryd.sizeOf119
  v232 := Tryd.zeroValue119
  t233 := Tryd.underlying120
  a233 := Tryd.isAgg120
  z233 := Tryd.sizeOf120
  v233 := Tryd.zeroValue120
  g17 := by kernel_rfl
  g18 := by kernel_rfl
  g19 := by kernel_rfl
  i0 := by kernel_rfl
  i2 := by kernel_rfl
  i3 := by kernel_rfl
  i4 := by kernel_rfl
  i5 := by kernel_rfl
  i9 := by kernel_rfl
  i20 := by kernel_rfl
  i37 := by kernel_rfl
  i46 := by kernel_rfl
  i51 := by kernel_rfl
  i53 := by kernel_rfl
  i171 := by kernel_rfl
  i173 := by kernel_rfl
  i212 := by kernel_rfl
  i232 := by kernel_rfl
  i233 := by kernel_rfl
  m17 := by kernel_rfl
  m18 := by kernel_rfl
  m19 := by kernel_rfl }
theorem Tryd.strconv_Itoa (n : Int) (h0 : -9223372036854775808 ≤ n) (h1 : n ≤ 9223372036854775807) (w : World) (htab : Lib.TabIs Tryd.prog w "internal/strconv.uint64pow10" .u64 Lib.pow10Tab) :
    Calls Tryd.prog 48 #[.int .i64 n] w fun e w' => e = .returned (.string ⟨(Lib.itoa n).toArray⟩) ∧ ∃ k os, w' = grow (w.drewN k) os := Any.strconv_Itoa Tryd.laysM171 n h0 h1 w htab
def Tryd.laysPu14_ren : Go.Shelf.Ren := ⟨fun | 14 => 58 | 16 => 65 | 17 => 66 | 19 => 76 | 20 => 77 | 21 => 78 | 22 => 79 | 23 => 80 | 24 => 81 | 25 => 55 | 27 => 48 | 26 => 91 | 28 => 59 | 29 => 67 | 30 => 82 | 31 => 83 | 32 => 84 | 33 => 85 | 35 => 93 | 34 => 92 | 36 => 94 | 37 => 95 | 38 => 96 | 39 => 98 | 40 => 99 | n => n, fun | 9 => 9 | 3 => 3 | 22 => 72 | 24 => 74 | 25 => 75 | 4 => 4 | 34 => 90 | 5 => 5 | 36 => 82 | 37 => 64 | 0 => 0 | 39 => 92 | 21 => 21 | 44 => 105 | 47 => 83 | 50 => 113 | 48 => 111 | 2 => 2 | 52 => 95 | 55 => 98 | 59 => 108 | 60 => 89 | 20 => 20 | 61 => 109 | 65 => 119 | 66 => 120 | 67 => 121 | n => n, fun | 0 => 1 | 1 => 2 | 2 => 3 | 3 => 6 | 4 => 7 | n => n⟩
theorem Tryd.laysPu14 : Go.Proofs.LaysPu.n14 Tryd.prog Tryd.laysPu14_ren := {
  mixed := by kernel_rfl
  f14 := Tryd.func58.trans (congrArg some (by kernel_rfl))
  f16 := Tryd.func65.trans (congrArg some (by kernel_rfl))
  f17 := Tryd.func66.trans (congrArg some (by kernel_rfl))
  f19 := Tryd.func76.trans (congrArg some (by kernel_rfl))
  f20 := Tryd.func77.trans (congrArg some (by kernel_rfl))
  f21 := Tryd.func78.trans (congrArg some (by kernel_rfl))
  f22 := Tryd.func79.trans (congrArg some (by kernel_rfl))
  f23 := Tryd.func80.trans (congrArg some (by kernel_rfl))
  f24 := Tryd.func81.trans (congrArg some (by kernel_rfl))
  f25 := Tryd.func55.trans (congrArg some (by kernel_rfl))
  f26 := Tryd.func91.trans (congrArg some (by kernel_rfl))
  f27 := Tryd.func48.trans (congrArg some (by kernel_rfl))
  f28 := Tryd.func59.trans (congrArg some (by kernel_rfl))
  f29 := Tryd.func67.trans (congrArg some (by kernel_rfl))
  f30 := Tryd.func82.trans (congrArg some (by kernel_rfl))
  f31 := Tryd.func83.trans (congrArg some (by kernel_rfl))
  f32 := Tryd.func84.trans (congrArg some (by kernel_rfl))
  f33 := Tryd.func85.trans (congrArg some (by kernel_rfl))
  f34 := Tryd.func92.trans (congrArg some (by kernel_rfl))
  f35 := Tryd.func93.trans (congrArg some (by kernel_rfl))
  f36 := Tryd.func94.trans (congrArg some (by kernel_rfl))
  f37 := Tryd.func95.trans (congrArg some (by kernel_rfl))
  f38 := Tryd.func96.trans (congrArg some (by kernel_rfl))
  f39 := Tryd.func98.trans (congrArg some (by kernel_rfl))
  f40 := Tryd.func99.trans (congrArg some (by kernel_rfl))
  t0 := Tryd.underlying0
  a0 := Tryd.isAgg0
  z0 := Tryd.sizeOf0
  v0 := Tryd.zeroValue0
  i0 := by kernel_rfl
  t2 := Tryd.underlying2
  a2 := Tryd.isAgg2
  z2 := Tryd.sizeOf2
  v2 := Tryd.zeroValue2
  i2 := by kernel_rfl
  t3 := Tryd.underlying3
  a3 := Tryd.isAgg3
  z3 := Tryd.sizeOf3
  v3 := Tryd.zeroValue3
  i3 := by kernel_rfl
  t4 := Tryd.underlying4
  a4 := Tryd.isAgg4
  z4 := Tryd.sizeOf4
  v4 := Tryd.zeroValue4
  i4 := by kernel_rfl
  t5 := Tryd.underlying5
  a5 := Tryd.isAgg5
  z5 := Tryd.sizeOf5
  v5 := Tryd.zeroValue5
  i5 := by kernel_rfl
  t9 := Tryd.underlying9
  a9 := Tryd.isAgg9
  z9 := Tryd.sizeOf9
  v9 := Tryd.zeroValue9
  i9 := by kernel_rfl
  t20 := Tryd.underlying20
  a20 := Tryd.isAgg20
  z20 := Tryd.sizeOf20
  v20 := Tryd.zeroValue20
  i20 := by kernel_rfl
  t21 := Tryd.underlying21
  a21 := Tryd.isAgg21
  z21 := Tryd.sizeOf21
  v21 := Tryd.zeroValue21
  i21 := by kernel_rfl
  t22 := Tryd.underlying72
  a22 := Tryd.isAgg72
  z22 := Tryd.sizeOf72
  v22 := Tryd.zeroValue72
  i22 := by kernel_rfl
  t24 := Tryd.underlying74
  a24 := Tryd.isAgg74
  z24 := Tryd.sizeOf74
  v24 := Tryd.zeroValue74
  i24 := by kernel_rfl
  t25 := Tryd.underlying75
  a25 := Tryd.isAgg75
  z25 := Tryd.sizeOf75
  v25 := Tryd.zeroValue75
  i25 := by kernel_rfl
  t34 := Tryd.underlying90
  a34 := Tryd.isAgg90
  z34 := Tryd.sizeOf90
  v34 := Tryd.zeroValue90
  i34 := by kernel_rfl
  c34 := by kernel_rfl
  t36 := Tryd.underlying82
  a36 := Tryd.isAgg82
  z36 := Tryd.sizeOf82
  v36 := Tryd.zeroValue82
  i36 := by kernel_rfl
  t37 := Tryd.underlying64
  a37 := Tryd.isAgg64
  z37 := Tryd.sizeOf64
  v37 := Tryd.zeroValue64
  i37 := by kernel_rfl
  t39 := Tryd.underlying92
  a39 := Tryd.isAgg92
  z39 := Tryd.sizeOf92
  v39 := Tryd.zeroValue92
  i39 := by kernel_rfl
  t44 := Tryd.underlying105
  a44 := Tryd.isAgg105
  z44 := Tryd.sizeOf105
  v44 := Tryd.zeroValue105
  i44 := by kernel_rfl
  t47 := Tryd.underlying83
  a47 := Tryd.isAgg83
  z47 := Tryd.sizeOf83
  v47 := Tryd.zeroValue83
  i47 := by kernel_rfl
  t48 := Tryd.underlying111
  a48 := Tryd.isAgg111
  z48 := Tryd.sizeOf111
  v48 := Tryd.zeroValue111
  i48 := by kernel_rfl
  t50 := Tryd.underlying113
  a50 := Tryd.isAgg113
  z50 := Tryd.sizeOf113
  v50 := Tryd.zeroValue113
  i50 := by kernel_rfl
  t52 := Tryd.underlying95
  a52 := Tryd.isAgg95
  z52 := Tryd.sizeOf95
  v52 := Tryd.zeroValue95
  i52 := by kernel_rfl
  t55 := Tryd.underlying98
  a55 := Tryd.isAgg98
  z55 := Tryd.sizeOf98
  v55 := Tryd.zeroValue98
  i55 := by kernel_rfl
  t59 := Tryd.underlying108
  a59 := Tryd.isAgg108
  z59 := Tryd.sizeOf108
  v59 := Tryd.zeroValue108
  i59 := by kernel_rfl
  t60 := Tryd.underlying89
  a60 := Tryd.isAgg89
  z60 := Tryd.sizeOf89
  v60 := Tryd.zeroValue89
  i60 := by kernel_rfl
  t61 := Tryd.underlying109
  a61 := Tryd.isAgg109
  z61 := Tryd.sizeOf109
  t65 := Tryd.underlying119
  a65 := Tryd.isAgg119
  z65 := Tryd.sizeOf119
  v65 := Tryd.zeroValue119
  i65 := by kernel_rfl
  t66 := Tryd.underlying120
  a66 := Tryd.isAgg120
  z66 := Tryd.sizeOf120
  v66 := Tryd.zeroValue120
  i66 := by kernel_rfl
  t67 := Tryd.underlying121
  a67 := Tryd.isAgg121
  z67 := Tryd.sizeOf121
  v67 := Tryd.zeroValue121
  i67 := by kernel_rfl
  g0 := by kernel_rfl
  m0 := by kernel_rfl
  g1 := by kernel_rfl
  m1 := by kernel_rfl
  g2 := by kernel_rfl
  m2 := by kernel_rfl
  g3 := by kernel_rfl
  m3 := by kernel_rfl
  g4 := by kernel_rfl
  m4 := by kernel_rfl }
theorem Tryd.strconv_ParseUint_10_at16_ok (s : ByteArray) (hmax : s.size ≤ 9223372036854775806) (u : Nat) (h : Lib.parseUintB 16 s.data.toList = .ok u) (w : World) :
    Calls Tryd.prog 58 #[.string s, .int .i64 10, .int .i64 16] w fun e w' => e = .returned (.tuple #[.int .u64 u, .nilIface]) ∧ (w' = w ∨ w' = Lib.bytesWorld w 5 s) := Any.strconv_ParseUint_10_at16_ok Tryd.laysPu14 s hmax u h w
theorem Tryd.strconv_ParseUint_10_at16_syntax (s : ByteArray) (hlim : s.size ≤ 281474976710656) (h : Lib.parseUintB 16 s.data.toList = .«syntax») (ev : Value) (w : World) (hv : w.cell? ⟨1, 0, none⟩ = some ev) (hev : ev = .nilIface ∨ ∃ te pe, ev = .iface te pe) :
    Calls Tryd.prog 58 #[.string s, .int .i64 10, .int .i64 16] w fun e w' => ∃ N, e = .returned (.tuple #[.int .u64 0, .iface 92 (.pointer (some ⟨N, 0, none⟩))]) ∧ w.heap.size ≤ N ∧ w'.heap[N]? = some (.cells #[.string ⟨#[80, 97, 114, 115, 101, 85, 105, 110, 116]⟩, .string s, ev] 105 (0, 0)) ∧ Below w.heap.size w w' := Any.strconv_ParseUint_10_at16_syntax Tryd.laysPu14 s hlim h ev w hv hev
theorem Tryd.strconv_ParseUint_10_at16_range (s : ByteArray) (hlim : s.size ≤ 281474976710656) (h : Lib.parseUintB 16 s.data.toList = .range) (ev : Value) (w : World) (hv : w.cell? ⟨2, 0, none⟩ = some ev) (hev : ev = .nilIface ∨ ∃ te pe, ev = .iface te pe) :
    Calls Tryd.prog 58 #[.string s, .int .i64 10, .int .i64 16] w fun e w' => ∃ N, e = .returned (.tuple #[.int .u64 65535, .iface 92 (.pointer (some ⟨N, 0, none⟩))]) ∧ w.heap.size ≤ N ∧ w'.heap[N]? = some (.cells #[.string ⟨#[80, 97, 114, 115, 101, 85, 105, 110, 116]⟩, .string s, ev] 105 (0, 0)) ∧ Below w.heap.size w w' := Any.strconv_ParseUint_10_at16_range Tryd.laysPu14 s hlim h ev w hv hev
def Tryd.lays145_ren : Go.Shelf.Ren := ⟨fun | 145 => 31 | 220 => 49 | 219 => 60 | 217 => 68 | 225 => 69 | 224 => 70 | 267 => 71 | 266 => 86 | 314 => 87 | n => n, fun | 9 => 9 | 4 => 4 | 59 => 56 | 3 => 3 | 5 => 5 | 46 => 82 | 146 => 100 | 51 => 89 | n => n, fun | 1 => 0 | n => n⟩
theorem Tryd.lays145 : Go.Proofs.Lays.n145 Tryd.prog Tryd.lays145_ren := {
  mixed := by kernel_rfl
  f145 := Tryd.func31.trans (congrArg some (by kernel_rfl))
  f217 := Tryd.func68.trans (congrArg some (by kernel_rfl))
  f219 := Tryd.func60.trans (congrArg some (by kernel_rfl))
  f220 := Tryd.func49.trans (congrArg some (by kernel_rfl))
  f224 := Tryd.func70.trans (congrArg some (by kernel_rfl))
  f225 := Tryd.func69.trans (congrArg some (by kernel_rfl))
  f266 := Tryd.func86.trans (congrArg some (by kernel_rfl))
  f267 := Tryd.func71.trans (congrArg some (by kernel_rfl))
  f314 := Tryd.func87.trans (congrArg some (by kernel_rfl))
  t3 := Tryd.underlying3
  a3 := Tryd.isAgg3
  z3 := Tryd.sizeOf3
  v3 := Tryd.zeroValue3
  t4 := Tryd.underlying4
  a4 := Tryd.isAgg4
  z4 := Tryd.sizeOf4
  v4 := Tryd.zeroValue4
  t5 := Tryd.underlying5
  a5 := Tryd.isAgg5
  z5 := Tryd.sizeOf5
  v5 := Tryd.zeroValue5
  t9 := Tryd.underlying9
  a9 := Tryd.isAgg9
  z9 := Tryd.sizeOf9
  v9 := Tryd.zeroValue9
  t46 := Tryd.underlying82
  a46 := Tryd.isAgg82
  z46 := Tryd.sizeOf82
  v46 := Tryd.zeroValue82
  t51 := Tryd.underlying89
  a51 := Tryd.isAgg89
  z51 := Tryd.sizeOf89
  v51 := Tryd.zeroValue89
  t59 := Tryd.underlying56
  a59 := Tryd.isAgg56
  z59 := Tryd.sizeOf56
  v59 := Tryd.zeroValue56
  t146 := Tryd.underlying100
  a146 := Tryd.isAgg100
  z146 := Tryd.sizeOf100
  v146 := Tryd.zeroValue100
  g1 := by kernel_rfl }
theorem Tryd.strings_Cut (s sep : ByteArray) (m : Int) (w : World) (hs : s.size < 4294967281) (hm : w.cell? ⟨0, 0, none⟩ = some (.int .i64 m)) :
    Calls Tryd.prog 31 #[.string s, .string sep] w fun e w' => e = .returned (.tuple #[.string ⟨(Lib.cut s.data.toList sep.data.toList).1.toArray⟩, .string ⟨(Lib.cut s.data.toList sep.data.toList).2.1.toArray⟩, .bool (Lib.cut s.data.toList sep.data.toList).2.2]) ∧ ∃ n, w' = w.drewN n := Any.strings_Cut Tryd.lays145 s sep m w hs hm
def Tryd.laysM145_ren : Go.Shelf.Ren := ⟨fun | 145 => 31 | 220 => 49 | 219 => 60 | 217 => 68 | 225 => 69 | 224 => 70 | 267 => 71 | 266 => 86 | 314 => 87 | n => n, fun | 9 => 9 | 4 => 4 | 59 => 56 | 3 => 3 | 5 => 5 | 46 => 82 | 146 => 100 | 51 => 89 | n => n, fun | 1 => 0 | n => n⟩
theorem Tryd.laysM145 : Go.Proofs.LaysM.n145 Tryd.prog Tryd.laysM145_ren := {
  mixed := by kernel_rfl
  f145 := Tryd.func31.trans (congrArg some (by kernel_rfl))
  f217 := Tryd.func68.trans (congrArg some (by kernel_rfl))
  f219 := Tryd.func60.trans (congrArg some (by kernel_rfl))
  f220 := Tryd.func49.trans (congrArg some (by kernel_rfl))
  f224 := Tryd.func70.trans (congrArg some (by kernel_rfl))
  f225 := Tryd.func69.trans (congrArg some (by kernel_rfl))
  f266 := Tryd.func86.trans (congrArg some (by kernel_rfl))
  f267 := Tryd.func71.trans (congrArg some (by kernel_rfl))
  f314 := Tryd.func87.trans (congrArg some (by kernel_rfl))
  t3 := Tryd.underlying3
  a3 := Tryd.isAgg3
  z3 := Tryd.sizeOf3
  v3 := Tryd.zeroValue3
  t4 := Tryd.underlying4
  a4 := Tryd.isAgg4
  z4 := Tryd.sizeOf4
  v4 := Tryd.zeroValue4
  t5 := Tryd.underlying5
  a5 := Tryd.isAgg5
  z5 := Tryd.sizeOf5
  v5 := Tryd.zeroValue5
  t9 := Tryd.underlying9
  a9 := Tryd.isAgg9
  z9 := Tryd.sizeOf9
  v9 := Tryd.zeroValue9
  t46 := Tryd.underlying82
  a46 := Tryd.isAgg82
  z46 := Tryd.sizeOf82
  v46 := Tryd.zeroValue82
  t51 := Tryd.underlying89
  a51 := Tryd.isAgg89
  z51 := Tryd.sizeOf89
  v51 := Tryd.zeroValue89
  t59 := Tryd.underlying56
  a59 := Tryd.isAgg56
  z59 := Tryd.sizeOf56
  v59 := Tryd.zeroValue56
  t146 := Tryd.underlying100
  a146 := Tryd.isAgg100
  z146 := Tryd.sizeOf100
  v146 := Tryd.zeroValue100
  g1 := by kernel_rfl
  i3 := by kernel_rfl
  i4 := by kernel_rfl
  i5 := by kernel_rfl
  i9 := by kernel_rfl
  i46 := by kernel_rfl
  i51 := by kernel_rfl
  i59 := by kernel_rfl
  i146 := by kernel_rfl
  m1 := by kernel_rfl
  s1_3 := fun w h => Go.Proofs.cell_of_shapedOpen_int (zero := #[.int .i64 0]) (t := 3) h (of_decide_eq_true (by kernel_rfl)) (by kernel_rfl) rfl (by kernel_rfl) (by kernel_rfl) Tryd.underlying3 }
theorem Tryd.strings_Cut_shaped (s sep : ByteArray) (w : World) (h : w.ShapedOpen Tryd.prog) (hs : s.size < 4294967281) :
    Calls Tryd.prog 31 #[.string s, .string sep] w fun e w' => e = .returned (.tuple #[.string ⟨(Lib.cut s.data.toList sep.data.toList).1.toArray⟩, .string ⟨(Lib.cut s.data.toList sep.data.toList).2.1.toArray⟩, .bool (Lib.cut s.data.toList sep.data.toList).2.2]) ∧ ∃ n, w' = w.drewN n := Any.strings_Cut_shaped Tryd.laysM145 s sep w h hs
def Tryd.lays100_ren : Go.Shelf.Ren := ⟨fun | 100 => 44 | 207 => 56 | n => n, fun | 9 => 9 | 4 => 4 | 3 => 3 | n => n, fun | n => n⟩
theorem Tryd.lays100 : Go.Proofs.Lays.n100 Tryd.prog Tryd.lays100_ren := {
  mixed := by kernel_rfl
  f100 := Tryd.func44.trans (congrArg some (by kernel_rfl))
  f207 := Tryd.func56.trans (congrArg some (by kernel_rfl))
  t3 := Tryd.underlying3
  a3 := Tryd.isAgg3
  z3 := Tryd.sizeOf3
  v3 := Tryd.zeroValue3
  t4 := Tryd.underlying4
  a4 := Tryd.isAgg4
  z4 := Tryd.sizeOf4
  v4 := Tryd.zeroValue4
  t9 := Tryd.underlying9
  a9 := Tryd.isAgg9
  z9 := Tryd.sizeOf9
  v9 := Tryd.zeroValue9 }
theorem Tryd.strings_HasSuffix (s p : ByteArray) (w : World) (hs : s.size ≤ 9223372036854775807) :
    Calls Tryd.prog 44 #[.string s, .string p] w fun e w' => e = .returned (.bool (Lib.hasSuffix s.data.toList p.data.toList)) ∧ w' = w := Any.strings_HasSuffix Tryd.lays100 s p w hs
def Tryd.lays102_ren : Go.Shelf.Ren := ⟨fun | 102 => 22 | 209 => 40 | 207 => 56 | n => n, fun | 9 => 9 | 4 => 4 | 3 => 3 | n => n, fun | n => n⟩
theorem Tryd.lays102 : Go.Proofs.Lays.n102 Tryd.prog Tryd.lays102_ren := {
  mixed := by kernel_rfl
  f102 := Tryd.func22.trans (congrArg some (by kernel_rfl))
  f207 := Tryd.func56.trans (congrArg some (by kernel_rfl))
  f209 := Tryd.func40.trans (congrArg some (by kernel_rfl))
  t3 := Tryd.underlying3
  a3 := Tryd.isAgg3
  z3 := Tryd.sizeOf3
  v3 := Tryd.zeroValue3
  t4 := Tryd.underlying4
  a4 := Tryd.isAgg4
  z4 := Tryd.sizeOf4
  v4 := Tryd.zeroValue4
  t9 := Tryd.underlying9
  a9 := Tryd.isAgg9
  z9 := Tryd.sizeOf9
  v9 := Tryd.zeroValue9 }
theorem Tryd.strings_TrimSuffix (s p : ByteArray) (w : World) (hs : s.size ≤ 9223372036854775807) :
    Calls Tryd.prog 22 #[.string s, .string p] w fun e w' => e = .returned (.string ⟨(Lib.trimSuffix s.data.toList p.data.toList).toArray⟩) ∧ w' = w := Any.strings_TrimSuffix Tryd.lays102 s p w hs
def Tryd.lays146_ren : Go.Shelf.Ren := ⟨fun | 146 => 50 | 221 => 61 | 268 => 72 | 138 => 73 | 143 => 74 | 195 => 88 | 197 => 89 | 218 => 90 | 219 => 60 | 260 => 97 | 217 => 68 | 225 => 69 | 224 => 70 | 267 => 71 | 266 => 86 | 314 => 87 | n => n, fun | 9 => 9 | 31 => 30 | 3 => 3 | 4 => 4 | 0 => 0 | 105 => 102 | 21 => 21 | 5 => 5 | 46 => 82 | 119 => 115 | 139 => 118 | 138 => 117 | 146 => 100 | 51 => 89 | n => n, fun | 1 => 0 | 3 => 4 | 4 => 5 | n => n⟩
theorem Tryd.lays146 : Go.Proofs.Lays.n146 Tryd.prog Tryd.lays146_ren := {
  mixed := by kernel_rfl
  f138 := Tryd.func73.trans (congrArg some (by kernel_rfl))
  f143 := Tryd.func74.trans (congrArg some (by kernel_rfl))
  f146 := Tryd.func50.trans (congrArg some (by kernel_rfl))
  f195 := Tryd.func88.trans (congrArg some (by kernel_rfl))
  f197 := Tryd.func89.trans (congrArg some (by kernel_rfl))
  f217 := Tryd.func68.trans (congrArg some (by kernel_rfl))
  f218 := Tryd.func90.trans (congrArg some (by kernel_rfl))
  f219 := Tryd.func60.trans (congrArg some (by kernel_rfl))
  f221 := Tryd.func61.trans (congrArg some (by kernel_rfl))
  f224 := Tryd.func70.trans (congrArg some (by kernel_rfl))
  f225 := Tryd.func69.trans (congrArg some (by kernel_rfl))
  f260 := Tryd.func97.trans (congrArg some (by kernel_rfl))
  f266 := Tryd.func86.trans (congrArg some (by kernel_rfl))
  f267 := Tryd.func71.trans (congrArg some (by kernel_rfl))
  f268 := Tryd.func72.trans (congrArg some (by kernel_rfl))
  f314 := Tryd.func87.trans (congrArg some (by kernel_rfl))
  t0 := Tryd.underlying0
  a0 := Tryd.isAgg0
  z0 := Tryd.sizeOf0
  v0 := Tryd.zeroValue0
  t3 := Tryd.underlying3
  a3 := Tryd.isAgg3
  z3 := Tryd.sizeOf3
  v3 := Tryd.zeroValue3
  t4 := Tryd.underlying4
  a4 := Tryd.isAgg4
  z4 := Tryd.sizeOf4
  v4 := Tryd.zeroValue4
  t5 := Tryd.underlying5
  a5 := Tryd.isAgg5
  z5 := Tryd.sizeOf5
  v5 := Tryd.zeroValue5
  t9 := Tryd.underlying9
  a9 := Tryd.isAgg9
  z9 := Tryd.sizeOf9
  v9 := Tryd.zeroValue9
  t21 := Tryd.underlying21
  a21 := Tryd.isAgg21
  z21 := Tryd.sizeOf21
  v21 := Tryd.zeroValue21
  t31 := Tryd.underlying30
  a31 := Tryd.isAgg30
  z31 := Tryd.sizeOf30
  v31 := Tryd.zeroValue30
  t46 := Tryd.underlying82
  a46 := Tryd.isAgg82
  z46 := Tryd.sizeOf82
  v46 := Tryd.zeroValue82
  t51 := Tryd.underlying89
  a51 := Tryd.isAgg89
  z51 := Tryd.sizeOf89
  v51 := Tryd.zeroValue89
  t105 := Tryd.underlying102
  a105 := Tryd.isAgg102
  z105 := Tryd.sizeOf102
  v105 := Tryd.zeroValue102
  t119 := Tryd.underlying115
  a119 := Tryd.isAgg115
  z119 := Tryd.sizeOf115
  t138 := Tryd.underlying117
  a138 := Tryd.isAgg117
  z138 := Tryd.sizeOf117
  v138 := Tryd.zeroValue117
  t139 := Tryd.underlying118
  a139 := Tryd.isAgg118
  z139 := Tryd.sizeOf118
  v139 := Tryd.zeroValue118
  t146 := Tryd.underlying100
  a146 := Tryd.isAgg100
  z146 := Tryd.sizeOf100
  v146 := Tryd.zeroValue100
  g1 := by kernel_rfl
  g3 := by kernel_rfl
  g4 := by kernel_rfl }
theorem Tryd.strings_Split (s sep : ByteArray) (m : Int) (w : World) (hs : s.size < 4294967281) (hm : w.cell? ⟨0, 0, none⟩ = some (.int .i64 m)) (h1 : 1 ≤ sep.size) :
    Calls Tryd.prog 50 #[.string s, .string sep] w fun e w' =>
      e = .returned (.slice (some ⟨w.heap.size, 0, none⟩) (Lib.countB s sep + 1) (Lib.countB s sep + 1)) ∧ w' = w.alloc (.cells ((Lib.splitB sep 0 (Lib.countB s sep) s).map Value.string).toArray 9) := Any.strings_Split Tryd.lays146 (by kernel_rfl) s sep m w hs hm h1
def Tryd.lays229_ren : Go.Shelf.Ren := ⟨fun | 229 => 46 | n => n, fun | 9 => 9 | 40 => 68 | 31 => 30 | 152 => 77 | 3 => 3 | 0 => 0 | 4 => 4 | 21 => 21 | 154 => 79 | n => n, fun | n => n⟩
theorem Tryd.lays229 : Go.Proofs.Lays.n229 Tryd.prog Tryd.lays229_ren := {
  mixed := by kernel_rfl
  f229 := Tryd.func46.trans (congrArg some (by kernel_rfl))
  t0 := Tryd.underlying0
  a0 := Tryd.isAgg0
  z0 := Tryd.sizeOf0
  v0 := Tryd.zeroValue0
  t3 := Tryd.underlying3
  a3 := Tryd.isAgg3
  z3 := Tryd.sizeOf3
  v3 := Tryd.zeroValue3
  t4 := Tryd.underlying4
  a4 := Tryd.isAgg4
  z4 := Tryd.sizeOf4
  v4 := Tryd.zeroValue4
  t9 := Tryd.underlying9
  a9 := Tryd.isAgg9
  z9 := Tryd.sizeOf9
  v9 := Tryd.zeroValue9
  t21 := Tryd.underlying21
  a21 := Tryd.isAgg21
  z21 := Tryd.sizeOf21
  v21 := Tryd.zeroValue21
  t31 := Tryd.underlying30
  a31 := Tryd.isAgg30
  z31 := Tryd.sizeOf30
  v31 := Tryd.zeroValue30
  t40 := Tryd.underlying68
  a40 := Tryd.isAgg68
  z40 := Tryd.sizeOf68
  v40 := Tryd.zeroValue68
  t152 := Tryd.underlying77
  a152 := Tryd.isAgg77
  z152 := Tryd.sizeOf77
  v152 := Tryd.zeroValue77
  t154 := Tryd.underlying79
  a154 := Tryd.isAgg79
  z154 := Tryd.sizeOf79
  v154 := Tryd.zeroValue79 }
theorem Tryd.strings_FieldsFunc_runes (g : Nat) (lb : Array Value) (eg : ∀ args w, (callFunc g args).run Tryd.prog w = .ok (.enter g args) w) (p : Nat → Bool) (s : ByteArray) (w : World) (hs : s.size ≤ 4294967296) (hp : PredAtRunes Tryd.prog g lb p w) :
    Calls Tryd.prog 46 #[.string s, .func (.func g) #[] lb] w fun e w' => ∃ A, e = .returned (.slice (some ⟨A, 0, none⟩) (Lib.goFieldsP p s).length (Lib.goFieldsP p s).length) ∧ w.heap.size ≤ A ∧
      w'.ownsRow w.heap.size 9 1 (.slice (some ⟨A, 0, none⟩) (Lib.goFieldsP p s).length (Lib.goFieldsP p s).length) (Lib.goFieldsP p s).length ((Lib.goFieldsP p s).map Value.string) ∧ Below w.heap.size w w' := Any.strings_FieldsFunc_runes Tryd.lays229 g lb eg p s w hs hp (by kernel_rfl) (by kernel_rfl)
end Go.Proofs
/-
  What package-level variables of the library's hold ahead of a call (the seat's Shelf names them).
-/
namespace Go.Proofs.YtfgaikacijdodaaDoor
set_option linter.unusedVariables false
set_option linter.unusedSimpArgs false
set_option maxRecDepth 20000
open Go.RowKit

/-- What package-level variables of the library's hold ahead of the call: a number. -/
structure MostOk (w : World) : Prop where
  most : ∃ m, w.cell? ⟨Tryd.lays145_ren.g 1, 0, none⟩ = some (.int .i64 m)
theorem MostOk.on {w0 w : World} (h : MostOk w0) (hb : Below w0.heap.size w0 w) : MostOk w where
  most := by
    obtain ⟨m, hm⟩ := h.most
    have hlt := block_lt_of_cell hm
    exact ⟨m, by rw [hb.cell (p := ⟨Tryd.lays145_ren.g 1, 0, none⟩) hlt]; exact hm⟩
/-- .. and the powers of ten. -/
structure VarsOk (w : World) : Prop extends MostOk w where
  tens : Lib.TabIs Tryd.prog w "internal/strconv.uint64pow10" .u64 Lib.pow10Tab
  synt : ∃ ev, w.cell? ⟨1, 0, none⟩ = some ev ∧ (ev = .nilIface ∨ ∃ te pe, ev = .iface te pe)
  rang : ∃ ev, w.cell? ⟨2, 0, none⟩ = some ev ∧ (ev = .nilIface ∨ ∃ te pe, ev = .iface te pe)
theorem VarsOk.on {w0 w : World} (h : VarsOk w0) (hb : Below w0.heap.size w0 w) : VarsOk w where
  toMostOk := h.toMostOk.on hb
  tens := by
    have h := h.tens
    unfold Lib.TabIs World.var? at *
    cases hg : Tryd.prog.globalNamed "internal/strconv.uint64pow10" with
    | none => simp [hg] at h
    | some g =>
      simp only [hg, Option.bind_some] at h ⊢
      have hlt : g < w0.heap.size := by
        rcases Nat.lt_or_ge g w0.heap.size with h' | h'
        · exact h'
        · rw [Array.getElem?_eq_none h'] at h; simp at h
      rw [hb.block g hlt]
      exact h
  synt := by
    obtain ⟨ev, h1, h2⟩ := h.synt
    exact ⟨ev, by rw [hb.cell (p := ⟨1, 0, none⟩) (block_lt_of_cell h1)]; exact h1, h2⟩
  rang := by
    obtain ⟨ev, h1, h2⟩ := h.rang
    exact ⟨ev, by rw [hb.cell (p := ⟨2, 0, none⟩) (block_lt_of_cell h1)]; exact h1, h2⟩
end Go.Proofs.YtfgaikacijdodaaDoor
/-
  The library's calls (cuts, ends, words, ports) in the words of these texts: what package csp calls.
-/
namespace Go.Proofs.YtfgaikacijdodaaDoor
set_option linter.unusedVariables false
set_option linter.unusedSimpArgs false
set_option maxRecDepth 20000
open Go.RowKit

section
variable {w0 w : World} {R : Blks}
/-- A cut at whatever sign. -/
theorem ccut_c (hV : MostOk w0) (hO : Own w0 w R) (s : ByteArray) (hs : s.size ≤ 1073741824) (p : ByteArray) (hp : p.data.toList ≠ []) :
    Calls Tryd.prog 31 #[.string s, .string p] w fun e w' => e = .returned (.tuple #[.string (strOfNums (cutS (sb p) (sb s)).1), .string (strOfNums (cutS (sb p) (sb s)).2.1), .bool (cutS (sb p) (sb s)).2.2]) ∧ Own w0 w' R := by
  obtain ⟨m, hm⟩ := (hV.on hO.below).most
  refine (Tryd.strings_Cut s p m w (by omega) hm).mono fun e w' ⟨he, n, hw⟩ => ?_
  have h := cut_nb hp s.data.toList
  refine ⟨?_, hw ▸ hO.drewN n⟩
  rw [he, sb_nb s, sb_nb p]
  show Ending.returned (.tuple #[.string ⟨(Lib.cut s.data.toList p.data.toList).1.toArray⟩, .string ⟨(Lib.cut s.data.toList p.data.toList).2.1.toArray⟩, .bool (Lib.cut s.data.toList p.data.toList).2.2]) = _
  rw [nb_str (Lib.cut s.data.toList p.data.toList).1, nb_str (Lib.cut s.data.toList p.data.toList).2.1]
  rw [h.1, h.2.1, h.2.2]
/-- A cut at one sign: ahead, behind. -/
theorem ccut1_c (hV : MostOk w0) (hO : Own w0 w R) (s : ByteArray) (hs : s.size ≤ 1073741824) (c : UInt8) (k : Int) (hk : (c.toNat : Int) = k) :
    Calls Tryd.prog 31 #[.string s, .string ⟨#[c]⟩] w fun e w' => e = .returned (.tuple #[.string (strOfNums (ahead [k] (sb s))), .string (strOfNums ((behind [k] (sb s)).drop 1)), .bool (decide (behind [k] (sb s) ≠ []))]) ∧ Own w0 w' R := by
  obtain ⟨m, hm⟩ := (hV.on hO.below).most
  refine (Tryd.strings_Cut s ⟨#[c]⟩ m w (by omega) hm).mono fun e w' ⟨he, n, hw⟩ => ?_
  have h := cut_one c s.data.toList
  rw [hk] at h
  refine ⟨?_, hw ▸ hO.drewN n⟩
  rw [he, sb_nb s]
  show Ending.returned (.tuple #[.string ⟨(Lib.cut s.data.toList [c]).1.toArray⟩, .string ⟨(Lib.cut s.data.toList [c]).2.1.toArray⟩, .bool (Lib.cut s.data.toList [c]).2.2]) = _
  rw [nb_str (Lib.cut s.data.toList [c]).1, nb_str (Lib.cut s.data.toList [c]).2.1]
  rw [h.1, h.2.1, h.2.2]
/-- A prefix cut off. -/
theorem cpre_c (s p : ByteArray) :
    Calls Tryd.prog 41 #[.string s, .string p] w fun e w' => e = .returned (.tuple #[.string (strOfNums (trimP (sb p) (sb s))), .bool (begI (sb p) (sb s))]) ∧ w = w' := by
  refine (Tryd.strings_CutPrefix s p w).mono fun e w' ⟨he, hw⟩ => ⟨?_, hw.symm⟩
  have h1 : Lib.hasPrefix s.data.toList p.data.toList = begI (sb p) (sb s) := by rw [sb_nb, sb_nb, ← pre_begI]; rfl
  rw [he, nb_str, trim_pre, h1]
  rfl
theorem ctrims_c (s p : ByteArray) (hs : s.size ≤ 1073741824) :
    Calls Tryd.prog 22 #[.string s, .string p] w fun e w' => e = .returned (.string (strOfNums (trimS (sb p) (sb s)))) ∧ w = w' := by
  refine (Tryd.strings_TrimSuffix s p w (by omega)).mono fun e w' ⟨he, hw⟩ => ⟨?_, hw.symm⟩
  rw [he, nb_str, trim_suf]
  rfl
theorem csuf_c (s p : ByteArray) (hs : s.size ≤ 1073741824) :
    Calls Tryd.prog 44 #[.string s, .string p] w fun e w' => e = .returned (.bool (endI (sb p) (sb s))) ∧ w = w' := by
  refine (Tryd.strings_HasSuffix s p w (by omega)).mono fun e w' ⟨he, hw⟩ => ⟨?_, hw.symm⟩
  have h1 : Lib.hasSuffix s.data.toList p.data.toList = endI (sb p) (sb s) := by rw [sb_nb, sb_nb, ← suf_endI]; rfl
  rw [he, h1]
/-- The function that is handed to FieldsFunc. -/
theorem cblank_c (W : World) (x : Nat) : Calls Tryd.prog 47 #[.int .i32 x] W fun e w' => e = .returned (.bool (blankR x)) ∧ w' = W := by
  have t : ((x : Int) == 32) = blankR x := by
    unfold blankR
    rw [Bool.eq_iff_iff, beq_iff_eq, decide_eq_true_iff]
    omega
  generalize blankR x = b at *
  go_enter Tryd.func47, Tryd.ntmps47
  go_wp2
  go_ret
  exact ⟨rfl, rfl⟩
theorem cfields_c (hO : Own w0 w R) (s : ByteArray) (hs : s.size ≤ 1073741824) :
    Calls Tryd.prog 46 #[.string s, .func (.func 47) #[] #[]] w fun e w' => ∃ v L, e = .returned v ∧ IsStrs v ((wordsI (sb s)).map strOfNums) L ∧ Own w0 w' (L ++ R) := by
  have hp : PredAtRunes Tryd.prog 47 #[] blankR w := fun W x _ _ => (cblank_c W x).mono fun e w' ⟨he, hw⟩ => ⟨he, 0, by rw [hw]; rfl⟩
  refine (Tryd.strings_FieldsFunc_runes 47 #[] (enters_of Tryd.func47 (by kernel_rfl) rfl) blankR s w (by omega) hp).mono fun e w' ⟨A, he, hA, hrow, hb⟩ => ?_
  rw [fields_words, List.length_map] at he
  rw [fields_words, List.length_map] at hrow
  obtain ⟨L, hr, hL, h1⟩ := IsRow.of_owns hrow
  refine ⟨_, L, he, ?_, ?_⟩
  · refine IsStrs.cast (xs := (wordsI (sb s)).map strOfNums) ?_ rfl
    unfold IsStrs
    rw [List.length_map]
    exact hr
  · have hO' := hO.same hb
    refine ⟨hO'.below, fun g o hm => ?_, ?_⟩
    · rcases List.mem_append.1 hm with hm | hm
      · have := hL g o hm
        exact ⟨Nat.le_trans hO.below.size this.1, this.2.1⟩
      · exact hO'.at_ g o hm
    · rw [List.map_append, List.nodup_append]
      refine ⟨?_, hO'.nodup, ?_⟩
      · match L, h1 with
        | [], _ => exact List.nodup_nil
        | [x], _ => simp
      · intro a ha b hb' e
        obtain ⟨⟨g, o⟩, hm, rfl⟩ := List.mem_map.1 ha
        subst e
        obtain ⟨⟨g2, o2⟩, hm2, e2⟩ := List.mem_map.1 hb'
        have h3 := (hL g o hm).1
        have h4 := hO.lt hm2
        simp only at e2
        omega
/-- What ParseUint tells at sixteen bits. -/
theorem cuint_c (hV : VarsOk w0) (hO : Own w0 w R) (s : ByteArray) (hs : s.size ≤ 1073741824) :
    Calls Tryd.prog 58 #[.string s, .int .i64 10, .int .i64 16] w fun e w' => ∃ (n : Nat) (er : Value), e = .returned (.tuple #[.int .u64 n, er]) ∧
      ((er = .nilIface ∧ n ≤ 65535 ∧ Lib.parseUintB 16 s.data.toList = .ok n) ∨ ((∃ t v, er = .iface t v) ∧ ∀ u, Lib.parseUintB 16 s.data.toList ≠ .ok u)) ∧ Own w0 w' R := by
  have hV2 := hV.on hO.below
  cases h : Lib.parseUintB 16 s.data.toList with
  | ok u =>
    refine (Tryd.strconv_ParseUint_10_at16_ok s (by omega) u h w).mono fun e w' ⟨he, hw⟩ => ⟨u, .nilIface, he, .inl ⟨rfl, Lib.parseUintB_le h, rfl⟩, ?_⟩
    rcases hw with rfl | rfl
    · exact hO
    · exact hO.same (Lib.bytesWorld_below _ _ _)
  | «syntax» =>
    obtain ⟨ev, h1, h2⟩ := hV2.synt
    refine (Tryd.strconv_ParseUint_10_at16_syntax s (by omega) h ev w h1 h2).mono fun e w' ⟨N, he, _, _, hb⟩ => ⟨0, _, he, .inr ⟨⟨_, _, rfl⟩, fun u e => by cases e⟩, hO.same hb⟩
  | range =>
    obtain ⟨ev, h1, h2⟩ := hV2.rang
    refine (Tryd.strconv_ParseUint_10_at16_range s (by omega) h ev w h1 h2).mono fun e w' ⟨N, he, _, _, hb⟩ => ⟨65535, _, he, .inr ⟨⟨_, _, rfl⟩, fun u e => by cases e⟩, hO.same hb⟩
end
end Go.Proofs.YtfgaikacijdodaaDoor
/-
  Package-level variables; the library's calls (cuts, parts, digits) in the words of these texts.
-/
namespace Go.Proofs.YtfgaikacijdodaaDoor
set_option linter.unusedVariables false
set_option linter.unusedSimpArgs false
set_option maxRecDepth 20000
open Go.RowKit

section
variable {w0 w : World} {R : Blks}
/-- A cut at a byte. -/
theorem lcut_c (hV : VarsOk w0) (hO : Own w0 w R) (s : ByteArray) (hs : s.size ≤ 1073741824) (c : UInt8) (k : Int) (hk : (c.toNat : Int) = k) :
    Calls Tryd.prog 31 #[.string s, .string ⟨#[c]⟩] w fun e w' => e = .returned (.tuple #[.string (strOfNums (ahead [k] (sb s))), .string (strOfNums ((behind [k] (sb s)).drop 1)), .bool (decide (behind [k] (sb s) ≠ []))]) ∧ Own w0 w' R := by
  obtain ⟨m, hm⟩ := (hV.on hO.below).most
  refine (Tryd.strings_Cut s ⟨#[c]⟩ m w (by omega) hm).mono fun e w' ⟨he, n, hw⟩ => ?_
  have h := cut_one c s.data.toList
  rw [hk] at h
  refine ⟨?_, hw ▸ hO.drewN n⟩
  rw [he, sb_nb s]
  show Ending.returned (.tuple #[.string ⟨(Lib.cut s.data.toList [c]).1.toArray⟩, .string ⟨(Lib.cut s.data.toList [c]).2.1.toArray⟩, .bool (Lib.cut s.data.toList [c]).2.2]) = _
  rw [nb_str (Lib.cut s.data.toList [c]).1, nb_str (Lib.cut s.data.toList [c]).2.1]
  rw [h.1, h.2.1, h.2.2]
/-- A cut at the mark behind a scheme. -/
theorem lcut3_c (hV : VarsOk w0) (hO : Own w0 w R) (s : ByteArray) (hs : s.size ≤ 1073741824) :
    Calls Tryd.prog 31 #[.string s, .string ⟨#[58, 47, 47]⟩] w fun e w' => e = .returned (.tuple #[.string (strOfNums (cut3 (sb s)).1), .string (strOfNums (cut3 (sb s)).2), .bool (Lib.cut s.data.toList [58, 47, 47]).2.2]) ∧ Own w0 w' R := by
  obtain ⟨m, hm⟩ := (hV.on hO.below).most
  refine (Tryd.strings_Cut s ⟨#[58, 47, 47]⟩ m w (by omega) hm).mono fun e w' ⟨he, n, hw⟩ => ?_
  have h := cut_mark s.data.toList
  refine ⟨?_, hw ▸ hO.drewN n⟩
  rw [he, sb_nb s]
  show Ending.returned (.tuple #[.string ⟨(Lib.cut s.data.toList [58, 47, 47]).1.toArray⟩, .string ⟨(Lib.cut s.data.toList [58, 47, 47]).2.1.toArray⟩, .bool (Lib.cut s.data.toList [58, 47, 47]).2.2]) = _
  rw [nb_str (Lib.cut s.data.toList [58, 47, 47]).1, nb_str (Lib.cut s.data.toList [58, 47, 47]).2.1]
  rw [h.1, h.2]
/-- The parts between points. -/
theorem lsplit_c (hV : VarsOk w0) (hO : Own w0 w R) (s : ByteArray) (hs : s.size ≤ 1073741824) :
    Calls Tryd.prog 50 #[.string s, .string ⟨#[46]⟩] w fun e w' => ∃ v L, e = .returned v ∧ IsStrs v ((splI 46 (sb s)).map strOfNums) L ∧ Own w0 w' (L ++ R) := by
  obtain ⟨m, hm⟩ := (hV.on hO.below).most
  refine (Tryd.strings_Split s ⟨#[46]⟩ m w (by omega) hm (Nat.le_refl 1)).mono fun e w' ⟨he, hw⟩ => ?_
  have hl := splI_len 46 (sb s)
  rw [length_sb] at hl
  rw [countB_splI] at he
  rw [splitB_sb] at hw
  rw [show ((46 : UInt8).toNat : Int) = 46 from rfl] at he hw
  refine ⟨_, [(w.heap.size, .cells (sv ((splI 46 (sb s)).map strOfNums)).toArray 9)], he, ?_, ?_⟩
  · refine ⟨by simp, .inr ⟨w.heap.size, (splI 46 (sb s)).length, [], by rw [List.length_map], by rw [List.append_nil], by rw [List.append_nil]; simp, by simp, by unfold maxLen; omega⟩⟩
  · rw [hw]; exact hO.alloc _
/-- The digits of a number. -/
theorem litoa_c (hV : VarsOk w0) (hO : Own w0 w R) (n : Int) (h0 : 0 ≤ n) (h1 : n < 1000000000000000000) :
    Calls Tryd.prog 48 #[.int .i64 n] w fun e w' => e = .returned (.string (strOfNums (digs n.toNat))) ∧ Own w0 w' R := by
  have ht := (hV.on hO.below).tens
  refine (Tryd.strconv_Itoa n (by omega) (by omega) w ht).mono fun e w' ⟨he, k, os, hw⟩ => ?_
  obtain ⟨m, rfl⟩ : ∃ m : Nat, n = m := ⟨n.toNat, by omega⟩
  rw [itoa_digs m (by omega)] at he
  refine ⟨he, hO.same ?_⟩
  subst hw
  refine ⟨rfl, rfl, rfl, ?_, fun j hj => ?_⟩
  · show w.heap.size ≤ (w.heap ++ os).size
    rw [Array.size_append]; omega
  · show (w.heap ++ os)[j]? = w.heap[j]?
    rw [Array.getElem?_append_left hj]
end
end Go.Proofs.YtfgaikacijdodaaDoor
