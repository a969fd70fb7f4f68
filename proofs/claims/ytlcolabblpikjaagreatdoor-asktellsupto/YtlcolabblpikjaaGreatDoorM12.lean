/-
  Texts that the laws stand on: RepV, AskV, Url11, UrlM, UrlH, Url7, Url8, UrlV.
-/
import Derived.Test.YtlcolabblpikjaaGreatDoorM11
import Derived.Test.YtlcolabblpikjaaGreatDoorM3
import Derived.Test.YtlcolabblpikjaaGreatDoorM4
import Derived.Test.YtlcolabblpikjaaGreatDoorM7
import Derived.Lib.SplitLaws
import Derived.Lib.ItoaNum
import Derived.Test.YtlcolabblpikjaaGreatDoorM6

/-
  Package-level variables of the library's; its calls (cuts, trims, digits, builders) in the words of these texts: what package reply calls.
-/
namespace Go.Proofs.YtlcolabblpikjaaGreatDoor
set_option linter.unusedVariables false
set_option linter.unusedSimpArgs false
set_option maxRecDepth 20000
open Go.RowKit

section
variable {w0 w : World} {R : Blks}
/-- A cut at a byte. -/
theorem rcut_c (hV : MostOk w0) (hO : Own w0 w R) (s : ByteArray) (hs : s.size ≤ 1073741824) (c : UInt8) (k : Int) (hk : (c.toNat : Int) = k) :
    Calls Tryz.prog 50 #[.string s, .string ⟨#[c]⟩] w fun e w' => e = .returned (.tuple #[.string (strOfNums (ahead [k] (sb s))), .string (strOfNums ((behind [k] (sb s)).drop 1)), .bool (decide (behind [k] (sb s) ≠ []))]) ∧ Own w0 w' R := by
  obtain ⟨m, hm⟩ := (hV.on hO.below).most
  refine (Tryz.strings_Cut s ⟨#[c]⟩ m w (by omega) hm).mono fun e w' ⟨he, n, hw⟩ => ?_
  have h := cut_one c s.data.toList
  rw [hk] at h
  refine ⟨?_, hw ▸ hO.drewN n⟩
  rw [he, sb_nb s]
  show Ending.returned (.tuple #[.string ⟨(Lib.cut s.data.toList [c]).1.toArray⟩, .string ⟨(Lib.cut s.data.toList [c]).2.1.toArray⟩, .bool (Lib.cut s.data.toList [c]).2.2]) = _
  rw [nb_str (Lib.cut s.data.toList [c]).1, nb_str (Lib.cut s.data.toList [c]).2.1]
  rw [h.1, h.2.1, h.2.2]
/-- A cut at a line's end. -/
theorem rline_c (hV : MostOk w0) (hO : Own w0 w R) (s : ByteArray) (hs : s.size ≤ 1073741824) :
    Calls Tryz.prog 50 #[.string s, .string ⟨#[13, 10]⟩] w fun e w' => e = .returned (.tuple #[.string (strOfNums (cutL (sb s)).1), .string (strOfNums (cutL (sb s)).2.1), .bool (cutL (sb s)).2.2]) ∧ Own w0 w' R := by
  obtain ⟨m, hm⟩ := (hV.on hO.below).most
  refine (Tryz.strings_Cut s ⟨#[13, 10]⟩ m w (by omega) hm).mono fun e w' ⟨he, n, hw⟩ => ?_
  have h := cut_line s.data.toList
  refine ⟨?_, hw ▸ hO.drewN n⟩
  rw [he, sb_nb s]
  show Ending.returned (.tuple #[.string ⟨(Lib.cut s.data.toList [13, 10]).1.toArray⟩, .string ⟨(Lib.cut s.data.toList [13, 10]).2.1.toArray⟩, .bool (Lib.cut s.data.toList [13, 10]).2.2]) = _
  rw [nb_str (Lib.cut s.data.toList [13, 10]).1, nb_str (Lib.cut s.data.toList [13, 10]).2.1]
  rw [h.1, h.2.1, h.2.2]
/-- Blanks at both ends cut off. -/
theorem gtrim_c (hO : Own w0 w R) (s : ByteArray) (hs : s.size ≤ 1073741824) :
    Calls Tryz.prog 39 #[.string s, .string ⟨#[32]⟩] w fun e w' => e = .returned (.string (strOfNums (blanksI (sb s)))) ∧ Own w0 w' R := by
  refine (Tryz.strings_Trim_one s 32 (by decide) w (by omega)).mono fun e w' ⟨he, hw⟩ => ⟨?_, ?_⟩
  · rw [he, nb_str, trim_blanks]; rfl
  · rcases hw with rfl | rfl
    · exact hO
    · exact hO.drew
/-- The digits of a number. -/
theorem ritoa_c (hV : VarsOk w0) (hO : Own w0 w R) (n : Nat) (h1 : n < 1000000000000000000) :
    Calls Tryz.prog 22 #[.int .i64 (n : Int)] w fun e w' => e = .returned (.string (strOfNums (digs n))) ∧ Own w0 w' R := by
  have ht := (hV.on hO.below).tens
  refine (Tryz.strconv_Itoa (n : Int) (by omega) (by omega) w ht).mono fun e w' ⟨he, k, os, hw⟩ => ?_
  rw [itoa_digs n (by omega)] at he
  refine ⟨he, hO.same ?_⟩
  subst hw
  refine ⟨rfl, rfl, rfl, ?_, fun j hj => ?_⟩
  · show w.heap.size ≤ (w.heap ++ os).size
    rw [Array.size_append]; omega
  · show (w.heap ++ os)[j]? = w.heap[j]?
    rw [Array.getElem?_append_left hj]
end
end Go.Proofs.YtlcolabblpikjaaGreatDoor
/-
  The library's calls (cuts, lines, ends, copies) in the words of these texts: what package ask calls.
-/
namespace Go.Proofs.YtlcolabblpikjaaGreatDoor
set_option linter.unusedVariables false
set_option linter.unusedSimpArgs false
set_option maxRecDepth 20000
open Go.RowKit

section
variable {w0 w : World} {R : Blks}
/-- A cut at whatever sign. -/
theorem acut_c (hV : MostOk w0) (hO : Own w0 w R) (s : ByteArray) (hs : s.size ≤ 1073741824) (p : ByteArray) (hp : p.data.toList ≠ []) :
    Calls Tryz.prog 50 #[.string s, .string p] w fun e w' => e = .returned (.tuple #[.string (strOfNums (cutS (sb p) (sb s)).1), .string (strOfNums (cutS (sb p) (sb s)).2.1), .bool (cutS (sb p) (sb s)).2.2]) ∧ Own w0 w' R := by
  obtain ⟨m, hm⟩ := (hV.on hO.below).most
  refine (Tryz.strings_Cut s p m w (by omega) hm).mono fun e w' ⟨he, n, hw⟩ => ?_
  have h := cut_nb hp s.data.toList
  refine ⟨?_, hw ▸ hO.drewN n⟩
  rw [he, sb_nb s, sb_nb p]
  show Ending.returned (.tuple #[.string ⟨(Lib.cut s.data.toList p.data.toList).1.toArray⟩, .string ⟨(Lib.cut s.data.toList p.data.toList).2.1.toArray⟩, .bool (Lib.cut s.data.toList p.data.toList).2.2]) = _
  rw [nb_str (Lib.cut s.data.toList p.data.toList).1, nb_str (Lib.cut s.data.toList p.data.toList).2.1]
  rw [h.1, h.2.1, h.2.2]
/-- Lines. -/
theorem asplit_c (hV : MostOk w0) (hO : Own w0 w R) (s : ByteArray) (hs : s.size ≤ 1073741824) :
    Calls Tryz.prog 51 #[.string s, .string ⟨#[13, 10]⟩] w fun e w' => ∃ v L, e = .returned v ∧ IsStrs v ((splE (sb s)).map strOfNums) L ∧ Own w0 w' (L ++ R) := by
  obtain ⟨m, hm⟩ := (hV.on hO.below).most
  refine (Tryz.strings_Split s ⟨#[13, 10]⟩ m w (by omega) hm (by decide)).mono fun e w' ⟨he, hw⟩ => ?_
  have hsum := splE_sum (sb s)
  have hl : (splE (sb s)).length ≤ 1073741826 := by
    have key : ∀ ls : List (List Int), ls.length ≤ sumL ls := by
      intro ls
      induction ls with
      | nil => exact Nat.zero_le _
      | cons l ls ih => rw [sumL_cons, List.length_cons]; omega
    have := key (splE (sb s))
    rw [length_sb] at hsum
    omega
  rw [countB_line] at he
  rw [splitB_line] at hw
  refine ⟨_, [(w.heap.size, .cells (sv ((splE (sb s)).map strOfNums)).toArray 9)], he, ?_, ?_⟩
  · refine ⟨by simp, .inr ⟨w.heap.size, (splE (sb s)).length, [], by rw [List.length_map], by rw [List.append_nil], by rw [List.append_nil]; simp, by simp, by unfold maxLen; omega⟩⟩
  · rw [hw]; exact hO.alloc _
/-- Does the sign stand in it? -/
theorem ahas_c (s : ByteArray) (c : UInt8) (k : Int) (hk : (c.toNat : Int) = k) :
    Calls Tryz.prog 37 #[.string s, .string ⟨#[c]⟩] w fun e w' => e = .returned (.bool ((sb s).contains k)) ∧ w = w' := by
  refine (Tryz.strings_Contains_one s c w).mono fun e w' ⟨he, hw⟩ => ⟨?_, hw.symm⟩
  rw [he, has_sign, hk]
  rfl
theorem atrimp_c (s p : ByteArray) :
    Calls Tryz.prog 55 #[.string s, .string p] w fun e w' => e = .returned (.string (strOfNums (trimP (sb p) (sb s)))) ∧ w = w' := by
  refine (Tryz.strings_TrimPrefix s p w).mono fun e w' ⟨he, hw⟩ => ⟨?_, hw.symm⟩
  rw [he, nb_str, trim_pre]
  rfl
theorem atrims_c (s p : ByteArray) (hs : s.size ≤ 1073741824) :
    Calls Tryz.prog 54 #[.string s, .string p] w fun e w' => e = .returned (.string (strOfNums (trimS (sb p) (sb s)))) ∧ w = w' := by
  refine (Tryz.strings_TrimSuffix s p w (by omega)).mono fun e w' ⟨he, hw⟩ => ⟨?_, hw.symm⟩
  rw [he, nb_str, trim_suf]
  rfl
end
end Go.Proofs.YtlcolabblpikjaaGreatDoor
/-
  URLs with a port written out (for URLPorts): plain lists; nothing runs here.
-/
namespace Go.Proofs.YtlcolabblpikjaaGreatDoor
set_option linter.unusedVariables false
set_option linter.unusedSimpArgs false
set_option maxRecDepth 20000

def abI : List Int := [97, 46, 98]
theorem abI_ok : HostOk abI := by decide
/-- Scheme and host are read; what is behind them goes on. -/
theorem parseI_hd {sch hst : List Int} {x : Int} {q : List Int} (hs : sch = httpI ∨ sch = httpsI) (hh : HostOk hst) (ht : ∀ y ∈ x :: q, 33 ≤ y ∧ y ≤ 126) (hx : ([58, 47, 63, 35] : List Int).contains x = true) :
    parseI (sch ++ ([58, 47, 47] ++ (hst ++ x :: q))) = (portI sch (x :: q)).bind fun p => restI sch hst p.1 p.2 := by
  have hall : ∀ y ∈ sch ++ ([58, 47, 47] ++ (hst ++ x :: q)), 33 ≤ y ∧ y ≤ 126 := by
    intro y hy
    rcases List.mem_append.1 hy with h | h
    · rcases hs with rfl | rfl <;> simp [httpI, httpsI] at h <;> omega
    · rcases List.mem_append.1 h with h | h
      · simp at h; omega
      · rcases List.mem_append.1 h with h | h
        · have := hh.mem y h; unfold HB at this; omega
        · exact ht y h
  obtain ⟨f', hf', htr⟩ := trim_frag (f := []) hall (by rcases hs with rfl | rfl <;> simp [httpI, httpsI]) (.inl rfl)
  have hf0 : f' = [] := by
    have h1 := (trimI_sub (sch ++ ([58, 47, 47] ++ (hst ++ x :: q)) ++ [])).length_le
    rw [htr, List.append_nil, List.length_append] at h1
    exact List.eq_nil_of_length_eq_zero (by omega)
  rw [hf0, List.append_nil] at htr
  unfold parseI
  rw [htr]
  have hsch : schemeI (sch ++ ([58, 47, 47] ++ (hst ++ x :: q))) = some (sch, hst ++ x :: q) := by
    unfold schemeI
    rcases hs with e | e <;> rw [e]
    · have hb : begI (httpI ++ [58, 47, 47]) (lowL (httpI ++ ([58, 47, 47] ++ (hst ++ x :: q)))) = true := by rw [begI_iff]; rfl
      rw [if_pos hb]
      rfl
    · have hb1 : begI (httpI ++ [58, 47, 47]) (lowL (httpsI ++ ([58, 47, 47] ++ (hst ++ x :: q)))) = false := by
        rw [← Bool.not_eq_true, begI_iff]
        intro hx
        have := congrArg (fun l => l.getD 4 0) hx
        simp [httpI, httpsI, lowL, lowI] at this
      have hb2 : begI (httpsI ++ [58, 47, 47]) (lowL (httpsI ++ ([58, 47, 47] ++ (hst ++ x :: q)))) = true := by rw [begI_iff]; rfl
      rw [if_neg (by rw [hb1]; simp), if_pos hb2]
      rfl
  rw [hsch]
  show hostI sch _ = _
  have hstp := ahead_stop (r := q) (host_stops hh) hx
  unfold hostI
  rw [hstp.1, hstp.2, hh.low, if_pos hh]
theorem parseI_ab {sch : List Int} {x : Int} {q : List Int} (hs : sch = httpI ∨ sch = httpsI) (ht : ∀ y ∈ x :: q, 33 ≤ y ∧ y ≤ 126) (hx : ([58, 47, 63, 35] : List Int).contains x = true) :
    parseI (sch ++ ([58, 47, 47] ++ (abI ++ x :: q))) = (portI sch (x :: q)).bind fun p => restI sch abI p.1 p.2 := parseI_hd hs abI_ok ht hx
theorem figN_zeros (z : Nat) (l : List Int) : figN (List.replicate z 48 ++ l) = figN l := by
  induction z with
  | zero => rfl
  | succ z ih =>
    rw [List.replicate_succ, List.cons_append]
    unfold figN at *
    rw [List.foldl_cons]
    exact ih
/-- A port of one to five digits, and a path behind it. -/
theorem portI_digits {sch ds r : List Int} (h1 : 1 ≤ ds.length) (h5 : ds.length ≤ 5) (hd : ∀ x ∈ ds, 48 ≤ x ∧ x ≤ 57) :
    portI sch (58 :: (ds ++ 47 :: r)) = if 65535 < figN ds then none else some (if figN ds = ownI sch then 0 else figN ds, 47 :: r) := by
  have hb : begI [58] (58 :: (ds ++ 47 :: r)) = true := by rw [begI_iff]; rfl
  have hdn : ∀ y ∈ ds, ([47, 63, 35] : List Int).contains y = false := by
    intro y hy
    have := hd y hy
    apply contains_no
    intro k hk e
    match k, hk, e with
    | 0, _, e => simp at e; omega
    | 1, _, e => simp at e; omega
    | 2, _, e => simp at e; omega
    | (k + 3), hk, _ => simp only [List.length_cons, List.length_nil] at hk; omega
  have hst := ahead_stop (r := r) hdn (show ([47, 63, 35] : List Int).contains 47 = true by decide)
  have hd1 : (58 :: (ds ++ 47 :: r)).drop 1 = ds ++ 47 :: r := rfl
  unfold portI
  rw [if_pos hb, hd1, hst.1, hst.2]
  have hfig : figI ds 1 5 = some (figN ds) := by
    unfold figI
    rw [if_pos ⟨by omega, by omega, hd⟩]
  rw [hfig]
  rfl
theorem portT_len {u : UL} (h : u.port < 100000) : (portT u).length ≤ 6 := by
  unfold portT
  split
  · have := digs_short (n := u.port.toNat) (by omega)
    simp only [List.length_cons]; omega
  · simp
theorem restI_x {sch : List Int} {p : Int} (hs : sch = httpI ∨ sch = httpsI) (hp : p < 100000) : restI sch abI p [47, 120] = some ⟨sch, abI, p, [47, 120], []⟩ := by
  have e1 : dotsI (ahead [63] (ahead [35] [47, 120])) = [47, 120] := by decide +kernel
  have e2 : queryI (behind [63] (ahead [35] [47, 120])) = [] := by decide +kernel
  have hl := portT_len (u := ⟨sch, abI, p, [47, 120], []⟩) hp
  unfold restI
  simp only [e1, e2]
  rw [if_neg]
  rw [printI_parts]
  rcases hs with rfl | rfl <;> simp [httpI, httpsI, abI] at * <;> omega
theorem restI_0 {sch : List Int} (hs : sch = httpI ∨ sch = httpsI) : restI sch abI 0 [47] = some ⟨sch, abI, 0, [47], []⟩ := by
  have e1 : dotsI (ahead [63] (ahead [35] [47])) = [47] := by decide +kernel
  have e2 : queryI (behind [63] (ahead [35] [47])) = [] := by decide +kernel
  unfold restI
  simp only [e1, e2]
  rw [if_neg]
  rw [printI_parts]
  rcases hs with rfl | rfl <;> decide
/-- A port with zeros before it. -/
theorem parseI_port {sch : List Int} (hs : sch = httpI ∨ sch = httpsI) {n z : Nat} (hn : n < 100000) (hz : z + (digs n).length ≤ 5) :
    parseI (sch ++ ([58, 47, 47] ++ (abI ++ 58 :: ((List.replicate z 48 ++ digs n) ++ [47, 120])))) = if 65535 < n then none else some ⟨sch, abI, if (n : Int) = ownI sch then 0 else n, [47, 120], []⟩ := by
  have hd : ∀ x ∈ List.replicate z 48 ++ digs n, (48 : Int) ≤ x ∧ x ≤ 57 := by
    intro x hx
    rcases List.mem_append.1 hx with h | h
    · have := (List.mem_replicate.1 h).2; omega
    · exact digs_dig n x h
  have hlen := digs_len n
  rw [parseI_ab hs (by
    intro y hy
    rcases List.mem_cons.1 hy with rfl | h
    · omega
    · rcases List.mem_append.1 h with h | h
      · have := hd y h; omega
      · simp at h; omega) (by decide)]
  rw [portI_digits (by simp; omega) (by simp; omega) hd, figN_zeros, fig_digs (by omega)]
  by_cases h : 65535 < n
  · rw [if_pos (by omega), if_pos h]; rfl
  · rw [if_neg (by omega), if_neg h]
    show restI sch abI _ _ = _
    rw [restI_x hs (by split <;> omega)]
theorem parseI_bare {sch : List Int} (hs : sch = httpI ∨ sch = httpsI) : parseI (sch ++ ([58, 47, 47] ++ (abI ++ [47]))) = some ⟨sch, abI, 0, [47], []⟩ := by
  rw [parseI_ab hs (by simp) (by decide)]
  have : portI sch [47] = some (0, [47]) := by unfold portI; rw [if_neg (by decide)]
  rw [this]
  exact restI_0 hs
end Go.Proofs.YtlcolabblpikjaaGreatDoor
/-
  The landed program's own way to read a URL: plain lists; nothing runs here.
-/
namespace Go.Proofs.YtlcolabblpikjaaGreatDoor
set_option linter.unusedVariables false
set_option linter.unusedSimpArgs false
set_option maxRecDepth 20000

/-! ### parts -/
theorem contains_app (a b : List Int) (x : Int) : (a ++ b).contains x = (a.contains x || b.contains x) := by
  rw [Bool.eq_iff_iff]; simp
theorem ahead_ahead (a b : List Int) : ∀ l : List Int, ahead a (ahead b l) = ahead (a ++ b) l
  | [] => rfl
  | x :: l => by
    have ih := ahead_ahead a b l
    unfold ahead at *
    by_cases hb : b.contains x = true
    · rw [List.takeWhile_cons_of_neg (p := fun x => !b.contains x) (by rw [hb]; simp), List.takeWhile_cons_of_neg (p := fun x => !(a ++ b).contains x) (by rw [contains_app, hb]; simp)]
      rfl
    · rw [Bool.not_eq_true] at hb
      rw [List.takeWhile_cons_of_pos (p := fun x => !b.contains x) (by rw [hb]; rfl)]
      by_cases ha : a.contains x = true
      · rw [List.takeWhile_cons_of_neg (p := fun x => !a.contains x) (by rw [ha]; simp), List.takeWhile_cons_of_neg (p := fun x => !(a ++ b).contains x) (by rw [contains_app, ha]; simp)]
      · rw [Bool.not_eq_true] at ha
        rw [List.takeWhile_cons_of_pos (p := fun x => !a.contains x) (by rw [ha]; rfl), List.takeWhile_cons_of_pos (p := fun x => !(a ++ b).contains x) (by rw [contains_app, ha, hb]; rfl), ih]
theorem ahead_no (st : List Int) : ∀ (l : List Int), ∀ y ∈ ahead st l, st.contains y = false
  | [], y, h => by cases h
  | x :: l, y, h => by
    have ih := ahead_no st l y
    unfold ahead at *
    by_cases hx : st.contains x = true
    · rw [List.takeWhile_cons_of_neg (p := fun x => !st.contains x) (by rw [hx]; simp)] at h; cases h
    · rw [Bool.not_eq_true] at hx
      rw [List.takeWhile_cons_of_pos (p := fun x => !st.contains x) (by rw [hx]; rfl)] at h
      rcases List.mem_cons.1 h with rfl | h
      · exact hx
      · exact ih h
theorem behind_hd (st : List Int) : ∀ (l : List Int), behind st l = [] ∨ ∃ x r, behind st l = x :: r ∧ st.contains x = true
  | [] => .inl rfl
  | x :: l => by
    have ih := behind_hd st l
    unfold behind at *
    by_cases hx : st.contains x = true
    · rw [List.dropWhile_cons_of_neg (p := fun x => !st.contains x) (by rw [hx]; simp)]
      exact .inr ⟨x, l, rfl, hx⟩
    · rw [Bool.not_eq_true] at hx
      rw [List.dropWhile_cons_of_pos (p := fun x => !st.contains x) (by rw [hx]; rfl)]
      exact ih
/-! ### the mark behind the scheme -/
def cut3 : List Int → List Int × List Int
  | [] => ([], [])
  | x :: l => if begI [58, 47, 47] (x :: l) then ([], (x :: l).drop 3) else (x :: (cut3 l).1, (cut3 l).2)
theorem cut3_hit : ∀ {p : List Int} (r : List Int), (∀ y ∈ p, y ≠ 58) → cut3 (p ++ (58 :: 47 :: 47 :: r)) = (p, r)
  | [], r, _ => by
    show cut3 (58 :: 47 :: 47 :: r) = _
    unfold cut3
    rw [if_pos (by rw [begI_iff]; rfl)]
    rfl
  | x :: p, r, h => by
    have hx := h x (.head _)
    have ih := cut3_hit (p := p) r (fun y hy => h y (.tail _ hy))
    rw [List.cons_append]
    unfold cut3
    rw [if_neg (by rw [begI_iff]; simp [hx]), ih]
theorem cut3_is : ∀ (l : List Int), l = (cut3 l).1 ++ (58 :: 47 :: 47 :: (cut3 l).2) ∨ ((cut3 l).1 = l ∧ (cut3 l).2 = [])
  | [] => .inr ⟨rfl, rfl⟩
  | x :: l => by
    unfold cut3
    split
    · rename_i h
      left
      have := begI_drop h
      simpa using this
    · rcases cut3_is l with h | ⟨h1, h2⟩
      · left
        show x :: l = x :: ((cut3 l).1 ++ _)
        rw [← h]
      · right
        exact ⟨by show x :: (cut3 l).1 = _; rw [h1], h2⟩
theorem cut3_mem (l : List Int) : (∀ x ∈ (cut3 l).1, x ∈ l) ∧ (∀ x ∈ (cut3 l).2, x ∈ l) ∧ (cut3 l).1.length + (cut3 l).2.length ≤ l.length := by
  rcases cut3_is l with h | ⟨h1, h2⟩
  · refine ⟨fun x hx => ?_, fun x hx => ?_, ?_⟩
    · rw [h]; simp [hx]
    · rw [h]; simp [hx]
    · have := congrArg List.length h; simp at this; omega
  · exact ⟨fun x hx => (by rw [← h1]; exact hx), fun x hx => (by rw [h2] at hx; cases hx), (by rw [h1, h2]; simp)⟩
/-! ### paths -/
def rawStep (st : List (List Int)) (p : List Int) (last : Bool) : List (List Int) :=
  if p = [46] ∨ p = [46, 46] then
    (let st1 := if p = [46, 46] then st.dropLast else st
     if last then st1 ++ [[]] else st1)
  else st ++ [p]
def rawGo : List (List Int) → List (List Int) → List (List Int)
  | st, [] => st
  | st, [p] => rawStep st p true
  | st, p :: q :: r => rawGo (rawStep st p false) (q :: r)
theorem dotStep_raw (st : List (List Int)) (p : List Int) (last : Bool) : dotStep (st.map pctE) p last = (rawStep st p last).map pctE := by
  unfold dotStep rawStep
  split
  · simp only []
    have e : (if p = [46, 46] then (st.map pctE).dropLast else st.map pctE) = (if p = [46, 46] then st.dropLast else st).map pctE := by
      split
      · rw [List.map_dropLast]
      · rfl
    rw [e]
    cases last
    · rfl
    · simp only [if_true, List.map_append, List.map_cons, List.map_nil]
      rfl
  · simp
theorem dotGo_raw : ∀ (ps st : List (List Int)), dotGo (st.map pctE) ps = (rawGo st ps).map pctE
  | [], st => rfl
  | [p], st => dotStep_raw st p true
  | p :: q :: r, st => by
    show dotGo (dotStep (st.map pctE) p false) (q :: r) = (rawGo (rawStep st p false) (q :: r)).map pctE
    rw [dotStep_raw, dotGo_raw (q :: r)]
theorem rawGo_cons (st : List (List Int)) (p : List Int) {ps : List (List Int)} (h : ps ≠ []) : rawGo st (p :: ps) = rawGo (rawStep st p false) ps := by
  cases ps with
  | nil => exact absurd rfl h
  | cons q r => rfl
theorem dec_slash {p : List Int} (hp : p ≠ []) (r : List Int) : decI (p ++ 47 :: r) = decI p := by
  unfold decI
  rcases p with _ | ⟨a, _ | ⟨b, _ | ⟨c, _ | ⟨d, t⟩⟩⟩⟩
  · exact absurd rfl hp
  · simp [Lib.decodeN]
  · simp [Lib.decodeN]
  · simp [Lib.decodeN]
  · simp [Lib.decodeN]
theorem runes_slash : ∀ (n : Nat) (p : List Int), p.length ≤ n → ∀ r, runes (p ++ 47 :: r) = runes p ++ 47 :: runes r
  | n, [], _, r => by
    have := runes_enc (c := 47) (by unfold vrune; omega) r
    rw [encI_one (by decide)] at this
    exact this
  | 0, x :: p, h, _ => by simp at h
  | n + 1, x :: p, h, r => by
    have hne : x :: p ≠ [] := by simp
    have h1 := decI_pos (x :: p)
    have h2 := decI_le hne
    rw [runes_step (by simp), dec_slash hne, runes_step hne, List.drop_append_of_le_length h2, runes_slash n _ (by rw [List.length_drop]; simp only [List.length_cons] at *; omega)]
    rfl
theorem pctE_slash (p r : List Int) : pctE (p ++ 47 :: r) = pctE p ++ 47 :: pctE r := by
  unfold pctE
  rw [runes_slash p.length p (Nat.le_refl _), List.flatMap_append, List.flatMap_cons]
  rfl
theorem pctE_slashed : ∀ st : List (List Int), slashed (st.map pctE) = pctE (slashed st)
  | [] => rfl
  | [p] => by
    show 47 :: pctE p ++ [] = pctE (47 :: p ++ [])
    rw [List.append_nil, List.append_nil]
    exact (pctE_slash [] p).symm
  | p :: q :: r => by
    have ih := pctE_slashed (q :: r)
    show (47 :: pctE p) ++ slashed ((q :: r).map pctE) = pctE ((47 :: p) ++ slashed (q :: r))
    rw [ih]
    have e : slashed (q :: r) = 47 :: (q ++ slashed r) := rfl
    rw [e, pctE_slash (47 :: p)]
    have h1 : pctE (47 :: p) = 47 :: pctE p := pctE_slash [] p
    have h2 : pctE (47 :: (q ++ slashed r)) = 47 :: pctE (q ++ slashed r) := pctE_slash [] _
    rw [h1, h2]
/-- The path that the parts of l lead to (without the slash that begins it). -/
def walkI (l : List Int) : List Int := slashed (rawGo [] (partsI l))
theorem walk_dots (l : List Int) : pctE (walkI (l.drop 1)) = dotsI l := by
  unfold walkI dotsI
  rw [← pctE_slashed, ← dotGo_raw]
  rfl
/-! ### reading -/
def schI (s : List Int) : Option (List Int) := if lowL s = httpI then some httpI else if lowL s = httpsI then some httpsI else none
def prtI (p : List Int) : Option Int := (figI p 1 5).bind fun n => if 65535 < n then none else some n
def prtI' (at_ : List Int) : Option Int := if behind [58] at_ = [] then some 0 else prtI ((behind [58] at_).drop 1)
def readI (T : List Int) : Option UL :=
  let s1 := ahead [35] T
  let c := cut3 (ahead [63] s1)
  let q := (behind [63] s1).drop 1
  let at_ := ahead [47] c.2
  (schI c.1).bind fun sch => if HostOk (lowL (ahead [58] at_)) then
    (prtI' at_).bind fun n => some ⟨sch, lowL (ahead [58] at_), if n = ownI sch then 0 else n, pctE (walkI ((behind [47] c.2).drop 1)), if q = [] then [] else 63 :: pctE q⟩
  else none
theorem low_is {y a : Int} (h : lowI y = a) : y = a ∨ (97 ≤ a ∧ a ≤ 122 ∧ y = a - 32) := by
  unfold lowI at h
  split at h
  · right; omega
  · exact .inl h
theorem low_http {P : List Int} (h : lowL P = httpI ∨ lowL P = httpsI) : ∀ y ∈ P, y ≠ 58 ∧ y ≠ 35 ∧ y ≠ 63 ∧ y ≠ 47 := by
  intro y hy
  have hm : lowI y ∈ httpsI := by
    have h1 : lowI y ∈ lowL P := List.mem_map.2 ⟨y, hy, rfl⟩
    rcases h with h | h <;> rw [h] at h1
    · simp [httpI, httpsI] at h1 ⊢; omega
    · exact h1
  simp only [httpsI, List.mem_cons, List.not_mem_nil, or_false] at hm
  rcases hm with e | e | e | e | e <;> rcases low_is e with h1 | h1 <;> omega
theorem low_marks {M : List Int} (h : lowL M = [58, 47, 47]) : M = [58, 47, 47] := by
  rcases M with _ | ⟨a, _ | ⟨b, _ | ⟨c, _ | ⟨d, t⟩⟩⟩⟩ <;> simp [lowL] at h
  have h1 := low_is h.1; have h2 := low_is h.2.1; have h3 := low_is h.2.2
  simp; omega
theorem begI_low {p T : List Int} (h : begI p (lowL T) = true) : lowL (T.take p.length) = p := by
  have := begI_iff.1 h
  unfold lowL at *
  rw [List.map_take]; exact this
theorem lowL_take (l : List Int) (n : Nat) : lowL (l.take n) = (lowL l).take n := by unfold lowL; rw [List.map_take]
/-- What has a scheme is the scheme's letters, the mark, the rest. -/
theorem scheme_parts {T sch r : List Int} (h : schemeI T = some (sch, r)) : ∃ P, T = P ++ (58 :: 47 :: 47 :: r) ∧ lowL P = sch ∧ schI P = some sch := by
  have key : ∀ (q : List Int) (n : Nat), q.length = n → begI (q ++ [58, 47, 47]) (lowL T) = true → T = T.take n ++ (58 :: 47 :: 47 :: T.drop (n + 3)) ∧ lowL (T.take n) = q := by
    intro q n hn hb
    have h1 := begI_low hb
    have hl := begI_len hb
    have hlen : n + 3 ≤ T.length := by have : (lowL T).length = T.length := by simp [lowL]
                                       simp only [List.length_append, List.length_cons, List.length_nil] at hl; omega
    rw [List.length_append, hn, show ([58, 47, 47] : List Int).length = 3 from rfl] at h1
    have e : T.take (n + 3) = T.take n ++ (T.drop n).take 3 := by rw [List.take_add]
    rw [e, lowL_append] at h1
    have h2 : lowL (T.take n) = q ∧ lowL ((T.drop n).take 3) = [58, 47, 47] := by
      apply List.append_inj h1
      simp [lowL]; omega
    have h3 := low_marks h2.2
    refine ⟨?_, h2.1⟩
    have h4 : T.drop n = (T.drop n).take 3 ++ (T.drop n).drop 3 := (List.take_append_drop 3 _).symm
    rw [h3, List.drop_drop] at h4
    have h5 : T = T.take n ++ T.drop n := (List.take_append_drop n T).symm
    rw [h4] at h5
    exact h5
  unfold schemeI at h
  split at h
  · rename_i hb
    cases h
    have := key httpI 4 rfl hb
    exact ⟨_, this.1, this.2, by unfold schI; rw [if_pos this.2]⟩
  · split at h
    · rename_i hb
      cases h
      have := key httpsI 5 rfl hb
      exact ⟨_, this.1, this.2, by unfold schI; rw [if_neg (by rw [this.2]; decide), if_pos this.2]⟩
    · cases h
theorem scheme_of {P r sch : List Int} (h : schI P = some sch) : schemeI (P ++ (58 :: 47 :: 47 :: r)) = some (sch, r) := by
  have low : lowL (P ++ (58 :: 47 :: 47 :: r)) = lowL P ++ ([58, 47, 47] ++ lowL r) := by rw [lowL_append]; rfl
  unfold schI at h
  split at h
  · rename_i e
    cases h
    have hl : P.length = 4 := by have := congrArg List.length e; simpa [lowL, httpI] using this
    unfold schemeI
    rw [low, e, if_pos (by rw [begI_iff, ← List.append_assoc, List.take_left']; rfl)]
    rw [List.drop_append, hl]
    simp [hl, List.drop_eq_nil_of_le]
  · split at h
    · rename_i hne e
      cases h
      have hl : P.length = 5 := by have := congrArg List.length e; simpa [lowL, httpsI] using this
      unfold schemeI
      rw [low, e, if_neg (by rw [begI_iff]; simp [httpsI, httpI]), if_pos (by rw [begI_iff, ← List.append_assoc, List.take_left']; rfl)]
      rw [List.drop_append, hl]
      simp [hl, List.drop_eq_nil_of_le]
    · cases h
def cap40 (u : UL) : Option UL := if 40 < (printI u).length then none else some u
/-- What follows the host, or the port: nothing, or one of the three signs. -/
theorem tail_parts {E : List Int} (h : E = [] ∨ ∃ x r, E = x :: r ∧ ([47, 63, 35] : List Int).contains x = true) :
    ahead [47] (ahead [63] (ahead [35] E)) = [] ∧ behind [47] (ahead [63] (ahead [35] E)) = ahead [63] (ahead [35] E) := by
  rcases h with rfl | ⟨x, r, rfl, hx⟩
  · exact ⟨rfl, rfl⟩
  · have h1 := (ahead_hd hx r).1
    rw [ahead_ahead, ahead_ahead]
    refine ⟨h1, ?_⟩
    rw [ahead_ahead]
    simp only [List.contains_cons, List.contains_nil, Bool.or_false, Bool.or_eq_true, beq_iff_eq] at hx
    rcases hx with rfl | rfl | rfl
    · unfold ahead behind
      rw [List.takeWhile_cons_of_pos (by decide), List.dropWhile_cons_of_neg (by decide)]
    · unfold ahead behind
      rw [List.takeWhile_cons_of_neg (by decide)]
      rfl
    · unfold ahead behind
      rw [List.takeWhile_cons_of_neg (by decide)]
      rfl
theorem query_same (q : List Int) : queryI q = if q.drop 1 = [] then [] else 63 :: pctE (q.drop 1) := by
  unfold queryI
  by_cases h : 1 < q.length
  · rw [if_pos h, if_neg (by intro e; have := congrArg List.length e; simp at this; omega)]
  · rw [if_neg h, if_pos (by apply List.drop_eq_nil_of_le; omega)]
theorem read_hit {P r sch : List Int} (hs : schI P = some sch) : (readI (P ++ (58 :: 47 :: 47 :: r))).bind cap40 = hostI sch r := by
  have hP := low_http (P := P) (by
    unfold schI at hs
    split at hs
    · rename_i e; exact .inl e
    · split at hs
      · rename_i e; exact .inr e
      · cases hs)
  have hno : ∀ (st : List Int), (∀ y ∈ st, y = 35 ∨ y = 63) → ∀ y ∈ P ++ [58, 47, 47], st.contains y = false := by
    intro st hst y hy
    rw [← Bool.not_eq_true]
    intro hc
    have h1 := hst y (by simpa using hc)
    rcases List.mem_append.1 hy with h2 | h2
    · have := hP y h2; omega
    · simp at h2; omega
  have e1 : P ++ (58 :: 47 :: 47 :: r) = (P ++ [58, 47, 47]) ++ r := by simp
  have a1 := ahead_app (st := [35]) (p := P ++ [58, 47, 47]) r (hno _ (by simp))
  have a2 := ahead_app (st := [63]) (p := P ++ [58, 47, 47]) (ahead [35] r) (hno _ (by simp))
  have c3 : cut3 (P ++ [58, 47, 47] ++ ahead [63] (ahead [35] r)) = (P, ahead [63] (ahead [35] r)) := by
    rw [show P ++ [58, 47, 47] ++ ahead [63] (ahead [35] r) = P ++ (58 :: 47 :: 47 :: ahead [63] (ahead [35] r)) by simp]
    exact cut3_hit _ (fun y hy => (hP y hy).1)
  unfold readI
  simp only [e1, a1.1, a2.1, a2.2, c3, hs, Option.bind_some]
  unfold hostI
  -- the host
  have hH : ahead [58] (ahead [47] (ahead [63] (ahead [35] r))) = ahead [58, 47, 63, 35] r := by rw [ahead_ahead, ahead_ahead, ahead_ahead]; rfl
  rw [hH]
  split
  · rename_i hho
    have hr : r = ahead [58, 47, 63, 35] r ++ behind [58, 47, 63, 35] r := (ahead_behind _ r).symm
    have hHno := ahead_no [58, 47, 63, 35] r
    have hBhd := behind_hd [58, 47, 63, 35] r
    generalize ahead [58, 47, 63, 35] r = H at *
    generalize behind [58, 47, 63, 35] r = B at *
    have hn : ∀ st : List Int, (∀ y ∈ st, y ∈ ([58, 47, 63, 35] : List Int)) → ∀ y ∈ H, st.contains y = false := by
      intro st hst y hy
      rw [← Bool.not_eq_true]
      intro hc
      have h1 := hst y (by simpa using hc)
      have h2 := hHno y hy
      simp only [List.contains_cons, List.contains_nil, Bool.or_false, Bool.or_eq_false_iff, beq_eq_false_iff_ne] at h2
      simp at h1; omega
    have b1 := ahead_app (st := [35]) (p := H) B (hn _ (by simp))
    have b2 := ahead_app (st := [63]) (p := H) (ahead [35] B) (hn _ (by simp))
    have b3 := ahead_app (st := [47]) (p := H) (ahead [63] (ahead [35] B)) (hn _ (by simp))
    have b4 := ahead_app (st := [58]) (p := H) (ahead [47] (ahead [63] (ahead [35] B))) (hn _ (by simp))
    rw [hr, b1.1, b2.1, b2.2, b3.1, b3.2]
    unfold prtI' portI
    rw [b4.2]
    by_cases hb : begI [58] B = true
    · obtain ⟨C, rfl⟩ : ∃ C, B = 58 :: C := ⟨B.drop 1, by have := begI_drop hb; simpa using this⟩
      rw [if_pos hb]
      have hC : C = ahead [47, 63, 35] C ++ behind [47, 63, 35] C := (ahead_behind _ C).symm
      have hDno := ahead_no [47, 63, 35] C
      have hEhd := behind_hd [47, 63, 35] C
      rw [show (58 :: C).drop 1 = C from rfl]
      generalize ahead [47, 63, 35] C = D at *
      generalize behind [47, 63, 35] C = E at *
      subst hC
      have hn2 : ∀ st : List Int, (∀ y ∈ st, y ∈ ([47, 63, 35] : List Int)) → ∀ y ∈ 58 :: D, st.contains y = false := by
        intro st hst y hy
        rw [← Bool.not_eq_true]
        intro hc
        have h1 := hst y (by simpa using hc)
        rcases List.mem_cons.1 hy with rfl | hy
        · simp at h1
        · have h2 := hDno y hy
          simp only [List.contains_cons, List.contains_nil, Bool.or_false, Bool.or_eq_false_iff, beq_eq_false_iff_ne] at h2
          simp at h1; omega
      have d1 := ahead_app (st := [35]) (p := 58 :: D) E (hn2 _ (by simp))
      have d2 := ahead_app (st := [63]) (p := 58 :: D) (ahead [35] E) (hn2 _ (by simp))
      have d3 := ahead_app (st := [47]) (p := 58 :: D) (ahead [63] (ahead [35] E)) (hn2 _ (by simp))
      have ht := tail_parts hEhd
      simp only [List.cons_append] at d1 d2 d3
      rw [d1.1, d2.1, d2.2, d3.1, d3.2, ht.1, ht.2, List.append_nil]
      have h58 := (ahead_hd (st := [58]) (x := 58) (by decide) D).2
      rw [h58, if_neg (by simp), List.drop_succ_cons, List.drop_zero, walk_dots, ← query_same]
      unfold prtI restI
      cases figI D 1 5 with
      | none => rfl
      | some n =>
        simp only [Option.bind_some]
        by_cases h65 : 65535 < n
        · rw [if_pos h65, if_pos h65]; rfl
        · rw [if_neg h65, if_neg h65]
          rfl
    · rw [if_neg hb]
      have hB : B = [] ∨ ∃ x q, B = x :: q ∧ ([47, 63, 35] : List Int).contains x = true := by
        rcases hBhd with h | ⟨x, q, rfl, hx⟩
        · exact .inl h
        · refine .inr ⟨x, q, rfl, ?_⟩
          simp only [List.contains_cons, List.contains_nil, Bool.or_false, Bool.or_eq_true, beq_iff_eq] at hx ⊢
          rcases hx with rfl | hx
          · exact absurd (by rw [begI_iff]; rfl) hb
          · exact hx
      have ht := tail_parts hB
      rw [ht.1, ht.2, show behind [58] [] = [] from rfl, if_pos rfl, walk_dots, ← query_same]
      have hown : (if (0 : Int) = ownI sch then (0 : Int) else 0) = 0 := by split <;> rfl
      unfold restI
      simp only [Option.bind_some, hown]
      rfl
  · rfl
/-- The landed program reads what the document's Parse reads. -/
theorem read_parse (T : List Int) : (readI T).bind cap40 = (schemeI T).bind fun p => hostI p.1 p.2 := by
  cases hs : schemeI T with
  | some p =>
    obtain ⟨sch, r⟩ := p
    obtain ⟨P, rfl, _, h⟩ := scheme_parts hs
    exact read_hit h
  | none =>
    rw [Option.bind_none]
    unfold readI
    simp only []
    have hT1 : T = ahead [35] T ++ behind [35] T := (ahead_behind _ T).symm
    have hT2 : ahead [35] T = ahead [63] (ahead [35] T) ++ behind [63] (ahead [35] T) := (ahead_behind _ _).symm
    rcases cut3_is (ahead [63] (ahead [35] T)) with h | ⟨_, h2⟩
    · cases hc : schI (cut3 (ahead [63] (ahead [35] T))).1 with
      | none => rfl
      | some sch =>
        exfalso
        have := scheme_of (r := (cut3 (ahead [63] (ahead [35] T))).2 ++ (behind [63] (ahead [35] T) ++ behind [35] T)) hc
        have e : (cut3 (ahead [63] (ahead [35] T))).1 ++ (58 :: 47 :: 47 :: ((cut3 (ahead [63] (ahead [35] T))).2 ++ (behind [63] (ahead [35] T) ++ behind [35] T))) = T := by
          conv => rhs; rw [hT1, hT2, h]
          simp
        rw [e, hs] at this
        cases this
    · rw [h2]
      cases schI (cut3 (ahead [63] (ahead [35] T))).1 with
      | none => rfl
      | some sch =>
        rw [Option.bind_some, if_neg (by decide)]
        rfl
theorem parse_read (l : List Int) : parseI l = (readI (trimI l)).bind cap40 := by rw [read_parse]; rfl
end Go.Proofs.YtlcolabblpikjaaGreatDoor
/-
  Hosts by their parts; the library's cuts, parts, digits as lists of bytes: nothing runs here.
-/
namespace Go.Proofs.YtlcolabblpikjaaGreatDoor
set_option linter.unusedVariables false
set_option linter.unusedSimpArgs false
set_option maxRecDepth 20000

/-! ### parts between a sign -/
def splI (c : Int) : List Int → List (List Int)
  | [] => [[]]
  | x :: r => if x = c then [] :: splI c r else match splI c r with
    | p :: ps => (x :: p) :: ps
    | [] => [[x]]
theorem splI_ne (c : Int) (l : List Int) : splI c l ≠ [] := by
  cases l with
  | nil => simp [splI]
  | cons x r => unfold splI; split; simp; split <;> simp
theorem splI_hit (c : Int) (r : List Int) : splI c (c :: r) = [] :: splI c r := by simp [splI]
theorem splI_go {c x : Int} {r : List Int} (h : x ≠ c) : splI c (x :: r) = (x :: (splI c r).headD []) :: (splI c r).tail := by
  have := splI_ne c r
  simp only [splI, if_neg h]
  cases hs : splI c r with
  | nil => exact absurd hs this
  | cons p ps => rfl
theorem splI_len (c : Int) : ∀ l : List Int, (splI c l).length ≤ l.length + 1
  | [] => by simp [splI]
  | x :: r => by
    have ih := splI_len c r
    by_cases h : x = c
    · subst h; rw [splI_hit]; simp; omega
    · rw [splI_go h]
      have := splI_ne c r
      have h2 : 0 < (splI c r).length := List.length_pos_iff.2 this
      simp; omega
theorem splI_mem (c : Int) : ∀ (l : List Int), ∀ p ∈ splI c l, p.length ≤ l.length ∧ ∀ x ∈ p, x ∈ l
  | [], p, h => by simp [splI] at h; subst h; simp
  | x :: r, p, h => by
    by_cases hx : x = c
    · subst hx
      rw [splI_hit] at h
      rcases List.mem_cons.1 h with rfl | h
      · simp
      · have := splI_mem _ r p h
        exact ⟨by simp; omega, fun y hy => .tail _ (this.2 y hy)⟩
    · rw [splI_go hx] at h
      rcases List.mem_cons.1 h with rfl | h
      · have hm : (splI c r).headD [] ∈ splI c r := by
          cases hs : splI c r with
          | nil => exact absurd hs (splI_ne c r)
          | cons q qs => exact .head _
        have := splI_mem c r _ hm
        refine ⟨by rw [List.length_cons, List.length_cons]; omega, fun y hy => ?_⟩
        rcases List.mem_cons.1 hy with rfl | hy
        · exact .head _
        · exact .tail _ (this.2 y hy)
      · have := splI_mem c r p (List.mem_of_mem_tail h)
        exact ⟨by simp; omega, fun y hy => .tail _ (this.2 y hy)⟩
/-! ### hosts -/
def HB0 (x : Int) : Prop := (97 ≤ x ∧ x ≤ 122) ∨ (48 ≤ x ∧ x ≤ 57) ∨ x = 45
instance (x : Int) : Decidable (HB0 x) := by unfold HB0; infer_instance
def PartH (p : List Int) : Prop := p ≠ [] ∧ ∀ x ∈ p, HB0 x
instance (p : List Int) : Decidable (PartH p) := by unfold PartH; infer_instance
def HostP (l : List Int) : Prop := l.length ≤ 20 ∧ ∀ p ∈ splI 46 l, PartH p
instance (l : List Int) : Decidable (HostP l) := by unfold HostP; infer_instance
/-- The parts are well, but that the first may be empty. -/
def Half46 (l : List Int) : Prop := (∀ x ∈ (splI 46 l).headD [], HB0 x) ∧ ∀ p ∈ (splI 46 l).tail, PartH p
/-- The same by places. -/
def Tail46 (l : List Int) : Prop := (∀ j, j < l.length → HostAt l j) ∧ (l ≠ [] → l.getD (l.length - 1) 0 ≠ 46)
theorem half_nil : Half46 [] := ⟨by simp [splI], by simp [splI]⟩
theorem all_of_half (l : List Int) : (∀ p ∈ splI 46 l, PartH p) ↔ (l ≠ [] ∧ l.getD 0 0 ≠ 46 ∧ Half46 l) := by
  cases l with
  | nil => simp [splI, PartH]
  | cons x r =>
    by_cases hx : x = 46
    · subst hx
      rw [splI_hit]
      constructor
      · intro h; exact absurd rfl (h [] (.head _)).1
      · rintro ⟨_, h, _⟩; exact absurd rfl h
    · unfold Half46
      rw [splI_go hx]
      constructor
      · intro h
        refine ⟨by simp, by simpa using hx, (h _ (.head _)).2, fun p hp => h p (.tail _ hp)⟩
      · rintro ⟨_, _, h1, h2⟩ p hp
        rcases List.mem_cons.1 hp with rfl | hp
        · exact ⟨by simp, h1⟩
        · exact h2 p hp
theorem half_cons (x : Int) (r : List Int) : Half46 (x :: r) ↔ (if x = 46 then r ≠ [] ∧ r.getD 0 0 ≠ 46 ∧ Half46 r else HB0 x ∧ Half46 r) := by
  by_cases hx : x = 46
  · subst hx
    rw [if_pos rfl, ← all_of_half]
    unfold Half46
    rw [splI_hit]
    simp
  · rw [if_neg hx]
    unfold Half46
    rw [splI_go hx]
    simp only [List.headD_cons, List.tail_cons, List.forall_mem_cons]
    exact ⟨fun ⟨⟨a, b⟩, c⟩ => ⟨a, b, c⟩, fun ⟨a, b, c⟩ => ⟨⟨a, b⟩, c⟩⟩
theorem tail_cons (x : Int) (r : List Int) : Tail46 (x :: r) ↔ (if x = 46 then r ≠ [] ∧ r.getD 0 0 ≠ 46 ∧ Tail46 r else HB0 x ∧ Tail46 r) := by
  have hlast : ∀ r : List Int, r ≠ [] → (x :: r).getD ((x :: r).length - 1) 0 = r.getD (r.length - 1) 0 := by
    intro r hr
    obtain ⟨y, t, rfl⟩ := List.exists_cons_of_ne_nil hr
    simp
  have hat : ∀ j, HostAt (x :: r) (j + 1) ↔ HostAt r j := by
    intro j; unfold HostAt; rw [List.getD_cons_succ, List.getD_cons_succ]
  have h0 : HostAt (x :: r) 0 ↔ (HB x ∧ ¬ (x = 46 ∧ r.getD 0 0 = 46)) := by
    unfold HostAt; rw [List.getD_cons_zero, List.getD_cons_succ]
  unfold Tail46
  constructor
  · rintro ⟨h1, h2⟩
    have a0 := h0.1 (h1 0 (by simp))
    have a1 : ∀ j, j < r.length → HostAt r j := fun j hj => (hat j).1 (h1 (j + 1) (by simp; omega))
    have a2 : r ≠ [] → r.getD (r.length - 1) 0 ≠ 46 := fun hr => by rw [← hlast r hr]; exact h2 (by simp)
    by_cases hx : x = 46
    · rw [if_pos hx]
      refine ⟨?_, fun e => a0.2 ⟨hx, e⟩, a1, a2⟩
      rintro rfl
      exact h2 (by simp) (by simpa using hx)
    · rw [if_neg hx]
      refine ⟨?_, a1, a2⟩
      have := a0.1
      unfold HB at this; unfold HB0; omega
  · by_cases hx : x = 46
    · rw [if_pos hx]
      rintro ⟨h1, h2, h3, h4⟩
      refine ⟨fun j hj => ?_, fun _ => by rw [hlast r h1]; exact h4 h1⟩
      cases j with
      | zero => exact h0.2 ⟨by unfold HB; omega, fun e => h2 e.2⟩
      | succ j => exact (hat j).2 (h3 j (by simp at hj; omega))
    · rw [if_neg hx]
      rintro ⟨h1, h3, h4⟩
      refine ⟨fun j hj => ?_, fun _ => ?_⟩
      · cases j with
        | zero => exact h0.2 ⟨by unfold HB0 at h1; unfold HB; omega, fun e => hx e.1⟩
        | succ j => exact (hat j).2 (h3 j (by simp at hj; omega))
      · cases r with
        | nil => simpa using hx
        | cons y t => rw [hlast _ (by simp)]; exact h4 (by simp)
theorem half_tail : ∀ l : List Int, Half46 l ↔ Tail46 l
  | [] => ⟨fun _ => ⟨fun j hj => absurd hj (by simp), fun h => absurd rfl h⟩, fun _ => half_nil⟩
  | x :: r => by rw [half_cons, tail_cons, half_tail r]
theorem host_parts (l : List Int) : HostOk l ↔ HostP l := by
  unfold HostOk HostP
  rw [all_of_half, half_tail]
  unfold Tail46
  constructor
  · rintro ⟨h1, h2, h3, h4, h5⟩
    exact ⟨h2, by rintro rfl; simp at h1, h3, h5, fun _ => h4⟩
  · rintro ⟨h1, h2, h3, h4, h5⟩
    exact ⟨List.length_pos_iff.2 h2, h1, h3, h5 h2, h4⟩
theorem hostP_dec (l : List Int) : decide (HostOk l) = decide (HostP l) := by
  rw [Bool.eq_iff_iff, decide_eq_true_iff, decide_eq_true_iff]; exact host_parts l
/-- Cut at the mark behind a scheme. -/
theorem cut_mark : ∀ l : List UInt8, nb (Lib.cut l [58, 47, 47]).1 = (cut3 (nb l)).1 ∧ nb (Lib.cut l [58, 47, 47]).2.1 = (cut3 (nb l)).2
  | [] => by rw [cut_nil (by simp)]; exact ⟨rfl, rfl⟩
  | b :: l => by
    have ih := cut_mark l
    rw [cut_cons, pre_begI]
    have e : nb (b :: l) = (b.toNat : Int) :: nb l := rfl
    have e2 : nb [58, 47, 47] = [58, 47, 47] := by decide
    rw [e2, e]
    unfold cut3
    by_cases h : begI [58, 47, 47] ((b.toNat : Int) :: nb l) = true
    · rw [if_pos h, if_pos h]
      refine ⟨rfl, ?_⟩
      show nb ((b :: l).drop 3) = _
      rw [← e]
      unfold nb
      rw [List.map_drop]
    · rw [if_neg h, if_neg h]
      exact ⟨by show (b.toNat : Int) :: nb _ = _; rw [ih.1], ih.2⟩
/-- The parts. -/
theorem index_cons (b : UInt8) (l : List UInt8) (c : UInt8) : Lib.index (b :: l) [c] = if b = c then 0 else if Lib.index l [c] = -1 then -1 else Lib.index l [c] + 1 := by
  rw [show Lib.index (b :: l) [c] = if ([c] : List UInt8).isPrefixOf (b :: l) then 0 else if Lib.index l [c] == -1 then -1 else Lib.index l [c] + 1 from rfl]
  by_cases h : b = c
  · subst h; simp
  · rw [if_neg (by simp; exact fun e => h e.symm), if_neg h]
    by_cases h1 : Lib.index l [c] = -1
    · rw [if_pos h1, h1]; rfl
    · rw [if_neg h1, if_neg (by simpa using h1)]
theorem splitK_go {b c : UInt8} (h : b ≠ c) (k : Nat) (l : List UInt8) : Lib.splitK [c] 0 k (b :: l) = (b :: (Lib.splitK [c] 0 k l).headD []) :: (Lib.splitK [c] 0 k l).tail := by
  cases k with
  | zero => rfl
  | succ k =>
    have hge := Lib.index_ge l [c]
    unfold Lib.splitK
    rw [index_cons, if_neg h]
    by_cases h1 : Lib.index l [c] = -1
    · rw [if_pos h1, h1]; rfl
    · rw [if_neg h1]
      obtain ⟨i, hi⟩ : ∃ i : Nat, Lib.index l [c] = i := ⟨(Lib.index l [c]).toNat, by omega⟩
      rw [hi, if_neg (by simp; omega), if_neg (by simp)]
      have e1 : ((i : Int) + 1).toNat = i + 1 := by omega
      rw [e1, Int.toNat_natCast]
      simp [Nat.add_right_comm]
theorem splitK_one (c : UInt8) : ∀ l : List UInt8, (Lib.splitK [c] 0 (Lib.count l [c]) l).map nb = splI (c.toNat : Int) (nb l)
  | [] => by
    rw [Lib.count_one]
    rfl
  | b :: l => by
    have ih := splitK_one c l
    have e : nb (b :: l) = (b.toNat : Int) :: nb l := rfl
    by_cases h : b = c
    · subst h
      rw [Lib.count_cons_eq, Nat.add_comm 1, e, splI_hit, ← ih]
      have e1 : ∀ k, Lib.splitK [b] 0 (k + 1) (b :: l) = [] :: Lib.splitK [b] 0 k l := by
        intro k
        rw [Lib.splitK, index_cons, if_pos rfl, if_neg (by decide)]
        simp
      rw [e1]
      rfl
    · rw [Lib.count_cons_ne _ _ _ h, splitK_go h, e, splI_go (fun x => h ((nb_eq _ _).1 x)), ← ih]
      cases Lib.splitK [c] 0 (Lib.count l [c]) l <;> simp [nb]
theorem splitB_sb (s : ByteArray) (c : UInt8) : (Lib.splitB ⟨#[c]⟩ 0 (Lib.countB s ⟨#[c]⟩) s) = (splI (c.toNat : Int) (sb s)).map strOfNums := by
  have h1 := Lib.splitB_data ⟨#[c]⟩ 0 (Lib.countB s ⟨#[c]⟩) s
  have h2 := splitK_one c s.data.toList
  have e : (Lib.splitB ⟨#[c]⟩ 0 (Lib.countB s ⟨#[c]⟩) s).map sb = splI (c.toNat : Int) (sb s) := by
    rw [sb_nb s, ← h2]
    show List.map sb _ = (Lib.splitK [c] 0 (Lib.countB s ⟨#[c]⟩) s.data.toList).map nb
    rw [← h1, List.map_map]
    rfl
  rw [← e, List.map_map]
  conv => lhs; rw [← List.map_id (Lib.splitB ⟨#[c]⟩ 0 (Lib.countB s ⟨#[c]⟩) s)]
  apply List.map_congr_left
  intro x _
  exact (str_sb x).symm
theorem countB_splI (s : ByteArray) (c : UInt8) : Lib.countB s ⟨#[c]⟩ + 1 = (splI (c.toNat : Int) (sb s)).length := by
  have h := Lib.splitB_all ⟨#[c]⟩ (Nat.le_refl 1) 0 _ s rfl
  rw [splitB_sb, List.length_map] at h
  exact h.symm
end Go.Proofs.YtlcolabblpikjaaGreatDoor
/-
  The texts of URLs that the statements make of numbers.
-/
namespace Go.Proofs.YtlcolabblpikjaaGreatDoor
set_option linter.unusedVariables false
set_option linter.unusedSimpArgs false
set_option maxRecDepth 20000
open Go.RowKit

def purls : List ByteArray := [⟨#[104, 116, 116, 112, 58, 47, 47, 97, 46, 98, 47]⟩, ⟨#[104, 116, 116, 112, 115, 58, 47, 47, 97, 46, 98, 47]⟩, ⟨#[104, 116, 116, 112, 115, 58, 47, 47, 97, 46, 98, 47, 120]⟩, ⟨#[104, 116, 116, 112, 58, 47, 47, 97, 46, 98, 47, 120]⟩, ⟨#[104, 116, 116, 112, 115, 58, 47, 47, 99, 46, 100, 47]⟩, ⟨#[104, 116, 116, 112, 115, 58, 47, 47, 99, 46, 100, 47, 112, 63, 113]⟩, ⟨#[104, 116, 116, 112, 115, 58, 47, 47, 99, 46, 100, 58, 56, 47]⟩, ⟨#[104, 116, 116, 112, 58, 47, 47, 99, 46, 100, 47]⟩, ⟨#[104, 116, 116, 112, 115, 58, 47, 47, 115, 46, 99, 46, 100, 47, 121]⟩, ⟨#[104, 116, 116, 112, 58, 47, 47, 108, 111, 99, 97, 108, 104, 111, 115, 116, 47, 108]⟩, ⟨#[104, 116, 116, 112, 115, 58, 47, 47, 97, 46, 98, 47, 122]⟩, ⟨#[104, 116, 116, 112, 115, 58, 47, 47, 97, 46, 98, 58, 56, 47]⟩]
def purl (n : Int) : ByteArray := purls.getD (n % 12).toNat ⟨#[]⟩
def podds (s : ByteArray) : List ByteArray := [⟨#[]⟩, ⟨#[97, 46, 98]⟩, ⟨#[47, 120]⟩, ⟨#[47, 47, 99, 46, 100, 47, 120]⟩, ⟨#[104, 116, 116, 112, 58, 47, 97, 46, 98]⟩, ⟨#[104, 116, 116, 112, 58, 47, 47]⟩, ⟨#[72, 84, 84, 80, 58, 47, 47, 65, 46, 66, 58, 56, 48, 47, 120]⟩, ⟨#[104, 116, 116, 112, 115, 58, 47, 47, 97, 46, 98, 58, 52, 52, 51]⟩, ⟨#[104, 116, 116, 112, 58, 47, 47, 97, 46, 98, 58, 52, 52, 51]⟩, ⟨#[104, 116, 116, 112, 58, 47, 47, 97, 46, 98, 58, 57, 57, 57, 57, 57]⟩, ⟨#[104, 116, 116, 112, 58, 47, 47, 97, 46, 98, 58]⟩, ⟨#[104, 116, 116, 112, 58, 47, 47, 97, 46, 98, 58, 48, 47]⟩, ⟨#[104, 116, 116, 112, 58, 47, 47, 97, 46, 46, 98, 47]⟩, ⟨#[104, 116, 116, 112, 58, 47, 47, 46, 97, 47]⟩, ⟨#[104, 116, 116, 112, 58, 47, 47, 97, 46, 47]⟩, ⟨#[104, 116, 116, 112, 58, 47, 47, 97, 95, 98, 47]⟩, ⟨#[104, 116, 116, 112, 58, 47, 47, 117, 64, 97, 46, 98, 47]⟩, ⟨#[32, 104, 116, 116, 112, 58, 47, 47, 97, 46, 98, 47, 195, 169, 32]⟩, ⟨#[104, 116, 116, 112, 58, 47, 47, 97, 46, 98, 47, 37, 122, 122]⟩, ⟨#[104, 116, 116, 112, 58, 47, 47, 97, 46, 98, 47, 97, 32, 98, 63, 99, 32, 100, 35, 101]⟩, ⟨#[104, 116, 116, 112, 58, 47, 47, 97, 46, 98, 63, 120]⟩, ⟨#[104, 116, 116, 112, 58, 47, 47, 97, 46, 98, 35, 102]⟩, ⟨#[104, 116, 116, 112, 58, 47, 47, 97, 46, 98, 47, 46, 47, 97, 47, 46, 46, 47, 98, 47, 46]⟩, ⟨#[104, 116, 116, 112, 58, 47, 47, 97, 46, 98, 47, 46, 46]⟩, ⟨#[104, 116, 116, 112, 58, 47, 47, 97, 46, 98, 47, 47, 46, 46]⟩, ⟨#[104, 116, 116, 112, 58, 47, 47, 97, 46, 98, 47, 97, 47, 47, 46, 46]⟩, ⟨#[102, 116, 112, 58, 47, 47, 97, 46, 98, 47]⟩, ⟨#[104, 116, 116, 112, 115, 58, 47, 47, 97, 98, 99, 100, 101, 102, 103, 104, 105, 106, 107, 108, 109, 110, 111, 112, 113, 114, 115, 116, 117, 47]⟩, ⟨#[104, 116, 116, 112, 115, 58, 47, 47, 97, 46, 98, 47, 48, 49, 50, 51, 52, 53, 54, 55, 56, 57, 48, 49, 50, 51, 52, 53, 54, 55, 56, 57, 48, 49, 50, 51, 52, 53, 54, 55]⟩, ⟨#[104, 116, 116, 112, 58, 47, 47, 97, 46, 98, 47, 48, 49, 50, 51, 52, 53, 54, 55, 56, 57, 48, 49, 50, 51, 52, 53, 54, 55, 56, 57, 48, 49, 50, 51, 52, 53, 54, 55, 56, 57, 48, 49]⟩, ⟨#[104, 116, 116, 112, 58, 47, 47, 97, 46, 98, 47, 63]⟩, ⟨#[104, 116, 116, 112, 58, 47, 47, 97, 46, 98, 47, 63, 63]⟩, ⟨#[104, 116, 116, 112, 58, 47, 47, 97, 46, 98, 47, 97, 63, 98, 47, 46, 46, 47, 99]⟩, ⟨#[104, 116, 116, 112, 115, 58, 47, 47, 99, 46, 100, 47, 46, 46, 47, 46, 46, 47, 47, 120]⟩, s, (⟨#[104, 116, 116, 112, 58, 47, 47, 97, 46, 98, 47]⟩ : ByteArray) ++ s, (⟨#[104, 116, 116, 112, 115, 58, 47, 47]⟩ : ByteArray) ++ s ++ (⟨#[47]⟩ : ByteArray), (⟨#[47]⟩ : ByteArray) ++ s]
def podd (n : Int) (s : ByteArray) : ByteArray := if n % 4 < 2 then purl (n.tdiv 4) else (podds s).getD (n.tdiv 4 % 38).toNat ⟨#[]⟩
theorem at_c {w : World} (n : Int) (v : Value) (ss : List ByteArray) (hv : Vs w v (sv ss)) (h1 : 1 ≤ ss.length) (h2 : ss.length ≤ 1000000000) : Calls Tryz.prog 34 #[.int .i64 n, v] w fun e w' => e = .returned (.string (ss.getD (n % (ss.length : Int)).toNat ⟨#[]⟩)) ∧ w = w' := by
  obtain ⟨A, m, c, rfl, hm, hc, hA⟩ := hv
  rw [length_sv] at hm
  subst hm
  obtain ⟨ad, rfl, hcell⟩ := hA (by omega)
  have hj : (n % (ss.length : Int)).toNat < ss.length := by
    have h3 := Int.emod_nonneg n (show (ss.length : Int) ≠ 0 by omega)
    have h4 := Int.emod_lt_of_pos n (show (0 : Int) < ss.length by omega)
    omega
  have hw := within_n (w := w) n ss.length (by omega) (by omega)
  generalize hjj : (n % (ss.length : Int)).toNat = j at *
  have hcj := hcell j (.string ss[j]) (by simp [sv, hj])
  rw [List.getD_eq_getElem?_getD, List.getElem?_eq_getElem hj, Option.getD_some]
  generalize ss[j] = x at *
  have hjI : (j : Int) < ss.length := by omega
  have HW := Lib.hid hw
  clear hw hcell hA hjj hj
  go_enter Tryz.func34, Tryz.ntmps34
  go_wp2_with fail
  with_reducible refine HW.out.mono ?_
  rintro e w1 ⟨rfl, rfl⟩
  go_wp2
  go_ret
  exact ⟨rfl, rfl⟩
theorem purl_c {w0 w : World} {R : Blks} (hO : Own w0 w R) (n : Int) : Calls Tryz.prog 14 #[.int .i64 n] w fun e w' => e = .returned (.string (purl n)) ∧ Own w0 w' R := by
  have HO := Lib.hid hO
  clear hO
  obtain ⟨r, hr⟩ : ∃ r, purl n = r := ⟨_, rfl⟩
  have HR := Lib.hid hr
  rw [hr]
  clear hr
  go_enter Tryz.func14, Tryz.ntmps14
  go_wp2_with fail
  generalize hwx : w.alloc _ = wx
  have hV : Vs wx (.slice (some ⟨w.heap.size, 0, none⟩) 12 12) (sv purls) := by rw [← hwx]; exact vs_new (sv purls) 12 rfl
  have hO2 : Own w0 wx ((w.heap.size, .cells (sv purls).toArray 9) :: R) := by rw [← hwx]; exact HO.out.alloc (.cells (sv purls).toArray 9)
  have hcall := at_c (w := wx) n _ purls hV (by decide) (by decide)
  rw [show purls.getD (n % (purls.length : Int)).toNat ⟨#[]⟩ = r from HR.out] at hcall
  have HO2 := Lib.hid hO2.tail
  with_reducible refine hcall.mono ?_
  clear hcall hO2 hV hwx
  rintro e w1 ⟨rfl, rfl⟩
  go_wp2
  go_ret
  exact ⟨rfl, HO2.out⟩
set_option maxHeartbeats 4000000 in
theorem podd_c {w0 w : World} {R : Blks} (hO : Own w0 w R) (n : Int) (hn : (Lit.int .i64 n).wf = true) (s : ByteArray) (hs : s.size ≤ 1000000000) : Calls Tryz.prog 16 #[.int .i64 n, .string s] w fun e w' => e = .returned (.string (podd n s)) ∧ Own w0 w' R := by
  have HO := Lib.hid hO
  have hw4 := within_c (w := w) n 4 (by omega) (by omega)
  have hq : -4611686018427387904 ≤ n.tdiv 4 ∧ n.tdiv 4 ≤ 4611686018427387904 := by
    have hb := bounds_i64 hn
    rcases Int.le_total 0 n with h | h
    · rw [Int.tdiv_eq_ediv_of_nonneg h]; omega
    · have e : n.tdiv 4 = -((-n).tdiv 4) := by have := Int.neg_tdiv (-n) 4; rwa [Int.neg_neg] at this
      rw [e, Int.tdiv_eq_ediv_of_nonneg (by omega)]; omega
  obtain ⟨r, hr⟩ : ∃ r, podd n s = r := ⟨_, rfl⟩
  rw [hr]
  have HR := Lib.hid hr
  have HW := Lib.hid hw4
  have hn4 : 0 ≤ n % 4 ∧ n % 4 < 4 := by omega
  clear hO hw4 hr
  by_cases h2 : n % 4 < 2
  · have hr2 : purl (n.tdiv 4) = r := by rw [← HR.out]; unfold podd; rw [if_pos h2]
    have HR2 := Lib.hid hr2
    clear hr2
    go_enter Tryz.func16, Tryz.ntmps16
    go_wp2_with fail
    with_reducible refine HW.out.mono ?_
    rintro e w1 ⟨rfl, rfl⟩
    go_wp2_with fail
    have hcall := purl_c HO.out (n.tdiv 4)
    rw [HR2.out] at hcall
    with_reducible refine hcall.mono ?_
    clear hcall
    rintro e w2 ⟨rfl, hO2⟩
    have HO2 := Lib.hid hO2; clear hO2 HO
    go_wp2
    go_ret
    exact ⟨rfl, HO2.out⟩
  · have hr2 : (podds s).getD (n.tdiv 4 % 38).toNat ⟨#[]⟩ = r := by rw [← HR.out]; unfold podd; rw [if_neg h2]
    have HR2 := Lib.hid hr2
    have n1 : ¬ (9223372036854775807 < 11 + s.size) := by omega
    have n2 : ¬ (9223372036854775807 < 8 + s.size) := by omega
    have n3 : ¬ (9223372036854775807 < 8 + s.size + 1) := by omega
    have n4 : ¬ (9223372036854775807 < 1 + s.size) := by omega
    clear hr2
    go_enter Tryz.func16, Tryz.ntmps16
    go_wp2_with fail
    with_reducible refine HW.out.mono ?_
    rintro e w1 ⟨rfl, rfl⟩
    go_wp2_with fail
    generalize hwx : w.alloc _ = wx
    have hV : Vs wx (.slice (some ⟨w.heap.size, 0, none⟩) 38 38) (sv (podds s)) := by rw [← hwx]; exact vs_new (sv (podds s)) 38 rfl
    have hO2 : Own w0 wx ((w.heap.size, .cells (sv (podds s)).toArray 9) :: R) := by rw [← hwx]; exact HO.out.alloc (.cells (sv (podds s)).toArray 9)
    have hcall := at_c (w := wx) (n.tdiv 4) _ (podds s) hV (by show 1 ≤ 38; omega) (by show 38 ≤ 1000000000; omega)
    rw [show (podds s).getD (n.tdiv 4 % ((podds s).length : Int)).toNat ⟨#[]⟩ = r from HR2.out] at hcall
    have HO2 := Lib.hid hO2.tail
    with_reducible refine hcall.mono ?_
    clear hcall hO2 hV hwx
    rintro e w2 ⟨rfl, rfl⟩
    go_wp2
    go_ret
    exact ⟨rfl, HO2.out⟩
end Go.Proofs.YtlcolabblpikjaaGreatDoor
/-
  Package url: what its calls answer, as the laws take it.
-/
namespace Go.Proofs.YtlcolabblpikjaaGreatDoor
set_option linter.unusedVariables false
set_option linter.unusedSimpArgs false
set_option maxRecDepth 20000
open Go.RowKit

theorem url_size : (Tryz.prog.info? 49).map (·.size) = some 5 := by kernel_rfl
theorem alloc_url (w : World) : (Instr.alloc 49 true (.tuple #[])).run Tryz.prog w = .ok (.pointer (some ⟨w.heap.size, 0, none⟩)) (w.alloc (.cells UL.zero.val.toArray 49)) := by kernel_rfl
/-- A URL and OK, or none and ErrForm. -/
def GotE (w0 : World) (R : Blks) (o : Option UL) (e : Ending) (w' : World) : Prop := e = .returned (.tuple #[.agg (o.getD UL.zero).val.toArray, .int .i64 (if o.isSome then 0 else 2)]) ∧ Own w0 w' R
/-- Fine but for its path and query. -/
structure UL.Half (u : UL) : Prop where
  sch : u.sch = httpI ∨ u.sch = httpsI
  host : HostOk u.host
  hostB : Byt u.host
  port0 : 0 ≤ u.port
  port1 : u.port < 100000
  path : u.path.length ≤ 1000000000
  query : u.query.length ≤ 1000000000
theorem UL.Fine.half {u : UL} (h : u.Fine) : u.Half := ⟨h.sch, h.host, h.hostB, h.port0, h.port1, by have := h.lens; omega, by have := h.lens; omega⟩
theorem UL.Half.schB {u : UL} (h : u.Half) : Byt u.sch := by rcases h.sch with e | e <;> rw [e]; exact http_byt; exact https_byt
theorem UL.Half.schl {u : UL} (h : u.Half) : u.sch.length ≤ 5 := by rcases h.sch with e | e <;> rw [e] <;> decide
theorem UL.Half.ok {u : UL} (h : u.Half) : u.Ok := ⟨by have := h.schl; omega, by have := h.host.2.1; omega, h.path, h.query, h.port0, by have := h.port1; omega⟩
end Go.Proofs.YtlcolabblpikjaaGreatDoor
/-
  Package-level variables; the library's calls (cuts, parts, digits) in the words of these texts.
-/
namespace Go.Proofs.YtlcolabblpikjaaGreatDoor
set_option linter.unusedVariables false
set_option linter.unusedSimpArgs false
set_option maxRecDepth 20000
open Go.RowKit

section
variable {w0 w : World} {R : Blks}
/-- A cut at a byte. -/
theorem lcut_c (hV : VarsOk w0) (hO : Own w0 w R) (s : ByteArray) (hs : s.size ≤ 1073741824) (c : UInt8) (k : Int) (hk : (c.toNat : Int) = k) :
    Calls Tryz.prog 50 #[.string s, .string ⟨#[c]⟩] w fun e w' => e = .returned (.tuple #[.string (strOfNums (ahead [k] (sb s))), .string (strOfNums ((behind [k] (sb s)).drop 1)), .bool (decide (behind [k] (sb s) ≠ []))]) ∧ Own w0 w' R := by
  obtain ⟨m, hm⟩ := (hV.on hO.below).most
  refine (Tryz.strings_Cut s ⟨#[c]⟩ m w (by omega) hm).mono fun e w' ⟨he, n, hw⟩ => ?_
  have h := cut_one c s.data.toList
  rw [hk] at h
  refine ⟨?_, hw ▸ hO.drewN n⟩
  rw [he, sb_nb s]
  show Ending.returned (.tuple #[.string ⟨(Lib.cut s.data.toList [c]).1.toArray⟩, .string ⟨(Lib.cut s.data.toList [c]).2.1.toArray⟩, .bool (Lib.cut s.data.toList [c]).2.2]) = _
  rw [nb_str (Lib.cut s.data.toList [c]).1, nb_str (Lib.cut s.data.toList [c]).2.1]
  rw [h.1, h.2.1, h.2.2]
/-- A cut at the mark behind a scheme. -/
theorem lcut3_c (hV : VarsOk w0) (hO : Own w0 w R) (s : ByteArray) (hs : s.size ≤ 1073741824) :
    Calls Tryz.prog 50 #[.string s, .string ⟨#[58, 47, 47]⟩] w fun e w' => e = .returned (.tuple #[.string (strOfNums (cut3 (sb s)).1), .string (strOfNums (cut3 (sb s)).2), .bool (Lib.cut s.data.toList [58, 47, 47]).2.2]) ∧ Own w0 w' R := by
  obtain ⟨m, hm⟩ := (hV.on hO.below).most
  refine (Tryz.strings_Cut s ⟨#[58, 47, 47]⟩ m w (by omega) hm).mono fun e w' ⟨he, n, hw⟩ => ?_
  have h := cut_mark s.data.toList
  refine ⟨?_, hw ▸ hO.drewN n⟩
  rw [he, sb_nb s]
  show Ending.returned (.tuple #[.string ⟨(Lib.cut s.data.toList [58, 47, 47]).1.toArray⟩, .string ⟨(Lib.cut s.data.toList [58, 47, 47]).2.1.toArray⟩, .bool (Lib.cut s.data.toList [58, 47, 47]).2.2]) = _
  rw [nb_str (Lib.cut s.data.toList [58, 47, 47]).1, nb_str (Lib.cut s.data.toList [58, 47, 47]).2.1]
  rw [h.1, h.2]
/-- The parts between points. -/
theorem lsplit_c (hV : VarsOk w0) (hO : Own w0 w R) (s : ByteArray) (hs : s.size ≤ 1073741824) :
    Calls Tryz.prog 51 #[.string s, .string ⟨#[46]⟩] w fun e w' => ∃ v L, e = .returned v ∧ IsStrs v ((splI 46 (sb s)).map strOfNums) L ∧ Own w0 w' (L ++ R) := by
  obtain ⟨m, hm⟩ := (hV.on hO.below).most
  refine (Tryz.strings_Split s ⟨#[46]⟩ m w (by omega) hm (Nat.le_refl 1)).mono fun e w' ⟨he, hw⟩ => ?_
  have hl := splI_len 46 (sb s)
  rw [length_sb] at hl
  rw [countB_splI] at he
  rw [splitB_sb] at hw
  rw [show ((46 : UInt8).toNat : Int) = 46 from rfl] at he hw
  refine ⟨_, [(w.heap.size, .cells (sv ((splI 46 (sb s)).map strOfNums)).toArray 9)], he, ?_, ?_⟩
  · refine ⟨by simp, .inr ⟨w.heap.size, (splI 46 (sb s)).length, [], by rw [List.length_map], by rw [List.append_nil], by rw [List.append_nil]; simp, by simp, by unfold maxLen; omega⟩⟩
  · rw [hw]; exact hO.alloc _
/-- The digits of a number. -/
theorem litoa_c (hV : VarsOk w0) (hO : Own w0 w R) (n : Int) (h0 : 0 ≤ n) (h1 : n < 1000000000000000000) :
    Calls Tryz.prog 22 #[.int .i64 n] w fun e w' => e = .returned (.string (strOfNums (digs n.toNat))) ∧ Own w0 w' R := by
  have ht := (hV.on hO.below).tens
  refine (Tryz.strconv_Itoa n (by omega) (by omega) w ht).mono fun e w' ⟨he, k, os, hw⟩ => ?_
  obtain ⟨m, rfl⟩ : ∃ m : Nat, n = m := ⟨n.toNat, by omega⟩
  rw [itoa_digs m (by omega)] at he
  refine ⟨he, hO.same ?_⟩
  subst hw
  refine ⟨rfl, rfl, rfl, ?_, fun j hj => ?_⟩
  · show w.heap.size ≤ (w.heap ++ os).size
    rw [Array.size_append]; omega
  · show (w.heap ++ os)[j]? = w.heap[j]?
    rw [Array.getElem?_append_left hj]
end
end Go.Proofs.YtlcolabblpikjaaGreatDoor
