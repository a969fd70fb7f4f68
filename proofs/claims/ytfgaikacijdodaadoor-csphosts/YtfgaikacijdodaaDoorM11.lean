/-
  Texts that the laws stand on: Ply1, Csp6, Csp8, Csp10.
-/
import Derived.Test.YtfgaikacijdodaaDoorM1
import Derived.Test.YtfgaikacijdodaaDoorM3
import Derived.Test.YtfgaikacijdodaaDoorM9
import Derived.Test.YtfgaikacijdodaaDoorM10

/-
  The statements' own makers of URLs: at, URL, Odd.
-/
namespace Go.Proofs.YtfgaikacijdodaaDoor
set_option linter.unusedVariables false
set_option linter.unusedSimpArgs false
set_option maxRecDepth 20000
open Go.RowKit

def urlB : List ByteArray := [⟨#[104, 116, 116, 112, 58, 47, 47, 97, 46, 98, 47]⟩, ⟨#[104, 116, 116, 112, 115, 58, 47, 47, 97, 46, 98, 47]⟩, ⟨#[104, 116, 116, 112, 115, 58, 47, 47, 97, 46, 98, 47, 120]⟩, ⟨#[104, 116, 116, 112, 58, 47, 47, 97, 46, 98, 47, 120]⟩, ⟨#[104, 116, 116, 112, 115, 58, 47, 47, 99, 46, 100, 47]⟩, ⟨#[104, 116, 116, 112, 115, 58, 47, 47, 99, 46, 100, 47, 112, 63, 113]⟩, ⟨#[104, 116, 116, 112, 115, 58, 47, 47, 99, 46, 100, 58, 56, 47]⟩, ⟨#[104, 116, 116, 112, 58, 47, 47, 99, 46, 100, 47]⟩, ⟨#[104, 116, 116, 112, 115, 58, 47, 47, 115, 46, 99, 46, 100, 47, 121]⟩, ⟨#[104, 116, 116, 112, 58, 47, 47, 108, 111, 99, 97, 108, 104, 111, 115, 116, 47, 108]⟩, ⟨#[104, 116, 116, 112, 115, 58, 47, 47, 97, 46, 98, 47, 122]⟩, ⟨#[104, 116, 116, 112, 115, 58, 47, 47, 97, 46, 98, 58, 56, 47]⟩]
theorem urlB_size : ∀ s ∈ urlB, s.size ≤ 20 := by decide
def oddB : List ByteArray := [⟨#[]⟩, ⟨#[97, 46, 98]⟩, ⟨#[47, 120]⟩, ⟨#[47, 47, 99, 46, 100, 47, 120]⟩, ⟨#[104, 116, 116, 112, 58, 47, 97, 46, 98]⟩, ⟨#[104, 116, 116, 112, 58, 47, 47]⟩, ⟨#[72, 84, 84, 80, 58, 47, 47, 65, 46, 66, 58, 56, 48, 47, 120]⟩, ⟨#[104, 116, 116, 112, 115, 58, 47, 47, 97, 46, 98, 58, 52, 52, 51]⟩, ⟨#[104, 116, 116, 112, 58, 47, 47, 97, 46, 98, 58, 52, 52, 51]⟩, ⟨#[104, 116, 116, 112, 58, 47, 47, 97, 46, 98, 58, 57, 57, 57, 57, 57]⟩, ⟨#[104, 116, 116, 112, 58, 47, 47, 97, 46, 98, 58]⟩, ⟨#[104, 116, 116, 112, 58, 47, 47, 97, 46, 98, 58, 48, 47]⟩, ⟨#[104, 116, 116, 112, 58, 47, 47, 97, 46, 46, 98, 47]⟩, ⟨#[104, 116, 116, 112, 58, 47, 47, 46, 97, 47]⟩, ⟨#[104, 116, 116, 112, 58, 47, 47, 97, 46, 47]⟩, ⟨#[104, 116, 116, 112, 58, 47, 47, 97, 95, 98, 47]⟩, ⟨#[104, 116, 116, 112, 58, 47, 47, 117, 64, 97, 46, 98, 47]⟩, ⟨#[32, 104, 116, 116, 112, 58, 47, 47, 97, 46, 98, 47, 195, 169, 32]⟩, ⟨#[104, 116, 116, 112, 58, 47, 47, 97, 46, 98, 47, 37, 122, 122]⟩, ⟨#[104, 116, 116, 112, 58, 47, 47, 97, 46, 98, 47, 97, 32, 98, 63, 99, 32, 100, 35, 101]⟩, ⟨#[104, 116, 116, 112, 58, 47, 47, 97, 46, 98, 63, 120]⟩, ⟨#[104, 116, 116, 112, 58, 47, 47, 97, 46, 98, 35, 102]⟩, ⟨#[104, 116, 116, 112, 58, 47, 47, 97, 46, 98, 47, 46, 47, 97, 47, 46, 46, 47, 98, 47, 46]⟩, ⟨#[104, 116, 116, 112, 58, 47, 47, 97, 46, 98, 47, 46, 46]⟩, ⟨#[104, 116, 116, 112, 58, 47, 47, 97, 46, 98, 47, 47, 46, 46]⟩, ⟨#[104, 116, 116, 112, 58, 47, 47, 97, 46, 98, 47, 97, 47, 47, 46, 46]⟩, ⟨#[102, 116, 112, 58, 47, 47, 97, 46, 98, 47]⟩, ⟨#[104, 116, 116, 112, 115, 58, 47, 47, 97, 98, 99, 100, 101, 102, 103, 104, 105, 106, 107, 108, 109, 110, 111, 112, 113, 114, 115, 116, 117, 47]⟩, ⟨#[104, 116, 116, 112, 115, 58, 47, 47, 97, 46, 98, 47, 48, 49, 50, 51, 52, 53, 54, 55, 56, 57, 48, 49, 50, 51, 52, 53, 54, 55, 56, 57, 48, 49, 50, 51, 52, 53, 54, 55]⟩, ⟨#[104, 116, 116, 112, 58, 47, 47, 97, 46, 98, 47, 48, 49, 50, 51, 52, 53, 54, 55, 56, 57, 48, 49, 50, 51, 52, 53, 54, 55, 56, 57, 48, 49, 50, 51, 52, 53, 54, 55, 56, 57, 48, 49]⟩, ⟨#[104, 116, 116, 112, 58, 47, 47, 97, 46, 98, 47, 63]⟩, ⟨#[104, 116, 116, 112, 58, 47, 47, 97, 46, 98, 47, 63, 63]⟩, ⟨#[104, 116, 116, 112, 58, 47, 47, 97, 46, 98, 47, 97, 63, 98, 47, 46, 46, 47, 99]⟩, ⟨#[104, 116, 116, 112, 115, 58, 47, 47, 99, 46, 100, 47, 46, 46, 47, 46, 46, 47, 47, 120]⟩]
theorem oddB_size : ∀ s ∈ oddB, s.size ≤ 60 := by decide
set_option maxHeartbeats 2000000 in
theorem qat_c {w : World} (n : Int) (v : Value) (ss : List ByteArray) (hV : Vs w v (sv ss)) (h0 : 0 < ss.length) (h1 : ss.length ≤ 1000) :
    Calls Tryd.prog 29 #[.int .i64 n, v] w fun e w' => (∃ s, s ∈ ss ∧ e = .returned (.string s)) ∧ w = w' := by
  obtain ⟨A, m, c, rfl, hm, hmc, hA⟩ := hV
  rw [length_sv] at hm
  obtain ⟨ad, rfl, hcell⟩ := hA (by omega)
  have q1 := within_n (w := w) n m (by omega) (by omega)
  have hj : (n % (m : Int)).toNat < m := by
    have h2 := Int.emod_lt_of_pos n (show (0 : Int) < m by omega)
    omega
  generalize (n % (m : Int)).toNat = j at *
  have hjs : j < ss.length := by omega
  have hc := hcell j (.string ss[j]) (by unfold sv; rw [List.getElem?_map, List.getElem?_eq_getElem hjs]; rfl)
  have hmem : ss[j] ∈ ss := List.getElem_mem hjs
  generalize ss[j] = s at *
  have HM := Lib.hid hmem
  have hjI : (j : Int) < m := by omega
  clear hcell hA hmem hjs hm h0 h1
  go_enter Tryd.func29, Tryd.ntmps29
  go_wp2_with fail
  with_reducible refine q1.mono ?_
  clear q1
  rintro e wq ⟨rfl, hww⟩
  subst hww
  go_wp2
  go_ret
  exact ⟨⟨s, HM.out, rfl⟩, rfl⟩
set_option maxHeartbeats 2000000 in
theorem qurl_c {w0 w : World} {R : Blks} (hO : Own w0 w R) (n : Int) :
    Calls Tryd.prog 14 #[.int .i64 n] w fun e w' => ∃ s, e = .returned (.string s) ∧ s.size ≤ 20 ∧ Own w0 w' R := by
  have HO := Lib.hid hO
  clear hO
  go_enter Tryd.func14, Tryd.ntmps14
  go_wp2_with fail
  generalize hwx : w.alloc _ = w2
  have hO2 : Own w0 w2 ((w.heap.size, .cells (sv urlB).toArray 9) :: R) := by rw [← hwx]; exact HO.out.alloc _
  have hvs : Vs w2 (.slice (some ⟨w.heap.size, 0, none⟩) 12 12) (sv urlB) := by rw [← hwx]; exact vs_new _ 12 rfl
  have HO2 := Lib.hid hO2
  have hat := qat_c n _ urlB hvs (by decide) (by decide)
  clear hwx hO2 HO hvs
  with_reducible refine hat.mono ?_
  clear hat
  rintro e w3 ⟨⟨s, hs, rfl⟩, hww⟩
  subst hww
  have HS := Lib.hid (urlB_size s hs)
  clear hs
  go_wp2
  go_ret
  exact ⟨s, rfl, HS.out, HO2.out.tail⟩
end Go.Proofs.YtfgaikacijdodaaDoor
/-
  The statements' own makers: lists of sources; URLs that are URLs.
-/
namespace Go.Proofs.YtfgaikacijdodaaDoor
set_option linter.unusedVariables false
set_option linter.unusedSimpArgs false
set_option maxRecDepth 20000
open Go.RowKit

def listB : List ByteArray := [⟨#[]⟩, ⟨#[39, 115, 101, 108, 102, 39]⟩, ⟨#[42]⟩, ⟨#[39, 110, 111, 110, 101, 39]⟩, ⟨#[104, 116, 116, 112, 115, 58]⟩, ⟨#[104, 116, 116, 112, 58]⟩, ⟨#[99, 46, 100]⟩, ⟨#[42, 46, 99, 46, 100]⟩, ⟨#[104, 116, 116, 112, 115, 58, 47, 47, 99, 46, 100]⟩, ⟨#[104, 116, 116, 112, 58, 47, 47, 99, 46, 100, 58, 42]⟩, ⟨#[99, 46, 100, 58, 56]⟩, ⟨#[97, 46, 98, 58, 56]⟩, ⟨#[108, 111, 99, 97, 108, 104, 111, 115, 116]⟩, ⟨#[39, 83, 69, 76, 70, 39, 32, 67, 46, 68]⟩, ⟨#[97, 46, 98, 32, 99, 46, 100]⟩, ⟨#[104, 116, 116, 112, 115, 58, 32, 39, 115, 101, 108, 102, 39]⟩, ⟨#[39, 110, 111, 110, 101, 39, 32, 42]⟩, ⟨#[104, 116, 116, 112, 58, 47, 47]⟩, ⟨#[99, 46, 100, 58]⟩, ⟨#[99, 46, 100, 58, 120]⟩, ⟨#[42, 46]⟩, ⟨#[42, 46, 42, 46, 100]⟩, ⟨#[97, 46, 98, 58, 57, 57, 57, 57, 57]⟩, ⟨#[104, 116, 116, 112, 58, 56, 48]⟩, ⟨#[32, 32]⟩, ⟨#[32, 99, 46, 100, 32, 32, 97, 46, 98, 32]⟩, ⟨#[104, 116, 116, 112, 115, 58, 47, 47, 99, 46, 100, 47]⟩, ⟨#[115, 46, 99, 46, 100]⟩, ⟨#[99, 46, 100, 58, 52, 52, 51, 32, 97, 46, 98, 58, 56, 48]⟩]
theorem listB_size : ∀ s ∈ listB, s.size ≤ 20 := by decide
set_option maxHeartbeats 8000000 in
theorem plist_c {w0 w : World} {R : Blks} (hO : Own w0 w R) (n : Int) (hn : (Lit.int .i64 n).wf = true) (s : ByteArray) :
    Calls Tryd.prog 13 #[.int .i64 n, .string s] w fun e w' => ∃ t, e = .returned (.string t) ∧ (t ∈ listB ∨ t = s) ∧ Own w0 w' R := by
  have HO := Lib.hid hO
  have q1 := fun w : World => within_n (w := w) n 40 (by omega) (by omega)
  have hj : (n % 40).toNat < 40 := by omega
  generalize (n % 40).toNat = j at *
  have q2 := fun w : World => within_n (w := w) (wrap64 (n.tdiv 40)) 3 (by omega) (by omega)
  have hj3 : (wrap64 (n.tdiv 40) % 3).toNat < 3 := by omega
  generalize (wrap64 (n.tdiv 40) % 3).toNat = i at *
  have Q1 := Lib.hid q1; have Q2 := Lib.hid q2
  clear hO q1 q2 hn
  go_enter Tryd.func13, Tryd.ntmps13
  go_wp2_with fail
  generalize hwx : w.alloc _ = w2
  have hO2 : Own w0 w2 ((w.heap.size, .cells (sv (listB ++ [s])).toArray 9) :: R) := by rw [← hwx]; exact HO.out.alloc _
  have hlen : (listB ++ [s]).length = 30 := rfl
  have hcell : ∀ (w' : World), Own w0 w' ((w.heap.size, .cells (sv (listB ++ [s])).toArray 9) :: R) → ∀ k, k < 30 → w'.cell? ⟨w.heap.size, k, none⟩ = some (.string ((listB ++ [s]).getD k ⟨#[]⟩)) := by
    intro w' h k hk
    rw [h.cell (.head _) k]
    have hk2 : k < (listB ++ [s]).length := by rw [hlen]; exact hk
    simp only [List.getElem?_toArray, sv, List.getElem?_map, List.getElem?_eq_getElem hk2, Option.map_some, List.getD_eq_getElem?_getD, Option.getD_some]
  have hmem : ∀ k, k < 30 → (listB ++ [s]).getD k ⟨#[]⟩ ∈ listB ∨ (listB ++ [s]).getD k ⟨#[]⟩ = s := by
    intro k hk
    have hk2 : k < (listB ++ [s]).length := by rw [hlen]; exact hk
    rw [List.getD_eq_getElem?_getD, List.getElem?_eq_getElem hk2, Option.getD_some]
    rcases List.mem_append.1 (List.getElem_mem hk2) with h | h
    · exact .inl h
    · exact .inr (List.mem_singleton.1 h)
  have HO2 := Lib.hid hO2; have HC := Lib.hid hcell; have HME := Lib.hid hmem
  clear hwx hO2 hcell hmem hlen HO
  with_reducible refine (Q1.out _).mono ?_
  rintro e wq ⟨rfl, hww⟩
  subst hww
  by_cases h30 : 30 ≤ j
  · have h30I : (30 : Int) ≤ j := by omega
    have hi : (i : Int) < 30 := by omega
    have hc := HC.out _ HO2.out i (by omega)
    have hme := HME.out i (by omega)
    generalize (listB ++ [s]).getD i ⟨#[]⟩ = t at *
    have HT := Lib.hid hme
    clear hme
    go_wp2_with fail
    with_reducible refine (Q2.out _).mono ?_
    rintro e wq ⟨rfl, hww⟩
    subst hww
    go_wp2
    go_ret
    exact ⟨t, rfl, HT.out, HO2.out.tail⟩
  · have h30I : ¬ (30 : Int) ≤ j := by omega
    have hi : (j : Int) < 30 := by omega
    have hc := HC.out _ HO2.out j (by omega)
    have hme := HME.out j (by omega)
    generalize (listB ++ [s]).getD j ⟨#[]⟩ = t at *
    have HT := Lib.hid hme
    clear hme
    go_wp2
    go_ret
    exact ⟨t, rfl, HT.out, HO2.out.tail⟩
theorem urlB_ok : ∀ s ∈ urlB, (parseI (sb s)).isSome = true := by decide +kernel
set_option maxHeartbeats 4000000 in
theorem curl2_c {w0 w : World} {R : Blks} (hO : Own w0 w R) (n : Int) :
    Calls Tryd.prog 14 #[.int .i64 n] w fun e w' => ∃ t u, e = .returned (.string t) ∧ t ∈ urlB ∧ t.size ≤ 20 ∧ parseI (sb t) = some u ∧ u.Half ∧ Own w0 w' R := by
  have HO := Lib.hid hO
  clear hO
  go_enter Tryd.func14, Tryd.ntmps14
  go_wp2_with fail
  generalize hwx : w.alloc _ = w2
  have hO2 : Own w0 w2 ((w.heap.size, .cells (sv urlB).toArray 9) :: R) := by rw [← hwx]; exact HO.out.alloc _
  have hvs : Vs w2 (.slice (some ⟨w.heap.size, 0, none⟩) 12 12) (sv urlB) := by rw [← hwx]; exact vs_new _ 12 rfl
  have HO2 := Lib.hid hO2
  have hat := qat_c n _ urlB hvs (by decide) (by decide)
  clear hwx hO2 HO hvs
  with_reducible refine hat.mono ?_
  clear hat
  rintro e w3 ⟨⟨s, hs, rfl⟩, hww⟩
  subst hww
  obtain ⟨u, hu⟩ := Option.isSome_iff_exists.1 (urlB_ok s hs)
  have HMB := Lib.hid hs
  have HS := Lib.hid (urlB_size s hs)
  have HU := Lib.hid hu
  clear hu
  clear hs
  go_wp2
  go_ret
  exact ⟨s, u, rfl, HMB.out, HS.out, HU.out, (parseI_norm (byt_sb s) HU.out).fine.half, HO2.out.tail⟩
theorem curl_c {w0 w : World} {R : Blks} (hO : Own w0 w R) (n : Int) :
    Calls Tryd.prog 14 #[.int .i64 n] w fun e w' => ∃ t u, e = .returned (.string t) ∧ t.size ≤ 20 ∧ parseI (sb t) = some u ∧ u.Half ∧ Own w0 w' R :=
  (curl2_c hO n).mono (fun e w' ⟨t, u, h1, _, h2, h3, h4, h5⟩ => ⟨t, u, h1, h2, h3, h4, h5⟩)
end Go.Proofs.YtfgaikacijdodaaDoor
/-
  Two lists beside each other; what 'self', 'none', a host of the page's own allow: nothing runs here.
-/
namespace Go.Proofs.YtfgaikacijdodaaDoor
set_option linter.unusedVariables false
set_option linter.unusedSimpArgs false
set_option maxRecDepth 20000

theorem wordsF_two : ∀ (a w b : List Int), wordsF w (a ++ (32 :: b)) = wordsF w a ++ wordsF [] b
  | [], w, b => by
    show wordsF w (32 :: b) = pushW w ++ _
    rw [wordsF, if_pos rfl]
  | x :: a, w, b => by
    rw [List.cons_append, wordsF, wordsF]
    split
    · rw [wordsF_two a [] b, List.append_assoc]
    · rw [wordsF_two a _ b]
theorem wordsI_two (a b : List Int) : wordsI (a ++ (32 :: b)) = wordsI a ++ wordsI b := wordsF_two a [] b
theorem allows_two {a b : List Int} (ha : wordsI a ≠ []) (hb : wordsI b ≠ []) (page u : UL) : allowsI (a ++ (32 :: b)) page u = (allowsI a page u || allowsI b page u) := by
  unfold allowsI
  rw [wordsI_two, List.any_append, decide_eq_false ha, decide_eq_false hb, decide_eq_false (fun h => ha (List.append_eq_nil_iff.1 h).1)]
  simp
/-- One word is its list. -/
theorem words_one {w : List Int} (h0 : w ≠ []) (h : ∀ x ∈ w, x ≠ 32) : wordsI w = [w] := by
  have := wordsF_app w [] [] h
  unfold wordsI
  rw [List.append_nil, List.nil_append] at this
  rw [this]
  show pushW w = [w]
  unfold pushW
  rw [if_neg h0]
theorem allows_one {w : List Int} (h0 : w ≠ []) (h : ∀ x ∈ w, x ≠ 32) (page u : UL) : allowsI w page u = matchI w page u := by
  unfold allowsI
  rw [words_one h0 h]
  simp
theorem none_src : sourceI noneW = none := by decide +kernel
theorem none_not (page u : UL) : allowsI noneW page u = false := by
  rw [allows_one (by decide) (by decide)]
  unfold matchI
  rw [if_neg (by decide), if_neg (by decide), none_src]
theorem self_is (page u : UL) : allowsI selfW page u = decide (originI page = originI u) := by
  rw [allows_one (by decide) (by decide)]
  unfold matchI
  rw [if_pos (by decide)]
theorem nothing_all (page u : UL) : allowsI [] page u = true := by
  unfold allowsI
  rw [show wordsI [] = [] from rfl]
  simp
/-- What the program's 'blank' tells of a statement's own list. -/
def blankB (t : ByteArray) : Bool := decide (t = ⟨#[]⟩) || decide (t = ⟨#[32, 32]⟩)
theorem listB_blank : ∀ t ∈ listB, blankB t = decide (wordsI (sb t) = []) := by decide +kernel
theorem list_blank {t : ByteArray} (h : t ∈ listB ∨ t = ⟨#[]⟩) : blankB t = decide (wordsI (sb t) = []) := by
  rcases h with h | rfl
  · exact listB_blank t h
  · rfl
def ownAt (t : ByteArray) : Bool := match parseI (sb t) with
  | some u => matchI (u.host ++ [58, 42]) u u && !matchI (u.host ++ [58, 49]) u u
  | none => false
theorem urlB_own : ∀ t ∈ urlB, ownAt t = true := by decide +kernel
theorem own_host {t : ByteArray} {u : UL} (ht : t ∈ urlB) (h : parseI (sb t) = some u) : matchI (u.host ++ [58, 42]) u u = true ∧ matchI (u.host ++ [58, 49]) u u = false := by
  have := urlB_own t ht
  unfold ownAt at this
  rw [h] at this
  simp only [Bool.and_eq_true, Bool.not_eq_true'] at this
  exact this
end Go.Proofs.YtfgaikacijdodaaDoor
/-
  The hosts of CspHosts: one to three parts of three; what a host, and a host with a star, matches among them: nothing runs here.
-/
namespace Go.Proofs.YtfgaikacijdodaaDoor
set_option linter.unusedVariables false
set_option linter.unusedSimpArgs false
set_option maxRecDepth 20000

def partI (k : Nat) : List Int := if k = 0 then [97] else if k = 1 then [98] else [99, 100]
/-- A host of the parts whose numbers are given. -/
def hostI' : List Nat → List Int
  | [] => []
  | [k] => partI k
  | k :: r => partI k ++ (46 :: hostI' r)
def keys : List (List Nat) := ([0, 1, 2].map fun a => [a]) ++ ([0, 1, 2].flatMap fun a => [0, 1, 2].map fun b => [a, b]) ++ ([0, 1, 2].flatMap fun a => [0, 1, 2].flatMap fun b => [0, 1, 2].map fun c => [a, b, c])
def hostsI : List (List Int) := keys.map hostI'
def httpsM : List Int := [104, 116, 116, 112, 115, 58, 47, 47]
def hostU (h : List Int) : UL := ⟨httpsI, h, 0, [47], []⟩
def underI (h b : List Int) : Bool := decide (b.length + 1 < h.length) && decide (h.drop (h.length - b.length - 1) = 46 :: b)
def ulB (a b : UL) : Bool := decide (a.sch = b.sch) && (decide (a.host = b.host) && (decide (a.port = b.port) && (decide (a.path = b.path) && decide (a.query = b.query))))
def parsesTo (l : List Int) (u : UL) : Bool := match parseI l with
  | some v => ulB v u
  | none => false
theorem hosts_parse : ∀ h ∈ hostsI, parsesTo (httpsM ++ (h ++ [47])) (hostU h) = true := by decide +kernel
def pairOk (h b : List Int) : Bool := (matchI b (hostU [120, 46, 121]) (hostU h) == decide (h = b)) && ((matchI ([42, 46] ++ b) (hostU [120, 46, 121]) (hostU h) == underI h b) && (matchI (httpsM ++ ([42, 46] ++ (b ++ [58, 42]))) (hostU [120, 46, 121]) (hostU h) == underI h b))
theorem hosts_pairs : ∀ h ∈ hostsI, ∀ b ∈ hostsI, pairOk h b = true := by decide +kernel
end Go.Proofs.YtfgaikacijdodaaDoor
