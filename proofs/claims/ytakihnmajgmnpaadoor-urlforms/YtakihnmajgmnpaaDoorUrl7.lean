/-
  The texts of URLs that the statements make of numbers.
-/
import Derived.Test.YtakihnmajgmnpaaDoorUrl6
namespace Go.Proofs.YtakihnmajgmnpaaDoor
set_option linter.unusedVariables false
set_option linter.unusedSimpArgs false
set_option maxRecDepth 20000
open Go.RowKit

def purls : List ByteArray := [⟨#[104, 116, 116, 112, 58, 47, 47, 97, 46, 98, 47]⟩, ⟨#[104, 116, 116, 112, 115, 58, 47, 47, 97, 46, 98, 47]⟩, ⟨#[104, 116, 116, 112, 115, 58, 47, 47, 97, 46, 98, 47, 120]⟩, ⟨#[104, 116, 116, 112, 58, 47, 47, 97, 46, 98, 47, 120]⟩, ⟨#[104, 116, 116, 112, 115, 58, 47, 47, 99, 46, 100, 47]⟩, ⟨#[104, 116, 116, 112, 115, 58, 47, 47, 99, 46, 100, 47, 112, 63, 113]⟩, ⟨#[104, 116, 116, 112, 115, 58, 47, 47, 99, 46, 100, 58, 56, 47]⟩, ⟨#[104, 116, 116, 112, 58, 47, 47, 99, 46, 100, 47]⟩, ⟨#[104, 116, 116, 112, 115, 58, 47, 47, 115, 46, 99, 46, 100, 47, 121]⟩, ⟨#[104, 116, 116, 112, 58, 47, 47, 108, 111, 99, 97, 108, 104, 111, 115, 116, 47, 108]⟩, ⟨#[104, 116, 116, 112, 115, 58, 47, 47, 97, 46, 98, 47, 122]⟩, ⟨#[104, 116, 116, 112, 115, 58, 47, 47, 97, 46, 98, 58, 56, 47]⟩]
def purl (n : Int) : ByteArray := purls.getD (n % 12).toNat ⟨#[]⟩
def podds (s : ByteArray) : List ByteArray := [⟨#[]⟩, ⟨#[97, 46, 98]⟩, ⟨#[47, 120]⟩, ⟨#[47, 47, 99, 46, 100, 47, 120]⟩, ⟨#[104, 116, 116, 112, 58, 47, 97, 46, 98]⟩, ⟨#[104, 116, 116, 112, 58, 47, 47]⟩, ⟨#[72, 84, 84, 80, 58, 47, 47, 65, 46, 66, 58, 56, 48, 47, 120]⟩, ⟨#[104, 116, 116, 112, 115, 58, 47, 47, 97, 46, 98, 58, 52, 52, 51]⟩, ⟨#[104, 116, 116, 112, 58, 47, 47, 97, 46, 98, 58, 52, 52, 51]⟩, ⟨#[104, 116, 116, 112, 58, 47, 47, 97, 46, 98, 58, 57, 57, 57, 57, 57]⟩, ⟨#[104, 116, 116, 112, 58, 47, 47, 97, 46, 98, 58]⟩, ⟨#[104, 116, 116, 112, 58, 47, 47, 97, 46, 98, 58, 48, 47]⟩, ⟨#[104, 116, 116, 112, 58, 47, 47, 97, 46, 46, 98, 47]⟩, ⟨#[104, 116, 116, 112, 58, 47, 47, 46, 97, 47]⟩, ⟨#[104, 116, 116, 112, 58, 47, 47, 97, 46, 47]⟩, ⟨#[104, 116, 116, 112, 58, 47, 47, 97, 95, 98, 47]⟩, ⟨#[104, 116, 116, 112, 58, 47, 47, 117, 64, 97, 46, 98, 47]⟩, ⟨#[32, 104, 116, 116, 112, 58, 47, 47, 97, 46, 98, 47, 195, 169, 32]⟩, ⟨#[104, 116, 116, 112, 58, 47, 47, 97, 46, 98, 47, 37, 122, 122]⟩, ⟨#[104, 116, 116, 112, 58, 47, 47, 97, 46, 98, 47, 97, 32, 98, 63, 99, 32, 100, 35, 101]⟩, ⟨#[104, 116, 116, 112, 58, 47, 47, 97, 46, 98, 63, 120]⟩, ⟨#[104, 116, 116, 112, 58, 47, 47, 97, 46, 98, 35, 102]⟩, ⟨#[104, 116, 116, 112, 58, 47, 47, 97, 46, 98, 47, 46, 47, 97, 47, 46, 46, 47, 98, 47, 46]⟩, ⟨#[104, 116, 116, 112, 58, 47, 47, 97, 46, 98, 47, 46, 46]⟩, ⟨#[104, 116, 116, 112, 58, 47, 47, 97, 46, 98, 47, 47, 46, 46]⟩, ⟨#[104, 116, 116, 112, 58, 47, 47, 97, 46, 98, 47, 97, 47, 47, 46, 46]⟩, ⟨#[102, 116, 112, 58, 47, 47, 97, 46, 98, 47]⟩, ⟨#[104, 116, 116, 112, 115, 58, 47, 47, 97, 98, 99, 100, 101, 102, 103, 104, 105, 106, 107, 108, 109, 110, 111, 112, 113, 114, 115, 116, 117, 47]⟩, ⟨#[104, 116, 116, 112, 115, 58, 47, 47, 97, 46, 98, 47, 48, 49, 50, 51, 52, 53, 54, 55, 56, 57, 48, 49, 50, 51, 52, 53, 54, 55, 56, 57, 48, 49, 50, 51, 52, 53, 54, 55]⟩, ⟨#[104, 116, 116, 112, 58, 47, 47, 97, 46, 98, 47, 48, 49, 50, 51, 52, 53, 54, 55, 56, 57, 48, 49, 50, 51, 52, 53, 54, 55, 56, 57, 48, 49, 50, 51, 52, 53, 54, 55, 56, 57, 48, 49]⟩, ⟨#[104, 116, 116, 112, 58, 47, 47, 97, 46, 98, 47, 63]⟩, ⟨#[104, 116, 116, 112, 58, 47, 47, 97, 46, 98, 47, 63, 63]⟩, ⟨#[104, 116, 116, 112, 58, 47, 47, 97, 46, 98, 47, 97, 63, 98, 47, 46, 46, 47, 99]⟩, ⟨#[104, 116, 116, 112, 115, 58, 47, 47, 99, 46, 100, 47, 46, 46, 47, 46, 46, 47, 47, 120]⟩, s, (⟨#[104, 116, 116, 112, 58, 47, 47, 97, 46, 98, 47]⟩ : ByteArray) ++ s, (⟨#[104, 116, 116, 112, 115, 58, 47, 47]⟩ : ByteArray) ++ s ++ (⟨#[47]⟩ : ByteArray), (⟨#[47]⟩ : ByteArray) ++ s]
def podd (n : Int) (s : ByteArray) : ByteArray := if n % 4 < 2 then purl (n.tdiv 4) else (podds s).getD (n.tdiv 4 % 38).toNat ⟨#[]⟩
theorem at_c {w : World} (n : Int) (v : Value) (ss : List ByteArray) (hv : Vs w v (sv ss)) (h1 : 1 ≤ ss.length) (h2 : ss.length ≤ 1000000000) : Calls Tryd.prog 30 #[.int .i64 n, v] w fun e w' => e = .returned (.string (ss.getD (n % (ss.length : Int)).toNat ⟨#[]⟩)) ∧ w = w' := by
  obtain ⟨A, m, c, rfl, hm, hc, hA⟩ := hv
  rw [length_sv] at hm
  subst hm
  obtain ⟨ad, rfl, hcell⟩ := hA (by omega)
  have hj : (n % (ss.length : Int)).toNat < ss.length := by
    have h3 := Int.emod_nonneg n (show (ss.length : Int) ≠ 0 by omega)
    have h4 := Int.emod_lt_of_pos n (show (0 : Int) < ss.length by omega)
    omega
  have hw := within_n (w := w) n ss.length (by omega) (by omega)
  generalize hjj : (n % (ss.length : Int)).toNat = j at *
  have hcj := hcell j (.string ss[j]) (by simp [sv, hj])
  rw [List.getD_eq_getElem?_getD, List.getElem?_eq_getElem hj, Option.getD_some]
  generalize ss[j] = x at *
  have hjI : (j : Int) < ss.length := by omega
  have HW := Lib.hid hw
  clear hw hcell hA hjj hj
  go_enter Tryd.func30, Tryd.ntmps30
  go_wp2_with fail
  with_reducible refine HW.out.mono ?_
  rintro e w1 ⟨rfl, rfl⟩
  go_wp2
  go_ret
  exact ⟨rfl, rfl⟩
theorem purl_c {w0 w : World} {R : Blks} (hO : Own w0 w R) (n : Int) : Calls Tryd.prog 19 #[.int .i64 n] w fun e w' => e = .returned (.string (purl n)) ∧ Own w0 w' R := by
  have HO := Lib.hid hO
  clear hO
  obtain ⟨r, hr⟩ : ∃ r, purl n = r := ⟨_, rfl⟩
  have HR := Lib.hid hr
  rw [hr]
  clear hr
  go_enter Tryd.func19, Tryd.ntmps19
  go_wp2_with fail
  generalize hwx : w.alloc _ = wx
  have hV : Vs wx (.slice (some ⟨w.heap.size, 0, none⟩) 12 12) (sv purls) := by rw [← hwx]; exact vs_new (sv purls) 12 rfl
  have hO2 : Own w0 wx ((w.heap.size, .cells (sv purls).toArray 9) :: R) := by rw [← hwx]; exact HO.out.alloc (.cells (sv purls).toArray 9)
  have hcall := at_c (w := wx) n _ purls hV (by decide) (by decide)
  rw [show purls.getD (n % (purls.length : Int)).toNat ⟨#[]⟩ = r from HR.out] at hcall
  have HO2 := Lib.hid hO2.tail
  with_reducible refine hcall.mono ?_
  clear hcall hO2 hV hwx
  rintro e w1 ⟨rfl, rfl⟩
  go_wp2
  go_ret
  exact ⟨rfl, HO2.out⟩
set_option maxHeartbeats 4000000 in
theorem podd_c {w0 w : World} {R : Blks} (hO : Own w0 w R) (n : Int) (hn : (Lit.int .i64 n).wf = true) (s : ByteArray) (hs : s.size ≤ 1000000000) : Calls Tryd.prog 17 #[.int .i64 n, .string s] w fun e w' => e = .returned (.string (podd n s)) ∧ Own w0 w' R := by
  have HO := Lib.hid hO
  have hw4 := within_c (w := w) n 4 (by omega) (by omega)
  have hq : -4611686018427387904 ≤ n.tdiv 4 ∧ n.tdiv 4 ≤ 4611686018427387904 := by
    have hb := bounds_i64 hn
    rcases Int.le_total 0 n with h | h
    · rw [Int.tdiv_eq_ediv_of_nonneg h]; omega
    · have e : n.tdiv 4 = -((-n).tdiv 4) := by have := Int.neg_tdiv (-n) 4; rwa [Int.neg_neg] at this
      rw [e, Int.tdiv_eq_ediv_of_nonneg (by omega)]; omega
  obtain ⟨r, hr⟩ : ∃ r, podd n s = r := ⟨_, rfl⟩
  rw [hr]
  have HR := Lib.hid hr
  have HW := Lib.hid hw4
  have hn4 : 0 ≤ n % 4 ∧ n % 4 < 4 := by omega
  clear hO hw4 hr
  by_cases h2 : n % 4 < 2
  · have hr2 : purl (n.tdiv 4) = r := by rw [← HR.out]; unfold podd; rw [if_pos h2]
    have HR2 := Lib.hid hr2
    clear hr2
    go_enter Tryd.func17, Tryd.ntmps17
    go_wp2_with fail
    with_reducible refine HW.out.mono ?_
    rintro e w1 ⟨rfl, rfl⟩
    go_wp2_with fail
    have hcall := purl_c HO.out (n.tdiv 4)
    rw [HR2.out] at hcall
    with_reducible refine hcall.mono ?_
    clear hcall
    rintro e w2 ⟨rfl, hO2⟩
    have HO2 := Lib.hid hO2; clear hO2 HO
    go_wp2
    go_ret
    exact ⟨rfl, HO2.out⟩
  · have hr2 : (podds s).getD (n.tdiv 4 % 38).toNat ⟨#[]⟩ = r := by rw [← HR.out]; unfold podd; rw [if_neg h2]
    have HR2 := Lib.hid hr2
    have n1 : ¬ (9223372036854775807 < 11 + s.size) := by omega
    have n2 : ¬ (9223372036854775807 < 8 + s.size) := by omega
    have n3 : ¬ (9223372036854775807 < 8 + s.size + 1) := by omega
    have n4 : ¬ (9223372036854775807 < 1 + s.size) := by omega
    clear hr2
    go_enter Tryd.func17, Tryd.ntmps17
    go_wp2_with fail
    with_reducible refine HW.out.mono ?_
    rintro e w1 ⟨rfl, rfl⟩
    go_wp2_with fail
    generalize hwx : w.alloc _ = wx
    have hV : Vs wx (.slice (some ⟨w.heap.size, 0, none⟩) 38 38) (sv (podds s)) := by rw [← hwx]; exact vs_new (sv (podds s)) 38 rfl
    have hO2 : Own w0 wx ((w.heap.size, .cells (sv (podds s)).toArray 9) :: R) := by rw [← hwx]; exact HO.out.alloc (.cells (sv (podds s)).toArray 9)
    have hcall := at_c (w := wx) (n.tdiv 4) _ (podds s) hV (by show 1 ≤ 38; omega) (by show 38 ≤ 1000000000; omega)
    rw [show (podds s).getD (n.tdiv 4 % ((podds s).length : Int)).toNat ⟨#[]⟩ = r from HR2.out] at hcall
    have HO2 := Lib.hid hO2.tail
    with_reducible refine hcall.mono ?_
    clear hcall hO2 hV hwx
    rintro e w2 ⟨rfl, rfl⟩
    go_wp2
    go_ret
    exact ⟨rfl, HO2.out⟩
end Go.Proofs.YtakihnmajgmnpaaDoor
