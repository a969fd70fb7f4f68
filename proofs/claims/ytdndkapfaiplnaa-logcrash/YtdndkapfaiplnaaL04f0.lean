/-
  What the laws with crashes share: which writes are kept.
-/
import Derived.Test.YtdndkapfaiplnaaL04d0
namespace Go.Proofs.Ytdndkapfaiplnaa
set_option linter.unusedVariables false
set_option linter.unusedSimpArgs false
set_option maxRecDepth 20000
open Go.RowKit

theorem ints_info4 : (Try.prog.info? 3).map (fun i => (i.zero, i.size, i.bytes)) = some (some (.int .i64 0), 1, 8) := by kernel_rfl
set_option maxHeartbeats 1000000 in
theorem within_big4 {w : World} (v n : Int) (h1 : 1 ≤ n) (h2 : n ≤ 4611686018427387904) : Calls Try.prog 9 #[.int .i64 v, .int .i64 n] w fun e w' => e = .returned (.int .i64 (v % n)) ∧ w = w' := by
  have hn0 : (n == 0) = false := by simp; omega
  have hb1 : -n < v.tmod n := by have := Int.lt_tmod_of_pos v (show 0 < n by omega); omega
  have hb2 : v.tmod n < n := Int.tmod_lt_of_pos v (by omega)
  by_cases hneg : v.tmod n < 0
  · rw [emod_neg v n h1 hneg]
    go_enter Try.func9, Try.ntmps9
    go_wp2
    go_ret
    exact ⟨rfl, rfl⟩
  · rw [emod_pos v n h1 hneg]
    go_enter Try.func9, Try.ntmps9
    go_wp2
    go_ret
    exact ⟨rfl, rfl⟩
def GotInts (w0 : World) (R : Blks) (en : Ending) (w' : World) : Prop := ∃ v ks L, en = .returned v ∧ IsRow 3 1 v ks.length (iv ks) L ∧ Own w0 w' (L ++ R)
theorem GotInts.nil {w0 w : World} {R : Blks} (h : Own w0 w R) : GotInts w0 R (.returned (.slice none 0 0)) w := ⟨_, [], [], rfl, ⟨rfl, .inl ⟨rfl, rfl, rfl⟩⟩, h⟩
set_option maxHeartbeats 4000000 in
theorem keeps_c {w0 w : World} {R : Blks} (hO : Own w0 w R) (v : Value) (ks : List Int) (hks : InRow .i64 w0 v ks) (hk : ks.length ≤ 17592186043904) (from_ : Int) : Calls Try.prog 32 #[v, .int .i64 from_] w (GotInts w0 R) := by
  obtain ⟨A, n, c, rfl, hn, hc, hm, _, hA⟩ := hks
  subst hn
  have hA2 : 0 < ks.length → ∃ ad, A = some ad ∧ ∀ wx L, Own w0 wx L → ∀ j, j < ks.length → wx.cell? (ad.add j) = some (.int .i64 (ks.getD j 0)) := by
    intro h
    obtain ⟨ad, rfl, hb, hcell⟩ := hA h
    refine ⟨ad, rfl, fun wx L hO j hj => ?_⟩
    rw [hO.below.cell (by rw [block_of_add]; exact hb)]
    exact hcell j _ (by simp [List.getD, hj])
  have HA := Lib.hid hA2; have HO := Lib.hid hO
  clear hA hA2 hO
  obtain ⟨k, hkk⟩ : ∃ k : Nat, from_ % ((ks.length : Int) + 1) = k := ⟨(from_ % ((ks.length : Int) + 1)).toNat, (Int.toNat_of_nonneg (Int.emod_nonneg _ (by omega))).symm⟩
  have hkl : k ≤ ks.length := by have := Int.emod_lt_of_pos from_ (show (0 : Int) < (ks.length : Int) + 1 by omega); omega
  have hcall := fun wx : World => within_big4 (w := wx) from_ ((ks.length : Int) + 1) (by omega) (by omega)
  rw [hkk] at hcall
  have HW := Lib.hid hcall
  clear hcall hkk
  simp only [maxLen] at hm
  have hk0 : (0 : Int) ≤ (k : Int) := by omega
  have hk1 : (k : Int) ≤ (c : Int) := by omega
  have hk2 : (k : Int) ≤ (ks.length : Int) := by omega
  by_cases hend : k = ks.length
  · subst hend
    cases A with
    | none =>
      have hz : ks.length = 0 := by
        rcases Nat.eq_zero_or_pos ks.length with h | h
        · exact h
        · obtain ⟨ad, h, _⟩ := HA.out h; cases h
      have hks0 : ks = [] := List.eq_nil_of_length_eq_zero hz
      subst hks0
      have hcall := fun wx : World => within_c (w := wx) from_ 1 (by omega) (by omega)
      rw [Int.emod_one] at hcall
      have HW1 := Lib.hid hcall
      clear hcall HW HA hz
      go_enter Try.func32, Try.ntmps32
      go_wp2_with fail
      with_reducible refine (HW1.out _).mono ?_
      rintro en w1 ⟨rfl, rfl⟩
      go_wp2_with fail
      go_loopw [5, 16] (fun v5 t w' => v5 = .slice none 0 0 ∧ t = .int .i64 0 ∧ w' = w) (fun _ _ _ => 0)
      case atStart => exact ⟨rfl, rfl, rfl⟩
      case round =>
        obtain ⟨rfl, rfl, rfl⟩ := hrel
        go_wp2
        go_ret
        exact GotInts.nil HO.out
    | some ad =>
      clear HA
      go_enter Try.func32, Try.ntmps32
      go_wp2_with fail
      with_reducible refine (HW.out _).mono ?_
      rintro en w1 ⟨rfl, rfl⟩
      go_wp2_with fail
      all_goals
        go_loopw [5, 16] (fun v5 t w' => v5 = .slice none 0 0 ∧ t = .int .i64 0 ∧ w' = w) (fun _ _ _ => 0)
        case atStart => exact ⟨rfl, rfl, rfl⟩
        case round =>
          obtain ⟨rfl, rfl, rfl⟩ := hrel
          go_wp2
          go_ret
          exact GotInts.nil HO.out
  · obtain ⟨ad, rfl, hcl⟩ := HA.out (by omega)
    have hkc : ¬ (c = k) := by omega
    have hkc2 : ¬ ((c : Int) = (k : Int)) := by omega
    go_enter Try.func32, Try.ntmps32
    go_wp2_with fail
    with_reducible refine (HW.out _).mono ?_
    rintro en w1 ⟨rfl, rfl⟩
    go_wp2_with fail
    have HCL := Lib.hid hcl
    clear hcl HA HW
    go_loopg [5, 16] (ks.length - k + 1) (fun gg v5 v16 wx => ∃ j : Nat, j ≤ ks.length - k ∧ gg = ks.length - k + 1 - j ∧ v16 = .int .i64 (j : Nat) ∧ Hid (∃ os L, os.length = j ∧ IsRow 3 1 v5 j (iv os) L ∧ Own w0 wx (L ++ R)))
    case atStart => exact ⟨0, Nat.zero_le _, rfl, rfl, [], [], rfl, ⟨rfl, .inl ⟨rfl, rfl, rfl⟩⟩, HO.out⟩
    case round =>
      obtain ⟨j, hj, rfl, rfl, HJ⟩ := hrel
      clear HO
      obtain ⟨os, L, hol, hrow, hOj⟩ := HJ.out
      clear HJ
      obtain ⟨A5, c5, rfl⟩ := hrow.val
      have HROW := Lib.hid hrow; have HOJ := Lib.hid hOj; have HOL := Lib.hid hol
      by_cases hlt : j < ks.length - k
      · have hcc := HCL.out wr _ hOj (k + j) (by omega)
        generalize ks.getD (k + j) 0 = x at *
        rw [← add_of_add] at hcc
        have hjI : (j : Int) < ((ks.length - k : Nat) : Int) := by omega
        have hwi := fun wx : World => within_n (w := wx) x 4 (by omega) (by omega)
        have HWI := Lib.hid hwi
        clear hrow hOj hol hwi
        go_wp2_with fail
        with_reducible refine (HWI.out _).mono ?_
        rintro en w2 ⟨rfl, rfl⟩
        clear hcc HWI
        generalize (x % 4).toNat = y at *
        go_wp2_with (refine wl_appendV rfl _ _ _ rfl _ _ 8 Try.underlying22 ints_info4 (by rfl) (.slice A5 j c5) j (iv os) (by rfl) HROW.out (Own.rot (A := [_]) (HOJ.out.alloc (.cells [Value.int .i64 (y : Int)].toArray 3))) (.slice (some ⟨wr.heap.size, 0, none⟩) 1 1) [.int .i64 (y : Int)] (by rfl) (vs_oneL (HOJ.out.alloc (.cells [Value.int .i64 (y : Int)].toArray 3)) (.head _)) (by simp; rfl) (by simp only [maxLen, List.length_singleton]; omega) (by simp only [List.length_singleton]; omega) ?_; intro v6 w6 L6 hr6 hO6; have HR6 := Lib.hid hr6; have HO6 := Lib.hid hO6; clear hr6 hO6 HOJ)
        go_roundg (ks.length - k + 1 - (j + 1))
        case measure => omega
        case rel =>
          have h6 : Own w0 w6 (L6 ++ R) := HO6.out.rot.tail
          exact ⟨j + 1, by omega, rfl, by go_num, os ++ [(y : Int)], L6, by rw [List.length_append, HOL.out]; rfl, by have := HR6.out; simpa [iv] using this, h6⟩
      · have hje : j = ks.length - k := by omega
        subst hje
        clear hrow hOj hol
        go_wp2
        go_ret
        refine ⟨_, os, L, rfl, ?_, HOJ.out⟩
        rw [HOL.out]; exact HROW.out
end Go.Proofs.Ytdndkapfaiplnaa
