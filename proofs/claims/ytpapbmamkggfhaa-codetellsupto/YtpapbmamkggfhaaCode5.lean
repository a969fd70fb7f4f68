/-
  Package code: cutText, cut.
-/
import Derived.Test.YtpapbmamkggfhaaCode4
namespace Go.Proofs.Ytpapbmamkggfhaa
set_option linter.unusedVariables false
set_option linter.unusedSimpArgs false
set_option maxRecDepth 20000
open Go.RowKit

set_option maxHeartbeats 4000000 in
theorem cutText_c {w0 w : World} {R : Blks} {v : Value} {xs : List Int} (hO : Own w0 w R) (hv : Rd w0 R v xs) (hB : Byt xs) (hl : xs.length ≤ 1073741824) :
    Calls Try.prog 40 #[v] w (GotCut w0 w R (decText xs)) := by
  obtain ⟨A, n, c, rfl, hn, hc, hA⟩ := hv w [] hO
  cases xs with
  | nil =>
    simp only [List.length_nil] at hn
    subst hn
    clear hA hv hO hB
    go_enter Try.func40, Try.ntmps40
    go_wp2
    go_ret3
    exact ⟨.inr ⟨rfl, rfl⟩, 0, rfl⟩
  | cons m q =>
    simp only [List.length_cons] at hn hl
    obtain ⟨ad, rfl, hcell⟩ := hA (by omega)
    have hm := hB m (.head _)
    have hc0 := hcell 0 m rfl
    rw [show ad.add 0 = ad by unfold Addr.add; simp] at hc0
    have hn0 : ((n : Int) == 0) = false := by simp; omega
    have hn1 : 0 < n := by omega
    have hnl : n ≤ 1073741824 := by omega
    simp only [decText]
    by_cases hlt : (q.length : Int) < m
    · rw [if_pos hlt]
      have hlt' : (n : Int) - 1 < m := by omega
      have hwm : IntKind.i64.wrap m = m := IntWalk.i64_in _ (by omega)
      clear hcell hA hv hO hB hlt
      have HN := Lib.hid hn; clear hn
      go_enter Try.func40, Try.ntmps40
      go_wp2
      go_ret3
      exact ⟨.inr ⟨rfl, rfl⟩, 0, rfl⟩
    · rw [if_neg hlt]
      obtain ⟨k, rfl⟩ : ∃ k : Nat, m = k := ⟨m.toNat, by omega⟩
      have hlt' : ¬ ((n : Int) - 1 < k) := by omega
      have hwm : IntKind.i64.wrap k = k := IntWalk.i64_in _ (by omega)
      have hwm1 : IntKind.i64.wrap (1 + k) = 1 + k := IntWalk.i64_in _ (by omega)
      rw [Int.toNat_natCast]
      have hk : k < 256 := by omega
      have HV := Lib.hid hv; have HB := Lib.hid hB; have HN := Lib.hid hn; have HCC := Lib.hid hc; have HO := Lib.hid hO
      clear hcell hA hv hO hB hlt hn
      by_cases hc1 : c = 1
      · obtain rfl : k = 0 := by have := HN.out; omega
        subst hc1
        obtain rfl : n = 1 := by have := HCC.out; omega
        have hq : q = [] := List.eq_nil_of_length_eq_zero (by have := HN.out; omega)
        subst hq
        have hd : Own w0 w.drew ([] ++ R) := HO.out.drew
        have hcv := convert_str ((rd_nil (w0 := w0) (R := R) (some ad) 0) _ _ hd)
        have hst : strOfNums (([] : List Int).take 0) = strOfNums [] := rfl
        rw [hst]
        have HR := Lib.hid (rd_nil (w0 := w0) (R := R) (some ad) 0)
        clear hd hst
        generalize strOfNums ([] : List Int) = st at *
        go_enter Try.func40, Try.ntmps40
        go_wp2
        refine wp_region_lin (fun w' => w' = w.drew) 11 [(0, true), (1, true), (2, true), (3, true), (4, true), (5, true), (6, true), (7, true), (8, true), (9, true), (10, true)] (by kernel_rfl) (by kernel_rfl) (fun _ _ d _ _ h => by cases d <;> exact h) rfl ?_
        simp only [List.map_cons, List.map_nil, pick_zero, pick_succ, List.drop_succ_cons, List.drop_zero]
        iterate 11 (refine lin_q ?_ rfl ?_ ?_; rotate_left 1; (focus (rintro w' rfl; go_simp; first | done | with_reducible rfl | (trace_state; fail))); simp only [Act.put, List.setIfInBounds_toArray, List.set_cons_zero, List.set_cons_succ])
        refine lin_nil ?_
        go_wp2
        go_ret3
        exact ⟨.inl ⟨_, _, _, rfl, rfl, HR.out⟩, 1, rfl⟩
      · obtain ⟨E, hE⟩ : ∃ E : Nat, E = k + 1 := ⟨_, rfl⟩
        have hEi : (1 : Int) + k = E := by omega
        have HE := Lib.hid hEi
        have hE1 : (1 : Int) ≤ E := by omega
        have hE2 : (E : Int) ≤ n := by have := HN.out; omega
        have hE3 : (E : Int) ≤ c := by have := HCC.out; omega
        have hkE : k = E - 1 := by omega
        have HKE := Lib.hid hkE
        have hd : Own w0 w.drew ([] ++ R) := HO.out.drew
        have hs := rd_tail HV.out 1 (E - 1) (c - 1) (by omega) (by omega) (by omega)
        rw [List.drop_succ_cons, List.drop_zero] at hs
        have hcv := convert_str (hs _ _ hd)
        rw [← hkE] at hs
        have hs2 : strOfNums (q.take k) = strOfNums (q.take (E - 1)) := by rw [← hkE]
        rw [hs2]
        by_cases hc2 : c = E
        · have HR0 : Rd w0 R (.slice (some ad) 0 0) (List.drop k q) := by
            rw [List.drop_eq_nil_of_le (by have := HN.out; have := HCC.out; omega)]
            exact rd_nil _ _
          have HR := Lib.hid HR0
          clear hs hd hs2 HR0 hkE HKE hE hEi
          subst hc2
          obtain rfl : n = c := by have := HCC.out; omega
          have hcn : ¬ (n = 1) := hc1
          generalize strOfNums (q.take (n - 1)) = st at *
          generalize List.drop k q = dq at *
          go_enter Try.func40, Try.ntmps40
          go_wp2
          rw [HE.out]
          clear HE hwm hwm1 hc0 hm hlt' hk
          refine wp_region_lin (fun w' => w' = w.drew) 11 [(0, true), (1, true), (2, true), (3, true), (4, true), (5, true), (6, true), (7, true), (8, true), (9, true), (10, true)] (by kernel_rfl) (by kernel_rfl) (fun _ _ d _ _ h => by cases d <;> exact h) rfl ?_
          simp only [List.map_cons, List.map_nil, pick_zero, pick_succ, List.drop_succ_cons, List.drop_zero]
          iterate 11 (refine lin_q ?_ rfl ?_ ?_; rotate_left 1; (focus (rintro w' rfl; go_simp; first | done | with_reducible rfl | (trace_state; fail))); simp only [Act.put, List.setIfInBounds_toArray, List.set_cons_zero, List.set_cons_succ])
          refine lin_nil ?_
          go_wp2
          go_ret3
          exact ⟨.inl ⟨_, _, _, rfl, rfl, HR.out⟩, 1, rfl⟩
        · have HR0 : Rd w0 R (.slice (some (ad.add E)) (n - E) (c - E)) (List.drop k q) := by
            rw [show ad.add E = ⟨ad.block, ad.off + E, none⟩ by unfold Addr.add; rw [if_neg (by omega)]]
            have hr := rd_tail HV.out E (n - E) (c - E) (by omega) (by omega) (by have := HCC.out; omega)
            rw [hE, List.drop_succ_cons, List.take_of_length_le (by rw [List.length_drop]; have := HN.out; omega)] at hr
            rw [hE]; exact hr
          have HR := Lib.hid HR0
          clear hs hd hs2 HR0 hkE HKE hE hEi
          generalize strOfNums (q.take (E - 1)) = st at *
          generalize List.drop k q = dq at *
          go_enter Try.func40, Try.ntmps40
          go_wp2
          rw [HE.out]
          clear HE hwm hwm1 hc0 hm hlt' hk
          refine wp_region_lin (fun w' => w' = w.drew) 11 [(0, true), (1, true), (2, true), (3, true), (4, true), (5, true), (6, true), (7, true), (8, true), (9, true), (10, true)] (by kernel_rfl) (by kernel_rfl) (fun _ _ d _ _ h => by cases d <;> exact h) rfl ?_
          simp only [List.map_cons, List.map_nil, pick_zero, pick_succ, List.drop_succ_cons, List.drop_zero]
          iterate 11 (refine lin_q ?_ rfl ?_ ?_; rotate_left 1; (focus (rintro w' rfl; go_simp; first | done | with_reducible rfl | (trace_state; fail))); simp only [Act.put, List.setIfInBounds_toArray, List.set_cons_zero, List.set_cons_succ])
          refine lin_nil ?_
          go_wp2
          go_ret3
          exact ⟨.inl ⟨_, _, _, rfl, rfl, HR.out⟩, 1, rfl⟩
theorem Rd.tail1 {w0 : World} {R : Blks} {ad : Addr} {n c : Nat} {m : Int} {q : List Int} (h : Rd w0 R (.slice (some ad) n c) (m :: q)) (hn : q.length + 1 = n) (hc : n ≤ c) :
    Rd w0 R (.slice (some (if c = 1 then ad else ⟨ad.block, ad.off + 1, none⟩)) (n - 1) (c - 1)) q := by
  split
  · rename_i h1
    subst h1
    have hq : q = [] := List.eq_nil_of_length_eq_zero (by omega)
    subst hq
    rw [show n - 1 = 0 by omega]
    exact rd_nil _ _
  · have := rd_tail h 1 (n - 1) (c - 1) (by omega) (by omega) (by omega)
    rwa [List.drop_succ_cons, List.drop_zero, List.take_of_length_le (by omega)] at this
set_option maxHeartbeats 4000000 in
theorem cut_c {w0 w : World} {R : Blks} {v : Value} {xs : List Int} (hO : Own w0 w R) (hv : Rd w0 R v xs) (hB : Byt xs) (hl : xs.length ≤ 1073741824) (h0 : 0 < xs.length) :
    Calls Try.prog 26 #[v] w (GotCut w0 w R (dec1 xs)) := by
  obtain ⟨A, n, c, rfl, hn, hc, hA⟩ := hv w [] hO
  cases xs with
  | nil => simp at h0
  | cons m q =>
    simp only [List.length_cons] at hn hl
    rw [dec1_eq]
    obtain ⟨ad, rfl, hcell⟩ := hA (by omega)
    have hm := hB m (.head _)
    have hc0 := hcell 0 m rfl
    rw [show ad.add 0 = ad by unfold Addr.add; simp] at hc0
    have hn1 : 0 < n := by omega
    have hn2 : (1 : Int) ≤ n := by omega
    have hr := hv.tail1 hn hc
    have hBq : Byt q := fun x hx => hB x (.tail _ hx)
    have hci := Lib.hid (cutInt_c hO hr hBq (by omega))
    have hct := Lib.hid (cutText_c hO hr hBq (by omega))
    have HR := Lib.hid hr
    clear hcell hA hv hO hB hr hn hBq h0
    obtain ⟨B, hBe⟩ : ∃ B : Addr, (if c = 1 then ad else (⟨ad.block, ad.off + 1, none⟩ : Addr)) = B := ⟨_, rfl⟩
    rw [hBe] at hci hct HR
    have hsl : (Instr.slice 23 (.slice (some ad) n c) (some (.int .i64 1)) none none).run Try.prog w = .ok (.slice (some B) (n - 1) (c - 1)) w := by
      rw [← hBe]
      by_cases hc1 : c = 1
      · subst hc1
        obtain rfl : n = 1 := by omega
        kernel_rfl
      · rw [if_neg hc1]
        go_simp
    clear hBe
    by_cases h1 : m = 105
    · subst h1
      rw [if_pos rfl]
      clear hct
      go_enter Try.func26, Try.ntmps26
      go_wp2_with fail
      with_reducible refine hci.out.mono ?_
      clear hci
      rintro e w1 ⟨⟨a, ys, v1, ho, rfl, hr1⟩ | ⟨ho, rfl⟩, k, rfl⟩
      · have HA := Lib.hid ho; have HR1 := Lib.hid hr1; clear ho hr1
        simp only []
        generalize hw1 : w.drewN k = w1
        have HW := Lib.hid hw1; clear hw1
        go_wp2
        go_ret3
        exact ⟨.inl ⟨_, _, _, HA.out, rfl, HR1.out⟩, k, HW.out.symm⟩
      · have HA := Lib.hid ho; clear ho
        simp only []
        generalize hw1 : w.drewN k = w1
        have HW := Lib.hid hw1; clear hw1
        go_wp2
        go_ret3
        exact ⟨.inr ⟨HA.out, rfl⟩, k, HW.out.symm⟩
    rw [if_neg h1]
    have e1 : (m == 105) = false := by simp [h1]
    clear hci h1
    by_cases h2 : m = 115
    · subst h2
      rw [if_pos rfl]
      clear e1
      go_enter Try.func26, Try.ntmps26
      go_wp2_with fail
      with_reducible refine hct.out.mono ?_
      clear hct
      rintro e w1 ⟨⟨a, ys, v1, ho, rfl, hr1⟩ | ⟨ho, rfl⟩, k, rfl⟩
      · have HA := Lib.hid ho; have HR1 := Lib.hid hr1; clear ho hr1
        simp only []
        generalize hw1 : w.drewN k = w1
        have HW := Lib.hid hw1; clear hw1
        go_wp2
        go_ret3
        exact ⟨.inl ⟨_, _, _, HA.out, rfl, HR1.out⟩, k, HW.out.symm⟩
      · have HA := Lib.hid ho; clear ho
        simp only []
        generalize hw1 : w.drewN k = w1
        have HW := Lib.hid hw1; clear hw1
        go_wp2
        go_ret3
        exact ⟨.inr ⟨HA.out, rfl⟩, k, HW.out.symm⟩
    rw [if_neg h2]
    have e2 : (m == 115) = false := by simp [h2]
    clear hct h2
    by_cases h3 : m = 116
    · subst h3
      rw [if_pos rfl]
      clear e1 e2
      go_enter Try.func26, Try.ntmps26
      go_wp2
      go_ret3
      exact ⟨.inl ⟨_, _, _, rfl, rfl, HR.out⟩, 0, rfl⟩
    rw [if_neg h3]
    have e3 : (m == 116) = false := by simp [h3]
    clear h3
    by_cases h4 : m = 102
    · subst h4
      rw [if_pos rfl]
      clear e1 e2 e3
      go_enter Try.func26, Try.ntmps26
      go_wp2
      go_ret3
      exact ⟨.inl ⟨_, _, _, rfl, rfl, HR.out⟩, 0, rfl⟩
    rw [if_neg h4]
    have e4 : (m == 102) = false := by simp [h4]
    clear h4
    go_enter Try.func26, Try.ntmps26
    go_wp2
    go_ret3
    exact ⟨.inr ⟨rfl, rfl⟩, 0, rfl⟩
end Go.Proofs.Ytpapbmamkggfhaa
