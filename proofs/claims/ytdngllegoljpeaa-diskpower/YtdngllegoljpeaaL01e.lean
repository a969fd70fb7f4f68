/-
  DiskPower: whatever n, limit and keep: just as many writes are done as the limit says, then nothing is, till the crash; kept by their numbers, in order: the law returns true.
-/
import Derived.Test.YtdngllegoljpeaaL01a
import Derived.IntWalk
namespace Go.Proofs.Ytdngllegoljpeaa
set_option linter.unusedVariables false
set_option linter.unusedSimpArgs false
open Go.ChangeShapes Go.WideShapes Go.ChangeAt Go.RowKit
open Go.ChangeMaps (open_string shut_string)

/-- The writes of the law: the first m. -/
def pwB (j : Nat) : List Int := pbytes (9 * (j : Int) + 1) 32
def pwL (m : Nat) : List (Nat × List Int) := (List.range m).map fun j => (j % 4, pwB j)
theorem length_pwB (j : Nat) : (pwB j).length = 32 := length_pbytes _ _
theorem length_pwL (m : Nat) : (pwL m).length = m := by simp [pwL]
theorem pwL_succ (m : Nat) : pwL (m + 1) = pwL m ++ [(m % 4, pwB m)] := by simp [pwL, List.range_succ]
def pwS (l i : Nat) : DSt := ⟨zsecs 4, pwL (min i l), (l : Int) - (min i l : Nat), decide (l < i)⟩
theorem pwS_n (l i : Nat) : (pwS l i).n = 4 := rfl
theorem pwS_step (l i : Nat) : (pwS l i).write ((i : Int) % 4) (pwB i) = pwS l (i + 1) ∧ (pwS l i).writeE ((i : Int) % 4) (pwB i) = if i < l then 0 else 8 := by
  have ht : ((i : Int) % 4).toNat = i % 4 := by omega
  by_cases h1 : i < l
  · have hd : (pwS l i).down = false := by simp [pwS]; omega
    have hr := refuse0 (i := (i : Int) % 4) hd (by omega) (by rw [pwS_n]; omega)
    have hl : 0 < (pwS l i).left := by simp only [pwS]; omega
    obtain ⟨e1, e2⟩ := write_cnt (xs := pwB i) hr (length_pwB i) hl
    rw [e1, e2, if_pos h1]
    refine ⟨?_, rfl⟩
    simp only [pwS, ht]
    rw [show min i l = i by omega, show min (i + 1) l = i + 1 by omega, pwL_succ]
    congr 1
    · omega
    · simp; omega
  · rw [if_neg h1]
    by_cases h2 : i = l
    · subst h2
      have hd : (pwS i i).down = false := by simp [pwS]
      have hr := refuse0 (i := (i : Int) % 4) hd (by omega) (by rw [pwS_n]; omega)
      obtain ⟨e1, e2⟩ := write_down (xs := pwB i) hr (length_pwB i) (by simp [pwS])
      rw [e1, e2]
      refine ⟨?_, rfl⟩
      simp only [pwS]
      rw [show min i i = i by omega, show min (i + 1) i = i by omega]
      congr 1
      simp
    · have hd : (pwS l i).down = true := by simp [pwS]; omega
      obtain ⟨e1, e2⟩ := write_ref (xs := pwB i) (refuse8 (i := (i : Int) % 4) hd) (by omega)
      rw [e1, e2]
      refine ⟨?_, rfl⟩
      simp only [pwS]
      rw [show min i l = l by omega, show min (i + 1) l = l by omega]
      congr 1
      simp; omega
theorem survAll_snoc (F : List (List Int)) (p : List (Nat × List Int)) (q : Nat × List Int) (ks : List Int) :
    survAll F (p ++ [q]) ks = if h : p.length < ks.length then surv (survAll F p ks) q ks[p.length] else survAll F p ks := by
  have := survAll_take (p ++ [q]) F ks p.length (by simp)
  rw [List.take_of_length_le (by simp)] at this
  simpa using this
/-- The sectors behind the crash, had only the first m been written. -/
def pwF (ks : List Int) (m : Nat) : List (List Int) := survAll (zsecs 4) (pwL m) ks
theorem pwF_succ (ks : List Int) (m : Nat) : pwF ks (m + 1) = if h : m < ks.length then surv (pwF ks m) (m % 4, pwB m) ks[m] else pwF ks m := by
  unfold pwF
  rw [pwL_succ, survAll_snoc]
  simp only [length_pwL]
theorem length_pwF (ks : List Int) (m : Nat) : (pwF ks m).length = 4 := by unfold pwF; rw [length_survAll]; rfl
theorem row_pwF (ks : List Int) (m : Nat) : ∀ y ∈ pwF ks m, y.length = 32 := by
  refine row_survAll _ _ _ (newSt_ok 4 (by omega)).row (fun q hq => ?_)
  simp only [pwL, List.mem_map] at hq
  obtain ⟨j, _, rfl⟩ := hq
  exact ⟨by show j % 4 < 4; omega, length_pwB j⟩
theorem pwF_len (ks : List Int) (m a : Nat) (ha : a < 4) : ((pwF ks m).getD a []).length = 32 := by
  have h := length_pwF ks m
  simp only [List.getD, List.getElem?_eq_getElem (show a < (pwF ks m).length by omega), Option.getD_some]
  exact row_pwF ks m _ (List.getElem_mem _)
theorem surv_other (F : List (List Int)) (q : Nat × List Int) (k : Int) (a : Nat) (h : q.1 ≠ a) : (surv F q k)[a]? = F[a]? := by
  unfold surv
  split
  · rw [List.getElem?_set_ne h]
  · split
    · rw [List.getElem?_set_ne h]
    · rfl
theorem pwF_other (ks : List Int) (m a : Nat) (h : m % 4 ≠ a) : (pwF ks (m + 1)).getD a [] = (pwF ks m).getD a [] := by
  rw [pwF_succ]
  split
  · simp only [List.getD]; rw [surv_other (pwF ks m) (m % 4, pwB m) _ a h]
  · rfl
theorem pwF_same (ks : List Int) (a M : Nat) : ∀ (d : Nat), (∀ j, M ≤ j → j < M + d → j % 4 ≠ a) → (pwF ks (M + d)).getD a [] = (pwF ks M).getD a []
  | 0, _ => rfl
  | d + 1, h => by
    rw [← Nat.add_assoc, pwF_other ks (M + d) a (h (M + d) (by omega) (by omega))]
    exact pwF_same ks a M d (fun j h1 h2 => h j h1 (by omega))
theorem pwF_start (ks : List Int) (a : Nat) (ha : a < 4) : (pwF ks a).getD a [] = zsec := by
  have := pwF_same ks a 0 a (fun j _ h => by omega)
  rw [Nat.zero_add] at this
  rw [this]
  exact zsecs_getD 4 a ha
theorem pwF_end (ks : List Int) (a M i : Nat) (ha : a < 4) (hi : i % 4 = a) (h1 : M ≤ i) (h2 : i = a ∨ i < M + 4) : (pwF ks M).getD a [] = (pwF ks i).getD a [] := by
  have := pwF_same ks a M (i - M) (fun j h3 h4 => by omega)
  rw [show M + (i - M) = i by omega] at this
  exact this.symm
theorem pwF_four (ks : List Int) (a i : Nat) (hi : i % 4 = a) : (pwF ks (i + 4)).getD a [] = (pwF ks (i + 1)).getD a [] := by
  have := pwF_same ks a (i + 1) 3 (fun j h3 h4 => by omega)
  exact this
theorem pwF_two (ks : List Int) (a i : Nat) (ha : a < 4) (hi : i % 4 = a) (h : i < ks.length) (hk : ks[i] = 2) : (pwF ks (i + 4)).getD a [] = pwB i := by
  rw [pwF_four ks a i hi, pwF_succ, dif_pos h]
  simp only [surv, hk, if_true, hi]
  rw [List.getD, List.getElem?_set_self (by rw [length_pwF]; exact ha)]
  rfl
theorem pwF_one (ks : List Int) (a i : Nat) (ha : a < 4) (hi : i % 4 = a) (h : i < ks.length) (hk : ks[i] = 1) : (pwF ks (i + 4)).getD a [] = (pwB i).take 16 ++ ((pwF ks i).getD a []).drop 16 := by
  rw [pwF_four ks a i hi, pwF_succ, dif_pos h]
  simp only [surv, hk, hi]
  rw [if_neg (by omega), if_pos trivial, List.getD, List.getElem?_set_self (by rw [length_pwF]; exact ha)]
  rfl
theorem pwF_none (ks : List Int) (a i : Nat) (hi : i % 4 = a) (h : ∀ h : i < ks.length, ks[i] ≠ 1 ∧ ks[i] ≠ 2) : (pwF ks (i + 4)).getD a [] = (pwF ks i).getD a [] := by
  rw [pwF_four ks a i hi, pwF_succ]
  split
  · rename_i hl
    simp only [surv, (h hl).1, (h hl).2, if_false]
  · rfl
theorem wr_half (W B : List Int) (hW : W.length = 32) (hB : B.length = 32) : wr (bv W) 0 (bv (B.take 16)) = bv (B.take 16 ++ W.drop 16) := by
  simp only [wr, List.take_zero, List.nil_append, length_bv, List.length_take, hB, Nat.zero_add]
  rw [bv_append, bv_drop]
  rfl
theorem half_src {w : World} {ad : Addr} {B : List Int} (h : ∀ j x, B[j]? = some x → w.cell? (ad.add j) = some (.int .u8 x)) (m : Nat) : ∀ j u, (bv (B.take m))[j]? = some u → w.cell? (ad.add j) = some u := by
  intro j u hu
  simp only [bv, List.getElem?_map, Option.map_eq_some_iff] at hu
  obtain ⟨x, hx, rfl⟩ := hu
  refine h j x ?_
  have hj : j < m := by have := (List.getElem?_eq_some_iff.1 hx).1; simp at this; omega
  rw [List.getElem?_take_of_lt hj] at hx
  exact hx
theorem Bs.at32 {w : World} {v : Value} {xs : List Int} (h : Bs w v xs) (hn : xs.length = 32) : ∃ ad c, v = .slice (some ad) 32 c ∧ ∀ j x, xs[j]? = some x → w.cell? (ad.add j) = some (.int .u8 x) := by
  obtain ⟨A, m, c, rfl, hm, _, hA⟩ := h
  obtain rfl : m = 32 := by omega
  obtain ⟨ad, rfl, hc⟩ := hA (by omega)
  exact ⟨ad, c, rfl, hc⟩
set_option maxRecDepth 100000 in
set_option maxHeartbeats 8000000 in
theorem diskPower_walk (a0 : Int) (_ : (Lit.int .i64 a0).wf = true) (a1 : Int) (_ : (Lit.int .i64 a1).wf = true) (v : Value) (ks : List Int) (w : World) (hks : InRow .i64 w v ks) :
    Calls Try.prog 3 #[.int .i64 a0, .int .i64 a1, v] w (Yes w) := by
  have HR := Lib.hid (fun R => hks.rdv R)
  obtain ⟨A, kn, kc, rfl, hkl, hknc, hkm, hj1, hj2⟩ := hks
  clear hj1 hj2
  have HKL := Lib.hid hkl
  clear hkl hkm
  obtain ⟨n, hn⟩ := Int.eq_ofNat_of_zero_le (show 0 ≤ a0 % 14 by omega)
  obtain ⟨l, hl⟩ := Int.eq_ofNat_of_zero_le (show 0 ≤ a1 % 14 by omega)
  have hn14 : n < 14 := by omega
  have hl14 : l < 14 := by omega
  have HN := Lib.hid hn
  have HLM := Lib.hid hl
  clear hn hl
  go_enter Try.func3, Try.ntmps3
  go_wp2_with fail
  have hcall := new_is (Own.start w) 4 4 rfl
  with_reducible refine hcall.mono ?_
  clear hcall
  rintro e w1 ⟨d, Ld, rfl, hd, hO⟩
  obtain ⟨bd, rfl⟩ := hd.ptr
  have HD := Lib.hid hd; have HO := Lib.hid hO; clear hO hd
  go_wp2_with fail
  have hcall := within_c (w := w1) a0 14 (by omega) (by omega)
  with_reducible refine hcall.mono ?_
  clear hcall
  rintro e w' ⟨rfl, rfl⟩
  rw [HN.out]
  go_wp2_with fail
  have hcall := within_c (w := w1) a1 14 (by omega) (by omega)
  with_reducible refine hcall.mono ?_
  clear hcall
  rintro e w' ⟨rfl, rfl⟩
  rw [HLM.out]
  go_wp2_with fail
  have hcall := limit_c HD.out HO.out l (by omega)
  with_reducible refine hcall.mono ?_
  clear hcall
  rintro e w2 ⟨rfl, L2, hd2, hO2⟩
  have hs0 : ({ newSt 4 with left := max (l : Int) (-1) } : DSt) = pwS l 0 := by
    simp only [pwS, newSt]
    rw [show min 0 l = 0 by omega, show max (l : Int) (-1) = l by omega]
    simp [pwL]
  rw [hs0] at hd2
  have HD2 := Lib.hid hd2; have HO2 := Lib.hid hO2; clear hd2 hO2 hs0 HD HO
  go_wp2
  go_loopw [8] (fun t w' => ∃ i : Nat, i ≤ n ∧ t = .int .i64 i ∧ ∃ L, Hid (IsDisk (.pointer (some ⟨bd, 0, none⟩)) (pwS l i) L) ∧ Hid (Own w w' (L ++ []))) (fun t _ => n - (intOf t).toNat)
  case atStart => exact ⟨0, Nat.zero_le _, rfl, _, HD2.out, HO2.out⟩
  case round =>
    obtain ⟨i, hi, rfl, L, HD3, HO3⟩ := hrel
    clear HD2 HO2
    by_cases hlt : i < n
    · have hlt' : (i : Int) < n := by omega
      have HST := Lib.hid (pwS_step l i)
      go_wp2_with fail
      have hcall := bytes32_c HO3.out (9 * (i : Int) + 1)
      with_reducible refine hcall.mono ?_
      clear hcall
      rintro e w3 ⟨x, Lx, rfl, hx, hO4⟩
      have HX := Lib.hid hx; have HO4 := Lib.hid hO4.rot; clear hx hO4 HO3
      go_wp2_with fail
      have hcall := write_is HD3.out HO4.out ((i : Int) % 4) x (pwB i) (HX.out.rd sub_here) (by simp only [pwS, length_pwL]; omega) _ _ HST.out.1 HST.out.2
      with_reducible refine hcall.mono ?_
      clear hcall
      rintro e w4 ⟨rfl, L4, hd4, hO5⟩
      have HD4 := Lib.hid hd4; have HO5 := Lib.hid hO5.rot.right; clear hd4 hO5 HD3 HO4 HX
      by_cases hil : i < l
      · have hil' : (i : Int) < l := by omega
        rw [if_pos hil]
        clear HST
        go_wp2
        go_roundw
        case rel => exact ⟨i + 1, by omega, by go_num, _, HD4.out, HO5.out⟩
        case measure => simp [intOf]; omega
      · have hil' : ¬ (i : Int) < l := by omega
        rw [if_neg hil]
        clear HST
        go_wp2
        go_roundw
        case rel => exact ⟨i + 1, by omega, by go_num, _, HD4.out, HO5.out⟩
        case measure => simp [intOf]; omega
    · obtain rfl : n = i := by omega
      have hlt' : ¬ (n : Int) < n := by omega
      clear hlt
      by_cases hnl : l < n
      · have hnl' : (l : Int) < n := by omega
        have hdn : (pwS l n).down = true := by simp [pwS]; omega
        have hpn : ((pwS l n).pend.length : Int) = l := by simp only [pwS, length_pwL]; omega
        have HDN := Lib.hid hdn; have HPN := Lib.hid hpn
        clear hdn hpn
        go_wp2_with fail
        have hcall := down_is HD3.out HO3.out true HDN.out
        with_reducible refine hcall.mono ?_
        clear hcall
        rintro e w' ⟨rfl, rfl⟩
        go_wp2_with fail
        have hcall := pending_is HD3.out HO3.out l HPN.out
        with_reducible refine hcall.mono ?_
        clear hcall
        rintro e w' ⟨rfl, rfl⟩
        go_wp2_with fail
        have hcall := down_is HD3.out HO3.out true HDN.out
        with_reducible refine hcall.mono ?_
        clear hcall
        rintro e w' ⟨rfl, rfl⟩
        go_wp2_with fail
        have hcall := flush_is HD3.out HO3.out (pwS l n) 8 (by simp [DSt.flush, HDN.out]) (by simp [DSt.flushE, HDN.out])
        with_reducible refine hcall.mono ?_
        clear hcall
        rintro e w4 ⟨rfl, L4, hd4, hO4⟩
        have HD4 := Lib.hid hd4; have HO4 := Lib.hid hO4; clear hd4 hO4 HD3 HO3
        go_wp2_with fail
        have hcr : (pwS l n).crash ks = ⟨pwF ks l, [], -1, false⟩ := by simp only [DSt.crash, pwS, pwF]; rw [show min n l = l by omega]
        have hcall := crash_is HD4.out HO4.out (.slice A kn kc) ks (HR.out []) ⟨pwF ks l, [], -1, false⟩ hcr
        with_reducible refine hcall.mono ?_
        clear hcall
        rintro e w5 ⟨rfl, L5, hd5, hO5⟩
        have HD5 := Lib.hid hd5; have HO5 := Lib.hid hO5; clear hd5 hO5 HD4 HO4 hcr HDN HPN
        go_wp2
        go_loopw [10] (fun t w' => ∃ a : Nat, a ≤ 4 ∧ t = .int .i64 a ∧ ∃ L, Hid (IsDisk (.pointer (some ⟨bd, 0, none⟩)) ⟨pwF ks l, [], -1, false⟩ L) ∧ Hid (Own w w' (L ++ []))) (fun t _ => 4 - (intOf t).toNat)
        case atStart => exact ⟨0, Nat.zero_le _, rfl, _, HD5.out, HO5.out⟩
        case round =>
          obtain ⟨a, ha4, rfl, L, HD6, HO6⟩ := hrel
          clear HD5 HO5
          by_cases ha : a < 4
          · have ha' : (a : Int) < 4 := by omega
            have hmk := make_bytes 32 (by omega)
            go_wp2_with (refine wl_makeSlice rfl _ _ _ rfl HO6.out _ 32 32 (by exact hmk _) ?_; intro g w6 hO7; have HO7 := Lib.hid hO7; clear hO7 HO6)
            clear hmk
            go_loopw [12] (fun t w' => ∃ i : Nat, i % 4 = a ∧ (i = a ∨ i < l + 4) ∧ t = .int .i64 i ∧ Hid (Own w w' ((g, Obj.cells (bv ((pwF ks i).getD a [])).toArray 5) :: (L ++ [])))) (fun t _ => l + 4 - (intOf t).toNat)
            case atStart => exact ⟨a, by omega, .inl rfl, rfl, by rw [pwF_start ks a ha]; exact HO7.out⟩
            case round =>
              obtain ⟨i, ham, hib, rfl, HO6⟩ := hrel
              clear HO7
              have HW := Lib.hid (pwF_len ks i a ha)
              by_cases hiM : i < l
              · have hiM' : (i : Int) < l := by omega
                by_cases hkn : i < kn
                · have hkn' : (i : Int) < kn := by omega
                  obtain ⟨A', n', c', e, hj1, hj2, hA⟩ := HR.out [] wr [] (HO6.out.right (A := _ :: L))
                  cases e
                  obtain ⟨ad, rfl, hj3⟩ := hA (by omega)
                  clear hA hj1 hj2 hj3
                  have hix : i < ks.length := by rw [HKL.out]; exact hkn
                  have HCK := Lib.hid (fun w' L' (h : Own w w' (L' ++ [])) => (HR.out []).src h i (.int .i64 ks[i]) (by simp [hix]))
                  generalize hkv : ks[i] = kv at HCK
                  have HKV := Lib.hid hkv
                  clear hkv
                  have hkc : wr.cell? (ad.add i) = some (.int .i64 kv) := HCK.out wr [] (HO6.out.right (A := _ :: L))
                  have hi0 : (0 : Int) ≤ i := by omega
                  by_cases h1 : kv = 1
                  · subst h1
                    go_wp2
                    have q1 : IntKind.i64.wrap 16 = 16 := rfl
                    have q2 : IntKind.i64.wrap 32 = 32 := rfl
                    have q3 : IntKind.i64.wrap (9 * (i : Int)) = 9 * i := IntWalk.i64_in _ (by omega)
                    have q4 : IntKind.i64.wrap (9 * (i : Int) + 1) = 9 * i + 1 := IntWalk.i64_in _ (by omega)
                    refine wp_region_lin (fun w' => w'.cell? (ad.add i) = some (.int .i64 1)) 11 [(0, true), (1, true), (2, true), (3, true), (4, true), (5, true), (6, true), (7, true), (8, true), (9, true), (10, false)] (by kernel_rfl) (by kernel_rfl) (fun _ _ d _ _ h => by cases d <;> exact h) hkc ?_
                    simp only [List.map_cons, List.map_nil, pick_zero, pick_succ, List.drop_succ_cons, List.drop_zero]
                    iterate 10 (refine lin_q ?_ rfl ?_ ?_; rotate_left 1; (focus (rintro w' hq1; go_simp; try with_reducible rfl)); simp only [Act.put, List.setIfInBounds_toArray, List.set_cons_zero, List.set_cons_succ])
                    clear q1 q2 q3 q4
                    refine lin_act ?_
                    go_wp2_with fail
                    have hcall := bytes32_c HO6.out.drew (9 * (i : Int) + 1)
                    with_reducible refine hcall.mono ?_
                    clear hcall
                    rintro e w7 ⟨x, Lx, rfl, hx, hO7⟩
                    obtain ⟨ax, cx, rfl, hcx⟩ := (hx.bs hO7).at32 (length_pbytes _ _)
                    have hO8 := Own.rot (B := [_]) hO7
                    have hS : w7.cell? (ad.add i) = some (.int .i64 1) := by
                      have h := HCK.out w7 [] (by rw [List.nil_append]; exact hO8.right.right.right)
                      exact h
                    go_wp2_with fail
                    refine LinPost.mk hS ?_
                    refine lin_nil ?_
                    try simp only [Act.put, List.setIfInBounds_toArray, List.set_cons_zero, List.set_cons_succ]
                    refine wl_copy rfl _ _ _ _ rfl _ Try.underlying29 (by kernel_rfl) hO8 0 g 0 _ (bv ((pwB i).take 16)) _ rfl 16 32 ax 32 cx (by rfl) (by rfl) (by rw [length_bv, List.length_take, length_pwB]; try rfl) (half_src hcx 16) (by rw [length_bv, List.length_take, length_pwB, length_bv, HW.out]; omega) (one_bv _) ?_
                    intro w8 hO9
                    rw [wr_half _ _ HW.out (length_pwB i), ← pwF_one ks a i ha ham (by rw [HKL.out]; exact hkn) HKV.out] at hO9
                    have HO9 := Lib.hid (Own.rot (A := [_]) hO9).right
                    clear hO9 hO8 hO7 hx hcx hS HO6 hkc
                    go_wp2
                    go_roundw
                    case rel => exact ⟨i + 4, by omega, by omega, by go_num, HO9.out⟩
                    case measure => simp [intOf]; omega
                  · by_cases h2 : kv = 2
                    · subst h2
                      clear h1
                      go_wp2
                      have q1 : IntKind.i64.wrap 16 = 16 := rfl
                      have q2 : IntKind.i64.wrap 32 = 32 := rfl
                      have q3 : IntKind.i64.wrap (9 * (i : Int)) = 9 * i := IntWalk.i64_in _ (by omega)
                      have q4 : IntKind.i64.wrap (9 * (i : Int) + 1) = 9 * i + 1 := IntWalk.i64_in _ (by omega)
                      refine wp_region_lin (fun w' => w'.cell? (ad.add i) = some (.int .i64 2)) 11 [(0, true), (1, true), (2, true), (3, true), (4, true), (5, true), (6, true), (7, true), (8, true), (9, true), (10, false)] (by kernel_rfl) (by kernel_rfl) (fun _ _ d _ _ h => by cases d <;> exact h) hkc ?_
                      simp only [List.map_cons, List.map_nil, pick_zero, pick_succ, List.drop_succ_cons, List.drop_zero]
                      iterate 10 (refine lin_q ?_ rfl ?_ ?_; rotate_left 1; (focus (rintro w' hq1; go_simp; try with_reducible rfl)); simp only [Act.put, List.setIfInBounds_toArray, List.set_cons_zero, List.set_cons_succ])
                      clear q1 q2 q3 q4
                      refine lin_act ?_
                      go_wp2_with fail
                      have hcall := bytes32_c HO6.out.drew (9 * (i : Int) + 1)
                      with_reducible refine hcall.mono ?_
                      clear hcall
                      rintro e w7 ⟨x, Lx, rfl, hx, hO7⟩
                      obtain ⟨ax, cx, rfl, hcx⟩ := (hx.bs hO7).at32 (length_pbytes _ _)
                      have hO8 := Own.rot (B := [_]) hO7
                      have hS : w7.cell? (ad.add i) = some (.int .i64 2) := by
                        have h := HCK.out w7 [] (by rw [List.nil_append]; exact hO8.right.right.right)
                        exact h
                      go_wp2_with fail
                      refine LinPost.mk hS ?_
                      refine lin_nil ?_
                      try simp only [Act.put, List.setIfInBounds_toArray, List.set_cons_zero, List.set_cons_succ]
                      refine wl_copy rfl _ _ _ _ rfl _ Try.underlying29 (by kernel_rfl) hO8 0 g 0 _ (bv ((pwB i).take 32)) _ rfl 32 32 ax 32 cx (by rfl) (by rfl) (by rw [length_bv, List.length_take, length_pwB]; try rfl) (half_src hcx 32) (by rw [length_bv, List.length_take, length_pwB, length_bv, HW.out]; omega) (one_bv _) ?_
                      intro w8 hO9
                      rw [List.take_of_length_le (by rw [length_pwB]; exact Nat.le_refl _), wr_all _ _ (by rw [length_bv, length_bv, length_pwB, HW.out]), ← pwF_two ks a i ha ham (by rw [HKL.out]; exact hkn) HKV.out] at hO9
                      have HO9 := Lib.hid (Own.rot (A := [_]) hO9).right
                      clear hO9 hO8 hO7 hx hcx hS HO6 hkc
                      go_wp2
                      go_roundw
                      case rel => exact ⟨i + 4, by omega, by omega, by go_num, HO9.out⟩
                      case measure => simp [intOf]; omega
                    · have h1' : (kv == 1) = false := by simp [h1]
                      have h2' : (kv == 2) = false := by simp [h2]
                      have HNO := Lib.hid (fun h : i < ks.length => (⟨by rw [HKV.out]; exact h1, by rw [HKV.out]; exact h2⟩ : ks[i] ≠ 1 ∧ ks[i] ≠ 2))
                      have hno := pwF_none ks a i ham HNO.out
                      have hO9 := HO6.out
                      rw [← hno] at hO9
                      have HO9 := Lib.hid hO9
                      clear hno hO9 HO6
                      go_wp2
                      go_roundw
                      case rel => exact ⟨i + 4, by omega, by omega, by go_num, HO9.out⟩
                      case measure => simp [intOf]; omega
                · have hkn' : ¬ (i : Int) < kn := by omega
                  have HNO := Lib.hid (fun h : i < ks.length => absurd (HKL.out ▸ h) hkn : ∀ h : i < ks.length, ks[i] ≠ 1 ∧ ks[i] ≠ 2)
                  have hno := pwF_none ks a i ham HNO.out
                  have hO9 := HO6.out
                  rw [← hno] at hO9
                  have HO9 := Lib.hid hO9
                  clear hno hO9 HO6
                  go_wp2
                  go_roundw
                  case rel => exact ⟨i + 4, by omega, by omega, by go_num, HO9.out⟩
                  case measure => simp [intOf]; omega
              · have hiM' : ¬ (i : Int) < l := by omega
                go_wp2_with fail
                have hre : (DSt.la ⟨pwF ks l, [], -1, false⟩).getD (a : Int).toNat [] = (pwF ks i).getD a [] := by
                  rw [Int.toNat_natCast]; exact pwF_end ks a l i ha ham (by omega) (by omega)
                have hcall := read_ok HD6.out (Own.rot (A := [_]) HO6.out) (a : Int) ((pwF ks i).getD a []) (refuse0 rfl (by omega) (by show (a : Int) < ((pwF ks l).length : Nat); rw [length_pwF]; omega)) hre
                with_reducible refine hcall.mono ?_
                clear hcall
                rintro e w7 ⟨vx, Lx, L7, rfl, hd7, hO8, hx⟩
                obtain ⟨ax, cx, rfl, hj4⟩ := (hx.bs hO8).at32 HW.out
                clear hj4
                have hbx := Lib.hid (hx.bs hO8)
                have hO9 := hO8.right.rot
                have hbw := Lib.hid ((isBytes_whole g _ (by rw [HW.out]; omega)).bs hO9)
                have HD7 := Lib.hid hd7
                have HO9 := Lib.hid hO9.right
                rw [HW.out] at hbw
                clear hO8 hO9 hd7 hx HD6 HO6 hre
                go_wp2_with fail
                have hcall := same_c _ _ _ _ hbx.out hbw.out (by rw [HW.out]; omega)
                with_reducible refine hcall.mono ?_
                clear hcall
                rintro e w' ⟨rfl, m, rfl⟩
                rw [decide_eq_true rfl]
                have HO10 := Lib.hid (HO9.out.drewN m)
                generalize w7.drewN m = w8 at *
                clear HO9 hbx hbw
                go_wp2
                go_roundw
                case rel => exact ⟨a + 1, by omega, by go_num, _, HD7.out, HO10.out⟩
                case measure => simp [intOf]; omega
          · obtain rfl : a = 4 := by omega
            go_wp2_with fail
            have hcall := down_is HD6.out HO6.out false rfl
            with_reducible refine hcall.mono ?_
            clear hcall
            rintro e w' ⟨rfl, rfl⟩
            go_wp2_with fail
            have hcall := pending_is HD6.out HO6.out 0 rfl
            with_reducible refine hcall.mono ?_
            clear hcall
            rintro e w' ⟨rfl, rfl⟩
            go_wp2_with fail
            have hcall := wakes_c HO6.out
            with_reducible refine hcall.mono ?_
            clear hcall
            rintro e w7 ⟨rfl, hO7⟩
            have HO7 := Lib.hid hO7; clear hO7 HO6 HD6
            go_wp2
            go_ret
            exact HO7.out.yes rfl
      · have hnl' : ¬ (l : Int) < n := by omega
        have hdn : (pwS l n).down = false := by simp [pwS]; omega
        have hpn : ((pwS l n).pend.length : Int) = n := by simp only [pwS, length_pwL]; omega
        have HDN := Lib.hid hdn; have HPN := Lib.hid hpn
        clear hdn hpn
        go_wp2_with fail
        have hcall := down_is HD3.out HO3.out false HDN.out
        with_reducible refine hcall.mono ?_
        clear hcall
        rintro e w' ⟨rfl, rfl⟩
        go_wp2_with fail
        have hcall := pending_is HD3.out HO3.out n HPN.out
        with_reducible refine hcall.mono ?_
        clear hcall
        rintro e w' ⟨rfl, rfl⟩
        go_wp2_with fail
        have hcall := down_is HD3.out HO3.out false HDN.out
        with_reducible refine hcall.mono ?_
        clear hcall
        rintro e w' ⟨rfl, rfl⟩
        go_wp2_with fail
        have HD4 := HD3; have HO4 := HO3; clear HD3 HO3
        have hcr : (pwS l n).crash ks = ⟨pwF ks n, [], -1, false⟩ := by simp only [DSt.crash, pwS, pwF]; rw [show min n l = n by omega]
        have hcall := crash_is HD4.out HO4.out (.slice A kn kc) ks (HR.out []) ⟨pwF ks n, [], -1, false⟩ hcr
        with_reducible refine hcall.mono ?_
        clear hcall
        rintro e w5 ⟨rfl, L5, hd5, hO5⟩
        have HD5 := Lib.hid hd5; have HO5 := Lib.hid hO5; clear hd5 hO5 HD4 HO4 hcr HDN HPN
        go_wp2
        go_loopw [10] (fun t w' => ∃ a : Nat, a ≤ 4 ∧ t = .int .i64 a ∧ ∃ L, Hid (IsDisk (.pointer (some ⟨bd, 0, none⟩)) ⟨pwF ks n, [], -1, false⟩ L) ∧ Hid (Own w w' (L ++ []))) (fun t _ => 4 - (intOf t).toNat)
        case atStart => exact ⟨0, Nat.zero_le _, rfl, _, HD5.out, HO5.out⟩
        case round =>
          obtain ⟨a, ha4, rfl, L, HD6, HO6⟩ := hrel
          clear HD5 HO5
          by_cases ha : a < 4
          · have ha' : (a : Int) < 4 := by omega
            have hmk := make_bytes 32 (by omega)
            go_wp2_with (refine wl_makeSlice rfl _ _ _ rfl HO6.out _ 32 32 (by exact hmk _) ?_; intro g w6 hO7; have HO7 := Lib.hid hO7; clear hO7 HO6)
            clear hmk
            go_loopw [12] (fun t w' => ∃ i : Nat, i % 4 = a ∧ (i = a ∨ i < n + 4) ∧ t = .int .i64 i ∧ Hid (Own w w' ((g, Obj.cells (bv ((pwF ks i).getD a [])).toArray 5) :: (L ++ [])))) (fun t _ => n + 4 - (intOf t).toNat)
            case atStart => exact ⟨a, by omega, .inl rfl, rfl, by rw [pwF_start ks a ha]; exact HO7.out⟩
            case round =>
              obtain ⟨i, ham, hib, rfl, HO6⟩ := hrel
              clear HO7
              have HW := Lib.hid (pwF_len ks i a ha)
              by_cases hiM : i < n
              · have hiM' : (i : Int) < n := by omega
                by_cases hkn : i < kn
                · have hkn' : (i : Int) < kn := by omega
                  obtain ⟨A', n', c', e, hj1, hj2, hA⟩ := HR.out [] wr [] (HO6.out.right (A := _ :: L))
                  cases e
                  obtain ⟨ad, rfl, hj3⟩ := hA (by omega)
                  clear hA hj1 hj2 hj3
                  have hix : i < ks.length := by rw [HKL.out]; exact hkn
                  have HCK := Lib.hid (fun w' L' (h : Own w w' (L' ++ [])) => (HR.out []).src h i (.int .i64 ks[i]) (by simp [hix]))
                  generalize hkv : ks[i] = kv at HCK
                  have HKV := Lib.hid hkv
                  clear hkv
                  have hkc : wr.cell? (ad.add i) = some (.int .i64 kv) := HCK.out wr [] (HO6.out.right (A := _ :: L))
                  have hi0 : (0 : Int) ≤ i := by omega
                  by_cases h1 : kv = 1
                  · subst h1
                    go_wp2
                    have q1 : IntKind.i64.wrap 16 = 16 := rfl
                    have q2 : IntKind.i64.wrap 32 = 32 := rfl
                    have q3 : IntKind.i64.wrap (9 * (i : Int)) = 9 * i := IntWalk.i64_in _ (by omega)
                    have q4 : IntKind.i64.wrap (9 * (i : Int) + 1) = 9 * i + 1 := IntWalk.i64_in _ (by omega)
                    refine wp_region_lin (fun w' => w'.cell? (ad.add i) = some (.int .i64 1)) 11 [(0, true), (1, true), (2, true), (3, true), (4, true), (5, true), (6, true), (7, true), (8, true), (9, true), (10, false)] (by kernel_rfl) (by kernel_rfl) (fun _ _ d _ _ h => by cases d <;> exact h) hkc ?_
                    simp only [List.map_cons, List.map_nil, pick_zero, pick_succ, List.drop_succ_cons, List.drop_zero]
                    iterate 10 (refine lin_q ?_ rfl ?_ ?_; rotate_left 1; (focus (rintro w' hq1; go_simp; try with_reducible rfl)); simp only [Act.put, List.setIfInBounds_toArray, List.set_cons_zero, List.set_cons_succ])
                    clear q1 q2 q3 q4
                    refine lin_act ?_
                    go_wp2_with fail
                    have hcall := bytes32_c HO6.out.drew (9 * (i : Int) + 1)
                    with_reducible refine hcall.mono ?_
                    clear hcall
                    rintro e w7 ⟨x, Lx, rfl, hx, hO7⟩
                    obtain ⟨ax, cx, rfl, hcx⟩ := (hx.bs hO7).at32 (length_pbytes _ _)
                    have hO8 := Own.rot (B := [_]) hO7
                    have hS : w7.cell? (ad.add i) = some (.int .i64 1) := by
                      have h := HCK.out w7 [] (by rw [List.nil_append]; exact hO8.right.right.right)
                      exact h
                    go_wp2_with fail
                    refine LinPost.mk hS ?_
                    refine lin_nil ?_
                    try simp only [Act.put, List.setIfInBounds_toArray, List.set_cons_zero, List.set_cons_succ]
                    refine wl_copy rfl _ _ _ _ rfl _ Try.underlying29 (by kernel_rfl) hO8 0 g 0 _ (bv ((pwB i).take 16)) _ rfl 16 32 ax 32 cx (by rfl) (by rfl) (by rw [length_bv, List.length_take, length_pwB]; try rfl) (half_src hcx 16) (by rw [length_bv, List.length_take, length_pwB, length_bv, HW.out]; omega) (one_bv _) ?_
                    intro w8 hO9
                    rw [wr_half _ _ HW.out (length_pwB i), ← pwF_one ks a i ha ham (by rw [HKL.out]; exact hkn) HKV.out] at hO9
                    have HO9 := Lib.hid (Own.rot (A := [_]) hO9).right
                    clear hO9 hO8 hO7 hx hcx hS HO6 hkc
                    go_wp2
                    go_roundw
                    case rel => exact ⟨i + 4, by omega, by omega, by go_num, HO9.out⟩
                    case measure => simp [intOf]; omega
                  · by_cases h2 : kv = 2
                    · subst h2
                      clear h1
                      go_wp2
                      have q1 : IntKind.i64.wrap 16 = 16 := rfl
                      have q2 : IntKind.i64.wrap 32 = 32 := rfl
                      have q3 : IntKind.i64.wrap (9 * (i : Int)) = 9 * i := IntWalk.i64_in _ (by omega)
                      have q4 : IntKind.i64.wrap (9 * (i : Int) + 1) = 9 * i + 1 := IntWalk.i64_in _ (by omega)
                      refine wp_region_lin (fun w' => w'.cell? (ad.add i) = some (.int .i64 2)) 11 [(0, true), (1, true), (2, true), (3, true), (4, true), (5, true), (6, true), (7, true), (8, true), (9, true), (10, false)] (by kernel_rfl) (by kernel_rfl) (fun _ _ d _ _ h => by cases d <;> exact h) hkc ?_
                      simp only [List.map_cons, List.map_nil, pick_zero, pick_succ, List.drop_succ_cons, List.drop_zero]
                      iterate 10 (refine lin_q ?_ rfl ?_ ?_; rotate_left 1; (focus (rintro w' hq1; go_simp; try with_reducible rfl)); simp only [Act.put, List.setIfInBounds_toArray, List.set_cons_zero, List.set_cons_succ])
                      clear q1 q2 q3 q4
                      refine lin_act ?_
                      go_wp2_with fail
                      have hcall := bytes32_c HO6.out.drew (9 * (i : Int) + 1)
                      with_reducible refine hcall.mono ?_
                      clear hcall
                      rintro e w7 ⟨x, Lx, rfl, hx, hO7⟩
                      obtain ⟨ax, cx, rfl, hcx⟩ := (hx.bs hO7).at32 (length_pbytes _ _)
                      have hO8 := Own.rot (B := [_]) hO7
                      have hS : w7.cell? (ad.add i) = some (.int .i64 2) := by
                        have h := HCK.out w7 [] (by rw [List.nil_append]; exact hO8.right.right.right)
                        exact h
                      go_wp2_with fail
                      refine LinPost.mk hS ?_
                      refine lin_nil ?_
                      try simp only [Act.put, List.setIfInBounds_toArray, List.set_cons_zero, List.set_cons_succ]
                      refine wl_copy rfl _ _ _ _ rfl _ Try.underlying29 (by kernel_rfl) hO8 0 g 0 _ (bv ((pwB i).take 32)) _ rfl 32 32 ax 32 cx (by rfl) (by rfl) (by rw [length_bv, List.length_take, length_pwB]; try rfl) (half_src hcx 32) (by rw [length_bv, List.length_take, length_pwB, length_bv, HW.out]; omega) (one_bv _) ?_
                      intro w8 hO9
                      rw [List.take_of_length_le (by rw [length_pwB]; exact Nat.le_refl _), wr_all _ _ (by rw [length_bv, length_bv, length_pwB, HW.out]), ← pwF_two ks a i ha ham (by rw [HKL.out]; exact hkn) HKV.out] at hO9
                      have HO9 := Lib.hid (Own.rot (A := [_]) hO9).right
                      clear hO9 hO8 hO7 hx hcx hS HO6 hkc
                      go_wp2
                      go_roundw
                      case rel => exact ⟨i + 4, by omega, by omega, by go_num, HO9.out⟩
                      case measure => simp [intOf]; omega
                    · have h1' : (kv == 1) = false := by simp [h1]
                      have h2' : (kv == 2) = false := by simp [h2]
                      have HNO := Lib.hid (fun h : i < ks.length => (⟨by rw [HKV.out]; exact h1, by rw [HKV.out]; exact h2⟩ : ks[i] ≠ 1 ∧ ks[i] ≠ 2))
                      have hno := pwF_none ks a i ham HNO.out
                      have hO9 := HO6.out
                      rw [← hno] at hO9
                      have HO9 := Lib.hid hO9
                      clear hno hO9 HO6
                      go_wp2
                      go_roundw
                      case rel => exact ⟨i + 4, by omega, by omega, by go_num, HO9.out⟩
                      case measure => simp [intOf]; omega
                · have hkn' : ¬ (i : Int) < kn := by omega
                  have HNO := Lib.hid (fun h : i < ks.length => absurd (HKL.out ▸ h) hkn : ∀ h : i < ks.length, ks[i] ≠ 1 ∧ ks[i] ≠ 2)
                  have hno := pwF_none ks a i ham HNO.out
                  have hO9 := HO6.out
                  rw [← hno] at hO9
                  have HO9 := Lib.hid hO9
                  clear hno hO9 HO6
                  go_wp2
                  go_roundw
                  case rel => exact ⟨i + 4, by omega, by omega, by go_num, HO9.out⟩
                  case measure => simp [intOf]; omega
              · have hiM' : ¬ (i : Int) < n := by omega
                go_wp2_with fail
                have hre : (DSt.la ⟨pwF ks n, [], -1, false⟩).getD (a : Int).toNat [] = (pwF ks i).getD a [] := by
                  rw [Int.toNat_natCast]; exact pwF_end ks a n i ha ham (by omega) (by omega)
                have hcall := read_ok HD6.out (Own.rot (A := [_]) HO6.out) (a : Int) ((pwF ks i).getD a []) (refuse0 rfl (by omega) (by show (a : Int) < ((pwF ks n).length : Nat); rw [length_pwF]; omega)) hre
                with_reducible refine hcall.mono ?_
                clear hcall
                rintro e w7 ⟨vx, Lx, L7, rfl, hd7, hO8, hx⟩
                obtain ⟨ax, cx, rfl, hj4⟩ := (hx.bs hO8).at32 HW.out
                clear hj4
                have hbx := Lib.hid (hx.bs hO8)
                have hO9 := hO8.right.rot
                have hbw := Lib.hid ((isBytes_whole g _ (by rw [HW.out]; omega)).bs hO9)
                have HD7 := Lib.hid hd7
                have HO9 := Lib.hid hO9.right
                rw [HW.out] at hbw
                clear hO8 hO9 hd7 hx HD6 HO6 hre
                go_wp2_with fail
                have hcall := same_c _ _ _ _ hbx.out hbw.out (by rw [HW.out]; omega)
                with_reducible refine hcall.mono ?_
                clear hcall
                rintro e w' ⟨rfl, m, rfl⟩
                rw [decide_eq_true rfl]
                have HO10 := Lib.hid (HO9.out.drewN m)
                generalize w7.drewN m = w8 at *
                clear HO9 hbx hbw
                go_wp2
                go_roundw
                case rel => exact ⟨a + 1, by omega, by go_num, _, HD7.out, HO10.out⟩
                case measure => simp [intOf]; omega
          · obtain rfl : a = 4 := by omega
            go_wp2_with fail
            have hcall := down_is HD6.out HO6.out false rfl
            with_reducible refine hcall.mono ?_
            clear hcall
            rintro e w' ⟨rfl, rfl⟩
            go_wp2_with fail
            have hcall := pending_is HD6.out HO6.out 0 rfl
            with_reducible refine hcall.mono ?_
            clear hcall
            rintro e w' ⟨rfl, rfl⟩
            go_wp2_with fail
            have hcall := wakes_c HO6.out
            with_reducible refine hcall.mono ?_
            clear hcall
            rintro e w7 ⟨rfl, hO7⟩
            have HO7 := Lib.hid hO7; clear hO7 HO6 HD6
            go_wp2
            go_ret
            exact HO7.out.yes rfl
set_option maxRecDepth 100000 in
theorem diskPower_lifted (os : Os) (started : os.Started) (H : Type) (enc : TypeId × Value → H) :
    ReturnsInHanded {} Try.checked os 3 .any (Rows.diskPowerSpec.pre6 enc Try.prog Try.f3 Rows.diskPowerRow.domain false) (Rows.diskPowerSpec.post enc Try.prog Try.f3 false true false false) := by
  refine returnsInHanded_of_change (C := Try.checked) (by kernel_rfl) started (by kernel_rfl) Try.func3
    (ChangeSpec.witness6 (enc := enc) (C := Try.checked) false ⟨#[], #[.int .i64 0, .int .i64 0, .slice none 0 0], []⟩ 8 (by kernel_rfl) (by kernel_rfl) (by kernel_rfl) (by kernel_rfl)) ?_
  intro W base args ds gs before hval0 hW hcnd _
  have hval : ∀ (j : Nat) t v, Try.f3.params[j]? = some t → args[j]? = some v → Value.okWide Try.prog W .any base t v := hval0
  have hW' := hW
  obtain ⟨p, q, hA0, hV, rfl, hfz, hnd⟩ := hW
  have hA : DataW.TrodAll enc Try.prog W 0 (fun _ => true) true Try.f3.params.toList args.toList ds p := hA0
  rw [Try.params3] at hA hval
  obtain ⟨v0, vs0, d0, ds0, p0, q0, hargs, rfl, rfl, h0, r0⟩ := trodAll_cons hA
  obtain ⟨v1, vs1, d1, ds1, p1, q1, rfl, rfl, rfl, h1, r1⟩ := trodAll_cons r0
  obtain ⟨v2, vs2, d2, ds2, p2, q2, rfl, rfl, rfl, h2, r2⟩ := trodAll_cons r1
  obtain ⟨rfl, rfl, rfl⟩ := trodAll_nil r2
  obtain rfl : args = #[v0, v1, v2] := by cases args; simp_all
  obtain ⟨rfl, rfl⟩ := trodVars_none hV
  obtain ⟨a0, rfl, rfl, rfl, w0⟩ := open_int Try.underlying3 (hval 0 3 v0 rfl rfl) h0
  obtain ⟨a1, rfl, rfl, rfl, w1⟩ := open_int Try.underlying3 (hval 1 3 v1 rfl rfl) h1
  obtain ⟨b2, len2, cap2, rfl⟩ := okWide_slice Try.underlying22 (hval 2 22 v2 rfl rfl)
  have k2 := h2
  have lt2 : ∀ x ∈ p2, x.block < W.heap.size := by obtain ⟨m, hm⟩ := k2; exact DataW.trod_lt m _ _ _ hm
  obtain ⟨a2, w2⟩ : ∃ xs, InRow .i64 W (.slice b2 len2 cap2) xs := by
    obtain ⟨fuel, hf⟩ := h2
    rcases open_ints Try.underlying22 Try.underlying3 (by kernel_rfl) hf with ⟨hcs, _⟩ | ⟨x, l, c, zs, hcs, _, hl, hm, hz, _, hcell, hwz⟩
    · simp [Value.cells] at hcs
      obtain ⟨rfl, rfl, rfl⟩ := hcs
      exact ⟨[], inRow_nil _ _⟩
    · simp [Value.cells] at hcs
      obtain ⟨rfl, rfl, rfl⟩ := hcs
      exact ⟨zs.take len2, inRow_mk hl hm (by simpa using hz) hcell hwz⟩
  clear hA0 hval0
  refine (diskPower_walk a0 w0 a1 w1 _ a2 W w2).mono fun e W' ⟨he, bel⟩ => ?_
  subst he
  exact ⟨_, rfl, _, _, _, [], _, [], hW', trodAll_mk1 (shut_bool Try.underlying4 _), (trodAll_cons_mk (shut_int Try.underlying3 w0) (trodAll_cons_mk (shut_int Try.underlying3 w1) (trodAll_cons_mk (Below.trod laidOut (by kernel_rfl) (of_decide_eq_true (by kernel_rfl)) k2 bel lt2) trodAll_mk0))), rfl, bel.frame _, fun h => by cases h⟩

/-- The statement. -/
theorem diskPower_proved : Rows.DiskPowerSaid :=
  OpenClaim.holds_of_wide 3 Try.f3 rfl rfl rfl rfl rfl rfl rfl ⟨rfl, rfl, rfl, rfl, rfl⟩ rfl rfl rfl rfl rfl (by kernel_rfl) Try.func3 (by kernel_rfl)
    (of_decide_eq_true (by kernel_rfl)) (by unfold Func.isWrapper; first | (rw [if_pos (by decide +kernel)]; kernel_rfl) | (rw [if_neg (by decide +kernel)]; exact ⟨rfl, rfl⟩))
    (fun os started H enc _ => diskPower_lifted os started H enc)
end Go.Proofs.Ytdngllegoljpeaa
