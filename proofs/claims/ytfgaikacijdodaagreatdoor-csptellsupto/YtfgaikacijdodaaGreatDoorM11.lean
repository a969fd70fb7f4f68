/-
  Texts that the laws stand on: Csp5, CspP4.
-/
import Derived.Test.YtfgaikacijdodaaGreatDoorM10
import Derived.Test.YtfgaikacijdodaaGreatDoorM9

/-
  The document's own Allows, CheckCSP, in plain Go.
-/
namespace Go.Proofs.YtfgaikacijdodaaGreatDoor
set_option linter.unusedVariables false
set_option linter.unusedSimpArgs false
set_option maxRecDepth 20000
open Go.RowKit

theorem IsStrs.form {v : Value} {ss : List ByteArray} {L : Blks} (h : IsStrs v ss L) : ∃ A c, v = .slice A ss.length c ∧ ss.length ≤ c ∧ (0 < ss.length → ∃ g, A = some ⟨g, 0, none⟩ ∧ ∀ (w0 w : World) (R : Blks), Own w0 w (L ++ R) → ∀ (j : Nat) x, ss[j]? = some x → w.cell? ⟨g, j, none⟩ = some (.string x)) := by
  have h0 := h
  rcases h.2 with ⟨hv, hn, hL⟩ | ⟨g, cap, sp, hv, hL, hl, hn, hm⟩
  · subst hv
    have hn' : ss.length = 0 := by simpa using hn
    exact ⟨none, 0, by rw [hn'], by omega, fun h => by omega⟩
  · subst hv
    refine ⟨some ⟨g, 0, none⟩, cap, rfl, hn, fun _ => ⟨g, rfl, fun w0 w R hO j x hx => ?_⟩⟩
    obtain ⟨A', n', c', e, hn', _, hA⟩ := h0.vs hO
    cases e
    obtain ⟨ad, e, hcell⟩ := hA (by have := (List.getElem?_eq_some_iff.1 hx).1; omega)
    cases e
    have := hcell j (.string x) (by simp only [sv, List.getElem?_map, hx, Option.map_some])
    rw [addr_add_zero] at this
    exact this
theorem words_at {W : List (List Int)} {k : Nat} (h : k < W.length) : (W.map strOfNums)[k]? = some (strOfNums (W.getD k [])) := by
  rw [List.getElem?_map, List.getElem?_eq_getElem h, Option.map_some, List.getD_eq_getElem?_getD, List.getElem?_eq_getElem h]; rfl
theorem words_take {W : List (List Int)} {k : Nat} (h : k < W.length) : W.take (k + 1) = W.take k ++ [W.getD k []] := by
  rw [List.take_succ_eq_append_getElem h, List.getD_eq_getElem?_getD, List.getElem?_eq_getElem h]; rfl
theorem words_mem {W : List (List Int)} {k : Nat} (h : k < W.length) : W.getD k [] ∈ W := by
  rw [List.getD_eq_getElem?_getD, List.getElem?_eq_getElem h]; exact List.getElem_mem h
set_option maxRecDepth 100000 in
set_option maxHeartbeats 16000000 in
theorem rallows_c {w0 w : World} {R : Blks} (hO : Own w0 w R) (s : ByteArray) (hs : s.size ≤ 10000000) (page u : UL) (hp : page.Half) (hu : u.Half) :
    Calls Tryz.prog 12 #[.string s, .agg page.val.toArray, .agg u.val.toArray] w fun e w' => e = .returned (.bool (allowsI (sb s) page u)) ∧ Own w0 w' R := by
  have hwd := fun (w1 : World) (R1 : Blks) (h : Own w0 w1 R1) => rwords_c h s (by omega)
  have hwB := wordsI_byt (byt_sb s)
  have hwl := wordsF_len (sb s) []
  rw [length_sb] at hwl
  obtain ⟨ans, hans⟩ : ∃ ans, allowsI (sb s) page u = ans := ⟨_, rfl⟩
  rw [hans]
  unfold allowsI at hans
  unfold wordsI at hwd hwB hans
  generalize wordsF [] (sb s) = W at *
  have hm := fun (w1 : World) (R1 : Blks) (h : Own w0 w1 R1) (x : List Int) (hx : Byt x) (hl : x.length ≤ 10000000) => rmatch_c h (strOfNums x) (by rw [strOfNums_size]; omega) page u hp hu
  have hm2 := fun (w1 : World) (R1 : Blks) (h : Own w0 w1 R1) (x : List Int) (hx : Byt x) (hl : x.length ≤ 10000000) => (hm w1 R1 h x hx hl).mono (fun e w' hq => by rw [sb_str hx] at hq; exact hq)
  clear hm
  simp only [UL.val] at hm2 ⊢
  generalize strOfNums page.sch = ps at *
  generalize strOfNums page.host = ph at *
  generalize strOfNums page.path = px at *
  generalize strOfNums page.query = pq at *
  generalize page.port = pp at *
  generalize strOfNums u.sch = us at *
  generalize strOfNums u.host = uh at *
  generalize strOfNums u.path = ux at *
  generalize strOfNums u.query = uq at *
  generalize u.port = up at *
  have HWD := Lib.hid hwd; have HWB := Lib.hid hwB; have HM := Lib.hid hm2; have HANS := Lib.hid hans
  have HWL : Hid (∀ x ∈ W, x.length ≤ 10000000) := Lib.hid (fun x hx => by have := (hwl.2 x hx).2.1; simp at this; omega)
  have hN : W.length ≤ 10000001 := by omega
  have HO := Lib.hid hO
  clear hwd hwB hm2 hans hwl hO hp hu hs
  go_enter Tryz.func12, Tryz.ntmps12
  go_wp2_with (first | (refine wl_box rfl _ _ rfl HO.out [Value.string ps, Value.string ph, Value.int .i64 pp, Value.string px, Value.string pq].toArray (by rfl) ?_; intro g1 w1 hO; have HO1 := Lib.hid hO; clear hO HO) | (refine wl_box rfl _ _ rfl HO1.out [Value.string us, Value.string uh, Value.int .i64 up, Value.string ux, Value.string uq].toArray (by rfl) ?_; intro g2 w2 hO; have HO2 := Lib.hid (hO.cast (L' := (g2, .cells [Value.string us, Value.string uh, Value.int .i64 up, Value.string ux, Value.string uq].toArray 29) :: (g1, .cells [Value.string ps, Value.string ph, Value.int .i64 pp, Value.string px, Value.string pq].toArray 29) :: R) rfl); clear hO HO1))
  with_reducible refine (HWD.out _ _ HO2.out).mono ?_
  rintro e w3 ⟨v, L, rfl, hv, hO⟩
  have HO3 := Lib.hid hO; clear hO HO2 HWD
  obtain ⟨A, c, hve, hcc, hcells⟩ := hv.form
  rw [List.length_map] at hve hcc hcells
  subst hve
  obtain ⟨N, hNe⟩ : ∃ N, W.length = N := ⟨_, rfl⟩
  rw [hNe] at hN hcc hcells ⊢
  have HC := Lib.hid hcells; have HNE := Lib.hid hNe
  clear hv hcells hNe
  go_wp2
  go_loopw [14] (fun t w' => ∃ k : Nat, k ≤ N ∧ t = .int .i64 k ∧ Hid (∀ x ∈ W.take k, matchI x page u = false) ∧ Hid (Own w0 w' (L ++ ((g2, .cells [Value.string us, Value.string uh, Value.int .i64 up, Value.string ux, Value.string uq].toArray 29) :: (g1, .cells [Value.string ps, Value.string ph, Value.int .i64 pp, Value.string px, Value.string pq].toArray 29) :: R)))) (fun t _ => N - (intOf t).toNat)
  case atStart => exact ⟨0, Nat.zero_le _, rfl, Lib.hid (fun x hx => by rw [List.take_zero] at hx; cases hx), HO3⟩
  case round =>
    obtain ⟨k, hk, rfl, HS, HO4⟩ := hrel
    clear HO3
    by_cases hlt : k < N
    · have hkn : (k : Int) < N := by omega
      have hkl : k < W.length := by rw [HNE.out]; exact hlt
      obtain ⟨g, rfl, hcell⟩ := HC.out (by omega)
      have hc := hcell _ _ _ HO4.out k _ (words_at hkl)
      have htk := words_take hkl
      have hmem := words_mem hkl
      generalize W.getD k [] = x at *
      have hmc := fun (w1 : World) (R1 : Blks) (h : Own w0 w1 R1) => HM.out w1 R1 h x (HWB.out x hmem) (HWL.out x hmem)
      cases hmx : matchI x page u with
      | true =>
        have HE : Hid (ans = true) := Lib.hid (by rw [← HANS.out, Bool.or_eq_true]; exact .inl (List.any_eq_true.2 ⟨x, hmem, hmx⟩))
        rw [hmx] at hmc
        have HMC := Lib.hid hmc
        clear hmx hmc hcell htk hmem hkl
        go_wp2_with (first | (refine wl_load rfl _ _ rfl g1 0 [Value.string ps, Value.string ph, Value.int .i64 pp, Value.string px, Value.string pq] [Value.string ps, Value.string ph, Value.int .i64 pp, Value.string px, Value.string pq] _ (HO4.out.heap (List.mem_append_right _ (.tail _ (.head _)))) (by rfl) _ Tryz.underlying29 rfl rurl_size (by rfl) ?_) | (refine wl_load rfl _ _ rfl g2 0 [Value.string us, Value.string uh, Value.int .i64 up, Value.string ux, Value.string uq] [Value.string us, Value.string uh, Value.int .i64 up, Value.string ux, Value.string uq] _ (HO4.out.heap (List.mem_append_right _ (.head _))) (by rfl) _ Tryz.underlying29 rfl rurl_size (by rfl) ?_))
        with_reducible refine (HMC.out _ _ HO4.out).mono ?_
        rintro e w5 ⟨rfl, hO⟩
        have HO5 := Lib.hid hO; clear hO HO4 hc
        go_wp2
        go_ret
        exact ⟨by rw [HE.out]; rfl, HO5.out.right.tail.tail⟩
      | false =>
        have HS2 : Hid (∀ y ∈ W.take (k + 1), matchI y page u = false) := Lib.hid (by
          rw [htk]
          intro y hy
          rcases List.mem_append.1 hy with hy | hy
          · exact HS.out y hy
          · rw [List.mem_singleton.1 hy]; exact hmx)
        rw [hmx] at hmc
        have HMC := Lib.hid hmc
        clear hmx hmc hcell htk hmem hkl HS
        go_wp2_with (first | (refine wl_load rfl _ _ rfl g1 0 [Value.string ps, Value.string ph, Value.int .i64 pp, Value.string px, Value.string pq] [Value.string ps, Value.string ph, Value.int .i64 pp, Value.string px, Value.string pq] _ (HO4.out.heap (List.mem_append_right _ (.tail _ (.head _)))) (by rfl) _ Tryz.underlying29 rfl rurl_size (by rfl) ?_) | (refine wl_load rfl _ _ rfl g2 0 [Value.string us, Value.string uh, Value.int .i64 up, Value.string ux, Value.string uq] [Value.string us, Value.string uh, Value.int .i64 up, Value.string ux, Value.string uq] _ (HO4.out.heap (List.mem_append_right _ (.head _))) (by rfl) _ Tryz.underlying29 rfl rurl_size (by rfl) ?_))
        with_reducible refine (HMC.out _ _ HO4.out).mono ?_
        rintro e w5 ⟨rfl, hO⟩
        have HO5 := Lib.hid hO; clear hO HO4 hc
        go_wp2
        go_roundw
        case rel => exact ⟨k + 1, by omega, by go_num, HS2, HO5⟩
        case measure => simp [intOf]; omega
    · obtain rfl : k = N := by omega
      have hkn : ¬ (k : Int) < k := by omega
      have hall := HS.out
      rw [List.take_of_length_le (by rw [HNE.out]; exact Nat.le_refl _)] at hall
      have HE : Hid (ans = ((k : Int) == 0)) := Lib.hid (by
        rw [← HANS.out]
        have h1 : W.any (fun w => matchI w page u) = false := by
          rw [List.any_eq_false]; intro y hy; rw [hall y hy]; simp
        rw [h1, Bool.false_or, Bool.eq_iff_iff, decide_eq_true_iff, beq_iff_eq, ← List.length_eq_zero_iff, HNE.out]
        omega)
      clear hall HS
      go_wp2
      go_ret
      exact ⟨by rw [HE.out]; first | rfl | simp, HO4.out.right.tail.tail⟩
set_option maxRecDepth 100000 in
set_option maxHeartbeats 16000000 in
theorem rcheck_c {w0 w : World} {R : Blks} (hO : Own w0 w R) (s : ByteArray) (hs : s.size ≤ 10000000) :
    Calls Tryz.prog 8 #[.string s] w fun e w' => e = .returned (.bool (checkI (sb s))) ∧ Own w0 w' R := by
  have hwd := fun (w1 : World) (R1 : Blks) (h : Own w0 w1 R1) => rwords_c h s (by omega)
  have hwB := wordsI_byt (byt_sb s)
  have hwl := wordsF_len (sb s) []
  rw [length_sb] at hwl
  obtain ⟨ans, hans⟩ : ∃ ans, checkI (sb s) = ans := ⟨_, rfl⟩
  rw [hans]
  unfold checkI at hans
  rw [length_sb] at hans
  unfold wordsI at hwd hwB hans
  generalize wordsF [] (sb s) = W at *
  have HWD := Lib.hid hwd; have HWB := Lib.hid hwB; have HANS := Lib.hid hans
  have HWL : Hid (∀ x ∈ W, x.length ≤ 10000000) := Lib.hid (fun x hx => by have := (hwl.2 x hx).2.1; simp at this; omega)
  have hN : W.length ≤ 10000001 := by omega
  have HO := Lib.hid hO
  clear hwd hwB hans hwl hO
  by_cases h40 : 40 < s.size
  · have h40I : (40 : Int) < s.size := by omega
    have HE : Hid (ans = false) := Lib.hid (by rw [← HANS.out, decide_eq_false (by omega)]; rfl)
    go_enter Tryz.func8, Tryz.ntmps8
    go_wp2
    go_ret
    exact ⟨by rw [HE.out]; rfl, HO.out⟩
  · have h40I : ¬ (40 : Int) < s.size := by omega
    have HANS2 : Hid ((W.all fun w => decide (WordOk W.length w)) = ans) := Lib.hid (by rw [← HANS.out, decide_eq_true (by omega), Bool.true_and])
    clear HANS
    go_enter Tryz.func8, Tryz.ntmps8
    go_wp2_with fail
    with_reducible refine (HWD.out _ _ HO.out).mono ?_
    rintro e w3 ⟨v, L, rfl, hv, hO⟩
    have HO3 := Lib.hid hO; clear hO HO HWD
    obtain ⟨A, c, hve, hcc, hcells⟩ := hv.form
    rw [List.length_map] at hve hcc hcells
    subst hve
    obtain ⟨N, hNe⟩ : ∃ N, W.length = N := ⟨_, rfl⟩
    rw [hNe] at hN hcc hcells ⊢
    have HC := Lib.hid hcells; have HNE := Lib.hid hNe
    clear hv hcells hNe h40 h40I
    go_wp2
    go_loopw [18] (fun t w' => ∃ k : Nat, k ≤ N ∧ t = .int .i64 k ∧ Hid (∀ x ∈ W.take k, WordOk N x) ∧ Hid (Own w0 w' (L ++ R))) (fun t _ => N - (intOf t).toNat)
    case atStart => exact ⟨0, Nat.zero_le _, rfl, Lib.hid (fun x hx => by rw [List.take_zero] at hx; cases hx), HO3⟩
    case round =>
      obtain ⟨k, hk, rfl, HS, HO4⟩ := hrel
      clear HO3
      by_cases hlt : k < N
      · have hkn : (k : Int) < N := by omega
        have hkl : k < W.length := by rw [HNE.out]; exact hlt
        obtain ⟨g, rfl, hcell⟩ := HC.out (by omega)
        have hc := hcell _ _ _ HO4.out k _ (words_at hkl)
        have htk := words_take hkl
        have hmem := words_mem hkl
        generalize W.getD k [] = x at *
        have hxB := HWB.out x hmem
        have hxl := HWL.out x hmem
        have hlow := fun (w1 : World) (R1 : Blks) (h : Own w0 w1 R1) => rlower_c h (strOfNums x) (by rw [strOfNums_size]; omega)
        rw [sb_str hxB] at hlow
        have hsrc := fun (w1 : World) (R1 : Blks) (h : Own w0 w1 R1) => rsource_c h (strOfNums x) (by rw [strOfNums_size]; omega)
        rw [sb_str hxB] at hsrc
        have hlB := lowL_byt hxB
        have t1 := str_is hlB noneW noneW_byt
        rw [lit_list (m := noneW) (k := [39, 110, 111, 110, 101, 39]) rfl] at t1
        have t2 := str_is hlB selfW selfW_byt
        rw [lit_list (m := selfW) (k := [39, 115, 101, 108, 102, 39]) rfl] at t2
        have t3 := str_is hlB [42] (fun x hx => by rw [List.mem_singleton.1 hx]; omega)
        rw [lit_list (m := [42]) (k := [42]) rfl] at t3
        obtain ⟨b1, hb1⟩ : ∃ b, decide (lowL x = noneW) = b := ⟨_, rfl⟩
        obtain ⟨b2, hb2⟩ : ∃ b, decide (lowL x = selfW) = b := ⟨_, rfl⟩
        obtain ⟨b3, hb3⟩ : ∃ b, decide (lowL x = [42]) = b := ⟨_, rfl⟩
        obtain ⟨b4, hb4⟩ : ∃ b, (sourceI x).isSome = b := ⟨_, rfl⟩
        have hok : WordOk N x ↔ (b1 = true → N ≤ 1) ∧ (b4 = true ∨ b1 = true ∨ b2 = true ∨ b3 = true) := by
          unfold WordOk
          rw [← hb1, ← hb2, ← hb3, ← hb4, decide_eq_true_iff, decide_eq_true_iff, decide_eq_true_iff]
        rw [hb1] at t1; rw [hb2] at t2; rw [hb3] at t3
        unfold GotS at hsrc
        rw [hb4] at hsrc
        generalize strOfNums (lowL x) = X at *
        generalize strOfNums ((sourceI x).getD SL.zero).sch = s1 at *
        generalize strOfNums ((sourceI x).getD SL.zero).host = s2 at *
        generalize strOfNums ((sourceI x).getD SL.zero).port = s3 at *
        have hno : ¬ WordOk N x → ans = false := fun h => by
          rw [← HANS2.out, List.all_eq_false]
          exact ⟨x, hmem, by rw [HNE.out]; simpa using h⟩
        have hyes : WordOk N x → ∀ y ∈ W.take (k + 1), WordOk N y := fun h y hy => by
          rw [htk] at hy
          rcases List.mem_append.1 hy with hy | hy
          · exact HS.out y hy
          · rw [List.mem_singleton.1 hy]; exact h
        have HLOW := Lib.hid hlow; have HSRC := Lib.hid hsrc; have HOK := Lib.hid hok; have HNO := Lib.hid hno; have HYES := Lib.hid hyes
        clear hlow hsrc hok hno hyes hb1 hb2 hb3 hb4 hlB hxB hxl hmem htk hcell hkl HS
        go_wp2_with fail
        with_reducible refine (HLOW.out _ _ HO4.out).mono ?_
        rintro e w4 ⟨rfl, hO⟩
        have HO5 := Lib.hid hO; clear hO HO4 HLOW hc
        cases b1 with
        | true =>
          by_cases hn1 : (1 : Int) < N
          · have HE := Lib.hid (HNO.out (fun h => by have := (HOK.out.1 h).1 rfl; omega))
            go_wp2
            go_ret
            exact ⟨by rw [HE.out]; rfl, HO5.out.right⟩
          · have HY := Lib.hid (HYES.out (HOK.out.2 ⟨(fun _ => by omega), .inr (.inl rfl)⟩))
            go_wp2_with fail
            with_reducible refine (HSRC.out _ _ HO5.out).mono ?_
            rintro e w5 ⟨rfl, hO⟩
            have HO6 := Lib.hid hO; clear hO HO5 HSRC
            cases b4 with
            | true =>
              go_wp2
              go_roundw
              case rel => exact ⟨k + 1, by omega, by go_num, HY, HO6⟩
              case measure => simp [intOf]; omega
            | false =>
              go_wp2
              go_roundw
              case rel => exact ⟨k + 1, by omega, by go_num, HY, HO6⟩
              case measure => simp [intOf]; omega
        | false =>
          go_wp2_with fail
          with_reducible refine (HSRC.out _ _ HO5.out).mono ?_
          rintro e w5 ⟨rfl, hO⟩
          have HO6 := Lib.hid hO; clear hO HO5 HSRC
          cases b4 with
          | true =>
            have HY := Lib.hid (HYES.out (HOK.out.2 ⟨(fun h => by cases h), .inl rfl⟩))
            go_wp2
            go_roundw
            case rel => exact ⟨k + 1, by omega, by go_num, HY, HO6⟩
            case measure => simp [intOf]; omega
          | false =>
            cases b2 with
            | true =>
              have HY := Lib.hid (HYES.out (HOK.out.2 ⟨(fun h => by cases h), .inr (.inr (.inl rfl))⟩))
              go_wp2
              go_roundw
              case rel => exact ⟨k + 1, by omega, by go_num, HY, HO6⟩
              case measure => simp [intOf]; omega
            | false =>
              cases b3 with
              | true =>
                have HY := Lib.hid (HYES.out (HOK.out.2 ⟨(fun h => by cases h), .inr (.inr (.inr rfl))⟩))
                go_wp2
                go_roundw
                case rel => exact ⟨k + 1, by omega, by go_num, HY, HO6⟩
                case measure => simp [intOf]; omega
              | false =>
                have HE := Lib.hid (HNO.out (fun h => by have := (HOK.out.1 h).2; simp at this))
                go_wp2
                go_ret
                exact ⟨by rw [HE.out]; rfl, HO6.out.right⟩
      · obtain rfl : k = N := by omega
        have hkn : ¬ (k : Int) < k := by omega
        have hall := HS.out
        rw [List.take_of_length_le (by rw [HNE.out]; exact Nat.le_refl _)] at hall
        have HE : Hid (ans = true) := Lib.hid (by
          rw [← HANS2.out, List.all_eq_true]
          intro y hy
          rw [HNE.out, decide_eq_true_iff]
          exact hall y hy)
        clear hall HS
        go_wp2
        go_ret
        exact ⟨by rw [HE.out]; rfl, HO4.out.right⟩
end Go.Proofs.YtfgaikacijdodaaGreatDoor
/-
  The landed program's isSource and Check.
-/
namespace Go.Proofs.YtfgaikacijdodaaGreatDoor
set_option linter.unusedVariables false
set_option linter.unusedSimpArgs false
set_option maxRecDepth 20000
open Go.RowKit

theorem src_http : sourceL (httpI ++ [58]) = some ⟨httpI, [], []⟩ := by
  unfold sourceL
  rw [if_pos rfl]
theorem src_https : sourceL (httpsI ++ [58]) = some ⟨httpsI, [], []⟩ := by
  unfold sourceL
  rw [if_neg (by decide), if_neg (by decide), if_pos rfl]
def isSrcG (l : List Int) : Bool := decide (l = noneW) || (decide (l = selfW) || (decide (l = [42]) || (decide (l = httpI ++ [58]) || (decide (l = httpsI ++ [58]) || (placeG l).isSome))))
theorem isSrcG_is (x : List Int) : isSrcG (lowL x) = true ↔ ((sourceI x).isSome ∨ lowL x = noneW ∨ lowL x = selfW ∨ lowL x = [42]) := by
  unfold isSrcG sourceI
  generalize lowL x = l
  simp only [Bool.or_eq_true, decide_eq_true_iff]
  by_cases h1 : l = httpI ++ [58]
  · subst h1
    exact ⟨fun _ => .inl (by rw [src_http]; rfl), fun _ => .inr (.inr (.inr (.inl rfl)))⟩
  · by_cases h2 : l = httpsI ++ [58]
    · subst h2
      exact ⟨fun _ => .inl (by rw [src_https]; rfl), fun _ => .inr (.inr (.inr (.inr (.inl rfl))))⟩
    · rw [place_is h1 h2, Option.isSome_map]
      constructor
      · rintro (h | h | h | h | h | h)
        · exact .inr (.inl h)
        · exact .inr (.inr (.inl h))
        · exact .inr (.inr (.inr h))
        · exact absurd h h1
        · exact absurd h h2
        · exact .inl h
      · rintro (h | h | h | h)
        · exact .inr (.inr (.inr (.inr (.inr h))))
        · exact .inl h
        · exact .inr (.inl h)
        · exact .inr (.inr (.inl h))
theorem PL.val_form (p : PL) : p.val = [Value.string (strOfNums p.sch), Value.string (strOfNums p.host), Value.bool p.under, Value.int .i64 p.port] := rfl
set_option maxHeartbeats 8000000 in
theorem cissource_c {w0 w : World} {R : Blks} (hV : VarsOk w0) (hO : Own w0 w R) (s : ByteArray) (hs : s.size ≤ 4000000) :
    Calls Tryz.prog 20 #[.string s] w fun e w' => e = .returned (.bool (isSrcG (lowL (sb s)))) ∧ Own w0 w' R := by
  have hlow := fun (w1 : World) (R1 : Blks) (h : Own w0 w1 R1) => lower_c h s (by omega)
  have hlB : Byt (lowL (sb s)) := lowL_byt (byt_sb s)
  have hll : (lowL (sb s)).length ≤ 4000000 := by unfold lowL; rw [List.length_map, length_sb]; exact hs
  generalize lowL (sb s) = l at *
  have hpl := fun (w1 : World) (R1 : Blks) (h : Own w0 w1 R1) => creadplace_c hV h (strOfNums l) (by rw [strOfNums_size]; exact hll)
  rw [sb_str hlB] at hpl
  have t1 := beq_litC (strOfNums l) [39, 110, 111, 110, 101, 39] noneW rfl
  rw [sb_str hlB] at t1
  have t2 := beq_litC (strOfNums l) [39, 115, 101, 108, 102, 39] selfW rfl
  rw [sb_str hlB] at t2
  have t3 := beq_litC (strOfNums l) [42] [42] rfl
  rw [sb_str hlB] at t3
  have t4 := beq_litC (strOfNums l) [104, 116, 116, 112, 58] (httpI ++ [58]) rfl
  rw [sb_str hlB] at t4
  have t5 := beq_litC (strOfNums l) [104, 116, 116, 112, 115, 58] (httpsI ++ [58]) rfl
  rw [sb_str hlB] at t5
  unfold isSrcG
  obtain ⟨b1, hb1⟩ : ∃ b, decide (l = noneW) = b := ⟨_, rfl⟩
  rw [hb1] at t1 ⊢
  obtain ⟨b2, hb2⟩ : ∃ b, decide (l = selfW) = b := ⟨_, rfl⟩
  rw [hb2] at t2 ⊢
  obtain ⟨b3, hb3⟩ : ∃ b, decide (l = [42]) = b := ⟨_, rfl⟩
  rw [hb3] at t3 ⊢
  obtain ⟨b4, hb4⟩ : ∃ b, decide (l = httpI ++ [58]) = b := ⟨_, rfl⟩
  rw [hb4] at t4 ⊢
  obtain ⟨b5, hb5⟩ : ∃ b, decide (l = httpsI ++ [58]) = b := ⟨_, rfl⟩
  rw [hb5] at t5 ⊢
  unfold GotPl at hpl
  simp only [PL.val_form] at hpl
  generalize placeG l = o at *
  generalize strOfNums (o.getD PL.zero).sch = qs at *
  generalize strOfNums (o.getD PL.zero).host = qh at *
  generalize (o.getD PL.zero).under = qu at *
  generalize (o.getD PL.zero).port = qp at *
  generalize o.isSome = ok at *
  generalize strOfNums l = X at *
  have HO := Lib.hid hO; have HL := Lib.hid hlow; have HP := Lib.hid hpl
  clear hO hlow hpl hlB hll hb1 hb2 hb3 hb4 hb5 hV
  go_enter Tryz.func20, Tryz.ntmps20
  go_wp2_with fail
  with_reducible refine (HL.out _ _ HO.out).mono ?_
  rintro e w1 ⟨rfl, hO⟩
  have HO1 := Lib.hid hO; clear hO HO HL
  cases b1 with
  | true =>
    go_wp2
    go_ret
    exact ⟨by simp, HO1.out⟩
  | false =>
    cases b2 with
    | true =>
      go_wp2
      go_ret
      exact ⟨by simp, HO1.out⟩
    | false =>
      cases b3 with
      | true =>
        go_wp2
        go_ret
        exact ⟨by simp, HO1.out⟩
      | false =>
        cases b4 with
        | true =>
          go_wp2
          go_ret
          exact ⟨by simp, HO1.out⟩
        | false =>
          cases b5 with
          | true =>
            go_wp2
            go_ret
            exact ⟨by simp, HO1.out⟩
          | false =>
            go_wp2_with fail
            with_reducible refine (HP.out _ _ HO1.out).mono ?_
            rintro e w2 ⟨rfl, hO⟩
            have HO2 := Lib.hid hO; clear hO HO1 HP
            go_wp2_with (first | (refine wl_alloc rfl _ rfl HO2.out _ (alloc_pl _) ?_; intro g3 w3 hO; have HO3 := Lib.hid hO; clear hO HO2) | (refine wl_store rfl _ _ _ rfl HO3.out 0 g3 0 _ [Value.string qs, Value.string qh, Value.bool qu, Value.int .i64 qp] _ rfl (by rfl) (by rfl) pl_size (one_p4 _ _ _ _) (by first | decide | simp [PL.val, PL.zero]) ?_; intro w4 hO; have HO4 := Lib.hid (hO.cast (L' := (g3, .cells [Value.string qs, Value.string qh, Value.bool qu, Value.int .i64 qp].toArray 50) :: R) rfl); clear hO HO3))
            go_ret
            exact ⟨rfl, HO4.out.tail⟩

def errC (b : Bool) : Int := if b then 0 else 1
set_option maxRecDepth 100000 in
set_option maxHeartbeats 16000000 in
theorem ccheck_c {w0 w : World} {R : Blks} (hV : VarsOk w0) (hO : Own w0 w R) (s : ByteArray) (hs : s.size ≤ 1073741824) :
    Calls Tryz.prog 7 #[.string s] w fun e w' => e = .returned (.int .i64 (errC (checkI (sb s)))) ∧ Own w0 w' R := by
  have hwd := fun (w1 : World) (R1 : Blks) (h : Own w0 w1 R1) => csplit_c h s (by omega)
  have hwB := wordsI_byt (byt_sb s)
  have hwl := wordsF_len (sb s) []
  rw [length_sb] at hwl
  obtain ⟨ans, hans⟩ : ∃ ans, checkI (sb s) = ans := ⟨_, rfl⟩
  rw [hans]
  unfold checkI at hans
  rw [length_sb] at hans
  unfold wordsI at hwd hwB hans
  generalize wordsF [] (sb s) = W at *
  have HWD := Lib.hid hwd; have HWB := Lib.hid hwB; have HANS := Lib.hid hans; have HWL0 := Lib.hid hwl
  have HO := Lib.hid hO; have HV := Lib.hid hV
  clear hwd hwB hans hwl hO hV
  by_cases h40 : 40 < s.size
  · have h40I : (40 : Int) < s.size := by omega
    have HE : Hid (ans = false) := Lib.hid (by rw [← HANS.out, decide_eq_false (by omega)]; rfl)
    go_enter Tryz.func7, Tryz.ntmps7
    go_wp2
    go_ret
    exact ⟨by rw [HE.out]; rfl, HO.out⟩
  · have h40I : ¬ (40 : Int) < s.size := by omega
    have HANS2 : Hid ((W.all fun w => decide (WordOk W.length w)) = ans) := Lib.hid (by rw [← HANS.out, decide_eq_true (by omega), Bool.true_and])
    have HWL : Hid (∀ x ∈ W, x.length ≤ 40) := Lib.hid (fun x hx => by have := (HWL0.out.2 x hx).2.1; simp at this; omega)
    have hN : W.length ≤ 41 := by have := HWL0.out.1; omega
    clear HANS HWL0
    go_enter Tryz.func7, Tryz.ntmps7
    go_wp2_with fail
    with_reducible refine (HWD.out _ _ HO.out).mono ?_
    rintro e w3 ⟨v, L, rfl, hv, hO⟩
    have HO3 := Lib.hid hO; clear hO HO HWD
    obtain ⟨A, c, hve, hcc, hcells⟩ := hv.form
    rw [List.length_map] at hve hcc hcells
    subst hve
    obtain ⟨N, hNe⟩ : ∃ N, W.length = N := ⟨_, rfl⟩
    rw [hNe] at hN hcc hcells ⊢
    have HC := Lib.hid hcells; have HNE := Lib.hid hNe
    clear hv hcells hNe h40 h40I
    go_wp2
    go_loopw [13] (fun t w' => ∃ k : Nat, k ≤ N ∧ t = .int .i64 k ∧ Hid (∀ x ∈ W.take k, WordOk N x) ∧ Hid (Own w0 w' (L ++ R))) (fun t _ => N - (intOf t).toNat)
    case atStart => exact ⟨0, Nat.zero_le _, rfl, Lib.hid (fun x hx => by rw [List.take_zero] at hx; cases hx), HO3⟩
    case round =>
      obtain ⟨k, hk, rfl, HS, HO4⟩ := hrel
      clear HO3
      by_cases hlt : k < N
      · have hkn : (k : Int) < N := by omega
        have hkl : k < W.length := by rw [HNE.out]; exact hlt
        obtain ⟨g, rfl, hcell⟩ := HC.out (by omega)
        have hc := hcell _ _ _ HO4.out k _ (words_at hkl)
        have htk := words_take hkl
        have hmem := words_mem hkl
        generalize W.getD k [] = x at *
        have hxB := HWB.out x hmem
        have hxl := HWL.out x hmem
        have hlow := fun (w1 : World) (R1 : Blks) (h : Own w0 w1 R1) => lower_c h (strOfNums x) (by rw [strOfNums_size]; omega)
        rw [sb_str hxB] at hlow
        have hsrc := fun (w1 : World) (R1 : Blks) (h : Own w0 w1 R1) => cissource_c HV.out h (strOfNums x) (by rw [strOfNums_size]; omega)
        rw [sb_str hxB] at hsrc
        have hlB := lowL_byt hxB
        have t1 := beq_litC (strOfNums (lowL x)) [39, 110, 111, 110, 101, 39] noneW rfl
        rw [sb_str hlB] at t1
        obtain ⟨b1, hb1⟩ : ∃ b, decide (lowL x = noneW) = b := ⟨_, rfl⟩
        obtain ⟨b4, hb4⟩ : ∃ b, isSrcG (lowL x) = b := ⟨_, rfl⟩
        have hok : WordOk N x ↔ (b1 = true → N ≤ 1) ∧ b4 = true := by
          unfold WordOk
          rw [← isSrcG_is x, ← hb1, ← hb4, decide_eq_true_iff]
        rw [hb1] at t1
        rw [hb4] at hsrc
        generalize strOfNums (lowL x) = X at *
        have hno : ¬ WordOk N x → ans = false := fun h => by
          rw [← HANS2.out, List.all_eq_false]
          exact ⟨x, hmem, by rw [HNE.out]; simpa using h⟩
        have hyes : WordOk N x → ∀ y ∈ W.take (k + 1), WordOk N y := fun h y hy => by
          rw [htk] at hy
          rcases List.mem_append.1 hy with hy | hy
          · exact HS.out y hy
          · rw [List.mem_singleton.1 hy]; exact h
        have HLOW := Lib.hid hlow; have HSRC := Lib.hid hsrc; have HOK := Lib.hid hok; have HNO := Lib.hid hno; have HYES := Lib.hid hyes
        clear hlow hsrc hok hno hyes hb1 hb4 hlB hxB hxl hmem htk hcell hkl HS
        go_wp2_with fail
        with_reducible refine (HSRC.out _ _ HO4.out).mono ?_
        rintro e w4 ⟨rfl, hO⟩
        have HO5 := Lib.hid hO; clear hO HO4 HSRC hc
        cases b4 with
        | false =>
          have HE := Lib.hid (HNO.out (fun h => by have := (HOK.out.1 h).2; cases this))
          go_wp2
          go_ret
          exact ⟨by rw [HE.out]; rfl, HO5.out.right⟩
        | true =>
          by_cases hn1 : (1 : Int) < N
          · go_wp2_with fail
            with_reducible refine (HLOW.out _ _ HO5.out).mono ?_
            rintro e w5 ⟨rfl, hO⟩
            have HO6 := Lib.hid hO; clear hO HO5 HLOW
            cases b1 with
            | true =>
              have HE := Lib.hid (HNO.out (fun h => by have := (HOK.out.1 h).1 rfl; omega))
              go_wp2
              go_ret
              exact ⟨by rw [HE.out]; rfl, HO6.out.right⟩
            | false =>
              have HY := Lib.hid (HYES.out (HOK.out.2 ⟨(fun h => by cases h), by trivial⟩))
              go_wp2
              go_roundw
              case rel => exact ⟨k + 1, by omega, by go_num, HY, HO6⟩
              case measure => simp [intOf]; omega
          · have HY := Lib.hid (HYES.out (HOK.out.2 ⟨(fun _ => by omega), by trivial⟩))
            go_wp2
            go_roundw
            case rel => exact ⟨k + 1, by omega, by go_num, HY, HO5⟩
            case measure => simp [intOf]; omega
      · obtain rfl : k = N := by omega
        have hkn : ¬ (k : Int) < k := by omega
        have hall := HS.out
        rw [List.take_of_length_le (by rw [HNE.out]; exact Nat.le_refl _)] at hall
        have HE : Hid (ans = true) := Lib.hid (by
          rw [← HANS2.out, List.all_eq_true]
          intro y hy
          rw [HNE.out]
          exact decide_eq_true (hall y hy))
        clear hall HS
        go_wp2
        go_ret
        exact ⟨by rw [HE.out]; rfl, HO4.out.right⟩
end Go.Proofs.YtfgaikacijdodaaGreatDoor
