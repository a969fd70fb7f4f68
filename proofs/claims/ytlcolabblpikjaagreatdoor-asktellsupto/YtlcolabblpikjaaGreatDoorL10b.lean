/-
  AskTells: whatever numbers and strings: what the program prints and parses is what the document's own functions print and parse.
  Conditions: the statement's own bound (the arguments hold together at most 1,048,576 values and letters).
-/
import Derived.Test.YtlcolabblpikjaaGreatDoorM18
import Derived.JoinedCond
namespace Go.Proofs.YtlcolabblpikjaaGreatDoor
set_option linter.unusedVariables false
set_option linter.unusedSimpArgs false
set_option maxRecDepth 20000
open Go.ChangeShapes Go.WideShapes Go.ChangeAt Go.RowKit
open Go.ChangeMaps (open_string shut_string)

def MidX (W : World) (L : Blks) (s18 : Value) (wx : World) : Prop := ∃ x : ByteArray, s18 = .string x ∧ x.size ≤ 2500000 ∧ Own W wx L
set_option maxRecDepth 100000 in
set_option maxHeartbeats 16000000 in
theorem askTells_walk {W : World} (hV : VarsOk W) (n : Int) (wn : (Lit.int .i64 n).wf = true) (m : Int) (wm : (Lit.int .i64 m).wf = true) (how : Int) (wh : (Lit.int .i64 how).wf = true) (s : ByteArray) (hs : s.size ≤ 1048576) (body : ByteArray) (hb : body.size ≤ 1048576) (cut : Int) (wc' : (Lit.int .i64 cut).wf = true) (raw : Bool) :
    Calls Tryz.prog 3 #[.int .i64 n, .int .i64 m, .int .i64 how, .string s, .string body, .int .i64 cut, .bool raw] W (Yes W) := by
  have HO := Lib.hid (Own.start W)
  have HVV := Lib.hid hV
  have HSB : Hid (s.size ≤ 1048576 ∧ body.size ≤ 1048576) := Lib.hid ⟨hs, hb⟩
  clear wn wm wh wc' hV hs hb
  go_enter Tryz.func3, Tryz.ntmps3
  go_wp2_with fail
  with_reducible refine (of_c HO.out _ _ _ s body (by have := HSB.out; omega)).mono ?_
  rintro e w1 ⟨m1, u1, v1, hs1, L1, rfl, a1, a2, a3, hi1, a5, hO⟩
  obtain ⟨A1, c1, hve⟩ := IsRow.val hi1
  subst hve
  have HO1 := Lib.hid hO
  have HI1 : Hid (IsHeads (.slice A1 hs1.length c1) hs1 L1) := Lib.hid hi1
  have HZ1 : Hid (m1.size ≤ 100000000 ∧ u1.size ≤ 5000000 ∧ body.size ≤ 100000000 ∧ (headsP (hl hs1)).length ≤ 100000000 ∧ hs1.length ≤ 8) := Lib.hid (by have := HSB.out; omega)
  have HZ2 : Hid ((headsP (hl hs1)).length + body.size ≤ 2300000) := Lib.hid (by have := HSB.out; omega)
  clear a1 a2 a3 a5 hi1 hO HO
  generalize hk1 : hs1.length = k1 at *
  have HK1 := Lib.hid hk1; clear hk1
  have hr1 : Hid (∀ g15 (o15 : Obj), HRd W ((g15, o15) :: (L1 ++ [])) (.slice A1 k1 c1) hs1) := Lib.hid fun _ _ => HI1.out.hrd (List.Sublist.cons _ (List.sublist_append_left _ _))
  rcases ha1 : askP (aL m1 u1 hs1 body) with _ | t1
  · have HA1 := Lib.hid ha1
    have hrp := fun (w : World) (g15 : Nat) (o15 : Obj) (hO : Own W w ((g15, o15) :: (L1 ++ []))) => rprintAsk_c hO m1 u1 _ hs1 (hr1.out g15 o15) body HZ1.out.1 HZ1.out.2.1 HZ1.out.2.2.1 HZ1.out.2.2.2.1
    rw [ha1] at hrp
    have HRP := Lib.hid hrp
    clear ha1 hrp
    go_wp2_with (first | (refine wl_alloc rfl _ rfl HO1.out _ (alloc_ask _) ?_; intro g15 w3 hO; have HO3 := Lib.hid hO; clear hO HO1) | (refine wl_store rfl _ _ _ rfl HO3.out 0 g15 0 _ (av m1 u1 (.slice A1 k1 c1) body) _ rfl (by rfl) (by rfl) ask_size (one_av rfl) (by simp [av]) ?_; intro w5 hO; have HO5 := Lib.hid (hO.cast (L' := (g15, .cells (av m1 u1 (.slice A1 k1 c1) body).toArray 24) :: (L1 ++ [])) rfl); clear hO HO3) | (refine wl_load rfl _ _ rfl g15 0 (av m1 u1 (.slice A1 k1 c1) body) (av m1 u1 (.slice A1 k1 c1) body) _ (HO5.out.heap (.head _)) (by rfl) _ Tryz.underlying24 rfl ask_size (by rfl) ?_))
    with_reducible refine (aprint_no HVV.out HO5.out _ _ _ _ (hr1.out _ _) _ HZ1.out.1 HZ1.out.2.1 HZ1.out.2.2.1 HZ1.out.2.2.2.1 HA1.out).mono ?_
    rintro e w6 ⟨rfl, hO⟩
    have HO6 := Lib.hid hO; clear hO HO5
    go_wp2_with (refine wl_load rfl _ _ rfl g15 0 (av m1 u1 (.slice A1 k1 c1) body) (av m1 u1 (.slice A1 k1 c1) body) _ (HO6.out.heap (.head _)) (by rfl) _ Tryz.underlying24 rfl ask_size (by rfl) ?_)
    with_reducible refine (ref10_c HO6.out m1 u1 A1 k1 c1 body).mono ?_
    rintro e w7 ⟨rfl, hO⟩
    have HO7 := Lib.hid hO; clear hO HO6
    go_wp2_with fail
    with_reducible refine (HRP.out _ _ _ HO7.out).mono ?_
    rintro e w8 ⟨rfl, hO⟩
    have HO8 := Lib.hid hO.tail; clear hO HO7 HRP HA1
    simp only [Option.getD_none, Option.isSome_none]
    rw [show strOfNums [] = (⟨#[]⟩ : ByteArray) from rfl]
    go_upto_if 60 with fail
    go_cut [18] (fun s18 wx => MidX W (L1 ++ []) s18 wx)
    case first =>
      cases raw with
      | false =>
        go_wp2
        go_meet
        exact ⟨_, rfl, by decide, HO8.out⟩
      | true =>
        go_wp2
        go_meet
        exact ⟨s, rfl, by have := HSB.out; omega, HO8.out⟩
    case rest =>
      obtain ⟨x, rfl, hxz, hO⟩ := hcut
      have HO9 := Lib.hid hO; have HXS : Hid (x.size ≤ 2500000) := Lib.hid hxz
      clear hO HO8
      have hw1 : IntKind.i64.wrap ((x.size : Int) + 1) = (x.size : Int) + 1 := IntWalk.i64_in _ (by omega)
      have q := fun w : World => within_n (w := w) cut ((x.size : Int) + 1) (by omega) (by omega)
      have hj : (cut % ((x.size : Int) + 1)).toNat ≤ x.size := by have h3 := Int.emod_lt_of_pos cut (show (0 : Int) < (x.size : Int) + 1 by omega); omega
      generalize (cut % ((x.size : Int) + 1)).toNat = j at *
      have HQ := Lib.hid q; clear q
      have hjI : (j : Int) ≤ x.size := by omega
      have n1 : ¬ (9223372036854775807 < x.size + s.size) := by have := HSB.out; omega
      have n2 : ¬ (9223372036854775807 < s.size + x.size) := by have := HSB.out; omega
      go_wp2_with fail
      with_reducible refine (HQ.out _).mono ?_
      rintro e wq ⟨rfl, hww⟩
      subst hww
      clear HQ hw1
      go_wp2_with fail
      generalize hwx : World.alloc _ _ = w10 at *
      have hO10 : Own W w10 ((wc.heap.size, .cells (sv [x, x ++ s, x.extract 0 j, s ++ x]).toArray 9) :: (L1 ++ [])) := by rw [← hwx]; exact HO9.out.alloc _
      have HO10 := Lib.hid hO10
      generalize wc.heap.size = g76 at *
      have hszs : ∀ y ∈ [x, x ++ s, x.extract 0 j, s ++ x], y.size ≤ 4000000 := by
        have h1 := HXS.out; have h2 := HSB.out
        intro y hy
        simp only [List.mem_cons, List.not_mem_nil, or_false] at hy
        rcases hy with rfl | rfl | rfl | rfl
        · omega
        · rw [ByteArray.size_append]; omega
        · rw [ByteArray.size_extract]; omega
        · rw [ByteArray.size_append]; omega
      have HSZS := Lib.hid hszs
      clear hwx hO10 HO9 n1 n2 hszs hj hjI hxz
      have hl4 : ([x, x ++ s, x.extract 0 j, s ++ x] : List ByteArray).length = 4 := rfl
      generalize ([x, x ++ s, x.extract 0 j, s ++ x] : List ByteArray) = xs at *
      go_loopw [78] (fun t w' => ∃ i : Nat, i ≤ 4 ∧ t = .int .i64 i ∧ Hid (Own W w' ((g76, .cells (sv xs).toArray 9) :: (L1 ++ [])))) (fun t _ => 4 - (intOf t).toNat)
      case atStart => exact ⟨0, by omega, rfl, HO10⟩
      case round =>
        obtain ⟨i, hi, rfl, HO3⟩ := hrel
        clear HO10
        by_cases hi4 : i < 4
        · have hi4I : (i : Int) < 4 := by omega
          obtain ⟨y, hy⟩ : ∃ y, xs[i]? = some y := ⟨_, List.getElem?_eq_getElem (by omega)⟩
          have hc : wr.cell? ⟨g76, i, none⟩ = some (.string y) := (HO3.out.cell (.head _) i).trans (by simp [sv, hy])
          obtain ⟨M, U, B, hz, k, f, bb, hfb, hzk, hkz, ht1, ht2⟩ := told_both HVV.out y (HSZS.out y (List.mem_of_getElem? hy))
          unfold Told at ht1 ht2
          have HZK := Lib.hid hzk; have HKZ := Lib.hid hkz; have HT1 := Lib.hid ht1; have HT2 := Lib.hid ht2
          clear hy hzk hkz ht1 ht2 hl4
          rcases hfb with ⟨rfl, rfl⟩ | ⟨rfl, rfl⟩
          · go_wp2_with fail
            with_reducible refine (HT1.out _ _ HO3.out).mono ?_
            rintro e w5 ⟨A5, c5, L5, rfl, hi5, hO⟩
            have HO5 := Lib.hid hO; have HI5 := Lib.hid hi5; clear hO hi5 hc
            go_wp2_with (first | (refine wl_alloc rfl _ rfl HO5.out _ (alloc_ask _) ?_; intro g22 w6 hO; have HO6 := Lib.hid hO; clear hO HO5) | (refine wl_store rfl _ _ _ rfl HO6.out 0 g22 0 _ (av M U (.slice A5 k c5) B) _ rfl (by rfl) (by rfl) ask_size (one_av rfl) (by simp [av]) ?_; intro w7 hO; have HO7 := Lib.hid (hO.cast (L' := (g22, .cells (av M U (.slice A5 k c5) B).toArray 24) :: (L5 ++ ((g76, .cells (sv xs).toArray 9) :: (L1 ++ [])))) rfl); clear hO HO6))
            with_reducible refine (HT2.out _ _ HO7.out).mono ?_
            rintro e w8 ⟨A6, c6, L6, rfl, hi6, hO⟩
            have HO8 := Lib.hid hO; have HI6 := Lib.hid hi6; clear hO hi6 HO7
            go_wp2_with (first | (refine wl_alloc rfl _ rfl HO8.out _ (alloc_rask' _) ?_; intro g24 w9 hO; have HO9 := Lib.hid hO; clear hO HO8) | (refine wl_store rfl _ _ _ rfl HO9.out 0 g24 0 _ (av M U (.slice A6 k c6) B) _ rfl (by rfl) (by rfl) rask_size (one_av rfl) (by simp [av]) ?_; intro w10 hO; have HOA := Lib.hid (hO.cast (L' := (g24, .cells (av M U (.slice A6 k c6) B).toArray 31) :: (L6 ++ ((g22, .cells (av M U (.slice A5 k c5) B).toArray 24) :: (L5 ++ ((g76, .cells (sv xs).toArray 9) :: (L1 ++ [])))))) rfl); clear hO HO9) | (refine wl_g (by rfl) ?_; refine wl_load rfl _ _ rfl g22 0 (av M U (.slice A5 k c5) B) (av M U (.slice A5 k c5) B) _ (HOA.out.heap (.tail _ (List.mem_append_right _ (.head _)))) (by rfl) _ Tryz.underlying24 rfl ask_size (by rfl) ?_) | (refine wl_g (by rfl) ?_; refine wl_load rfl _ _ rfl g24 0 (av M U (.slice A6 k c6) B) (av M U (.slice A6 k c6) B) _ (HOA.out.heap (.head _)) (by rfl) _ Tryz.underlying31 rfl rask_size (by rfl) ?_))
            have hr5 : HRd W ((g24, .cells (av M U (.slice A6 k c6) B).toArray 31) :: (L6 ++ ((g22, .cells (av M U (.slice A5 k c5) B).toArray 24) :: (L5 ++ ((g76, .cells (sv xs).toArray 9) :: (L1 ++ [])))))) (.slice A5 k c5) hz := HI5.out.hrd (List.Sublist.cons _ ((List.Sublist.cons _ (List.sublist_append_left _ _)).trans (List.sublist_append_right _ _)))
            have hr6 : HRd W ((g24, .cells (av M U (.slice A6 k c6) B).toArray 31) :: (L6 ++ ((g22, .cells (av M U (.slice A5 k c5) B).toArray 24) :: (L5 ++ ((g76, .cells (sv xs).toArray 9) :: (L1 ++ [])))))) (.slice A6 k c6) hz := HI6.out.hrd (List.Sublist.cons _ (List.sublist_append_left _ _))
            have hq := same10_c HOA.out M M U U (.slice A5 k c5) (.slice A6 k c6) hz hz hr5 hr6 B B (by rw [HZK.out]; exact HKZ.out)
            rw [show (decide (M = M) && (decide (U = U) && (decide (hz = hz) && decide (B = B)))) = true by simp] at hq
            with_reducible refine hq.mono ?_
            clear hq hr5 hr6
            rintro e w11 ⟨rfl, hO⟩
            have HOB := Lib.hid hO.tail.right.tail.right; clear hO HOA
            go_wp2
            go_roundw
            case rel => exact ⟨i + 1, by omega, by go_num, HOB⟩
            case measure => simp [intOf]; omega
          · go_wp2_with fail
            with_reducible refine (HT1.out _ _ HO3.out).mono ?_
            rintro e w5 ⟨A5, c5, L5, rfl, hi5, hO⟩
            have HO5 := Lib.hid hO; have HI5 := Lib.hid hi5; clear hO hi5 hc
            go_wp2_with (first | (refine wl_alloc rfl _ rfl HO5.out _ (alloc_ask _) ?_; intro g22 w6 hO; have HO6 := Lib.hid hO; clear hO HO5) | (refine wl_store rfl _ _ _ rfl HO6.out 0 g22 0 _ (av M U (.slice A5 k c5) B) _ rfl (by rfl) (by rfl) ask_size (one_av rfl) (by simp [av]) ?_; intro w7 hO; have HO7 := Lib.hid (hO.cast (L' := (g22, .cells (av M U (.slice A5 k c5) B).toArray 24) :: (L5 ++ ((g76, .cells (sv xs).toArray 9) :: (L1 ++ [])))) rfl); clear hO HO6))
            with_reducible refine (HT2.out _ _ HO7.out).mono ?_
            rintro e w8 ⟨A6, c6, L6, rfl, hi6, hO⟩
            have HO8 := Lib.hid hO; have HI6 := Lib.hid hi6; clear hO hi6 HO7
            go_wp2_with (first | (refine wl_alloc rfl _ rfl HO8.out _ (alloc_rask' _) ?_; intro g24 w9 hO; have HO9 := Lib.hid hO; clear hO HO8) | (refine wl_store rfl _ _ _ rfl HO9.out 0 g24 0 _ (av M U (.slice A6 k c6) B) _ rfl (by rfl) (by rfl) rask_size (one_av rfl) (by simp [av]) ?_; intro w10 hO; have HOA := Lib.hid (hO.cast (L' := (g24, .cells (av M U (.slice A6 k c6) B).toArray 31) :: (L6 ++ ((g22, .cells (av M U (.slice A5 k c5) B).toArray 24) :: (L5 ++ ((g76, .cells (sv xs).toArray 9) :: (L1 ++ [])))))) rfl); clear hO HO9) | (refine wl_g (by rfl) ?_; refine wl_load rfl _ _ rfl g22 0 (av M U (.slice A5 k c5) B) (av M U (.slice A5 k c5) B) _ (HOA.out.heap (.tail _ (List.mem_append_right _ (.head _)))) (by rfl) _ Tryz.underlying24 rfl ask_size (by rfl) ?_) | (refine wl_g (by rfl) ?_; refine wl_load rfl _ _ rfl g24 0 (av M U (.slice A6 k c6) B) (av M U (.slice A6 k c6) B) _ (HOA.out.heap (.head _)) (by rfl) _ Tryz.underlying31 rfl rask_size (by rfl) ?_))
            have hr5 : HRd W ((g24, .cells (av M U (.slice A6 k c6) B).toArray 31) :: (L6 ++ ((g22, .cells (av M U (.slice A5 k c5) B).toArray 24) :: (L5 ++ ((g76, .cells (sv xs).toArray 9) :: (L1 ++ [])))))) (.slice A5 k c5) hz := HI5.out.hrd (List.Sublist.cons _ ((List.Sublist.cons _ (List.sublist_append_left _ _)).trans (List.sublist_append_right _ _)))
            have hr6 : HRd W ((g24, .cells (av M U (.slice A6 k c6) B).toArray 31) :: (L6 ++ ((g22, .cells (av M U (.slice A5 k c5) B).toArray 24) :: (L5 ++ ((g76, .cells (sv xs).toArray 9) :: (L1 ++ [])))))) (.slice A6 k c6) hz := HI6.out.hrd (List.Sublist.cons _ (List.sublist_append_left _ _))
            have hq := same10_c HOA.out M M U U (.slice A5 k c5) (.slice A6 k c6) hz hz hr5 hr6 B B (by rw [HZK.out]; exact HKZ.out)
            rw [show (decide (M = M) && (decide (U = U) && (decide (hz = hz) && decide (B = B)))) = true by simp] at hq
            with_reducible refine hq.mono ?_
            clear hq hr5 hr6
            rintro e w11 ⟨rfl, hO⟩
            have HOB := Lib.hid hO.tail.right.tail.right; clear hO HOA
            go_wp2
            go_roundw
            case rel => exact ⟨i + 1, by omega, by go_num, HOB⟩
            case measure => simp [intOf]; omega
        · have hi4I : ¬ (i : Int) < 4 := by omega
          go_wp2_with fail
          with_reducible refine (wakes10_c HVV.out HO3.out).mono ?_
          rintro e w9 ⟨rfl, hO⟩
          have HO9 := Lib.hid hO; clear hO HO3
          go_wp2
          go_ret
          exact HO9.out.yes rfl
  · have HA1 := Lib.hid ha1
    obtain ⟨kk, hk2, hkb, hsz, hex⟩ := ask_ends ha1
    have HXZ : Hid ((strOfNums t1).size ≤ 2500000) := Lib.hid (by have := HZ2.out; omega)
    clear hk2 hkb hsz hex kk
    have hrp := fun (w : World) (g15 : Nat) (o15 : Obj) (hO : Own W w ((g15, o15) :: (L1 ++ []))) => rprintAsk_c hO m1 u1 _ hs1 (hr1.out g15 o15) body HZ1.out.1 HZ1.out.2.1 HZ1.out.2.2.1 HZ1.out.2.2.2.1
    rw [ha1] at hrp
    have HRP := Lib.hid hrp
    clear ha1 hrp
    go_wp2_with (first | (refine wl_alloc rfl _ rfl HO1.out _ (alloc_ask _) ?_; intro g15 w3 hO; have HO3 := Lib.hid hO; clear hO HO1) | (refine wl_store rfl _ _ _ rfl HO3.out 0 g15 0 _ (av m1 u1 (.slice A1 k1 c1) body) _ rfl (by rfl) (by rfl) ask_size (one_av rfl) (by simp [av]) ?_; intro w5 hO; have HO5 := Lib.hid (hO.cast (L' := (g15, .cells (av m1 u1 (.slice A1 k1 c1) body).toArray 24) :: (L1 ++ [])) rfl); clear hO HO3) | (refine wl_load rfl _ _ rfl g15 0 (av m1 u1 (.slice A1 k1 c1) body) (av m1 u1 (.slice A1 k1 c1) body) _ (HO5.out.heap (.head _)) (by rfl) _ Tryz.underlying24 rfl ask_size (by rfl) ?_))
    with_reducible refine (aprint_yes HVV.out HO5.out _ _ _ _ (hr1.out _ _) _ HZ1.out.1 HZ1.out.2.1 HZ1.out.2.2.1 HZ1.out.2.2.2.1 HA1.out).mono ?_
    rintro e w6 ⟨rfl, hO⟩
    have HO6 := Lib.hid hO; clear hO HO5
    go_wp2_with (refine wl_load rfl _ _ rfl g15 0 (av m1 u1 (.slice A1 k1 c1) body) (av m1 u1 (.slice A1 k1 c1) body) _ (HO6.out.heap (.head _)) (by rfl) _ Tryz.underlying24 rfl ask_size (by rfl) ?_)
    with_reducible refine (ref10_c HO6.out m1 u1 A1 k1 c1 body).mono ?_
    rintro e w7 ⟨rfl, hO⟩
    have HO7 := Lib.hid hO; clear hO HO6
    go_wp2_with fail
    with_reducible refine (HRP.out _ _ _ HO7.out).mono ?_
    rintro e w8 ⟨rfl, hO⟩
    have HO8 := Lib.hid hO.tail; clear hO HO7 HRP HA1
    simp only [Option.getD_some, Option.isSome_some]
    generalize strOfNums t1 = x0 at *
    have hbn : (x0.toList != x0.toList) = false := by simp
    go_upto_if 60 with fail
    go_cut [18] (fun s18 wx => MidX W (L1 ++ []) s18 wx)
    case first =>
      cases raw with
      | false =>
        go_wp2
        go_meet
        exact ⟨x0, rfl, HXZ.out, HO8.out⟩
      | true =>
        go_wp2
        go_meet
        exact ⟨s, rfl, by have := HSB.out; omega, HO8.out⟩
    case rest =>
      obtain ⟨x, rfl, hxz, hO⟩ := hcut
      have HO9 := Lib.hid hO; have HXS : Hid (x.size ≤ 2500000) := Lib.hid hxz
      clear hO HO8 HXZ hbn
      have hw1 : IntKind.i64.wrap ((x.size : Int) + 1) = (x.size : Int) + 1 := IntWalk.i64_in _ (by omega)
      have q := fun w : World => within_n (w := w) cut ((x.size : Int) + 1) (by omega) (by omega)
      have hj : (cut % ((x.size : Int) + 1)).toNat ≤ x.size := by have h3 := Int.emod_lt_of_pos cut (show (0 : Int) < (x.size : Int) + 1 by omega); omega
      generalize (cut % ((x.size : Int) + 1)).toNat = j at *
      have HQ := Lib.hid q; clear q
      have hjI : (j : Int) ≤ x.size := by omega
      have n1 : ¬ (9223372036854775807 < x.size + s.size) := by have := HSB.out; omega
      have n2 : ¬ (9223372036854775807 < s.size + x.size) := by have := HSB.out; omega
      go_wp2_with fail
      with_reducible refine (HQ.out _).mono ?_
      rintro e wq ⟨rfl, hww⟩
      subst hww
      clear HQ hw1
      go_wp2_with fail
      generalize hwx : World.alloc _ _ = w10 at *
      have hO10 : Own W w10 ((wc.heap.size, .cells (sv [x, x ++ s, x.extract 0 j, s ++ x]).toArray 9) :: (L1 ++ [])) := by rw [← hwx]; exact HO9.out.alloc _
      have HO10 := Lib.hid hO10
      generalize wc.heap.size = g76 at *
      have hszs : ∀ y ∈ [x, x ++ s, x.extract 0 j, s ++ x], y.size ≤ 4000000 := by
        have h1 := HXS.out; have h2 := HSB.out
        intro y hy
        simp only [List.mem_cons, List.not_mem_nil, or_false] at hy
        rcases hy with rfl | rfl | rfl | rfl
        · omega
        · rw [ByteArray.size_append]; omega
        · rw [ByteArray.size_extract]; omega
        · rw [ByteArray.size_append]; omega
      have HSZS := Lib.hid hszs
      clear hwx hO10 HO9 n1 n2 hszs hj hjI hxz
      have hl4 : ([x, x ++ s, x.extract 0 j, s ++ x] : List ByteArray).length = 4 := rfl
      generalize ([x, x ++ s, x.extract 0 j, s ++ x] : List ByteArray) = xs at *
      go_loopw [78] (fun t w' => ∃ i : Nat, i ≤ 4 ∧ t = .int .i64 i ∧ Hid (Own W w' ((g76, .cells (sv xs).toArray 9) :: (L1 ++ [])))) (fun t _ => 4 - (intOf t).toNat)
      case atStart => exact ⟨0, by omega, rfl, HO10⟩
      case round =>
        obtain ⟨i, hi, rfl, HO3⟩ := hrel
        clear HO10
        by_cases hi4 : i < 4
        · have hi4I : (i : Int) < 4 := by omega
          obtain ⟨y, hy⟩ : ∃ y, xs[i]? = some y := ⟨_, List.getElem?_eq_getElem (by omega)⟩
          have hc : wr.cell? ⟨g76, i, none⟩ = some (.string y) := (HO3.out.cell (.head _) i).trans (by simp [sv, hy])
          obtain ⟨M, U, B, hz, k, f, bb, hfb, hzk, hkz, ht1, ht2⟩ := told_both HVV.out y (HSZS.out y (List.mem_of_getElem? hy))
          unfold Told at ht1 ht2
          have HZK := Lib.hid hzk; have HKZ := Lib.hid hkz; have HT1 := Lib.hid ht1; have HT2 := Lib.hid ht2
          clear hy hzk hkz ht1 ht2 hl4
          rcases hfb with ⟨rfl, rfl⟩ | ⟨rfl, rfl⟩
          · go_wp2_with fail
            with_reducible refine (HT1.out _ _ HO3.out).mono ?_
            rintro e w5 ⟨A5, c5, L5, rfl, hi5, hO⟩
            have HO5 := Lib.hid hO; have HI5 := Lib.hid hi5; clear hO hi5 hc
            go_wp2_with (first | (refine wl_alloc rfl _ rfl HO5.out _ (alloc_ask _) ?_; intro g22 w6 hO; have HO6 := Lib.hid hO; clear hO HO5) | (refine wl_store rfl _ _ _ rfl HO6.out 0 g22 0 _ (av M U (.slice A5 k c5) B) _ rfl (by rfl) (by rfl) ask_size (one_av rfl) (by simp [av]) ?_; intro w7 hO; have HO7 := Lib.hid (hO.cast (L' := (g22, .cells (av M U (.slice A5 k c5) B).toArray 24) :: (L5 ++ ((g76, .cells (sv xs).toArray 9) :: (L1 ++ [])))) rfl); clear hO HO6))
            with_reducible refine (HT2.out _ _ HO7.out).mono ?_
            rintro e w8 ⟨A6, c6, L6, rfl, hi6, hO⟩
            have HO8 := Lib.hid hO; have HI6 := Lib.hid hi6; clear hO hi6 HO7
            go_wp2_with (first | (refine wl_alloc rfl _ rfl HO8.out _ (alloc_rask' _) ?_; intro g24 w9 hO; have HO9 := Lib.hid hO; clear hO HO8) | (refine wl_store rfl _ _ _ rfl HO9.out 0 g24 0 _ (av M U (.slice A6 k c6) B) _ rfl (by rfl) (by rfl) rask_size (one_av rfl) (by simp [av]) ?_; intro w10 hO; have HOA := Lib.hid (hO.cast (L' := (g24, .cells (av M U (.slice A6 k c6) B).toArray 31) :: (L6 ++ ((g22, .cells (av M U (.slice A5 k c5) B).toArray 24) :: (L5 ++ ((g76, .cells (sv xs).toArray 9) :: (L1 ++ [])))))) rfl); clear hO HO9) | (refine wl_g (by rfl) ?_; refine wl_load rfl _ _ rfl g22 0 (av M U (.slice A5 k c5) B) (av M U (.slice A5 k c5) B) _ (HOA.out.heap (.tail _ (List.mem_append_right _ (.head _)))) (by rfl) _ Tryz.underlying24 rfl ask_size (by rfl) ?_) | (refine wl_g (by rfl) ?_; refine wl_load rfl _ _ rfl g24 0 (av M U (.slice A6 k c6) B) (av M U (.slice A6 k c6) B) _ (HOA.out.heap (.head _)) (by rfl) _ Tryz.underlying31 rfl rask_size (by rfl) ?_))
            have hr5 : HRd W ((g24, .cells (av M U (.slice A6 k c6) B).toArray 31) :: (L6 ++ ((g22, .cells (av M U (.slice A5 k c5) B).toArray 24) :: (L5 ++ ((g76, .cells (sv xs).toArray 9) :: (L1 ++ [])))))) (.slice A5 k c5) hz := HI5.out.hrd (List.Sublist.cons _ ((List.Sublist.cons _ (List.sublist_append_left _ _)).trans (List.sublist_append_right _ _)))
            have hr6 : HRd W ((g24, .cells (av M U (.slice A6 k c6) B).toArray 31) :: (L6 ++ ((g22, .cells (av M U (.slice A5 k c5) B).toArray 24) :: (L5 ++ ((g76, .cells (sv xs).toArray 9) :: (L1 ++ [])))))) (.slice A6 k c6) hz := HI6.out.hrd (List.Sublist.cons _ (List.sublist_append_left _ _))
            have hq := same10_c HOA.out M M U U (.slice A5 k c5) (.slice A6 k c6) hz hz hr5 hr6 B B (by rw [HZK.out]; exact HKZ.out)
            rw [show (decide (M = M) && (decide (U = U) && (decide (hz = hz) && decide (B = B)))) = true by simp] at hq
            with_reducible refine hq.mono ?_
            clear hq hr5 hr6
            rintro e w11 ⟨rfl, hO⟩
            have HOB := Lib.hid hO.tail.right.tail.right; clear hO HOA
            go_wp2
            go_roundw
            case rel => exact ⟨i + 1, by omega, by go_num, HOB⟩
            case measure => simp [intOf]; omega
          · go_wp2_with fail
            with_reducible refine (HT1.out _ _ HO3.out).mono ?_
            rintro e w5 ⟨A5, c5, L5, rfl, hi5, hO⟩
            have HO5 := Lib.hid hO; have HI5 := Lib.hid hi5; clear hO hi5 hc
            go_wp2_with (first | (refine wl_alloc rfl _ rfl HO5.out _ (alloc_ask _) ?_; intro g22 w6 hO; have HO6 := Lib.hid hO; clear hO HO5) | (refine wl_store rfl _ _ _ rfl HO6.out 0 g22 0 _ (av M U (.slice A5 k c5) B) _ rfl (by rfl) (by rfl) ask_size (one_av rfl) (by simp [av]) ?_; intro w7 hO; have HO7 := Lib.hid (hO.cast (L' := (g22, .cells (av M U (.slice A5 k c5) B).toArray 24) :: (L5 ++ ((g76, .cells (sv xs).toArray 9) :: (L1 ++ [])))) rfl); clear hO HO6))
            with_reducible refine (HT2.out _ _ HO7.out).mono ?_
            rintro e w8 ⟨A6, c6, L6, rfl, hi6, hO⟩
            have HO8 := Lib.hid hO; have HI6 := Lib.hid hi6; clear hO hi6 HO7
            go_wp2_with (first | (refine wl_alloc rfl _ rfl HO8.out _ (alloc_rask' _) ?_; intro g24 w9 hO; have HO9 := Lib.hid hO; clear hO HO8) | (refine wl_store rfl _ _ _ rfl HO9.out 0 g24 0 _ (av M U (.slice A6 k c6) B) _ rfl (by rfl) (by rfl) rask_size (one_av rfl) (by simp [av]) ?_; intro w10 hO; have HOA := Lib.hid (hO.cast (L' := (g24, .cells (av M U (.slice A6 k c6) B).toArray 31) :: (L6 ++ ((g22, .cells (av M U (.slice A5 k c5) B).toArray 24) :: (L5 ++ ((g76, .cells (sv xs).toArray 9) :: (L1 ++ [])))))) rfl); clear hO HO9) | (refine wl_g (by rfl) ?_; refine wl_load rfl _ _ rfl g22 0 (av M U (.slice A5 k c5) B) (av M U (.slice A5 k c5) B) _ (HOA.out.heap (.tail _ (List.mem_append_right _ (.head _)))) (by rfl) _ Tryz.underlying24 rfl ask_size (by rfl) ?_) | (refine wl_g (by rfl) ?_; refine wl_load rfl _ _ rfl g24 0 (av M U (.slice A6 k c6) B) (av M U (.slice A6 k c6) B) _ (HOA.out.heap (.head _)) (by rfl) _ Tryz.underlying31 rfl rask_size (by rfl) ?_))
            have hr5 : HRd W ((g24, .cells (av M U (.slice A6 k c6) B).toArray 31) :: (L6 ++ ((g22, .cells (av M U (.slice A5 k c5) B).toArray 24) :: (L5 ++ ((g76, .cells (sv xs).toArray 9) :: (L1 ++ [])))))) (.slice A5 k c5) hz := HI5.out.hrd (List.Sublist.cons _ ((List.Sublist.cons _ (List.sublist_append_left _ _)).trans (List.sublist_append_right _ _)))
            have hr6 : HRd W ((g24, .cells (av M U (.slice A6 k c6) B).toArray 31) :: (L6 ++ ((g22, .cells (av M U (.slice A5 k c5) B).toArray 24) :: (L5 ++ ((g76, .cells (sv xs).toArray 9) :: (L1 ++ [])))))) (.slice A6 k c6) hz := HI6.out.hrd (List.Sublist.cons _ (List.sublist_append_left _ _))
            have hq := same10_c HOA.out M M U U (.slice A5 k c5) (.slice A6 k c6) hz hz hr5 hr6 B B (by rw [HZK.out]; exact HKZ.out)
            rw [show (decide (M = M) && (decide (U = U) && (decide (hz = hz) && decide (B = B)))) = true by simp] at hq
            with_reducible refine hq.mono ?_
            clear hq hr5 hr6
            rintro e w11 ⟨rfl, hO⟩
            have HOB := Lib.hid hO.tail.right.tail.right; clear hO HOA
            go_wp2
            go_roundw
            case rel => exact ⟨i + 1, by omega, by go_num, HOB⟩
            case measure => simp [intOf]; omega
        · have hi4I : ¬ (i : Int) < 4 := by omega
          go_wp2_with fail
          with_reducible refine (wakes10_c HVV.out HO3.out).mono ?_
          rintro e w9 ⟨rfl, hO⟩
          have HO9 := Lib.hid hO; clear hO HO3
          go_wp2
          go_ret
          exact HO9.out.yes rfl
set_option maxRecDepth 100000 in
theorem askTells_contract (H : Type) (enc : TypeId × Value → H) (W : World) (base : Nat) (args : Array Value) (ds gs : List (DataW H)) (before : List MemPlace)
    (hval : ∀ (j : Nat) t v, Tryz.f3.params[j]? = some t → args[j]? = some v → Value.okWide Tryz.prog W .any base t v)
    (hW : DataW.Whole enc Tryz.prog Tryz.f3.params.toList Rows.askTellsSpec.vars false W args.toList ds gs before) (hk : Rows.uptoSmall H (ds ++ gs) = true) (hV0 : VarsOk W) :
    Calls Tryz.prog 3 args W fun e W' => ∃ v, e = .returned v ∧ Rows.askTellsSpec.post enc Tryz.prog Tryz.f3 false true false false W args v W' := by
  have hW' := hW
  obtain ⟨p, q, hA0, hV, rfl, hfz, hnd⟩ := hW
  have hA : DataW.TrodAll enc Tryz.prog W 0 (fun _ => true) true Tryz.f3.params.toList args.toList ds p := hA0
  rw [Tryz.params3] at hA hval
  obtain ⟨v0, vs0, d0, ds0, p0, q0, hargs, rfl, rfl, h0, r0⟩ := trodAll_cons hA
  obtain ⟨v1, vs1, d1, ds1, p1, q1, rfl, rfl, rfl, h1, r1⟩ := trodAll_cons r0
  obtain ⟨v2, vs2, d2, ds2, p2, q2, rfl, rfl, rfl, h2, r2⟩ := trodAll_cons r1
  obtain ⟨v3, vs3, d3, ds3, p3, q3, rfl, rfl, rfl, h3, r3⟩ := trodAll_cons r2
  obtain ⟨v4, vs4, d4, ds4, p4, q4, rfl, rfl, rfl, h4, r4⟩ := trodAll_cons r3
  obtain ⟨v5, vs5, d5, ds5, p5, q5, rfl, rfl, rfl, h5, r5⟩ := trodAll_cons r4
  obtain ⟨v6, vs6, d6, ds6, p6, q6, rfl, rfl, rfl, h6, r6⟩ := trodAll_cons r5
  obtain ⟨rfl, rfl, rfl⟩ := trodAll_nil r6
  obtain rfl : args = #[v0, v1, v2, v3, v4, v5, v6] := by cases args; simp_all
  obtain ⟨rfl, rfl⟩ := trodVars_none hV
  obtain ⟨a0, rfl, rfl, rfl, w0⟩ := open_int Tryz.underlying3 (hval 0 3 v0 rfl rfl) h0
  obtain ⟨a1, rfl, rfl, rfl, w1⟩ := open_int Tryz.underlying3 (hval 1 3 v1 rfl rfl) h1
  obtain ⟨a2, rfl, rfl, rfl, w2⟩ := open_int Tryz.underlying3 (hval 2 3 v2 rfl rfl) h2
  obtain ⟨a3, rfl, rfl, rfl, w3⟩ := open_string Tryz.underlying9 (hval 3 9 v3 rfl rfl) h3
  obtain ⟨a4, rfl, rfl, rfl, w4⟩ := open_string Tryz.underlying9 (hval 4 9 v4 rfl rfl) h4
  obtain ⟨a5, rfl, rfl, rfl, w5⟩ := open_int Tryz.underlying3 (hval 5 3 v5 rfl rfl) h5
  obtain ⟨a6, rfl, rfl, rfl⟩ := open_bool Tryz.underlying4 (hval 6 4 v6 rfl rfl) h6
  have z3 : a3.size ≤ 1048576 := by
    have hb : _ ≤ 1048576 := of_decide_eq_true hk
    simp only [List.append_nil, List.cons_append, List.nil_append, Rows.uptoBulkAll, Rows.uptoBulk] at hb
    have e : a3.data.toList.length = a3.size := by simp
    omega
  have z4 : a4.size ≤ 1048576 := by
    have hb : _ ≤ 1048576 := of_decide_eq_true hk
    simp only [List.append_nil, List.cons_append, List.nil_append, Rows.uptoBulkAll, Rows.uptoBulk] at hb
    have e : a4.data.toList.length = a4.size := by simp
    omega
  clear hA0
  refine (askTells_walk hV0 a0 w0 a1 w1 a2 w2 a3 z3 a4 z4 a5 w5 a6).mono fun e W' ⟨he, bel⟩ => ?_
  subst he
  exact ⟨_, rfl, _, _, _, [], _, [], hW', trodAll_mk1 (shut_bool Tryz.underlying4 _), (trodAll_cons_mk (shut_int Tryz.underlying3 w0) (trodAll_cons_mk (shut_int Tryz.underlying3 w1) (trodAll_cons_mk (shut_int Tryz.underlying3 w2) (trodAll_cons_mk (shut_string Tryz.underlying9 w3) (trodAll_cons_mk (shut_string Tryz.underlying9 w4) (trodAll_cons_mk (shut_int Tryz.underlying3 w5) (trodAll_cons_mk (shut_bool Tryz.underlying4 a6) trodAll_mk0))))))), rfl, bel.frame _, fun h => by cases h⟩

theorem askTells_met (os : Os) : laidMet Tryz.prog Rows.askTellsUptoRow.laid ((laidWorld os).forCall (fun _ _ => 0) ⟨#[], #[.int .i64 0, .int .i64 0, .int .i64 0, .string .empty, .string .empty, .int .i64 0, .bool false], []⟩).memory :=
  laidMet_of_run' 8 (by kernel_rfl) (by kernel_rfl)
theorem askTells_reads (os : Os) {H : Type} (enc : TypeId × Value → H) : ∃ places, DataW.whole enc Tryz.prog ((laidWorld os).forCall (fun _ _ => 0) ⟨#[], #[.int .i64 0, .int .i64 0, .int .i64 0, .string .empty, .string .empty, .int .i64 0, .bool false], []⟩).memory Tryz.f3.params.toList Rows.askTellsSpec.vars false (#[.int .i64 0, .int .i64 0, .int .i64 0, .string .empty, .string .empty, .int .i64 0, .bool false] : Array Value).toList 8 = some ([.lit (.int .i64 0), .lit (.int .i64 0), .lit (.int .i64 0), .lit (.string []), .lit (.string []), .lit (.int .i64 0), .lit (.bool false)], [], places) :=
  ⟨[], by kernel_rfl⟩
set_option maxRecDepth 100000 in
theorem askTells_lifted (os : Os) (started : os.Started) (H : Type) (enc : TypeId × Value → H) (F : Stop.Interp) :
    ReturnsInHanded {} Tryz.checked os 3 .any ((Rows.OpenSpec.upto Rows.askTellsSpec).preRow enc Tryz.prog Tryz.f3 Rows.askTellsUptoRow.domain false Rows.askTellsUptoRow.laid) (((Rows.OpenSpec.upto Rows.askTellsSpec).at F).post enc Tryz.prog Tryz.f3 false true false false) := by
  obtain ⟨places, hx⟩ := askTells_reads os enc
  refine returnsInHanded_of_row (C := Tryz.checked) (s := Rows.OpenSpec.upto Rows.askTellsSpec) own_none started (by kernel_rfl) Tryz.func3
    (witness_row_at (enc := enc) (C := Tryz.checked) false (laidWorld os) #[.int .i64 0, .int .i64 0, .int .i64 0, .string .empty, .string .empty, .int .i64 0, .bool false] rfl (by kernel_rfl) (by kernel_rfl) (by kernel_rfl)
      (OpenSpec.preRow_of_cond 8 hx (by kernel_rfl) (fun k hk => by cases hk; kernel_rfl) (by kernel_rfl) (askTells_met os))) ?_
  intro W base args ds gs before hval hW _ hcond _ hL hsh _
  exact askTells_contract H enc W base args ds gs before hval hW (hcond _ rfl) (vars_of hL hsh)
theorem askTells_said : Rows.AskTellsUptoSaid :=
  OpenClaim.holds_of_cond 3 Tryz.f3 rfl rfl rfl rfl rfl rfl rfl ⟨rfl, rfl, rfl, rfl, rfl⟩ rfl rfl rfl rfl rfl (by kernel_rfl) Tryz.func3 (by kernel_rfl)
    (of_decide_eq_true (by kernel_rfl)) (by unfold Func.isWrapper; first | (rw [if_pos (by decide +kernel)]; kernel_rfl) | (rw [if_neg (by decide +kernel)]; exact ⟨rfl, rfl⟩))
    (fun os started H enc _ F => by rw [OpenClaim.pre_eq_preRow]; exact askTells_lifted os started H enc F)
theorem askTells_plain (f : FuncId) (fn : Func) (hf : Tryz.pinned.checked.prog.funcNamed "postilion/postilionlaw10.AskTells" = some f) (hfn : Tryz.pinned.checked.prog.funcs[f]? = some fn) :
    false = Tryz.pinned.checked.prog.looks [] ∧ ∀ (j : Nat) t, fn.params[j]? = some t → Tryz.pinned.checked.prog.wantsStandIn t = false := by
  obtain rfl : f = 3 := Option.some.inj ((show Tryz.prog.funcNamed "postilion/postilionlaw10.AskTells" = some 3 by kernel_rfl).symm.trans hf) |>.symm
  obtain rfl : fn = Tryz.f3 := (Option.some.inj (Tryz.func3.symm.trans hfn)).symm
  refine ⟨by kernel_rfl, fun j t ht => ?_⟩
  rw [Tryz.params3] at ht
  have hall : ∀ t ∈ ([3, 3, 3, 9, 9, 3, 4] : List TypeId), Tryz.prog.wantsStandIn t = false := List.forall_mem_cons.2 ⟨by kernel_rfl, List.forall_mem_cons.2 ⟨by kernel_rfl, List.forall_mem_cons.2 ⟨by kernel_rfl, List.forall_mem_cons.2 ⟨by kernel_rfl, List.forall_mem_cons.2 ⟨by kernel_rfl, List.forall_mem_cons.2 ⟨by kernel_rfl, List.forall_mem_cons.2 ⟨by kernel_rfl, fun _ h => by cases h⟩⟩⟩⟩⟩⟩⟩
  exact hall t (by simpa using Array.mem_of_getElem? ht)
/-- The statement: the card. -/
theorem askTells_proved : Rows.AskTellsUptoCardSaid :=
  Claim7.holds_tied_plain_at .later [] _ _ _ _ askTells_said (fun _ h => by cases h) (by kernel_rfl) (fun _ h => by cases h) askTellsUpto_row_tie rfl ⟨rfl, rfl⟩ (by kernel_rfl) rfl askTells_plain (by kernel_rfl)
end Go.Proofs.YtlcolabblpikjaaGreatDoor
