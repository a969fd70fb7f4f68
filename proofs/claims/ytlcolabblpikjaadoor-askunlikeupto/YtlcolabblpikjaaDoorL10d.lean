/-
  AskUnlike: whatever numbers and strings: two requests that have texts have one text exactly where they are the same.
  Conditions: the statement's own bound (the arguments hold together at most 1,048,576 values and letters).
-/
import Derived.Test.YtlcolabblpikjaaDoorM13
import Derived.JoinedCond
namespace Go.Proofs.YtlcolabblpikjaaDoor
set_option linter.unusedVariables false
set_option linter.unusedSimpArgs false
set_option maxRecDepth 20000
open Go.ChangeShapes Go.WideShapes Go.ChangeAt Go.RowKit
open Go.ChangeMaps (open_string shut_string)

set_option maxRecDepth 100000 in
set_option maxHeartbeats 16000000 in
theorem askUnlike_walk {W : World} (hV : VarsOk W) (n : Int) (wn : (Lit.int .i64 n).wf = true) (m : Int) (wm : (Lit.int .i64 m).wf = true) (how : Int) (wh : (Lit.int .i64 how).wf = true) (other : Int) (wo : (Lit.int .i64 other).wf = true) (s : ByteArray) (hs : s.size ≤ 1048576) (body : ByteArray) (hb : body.size ≤ 1048576) :
    Calls Tryd.prog 4 #[.int .i64 n, .int .i64 m, .int .i64 how, .int .i64 other, .string s, .string body] W (Yes W) := by
  have HO := Lib.hid (Own.start W)
  have HVV := Lib.hid hV
  have HSB : Hid (s.size ≤ 1048576 ∧ body.size ≤ 1048576) := Lib.hid ⟨hs, hb⟩
  clear wn wm wh wo hV hs hb
  go_enter Tryd.func4, Tryd.ntmps4
  go_wp2_with fail
  with_reducible refine (of_c HO.out _ _ _ s body (by have := HSB.out; omega)).mono ?_
  rintro e w1 ⟨m1, u1, v1, hs1, L1, rfl, a1, a2, a3, hi1, a5, hO⟩
  obtain ⟨A1, c1, hve⟩ := IsRow.val hi1
  subst hve
  have HO1 := Lib.hid hO
  have HI1 : Hid (IsHeads (.slice A1 hs1.length c1) hs1 L1) := Lib.hid hi1
  have HZ1 : Hid (m1.size ≤ 100000000 ∧ u1.size ≤ 5000000 ∧ body.size ≤ 100000000 ∧ (headsP (hl hs1)).length ≤ 100000000 ∧ hs1.length ≤ 8) := Lib.hid (by have := HSB.out; omega)
  clear a1 a2 a3 a5 hi1 hO HO
  generalize hk1 : hs1.length = k1 at *
  have HK1 := Lib.hid hk1; clear hk1
  go_wp2_with fail
  with_reducible refine (of_c HO1.out _ _ _ s body (by have := HSB.out; omega)).mono ?_
  rintro e w2 ⟨m2, u2, v2, hs2, L2, rfl, a1, a2, a3, hi2, a5, hO⟩
  obtain ⟨A2, c2, hve⟩ := IsRow.val hi2
  subst hve
  have HO2 := Lib.hid hO
  have HI2 : Hid (IsHeads (.slice A2 hs2.length c2) hs2 L2) := Lib.hid hi2
  have HZ2 : Hid (m2.size ≤ 100000000 ∧ u2.size ≤ 5000000 ∧ body.size ≤ 100000000 ∧ (headsP (hl hs2)).length ≤ 100000000 ∧ hs2.length ≤ 8) := Lib.hid (by have := HSB.out; omega)
  clear a1 a2 a3 a5 hi2 hO HO1
  generalize hk2 : hs2.length = k2 at *
  have HK2 := Lib.hid hk2; clear hk2
  have hr1 : Hid (∀ g14 g13 (o14 o13 : Obj), HRd W ((g14, o14) :: (g13, o13) :: (L2 ++ (L1 ++ []))) (.slice A1 k1 c1) hs1) := Lib.hid fun _ _ _ _ => HI1.out.hrd (List.Sublist.cons _ (List.Sublist.cons _ ((List.sublist_append_left _ _).trans (List.sublist_append_right _ _))))
  have hr2 : Hid (∀ g14 g13 (o14 o13 : Obj), HRd W ((g14, o14) :: (g13, o13) :: (L2 ++ (L1 ++ []))) (.slice A2 k2 c2) hs2) := Lib.hid fun _ _ _ _ => HI2.out.hrd (List.Sublist.cons _ (List.Sublist.cons _ (List.sublist_append_left _ _)))
  rcases ha1 : askP (aL m1 u1 hs1 body) with _ | t1
  · have HA1 := Lib.hid ha1; clear ha1
    go_wp2_with (first | (refine wl_alloc rfl _ rfl HO2.out _ (alloc_ask _) ?_; intro g13 w3 hO; have HO3 := Lib.hid hO; clear hO HO2) | (refine wl_alloc rfl _ rfl HO3.out _ (alloc_ask _) ?_; intro g14 w4 hO; have HO4 := Lib.hid hO; clear hO HO3) | (refine wl_store rfl _ _ _ rfl HO4.out 1 g13 0 _ (av m1 u1 (.slice A1 k1 c1) body) _ rfl (by rfl) (by rfl) ask_size (one_av rfl) (by simp [av]) ?_; intro w5 hO; have HO5 := Lib.hid (hO.cast (L' := (g14, .cells (av ⟨#[]⟩ ⟨#[]⟩ (.slice none 0 0) ⟨#[]⟩).toArray 26) :: (g13, .cells (av m1 u1 (.slice A1 k1 c1) body).toArray 26) :: (L2 ++ (L1 ++ []))) rfl); clear hO HO4) | (refine wl_store rfl _ _ _ rfl HO5.out 0 g14 0 _ (av m2 u2 (.slice A2 k2 c2) body) _ rfl (by rfl) (by rfl) ask_size (one_av rfl) (by simp [av]) ?_; intro w6 hO; have HO6 := Lib.hid (hO.cast (L' := (g14, .cells (av m2 u2 (.slice A2 k2 c2) body).toArray 26) :: (g13, .cells (av m1 u1 (.slice A1 k1 c1) body).toArray 26) :: (L2 ++ (L1 ++ []))) rfl); clear hO HO5) | (refine wl_load rfl _ _ rfl g13 0 (av m1 u1 (.slice A1 k1 c1) body) (av m1 u1 (.slice A1 k1 c1) body) _ (HO6.out.heap (.tail _ (.head _))) (by rfl) _ Tryd.underlying26 rfl ask_size (by rfl) ?_))
    with_reducible refine (aprint_no HVV.out HO6.out _ _ _ _ (hr1.out _ _ _ _) _ HZ1.out.1 HZ1.out.2.1 HZ1.out.2.2.1 HZ1.out.2.2.2.1 HA1.out).mono ?_
    rintro e w7 ⟨rfl, hO⟩
    have HO7 := Lib.hid hO; clear hO HO6
    obtain ⟨x2, hx2⟩ : ∃ x, errA (askP (aL m2 u2 hs2 body)) = x := ⟨_, rfl⟩
    have hp2 := fun (w : World) (g14 g13 : Nat) (o14 o13 : Obj) (hO : Own W w ((g14, o14) :: (g13, o13) :: (L2 ++ (L1 ++ [])))) => aprint_c HVV.out hO m2 u2 _ hs2 (hr2.out _ _ _ _) body HZ2.out.1 HZ2.out.2.1 HZ2.out.2.2.1 HZ2.out.2.2.2.1
    rw [hx2] at hp2
    have HP2 := Lib.hid hp2
    clear hp2 hx2
    go_wp2_with (refine wl_load rfl _ _ rfl g14 0 (av m2 u2 (.slice A2 k2 c2) body) (av m2 u2 (.slice A2 k2 c2) body) _ (HO7.out.heap (.head _)) (by rfl) _ Tryd.underlying26 rfl ask_size (by rfl) ?_)
    with_reducible refine (HP2.out _ _ _ _ _ HO7.out).mono ?_
    rintro e w8 ⟨rfl, hO⟩
    have HO8 := Lib.hid hO; clear hO HO7 HP2
    go_wp2_with fail
    with_reducible refine (wakes10_c HVV.out HO8.out).mono ?_
    rintro e w9 ⟨rfl, hO⟩
    have HO9 := Lib.hid hO; clear hO HO8
    go_wp2
    go_ret
    exact HO9.out.yes rfl
  · have HA1 := Lib.hid ha1; clear ha1
    go_wp2_with (first | (refine wl_alloc rfl _ rfl HO2.out _ (alloc_ask _) ?_; intro g13 w3 hO; have HO3 := Lib.hid hO; clear hO HO2) | (refine wl_alloc rfl _ rfl HO3.out _ (alloc_ask _) ?_; intro g14 w4 hO; have HO4 := Lib.hid hO; clear hO HO3) | (refine wl_store rfl _ _ _ rfl HO4.out 1 g13 0 _ (av m1 u1 (.slice A1 k1 c1) body) _ rfl (by rfl) (by rfl) ask_size (one_av rfl) (by simp [av]) ?_; intro w5 hO; have HO5 := Lib.hid (hO.cast (L' := (g14, .cells (av ⟨#[]⟩ ⟨#[]⟩ (.slice none 0 0) ⟨#[]⟩).toArray 26) :: (g13, .cells (av m1 u1 (.slice A1 k1 c1) body).toArray 26) :: (L2 ++ (L1 ++ []))) rfl); clear hO HO4) | (refine wl_store rfl _ _ _ rfl HO5.out 0 g14 0 _ (av m2 u2 (.slice A2 k2 c2) body) _ rfl (by rfl) (by rfl) ask_size (one_av rfl) (by simp [av]) ?_; intro w6 hO; have HO6 := Lib.hid (hO.cast (L' := (g14, .cells (av m2 u2 (.slice A2 k2 c2) body).toArray 26) :: (g13, .cells (av m1 u1 (.slice A1 k1 c1) body).toArray 26) :: (L2 ++ (L1 ++ []))) rfl); clear hO HO5) | (refine wl_load rfl _ _ rfl g13 0 (av m1 u1 (.slice A1 k1 c1) body) (av m1 u1 (.slice A1 k1 c1) body) _ (HO6.out.heap (.tail _ (.head _))) (by rfl) _ Tryd.underlying26 rfl ask_size (by rfl) ?_))
    with_reducible refine (aprint_yes HVV.out HO6.out _ _ _ _ (hr1.out _ _ _ _) _ HZ1.out.1 HZ1.out.2.1 HZ1.out.2.2.1 HZ1.out.2.2.2.1 HA1.out).mono ?_
    rintro e w7 ⟨rfl, hO⟩
    have HO7 := Lib.hid hO; clear hO HO6
    rcases ha2 : askP (aL m2 u2 hs2 body) with _ | t2
    · have HA2 := Lib.hid ha2; clear ha2
      go_wp2_with (refine wl_load rfl _ _ rfl g14 0 (av m2 u2 (.slice A2 k2 c2) body) (av m2 u2 (.slice A2 k2 c2) body) _ (HO7.out.heap (.head _)) (by rfl) _ Tryd.underlying26 rfl ask_size (by rfl) ?_)
      with_reducible refine (aprint_no HVV.out HO7.out _ _ _ _ (hr2.out _ _ _ _) _ HZ2.out.1 HZ2.out.2.1 HZ2.out.2.2.1 HZ2.out.2.2.2.1 HA2.out).mono ?_
      rintro e w8 ⟨rfl, hO⟩
      have HO8 := Lib.hid hO; clear hO HO7
      go_wp2_with fail
      with_reducible refine (wakes10_c HVV.out HO8.out).mono ?_
      rintro e w9 ⟨rfl, hO⟩
      have HO9 := Lib.hid hO; clear hO HO8
      go_wp2
      go_ret
      exact HO9.out.yes rfl
    · have hsame := ask_same HA1.out ha2
      have hq := fun (w : World) (g14 g13 : Nat) (o14 o13 : Obj) (hO : Own W w ((g14, o14) :: (g13, o13) :: (L2 ++ (L1 ++ [])))) => same10_c hO m1 m2 u1 u2 (.slice A1 k1 c1) (.slice A2 k2 c2) hs1 hs2 (hr1.out _ _ _ _) (hr2.out _ _ _ _) body body (by rw [HK1.out]; have := HZ1.out.2.2.2.2; omega)
      obtain ⟨b, hbb⟩ : ∃ b, (decide (m1 = m2) && (decide (u1 = u2) && (decide (hs1 = hs2) && decide (body = body)))) = b := ⟨_, rfl⟩
      rw [hbb] at hsame hq
      have HQ := Lib.hid hq; have HSAME := Lib.hid hsame
      clear hq hbb hsame
      have HA2 := Lib.hid ha2; clear ha2
      go_wp2_with (refine wl_load rfl _ _ rfl g14 0 (av m2 u2 (.slice A2 k2 c2) body) (av m2 u2 (.slice A2 k2 c2) body) _ (HO7.out.heap (.head _)) (by rfl) _ Tryd.underlying26 rfl ask_size (by rfl) ?_)
      with_reducible refine (aprint_yes HVV.out HO7.out _ _ _ _ (hr2.out _ _ _ _) _ HZ2.out.1 HZ2.out.2.1 HZ2.out.2.2.1 HZ2.out.2.2.2.1 HA2.out).mono ?_
      rintro e w8 ⟨rfl, hO⟩
      have HO8 := Lib.hid hO; clear hO HO7 HA1 HA2
      generalize strOfNums t1 = x at *
      generalize strOfNums t2 = y at *
      have hq := fun (w : World) (g14 g13 : Nat) (o14 o13 : Obj) (hO : Own W w ((g14, o14) :: (g13, o13) :: (L2 ++ (L1 ++ [])))) => same10_c hO m1 m2 u1 u2 (.slice A1 k1 c1) (.slice A2 k2 c2) hs1 hs2 (hr1.out _ _ _ _) (hr2.out _ _ _ _) body body (by rw [HK1.out]; have := HZ1.out.2.2.2.2; omega)
      have hsame := HSAME.out
      clear HSAME
      go_upto_region 6 with fail
      cases b with
      | false =>
        --REGION6F
        refine wp_region_tree3 (fun w' => Own W w' ((g14, .cells (av m2 u2 (.slice A2 k2 c2) body).toArray 26) :: (g13, .cells (av m1 u1 (.slice A1 k1 c1) body).toArray 26) :: (L2 ++ (L1 ++ [])))) 11 (.q 0 (.q 1 (.q 2 (.q 3 (.q 4 (.one 5 (.one 6 (.q 7 (.q 8 (.one 9 (.q 10 .done))))))))))) (by kernel_rfl) (by decide +kernel) (fun _ _ d _ _ h => by cases d <;> exact h) (HO8.out.drew.sub (List.Sublist.refl _)) ?_
        simp only [List.drop_succ_cons, List.drop_zero]
        have HT := Lib.hid HO8.out.drew; clear HO8
        refine t3_q ?_ rfl ?_ ?_; rotate_left 1; (focus (rintro w' hO; simp only [pick_zero, pick_succ]; go_simp; first | done | with_reducible rfl | (trace_state; fail))); simp only [pick_zero, pick_succ]; simp only [Act.put, List.setIfInBounds_toArray, List.set_cons_zero, List.set_cons_succ]
        refine t3_q ?_ rfl ?_ ?_; rotate_left 1; (focus (rintro w' hO; simp only [pick_zero, pick_succ]; go_simp; first | done | with_reducible rfl | (trace_state; fail))); simp only [pick_zero, pick_succ]; simp only [Act.put, List.setIfInBounds_toArray, List.set_cons_zero, List.set_cons_succ]
        refine t3_q ?_ rfl ?_ ?_; rotate_left 1; (focus (rintro w' hO; simp only [pick_zero, pick_succ]; go_simp; first | done | with_reducible rfl | (trace_state; fail))); simp only [pick_zero, pick_succ]; simp only [Act.put, List.setIfInBounds_toArray, List.set_cons_zero, List.set_cons_succ]
        refine t3_load rfl _ _ rfl g13 0 (av m1 u1 (.slice A1 k1 c1) body) (av m1 u1 (.slice A1 k1 c1) body) 26 (by rfl) _ Tryd.underlying26 rfl ask_size (by rfl) (fun w' hO => hO.heap (.tail _ (.head _))) ?_; simp only [pick_zero, pick_succ]; simp only [Act.put, List.setIfInBounds_toArray, List.set_cons_zero, List.set_cons_succ]
        refine t3_load rfl _ _ rfl g14 0 (av m2 u2 (.slice A2 k2 c2) body) (av m2 u2 (.slice A2 k2 c2) body) 26 (by rfl) _ Tryd.underlying26 rfl ask_size (by rfl) (fun w' hO => hO.heap (.head _)) ?_; simp only [pick_zero, pick_succ]; simp only [Act.put, List.setIfInBounds_toArray, List.set_cons_zero, List.set_cons_succ]
        refine t3_one ?_
        simp only [pick_zero, pick_succ]
        refine wl_call rfl _ _ _ (by go_simp) (ref10_c HT.out m2 u2 A2 k2 c2 body) ?_
        rintro e wx5 ⟨rfl, hO⟩; have HT5 := Lib.hid hO; clear hO HT
        refine ⟨_, rfl, ActPost.mk (fun w' => Own W w' ((g14, .cells (av m2 u2 (.slice A2 k2 c2) body).toArray 26) :: (g13, .cells (av m1 u1 (.slice A1 k1 c1) body).toArray 26) :: (L2 ++ (L1 ++ [])))) (fun w' h => h) (HT5.out.sub (List.Sublist.refl _)) ?_⟩; simp only [Act.put, List.setIfInBounds_toArray, List.set_cons_zero, List.set_cons_succ]
        refine t3_one ?_
        simp only [pick_zero, pick_succ]
        refine wl_call rfl _ _ _ (by go_simp) (HQ.out _ _ _ _ _ HT5.out) ?_
        rintro e wx6 ⟨rfl, hO⟩; have HT56 := Lib.hid hO; clear hO HT5
        refine ⟨_, rfl, ActPost.mk (fun w' => Own W w' ((g14, .cells (av m2 u2 (.slice A2 k2 c2) body).toArray 26) :: (g13, .cells (av m1 u1 (.slice A1 k1 c1) body).toArray 26) :: (L2 ++ (L1 ++ [])))) (fun w' h => h) (HT56.out.sub (List.Sublist.refl _)) ?_⟩; simp only [Act.put, List.setIfInBounds_toArray, List.set_cons_zero, List.set_cons_succ]
        refine t3_q ?_ rfl ?_ ?_; rotate_left 1; (focus (rintro w' hO; simp only [pick_zero, pick_succ]; go_simp; first | done | with_reducible rfl | (trace_state; fail))); simp only [pick_zero, pick_succ]; simp only [Act.put, List.setIfInBounds_toArray, List.set_cons_zero, List.set_cons_succ]
        refine t3_q ?_ rfl ?_ ?_; rotate_left 1; (focus (rintro w' hO; simp only [pick_zero, pick_succ]; go_simp; first | done | with_reducible rfl | (trace_state; fail))); simp only [pick_zero, pick_succ]; simp only [Act.put, List.setIfInBounds_toArray, List.set_cons_zero, List.set_cons_succ]
        refine t3_one ?_
        simp only [pick_zero, pick_succ]
        refine wl_g (by rfl) ?_
        refine wl_call rfl _ _ _ (by go_simp) (wakes10_c HVV.out HT56.out) ?_
        rintro e wx9 ⟨rfl, hO⟩; have HT569 := Lib.hid hO; clear hO HT56
        refine ⟨_, rfl, ActPost.mk (fun w' => Own W w' ((g14, .cells (av m2 u2 (.slice A2 k2 c2) body).toArray 26) :: (g13, .cells (av m1 u1 (.slice A1 k1 c1) body).toArray 26) :: (L2 ++ (L1 ++ [])))) (fun w' h => h) (HT569.out.sub (List.Sublist.refl _)) ?_⟩; simp only [Act.put, List.setIfInBounds_toArray, List.set_cons_zero, List.set_cons_succ]
        refine t3_q ?_ rfl ?_ ?_; rotate_left 1; (focus (rintro w' hO; simp only [pick_zero, pick_succ]; go_simp; first | done | with_reducible rfl | (trace_state; fail))); simp only [pick_zero, pick_succ]; simp only [Act.put, List.setIfInBounds_toArray, List.set_cons_zero, List.set_cons_succ]
        refine t3_done ?_
        go_wp2
        go_ret
        exact HT569.out.yes rfl
        --ENDREGION6F
      | true =>
        --REGION6T
        refine wp_region_tree3 (fun w' => Own W w' ((g14, .cells (av m2 u2 (.slice A2 k2 c2) body).toArray 26) :: (g13, .cells (av m1 u1 (.slice A1 k1 c1) body).toArray 26) :: (L2 ++ (L1 ++ [])))) 11 (.q 0 (.q 1 (.q 2 (.q 3 (.q 4 (.one 5 (.one 6 (.q 7 (.q 8 (.one 9 (.q 10 .done))))))))))) (by kernel_rfl) (by decide +kernel) (fun _ _ d _ _ h => by cases d <;> exact h) (HO8.out.drew.sub (List.Sublist.refl _)) ?_
        simp only [List.drop_succ_cons, List.drop_zero]
        have HT := Lib.hid HO8.out.drew; clear HO8
        refine t3_q ?_ rfl ?_ ?_; rotate_left 1; (focus (rintro w' hO; simp only [pick_zero, pick_succ]; go_simp; first | done | with_reducible rfl | (trace_state; fail))); simp only [pick_zero, pick_succ]; simp only [Act.put, List.setIfInBounds_toArray, List.set_cons_zero, List.set_cons_succ]
        refine t3_q ?_ rfl ?_ ?_; rotate_left 1; (focus (rintro w' hO; simp only [pick_zero, pick_succ]; go_simp; first | done | with_reducible rfl | (trace_state; fail))); simp only [pick_zero, pick_succ]; simp only [Act.put, List.setIfInBounds_toArray, List.set_cons_zero, List.set_cons_succ]
        refine t3_q ?_ rfl ?_ ?_; rotate_left 1; (focus (rintro w' hO; simp only [pick_zero, pick_succ]; go_simp; first | done | with_reducible rfl | (trace_state; fail))); simp only [pick_zero, pick_succ]; simp only [Act.put, List.setIfInBounds_toArray, List.set_cons_zero, List.set_cons_succ]
        refine t3_load rfl _ _ rfl g13 0 (av m1 u1 (.slice A1 k1 c1) body) (av m1 u1 (.slice A1 k1 c1) body) 26 (by rfl) _ Tryd.underlying26 rfl ask_size (by rfl) (fun w' hO => hO.heap (.tail _ (.head _))) ?_; simp only [pick_zero, pick_succ]; simp only [Act.put, List.setIfInBounds_toArray, List.set_cons_zero, List.set_cons_succ]
        refine t3_load rfl _ _ rfl g14 0 (av m2 u2 (.slice A2 k2 c2) body) (av m2 u2 (.slice A2 k2 c2) body) 26 (by rfl) _ Tryd.underlying26 rfl ask_size (by rfl) (fun w' hO => hO.heap (.head _)) ?_; simp only [pick_zero, pick_succ]; simp only [Act.put, List.setIfInBounds_toArray, List.set_cons_zero, List.set_cons_succ]
        refine t3_one ?_
        simp only [pick_zero, pick_succ]
        refine wl_call rfl _ _ _ (by go_simp) (ref10_c HT.out m2 u2 A2 k2 c2 body) ?_
        rintro e wx5 ⟨rfl, hO⟩; have HT5 := Lib.hid hO; clear hO HT
        refine ⟨_, rfl, ActPost.mk (fun w' => Own W w' ((g14, .cells (av m2 u2 (.slice A2 k2 c2) body).toArray 26) :: (g13, .cells (av m1 u1 (.slice A1 k1 c1) body).toArray 26) :: (L2 ++ (L1 ++ [])))) (fun w' h => h) (HT5.out.sub (List.Sublist.refl _)) ?_⟩; simp only [Act.put, List.setIfInBounds_toArray, List.set_cons_zero, List.set_cons_succ]
        refine t3_one ?_
        simp only [pick_zero, pick_succ]
        refine wl_call rfl _ _ _ (by go_simp) (HQ.out _ _ _ _ _ HT5.out) ?_
        rintro e wx6 ⟨rfl, hO⟩; have HT56 := Lib.hid hO; clear hO HT5
        refine ⟨_, rfl, ActPost.mk (fun w' => Own W w' ((g14, .cells (av m2 u2 (.slice A2 k2 c2) body).toArray 26) :: (g13, .cells (av m1 u1 (.slice A1 k1 c1) body).toArray 26) :: (L2 ++ (L1 ++ [])))) (fun w' h => h) (HT56.out.sub (List.Sublist.refl _)) ?_⟩; simp only [Act.put, List.setIfInBounds_toArray, List.set_cons_zero, List.set_cons_succ]
        refine t3_q ?_ rfl ?_ ?_; rotate_left 1; (focus (rintro w' hO; simp only [pick_zero, pick_succ]; go_simp; first | done | with_reducible rfl | (trace_state; fail))); simp only [pick_zero, pick_succ]; simp only [Act.put, List.setIfInBounds_toArray, List.set_cons_zero, List.set_cons_succ]
        refine t3_q ?_ rfl ?_ ?_; rotate_left 1; (focus (rintro w' hO; simp only [pick_zero, pick_succ]; go_simp; first | done | with_reducible rfl | (trace_state; fail))); simp only [pick_zero, pick_succ]; simp only [Act.put, List.setIfInBounds_toArray, List.set_cons_zero, List.set_cons_succ]
        refine t3_one ?_
        simp only [pick_zero, pick_succ]
        refine wl_g (by rfl) ?_
        refine wl_call rfl _ _ _ (by go_simp) (wakes10_c HVV.out HT56.out) ?_
        rintro e wx9 ⟨rfl, hO⟩; have HT569 := Lib.hid hO; clear hO HT56
        refine ⟨_, rfl, ActPost.mk (fun w' => Own W w' ((g14, .cells (av m2 u2 (.slice A2 k2 c2) body).toArray 26) :: (g13, .cells (av m1 u1 (.slice A1 k1 c1) body).toArray 26) :: (L2 ++ (L1 ++ [])))) (fun w' h => h) (HT569.out.sub (List.Sublist.refl _)) ?_⟩; simp only [Act.put, List.setIfInBounds_toArray, List.set_cons_zero, List.set_cons_succ]
        refine t3_q ?_ rfl ?_ ?_; rotate_left 1; (focus (rintro w' hO; simp only [pick_zero, pick_succ]; go_simp; first | done | with_reducible rfl | (trace_state; fail))); simp only [pick_zero, pick_succ]; simp only [Act.put, List.setIfInBounds_toArray, List.set_cons_zero, List.set_cons_succ]
        refine t3_done ?_
        go_wp2
        go_ret
        exact HT569.out.yes rfl
        --ENDREGION6T
set_option maxRecDepth 100000 in
theorem askUnlike_contract (H : Type) (enc : TypeId × Value → H) (W : World) (base : Nat) (args : Array Value) (ds gs : List (DataW H)) (before : List MemPlace)
    (hval : ∀ (j : Nat) t v, Tryd.f4.params[j]? = some t → args[j]? = some v → Value.okWide Tryd.prog W .any base t v)
    (hW : DataW.Whole enc Tryd.prog Tryd.f4.params.toList Rows.askUnlikeSpec.vars false W args.toList ds gs before) (hk : Rows.uptoSmall H (ds ++ gs) = true) (hV0 : VarsOk W) :
    Calls Tryd.prog 4 args W fun e W' => ∃ v, e = .returned v ∧ Rows.askUnlikeSpec.post enc Tryd.prog Tryd.f4 false true false false W args v W' := by
  have hW' := hW
  obtain ⟨p, q, hA0, hV, rfl, hfz, hnd⟩ := hW
  have hA : DataW.TrodAll enc Tryd.prog W 0 (fun _ => true) true Tryd.f4.params.toList args.toList ds p := hA0
  rw [Tryd.params4] at hA hval
  obtain ⟨v0, vs0, d0, ds0, p0, q0, hargs, rfl, rfl, h0, r0⟩ := trodAll_cons hA
  obtain ⟨v1, vs1, d1, ds1, p1, q1, rfl, rfl, rfl, h1, r1⟩ := trodAll_cons r0
  obtain ⟨v2, vs2, d2, ds2, p2, q2, rfl, rfl, rfl, h2, r2⟩ := trodAll_cons r1
  obtain ⟨v3, vs3, d3, ds3, p3, q3, rfl, rfl, rfl, h3, r3⟩ := trodAll_cons r2
  obtain ⟨v4, vs4, d4, ds4, p4, q4, rfl, rfl, rfl, h4, r4⟩ := trodAll_cons r3
  obtain ⟨v5, vs5, d5, ds5, p5, q5, rfl, rfl, rfl, h5, r5⟩ := trodAll_cons r4
  obtain ⟨rfl, rfl, rfl⟩ := trodAll_nil r5
  obtain rfl : args = #[v0, v1, v2, v3, v4, v5] := by cases args; simp_all
  obtain ⟨rfl, rfl⟩ := trodVars_none hV
  obtain ⟨a0, rfl, rfl, rfl, w0⟩ := open_int Tryd.underlying3 (hval 0 3 v0 rfl rfl) h0
  obtain ⟨a1, rfl, rfl, rfl, w1⟩ := open_int Tryd.underlying3 (hval 1 3 v1 rfl rfl) h1
  obtain ⟨a2, rfl, rfl, rfl, w2⟩ := open_int Tryd.underlying3 (hval 2 3 v2 rfl rfl) h2
  obtain ⟨a3, rfl, rfl, rfl, w3⟩ := open_int Tryd.underlying3 (hval 3 3 v3 rfl rfl) h3
  obtain ⟨a4, rfl, rfl, rfl, w4⟩ := open_string Tryd.underlying9 (hval 4 9 v4 rfl rfl) h4
  obtain ⟨a5, rfl, rfl, rfl, w5⟩ := open_string Tryd.underlying9 (hval 5 9 v5 rfl rfl) h5
  have z4 : a4.size ≤ 1048576 := by
    have hb : _ ≤ 1048576 := of_decide_eq_true hk
    simp only [List.append_nil, List.cons_append, List.nil_append, Rows.uptoBulkAll, Rows.uptoBulk] at hb
    have e : a4.data.toList.length = a4.size := by simp
    omega
  have z5 : a5.size ≤ 1048576 := by
    have hb : _ ≤ 1048576 := of_decide_eq_true hk
    simp only [List.append_nil, List.cons_append, List.nil_append, Rows.uptoBulkAll, Rows.uptoBulk] at hb
    have e : a5.data.toList.length = a5.size := by simp
    omega
  clear hA0
  refine (askUnlike_walk hV0 a0 w0 a1 w1 a2 w2 a3 w3 a4 z4 a5 z5).mono fun e W' ⟨he, bel⟩ => ?_
  subst he
  exact ⟨_, rfl, _, _, _, [], _, [], hW', trodAll_mk1 (shut_bool Tryd.underlying4 _), (trodAll_cons_mk (shut_int Tryd.underlying3 w0) (trodAll_cons_mk (shut_int Tryd.underlying3 w1) (trodAll_cons_mk (shut_int Tryd.underlying3 w2) (trodAll_cons_mk (shut_int Tryd.underlying3 w3) (trodAll_cons_mk (shut_string Tryd.underlying9 w4) (trodAll_cons_mk (shut_string Tryd.underlying9 w5) trodAll_mk0)))))), rfl, bel.frame _, fun h => by cases h⟩

theorem askUnlike_met (os : Os) : laidMet Tryd.prog Rows.askUnlikeUptoRow.laid ((laidWorld os).forCall (fun _ _ => 0) ⟨#[], #[.int .i64 0, .int .i64 0, .int .i64 0, .int .i64 0, .string .empty, .string .empty], []⟩).memory :=
  laidMet_of_run' 8 (by kernel_rfl) (by kernel_rfl)
theorem askUnlike_reads (os : Os) {H : Type} (enc : TypeId × Value → H) : ∃ places, DataW.whole enc Tryd.prog ((laidWorld os).forCall (fun _ _ => 0) ⟨#[], #[.int .i64 0, .int .i64 0, .int .i64 0, .int .i64 0, .string .empty, .string .empty], []⟩).memory Tryd.f4.params.toList Rows.askUnlikeSpec.vars false (#[.int .i64 0, .int .i64 0, .int .i64 0, .int .i64 0, .string .empty, .string .empty] : Array Value).toList 8 = some ([.lit (.int .i64 0), .lit (.int .i64 0), .lit (.int .i64 0), .lit (.int .i64 0), .lit (.string []), .lit (.string [])], [], places) :=
  ⟨[], by kernel_rfl⟩
set_option maxRecDepth 100000 in
theorem askUnlike_lifted (os : Os) (started : os.Started) (H : Type) (enc : TypeId × Value → H) (F : Stop.Interp) :
    ReturnsInHanded {} Tryd.checked os 4 .any ((Rows.OpenSpec.upto Rows.askUnlikeSpec).preRow enc Tryd.prog Tryd.f4 Rows.askUnlikeUptoRow.domain false Rows.askUnlikeUptoRow.laid) (((Rows.OpenSpec.upto Rows.askUnlikeSpec).at F).post enc Tryd.prog Tryd.f4 false true false false) := by
  obtain ⟨places, hx⟩ := askUnlike_reads os enc
  refine returnsInHanded_of_row (C := Tryd.checked) (s := Rows.OpenSpec.upto Rows.askUnlikeSpec) own_none started (by kernel_rfl) Tryd.func4
    (witness_row_at (enc := enc) (C := Tryd.checked) false (laidWorld os) #[.int .i64 0, .int .i64 0, .int .i64 0, .int .i64 0, .string .empty, .string .empty] rfl (by kernel_rfl) (by kernel_rfl) (by kernel_rfl)
      (OpenSpec.preRow_of_cond 8 hx (by kernel_rfl) (fun k hk => by cases hk; kernel_rfl) (by kernel_rfl) (askUnlike_met os))) ?_
  intro W base args ds gs before hval hW _ hcond _ hL hsh _
  exact askUnlike_contract H enc W base args ds gs before hval hW (hcond _ rfl) (vars_of hL hsh)
theorem askUnlike_said : Rows.AskUnlikeUptoSaid :=
  OpenClaim.holds_of_cond 4 Tryd.f4 rfl rfl rfl rfl rfl rfl rfl ⟨rfl, rfl, rfl, rfl, rfl⟩ rfl rfl rfl rfl rfl (by kernel_rfl) Tryd.func4 (by kernel_rfl)
    (of_decide_eq_true (by kernel_rfl)) (by unfold Func.isWrapper; first | (rw [if_pos (by decide +kernel)]; kernel_rfl) | (rw [if_neg (by decide +kernel)]; exact ⟨rfl, rfl⟩))
    (fun os started H enc _ F => by rw [OpenClaim.pre_eq_preRow]; exact askUnlike_lifted os started H enc F)
theorem askUnlike_plain (f : FuncId) (fn : Func) (hf : Tryd.pinned.checked.prog.funcNamed "postilion/postilionlaw10.AskUnlike" = some f) (hfn : Tryd.pinned.checked.prog.funcs[f]? = some fn) :
    false = Tryd.pinned.checked.prog.looks [] ∧ ∀ (j : Nat) t, fn.params[j]? = some t → Tryd.pinned.checked.prog.wantsStandIn t = false := by
  obtain rfl : f = 4 := Option.some.inj ((show Tryd.prog.funcNamed "postilion/postilionlaw10.AskUnlike" = some 4 by kernel_rfl).symm.trans hf) |>.symm
  obtain rfl : fn = Tryd.f4 := (Option.some.inj (Tryd.func4.symm.trans hfn)).symm
  refine ⟨by kernel_rfl, fun j t ht => ?_⟩
  rw [Tryd.params4] at ht
  have hall : ∀ t ∈ ([3, 3, 3, 3, 9, 9] : List TypeId), Tryd.prog.wantsStandIn t = false := List.forall_mem_cons.2 ⟨by kernel_rfl, List.forall_mem_cons.2 ⟨by kernel_rfl, List.forall_mem_cons.2 ⟨by kernel_rfl, List.forall_mem_cons.2 ⟨by kernel_rfl, List.forall_mem_cons.2 ⟨by kernel_rfl, List.forall_mem_cons.2 ⟨by kernel_rfl, fun _ h => by cases h⟩⟩⟩⟩⟩⟩
  exact hall t (by simpa using Array.mem_of_getElem? ht)
/-- The statement: the card. -/
theorem askUnlike_proved : Rows.AskUnlikeUptoCardSaid :=
  Claim7.holds_tied_plain_at .later [] _ _ _ _ askUnlike_said (fun _ h => by cases h) (by kernel_rfl) (fun _ h => by cases h) askUnlikeUpto_row_tie rfl ⟨rfl, rfl⟩ (by kernel_rfl) rfl askUnlike_plain (by kernel_rfl)
end Go.Proofs.YtlcolabblpikjaaDoor
