/-
  AskBack: whatever numbers and strings: a request that has a text is told of it as it was, and the text's end is the body.
  Conditions: the statement's own bound (the arguments hold together at most 1,048,576 values and letters).
-/
import Derived.Test.YtlcolabblpikjaaGreatDoorM18
import Derived.JoinedCond
namespace Go.Proofs.YtlcolabblpikjaaGreatDoor
set_option linter.unusedVariables false
set_option linter.unusedSimpArgs false
set_option maxRecDepth 20000
open Go.ChangeShapes Go.WideShapes Go.ChangeAt Go.RowKit
open Go.ChangeMaps (open_string shut_string)

set_option maxRecDepth 100000 in
set_option maxHeartbeats 16000000 in
theorem askBack_walk {W : World} (hV : VarsOk W) (n : Int) (wn : (Lit.int .i64 n).wf = true) (m : Int) (wm : (Lit.int .i64 m).wf = true) (how : Int) (wh : (Lit.int .i64 how).wf = true) (s : ByteArray) (hs : s.size ≤ 1048576) (body : ByteArray) (hb : body.size ≤ 1048576) :
    Calls Tryz.prog 4 #[.int .i64 n, .int .i64 m, .int .i64 how, .string s, .string body] W (Yes W) := by
  have HO := Lib.hid (Own.start W)
  have HVV := Lib.hid hV
  have HSB : Hid (s.size ≤ 1048576 ∧ body.size ≤ 1048576) := Lib.hid ⟨hs, hb⟩
  clear wn wm wh hV hs hb
  go_enter Tryz.func4, Tryz.ntmps4
  go_wp2_with fail
  with_reducible refine (of_c HO.out _ _ _ s body (by have := HSB.out; omega)).mono ?_
  rintro e w1 ⟨m1, u1, v1, hs1, L1, rfl, a1, a2, a3, hi1, a5, hO⟩
  obtain ⟨A1, c1, hve⟩ := IsRow.val hi1
  subst hve
  have HO1 := Lib.hid hO
  have HI1 : Hid (IsHeads (.slice A1 hs1.length c1) hs1 L1) := Lib.hid hi1
  have HZ1 : Hid (m1.size ≤ 100000000 ∧ u1.size ≤ 5000000 ∧ body.size ≤ 100000000 ∧ (headsP (hl hs1)).length ≤ 100000000 ∧ hs1.length ≤ 8) := Lib.hid (by have := HSB.out; omega)
  have HZ2 : Hid ((headsP (hl hs1)).length + body.size ≤ 3000000) := Lib.hid (by have := HSB.out; omega)
  clear a1 a2 a3 a5 hi1 hO HO
  generalize hk1 : hs1.length = k1 at *
  have HK1 := Lib.hid hk1; clear hk1
  have hr1 : Hid (∀ g11 (o11 : Obj), HRd W ((g11, o11) :: (L1 ++ [])) (.slice A1 k1 c1) hs1) := Lib.hid fun _ _ => HI1.out.hrd (List.Sublist.cons _ (List.sublist_append_left _ _))
  rcases ha1 : askP (aL m1 u1 hs1 body) with _ | t1
  · have HA1 := Lib.hid ha1; clear ha1
    go_wp2_with (first | (refine wl_alloc rfl _ rfl HO1.out _ (alloc_ask _) ?_; intro g11 w3 hO; have HO3 := Lib.hid hO; clear hO HO1) | (refine wl_store rfl _ _ _ rfl HO3.out 0 g11 0 _ (av m1 u1 (.slice A1 k1 c1) body) _ rfl (by rfl) (by rfl) ask_size (one_av rfl) (by simp [av]) ?_; intro w5 hO; have HO5 := Lib.hid (hO.cast (L' := (g11, .cells (av m1 u1 (.slice A1 k1 c1) body).toArray 24) :: (L1 ++ [])) rfl); clear hO HO3) | (refine wl_load rfl _ _ rfl g11 0 (av m1 u1 (.slice A1 k1 c1) body) (av m1 u1 (.slice A1 k1 c1) body) _ (HO5.out.heap (.head _)) (by rfl) _ Tryz.underlying24 rfl ask_size (by rfl) ?_))
    with_reducible refine (aprint_no HVV.out HO5.out _ _ _ _ (hr1.out _ _) _ HZ1.out.1 HZ1.out.2.1 HZ1.out.2.2.1 HZ1.out.2.2.2.1 HA1.out).mono ?_
    rintro e w7 ⟨rfl, hO⟩
    have HO7 := Lib.hid hO; clear hO HO5
    go_wp2_with fail
    with_reducible refine (wakes10_c HVV.out HO7.out).mono ?_
    rintro e w9 ⟨rfl, hO⟩
    have HO9 := Lib.hid hO; clear hO HO7
    go_wp2
    go_ret
    exact HO9.out.yes rfl
  · have HA1 := Lib.hid ha1
    obtain ⟨k, hk2, hkb, hsz, hex⟩ := ask_ends ha1
    have HX : Hid ((strOfNums t1).size ≤ 4000000) := Lib.hid (by have := HZ2.out; omega)
    have HE : Hid (2 ≤ k ∧ (strOfNums t1).size = k + body.size ∧ (strOfNums t1).extract k (strOfNums t1).size = body) := Lib.hid ⟨hk2, hsz, hex⟩
    have HKS : Hid (k + body.size ≤ 4000000) := Lib.hid (by have := HZ2.out; omega)
    clear ha1 hk2 hkb hsz hex
    go_wp2_with (first | (refine wl_alloc rfl _ rfl HO1.out _ (alloc_ask _) ?_; intro g11 w3 hO; have HO3 := Lib.hid hO; clear hO HO1) | (refine wl_store rfl _ _ _ rfl HO3.out 0 g11 0 _ (av m1 u1 (.slice A1 k1 c1) body) _ rfl (by rfl) (by rfl) ask_size (one_av rfl) (by simp [av]) ?_; intro w5 hO; have HO5 := Lib.hid (hO.cast (L' := (g11, .cells (av m1 u1 (.slice A1 k1 c1) body).toArray 24) :: (L1 ++ [])) rfl); clear hO HO3) | (refine wl_load rfl _ _ rfl g11 0 (av m1 u1 (.slice A1 k1 c1) body) (av m1 u1 (.slice A1 k1 c1) body) _ (HO5.out.heap (.head _)) (by rfl) _ Tryz.underlying24 rfl ask_size (by rfl) ?_))
    with_reducible refine (aprint_yes HVV.out HO5.out _ _ _ _ (hr1.out _ _) _ HZ1.out.1 HZ1.out.2.1 HZ1.out.2.2.1 HZ1.out.2.2.2.1 HA1.out).mono ?_
    rintro e w7 ⟨rfl, hO⟩
    have HO7 := Lib.hid hO; clear hO HO5
    go_wp2_with fail
    with_reducible refine (aparse_back HVV.out HO7.out HA1.out HX.out).mono ?_
    rintro e w8 ⟨A2, c2, L2, rfl, hi2, hO⟩
    rw [HK1.out] at hi2 ⊢
    have HO8 := Lib.hid hO
    have HI2 : Hid (IsHeads (.slice A2 k1 c2) hs1 L2) := Lib.hid hi2
    clear hO hi2 HO7 HA1 HX
    generalize strOfNums t1 = x at *
    have hr3 : Hid (∀ g14 g11 (o14 o11 : Obj), HRd W ((g14, o14) :: (L2 ++ ((g11, o11) :: (L1 ++ [])))) (.slice A1 k1 c1) hs1) := Lib.hid fun _ _ _ _ => HI1.out.hrd (List.Sublist.cons _ ((List.Sublist.cons _ (List.sublist_append_left _ _)).trans (List.sublist_append_right _ _)))
    have hr2 : Hid (∀ g14 g11 (o14 o11 : Obj), HRd W ((g14, o14) :: (L2 ++ ((g11, o11) :: (L1 ++ [])))) (.slice A2 k1 c2) hs1) := Lib.hid fun _ _ _ _ => HI2.out.hrd (List.Sublist.cons _ (List.sublist_append_left _ _))
    have hq := fun (w : World) (g14 g11 : Nat) (o14 o11 : Obj) (hO : Own W w ((g14, o14) :: (L2 ++ ((g11, o11) :: (L1 ++ []))))) => same10_c hO m1 m1 u1 u1 (.slice A2 k1 c2) (.slice A1 k1 c1) hs1 hs1 (hr2.out _ _ _ _) (hr3.out _ _ _ _) body body (by rw [HK1.out]; have := HZ1.out.2.2.2.2; omega)
    rw [show (decide (m1 = m1) && (decide (u1 = u1) && (decide (hs1 = hs1) && decide (body = body)))) = true by simp] at hq
    have HQ := Lib.hid hq
    clear hq
    go_upto_region 6 with (first | (refine wl_alloc rfl _ rfl HO8.out _ (alloc_ask _) ?_; intro g14 w9 hO; have HO9 := Lib.hid hO; clear hO HO8) | (refine wl_store rfl _ _ _ rfl HO9.out 0 g14 0 _ (av m1 u1 (.slice A2 k1 c2) body) _ rfl (by rfl) (by rfl) ask_size (one_av rfl) (by simp [av]) ?_; intro w10 hO; have HO10 := Lib.hid (hO.cast (L' := (g14, .cells (av m1 u1 (.slice A2 k1 c2) body).toArray 24) :: (L2 ++ ((g11, .cells (av m1 u1 (.slice A1 k1 c1) body).toArray 24) :: (L1 ++ [])))) rfl); clear hO HO9))
    have hgt : (body.size : Int) < x.size := by have := HE.out; omega
    have hsub : IntKind.i64.wrap ((x.size : Int) - body.size) = (k : Int) := by have := HE.out; have h2 := HKS.out; rw [show (x.size : Int) - body.size = k by omega]; exact IntWalk.i64_in _ (by omega)
    have hkx : (k : Int) ≤ x.size := by have := HE.out; omega
    have hkn : k ≤ x.size := by have := HE.out; omega
    have heq : ((x.extract k x.size).toList == body.toList) = true := by rw [HE.out.2.2, beq_ba]; exact decide_eq_true rfl
    --REGION6
    refine wp_region_tree3 (fun w' => Own W w' ((g14, .cells (av m1 u1 (.slice A2 k1 c2) body).toArray 24) :: (L2 ++ ((g11, .cells (av m1 u1 (.slice A1 k1 c1) body).toArray 24) :: (L1 ++ []))))) 29 (.q 0 (.q 1 (.q 2 (.q 3 (.q 4 (.one 5 (.one 6 (.q 7 (.q 8 (.q 9 (.q 10 (.q 11 (.q 12 (.q 13 (.q 14 (.q 15 (.q 16 (.q 17 (.q 18 (.q 19 (.q 20 (.q 21 (.q 22 (.q 23 (.q 24 (.q 25 (.q 26 (.one 27 (.q 28 .done))))))))))))))))))))))))))))) (by kernel_rfl) (by decide +kernel) (fun _ _ d _ _ h => by cases d <;> exact h) (HO10.out.drew.sub (List.Sublist.refl _)) ?_
    simp only [List.drop_succ_cons, List.drop_zero]
    have HT := Lib.hid HO10.out.drew; clear HO10
    refine t3_q ?_ rfl ?_ ?_; rotate_left 1; (focus (rintro w' hO; simp only [pick_zero, pick_succ]; go_simp; first | done | with_reducible rfl | (trace_state; fail))); simp only [pick_zero, pick_succ]; simp only [Act.put, List.setIfInBounds_toArray, List.set_cons_zero, List.set_cons_succ]
    refine t3_q ?_ rfl ?_ ?_; rotate_left 1; (focus (rintro w' hO; simp only [pick_zero, pick_succ]; go_simp; first | done | with_reducible rfl | (trace_state; fail))); simp only [pick_zero, pick_succ]; simp only [Act.put, List.setIfInBounds_toArray, List.set_cons_zero, List.set_cons_succ]
    refine t3_q ?_ rfl ?_ ?_; rotate_left 1; (focus (rintro w' hO; simp only [pick_zero, pick_succ]; go_simp; first | done | with_reducible rfl | (trace_state; fail))); simp only [pick_zero, pick_succ]; simp only [Act.put, List.setIfInBounds_toArray, List.set_cons_zero, List.set_cons_succ]
    refine t3_loadG (by rfl) _ _ rfl g14 0 (av m1 u1 (.slice A2 k1 c2) body) (av m1 u1 (.slice A2 k1 c2) body) 24 (by rfl) _ Tryz.underlying24 rfl ask_size (by rfl) (fun w' hO => hO.heap (.head _)) ?_; simp only [pick_zero, pick_succ]; simp only [Act.put, List.setIfInBounds_toArray, List.set_cons_zero, List.set_cons_succ]
    refine t3_loadG (by rfl) _ _ rfl g11 0 (av m1 u1 (.slice A1 k1 c1) body) (av m1 u1 (.slice A1 k1 c1) body) 24 (by rfl) _ Tryz.underlying24 rfl ask_size (by rfl) (fun w' hO => hO.heap (.tail _ (List.mem_append_right _ (.head _)))) ?_; simp only [pick_zero, pick_succ]; simp only [Act.put, List.setIfInBounds_toArray, List.set_cons_zero, List.set_cons_succ]
    refine t3_one ?_
    simp only [pick_zero, pick_succ]
    refine wl_g (by rfl) ?_
    refine wl_call rfl _ _ _ (by go_simp) (ref10_c HT.out m1 u1 A1 k1 c1 body) ?_
    rintro e wx5 ⟨rfl, hO⟩; have HT5 := Lib.hid hO; clear hO HT
    refine ⟨_, rfl, ActPost.mk (fun w' => Own W w' ((g14, .cells (av m1 u1 (.slice A2 k1 c2) body).toArray 24) :: (L2 ++ ((g11, .cells (av m1 u1 (.slice A1 k1 c1) body).toArray 24) :: (L1 ++ []))))) (fun w' h => h) (HT5.out.sub (List.Sublist.refl _)) ?_⟩; simp only [Act.put, List.setIfInBounds_toArray, List.set_cons_zero, List.set_cons_succ]
    refine t3_one ?_
    simp only [pick_zero, pick_succ]
    refine wl_g (by rfl) ?_
    refine wl_call rfl _ _ _ (by go_simp) (HQ.out _ _ _ _ _ HT5.out) ?_
    rintro e wx6 ⟨rfl, hO⟩; have HT56 := Lib.hid hO; clear hO HT5
    refine ⟨_, rfl, ActPost.mk (fun w' => Own W w' ((g14, .cells (av m1 u1 (.slice A2 k1 c2) body).toArray 24) :: (L2 ++ ((g11, .cells (av m1 u1 (.slice A1 k1 c1) body).toArray 24) :: (L1 ++ []))))) (fun w' h => h) (HT56.out.sub (List.Sublist.refl _)) ?_⟩; simp only [Act.put, List.setIfInBounds_toArray, List.set_cons_zero, List.set_cons_succ]
    refine t3_q ?_ rfl ?_ ?_; rotate_left 1; (focus (rintro w' hO; simp only [pick_zero, pick_succ]; go_simp; first | done | with_reducible rfl | (trace_state; fail))); simp only [pick_zero, pick_succ]; simp only [Act.put, List.setIfInBounds_toArray, List.set_cons_zero, List.set_cons_succ]
    refine t3_q ?_ rfl ?_ ?_; rotate_left 1; (focus (rintro w' hO; simp only [pick_zero, pick_succ]; go_simp; first | done | with_reducible rfl | (trace_state; fail))); simp only [pick_zero, pick_succ]; simp only [Act.put, List.setIfInBounds_toArray, List.set_cons_zero, List.set_cons_succ]
    refine t3_g ?_ (by rfl) ?_ ?_; rotate_left 1; (focus (rintro w' hO; simp only [pick_zero, pick_succ]; go_simp; first | done | with_reducible rfl | (trace_state; fail))); simp only [pick_zero, pick_succ]; simp only [Act.put, List.setIfInBounds_toArray, List.set_cons_zero, List.set_cons_succ]
    refine t3_g ?_ (by rfl) ?_ ?_; rotate_left 1; (focus (rintro w' hO; simp only [pick_zero, pick_succ]; go_simp; first | done | with_reducible rfl | (trace_state; fail))); simp only [pick_zero, pick_succ]; simp only [Act.put, List.setIfInBounds_toArray, List.set_cons_zero, List.set_cons_succ]
    refine t3_g ?_ (by rfl) ?_ ?_; rotate_left 1; (focus (rintro w' hO; simp only [pick_zero, pick_succ]; go_simp; first | done | with_reducible rfl | (trace_state; fail))); simp only [pick_zero, pick_succ]; simp only [Act.put, List.setIfInBounds_toArray, List.set_cons_zero, List.set_cons_succ]
    refine t3_g ?_ (by rfl) ?_ ?_; rotate_left 1; (focus (rintro w' hO; simp only [pick_zero, pick_succ]; go_simp; first | done | with_reducible rfl | (trace_state; fail))); simp only [pick_zero, pick_succ]; simp only [Act.put, List.setIfInBounds_toArray, List.set_cons_zero, List.set_cons_succ]
    refine t3_g ?_ (by rfl) ?_ ?_; rotate_left 1; (focus (rintro w' hO; simp only [pick_zero, pick_succ]; go_simp; first | done | with_reducible rfl | (trace_state; fail))); simp only [pick_zero, pick_succ]; simp only [Act.put, List.setIfInBounds_toArray, List.set_cons_zero, List.set_cons_succ]
    refine t3_q ?_ rfl ?_ ?_; rotate_left 1; (focus (rintro w' hO; simp only [pick_zero, pick_succ]; go_simp; first | done | with_reducible rfl | (trace_state; fail))); simp only [pick_zero, pick_succ]; simp only [Act.put, List.setIfInBounds_toArray, List.set_cons_zero, List.set_cons_succ]
    refine t3_q ?_ rfl ?_ ?_; rotate_left 1; (focus (rintro w' hO; simp only [pick_zero, pick_succ]; go_simp; first | done | with_reducible rfl | (trace_state; fail))); simp only [pick_zero, pick_succ]; simp only [Act.put, List.setIfInBounds_toArray, List.set_cons_zero, List.set_cons_succ]
    refine t3_g ?_ (by rfl) ?_ ?_; rotate_left 1; (focus (rintro w' hO; simp only [pick_zero, pick_succ]; go_simp; first | done | with_reducible rfl | (trace_state; fail))); simp only [pick_zero, pick_succ]; simp only [Act.put, List.setIfInBounds_toArray, List.set_cons_zero, List.set_cons_succ]
    refine t3_g ?_ (by rfl) ?_ ?_; rotate_left 1; (focus (rintro w' hO; simp only [pick_zero, pick_succ]; go_simp; first | done | with_reducible rfl | (trace_state; fail))); simp only [pick_zero, pick_succ]; simp only [Act.put, List.setIfInBounds_toArray, List.set_cons_zero, List.set_cons_succ]
    refine t3_g ?_ (by rfl) ?_ ?_; rotate_left 1; (focus (rintro w' hO; simp only [pick_zero, pick_succ]; go_simp; first | done | with_reducible rfl | (trace_state; fail))); simp only [pick_zero, pick_succ]; simp only [Act.put, List.setIfInBounds_toArray, List.set_cons_zero, List.set_cons_succ]
    refine t3_g ?_ (by rfl) ?_ ?_; rotate_left 1; (focus (rintro w' hO; simp only [pick_zero, pick_succ]; go_simp; first | done | with_reducible rfl | (trace_state; fail))); simp only [pick_zero, pick_succ]; simp only [Act.put, List.setIfInBounds_toArray, List.set_cons_zero, List.set_cons_succ]
    refine t3_g ?_ (by rfl) ?_ ?_; rotate_left 1; (focus (rintro w' hO; simp only [pick_zero, pick_succ]; go_simp; first | done | with_reducible rfl | (trace_state; fail))); simp only [pick_zero, pick_succ]; simp only [Act.put, List.setIfInBounds_toArray, List.set_cons_zero, List.set_cons_succ]
    refine t3_g ?_ (by rfl) ?_ ?_; rotate_left 1; (focus (rintro w' hO; simp only [pick_zero, pick_succ]; go_simp; first | done | with_reducible rfl | (trace_state; fail))); simp only [pick_zero, pick_succ]; simp only [Act.put, List.setIfInBounds_toArray, List.set_cons_zero, List.set_cons_succ]
    refine t3_g ?_ (by rfl) ?_ ?_; rotate_left 1; (focus (rintro w' hO; simp only [pick_zero, pick_succ]; go_simp; first | done | with_reducible rfl | (trace_state; fail))); simp only [pick_zero, pick_succ]; simp only [Act.put, List.setIfInBounds_toArray, List.set_cons_zero, List.set_cons_succ]
    refine t3_g ?_ (by rfl) ?_ ?_; rotate_left 1; (focus (rintro w' hO; simp only [pick_zero, pick_succ]; go_simp; first | done | with_reducible rfl | (trace_state; fail))); simp only [pick_zero, pick_succ]; simp only [Act.put, List.setIfInBounds_toArray, List.set_cons_zero, List.set_cons_succ]
    refine t3_g ?_ (by rfl) ?_ ?_; rotate_left 1; (focus (rintro w' hO; simp only [pick_zero, pick_succ]; go_simp; first | done | with_reducible rfl | (trace_state; fail))); simp only [pick_zero, pick_succ]; simp only [Act.put, List.setIfInBounds_toArray, List.set_cons_zero, List.set_cons_succ]
    refine t3_q ?_ rfl ?_ ?_; rotate_left 1; (focus (rintro w' hO; simp only [pick_zero, pick_succ]; go_simp; first | done | with_reducible rfl | (trace_state; fail))); simp only [pick_zero, pick_succ]; simp only [Act.put, List.setIfInBounds_toArray, List.set_cons_zero, List.set_cons_succ]
    refine t3_q ?_ rfl ?_ ?_; rotate_left 1; (focus (rintro w' hO; simp only [pick_zero, pick_succ]; go_simp; first | done | with_reducible rfl | (trace_state; fail))); simp only [pick_zero, pick_succ]; simp only [Act.put, List.setIfInBounds_toArray, List.set_cons_zero, List.set_cons_succ]
    refine t3_one ?_
    simp only [pick_zero, pick_succ]
    refine wl_g (by rfl) ?_
    refine wl_call rfl _ _ _ (by go_simp) (wakes10_c HVV.out HT56.out) ?_
    rintro e wx27 ⟨rfl, hO⟩; have HT5627 := Lib.hid hO; clear hO HT56
    refine ⟨_, rfl, ActPost.mk (fun w' => Own W w' ((g14, .cells (av m1 u1 (.slice A2 k1 c2) body).toArray 24) :: (L2 ++ ((g11, .cells (av m1 u1 (.slice A1 k1 c1) body).toArray 24) :: (L1 ++ []))))) (fun w' h => h) (HT5627.out.sub (List.Sublist.refl _)) ?_⟩; simp only [Act.put, List.setIfInBounds_toArray, List.set_cons_zero, List.set_cons_succ]
    refine t3_q ?_ rfl ?_ ?_; rotate_left 1; (focus (rintro w' hO; simp only [pick_zero, pick_succ]; go_simp; first | done | with_reducible rfl | (trace_state; fail))); simp only [pick_zero, pick_succ]; simp only [Act.put, List.setIfInBounds_toArray, List.set_cons_zero, List.set_cons_succ]
    refine t3_done ?_
    go_wp2
    go_ret
    exact HT5627.out.yes rfl
    --ENDREGION6
set_option maxRecDepth 100000 in
theorem askBack_contract (H : Type) (enc : TypeId × Value → H) (W : World) (base : Nat) (args : Array Value) (ds gs : List (DataW H)) (before : List MemPlace)
    (hval : ∀ (j : Nat) t v, Tryz.f4.params[j]? = some t → args[j]? = some v → Value.okWide Tryz.prog W .any base t v)
    (hW : DataW.Whole enc Tryz.prog Tryz.f4.params.toList Rows.askBackSpec.vars false W args.toList ds gs before) (hk : Rows.uptoSmall H (ds ++ gs) = true) (hV0 : VarsOk W) :
    Calls Tryz.prog 4 args W fun e W' => ∃ v, e = .returned v ∧ Rows.askBackSpec.post enc Tryz.prog Tryz.f4 false true false false W args v W' := by
  have hW' := hW
  obtain ⟨p, q, hA0, hV, rfl, hfz, hnd⟩ := hW
  have hA : DataW.TrodAll enc Tryz.prog W 0 (fun _ => true) true Tryz.f4.params.toList args.toList ds p := hA0
  rw [Tryz.params4] at hA hval
  obtain ⟨v0, vs0, d0, ds0, p0, q0, hargs, rfl, rfl, h0, r0⟩ := trodAll_cons hA
  obtain ⟨v1, vs1, d1, ds1, p1, q1, rfl, rfl, rfl, h1, r1⟩ := trodAll_cons r0
  obtain ⟨v2, vs2, d2, ds2, p2, q2, rfl, rfl, rfl, h2, r2⟩ := trodAll_cons r1
  obtain ⟨v3, vs3, d3, ds3, p3, q3, rfl, rfl, rfl, h3, r3⟩ := trodAll_cons r2
  obtain ⟨v4, vs4, d4, ds4, p4, q4, rfl, rfl, rfl, h4, r4⟩ := trodAll_cons r3
  obtain ⟨rfl, rfl, rfl⟩ := trodAll_nil r4
  obtain rfl : args = #[v0, v1, v2, v3, v4] := by cases args; simp_all
  obtain ⟨rfl, rfl⟩ := trodVars_none hV
  obtain ⟨a0, rfl, rfl, rfl, w0⟩ := open_int Tryz.underlying3 (hval 0 3 v0 rfl rfl) h0
  obtain ⟨a1, rfl, rfl, rfl, w1⟩ := open_int Tryz.underlying3 (hval 1 3 v1 rfl rfl) h1
  obtain ⟨a2, rfl, rfl, rfl, w2⟩ := open_int Tryz.underlying3 (hval 2 3 v2 rfl rfl) h2
  obtain ⟨a3, rfl, rfl, rfl, w3⟩ := open_string Tryz.underlying9 (hval 3 9 v3 rfl rfl) h3
  obtain ⟨a4, rfl, rfl, rfl, w4⟩ := open_string Tryz.underlying9 (hval 4 9 v4 rfl rfl) h4
  have z3 : a3.size ≤ 1048576 := by
    have hb : _ ≤ 1048576 := of_decide_eq_true hk
    simp only [List.append_nil, List.cons_append, List.nil_append, Rows.uptoBulkAll, Rows.uptoBulk] at hb
    have e : a3.data.toList.length = a3.size := by simp
    omega
  have z4 : a4.size ≤ 1048576 := by
    have hb : _ ≤ 1048576 := of_decide_eq_true hk
    simp only [List.append_nil, List.cons_append, List.nil_append, Rows.uptoBulkAll, Rows.uptoBulk] at hb
    have e : a4.data.toList.length = a4.size := by simp
    omega
  clear hA0
  refine (askBack_walk hV0 a0 w0 a1 w1 a2 w2 a3 z3 a4 z4).mono fun e W' ⟨he, bel⟩ => ?_
  subst he
  exact ⟨_, rfl, _, _, _, [], _, [], hW', trodAll_mk1 (shut_bool Tryz.underlying4 _), (trodAll_cons_mk (shut_int Tryz.underlying3 w0) (trodAll_cons_mk (shut_int Tryz.underlying3 w1) (trodAll_cons_mk (shut_int Tryz.underlying3 w2) (trodAll_cons_mk (shut_string Tryz.underlying9 w3) (trodAll_cons_mk (shut_string Tryz.underlying9 w4) trodAll_mk0))))), rfl, bel.frame _, fun h => by cases h⟩

theorem askBack_met (os : Os) : laidMet Tryz.prog Rows.askBackUptoRow.laid ((laidWorld os).forCall (fun _ _ => 0) ⟨#[], #[.int .i64 0, .int .i64 0, .int .i64 0, .string .empty, .string .empty], []⟩).memory :=
  laidMet_of_run' 8 (by kernel_rfl) (by kernel_rfl)
theorem askBack_reads (os : Os) {H : Type} (enc : TypeId × Value → H) : ∃ places, DataW.whole enc Tryz.prog ((laidWorld os).forCall (fun _ _ => 0) ⟨#[], #[.int .i64 0, .int .i64 0, .int .i64 0, .string .empty, .string .empty], []⟩).memory Tryz.f4.params.toList Rows.askBackSpec.vars false (#[.int .i64 0, .int .i64 0, .int .i64 0, .string .empty, .string .empty] : Array Value).toList 8 = some ([.lit (.int .i64 0), .lit (.int .i64 0), .lit (.int .i64 0), .lit (.string []), .lit (.string [])], [], places) :=
  ⟨[], by kernel_rfl⟩
set_option maxRecDepth 100000 in
theorem askBack_lifted (os : Os) (started : os.Started) (H : Type) (enc : TypeId × Value → H) (F : Stop.Interp) :
    ReturnsInHanded {} Tryz.checked os 4 .any ((Rows.OpenSpec.upto Rows.askBackSpec).preRow enc Tryz.prog Tryz.f4 Rows.askBackUptoRow.domain false Rows.askBackUptoRow.laid) (((Rows.OpenSpec.upto Rows.askBackSpec).at F).post enc Tryz.prog Tryz.f4 false true false false) := by
  obtain ⟨places, hx⟩ := askBack_reads os enc
  refine returnsInHanded_of_row (C := Tryz.checked) (s := Rows.OpenSpec.upto Rows.askBackSpec) own_none started (by kernel_rfl) Tryz.func4
    (witness_row_at (enc := enc) (C := Tryz.checked) false (laidWorld os) #[.int .i64 0, .int .i64 0, .int .i64 0, .string .empty, .string .empty] rfl (by kernel_rfl) (by kernel_rfl) (by kernel_rfl)
      (OpenSpec.preRow_of_cond 8 hx (by kernel_rfl) (fun k hk => by cases hk; kernel_rfl) (by kernel_rfl) (askBack_met os))) ?_
  intro W base args ds gs before hval hW _ hcond _ hL hsh _
  exact askBack_contract H enc W base args ds gs before hval hW (hcond _ rfl) (vars_of hL hsh)
theorem askBack_said : Rows.AskBackUptoSaid :=
  OpenClaim.holds_of_cond 4 Tryz.f4 rfl rfl rfl rfl rfl rfl rfl ⟨rfl, rfl, rfl, rfl, rfl⟩ rfl rfl rfl rfl rfl (by kernel_rfl) Tryz.func4 (by kernel_rfl)
    (of_decide_eq_true (by kernel_rfl)) (by unfold Func.isWrapper; first | (rw [if_pos (by decide +kernel)]; kernel_rfl) | (rw [if_neg (by decide +kernel)]; exact ⟨rfl, rfl⟩))
    (fun os started H enc _ F => by rw [OpenClaim.pre_eq_preRow]; exact askBack_lifted os started H enc F)
theorem askBack_plain (f : FuncId) (fn : Func) (hf : Tryz.pinned.checked.prog.funcNamed "postilion/postilionlaw10.AskBack" = some f) (hfn : Tryz.pinned.checked.prog.funcs[f]? = some fn) :
    false = Tryz.pinned.checked.prog.looks [] ∧ ∀ (j : Nat) t, fn.params[j]? = some t → Tryz.pinned.checked.prog.wantsStandIn t = false := by
  obtain rfl : f = 4 := Option.some.inj ((show Tryz.prog.funcNamed "postilion/postilionlaw10.AskBack" = some 4 by kernel_rfl).symm.trans hf) |>.symm
  obtain rfl : fn = Tryz.f4 := (Option.some.inj (Tryz.func4.symm.trans hfn)).symm
  refine ⟨by kernel_rfl, fun j t ht => ?_⟩
  rw [Tryz.params4] at ht
  have hall : ∀ t ∈ ([3, 3, 3, 9, 9] : List TypeId), Tryz.prog.wantsStandIn t = false := List.forall_mem_cons.2 ⟨by kernel_rfl, List.forall_mem_cons.2 ⟨by kernel_rfl, List.forall_mem_cons.2 ⟨by kernel_rfl, List.forall_mem_cons.2 ⟨by kernel_rfl, List.forall_mem_cons.2 ⟨by kernel_rfl, fun _ h => by cases h⟩⟩⟩⟩⟩
  exact hall t (by simpa using Array.mem_of_getElem? ht)
/-- The statement: the card. -/
theorem askBack_proved : Rows.AskBackUptoCardSaid :=
  Claim7.holds_tied_plain_at .later [] _ _ _ _ askBack_said (fun _ h => by cases h) (by kernel_rfl) (fun _ h => by cases h) askBackUpto_row_tie rfl ⟨rfl, rfl⟩ (by kernel_rfl) rfl askBack_plain (by kernel_rfl)
end Go.Proofs.YtlcolabblpikjaaGreatDoor
