/-
  URLTells: for any two texts of at most 1,048,576 letters in all, any numbers: any text as a URL, or that it is none, its print, its origin, whether it is secure, of one origin with another, and what it is behind another one, as the document's own program has it.
  Conditions: the statement's own bound (the arguments hold together at most 1,048,576 values and letters).
-/
import Derived.Test.YtakihnmajgmnpaaDoorL07b0
import Derived.Test.YtakihnmajgmnpaaDoorVars
namespace Go.Proofs.YtakihnmajgmnpaaDoor
set_option linter.unusedVariables false
set_option linter.unusedSimpArgs false
set_option maxRecDepth 20000
open Go.ChangeShapes Go.WideShapes Go.ChangeAt Go.RowKit
open Go.ChangeMaps (open_string shut_string)

def TextsState (W : World) (a b : Value) (w : World) : Prop := ∃ s t : ByteArray, a = .string s ∧ b = .string t ∧ s.size ≤ 1100000 ∧ t.size ≤ 1100000 ∧ Own W w []
set_option maxRecDepth 100000 in
set_option maxHeartbeats 16000000 in
theorem uRLTells_walk {W : World} (hV : VarsOk W) (s0 : ByteArray) (hs : s0.size ≤ 1048576) (t0 : ByteArray) (ht : t0.size ≤ 1048576) (n : Int) (wn : (Lit.int .i64 n).wf = true) (m : Int) (wm : (Lit.int .i64 m).wf = true) (raw : Bool) :
    Calls Tryd.prog 5 #[.string s0, .string t0, .int .i64 n, .int .i64 m, .bool raw] W (Yes W) := by
  have HO := Lib.hid (Own.start W)
  have HVV := Lib.hid hV
  clear hV
  have HWN := Lib.hid wn; have HWM := Lib.hid wm; have HS := Lib.hid hs; have HT := Lib.hid ht
  clear wn wm hs ht
  go_enter Tryd.func5, Tryd.ntmps5
  go_upto_if 21 with fail
  go_cut [0, 1] (fun a b wx => TextsState W a b wx)
  case first =>
    cases raw with
    | true =>
      go_wp2
      go_meet
      exact ⟨s0, t0, rfl, rfl, by have := HS.out; omega, by have := HT.out; omega, HO.out⟩
    | false =>
      go_wp2_with fail
      with_reducible refine (podd_c HO.out n HWN.out s0 (by have := HS.out; omega)).mono ?_
      rintro e w1 ⟨rfl, hO1⟩
      have HO1 := Lib.hid hO1; clear hO1 HO
      have hz1 := podd_size n s0
      have HZ1 := Lib.hid hz1
      clear hz1
      generalize podd n s0 = s1 at *
      go_wp2_with fail
      with_reducible refine (podd_c HO1.out m HWM.out t0 (by have := HT.out; omega)).mono ?_
      rintro e w2 ⟨rfl, hO2⟩
      have HO2 := Lib.hid hO2; clear hO2 HO1
      have hz2 := podd_size m t0
      have HZ2 := Lib.hid hz2
      clear hz2
      generalize podd m t0 = t1 at *
      go_wp2
      go_meet
      exact ⟨s1, t1, rfl, rfl, by have := HS.out; have := HZ1.out; omega, by have := HT.out; have := HZ2.out; omega, HO2.out⟩
  case rest =>
    obtain ⟨s, t, rfl, rfl, hs, ht, hO⟩ := hcut
    have HO3 := Lib.hid hO
    clear hO HO HS HT HWN HWM
    obtain ⟨⟨b1, b2, b3, b4, b5⟩, hB, hBF⟩ := purl_parse n
    have HB := Lib.hid hB; have HBF := Lib.hid hBF
    clear hB hBF
    have hP := purl_size n
    have hfin : ∀ u, parseI (sb s) = some u → u.Fine := fun u h => parseI_fine (byt_sb s) h
    have HFIN := Lib.hid hfin
    have p1 := uparse_c HVV.out HO3.out s (by omega)
    have p2 : ∀ (w' : World) (R' : Blks), Own W w' R' → _ := fun w' R' h => rparse_c h s (by omega)
    obtain ⟨o1, ho1⟩ : ∃ o1, parseI (sb s) = o1 := ⟨_, rfl⟩
    rw [ho1] at p1 p2 HFIN
    have P1 := Lib.hid p1; have P2 := Lib.hid p2
    have p3 : ∀ (w' : World) (R' : Blks), Own W w' R' → _ := fun w' R' h => uparse_c HVV.out h (purl n) (by omega)
    rw [HB.out] at p3
    have q1 : ∀ (w' : World) (R' : Blks), Own W w' R' → _ := fun w' R' h => ujoin_c HVV.out h ⟨b1, b2, b3, b4, b5⟩ HBF.out.half t (by omega)
    have q2 : ∀ (w' : World) (R' : Blks), Own W w' R' → _ := fun w' R' h => rjoin_c h ⟨b1, b2, b3, b4, b5⟩ HBF.out t (by omega)
    obtain ⟨o2, ho2⟩ : ∃ o2, joinI ⟨b1, b2, b3, b4, b5⟩ (sb t) = o2 := ⟨_, rfl⟩
    rw [ho2] at q1 q2
    simp only [UL.val] at q1 q2
    have P3 := Lib.hid p3; have Q1 := Lib.hid q1; have Q2 := Lib.hid q2
    clear p1 p2 p3 q1 q2 ho1 ho2 hs ht hP HB hfin
    cases o1 with
    | none =>
      cases o2 with
      | none =>
        go_wp2_with fail
        with_reducible refine P1.out.mono ?_
        rintro e w4 ⟨rfl, hO4⟩
        have HO4 := Lib.hid hO4; clear hO4 HO3 P1
        simp only [Option.getD_none, Option.isSome_none, Option.getD_some, Option.isSome_some, UL.val, UL.zero]
        go_wp2_with (first | (refine wl_alloc rfl _ rfl HO4.out _ (alloc_url _) ?_; intro g11 w5 hO5; have HO5 := Lib.hid hO5; clear hO5 HO4) | (refine wl_store rfl _ _ _ rfl HO5.out 0 g11 0 _ [Value.string (strOfNums []), Value.string (strOfNums []), Value.int .i64 0, Value.string (strOfNums []), Value.string (strOfNums [])] _ rfl (by rfl) (by rfl) url_size (one_url UL.zero) (by simp [UL.val, UL.zero]) ?_; intro w6 hO6; have HO6 := Lib.hid (hO6.cast (L' := [(g11, .cells [Value.string (strOfNums []), Value.string (strOfNums []), Value.int .i64 0, Value.string (strOfNums []), Value.string (strOfNums [])].toArray 25)]) rfl); clear hO6 HO5))
        with_reducible refine (P2.out _ _ HO6.out).mono ?_
        rintro e w7 ⟨rfl, hO7⟩
        have HO7 := Lib.hid hO7; clear hO7 HO6 P2
        simp only [Option.getD_none, Option.isSome_none, Option.getD_some, Option.isSome_some, UL.val, UL.zero]
        go_wp2_with (first | (refine wl_alloc rfl _ rfl HO7.out _ (alloc_rurl _) ?_; intro g13 w8 hO8; have HO8 := Lib.hid hO8; clear hO8 HO7) | (refine wl_store rfl _ _ _ rfl HO8.out 0 g13 0 _ [Value.string (strOfNums []), Value.string (strOfNums []), Value.int .i64 0, Value.string (strOfNums []), Value.string (strOfNums [])] _ rfl (by rfl) (by rfl) rurl_size (one_url UL.zero) (by simp [UL.val, UL.zero]) ?_; intro w9 hO9; have HO9 := Lib.hid (hO9.cast (L' := [(g13, .cells [Value.string (strOfNums []), Value.string (strOfNums []), Value.int .i64 0, Value.string (strOfNums []), Value.string (strOfNums [])].toArray 42), (g11, .cells [Value.string (strOfNums []), Value.string (strOfNums []), Value.int .i64 0, Value.string (strOfNums []), Value.string (strOfNums [])].toArray 25)]) rfl); clear hO9 HO8) | (refine wl_g (by rfl) ?_; refine wl_load rfl _ _ rfl g11 0 [Value.string (strOfNums []), Value.string (strOfNums []), Value.int .i64 0, Value.string (strOfNums []), Value.string (strOfNums [])] [Value.string (strOfNums []), Value.string (strOfNums []), Value.int .i64 0, Value.string (strOfNums []), Value.string (strOfNums [])] _ (HO9.out.heap (.tail _ (.head _))) (by rfl) _ Tryd.underlying25 rfl url_size (by rfl) ?_) | (refine wl_g (by rfl) ?_; refine wl_load rfl _ _ rfl g13 0 [Value.string (strOfNums []), Value.string (strOfNums []), Value.int .i64 0, Value.string (strOfNums []), Value.string (strOfNums [])] [Value.string (strOfNums []), Value.string (strOfNums []), Value.int .i64 0, Value.string (strOfNums []), Value.string (strOfNums [])] _ (HO9.out.heap (.head _)) (by rfl) _ Tryd.underlying42 rfl rurl_size (by rfl) ?_))
        with_reducible refine (purl_c HO9.out n).mono ?_
        rintro e w10 ⟨rfl, hO10⟩
        have HO10 := Lib.hid hO10; clear hO10 HO9
        go_wp2_with fail
        with_reducible refine (P3.out _ _ HO10.out).mono ?_
        rintro e w11 ⟨rfl, hO11⟩
        have HO11 := Lib.hid hO11; clear hO11 HO10 P3
        simp only [Option.getD_none, Option.isSome_none, Option.getD_some, Option.isSome_some, UL.val, UL.zero]
        go_wp2_with (first | (refine wl_alloc rfl _ rfl HO11.out _ (alloc_url _) ?_; intro g15 w12 hO12; have HO12 := Lib.hid hO12; clear hO12 HO11) | (refine wl_store rfl _ _ _ rfl HO12.out 0 g15 0 _ [Value.string (strOfNums b1), Value.string (strOfNums b2), Value.int .i64 b3, Value.string (strOfNums b4), Value.string (strOfNums b5)] _ rfl (by rfl) (by rfl) url_size (one_url ⟨b1, b2, b3, b4, b5⟩) (by simp [UL.val, UL.zero]) ?_; intro w13 hO13; have HO13 := Lib.hid (hO13.cast (L' := [(g15, .cells [Value.string (strOfNums b1), Value.string (strOfNums b2), Value.int .i64 b3, Value.string (strOfNums b4), Value.string (strOfNums b5)].toArray 25), (g13, .cells [Value.string (strOfNums []), Value.string (strOfNums []), Value.int .i64 0, Value.string (strOfNums []), Value.string (strOfNums [])].toArray 42), (g11, .cells [Value.string (strOfNums []), Value.string (strOfNums []), Value.int .i64 0, Value.string (strOfNums []), Value.string (strOfNums [])].toArray 25)]) rfl); clear hO13 HO12) | (refine wl_load rfl _ _ rfl g15 0 [Value.string (strOfNums b1), Value.string (strOfNums b2), Value.int .i64 b3, Value.string (strOfNums b4), Value.string (strOfNums b5)] [Value.string (strOfNums b1), Value.string (strOfNums b2), Value.int .i64 b3, Value.string (strOfNums b4), Value.string (strOfNums b5)] _ (HO13.out.heap (.head _)) (by rfl) _ Tryd.underlying25 rfl url_size (by rfl) ?_))
        with_reducible refine (Q1.out _ _ HO13.out).mono ?_
        rintro e w14 ⟨rfl, hO14⟩
        have HO14 := Lib.hid hO14; clear hO14 HO13 Q1
        simp only [Option.getD_none, Option.isSome_none, Option.getD_some, Option.isSome_some, UL.val, UL.zero]
        go_wp2_with (first | (refine wl_alloc rfl _ rfl HO14.out _ (alloc_url _) ?_; intro g17 w15 hO15; have HO15 := Lib.hid hO15; clear hO15 HO14) | (refine wl_store rfl _ _ _ rfl HO15.out 0 g17 0 _ [Value.string (strOfNums []), Value.string (strOfNums []), Value.int .i64 0, Value.string (strOfNums []), Value.string (strOfNums [])] _ rfl (by rfl) (by rfl) url_size (one_url UL.zero) (by simp [UL.val, UL.zero]) ?_; intro w16 hO16; have HO16 := Lib.hid (hO16.cast (L' := [(g17, .cells [Value.string (strOfNums []), Value.string (strOfNums []), Value.int .i64 0, Value.string (strOfNums []), Value.string (strOfNums [])].toArray 25), (g15, .cells [Value.string (strOfNums b1), Value.string (strOfNums b2), Value.int .i64 b3, Value.string (strOfNums b4), Value.string (strOfNums b5)].toArray 25), (g13, .cells [Value.string (strOfNums []), Value.string (strOfNums []), Value.int .i64 0, Value.string (strOfNums []), Value.string (strOfNums [])].toArray 42), (g11, .cells [Value.string (strOfNums []), Value.string (strOfNums []), Value.int .i64 0, Value.string (strOfNums []), Value.string (strOfNums [])].toArray 25)]) rfl); clear hO16 HO15) | (refine wl_load rfl _ _ rfl g15 0 [Value.string (strOfNums b1), Value.string (strOfNums b2), Value.int .i64 b3, Value.string (strOfNums b4), Value.string (strOfNums b5)] [Value.string (strOfNums b1), Value.string (strOfNums b2), Value.int .i64 b3, Value.string (strOfNums b4), Value.string (strOfNums b5)] _ (HO16.out.heap (.tail _ (.head _))) (by rfl) _ Tryd.underlying25 rfl url_size (by rfl) ?_))
        with_reducible refine (Q2.out _ _ HO16.out).mono ?_
        rintro e w17 ⟨rfl, hO17⟩
        have HO17 := Lib.hid hO17; clear hO17 HO16 Q2
        simp only [Option.getD_none, Option.isSome_none, Option.getD_some, Option.isSome_some, UL.val, UL.zero]
        go_wp2_with (first | (refine wl_alloc rfl _ rfl HO17.out _ (alloc_rurl _) ?_; intro g18 w18 hO18; have HO18 := Lib.hid hO18; clear hO18 HO17) | (refine wl_store rfl _ _ _ rfl HO18.out 0 g18 0 _ [Value.string (strOfNums []), Value.string (strOfNums []), Value.int .i64 0, Value.string (strOfNums []), Value.string (strOfNums [])] _ rfl (by rfl) (by rfl) rurl_size (one_url UL.zero) (by simp [UL.val, UL.zero]) ?_; intro w19 hO19; have HO19 := Lib.hid (hO19.cast (L' := [(g18, .cells [Value.string (strOfNums []), Value.string (strOfNums []), Value.int .i64 0, Value.string (strOfNums []), Value.string (strOfNums [])].toArray 42), (g17, .cells [Value.string (strOfNums []), Value.string (strOfNums []), Value.int .i64 0, Value.string (strOfNums []), Value.string (strOfNums [])].toArray 25), (g15, .cells [Value.string (strOfNums b1), Value.string (strOfNums b2), Value.int .i64 b3, Value.string (strOfNums b4), Value.string (strOfNums b5)].toArray 25), (g13, .cells [Value.string (strOfNums []), Value.string (strOfNums []), Value.int .i64 0, Value.string (strOfNums []), Value.string (strOfNums [])].toArray 42), (g11, .cells [Value.string (strOfNums []), Value.string (strOfNums []), Value.int .i64 0, Value.string (strOfNums []), Value.string (strOfNums [])].toArray 25)]) rfl); clear hO19 HO18) | (refine wl_g (by rfl) ?_; refine wl_load rfl _ _ rfl g17 0 [Value.string (strOfNums []), Value.string (strOfNums []), Value.int .i64 0, Value.string (strOfNums []), Value.string (strOfNums [])] [Value.string (strOfNums []), Value.string (strOfNums []), Value.int .i64 0, Value.string (strOfNums []), Value.string (strOfNums [])] _ (HO19.out.heap (.tail _ (.head _))) (by rfl) _ Tryd.underlying25 rfl url_size (by rfl) ?_) | (refine wl_g (by rfl) ?_; refine wl_load rfl _ _ rfl g18 0 [Value.string (strOfNums []), Value.string (strOfNums []), Value.int .i64 0, Value.string (strOfNums []), Value.string (strOfNums [])] [Value.string (strOfNums []), Value.string (strOfNums []), Value.int .i64 0, Value.string (strOfNums []), Value.string (strOfNums [])] _ (HO19.out.heap (.head _)) (by rfl) _ Tryd.underlying42 rfl rurl_size (by rfl) ?_))
        refine wp_region_lin (fun w' => True) 31 [(0, true), (1, true), (2, true), (4, true), (3, false), (5, false), (6, true), (7, true), (8, true), (10, true), (9, false), (11, false), (12, true), (13, true), (14, true), (15, true), (17, true), (16, false), (18, false), (19, true), (20, true), (21, true), (22, true), (23, true), (25, true), (26, true), (24, false), (27, false), (28, true), (29, true), (30, true)] (by kernel_rfl) (by decide +kernel) (fun _ _ d _ _ h => by cases d <;> exact h) trivial ?_
        simp only [List.map_cons, List.map_nil, pick_zero, pick_succ, List.drop_succ_cons, List.drop_zero]
        refine lin_q ?_ rfl ?_ ?_; rotate_left 1; (focus (rintro w' -; go_simp; first | done | with_reducible rfl | (trace_state; fail)))
        simp only [Act.put, List.setIfInBounds_toArray, List.set_cons_zero, List.set_cons_succ]
        refine lin_q ?_ rfl ?_ ?_; rotate_left 1; (focus (rintro w' -; go_simp; first | done | with_reducible rfl | (trace_state; fail)))
        simp only [Act.put, List.setIfInBounds_toArray, List.set_cons_zero, List.set_cons_succ]
        refine lin_no (by rfl) ?_
        simp only [Act.put, List.setIfInBounds_toArray, List.set_cons_zero, List.set_cons_succ]
        refine lin_no (by rfl) ?_
        simp only [Act.put, List.setIfInBounds_toArray, List.set_cons_zero, List.set_cons_succ]
        refine lin_actno (by rfl) trivial ?_
        simp only [Act.put, List.setIfInBounds_toArray, List.set_cons_zero, List.set_cons_succ]
        refine lin_actno (by rfl) trivial ?_
        simp only [Act.put, List.setIfInBounds_toArray, List.set_cons_zero, List.set_cons_succ]
        refine lin_no (by rfl) ?_
        simp only [Act.put, List.setIfInBounds_toArray, List.set_cons_zero, List.set_cons_succ]
        refine lin_no (by rfl) ?_
        simp only [Act.put, List.setIfInBounds_toArray, List.set_cons_zero, List.set_cons_succ]
        refine lin_no (by rfl) ?_
        simp only [Act.put, List.setIfInBounds_toArray, List.set_cons_zero, List.set_cons_succ]
        refine lin_no (by rfl) ?_
        simp only [Act.put, List.setIfInBounds_toArray, List.set_cons_zero, List.set_cons_succ]
        refine lin_actno (by rfl) trivial ?_
        simp only [Act.put, List.setIfInBounds_toArray, List.set_cons_zero, List.set_cons_succ]
        refine lin_actno (by rfl) trivial ?_
        simp only [Act.put, List.setIfInBounds_toArray, List.set_cons_zero, List.set_cons_succ]
        refine lin_no (by rfl) ?_
        simp only [Act.put, List.setIfInBounds_toArray, List.set_cons_zero, List.set_cons_succ]
        refine lin_no (by rfl) ?_
        simp only [Act.put, List.setIfInBounds_toArray, List.set_cons_zero, List.set_cons_succ]
        refine lin_no (by rfl) ?_
        simp only [Act.put, List.setIfInBounds_toArray, List.set_cons_zero, List.set_cons_succ]
        refine lin_no (by rfl) ?_
        simp only [Act.put, List.setIfInBounds_toArray, List.set_cons_zero, List.set_cons_succ]
        refine lin_no (by rfl) ?_
        simp only [Act.put, List.setIfInBounds_toArray, List.set_cons_zero, List.set_cons_succ]
        refine lin_actno (by rfl) trivial ?_
        simp only [Act.put, List.setIfInBounds_toArray, List.set_cons_zero, List.set_cons_succ]
        refine lin_actno (by rfl) trivial ?_
        simp only [Act.put, List.setIfInBounds_toArray, List.set_cons_zero, List.set_cons_succ]
        refine lin_no (by rfl) ?_
        simp only [Act.put, List.setIfInBounds_toArray, List.set_cons_zero, List.set_cons_succ]
        refine lin_no (by rfl) ?_
        simp only [Act.put, List.setIfInBounds_toArray, List.set_cons_zero, List.set_cons_succ]
        refine lin_no (by rfl) ?_
        simp only [Act.put, List.setIfInBounds_toArray, List.set_cons_zero, List.set_cons_succ]
        refine lin_no (by rfl) ?_
        simp only [Act.put, List.setIfInBounds_toArray, List.set_cons_zero, List.set_cons_succ]
        refine lin_no (by rfl) ?_
        simp only [Act.put, List.setIfInBounds_toArray, List.set_cons_zero, List.set_cons_succ]
        refine lin_no (by rfl) ?_
        simp only [Act.put, List.setIfInBounds_toArray, List.set_cons_zero, List.set_cons_succ]
        refine lin_no (by rfl) ?_
        simp only [Act.put, List.setIfInBounds_toArray, List.set_cons_zero, List.set_cons_succ]
        refine lin_actno (by rfl) trivial ?_
        simp only [Act.put, List.setIfInBounds_toArray, List.set_cons_zero, List.set_cons_succ]
        refine lin_actno (by rfl) trivial ?_
        simp only [Act.put, List.setIfInBounds_toArray, List.set_cons_zero, List.set_cons_succ]
        refine lin_no (by rfl) ?_
        simp only [Act.put, List.setIfInBounds_toArray, List.set_cons_zero, List.set_cons_succ]
        refine lin_no (by rfl) ?_
        simp only [Act.put, List.setIfInBounds_toArray, List.set_cons_zero, List.set_cons_succ]
        refine lin_q ?_ rfl ?_ ?_; rotate_left 1; (focus (rintro w' -; go_simp; first | done | with_reducible rfl | (trace_state; fail)))
        simp only [Act.put, List.setIfInBounds_toArray, List.set_cons_zero, List.set_cons_succ]
        refine lin_nil ?_
        go_wp2_with fail
        with_reducible refine (wakes7_c HVV.out HO19.out.drew).mono ?_
        rintro e w40 ⟨rfl, hO40⟩
        have HO40 := Lib.hid hO40; clear hO40
        go_wp2
        go_ret
        exact HO40.out.yes rfl
      | some v =>
        obtain ⟨c1, c2, c3, c4, c5⟩ := v
        go_wp2_with fail
        with_reducible refine P1.out.mono ?_
        rintro e w4 ⟨rfl, hO4⟩
        have HO4 := Lib.hid hO4; clear hO4 HO3 P1
        simp only [Option.getD_none, Option.isSome_none, Option.getD_some, Option.isSome_some, UL.val, UL.zero]
        go_wp2_with (first | (refine wl_alloc rfl _ rfl HO4.out _ (alloc_url _) ?_; intro g11 w5 hO5; have HO5 := Lib.hid hO5; clear hO5 HO4) | (refine wl_store rfl _ _ _ rfl HO5.out 0 g11 0 _ [Value.string (strOfNums []), Value.string (strOfNums []), Value.int .i64 0, Value.string (strOfNums []), Value.string (strOfNums [])] _ rfl (by rfl) (by rfl) url_size (one_url UL.zero) (by simp [UL.val, UL.zero]) ?_; intro w6 hO6; have HO6 := Lib.hid (hO6.cast (L' := [(g11, .cells [Value.string (strOfNums []), Value.string (strOfNums []), Value.int .i64 0, Value.string (strOfNums []), Value.string (strOfNums [])].toArray 25)]) rfl); clear hO6 HO5))
        with_reducible refine (P2.out _ _ HO6.out).mono ?_
        rintro e w7 ⟨rfl, hO7⟩
        have HO7 := Lib.hid hO7; clear hO7 HO6 P2
        simp only [Option.getD_none, Option.isSome_none, Option.getD_some, Option.isSome_some, UL.val, UL.zero]
        go_wp2_with (first | (refine wl_alloc rfl _ rfl HO7.out _ (alloc_rurl _) ?_; intro g13 w8 hO8; have HO8 := Lib.hid hO8; clear hO8 HO7) | (refine wl_store rfl _ _ _ rfl HO8.out 0 g13 0 _ [Value.string (strOfNums []), Value.string (strOfNums []), Value.int .i64 0, Value.string (strOfNums []), Value.string (strOfNums [])] _ rfl (by rfl) (by rfl) rurl_size (one_url UL.zero) (by simp [UL.val, UL.zero]) ?_; intro w9 hO9; have HO9 := Lib.hid (hO9.cast (L' := [(g13, .cells [Value.string (strOfNums []), Value.string (strOfNums []), Value.int .i64 0, Value.string (strOfNums []), Value.string (strOfNums [])].toArray 42), (g11, .cells [Value.string (strOfNums []), Value.string (strOfNums []), Value.int .i64 0, Value.string (strOfNums []), Value.string (strOfNums [])].toArray 25)]) rfl); clear hO9 HO8) | (refine wl_g (by rfl) ?_; refine wl_load rfl _ _ rfl g11 0 [Value.string (strOfNums []), Value.string (strOfNums []), Value.int .i64 0, Value.string (strOfNums []), Value.string (strOfNums [])] [Value.string (strOfNums []), Value.string (strOfNums []), Value.int .i64 0, Value.string (strOfNums []), Value.string (strOfNums [])] _ (HO9.out.heap (.tail _ (.head _))) (by rfl) _ Tryd.underlying25 rfl url_size (by rfl) ?_) | (refine wl_g (by rfl) ?_; refine wl_load rfl _ _ rfl g13 0 [Value.string (strOfNums []), Value.string (strOfNums []), Value.int .i64 0, Value.string (strOfNums []), Value.string (strOfNums [])] [Value.string (strOfNums []), Value.string (strOfNums []), Value.int .i64 0, Value.string (strOfNums []), Value.string (strOfNums [])] _ (HO9.out.heap (.head _)) (by rfl) _ Tryd.underlying42 rfl rurl_size (by rfl) ?_))
        with_reducible refine (purl_c HO9.out n).mono ?_
        rintro e w10 ⟨rfl, hO10⟩
        have HO10 := Lib.hid hO10; clear hO10 HO9
        go_wp2_with fail
        with_reducible refine (P3.out _ _ HO10.out).mono ?_
        rintro e w11 ⟨rfl, hO11⟩
        have HO11 := Lib.hid hO11; clear hO11 HO10 P3
        simp only [Option.getD_none, Option.isSome_none, Option.getD_some, Option.isSome_some, UL.val, UL.zero]
        go_wp2_with (first | (refine wl_alloc rfl _ rfl HO11.out _ (alloc_url _) ?_; intro g15 w12 hO12; have HO12 := Lib.hid hO12; clear hO12 HO11) | (refine wl_store rfl _ _ _ rfl HO12.out 0 g15 0 _ [Value.string (strOfNums b1), Value.string (strOfNums b2), Value.int .i64 b3, Value.string (strOfNums b4), Value.string (strOfNums b5)] _ rfl (by rfl) (by rfl) url_size (one_url ⟨b1, b2, b3, b4, b5⟩) (by simp [UL.val, UL.zero]) ?_; intro w13 hO13; have HO13 := Lib.hid (hO13.cast (L' := [(g15, .cells [Value.string (strOfNums b1), Value.string (strOfNums b2), Value.int .i64 b3, Value.string (strOfNums b4), Value.string (strOfNums b5)].toArray 25), (g13, .cells [Value.string (strOfNums []), Value.string (strOfNums []), Value.int .i64 0, Value.string (strOfNums []), Value.string (strOfNums [])].toArray 42), (g11, .cells [Value.string (strOfNums []), Value.string (strOfNums []), Value.int .i64 0, Value.string (strOfNums []), Value.string (strOfNums [])].toArray 25)]) rfl); clear hO13 HO12) | (refine wl_load rfl _ _ rfl g15 0 [Value.string (strOfNums b1), Value.string (strOfNums b2), Value.int .i64 b3, Value.string (strOfNums b4), Value.string (strOfNums b5)] [Value.string (strOfNums b1), Value.string (strOfNums b2), Value.int .i64 b3, Value.string (strOfNums b4), Value.string (strOfNums b5)] _ (HO13.out.heap (.head _)) (by rfl) _ Tryd.underlying25 rfl url_size (by rfl) ?_))
        with_reducible refine (Q1.out _ _ HO13.out).mono ?_
        rintro e w14 ⟨rfl, hO14⟩
        have HO14 := Lib.hid hO14; clear hO14 HO13 Q1
        simp only [Option.getD_none, Option.isSome_none, Option.getD_some, Option.isSome_some, UL.val, UL.zero]
        go_wp2_with (first | (refine wl_alloc rfl _ rfl HO14.out _ (alloc_url _) ?_; intro g17 w15 hO15; have HO15 := Lib.hid hO15; clear hO15 HO14) | (refine wl_store rfl _ _ _ rfl HO15.out 0 g17 0 _ [Value.string (strOfNums c1), Value.string (strOfNums c2), Value.int .i64 c3, Value.string (strOfNums c4), Value.string (strOfNums c5)] _ rfl (by rfl) (by rfl) url_size (one_url ⟨c1, c2, c3, c4, c5⟩) (by simp [UL.val, UL.zero]) ?_; intro w16 hO16; have HO16 := Lib.hid (hO16.cast (L' := [(g17, .cells [Value.string (strOfNums c1), Value.string (strOfNums c2), Value.int .i64 c3, Value.string (strOfNums c4), Value.string (strOfNums c5)].toArray 25), (g15, .cells [Value.string (strOfNums b1), Value.string (strOfNums b2), Value.int .i64 b3, Value.string (strOfNums b4), Value.string (strOfNums b5)].toArray 25), (g13, .cells [Value.string (strOfNums []), Value.string (strOfNums []), Value.int .i64 0, Value.string (strOfNums []), Value.string (strOfNums [])].toArray 42), (g11, .cells [Value.string (strOfNums []), Value.string (strOfNums []), Value.int .i64 0, Value.string (strOfNums []), Value.string (strOfNums [])].toArray 25)]) rfl); clear hO16 HO15) | (refine wl_load rfl _ _ rfl g15 0 [Value.string (strOfNums b1), Value.string (strOfNums b2), Value.int .i64 b3, Value.string (strOfNums b4), Value.string (strOfNums b5)] [Value.string (strOfNums b1), Value.string (strOfNums b2), Value.int .i64 b3, Value.string (strOfNums b4), Value.string (strOfNums b5)] _ (HO16.out.heap (.tail _ (.head _))) (by rfl) _ Tryd.underlying25 rfl url_size (by rfl) ?_))
        with_reducible refine (Q2.out _ _ HO16.out).mono ?_
        rintro e w17 ⟨rfl, hO17⟩
        have HO17 := Lib.hid hO17; clear hO17 HO16 Q2
        simp only [Option.getD_none, Option.isSome_none, Option.getD_some, Option.isSome_some, UL.val, UL.zero]
        go_wp2_with (first | (refine wl_alloc rfl _ rfl HO17.out _ (alloc_rurl _) ?_; intro g18 w18 hO18; have HO18 := Lib.hid hO18; clear hO18 HO17) | (refine wl_store rfl _ _ _ rfl HO18.out 0 g18 0 _ [Value.string (strOfNums c1), Value.string (strOfNums c2), Value.int .i64 c3, Value.string (strOfNums c4), Value.string (strOfNums c5)] _ rfl (by rfl) (by rfl) rurl_size (one_url ⟨c1, c2, c3, c4, c5⟩) (by simp [UL.val, UL.zero]) ?_; intro w19 hO19; have HO19 := Lib.hid (hO19.cast (L' := [(g18, .cells [Value.string (strOfNums c1), Value.string (strOfNums c2), Value.int .i64 c3, Value.string (strOfNums c4), Value.string (strOfNums c5)].toArray 42), (g17, .cells [Value.string (strOfNums c1), Value.string (strOfNums c2), Value.int .i64 c3, Value.string (strOfNums c4), Value.string (strOfNums c5)].toArray 25), (g15, .cells [Value.string (strOfNums b1), Value.string (strOfNums b2), Value.int .i64 b3, Value.string (strOfNums b4), Value.string (strOfNums b5)].toArray 25), (g13, .cells [Value.string (strOfNums []), Value.string (strOfNums []), Value.int .i64 0, Value.string (strOfNums []), Value.string (strOfNums [])].toArray 42), (g11, .cells [Value.string (strOfNums []), Value.string (strOfNums []), Value.int .i64 0, Value.string (strOfNums []), Value.string (strOfNums [])].toArray 25)]) rfl); clear hO19 HO18) | (refine wl_g (by rfl) ?_; refine wl_load rfl _ _ rfl g17 0 [Value.string (strOfNums c1), Value.string (strOfNums c2), Value.int .i64 c3, Value.string (strOfNums c4), Value.string (strOfNums c5)] [Value.string (strOfNums c1), Value.string (strOfNums c2), Value.int .i64 c3, Value.string (strOfNums c4), Value.string (strOfNums c5)] _ (HO19.out.heap (.tail _ (.head _))) (by rfl) _ Tryd.underlying25 rfl url_size (by rfl) ?_) | (refine wl_g (by rfl) ?_; refine wl_load rfl _ _ rfl g18 0 [Value.string (strOfNums c1), Value.string (strOfNums c2), Value.int .i64 c3, Value.string (strOfNums c4), Value.string (strOfNums c5)] [Value.string (strOfNums c1), Value.string (strOfNums c2), Value.int .i64 c3, Value.string (strOfNums c4), Value.string (strOfNums c5)] _ (HO19.out.heap (.head _)) (by rfl) _ Tryd.underlying42 rfl rurl_size (by rfl) ?_))
        refine wp_region_lin (fun w' => True) 31 [(0, true), (1, true), (2, true), (4, true), (3, false), (5, false), (6, true), (7, true), (8, true), (10, true), (9, false), (11, false), (12, true), (13, true), (14, true), (15, true), (17, true), (16, false), (18, false), (19, true), (20, true), (21, true), (22, true), (23, true), (25, true), (26, true), (24, false), (27, false), (28, true), (29, true), (30, true)] (by kernel_rfl) (by decide +kernel) (fun _ _ d _ _ h => by cases d <;> exact h) trivial ?_
        simp only [List.map_cons, List.map_nil, pick_zero, pick_succ, List.drop_succ_cons, List.drop_zero]
        refine lin_q ?_ rfl ?_ ?_; rotate_left 1; (focus (rintro w' -; go_simp; first | done | with_reducible rfl | (trace_state; fail)))
        simp only [Act.put, List.setIfInBounds_toArray, List.set_cons_zero, List.set_cons_succ]
        refine lin_q ?_ rfl ?_ ?_; rotate_left 1; (focus (rintro w' -; go_simp; first | done | with_reducible rfl | (trace_state; fail)))
        simp only [Act.put, List.setIfInBounds_toArray, List.set_cons_zero, List.set_cons_succ]
        refine lin_no (by rfl) ?_
        simp only [Act.put, List.setIfInBounds_toArray, List.set_cons_zero, List.set_cons_succ]
        refine lin_no (by rfl) ?_
        simp only [Act.put, List.setIfInBounds_toArray, List.set_cons_zero, List.set_cons_succ]
        refine lin_actno (by rfl) trivial ?_
        simp only [Act.put, List.setIfInBounds_toArray, List.set_cons_zero, List.set_cons_succ]
        refine lin_actno (by rfl) trivial ?_
        simp only [Act.put, List.setIfInBounds_toArray, List.set_cons_zero, List.set_cons_succ]
        refine lin_no (by rfl) ?_
        simp only [Act.put, List.setIfInBounds_toArray, List.set_cons_zero, List.set_cons_succ]
        refine lin_no (by rfl) ?_
        simp only [Act.put, List.setIfInBounds_toArray, List.set_cons_zero, List.set_cons_succ]
        refine lin_no (by rfl) ?_
        simp only [Act.put, List.setIfInBounds_toArray, List.set_cons_zero, List.set_cons_succ]
        refine lin_no (by rfl) ?_
        simp only [Act.put, List.setIfInBounds_toArray, List.set_cons_zero, List.set_cons_succ]
        refine lin_actno (by rfl) trivial ?_
        simp only [Act.put, List.setIfInBounds_toArray, List.set_cons_zero, List.set_cons_succ]
        refine lin_actno (by rfl) trivial ?_
        simp only [Act.put, List.setIfInBounds_toArray, List.set_cons_zero, List.set_cons_succ]
        refine lin_no (by rfl) ?_
        simp only [Act.put, List.setIfInBounds_toArray, List.set_cons_zero, List.set_cons_succ]
        refine lin_no (by rfl) ?_
        simp only [Act.put, List.setIfInBounds_toArray, List.set_cons_zero, List.set_cons_succ]
        refine lin_no (by rfl) ?_
        simp only [Act.put, List.setIfInBounds_toArray, List.set_cons_zero, List.set_cons_succ]
        refine lin_no (by rfl) ?_
        simp only [Act.put, List.setIfInBounds_toArray, List.set_cons_zero, List.set_cons_succ]
        refine lin_no (by rfl) ?_
        simp only [Act.put, List.setIfInBounds_toArray, List.set_cons_zero, List.set_cons_succ]
        refine lin_actno (by rfl) trivial ?_
        simp only [Act.put, List.setIfInBounds_toArray, List.set_cons_zero, List.set_cons_succ]
        refine lin_actno (by rfl) trivial ?_
        simp only [Act.put, List.setIfInBounds_toArray, List.set_cons_zero, List.set_cons_succ]
        refine lin_no (by rfl) ?_
        simp only [Act.put, List.setIfInBounds_toArray, List.set_cons_zero, List.set_cons_succ]
        refine lin_no (by rfl) ?_
        simp only [Act.put, List.setIfInBounds_toArray, List.set_cons_zero, List.set_cons_succ]
        refine lin_no (by rfl) ?_
        simp only [Act.put, List.setIfInBounds_toArray, List.set_cons_zero, List.set_cons_succ]
        refine lin_no (by rfl) ?_
        simp only [Act.put, List.setIfInBounds_toArray, List.set_cons_zero, List.set_cons_succ]
        refine lin_no (by rfl) ?_
        simp only [Act.put, List.setIfInBounds_toArray, List.set_cons_zero, List.set_cons_succ]
        refine lin_no (by rfl) ?_
        simp only [Act.put, List.setIfInBounds_toArray, List.set_cons_zero, List.set_cons_succ]
        refine lin_no (by rfl) ?_
        simp only [Act.put, List.setIfInBounds_toArray, List.set_cons_zero, List.set_cons_succ]
        refine lin_actno (by rfl) trivial ?_
        simp only [Act.put, List.setIfInBounds_toArray, List.set_cons_zero, List.set_cons_succ]
        refine lin_actno (by rfl) trivial ?_
        simp only [Act.put, List.setIfInBounds_toArray, List.set_cons_zero, List.set_cons_succ]
        refine lin_no (by rfl) ?_
        simp only [Act.put, List.setIfInBounds_toArray, List.set_cons_zero, List.set_cons_succ]
        refine lin_no (by rfl) ?_
        simp only [Act.put, List.setIfInBounds_toArray, List.set_cons_zero, List.set_cons_succ]
        refine lin_q ?_ rfl ?_ ?_; rotate_left 1; (focus (rintro w' -; go_simp; first | done | with_reducible rfl | (trace_state; fail)))
        simp only [Act.put, List.setIfInBounds_toArray, List.set_cons_zero, List.set_cons_succ]
        refine lin_nil ?_
        go_wp2_with fail
        with_reducible refine (wakes7_c HVV.out HO19.out.drew).mono ?_
        rintro e w40 ⟨rfl, hO40⟩
        have HO40 := Lib.hid hO40; clear hO40
        go_wp2
        go_ret
        exact HO40.out.yes rfl
    | some u =>
      obtain ⟨a1, a2, a3, a4, a5⟩ := u
      have hF := HFIN.out _ rfl
      have r1 : ∀ (w' : World) (R' : Blks), Own W w' R' → _ := fun w' R' h => uprint_c HVV.out h _ hF
      have r2 : ∀ (w' : World) (R' : Blks), Own W w' R' → _ := fun w' R' h => rprint_c h _ hF.ok
      have r3 : ∀ (w' : World) (R' : Blks), Own W w' R' → _ := fun w' R' h => uorigin_c HVV.out h _ hF.half
      have r4 : ∀ (w' : World) (R' : Blks), Own W w' R' → _ := fun w' R' h => rorigin_c h _ hF.ok
      have r5 : ∀ (w' : World) (R' : Blks), Own W w' R' → _ := fun w' R' h => usecure_c h _ hF.half
      have r6 : ∀ (w' : World) (R' : Blks), Own W w' R' → _ := fun w' R' h => rsecure_c h _ hF.schB hF.hostB
      have r7 : ∀ (w' : World) (R' : Blks), Own W w' R' → _ := fun w' R' h => usame_c HVV.out h _ _ hF.half HBF.out.half
      have r8 : ∀ (w' : World) (R' : Blks), Own W w' R' → _ := fun w' R' h => rsame_c h _ _ hF.ok HBF.out.ok
      rw [beq_str (originI_byt hF) (originI_byt HBF.out)] at r8
      generalize decide (originI _ = originI _) = bs at r7 r8
      generalize secureI _ = bq at r5 r6
      generalize strOfNums (originI _) = so at r3 r4
      generalize strOfNums (printI _) = sp at r1 r2
      simp only [UL.val] at r1 r2 r3 r4 r5 r6 r7 r8
      have R1 := Lib.hid r1; have R2 := Lib.hid r2; have R3 := Lib.hid r3; have R4 := Lib.hid r4; have R5 := Lib.hid r5; have R6 := Lib.hid r6; have R7 := Lib.hid r7; have R8 := Lib.hid r8
      clear r1 r2 r3 r4 r5 r6 r7 r8 hF
      cases o2 with
      | none =>
        go_wp2_with fail
        with_reducible refine P1.out.mono ?_
        rintro e w4 ⟨rfl, hO4⟩
        have HO4 := Lib.hid hO4; clear hO4 HO3 P1
        simp only [Option.getD_none, Option.isSome_none, Option.getD_some, Option.isSome_some, UL.val, UL.zero]
        go_wp2_with (first | (refine wl_alloc rfl _ rfl HO4.out _ (alloc_url _) ?_; intro g11 w5 hO5; have HO5 := Lib.hid hO5; clear hO5 HO4) | (refine wl_store rfl _ _ _ rfl HO5.out 0 g11 0 _ [Value.string (strOfNums a1), Value.string (strOfNums a2), Value.int .i64 a3, Value.string (strOfNums a4), Value.string (strOfNums a5)] _ rfl (by rfl) (by rfl) url_size (one_url ⟨a1, a2, a3, a4, a5⟩) (by simp [UL.val, UL.zero]) ?_; intro w6 hO6; have HO6 := Lib.hid (hO6.cast (L' := [(g11, .cells [Value.string (strOfNums a1), Value.string (strOfNums a2), Value.int .i64 a3, Value.string (strOfNums a4), Value.string (strOfNums a5)].toArray 25)]) rfl); clear hO6 HO5))
        with_reducible refine (P2.out _ _ HO6.out).mono ?_
        rintro e w7 ⟨rfl, hO7⟩
        have HO7 := Lib.hid hO7; clear hO7 HO6 P2
        simp only [Option.getD_none, Option.isSome_none, Option.getD_some, Option.isSome_some, UL.val, UL.zero]
        go_wp2_with (first | (refine wl_alloc rfl _ rfl HO7.out _ (alloc_rurl _) ?_; intro g13 w8 hO8; have HO8 := Lib.hid hO8; clear hO8 HO7) | (refine wl_store rfl _ _ _ rfl HO8.out 0 g13 0 _ [Value.string (strOfNums a1), Value.string (strOfNums a2), Value.int .i64 a3, Value.string (strOfNums a4), Value.string (strOfNums a5)] _ rfl (by rfl) (by rfl) rurl_size (one_url ⟨a1, a2, a3, a4, a5⟩) (by simp [UL.val, UL.zero]) ?_; intro w9 hO9; have HO9 := Lib.hid (hO9.cast (L' := [(g13, .cells [Value.string (strOfNums a1), Value.string (strOfNums a2), Value.int .i64 a3, Value.string (strOfNums a4), Value.string (strOfNums a5)].toArray 42), (g11, .cells [Value.string (strOfNums a1), Value.string (strOfNums a2), Value.int .i64 a3, Value.string (strOfNums a4), Value.string (strOfNums a5)].toArray 25)]) rfl); clear hO9 HO8) | (refine wl_g (by rfl) ?_; refine wl_load rfl _ _ rfl g11 0 [Value.string (strOfNums a1), Value.string (strOfNums a2), Value.int .i64 a3, Value.string (strOfNums a4), Value.string (strOfNums a5)] [Value.string (strOfNums a1), Value.string (strOfNums a2), Value.int .i64 a3, Value.string (strOfNums a4), Value.string (strOfNums a5)] _ (HO9.out.heap (.tail _ (.head _))) (by rfl) _ Tryd.underlying25 rfl url_size (by rfl) ?_) | (refine wl_g (by rfl) ?_; refine wl_load rfl _ _ rfl g13 0 [Value.string (strOfNums a1), Value.string (strOfNums a2), Value.int .i64 a3, Value.string (strOfNums a4), Value.string (strOfNums a5)] [Value.string (strOfNums a1), Value.string (strOfNums a2), Value.int .i64 a3, Value.string (strOfNums a4), Value.string (strOfNums a5)] _ (HO9.out.heap (.head _)) (by rfl) _ Tryd.underlying42 rfl rurl_size (by rfl) ?_))
        with_reducible refine (purl_c HO9.out n).mono ?_
        rintro e w10 ⟨rfl, hO10⟩
        have HO10 := Lib.hid hO10; clear hO10 HO9
        go_wp2_with fail
        with_reducible refine (P3.out _ _ HO10.out).mono ?_
        rintro e w11 ⟨rfl, hO11⟩
        have HO11 := Lib.hid hO11; clear hO11 HO10 P3
        simp only [Option.getD_none, Option.isSome_none, Option.getD_some, Option.isSome_some, UL.val, UL.zero]
        go_wp2_with (first | (refine wl_alloc rfl _ rfl HO11.out _ (alloc_url _) ?_; intro g15 w12 hO12; have HO12 := Lib.hid hO12; clear hO12 HO11) | (refine wl_store rfl _ _ _ rfl HO12.out 0 g15 0 _ [Value.string (strOfNums b1), Value.string (strOfNums b2), Value.int .i64 b3, Value.string (strOfNums b4), Value.string (strOfNums b5)] _ rfl (by rfl) (by rfl) url_size (one_url ⟨b1, b2, b3, b4, b5⟩) (by simp [UL.val, UL.zero]) ?_; intro w13 hO13; have HO13 := Lib.hid (hO13.cast (L' := [(g15, .cells [Value.string (strOfNums b1), Value.string (strOfNums b2), Value.int .i64 b3, Value.string (strOfNums b4), Value.string (strOfNums b5)].toArray 25), (g13, .cells [Value.string (strOfNums a1), Value.string (strOfNums a2), Value.int .i64 a3, Value.string (strOfNums a4), Value.string (strOfNums a5)].toArray 42), (g11, .cells [Value.string (strOfNums a1), Value.string (strOfNums a2), Value.int .i64 a3, Value.string (strOfNums a4), Value.string (strOfNums a5)].toArray 25)]) rfl); clear hO13 HO12) | (refine wl_load rfl _ _ rfl g15 0 [Value.string (strOfNums b1), Value.string (strOfNums b2), Value.int .i64 b3, Value.string (strOfNums b4), Value.string (strOfNums b5)] [Value.string (strOfNums b1), Value.string (strOfNums b2), Value.int .i64 b3, Value.string (strOfNums b4), Value.string (strOfNums b5)] _ (HO13.out.heap (.head _)) (by rfl) _ Tryd.underlying25 rfl url_size (by rfl) ?_))
        with_reducible refine (Q1.out _ _ HO13.out).mono ?_
        rintro e w14 ⟨rfl, hO14⟩
        have HO14 := Lib.hid hO14; clear hO14 HO13 Q1
        simp only [Option.getD_none, Option.isSome_none, Option.getD_some, Option.isSome_some, UL.val, UL.zero]
        go_wp2_with (first | (refine wl_alloc rfl _ rfl HO14.out _ (alloc_url _) ?_; intro g17 w15 hO15; have HO15 := Lib.hid hO15; clear hO15 HO14) | (refine wl_store rfl _ _ _ rfl HO15.out 0 g17 0 _ [Value.string (strOfNums []), Value.string (strOfNums []), Value.int .i64 0, Value.string (strOfNums []), Value.string (strOfNums [])] _ rfl (by rfl) (by rfl) url_size (one_url UL.zero) (by simp [UL.val, UL.zero]) ?_; intro w16 hO16; have HO16 := Lib.hid (hO16.cast (L' := [(g17, .cells [Value.string (strOfNums []), Value.string (strOfNums []), Value.int .i64 0, Value.string (strOfNums []), Value.string (strOfNums [])].toArray 25), (g15, .cells [Value.string (strOfNums b1), Value.string (strOfNums b2), Value.int .i64 b3, Value.string (strOfNums b4), Value.string (strOfNums b5)].toArray 25), (g13, .cells [Value.string (strOfNums a1), Value.string (strOfNums a2), Value.int .i64 a3, Value.string (strOfNums a4), Value.string (strOfNums a5)].toArray 42), (g11, .cells [Value.string (strOfNums a1), Value.string (strOfNums a2), Value.int .i64 a3, Value.string (strOfNums a4), Value.string (strOfNums a5)].toArray 25)]) rfl); clear hO16 HO15) | (refine wl_load rfl _ _ rfl g15 0 [Value.string (strOfNums b1), Value.string (strOfNums b2), Value.int .i64 b3, Value.string (strOfNums b4), Value.string (strOfNums b5)] [Value.string (strOfNums b1), Value.string (strOfNums b2), Value.int .i64 b3, Value.string (strOfNums b4), Value.string (strOfNums b5)] _ (HO16.out.heap (.tail _ (.head _))) (by rfl) _ Tryd.underlying25 rfl url_size (by rfl) ?_))
        with_reducible refine (Q2.out _ _ HO16.out).mono ?_
        rintro e w17 ⟨rfl, hO17⟩
        have HO17 := Lib.hid hO17; clear hO17 HO16 Q2
        simp only [Option.getD_none, Option.isSome_none, Option.getD_some, Option.isSome_some, UL.val, UL.zero]
        go_wp2_with (first | (refine wl_alloc rfl _ rfl HO17.out _ (alloc_rurl _) ?_; intro g18 w18 hO18; have HO18 := Lib.hid hO18; clear hO18 HO17) | (refine wl_store rfl _ _ _ rfl HO18.out 0 g18 0 _ [Value.string (strOfNums []), Value.string (strOfNums []), Value.int .i64 0, Value.string (strOfNums []), Value.string (strOfNums [])] _ rfl (by rfl) (by rfl) rurl_size (one_url UL.zero) (by simp [UL.val, UL.zero]) ?_; intro w19 hO19; have HO19 := Lib.hid (hO19.cast (L' := [(g18, .cells [Value.string (strOfNums []), Value.string (strOfNums []), Value.int .i64 0, Value.string (strOfNums []), Value.string (strOfNums [])].toArray 42), (g17, .cells [Value.string (strOfNums []), Value.string (strOfNums []), Value.int .i64 0, Value.string (strOfNums []), Value.string (strOfNums [])].toArray 25), (g15, .cells [Value.string (strOfNums b1), Value.string (strOfNums b2), Value.int .i64 b3, Value.string (strOfNums b4), Value.string (strOfNums b5)].toArray 25), (g13, .cells [Value.string (strOfNums a1), Value.string (strOfNums a2), Value.int .i64 a3, Value.string (strOfNums a4), Value.string (strOfNums a5)].toArray 42), (g11, .cells [Value.string (strOfNums a1), Value.string (strOfNums a2), Value.int .i64 a3, Value.string (strOfNums a4), Value.string (strOfNums a5)].toArray 25)]) rfl); clear hO19 HO18) | (refine wl_g (by rfl) ?_; refine wl_load rfl _ _ rfl g17 0 [Value.string (strOfNums []), Value.string (strOfNums []), Value.int .i64 0, Value.string (strOfNums []), Value.string (strOfNums [])] [Value.string (strOfNums []), Value.string (strOfNums []), Value.int .i64 0, Value.string (strOfNums []), Value.string (strOfNums [])] _ (HO19.out.heap (.tail _ (.head _))) (by rfl) _ Tryd.underlying25 rfl url_size (by rfl) ?_) | (refine wl_g (by rfl) ?_; refine wl_load rfl _ _ rfl g18 0 [Value.string (strOfNums []), Value.string (strOfNums []), Value.int .i64 0, Value.string (strOfNums []), Value.string (strOfNums [])] [Value.string (strOfNums []), Value.string (strOfNums []), Value.int .i64 0, Value.string (strOfNums []), Value.string (strOfNums [])] _ (HO19.out.heap (.head _)) (by rfl) _ Tryd.underlying42 rfl rurl_size (by rfl) ?_))
        refine wp_region_lin (fun w' => w'.heap[g11]? = some (.cells [Value.string (strOfNums a1), Value.string (strOfNums a2), Value.int .i64 a3, Value.string (strOfNums a4), Value.string (strOfNums a5)].toArray 25) ∧ w'.heap[g13]? = some (.cells [Value.string (strOfNums a1), Value.string (strOfNums a2), Value.int .i64 a3, Value.string (strOfNums a4), Value.string (strOfNums a5)].toArray 42) ∧ w'.heap[g15]? = some (.cells [Value.string (strOfNums b1), Value.string (strOfNums b2), Value.int .i64 b3, Value.string (strOfNums b4), Value.string (strOfNums b5)].toArray 25)) 31 [(0, true), (1, true), (2, true), (4, true), (3, false), (5, false), (6, true), (7, true), (8, true), (10, true), (9, false), (11, false), (12, true), (13, true), (14, true), (15, true), (17, true), (16, false), (18, false), (19, true), (20, true), (21, true), (22, true), (23, true), (25, true), (26, true), (24, false), (27, false), (28, true), (29, true), (30, true)] (by kernel_rfl) (by decide +kernel) (fun _ _ d _ _ h => by cases d <;> exact h) ⟨HO19.out.drew.heap (.tail _ (.tail _ (.tail _ (.tail _ (.head _))))), HO19.out.drew.heap (.tail _ (.tail _ (.tail _ (.head _)))), HO19.out.drew.heap (.tail _ (.tail _ (.head _)))⟩ ?_
        simp only [List.map_cons, List.map_nil, pick_zero, pick_succ, List.drop_succ_cons, List.drop_zero]
        refine lin_q ?_ rfl ?_ ?_; rotate_left 1; (focus (rintro w' -; go_simp; first | done | with_reducible rfl | (trace_state; fail)))
        simp only [Act.put, List.setIfInBounds_toArray, List.set_cons_zero, List.set_cons_succ]
        refine lin_q ?_ rfl ?_ ?_; rotate_left 1; (focus (rintro w' -; go_simp; first | done | with_reducible rfl | (trace_state; fail)))
        simp only [Act.put, List.setIfInBounds_toArray, List.set_cons_zero, List.set_cons_succ]
        refine lin_loadG (by rfl) _ _ rfl g11 0 [Value.string (strOfNums a1), Value.string (strOfNums a2), Value.int .i64 a3, Value.string (strOfNums a4), Value.string (strOfNums a5)] [Value.string (strOfNums a1), Value.string (strOfNums a2), Value.int .i64 a3, Value.string (strOfNums a4), Value.string (strOfNums a5)] 25 (by rfl) _ Tryd.underlying25 rfl url_size (by rfl) (fun w' ew => ew.1) ?_
        simp only [Act.put, List.setIfInBounds_toArray, List.set_cons_zero, List.set_cons_succ]
        refine lin_loadG (by rfl) _ _ rfl g13 0 [Value.string (strOfNums a1), Value.string (strOfNums a2), Value.int .i64 a3, Value.string (strOfNums a4), Value.string (strOfNums a5)] [Value.string (strOfNums a1), Value.string (strOfNums a2), Value.int .i64 a3, Value.string (strOfNums a4), Value.string (strOfNums a5)] 42 (by rfl) _ Tryd.underlying42 rfl rurl_size (by rfl) (fun w' ew => ew.2.1) ?_
        simp only [Act.put, List.setIfInBounds_toArray, List.set_cons_zero, List.set_cons_succ]
        refine lin_act ?_
        refine wl_g (by rfl) ?_
        refine wl_call rfl _ _ _ (by go_simp) (R1.out _ _ HO19.out.drew) ?_
        rintro e w20 ⟨rfl, hO20⟩
        refine ⟨_, rfl, LinPost.mk ⟨hO20.heap (.tail _ (.tail _ (.tail _ (.tail _ (.head _))))), hO20.heap (.tail _ (.tail _ (.tail _ (.head _)))), hO20.heap (.tail _ (.tail _ (.head _)))⟩ ?_⟩
        simp only [Act.put, List.setIfInBounds_toArray, List.set_cons_zero, List.set_cons_succ]
        refine lin_act ?_
        refine wl_g (by rfl) ?_
        refine wl_call rfl _ _ _ (by go_simp) (R2.out _ _ hO20) ?_
        rintro e w21 ⟨rfl, hO21⟩
        refine ⟨_, rfl, LinPost.mk ⟨hO21.heap (.tail _ (.tail _ (.tail _ (.tail _ (.head _))))), hO21.heap (.tail _ (.tail _ (.tail _ (.head _)))), hO21.heap (.tail _ (.tail _ (.head _)))⟩ ?_⟩
        simp only [Act.put, List.setIfInBounds_toArray, List.set_cons_zero, List.set_cons_succ]
        refine lin_g ?_ (by rfl) ?_ ?_; rotate_left 1; (focus (rintro w' -; go_simp; first | done | with_reducible rfl | (trace_state; fail)))
        simp only [Act.put, List.setIfInBounds_toArray, List.set_cons_zero, List.set_cons_succ]
        refine lin_g ?_ (by rfl) ?_ ?_; rotate_left 1; (focus (rintro w' -; go_simp; first | done | with_reducible rfl | (trace_state; fail)))
        simp only [Act.put, List.setIfInBounds_toArray, List.set_cons_zero, List.set_cons_succ]
        refine lin_loadG (by rfl) _ _ rfl g11 0 [Value.string (strOfNums a1), Value.string (strOfNums a2), Value.int .i64 a3, Value.string (strOfNums a4), Value.string (strOfNums a5)] [Value.string (strOfNums a1), Value.string (strOfNums a2), Value.int .i64 a3, Value.string (strOfNums a4), Value.string (strOfNums a5)] 25 (by rfl) _ Tryd.underlying25 rfl url_size (by rfl) (fun w' ew => ew.1) ?_
        simp only [Act.put, List.setIfInBounds_toArray, List.set_cons_zero, List.set_cons_succ]
        refine lin_loadG (by rfl) _ _ rfl g13 0 [Value.string (strOfNums a1), Value.string (strOfNums a2), Value.int .i64 a3, Value.string (strOfNums a4), Value.string (strOfNums a5)] [Value.string (strOfNums a1), Value.string (strOfNums a2), Value.int .i64 a3, Value.string (strOfNums a4), Value.string (strOfNums a5)] 42 (by rfl) _ Tryd.underlying42 rfl rurl_size (by rfl) (fun w' ew => ew.2.1) ?_
        simp only [Act.put, List.setIfInBounds_toArray, List.set_cons_zero, List.set_cons_succ]
        refine lin_act ?_
        refine wl_g (by rfl) ?_
        refine wl_call rfl _ _ _ (by go_simp) (R3.out _ _ hO21) ?_
        rintro e w22 ⟨rfl, hO22⟩
        refine ⟨_, rfl, LinPost.mk ⟨hO22.heap (.tail _ (.tail _ (.tail _ (.tail _ (.head _))))), hO22.heap (.tail _ (.tail _ (.tail _ (.head _)))), hO22.heap (.tail _ (.tail _ (.head _)))⟩ ?_⟩
        simp only [Act.put, List.setIfInBounds_toArray, List.set_cons_zero, List.set_cons_succ]
        refine lin_act ?_
        refine wl_g (by rfl) ?_
        refine wl_call rfl _ _ _ (by go_simp) (R4.out _ _ hO22) ?_
        rintro e w23 ⟨rfl, hO23⟩
        refine ⟨_, rfl, LinPost.mk ⟨hO23.heap (.tail _ (.tail _ (.tail _ (.tail _ (.head _))))), hO23.heap (.tail _ (.tail _ (.tail _ (.head _)))), hO23.heap (.tail _ (.tail _ (.head _)))⟩ ?_⟩
        simp only [Act.put, List.setIfInBounds_toArray, List.set_cons_zero, List.set_cons_succ]
        refine lin_g ?_ (by rfl) ?_ ?_; rotate_left 1; (focus (rintro w' -; go_simp; first | done | with_reducible rfl | (trace_state; fail)))
        simp only [Act.put, List.setIfInBounds_toArray, List.set_cons_zero, List.set_cons_succ]
        refine lin_g ?_ (by rfl) ?_ ?_; rotate_left 1; (focus (rintro w' -; go_simp; first | done | with_reducible rfl | (trace_state; fail)))
        simp only [Act.put, List.setIfInBounds_toArray, List.set_cons_zero, List.set_cons_succ]
        refine lin_g ?_ (by rfl) ?_ ?_; rotate_left 1; (focus (rintro w' -; go_simp; first | done | with_reducible rfl | (trace_state; fail)))
        simp only [Act.put, List.setIfInBounds_toArray, List.set_cons_zero, List.set_cons_succ]
        refine lin_loadG (by rfl) _ _ rfl g11 0 [Value.string (strOfNums a1), Value.string (strOfNums a2), Value.int .i64 a3, Value.string (strOfNums a4), Value.string (strOfNums a5)] [Value.string (strOfNums a1), Value.string (strOfNums a2), Value.int .i64 a3, Value.string (strOfNums a4), Value.string (strOfNums a5)] 25 (by rfl) _ Tryd.underlying25 rfl url_size (by rfl) (fun w' ew => ew.1) ?_
        simp only [Act.put, List.setIfInBounds_toArray, List.set_cons_zero, List.set_cons_succ]
        refine lin_loadG (by rfl) _ _ rfl g13 0 [Value.string (strOfNums a1), Value.string (strOfNums a2), Value.int .i64 a3, Value.string (strOfNums a4), Value.string (strOfNums a5)] [Value.string (strOfNums a1), Value.string (strOfNums a2), Value.int .i64 a3, Value.string (strOfNums a4), Value.string (strOfNums a5)] 42 (by rfl) _ Tryd.underlying42 rfl rurl_size (by rfl) (fun w' ew => ew.2.1) ?_
        simp only [Act.put, List.setIfInBounds_toArray, List.set_cons_zero, List.set_cons_succ]
        refine lin_act ?_
        refine wl_g (by rfl) ?_
        refine wl_call rfl _ _ _ (by go_simp) (R5.out _ _ hO23) ?_
        rintro e w24 ⟨rfl, hO24⟩
        refine ⟨_, rfl, LinPost.mk ⟨hO24.heap (.tail _ (.tail _ (.tail _ (.tail _ (.head _))))), hO24.heap (.tail _ (.tail _ (.tail _ (.head _)))), hO24.heap (.tail _ (.tail _ (.head _)))⟩ ?_⟩
        simp only [Act.put, List.setIfInBounds_toArray, List.set_cons_zero, List.set_cons_succ]
        refine lin_act ?_
        refine wl_g (by rfl) ?_
        refine wl_call rfl _ _ _ (by go_simp) (R6.out _ _ hO24) ?_
        rintro e w25 ⟨rfl, hO25⟩
        refine ⟨_, rfl, LinPost.mk ⟨hO25.heap (.tail _ (.tail _ (.tail _ (.tail _ (.head _))))), hO25.heap (.tail _ (.tail _ (.tail _ (.head _)))), hO25.heap (.tail _ (.tail _ (.head _)))⟩ ?_⟩
        simp only [Act.put, List.setIfInBounds_toArray, List.set_cons_zero, List.set_cons_succ]
        refine lin_g ?_ (by rfl) ?_ ?_; rotate_left 1; (focus (rintro w' -; go_simp; first | done | with_reducible rfl | (trace_state; fail)))
        simp only [Act.put, List.setIfInBounds_toArray, List.set_cons_zero, List.set_cons_succ]
        refine lin_g ?_ (by rfl) ?_ ?_; rotate_left 1; (focus (rintro w' -; go_simp; first | done | with_reducible rfl | (trace_state; fail)))
        simp only [Act.put, List.setIfInBounds_toArray, List.set_cons_zero, List.set_cons_succ]
        refine lin_g ?_ (by rfl) ?_ ?_; rotate_left 1; (focus (rintro w' -; go_simp; first | done | with_reducible rfl | (trace_state; fail)))
        simp only [Act.put, List.setIfInBounds_toArray, List.set_cons_zero, List.set_cons_succ]
        refine lin_loadG (by rfl) _ _ rfl g11 0 [Value.string (strOfNums a1), Value.string (strOfNums a2), Value.int .i64 a3, Value.string (strOfNums a4), Value.string (strOfNums a5)] [Value.string (strOfNums a1), Value.string (strOfNums a2), Value.int .i64 a3, Value.string (strOfNums a4), Value.string (strOfNums a5)] 25 (by rfl) _ Tryd.underlying25 rfl url_size (by rfl) (fun w' ew => ew.1) ?_
        simp only [Act.put, List.setIfInBounds_toArray, List.set_cons_zero, List.set_cons_succ]
        refine lin_loadG (by rfl) _ _ rfl g15 0 [Value.string (strOfNums b1), Value.string (strOfNums b2), Value.int .i64 b3, Value.string (strOfNums b4), Value.string (strOfNums b5)] [Value.string (strOfNums b1), Value.string (strOfNums b2), Value.int .i64 b3, Value.string (strOfNums b4), Value.string (strOfNums b5)] 25 (by rfl) _ Tryd.underlying25 rfl url_size (by rfl) (fun w' ew => ew.2.2) ?_
        simp only [Act.put, List.setIfInBounds_toArray, List.set_cons_zero, List.set_cons_succ]
        refine lin_loadG (by rfl) _ _ rfl g13 0 [Value.string (strOfNums a1), Value.string (strOfNums a2), Value.int .i64 a3, Value.string (strOfNums a4), Value.string (strOfNums a5)] [Value.string (strOfNums a1), Value.string (strOfNums a2), Value.int .i64 a3, Value.string (strOfNums a4), Value.string (strOfNums a5)] 42 (by rfl) _ Tryd.underlying42 rfl rurl_size (by rfl) (fun w' ew => ew.2.1) ?_
        simp only [Act.put, List.setIfInBounds_toArray, List.set_cons_zero, List.set_cons_succ]
        refine lin_loadG (by rfl) _ _ rfl g15 0 [Value.string (strOfNums b1), Value.string (strOfNums b2), Value.int .i64 b3, Value.string (strOfNums b4), Value.string (strOfNums b5)] [Value.string (strOfNums b1), Value.string (strOfNums b2), Value.int .i64 b3, Value.string (strOfNums b4), Value.string (strOfNums b5)] 25 (by rfl) _ Tryd.underlying25 rfl url_size (by rfl) (fun w' ew => ew.2.2) ?_
        simp only [Act.put, List.setIfInBounds_toArray, List.set_cons_zero, List.set_cons_succ]
        refine lin_act ?_
        refine wl_g (by rfl) ?_
        refine wl_call rfl _ _ _ (by go_simp) (R7.out _ _ hO25) ?_
        rintro e w26 ⟨rfl, hO26⟩
        refine ⟨_, rfl, LinPost.mk ⟨hO26.heap (.tail _ (.tail _ (.tail _ (.tail _ (.head _))))), hO26.heap (.tail _ (.tail _ (.tail _ (.head _)))), hO26.heap (.tail _ (.tail _ (.head _)))⟩ ?_⟩
        simp only [Act.put, List.setIfInBounds_toArray, List.set_cons_zero, List.set_cons_succ]
        refine lin_act ?_
        refine wl_g (by rfl) ?_
        refine wl_call rfl _ _ _ (by go_simp) (R8.out _ _ hO26) ?_
        rintro e w27 ⟨rfl, hO27⟩
        refine ⟨_, rfl, LinPost.mk ⟨hO27.heap (.tail _ (.tail _ (.tail _ (.tail _ (.head _))))), hO27.heap (.tail _ (.tail _ (.tail _ (.head _)))), hO27.heap (.tail _ (.tail _ (.head _)))⟩ ?_⟩
        simp only [Act.put, List.setIfInBounds_toArray, List.set_cons_zero, List.set_cons_succ]
        refine lin_g ?_ (by rfl) ?_ ?_; rotate_left 1; (focus (rintro w' -; go_simp; first | done | with_reducible rfl | (trace_state; fail)))
        simp only [Act.put, List.setIfInBounds_toArray, List.set_cons_zero, List.set_cons_succ]
        refine lin_g ?_ (by rfl) ?_ ?_; rotate_left 1; (focus (rintro w' -; go_simp; first | done | with_reducible rfl | (trace_state; fail)))
        simp only [Act.put, List.setIfInBounds_toArray, List.set_cons_zero, List.set_cons_succ]
        refine lin_q ?_ rfl ?_ ?_; rotate_left 1; (focus (rintro w' -; go_simp; first | done | with_reducible rfl | (trace_state; fail)))
        simp only [Act.put, List.setIfInBounds_toArray, List.set_cons_zero, List.set_cons_succ]
        refine lin_nil ?_
        go_wp2_with fail
        with_reducible refine (wakes7_c HVV.out hO27).mono ?_
        rintro e w40 ⟨rfl, hO40⟩
        have HO40 := Lib.hid hO40; clear hO40
        go_wp2
        go_ret
        exact HO40.out.yes rfl
      | some v =>
        obtain ⟨c1, c2, c3, c4, c5⟩ := v
        go_wp2_with fail
        with_reducible refine P1.out.mono ?_
        rintro e w4 ⟨rfl, hO4⟩
        have HO4 := Lib.hid hO4; clear hO4 HO3 P1
        simp only [Option.getD_none, Option.isSome_none, Option.getD_some, Option.isSome_some, UL.val, UL.zero]
        go_wp2_with (first | (refine wl_alloc rfl _ rfl HO4.out _ (alloc_url _) ?_; intro g11 w5 hO5; have HO5 := Lib.hid hO5; clear hO5 HO4) | (refine wl_store rfl _ _ _ rfl HO5.out 0 g11 0 _ [Value.string (strOfNums a1), Value.string (strOfNums a2), Value.int .i64 a3, Value.string (strOfNums a4), Value.string (strOfNums a5)] _ rfl (by rfl) (by rfl) url_size (one_url ⟨a1, a2, a3, a4, a5⟩) (by simp [UL.val, UL.zero]) ?_; intro w6 hO6; have HO6 := Lib.hid (hO6.cast (L' := [(g11, .cells [Value.string (strOfNums a1), Value.string (strOfNums a2), Value.int .i64 a3, Value.string (strOfNums a4), Value.string (strOfNums a5)].toArray 25)]) rfl); clear hO6 HO5))
        with_reducible refine (P2.out _ _ HO6.out).mono ?_
        rintro e w7 ⟨rfl, hO7⟩
        have HO7 := Lib.hid hO7; clear hO7 HO6 P2
        simp only [Option.getD_none, Option.isSome_none, Option.getD_some, Option.isSome_some, UL.val, UL.zero]
        go_wp2_with (first | (refine wl_alloc rfl _ rfl HO7.out _ (alloc_rurl _) ?_; intro g13 w8 hO8; have HO8 := Lib.hid hO8; clear hO8 HO7) | (refine wl_store rfl _ _ _ rfl HO8.out 0 g13 0 _ [Value.string (strOfNums a1), Value.string (strOfNums a2), Value.int .i64 a3, Value.string (strOfNums a4), Value.string (strOfNums a5)] _ rfl (by rfl) (by rfl) rurl_size (one_url ⟨a1, a2, a3, a4, a5⟩) (by simp [UL.val, UL.zero]) ?_; intro w9 hO9; have HO9 := Lib.hid (hO9.cast (L' := [(g13, .cells [Value.string (strOfNums a1), Value.string (strOfNums a2), Value.int .i64 a3, Value.string (strOfNums a4), Value.string (strOfNums a5)].toArray 42), (g11, .cells [Value.string (strOfNums a1), Value.string (strOfNums a2), Value.int .i64 a3, Value.string (strOfNums a4), Value.string (strOfNums a5)].toArray 25)]) rfl); clear hO9 HO8) | (refine wl_g (by rfl) ?_; refine wl_load rfl _ _ rfl g11 0 [Value.string (strOfNums a1), Value.string (strOfNums a2), Value.int .i64 a3, Value.string (strOfNums a4), Value.string (strOfNums a5)] [Value.string (strOfNums a1), Value.string (strOfNums a2), Value.int .i64 a3, Value.string (strOfNums a4), Value.string (strOfNums a5)] _ (HO9.out.heap (.tail _ (.head _))) (by rfl) _ Tryd.underlying25 rfl url_size (by rfl) ?_) | (refine wl_g (by rfl) ?_; refine wl_load rfl _ _ rfl g13 0 [Value.string (strOfNums a1), Value.string (strOfNums a2), Value.int .i64 a3, Value.string (strOfNums a4), Value.string (strOfNums a5)] [Value.string (strOfNums a1), Value.string (strOfNums a2), Value.int .i64 a3, Value.string (strOfNums a4), Value.string (strOfNums a5)] _ (HO9.out.heap (.head _)) (by rfl) _ Tryd.underlying42 rfl rurl_size (by rfl) ?_))
        with_reducible refine (purl_c HO9.out n).mono ?_
        rintro e w10 ⟨rfl, hO10⟩
        have HO10 := Lib.hid hO10; clear hO10 HO9
        go_wp2_with fail
        with_reducible refine (P3.out _ _ HO10.out).mono ?_
        rintro e w11 ⟨rfl, hO11⟩
        have HO11 := Lib.hid hO11; clear hO11 HO10 P3
        simp only [Option.getD_none, Option.isSome_none, Option.getD_some, Option.isSome_some, UL.val, UL.zero]
        go_wp2_with (first | (refine wl_alloc rfl _ rfl HO11.out _ (alloc_url _) ?_; intro g15 w12 hO12; have HO12 := Lib.hid hO12; clear hO12 HO11) | (refine wl_store rfl _ _ _ rfl HO12.out 0 g15 0 _ [Value.string (strOfNums b1), Value.string (strOfNums b2), Value.int .i64 b3, Value.string (strOfNums b4), Value.string (strOfNums b5)] _ rfl (by rfl) (by rfl) url_size (one_url ⟨b1, b2, b3, b4, b5⟩) (by simp [UL.val, UL.zero]) ?_; intro w13 hO13; have HO13 := Lib.hid (hO13.cast (L' := [(g15, .cells [Value.string (strOfNums b1), Value.string (strOfNums b2), Value.int .i64 b3, Value.string (strOfNums b4), Value.string (strOfNums b5)].toArray 25), (g13, .cells [Value.string (strOfNums a1), Value.string (strOfNums a2), Value.int .i64 a3, Value.string (strOfNums a4), Value.string (strOfNums a5)].toArray 42), (g11, .cells [Value.string (strOfNums a1), Value.string (strOfNums a2), Value.int .i64 a3, Value.string (strOfNums a4), Value.string (strOfNums a5)].toArray 25)]) rfl); clear hO13 HO12) | (refine wl_load rfl _ _ rfl g15 0 [Value.string (strOfNums b1), Value.string (strOfNums b2), Value.int .i64 b3, Value.string (strOfNums b4), Value.string (strOfNums b5)] [Value.string (strOfNums b1), Value.string (strOfNums b2), Value.int .i64 b3, Value.string (strOfNums b4), Value.string (strOfNums b5)] _ (HO13.out.heap (.head _)) (by rfl) _ Tryd.underlying25 rfl url_size (by rfl) ?_))
        with_reducible refine (Q1.out _ _ HO13.out).mono ?_
        rintro e w14 ⟨rfl, hO14⟩
        have HO14 := Lib.hid hO14; clear hO14 HO13 Q1
        simp only [Option.getD_none, Option.isSome_none, Option.getD_some, Option.isSome_some, UL.val, UL.zero]
        go_wp2_with (first | (refine wl_alloc rfl _ rfl HO14.out _ (alloc_url _) ?_; intro g17 w15 hO15; have HO15 := Lib.hid hO15; clear hO15 HO14) | (refine wl_store rfl _ _ _ rfl HO15.out 0 g17 0 _ [Value.string (strOfNums c1), Value.string (strOfNums c2), Value.int .i64 c3, Value.string (strOfNums c4), Value.string (strOfNums c5)] _ rfl (by rfl) (by rfl) url_size (one_url ⟨c1, c2, c3, c4, c5⟩) (by simp [UL.val, UL.zero]) ?_; intro w16 hO16; have HO16 := Lib.hid (hO16.cast (L' := [(g17, .cells [Value.string (strOfNums c1), Value.string (strOfNums c2), Value.int .i64 c3, Value.string (strOfNums c4), Value.string (strOfNums c5)].toArray 25), (g15, .cells [Value.string (strOfNums b1), Value.string (strOfNums b2), Value.int .i64 b3, Value.string (strOfNums b4), Value.string (strOfNums b5)].toArray 25), (g13, .cells [Value.string (strOfNums a1), Value.string (strOfNums a2), Value.int .i64 a3, Value.string (strOfNums a4), Value.string (strOfNums a5)].toArray 42), (g11, .cells [Value.string (strOfNums a1), Value.string (strOfNums a2), Value.int .i64 a3, Value.string (strOfNums a4), Value.string (strOfNums a5)].toArray 25)]) rfl); clear hO16 HO15) | (refine wl_load rfl _ _ rfl g15 0 [Value.string (strOfNums b1), Value.string (strOfNums b2), Value.int .i64 b3, Value.string (strOfNums b4), Value.string (strOfNums b5)] [Value.string (strOfNums b1), Value.string (strOfNums b2), Value.int .i64 b3, Value.string (strOfNums b4), Value.string (strOfNums b5)] _ (HO16.out.heap (.tail _ (.head _))) (by rfl) _ Tryd.underlying25 rfl url_size (by rfl) ?_))
        with_reducible refine (Q2.out _ _ HO16.out).mono ?_
        rintro e w17 ⟨rfl, hO17⟩
        have HO17 := Lib.hid hO17; clear hO17 HO16 Q2
        simp only [Option.getD_none, Option.isSome_none, Option.getD_some, Option.isSome_some, UL.val, UL.zero]
        go_wp2_with (first | (refine wl_alloc rfl _ rfl HO17.out _ (alloc_rurl _) ?_; intro g18 w18 hO18; have HO18 := Lib.hid hO18; clear hO18 HO17) | (refine wl_store rfl _ _ _ rfl HO18.out 0 g18 0 _ [Value.string (strOfNums c1), Value.string (strOfNums c2), Value.int .i64 c3, Value.string (strOfNums c4), Value.string (strOfNums c5)] _ rfl (by rfl) (by rfl) rurl_size (one_url ⟨c1, c2, c3, c4, c5⟩) (by simp [UL.val, UL.zero]) ?_; intro w19 hO19; have HO19 := Lib.hid (hO19.cast (L' := [(g18, .cells [Value.string (strOfNums c1), Value.string (strOfNums c2), Value.int .i64 c3, Value.string (strOfNums c4), Value.string (strOfNums c5)].toArray 42), (g17, .cells [Value.string (strOfNums c1), Value.string (strOfNums c2), Value.int .i64 c3, Value.string (strOfNums c4), Value.string (strOfNums c5)].toArray 25), (g15, .cells [Value.string (strOfNums b1), Value.string (strOfNums b2), Value.int .i64 b3, Value.string (strOfNums b4), Value.string (strOfNums b5)].toArray 25), (g13, .cells [Value.string (strOfNums a1), Value.string (strOfNums a2), Value.int .i64 a3, Value.string (strOfNums a4), Value.string (strOfNums a5)].toArray 42), (g11, .cells [Value.string (strOfNums a1), Value.string (strOfNums a2), Value.int .i64 a3, Value.string (strOfNums a4), Value.string (strOfNums a5)].toArray 25)]) rfl); clear hO19 HO18) | (refine wl_g (by rfl) ?_; refine wl_load rfl _ _ rfl g17 0 [Value.string (strOfNums c1), Value.string (strOfNums c2), Value.int .i64 c3, Value.string (strOfNums c4), Value.string (strOfNums c5)] [Value.string (strOfNums c1), Value.string (strOfNums c2), Value.int .i64 c3, Value.string (strOfNums c4), Value.string (strOfNums c5)] _ (HO19.out.heap (.tail _ (.head _))) (by rfl) _ Tryd.underlying25 rfl url_size (by rfl) ?_) | (refine wl_g (by rfl) ?_; refine wl_load rfl _ _ rfl g18 0 [Value.string (strOfNums c1), Value.string (strOfNums c2), Value.int .i64 c3, Value.string (strOfNums c4), Value.string (strOfNums c5)] [Value.string (strOfNums c1), Value.string (strOfNums c2), Value.int .i64 c3, Value.string (strOfNums c4), Value.string (strOfNums c5)] _ (HO19.out.heap (.head _)) (by rfl) _ Tryd.underlying42 rfl rurl_size (by rfl) ?_))
        refine wp_region_lin (fun w' => w'.heap[g11]? = some (.cells [Value.string (strOfNums a1), Value.string (strOfNums a2), Value.int .i64 a3, Value.string (strOfNums a4), Value.string (strOfNums a5)].toArray 25) ∧ w'.heap[g13]? = some (.cells [Value.string (strOfNums a1), Value.string (strOfNums a2), Value.int .i64 a3, Value.string (strOfNums a4), Value.string (strOfNums a5)].toArray 42) ∧ w'.heap[g15]? = some (.cells [Value.string (strOfNums b1), Value.string (strOfNums b2), Value.int .i64 b3, Value.string (strOfNums b4), Value.string (strOfNums b5)].toArray 25)) 31 [(0, true), (1, true), (2, true), (4, true), (3, false), (5, false), (6, true), (7, true), (8, true), (10, true), (9, false), (11, false), (12, true), (13, true), (14, true), (15, true), (17, true), (16, false), (18, false), (19, true), (20, true), (21, true), (22, true), (23, true), (25, true), (26, true), (24, false), (27, false), (28, true), (29, true), (30, true)] (by kernel_rfl) (by decide +kernel) (fun _ _ d _ _ h => by cases d <;> exact h) ⟨HO19.out.drew.heap (.tail _ (.tail _ (.tail _ (.tail _ (.head _))))), HO19.out.drew.heap (.tail _ (.tail _ (.tail _ (.head _)))), HO19.out.drew.heap (.tail _ (.tail _ (.head _)))⟩ ?_
        simp only [List.map_cons, List.map_nil, pick_zero, pick_succ, List.drop_succ_cons, List.drop_zero]
        refine lin_q ?_ rfl ?_ ?_; rotate_left 1; (focus (rintro w' -; go_simp; first | done | with_reducible rfl | (trace_state; fail)))
        simp only [Act.put, List.setIfInBounds_toArray, List.set_cons_zero, List.set_cons_succ]
        refine lin_q ?_ rfl ?_ ?_; rotate_left 1; (focus (rintro w' -; go_simp; first | done | with_reducible rfl | (trace_state; fail)))
        simp only [Act.put, List.setIfInBounds_toArray, List.set_cons_zero, List.set_cons_succ]
        refine lin_loadG (by rfl) _ _ rfl g11 0 [Value.string (strOfNums a1), Value.string (strOfNums a2), Value.int .i64 a3, Value.string (strOfNums a4), Value.string (strOfNums a5)] [Value.string (strOfNums a1), Value.string (strOfNums a2), Value.int .i64 a3, Value.string (strOfNums a4), Value.string (strOfNums a5)] 25 (by rfl) _ Tryd.underlying25 rfl url_size (by rfl) (fun w' ew => ew.1) ?_
        simp only [Act.put, List.setIfInBounds_toArray, List.set_cons_zero, List.set_cons_succ]
        refine lin_loadG (by rfl) _ _ rfl g13 0 [Value.string (strOfNums a1), Value.string (strOfNums a2), Value.int .i64 a3, Value.string (strOfNums a4), Value.string (strOfNums a5)] [Value.string (strOfNums a1), Value.string (strOfNums a2), Value.int .i64 a3, Value.string (strOfNums a4), Value.string (strOfNums a5)] 42 (by rfl) _ Tryd.underlying42 rfl rurl_size (by rfl) (fun w' ew => ew.2.1) ?_
        simp only [Act.put, List.setIfInBounds_toArray, List.set_cons_zero, List.set_cons_succ]
        refine lin_act ?_
        refine wl_g (by rfl) ?_
        refine wl_call rfl _ _ _ (by go_simp) (R1.out _ _ HO19.out.drew) ?_
        rintro e w20 ⟨rfl, hO20⟩
        refine ⟨_, rfl, LinPost.mk ⟨hO20.heap (.tail _ (.tail _ (.tail _ (.tail _ (.head _))))), hO20.heap (.tail _ (.tail _ (.tail _ (.head _)))), hO20.heap (.tail _ (.tail _ (.head _)))⟩ ?_⟩
        simp only [Act.put, List.setIfInBounds_toArray, List.set_cons_zero, List.set_cons_succ]
        refine lin_act ?_
        refine wl_g (by rfl) ?_
        refine wl_call rfl _ _ _ (by go_simp) (R2.out _ _ hO20) ?_
        rintro e w21 ⟨rfl, hO21⟩
        refine ⟨_, rfl, LinPost.mk ⟨hO21.heap (.tail _ (.tail _ (.tail _ (.tail _ (.head _))))), hO21.heap (.tail _ (.tail _ (.tail _ (.head _)))), hO21.heap (.tail _ (.tail _ (.head _)))⟩ ?_⟩
        simp only [Act.put, List.setIfInBounds_toArray, List.set_cons_zero, List.set_cons_succ]
        refine lin_g ?_ (by rfl) ?_ ?_; rotate_left 1; (focus (rintro w' -; go_simp; first | done | with_reducible rfl | (trace_state; fail)))
        simp only [Act.put, List.setIfInBounds_toArray, List.set_cons_zero, List.set_cons_succ]
        refine lin_g ?_ (by rfl) ?_ ?_; rotate_left 1; (focus (rintro w' -; go_simp; first | done | with_reducible rfl | (trace_state; fail)))
        simp only [Act.put, List.setIfInBounds_toArray, List.set_cons_zero, List.set_cons_succ]
        refine lin_loadG (by rfl) _ _ rfl g11 0 [Value.string (strOfNums a1), Value.string (strOfNums a2), Value.int .i64 a3, Value.string (strOfNums a4), Value.string (strOfNums a5)] [Value.string (strOfNums a1), Value.string (strOfNums a2), Value.int .i64 a3, Value.string (strOfNums a4), Value.string (strOfNums a5)] 25 (by rfl) _ Tryd.underlying25 rfl url_size (by rfl) (fun w' ew => ew.1) ?_
        simp only [Act.put, List.setIfInBounds_toArray, List.set_cons_zero, List.set_cons_succ]
        refine lin_loadG (by rfl) _ _ rfl g13 0 [Value.string (strOfNums a1), Value.string (strOfNums a2), Value.int .i64 a3, Value.string (strOfNums a4), Value.string (strOfNums a5)] [Value.string (strOfNums a1), Value.string (strOfNums a2), Value.int .i64 a3, Value.string (strOfNums a4), Value.string (strOfNums a5)] 42 (by rfl) _ Tryd.underlying42 rfl rurl_size (by rfl) (fun w' ew => ew.2.1) ?_
        simp only [Act.put, List.setIfInBounds_toArray, List.set_cons_zero, List.set_cons_succ]
        refine lin_act ?_
        refine wl_g (by rfl) ?_
        refine wl_call rfl _ _ _ (by go_simp) (R3.out _ _ hO21) ?_
        rintro e w22 ⟨rfl, hO22⟩
        refine ⟨_, rfl, LinPost.mk ⟨hO22.heap (.tail _ (.tail _ (.tail _ (.tail _ (.head _))))), hO22.heap (.tail _ (.tail _ (.tail _ (.head _)))), hO22.heap (.tail _ (.tail _ (.head _)))⟩ ?_⟩
        simp only [Act.put, List.setIfInBounds_toArray, List.set_cons_zero, List.set_cons_succ]
        refine lin_act ?_
        refine wl_g (by rfl) ?_
        refine wl_call rfl _ _ _ (by go_simp) (R4.out _ _ hO22) ?_
        rintro e w23 ⟨rfl, hO23⟩
        refine ⟨_, rfl, LinPost.mk ⟨hO23.heap (.tail _ (.tail _ (.tail _ (.tail _ (.head _))))), hO23.heap (.tail _ (.tail _ (.tail _ (.head _)))), hO23.heap (.tail _ (.tail _ (.head _)))⟩ ?_⟩
        simp only [Act.put, List.setIfInBounds_toArray, List.set_cons_zero, List.set_cons_succ]
        refine lin_g ?_ (by rfl) ?_ ?_; rotate_left 1; (focus (rintro w' -; go_simp; first | done | with_reducible rfl | (trace_state; fail)))
        simp only [Act.put, List.setIfInBounds_toArray, List.set_cons_zero, List.set_cons_succ]
        refine lin_g ?_ (by rfl) ?_ ?_; rotate_left 1; (focus (rintro w' -; go_simp; first | done | with_reducible rfl | (trace_state; fail)))
        simp only [Act.put, List.setIfInBounds_toArray, List.set_cons_zero, List.set_cons_succ]
        refine lin_g ?_ (by rfl) ?_ ?_; rotate_left 1; (focus (rintro w' -; go_simp; first | done | with_reducible rfl | (trace_state; fail)))
        simp only [Act.put, List.setIfInBounds_toArray, List.set_cons_zero, List.set_cons_succ]
        refine lin_loadG (by rfl) _ _ rfl g11 0 [Value.string (strOfNums a1), Value.string (strOfNums a2), Value.int .i64 a3, Value.string (strOfNums a4), Value.string (strOfNums a5)] [Value.string (strOfNums a1), Value.string (strOfNums a2), Value.int .i64 a3, Value.string (strOfNums a4), Value.string (strOfNums a5)] 25 (by rfl) _ Tryd.underlying25 rfl url_size (by rfl) (fun w' ew => ew.1) ?_
        simp only [Act.put, List.setIfInBounds_toArray, List.set_cons_zero, List.set_cons_succ]
        refine lin_loadG (by rfl) _ _ rfl g13 0 [Value.string (strOfNums a1), Value.string (strOfNums a2), Value.int .i64 a3, Value.string (strOfNums a4), Value.string (strOfNums a5)] [Value.string (strOfNums a1), Value.string (strOfNums a2), Value.int .i64 a3, Value.string (strOfNums a4), Value.string (strOfNums a5)] 42 (by rfl) _ Tryd.underlying42 rfl rurl_size (by rfl) (fun w' ew => ew.2.1) ?_
        simp only [Act.put, List.setIfInBounds_toArray, List.set_cons_zero, List.set_cons_succ]
        refine lin_act ?_
        refine wl_g (by rfl) ?_
        refine wl_call rfl _ _ _ (by go_simp) (R5.out _ _ hO23) ?_
        rintro e w24 ⟨rfl, hO24⟩
        refine ⟨_, rfl, LinPost.mk ⟨hO24.heap (.tail _ (.tail _ (.tail _ (.tail _ (.head _))))), hO24.heap (.tail _ (.tail _ (.tail _ (.head _)))), hO24.heap (.tail _ (.tail _ (.head _)))⟩ ?_⟩
        simp only [Act.put, List.setIfInBounds_toArray, List.set_cons_zero, List.set_cons_succ]
        refine lin_act ?_
        refine wl_g (by rfl) ?_
        refine wl_call rfl _ _ _ (by go_simp) (R6.out _ _ hO24) ?_
        rintro e w25 ⟨rfl, hO25⟩
        refine ⟨_, rfl, LinPost.mk ⟨hO25.heap (.tail _ (.tail _ (.tail _ (.tail _ (.head _))))), hO25.heap (.tail _ (.tail _ (.tail _ (.head _)))), hO25.heap (.tail _ (.tail _ (.head _)))⟩ ?_⟩
        simp only [Act.put, List.setIfInBounds_toArray, List.set_cons_zero, List.set_cons_succ]
        refine lin_g ?_ (by rfl) ?_ ?_; rotate_left 1; (focus (rintro w' -; go_simp; first | done | with_reducible rfl | (trace_state; fail)))
        simp only [Act.put, List.setIfInBounds_toArray, List.set_cons_zero, List.set_cons_succ]
        refine lin_g ?_ (by rfl) ?_ ?_; rotate_left 1; (focus (rintro w' -; go_simp; first | done | with_reducible rfl | (trace_state; fail)))
        simp only [Act.put, List.setIfInBounds_toArray, List.set_cons_zero, List.set_cons_succ]
        refine lin_g ?_ (by rfl) ?_ ?_; rotate_left 1; (focus (rintro w' -; go_simp; first | done | with_reducible rfl | (trace_state; fail)))
        simp only [Act.put, List.setIfInBounds_toArray, List.set_cons_zero, List.set_cons_succ]
        refine lin_loadG (by rfl) _ _ rfl g11 0 [Value.string (strOfNums a1), Value.string (strOfNums a2), Value.int .i64 a3, Value.string (strOfNums a4), Value.string (strOfNums a5)] [Value.string (strOfNums a1), Value.string (strOfNums a2), Value.int .i64 a3, Value.string (strOfNums a4), Value.string (strOfNums a5)] 25 (by rfl) _ Tryd.underlying25 rfl url_size (by rfl) (fun w' ew => ew.1) ?_
        simp only [Act.put, List.setIfInBounds_toArray, List.set_cons_zero, List.set_cons_succ]
        refine lin_loadG (by rfl) _ _ rfl g15 0 [Value.string (strOfNums b1), Value.string (strOfNums b2), Value.int .i64 b3, Value.string (strOfNums b4), Value.string (strOfNums b5)] [Value.string (strOfNums b1), Value.string (strOfNums b2), Value.int .i64 b3, Value.string (strOfNums b4), Value.string (strOfNums b5)] 25 (by rfl) _ Tryd.underlying25 rfl url_size (by rfl) (fun w' ew => ew.2.2) ?_
        simp only [Act.put, List.setIfInBounds_toArray, List.set_cons_zero, List.set_cons_succ]
        refine lin_loadG (by rfl) _ _ rfl g13 0 [Value.string (strOfNums a1), Value.string (strOfNums a2), Value.int .i64 a3, Value.string (strOfNums a4), Value.string (strOfNums a5)] [Value.string (strOfNums a1), Value.string (strOfNums a2), Value.int .i64 a3, Value.string (strOfNums a4), Value.string (strOfNums a5)] 42 (by rfl) _ Tryd.underlying42 rfl rurl_size (by rfl) (fun w' ew => ew.2.1) ?_
        simp only [Act.put, List.setIfInBounds_toArray, List.set_cons_zero, List.set_cons_succ]
        refine lin_loadG (by rfl) _ _ rfl g15 0 [Value.string (strOfNums b1), Value.string (strOfNums b2), Value.int .i64 b3, Value.string (strOfNums b4), Value.string (strOfNums b5)] [Value.string (strOfNums b1), Value.string (strOfNums b2), Value.int .i64 b3, Value.string (strOfNums b4), Value.string (strOfNums b5)] 25 (by rfl) _ Tryd.underlying25 rfl url_size (by rfl) (fun w' ew => ew.2.2) ?_
        simp only [Act.put, List.setIfInBounds_toArray, List.set_cons_zero, List.set_cons_succ]
        refine lin_act ?_
        refine wl_g (by rfl) ?_
        refine wl_call rfl _ _ _ (by go_simp) (R7.out _ _ hO25) ?_
        rintro e w26 ⟨rfl, hO26⟩
        refine ⟨_, rfl, LinPost.mk ⟨hO26.heap (.tail _ (.tail _ (.tail _ (.tail _ (.head _))))), hO26.heap (.tail _ (.tail _ (.tail _ (.head _)))), hO26.heap (.tail _ (.tail _ (.head _)))⟩ ?_⟩
        simp only [Act.put, List.setIfInBounds_toArray, List.set_cons_zero, List.set_cons_succ]
        refine lin_act ?_
        refine wl_g (by rfl) ?_
        refine wl_call rfl _ _ _ (by go_simp) (R8.out _ _ hO26) ?_
        rintro e w27 ⟨rfl, hO27⟩
        refine ⟨_, rfl, LinPost.mk ⟨hO27.heap (.tail _ (.tail _ (.tail _ (.tail _ (.head _))))), hO27.heap (.tail _ (.tail _ (.tail _ (.head _)))), hO27.heap (.tail _ (.tail _ (.head _)))⟩ ?_⟩
        simp only [Act.put, List.setIfInBounds_toArray, List.set_cons_zero, List.set_cons_succ]
        refine lin_g ?_ (by rfl) ?_ ?_; rotate_left 1; (focus (rintro w' -; go_simp; first | done | with_reducible rfl | (trace_state; fail)))
        simp only [Act.put, List.setIfInBounds_toArray, List.set_cons_zero, List.set_cons_succ]
        refine lin_g ?_ (by rfl) ?_ ?_; rotate_left 1; (focus (rintro w' -; go_simp; first | done | with_reducible rfl | (trace_state; fail)))
        simp only [Act.put, List.setIfInBounds_toArray, List.set_cons_zero, List.set_cons_succ]
        refine lin_q ?_ rfl ?_ ?_; rotate_left 1; (focus (rintro w' -; go_simp; first | done | with_reducible rfl | (trace_state; fail)))
        simp only [Act.put, List.setIfInBounds_toArray, List.set_cons_zero, List.set_cons_succ]
        refine lin_nil ?_
        go_wp2_with fail
        with_reducible refine (wakes7_c HVV.out hO27).mono ?_
        rintro e w40 ⟨rfl, hO40⟩
        have HO40 := Lib.hid hO40; clear hO40
        go_wp2
        go_ret
        exact HO40.out.yes rfl
set_option maxRecDepth 100000 in
theorem uRLTells_contract (H : Type) (enc : TypeId × Value → H) (W : World) (base : Nat) (args : Array Value) (ds gs : List (DataW H)) (before : List MemPlace)
    (hval : ∀ (j : Nat) t v, Tryd.f5.params[j]? = some t → args[j]? = some v → Value.okWide Tryd.prog W .any base t v)
    (hW : DataW.Whole enc Tryd.prog Tryd.f5.params.toList Rows.uRLTellsSpec.vars false W args.toList ds gs before) (hk : Rows.uptoSmall H (ds ++ gs) = true) (hV0 : VarsOk W) :
    Calls Tryd.prog 5 args W fun e W' => ∃ v, e = .returned v ∧ Rows.uRLTellsSpec.post enc Tryd.prog Tryd.f5 false true false false W args v W' := by
  have hW' := hW
  obtain ⟨p, q, hA0, hV, rfl, hfz, hnd⟩ := hW
  have hA : DataW.TrodAll enc Tryd.prog W 0 (fun _ => true) true Tryd.f5.params.toList args.toList ds p := hA0
  rw [Tryd.params5] at hA hval
  obtain ⟨v0, vs0, d0, ds0, p0, q0, hargs, rfl, rfl, h0, r0⟩ := trodAll_cons hA
  obtain ⟨v1, vs1, d1, ds1, p1, q1, rfl, rfl, rfl, h1, r1⟩ := trodAll_cons r0
  obtain ⟨v2, vs2, d2, ds2, p2, q2, rfl, rfl, rfl, h2, r2⟩ := trodAll_cons r1
  obtain ⟨v3, vs3, d3, ds3, p3, q3, rfl, rfl, rfl, h3, r3⟩ := trodAll_cons r2
  obtain ⟨v4, vs4, d4, ds4, p4, q4, rfl, rfl, rfl, h4, r4⟩ := trodAll_cons r3
  obtain ⟨rfl, rfl, rfl⟩ := trodAll_nil r4
  obtain rfl : args = #[v0, v1, v2, v3, v4] := by cases args; simp_all
  obtain ⟨rfl, rfl⟩ := trodVars_none hV
  obtain ⟨a0, rfl, rfl, rfl, w0⟩ := open_string Tryd.underlying9 (hval 0 9 v0 rfl rfl) h0
  obtain ⟨a1, rfl, rfl, rfl, w1⟩ := open_string Tryd.underlying9 (hval 1 9 v1 rfl rfl) h1
  obtain ⟨a2, rfl, rfl, rfl, w2⟩ := open_int Tryd.underlying3 (hval 2 3 v2 rfl rfl) h2
  obtain ⟨a3, rfl, rfl, rfl, w3⟩ := open_int Tryd.underlying3 (hval 3 3 v3 rfl rfl) h3
  obtain ⟨a4, rfl, rfl, rfl⟩ := open_bool Tryd.underlying4 (hval 4 4 v4 rfl rfl) h4
  have z0 : a0.size ≤ 1048576 := by
    have hb : _ ≤ 1048576 := of_decide_eq_true hk
    simp only [List.append_nil, List.cons_append, List.nil_append, Rows.uptoBulkAll, Rows.uptoBulk] at hb
    have e : a0.data.toList.length = a0.size := by simp
    omega
  have z1 : a1.size ≤ 1048576 := by
    have hb : _ ≤ 1048576 := of_decide_eq_true hk
    simp only [List.append_nil, List.cons_append, List.nil_append, Rows.uptoBulkAll, Rows.uptoBulk] at hb
    have e : a1.data.toList.length = a1.size := by simp
    omega
  clear hA0
  refine (uRLTells_walk hV0 a0 z0 a1 z1 a2 w2 a3 w3 a4).mono fun e W' ⟨he, bel⟩ => ?_
  subst he
  exact ⟨_, rfl, _, _, _, [], _, [], hW', trodAll_mk1 (shut_bool Tryd.underlying4 _), (trodAll_cons_mk (shut_string Tryd.underlying9 w0) (trodAll_cons_mk (shut_string Tryd.underlying9 w1) (trodAll_cons_mk (shut_int Tryd.underlying3 w2) (trodAll_cons_mk (shut_int Tryd.underlying3 w3) (trodAll_cons_mk (shut_bool Tryd.underlying4 a4) trodAll_mk0))))), rfl, bel.frame _, fun h => by cases h⟩

theorem uRLTells_met (os : Os) : laidMet Tryd.prog Rows.uRLTellsUptoRow.laid ((laidWorld os).forCall (fun _ _ => 0) ⟨#[], #[.string .empty, .string .empty, .int .i64 0, .int .i64 0, .bool false], []⟩).memory :=
  laidMet_of_run' 8 (by kernel_rfl) (by kernel_rfl)
theorem uRLTells_reads (os : Os) {H : Type} (enc : TypeId × Value → H) : ∃ places, DataW.whole enc Tryd.prog ((laidWorld os).forCall (fun _ _ => 0) ⟨#[], #[.string .empty, .string .empty, .int .i64 0, .int .i64 0, .bool false], []⟩).memory Tryd.f5.params.toList Rows.uRLTellsSpec.vars false (#[.string .empty, .string .empty, .int .i64 0, .int .i64 0, .bool false] : Array Value).toList 8 = some ([.lit (.string []), .lit (.string []), .lit (.int .i64 0), .lit (.int .i64 0), .lit (.bool false)], [], places) :=
  ⟨[], by kernel_rfl⟩
set_option maxRecDepth 100000 in
theorem uRLTells_lifted (os : Os) (started : os.Started) (H : Type) (enc : TypeId × Value → H) (F : Stop.Interp) :
    ReturnsInHanded {} Tryd.checked os 5 .any ((Rows.OpenSpec.upto Rows.uRLTellsSpec).preRow enc Tryd.prog Tryd.f5 Rows.uRLTellsUptoRow.domain false Rows.uRLTellsUptoRow.laid) (((Rows.OpenSpec.upto Rows.uRLTellsSpec).at F).post enc Tryd.prog Tryd.f5 false true false false) := by
  obtain ⟨places, hx⟩ := uRLTells_reads os enc
  refine returnsInHanded_of_row (C := Tryd.checked) (s := Rows.OpenSpec.upto Rows.uRLTellsSpec) own_none started (by kernel_rfl) Tryd.func5
    (witness_row_at (enc := enc) (C := Tryd.checked) false (laidWorld os) #[.string .empty, .string .empty, .int .i64 0, .int .i64 0, .bool false] rfl (by kernel_rfl) (by kernel_rfl) (by kernel_rfl)
      (OpenSpec.preRow_of_cond 8 hx (by kernel_rfl) (fun k hk => by cases hk; kernel_rfl) (by kernel_rfl) (uRLTells_met os))) ?_
  intro W base args ds gs before hval hW _ hcond _ hL hsh _
  exact uRLTells_contract H enc W base args ds gs before hval hW (hcond _ rfl) (vars_of hL hsh)
theorem uRLTells_said : Rows.URLTellsUptoSaid :=
  OpenClaim.holds_of_cond 5 Tryd.f5 rfl rfl rfl rfl rfl rfl rfl ⟨rfl, rfl, rfl, rfl, rfl⟩ rfl rfl rfl rfl rfl (by kernel_rfl) Tryd.func5 (by kernel_rfl)
    (of_decide_eq_true (by kernel_rfl)) (by unfold Func.isWrapper; first | (rw [if_pos (by decide +kernel)]; kernel_rfl) | (rw [if_neg (by decide +kernel)]; exact ⟨rfl, rfl⟩))
    (fun os started H enc _ F => by rw [OpenClaim.pre_eq_preRow]; exact uRLTells_lifted os started H enc F)
theorem uRLTells_plain (f : FuncId) (fn : Func) (hf : Tryd.pinned.checked.prog.funcNamed "postilion/postilionlaw07.URLTells" = some f) (hfn : Tryd.pinned.checked.prog.funcs[f]? = some fn) :
    false = Tryd.pinned.checked.prog.looks [] ∧ ∀ (j : Nat) t, fn.params[j]? = some t → Tryd.pinned.checked.prog.wantsStandIn t = false := by
  obtain rfl : f = 5 := Option.some.inj ((show Tryd.prog.funcNamed "postilion/postilionlaw07.URLTells" = some 5 by kernel_rfl).symm.trans hf) |>.symm
  obtain rfl : fn = Tryd.f5 := (Option.some.inj (Tryd.func5.symm.trans hfn)).symm
  refine ⟨by kernel_rfl, fun j t ht => ?_⟩
  rw [Tryd.params5] at ht
  have hall : ∀ t ∈ ([9, 9, 3, 3, 4] : List TypeId), Tryd.prog.wantsStandIn t = false := List.forall_mem_cons.2 ⟨by kernel_rfl, List.forall_mem_cons.2 ⟨by kernel_rfl, List.forall_mem_cons.2 ⟨by kernel_rfl, List.forall_mem_cons.2 ⟨by kernel_rfl, List.forall_mem_cons.2 ⟨by kernel_rfl, fun _ h => by cases h⟩⟩⟩⟩⟩
  exact hall t (by simpa using Array.mem_of_getElem? ht)
/-- The statement: the card. -/
theorem uRLTells_proved : Rows.URLTellsUptoCardSaid :=
  Claim7.holds_tied_plain_at .later [] _ _ _ _ uRLTells_said (fun _ h => by cases h) (by kernel_rfl) (fun _ h => by cases h) uRLTellsUpto_row_tie rfl ⟨rfl, rfl⟩ (by kernel_rfl) rfl uRLTells_plain (by kernel_rfl)
end Go.Proofs.YtakihnmajgmnpaaDoor

