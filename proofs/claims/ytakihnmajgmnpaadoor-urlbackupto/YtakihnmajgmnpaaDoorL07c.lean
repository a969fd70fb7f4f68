/-
  URLBack: for any two texts of at most 1,048,576 letters in all, any number: a URL's print is a URL that prints so, of the same origin, also with something behind a number sign; its own path and query lead to it.
  Conditions: the statement's own bound (the arguments hold together at most 1,048,576 values and letters).
-/
import Derived.Test.YtakihnmajgmnpaaDoorL07b0
import Derived.Test.YtakihnmajgmnpaaDoorVars
import Derived.Test.YtakihnmajgmnpaaDoorUrl10
namespace Go.Proofs.YtakihnmajgmnpaaDoor
set_option linter.unusedVariables false
set_option linter.unusedSimpArgs false
set_option maxRecDepth 20000
open Go.ChangeShapes Go.WideShapes Go.ChangeAt Go.RowKit
open Go.ChangeMaps (open_string shut_string)

set_option maxRecDepth 100000 in
set_option maxHeartbeats 16000000 in
theorem uRLBack_walk {W : World} (hV : VarsOk W) (s0 : ByteArray) (hs : s0.size ≤ 1048576) (n : Int) (wn : (Lit.int .i64 n).wf = true) (fr : ByteArray) (hf : fr.size ≤ 1048576) :
    Calls Tryd.prog 6 #[.string s0, .int .i64 n, .string fr] W (Yes W) := by
  have HO := Lib.hid (Own.start W)
  have HVV := Lib.hid hV
  clear hV
  have hz := podd_size n s0
  have p0 := podd_c HO.out n wn s0 (by omega)
  generalize podd n s0 = s at *
  have P0 := Lib.hid p0
  have hnorm : ∀ u, parseI (sb s) = some u → u.Norm := fun u h => parseI_norm (byt_sb s) h
  have HNORM := Lib.hid hnorm
  have p1 : ∀ (w' : World) (R' : Blks), Own W w' R' → _ := fun w' R' h => uparse_c HVV.out h s (by omega)
  obtain ⟨o, ho⟩ : ∃ o, parseI (sb s) = o := ⟨_, rfl⟩
  rw [ho] at p1 HNORM
  have P1 := Lib.hid p1; have HF := Lib.hid hf
  clear p0 p1 ho hz hs hf wn hnorm
  go_enter Tryd.func6, Tryd.ntmps6
  go_wp2_with fail
  with_reducible refine P0.out.mono ?_
  rintro e w1 ⟨rfl, hO1⟩
  have HO1 := Lib.hid hO1; clear hO1 HO P0
  go_wp2_with fail
  with_reducible refine (P1.out _ _ HO1.out).mono ?_
  rintro e w2 ⟨rfl, hO2⟩
  have HO2 := Lib.hid hO2; clear hO2 HO1 P1
  cases o with
  | none =>
    simp only [Option.getD_none, Option.isSome_none, Option.getD_some, Option.isSome_some, UL.val, UL.zero]
    go_wp2_with (first | (refine wl_alloc rfl _ rfl HO2.out _ (alloc_url _) ?_; intro g7 w3 hO3; have HO3 := Lib.hid hO3; clear hO3 HO2) | (refine wl_store rfl _ _ _ rfl HO3.out 0 g7 0 _ [Value.string (⟨#[]⟩), Value.string (⟨#[]⟩), Value.int .i64 0, Value.string (⟨#[]⟩), Value.string (⟨#[]⟩)] _ rfl (by rfl) (by rfl) url_size (one_url UL.zero) (by simp [UL.val, UL.zero]) ?_; intro w4 hO4; have HO4 := Lib.hid (hO4.cast (L' := [(g7, .cells [Value.string (⟨#[]⟩), Value.string (⟨#[]⟩), Value.int .i64 0, Value.string (⟨#[]⟩), Value.string (⟨#[]⟩)].toArray 25)]) rfl); clear hO4 HO3) | (refine wl_load rfl _ _ rfl g7 0 [Value.string (⟨#[]⟩), Value.string (⟨#[]⟩), Value.int .i64 0, Value.string (⟨#[]⟩), Value.string (⟨#[]⟩)] [Value.string (⟨#[]⟩), Value.string (⟨#[]⟩), Value.int .i64 0, Value.string (⟨#[]⟩), Value.string (⟨#[]⟩)] _ (HO4.out.heap (.head _)) (by rfl) _ Tryd.underlying25 rfl url_size (by rfl) ?_))
    with_reducible refine (wakes7_c HVV.out HO4.out).mono ?_
    rintro e w90 ⟨rfl, hO90⟩
    have HO90 := Lib.hid hO90; clear hO90 HO4
    go_wp2
    go_ret
    exact HO90.out.yes rfl
  | some u =>
    have hN := HNORM.out _ rfl
    obtain ⟨pr, hpr⟩ := hN.pathOk.head
    have hself := joinI_self hN
    obtain ⟨a1, a2, a3, a4, a5⟩ := u
    simp only at hpr hself
    have hB : Byt (printI ⟨a1, a2, a3, a4, a5⟩) := fun x hx => by have := printI_ascii hN x hx; omega
    have hOB := originI_byt hN.fine
    have hsh := hN.fine.short
    have hlens := hN.fine.lens
    simp only at hlens
    have hp0 := parseI_print hN (f := []) (.inl rfl)
    rw [List.append_nil] at hp0
    have hpf := parseI_print hN (f := 35 :: sb fr) (.inr ⟨_, rfl⟩)
    have hTs : (strOfNums (printI ⟨a1, a2, a3, a4, a5⟩)).size ≤ 40 := by rw [strOfNums_size]; exact hsh
    have hOs : (strOfNums (originI ⟨a1, a2, a3, a4, a5⟩)).size ≤ (strOfNums (printI ⟨a1, a2, a3, a4, a5⟩)).size := by rw [strOfNums_size, strOfNums_size]; unfold printI; simp
    have hcut : (((strOfNums (printI ⟨a1, a2, a3, a4, a5⟩)).extract 0 (strOfNums (originI ⟨a1, a2, a3, a4, a5⟩)).size).toList == (strOfNums (originI ⟨a1, a2, a3, a4, a5⟩)).toList) = true := by
      rw [beq_sb, sb_extract, sb_str hB, sb_str hOB, strOfNums_size]
      unfold printI
      simp
    have hj : ∀ (w' : World) (R' : Blks), a4.getD 1 0 ≠ 47 → Own W w' R' → Calls Tryd.prog 13 #[.agg (UL.mk a1 a2 a3 a4 a5).val.toArray, .string (strOfNums a4 ++ strOfNums a5)] w' (GotE W R' (some ⟨a1, a2, a3, a4, a5⟩)) := by
      intro w' R' h47 h
      have := ujoin_c HVV.out h ⟨a1, a2, a3, a4, a5⟩ hN.fine.half (strOfNums a4 ++ strOfNums a5) (by rw [ByteArray.size_append, strOfNums_size, strOfNums_size]; omega)
      rw [sb_append, sb_str hN.fine.pathB, sb_str hN.fine.queryB, hself h47] at this
      exact this
    have q1 : ∀ (w' : World) (R' : Blks), Own W w' R' → _ := fun w' R' h => uprint_c HVV.out h _ hN.fine
    have q2 : ∀ (w' : World) (R' : Blks), Own W w' R' → _ := fun w' R' h => uparse_c HVV.out h (strOfNums (printI ⟨a1, a2, a3, a4, a5⟩)) (by omega)
    rw [sb_str hB, hp0] at q2
    have q3 : ∀ (w' : World) (R' : Blks), Own W w' R' → _ := fun w' R' h => usame_c HVV.out h _ _ hN.fine.half hN.fine.half
    rw [decide_eq_true (rfl : originI ⟨a1, a2, a3, a4, a5⟩ = originI ⟨a1, a2, a3, a4, a5⟩)] at q3
    have q4 : ∀ (w' : World) (R' : Blks), Own W w' R' → _ := fun w' R' h => uorigin_c HVV.out h _ hN.fine.half
    have hfr := HF.out
    have q5 : ∀ (w' : World) (R' : Blks), Own W w' R' → _ := fun w' R' h => uparse_c HVV.out h (strOfNums (printI ⟨a1, a2, a3, a4, a5⟩) ++ ⟨#[35]⟩ ++ fr) (by have e35 : (⟨#[35]⟩ : ByteArray).size = 1 := rfl; rw [ByteArray.size_append, ByteArray.size_append, e35]; omega)
    have e35 : sb ⟨#[35]⟩ = [35] := rfl
    rw [sb_append, sb_append, sb_str hB, e35, List.append_assoc, List.singleton_append, hpf] at q5
    simp only [UL.val] at hj q1 q3 q4
    have hsb4 : sb (strOfNums a4) = a4 := sb_str hN.fine.pathB
    have hsz4 : (strOfNums a4).size = a4.length := strOfNums_size a4
    have i0 : ∀ w' : World, _ := fun w' => index_sb0 w' (strOfNums a4) (by rw [hsz4, hpr]; simp)
    rw [hsb4] at i0
    have h40 : a4.getD 0 0 = 47 := by rw [hpr]; rfl
    rw [h40] at i0
    have i1 : ∀ w' : World, 1 < a4.length → _ := fun w' h => index_sb1 w' (strOfNums a4) (by rw [hsz4]; exact h)
    rw [hsb4] at i1
    have h4pos : 1 ≤ a4.length := by rw [hpr]; simp
    have h45 : a4.length ≤ 40 ∧ a5.length ≤ 40 := hlens
    have hsz5 : (strOfNums a5).size = a5.length := strOfNums_size a5
    obtain ⟨TP, hTP⟩ : ∃ TP, strOfNums (printI ⟨a1, a2, a3, a4, a5⟩) = TP := ⟨_, rfl⟩
    obtain ⟨OP, hOP⟩ : ∃ OP, strOfNums (originI ⟨a1, a2, a3, a4, a5⟩) = OP := ⟨_, rfl⟩
    rw [hTP] at hTs hOs hcut q1 q2 q5
    rw [hOP] at hOs hcut q4
    have t1 : ¬ ((40 : Int) < TP.size) := by omega
    have t2 : ¬ (((strOfNums a4).size : Int) < 1) := by rw [hsz4]; omega
    have t3 : ¬ ((TP.size : Int) < OP.size) := by omega
    have t4 : (OP.size : Int) ≤ TP.size := by omega
    have t5 : ¬ (9223372036854775807 < TP.size + 1) := by omega
    have t6 : ¬ (9223372036854775807 < TP.size + 1 + fr.size) := by omega
    have t7 : ¬ (9223372036854775807 < (strOfNums a4).size + (strOfNums a5).size) := by rw [hsz4, hsz5]; omega
    have QJ := Lib.hid hj; have Q1 := Lib.hid q1; have Q2 := Lib.hid q2; have Q3 := Lib.hid q3; have Q4 := Lib.hid q4; have Q5 := Lib.hid q5; have I0 := Lib.hid i0; have I1 := Lib.hid i1; have HS4 := Lib.hid hsz4
    clear hN hpr hself hB hOB hsh hlens hp0 hpf hTs hOs hj q1 q2 q3 q4 q5 i0 i1 hsb4 hsz4 hsz5 h40 h4pos h45 hTP hOP e35 hfr HNORM HF
    simp only [Option.getD_none, Option.isSome_none, Option.getD_some, Option.isSome_some, UL.val, UL.zero]
    go_wp2_with (first | (refine wl_alloc rfl _ rfl HO2.out _ (alloc_url _) ?_; intro g7 w3 hO3; have HO3 := Lib.hid hO3; clear hO3 HO2) | (refine wl_store rfl _ _ _ rfl HO3.out 0 g7 0 _ [Value.string (strOfNums a1), Value.string (strOfNums a2), Value.int .i64 a3, Value.string (strOfNums a4), Value.string (strOfNums a5)] _ rfl (by rfl) (by rfl) url_size (one_url ⟨a1, a2, a3, a4, a5⟩) (by simp [UL.val, UL.zero]) ?_; intro w4 hO4; have HO4 := Lib.hid (hO4.cast (L' := [(g7, .cells [Value.string (strOfNums a1), Value.string (strOfNums a2), Value.int .i64 a3, Value.string (strOfNums a4), Value.string (strOfNums a5)].toArray 25)]) rfl); clear hO4 HO3) | (refine wl_load rfl _ _ rfl g7 0 [Value.string (strOfNums a1), Value.string (strOfNums a2), Value.int .i64 a3, Value.string (strOfNums a4), Value.string (strOfNums a5)] [Value.string (strOfNums a1), Value.string (strOfNums a2), Value.int .i64 a3, Value.string (strOfNums a4), Value.string (strOfNums a5)] _ (HO4.out.heap (.head _)) (by rfl) _ Tryd.underlying25 rfl url_size (by rfl) ?_))
    with_reducible refine (Q1.out _ _ HO4.out).mono ?_
    rintro e w5 ⟨rfl, hO5⟩
    have HO5 := Lib.hid hO5; clear hO5 HO4
    go_wp2_with fail
    with_reducible refine (Q2.out _ _ HO5.out).mono ?_
    rintro e w6 ⟨rfl, hO6⟩
    have HO6 := Lib.hid hO6; clear hO6 HO5
    simp only [Option.getD_none, Option.isSome_none, Option.getD_some, Option.isSome_some, UL.val, UL.zero]
    go_wp2_with (first | (refine wl_alloc rfl _ rfl HO6.out _ (alloc_url _) ?_; intro g10 w7 hO7; have HO7 := Lib.hid hO7; clear hO7 HO6) | (refine wl_store rfl _ _ _ rfl HO7.out 0 g10 0 _ [Value.string (strOfNums a1), Value.string (strOfNums a2), Value.int .i64 a3, Value.string (strOfNums a4), Value.string (strOfNums a5)] _ rfl (by rfl) (by rfl) url_size (one_url ⟨a1, a2, a3, a4, a5⟩) (by simp [UL.val, UL.zero]) ?_; intro w8 hO8; have HO8 := Lib.hid (hO8.cast (L' := [(g10, .cells [Value.string (strOfNums a1), Value.string (strOfNums a2), Value.int .i64 a3, Value.string (strOfNums a4), Value.string (strOfNums a5)].toArray 25), (g7, .cells [Value.string (strOfNums a1), Value.string (strOfNums a2), Value.int .i64 a3, Value.string (strOfNums a4), Value.string (strOfNums a5)].toArray 25)]) rfl); clear hO8 HO7) | (refine wl_g (by first | rfl | (rw [decide_eq_false (Int.not_lt.2 t1)]; rfl)) ?_; refine wl_load rfl _ _ rfl g10 0 [Value.string (strOfNums a1), Value.string (strOfNums a2), Value.int .i64 a3, Value.string (strOfNums a4), Value.string (strOfNums a5)] [Value.string (strOfNums a1), Value.string (strOfNums a2), Value.int .i64 a3, Value.string (strOfNums a4), Value.string (strOfNums a5)] _ (HO8.out.heap (.head _)) (by rfl) _ Tryd.underlying25 rfl url_size (by rfl) ?_) | (refine wl_g (by first | rfl | (rw [decide_eq_false (Int.not_lt.2 t1)]; rfl)) ?_; refine wl_load rfl _ _ rfl g7 0 [Value.string (strOfNums a1), Value.string (strOfNums a2), Value.int .i64 a3, Value.string (strOfNums a4), Value.string (strOfNums a5)] [Value.string (strOfNums a1), Value.string (strOfNums a2), Value.int .i64 a3, Value.string (strOfNums a4), Value.string (strOfNums a5)] _ (HO8.out.heap (.tail _ (.head _))) (by rfl) _ Tryd.underlying25 rfl url_size (by rfl) ?_))
    with_reducible refine (Q3.out _ _ HO8.out).mono ?_
    rintro e w9 ⟨rfl, hO9⟩
    have HO9 := Lib.hid hO9; clear hO9 HO8
    have c3 : w9.cell? ⟨g7, 3, none⟩ = some (.string (strOfNums a4)) := by rw [HO9.out.cell (.tail _ (.head _))]; rfl
    have i0 := I0.out w9
    go_wp2_with (first | (refine wl_load rfl _ _ rfl g7 0 [Value.string (strOfNums a1), Value.string (strOfNums a2), Value.int .i64 a3, Value.string (strOfNums a4), Value.string (strOfNums a5)] [Value.string (strOfNums a1), Value.string (strOfNums a2), Value.int .i64 a3, Value.string (strOfNums a4), Value.string (strOfNums a5)] _ (HO9.out.heap (.tail _ (.head _))) (by rfl) _ Tryd.underlying25 rfl url_size (by rfl) ?_))
    clear c3 i0
    with_reducible refine (Q4.out _ _ HO9.out).mono ?_
    rintro e w10 ⟨rfl, hO10⟩
    have HO10 := Lib.hid hO10; clear hO10 HO9
    go_wp2_with fail
    with_reducible refine (Q5.out _ _ HO10.out).mono ?_
    rintro e w11 ⟨rfl, hO11⟩
    have HO11 := Lib.hid hO11; clear hO11 HO10
    simp only [Option.getD_none, Option.isSome_none, Option.getD_some, Option.isSome_some, UL.val, UL.zero]
    clear hcut t1 t2 t3 t4 t5 t6
    go_upto_region 14 with (first | (refine wl_alloc rfl _ rfl HO11.out _ (alloc_url _) ?_; intro g12 w12 hO12; have HO12 := Lib.hid hO12; clear hO12 HO11) | (refine wl_store rfl _ _ _ rfl HO12.out 0 g12 0 _ [Value.string (strOfNums a1), Value.string (strOfNums a2), Value.int .i64 a3, Value.string (strOfNums a4), Value.string (strOfNums a5)] _ rfl (by rfl) (by rfl) url_size (one_url ⟨a1, a2, a3, a4, a5⟩) (by simp [UL.val, UL.zero]) ?_; intro w13 hO13; have HO13 := Lib.hid (hO13.cast (L' := [(g12, .cells [Value.string (strOfNums a1), Value.string (strOfNums a2), Value.int .i64 a3, Value.string (strOfNums a4), Value.string (strOfNums a5)].toArray 25), (g10, .cells [Value.string (strOfNums a1), Value.string (strOfNums a2), Value.int .i64 a3, Value.string (strOfNums a4), Value.string (strOfNums a5)].toArray 25), (g7, .cells [Value.string (strOfNums a1), Value.string (strOfNums a2), Value.int .i64 a3, Value.string (strOfNums a4), Value.string (strOfNums a5)].toArray 25)]) rfl); clear hO13 HO12) | (refine wl_g (by rfl) ?_; refine wl_load rfl _ _ rfl g12 0 [Value.string (strOfNums a1), Value.string (strOfNums a2), Value.int .i64 a3, Value.string (strOfNums a4), Value.string (strOfNums a5)] [Value.string (strOfNums a1), Value.string (strOfNums a2), Value.int .i64 a3, Value.string (strOfNums a4), Value.string (strOfNums a5)] _ (HO13.out.heap (.head _)) (by rfl) _ Tryd.underlying25 rfl url_size (by rfl) ?_) | (refine wl_g (by rfl) ?_; refine wl_load rfl _ _ rfl g7 0 [Value.string (strOfNums a1), Value.string (strOfNums a2), Value.int .i64 a3, Value.string (strOfNums a4), Value.string (strOfNums a5)] [Value.string (strOfNums a1), Value.string (strOfNums a2), Value.int .i64 a3, Value.string (strOfNums a4), Value.string (strOfNums a5)] _ (HO13.out.heap (.tail _ (.tail _ (.head _)))) (by rfl) _ Tryd.underlying25 rfl url_size (by rfl) ?_))
    have c3 : w13.cell? ⟨g7, 3, none⟩ = some (.string (strOfNums a4)) := by rw [HO13.out.cell (.tail _ (.tail _ (.head _)))]; rfl
    have c4 : w13.cell? ⟨g7, 4, none⟩ = some (.string (strOfNums a5)) := by rw [HO13.out.cell (.tail _ (.tail _ (.head _)))]; rfl
    by_cases hl : 1 < a4.length
    · have i1 := I1.out w13 hl
      have hlI : (1 : Int) < (strOfNums a4).size := by rw [HS4.out]; omega
      by_cases h47 : a4.getD 1 0 = 47
      · rw [h47] at i1
        go_wp2_with fail
        with_reducible refine (wakes7_c HVV.out HO13.out).mono ?_
        rintro e w90 ⟨rfl, hO90⟩
        have HO90 := Lib.hid hO90; clear hO90 HO13
        go_wp2
        go_ret
        exact HO90.out.yes rfl
      · have t8 : (a4.getD 1 0 == 47) = false := beq_eq_false_iff_ne.2 h47
        generalize a4.getD 1 0 = y at *
        go_wp2_with (first | (refine wl_load rfl _ _ rfl g7 0 [Value.string (strOfNums a1), Value.string (strOfNums a2), Value.int .i64 a3, Value.string (strOfNums a4), Value.string (strOfNums a5)] [Value.string (strOfNums a1), Value.string (strOfNums a2), Value.int .i64 a3, Value.string (strOfNums a4), Value.string (strOfNums a5)] _ (HO13.out.heap (.tail _ (.tail _ (.head _)))) (by rfl) _ Tryd.underlying25 rfl url_size (by rfl) ?_))
        with_reducible refine (QJ.out _ _ h47 HO13.out).mono ?_
        rintro e w14 ⟨rfl, hO14⟩
        have HO14 := Lib.hid hO14; clear hO14 HO13
        simp only [Option.getD_none, Option.isSome_none, Option.getD_some, Option.isSome_some, UL.val, UL.zero]
        clear c3 c4
        go_wp2_with (first | (refine wl_alloc rfl _ rfl HO14.out _ (alloc_url _) ?_; intro g13 w15 hO15; have HO15 := Lib.hid hO15; clear hO15 HO14) | (refine wl_store rfl _ _ _ rfl HO15.out 0 g13 0 _ [Value.string (strOfNums a1), Value.string (strOfNums a2), Value.int .i64 a3, Value.string (strOfNums a4), Value.string (strOfNums a5)] _ rfl (by rfl) (by rfl) url_size (one_url ⟨a1, a2, a3, a4, a5⟩) (by simp [UL.val, UL.zero]) ?_; intro w16 hO16; have HO16 := Lib.hid (hO16.cast (L' := [(g13, .cells [Value.string (strOfNums a1), Value.string (strOfNums a2), Value.int .i64 a3, Value.string (strOfNums a4), Value.string (strOfNums a5)].toArray 25), (g12, .cells [Value.string (strOfNums a1), Value.string (strOfNums a2), Value.int .i64 a3, Value.string (strOfNums a4), Value.string (strOfNums a5)].toArray 25), (g10, .cells [Value.string (strOfNums a1), Value.string (strOfNums a2), Value.int .i64 a3, Value.string (strOfNums a4), Value.string (strOfNums a5)].toArray 25), (g7, .cells [Value.string (strOfNums a1), Value.string (strOfNums a2), Value.int .i64 a3, Value.string (strOfNums a4), Value.string (strOfNums a5)].toArray 25)]) rfl); clear hO16 HO15) | (refine wl_g (by rfl) ?_; refine wl_load rfl _ _ rfl g13 0 [Value.string (strOfNums a1), Value.string (strOfNums a2), Value.int .i64 a3, Value.string (strOfNums a4), Value.string (strOfNums a5)] [Value.string (strOfNums a1), Value.string (strOfNums a2), Value.int .i64 a3, Value.string (strOfNums a4), Value.string (strOfNums a5)] _ (HO16.out.heap (.head _)) (by rfl) _ Tryd.underlying25 rfl url_size (by rfl) ?_))
        with_reducible refine (Q1.out _ _ HO16.out).mono ?_
        rintro e w17 ⟨rfl, hO17⟩
        have HO17 := Lib.hid hO17; clear hO17 HO16
        go_wp2_with fail
        with_reducible refine (wakes7_c HVV.out HO17.out).mono ?_
        rintro e w90 ⟨rfl, hO90⟩
        have HO90 := Lib.hid hO90; clear hO90 HO17
        go_wp2
        go_ret
        exact HO90.out.yes rfl
    · have hlI : ¬ ((1 : Int) < (strOfNums a4).size) := by rw [HS4.out]; omega
      have h47 : a4.getD 1 0 ≠ 47 := by rw [List.getD_eq_getElem?_getD, List.getElem?_eq_none (by omega)]; decide
      go_wp2_with (first | (refine wl_load rfl _ _ rfl g7 0 [Value.string (strOfNums a1), Value.string (strOfNums a2), Value.int .i64 a3, Value.string (strOfNums a4), Value.string (strOfNums a5)] [Value.string (strOfNums a1), Value.string (strOfNums a2), Value.int .i64 a3, Value.string (strOfNums a4), Value.string (strOfNums a5)] _ (HO13.out.heap (.tail _ (.tail _ (.head _)))) (by rfl) _ Tryd.underlying25 rfl url_size (by rfl) ?_))
      with_reducible refine (QJ.out _ _ h47 HO13.out).mono ?_
      rintro e w14 ⟨rfl, hO14⟩
      have HO14 := Lib.hid hO14; clear hO14 HO13
      simp only [Option.getD_none, Option.isSome_none, Option.getD_some, Option.isSome_some, UL.val, UL.zero]
      clear c3 c4
      go_wp2_with (first | (refine wl_alloc rfl _ rfl HO14.out _ (alloc_url _) ?_; intro g13 w15 hO15; have HO15 := Lib.hid hO15; clear hO15 HO14) | (refine wl_store rfl _ _ _ rfl HO15.out 0 g13 0 _ [Value.string (strOfNums a1), Value.string (strOfNums a2), Value.int .i64 a3, Value.string (strOfNums a4), Value.string (strOfNums a5)] _ rfl (by rfl) (by rfl) url_size (one_url ⟨a1, a2, a3, a4, a5⟩) (by simp [UL.val, UL.zero]) ?_; intro w16 hO16; have HO16 := Lib.hid (hO16.cast (L' := [(g13, .cells [Value.string (strOfNums a1), Value.string (strOfNums a2), Value.int .i64 a3, Value.string (strOfNums a4), Value.string (strOfNums a5)].toArray 25), (g12, .cells [Value.string (strOfNums a1), Value.string (strOfNums a2), Value.int .i64 a3, Value.string (strOfNums a4), Value.string (strOfNums a5)].toArray 25), (g10, .cells [Value.string (strOfNums a1), Value.string (strOfNums a2), Value.int .i64 a3, Value.string (strOfNums a4), Value.string (strOfNums a5)].toArray 25), (g7, .cells [Value.string (strOfNums a1), Value.string (strOfNums a2), Value.int .i64 a3, Value.string (strOfNums a4), Value.string (strOfNums a5)].toArray 25)]) rfl); clear hO16 HO15) | (refine wl_g (by rfl) ?_; refine wl_load rfl _ _ rfl g13 0 [Value.string (strOfNums a1), Value.string (strOfNums a2), Value.int .i64 a3, Value.string (strOfNums a4), Value.string (strOfNums a5)] [Value.string (strOfNums a1), Value.string (strOfNums a2), Value.int .i64 a3, Value.string (strOfNums a4), Value.string (strOfNums a5)] _ (HO16.out.heap (.head _)) (by rfl) _ Tryd.underlying25 rfl url_size (by rfl) ?_))
      with_reducible refine (Q1.out _ _ HO16.out).mono ?_
      rintro e w17 ⟨rfl, hO17⟩
      have HO17 := Lib.hid hO17; clear hO17 HO16
      go_wp2_with fail
      with_reducible refine (wakes7_c HVV.out HO17.out).mono ?_
      rintro e w90 ⟨rfl, hO90⟩
      have HO90 := Lib.hid hO90; clear hO90 HO17
      go_wp2
      go_ret
      exact HO90.out.yes rfl
set_option maxRecDepth 100000 in
theorem uRLBack_contract (H : Type) (enc : TypeId × Value → H) (W : World) (base : Nat) (args : Array Value) (ds gs : List (DataW H)) (before : List MemPlace)
    (hval : ∀ (j : Nat) t v, Tryd.f6.params[j]? = some t → args[j]? = some v → Value.okWide Tryd.prog W .any base t v)
    (hW : DataW.Whole enc Tryd.prog Tryd.f6.params.toList Rows.uRLBackSpec.vars false W args.toList ds gs before) (hk : Rows.uptoSmall H (ds ++ gs) = true) (hV0 : VarsOk W) :
    Calls Tryd.prog 6 args W fun e W' => ∃ v, e = .returned v ∧ Rows.uRLBackSpec.post enc Tryd.prog Tryd.f6 false true false false W args v W' := by
  have hW' := hW
  obtain ⟨p, q, hA0, hV, rfl, hfz, hnd⟩ := hW
  have hA : DataW.TrodAll enc Tryd.prog W 0 (fun _ => true) true Tryd.f6.params.toList args.toList ds p := hA0
  rw [Tryd.params6] at hA hval
  obtain ⟨v0, vs0, d0, ds0, p0, q0, hargs, rfl, rfl, h0, r0⟩ := trodAll_cons hA
  obtain ⟨v1, vs1, d1, ds1, p1, q1, rfl, rfl, rfl, h1, r1⟩ := trodAll_cons r0
  obtain ⟨v2, vs2, d2, ds2, p2, q2, rfl, rfl, rfl, h2, r2⟩ := trodAll_cons r1
  obtain ⟨rfl, rfl, rfl⟩ := trodAll_nil r2
  obtain rfl : args = #[v0, v1, v2] := by cases args; simp_all
  obtain ⟨rfl, rfl⟩ := trodVars_none hV
  obtain ⟨a0, rfl, rfl, rfl, w0⟩ := open_string Tryd.underlying9 (hval 0 9 v0 rfl rfl) h0
  obtain ⟨a1, rfl, rfl, rfl, w1⟩ := open_int Tryd.underlying3 (hval 1 3 v1 rfl rfl) h1
  obtain ⟨a2, rfl, rfl, rfl, w2⟩ := open_string Tryd.underlying9 (hval 2 9 v2 rfl rfl) h2
  have z0 : a0.size ≤ 1048576 := by
    have hb : _ ≤ 1048576 := of_decide_eq_true hk
    simp only [List.append_nil, List.cons_append, List.nil_append, Rows.uptoBulkAll, Rows.uptoBulk] at hb
    have e : a0.data.toList.length = a0.size := by simp
    omega
  have z2 : a2.size ≤ 1048576 := by
    have hb : _ ≤ 1048576 := of_decide_eq_true hk
    simp only [List.append_nil, List.cons_append, List.nil_append, Rows.uptoBulkAll, Rows.uptoBulk] at hb
    have e : a2.data.toList.length = a2.size := by simp
    omega
  clear hA0
  refine (uRLBack_walk hV0 a0 z0 a1 w1 a2 z2).mono fun e W' ⟨he, bel⟩ => ?_
  subst he
  exact ⟨_, rfl, _, _, _, [], _, [], hW', trodAll_mk1 (shut_bool Tryd.underlying4 _), (trodAll_cons_mk (shut_string Tryd.underlying9 w0) (trodAll_cons_mk (shut_int Tryd.underlying3 w1) (trodAll_cons_mk (shut_string Tryd.underlying9 w2) trodAll_mk0))), rfl, bel.frame _, fun h => by cases h⟩

theorem uRLBack_met (os : Os) : laidMet Tryd.prog Rows.uRLBackUptoRow.laid ((laidWorld os).forCall (fun _ _ => 0) ⟨#[], #[.string .empty, .int .i64 0, .string .empty], []⟩).memory :=
  laidMet_of_run' 8 (by kernel_rfl) (by kernel_rfl)
theorem uRLBack_reads (os : Os) {H : Type} (enc : TypeId × Value → H) : ∃ places, DataW.whole enc Tryd.prog ((laidWorld os).forCall (fun _ _ => 0) ⟨#[], #[.string .empty, .int .i64 0, .string .empty], []⟩).memory Tryd.f6.params.toList Rows.uRLBackSpec.vars false (#[.string .empty, .int .i64 0, .string .empty] : Array Value).toList 8 = some ([.lit (.string []), .lit (.int .i64 0), .lit (.string [])], [], places) :=
  ⟨[], by kernel_rfl⟩
set_option maxRecDepth 100000 in
theorem uRLBack_lifted (os : Os) (started : os.Started) (H : Type) (enc : TypeId × Value → H) (F : Stop.Interp) :
    ReturnsInHanded {} Tryd.checked os 6 .any ((Rows.OpenSpec.upto Rows.uRLBackSpec).preRow enc Tryd.prog Tryd.f6 Rows.uRLBackUptoRow.domain false Rows.uRLBackUptoRow.laid) (((Rows.OpenSpec.upto Rows.uRLBackSpec).at F).post enc Tryd.prog Tryd.f6 false true false false) := by
  obtain ⟨places, hx⟩ := uRLBack_reads os enc
  refine returnsInHanded_of_row (C := Tryd.checked) (s := Rows.OpenSpec.upto Rows.uRLBackSpec) own_none started (by kernel_rfl) Tryd.func6
    (witness_row_at (enc := enc) (C := Tryd.checked) false (laidWorld os) #[.string .empty, .int .i64 0, .string .empty] rfl (by kernel_rfl) (by kernel_rfl) (by kernel_rfl)
      (OpenSpec.preRow_of_cond 8 hx (by kernel_rfl) (fun k hk => by cases hk; kernel_rfl) (by kernel_rfl) (uRLBack_met os))) ?_
  intro W base args ds gs before hval hW _ hcond _ hL hsh _
  exact uRLBack_contract H enc W base args ds gs before hval hW (hcond _ rfl) (vars_of hL hsh)
theorem uRLBack_said : Rows.URLBackUptoSaid :=
  OpenClaim.holds_of_cond 6 Tryd.f6 rfl rfl rfl rfl rfl rfl rfl ⟨rfl, rfl, rfl, rfl, rfl⟩ rfl rfl rfl rfl rfl (by kernel_rfl) Tryd.func6 (by kernel_rfl)
    (of_decide_eq_true (by kernel_rfl)) (by unfold Func.isWrapper; first | (rw [if_pos (by decide +kernel)]; kernel_rfl) | (rw [if_neg (by decide +kernel)]; exact ⟨rfl, rfl⟩))
    (fun os started H enc _ F => by rw [OpenClaim.pre_eq_preRow]; exact uRLBack_lifted os started H enc F)
theorem uRLBack_plain (f : FuncId) (fn : Func) (hf : Tryd.pinned.checked.prog.funcNamed "postilion/postilionlaw07.URLBack" = some f) (hfn : Tryd.pinned.checked.prog.funcs[f]? = some fn) :
    false = Tryd.pinned.checked.prog.looks [] ∧ ∀ (j : Nat) t, fn.params[j]? = some t → Tryd.pinned.checked.prog.wantsStandIn t = false := by
  obtain rfl : f = 6 := Option.some.inj ((show Tryd.prog.funcNamed "postilion/postilionlaw07.URLBack" = some 6 by kernel_rfl).symm.trans hf) |>.symm
  obtain rfl : fn = Tryd.f6 := (Option.some.inj (Tryd.func6.symm.trans hfn)).symm
  refine ⟨by kernel_rfl, fun j t ht => ?_⟩
  rw [Tryd.params6] at ht
  have hall : ∀ t ∈ ([9, 3, 9] : List TypeId), Tryd.prog.wantsStandIn t = false := List.forall_mem_cons.2 ⟨by kernel_rfl, List.forall_mem_cons.2 ⟨by kernel_rfl, List.forall_mem_cons.2 ⟨by kernel_rfl, fun _ h => by cases h⟩⟩⟩
  exact hall t (by simpa using Array.mem_of_getElem? ht)
/-- The statement: the card. -/
theorem uRLBack_proved : Rows.URLBackUptoCardSaid :=
  Claim7.holds_tied_plain_at .later [] _ _ _ _ uRLBack_said (fun _ h => by cases h) (by kernel_rfl) (fun _ h => by cases h) uRLBackUpto_row_tie rfl ⟨rfl, rfl⟩ (by kernel_rfl) rfl uRLBack_plain (by kernel_rfl)
end Go.Proofs.YtakihnmajgmnpaaDoor

