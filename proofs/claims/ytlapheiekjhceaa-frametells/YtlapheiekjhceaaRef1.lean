/-
  The document's own answers (postilionref01): two, three, zeros, Seal.
-/
import Derived.Test.YtlapheiekjhceaaMark5
import Derived.Test.YtlapheiekjhceaaKeep2
namespace Go.Proofs.Ytlapheiekjhceaa
set_option linter.unusedVariables false
set_option linter.unusedSimpArgs false
open Go.RowKit

theorem build_two (a b : Int) (w : World) : (Instr.buildSlice 27 2 #[(0, .int .u8 a), (1, .int .u8 b)]).run Try.prog w = .ok (.slice (some ⟨w.heap.size, 0, none⟩) 2 2) (w.alloc (.cells (bv [a, b]).toArray 5)) := by kernel_rfl
theorem build_three (a b c : Int) (w : World) : (Instr.buildSlice 27 3 #[(0, .int .u8 a), (1, .int .u8 b), (2, .int .u8 c)]).run Try.prog w = .ok (.slice (some ⟨w.heap.size, 0, none⟩) 3 3) (w.alloc (.cells (bv [a, b, c]).toArray 5)) := by kernel_rfl
section
variable {w0 w : World} {R : Blks}
set_option maxHeartbeats 1000000 in
theorem two_c (hO : Own w0 w R) (e : Int) (h0 : 0 ≤ e) (h1 : e ≤ 65535) : Calls Try.prog 46 #[.int .i64 e] w (GotBytes w0 R (e2 e)) := by
  have HO := Lib.hid hO; clear hO
  have hbt := build_two (e / 256) (e % 256)
  go_enter Try.func46, Try.ntmps46
  go_wp2_with (refine wl_buildSlice rfl _ _ _ rfl HO.out _ (by exact hbt _) ?_; intro g1 w1 hO1; have HO1 := Lib.hid hO1; clear hO1 HO)
  go_ret
  exact ⟨_, [_], rfl, isBytes_whole g1 (e2 e) (by simp [e2]), HO1.out⟩
set_option maxHeartbeats 1000000 in
theorem three_c (hO : Own w0 w R) (e : Int) (h0 : 0 ≤ e) (h1 : e ≤ 16777215) : Calls Try.prog 47 #[.int .i64 e] w (GotBytes w0 R (s3 e)) := by
  have HO := Lib.hid hO; clear hO
  have hb : ∀ (g : Nat) (a b c : Int), IsBytes (.slice (some ⟨g, 0, none⟩) 3 3) [a, b, c] [(g, .cells #[.int .u8 a, .int .u8 b, .int .u8 c] 5)] := fun g a b c => isBytes_whole g [a, b, c] (by simp)
  have HB := Lib.hid hb; clear hb
  unfold s3
  go_enter Try.func47, Try.ntmps47
  go_wp2
  go_ret
  exact ⟨_, _, rfl, HB.out _ _ _ _, HO.out.alloc _⟩
set_option maxHeartbeats 1000000 in
theorem zeros_c (hO : Own w0 w R) (k : Nat) (hk : k ≤ 1000) : Calls Try.prog 48 #[.int .i64 k] w (GotBytes w0 R (List.replicate k 0)) := by
  have HO := Lib.hid hO; clear hO
  have hmk := make_bytes k (by omega)
  have hk0 : ¬ ((k : Int) < 0) := by omega
  go_enter Try.func48, Try.ntmps48
  go_wp2_with (refine wl_makeSlice rfl _ _ _ rfl HO.out _ k k (by exact hmk _) ?_; intro g1 w1 hO1; have HO1 := Lib.hid hO1; clear hO1 HO)
  go_ret
  have := isBytes_whole g1 (List.replicate k 0) (by simp; omega)
  rw [List.length_replicate] at this
  exact ⟨_, [_], rfl, this, HO1.out⟩
def GotSealB (w0 : World) (R : Blks) (e s p q : Int) (xs : List Int) (en : Ending) (w' : World) : Prop :=
  ∃ v L, en = .returned (.tuple #[v, .bool (okSeal e s p q xs.length)]) ∧ IsBytes v (if okSeal e s p q xs.length then sealed e s p q xs else []) L ∧ Own w0 w' (L ++ R)
theorem gotSealB_no {w' : World} {e s p q : Int} {xs : List Int} (h : okSeal e s p q xs.length = false) (hO : Own w0 w' R) : GotSealB w0 R e s p q xs (.returned (.tuple #[.slice none 0 0, .bool false])) w' := by
  refine ⟨.slice none 0 0, [], ?_, ?_, hO⟩
  · simp [h]
  · simp only [h]; exact ⟨rfl, .inl ⟨rfl, rfl, rfl⟩⟩
set_option maxHeartbeats 4000000 in
theorem refSeal_no (hO : Own w0 w R) (e s p q : Int) (v : Value) (xs : List Int) (hb : Rd w0 R v xs) (h : okSeal e s p q xs.length = false) :
    Calls Try.prog 31 #[.int .i64 e, .int .i64 s, .int .i64 p, .int .i64 q, v] w (GotSealB w0 R e s p q xs) := by
  obtain ⟨A, c, rfl, _⟩ := (hb w [] hO).len
  have HN := Lib.hid h; have HO := Lib.hid hO; clear hO hb
  have hn : ¬ (0 ≤ e ∧ e ≤ 65535 ∧ 0 ≤ s ∧ s ≤ 16777215 ∧ 0 ≤ p ∧ p < q ∧ q ≤ 255 ∧ xs.length ≤ 19) := fun h' => by rw [okSeal_mk h'] at h; cases h
  clear h
  by_cases h1 : e < 0
  · clear hn
    go_enter Try.func31, Try.ntmps31
    go_wp2
    go_ret2
    exact gotSealB_no HN.out HO.out
  by_cases h2 : 65535 < e
  · clear hn
    go_enter Try.func31, Try.ntmps31
    go_wp2
    go_ret2
    exact gotSealB_no HN.out HO.out
  by_cases h3 : s < 0
  · clear hn
    go_enter Try.func31, Try.ntmps31
    go_wp2
    go_ret2
    exact gotSealB_no HN.out HO.out
  by_cases h4 : 16777216 ≤ s
  · clear hn
    go_enter Try.func31, Try.ntmps31
    go_wp2
    go_ret2
    exact gotSealB_no HN.out HO.out
  by_cases h5 : p < 0
  · clear hn
    go_enter Try.func31, Try.ntmps31
    go_wp2
    go_ret2
    exact gotSealB_no HN.out HO.out
  by_cases h6 : q ≤ p
  · clear hn
    go_enter Try.func31, Try.ntmps31
    go_wp2
    go_ret2
    exact gotSealB_no HN.out HO.out
  by_cases h7 : 255 < q
  · clear hn
    go_enter Try.func31, Try.ntmps31
    go_wp2
    go_ret2
    exact gotSealB_no HN.out HO.out
  have h8 : 19 < (xs.length : Int) := by omega
  clear hn
  go_enter Try.func31, Try.ntmps31
  go_wp2
  go_ret2
  exact gotSealB_no HN.out HO.out
set_option maxHeartbeats 4000000 in
theorem refSeal_yes (hO : Own w0 w R) (e s p q : Int) (v : Value) (xs : List Int) (hb : Rd w0 R v xs) (h : okSeal e s p q xs.length = true) :
    Calls Try.prog 31 #[.int .i64 e, .int .i64 s, .int .i64 p, .int .i64 q, v] w (GotSealB w0 R e s p q xs) := by
  obtain ⟨he0, he1, hs0, hs1, hp0, hp1, hq1, hn1⟩ := okSeal_spec h
  have HB := Lib.hid hb
  obtain ⟨A, c, rfl, _⟩ := (hb w [] hO).len
  have HY := Lib.hid h; have HO := Lib.hid hO; clear hO hb h
  have hn2 : ¬ (19 < (xs.length : Int)) := by omega
  have hbt := build_three p q xs.length
  go_enter Try.func31, Try.ntmps31
  go_wp2_with fail
  have hcall := two_c HO.out e he0 he1
  with_reducible refine hcall.mono ?_
  clear hcall
  rintro en w1 ⟨v1, L1, rfl, h1, hO1⟩
  have HO1 := Lib.hid hO1; have H1 := Lib.hid h1; clear hO1 HO h1
  go_wp2_with fail
  have hcall := three_c HO1.out s hs0 hs1
  with_reducible refine hcall.mono ?_
  clear hcall
  rintro en w2 ⟨v2, L2, rfl, h2, hO2⟩
  have HO2 := Lib.hid hO2.rot; have H2 := Lib.hid h2; clear hO2 HO1 h2
  go_wp2_with (first | (refine wl_appendB rfl _ _ rfl v1 _ (by rfl) H1.out HO2.out v2 _ (by rfl) (H2.out.bs HO2.out.right) (by simp [e2, s3]) ?_; intro v3 w3 L3 h3 hO3; have H3 := Lib.hid h3; have HO3 := Lib.hid hO3.rot.right; clear h3 hO3 HO2 H1 H2) | (refine wl_buildSlice rfl _ _ _ rfl HO3.out _ (by exact hbt _) ?_; intro g4 w4 hO4; have HO4 := Lib.hid (Own.rot (A := [_]) hO4); clear hO4 HO3) | (refine wl_appendB rfl _ _ rfl v3 _ (by rfl) H3.out HO4.out (.slice (some ⟨g4, 0, none⟩) 3 3) [p, q, (xs.length : Int)] (by rfl) ((isBytes_whole g4 [p, q, (xs.length : Int)] (by simp)).bs (R := R) HO4.out.right) (by simp [e2, s3]) ?_; intro v5 w5 L5 h5 hO5; have H5 := Lib.hid h5; have HO5 := Lib.hid (Own.rot (B := [_]) hO5).tail; clear h5 hO5 HO4 H3) | (refine wl_appendB rfl _ _ rfl v5 _ (by rfl) H5.out HO5.out (.slice A xs.length c) xs (by rfl) (HB.out w5 L5 HO5.out) (by simp [e2, s3]; omega) ?_; intro v6 w6 L6 h6 hO6; have H6 := Lib.hid h6; have HO6 := Lib.hid hO6; clear h6 hO6 HO5 H5))
  rw [show (19 : Int) - (xs.length : Int) = ((19 - xs.length : Nat) : Int) by omega]
  have hcall := zeros_c HO6.out (19 - xs.length) (by omega)
  with_reducible refine hcall.mono ?_
  clear hcall hbt
  rintro en w7 ⟨v7, L7, rfl, h7, hO7⟩
  have HO7 := Lib.hid hO7.rot; have H7 := Lib.hid h7; clear hO7 HO6 h7
  go_wp2_with (refine wl_appendB rfl _ _ rfl v6 _ (by rfl) H6.out HO7.out v7 _ (by rfl) (H7.out.bs HO7.out.right) (by simp [e2, s3]; omega) ?_; intro v8 w8 L8 h8 hO8; have H8 := Lib.hid h8; have HO8 := Lib.hid hO8.rot.right; clear h8 hO8 HO7 H6 H7)
  have hcall := three_c HO8.out s hs0 hs1
  with_reducible refine hcall.mono ?_
  clear hcall
  rintro en w9 ⟨v9, L9, rfl, h9, hO9⟩
  have HO9 := Lib.hid hO9.rot; have H9 := Lib.hid h9; clear hO9 HO8 h9
  go_wp2_with (refine wl_appendB rfl _ _ rfl v8 _ (by rfl) H8.out HO9.out v9 _ (by rfl) (H9.out.bs HO9.out.right) (by simp [e2, s3]; omega) ?_; intro v10 w10 L10 h10 hO10; have H10 := Lib.hid h10; have HO10 := Lib.hid hO10.rot.right; clear h10 hO10 HO9 H8 H9)
  have hcall := two_c HO10.out e he0 he1
  with_reducible refine hcall.mono ?_
  clear hcall
  rintro en w11 ⟨v11, L11, rfl, h11, hO11⟩
  have HO11 := Lib.hid hO11.rot; have H11 := Lib.hid h11; clear hO11 HO10 h11
  go_wp2_with (refine wl_appendB rfl _ _ rfl v10 _ (by rfl) H10.out HO11.out v11 _ (by rfl) (H11.out.bs HO11.out.right) (by simp [e2, s3]; omega) ?_; intro v12 w12 L12 h12 hO12; have H12 := Lib.hid h12; have HO12 := Lib.hid hO12.rot.right; clear h12 hO12 HO11 H10 H11)
  go_ret2
  refine ⟨v12, L12, ?_, ?_, HO12.out⟩
  · rw [HY.out]; rfl
  · rw [if_pos HY.out]
    have := H12.out
    have e : e2 e ++ s3 s ++ [p, q, (xs.length : Int)] ++ xs ++ List.replicate (19 - xs.length) 0 ++ s3 s ++ e2 e = sealed e s p q xs := by simp [sealed]
    rwa [e] at this
theorem refSeal_c (hO : Own w0 w R) (e s p q : Int) (v : Value) (xs : List Int) (hb : Rd w0 R v xs) :
    Calls Try.prog 31 #[.int .i64 e, .int .i64 s, .int .i64 p, .int .i64 q, v] w (GotSealB w0 R e s p q xs) := by
  cases h : okSeal e s p q xs.length
  · exact refSeal_no hO e s p q v xs hb h
  · exact refSeal_yes hO e s p q v xs hb h
end
end Go.Proofs.Ytlapheiekjhceaa
