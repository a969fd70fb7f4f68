/-
  FrameTells: every input answers true (sums, needs, what is written where and what stands there then, against the document's own answers).
  No conditions beyond the statement's own.
-/
import Derived.Test.YtlapheiekjhceaaL03a
import Derived.Test.YtlapheiekjhceaaRef1
import Derived.Test.YtlapheiekjhceaaRef3
import Derived.Test.YtlapheiekjhceaaMark6
import Derived.Test.YtlapheiekjhceaaKeep2
import Derived.Deep.DeepCutAuto
namespace Go.Proofs.Ytlapheiekjhceaa
set_option linter.unusedVariables false
set_option linter.unusedSimpArgs false
open Go.ChangeShapes Go.WideShapes Go.ChangeAt Go.RowKit
open Go.ChangeMaps (open_string shut_string)

theorem refSeal_ok {w0 w : World} {R : Blks} (hO : Own w0 w R) (e s p q : Int) (v : Value) (xs : List Int) (hb : Rd w0 R v xs) (h : okSeal e s p q xs.length = true) (ys : List Int) (hy : sealed e s p q xs = ys) : Calls Try.prog 31 #[.int .i64 e, .int .i64 s, .int .i64 p, .int .i64 q, v] w (fun en w' => ∃ v L, en = .returned (.tuple #[v, .bool true]) ∧ IsBytes v ys L ∧ Own w0 w' (L ++ R)) := by
  subst hy
  refine (refSeal_c hO e s p q v xs hb).mono ?_
  rintro en w' ⟨v, L, rfl, h1, hO'⟩
  rw [if_pos h] at h1
  exact ⟨v, L, by rw [h], h1, hO'⟩
def TellA (w : World) (s0 : Value) (wx : World) : Prop := ∃ xs L, Rd w L s0 xs ∧ Byt xs ∧ Own w wx L
def TellB (W : World) (s3 : Value) (wx : World) : Prop := ∃ a : Int, s3 = .int .i64 a ∧ wx = W
def TellC (W : World) (s4 s5 : Value) (wx : World) : Prop := ∃ e q : Int, s4 = .int .i64 e ∧ s5 = .int .i64 q ∧ wx = W
def TellTo (w : World) (R Lr : Blks) (d : Value) (s : DSt) (ys : List Int) (i : Nat) (v : Value) (wx : World) : Prop := ∃ A c, v = .slice A (ys.length - 19 * i) c ∧ ∃ Ld, IsDisk d s Ld ∧ Rd w Lr v (ys.drop (19 * i)) ∧ Own w wx (Ld ++ R)
theorem build_mt (a b : Int) (w : World) : (Instr.build 48 #[(0, .int .i64 a), (1, .int .i64 b)]).run Try.prog w = .ok (.agg [Value.int .i64 a, Value.int .i64 b].toArray) w := by kernel_rfl
theorem okSeal_nil (e q : Int) : okSeal e q 0 1 0 = okMark e q := by simp [okSeal]
theorem refSeal_nil {w0 w : World} {R : Blks} (hO : Own w0 w R) (e q : Int) : Calls Try.prog 31 #[.int .i64 e, .int .i64 q, .int .i64 0, .int .i64 1, .slice none 0 0] w (fun en w' => ∃ A n c, en = .returned (.tuple #[.slice A n c, .bool (okMark e q)]) ∧ Own w0 w' R) := by
  refine (refSeal_c hO e q 0 1 (.slice none 0 0) [] (rd_nil _ _)).mono ?_
  rintro en w' ⟨v, L, rfl, h, hO'⟩
  obtain ⟨A, c, rfl⟩ := h.val
  exact ⟨A, _, c, by rw [← okSeal_nil]; rfl, hO'.right⟩
set_option maxRecDepth 100000 in
set_option maxHeartbeats 16000000 in
theorem frameTells_walk {w : World} (v0 : Value) (a0 : List Int) (h0 : InRow .u8 w v0 a0) (a1 : Int) (_ : (Lit.int .i64 a1).wf = true) (a2 : Int) (_ : (Lit.int .i64 a2).wf = true) (a3 : Int) (_ : (Lit.int .i64 a3).wf = true) (a4 : Int) (_ : (Lit.int .i64 a4).wf = true) (a5 : Int) (_ : (Lit.int .i64 a5).wf = true) :
    Calls Try.prog 7 #[v0, .int .i64 a1, .int .i64 a2, .int .i64 a3, .int .i64 a4, .int .i64 a5] w (Yes w) := by
  have HB0 := Lib.hid h0; clear h0
  have HO := Lib.hid (Own.start w)
  go_enter Try.func7, Try.ntmps7
  go_upto_if 34 with fail
  go_cut [0] (fun s0 wx => TellA w s0 wx)
  case first =>
    by_cases h3 : 0 < a1.tmod 3
    · go_wp2_with fail
      have hcall := within_n (w := w) a1 90 (by omega) (by omega)
      obtain ⟨K, hK⟩ : ∃ K, (a1 % 90).toNat = K := ⟨_, rfl⟩
      have hK90 : K ≤ 90 := by omega
      rw [hK] at hcall
      clear hK
      with_reducible refine hcall.mono ?_
      clear hcall
      rintro en w' ⟨rfl, rfl⟩
      go_wp2_with fail
      have hcall := bytes_c HO.out a1 K (by omega)
      with_reducible refine hcall.mono ?_
      clear hcall
      rintro en w1 ⟨v1, L1, rfl, h1, hO1⟩
      have HO1 := Lib.hid hO1; have H1 := Lib.hid h1; clear hO1 h1 HO
      go_wp2_with fail
      go_meet
      exact ⟨_, L1 ++ [], H1.out.rd sub_here, byt_pbytes _ _, HO1.out⟩
    · go_wp2_with fail
      go_meet
      exact ⟨a0, [], HB0.out.rd _, HB0.out.byt, HO.out⟩
  case rest =>
    obtain ⟨xs0, L0, hb0, hB0, hO0⟩ := hcut
    clear HB0 HO
    have H0 := Lib.hid hb0; have HBB0 := Lib.hid hB0; have HO0 := Lib.hid hO0; clear hb0 hB0 hO0
    go_wp2_with fail
    have hcall := cut_c HO0.out _ xs0 H0.out 5000 (by decide)
    rw [show (((5000 : Nat) : Int)) = 5000 from rfl] at hcall
    with_reducible refine hcall.mono ?_
    clear hcall
    rintro en w1 ⟨vb, Lb, rfl, hb, hO1⟩
    have hbl : (xs0.take 5000).length ≤ 5000 := by simp; omega
    have hbb : Byt (xs0.take 5000) := byt_take HBB0.out 5000
    obtain ⟨Ab, cb, rfl⟩ := hb.val
    have hO2 : Own w w1 (Lb ++ []) := by rw [List.append_nil]; exact hO1.left
    have HB := Lib.hid hb; have HBB := Lib.hid hbb; have HO2 := Lib.hid hO2; clear hb hbb hO1 hO2 HO0 H0 HBB0
    generalize xs0.take 5000 = xs at *
    go_wp2_with fail
    have hcall := sum_c (w := w1) _ xs (HB.out.bs HO2.out) HBB.out (by omega)
    with_reducible refine hcall.mono ?_
    clear hcall
    rintro en w' ⟨rfl, rfl⟩
    go_wp2_with fail
    have hcall := refSum_c (w := w1) _ xs (HB.out.bs HO2.out) HBB.out (by omega)
    with_reducible refine hcall.mono ?_
    clear hcall
    rintro en w' ⟨rfl, rfl⟩
    have hc1 : (((crc xs : Nat) : Int) != ((crc xs : Nat) : Int)) = false := by simp
    go_wp2_with fail
    have hcall := need_c (w := w1) _ xs (HB.out.bs HO2.out) (by omega)
    with_reducible refine hcall.mono ?_
    clear hcall
    rintro en w' ⟨rfl, rfl⟩
    go_wp2_with fail
    have hcall := refNeed_c (w := w1) _ xs (HB.out.bs HO2.out) (by omega)
    with_reducible refine hcall.mono ?_
    clear hcall
    rintro en w' ⟨rfl, rfl⟩
    have hc2 : (((need xs : Nat) : Int) != ((need xs : Nat) : Int)) = false := by simp
    go_wp2_with fail
    clear hc1 hc2
    have hcall := within_n (w := w1) a2 9 (by omega) (by omega)
    with_reducible refine hcall.mono ?_
    clear hcall
    rintro en w' ⟨rfl, rfl⟩
    obtain ⟨S, hS⟩ : ∃ S, (a2 % 9).toNat = S := ⟨_, rfl⟩
    have hS9 : S ≤ 8 := by omega
    rw [hS]
    clear hS
    go_wp2_with fail
    have hcall := new_is HO2.out (S : Int) S (by omega)
    with_reducible refine hcall.mono ?_
    clear hcall
    rintro en w2 ⟨d, L, rfl, hd, hO3⟩
    obtain ⟨bd, rfl⟩ := hd.ptr
    have HD := Lib.hid hd; have HO3 := Lib.hid hO3; clear hd hO3 HO2
    go_upto_if 63 with fail
    go_cut [3] (fun s3 wx => TellB w2 s3 wx)
    case first =>
      by_cases h7 : a3.tmod 7 = 6
      · have h7' : (a3.tmod 7 != 6) = false := by simp [h7]
        clear h7
        go_wp2_with fail
        go_meet
        exact ⟨_, rfl, rfl⟩
      · have h7' : (a3.tmod 7 != 6) = true := by simp [h7]
        clear h7
        go_wp2_with (go_at_call 9; refine (within_c _ _ (by omega) (by omega)).mono ?_; rintro e w' ⟨rfl, rfl⟩)
        have hm1 : 0 ≤ a3 % ((S : Int) + 2) := Int.emod_nonneg _ (by omega)
        have hm2 : a3 % ((S : Int) + 2) < (S : Int) + 2 := Int.emod_lt_of_pos _ (by omega)
        go_wp2_with fail
        go_meet
        exact ⟨_, rfl, rfl⟩
    case rest =>
      obtain ⟨at_, rfl, rfl⟩ := hcut
      go_upto_if 72 with fail
      go_cut [4, 5] (fun s4 s5 wx => TellC wc s4 s5 wx)
      case first =>
        by_cases h5 : a4.tmod 5 = 4
        · have h5' : (a4.tmod 5 != 4) = false := by simp [h5]
          clear h5
          go_wp2_with fail
          go_meet
          exact ⟨_, _, rfl, rfl, rfl⟩
        · have h5' : (a4.tmod 5 != 4) = true := by simp [h5]
          clear h5
          go_wp2_with (go_at_call 9; refine (within_c _ _ (by omega) (by omega)).mono ?_; rintro e w' ⟨rfl, rfl⟩)
          go_meet
          exact ⟨_, _, rfl, rfl, rfl⟩
      case rest =>
        obtain ⟨e, q, rfl, rfl, rfl⟩ := hcut
        have hm : okMark e q = true ∨ okMark e q = false := by cases okMark e q <;> simp
        have hp1 := need_pos xs
        have hp2 : need xs ≤ 300 := by unfold need; omega
        by_cases harg : 255 < need xs ∨ okMark e q = false
        · go_wp2_with (first | (refine wl_build rfl _ _ rfl _ (by exact build_mt _ _ _) ?_) | (refine wl_alloc rfl _ rfl HO3.out _ (alloc_mark _) ?_; intro gm w4 hO4; have HO4 := Lib.hid hO4; clear hO4 HO3) | (refine wl_store rfl _ _ _ rfl HO4.out 0 gm 0 _ [Value.int .i64 e, Value.int .i64 q] _ rfl (by rfl) (by rfl) mark_size (one_2i _ _) (by simp) ?_; intro w5 hO5; have HO5 := Lib.hid (Own.rot (A := [_]) hO5); clear hO5 HO4) | (refine wl_load rfl _ _ rfl gm 0 [.int .i64 e, .int .i64 q] [.int .i64 e, .int .i64 q] 48 (HO5.out.heap (List.mem_append_right _ (.head _))) (by rfl) _ Try.underlying48 rfl mark_size (by rfl) ?_))
          have hcall := fwrite_arg HD.out HO5.out at_ e q (.slice Ab xs.length cb) xs (HB.out.rd (sub_there (B := [_]) sub_here)) HBB.out (by omega) harg
          with_reducible refine hcall.mono ?_
          clear hcall
          rintro en w6 ⟨rfl, L6, hd6, hO6⟩
          have HD6 := Lib.hid hd6; have HO6 := Lib.hid hO6; clear hd6 hO6 HO5
          go_wp2_with fail
          have hcall := refNeed_c (w := w6) _ xs (HB.out.bs_sub HO6.out (sub_there (sub_there (B := [_]) sub_here))) (by omega)
          with_reducible refine hcall.mono ?_
          clear hcall
          rintro en w' ⟨rfl, rfl⟩
          go_wp2_with fail
          have hcall := refSeal_nil HO6.out e q
          with_reducible refine hcall.mono ?_
          clear hcall
          rintro en w7 ⟨A7, n7, c7, rfl, hO7⟩
          have HO7 := Lib.hid hO7; clear hO7 HO6
          have hlast : ∀ wz, Own w wz (L6 ++ ([(gm, .cells [Value.int .i64 e, Value.int .i64 q].toArray 48)] ++ (Lb ++ []))) → Calls Try.prog 21 #[.pointer (some ⟨bd, 0, none⟩)] wz fun e w' => e = .returned (.int .i64 0) ∧ wz = w' := fun wz h => pending_is HD6.out h 0 rfl
          have HL := Lib.hid hlast; clear hlast
          rcases hm with hm | hm
          · rw [hm] at harg ⊢
            have hn255 : 255 < ((need xs : Nat) : Int) := by
              rcases harg with h | h
              · omega
              · cases h
            generalize need xs = p at *
            go_wp2_with fail
            with_reducible refine (HL.out _ HO7.out).mono ?_
            rintro en w' ⟨rfl, rfl⟩
            go_wp2_with fail
            have hcall := wakes3_c HO7.out
            with_reducible refine hcall.mono ?_
            clear hcall
            rintro en w9 ⟨rfl, hO9⟩
            have HO9 := Lib.hid hO9; clear hO9 HO7
            go_wp2
            go_ret
            exact HO9.out.yes rfl
          · rw [hm]
            go_wp2_with fail
            with_reducible refine (HL.out _ HO7.out).mono ?_
            rintro en w' ⟨rfl, rfl⟩
            go_wp2_with fail
            have hcall := wakes3_c HO7.out
            with_reducible refine hcall.mono ?_
            clear hcall
            rintro en w9 ⟨rfl, hO9⟩
            have HO9 := Lib.hid hO9; clear hO9 HO7
            go_wp2
            go_ret
            exact HO9.out.yes rfl
        · have hnb : need xs ≤ 255 := by omega
          have hmk : okMark e q = true := hm.resolve_right (fun h => harg (.inr h))
          clear harg hm
          by_cases hrg : at_ < 0 ∨ ((newSt S).n : Int) - need xs < at_
          · go_wp2_with (first | (refine wl_build rfl _ _ rfl _ (by exact build_mt _ _ _) ?_) | (refine wl_alloc rfl _ rfl HO3.out _ (alloc_mark _) ?_; intro gm w4 hO4; have HO4 := Lib.hid hO4; clear hO4 HO3) | (refine wl_store rfl _ _ _ rfl HO4.out 0 gm 0 _ [Value.int .i64 e, Value.int .i64 q] _ rfl (by rfl) (by rfl) mark_size (one_2i _ _) (by simp) ?_; intro w5 hO5; have HO5 := Lib.hid (Own.rot (A := [_]) hO5); clear hO5 HO4) | (refine wl_load rfl _ _ rfl gm 0 [.int .i64 e, .int .i64 q] [.int .i64 e, .int .i64 q] 48 (HO5.out.heap (List.mem_append_right _ (.head _))) (by rfl) _ Try.underlying48 rfl mark_size (by rfl) ?_))
            have hcall := fwrite_range HD.out HO5.out at_ e q (.slice Ab xs.length cb) xs (HB.out.rd (sub_there (B := [_]) sub_here)) HBB.out hnb hmk hrg
            with_reducible refine hcall.mono ?_
            clear hcall
            rintro en w6 ⟨rfl, L6, hd6, hO6⟩
            have HD6 := Lib.hid hd6; have HO6 := Lib.hid hO6; clear hd6 hO6 HO5
            rw [newSt_n] at hrg
            go_wp2_with fail
            have hcall := refNeed_c (w := w6) _ xs (HB.out.bs_sub HO6.out (sub_there (sub_there (B := [_]) sub_here))) (by omega)
            with_reducible refine hcall.mono ?_
            clear hcall
            rintro en w' ⟨rfl, rfl⟩
            go_wp2_with fail
            have hcall := refSeal_nil HO6.out e q
            with_reducible refine hcall.mono ?_
            clear hcall
            rintro en w7 ⟨A7, n7, c7, rfl, hO7⟩
            have HO7 := Lib.hid hO7; clear hO7 HO6
            rw [hmk]
            have hlast : ∀ wz, Own w wz (L6 ++ ([(gm, .cells [Value.int .i64 e, Value.int .i64 q].toArray 48)] ++ (Lb ++ []))) → Calls Try.prog 21 #[.pointer (some ⟨bd, 0, none⟩)] wz fun e w' => e = .returned (.int .i64 0) ∧ wz = w' := fun wz h => pending_is HD6.out h 0 rfl
            have HL := Lib.hid hlast; clear hlast
            have hn255 : ¬ 255 < ((need xs : Nat) : Int) := by omega
            generalize need xs = p at *
            by_cases hneg : at_ < 0
            · clear hrg
              go_wp2_with fail
              with_reducible refine (HL.out _ HO7.out).mono ?_
              rintro en w' ⟨rfl, rfl⟩
              go_wp2_with fail
              have hcall := wakes3_c HO7.out
              with_reducible refine hcall.mono ?_
              clear hcall
              rintro en w9 ⟨rfl, hO9⟩
              have HO9 := Lib.hid hO9; clear hO9 HO7
              go_wp2
              go_ret
              exact HO9.out.yes rfl
            · have hrg2 : (S : Int) - p < at_ := hrg.resolve_left hneg
              clear hrg
              go_wp2_with fail
              with_reducible refine (HL.out _ HO7.out).mono ?_
              rintro en w' ⟨rfl, rfl⟩
              go_wp2_with fail
              have hcall := wakes3_c HO7.out
              with_reducible refine hcall.mono ?_
              clear hcall
              rintro en w9 ⟨rfl, hO9⟩
              have HO9 := Lib.hid hO9; clear hO9 HO7
              go_wp2
              go_ret
              exact HO9.out.yes rfl
          · have h0 : 0 ≤ at_ := by omega
            obtain ⟨a, rfl⟩ := Int.eq_ofNat_of_zero_le h0
            rw [newSt_n] at hrg
            have h1 : a + need xs ≤ S := by omega
            clear hrg h0
            go_wp2_with (first | (refine wl_build rfl _ _ rfl _ (by exact build_mt _ _ _) ?_) | (refine wl_alloc rfl _ rfl HO3.out _ (alloc_mark _) ?_; intro gm w4 hO4; have HO4 := Lib.hid hO4; clear hO4 HO3) | (refine wl_store rfl _ _ _ rfl HO4.out 0 gm 0 _ [Value.int .i64 e, Value.int .i64 q] _ rfl (by rfl) (by rfl) mark_size (one_2i _ _) (by simp) ?_; intro w5 hO5; have HO5 := Lib.hid (Own.rot (A := [_]) hO5); clear hO5 HO4) | (refine wl_load rfl _ _ rfl gm 0 [.int .i64 e, .int .i64 q] [.int .i64 e, .int .i64 q] 48 (HO5.out.heap (List.mem_append_right _ (.head _))) (by rfl) _ Try.underlying48 rfl mark_size (by rfl) ?_))
            have hcall := fwrite_ok (a := a) (e := e) (q := q) (b := xs) HD.out HO5.out (.slice Ab xs.length cb) (HB.out.rd (sub_there (B := [_]) sub_here)) HBB.out hnb hmk rfl rfl (by rw [newSt_n]; omega) (by simp [newSt]; omega) a (a + need xs) rfl rfl
            with_reducible refine hcall.mono ?_
            clear hcall
            rintro en w6 ⟨rfl, L6, hd6, hO6⟩
            have hst := put_stands (newSt S) a e q xs (by rw [newSt_n]; omega)
            have hsp : ((((newSt S).put a (secs_of e q xs)).pend.length : Nat) : Int) = need xs := by simp [DSt.put, newSt, length_pendOf, length_secs_of]
            have hsn : ((newSt S).put a (secs_of e q xs)).n = S := newSt_n S
            have hsd : ((newSt S).put a (secs_of e q xs)).down = false := rfl
            have hsb := put_byt (new_byt S) hmk hnb HBB.out (show a + need xs ≤ (newSt S).n by rw [newSt_n]; omega)
            have HST := Lib.hid hst; have HSP := Lib.hid hsp; have HSN := Lib.hid hsn; have HSD := Lib.hid hsd; have HSB := Lib.hid hsb
            clear hst hsp hsn hsd hsb HD
            generalize (newSt S).put a (secs_of e q xs) = s1 at *
            have HD6 := Lib.hid hd6; have HO6 := Lib.hid hO6; clear hd6 hO6 HO5
            go_wp2_with fail
            have hcall := refNeed_c (w := w6) _ xs (HB.out.bs_sub HO6.out (sub_there (sub_there (B := [_]) sub_here))) (by omega)
            with_reducible refine hcall.mono ?_
            clear hcall
            rintro en w' ⟨rfl, rfl⟩
            go_wp2_with fail
            have hcall := refSeal_nil HO6.out e q
            with_reducible refine hcall.mono ?_
            clear hcall
            rintro en w7 ⟨A7, n7, c7, rfl, hO7⟩
            have HO7 := Lib.hid hO7; clear hO7 HO6
            rw [hmk]
            have HMK := Lib.hid hmk
            clear hmk
            have hn255 : ¬ 255 < ((need xs : Nat) : Int) := by omega
            obtain ⟨p, hp⟩ : ∃ p, need xs = p := ⟨_, rfl⟩
            have HP := Lib.hid hp
            rw [hp] at h1 hp1 hp2 hnb hn255 HSP ⊢
            clear hp
            have k1 : ¬ ((a : Int) < 0) := by omega
            have k2 : ¬ ((S : Int) - p < a) := by omega
            have k3 : (((a : Int) + p) != ((a : Int) + p)) = false := by simp
            have k4 : (((p : Nat) : Int) != ((p : Nat) : Int)) = false := by simp
            go_wp2_with fail
            with_reducible refine (pending_is HD6.out HO7.out _ HSP.out).mono ?_
            rintro en w' ⟨rfl, rfl⟩
            go_wp2_with fail
            clear k1 k2 k3 k4
            have hcall := refFramed_c HO7.out (.slice Ab xs.length cb) xs (HB.out.rd (sub_there (sub_there (B := [_]) sub_here))) HBB.out (by omega)
            with_reducible refine hcall.mono ?_
            clear hcall
            rintro en w8 ⟨v8, L8, rfl, h8, hO8⟩
            obtain ⟨g8, c8, sp8, rfl, rfl, hc8⟩ := h8.blkn (4 + xs.length) (by simp) (by omega)
            have HO8 := Lib.hid hO8.rot; clear hO8 HO7
            have hrd8 : Rd w [(g8, .cells (List.toArray (bv (framed xs) ++ sp8)) 5)] (.slice (some ⟨g8, 0, none⟩) (4 + xs.length) c8) (framed xs) := h8.rd (List.Sublist.refl _)
            have HRD8 := Lib.hid hrd8
            clear hrd8 h8
            have hfl := length_framed xs
            have HFL := Lib.hid hfl
            clear hfl
            go_wp2_with fail
            go_loopw [21, 22] (fun v t wx => ∃ i : Nat, i ≤ p ∧ t = .int .i64 i ∧ Hid (TellTo w ([(g8, .cells (List.toArray (bv (framed xs) ++ sp8)) 5)] ++ ([(gm, .cells [Value.int .i64 e, Value.int .i64 q].toArray 48)] ++ (Lb ++ []))) [(g8, .cells (List.toArray (bv (framed xs) ++ sp8)) 5)] (.pointer (some ⟨bd, 0, none⟩)) s1 (framed xs) i v wx)) (fun _ t _ => p - (intOf t).toNat)
            case atStart => exact ⟨0, Nat.zero_le _, rfl, some ⟨g8, 0, none⟩, c8, by rw [HFL.out]; rfl, L6, HD6.out, by rw [Nat.mul_zero, List.drop_zero]; exact HRD8.out, HO8.out⟩
            case round =>
              obtain ⟨i, hi, rfl, HT⟩ := hrel
              clear HO8 HD6 HRD8
              obtain ⟨A9, c9, rfl, Ld, hd9, hrd9, hO9⟩ := HT.out
              clear HT
              have HD9 := Lib.hid hd9; have HO9 := Lib.hid hO9; have HRD9 := Lib.hid hrd9
              clear hd9 hO9 hrd9
              by_cases hlt : i < p
              · have hpn := HP.out
                unfold need at hpn
                have hpos : 19 * i < 4 + xs.length := by omega
                obtain ⟨n, hn⟩ : ∃ n, (framed xs).length - 19 * i = n := ⟨_, rfl⟩
                have hn0 : 0 < n := by rw [HFL.out] at hn; omega
                rw [hn] at HRD9 ⊢
                obtain ⟨ad, rfl, hnc⟩ : ∃ ad, A9 = some ad ∧ n ≤ c9 := by
                  obtain ⟨A', n', c', ev, hn', hcc, hA⟩ := HRD9.out.bs_sub HO9.out (sub_there sub_here)
                  cases ev
                  obtain ⟨ad, rfl, _⟩ := hA hn0
                  exact ⟨ad, rfl, hcc⟩
                have hin : (i : Int) < p := by omega
                clear hpn
                by_cases h19 : (19 : Int) < n
                · have hc19 : ¬ c9 = 19 := by omega
                  have hc19' : (19 : Int) ≤ c9 := by omega
                  have hn19 : (19 : Int) ≤ n := by omega
                  have HRDC : Rd w [(g8, .cells (List.toArray (bv (framed xs) ++ sp8)) 5)] (.slice (some ad) 19 c9) (chunk (framed xs) i) := HRD9.out.front 19 (by omega)
                  go_wp2_with fail
                  have hcall := refSeal_ok HO9.out e q i p (.slice (some ad) 19 c9) (chunk (framed xs) i) (HRDC.sublist (sub_there sub_here)) (okSeal_mark HMK.out ⟨by omega, by omega, by omega, length_chunk _ _⟩) (sec e q xs i) (by unfold sec; rw [HP.out])
                  with_reducible refine hcall.mono ?_
                  clear hcall
                  rintro en w10 ⟨v10, L10, rfl, h10, hO10⟩
                  obtain ⟨g10, c10, sp10, rfl, rfl, hc10⟩ := h10.blkn 32 (sec_len _ _ _ _) (by decide)
                  have HO10 := Lib.hid hO10.rot; have H10 := Lib.hid h10; clear hO10 h10 HO9 hc10
                  go_wp2_with fail
                  have hcall := read_ok HD9.out HO10.out ((a : Int) + i) (sec e q xs i) (refuse0 HSD.out (by omega) (by rw [HSN.out]; omega)) (by rw [show ((a : Int) + i).toNat = a + i by omega]; exact HST.out i (by rw [HP.out]; exact hlt))
                  with_reducible refine hcall.mono ?_
                  clear hcall
                  rintro en w11 ⟨v11, L11, Ld11, rfl, hd11, hO11, h11⟩
                  obtain ⟨g11, c11, sp11, rfl, rfl, hc11⟩ := h11.blkn 32 (sec_len _ _ _ _) (by decide)
                  have HO11 := Lib.hid hO11; have H11 := Lib.hid h11; have HD11 := Lib.hid hd11; clear hO11 h11 hd11 HO10 hc11 HD9
                  go_wp2_with fail
                  have h1 := H11.out.bs_sub HO11.out sub_here
                  have h2 := H10.out.bs_sub HO11.out (sub_there (B := [_]) (sub_there sub_here))
                  have hcall := same_c _ _ _ _ h1 h2 (by rw [sec_len]; decide)
                  rw [decide_eq_true rfl] at hcall
                  with_reducible refine hcall.mono ?_
                  clear hcall h1 h2
                  rintro en w12 ⟨rfl, m12, rfl⟩
                  have hO12 := (HO11.out.drewN m12).right.sub ((List.sublist_append_right [_] _).append_left Ld11)
                  have HO12 := Lib.hid hO12; clear HO11 hO12
                  generalize w11.drewN m12 = w12 at HO12
                  have hfin : (framed xs).length - 19 * (i + 1) = n - 19 := by omega
                  have hrdn : Rd w [(g8, .cells (List.toArray (bv (framed xs) ++ sp8)) 5)] (.slice (some (ad.add 19)) (n - 19) (c9 - 19)) ((framed xs).drop (19 * (i + 1))) := by
                    have h9 := HRD9.out.sub 19 (n - 19) (c9 - 19) (by omega) (by omega)
                    rw [List.drop_drop, List.take_of_length_le (by rw [List.length_drop]; omega), show 19 * i + 19 = 19 * (i + 1) by omega] at h9
                    exact h9
                  have HRDN := Lib.hid hrdn; have HFIN := Lib.hid hfin
                  clear hrdn hfin HRD9
                  go_wp2
                  go_roundw
                  case rel => exact ⟨i + 1, by omega, by go_num, some (ad.add 19), c9 - 19, by rw [HFIN.out]; rfl, Ld11, HD11.out, HRDN.out, HO12.out⟩
                  case measure => simp [intOf]; omega
                · have hnI : (n : Int) ≤ c9 := by omega
                  have hch : (framed xs).drop (19 * i) = chunk (framed xs) i := by
                    unfold chunk
                    rw [List.take_of_length_le (by rw [List.length_drop]; omega)]
                  rw [hch] at HRD9
                  clear hch
                  have hfin : (framed xs).length - 19 * (i + 1) = 0 := by omega
                  have hdr : (framed xs).drop (19 * (i + 1)) = [] := List.drop_of_length_le (by omega)
                  have HFIN := Lib.hid hfin; have HDR := Lib.hid hdr
                  clear hfin hdr
                  obtain ⟨A0, hA0⟩ : ∃ A0, (if c9 = n then some ad else some (ad.add n)) = A0 := ⟨_, rfl⟩
                  have HRDC := HRD9.out
                  go_wp2_with fail
                  have hcall := refSeal_ok HO9.out e q i p (.slice (some ad) n c9) (chunk (framed xs) i) (HRDC.sublist (sub_there sub_here)) (okSeal_mark HMK.out ⟨by omega, by omega, by omega, length_chunk _ _⟩) (sec e q xs i) (by unfold sec; rw [HP.out])
                  with_reducible refine hcall.mono ?_
                  clear hcall
                  rintro en w10 ⟨v10, L10, rfl, h10, hO10⟩
                  obtain ⟨g10, c10, sp10, rfl, rfl, hc10⟩ := h10.blkn 32 (sec_len _ _ _ _) (by decide)
                  have HO10 := Lib.hid hO10.rot; have H10 := Lib.hid h10; clear hO10 h10 HO9 hc10
                  go_wp2_with fail
                  have hcall := read_ok HD9.out HO10.out ((a : Int) + i) (sec e q xs i) (refuse0 HSD.out (by omega) (by rw [HSN.out]; omega)) (by rw [show ((a : Int) + i).toNat = a + i by omega]; exact HST.out i (by rw [HP.out]; exact hlt))
                  with_reducible refine hcall.mono ?_
                  clear hcall
                  rintro en w11 ⟨v11, L11, Ld11, rfl, hd11, hO11, h11⟩
                  obtain ⟨g11, c11, sp11, rfl, rfl, hc11⟩ := h11.blkn 32 (sec_len _ _ _ _) (by decide)
                  have HO11 := Lib.hid hO11; have H11 := Lib.hid h11; have HD11 := Lib.hid hd11; clear hO11 h11 hd11 HO10 hc11 HD9
                  go_wp2_with fail
                  have h1 := H11.out.bs_sub HO11.out sub_here
                  have h2 := H10.out.bs_sub HO11.out (sub_there (B := [_]) (sub_there sub_here))
                  have hcall := same_c _ _ _ _ h1 h2 (by rw [sec_len]; decide)
                  rw [decide_eq_true rfl] at hcall
                  with_reducible refine hcall.mono ?_
                  clear hcall h1 h2
                  rintro en w12 ⟨rfl, m12, rfl⟩
                  have hO12 := (HO11.out.drewN m12).right.sub ((List.sublist_append_right [_] _).append_left Ld11)
                  have HO12 := Lib.hid hO12; clear HO11 hO12
                  generalize w11.drewN m12 = w12 at HO12
                  go_wp2
                  go_roundw
                  case rel => exact ⟨i + 1, by omega, by go_num, _, c9 - n, by rw [HFIN.out], Ld11, HD11.out, by rw [HDR.out]; exact fun _ _ _ => ⟨_, _, _, rfl, rfl, Nat.zero_le _, fun h => absurd h (by omega)⟩, HO12.out⟩
                  case measure => simp [intOf]; omega
              · obtain rfl : i = p := by omega
                clear HRD9
                go_wp2_with fail
                have hcall := fread_ok HD9.out HO9.out HST.out HMK.out (by rw [HP.out]; exact hnb) HSD.out HSB.out HBB.out (a : Int) (S : Int) ((a : Int) + i) rfl (by rw [HP.out]) (by omega) (by rw [HSN.out]; omega)
                with_reducible refine hcall.mono ?_
                clear hcall
                rintro en w12 ⟨v12, L12, Ld12, rfl, hrd12, hd12, hO12⟩
                obtain ⟨A12, c12, rfl, hc12⟩ := (hrd12.bs_sub hO12 sub_here).len
                have HO12 := Lib.hid hO12; have HRD12 := Lib.hid hrd12; clear hO12 hrd12 hd12 HO9 HD9 hc12
                have k5 : (((a : Int) + i) == ((a : Int) + i)) = true := by simp
                go_wp2_with (first | (refine wl_alloc rfl _ rfl HO12.out _ (alloc_mark _) ?_; intro g13 w13 hO13; have HO13 := Lib.hid hO13; clear hO13 HO12) | (refine wl_store rfl _ _ _ rfl HO13.out 0 g13 0 _ [Value.int .i64 e, Value.int .i64 q] _ rfl (by rfl) (by rfl) mark_size (one_2i _ _) (by simp) ?_; intro w14 hO14; have HO14 := Lib.hid hO14; clear hO14 HO13) | (refine wl_g (by rfl) ?_; refine wl_load rfl _ _ rfl g13 0 [.int .i64 e, .int .i64 q] [.int .i64 e, .int .i64 q] 48 (HO14.out.heap (.head _)) (by rfl) _ Try.underlying48 rfl mark_size (by rfl) ?_) | (refine wl_g (by rfl) ?_; refine wl_load rfl _ _ rfl gm 0 [.int .i64 e, .int .i64 q] [.int .i64 e, .int .i64 q] 48 (HO14.out.heap (.tail _ (List.mem_append_right _ (List.mem_append_right _ (.tail _ (.head _)))))) (by rfl) _ Try.underlying48 rfl mark_size (by rfl) ?_))
                have h1 : Bs w14 (.slice A12 xs.length c12) xs := HRD12.out.bs_sub HO14.out ((sub_here).trans (List.sublist_cons_self _ _))
                have h2 : Bs w14 (.slice Ab xs.length cb) xs := HB.out.bs_sub HO14.out ((sub_there (sub_there (sub_there (B := [_]) (sub_there (B := [_]) sub_here)))).trans (List.sublist_cons_self _ _))
                have hcall := same_c _ _ _ _ h1 h2 (by omega)
                rw [decide_eq_true rfl] at hcall
                with_reducible refine hcall.mono ?_
                clear hcall h1 h2
                rintro en w15 ⟨rfl, m15, rfl⟩
                have HO15 := Lib.hid (HO14.out.drewN m15); clear HO14
                generalize w14.drewN m15 = w15 at HO15
                go_wp2_with fail
                have hcall := wakes3_c HO15.out
                with_reducible refine hcall.mono ?_
                clear hcall
                rintro en w16 ⟨rfl, hO16⟩
                have HO16 := Lib.hid hO16; clear hO16 HO15
                go_wp2
                go_ret
                exact HO16.out.yes rfl
set_option maxRecDepth 100000 in
theorem frameTells_lifted (os : Os) (started : os.Started) (H : Type) (enc : TypeId × Value → H) :
    ReturnsInHanded {} Try.checked os 7 .any (Rows.frameTellsSpec.pre6 enc Try.prog Try.f7 Rows.frameTellsRow.domain false) (Rows.frameTellsSpec.post enc Try.prog Try.f7 false true false false) := by
  refine returnsInHanded_of_change (C := Try.checked) (by kernel_rfl) started (by kernel_rfl) Try.func7
    (ChangeSpec.witness6 (enc := enc) (C := Try.checked) false ⟨#[], #[.slice none 0 0, .int .i64 0, .int .i64 0, .int .i64 0, .int .i64 0, .int .i64 0], []⟩ 8 (by kernel_rfl) (by kernel_rfl) (by kernel_rfl) (by kernel_rfl)) ?_
  intro W base args ds gs before hval0 hW hcnd _
  have hval : ∀ (j : Nat) t v, Try.f7.params[j]? = some t → args[j]? = some v → Value.okWide Try.prog W .any base t v := hval0
  have hW' := hW
  obtain ⟨p, q, hA0, hV, rfl, hfz, hnd⟩ := hW
  have hA : DataW.TrodAll enc Try.prog W 0 (fun _ => true) true Try.f7.params.toList args.toList ds p := hA0
  rw [Try.params7] at hA hval
  obtain ⟨v0, vs0, d0, ds0, p0, q0, hargs, rfl, rfl, h0, r0⟩ := trodAll_cons hA
  obtain ⟨v1, vs1, d1, ds1, p1, q1, rfl, rfl, rfl, h1, r1⟩ := trodAll_cons r0
  obtain ⟨v2, vs2, d2, ds2, p2, q2, rfl, rfl, rfl, h2, r2⟩ := trodAll_cons r1
  obtain ⟨v3, vs3, d3, ds3, p3, q3, rfl, rfl, rfl, h3, r3⟩ := trodAll_cons r2
  obtain ⟨v4, vs4, d4, ds4, p4, q4, rfl, rfl, rfl, h4, r4⟩ := trodAll_cons r3
  obtain ⟨v5, vs5, d5, ds5, p5, q5, rfl, rfl, rfl, h5, r5⟩ := trodAll_cons r4
  obtain ⟨rfl, rfl, rfl⟩ := trodAll_nil r5
  obtain rfl : args = #[v0, v1, v2, v3, v4, v5] := by cases args; simp_all
  obtain ⟨rfl, rfl⟩ := trodVars_none hV
  obtain ⟨b0, len0, cap0, rfl⟩ := okWide_slice Try.underlying27 (hval 0 27 v0 rfl rfl)
  have k0 := h0
  have lt0 : ∀ x ∈ p0, x.block < W.heap.size := by obtain ⟨m, hm⟩ := k0; exact DataW.trod_lt m _ _ _ hm
  obtain ⟨a0, w0⟩ : ∃ xs, InRow .u8 W (.slice b0 len0 cap0) xs := by
    obtain ⟨fuel, hf⟩ := h0
    rcases open_ints Try.underlying27 Try.underlying5 (by kernel_rfl) hf with ⟨hcs, _⟩ | ⟨x, l, c, zs, hcs, _, hl, hm, hz, _, hcell, hwz⟩
    · simp [Value.cells] at hcs
      obtain ⟨rfl, rfl, rfl⟩ := hcs
      exact ⟨[], inRow_nil _ _⟩
    · simp [Value.cells] at hcs
      obtain ⟨rfl, rfl, rfl⟩ := hcs
      exact ⟨zs.take len0, inRow_mk hl hm (by simpa using hz) hcell hwz⟩
  obtain ⟨a1, rfl, rfl, rfl, w1⟩ := open_int Try.underlying3 (hval 1 3 v1 rfl rfl) h1
  obtain ⟨a2, rfl, rfl, rfl, w2⟩ := open_int Try.underlying3 (hval 2 3 v2 rfl rfl) h2
  obtain ⟨a3, rfl, rfl, rfl, w3⟩ := open_int Try.underlying3 (hval 3 3 v3 rfl rfl) h3
  obtain ⟨a4, rfl, rfl, rfl, w4⟩ := open_int Try.underlying3 (hval 4 3 v4 rfl rfl) h4
  obtain ⟨a5, rfl, rfl, rfl, w5⟩ := open_int Try.underlying3 (hval 5 3 v5 rfl rfl) h5
  clear hA0 hval0
  refine (frameTells_walk _ a0 w0 a1 w1 a2 w2 a3 w3 a4 w4 a5 w5).mono fun e W' ⟨he, bel⟩ => ?_
  subst he
  exact ⟨_, rfl, _, _, _, [], _, [], hW', trodAll_mk1 (shut_bool Try.underlying4 _), (trodAll_cons_mk (Below.trod laidOut (by kernel_rfl) (of_decide_eq_true (by kernel_rfl)) k0 bel lt0) (trodAll_cons_mk (shut_int Try.underlying3 w1) (trodAll_cons_mk (shut_int Try.underlying3 w2) (trodAll_cons_mk (shut_int Try.underlying3 w3) (trodAll_cons_mk (shut_int Try.underlying3 w4) (trodAll_cons_mk (shut_int Try.underlying3 w5) trodAll_mk0)))))), rfl, bel.frame _, fun h => by cases h⟩

/-- The statement. -/
theorem frameTells_proved : Rows.FrameTellsSaid :=
  OpenClaim.holds_of_wide 7 Try.f7 rfl rfl rfl rfl rfl rfl rfl ⟨rfl, rfl, rfl, rfl, rfl⟩ rfl rfl rfl rfl rfl (by kernel_rfl) Try.func7 (by kernel_rfl)
    (of_decide_eq_true (by kernel_rfl)) (by unfold Func.isWrapper; first | (rw [if_pos (by decide +kernel)]; kernel_rfl) | (rw [if_neg (by decide +kernel)]; exact ⟨rfl, rfl⟩))
    (fun os started H enc _ => frameTells_lifted os started H enc)
end Go.Proofs.Ytlapheiekjhceaa

