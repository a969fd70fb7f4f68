/-
  FrameTorn: every input answers true (a record torn, or partly kept, over an older one of another mark, is read whole, as the older one, or not at all).
  No conditions beyond the statement's own.
-/
import Derived.Test.YtlapheiekjhceaaL03a
import Derived.Test.YtlapheiekjhceaaFrame8
import Derived.Test.YtlapheiekjhceaaKeep2
namespace Go.Proofs.Ytlapheiekjhceaa
set_option linter.unusedVariables false
set_option linter.unusedSimpArgs false
open Go.ChangeShapes Go.WideShapes Go.ChangeAt Go.RowKit
open Go.ChangeMaps (open_string shut_string)

theorem build_mt4 (a b : Int) (w : World) : (Instr.build 48 #[(0, .int .i64 a), (1, .int .i64 b)]).run Try.prog w = .ok (.agg #[.int .i64 a, .int .i64 b]) w := by kernel_rfl
theorem need100 {xs : List Int} (h : xs.length ≤ 99) : need xs ≤ 6 := by unfold need; omega
set_option maxRecDepth 100000 in
set_option maxHeartbeats 16000000 in
theorem frameTorn_walk {w : World} (a0 : Int) (_ : (Lit.int .i64 a0).wf = true) (a1 : Int) (_ : (Lit.int .i64 a1).wf = true) (a2 : Int) (_ : (Lit.int .i64 a2).wf = true) (a3 : Int) (_ : (Lit.int .i64 a3).wf = true) (v4 : Value) (a4 : List Int) (h4 : InRow .i64 w v4 a4) :
    Calls Try.prog 6 #[.int .i64 a0, .int .i64 a1, .int .i64 a2, .int .i64 a3, v4] w (Yes w) := by
  have HK := Lib.hid h4
  obtain ⟨A4, n4, c4, rfl, hn4, hc4, hm4, hw4, hA4⟩ := h4
  have HN4 := Lib.hid hn4; have HA4 := Lib.hid hA4; clear hn4 hA4 hw4
  have hn4m : n4 ≤ 9223372036854775807 := by simp only [maxLen] at hm4; omega
  clear hm4 hc4
  have HO := Lib.hid (Own.start w)
  go_enter Try.func6, Try.ntmps6
  go_wp2_with fail
  have hcall := new_is HO.out 12 12 (by decide)
  with_reducible refine hcall.mono ?_
  clear hcall
  rintro en w1 ⟨d, L, rfl, hd, hO1⟩
  obtain ⟨bd, rfl⟩ := hd.ptr
  have HD := Lib.hid hd; have HO1 := Lib.hid hO1; clear hd hO1 HO
  go_wp2_with fail
  have hcall := within_n (w := w1) a2 100 (by omega) (by omega)
  obtain ⟨K, hK⟩ : ∃ K, (a2 % 100).toNat = K := ⟨_, rfl⟩
  have hK99 : K ≤ 99 := by omega
  rw [hK] at hcall
  clear hK
  with_reducible refine hcall.mono ?_
  clear hcall
  rintro en w' ⟨rfl, rfl⟩
  go_wp2_with fail
  have hcall := bytes_c HO1.out a0 K (by omega)
  with_reducible refine hcall.mono ?_
  clear hcall
  rintro en w2 ⟨v2, L2, rfl, h2, hO2⟩
  have hAl : (pbytes a0 K).length ≤ 99 := by simp; omega
  have hAb : Byt (pbytes a0 K) := byt_pbytes _ _
  generalize pbytes a0 K = A at *
  obtain ⟨A2, c2, rfl⟩ := h2.val
  have HO2 := Lib.hid hO2; have H2 := Lib.hid h2; have HAB := Lib.hid hAb; clear hO2 h2 hAb HO1
  go_wp2_with fail
  have hcall := within_n (w := w2) a3 100 (by omega) (by omega)
  obtain ⟨M, hM⟩ : ∃ M, (a3 % 100).toNat = M := ⟨_, rfl⟩
  have hM99 : M ≤ 99 := by omega
  rw [hM] at hcall
  clear hM
  with_reducible refine hcall.mono ?_
  clear hcall
  rintro en w' ⟨rfl, rfl⟩
  go_wp2_with fail
  have hcall := bytes_c HO2.out a1 M (by omega)
  with_reducible refine hcall.mono ?_
  clear hcall
  rintro en w3 ⟨v3, L3, rfl, h3, hO3⟩
  have hBl : (pbytes a1 M).length ≤ 99 := by simp; omega
  have hBb : Byt (pbytes a1 M) := byt_pbytes _ _
  generalize pbytes a1 M = B at *
  obtain ⟨A3, c3, rfl⟩ := h3.val
  have hO3' : Own w w3 (L ++ (L2 ++ (L3 ++ []))) := by
    have h5 : Own w w3 (L3 ++ (L2 ++ (L ++ []))) := hO3
    have h6 := h5.rot3
    exact h6.perm (List.Perm.append_left L (by simpa using List.perm_append_comm))
  have HO3 := Lib.hid hO3'; have H3 := Lib.hid h3; have HBB := Lib.hid hBb; clear hO3 hO3' h3 hBb HO2
  have hnA := need100 hAl
  have hnB := need100 hBl
  have hpB := need_pos B
  have HAL := Lib.hid hAl; have HBL := Lib.hid hBl; clear hAl hBl
  have HNA := Lib.hid hnA; have HNB := Lib.hid hnB
  clear hnA
  go_wp2_with (refine wl_build rfl _ _ rfl _ (by exact build_mt4 1 4 _) ?_)
  have hcall := fwrite_ok (a := 2) (e := 1) (q := 4) (b := A) HD.out HO3.out (.slice A2 A.length c2) (H2.out.rd sub_here) HAB.out (by have := HNA.out; omega) (by decide) rfl rfl (by rw [newSt_n]; have := HNA.out; omega) (by have := HNA.out; simp [newSt]; omega) 2 _ rfl rfl
  with_reducible refine hcall.mono ?_
  clear hcall
  rintro en w4 ⟨rfl, L4, hd4, hO4⟩
  have HD4 := Lib.hid hd4; have HO4 := Lib.hid hO4; clear hd4 hO4 HO3 HD
  go_wp2_with fail
  have hcall := flush_is HD4.out HO4.out _ 0 rfl rfl
  with_reducible refine hcall.mono ?_
  clear hcall
  rintro en w5 ⟨rfl, L5, hd5, hO5⟩
  have HD5 := Lib.hid hd5; have HO5 := Lib.hid hO5; clear hd5 hO5 HO4 HD4
  go_wp2_with (refine wl_build rfl _ _ rfl _ (by exact build_mt4 2 4 _) ?_)
  have hcall := fwrite_ok (a := 2) (e := 2) (q := 4) (b := B) HD5.out HO5.out (.slice A3 B.length c3) (H3.out.rd (sub_there sub_here)) HBB.out (by have := HNB.out; omega) (by decide) rfl rfl (by have h9 : (((newSt 12).put 2 (secs_of 1 4 A)).flush).n = 12 := (DSt.length_la _).trans rfl; rw [h9]; have := HNB.out; omega) (by have := HNB.out; have h9 : (((newSt 12).put 2 (secs_of 1 4 A)).flush).pend = [] := rfl; rw [h9]; simp; omega) 2 _ rfl rfl
  with_reducible refine hcall.mono ?_
  clear hcall
  rintro en w6 ⟨rfl, L6, hd6, hO6⟩
  have HD6 := Lib.hid hd6; have HO6 := Lib.hid hO6; clear hd6 hO6 HO5 HD5
  have hneed : ∀ wz, Own w wz (L6 ++ (L2 ++ (L3 ++ []))) → Calls Try.prog 24 #[.slice A3 B.length c3] wz fun e w' => e = .returned (.int .i64 ((need B : Nat) : Int)) ∧ wz = w' := fun wz h => need_c _ B (H3.out.bs_sub h (sub_there (sub_there sub_here))) (by have := HBL.out; omega)
  have HNEED := Lib.hid hneed
  clear hneed
  obtain ⟨p, hp⟩ : ∃ p, need B = p := ⟨_, rfl⟩
  have HP := Lib.hid hp
  rw [hp] at hnB hpB HNEED
  clear hp
  go_wp2_with fail
  go_loopw [18, 19] (fun b t wx => ∃ i : Nat, i ≤ p ∧ t = .int .i64 i ∧ b = .bool (allTo a4 i) ∧ wx = w6) (fun _ t _ => p - (intOf t).toNat)
  case atStart => exact ⟨0, Nat.zero_le _, rfl, rfl, rfl⟩
  case round =>
    obtain ⟨i, hi, rfl, rfl, rfl⟩ := hrel
    go_wp2_with fail
    with_reducible refine (HNEED.out _ HO6.out).mono ?_
    rintro en w' ⟨rfl, rfl⟩
    by_cases hlt : i < p
    · have hin : (i : Int) < p := by omega
      have hst : allTo a4 (i + 1) = (allTo a4 i && decide (a4[i]? = some 2)) := rfl
      have HST := Lib.hid hst; clear hst
      cases hall : allTo a4 i
      · rw [hall] at HST
        clear hall
        go_wp2
        go_roundw
        case rel => exact ⟨i + 1, by omega, by go_num, by rw [HST.out]; rfl, trivial⟩
        case measure => simp [intOf]; omega
      · rw [hall] at HST
        clear hall
        by_cases hlen : i < n4
        · have hlen' : (i : Int) < n4 := by omega
          have hi0 : (0 : Int) ≤ i := by omega
          obtain ⟨ad, rfl, _, hcell⟩ := HA4.out (by omega)
          have hix : i < a4.length := by rw [HN4.out]; exact hlen
          have hcx : wr.cell? (ad.add i) = some (.int .i64 a4[i]) := by
            rw [HO6.out.below.cell (by have := block_lt_of_cell (hcell i _ (List.getElem?_eq_getElem hix)); exact this)]
            exact hcell i _ (List.getElem?_eq_getElem hix)
          have hgi : a4[i]? = some a4[i] := List.getElem?_eq_getElem hix
          have HGI := Lib.hid hgi
          clear hcell hgi
          generalize a4[i] = x at *
          by_cases hx2 : x = 2
          · subst hx2
            go_wp2
            go_roundw
            case rel => exact ⟨i + 1, by omega, by go_num, by rw [HST.out, HGI.out]; rfl, trivial⟩
            case measure => simp [intOf]; omega
          · have hxb : (x == 2) = false := by simpa using hx2
            have HX2 := Lib.hid hx2
            clear hx2
            go_wp2
            go_roundw
            case rel => exact ⟨i + 1, by omega, by go_num, by rw [HST.out, HGI.out, decide_eq_false (by simpa using HX2.out)]; rfl, trivial⟩
            case measure => simp [intOf]; omega
        · have hlen' : ¬ (i : Int) < n4 := by omega
          have hgi : a4[i]? = none := List.getElem?_eq_none (by rw [HN4.out]; omega)
          have HGI := Lib.hid hgi
          clear hgi
          go_wp2
          go_roundw
          case rel => exact ⟨i + 1, by omega, by go_num, by rw [HST.out, HGI.out]; rfl, trivial⟩
          case measure => simp [intOf]; omega
    · obtain rfl : i = p := by omega
      clear HNEED
      have hke : ¬ (i : Int) < i := by omega
      go_wp2_with fail
      have hcall := crash_is HD6.out HO6.out (.slice A4 n4 c4) a4 (HK.out.rdv _) (tornSt A B a4) rfl
      with_reducible refine hcall.mono ?_
      clear hcall
      rintro en w7 ⟨rfl, L7, hd7, hO7⟩
      have HD7 := Lib.hid hd7; have HO7 := Lib.hid hO7; clear hd7 hO7 HO6 HD6
      go_wp2_with fail
      have htb := torn_byt (ks := a4) HNA.out HNB.out HAB.out HBB.out
      have HTB := Lib.hid htb; clear htb
      have hall := allTo_iff a4 i
      cases hal : allTo a4 i
      · rw [hal] at hall
        have hnot : ¬ ∀ j, j < need B → a4[j]? = some 2 := by rw [HP.out]; exact fun h => by have := hall.2 h; cases this
        clear hall hal
        have HNOT := Lib.hid hnot; clear hnot
        by_cases h02 : a4[0]? = some 2
        · have hex : ∃ j, j < need B ∧ a4[j]? ≠ some 2 := by
            rcases Classical.em (∃ j, j < need B ∧ a4[j]? ≠ some 2) with h | h
            · exact h
            · exact absurd (fun j hj => Classical.not_not.1 (fun hn => h ⟨j, hj, hn⟩)) HNOT.out
          obtain ⟨j, hj, hne⟩ := hex
          have hcall := fread_form (at_ := 2) (en := 12) HD7.out HO7.out (by decide) (by decide) (by rw [torn_n]; decide) rfl HTB.out (fun _ => torn_none2 HNA.out HNB.out h02 j hj hne)
          clear h02 hj hne
          with_reducible refine hcall.mono ?_
          clear hcall
          rintro en w8 ⟨v8, L8, Ld8, rfl, hrd8, hd8, hO8⟩
          obtain ⟨A8, c8, rfl, hc8⟩ := (hrd8.bs_sub hO8 sub_here).len
          have HO8 := Lib.hid hO8; clear hO8 hrd8 hd8 hc8 HO7 HD7
          simp only [List.length_nil]
          go_wp2_with (first | (refine wl_alloc rfl _ rfl HO8.out _ (alloc_mark _) ?_; intro g9 w9 hO9; have HO9 := Lib.hid hO9; clear hO9 HO8) | (refine wl_store rfl _ _ _ rfl HO9.out 0 g9 0 _ [Value.int .i64 0, Value.int .i64 0] _ rfl (by rfl) (by rfl) mark_size (one_2i _ _) (by simp) ?_; intro w10 hO10; have HO10 := Lib.hid hO10; clear hO10 HO9) | (refine wl_load rfl _ _ rfl g9 0 [.int .i64 0, .int .i64 0] [.int .i64 0, .int .i64 0] 48 (HO10.out.heap (.head _)) (by rfl) _ Try.underlying48 rfl mark_size (by rfl) ?_) | (refine wl_build rfl _ _ rfl _ (by exact build_mt4 _ _ _) ?_))
          have hcall := wakes3_c HO10.out
          with_reducible refine hcall.mono ?_
          clear hcall
          rintro en w11 ⟨rfl, hO11⟩
          have HO11 := Lib.hid hO11; clear hO11 HO10
          go_wp2
          go_ret
          exact HO11.out.yes rfl
        · by_cases h01 : a4[0]? = some 1
          · have hcall := fread_form (at_ := 2) (en := 12) HD7.out HO7.out (by decide) (by decide) (by rw [torn_n]; decide) rfl HTB.out (fun h => absurd h (by rw [torn_first HNA.out HNB.out h01]; decide))
            clear h02 h01
            with_reducible refine hcall.mono ?_
            clear hcall
            rintro en w8 ⟨v8, L8, Ld8, rfl, hrd8, hd8, hO8⟩
            obtain ⟨A8, c8, rfl, hc8⟩ := (hrd8.bs_sub hO8 sub_here).len
            have HO8 := Lib.hid hO8; clear hO8 hrd8 hd8 hc8 HO7 HD7
            simp only [List.length_nil]
            go_wp2_with (first | (refine wl_alloc rfl _ rfl HO8.out _ (alloc_mark _) ?_; intro g9 w9 hO9; have HO9 := Lib.hid hO9; clear hO9 HO8) | (refine wl_store rfl _ _ _ rfl HO9.out 0 g9 0 _ [Value.int .i64 0, Value.int .i64 0] _ rfl (by rfl) (by rfl) mark_size (one_2i _ _) (by simp) ?_; intro w10 hO10; have HO10 := Lib.hid hO10; clear hO10 HO9) | (refine wl_load rfl _ _ rfl g9 0 [.int .i64 0, .int .i64 0] [.int .i64 0, .int .i64 0] 48 (HO10.out.heap (.head _)) (by rfl) _ Try.underlying48 rfl mark_size (by rfl) ?_) | (refine wl_build rfl _ _ rfl _ (by exact build_mt4 _ _ _) ?_))
            have hcall := wakes3_c HO10.out
            with_reducible refine hcall.mono ?_
            clear hcall
            rintro en w11 ⟨rfl, hO11⟩
            have HO11 := Lib.hid hO11; clear hO11 HO10
            go_wp2
            go_ret
            exact HO11.out.yes rfl
          · by_cases hold : ∀ j, j < need A → j < need B → a4[j]? ≠ some 2 ∧ a4[j]? ≠ some 1
            · have hcall := fread_ok HD7.out HO7.out (torn_old HNA.out HNB.out hold) (by decide) (by have := HNA.out; omega) rfl HTB.out HAB.out 2 12 (2 + need A) rfl rfl (by have := HNA.out; omega) (by rw [torn_n]; decide)
              clear h02 h01 hold
              with_reducible refine hcall.mono ?_
              clear hcall
              rintro en w8 ⟨v8, L8, Ld8, rfl, hrd8, hd8, hO8⟩
              obtain ⟨A8, c8, rfl, hc8⟩ := (hrd8.bs_sub hO8 sub_here).len
              have HO8 := Lib.hid hO8; have HRD8 := Lib.hid hrd8; clear hO8 hrd8 hd8 hc8 HO7 HD7
              go_wp2_with (first | (refine wl_alloc rfl _ rfl HO8.out _ (alloc_mark _) ?_; intro g9 w9 hO9; have HO9 := Lib.hid hO9; clear hO9 HO8) | (refine wl_store rfl _ _ _ rfl HO9.out 0 g9 0 _ [Value.int .i64 1, Value.int .i64 4] _ rfl (by rfl) (by rfl) mark_size (one_2i _ _) (by simp) ?_; intro w10 hO10; have HO10 := Lib.hid hO10; clear hO10 HO9) | (refine wl_load rfl _ _ rfl g9 0 [.int .i64 1, .int .i64 4] [.int .i64 1, .int .i64 4] 48 (HO10.out.heap (.head _)) (by rfl) _ Try.underlying48 rfl mark_size (by rfl) ?_) | (refine wl_build rfl _ _ rfl _ (by exact build_mt4 _ _ _) ?_))
              have h1 : Bs w10 (.slice A8 A.length c8) A := HRD8.out.bs_sub HO10.out ((sub_here).trans (List.sublist_cons_self _ _))
              have h2 : Bs w10 (.slice A2 A.length c2) A := H2.out.bs_sub HO10.out (((sub_there (sub_there sub_here))).trans (List.sublist_cons_self _ _))
              have hcall := same_c _ _ _ _ h1 h2 (by have := HAL.out; omega)
              rw [decide_eq_true rfl] at hcall
              with_reducible refine hcall.mono ?_
              clear hcall h1 h2
              rintro en w11 ⟨rfl, m11, rfl⟩
              have HO11 := Lib.hid (HO10.out.drewN m11); clear HO10
              generalize w10.drewN m11 = w11 at HO11
              go_wp2_with fail
              have hcall := wakes3_c HO11.out
              with_reducible refine hcall.mono ?_
              clear hcall
              rintro en w12 ⟨rfl, hO12⟩
              have HO12 := Lib.hid hO12; clear hO12 HO11
              go_wp2
              go_ret
              exact HO12.out.yes rfl
            · have hex : ∃ j, j < need A ∧ j < need B ∧ (a4[j]? = some 2 ∨ a4[j]? = some 1) := by
                rcases Classical.em (∃ j, j < need A ∧ j < need B ∧ (a4[j]? = some 2 ∨ a4[j]? = some 1)) with h | h
                · exact h
                · exact absurd (fun j h1 h2 => ⟨fun h3 => h ⟨j, h1, h2, .inl h3⟩, fun h3 => h ⟨j, h1, h2, .inr h3⟩⟩) hold
              obtain ⟨j, hjA, hjB, hk⟩ := hex
              have hcall := fread_form (at_ := 2) (en := 12) HD7.out HO7.out (by decide) (by decide) (by rw [torn_n]; decide) rfl HTB.out (fun _ => torn_none1 HNA.out HNB.out h02 h01 j hjA hjB hk)
              clear h02 h01 hold hjA hjB hk
              with_reducible refine hcall.mono ?_
              clear hcall
              rintro en w8 ⟨v8, L8, Ld8, rfl, hrd8, hd8, hO8⟩
              obtain ⟨A8, c8, rfl, hc8⟩ := (hrd8.bs_sub hO8 sub_here).len
              have HO8 := Lib.hid hO8; clear hO8 hrd8 hd8 hc8 HO7 HD7
              simp only [List.length_nil]
              go_wp2_with (first | (refine wl_alloc rfl _ rfl HO8.out _ (alloc_mark _) ?_; intro g9 w9 hO9; have HO9 := Lib.hid hO9; clear hO9 HO8) | (refine wl_store rfl _ _ _ rfl HO9.out 0 g9 0 _ [Value.int .i64 0, Value.int .i64 0] _ rfl (by rfl) (by rfl) mark_size (one_2i _ _) (by simp) ?_; intro w10 hO10; have HO10 := Lib.hid hO10; clear hO10 HO9) | (refine wl_load rfl _ _ rfl g9 0 [.int .i64 0, .int .i64 0] [.int .i64 0, .int .i64 0] 48 (HO10.out.heap (.head _)) (by rfl) _ Try.underlying48 rfl mark_size (by rfl) ?_) | (refine wl_build rfl _ _ rfl _ (by exact build_mt4 _ _ _) ?_))
              have hcall := wakes3_c HO10.out
              with_reducible refine hcall.mono ?_
              clear hcall
              rintro en w11 ⟨rfl, hO11⟩
              have HO11 := Lib.hid hO11; clear hO11 HO10
              go_wp2
              go_ret
              exact HO11.out.yes rfl
      · have hyes : ∀ j, j < need B → a4[j]? = some 2 := by rw [HP.out]; exact hall.1 hal
        clear hall hal
        have hcall := fread_ok HD7.out HO7.out (torn_all HNA.out HNB.out hyes) (by decide) (by have := HNB.out; omega) rfl HTB.out HBB.out 2 12 (2 + need B) rfl rfl (by have := HNB.out; omega) (by rw [torn_n]; decide)
        clear hyes
        with_reducible refine hcall.mono ?_
        clear hcall
        rintro en w8 ⟨v8, L8, Ld8, rfl, hrd8, hd8, hO8⟩
        obtain ⟨A8, c8, rfl, hc8⟩ := (hrd8.bs_sub hO8 sub_here).len
        have HO8 := Lib.hid hO8; have HRD8 := Lib.hid hrd8; clear hO8 hrd8 hd8 hc8 HO7 HD7
        go_wp2_with (first | (refine wl_alloc rfl _ rfl HO8.out _ (alloc_mark _) ?_; intro g9 w9 hO9; have HO9 := Lib.hid hO9; clear hO9 HO8) | (refine wl_store rfl _ _ _ rfl HO9.out 0 g9 0 _ [Value.int .i64 2, Value.int .i64 4] _ rfl (by rfl) (by rfl) mark_size (one_2i _ _) (by simp) ?_; intro w10 hO10; have HO10 := Lib.hid hO10; clear hO10 HO9) | (refine wl_load rfl _ _ rfl g9 0 [.int .i64 2, .int .i64 4] [.int .i64 2, .int .i64 4] 48 (HO10.out.heap (.head _)) (by rfl) _ Try.underlying48 rfl mark_size (by rfl) ?_) | (refine wl_build rfl _ _ rfl _ (by exact build_mt4 _ _ _) ?_))
        have h1 : Bs w10 (.slice A8 B.length c8) B := HRD8.out.bs_sub HO10.out ((sub_here).trans (List.sublist_cons_self _ _))
        have h2 : Bs w10 (.slice A3 B.length c3) B := H3.out.bs_sub HO10.out (((sub_there (sub_there (sub_there sub_here)))).trans (List.sublist_cons_self _ _))
        have hcall := same_c _ _ _ _ h1 h2 (by have := HBL.out; omega)
        rw [decide_eq_true rfl] at hcall
        with_reducible refine hcall.mono ?_
        clear hcall h1 h2
        rintro en w11 ⟨rfl, m11, rfl⟩
        have HO11 := Lib.hid (HO10.out.drewN m11); clear HO10
        generalize w10.drewN m11 = w11 at HO11
        go_wp2_with fail
        have hcall := wakes3_c HO11.out
        with_reducible refine hcall.mono ?_
        clear hcall
        rintro en w12 ⟨rfl, hO12⟩
        have HO12 := Lib.hid hO12; clear hO12 HO11
        go_wp2
        go_ret
        exact HO12.out.yes rfl
set_option maxRecDepth 100000 in
theorem frameTorn_lifted (os : Os) (started : os.Started) (H : Type) (enc : TypeId × Value → H) :
    ReturnsInHanded {} Try.checked os 6 .any (Rows.frameTornSpec.pre6 enc Try.prog Try.f6 Rows.frameTornRow.domain false) (Rows.frameTornSpec.post enc Try.prog Try.f6 false true false false) := by
  refine returnsInHanded_of_change (C := Try.checked) (by kernel_rfl) started (by kernel_rfl) Try.func6
    (ChangeSpec.witness6 (enc := enc) (C := Try.checked) false ⟨#[], #[.int .i64 0, .int .i64 0, .int .i64 0, .int .i64 0, .slice none 0 0], []⟩ 8 (by kernel_rfl) (by kernel_rfl) (by kernel_rfl) (by kernel_rfl)) ?_
  intro W base args ds gs before hval0 hW hcnd _
  have hval : ∀ (j : Nat) t v, Try.f6.params[j]? = some t → args[j]? = some v → Value.okWide Try.prog W .any base t v := hval0
  have hW' := hW
  obtain ⟨p, q, hA0, hV, rfl, hfz, hnd⟩ := hW
  have hA : DataW.TrodAll enc Try.prog W 0 (fun _ => true) true Try.f6.params.toList args.toList ds p := hA0
  rw [Try.params6] at hA hval
  obtain ⟨v0, vs0, d0, ds0, p0, q0, hargs, rfl, rfl, h0, r0⟩ := trodAll_cons hA
  obtain ⟨v1, vs1, d1, ds1, p1, q1, rfl, rfl, rfl, h1, r1⟩ := trodAll_cons r0
  obtain ⟨v2, vs2, d2, ds2, p2, q2, rfl, rfl, rfl, h2, r2⟩ := trodAll_cons r1
  obtain ⟨v3, vs3, d3, ds3, p3, q3, rfl, rfl, rfl, h3, r3⟩ := trodAll_cons r2
  obtain ⟨v4, vs4, d4, ds4, p4, q4, rfl, rfl, rfl, h4, r4⟩ := trodAll_cons r3
  obtain ⟨rfl, rfl, rfl⟩ := trodAll_nil r4
  obtain rfl : args = #[v0, v1, v2, v3, v4] := by cases args; simp_all
  obtain ⟨rfl, rfl⟩ := trodVars_none hV
  obtain ⟨a0, rfl, rfl, rfl, w0⟩ := open_int Try.underlying3 (hval 0 3 v0 rfl rfl) h0
  obtain ⟨a1, rfl, rfl, rfl, w1⟩ := open_int Try.underlying3 (hval 1 3 v1 rfl rfl) h1
  obtain ⟨a2, rfl, rfl, rfl, w2⟩ := open_int Try.underlying3 (hval 2 3 v2 rfl rfl) h2
  obtain ⟨a3, rfl, rfl, rfl, w3⟩ := open_int Try.underlying3 (hval 3 3 v3 rfl rfl) h3
  obtain ⟨b4, len4, cap4, rfl⟩ := okWide_slice Try.underlying22 (hval 4 22 v4 rfl rfl)
  have k4 := h4
  have lt4 : ∀ x ∈ p4, x.block < W.heap.size := by obtain ⟨m, hm⟩ := k4; exact DataW.trod_lt m _ _ _ hm
  obtain ⟨a4, w4⟩ : ∃ xs, InRow .i64 W (.slice b4 len4 cap4) xs := by
    obtain ⟨fuel, hf⟩ := h4
    rcases open_ints Try.underlying22 Try.underlying3 (by kernel_rfl) hf with ⟨hcs, _⟩ | ⟨x, l, c, zs, hcs, _, hl, hm, hz, _, hcell, hwz⟩
    · simp [Value.cells] at hcs
      obtain ⟨rfl, rfl, rfl⟩ := hcs
      exact ⟨[], inRow_nil _ _⟩
    · simp [Value.cells] at hcs
      obtain ⟨rfl, rfl, rfl⟩ := hcs
      exact ⟨zs.take len4, inRow_mk hl hm (by simpa using hz) hcell hwz⟩
  clear hA0 hval0
  refine (frameTorn_walk a0 w0 a1 w1 a2 w2 a3 w3 _ a4 w4).mono fun e W' ⟨he, bel⟩ => ?_
  subst he
  exact ⟨_, rfl, _, _, _, [], _, [], hW', trodAll_mk1 (shut_bool Try.underlying4 _), (trodAll_cons_mk (shut_int Try.underlying3 w0) (trodAll_cons_mk (shut_int Try.underlying3 w1) (trodAll_cons_mk (shut_int Try.underlying3 w2) (trodAll_cons_mk (shut_int Try.underlying3 w3) (trodAll_cons_mk (Below.trod laidOut (by kernel_rfl) (of_decide_eq_true (by kernel_rfl)) k4 bel lt4) trodAll_mk0))))), rfl, bel.frame _, fun h => by cases h⟩

/-- The statement. -/
theorem frameTorn_proved : Rows.FrameTornSaid :=
  OpenClaim.holds_of_wide 6 Try.f6 rfl rfl rfl rfl rfl rfl rfl ⟨rfl, rfl, rfl, rfl, rfl⟩ rfl rfl rfl rfl rfl (by kernel_rfl) Try.func6 (by kernel_rfl)
    (of_decide_eq_true (by kernel_rfl)) (by unfold Func.isWrapper; first | (rw [if_pos (by decide +kernel)]; kernel_rfl) | (rw [if_neg (by decide +kernel)]; exact ⟨rfl, rfl⟩))
    (fun os started H enc _ => frameTorn_lifted os started H enc)
end Go.Proofs.Ytlapheiekjhceaa

