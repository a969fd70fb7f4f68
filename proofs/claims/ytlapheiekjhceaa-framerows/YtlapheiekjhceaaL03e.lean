/-
  FrameRows: every input answers true (records written one behind the other are read one behind the other; behind the last one there is none).
  No conditions beyond the statement's own.
-/
import Derived.Test.YtlapheiekjhceaaL03a
import Derived.Test.YtlapheiekjhceaaFrame9
import Derived.Test.YtlapheiekjhceaaKeep2
namespace Go.Proofs.Ytlapheiekjhceaa
set_option linter.unusedVariables false
set_option linter.unusedSimpArgs false
open Go.ChangeShapes Go.WideShapes Go.ChangeAt Go.RowKit
open Go.ChangeMaps (open_string shut_string)

theorem build_mr (a b : Int) (w : World) : (Instr.build 48 #[(0, .int .i64 a), (1, .int .i64 b)]).run Try.prog w = .ok (.agg #[.int .i64 a, .int .i64 b]) w := by kernel_rfl
theorem vs_oneR {w0 w : World} {L : Blks} {g : Nat} {v : Value} {t : TypeId} (hO : Own w0 w L) (hm : (g, Obj.cells [v].toArray t) ∈ L) : Vs w (.slice (some ⟨g, 0, none⟩) 1 1) [v] :=
  ⟨_, _, _, rfl, rfl, Nat.le_refl _, fun _ => ⟨_, rfl, fun j u hu => by rw [addr_add_zero, hO.cell hm j]; simpa using hu⟩⟩
structure RowsV (w : World) (v : Value) (bl : List (List Int)) (vs : List Value) (Lv X : Blks) : Prop where
  row : IsRow 27 1 v bl.length vs Lv
  each : ∀ j, j < bl.length → Rd w X (vs.getD j undef) (bl.getD j [])
def RowsTo (w : World) (d : Value) (P i : Nat) (v : Value) (wx : World) : Prop :=
  ∃ bl s vs Lv X Ld, bl.length = i ∧ pos bl i = P ∧ RowsV w v bl vs Lv X ∧ IsDisk d s Ld ∧ RowsSt s bl ∧ Own w wx (Ld ++ (Lv ++ X))
def ReadTo (w : World) (d : Value) (s : DSt) (R : Blks) (wx : World) : Prop := ∃ Ld, IsDisk d s Ld ∧ Own w wx (Ld ++ R)
theorem rowsV_step {w : World} {v v' : Value} {bl : List (List Int)} {vs : List Value} {Lv X Lv' Lb : Blks} {b : List Int} {vb : Value} (h : RowsV w v bl vs Lv X) (hr : IsRow 27 1 v' (bl.length + 1) (vs ++ [vb]) Lv') (hb : Rd w Lb vb b) : RowsV w v' (bl ++ [b]) (vs ++ [vb]) Lv' (Lb ++ X) := by
  have hl : vs.length = bl.length := by have := h.row.1; omega
  refine ⟨by rw [List.length_append, List.length_singleton]; exact hr, fun j hj => ?_⟩
  rw [List.length_append, List.length_singleton] at hj
  by_cases hjb : j < bl.length
  · have e1 : (vs ++ [vb]).getD j undef = vs.getD j undef := by simp only [List.getD]; rw [List.getElem?_append_left (by omega)]
    have e2 : (bl ++ [b]).getD j [] = bl.getD j [] := by simp only [List.getD]; rw [List.getElem?_append_left hjb]
    rw [e1, e2]
    exact (h.each j hjb).more
  · obtain rfl : j = bl.length := by omega
    have e1 : (vs ++ [vb]).getD bl.length undef = vb := by rw [← hl]; simp [List.getD]
    have e2 : (bl ++ [b]).getD bl.length [] = b := by simp [List.getD]
    rw [e1, e2]
    exact hb.sublist sub_here
set_option maxRecDepth 100000 in
set_option maxHeartbeats 16000000 in
theorem frameRows_walk {w : World} (v0 : Value) (a0 : List Int) (h0 : InRow .i64 w v0 a0) (a1 : Int) (_ : (Lit.int .i64 a1).wf = true) :
    Calls Try.prog 5 #[v0, .int .i64 a1] w (Yes w) := by
  obtain ⟨A0, n0, c0, rfl, hn0, hc0, hm0, hw0, hA0⟩ := h0
  have HN0 := Lib.hid hn0; have HA0 := Lib.hid hA0; clear hn0 hA0 hw0
  have hn0m : n0 ≤ 9223372036854775807 := by simp only [maxLen] at hm0; omega
  clear hm0 hc0
  have HO := Lib.hid (Own.start w)
  go_enter Try.func5, Try.ntmps5
  go_wp2_with fail
  have hcall := new_is HO.out 60 60 (by decide)
  with_reducible refine hcall.mono ?_
  clear hcall
  rintro en w1 ⟨d, L, rfl, hd, hO1⟩
  obtain ⟨bd, rfl⟩ := hd.ptr
  have HD := Lib.hid hd; have HO1 := Lib.hid hO1; clear hd hO1 HO
  go_wp2_with fail
  go_loopw [6, 7, 8, 9] (fun s6 s7 s8 s9 wx => ∃ i P : Nat, i ≤ 12 ∧ P ≤ 59 ∧ s6 = .int .i64 P ∧ s7 = .int .i64 i ∧ s9 = .int .i64 i ∧ Hid (RowsTo w (.pointer (some ⟨bd, 0, none⟩)) P i s8 wx)) (fun _ _ _ t _ => 12 - (intOf t).toNat)
  case atStart => exact ⟨0, 0, by omega, by omega, rfl, rfl, rfl, [], newSt 60, [], [], [], L, rfl, rfl, ⟨⟨rfl, .inl ⟨rfl, rfl, rfl⟩⟩, fun j hj => absurd hj (by simp)⟩, HD.out, rowsSt_start, HO1.out⟩
  case round =>
    obtain ⟨i, P, hi, hP, rfl, rfl, rfl, HT⟩ := hrel
    clear HD HO1
    obtain ⟨bl, s, vs, Lv, X, Ld, hbl, hpos, hv, hd, hs, hO⟩ := HT.out
    clear HT
    obtain ⟨A8, c8, rfl⟩ := hv.row.val
    rw [hbl]
    have HBL := Lib.hid hbl; have HPOS := Lib.hid hpos; have HV := Lib.hid hv; have HD := Lib.hid hd; have HS := Lib.hid hs; have HO := Lib.hid hO
    clear hbl hpos hv hd hs hO
    by_cases h1 : i < n0
    · have h1' : (i : Int) < n0 := by omega
      by_cases h2 : i < 12
      · have h2' : (i : Int) < 12 := by omega
        have hi0 : (0 : Int) ≤ i := by omega
        obtain ⟨ad, rfl, _, hcell⟩ := HA0.out (by omega)
        have hix : i < a0.length := by rw [HN0.out]; exact h1
        have hcx : wr.cell? (ad.add i) = some (.int .i64 a0[i]) := by
          rw [HO.out.below.cell (by have := block_lt_of_cell (hcell i _ (List.getElem?_eq_getElem hix)); exact this)]
          exact hcell i _ (List.getElem?_eq_getElem hix)
        clear hcell
        generalize a0[i] = x at *
        go_wp2_with fail
        have hcall := within_n (w := wr) x 70 (by omega) (by omega)
        obtain ⟨K, hK⟩ : ∃ K, (x % 70).toNat = K := ⟨_, rfl⟩
        have hK69 : K ≤ 69 := by omega
        rw [hK] at hcall
        clear hK
        with_reducible refine hcall.mono ?_
        clear hcall
        rintro en w' ⟨rfl, rfl⟩
        go_wp2_with fail
        with_reducible refine (bytes_c HO.out _ K (by omega)).mono ?_
        rintro en w2 ⟨v2, L2, rfl, h2b, hO2⟩
        have hbl2 : ∀ z, (pbytes z K).length ≤ 69 := by intro z; simp; omega
        obtain ⟨b, hb2, hbl3, hbb⟩ : ∃ b, IsBytes v2 b L2 ∧ b.length ≤ 69 ∧ Byt b := ⟨_, h2b, hbl2 _, byt_pbytes _ _⟩
        clear h2b hbl2 hcx
        obtain ⟨A2, c2, rfl⟩ := hb2.val
        have HB := Lib.hid hb2; have HBB := Lib.hid hbb; have HO2 := Lib.hid hO2; have HL3 := Lib.hid hbl3
        clear hb2 hbb hO2 HO hbl3
        have hneed : ∀ wz LL, Own w wz LL → L2.Sublist LL → Calls Try.prog 24 #[.slice A2 b.length c2] wz fun e w' => e = .returned (.int .i64 ((need b : Nat) : Int)) ∧ wz = w' := fun wz LL h hs => need_c _ b (HB.out.bs_sub h hs) (by have := HL3.out; omega)
        have HNEED := Lib.hid hneed
        clear hneed
        have hnb : need b ≤ 5 := by have := HL3.out; unfold need; omega
        obtain ⟨q, hq⟩ : ∃ q, need b = q := ⟨_, rfl⟩
        have HQ := Lib.hid hq
        rw [hq] at hnb HNEED
        clear hq
        go_wp2_with fail
        with_reducible refine (HNEED.out _ _ HO2.out sub_here).mono ?_
        rintro en w' ⟨rfl, rfl⟩
        by_cases h59 : 59 < (P : Int) + q
        · have HO := Lib.hid HO2.out.right; clear HO2 HNEED HB
          go_wp2_with fail
          go_loopw [6, 13] (fun s6 s13 wx => ∃ j : Nat, j ≤ i ∧ s13 = .int .i64 j ∧ s6 = .int .i64 (pos bl j : Nat) ∧ Hid (ReadTo w (.pointer (some ⟨bd, 0, none⟩)) s (Lv ++ X) wx)) (fun _ t _ => i - (intOf t).toNat)
          case atStart => exact ⟨0, Nat.zero_le _, rfl, rfl, Ld, HD.out, HO.out⟩
          case round =>
            obtain ⟨j, hj, rfl, rfl, HT⟩ := hrel
            clear HD HO
            obtain ⟨Ld', hd', hO'⟩ := HT.out
            have HD := Lib.hid hd'; have HO := Lib.hid hO'; clear hd' hO' HT
            by_cases hjl : j < i
            · have hjI : (j : Int) < (i : Nat) := by omega
              have hjb : j < bl.length := by rw [HBL.out]; exact hjl
              have hst := HS.out.rows j hjb
              have hea := HS.out.each_getD j hjb
              have hrv := HV.out.each j hjb
              have hnj : need (bl.getD j []) ≤ 255 := by have := hea.2; unfold need; omega
              have hpn : pos bl (j + 1) = pos bl j + need (bl.getD j []) := rfl
              have hple : pos bl (j + 1) ≤ 59 := by have h3 := pos_mono bl (j + 1) bl.length (by omega); have h4 := HS.out.fits; omega
              have hlv : vs.length = bl.length := by have := HV.out.row.1; omega
              obtain ⟨gv, cv, sv, hvv, hLv, _⟩ : ∃ g cap sp, (Value.slice A8 i c8) = .slice (some ⟨g, 0, none⟩) i cap ∧ Lv = [(g, .cells (List.toArray (vs ++ sp)) 27)] ∧ True := by
                have hr := HV.out.row
                rw [HBL.out] at hr
                rcases hr.2 with ⟨_, h0, _⟩ | ⟨g, cap, sp, h1, h2, _⟩
                · omega
                · exact ⟨g, cap, sp, h1, h2, trivial⟩
              cases hvv
              have hcv : ∀ wz R', Own w wz (R' ++ (Lv ++ X)) → wz.cell? ⟨gv, j, none⟩ = some (vs.getD j undef) := by
                intro wz R' h
                rw [h.cell (List.mem_append_right _ (List.mem_append_left _ (by rw [hLv]; exact .head _))) j]
                simp [List.getD, List.getElem?_append_left (show j < vs.length by omega), show j < vs.length by omega]
              have HCV := Lib.hid hcv; have HST := Lib.hid hst; have HEA := Lib.hid hea; have HRV := Lib.hid hrv; have HPN := Lib.hid hpn; have HLV := Lib.hid hLv
              clear hcv hst hea hrv hpn hlv hLv
              generalize vs.getD j undef = vj at *
              generalize hbj : bl.getD j [] = bj at *
              clear hbj
              go_wp2_with fail
              have hcall := fread_ok HD.out HO.out HST.out (okMark_row j (by omega)) hnj HS.out.down HS.out.byt HEA.out.1 ((pos bl j : Nat) : Int) 60 ((pos bl (j + 1) : Nat) : Int) rfl (by rw [HPN.out]; push_cast; rfl) (by omega) (by rw [HS.out.n]; decide)
              with_reducible refine hcall.mono ?_
              clear hcall
              rintro en w12 ⟨v12, L12, Ld12, rfl, hrd12, hd12, hO12⟩
              obtain ⟨A12, c12, rfl, hc12⟩ := (hrd12.bs_sub hO12 sub_here).len
              have HO12 := Lib.hid hO12; have HRD12 := Lib.hid hrd12; have HD12 := Lib.hid hd12; clear hO12 hrd12 hd12 HO HD hc12
              go_wp2_with (first | (refine wl_alloc rfl _ rfl HO12.out _ (alloc_mark _) ?_; intro g13 w13 hO13; have HO13 := Lib.hid hO13; clear hO13 HO12) | (refine wl_store rfl _ _ _ rfl HO13.out 0 g13 0 _ [Value.int .i64 2, Value.int .i64 (5 + (j : Int))] _ rfl (by rfl) (by rfl) mark_size (one_2i _ _) (by simp) ?_; intro w14 hO14; have hcx : w14.cell? ⟨gv, j, none⟩ = some vj := HCV.out w14 ((g13, _) :: (L12 ++ Ld12)) (by simpa [List.append_assoc] using hO14); have HO14 := Lib.hid hO14; clear hO14 HO13) | (refine wl_g (by rfl) ?_; refine wl_load rfl _ _ rfl g13 0 [.int .i64 2, .int .i64 (5 + (j : Int))] [.int .i64 2, .int .i64 (5 + (j : Int))] 48 (HO14.out.heap (.head _)) (by rfl) _ Try.underlying48 rfl mark_size (by rfl) ?_) | (refine wl_g (by rfl) ?_; refine wl_build rfl _ _ rfl _ (by exact build_mr 2 _ _) ?_))
              have h1 : Bs w14 (.slice A12 bj.length c12) bj := HRD12.out.bs_sub HO14.out ((sub_here).trans (List.sublist_cons_self _ _))
              have h2 : Bs w14 vj bj := HRV.out.bs_sub HO14.out ((sub_there (sub_there (sub_there (List.Sublist.refl _)))).trans (List.sublist_cons_self _ _))
              have hcall := same_c _ _ _ _ h1 h2 (by have := HEA.out.2; omega)
              rw [decide_eq_true rfl] at hcall
              with_reducible refine hcall.mono ?_
              clear hcall h1 h2
              rintro en w15 ⟨rfl, m15, rfl⟩
              have HO15 := Lib.hid (HO14.out.drewN m15); clear HO14
              generalize w14.drewN m15 = w15 at HO15
              go_wp2_with fail
              go_roundw
              case rel => exact ⟨j + 1, by omega, by go_num, rfl, Ld12, HD12.out, HO15.out.tail.right⟩
              case measure => simp [intOf]; omega
            · obtain rfl : i = j := by omega
              have hno := HS.out.none
              have hfit := HS.out.fits
              rw [HBL.out] at hno hfit
              have HNO := Lib.hid hno; clear hno
              have hjj : ¬ ((i : Nat) : Int) < (i : Nat) := by omega
              go_wp2_with fail
              have hcall := fread_form HD.out HO.out ((pos bl i : Nat) : Int) 60 (by omega) (by omega) (by rw [HS.out.n]; decide) HS.out.down HS.out.byt (fun h => absurd h (by rw [HNO.out]; decide))
              with_reducible refine hcall.mono ?_
              clear hcall
              rintro en w12 ⟨v12, L12, Ld12, rfl, hrd12, hd12, hO12⟩
              obtain ⟨A12, c12, rfl, hc12⟩ := (hrd12.bs_sub hO12 sub_here).len
              have HO12 := Lib.hid hO12; clear hO12 hrd12 hd12 HO HD hc12
              simp only [List.length_nil]
              go_wp2_with (first | (refine wl_alloc rfl _ rfl HO12.out _ (alloc_mark _) ?_; intro g13 w13 hO13; have HO13 := Lib.hid hO13; clear hO13 HO12) | (refine wl_store rfl _ _ _ rfl HO13.out 0 g13 0 _ [Value.int .i64 0, Value.int .i64 0] _ rfl (by rfl) (by rfl) mark_size (one_2i _ _) (by simp) ?_; intro w14 hO14; have HO14 := Lib.hid hO14; clear hO14 HO13))
              have hcall := wakes3_c HO14.out
              with_reducible refine hcall.mono ?_
              clear hcall
              rintro en w16 ⟨rfl, hO16⟩
              have HO16 := Lib.hid hO16; clear hO16 HO14
              go_wp2
              go_ret
              exact HO16.out.yes rfl
        · have hpl : pos bl bl.length = P := by rw [HBL.out]; exact HPOS.out
          have HPL := Lib.hid hpl; clear hpl
          have hO3 : Own w w2 (Ld ++ (Lv ++ (L2 ++ X))) := HO2.out.perm (by
            refine (List.perm_append_comm).trans ?_
            simp only [List.append_assoc]
            exact List.Perm.append_left Ld (List.Perm.append_left Lv List.perm_append_comm))
          have HO3 := Lib.hid hO3; clear hO3 HO2
          go_wp2_with (refine wl_build rfl _ _ rfl _ (by exact build_mr 2 _ _) ?_)
          have hcall := fwrite_ok (a := P) (e := 2) (q := 5 + (i : Int)) (b := b) HD.out HO3.out (.slice A2 b.length c2) (HB.out.rd (sub_there sub_here)) HBB.out (by rw [HQ.out]; omega) (okMark_row i (by omega)) HS.out.down HS.out.left (by rw [HS.out.n, HQ.out]; omega) (by rw [HS.out.pend, HPL.out, HQ.out]; omega) P (P + q) rfl (by rw [HQ.out])
          with_reducible refine hcall.mono ?_
          clear hcall
          rintro en w4 ⟨rfl, L4, hd4, hO4⟩
          have HD4 := Lib.hid hd4; have HO4 := Lib.hid hO4; clear hd4 hO4 HO3 HD
          have k3 : (((P : Int) + q) != ((P : Int) + q)) = false := by simp
          go_wp2_with fail
          with_reducible refine (HNEED.out _ _ HO4.out (sub_there (sub_there sub_here))).mono ?_
          rintro en w' ⟨rfl, rfl⟩
          have hO5 : Own w w4 (Lv ++ (L4 ++ (L2 ++ X))) := Own.rot HO4.out
          have HO5 := Lib.hid hO5; clear hO5 HO4 HNEED
          have hrowi : IsRow 27 1 (.slice A8 i c8) i vs Lv := by have := HV.out.row; rwa [HBL.out] at this
          have HROWI := Lib.hid hrowi; clear hrowi
          go_wp2_with (refine wl_appendV rfl _ _ _ rfl _ _ 24 Try.underlying28 rows_info (by rfl) (.slice A8 i c8) i vs (by rfl) HROWI.out (Own.rot (A := [_]) (HO5.out.alloc (.cells [Value.slice A2 b.length c2].toArray 27))) (.slice (some ⟨w4.heap.size, 0, none⟩) 1 1) [.slice A2 b.length c2] (by rfl) (vs_oneR (HO5.out.alloc (.cells [Value.slice A2 b.length c2].toArray 27)) (.head _)) (by simp; rfl) (by simp only [maxLen, List.length_singleton]; omega) (by simp only [List.length_singleton]; omega) ?_; intro v6 w6 L6 hr6 hO6; have HR6 := Lib.hid hr6; have HO6 := Lib.hid hO6; clear hr6 hO6 HO5)
          have hstep : RowsSt (s.put P (secs_of 2 (5 + (i : Int)) b)) (bl ++ [b]) := by
            have := HS.out.step HBB.out HL3.out (by rw [HPL.out, HQ.out]; omega)
            rwa [HPL.out, HBL.out] at this
          have hpos2 : pos (bl ++ [b]) (i + 1) = P + q := by
            have := pos_last bl b
            rw [HBL.out, HPOS.out, HQ.out] at this
            exact this
          have hrv : RowsV w v6 (bl ++ [b]) (vs ++ [.slice A2 b.length c2]) L6 (L2 ++ X) := rowsV_step HV.out (by rw [HBL.out]; exact HR6.out) (HB.out.rd (List.Sublist.refl _))
          have HSTEP := Lib.hid hstep; have HPOS2 := Lib.hid hpos2; have HRV := Lib.hid hrv
          clear hstep hpos2 hrv k3
          have hO7 : Own w w6 (L4 ++ (L6 ++ (L2 ++ X))) := Own.rot (HO6.out.sub ((List.sublist_append_right [_] _).append_left L6))
          have HO7 := Lib.hid hO7; clear hO7 HO6
          go_roundw
          case rel => exact ⟨i + 1, P + q, by omega, by omega, by go_num, by go_num, by go_num, bl ++ [b], _, _, L6, L2 ++ X, L4, by rw [List.length_append, HBL.out]; rfl, HPOS2.out, HRV.out, HD4.out, HSTEP.out, HO7.out⟩
          case measure => simp [intOf]; omega
      · obtain rfl : i = 12 := by omega
        have h2' : ¬ ((12 : Nat) : Int) < 12 := by omega
        go_wp2_with fail
        go_loopw [6, 13] (fun s6 s13 wx => ∃ j : Nat, j ≤ 12 ∧ s13 = .int .i64 j ∧ s6 = .int .i64 (pos bl j : Nat) ∧ Hid (ReadTo w (.pointer (some ⟨bd, 0, none⟩)) s (Lv ++ X) wx)) (fun _ t _ => 12 - (intOf t).toNat)
        case atStart => exact ⟨0, Nat.zero_le _, rfl, rfl, Ld, HD.out, HO.out⟩
        case round =>
          obtain ⟨j, hj, rfl, rfl, HT⟩ := hrel
          clear HD HO
          obtain ⟨Ld', hd', hO'⟩ := HT.out
          have HD := Lib.hid hd'; have HO := Lib.hid hO'; clear hd' hO' HT
          by_cases hjl : j < 12
          · have hjI : (j : Int) < (12 : Nat) := by omega
            have hjb : j < bl.length := by rw [HBL.out]; exact hjl
            have hst := HS.out.rows j hjb
            have hea := HS.out.each_getD j hjb
            have hrv := HV.out.each j hjb
            have hnj : need (bl.getD j []) ≤ 255 := by have := hea.2; unfold need; omega
            have hpn : pos bl (j + 1) = pos bl j + need (bl.getD j []) := rfl
            have hple : pos bl (j + 1) ≤ 59 := by have h3 := pos_mono bl (j + 1) bl.length (by omega); have h4 := HS.out.fits; omega
            have hlv : vs.length = bl.length := by have := HV.out.row.1; omega
            obtain ⟨gv, cv, sv, hvv, hLv, _⟩ : ∃ g cap sp, (Value.slice A8 12 c8) = .slice (some ⟨g, 0, none⟩) 12 cap ∧ Lv = [(g, .cells (List.toArray (vs ++ sp)) 27)] ∧ True := by
              have hr := HV.out.row
              rw [HBL.out] at hr
              rcases hr.2 with ⟨_, h0, _⟩ | ⟨g, cap, sp, h1, h2, _⟩
              · omega
              · exact ⟨g, cap, sp, h1, h2, trivial⟩
            cases hvv
            have hcv : ∀ wz R', Own w wz (R' ++ (Lv ++ X)) → wz.cell? ⟨gv, j, none⟩ = some (vs.getD j undef) := by
              intro wz R' h
              rw [h.cell (List.mem_append_right _ (List.mem_append_left _ (by rw [hLv]; exact .head _))) j]
              simp [List.getD, List.getElem?_append_left (show j < vs.length by omega), show j < vs.length by omega]
            have HCV := Lib.hid hcv; have HST := Lib.hid hst; have HEA := Lib.hid hea; have HRV := Lib.hid hrv; have HPN := Lib.hid hpn; have HLV := Lib.hid hLv
            clear hcv hst hea hrv hpn hlv hLv
            generalize vs.getD j undef = vj at *
            generalize hbj : bl.getD j [] = bj at *
            clear hbj
            go_wp2_with fail
            have hcall := fread_ok HD.out HO.out HST.out (okMark_row j (by omega)) hnj HS.out.down HS.out.byt HEA.out.1 ((pos bl j : Nat) : Int) 60 ((pos bl (j + 1) : Nat) : Int) rfl (by rw [HPN.out]; push_cast; rfl) (by omega) (by rw [HS.out.n]; decide)
            with_reducible refine hcall.mono ?_
            clear hcall
            rintro en w12 ⟨v12, L12, Ld12, rfl, hrd12, hd12, hO12⟩
            obtain ⟨A12, c12, rfl, hc12⟩ := (hrd12.bs_sub hO12 sub_here).len
            have HO12 := Lib.hid hO12; have HRD12 := Lib.hid hrd12; have HD12 := Lib.hid hd12; clear hO12 hrd12 hd12 HO HD hc12
            go_wp2_with (first | (refine wl_alloc rfl _ rfl HO12.out _ (alloc_mark _) ?_; intro g13 w13 hO13; have HO13 := Lib.hid hO13; clear hO13 HO12) | (refine wl_store rfl _ _ _ rfl HO13.out 0 g13 0 _ [Value.int .i64 2, Value.int .i64 (5 + (j : Int))] _ rfl (by rfl) (by rfl) mark_size (one_2i _ _) (by simp) ?_; intro w14 hO14; have hcx : w14.cell? ⟨gv, j, none⟩ = some vj := HCV.out w14 ((g13, _) :: (L12 ++ Ld12)) (by simpa [List.append_assoc] using hO14); have HO14 := Lib.hid hO14; clear hO14 HO13) | (refine wl_g (by rfl) ?_; refine wl_load rfl _ _ rfl g13 0 [.int .i64 2, .int .i64 (5 + (j : Int))] [.int .i64 2, .int .i64 (5 + (j : Int))] 48 (HO14.out.heap (.head _)) (by rfl) _ Try.underlying48 rfl mark_size (by rfl) ?_) | (refine wl_g (by rfl) ?_; refine wl_build rfl _ _ rfl _ (by exact build_mr 2 _ _) ?_))
            have h1 : Bs w14 (.slice A12 bj.length c12) bj := HRD12.out.bs_sub HO14.out ((sub_here).trans (List.sublist_cons_self _ _))
            have h2 : Bs w14 vj bj := HRV.out.bs_sub HO14.out ((sub_there (sub_there (sub_there (List.Sublist.refl _)))).trans (List.sublist_cons_self _ _))
            have hcall := same_c _ _ _ _ h1 h2 (by have := HEA.out.2; omega)
            rw [decide_eq_true rfl] at hcall
            with_reducible refine hcall.mono ?_
            clear hcall h1 h2
            rintro en w15 ⟨rfl, m15, rfl⟩
            have HO15 := Lib.hid (HO14.out.drewN m15); clear HO14
            generalize w14.drewN m15 = w15 at HO15
            go_wp2_with fail
            go_roundw
            case rel => exact ⟨j + 1, by omega, by go_num, rfl, Ld12, HD12.out, HO15.out.tail.right⟩
            case measure => simp [intOf]; omega
          · obtain rfl : 12 = j := by omega
            have hno := HS.out.none
            have hfit := HS.out.fits
            rw [HBL.out] at hno hfit
            have HNO := Lib.hid hno; clear hno
            have hjj : ¬ ((12 : Nat) : Int) < (12 : Nat) := by omega
            go_wp2_with fail
            have hcall := fread_form HD.out HO.out ((pos bl 12 : Nat) : Int) 60 (by omega) (by omega) (by rw [HS.out.n]; decide) HS.out.down HS.out.byt (fun h => absurd h (by rw [HNO.out]; decide))
            with_reducible refine hcall.mono ?_
            clear hcall
            rintro en w12 ⟨v12, L12, Ld12, rfl, hrd12, hd12, hO12⟩
            obtain ⟨A12, c12, rfl, hc12⟩ := (hrd12.bs_sub hO12 sub_here).len
            have HO12 := Lib.hid hO12; clear hO12 hrd12 hd12 HO HD hc12
            simp only [List.length_nil]
            go_wp2_with (first | (refine wl_alloc rfl _ rfl HO12.out _ (alloc_mark _) ?_; intro g13 w13 hO13; have HO13 := Lib.hid hO13; clear hO13 HO12) | (refine wl_store rfl _ _ _ rfl HO13.out 0 g13 0 _ [Value.int .i64 0, Value.int .i64 0] _ rfl (by rfl) (by rfl) mark_size (one_2i _ _) (by simp) ?_; intro w14 hO14; have HO14 := Lib.hid hO14; clear hO14 HO13))
            have hcall := wakes3_c HO14.out
            with_reducible refine hcall.mono ?_
            clear hcall
            rintro en w16 ⟨rfl, hO16⟩
            have HO16 := Lib.hid hO16; clear hO16 HO14
            go_wp2
            go_ret
            exact HO16.out.yes rfl
    · have h1' : ¬ (i : Int) < n0 := by omega
      go_wp2_with fail
      go_loopw [6, 13] (fun s6 s13 wx => ∃ j : Nat, j ≤ i ∧ s13 = .int .i64 j ∧ s6 = .int .i64 (pos bl j : Nat) ∧ Hid (ReadTo w (.pointer (some ⟨bd, 0, none⟩)) s (Lv ++ X) wx)) (fun _ t _ => i - (intOf t).toNat)
      case atStart => exact ⟨0, Nat.zero_le _, rfl, rfl, Ld, HD.out, HO.out⟩
      case round =>
        obtain ⟨j, hj, rfl, rfl, HT⟩ := hrel
        clear HD HO
        obtain ⟨Ld', hd', hO'⟩ := HT.out
        have HD := Lib.hid hd'; have HO := Lib.hid hO'; clear hd' hO' HT
        by_cases hjl : j < i
        · have hjI : (j : Int) < (i : Nat) := by omega
          have hjb : j < bl.length := by rw [HBL.out]; exact hjl
          have hst := HS.out.rows j hjb
          have hea := HS.out.each_getD j hjb
          have hrv := HV.out.each j hjb
          have hnj : need (bl.getD j []) ≤ 255 := by have := hea.2; unfold need; omega
          have hpn : pos bl (j + 1) = pos bl j + need (bl.getD j []) := rfl
          have hple : pos bl (j + 1) ≤ 59 := by have h3 := pos_mono bl (j + 1) bl.length (by omega); have h4 := HS.out.fits; omega
          have hlv : vs.length = bl.length := by have := HV.out.row.1; omega
          obtain ⟨gv, cv, sv, hvv, hLv, _⟩ : ∃ g cap sp, (Value.slice A8 i c8) = .slice (some ⟨g, 0, none⟩) i cap ∧ Lv = [(g, .cells (List.toArray (vs ++ sp)) 27)] ∧ True := by
            have hr := HV.out.row
            rw [HBL.out] at hr
            rcases hr.2 with ⟨_, h0, _⟩ | ⟨g, cap, sp, h1, h2, _⟩
            · omega
            · exact ⟨g, cap, sp, h1, h2, trivial⟩
          cases hvv
          have hcv : ∀ wz R', Own w wz (R' ++ (Lv ++ X)) → wz.cell? ⟨gv, j, none⟩ = some (vs.getD j undef) := by
            intro wz R' h
            rw [h.cell (List.mem_append_right _ (List.mem_append_left _ (by rw [hLv]; exact .head _))) j]
            simp [List.getD, List.getElem?_append_left (show j < vs.length by omega), show j < vs.length by omega]
          have HCV := Lib.hid hcv; have HST := Lib.hid hst; have HEA := Lib.hid hea; have HRV := Lib.hid hrv; have HPN := Lib.hid hpn; have HLV := Lib.hid hLv
          clear hcv hst hea hrv hpn hlv hLv
          generalize vs.getD j undef = vj at *
          generalize hbj : bl.getD j [] = bj at *
          clear hbj
          go_wp2_with fail
          have hcall := fread_ok HD.out HO.out HST.out (okMark_row j (by omega)) hnj HS.out.down HS.out.byt HEA.out.1 ((pos bl j : Nat) : Int) 60 ((pos bl (j + 1) : Nat) : Int) rfl (by rw [HPN.out]; push_cast; rfl) (by omega) (by rw [HS.out.n]; decide)
          with_reducible refine hcall.mono ?_
          clear hcall
          rintro en w12 ⟨v12, L12, Ld12, rfl, hrd12, hd12, hO12⟩
          obtain ⟨A12, c12, rfl, hc12⟩ := (hrd12.bs_sub hO12 sub_here).len
          have HO12 := Lib.hid hO12; have HRD12 := Lib.hid hrd12; have HD12 := Lib.hid hd12; clear hO12 hrd12 hd12 HO HD hc12
          go_wp2_with (first | (refine wl_alloc rfl _ rfl HO12.out _ (alloc_mark _) ?_; intro g13 w13 hO13; have HO13 := Lib.hid hO13; clear hO13 HO12) | (refine wl_store rfl _ _ _ rfl HO13.out 0 g13 0 _ [Value.int .i64 2, Value.int .i64 (5 + (j : Int))] _ rfl (by rfl) (by rfl) mark_size (one_2i _ _) (by simp) ?_; intro w14 hO14; have hcx : w14.cell? ⟨gv, j, none⟩ = some vj := HCV.out w14 ((g13, _) :: (L12 ++ Ld12)) (by simpa [List.append_assoc] using hO14); have HO14 := Lib.hid hO14; clear hO14 HO13) | (refine wl_g (by rfl) ?_; refine wl_load rfl _ _ rfl g13 0 [.int .i64 2, .int .i64 (5 + (j : Int))] [.int .i64 2, .int .i64 (5 + (j : Int))] 48 (HO14.out.heap (.head _)) (by rfl) _ Try.underlying48 rfl mark_size (by rfl) ?_) | (refine wl_g (by rfl) ?_; refine wl_build rfl _ _ rfl _ (by exact build_mr 2 _ _) ?_))
          have h1 : Bs w14 (.slice A12 bj.length c12) bj := HRD12.out.bs_sub HO14.out ((sub_here).trans (List.sublist_cons_self _ _))
          have h2 : Bs w14 vj bj := HRV.out.bs_sub HO14.out ((sub_there (sub_there (sub_there (List.Sublist.refl _)))).trans (List.sublist_cons_self _ _))
          have hcall := same_c _ _ _ _ h1 h2 (by have := HEA.out.2; omega)
          rw [decide_eq_true rfl] at hcall
          with_reducible refine hcall.mono ?_
          clear hcall h1 h2
          rintro en w15 ⟨rfl, m15, rfl⟩
          have HO15 := Lib.hid (HO14.out.drewN m15); clear HO14
          generalize w14.drewN m15 = w15 at HO15
          go_wp2_with fail
          go_roundw
          case rel => exact ⟨j + 1, by omega, by go_num, rfl, Ld12, HD12.out, HO15.out.tail.right⟩
          case measure => simp [intOf]; omega
        · obtain rfl : i = j := by omega
          have hno := HS.out.none
          have hfit := HS.out.fits
          rw [HBL.out] at hno hfit
          have HNO := Lib.hid hno; clear hno
          have hjj : ¬ ((i : Nat) : Int) < (i : Nat) := by omega
          go_wp2_with fail
          have hcall := fread_form HD.out HO.out ((pos bl i : Nat) : Int) 60 (by omega) (by omega) (by rw [HS.out.n]; decide) HS.out.down HS.out.byt (fun h => absurd h (by rw [HNO.out]; decide))
          with_reducible refine hcall.mono ?_
          clear hcall
          rintro en w12 ⟨v12, L12, Ld12, rfl, hrd12, hd12, hO12⟩
          obtain ⟨A12, c12, rfl, hc12⟩ := (hrd12.bs_sub hO12 sub_here).len
          have HO12 := Lib.hid hO12; clear hO12 hrd12 hd12 HO HD hc12
          simp only [List.length_nil]
          go_wp2_with (first | (refine wl_alloc rfl _ rfl HO12.out _ (alloc_mark _) ?_; intro g13 w13 hO13; have HO13 := Lib.hid hO13; clear hO13 HO12) | (refine wl_store rfl _ _ _ rfl HO13.out 0 g13 0 _ [Value.int .i64 0, Value.int .i64 0] _ rfl (by rfl) (by rfl) mark_size (one_2i _ _) (by simp) ?_; intro w14 hO14; have HO14 := Lib.hid hO14; clear hO14 HO13))
          have hcall := wakes3_c HO14.out
          with_reducible refine hcall.mono ?_
          clear hcall
          rintro en w16 ⟨rfl, hO16⟩
          have HO16 := Lib.hid hO16; clear hO16 HO14
          go_wp2
          go_ret
          exact HO16.out.yes rfl
set_option maxRecDepth 100000 in
theorem frameRows_lifted (os : Os) (started : os.Started) (H : Type) (enc : TypeId × Value → H) :
    ReturnsInHanded {} Try.checked os 5 .any (Rows.frameRowsSpec.pre6 enc Try.prog Try.f5 Rows.frameRowsRow.domain false) (Rows.frameRowsSpec.post enc Try.prog Try.f5 false true false false) := by
  refine returnsInHanded_of_change (C := Try.checked) (by kernel_rfl) started (by kernel_rfl) Try.func5
    (ChangeSpec.witness6 (enc := enc) (C := Try.checked) false ⟨#[], #[.slice none 0 0, .int .i64 0], []⟩ 8 (by kernel_rfl) (by kernel_rfl) (by kernel_rfl) (by kernel_rfl)) ?_
  intro W base args ds gs before hval0 hW hcnd _
  have hval : ∀ (j : Nat) t v, Try.f5.params[j]? = some t → args[j]? = some v → Value.okWide Try.prog W .any base t v := hval0
  have hW' := hW
  obtain ⟨p, q, hA0, hV, rfl, hfz, hnd⟩ := hW
  have hA : DataW.TrodAll enc Try.prog W 0 (fun _ => true) true Try.f5.params.toList args.toList ds p := hA0
  rw [Try.params5] at hA hval
  obtain ⟨v0, vs0, d0, ds0, p0, q0, hargs, rfl, rfl, h0, r0⟩ := trodAll_cons hA
  obtain ⟨v1, vs1, d1, ds1, p1, q1, rfl, rfl, rfl, h1, r1⟩ := trodAll_cons r0
  obtain ⟨rfl, rfl, rfl⟩ := trodAll_nil r1
  obtain rfl : args = #[v0, v1] := by cases args; simp_all
  obtain ⟨rfl, rfl⟩ := trodVars_none hV
  obtain ⟨b0, len0, cap0, rfl⟩ := okWide_slice Try.underlying22 (hval 0 22 v0 rfl rfl)
  have k0 := h0
  have lt0 : ∀ x ∈ p0, x.block < W.heap.size := by obtain ⟨m, hm⟩ := k0; exact DataW.trod_lt m _ _ _ hm
  obtain ⟨a0, w0⟩ : ∃ xs, InRow .i64 W (.slice b0 len0 cap0) xs := by
    obtain ⟨fuel, hf⟩ := h0
    rcases open_ints Try.underlying22 Try.underlying3 (by kernel_rfl) hf with ⟨hcs, _⟩ | ⟨x, l, c, zs, hcs, _, hl, hm, hz, _, hcell, hwz⟩
    · simp [Value.cells] at hcs
      obtain ⟨rfl, rfl, rfl⟩ := hcs
      exact ⟨[], inRow_nil _ _⟩
    · simp [Value.cells] at hcs
      obtain ⟨rfl, rfl, rfl⟩ := hcs
      exact ⟨zs.take len0, inRow_mk hl hm (by simpa using hz) hcell hwz⟩
  obtain ⟨a1, rfl, rfl, rfl, w1⟩ := open_int Try.underlying3 (hval 1 3 v1 rfl rfl) h1
  clear hA0 hval0
  refine (frameRows_walk _ a0 w0 a1 w1).mono fun e W' ⟨he, bel⟩ => ?_
  subst he
  exact ⟨_, rfl, _, _, _, [], _, [], hW', trodAll_mk1 (shut_bool Try.underlying4 _), (trodAll_cons_mk (Below.trod laidOut (by kernel_rfl) (of_decide_eq_true (by kernel_rfl)) k0 bel lt0) (trodAll_cons_mk (shut_int Try.underlying3 w1) trodAll_mk0)), rfl, bel.frame _, fun h => by cases h⟩

/-- The statement. -/
theorem frameRows_proved : Rows.FrameRowsSaid :=
  OpenClaim.holds_of_wide 5 Try.f5 rfl rfl rfl rfl rfl rfl rfl ⟨rfl, rfl, rfl, rfl, rfl⟩ rfl rfl rfl rfl rfl (by kernel_rfl) Try.func5 (by kernel_rfl)
    (of_decide_eq_true (by kernel_rfl)) (by unfold Func.isWrapper; first | (rw [if_pos (by decide +kernel)]; kernel_rfl) | (rw [if_neg (by decide +kernel)]; exact ⟨rfl, rfl⟩))
    (fun os started H enc _ => frameRows_lifted os started H enc)
end Go.Proofs.Ytlapheiekjhceaa

