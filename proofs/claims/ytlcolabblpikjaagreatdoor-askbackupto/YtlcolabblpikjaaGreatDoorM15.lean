/-
  Texts that the laws stand on: AskH, RepB, AskP1.
-/
import Derived.Test.YtlcolabblpikjaaGreatDoorM14
import Derived.Test.YtlcolabblpikjaaGreatDoorM12
import Derived.Test.YtlcolabblpikjaaGreatDoorM8
import Derived.Deep.DeepCutAuto

/-
  The landed program's areHeads.
-/
namespace Go.Proofs.YtlcolabblpikjaaGreatDoor
set_option linter.unusedVariables false
set_option linter.unusedSimpArgs false
set_option maxRecDepth 20000
open Go.RowKit

set_option maxRecDepth 100000 in
set_option maxHeartbeats 16000000 in
theorem aheads_c {w0 w : World} {R : Blks} (hO : Own w0 w R) (v : Value) (hs : HBL) (hR : HRd w0 R v hs) (hh : (headsP (hl hs)).length ≤ 100000000) :
    Calls Tryz.prog 19 #[v] w fun e w' => e = .returned (.bool (decide (∀ h ∈ hl hs, HeadA h))) ∧ Own w0 w' R := by
  obtain ⟨A, n, c, rfl, hn, hnc, _⟩ := hR w [] hO
  have hnb : n ≤ 100000000 := by
    have h5 := headsP_count (hl hs)
    have h6 : (hl hs).length = hs.length := by unfold hl; rw [List.length_map]
    omega
  have HN := Lib.hid hn; have HRR := Lib.hid hR; have HH := Lib.hid hh
  have HO := Lib.hid hO
  obtain ⟨ans, hans⟩ : ∃ ans, decide (∀ h ∈ hl hs, HeadA h) = ans := ⟨_, rfl⟩
  rw [hans]
  have HANS := Lib.hid hans
  clear hans hn hR hO hh hnc
  go_enter Tryz.func19, Tryz.ntmps19
  go_wp2
  go_loopw [7] (fun t w' => ∃ k : Nat, k ≤ n ∧ t = .int .i64 k ∧ Hid (∀ h ∈ (hl hs).take k, HeadA h) ∧ Hid (Own w0 w' R)) (fun t _ => n - (intOf t).toNat)
  case atStart => exact ⟨0, Nat.zero_le _, rfl, Lib.hid (fun h hm => by rw [List.take_zero] at hm; cases hm), HO⟩
  case round =>
    obtain ⟨k, hk, rfl, HS, HO2⟩ := hrel
    clear HO
    by_cases hlt : k < n
    · have hkl : k < hs.length := by rw [HN.out]; exact hlt
      have hat : hs[k]? = some hs[k] := List.getElem?_eq_getElem hkl
      obtain ⟨A', n', cp', e, _, _, hA'⟩ := HRR.out wr [] HO2.out
      cases e
      obtain ⟨g, rfl, hcell⟩ := hA' (by omega)
      have hrg := hcell k _ hat
      have htk := hl_at hat
      have hle := headsP_take_len (hl hs) (k + 1)
      rw [htk, headsP_app, List.length_append] at hle
      have hmem : (sb hs[k].1, sb hs[k].2) ∈ hl hs := List.mem_of_mem_take (i := k + 1) (by rw [htk]; simp)
      generalize hs[k] = h at *
      obtain ⟨x, y⟩ := h
      have hcx : wr.cell? ⟨g, k * 2, none⟩ = some (.string x) := hrg 0 _ rfl
      have hcy : wr.cell? ⟨g, k * 2 + 1, none⟩ = some (.string y) := hrg 1 _ rfl
      simp only at htk hle hmem
      have hxy : x.size ≤ 100000000 ∧ y.size ≤ 100000000 := by
        have h9 : (headsP [(sb x, sb y)]).length = x.size + y.size + 4 := by simp [headsP, headP, length_sb]; omega
        have := HH.out; omega
      have hal := headA_tests (sb x) (sb y)
      have t1 := beq_lit8 x [] [] rfl
      have t4 : ((strOfNums (blanksI (sb y))).toList == y.toList) = decide (blanksI (sb y) = sb y) := by
        rw [beq_sb, sb_str (fun x hx => byt_sb y x ((blanksI_sub _).subset hx))]
      have hK1 := fun w : World => ahas_c (w := w) x 58 58 rfl
      have hK2 := fun w : World => avis_c (w := w) x (by omega)
      have hK3 := fun (w1 : World) (R1 : Blks) (h : Own w0 w1 R1) => gtrim_c h y (by omega)
      have hK4 := fun w : World => avis_c (w := w) y (by omega)
      obtain ⟨b1, hb1⟩ : ∃ b, decide (sb x = []) = b := ⟨_, rfl⟩
      obtain ⟨b2, hb2⟩ : ∃ b, (sb x).contains 58 = b := ⟨_, rfl⟩
      obtain ⟨b3, hb3⟩ : ∃ b, visI (sb x) = b := ⟨_, rfl⟩
      obtain ⟨b4, hb4⟩ : ∃ b, decide (blanksI (sb y) = sb y) = b := ⟨_, rfl⟩
      obtain ⟨b5, hb5⟩ : ∃ b, visI (sb y) = b := ⟨_, rfl⟩
      have hal2 : HeadA (sb x, sb y) ↔ b1 = false ∧ b2 = false ∧ b3 = true ∧ b4 = true ∧ b5 = true := by
        rw [hal, ← hb1, ← hb2, ← hb3, ← hb4, ← hb5, decide_eq_false_iff_not, decide_eq_true_iff]
      rw [hb1] at t1; rw [hb4] at t4; simp only [hb2] at hK1; simp only [hb3] at hK2; simp only [hb5] at hK4
      generalize hty : strOfNums (blanksI (sb y)) = ty at *
      have hno : ¬ HeadA (sb x, sb y) → ans = false := fun hnot => by rw [← HANS.out]; exact decide_eq_false (fun hall => hnot (hall _ hmem))
      have hst : HeadA (sb x, sb y) → ∀ h ∈ (hl hs).take (k + 1), HeadA h := fun hyes => by
        rw [htk]
        intro h hm
        rcases List.mem_append.1 hm with hm | hm
        · exact HS.out h hm
        · rw [List.mem_singleton.1 hm]; exact hyes
      have HNO := Lib.hid hno; have HST := Lib.hid hst; have HAL := Lib.hid hal2
      have K1 := Lib.hid hK1; have K2 := Lib.hid hK2; have K3 := Lib.hid hK3; have K4 := Lib.hid hK4
      have hkn : (k : Int) < n := by omega
      have t4' : (ty.toList != y.toList) = !b4 := by unfold bne; rw [t4]
      clear hcell hA' hrg hle hmem hal hal2 hno hst hK1 hK2 hK3 hK4 hb1 hb2 hb3 hb4 hb5 htk hat hkl hty hxy HS
      cases b1 with
      | true =>
        have HE := Lib.hid (HNO.out (fun h => by have := (HAL.out.1 h).1; cases this))
        go_wp2_with (first | (refine wl_alloc rfl _ rfl HO2.out _ (alloc_head _) ?_; intro gh w3 hO; have HO6 := Lib.hid hO; clear hO HO2) | (refine wl_store rfl _ _ _ rfl HO6.out 0 gh 0 _ (hv2 (x, y)) _ rfl (by rfl) (by rfl) head_size (one_hv2 _) (by simp [hv2]) ?_; intro w6 hO; have HO7 := Lib.hid (hO.cast (L' := (gh, .cells (hv2 (x, y)).toArray 46) :: R) rfl); clear hO HO6; have hc3 : w6.cell? ⟨gh, 0, none⟩ = some (.string x) := HO7.out.cell (.head _) 0; have hc4 : w6.cell? ⟨gh, 1, none⟩ = some (.string y) := HO7.out.cell (.head _) 1; clear hcx hcy))
        go_ret
        exact ⟨by rw [HE.out]; rfl, HO7.out.tail⟩
      | false =>
        go_wp2_with (first | (refine wl_alloc rfl _ rfl HO2.out _ (alloc_head _) ?_; intro gh w3 hO; have HO6 := Lib.hid hO; clear hO HO2) | (refine wl_store rfl _ _ _ rfl HO6.out 0 gh 0 _ (hv2 (x, y)) _ rfl (by rfl) (by rfl) head_size (one_hv2 _) (by simp [hv2]) ?_; intro w6 hO; have HO7 := Lib.hid (hO.cast (L' := (gh, .cells (hv2 (x, y)).toArray 46) :: R) rfl); clear hO HO6; have hc3 : w6.cell? ⟨gh, 0, none⟩ = some (.string x) := HO7.out.cell (.head _) 0; have hc4 : w6.cell? ⟨gh, 1, none⟩ = some (.string y) := HO7.out.cell (.head _) 1; clear hcx hcy))
        with_reducible refine (K1.out _).mono ?_
        rintro e wq ⟨rfl, hww⟩
        subst hww
        cases b2 with
        | true =>
          have HE := Lib.hid (HNO.out (fun h => by have := (HAL.out.1 h).2.1; cases this))
          go_wp2
          go_ret
          exact ⟨by rw [HE.out]; rfl, HO7.out.tail⟩
        | false =>
          go_wp2_with fail
          with_reducible refine (K2.out _).mono ?_
          rintro e wq ⟨rfl, hww⟩
          subst hww
          cases b3 with
          | false =>
            have HE := Lib.hid (HNO.out (fun h => by have := (HAL.out.1 h).2.2.1; cases this))
            go_wp2
            go_ret
            exact ⟨by rw [HE.out]; rfl, HO7.out.tail⟩
          | true =>
            clear hc3
            cases b4 with
            | false =>
              have HE := Lib.hid (HNO.out (fun h => by have := (HAL.out.1 h).2.2.2.1; cases this))
              go_wp2_with fail
              refine wp_region_lin (fun w' => Own w0 w' ((gh, .cells (hv2 (x, y)).toArray 46) :: R)) 12 [(0, true), (1, true), (3, true), (4, true), (2, false), (5, true), (6, true), (7, true), (8, true), (9, false), (10, true), (11, true)] (by kernel_rfl) (by kernel_rfl) (fun _ _ d _ _ h => by cases d <;> exact h) HO7.out.drew ?_
              simp only [List.map_cons, List.map_nil, pick_zero, pick_succ, List.drop_succ_cons, List.drop_zero]
              iterate 4 (refine lin_q ?_ rfl ?_ ?_; rotate_left 1; (focus (rintro w' hO; have k1 : w'.cell? ⟨gh, 1, none⟩ = some (.string y) := hO.cell (.head _) 1; clear hO; go_simp; first | done | with_reducible rfl | (trace_state; fail))); simp only [Act.put, List.setIfInBounds_toArray, List.set_cons_zero, List.set_cons_succ])
              refine lin_act ?_
              refine wl_call rfl _ _ _ (by go_simp) (K3.out _ _ HO7.out.drew) ?_
              rintro e w7 ⟨rfl, hO⟩
              refine ⟨_, rfl, LinPost.mk hO ?_⟩
              have HO8 := Lib.hid hO; clear hO HO7 hc4
              simp only [Act.put, List.setIfInBounds_toArray, List.set_cons_zero, List.set_cons_succ]
              iterate 2 (refine lin_q ?_ rfl ?_ ?_; rotate_left 1; (focus (rintro w' hO; have k1 : w'.cell? ⟨gh, 1, none⟩ = some (.string y) := hO.cell (.head _) 1; clear hO; go_simp; first | done | with_reducible rfl | (trace_state; fail))); simp only [Act.put, List.setIfInBounds_toArray, List.set_cons_zero, List.set_cons_succ])
              iterate 2 (refine lin_no (by rfl) ?_; simp only [Act.put, List.setIfInBounds_toArray, List.set_cons_zero, List.set_cons_succ])
              refine lin_actno (by rfl) HO8.out ?_; simp only [Act.put, List.setIfInBounds_toArray, List.set_cons_zero, List.set_cons_succ]
              iterate 1 (refine lin_no (by rfl) ?_; simp only [Act.put, List.setIfInBounds_toArray, List.set_cons_zero, List.set_cons_succ])
              iterate 1 (refine lin_q ?_ rfl ?_ ?_; rotate_left 1; (focus (rintro w' hO; have k1 : w'.cell? ⟨gh, 1, none⟩ = some (.string y) := hO.cell (.head _) 1; clear hO; go_simp; first | done | with_reducible rfl | (trace_state; fail))); simp only [Act.put, List.setIfInBounds_toArray, List.set_cons_zero, List.set_cons_succ])
              refine lin_nil ?_
              go_wp2
              go_ret
              exact ⟨by rw [HE.out]; rfl, HO8.out.tail⟩
            | true =>
              go_wp2_with fail
              refine wp_region_lin (fun w' => Own w0 w' ((gh, .cells (hv2 (x, y)).toArray 46) :: R)) 12 [(0, true), (1, true), (3, true), (4, true), (2, false), (5, true), (6, true), (7, true), (8, true), (9, false), (10, true), (11, true)] (by kernel_rfl) (by kernel_rfl) (fun _ _ d _ _ h => by cases d <;> exact h) HO7.out.drew ?_
              simp only [List.map_cons, List.map_nil, pick_zero, pick_succ, List.drop_succ_cons, List.drop_zero]
              iterate 4 (refine lin_q ?_ rfl ?_ ?_; rotate_left 1; (focus (rintro w' hO; have k1 : w'.cell? ⟨gh, 1, none⟩ = some (.string y) := hO.cell (.head _) 1; clear hO; go_simp; first | done | with_reducible rfl | (trace_state; fail))); simp only [Act.put, List.setIfInBounds_toArray, List.set_cons_zero, List.set_cons_succ])
              refine lin_act ?_
              refine wl_call rfl _ _ _ (by go_simp) (K3.out _ _ HO7.out.drew) ?_
              rintro e w7 ⟨rfl, hO⟩
              refine ⟨_, rfl, LinPost.mk hO ?_⟩
              have HO8 := Lib.hid hO; clear hO HO7 hc4
              simp only [Act.put, List.setIfInBounds_toArray, List.set_cons_zero, List.set_cons_succ]
              iterate 2 (refine lin_q ?_ rfl ?_ ?_; rotate_left 1; (focus (rintro w' hO; have k1 : w'.cell? ⟨gh, 1, none⟩ = some (.string y) := hO.cell (.head _) 1; clear hO; go_simp; first | done | with_reducible rfl | (trace_state; fail))); simp only [Act.put, List.setIfInBounds_toArray, List.set_cons_zero, List.set_cons_succ])
              iterate 2 (refine lin_g ?_ (by rfl) ?_ ?_; rotate_left 1; (focus (rintro w' hO; have k1 : w'.cell? ⟨gh, 1, none⟩ = some (.string y) := hO.cell (.head _) 1; clear hO; go_simp; first | done | with_reducible rfl | (trace_state; fail))); simp only [Act.put, List.setIfInBounds_toArray, List.set_cons_zero, List.set_cons_succ])
              refine lin_act ?_
              refine wl_g (by rfl) ?_
              refine wl_call rfl _ _ _ (by go_simp) (K4.out _) ?_
              rintro e w8 ⟨rfl, hww⟩
              subst hww
              refine ⟨_, rfl, LinPost.mk HO8.out ?_⟩
              simp only [Act.put, List.setIfInBounds_toArray, List.set_cons_zero, List.set_cons_succ]
              iterate 1 (refine lin_g ?_ (by rfl) ?_ ?_; rotate_left 1; (focus (rintro w' hO; have k1 : w'.cell? ⟨gh, 1, none⟩ = some (.string y) := hO.cell (.head _) 1; clear hO; go_simp; first | done | with_reducible rfl | (trace_state; fail))); simp only [Act.put, List.setIfInBounds_toArray, List.set_cons_zero, List.set_cons_succ])
              iterate 1 (refine lin_q ?_ rfl ?_ ?_; rotate_left 1; (focus (rintro w' hO; have k1 : w'.cell? ⟨gh, 1, none⟩ = some (.string y) := hO.cell (.head _) 1; clear hO; go_simp; first | done | with_reducible rfl | (trace_state; fail))); simp only [Act.put, List.setIfInBounds_toArray, List.set_cons_zero, List.set_cons_succ])
              refine lin_nil ?_
              cases b5 with
              | false =>
                have HE := Lib.hid (HNO.out (fun h => by have := (HAL.out.1 h).2.2.2.2; cases this))
                go_wp2
                go_ret
                exact ⟨by rw [HE.out]; rfl, HO8.out.tail⟩
              | true =>
                have HSS := Lib.hid (HST.out (HAL.out.2 (by simp)))
                go_wp2
                go_roundw
                case rel => exact ⟨k + 1, by omega, by go_num, HSS, Lib.hid HO8.out.tail⟩
                case measure => simp [intOf]; omega
    · obtain rfl : k = n := by omega
      have hall := HS.out
      rw [List.take_of_length_le (by unfold hl; rw [List.length_map, HN.out]; exact Nat.le_refl _)] at hall
      have HE : Hid (ans = true) := Lib.hid (by rw [← HANS.out]; exact decide_eq_true hall)
      clear hall
      go_wp2
      go_ret
      exact ⟨by rw [HE.out]; rfl, HO2.out⟩
end Go.Proofs.YtlcolabblpikjaaGreatDoor
/-
  strings.Builder: copyCheck and WriteString of a builder of the call's own (this dump's copyCheck has a place that the loader refuses, ahead of which no call of ours comes; the library's contracts do not lay there).
-/
namespace Go.Proofs.YtlcolabblpikjaaGreatDoor
set_option linter.unusedVariables false
set_option linter.unusedSimpArgs false
set_option maxRecDepth 20000
open Go.RowKit

theorem bld_size : (Tryz.prog.info? 57).map (·.size) = some 2 := by kernel_rfl
theorem bld_lies : liesAt Tryz.prog Tryz.prog.depth 57 (2 / Tryz.prog.cellsOf 57) 0 57 1 = true := by kernel_rfl
theorem bld_u8 : (Tryz.prog.info? 5).map (fun i => (i.zero, i.size, i.bytes)) = some (some (.int .u8 0), 1, 1) := by kernel_rfl
theorem alloc_bld (w : World) : (Instr.alloc 57 true (.tuple #[])).run Tryz.prog w = .ok (.pointer (some ⟨w.heap.size, 0, none⟩)) (w.alloc (.cells #[.pointer none, .slice none 0 0] 57)) := by kernel_rfl
set_option maxHeartbeats 1000000 in
theorem bcheck_used {w : World} (b : Nat) (h0 : w.cell? ⟨b, 0, none⟩ = some (.pointer (some ⟨b, 0, none⟩))) :
    Calls Tryz.prog 40 #[.pointer (some ⟨b, 0, none⟩)] w fun e w' => e = .returned (.tuple #[]) ∧ w' = w := by
  obtain ⟨j, hj, _⟩ := Option.map_eq_some_iff.1 bld_size
  go_enter Tryz.func40, Tryz.ntmps40
  go_wp2
  rw [Lib.run_neq_ptr_same w _ Tryz.underlying54 hj]
  go_wp2
  go_end0
  exact ⟨rfl, rfl⟩
set_option maxHeartbeats 1000000 in
theorem bcheck_fresh {w : World} (b : Nat) (h0 : w.cell? ⟨b, 0, none⟩ = some (.pointer none)) (hsh : w.shape? b = some (57, 2)) (hfz : w.frozen? ⟨b, 0, none⟩ = false) :
    Calls Tryz.prog 40 #[.pointer (some ⟨b, 0, none⟩)] w fun e w' => e = .returned (.tuple #[]) ∧ w' = w.setCell ⟨b, 0, none⟩ (.pointer (some ⟨b, 0, none⟩)) := by
  obtain ⟨j, hj, hjs⟩ := Option.map_eq_some_iff.1 bld_size
  go_enter Tryz.func40, Tryz.ntmps40
  go_wp2
  rw [Lib.run_to_unsafe w ⟨b, 0, none⟩ Tryz.underlying54 Tryz.underlying98 hj (by rw [hjs]; decide) hsh (Nat.zero_lt_succ 1)]
  simp only [Result.andThen]
  rw [Oper.upon_value]
  go_wp2
  rw [run_callFunc_extern Tryz.func67 (by kernel_rfl) (by kernel_rfl) (by kernel_rfl) (e := Extern.AbiNoEscape.same) (by kernel_rfl)]
  rw [Lib.run_noEscape]
  simp only [Result.andThen]
  rw [Oper.upon_value]
  go_wp2
  rw [Lib.run_from_unsafe w ⟨b, 0, none⟩ Tryz.underlying98 Tryz.underlying54 hj hsh bld_lies]
  simp only [Result.andThen]
  rw [Oper.upon_value]
  go_wp2
  go_end0
  exact ⟨rfl, rfl⟩
theorem bcheck_c {w : World} (B b : Nat) (bs : List Value) (h : Lib.IsBuilderF 57 5 B b bs w) :
    Calls Tryz.prog 40 #[.pointer (some ⟨b, 0, none⟩)] w fun e w' => e = .returned (.tuple #[]) ∧ (Lib.BuilderAtF 57 5 B b (.pointer (some ⟨b, 0, none⟩)) bs w' ∧ Below B w w') := by
  rcases h with h | h
  · refine (bcheck_fresh b h.cell0 h.shape h.frozen0).mono ?_
    rintro e w' ⟨rfl, rfl⟩
    exact ⟨rfl, h.used _, (Below.refl B w).setCell (p := ⟨b, 0, none⟩) h.1 _⟩
  · refine (bcheck_used b h.cell0).mono ?_
    rintro e w' ⟨rfl, rfl⟩
    exact ⟨rfl, h, Below.refl B _⟩
set_option maxHeartbeats 2000000 in
theorem bwrite_c {w : World} (B b : Nat) (bs : List Value) (s : ByteArray) (h : Lib.IsBuilderF 57 5 B b bs w) (hlen : bs.length + s.size ≤ 140737488355328) (hBw : B ≤ w.heap.size) :
    Calls Tryz.prog 20 #[.pointer (some ⟨b, 0, none⟩), .string s] w fun e w' => e = .returned (.tuple #[.int .i64 s.size, .nilIface]) ∧ (Lib.BuilderAtF 57 5 B b (.pointer (some ⟨b, 0, none⟩)) (bs ++ Lib.strCells s) w' ∧ Below B w w') := by
  obtain ⟨i0, hi, hz0, hz1, hz2⟩ := info_parts bld_u8
  go_enter Tryz.func20, Tryz.ntmps20
  go_wp2_with fail
  with_reducible refine (bcheck_c B b bs h).mono ?_
  rintro e w1 ⟨rfl, h1, hb1⟩
  obtain ⟨hB, v, hbk, hown, hne⟩ := h1
  have c0 : w1.cell? ⟨b, 0, none⟩ = some (.pointer (some ⟨b, 0, none⟩)) := by rw [Lib.cell_of_heap hbk]; rfl
  have c1 : w1.cell? ⟨b, 1, none⟩ = some v := by rw [Lib.cell_of_heap hbk]; rfl
  go_wp2_with (at_builtin; refine Lib.wpList_append_own_stringF _ rfl _ _ 55 9 rfl B 5 i0 Tryz.underlying55 Tryz.underlying9 hi hz0 hz1 hz2 _ _ _ rfl hown s rfl ?c3 ?c4 ?c5 ?_)
  case c3 => unfold maxLen; omega
  case c4 => omega
  case c5 => have := hb1.size; omega
  intro v' w2 hown' hgrow _
  have hlt : b < w1.heap.size := by
    rcases Nat.lt_or_ge b w1.heap.size with h' | h'
    · exact h'
    · simp [Array.getElem?_eq_none h'] at hbk
  have hb2 : w2.heap[b]? = some (.cells #[.pointer (some ⟨b, 0, none⟩), v] 57 (0, 0)) := by
    rw [hgrow.block b hlt (fun e => hne e.symm)]
    exact hbk
  have d0 : w2.cell? ⟨b, 0, none⟩ = some (.pointer (some ⟨b, 0, none⟩)) := by rw [Lib.cell_of_heap hb2]; rfl
  have d1 : w2.cell? ⟨b, 1, none⟩ = some v := by rw [Lib.cell_of_heap hb2]; rfl
  have f1 : w2.frozen? ⟨b, 1, none⟩ = false := Lib.frozen_of_heap hb2 1
  obtain ⟨ao, n', cap, rfl⟩ : ∃ ao n' cap, v' = .slice ao n' cap := by
    rcases hown'.2 with ⟨hv, _⟩ | ⟨g, cap, cur, fz, hv, _⟩
    · exact ⟨_, _, _, hv⟩
    · exact ⟨_, _, _, hv⟩
  go_wp2
  go_ret2
  refine ⟨rfl, ?_, ?_⟩
  · exact Lib.BuilderAtF.put (T := 57) (e := 5) hB hb2 (bs' := bs ++ Lib.strCells s) (by simpa [Lib.strCells_length] using hown') (by decide)
  · exact (hb1.grown hgrow (by have := hb1.size; omega) (fun k hk => (hown.lt k hk).1)).setCell (p := ⟨b, 1, none⟩) hB _
/-! ### in the words of these texts: what is kept lies below B -/
/-- The builder at b, of the call's own from block B on, holds the bytes xs. -/
def IsBld (B b : Nat) (xs : List Int) (w : World) : Prop := B ≤ w.heap.size ∧ Lib.IsBuilderF 57 5 B b (bv xs) w
theorem strCells_sb (s : ByteArray) : Lib.strCells s = bv (sb s) := by
  unfold Lib.strCells bv sb
  simp
theorem IsBld.new (w : World) : IsBld w.heap.size w.heap.size [] (w.alloc (.cells #[.pointer none, .slice none 0 0] 57)) :=
  ⟨((Below.refl _ w).alloc (Nat.le_refl _) _).size, .of (Lib.fresh_isBuilder _ _ w)⟩
/-- What makes blocks of its own, and writes those alone, keeps the builder. -/
theorem BuilderAtF_on {B b : Nat} {p : Value} {bs : List Value} {w w' : World} {T e : TypeId} (h : Lib.BuilderAtF T e B b p bs w) (hb : Below w.heap.size w w') : Lib.BuilderAtF T e B b p bs w' := by
  have hlt := h.lt
  obtain ⟨hB, v, hbk, hown, hne⟩ := h
  exact ⟨hB, v, (hb.block b hlt).trans hbk, hown.kept (row := none) ⟨hb.os, hb.tape, hb.output, hb.size, fun k hk _ => hb.block k hk⟩ (by cases hv : v.ownBlock <;> simp), hne⟩
theorem IsBld.on {B b : Nat} {xs : List Int} {w w' : World} (h : IsBld B b xs w) (hb : Below w.heap.size w w') : IsBld B b xs w' :=
  ⟨Nat.le_trans h.1 hb.size, h.2.imp (fun x => BuilderAtF_on x hb) (fun x => BuilderAtF_on x hb)⟩
theorem bwr_c {w : World} {B b : Nat} {xs : List Int} (h : IsBld B b xs w) (s : ByteArray) (hlen : xs.length + s.size ≤ 140737488355328) :
    Calls Tryz.prog 20 #[.pointer (some ⟨b, 0, none⟩), .string s] w fun e w' => e = .returned (.tuple #[.int .i64 s.size, .nilIface]) ∧ IsBld B b (xs ++ sb s) w' ∧ Below B w w' := by
  refine (bwrite_c B b (bv xs) s h.2 (by rw [length_bv]; exact hlen) h.1).mono ?_
  rintro e w' ⟨rfl, h1, hb⟩
  rw [strCells_sb, ← bv_append] at h1
  exact ⟨rfl, ⟨Nat.le_trans h.1 hb.size, .inr h1⟩, hb⟩
theorem bv_bytes (l : List UInt8) : bv (nb l) = Lib.byteCells l := by
  unfold bv nb Lib.byteCells
  rw [List.map_map]
  rfl
theorem bstr_c {w : World} {B b : Nat} {xs : List Int} (hx : Byt xs) (h : IsBld B b xs w) :
    Calls Tryz.prog 23 #[.pointer (some ⟨b, 0, none⟩)] w fun e w' => e = .returned (.string (strOfNums xs)) ∧ Below B w w' := by
  obtain ⟨l, hl⟩ : ∃ l : List UInt8, nb l = xs := ⟨(strOfNums xs).data.toList, sb_str hx⟩
  subst hl
  have h2 := h.2
  rw [bv_bytes] at h2
  refine (Tryz.Builder_String_any_f B b l w h2 h.1).mono ?_
  rintro e w' ⟨rfl, _, hb⟩
  exact ⟨by rw [nb_str], hb⟩
/-- What is owned, all of it below block B. -/
def OwnB (w0 : World) (B : Nat) (w : World) (L : Blks) : Prop := Own w0 w L ∧ (∀ b o, (b, o) ∈ L → b < B) ∧ w0.heap.size ≤ B ∧ B ≤ w.heap.size
theorem OwnB.on {w0 w w' : World} {B : Nat} {L : Blks} (h : OwnB w0 B w L) (hb : Below B w w') : OwnB w0 B w' L := by
  obtain ⟨hO, hl, h0, h1⟩ := h
  refine ⟨⟨hO.below.trans (hb.mono h0), fun g o hm => ⟨hO.base hm, (hb.block g (hl g o hm)).trans (hO.heap hm)⟩, hO.nodup⟩, hl, h0, Nat.le_trans h1 hb.size⟩
section
variable {w0 w : World} {L : Blks} {ops : Array Oper} {rest : List Oper} {op : Oper} {a : Act} {Q : Exit → Act → World → Prop}
theorem wl_bld (hgd : op.guard = none) (ho : op.op = .alloc 57) (hO : Own w0 w L)
    (h : ∀ g w', IsBld g g [] w' → OwnB w0 g w' L → wpList Tryz.prog ops Q rest (a.put op.dst (.pointer (some ⟨g, 0, none⟩))) w') : wpList Tryz.prog ops Q (op :: rest) a w := by
  refine wpList_plain hgd fun K hK => ?_
  unfold Oper.wp
  have hrun : (execOp a.eval op).run Tryz.prog w = .ok (.value (.pointer (some ⟨w.heap.size, 0, none⟩))) (w.alloc (.cells #[.pointer none, .slice none 0 0] 57)) := by
    have := alloc_bld w
    simp [execOp, ho, this]
  rw [hrun]
  have hb : Below w.heap.size w (w.alloc (.cells #[.pointer none, .slice none 0 0] 57)) := (Below.refl _ w).alloc (Nat.le_refl _) _
  exact hK _ _ (h _ _ (IsBld.new w) ⟨hO.same hb, fun b o hm => hO.lt hm, hO.below.size, hb.size⟩)
end
theorem sb_app (s t : ByteArray) : sb (s ++ t) = sb s ++ sb t := by
  unfold sb
  rw [ByteArray.data_append, Array.toList_append, List.map_append]
end Go.Proofs.YtlcolabblpikjaaGreatDoor
/-
  The landed program's Print.
-/
namespace Go.Proofs.YtlcolabblpikjaaGreatDoor
set_option linter.unusedVariables false
set_option linter.unusedSimpArgs false
set_option maxRecDepth 20000
open Go.RowKit

def errA (o : Option (List Int)) : Int := if o.isSome then 0 else 1
/-- What lies ahead of the body's own line. -/
theorem ask_tail {m u : ByteArray} {hs : HBL} {body : ByteArray} {uu : UL} (o : ByteArray) (ho : o = strOfNums (topA (sb m) uu ++ headsP (hl hs))) :
    (sb body = [] → o ++ (⟨#[13, 10]⟩ ++ body) = strOfNums (textA (aL m u hs body) uu)) ∧
    (sb body ≠ [] → o ++ (⟨#[67, 111, 110, 116, 101, 110, 116, 45, 76, 101, 110, 103, 116, 104, 58, 32]⟩ ++ strOfNums (digs body.size) ++ ⟨#[13, 10]⟩) ++ (⟨#[13, 10]⟩ ++ body) = strOfNums (textA (aL m u hs body) uu)) := by
  subst ho
  constructor
  · intro hbe
    unfold textA aL lenT
    simp only
    rw [if_pos hbe, List.nil_append, ← List.append_assoc, strs_app _ (13 :: 10 :: sb body), show (13 : Int) :: 10 :: sb body = [13, 10] ++ sb body from rfl, strs_app [13, 10], str_sb]
    rfl
  · intro hbe
    unfold textA aL lenT
    simp only
    rw [if_neg hbe, ← List.append_assoc, strs_app _ (headP _ ++ _), length_sb]
    unfold headP
    simp only
    rw [show (13 : Int) :: 10 :: sb body = [13, 10] ++ sb body from rfl]
    simp only [strs_app, str_sb, ByteArray.append_assoc]
    rfl
set_option maxRecDepth 100000 in
set_option maxHeartbeats 16000000 in
theorem aprint_c {w0 w : World} {R : Blks} (hV : VarsOk w0) (hO : Own w0 w R) (m u : ByteArray) (v : Value) (hs : HBL) (hR : HRd w0 R v hs) (body : ByteArray)
    (hm : m.size ≤ 100000000) (hu : u.size ≤ 5000000) (hb : body.size ≤ 100000000) (hh : (headsP (hl hs)).length ≤ 100000000) :
    Calls Tryz.prog 6 #[.agg (av m u v body).toArray] w fun e w' => e = .returned (.tuple #[.string (strOfNums ((askP (aL m u hs body)).getD [])), (.int .i64 (errA (askP (aL m u hs body))))]) ∧ Own w0 w' R := by
  obtain ⟨o, ho⟩ : ∃ o, askP (aL m u hs body) = o := ⟨_, rfl⟩
  rw [ho]
  rw [askP_good] at ho
  obtain ⟨A, n, c, rfl, hn, hnc, _⟩ := hR w [] hO
  have hnb : n ≤ 100000000 := by
    have h5 := headsP_count (hl hs)
    have h6 : (hl hs).length = hs.length := by unfold hl; rw [List.length_map]
    omega
  have HN := Lib.hid hn; have HRR := Lib.hid hR; have HOO := Lib.hid ho; have HH := Lib.hid hh; have HVV := Lib.hid hV
  have HO := Lib.hid hO
  have hru := fun (w1 : World) (R1 : Blks) (h : Own w0 w1 R1) => arurl_c hV h u hu
  have HRU := Lib.hid hru
  clear hn hR ho hO hru hh hnc hV
  go_enter Tryz.func6, Tryz.ntmps6
  go_wp2_with (refine wl_box rfl _ _ rfl HO.out (av m u (.slice A n c) body).toArray (by rfl) ?_; intro g1 w1 hO; have HO1 := Lib.hid hO; clear hO HO; have hc1 : w1.cell? ⟨g1, 1, none⟩ = some (.string u) := HO1.out.cell (.head _) 1)
  with_reducible refine (HRU.out _ _ HO1.out).mono ?_
  rintro e w2 ⟨rfl, hO⟩
  have HO2 := Lib.hid hO; clear hO HO1 HRU hc1
  cases hg : goodU (sb u) with
  | none =>
    have HE : Hid (o = none) := Lib.hid (by
      rw [← HOO.out]
      show ((goodU (sb u)).bind _) = none
      rw [hg]; rfl)
    simp only [Option.getD_none, Option.isSome_none]
    clear hg HOO
    go_wp2_with (first | (refine wl_alloc rfl _ rfl HO2.out _ (alloc_url _) ?_; intro g4 w3 hO; have HO3 := Lib.hid hO; clear hO HO2) | (refine wl_store rfl _ _ _ rfl HO3.out 0 g4 0 _ UL.zero.val _ rfl (by rfl) (by rfl) url_size (one_url _) (by decide) ?_; intro w4 hO; have HO4 := Lib.hid (hO.cast (L' := (g4, .cells UL.zero.val.toArray 49) :: (g1, .cells (av m u (.slice A n c) body).toArray 24) :: R) rfl); clear hO HO3))
    go_ret2
    exact ⟨by rw [HE.out]; rfl, HO4.out.tail.tail⟩
  | some uu =>
    obtain ⟨hp, hpu, hN⟩ := goodU_ok (byt_sb u) hg
    have hF := hN.fine
    have hu2 := hF.half
    have hsz := parse_small hp
    rw [printI_parts] at hsz
    simp only [List.length_append] at hsz
    have hmeth := fun w : World => ameth_c (w := w) m
    have hhead := fun (w1 : World) (X : Blks) (h : Own w0 w1 (X ++ R)) => aheads_c h (.slice A n c) hs (HRR.out.grow (List.sublist_append_right X R)) HH.out
    have hph := fun (w1 : World) (hV1 : VarsOk w1) => aphost_c hV1 (Own.start w1) uu hu2
    obtain ⟨b1, hb1⟩ : ∃ b, decide (MethOk (sb m)) = b := ⟨_, rfl⟩
    obtain ⟨b2, hb2⟩ : ∃ b, decide (∀ h ∈ hl hs, HeadA h) = b := ⟨_, rfl⟩
    have hoo : o = if b1 = true ∧ b2 = true then some (textA (aL m u hs body) uu) else none := by
      rw [← HOO.out]
      show ((goodU (sb u)).bind fun u1 => if MethOk (sb m) ∧ ∀ h ∈ hl hs, HeadA h then some (textA (aL m u hs body) u1) else none) = _
      rw [hg, Option.bind_some]
      have key : (MethOk (sb m) ∧ ∀ h ∈ hl hs, HeadA h) ↔ (b1 = true ∧ b2 = true) := by rw [← hb1, ← hb2, decide_eq_true_iff, decide_eq_true_iff]
      by_cases h : b1 = true ∧ b2 = true
      · rw [if_pos h, if_pos (key.2 h)]
      · rw [if_neg h, if_neg (fun x => h (key.1 x))]
    simp only [hb1] at hmeth
    simp only [hb2] at hhead
    simp only [UL.val] at hph
    have htop : ∀ (hst : List Int), hst = uu.host ++ portT uu → m ++ ⟨#[32]⟩ ++ strOfNums uu.path ++ strOfNums uu.query ++ ⟨#[32, 72, 84, 84, 80, 47, 49, 46, 49]⟩ ++ ⟨#[13, 10]⟩ ++ (⟨#[72, 111, 115, 116, 58, 32]⟩ ++ strOfNums hst ++ ⟨#[13, 10]⟩) ++ (⟨#[83, 99, 104, 101, 109, 101, 58, 32]⟩ ++ strOfNums uu.sch ++ ⟨#[13, 10]⟩) = strOfNums (topA (sb m) uu) := by
      rintro hst rfl
      unfold topA
      rw [show (32 : Int) :: (uu.path ++ (uu.query ++ (http11 ++ (13 :: 10 :: (hostW ++ (uu.host ++ (portT uu ++ (13 :: 10 :: (schemeW ++ (uu.sch ++ [13, 10])))))))))) = [32] ++ (uu.path ++ (uu.query ++ (http11 ++ ([13, 10] ++ (hostW ++ ((uu.host ++ portT uu) ++ ([13, 10] ++ (schemeW ++ (uu.sch ++ [13, 10])))))))))  by simp]
      simp only [strs_app, str_sb, ByteArray.append_assoc]
      rfl
    have htp := htop _ rfl
    have htl : (topA (sb m) uu).length ≤ m.size + 120 := by
      unfold topA
      simp only [List.length_append, List.length_cons, List.length_nil, length_sb, http11, hostW, schemeW] at hsz ⊢
      omega
    have hfin := ask_tail (m := m) (u := u) (hs := hs) (body := body) (uu := uu) _ rfl
    have s1 : (strOfNums uu.sch).size ≤ 40 := by rw [strOfNums_size]; omega
    have s2 : (strOfNums (uu.host ++ portT uu)).size ≤ 80 := by rw [strOfNums_size, List.length_append]; omega
    have s3 : (strOfNums uu.path).size ≤ 40 := by rw [strOfNums_size]; omega
    have s4 : (strOfNums uu.query).size ≤ 40 := by rw [strOfNums_size]; omega
    simp only [Option.getD_some, Option.isSome_some, UL.val]
    clear htop hsz hN hF hu2 hp hpu hg hb1 hb2
    generalize strOfNums (uu.host ++ portT uu) = ph at *
    generalize strOfNums uu.sch = us at *
    generalize strOfNums uu.path = up at *
    generalize strOfNums uu.query = uq at *
    generalize strOfNums uu.host = uh at *
    generalize uu.port = pi at *
    generalize topA (sb m) uu = TP at *
    obtain ⟨S1, hS1⟩ : ∃ S1 : ByteArray, m ++ ⟨#[32]⟩ ++ up ++ uq ++ ⟨#[32, 72, 84, 84, 80, 47, 49, 46, 49]⟩ ++ ⟨#[13, 10]⟩ = S1 := ⟨_, rfl⟩
    obtain ⟨S2, hS2⟩ : ∃ S2 : ByteArray, ⟨#[72, 111, 115, 116, 58, 32]⟩ ++ ph ++ ⟨#[13, 10]⟩ = S2 := ⟨_, rfl⟩
    obtain ⟨S3, hS3⟩ : ∃ S3 : ByteArray, ⟨#[83, 99, 104, 101, 109, 101, 58, 32]⟩ ++ us ++ ⟨#[13, 10]⟩ = S3 := ⟨_, rfl⟩
    rw [hS1, hS2, hS3] at htp
    have z1 : S1.size ≤ 100000200 := by
      rw [← hS1]; simp only [ByteArray.size_append]
      show m.size + 1 + up.size + uq.size + 9 + 2 ≤ _
      omega
    have z2 : S2.size ≤ 100 := by
      rw [← hS2]; simp only [ByteArray.size_append]
      show 6 + ph.size + 2 ≤ _
      omega
    have z3 : S3.size ≤ 100 := by
      rw [← hS3]; simp only [ByteArray.size_append]
      show 8 + us.size + 2 ≤ _
      omega
    have HM := Lib.hid hmeth; have HHD := Lib.hid hhead; have HPH := Lib.hid hph; have HOI := Lib.hid hoo; have HTP := Lib.hid htp; have HTL := Lib.hid htl; have HFIN := Lib.hid hfin
    have HS1 := Lib.hid hS1; have HS2 := Lib.hid hS2; have HS3 := Lib.hid hS3
    have HZ : Hid (S1.size ≤ 100000200 ∧ S2.size ≤ 100 ∧ S3.size ≤ 100) := Lib.hid ⟨z1, z2, z3⟩
    clear hmeth hhead hph hoo htp htl hfin hS1 hS2 hS3 z1 z2 z3 HOO
    go_wp2_with (first | (refine wl_alloc rfl _ rfl HO2.out _ (alloc_url _) ?_; intro g4 w3 hO; have HO3 := Lib.hid hO; clear hO HO2) | (refine wl_store rfl _ _ _ rfl HO3.out 0 g4 0 _ [Value.string us, Value.string uh, Value.int .i64 pi, Value.string up, Value.string uq] _ rfl (by rfl) (by rfl) url_size (one_url5 _ _ _ _ _) (by simp [UL.val, UL.zero]) ?_; intro w4 hO; have HO4 := Lib.hid (hO.cast (L' := (g4, .cells [Value.string us, Value.string uh, Value.int .i64 pi, Value.string up, Value.string uq].toArray 49) :: (g1, .cells (av m u (.slice A n c) body).toArray 24) :: R) rfl); clear hO HO3; have k0 : w4.cell? ⟨g1, 0, none⟩ = some (.string m) := HO4.out.cell (.tail _ (.head _)) 0; have k2 : w4.cell? ⟨g1, 2, none⟩ = some (.slice A n c) := HO4.out.cell (.tail _ (.head _)) 2))
    with_reducible refine (HM.out _).mono ?_
    rintro e wq ⟨rfl, hww⟩
    subst hww
    cases b1 with
    | false =>
      have HE : Hid (o = none) := Lib.hid (by rw [HOI.out, if_neg (by simp)])
      go_wp2
      go_ret2
      exact ⟨by rw [HE.out]; rfl, HO4.out.tail.tail⟩
    | true =>
      go_wp2_with fail
      with_reducible refine (HHD.out _ [_, _] HO4.out).mono ?_
      rintro e w5 ⟨rfl, hO⟩
      have HO5 := Lib.hid hO; clear hO HO4 k0 k2
      cases b2 with
      | false =>
        have HE : Hid (o = none) := Lib.hid (by rw [HOI.out, if_neg (by simp)])
        go_wp2
        go_ret2
        exact ⟨by rw [HE.out]; rfl, HO5.out.tail.tail⟩
      | true =>
        have HE : Hid (o = some (textA (aL m u hs body) uu)) := Lib.hid (by rw [HOI.out, if_pos (by simp)])
        clear HOI HM HHD
        have n1 : ¬ (9223372036854775807 < m.size + 1) := by omega
        have n2 : ¬ (9223372036854775807 < m.size + 1 + up.size) := by omega
        have n3 : ¬ (9223372036854775807 < m.size + 1 + up.size + uq.size) := by omega
        have n4 : ¬ (9223372036854775807 < m.size + 1 + up.size + uq.size + 9) := by omega
        have n5 : ¬ (9223372036854775807 < m.size + 1 + up.size + uq.size + 9 + 2) := by omega
        go_wp2_with (refine wl_bld rfl rfl HO5.out ?_; intro g3 w6 hb hO; have HB6 := Lib.hid hb; have HO6 := Lib.hid hO; clear hb hO HO5; have k0 : w6.cell? ⟨g1, 0, none⟩ = some (.string m) := HO6.out.1.cell (.tail _ (.head _)) 0; have d3 : w6.cell? ⟨g4, 3, none⟩ = some (.string up) := HO6.out.1.cell (.head _) 3; have d4 : w6.cell? ⟨g4, 4, none⟩ = some (.string uq) := HO6.out.1.cell (.head _) 4)
        rw [HS1.out]
        have hwr := bwr_c HB6.out S1 (by have := HZ.out; rw [List.length_nil]; omega)
        rw [List.nil_append] at hwr
        have HWR := Lib.hid hwr
        clear hwr n1 n2 n3 n4 n5 k0 d3 d4
        with_reducible refine HWR.out.mono ?_
        rintro e w7 ⟨rfl, hb7, hbl⟩
        have HB7 := Lib.hid hb7; have HO7 := Lib.hid (HO6.out.on hbl)
        clear hb7 hbl HB6 HO6 HWR
        go_wp2_with (refine wl_load rfl _ _ rfl g4 0 [Value.string us, Value.string uh, Value.int .i64 pi, Value.string up, Value.string uq] [Value.string us, Value.string uh, Value.int .i64 pi, Value.string up, Value.string uq] _ (HO7.out.1.heap (.head _)) (by rfl) _ Tryz.underlying49 rfl url_size (by rfl) ?_)
        have hphc := HPH.out _ (HVV.out.on HO7.out.1.below)
        with_reducible refine hphc.mono ?_
        clear hphc
        rintro e w8 ⟨rfl, hbb⟩
        have HB8 := Lib.hid (HB7.out.on hbb.below); have HO8 := Lib.hid (HO7.out.on (hbb.below.mono HO7.out.2.2.2))
        clear hbb HB7 HO7 HPH
        have n1 : ¬ (9223372036854775807 < 6 + ph.size) := by omega
        have n2 : ¬ (9223372036854775807 < 6 + ph.size + 2) := by omega
        go_wp2_with fail
        rw [HS2.out]
        have hwr := bwr_c HB8.out S2 (by have := HZ.out; rw [length_sb]; omega)
        have HWR := Lib.hid hwr
        clear hwr n1 n2
        with_reducible refine HWR.out.mono ?_
        rintro e w9 ⟨rfl, hb9, hbl⟩
        have HB9 := Lib.hid hb9; have HO9 := Lib.hid (HO8.out.on hbl)
        clear hb9 hbl HB8 HO8 HWR
        have n1 : ¬ (9223372036854775807 < 8 + us.size) := by omega
        have n2 : ¬ (9223372036854775807 < 8 + us.size + 2) := by omega
        have d0 : w9.cell? ⟨g4, 0, none⟩ = some (.string us) := HO9.out.1.cell (.head _) 0
        go_wp2_with fail
        rw [HS3.out]
        have hwr := bwr_c HB9.out S3 (by have := HZ.out; rw [List.length_append, length_sb, length_sb]; omega)
        rw [← sb_app, ← sb_app, HTP.out] at hwr
        have HWR := Lib.hid hwr
        clear hwr n1 n2 d0
        with_reducible refine HWR.out.mono ?_
        rintro e w10 ⟨rfl, hb10, hbl⟩
        have HB10 := Lib.hid hb10; have HO10 := Lib.hid (HO9.out.on hbl)
        clear hb10 hbl HB9 HO9 HWR
        have k2 : w10.cell? ⟨g1, 2, none⟩ = some (.slice A n c) := HO10.out.1.cell (.tail _ (.head _)) 2
        go_wp2
        clear k2
        go_loopw [54] (fun t w' => ∃ (k : Nat), k ≤ n ∧ t = .int .i64 k ∧ Hid (IsBld g3 g3 (sb (strOfNums (TP ++ headsP ((hl hs).take k)))) w') ∧ Hid (OwnB w0 g3 w' ((g4, .cells [Value.string us, Value.string uh, Value.int .i64 pi, Value.string up, Value.string uq].toArray 49) :: (g1, .cells (av m u (.slice A n c) body).toArray 24) :: R))) (fun t _ => n - (intOf t).toNat)
        case atStart => exact ⟨0, Nat.zero_le _, rfl, Lib.hid (by have := HB10.out; rw [List.take_zero]; simpa [headsP] using this), HO10⟩
        case round =>
          obtain ⟨k, hk, rfl, HS, HO5⟩ := hrel
          clear HB10 HO10
          by_cases hlt : k < n
          · have hkl : k < hs.length := by rw [HN.out]; exact hlt
            have hat : hs[k]? = some hs[k] := List.getElem?_eq_getElem hkl
            obtain ⟨A', n', cp', e, _, _, hA'⟩ := HRR.out wr [_, _] HO5.out.1
            cases e
            obtain ⟨g, rfl, hcell⟩ := hA' (by omega)
            have hrg := hcell k _ hat
            have htk := hl_at hat
            have hle := headsP_take_len (hl hs) (k + 1)
            rw [htk, headsP_app, List.length_append] at hle
            generalize hs[k] = h at *
            obtain ⟨x, y⟩ := h
            have hcx : wr.cell? ⟨g, k * 2, none⟩ = some (.string x) := hrg 0 _ rfl
            have hcy : wr.cell? ⟨g, k * 2 + 1, none⟩ = some (.string y) := hrg 1 _ rfl
            simp only at htk hle
            have hhp : (headsP [(sb x, sb y)]).length = x.size + (2 + (y.size + 2)) := by simp [headsP, headP, length_sb]; omega
            rw [hhp] at hle
            have hq : x ++ ⟨#[58, 32]⟩ ++ y ++ ⟨#[13, 10]⟩ = strOfNums (headsP [(sb x, sb y)]) := by
              unfold headsP headP
              simp only [List.flatMap_cons, List.flatMap_nil, List.append_nil, strs_app, str_sb, ByteArray.append_assoc]
              rfl
            have hnext : sb (strOfNums (TP ++ headsP ((hl hs).take k))) ++ sb (x ++ ⟨#[58, 32]⟩ ++ y ++ ⟨#[13, 10]⟩) = sb (strOfNums (TP ++ headsP ((hl hs).take (k + 1)))) := by
              rw [hq, htk, headsP_app, ← List.append_assoc, strs_app (TP ++ headsP ((hl hs).take k)), sb_app]
            have hxy : x.size + (2 + (y.size + 2)) ≤ 100000000 := by have := HH.out; omega
            have hls : (sb (strOfNums (TP ++ headsP ((hl hs).take k)))).length + (x ++ ⟨#[58, 32]⟩ ++ y ++ ⟨#[13, 10]⟩ : ByteArray).size ≤ 140737488355328 := by
              rw [hq, length_sb, strOfNums_size, strOfNums_size, List.length_append, hhp]
              have h1 := HH.out
              have h2 := HTL.out
              omega
            have n1 : ¬ (9223372036854775807 < x.size + 2) := by omega
            have n2 : ¬ (9223372036854775807 < x.size + 2 + y.size) := by omega
            have n3 : ¬ (9223372036854775807 < x.size + 2 + y.size + 2) := by omega
            have HNX := Lib.hid hnext; have HLS := Lib.hid hls
            have hkn : (k : Int) < n := by omega
            have HOW := Lib.hid (Own.start wr)
            clear hcell hA' hrg hle hhp hnext hkl hls htk hat hq hxy
            go_wp2_with (first | (refine wl_alloc rfl _ rfl HOW.out _ (alloc_head _) ?_; intro gh w3 hO; have HO6 := Lib.hid hO; clear hO HOW) | (refine wl_store rfl _ _ _ rfl HO6.out 0 gh 0 _ (hv2 (x, y)) _ rfl (by rfl) (by rfl) head_size (one_hv2 _) (by simp [hv2]) ?_; intro w6 hO; have HO7 := Lib.hid (hO.cast (L' := [(gh, .cells (hv2 (x, y)).toArray 46)]) rfl); clear hO HO6; have hc3 : w6.cell? ⟨gh, 0, none⟩ = some (.string x) := HO7.out.cell (.head _) 0; have hc4 : w6.cell? ⟨gh, 1, none⟩ = some (.string y) := HO7.out.cell (.head _) 1; clear hcx hcy))
            have hwr := bwr_c (HS.out.on HO7.out.below) _ HLS.out
            rw [HNX.out] at hwr
            have HO8 := Lib.hid (HO5.out.on (HO7.out.below.mono HO5.out.2.2.2))
            clear hc3 hc4 HO7 HS HO5 HNX HLS
            with_reducible refine hwr.mono ?_
            clear hwr
            rintro e w7 ⟨rfl, hb4, hbl⟩
            have HB4 := Lib.hid hb4; have HO4 := Lib.hid (HO8.out.on hbl)
            clear hb4 hbl HO8
            go_wp2
            go_roundw
            case rel => exact ⟨k + 1, by omega, by go_num, HB4, HO4⟩
            case measure => simp [intOf]; omega
          · obtain rfl : k = n := by omega
            have hkn : ¬ (k : Int) < k := by omega
            have hta : (hl hs).take k = hl hs := List.take_of_length_le (by unfold hl; rw [List.length_map, HN.out]; exact Nat.le_refl _)
            have hs1 := HS.out
            rw [hta] at hs1
            have HS1b := Lib.hid hs1
            have hlo : (strOfNums (TP ++ headsP (hl hs))).size ≤ 300000000 := by
              rw [strOfNums_size, List.length_append]
              have h1 := HTL.out
              have h2 := HH.out
              omega
            clear hs1 hta HS
            have hfin := HFIN.out
            generalize strOfNums (TP ++ headsP (hl hs)) = SH at *
            have HLO := Lib.hid hlo
            clear hlo HFIN
            have k3 : wr.cell? ⟨g1, 3, none⟩ = some (.string body) := HO5.out.1.cell (.tail _ (.head _)) 3
            have bb := beq_lit8 body [] [] rfl
            have n8 : ¬ (9223372036854775807 < 2 + body.size) := by omega
            by_cases hbe : sb body = []
            · rw [decide_eq_true hbe] at bb
              have bb' : (body.toList != []) = false := by unfold bne; rw [bb]; rfl
              have HT := Lib.hid (hfin.1 hbe)
              have hwr := bwr_c HS1b.out (⟨#[13, 10]⟩ ++ body) (by rw [length_sb, ByteArray.size_append, show (⟨#[13, 10]⟩ : ByteArray).size = 2 from rfl]; have := HLO.out; omega)
              rw [← sb_app, HT.out] at hwr
              have HWR := Lib.hid hwr
              clear hfin hwr hbe HS1b
              go_wp2_with fail
              with_reducible refine HWR.out.mono ?_
              clear HWR
              rintro e w7 ⟨rfl, hb4, hbl⟩
              have HO6 := Lib.hid (HO5.out.on hbl)
              have hst := bstr_c (byt_sb _) hb4
              rw [str_sb] at hst
              have HST := Lib.hid hst
              clear hb4 hbl hst HO5 k3
              go_wp2_with fail
              with_reducible refine HST.out.mono ?_
              clear HST
              rintro e w8 ⟨rfl, hbl⟩
              have HO7 := Lib.hid (HO6.out.on hbl)
              clear hbl HO6
              go_wp2
              go_ret2
              exact ⟨by rw [HE.out]; rfl, HO7.out.1.tail.tail⟩
            · rw [decide_eq_false hbe] at bb
              have bb' : (body.toList != []) = true := by unfold bne; rw [bb]; rfl
              have HT := Lib.hid (hfin.2 hbe)
              have hit := ritoa_c (HVV.out.on HO5.out.1.below) (Own.start wr) body.size (by omega)
              have hds : (strOfNums (digs body.size)).size ≤ 21 := by rw [strOfNums_size]; exact (digs_len _).2
              generalize strOfNums (digs body.size) = ds at *
              have HIT := Lib.hid hit
              clear hfin hbe hit
              go_wp2_with fail
              with_reducible refine HIT.out.mono ?_
              rintro e w6 ⟨rfl, hbb⟩
              have HB6 := Lib.hid (HS1b.out.on hbb.below); have HO6 := Lib.hid (HO5.out.on (hbb.below.mono HO5.out.2.2.2))
              clear hbb HIT HO5 HS1b k3
              have n1 : ¬ (9223372036854775807 < 16 + ds.size) := by omega
              have n2 : ¬ (9223372036854775807 < 16 + ds.size + 2) := by omega
              have hz4 : (⟨#[67, 111, 110, 116, 101, 110, 116, 45, 76, 101, 110, 103, 116, 104, 58, 32]⟩ ++ ds ++ ⟨#[13, 10]⟩ : ByteArray).size ≤ 100 := by
                simp only [ByteArray.size_append]
                show 16 + ds.size + 2 ≤ _
                omega
              have hwr := bwr_c HB6.out (⟨#[67, 111, 110, 116, 101, 110, 116, 45, 76, 101, 110, 103, 116, 104, 58, 32]⟩ ++ ds ++ ⟨#[13, 10]⟩) (by rw [length_sb]; have := HLO.out; omega)
              rw [← sb_app] at hwr
              have HWR := Lib.hid hwr; have HZ4 := Lib.hid hz4
              clear hwr hz4
              go_wp2_with fail
              with_reducible refine HWR.out.mono ?_
              rintro e w7 ⟨rfl, hb7, hbl⟩
              have HB7 := Lib.hid hb7; have HO7 := Lib.hid (HO6.out.on hbl)
              clear hb7 hbl HB6 HO6 HWR n1 n2
              have k3 : w7.cell? ⟨g1, 3, none⟩ = some (.string body) := HO7.out.1.cell (.tail _ (.head _)) 3
              have hwr := bwr_c HB7.out (⟨#[13, 10]⟩ ++ body) (by have e1 : (⟨#[13, 10]⟩ ++ body : ByteArray).size = 2 + body.size := (by rw [ByteArray.size_append]; rfl); rw [length_sb, ByteArray.size_append, e1]; have h1 := HLO.out; have h2 := HZ4.out; omega)
              rw [← sb_app, HT.out] at hwr
              have HWR := Lib.hid hwr
              clear hwr HB7
              go_wp2_with fail
              with_reducible refine HWR.out.mono ?_
              clear HWR
              rintro e w8 ⟨rfl, hb4, hbl⟩
              have HO8 := Lib.hid (HO7.out.on hbl)
              have hst := bstr_c (byt_sb _) hb4
              rw [str_sb] at hst
              have HST := Lib.hid hst
              clear hb4 hbl hst HO7 k3
              go_wp2_with fail
              with_reducible refine HST.out.mono ?_
              clear HST
              rintro e w9 ⟨rfl, hbl⟩
              have HO9 := Lib.hid (HO8.out.on hbl)
              clear hbl HO8
              go_wp2
              go_ret2
              exact ⟨by rw [HE.out]; rfl, HO9.out.1.tail.tail⟩
end Go.Proofs.YtlcolabblpikjaaGreatDoor
