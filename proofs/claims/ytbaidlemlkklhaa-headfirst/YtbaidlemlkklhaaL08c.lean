/-
  HeadFirst: of several headers (at most nine, their names out of five, some alike but for great letters) Get tells the first one's value, in small or great letters, or that there is none.
  Conditions: none but the row's own.
-/
import Derived.Test.YtbaidlemlkklhaaL08a
import Derived.Test.YtbaidlemlkklhaaHead3
import Derived.Test.YtbaidlemlkklhaaTree
import Derived.Deep.QuietTactic
import Derived.BigQuiet
namespace Go.Proofs.Ytbaidlemlkklhaa
set_option linter.unusedVariables false
set_option linter.unusedSimpArgs false
set_option maxRecDepth 20000
open Go.ChangeShapes Go.WideShapes Go.ChangeAt Go.RowKit
open Go.ChangeMaps (open_string shut_string)

def nmS : List ByteArray := [⟨#[97]⟩, ⟨#[65]⟩, ⟨#[98, 45, 49]⟩, ⟨#[66, 45, 49]⟩, ⟨#[99]⟩]
theorem nmS_size : ∀ x ∈ nmS, 1 ≤ x.size ∧ x.size ≤ 3 ∧ lowL (sb x) ≠ [] := by decide +kernel
theorem first_pair : ∀ x ∈ nmS, ∀ n ∈ nmS, (decide (sb x = sb n) || (decide (n.size = x.size) && decide (bits .or .u8 ((sb n).getD 0 0) 32 = bits .or .u8 ((sb x).getD 0 0) 32) && decide ((sb n).drop 1 = (sb x).drop 1))) = decide (lowL (sb x) = lowL (sb n)) := by decide +kernel
def HOk (hs : HL) : Prop := ∀ h ∈ hs, h.1 ∈ nmS ∧ h.2.size = 1
theorem HOk.snoc {hs : HL} {h : ByteArray × ByteArray} (h1 : HOk hs) (h2 : h.1 ∈ nmS) (h3 : h.2.size = 1) : HOk (hs ++ [h]) := by
  intro x hx
  rcases List.mem_append.1 hx with hx | hx
  · exact h1 x hx
  · rw [List.mem_singleton] at hx; subst hx; exact ⟨h2, h3⟩
theorem HOk.none {hs : HL} (h : HOk hs) : getI (sb ⟨#[]⟩) hs = none := by
  unfold getI
  rw [Option.map_eq_none_iff, List.find?_eq_none]
  intro x hx
  have := (nmS_size x.1 (h x hx).1).2.2
  unfold matchI
  rw [show lowL (sb ⟨#[]⟩) = [] from rfl]
  simpa using this
set_option maxRecDepth 100000 in
set_option maxHeartbeats 16000000 in
theorem headFirst_walk {W : World} (v : Value) (xs : List Int) (hv : InRow .i64 W v xs) (a : Int) (wa : (Lit.int .i64 a).wf = true) : Calls Try.prog 4 #[v, .int .i64 a] W (Yes W) := by
  have hrd := hv.rdv []
  clear wa
  obtain ⟨A, n, cp, rfl, hn, hc, hm, hw, hA⟩ := hv
  have hnm : (n : Int) ≤ 9223372036854775807 := by simp only [maxLen] at hm; omega
  have HN := Lib.hid hn; have HRD := Lib.hid hrd
  have HO := Lib.hid (Own.start W)
  clear hrd hn hw hA hm hc
  go_enter Try.func4, Try.ntmps4
  go_wp2
  generalize hwx : W.alloc _ = w1
  have hO1 : Own W w1 [(W.heap.size, .cells (nmS.map Value.string).toArray 9)] := by rw [← hwx]; exact HO.out.alloc _
  have HO1 := Lib.hid hO1
  clear hwx hO1 HO
  generalize W.heap.size = gn at *
  go_loopw [6, 7] (fun xv t w' => ∃ (i : Nat) (hs : HL) (L : Blks), i ≤ n ∧ i ≤ 9 ∧ t = .int .i64 i ∧ hs.length = i ∧ Hid (IsHeads xv hs L) ∧ Hid (HOk hs) ∧ Hid (Own W w' (L ++ [(gn, .cells (nmS.map Value.string).toArray 9)]))) (fun _ t _ => n - (intOf t).toNat)
  case atStart => exact ⟨0, [], [], Nat.zero_le _, by omega, rfl, rfl, Lib.hid isHeads_nil, Lib.hid (fun h hh => by cases hh), HO1⟩
  case round =>
    obtain ⟨i, hs, L, hi, hi9, rfl, hil, HH, HK, HO2⟩ := hrel
    clear HO1
    have HIL := Lib.hid hil
    clear hil
    by_cases hlt : i < n
    · have hix : i < xs.length := by rw [HN.out]; exact hlt
      have hin : (i : Int) < n := by omega
      by_cases h9 : i < 9
      · have h9' : (i : Int) < 9 := by omega
        obtain ⟨A', n', cp', e, hn', _, hA'⟩ := HRD.out W [] (Own.start W)
        cases e
        obtain ⟨ad, rfl, _⟩ := hA' (by simp at hn'; omega)
        have hrdi : ∀ w' Lx, Own W w' Lx → w'.cell? (ad.add i) = some (.int .i64 xs[i]) := fun w' Lx hx => HRD.out.src (L' := Lx) (by rw [List.append_nil]; exact hx) i _ (by rw [List.getElem?_map, List.getElem?_eq_getElem hix]; rfl)
        clear hA' hn'
        generalize xs[i] = y at *
        have HRDI := Lib.hid hrdi
        have hj5 : (y % 5).toNat < 5 := by omega
        obtain ⟨j, hj⟩ : ∃ j, (y % 5).toNat = j := ⟨_, rfl⟩
        rw [hj] at hj5
        have hj5' : (j : Int) < 5 := by omega
        obtain ⟨p, hp⟩ : ∃ p, nmS[j]? = some p := ⟨_, List.getElem?_eq_getElem hj5⟩
        have hpm : p ∈ nmS := List.mem_of_getElem? hp
        have hp' : (nmS.map Value.string).toArray[j]? = some (Value.string p) := by simp [hp]
        have HJ := Lib.hid hj; have HP := Lib.hid hp'; have HPM := Lib.hid hpm
        have q1 : IntKind.i64.wrap (48 + (i : Int)) = 48 + i := IntWalk.i64_in _ (by omega)
        have q2 : IntKind.u8.wrap (48 + (i : Int)) = 48 + i := wraps_u8 _ (by omega) (by omega)
        clear hrdi hj hp hpm hp' hix
        go_wp2_with fail
        refine wp_region_tree (fun w' => ∃ Lx, Own W w' (Lx ++ [(gn, .cells (nmS.map Value.string).toArray 9)])) 17 (.q 0 (.q 1 (.q 2 (.q 3 (.q 4 (.q 5 (.q 9 (.q 10 (.q 11 (.two 6 (.q 7 (.q 8 (.one 12 (.one 13 (.q 14 (.one 15 (.one 16 .done))))))) 12 (.two 6 (.q 7 (.q 8 (.one 13 (.q 14 (.one 15 (.one 16 .done)))))) 13 (.one 6 (.q 7 (.q 8 (.q 14 (.one 15 (.one 16 .done))))))))))))))))) (by kernel_rfl) (by decide +kernel) (fun _ _ d _ _ h => by cases d <;> exact h) ⟨L, HO2.out.drew⟩ ?_
        have HO3 := Lib.hid HO2.out.drew; clear HO2
        generalize wr.drew = w3 at HO3
        iterate 9 (refine tr_q ?_ rfl ?_ ?_; rotate_left 1; (focus (rintro w' ⟨Lx, hx⟩; simp only [pick_zero, pick_succ]; have k1 : w'.cell? (ad.add i) = some (.int .i64 y) := HRDI.out w' _ hx; go_simp; first | done | with_reducible rfl | (trace_state; fail))); simp only [pick_zero, pick_succ]; simp only [Act.put, List.setIfInBounds_toArray, List.set_cons_zero, List.set_cons_succ])
        refine tr_two ?_ ?_
        · skip
          simp only [pick_zero, pick_succ]
          refine wl_call rfl _ _ _ (by go_simp) (within_n (w := w3) y 5 (by omega) (by omega)) ?_
          rintro e w' ⟨rfl, hww⟩
          subst hww
          refine ⟨_, rfl, LinPost.mk ⟨L, HO3.out⟩ ?_⟩
          rw [HJ.out]
          simp only [Act.put, List.setIfInBounds_toArray, List.set_cons_zero, List.set_cons_succ]
          iterate 2 (refine tr_q ?_ rfl ?_ ?_; rotate_left 1; (focus (rintro w' ⟨Lx, hx⟩; simp only [pick_zero, pick_succ]; have k2 : w'.cell? ⟨gn, j, none⟩ = some (.string p) := (hx.cell (List.mem_append_right _ (.head _)) j).trans HP.out; go_simp; first | done | with_reducible rfl | (trace_state; fail))); simp only [pick_zero, pick_succ]; simp only [Act.put, List.setIfInBounds_toArray, List.set_cons_zero, List.set_cons_succ])
          refine tr_one ?_
          simp only [pick_zero, pick_succ]
          refine wl_buildSlice rfl _ 1 [(0, _)] rfl HO3.out _ (build_byte1 _ (48 + (i : Int))) ?_
          intro g12 w4 hO
          have HO4 := Lib.hid (hO.perm List.perm_middle.symm); clear hO HO3
          refine LinPost.mk ⟨L ++ [_], HO4.out.cast (by rw [List.append_assoc]; rfl)⟩ ?_
          simp only [Act.put, List.setIfInBounds_toArray, List.set_cons_zero, List.set_cons_succ]
          refine tr_one ?_
          simp only [pick_zero, pick_succ]
          refine wl_val rfl (.string (strOfNums [48 + (i : Int)])) ?_ ?_
          · have hcv := convert_str (w := w4) (v := .slice (some ⟨g12, 0, none⟩) 1 1) (xs := [48 + (i : Int)]) (IsBytes.bs_sub (L := [(g12, .cells (bv [48 + (i : Int)]).toArray 5)]) (isBytes_whole g12 [48 + (i : Int)] (by simp)) HO4.out (sub_there (List.Sublist.cons_cons _ (List.nil_sublist _))))
            go_simp
          refine LinPost.mk ⟨L ++ [_], HO4.out.cast (by rw [List.append_assoc]; rfl)⟩ ?_
          simp only [Act.put, List.setIfInBounds_toArray, List.set_cons_zero, List.set_cons_succ]
          iterate 1 (refine tr_q ?_ rfl ?_ ?_; rotate_left 1; (focus (rintro w' ⟨Lx, hx⟩; simp only [pick_zero, pick_succ]; go_simp; first | done | with_reducible rfl | (trace_state; fail))); simp only [pick_zero, pick_succ]; simp only [Act.put, List.setIfInBounds_toArray, List.set_cons_zero, List.set_cons_succ])
          refine tr_one ?_
          simp only [pick_zero, pick_succ]
          refine wl_buildSlice rfl _ 1 [(0, _)] rfl HO4.out _ (build_heads1 _ p (strOfNums [48 + (i : Int)])) ?_
          intro g15 w5 hO
          have HO5 := Lib.hid (hO.perm List.perm_middle.symm); clear hO HO4
          refine LinPost.mk ⟨L ++ [_, _], HO5.out.cast (by rw [List.append_assoc]; rfl)⟩ ?_
          simp only [Act.put, List.setIfInBounds_toArray, List.set_cons_zero, List.set_cons_succ]
          refine tr_one ?_
          simp only [pick_zero, pick_succ]
          refine wl_appendH1 rfl _ _ rfl u6 hs (by rfl) HH.out HO5.out g15 1 (p, strOfNums [48 + (i : Int)]) (by rfl) (.head _) (by have := HIL.out; omega) ?_
          intro v' w6 L' hv' hO
          have HO6 := Lib.hid hO.strike.strike; have HV := Lib.hid hv'; clear hO hv' HO5 HH
          refine LinPost.mk ⟨L', HO6.out⟩ ?_
          simp only [Act.put, List.setIfInBounds_toArray, List.set_cons_zero, List.set_cons_succ]
          refine tr_done ?_
          simp only [List.drop_succ_cons, List.drop_zero]
          go_wp2
          go_roundw
          case rel => exact ⟨i + 1, _, L', by omega, by omega, by go_num, by rw [List.length_append, HIL.out]; rfl, HV, Lib.hid (HK.out.snoc HPM.out (by rw [strOfNums_size]; rfl)), HO6⟩
          case measure => simp [intOf] <;> omega
        · skip
          simp only [pick_zero, pick_succ]
          refine wl_buildSlice rfl _ 1 [(0, _)] rfl HO3.out _ (build_byte1 _ (48 + (i : Int))) ?_
          intro g12 w4 hO
          have HO4 := Lib.hid (hO.perm List.perm_middle.symm); clear hO HO3
          refine LinPost.mk ⟨L ++ [_], HO4.out.cast (by rw [List.append_assoc]; rfl)⟩ ?_
          simp only [Act.put, List.setIfInBounds_toArray, List.set_cons_zero, List.set_cons_succ]
          refine tr_two ?_ ?_
          · skip
            simp only [pick_zero, pick_succ]
            refine wl_call rfl _ _ _ (by go_simp) (within_n (w := w4) y 5 (by omega) (by omega)) ?_
            rintro e w' ⟨rfl, hww⟩
            subst hww
            refine ⟨_, rfl, LinPost.mk ⟨L ++ [_], HO4.out.cast (by rw [List.append_assoc]; rfl)⟩ ?_⟩
            rw [HJ.out]
            simp only [Act.put, List.setIfInBounds_toArray, List.set_cons_zero, List.set_cons_succ]
            iterate 2 (refine tr_q ?_ rfl ?_ ?_; rotate_left 1; (focus (rintro w' ⟨Lx, hx⟩; simp only [pick_zero, pick_succ]; have k2 : w'.cell? ⟨gn, j, none⟩ = some (.string p) := (hx.cell (List.mem_append_right _ (.head _)) j).trans HP.out; go_simp; first | done | with_reducible rfl | (trace_state; fail))); simp only [pick_zero, pick_succ]; simp only [Act.put, List.setIfInBounds_toArray, List.set_cons_zero, List.set_cons_succ])
            refine tr_one ?_
            simp only [pick_zero, pick_succ]
            refine wl_val rfl (.string (strOfNums [48 + (i : Int)])) ?_ ?_
            · have hcv := convert_str (w := w4) (v := .slice (some ⟨g12, 0, none⟩) 1 1) (xs := [48 + (i : Int)]) (IsBytes.bs_sub (L := [(g12, .cells (bv [48 + (i : Int)]).toArray 5)]) (isBytes_whole g12 [48 + (i : Int)] (by simp)) HO4.out (sub_there (List.Sublist.cons_cons _ (List.nil_sublist _))))
              go_simp
            refine LinPost.mk ⟨L ++ [_], HO4.out.cast (by rw [List.append_assoc]; rfl)⟩ ?_
            simp only [Act.put, List.setIfInBounds_toArray, List.set_cons_zero, List.set_cons_succ]
            iterate 1 (refine tr_q ?_ rfl ?_ ?_; rotate_left 1; (focus (rintro w' ⟨Lx, hx⟩; simp only [pick_zero, pick_succ]; go_simp; first | done | with_reducible rfl | (trace_state; fail))); simp only [pick_zero, pick_succ]; simp only [Act.put, List.setIfInBounds_toArray, List.set_cons_zero, List.set_cons_succ])
            refine tr_one ?_
            simp only [pick_zero, pick_succ]
            refine wl_buildSlice rfl _ 1 [(0, _)] rfl HO4.out _ (build_heads1 _ p (strOfNums [48 + (i : Int)])) ?_
            intro g15 w5 hO
            have HO5 := Lib.hid (hO.perm List.perm_middle.symm); clear hO HO4
            refine LinPost.mk ⟨L ++ [_, _], HO5.out.cast (by rw [List.append_assoc]; rfl)⟩ ?_
            simp only [Act.put, List.setIfInBounds_toArray, List.set_cons_zero, List.set_cons_succ]
            refine tr_one ?_
            simp only [pick_zero, pick_succ]
            refine wl_appendH1 rfl _ _ rfl u6 hs (by rfl) HH.out HO5.out g15 1 (p, strOfNums [48 + (i : Int)]) (by rfl) (.head _) (by have := HIL.out; omega) ?_
            intro v' w6 L' hv' hO
            have HO6 := Lib.hid hO.strike.strike; have HV := Lib.hid hv'; clear hO hv' HO5 HH
            refine LinPost.mk ⟨L', HO6.out⟩ ?_
            simp only [Act.put, List.setIfInBounds_toArray, List.set_cons_zero, List.set_cons_succ]
            refine tr_done ?_
            simp only [List.drop_succ_cons, List.drop_zero]
            go_wp2
            go_roundw
            case rel => exact ⟨i + 1, _, L', by omega, by omega, by go_num, by rw [List.length_append, HIL.out]; rfl, HV, Lib.hid (HK.out.snoc HPM.out (by rw [strOfNums_size]; rfl)), HO6⟩
            case measure => simp [intOf] <;> omega
          · skip
            simp only [pick_zero, pick_succ]
            refine wl_val rfl (.string (strOfNums [48 + (i : Int)])) ?_ ?_
            · have hcv := convert_str (w := w4) (v := .slice (some ⟨g12, 0, none⟩) 1 1) (xs := [48 + (i : Int)]) (IsBytes.bs_sub (L := [(g12, .cells (bv [48 + (i : Int)]).toArray 5)]) (isBytes_whole g12 [48 + (i : Int)] (by simp)) HO4.out (sub_there (List.Sublist.cons_cons _ (List.nil_sublist _))))
              go_simp
            refine LinPost.mk ⟨L ++ [_], HO4.out.cast (by rw [List.append_assoc]; rfl)⟩ ?_
            simp only [Act.put, List.setIfInBounds_toArray, List.set_cons_zero, List.set_cons_succ]
            refine tr_one ?_
            simp only [pick_zero, pick_succ]
            refine wl_call rfl _ _ _ (by go_simp) (within_n (w := w4) y 5 (by omega) (by omega)) ?_
            rintro e w' ⟨rfl, hww⟩
            subst hww
            refine ⟨_, rfl, LinPost.mk ⟨L ++ [_], HO4.out.cast (by rw [List.append_assoc]; rfl)⟩ ?_⟩
            rw [HJ.out]
            simp only [Act.put, List.setIfInBounds_toArray, List.set_cons_zero, List.set_cons_succ]
            iterate 2 (refine tr_q ?_ rfl ?_ ?_; rotate_left 1; (focus (rintro w' ⟨Lx, hx⟩; simp only [pick_zero, pick_succ]; have k2 : w'.cell? ⟨gn, j, none⟩ = some (.string p) := (hx.cell (List.mem_append_right _ (.head _)) j).trans HP.out; go_simp; first | done | with_reducible rfl | (trace_state; fail))); simp only [pick_zero, pick_succ]; simp only [Act.put, List.setIfInBounds_toArray, List.set_cons_zero, List.set_cons_succ])
            iterate 1 (refine tr_q ?_ rfl ?_ ?_; rotate_left 1; (focus (rintro w' ⟨Lx, hx⟩; simp only [pick_zero, pick_succ]; go_simp; first | done | with_reducible rfl | (trace_state; fail))); simp only [pick_zero, pick_succ]; simp only [Act.put, List.setIfInBounds_toArray, List.set_cons_zero, List.set_cons_succ])
            refine tr_one ?_
            simp only [pick_zero, pick_succ]
            refine wl_buildSlice rfl _ 1 [(0, _)] rfl HO4.out _ (build_heads1 _ p (strOfNums [48 + (i : Int)])) ?_
            intro g15 w5 hO
            have HO5 := Lib.hid (hO.perm List.perm_middle.symm); clear hO HO4
            refine LinPost.mk ⟨L ++ [_, _], HO5.out.cast (by rw [List.append_assoc]; rfl)⟩ ?_
            simp only [Act.put, List.setIfInBounds_toArray, List.set_cons_zero, List.set_cons_succ]
            refine tr_one ?_
            simp only [pick_zero, pick_succ]
            refine wl_appendH1 rfl _ _ rfl u6 hs (by rfl) HH.out HO5.out g15 1 (p, strOfNums [48 + (i : Int)]) (by rfl) (.head _) (by have := HIL.out; omega) ?_
            intro v' w6 L' hv' hO
            have HO6 := Lib.hid hO.strike.strike; have HV := Lib.hid hv'; clear hO hv' HO5 HH
            refine LinPost.mk ⟨L', HO6.out⟩ ?_
            simp only [Act.put, List.setIfInBounds_toArray, List.set_cons_zero, List.set_cons_succ]
            refine tr_done ?_
            simp only [List.drop_succ_cons, List.drop_zero]
            go_wp2
            go_roundw
            case rel => exact ⟨i + 1, _, L', by omega, by omega, by go_num, by rw [List.length_append, HIL.out]; rfl, HV, Lib.hid (HK.out.snoc HPM.out (by rw [strOfNums_size]; rfl)), HO6⟩
            case measure => simp [intOf] <;> omega
      · have h9' : ¬ (i : Int) < 9 := by omega
        have hin : (i : Int) < n := by omega
        obtain ⟨Ax, cx, hxe⟩ := IsRow.val HH.out
        rw [HIL.out] at hxe
        subst hxe
        have HRR := Lib.hid (HH.out.hrd (w0 := W) (R' := L ++ [(gn, .cells (nmS.map Value.string).toArray 9)]) sub_here)
        clear HH
        have hz : ∀ h ∈ hs, h.1.size ≤ 1073741824 ∧ h.2.size ≤ 1073741824 := fun h hh => by have h1 := HK.out h hh; have h2 := nmS_size _ h1.1; omega
        have HZ := Lib.hid hz; clear hz
        go_wp2
        go_loopw [47] (fun t w' => ∃ j : Nat, j ≤ 5 ∧ t = .int .i64 j ∧ Hid (Own W w' (L ++ [(gn, .cells (nmS.map Value.string).toArray 9)]))) (fun t _ => 5 - (intOf t).toNat)
        case atStart => exact ⟨0, by omega, rfl, HO2⟩
        case round =>
          obtain ⟨j, hj, rfl, HO3⟩ := hrel
          clear HO2
          by_cases hj5 : j < 5
          · have hjI : (j : Int) < 5 := by omega
            obtain ⟨p, hp⟩ : ∃ p, nmS[j]? = some p := ⟨_, List.getElem?_eq_getElem hj5⟩
            have hpm : p ∈ nmS := List.mem_of_getElem? hp
            have hcp : wr.cell? ⟨gn, j, none⟩ = some (.string p) := (HO3.out.cell (List.mem_append_right _ (.head _)) j).trans (by simp [hp])
            have hps := nmS_size p hpm
            have hp1 := hps.1; have hp2 := hps.2.1
            have hcall := hget_c HO3.out p (by omega) (.slice Ax i cx) hs HRR.out (by have := HIL.out; omega) HZ.out
            obtain ⟨vs, hvs⟩ : ∃ vs, (getI (sb p) hs).getD ⟨#[]⟩ = vs := ⟨_, rfl⟩
            obtain ⟨vb, hvb⟩ : ∃ vb, (getI (sb p) hs).isSome = vb := ⟨_, rfl⟩
            rw [hvs, hvb] at hcall
            have HVS := Lib.hid hvs; have HVB := Lib.hid hvb; have HPM := Lib.hid hpm; have HC := Lib.hid hcall
            clear hvs hvb hpm hcall hps hp
            go_wp2_with fail
            with_reducible refine HC.out.mono ?_
            rintro e w2 ⟨rfl, hO⟩
            have HO4 := Lib.hid hO; clear hO HO3 HC hcp
            go_wp2
            go_loopw [12, 13, 14] (fun b u t w' => ∃ (m : Nat) (ii : Int) (bs : ByteArray) (bu : Bool), m ≤ i ∧ b = .string bs ∧ u = .bool bu ∧ t = .int .i64 ii ∧ Hid (ii = (m : Int) - 1) ∧ Hid (bs = (getI (sb p) (hs.drop m)).getD ⟨#[]⟩ ∧ bu = (getI (sb p) (hs.drop m)).isSome) ∧ Hid (Own W w' (L ++ [(gn, .cells (nmS.map Value.string).toArray 9)]))) (fun _ _ t _ => (intOf t + 1).toNat)
            case atStart => exact ⟨i, _, _, _, Nat.le_refl _, rfl, rfl, rfl, Lib.hid rfl, Lib.hid (by rw [List.drop_of_length_le (by rw [HIL.out]; exact Nat.le_refl _)]; exact ⟨rfl, rfl⟩), HO4⟩
            case round =>
              obtain ⟨m, ii, bs, bu, hm, rfl, rfl, rfl, HII, HB, HO5⟩ := hrel
              clear HO4
              by_cases h0 : 0 ≤ ii
              · obtain ⟨k, rfl⟩ : ∃ k : Nat, ii = k := ⟨ii.toNat, by omega⟩
                obtain rfl : m = k + 1 := by have := HII.out; omega
                have hki : (k : Int) < i := by omega
                have hkl : k < hs.length := by rw [HIL.out]; omega
                obtain ⟨A', n', cp', e, _, _, hA'⟩ := HRR.out wr [] HO5.out
                cases e
                obtain ⟨g, rfl, hcell⟩ := hA' (by omega)
                have hrg := hcell k hs[k] (List.getElem?_eq_getElem hkl)
                have hgd := getI_drop (name := sb p) (List.getElem?_eq_getElem hkl)
                obtain ⟨hx1, _⟩ := HK.out hs[k] (List.getElem_mem hkl)
                generalize hs[k] = h at *
                obtain ⟨x, y⟩ := h
                have hfp := first_pair x hx1 p HPM.out
                have hxs := nmS_size x hx1
                have hxa := hxs.1; have hxb := hxs.2.1
                have hc1 : wr.cell? ⟨g, k * 2, none⟩ = some (.string x) := hrg 0 _ rfl
                have hc2 : wr.cell? ⟨g, k * 2 + 1, none⟩ = some (.string y) := hrg 1 _ rfl
                have e1 : (x.toList == p.toList) = decide (sb x = sb p) := beq_sb x p
                have e2 : ((p.size : Int) == x.size) = decide (p.size = x.size) := by rw [Bool.eq_iff_iff, beq_iff_eq, decide_eq_true_iff]; omega
                have i1 : ∀ w, _ := fun w => index_sb0 w p (by omega)
                have i2 : ∀ w, _ := fun w => index_sb0 w x (by omega)
                have e3 : (bits .or .u8 ((sb p).getD 0 0) 32 == bits .or .u8 ((sb x).getD 0 0) 32) = decide (bits .or .u8 ((sb p).getD 0 0) 32 = bits .or .u8 ((sb x).getD 0 0) 32) := rfl
                have e4 : ((p.extract 1 p.size).toList == (x.extract 1 x.size).toList) = decide ((sb p).drop 1 = (sb x).drop 1) := by rw [beq_sb, sb_from, sb_from]
                generalize decide (sb x = sb p) = b1 at *
                generalize decide (p.size = x.size) = b2 at *
                generalize decide (bits .or .u8 ((sb p).getD 0 0) 32 = bits .or .u8 ((sb x).getD 0 0) 32) = b3 at *
                generalize decide ((sb p).drop 1 = (sb x).drop 1) = b4 at *
                have hma : matchI (sb p) (x, y) = (b1 || (b2 && b3 && b4)) := hfp.symm
                rw [hma] at hgd
                generalize (sb p).getD 0 0 = p0 at *
                generalize (sb x).getD 0 0 = x0 at *
                have hp1I : (1 : Int) ≤ p.size := by omega
                have hx1I : (1 : Int) ≤ x.size := by omega
                have HGD := Lib.hid hgd
                clear hcell hA' hrg hgd hkl hfp hxs hx1 hma
                cases b1 with
                | true =>
                  have HE : Hid (getI (sb p) (hs.drop k) = some y) := Lib.hid (HGD.out.trans (by simp))
                  clear HGD
                  go_wp2
                  go_quiet (fail)
                  have HO6 := Lib.hid (HO5.out.drewN nq); clear HO5
                  go_wp2
                  go_roundw
                  case rel => exact ⟨k, (k : Int) - 1, _, _, by omega, rfl, rfl, by go_num, Lib.hid rfl, Lib.hid (by rw [HE.out]; exact ⟨rfl, rfl⟩), HO6⟩
                  case measure => simp [intOf] <;> omega
                | false =>
                  cases b2 with
                  | false =>
                    have HE : Hid (getI (sb p) (hs.drop k) = getI (sb p) (hs.drop (k + 1))) := Lib.hid (HGD.out.trans (by simp))
                    clear HGD
                    go_wp2
                    go_quiet (fail)
                    have HO6 := Lib.hid (HO5.out.drewN nq); clear HO5
                    go_wp2
                    go_roundw
                    case rel => exact ⟨k, (k : Int) - 1, _, _, by omega, rfl, rfl, by go_num, Lib.hid rfl, Lib.hid (by rw [HE.out]; exact HB.out), HO6⟩
                    case measure => simp [intOf] <;> omega
                  | true =>
                    cases b3 with
                    | false =>
                      have HE : Hid (getI (sb p) (hs.drop k) = getI (sb p) (hs.drop (k + 1))) := Lib.hid (HGD.out.trans (by simp))
                      clear HGD
                      go_wp2
                      go_quiet (fail)
                      have HO6 := Lib.hid (HO5.out.drewN nq); clear HO5
                      go_wp2
                      go_roundw
                      case rel => exact ⟨k, (k : Int) - 1, _, _, by omega, rfl, rfl, by go_num, Lib.hid rfl, Lib.hid (by rw [HE.out]; exact HB.out), HO6⟩
                      case measure => simp [intOf] <;> omega
                    | true =>
                      cases b4 with
                      | false =>
                        have HE : Hid (getI (sb p) (hs.drop k) = getI (sb p) (hs.drop (k + 1))) := Lib.hid (HGD.out.trans (by simp))
                        clear HGD
                        go_wp2
                        go_quiet (fail)
                        have HO6 := Lib.hid (HO5.out.drewN nq); clear HO5
                        go_wp2
                        go_roundw
                        case rel => exact ⟨k, (k : Int) - 1, _, _, by omega, rfl, rfl, by go_num, Lib.hid rfl, Lib.hid (by rw [HE.out]; exact HB.out), HO6⟩
                        case measure => simp [intOf] <;> omega
                      | true =>
                        have HE : Hid (getI (sb p) (hs.drop k) = some y) := Lib.hid (HGD.out.trans (by simp))
                        clear HGD
                        go_wp2
                        go_quiet (fail)
                        have HO6 := Lib.hid (HO5.out.drewN nq); clear HO5
                        go_wp2
                        go_roundw
                        case rel => exact ⟨k, (k : Int) - 1, _, _, by omega, rfl, rfl, by go_num, Lib.hid rfl, Lib.hid (by rw [HE.out]; exact ⟨rfl, rfl⟩), HO6⟩
                        case measure => simp [intOf] <;> omega
              · obtain rfl : m = 0 := by have := HII.out; omega
                obtain ⟨hbs, hbu⟩ := HB.out
                rw [List.drop_zero] at hbs hbu
                obtain rfl : bs = vs := hbs.trans HVS.out
                obtain rfl : bu = vb := hbu.trans HVB.out
                clear hbs hbu
                have t1 : (bs.toList == bs.toList) = true := by simp
                go_wp2
                go_roundw
                case rel => exact ⟨j + 1, by omega, by go_num, HO5⟩
                case measure => simp [intOf] <;> omega
          · obtain rfl : j = 5 := by omega
            have hcall := hget_c HO3.out ⟨#[]⟩ (by decide) (.slice Ax i cx) hs HRR.out (by have := HIL.out; omega) HZ.out
            rw [HK.out.none] at hcall
            have HC := Lib.hid hcall
            clear hcall
            go_wp2_with fail
            with_reducible refine HC.out.mono ?_
            rintro e w2 ⟨rfl, hO⟩
            have HO4 := Lib.hid hO; clear hO HO3 HC
            simp only [Option.getD_none, Option.isSome_none]
            go_wp2_with fail
            with_reducible refine (wakes8_c HO4.out).mono ?_
            rintro e w3 ⟨rfl, hO⟩
            have HO5 := Lib.hid hO; clear hO HO4
            go_wp2
            go_ret
            exact HO5.out.yes rfl
    · have hin : ¬ (i : Int) < n := by omega
      obtain ⟨Ax, cx, hxe⟩ := IsRow.val HH.out
      rw [HIL.out] at hxe
      subst hxe
      have HRR := Lib.hid (HH.out.hrd (w0 := W) (R' := L ++ [(gn, .cells (nmS.map Value.string).toArray 9)]) sub_here)
      clear HH
      have hz : ∀ h ∈ hs, h.1.size ≤ 1073741824 ∧ h.2.size ≤ 1073741824 := fun h hh => by have h1 := HK.out h hh; have h2 := nmS_size _ h1.1; omega
      have HZ := Lib.hid hz; clear hz
      go_wp2
      go_loopw [47] (fun t w' => ∃ j : Nat, j ≤ 5 ∧ t = .int .i64 j ∧ Hid (Own W w' (L ++ [(gn, .cells (nmS.map Value.string).toArray 9)]))) (fun t _ => 5 - (intOf t).toNat)
      case atStart => exact ⟨0, by omega, rfl, HO2⟩
      case round =>
        obtain ⟨j, hj, rfl, HO3⟩ := hrel
        clear HO2
        by_cases hj5 : j < 5
        · have hjI : (j : Int) < 5 := by omega
          obtain ⟨p, hp⟩ : ∃ p, nmS[j]? = some p := ⟨_, List.getElem?_eq_getElem hj5⟩
          have hpm : p ∈ nmS := List.mem_of_getElem? hp
          have hcp : wr.cell? ⟨gn, j, none⟩ = some (.string p) := (HO3.out.cell (List.mem_append_right _ (.head _)) j).trans (by simp [hp])
          have hps := nmS_size p hpm
          have hp1 := hps.1; have hp2 := hps.2.1
          have hcall := hget_c HO3.out p (by omega) (.slice Ax i cx) hs HRR.out (by have := HIL.out; omega) HZ.out
          obtain ⟨vs, hvs⟩ : ∃ vs, (getI (sb p) hs).getD ⟨#[]⟩ = vs := ⟨_, rfl⟩
          obtain ⟨vb, hvb⟩ : ∃ vb, (getI (sb p) hs).isSome = vb := ⟨_, rfl⟩
          rw [hvs, hvb] at hcall
          have HVS := Lib.hid hvs; have HVB := Lib.hid hvb; have HPM := Lib.hid hpm; have HC := Lib.hid hcall
          clear hvs hvb hpm hcall hps hp
          go_wp2_with fail
          with_reducible refine HC.out.mono ?_
          rintro e w2 ⟨rfl, hO⟩
          have HO4 := Lib.hid hO; clear hO HO3 HC hcp
          go_wp2
          go_loopw [12, 13, 14] (fun b u t w' => ∃ (m : Nat) (ii : Int) (bs : ByteArray) (bu : Bool), m ≤ i ∧ b = .string bs ∧ u = .bool bu ∧ t = .int .i64 ii ∧ Hid (ii = (m : Int) - 1) ∧ Hid (bs = (getI (sb p) (hs.drop m)).getD ⟨#[]⟩ ∧ bu = (getI (sb p) (hs.drop m)).isSome) ∧ Hid (Own W w' (L ++ [(gn, .cells (nmS.map Value.string).toArray 9)]))) (fun _ _ t _ => (intOf t + 1).toNat)
          case atStart => exact ⟨i, _, _, _, Nat.le_refl _, rfl, rfl, rfl, Lib.hid rfl, Lib.hid (by rw [List.drop_of_length_le (by rw [HIL.out]; exact Nat.le_refl _)]; exact ⟨rfl, rfl⟩), HO4⟩
          case round =>
            obtain ⟨m, ii, bs, bu, hm, rfl, rfl, rfl, HII, HB, HO5⟩ := hrel
            clear HO4
            by_cases h0 : 0 ≤ ii
            · obtain ⟨k, rfl⟩ : ∃ k : Nat, ii = k := ⟨ii.toNat, by omega⟩
              obtain rfl : m = k + 1 := by have := HII.out; omega
              have hki : (k : Int) < i := by omega
              have hkl : k < hs.length := by rw [HIL.out]; omega
              obtain ⟨A', n', cp', e, _, _, hA'⟩ := HRR.out wr [] HO5.out
              cases e
              obtain ⟨g, rfl, hcell⟩ := hA' (by omega)
              have hrg := hcell k hs[k] (List.getElem?_eq_getElem hkl)
              have hgd := getI_drop (name := sb p) (List.getElem?_eq_getElem hkl)
              obtain ⟨hx1, _⟩ := HK.out hs[k] (List.getElem_mem hkl)
              generalize hs[k] = h at *
              obtain ⟨x, y⟩ := h
              have hfp := first_pair x hx1 p HPM.out
              have hxs := nmS_size x hx1
              have hxa := hxs.1; have hxb := hxs.2.1
              have hc1 : wr.cell? ⟨g, k * 2, none⟩ = some (.string x) := hrg 0 _ rfl
              have hc2 : wr.cell? ⟨g, k * 2 + 1, none⟩ = some (.string y) := hrg 1 _ rfl
              have e1 : (x.toList == p.toList) = decide (sb x = sb p) := beq_sb x p
              have e2 : ((p.size : Int) == x.size) = decide (p.size = x.size) := by rw [Bool.eq_iff_iff, beq_iff_eq, decide_eq_true_iff]; omega
              have i1 : ∀ w, _ := fun w => index_sb0 w p (by omega)
              have i2 : ∀ w, _ := fun w => index_sb0 w x (by omega)
              have e3 : (bits .or .u8 ((sb p).getD 0 0) 32 == bits .or .u8 ((sb x).getD 0 0) 32) = decide (bits .or .u8 ((sb p).getD 0 0) 32 = bits .or .u8 ((sb x).getD 0 0) 32) := rfl
              have e4 : ((p.extract 1 p.size).toList == (x.extract 1 x.size).toList) = decide ((sb p).drop 1 = (sb x).drop 1) := by rw [beq_sb, sb_from, sb_from]
              generalize decide (sb x = sb p) = b1 at *
              generalize decide (p.size = x.size) = b2 at *
              generalize decide (bits .or .u8 ((sb p).getD 0 0) 32 = bits .or .u8 ((sb x).getD 0 0) 32) = b3 at *
              generalize decide ((sb p).drop 1 = (sb x).drop 1) = b4 at *
              have hma : matchI (sb p) (x, y) = (b1 || (b2 && b3 && b4)) := hfp.symm
              rw [hma] at hgd
              generalize (sb p).getD 0 0 = p0 at *
              generalize (sb x).getD 0 0 = x0 at *
              have hp1I : (1 : Int) ≤ p.size := by omega
              have hx1I : (1 : Int) ≤ x.size := by omega
              have HGD := Lib.hid hgd
              clear hcell hA' hrg hgd hkl hfp hxs hx1 hma
              cases b1 with
              | true =>
                have HE : Hid (getI (sb p) (hs.drop k) = some y) := Lib.hid (HGD.out.trans (by simp))
                clear HGD
                go_wp2
                go_quiet (fail)
                have HO6 := Lib.hid (HO5.out.drewN nq); clear HO5
                go_wp2
                go_roundw
                case rel => exact ⟨k, (k : Int) - 1, _, _, by omega, rfl, rfl, by go_num, Lib.hid rfl, Lib.hid (by rw [HE.out]; exact ⟨rfl, rfl⟩), HO6⟩
                case measure => simp [intOf] <;> omega
              | false =>
                cases b2 with
                | false =>
                  have HE : Hid (getI (sb p) (hs.drop k) = getI (sb p) (hs.drop (k + 1))) := Lib.hid (HGD.out.trans (by simp))
                  clear HGD
                  go_wp2
                  go_quiet (fail)
                  have HO6 := Lib.hid (HO5.out.drewN nq); clear HO5
                  go_wp2
                  go_roundw
                  case rel => exact ⟨k, (k : Int) - 1, _, _, by omega, rfl, rfl, by go_num, Lib.hid rfl, Lib.hid (by rw [HE.out]; exact HB.out), HO6⟩
                  case measure => simp [intOf] <;> omega
                | true =>
                  cases b3 with
                  | false =>
                    have HE : Hid (getI (sb p) (hs.drop k) = getI (sb p) (hs.drop (k + 1))) := Lib.hid (HGD.out.trans (by simp))
                    clear HGD
                    go_wp2
                    go_quiet (fail)
                    have HO6 := Lib.hid (HO5.out.drewN nq); clear HO5
                    go_wp2
                    go_roundw
                    case rel => exact ⟨k, (k : Int) - 1, _, _, by omega, rfl, rfl, by go_num, Lib.hid rfl, Lib.hid (by rw [HE.out]; exact HB.out), HO6⟩
                    case measure => simp [intOf] <;> omega
                  | true =>
                    cases b4 with
                    | false =>
                      have HE : Hid (getI (sb p) (hs.drop k) = getI (sb p) (hs.drop (k + 1))) := Lib.hid (HGD.out.trans (by simp))
                      clear HGD
                      go_wp2
                      go_quiet (fail)
                      have HO6 := Lib.hid (HO5.out.drewN nq); clear HO5
                      go_wp2
                      go_roundw
                      case rel => exact ⟨k, (k : Int) - 1, _, _, by omega, rfl, rfl, by go_num, Lib.hid rfl, Lib.hid (by rw [HE.out]; exact HB.out), HO6⟩
                      case measure => simp [intOf] <;> omega
                    | true =>
                      have HE : Hid (getI (sb p) (hs.drop k) = some y) := Lib.hid (HGD.out.trans (by simp))
                      clear HGD
                      go_wp2
                      go_quiet (fail)
                      have HO6 := Lib.hid (HO5.out.drewN nq); clear HO5
                      go_wp2
                      go_roundw
                      case rel => exact ⟨k, (k : Int) - 1, _, _, by omega, rfl, rfl, by go_num, Lib.hid rfl, Lib.hid (by rw [HE.out]; exact ⟨rfl, rfl⟩), HO6⟩
                      case measure => simp [intOf] <;> omega
            · obtain rfl : m = 0 := by have := HII.out; omega
              obtain ⟨hbs, hbu⟩ := HB.out
              rw [List.drop_zero] at hbs hbu
              obtain rfl : bs = vs := hbs.trans HVS.out
              obtain rfl : bu = vb := hbu.trans HVB.out
              clear hbs hbu
              have t1 : (bs.toList == bs.toList) = true := by simp
              go_wp2
              go_roundw
              case rel => exact ⟨j + 1, by omega, by go_num, HO5⟩
              case measure => simp [intOf] <;> omega
        · obtain rfl : j = 5 := by omega
          have hcall := hget_c HO3.out ⟨#[]⟩ (by decide) (.slice Ax i cx) hs HRR.out (by have := HIL.out; omega) HZ.out
          rw [HK.out.none] at hcall
          have HC := Lib.hid hcall
          clear hcall
          go_wp2_with fail
          with_reducible refine HC.out.mono ?_
          rintro e w2 ⟨rfl, hO⟩
          have HO4 := Lib.hid hO; clear hO HO3 HC
          simp only [Option.getD_none, Option.isSome_none]
          go_wp2_with fail
          with_reducible refine (wakes8_c HO4.out).mono ?_
          rintro e w3 ⟨rfl, hO⟩
          have HO5 := Lib.hid hO; clear hO HO4
          go_wp2
          go_ret
          exact HO5.out.yes rfl
set_option maxRecDepth 100000 in
theorem headFirst_lifted (os : Os) (started : os.Started) (H : Type) (enc : TypeId × Value → H) :
    ReturnsInHanded {} Try.checked os 4 .any (Rows.headFirstSpec.pre6 enc Try.prog Try.f4 Rows.headFirstRow.domain false) (Rows.headFirstSpec.post enc Try.prog Try.f4 false true false false) := by
  refine returnsInHanded_of_change (C := Try.checked) (by kernel_rfl) started (by kernel_rfl) Try.func4
    (ChangeSpec.witness6 (enc := enc) (C := Try.checked) false ⟨#[], #[.slice none 0 0, .int .i64 0], []⟩ 8 (by kernel_rfl) (by kernel_rfl) (by kernel_rfl) (by kernel_rfl)) ?_
  intro W base args ds gs before hval0 hW hcnd _
  have hval : ∀ (j : Nat) t v, Try.f4.params[j]? = some t → args[j]? = some v → Value.okWide Try.prog W .any base t v := hval0
  have hW' := hW
  obtain ⟨p, q, hA0, hV, rfl, hfz, hnd⟩ := hW
  have hA : DataW.TrodAll enc Try.prog W 0 (fun _ => true) true Try.f4.params.toList args.toList ds p := hA0
  rw [Try.params4] at hA hval
  obtain ⟨v0, vs0, d0, ds0, p0, q0, hargs, rfl, rfl, h0, r0⟩ := trodAll_cons hA
  obtain ⟨v1, vs1, d1, ds1, p1, q1, rfl, rfl, rfl, h1, r1⟩ := trodAll_cons r0
  obtain ⟨rfl, rfl, rfl⟩ := trodAll_nil r1
  obtain rfl : args = #[v0, v1] := by cases args; simp_all
  obtain ⟨rfl, rfl⟩ := trodVars_none hV
  obtain ⟨b0, len0, cap0, rfl⟩ := okWide_slice Try.underlying27 (hval 0 27 v0 rfl rfl)
  have k0 := h0
  have lt0 : ∀ x ∈ p0, x.block < W.heap.size := by obtain ⟨m, hm⟩ := k0; exact DataW.trod_lt m _ _ _ hm
  obtain ⟨a0, w0⟩ : ∃ xs, InRow .i64 W (.slice b0 len0 cap0) xs := by
    obtain ⟨fuel, hf⟩ := h0
    rcases open_ints Try.underlying27 Try.underlying3 (by kernel_rfl) hf with ⟨hcs, _⟩ | ⟨x, l, c, zs, hcs, _, hl, hm, hz, _, hcell, hwz⟩
    · simp [Value.cells] at hcs
      obtain ⟨rfl, rfl, rfl⟩ := hcs
      exact ⟨[], inRow_nil _ _⟩
    · simp [Value.cells] at hcs
      obtain ⟨rfl, rfl, rfl⟩ := hcs
      exact ⟨zs.take len0, inRow_mk hl hm (by simpa using hz) hcell hwz⟩
  obtain ⟨a1, rfl, rfl, rfl, w1⟩ := open_int Try.underlying3 (hval 1 3 v1 rfl rfl) h1
  clear hA0 hval0
  refine (headFirst_walk _ a0 w0 a1 w1).mono fun e W' ⟨he, bel⟩ => ?_
  subst he
  exact ⟨_, rfl, _, _, _, [], _, [], hW', trodAll_mk1 (shut_bool Try.underlying4 _), (trodAll_cons_mk (Below.trod laidOut (by kernel_rfl) (of_decide_eq_true (by kernel_rfl)) k0 bel lt0) (trodAll_cons_mk (shut_int Try.underlying3 w1) trodAll_mk0)), rfl, bel.frame _, fun h => by cases h⟩

/-- The statement. -/
theorem headFirst_proved : Rows.HeadFirstSaid :=
  OpenClaim.holds_of_wide 4 Try.f4 rfl rfl rfl rfl rfl rfl rfl ⟨rfl, rfl, rfl, rfl, rfl⟩ rfl rfl rfl rfl rfl (by kernel_rfl) Try.func4 (by kernel_rfl)
    (of_decide_eq_true (by kernel_rfl)) (by unfold Func.isWrapper; first | (rw [if_pos (by decide +kernel)]; kernel_rfl) | (rw [if_neg (by decide +kernel)]; exact ⟨rfl, rfl⟩))
    (fun os started H enc _ => headFirst_lifted os started H enc)
end Go.Proofs.Ytbaidlemlkklhaa
