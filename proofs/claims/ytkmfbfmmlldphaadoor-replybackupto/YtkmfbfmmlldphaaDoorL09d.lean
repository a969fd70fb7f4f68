/-
  ReplyBack: a printed answer (a status from 100 to 599, one header, any body of at most 1,048,576 bytes) is parsed as it was, also with its length told rightly; with a length that is too great it is cut, with one too small it ends there; with the length told twice it is none.
  Conditions: the statement's own bound (the arguments hold together at most 1,048,576 values and letters).
-/
import Derived.Test.YtkmfbfmmlldphaaDoorL09a
import Derived.Test.YtkmfbfmmlldphaaDoorVarsR
import Derived.JoinedCond
import Derived.Test.YtkmfbfmmlldphaaDoorRep2
import Derived.Test.YtkmfbfmmlldphaaDoorTree
import Derived.Deep.QuietTactic
import Derived.BigQuiet
import Derived.Test.YtkmfbfmmlldphaaDoorInb
namespace Go.Proofs.YtkmfbfmmlldphaaDoor
set_option linter.unusedVariables false
set_option linter.unusedSimpArgs false
set_option maxRecDepth 20000
open Go.ChangeShapes Go.WideShapes Go.ChangeAt Go.RowKit
open Go.ChangeMaps (open_string shut_string)

def clS : List ByteArray := [⟨#[67, 111, 110, 116, 101, 110, 116, 45, 76, 101, 110, 103, 116, 104]⟩, ⟨#[99, 111, 110, 116, 101, 110, 116, 45, 108, 101, 110, 103, 116, 104]⟩, ⟨#[67, 79, 78, 84, 69, 78, 84, 45, 76, 69, 78, 71, 84, 72]⟩]
theorem cl_at (j : Nat) (hj : j < 3) : ∃ cl, clS[j]? = some (strOfNums cl) ∧ NameOk 20 cl ∧ lowL cl = clI ∧ cl.length = 14 := by
  rcases (by omega : j = 0 ∨ j = 1 ∨ j = 2) with rfl | rfl | rfl
  · exact ⟨[67, 111, 110, 116, 101, 110, 116, 45, 76, 101, 110, 103, 116, 104], by rfl, by decide, by decide, rfl⟩
  · exact ⟨[99, 111, 110, 116, 101, 110, 116, 45, 108, 101, 110, 103, 116, 104], by rfl, by decide, by decide, rfl⟩
  · exact ⟨[67, 79, 78, 84, 69, 78, 84, 45, 76, 69, 78, 71, 84, 72], by rfl, by decide, by decide, rfl⟩
theorem build_cl (w : World) : (Instr.buildSlice 32 3 #[(0, .string ⟨#[67, 111, 110, 116, 101, 110, 116, 45, 76, 101, 110, 103, 116, 104]⟩), (1, .string ⟨#[99, 111, 110, 116, 101, 110, 116, 45, 108, 101, 110, 103, 116, 104]⟩), (2, .string ⟨#[67, 79, 78, 84, 69, 78, 84, 45, 76, 69, 78, 71, 84, 72]⟩)]).run Tryd.prog w = .ok (.slice (some ⟨w.heap.size, 0, none⟩) 3 3) (w.alloc (.cells (clS.map Value.string).toArray 9)) := by kernel_rfl
abbrev hE : List Int × List Int := (etagI, [120])
theorem hE_ok : HeadOk hE := by unfold HeadOk; decide
theorem hE_no : lowL hE.1 ≠ clI := by decide
theorem toB_hE : toB hE = (⟨#[101, 116, 97, 103]⟩, ⟨#[120]⟩) := rfl
theorem replyP_len (c : Nat) (hs : HL) (body : List Int) : (replyP c hs body).length ≤ 36 + (headsP hs).length + body.length := by
  have := digs_len c
  simp only [replyP, verI, List.length_append, List.length_cons, List.length_nil]
  omega
set_option maxRecDepth 100000 in
set_option maxHeartbeats 16000000 in
theorem replyBack_walk {W : World} (hV : VarsOk W) (a : Int) (wa : (Lit.int .i64 a).wf = true) (body : ByteArray) (hbz : body.size ≤ 1048576) (b : Int) (wb : (Lit.int .i64 b).wf = true) (d : Int) (wd : (Lit.int .i64 d).wf = true) :
    Calls Tryd.prog 6 #[.int .i64 a, .string body, .int .i64 b, .int .i64 d] W (Yes W) := by
  have HVV := Lib.hid hV
  clear wa wb wd hV
  have HO := Lib.hid (Own.start W)
  obtain ⟨bl, hbl⟩ : ∃ bl, body.size = bl := ⟨_, rfl⟩
  rw [hbl] at hbz
  have q1 := within_n (w := W) a 500 (by omega) (by omega)
  have hj : (a % 500).toNat < 500 := by omega
  generalize (a % 500).toNat = j at *
  obtain ⟨c, hc⟩ : ∃ c : Nat, 100 + j = c := ⟨_, rfl⟩
  have hcI : (100 : Int) + j = c := by omega
  have hc1 : 100 ≤ c := by omega
  have hc2 : c ≤ 599 := by omega
  have Q1 := Lib.hid q1; have HBL := Lib.hid hbl
  clear q1 hc
  go_enter Tryd.func6, Tryd.ntmps6
  go_wp2_with fail
  with_reducible refine Q1.out.mono ?_
  rintro e wq ⟨rfl, hww⟩
  subst hww
  clear Q1
  go_wp2_with (first | (refine wl_alloc rfl _ rfl (HO.out.alloc (.cells (hv2 (⟨#[101, 116, 97, 103]⟩, ⟨#[120]⟩)).toArray 30)) _ (alloc_rep _) ?_; intro g9 w2 hO; have HO2 := Lib.hid hO; clear hO HO; generalize W.heap.size = gh at *) | (refine wl_store rfl _ _ _ rfl HO2.out 0 g9 0 _ (rv c (.slice (some ⟨gh, 0, none⟩) 1 1) body false) _ rfl (by rfl) (by rfl) rep_size (one_rv rfl) (by simp [rv]) ?_; intro w3 hO; have HO3 := Lib.hid (hO.cast (L' := [(g9, .cells (rv c (.slice (some ⟨gh, 0, none⟩) 1 1) body false).toArray 24), (gh, .cells (hv2 (⟨#[101, 116, 97, 103]⟩, ⟨#[120]⟩)).toArray 30)]) rfl); clear hO HO2) | (refine wl_load rfl _ _ rfl g9 0 (rv c (.slice (some ⟨gh, 0, none⟩) 1 1) body false) (rv c (.slice (some ⟨gh, 0, none⟩) 1 1) body false) _ (HO3.out.heap (.head _)) (by rfl) _ Tryd.underlying24 rfl rep_size (by rfl) ?_))
  have hB1 : Byt (replyP c [hE] (sb body)) := replyP_byt (fun h hh => by rw [List.mem_singleton] at hh; subst hh; exact headOk_byt hE_ok) (byt_sb _)
  have hL1 : (replyP c [hE] (sb body)).length ≤ 100000000 := by
    have h1 := replyP_len c [hE] (sb body)
    have h2 : (headsP [hE]).length = 9 := by decide
    rw [length_sb] at h1
    omega
  have hp1 := rprint_c HVV.out HO3.out c (by omega) (.slice (some ⟨gh, 0, none⟩) 1 1) [hE] ((isHeads_one gh (toB hE)).hrd (R' := [(g9, .cells (rv c (.slice (some ⟨gh, 0, none⟩) 1 1) body false).toArray 24), (gh, .cells (hv2 (⟨#[101, 116, 97, 103]⟩, ⟨#[120]⟩)).toArray 30)]) (sub_there (B := [(g9, .cells (rv c (.slice (some ⟨gh, 0, none⟩) 1 1) body false).toArray 24)]) (List.Sublist.refl _))) body false (by omega)
  have HP1 := Lib.hid hp1
  clear hp1
  with_reducible refine HP1.out.mono ?_
  rintro e w4 ⟨rfl, hO⟩
  have HO4 := Lib.hid hO; clear hO HO3 HP1
  have hp2 := rparse_c HVV.out.toMostOk HO4.out (strOfNums (replyP c [hE] (sb body))) (by rw [strOfNums_size]; exact hL1)
  rw [sb_str hB1, replyI_bare hc1 hc2 hE_ok hE_no] at hp2
  have HP2 := Lib.hid hp2
  clear hp2 hB1 hL1
  generalize strOfNums (replyP c [hE] (sb body)) = pr at *
  go_wp2_with fail
  with_reducible refine HP2.out.mono ?_
  rintro e w5 hg
  obtain ⟨A5, c5, L5, rfl, hv5, hO⟩ := hg.yes
  have HO5 := Lib.hid hO; have HV5 := Lib.hid hv5
  clear hO hv5 hg HO4 HP2
  simp only [str_sb, List.length_cons, List.length_nil]
  go_wp2_with (first | (refine wl_alloc rfl _ rfl HO5.out _ (alloc_rep _) ?_; intro g10 w6 hO; have HO6 := Lib.hid hO; clear hO HO5) | (refine wl_store rfl _ _ _ rfl HO6.out 0 g10 0 _ (rv c (.slice A5 1 c5) body false) _ rfl (by rfl) (by rfl) rep_size (one_rv rfl) (by simp [rv]) ?_; intro w7 hO; have HO7 := Lib.hid (hO.cast (L' := (g10, .cells (rv c (.slice A5 1 c5) body false).toArray 24) :: (L5 ++ [(g9, .cells (rv c (.slice (some ⟨gh, 0, none⟩) 1 1) body false).toArray 24), (gh, .cells (hv2 (⟨#[101, 116, 97, 103]⟩, ⟨#[120]⟩)).toArray 30)])) rfl); clear hO HO6; have k0 : w7.cell? ⟨g10, 0, none⟩ = some (.int .i64 c) := HO7.out.cell (.head _) 0; have k1 : w7.cell? ⟨g10, 1, none⟩ = some (.slice A5 1 c5) := HO7.out.cell (.head _) 1; have k2 : w7.cell? ⟨g10, 2, none⟩ = some (.string body) := HO7.out.cell (.head _) 2; have k3 : w7.cell? ⟨g10, 3, none⟩ = some (.bool false) := HO7.out.cell (.head _) 3; have r0 : w7.cell? ⟨g9, 0, none⟩ = some (.int .i64 c) := HO7.out.cell (.tail _ (List.mem_append_right _ (.head _))) 0; have r1 : w7.cell? ⟨g9, 1, none⟩ = some (.slice (some ⟨gh, 0, none⟩) 1 1) := HO7.out.cell (.tail _ (List.mem_append_right _ (.head _))) 1))
  have hr5 : HRd W (L5 ++ [(g9, .cells (rv c (.slice (some ⟨gh, 0, none⟩) 1 1) body false).toArray 24), (gh, .cells (hv2 (⟨#[101, 116, 97, 103]⟩, ⟨#[120]⟩)).toArray 30)]) (.slice A5 1 c5) [toB hE] := HV5.out.hrd sub_here
  have hr9 : HRd W [(gh, .cells (hv2 (⟨#[101, 116, 97, 103]⟩, ⟨#[120]⟩)).toArray 30)] (.slice (some ⟨gh, 0, none⟩) 1 1) [toB hE] := (isHeads_one gh (toB hE)).hrd (List.Sublist.refl _)
  have hsame := sameH_c (w := w7) (.slice A5 1 c5) (.slice (some ⟨gh, 0, none⟩) 1 1) [toB hE] [toB hE] (hr5 w7 [(g10, .cells (rv c (.slice A5 1 c5) body false).toArray 24)] HO7.out) (hr9 w7 ((g10, .cells (rv c (.slice A5 1 c5) body false).toArray 24) :: (L5 ++ [(g9, .cells (rv c (.slice (some ⟨gh, 0, none⟩) 1 1) body false).toArray 24)])) (HO7.out.cast (by simp))) (by decide)
  clear hr5 hr9
  rw [decide_eq_true rfl] at hsame
  with_reducible refine hsame.mono ?_
  clear hsame
  rintro e w8 ⟨rfl, qq, hww⟩
  have HO8 := Lib.hid (HO7.out.drewN qq); rw [← hww] at HO8; clear hww HO7 k0 k1 k2 k3 r0 r1
  have hqn : (b % ((bl : Int) + 9)).toNat ≤ bl + 8 := by
    have h1 := Int.emod_lt_of_pos b (show (0 : Int) < (bl : Int) + 9 by omega)
    omega
  have hcall := within_n (w := w8) b ((bl : Int) + 9) (by omega) (by omega)
  generalize (b % ((bl : Int) + 9)).toNat = m at *
  go_wp2_with fail
  with_reducible refine hcall.mono ?_
  clear hcall
  rintro e wq ⟨rfl, hww⟩
  subst hww
  go_wp2
  go_loopw [12, 13] (fun u t w' => ∃ (dl : List Int) (k : Nat), k ≤ m ∧ dl.length ≤ 1100000 - k ∧ u = .string (strOfNums dl) ∧ t = .int .i64 k ∧ Hid (Byt dl) ∧ Hid (DigTo m k dl) ∧ Hid (Own W w' ((g10, .cells (rv c (.slice A5 1 c5) body false).toArray 24) :: (L5 ++ [(g9, .cells (rv c (.slice (some ⟨gh, 0, none⟩) 1 1) body false).toArray 24), (gh, .cells (hv2 (⟨#[101, 116, 97, 103]⟩, ⟨#[120]⟩)).toArray 30)])))) (fun u t _ => if strSize u = 0 then 2000000 else (intOf t).toNat)
  case atStart => exact ⟨[], m, Nat.le_refl _, by simp, rfl, rfl, Lib.hid (fun x hx => by cases hx), Lib.hid (.inl ⟨rfl, rfl⟩), HO8⟩
  case round =>
    obtain ⟨dl, k, hk, hdl, rfl, rfl, HDB, HD, HO9⟩ := hrel
    clear HO8
    have hem := str_lit dl HDB.out [] [] rfl
    have hds : (strOfNums dl).size = dl.length := strOfNums_size _
    have hmod : 0 ≤ ((k : Int) % 10) ∧ ((k : Int) % 10) ≤ 9 := by omega
    have hq1 : IntKind.i64.wrap (48 + ((k : Int) % 10)) = 48 + ((k : Int) % 10) := IntWalk.i64_in _ (by omega)
    have hq2 : IntKind.u8.wrap (48 + ((k : Int) % 10)) = 48 + ((k : Int) % 10) := wraps_u8 _ (by omega) (by omega)
    have hcv2 : (convert 49 9 (.slice (some ⟨wr.heap.size, 0, none⟩) 1 1)).run Tryd.prog (wr.alloc (.cells #[.int .u8 (48 + ((k : Int) % 10))] 5)) = .ok (.string (strOfNums [48 + ((k : Int) % 10)])) (wr.alloc (.cells #[.int .u8 (48 + ((k : Int) % 10))] 5)) := convert_str (bs_one HO9.out _)
    have n1 : ¬ (9223372036854775807 < 1 + dl.length) := by omega
    have n2 : (strOfNums [48 + (k : Int) % 10]).size = 1 := strOfNums_size _
    have HO3 := Lib.hid (HO9.out.alloc (.cells #[.int .u8 (48 + (k : Int) % 10)] 5)).tail
    by_cases hd0 : dl = []
    · rw [decide_eq_true hd0] at hem
      have HNX := Lib.hid (HD.out.next (by omega) (.inl hd0))
      have HE0 := Lib.hid hd0
      clear hd0
      go_wp2
      go_roundw
      case rel => exact ⟨[48 + (k : Int) % 10] ++ dl, k / 10, by omega, by rw [List.length_append, List.length_singleton]; have := HE0.out; subst this; simp; omega, by rw [strs_app], by go_num, Lib.hid (byt_append (fun x hx => by rw [List.mem_singleton] at hx; subst hx; omega) HDB.out), HNX, HO3⟩
      case measure => simp only [strSize, ByteArray.size_append, strOfNums_size, intOf, List.length_singleton]; rw [HE0.out]; simp; omega
    · rw [decide_eq_false hd0] at hem
      by_cases hk0 : 0 < k
      · have hk0' : (0 : Int) < k := by omega
        have HNX := Lib.hid (HD.out.next (by omega) (.inr hk0))
        have HE0 : Hid (0 < dl.length) := Lib.hid (List.length_pos_iff.2 hd0)
        clear hd0
        go_wp2
        go_roundw
        case rel => exact ⟨[48 + (k : Int) % 10] ++ dl, k / 10, by omega, by rw [List.length_append, List.length_singleton]; have := HE0.out; omega, by rw [strs_app], by go_num, Lib.hid (byt_append (fun x hx => by rw [List.mem_singleton] at hx; subst hx; omega) HDB.out), HNX, HO3⟩
        case measure => simp only [strSize, ByteArray.size_append, strOfNums_size, intOf, List.length_singleton]; have := HE0.out; rw [if_neg (by omega), if_neg (by omega)]; omega
      · have hk0' : ¬ (0 : Int) < k := by omega
        obtain rfl := HD.out.done hd0 hk0
        clear hcv2 hmod hq1 hq2 n1 n2 HO3 hk0 hdl hd0
        by_cases h6 : 6 < (digs m).length
        · have h6' : (6 : Int) < (digs m).length := by omega
          clear h6
          go_wp2_with fail
          with_reducible refine (wakes9_c HVV.out.toMostOk HO9.out).mono ?_
          rintro e w9 ⟨rfl, hO⟩
          have HO10 := Lib.hid hO; clear hO HO9
          go_wp2
          go_ret
          exact HO10.out.yes rfl
        · have h6' : ¬ (6 : Int) < (digs m).length := by omega
          have hm6 : m < 1000000 := digs_lt (by omega) (Nat.le_of_not_lt h6)
          clear h6
          -- THE END
          have HOA : Hid (Own W wr [(gh, Obj.cells (hv2 (⟨#[101, 116, 97, 103]⟩, ⟨#[120]⟩)).toArray 30), (g9, Obj.cells (rv c (.slice (some ⟨gh, 0, none⟩) 1 1) body false).toArray 24), (g10, Obj.cells (rv c (.slice A5 1 c5) body false).toArray 24)]) := Lib.hid ((HO9.out.sub (List.Sublist.cons_cons _ (List.sublist_append_right L5 [(g9, Obj.cells (rv c (.slice (some ⟨gh, 0, none⟩) 1 1) body false).toArray 24), (gh, Obj.cells (hv2 (⟨#[101, 116, 97, 103]⟩, ⟨#[120]⟩)).toArray 30)]))).perm (List.reverse_perm [(g10, Obj.cells (rv c (.slice A5 1 c5) body false).toArray 24), (g9, Obj.cells (rv c (.slice (some ⟨gh, 0, none⟩) 1 1) body false).toArray 24), (gh, Obj.cells (hv2 (⟨#[101, 116, 97, 103]⟩, ⟨#[120]⟩)).toArray 30)]).symm)
          clear HO9
          obtain ⟨cl, hcl, hclN, hclE, hclL⟩ := cl_at (d % 3).toNat (by omega)
          have hj3 : ((d % 3).toNat : Int) < 3 := by omega
          have hj30 : (0 : Int) ≤ ((d % 3).toNat : Int) := by omega
          have HCL := Lib.hid hcl; have HCLN := Lib.hid hclN; have HCLE := Lib.hid hclE; have HCLL := Lib.hid hclL
          have HCLB : Hid (Byt cl) := Lib.hid (fun x hx => by have := hclN.1 x hx; unfold NB at this; omega)
          have q3 : ∀ w : World, _ := fun w => within_n (w := w) d 3 (by omega) (by omega)
          generalize (d % 3).toNat = jc at *
          have Q3 := Lib.hid q3
          clear q3 hcl hclN hclE hclL
          go_wp2_with fail
          refine wp_region_tree (fun w' => w'.cell? ⟨g9, 1, none⟩ = some (.slice (some ⟨gh, 0, none⟩) 1 1)) 11 (.q 0 (.q 1 (.q 3 (.q 7 (.two 2 (.one 4 (.q 5 (.one 6 (.q 8 (.one 9 (.one 10 .done)))))) 4 (.one 2 (.q 5 (.one 6 (.q 8 (.one 9 (.one 10 .done))))))))))) (by kernel_rfl) (by decide +kernel) (fun _ _ d _ _ h => by cases d <;> exact h) (HOA.out.drew.cell (.tail _ (.head _)) 1) ?_
          have HOB := Lib.hid HOA.out.drew; clear HOA
          generalize wr.drew = w3 at HOB
          iterate 4 (refine tr_q ?_ rfl ?_ ?_; rotate_left 1; (focus (rintro w' hx; simp only [pick_zero, pick_succ]; go_simp; first | done | with_reducible rfl | (trace_state; fail))); simp only [pick_zero, pick_succ]; simp only [Act.put, List.setIfInBounds_toArray, List.set_cons_zero, List.set_cons_succ])
          refine tr_two ?_ ?_
          · simp only [pick_zero, pick_succ]
            refine wl_buildSlice rfl _ 3 [(0, _), (1, _), (2, _)] rfl HOB.out _ (build_cl _) ?_
            intro gc w10 hO
            have HOC := Lib.hid hO; clear hO HOB
            refine LinPost.mk (HOC.out.cell (.tail _ (.tail _ (.head _))) 1) ?_
            simp only [Act.put, List.setIfInBounds_toArray, List.set_cons_zero, List.set_cons_succ]
            refine tr_one ?_
            simp only [pick_zero, pick_succ]
            refine wl_call rfl _ _ _ (by go_simp) (Q3.out w10) ?_
            rintro e w' ⟨rfl, hww⟩
            subst hww
            refine ⟨_, rfl, LinPost.mk (HOC.out.cell (.tail _ (.tail _ (.head _))) 1) ?_⟩
            simp only [Act.put, List.setIfInBounds_toArray, List.set_cons_zero, List.set_cons_succ]
            iterate 1 (refine tr_q ?_ rfl ?_ ?_; rotate_left 1; (focus (rintro w' hx; simp only [pick_zero, pick_succ]; go_simp; first | done | with_reducible rfl | (trace_state; fail))); simp only [pick_zero, pick_succ]; simp only [Act.put, List.setIfInBounds_toArray, List.set_cons_zero, List.set_cons_succ])
            refine tr_one ?_
            simp only [pick_zero, pick_succ]
            have hcc : w10.cell? ⟨gc, jc, none⟩ = some (.string (strOfNums cl)) := (HOC.out.cell (.head _) jc).trans (by simp [HCL.out])
            refine wl_val rfl (.string (strOfNums cl)) (by go_simp) ?_
            clear hcc
            refine LinPost.mk (HOC.out.cell (.tail _ (.tail _ (.head _))) 1) ?_
            simp only [Act.put, List.setIfInBounds_toArray, List.set_cons_zero, List.set_cons_succ]
            iterate 1 (refine tr_q ?_ rfl ?_ ?_; rotate_left 1; (focus (rintro w' hx; simp only [pick_zero, pick_succ]; go_simp; first | done | with_reducible rfl | (trace_state; fail))); simp only [pick_zero, pick_succ]; simp only [Act.put, List.setIfInBounds_toArray, List.set_cons_zero, List.set_cons_succ])
            refine tr_one ?_
            simp only [pick_zero, pick_succ]
            refine wl_buildSlice rfl _ 1 [(0, _)] rfl HOC.out _ (build_heads1 _ (strOfNums cl) (strOfNums (digs m))) ?_
            intro gn w11 hO
            have HOD : Hid (Own W w11 ([(gh, Obj.cells (hv2 (⟨#[101, 116, 97, 103]⟩, ⟨#[120]⟩)).toArray 30)] ++ ((gn, Obj.cells (hv2 (strOfNums cl, strOfNums (digs m))).toArray 30) :: (gc, Obj.cells (clS.map Value.string).toArray 9) :: [(g9, Obj.cells (rv c (.slice (some ⟨gh, 0, none⟩) 1 1) body false).toArray 24), (g10, Obj.cells (rv c (.slice A5 1 c5) body false).toArray 24)]))) := Lib.hid (hO.perm ((List.perm_middle (l₁ := [(gn, Obj.cells (hv2 (strOfNums cl, strOfNums (digs m))).toArray 30), (gc, Obj.cells (clS.map Value.string).toArray 9)]) (a := (gh, Obj.cells (hv2 (⟨#[101, 116, 97, 103]⟩, ⟨#[120]⟩)).toArray 30)) (l₂ := [(g9, Obj.cells (rv c (.slice (some ⟨gh, 0, none⟩) 1 1) body false).toArray 24), (g10, Obj.cells (rv c (.slice A5 1 c5) body false).toArray 24)]))))
            clear hO HOC
            refine LinPost.mk (HOD.out.cell (.tail _ (.tail _ (.tail _ (.head _)))) 1) ?_
            simp only [Act.put, List.setIfInBounds_toArray, List.set_cons_zero, List.set_cons_succ]
            refine tr_one ?_
            simp only [pick_zero, pick_succ]
            refine wl_appendH1 rfl _ _ rfl (.slice (some ⟨gh, 0, none⟩) 1 1) [toB hE] (by rfl) (isHeads_one gh (toB hE)) HOD.out gn 1 (toB (cl, digs m)) (by rfl) (.head _) (by decide) ?_
            intro v2 w12 L2 hv2 hO
            have HO12 : Hid (Own W w12 (L2 ++ [(g9, Obj.cells (rv c (.slice (some ⟨gh, 0, none⟩) 1 1) body false).toArray 24), (g10, Obj.cells (rv c (.slice A5 1 c5) body false).toArray 24)])) := Lib.hid hO.strike.strike
            obtain ⟨A2, c2, hve⟩ := IsRow.val hv2
            rw [List.length_append, List.length_singleton, List.length_singleton] at hve
            subst hve
            have HV2 : Hid (IsHeads (.slice A2 2 c2) ([hE, (cl, digs m)].map toB) L2) := Lib.hid hv2
            clear hO hv2 HOD
            refine LinPost.mk (HO12.out.cell (List.mem_append_right _ (.head _)) 1) ?_
            simp only [Act.put, List.setIfInBounds_toArray, List.set_cons_zero, List.set_cons_succ]
            refine tr_done ?_
            simp only [List.drop_succ_cons, List.drop_zero]
            have HO13 : Hid (Own W w12 ((g9, Obj.cells (rv c (.slice (some ⟨gh, 0, none⟩) 1 1) body false).toArray 24) :: (g10, Obj.cells (rv c (.slice A5 1 c5) body false).toArray 24) :: L2)) := Lib.hid (HO12.out.perm List.perm_append_comm)
            clear HO12
            go_wp2_with (first | (refine wl_store1 rfl _ _ _ rfl HO13.out 0 g9 1 _ (.slice A2 2 c2) _ rfl (by rfl) (by rfl) (by rfl) (by kernel_rfl) (by rfl) (by simp [rv]) ?_; intro w13 hO; have HO14 := Lib.hid (hO.cast (L' := (g9, Obj.cells (rv c (.slice A2 2 c2) body false).toArray 24) :: (g10, Obj.cells (rv c (.slice A5 1 c5) body false).toArray 24) :: L2) rfl); clear hO HO13) | (refine wl_load rfl _ _ rfl g9 0 (rv c (.slice A2 2 c2) body false) (rv c (.slice A2 2 c2) body false) _ (HO14.out.heap (.head _)) (by rfl) _ Tryd.underlying24 rfl rep_size (by rfl) ?_))
            have hB2 : Byt (replyP c [hE, (cl, digs m)] (sb body)) := replyP_byt (fun h hh => by simp only [List.mem_cons, List.not_mem_nil, or_false] at hh; rcases hh with rfl | rfl; exact headOk_byt hE_ok; exact ⟨HCLB.out, digs_byt m⟩) (byt_sb _)
            have hL2 : (replyP c [hE, (cl, digs m)] (sb body)).length ≤ 100000000 := by
              have h1 := replyP_len c [hE, (cl, digs m)] (sb body)
              have h2 : (headsP [hE, (cl, digs m)]).length = 27 + (digs m).length := by simp [headsP, headP, etagI, HCLL.out]; omega
              have h3 := digs_len m
              rw [length_sb] at h1
              omega
            have hr2 : HRd W ((g9, Obj.cells (rv c (.slice A2 2 c2) body false).toArray 24) :: (g10, Obj.cells (rv c (.slice A5 1 c5) body false).toArray 24) :: L2) (.slice A2 2 c2) ([hE, (cl, digs m)].map toB) := HV2.out.hrd (List.sublist_append_right [(g9, Obj.cells (rv c (.slice A2 2 c2) body false).toArray 24), (g10, Obj.cells (rv c (.slice A5 1 c5) body false).toArray 24)] L2)
            have hp3 := rprint_c HVV.out HO14.out c (by omega) _ [hE, (cl, digs m)] hr2 body false (by omega)
            have HP3 := Lib.hid hp3
            have HR2 := Lib.hid hr2
            clear hp3 hr2
            with_reducible refine HP3.out.mono ?_
            rintro e w14 ⟨rfl, hO⟩
            have HO15 := Lib.hid hO; clear hO HO14 HP3
            have hp4 := rparse_c HVV.out.toMostOk HO15.out (strOfNums (replyP c [hE, (cl, digs m)] (sb body))) (by rw [strOfNums_size]; exact hL2)
            rw [sb_str hB2, replyI_told hc1 hc2 hE_ok hE_no HCLN.out HCLE.out hm6, length_sb, HBL.out] at hp4
            have HP4 := Lib.hid hp4
            clear hp4 hB2 hL2
            generalize strOfNums (replyP c [hE, (cl, digs m)] (sb body)) = pr2 at *
            go_wp2_with fail
            with_reducible refine HP4.out.mono ?_
            rintro e w15 hg
            obtain ⟨A6, c6, L6, rfl, _, hO⟩ := hg.yes
            have HO16 : Hid (Own W w15 ((g10, Obj.cells (rv c (.slice A5 1 c5) body false).toArray 24) :: (g9, Obj.cells (rv c (.slice A2 2 c2) body false).toArray 24) :: L2)) := Lib.hid (hO.right.perm (List.Perm.swap _ _ _))
            clear hO hg HO15 HP4
            simp only [List.length_cons, List.length_nil]
            obtain ⟨bc, hbc⟩ : ∃ bc, decide (bl < m) = bc := ⟨_, rfl⟩
            have hbc2 : decide ((bl : Int) < m) = bc := by rw [← hbc, decide_eq_decide]; omega
            rw [hbc]
            obtain ⟨bd, hbd⟩ : ∃ bd, strOfNums ((sb body).take m) = bd := ⟨_, rfl⟩
            rw [hbd]
            obtain ⟨mn, hmn2, hmn, hmb, hex⟩ : ∃ mn : Nat, min (m : Int) (bl : Int) = mn ∧ (if bl < m then (bl : Int) else (m : Int)) = mn ∧ mn ≤ bl ∧ body.extract 0 mn = bd := by
              by_cases hle : m ≤ bl
              · exact ⟨m, by omega, if_neg (by omega), hle, by rw [ext_str, win_from, hbd]⟩
              · exact ⟨bl, by omega, if_pos (by omega), Nat.le_refl _, by rw [ext_str, win_from, ← hbd, List.take_of_length_le (by rw [length_sb, HBL.out]; exact Nat.le_refl _), List.take_of_length_le (by rw [length_sb, HBL.out]; omega)]⟩
            have hmbI : (mn : Int) ≤ bl := by omega
            clear hbd hmb
            have hbn : (bc != bc) = false := by cases bc <;> rfl
            go_wp2_with (refine wl_store rfl _ _ _ rfl HO16.out 0 g10 0 _ (rv c (.slice A6 2 c6) bd bc) _ rfl (by rfl) (by rfl) rep_size (one_rv rfl) (by simp [rv]) ?_; intro w16 hO; have HO17 := Lib.hid (hO.cast (L' := (g10, Obj.cells (rv c (.slice A6 2 c6) bd bc).toArray 24) :: (g9, Obj.cells (rv c (.slice A2 2 c2) body false).toArray 24) :: L2) rfl); clear hO HO16; have k2 : w16.cell? ⟨g10, 2, none⟩ = some (.string bd) := HO17.out.cell (.head _) 2; have k3 : w16.cell? ⟨g10, 3, none⟩ = some (.bool bc) := HO17.out.cell (.head _) 3)
            refine wp_region_lin (fun w' => w'.cell? ⟨g10, 2, none⟩ = some (.string bd) ∧ w'.cell? ⟨g10, 3, none⟩ = some (.bool bc)) 22 [(0, true), (1, true), (2, true), (3, true), (4, true), (5, true), (6, true), (7, true), (8, true), (9, true), (10, true), (11, true), (12, true), (13, true), (14, true), (15, true), (16, true), (17, true), (18, true), (19, true), (20, true), (21, true)] (by kernel_rfl) (by kernel_rfl) (fun _ _ d _ _ h => by cases d <;> exact h) ⟨HO17.out.drew.cell (.head _) 2, HO17.out.drew.cell (.head _) 3⟩ ?_
            clear k2 k3
            simp only [List.map_cons, List.map_nil, pick_zero, pick_succ, List.drop_succ_cons, List.drop_zero]
            iterate 22 ((first | (refine lin_q ?_ rfl ?_ ?_; rotate_left 1; (focus (rintro w' ⟨k2, k3⟩; go_simp; first | done | with_reducible rfl))) | (refine lin_g ?_ (by rfl) ?_ ?_; rotate_left 1; (focus (rintro w' ⟨k2, k3⟩; go_simp; first | done | with_reducible rfl)))); simp only [Act.put, List.setIfInBounds_toArray, List.set_cons_zero, List.set_cons_succ])
            refine lin_nil ?_
            clear hmn hmn2 hmbI hex hbc2 hbn hbc
            have HO18 : Hid (Own W w16.drew ((g9, Obj.cells (rv c (.slice A2 2 c2) body false).toArray 24) :: L2)) := Lib.hid HO17.out.drew.tail
            clear HO17
            generalize w16.drew = w17 at *
            go_wp2_with fail
            have hr3 : HRd W ((g9, Obj.cells (rv c (.slice A2 2 c2) body false).toArray 24) :: L2) (.slice A2 2 c2) ([hE, (cl, digs m)].map toB) := HV2.out.hrd (List.sublist_cons_self _ _)
            obtain ⟨A7, n7, c7, e7, _, _, hA7⟩ := hr3 w17.drew [] HO18.out.drew
            cases e7
            obtain ⟨g2, rfl, _⟩ := hA7 (by omega)
            have HR3 := Lib.hid hr3
            clear hr3 hA7
            refine wp_region_lin (fun w' => w'.cell? ⟨g9, 1, none⟩ = some (.slice (some ⟨g2, 0, none⟩) 2 c2) ∧ w'.cell? ⟨g2, 2, none⟩ = some (.string (strOfNums cl)) ∧ w'.cell? ⟨g2, 3, none⟩ = some (.string (strOfNums (digs m)))) 7 [(0, true), (1, true), (2, true), (3, true), (4, true), (5, true), (6, false)] (by kernel_rfl) (by kernel_rfl) (fun _ _ d _ _ h => by cases d <;> exact h) ⟨HO18.out.drew.cell (.head _) 1, (HR3.out.at_ (L' := []) HO18.out.drew (j := 1) rfl) 0 _ rfl, (HR3.out.at_ (L' := []) HO18.out.drew (j := 1) rfl) 1 _ rfl⟩ ?_
            simp only [List.map_cons, List.map_nil, pick_zero, pick_succ, List.drop_succ_cons, List.drop_zero]
            iterate 6 (refine lin_q ?_ rfl ?_ ?_; rotate_left 1; (focus (rintro w' ⟨k1, k2, k3⟩; go_simp; first | done | with_reducible rfl | (trace_state; fail))); simp only [Act.put, List.setIfInBounds_toArray, List.set_cons_zero, List.set_cons_succ])
            refine lin_act ?_
            refine wl_buildSlice rfl _ 1 [(0, _)] rfl HO18.out.drew _ (build_heads1 _ (strOfNums cl) (strOfNums (digs m))) ?_
            intro gn2 w18 hO
            have HO19 := Lib.hid hO; clear hO HO18
            refine LinPost.mk ⟨HO19.out.cell (.tail _ (.head _)) 1, (HR3.out.at_ (L' := [(gn2, Obj.cells (hv2 (strOfNums cl, strOfNums (digs m))).toArray 30)]) HO19.out (j := 1) rfl) 0 _ rfl, (HR3.out.at_ (L' := [(gn2, Obj.cells (hv2 (strOfNums cl, strOfNums (digs m))).toArray 30)]) HO19.out (j := 1) rfl) 1 _ rfl⟩ ?_
            simp only [Act.put, List.setIfInBounds_toArray, List.set_cons_zero, List.set_cons_succ]
            refine lin_nil ?_
            have HO20 : Hid (Own W w18 (L2 ++ [(gn2, Obj.cells (hv2 (strOfNums cl, strOfNums (digs m))).toArray 30), (g9, Obj.cells (rv c (.slice (some ⟨g2, 0, none⟩) 2 c2) body false).toArray 24)])) := Lib.hid (HO19.out.perm (List.perm_append_comm (l₁ := [(gn2, Obj.cells (hv2 (strOfNums cl, strOfNums (digs m))).toArray 30), (g9, Obj.cells (rv c (.slice (some ⟨g2, 0, none⟩) 2 c2) body false).toArray 24)]) (l₂ := L2)))
            clear HO19
            go_wp2_with (first | (refine wl_appendH1 rfl _ _ rfl (.slice (some ⟨g2, 0, none⟩) 2 c2) ([hE, (cl, digs m)].map toB) (by rfl) HV2.out HO20.out gn2 1 (toB (cl, digs m)) (by rfl) (.head _) (by simp) ?_; intro v3 w19 L3 hv3 hO; have HO21 : Hid (Own W w19 ((g9, Obj.cells (rv c (.slice (some ⟨g2, 0, none⟩) 2 c2) body false).toArray 24) :: L3)) := Lib.hid (hO.strike.perm List.perm_append_comm); have HV3 : Hid (IsHeads v3 ([hE, (cl, digs m), (cl, digs m)].map toB) L3) := Lib.hid hv3; obtain ⟨A8, c8, hve⟩ := IsRow.val hv3; rw [show (List.map toB [hE, (cl, digs m)] ++ [toB (cl, digs m)]).length = 3 from rfl] at hve; subst hve; clear hO hv3 HO20) | (refine wl_store1 rfl _ _ _ rfl HO21.out 0 g9 1 _ (.slice A8 3 c8) _ rfl (by rfl) (by rfl) (by rfl) (by kernel_rfl) (by rfl) (by simp [rv]) ?_; intro w20 hO; have HO22 := Lib.hid (hO.cast (L' := (g9, Obj.cells (rv c (.slice A8 3 c8) body false).toArray 24) :: L3) rfl); clear hO HO21) | (refine wl_load rfl _ _ rfl g9 0 (rv c (.slice A8 3 c8) body false) (rv c (.slice A8 3 c8) body false) _ (HO22.out.heap (.head _)) (by rfl) _ Tryd.underlying24 rfl rep_size (by rfl) ?_))
            have hB3 : Byt (replyP c [hE, (cl, digs m), (cl, digs m)] (sb body)) := replyP_byt (fun h hh => by simp only [List.mem_cons, List.not_mem_nil, or_false] at hh; rcases hh with rfl | rfl | rfl; exact headOk_byt hE_ok; exact ⟨HCLB.out, digs_byt m⟩; exact ⟨HCLB.out, digs_byt m⟩) (byt_sb _)
            have hL3 : (replyP c [hE, (cl, digs m), (cl, digs m)] (sb body)).length ≤ 100000000 := by
              have h1 := replyP_len c [hE, (cl, digs m), (cl, digs m)] (sb body)
              have h2 : (headsP [hE, (cl, digs m), (cl, digs m)]).length = 45 + (digs m).length + (digs m).length := by simp [headsP, headP, etagI, HCLL.out]; omega
              have h3 := digs_len m
              rw [length_sb] at h1
              omega
            have hr4 : HRd W ((g9, Obj.cells (rv c (.slice A8 3 c8) body false).toArray 24) :: L3) (.slice A8 3 c8) ([hE, (cl, digs m), (cl, digs m)].map toB) := HV3.out.hrd (List.sublist_cons_self _ _)
            have HP5 := Lib.hid (rprint_c HVV.out HO22.out c (by omega) _ [hE, (cl, digs m), (cl, digs m)] hr4 body false (by omega))
            clear hr4
            with_reducible refine HP5.out.mono ?_
            rintro e w21 ⟨rfl, hO⟩
            have HO23 := Lib.hid hO; clear hO HO22 HP5
            have hp6 := rparse_c HVV.out.toMostOk HO23.out (strOfNums (replyP c [hE, (cl, digs m), (cl, digs m)] (sb body))) (by rw [strOfNums_size]; exact hL3)
            rw [sb_str hB3, replyI_twice hc1 hc2 hE_ok hE_no HCLN.out HCLE.out hm6] at hp6
            have HP6 := Lib.hid hp6
            clear hp6 hB3 hL3
            generalize strOfNums (replyP c [hE, (cl, digs m), (cl, digs m)] (sb body)) = pr3 at *
            go_wp2_with fail
            with_reducible refine HP6.out.mono ?_
            rintro e w22 hg
            obtain ⟨A9, c9, rfl, hO⟩ := hg.no
            have HO24 := Lib.hid hO; clear hO hg HO23 HP6
            go_wp2_with fail
            with_reducible refine (wakes9_c HVV.out.toMostOk HO24.out).mono ?_
            rintro e w23 ⟨rfl, hO⟩
            have HO25 := Lib.hid hO; clear hO HO24
            go_wp2
            go_ret
            exact HO25.out.yes rfl
          · simp only [pick_zero, pick_succ]
            refine wl_call rfl _ _ _ (by go_simp) (Q3.out w3) ?_
            rintro e w' ⟨rfl, hww⟩
            subst hww
            refine ⟨_, rfl, LinPost.mk (HOB.out.cell (.tail _ (.head _)) 1) ?_⟩
            simp only [Act.put, List.setIfInBounds_toArray, List.set_cons_zero, List.set_cons_succ]
            refine tr_one ?_
            simp only [pick_zero, pick_succ]
            refine wl_buildSlice rfl _ 3 [(0, _), (1, _), (2, _)] rfl HOB.out _ (build_cl _) ?_
            intro gc w10 hO
            have HOC := Lib.hid hO; clear hO HOB
            refine LinPost.mk (HOC.out.cell (.tail _ (.tail _ (.head _))) 1) ?_
            simp only [Act.put, List.setIfInBounds_toArray, List.set_cons_zero, List.set_cons_succ]
            iterate 1 (refine tr_q ?_ rfl ?_ ?_; rotate_left 1; (focus (rintro w' hx; simp only [pick_zero, pick_succ]; go_simp; first | done | with_reducible rfl | (trace_state; fail))); simp only [pick_zero, pick_succ]; simp only [Act.put, List.setIfInBounds_toArray, List.set_cons_zero, List.set_cons_succ])
            refine tr_one ?_
            simp only [pick_zero, pick_succ]
            have hcc : w10.cell? ⟨gc, jc, none⟩ = some (.string (strOfNums cl)) := (HOC.out.cell (.head _) jc).trans (by simp [HCL.out])
            refine wl_val rfl (.string (strOfNums cl)) (by go_simp) ?_
            clear hcc
            refine LinPost.mk (HOC.out.cell (.tail _ (.tail _ (.head _))) 1) ?_
            simp only [Act.put, List.setIfInBounds_toArray, List.set_cons_zero, List.set_cons_succ]
            iterate 1 (refine tr_q ?_ rfl ?_ ?_; rotate_left 1; (focus (rintro w' hx; simp only [pick_zero, pick_succ]; go_simp; first | done | with_reducible rfl | (trace_state; fail))); simp only [pick_zero, pick_succ]; simp only [Act.put, List.setIfInBounds_toArray, List.set_cons_zero, List.set_cons_succ])
            refine tr_one ?_
            simp only [pick_zero, pick_succ]
            refine wl_buildSlice rfl _ 1 [(0, _)] rfl HOC.out _ (build_heads1 _ (strOfNums cl) (strOfNums (digs m))) ?_
            intro gn w11 hO
            have HOD : Hid (Own W w11 ([(gh, Obj.cells (hv2 (⟨#[101, 116, 97, 103]⟩, ⟨#[120]⟩)).toArray 30)] ++ ((gn, Obj.cells (hv2 (strOfNums cl, strOfNums (digs m))).toArray 30) :: (gc, Obj.cells (clS.map Value.string).toArray 9) :: [(g9, Obj.cells (rv c (.slice (some ⟨gh, 0, none⟩) 1 1) body false).toArray 24), (g10, Obj.cells (rv c (.slice A5 1 c5) body false).toArray 24)]))) := Lib.hid (hO.perm ((List.perm_middle (l₁ := [(gn, Obj.cells (hv2 (strOfNums cl, strOfNums (digs m))).toArray 30), (gc, Obj.cells (clS.map Value.string).toArray 9)]) (a := (gh, Obj.cells (hv2 (⟨#[101, 116, 97, 103]⟩, ⟨#[120]⟩)).toArray 30)) (l₂ := [(g9, Obj.cells (rv c (.slice (some ⟨gh, 0, none⟩) 1 1) body false).toArray 24), (g10, Obj.cells (rv c (.slice A5 1 c5) body false).toArray 24)]))))
            clear hO HOC
            refine LinPost.mk (HOD.out.cell (.tail _ (.tail _ (.tail _ (.head _)))) 1) ?_
            simp only [Act.put, List.setIfInBounds_toArray, List.set_cons_zero, List.set_cons_succ]
            refine tr_one ?_
            simp only [pick_zero, pick_succ]
            refine wl_appendH1 rfl _ _ rfl (.slice (some ⟨gh, 0, none⟩) 1 1) [toB hE] (by rfl) (isHeads_one gh (toB hE)) HOD.out gn 1 (toB (cl, digs m)) (by rfl) (.head _) (by decide) ?_
            intro v2 w12 L2 hv2 hO
            have HO12 : Hid (Own W w12 (L2 ++ [(g9, Obj.cells (rv c (.slice (some ⟨gh, 0, none⟩) 1 1) body false).toArray 24), (g10, Obj.cells (rv c (.slice A5 1 c5) body false).toArray 24)])) := Lib.hid hO.strike.strike
            obtain ⟨A2, c2, hve⟩ := IsRow.val hv2
            rw [List.length_append, List.length_singleton, List.length_singleton] at hve
            subst hve
            have HV2 : Hid (IsHeads (.slice A2 2 c2) ([hE, (cl, digs m)].map toB) L2) := Lib.hid hv2
            clear hO hv2 HOD
            refine LinPost.mk (HO12.out.cell (List.mem_append_right _ (.head _)) 1) ?_
            simp only [Act.put, List.setIfInBounds_toArray, List.set_cons_zero, List.set_cons_succ]
            refine tr_done ?_
            simp only [List.drop_succ_cons, List.drop_zero]
            have HO13 : Hid (Own W w12 ((g9, Obj.cells (rv c (.slice (some ⟨gh, 0, none⟩) 1 1) body false).toArray 24) :: (g10, Obj.cells (rv c (.slice A5 1 c5) body false).toArray 24) :: L2)) := Lib.hid (HO12.out.perm List.perm_append_comm)
            clear HO12
            go_wp2_with (first | (refine wl_store1 rfl _ _ _ rfl HO13.out 0 g9 1 _ (.slice A2 2 c2) _ rfl (by rfl) (by rfl) (by rfl) (by kernel_rfl) (by rfl) (by simp [rv]) ?_; intro w13 hO; have HO14 := Lib.hid (hO.cast (L' := (g9, Obj.cells (rv c (.slice A2 2 c2) body false).toArray 24) :: (g10, Obj.cells (rv c (.slice A5 1 c5) body false).toArray 24) :: L2) rfl); clear hO HO13) | (refine wl_load rfl _ _ rfl g9 0 (rv c (.slice A2 2 c2) body false) (rv c (.slice A2 2 c2) body false) _ (HO14.out.heap (.head _)) (by rfl) _ Tryd.underlying24 rfl rep_size (by rfl) ?_))
            have hB2 : Byt (replyP c [hE, (cl, digs m)] (sb body)) := replyP_byt (fun h hh => by simp only [List.mem_cons, List.not_mem_nil, or_false] at hh; rcases hh with rfl | rfl; exact headOk_byt hE_ok; exact ⟨HCLB.out, digs_byt m⟩) (byt_sb _)
            have hL2 : (replyP c [hE, (cl, digs m)] (sb body)).length ≤ 100000000 := by
              have h1 := replyP_len c [hE, (cl, digs m)] (sb body)
              have h2 : (headsP [hE, (cl, digs m)]).length = 27 + (digs m).length := by simp [headsP, headP, etagI, HCLL.out]; omega
              have h3 := digs_len m
              rw [length_sb] at h1
              omega
            have hr2 : HRd W ((g9, Obj.cells (rv c (.slice A2 2 c2) body false).toArray 24) :: (g10, Obj.cells (rv c (.slice A5 1 c5) body false).toArray 24) :: L2) (.slice A2 2 c2) ([hE, (cl, digs m)].map toB) := HV2.out.hrd (List.sublist_append_right [(g9, Obj.cells (rv c (.slice A2 2 c2) body false).toArray 24), (g10, Obj.cells (rv c (.slice A5 1 c5) body false).toArray 24)] L2)
            have hp3 := rprint_c HVV.out HO14.out c (by omega) _ [hE, (cl, digs m)] hr2 body false (by omega)
            have HP3 := Lib.hid hp3
            have HR2 := Lib.hid hr2
            clear hp3 hr2
            with_reducible refine HP3.out.mono ?_
            rintro e w14 ⟨rfl, hO⟩
            have HO15 := Lib.hid hO; clear hO HO14 HP3
            have hp4 := rparse_c HVV.out.toMostOk HO15.out (strOfNums (replyP c [hE, (cl, digs m)] (sb body))) (by rw [strOfNums_size]; exact hL2)
            rw [sb_str hB2, replyI_told hc1 hc2 hE_ok hE_no HCLN.out HCLE.out hm6, length_sb, HBL.out] at hp4
            have HP4 := Lib.hid hp4
            clear hp4 hB2 hL2
            generalize strOfNums (replyP c [hE, (cl, digs m)] (sb body)) = pr2 at *
            go_wp2_with fail
            with_reducible refine HP4.out.mono ?_
            rintro e w15 hg
            obtain ⟨A6, c6, L6, rfl, _, hO⟩ := hg.yes
            have HO16 : Hid (Own W w15 ((g10, Obj.cells (rv c (.slice A5 1 c5) body false).toArray 24) :: (g9, Obj.cells (rv c (.slice A2 2 c2) body false).toArray 24) :: L2)) := Lib.hid (hO.right.perm (List.Perm.swap _ _ _))
            clear hO hg HO15 HP4
            simp only [List.length_cons, List.length_nil]
            obtain ⟨bc, hbc⟩ : ∃ bc, decide (bl < m) = bc := ⟨_, rfl⟩
            have hbc2 : decide ((bl : Int) < m) = bc := by rw [← hbc, decide_eq_decide]; omega
            rw [hbc]
            obtain ⟨bd, hbd⟩ : ∃ bd, strOfNums ((sb body).take m) = bd := ⟨_, rfl⟩
            rw [hbd]
            obtain ⟨mn, hmn2, hmn, hmb, hex⟩ : ∃ mn : Nat, min (m : Int) (bl : Int) = mn ∧ (if bl < m then (bl : Int) else (m : Int)) = mn ∧ mn ≤ bl ∧ body.extract 0 mn = bd := by
              by_cases hle : m ≤ bl
              · exact ⟨m, by omega, if_neg (by omega), hle, by rw [ext_str, win_from, hbd]⟩
              · exact ⟨bl, by omega, if_pos (by omega), Nat.le_refl _, by rw [ext_str, win_from, ← hbd, List.take_of_length_le (by rw [length_sb, HBL.out]; exact Nat.le_refl _), List.take_of_length_le (by rw [length_sb, HBL.out]; omega)]⟩
            have hmbI : (mn : Int) ≤ bl := by omega
            clear hbd hmb
            have hbn : (bc != bc) = false := by cases bc <;> rfl
            go_wp2_with (refine wl_store rfl _ _ _ rfl HO16.out 0 g10 0 _ (rv c (.slice A6 2 c6) bd bc) _ rfl (by rfl) (by rfl) rep_size (one_rv rfl) (by simp [rv]) ?_; intro w16 hO; have HO17 := Lib.hid (hO.cast (L' := (g10, Obj.cells (rv c (.slice A6 2 c6) bd bc).toArray 24) :: (g9, Obj.cells (rv c (.slice A2 2 c2) body false).toArray 24) :: L2) rfl); clear hO HO16; have k2 : w16.cell? ⟨g10, 2, none⟩ = some (.string bd) := HO17.out.cell (.head _) 2; have k3 : w16.cell? ⟨g10, 3, none⟩ = some (.bool bc) := HO17.out.cell (.head _) 3)
            refine wp_region_lin (fun w' => w'.cell? ⟨g10, 2, none⟩ = some (.string bd) ∧ w'.cell? ⟨g10, 3, none⟩ = some (.bool bc)) 22 [(0, true), (1, true), (2, true), (3, true), (4, true), (5, true), (6, true), (7, true), (8, true), (9, true), (10, true), (11, true), (12, true), (13, true), (14, true), (15, true), (16, true), (17, true), (18, true), (19, true), (20, true), (21, true)] (by kernel_rfl) (by kernel_rfl) (fun _ _ d _ _ h => by cases d <;> exact h) ⟨HO17.out.drew.cell (.head _) 2, HO17.out.drew.cell (.head _) 3⟩ ?_
            clear k2 k3
            simp only [List.map_cons, List.map_nil, pick_zero, pick_succ, List.drop_succ_cons, List.drop_zero]
            iterate 22 ((first | (refine lin_q ?_ rfl ?_ ?_; rotate_left 1; (focus (rintro w' ⟨k2, k3⟩; go_simp; first | done | with_reducible rfl))) | (refine lin_g ?_ (by rfl) ?_ ?_; rotate_left 1; (focus (rintro w' ⟨k2, k3⟩; go_simp; first | done | with_reducible rfl)))); simp only [Act.put, List.setIfInBounds_toArray, List.set_cons_zero, List.set_cons_succ])
            refine lin_nil ?_
            clear hmn hmn2 hmbI hex hbc2 hbn hbc
            have HO18 : Hid (Own W w16.drew ((g9, Obj.cells (rv c (.slice A2 2 c2) body false).toArray 24) :: L2)) := Lib.hid HO17.out.drew.tail
            clear HO17
            generalize w16.drew = w17 at *
            go_wp2_with fail
            have hr3 : HRd W ((g9, Obj.cells (rv c (.slice A2 2 c2) body false).toArray 24) :: L2) (.slice A2 2 c2) ([hE, (cl, digs m)].map toB) := HV2.out.hrd (List.sublist_cons_self _ _)
            obtain ⟨A7, n7, c7, e7, _, _, hA7⟩ := hr3 w17.drew [] HO18.out.drew
            cases e7
            obtain ⟨g2, rfl, _⟩ := hA7 (by omega)
            have HR3 := Lib.hid hr3
            clear hr3 hA7
            refine wp_region_lin (fun w' => w'.cell? ⟨g9, 1, none⟩ = some (.slice (some ⟨g2, 0, none⟩) 2 c2) ∧ w'.cell? ⟨g2, 2, none⟩ = some (.string (strOfNums cl)) ∧ w'.cell? ⟨g2, 3, none⟩ = some (.string (strOfNums (digs m)))) 7 [(0, true), (1, true), (2, true), (3, true), (4, true), (5, true), (6, false)] (by kernel_rfl) (by kernel_rfl) (fun _ _ d _ _ h => by cases d <;> exact h) ⟨HO18.out.drew.cell (.head _) 1, (HR3.out.at_ (L' := []) HO18.out.drew (j := 1) rfl) 0 _ rfl, (HR3.out.at_ (L' := []) HO18.out.drew (j := 1) rfl) 1 _ rfl⟩ ?_
            simp only [List.map_cons, List.map_nil, pick_zero, pick_succ, List.drop_succ_cons, List.drop_zero]
            iterate 6 (refine lin_q ?_ rfl ?_ ?_; rotate_left 1; (focus (rintro w' ⟨k1, k2, k3⟩; go_simp; first | done | with_reducible rfl | (trace_state; fail))); simp only [Act.put, List.setIfInBounds_toArray, List.set_cons_zero, List.set_cons_succ])
            refine lin_act ?_
            refine wl_buildSlice rfl _ 1 [(0, _)] rfl HO18.out.drew _ (build_heads1 _ (strOfNums cl) (strOfNums (digs m))) ?_
            intro gn2 w18 hO
            have HO19 := Lib.hid hO; clear hO HO18
            refine LinPost.mk ⟨HO19.out.cell (.tail _ (.head _)) 1, (HR3.out.at_ (L' := [(gn2, Obj.cells (hv2 (strOfNums cl, strOfNums (digs m))).toArray 30)]) HO19.out (j := 1) rfl) 0 _ rfl, (HR3.out.at_ (L' := [(gn2, Obj.cells (hv2 (strOfNums cl, strOfNums (digs m))).toArray 30)]) HO19.out (j := 1) rfl) 1 _ rfl⟩ ?_
            simp only [Act.put, List.setIfInBounds_toArray, List.set_cons_zero, List.set_cons_succ]
            refine lin_nil ?_
            have HO20 : Hid (Own W w18 (L2 ++ [(gn2, Obj.cells (hv2 (strOfNums cl, strOfNums (digs m))).toArray 30), (g9, Obj.cells (rv c (.slice (some ⟨g2, 0, none⟩) 2 c2) body false).toArray 24)])) := Lib.hid (HO19.out.perm (List.perm_append_comm (l₁ := [(gn2, Obj.cells (hv2 (strOfNums cl, strOfNums (digs m))).toArray 30), (g9, Obj.cells (rv c (.slice (some ⟨g2, 0, none⟩) 2 c2) body false).toArray 24)]) (l₂ := L2)))
            clear HO19
            go_wp2_with (first | (refine wl_appendH1 rfl _ _ rfl (.slice (some ⟨g2, 0, none⟩) 2 c2) ([hE, (cl, digs m)].map toB) (by rfl) HV2.out HO20.out gn2 1 (toB (cl, digs m)) (by rfl) (.head _) (by simp) ?_; intro v3 w19 L3 hv3 hO; have HO21 : Hid (Own W w19 ((g9, Obj.cells (rv c (.slice (some ⟨g2, 0, none⟩) 2 c2) body false).toArray 24) :: L3)) := Lib.hid (hO.strike.perm List.perm_append_comm); have HV3 : Hid (IsHeads v3 ([hE, (cl, digs m), (cl, digs m)].map toB) L3) := Lib.hid hv3; obtain ⟨A8, c8, hve⟩ := IsRow.val hv3; rw [show (List.map toB [hE, (cl, digs m)] ++ [toB (cl, digs m)]).length = 3 from rfl] at hve; subst hve; clear hO hv3 HO20) | (refine wl_store1 rfl _ _ _ rfl HO21.out 0 g9 1 _ (.slice A8 3 c8) _ rfl (by rfl) (by rfl) (by rfl) (by kernel_rfl) (by rfl) (by simp [rv]) ?_; intro w20 hO; have HO22 := Lib.hid (hO.cast (L' := (g9, Obj.cells (rv c (.slice A8 3 c8) body false).toArray 24) :: L3) rfl); clear hO HO21) | (refine wl_load rfl _ _ rfl g9 0 (rv c (.slice A8 3 c8) body false) (rv c (.slice A8 3 c8) body false) _ (HO22.out.heap (.head _)) (by rfl) _ Tryd.underlying24 rfl rep_size (by rfl) ?_))
            have hB3 : Byt (replyP c [hE, (cl, digs m), (cl, digs m)] (sb body)) := replyP_byt (fun h hh => by simp only [List.mem_cons, List.not_mem_nil, or_false] at hh; rcases hh with rfl | rfl | rfl; exact headOk_byt hE_ok; exact ⟨HCLB.out, digs_byt m⟩; exact ⟨HCLB.out, digs_byt m⟩) (byt_sb _)
            have hL3 : (replyP c [hE, (cl, digs m), (cl, digs m)] (sb body)).length ≤ 100000000 := by
              have h1 := replyP_len c [hE, (cl, digs m), (cl, digs m)] (sb body)
              have h2 : (headsP [hE, (cl, digs m), (cl, digs m)]).length = 45 + (digs m).length + (digs m).length := by simp [headsP, headP, etagI, HCLL.out]; omega
              have h3 := digs_len m
              rw [length_sb] at h1
              omega
            have hr4 : HRd W ((g9, Obj.cells (rv c (.slice A8 3 c8) body false).toArray 24) :: L3) (.slice A8 3 c8) ([hE, (cl, digs m), (cl, digs m)].map toB) := HV3.out.hrd (List.sublist_cons_self _ _)
            have HP5 := Lib.hid (rprint_c HVV.out HO22.out c (by omega) _ [hE, (cl, digs m), (cl, digs m)] hr4 body false (by omega))
            clear hr4
            with_reducible refine HP5.out.mono ?_
            rintro e w21 ⟨rfl, hO⟩
            have HO23 := Lib.hid hO; clear hO HO22 HP5
            have hp6 := rparse_c HVV.out.toMostOk HO23.out (strOfNums (replyP c [hE, (cl, digs m), (cl, digs m)] (sb body))) (by rw [strOfNums_size]; exact hL3)
            rw [sb_str hB3, replyI_twice hc1 hc2 hE_ok hE_no HCLN.out HCLE.out hm6] at hp6
            have HP6 := Lib.hid hp6
            clear hp6 hB3 hL3
            generalize strOfNums (replyP c [hE, (cl, digs m), (cl, digs m)] (sb body)) = pr3 at *
            go_wp2_with fail
            with_reducible refine HP6.out.mono ?_
            rintro e w22 hg
            obtain ⟨A9, c9, rfl, hO⟩ := hg.no
            have HO24 := Lib.hid hO; clear hO hg HO23 HP6
            go_wp2_with fail
            with_reducible refine (wakes9_c HVV.out.toMostOk HO24.out).mono ?_
            rintro e w23 ⟨rfl, hO⟩
            have HO25 := Lib.hid hO; clear hO HO24
            go_wp2
            go_ret
            exact HO25.out.yes rfl
set_option maxRecDepth 100000 in
theorem replyBack_contract (H : Type) (enc : TypeId × Value → H) (W : World) (base : Nat) (args : Array Value) (ds gs : List (DataW H)) (before : List MemPlace)
    (hval : ∀ (j : Nat) t v, Tryd.f6.params[j]? = some t → args[j]? = some v → Value.okWide Tryd.prog W .any base t v)
    (hW : DataW.Whole enc Tryd.prog Tryd.f6.params.toList Rows.replyBackSpec.vars false W args.toList ds gs before) (hk : Rows.uptoSmall H (ds ++ gs) = true) (hV0 : VarsOk W) :
    Calls Tryd.prog 6 args W fun e W' => ∃ v, e = .returned v ∧ Rows.replyBackSpec.post enc Tryd.prog Tryd.f6 false true false false W args v W' := by
  have hW' := hW
  obtain ⟨p, q, hA0, hV, rfl, hfz, hnd⟩ := hW
  have hA : DataW.TrodAll enc Tryd.prog W 0 (fun _ => true) true Tryd.f6.params.toList args.toList ds p := hA0
  rw [Tryd.params6] at hA hval
  obtain ⟨v0, vs0, d0, ds0, p0, q0, hargs, rfl, rfl, h0, r0⟩ := trodAll_cons hA
  obtain ⟨v1, vs1, d1, ds1, p1, q1, rfl, rfl, rfl, h1, r1⟩ := trodAll_cons r0
  obtain ⟨v2, vs2, d2, ds2, p2, q2, rfl, rfl, rfl, h2, r2⟩ := trodAll_cons r1
  obtain ⟨v3, vs3, d3, ds3, p3, q3, rfl, rfl, rfl, h3, r3⟩ := trodAll_cons r2
  obtain ⟨rfl, rfl, rfl⟩ := trodAll_nil r3
  obtain rfl : args = #[v0, v1, v2, v3] := by cases args; simp_all
  obtain ⟨rfl, rfl⟩ := trodVars_none hV
  obtain ⟨a0, rfl, rfl, rfl, w0⟩ := open_int Tryd.underlying3 (hval 0 3 v0 rfl rfl) h0
  obtain ⟨a1, rfl, rfl, rfl, w1⟩ := open_string Tryd.underlying9 (hval 1 9 v1 rfl rfl) h1
  obtain ⟨a2, rfl, rfl, rfl, w2⟩ := open_int Tryd.underlying3 (hval 2 3 v2 rfl rfl) h2
  obtain ⟨a3, rfl, rfl, rfl, w3⟩ := open_int Tryd.underlying3 (hval 3 3 v3 rfl rfl) h3
  have z1 : a1.size ≤ 1048576 := by
    have hb : _ ≤ 1048576 := of_decide_eq_true hk
    simp only [List.append_nil, List.cons_append, List.nil_append, Rows.uptoBulkAll, Rows.uptoBulk] at hb
    have e : a1.data.toList.length = a1.size := by simp
    omega
  clear hA0
  refine (replyBack_walk hV0 a0 w0 a1 z1 a2 w2 a3 w3).mono fun e W' ⟨he, bel⟩ => ?_
  subst he
  exact ⟨_, rfl, _, _, _, [], _, [], hW', trodAll_mk1 (shut_bool Tryd.underlying4 _), (trodAll_cons_mk (shut_int Tryd.underlying3 w0) (trodAll_cons_mk (shut_string Tryd.underlying9 w1) (trodAll_cons_mk (shut_int Tryd.underlying3 w2) (trodAll_cons_mk (shut_int Tryd.underlying3 w3) trodAll_mk0)))), rfl, bel.frame _, fun h => by cases h⟩

theorem replyBack_met (os : Os) : laidMet Tryd.prog Rows.replyBackUptoRow.laid ((laidWorld os).forCall (fun _ _ => 0) ⟨#[], #[.int .i64 0, .string .empty, .int .i64 0, .int .i64 0], []⟩).memory :=
  laidMet_of_run' 8 (by kernel_rfl) (by kernel_rfl)
theorem replyBack_reads (os : Os) {H : Type} (enc : TypeId × Value → H) : ∃ places, DataW.whole enc Tryd.prog ((laidWorld os).forCall (fun _ _ => 0) ⟨#[], #[.int .i64 0, .string .empty, .int .i64 0, .int .i64 0], []⟩).memory Tryd.f6.params.toList Rows.replyBackSpec.vars false (#[.int .i64 0, .string .empty, .int .i64 0, .int .i64 0] : Array Value).toList 8 = some ([.lit (.int .i64 0), .lit (.string []), .lit (.int .i64 0), .lit (.int .i64 0)], [], places) :=
  ⟨[], by kernel_rfl⟩
set_option maxRecDepth 100000 in
theorem replyBack_lifted (os : Os) (started : os.Started) (H : Type) (enc : TypeId × Value → H) (F : Stop.Interp) :
    ReturnsInHanded {} Tryd.checked os 6 .any ((Rows.OpenSpec.upto Rows.replyBackSpec).preRow enc Tryd.prog Tryd.f6 Rows.replyBackUptoRow.domain false Rows.replyBackUptoRow.laid) (((Rows.OpenSpec.upto Rows.replyBackSpec).at F).post enc Tryd.prog Tryd.f6 false true false false) := by
  obtain ⟨places, hx⟩ := replyBack_reads os enc
  refine returnsInHanded_of_row (C := Tryd.checked) (s := Rows.OpenSpec.upto Rows.replyBackSpec) own_none started (by kernel_rfl) Tryd.func6
    (witness_row_at (enc := enc) (C := Tryd.checked) false (laidWorld os) #[.int .i64 0, .string .empty, .int .i64 0, .int .i64 0] rfl (by kernel_rfl) (by kernel_rfl) (by kernel_rfl)
      (OpenSpec.preRow_of_cond 8 hx (by kernel_rfl) (fun k hk => by cases hk; kernel_rfl) (by kernel_rfl) (replyBack_met os))) ?_
  intro W base args ds gs before hval hW _ hcond _ hL hsh _
  exact replyBack_contract H enc W base args ds gs before hval hW (hcond _ rfl) (vars_of hL hsh)
theorem replyBack_said : Rows.ReplyBackUptoSaid :=
  OpenClaim.holds_of_cond 6 Tryd.f6 rfl rfl rfl rfl rfl rfl rfl ⟨rfl, rfl, rfl, rfl, rfl⟩ rfl rfl rfl rfl rfl (by kernel_rfl) Tryd.func6 (by kernel_rfl)
    (of_decide_eq_true (by kernel_rfl)) (by unfold Func.isWrapper; first | (rw [if_pos (by decide +kernel)]; kernel_rfl) | (rw [if_neg (by decide +kernel)]; exact ⟨rfl, rfl⟩))
    (fun os started H enc _ F => by rw [OpenClaim.pre_eq_preRow]; exact replyBack_lifted os started H enc F)
theorem replyBack_plain (f : FuncId) (fn : Func) (hf : Tryd.pinned.checked.prog.funcNamed "postilion/postilionlaw09.ReplyBack" = some f) (hfn : Tryd.pinned.checked.prog.funcs[f]? = some fn) :
    false = Tryd.pinned.checked.prog.looks [] ∧ ∀ (j : Nat) t, fn.params[j]? = some t → Tryd.pinned.checked.prog.wantsStandIn t = false := by
  obtain rfl : f = 6 := Option.some.inj ((show Tryd.prog.funcNamed "postilion/postilionlaw09.ReplyBack" = some 6 by kernel_rfl).symm.trans hf) |>.symm
  obtain rfl : fn = Tryd.f6 := (Option.some.inj (Tryd.func6.symm.trans hfn)).symm
  refine ⟨by kernel_rfl, fun j t ht => ?_⟩
  rw [Tryd.params6] at ht
  have hall : ∀ t ∈ ([3, 9, 3, 3] : List TypeId), Tryd.prog.wantsStandIn t = false := List.forall_mem_cons.2 ⟨by kernel_rfl, List.forall_mem_cons.2 ⟨by kernel_rfl, List.forall_mem_cons.2 ⟨by kernel_rfl, List.forall_mem_cons.2 ⟨by kernel_rfl, fun _ h => by cases h⟩⟩⟩⟩
  exact hall t (by simpa using Array.mem_of_getElem? ht)
/-- The statement: the card. -/
theorem replyBack_proved : Rows.ReplyBackUptoCardSaid :=
  Claim7.holds_tied_plain_at .later [] _ _ _ _ replyBack_said (fun _ h => by cases h) (by kernel_rfl) (fun _ h => by cases h) replyBackUpto_row_tie rfl ⟨rfl, rfl⟩ (by kernel_rfl) rfl replyBack_plain (by kernel_rfl)
end Go.Proofs.YtkmfbfmmlldphaaDoor

