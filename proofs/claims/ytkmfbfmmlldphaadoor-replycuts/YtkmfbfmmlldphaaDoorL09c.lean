/-
  ReplyCuts: an answer that tells its length (of at most sixty bytes), cut off anywhere: ahead of its body it is none; in it, it is cut, and has what came.
  Conditions: none but the row's own.
-/
import Derived.Test.YtkmfbfmmlldphaaDoorL09a
import Derived.Test.YtkmfbfmmlldphaaDoorVarsR
import Derived.JoinedCond
import Derived.Test.YtkmfbfmmlldphaaDoorRep2
import Derived.Test.YtkmfbfmmlldphaaDoorKeep2
import Derived.Test.YtkmfbfmmlldphaaDoorInb
namespace Go.Proofs.YtkmfbfmmlldphaaDoor
set_option linter.unusedVariables false
set_option linter.unusedSimpArgs false
set_option maxRecDepth 20000
open Go.ChangeShapes Go.WideShapes Go.ChangeAt Go.RowKit
open Go.ChangeMaps (open_string shut_string)

def codeS : List ByteArray := [⟨#[50, 48, 48]⟩, ⟨#[50, 48, 54]⟩, ⟨#[53, 48, 51]⟩]
def codeN : List Nat := [200, 206, 503]
theorem code_at (j : Nat) (hj : j < 3) : ∃ c s, codeS[j]? = some s ∧ c ∈ ([200, 206, 503] : List Nat) ∧ sb s = digs c ∧ s.size = 3 := by
  rcases (by omega : j = 0 ∨ j = 1 ∨ j = 2) with rfl | rfl | rfl
  · exact ⟨200, _, rfl, by simp, by decide +kernel, by decide⟩
  · exact ⟨206, _, rfl, by simp, by decide +kernel, by decide⟩
  · exact ⟨503, _, rfl, by simp, by decide +kernel, by decide⟩
set_option maxRecDepth 100000 in
set_option maxHeartbeats 16000000 in
theorem replyCuts_walk {W : World} (hV : MostOk W) (a : Int) (wa : (Lit.int .i64 a).wf = true) (b : Int) (wb : (Lit.int .i64 b).wf = true) (v : Value) (xs : List Int) (hv : InRow .u8 W v xs) :
    Calls Tryd.prog 7 #[.int .i64 a, .int .i64 b, v] W (Yes W) := by
  have HVV := Lib.hid hV
  have hrd := hv.rdb []
  have hB := hv.bytb
  clear hv wa wb hV
  have HO := Lib.hid (Own.start W)
  have hcc := cut_c (Own.start W) v xs hrd 60 (by omega)
  rw [show ((60 : Nat) : Int) = 60 from rfl] at hcc
  have HC := Lib.hid hcc
  clear hcc
  have hlB : Byt (xs.take 60) := byt_take hB 60
  have hl60 : (xs.take 60).length ≤ 60 := by simp; omega
  generalize xs.take 60 = l at *
  obtain ⟨A, n0, c0, rfl, _, _, _⟩ := hrd W [] (Own.start W)
  clear hrd hB
  obtain ⟨m, hm⟩ : ∃ m, l.length = m := ⟨_, rfl⟩
  have hsz : (strOfNums l).size = m := by rw [strOfNums_size, hm]
  have HLB := Lib.hid hlB; have HM := Lib.hid hm; have HSZ := Lib.hid hsz
  have hm60 : m ≤ 60 := by omega
  clear hlB hl60 hm
  go_enter Tryd.func7, Tryd.ntmps7
  go_wp2_with fail
  with_reducible refine HC.out.mono ?_
  rintro e w1 ⟨bv1, L1, rfl, hr1, hO1⟩
  have hcv := convert_str (hr1.bs hO1)
  have HO1 := Lib.hid (hO1.right)
  clear hr1 hO1 HC HO
  go_wp2
  clear hsz hcv
  go_loopw [8, 9] (fun u t w' => ∃ (dl : List Int) (k : Nat), k ≤ m ∧ dl.length ≤ 100 - k ∧ u = .string (strOfNums dl) ∧ t = .int .i64 k ∧ Hid (Byt dl) ∧ Hid (DigTo m k dl) ∧ Hid (Own W w' [])) (fun u t _ => if strSize u = 0 then 1000 else (intOf t).toNat)
  case atStart => exact ⟨[], m, Nat.le_refl _, by simp, rfl, rfl, Lib.hid (fun x hx => by cases hx), Lib.hid (.inl ⟨rfl, rfl⟩), HO1⟩
  case round =>
    obtain ⟨dl, k, hk, hdl, rfl, rfl, HDB, HD, HO2⟩ := hrel
    clear HO1
    have hem := str_lit dl HDB.out [] [] rfl
    have hds : (strOfNums dl).size = dl.length := strOfNums_size _
    have hmod : 0 ≤ ((k : Int) % 10) ∧ ((k : Int) % 10) ≤ 9 := by omega
    have hq1 : IntKind.i64.wrap (48 + ((k : Int) % 10)) = 48 + ((k : Int) % 10) := IntWalk.i64_in _ (by omega)
    have hq2 : IntKind.u8.wrap (48 + ((k : Int) % 10)) = 48 + ((k : Int) % 10) := wraps_u8 _ (by omega) (by omega)
    have hcv2 : (convert 49 9 (.slice (some ⟨wr.heap.size, 0, none⟩) 1 1)).run Tryd.prog (wr.alloc (.cells #[.int .u8 (48 + ((k : Int) % 10))] 5)) = .ok (.string (strOfNums [48 + ((k : Int) % 10)])) (wr.alloc (.cells #[.int .u8 (48 + ((k : Int) % 10))] 5)) := convert_str (bs_one HO2.out _)
    have n1 : ¬ (9223372036854775807 < 1 + dl.length) := by omega
    have n2 : (strOfNums [48 + (k : Int) % 10]).size = 1 := strOfNums_size _
    have HO3 := Lib.hid (HO2.out.alloc (.cells #[.int .u8 (48 + (k : Int) % 10)] 5)).tail
    by_cases hd0 : dl = []
    · rw [decide_eq_true hd0] at hem
      have HNX := Lib.hid (HD.out.next (by omega) (.inl hd0))
      have HE0 := Lib.hid hd0
      clear hd0
      go_wp2
      go_roundw
      case rel => exact ⟨[48 + (k : Int) % 10] ++ dl, k / 10, by omega, by rw [List.length_append, List.length_singleton]; have := HE0.out; subst this; simp; omega, by rw [strs_app], by go_num, Lib.hid (byt_append (fun x hx => by rw [List.mem_singleton] at hx; subst hx; omega) HDB.out), HNX, HO3⟩
      case measure => simp only [strSize, ByteArray.size_append, strOfNums_size, intOf, List.length_singleton]; rw [HE0.out]; simp; omega
    · rw [decide_eq_false hd0] at hem
      by_cases hk0 : 0 < k
      · have hk0' : (0 : Int) < k := by omega
        have HNX := Lib.hid (HD.out.next (by omega) (.inr hk0))
        have HE0 : Hid (0 < dl.length) := Lib.hid (List.length_pos_iff.2 hd0)
        clear hd0
        go_wp2
        go_roundw
        case rel => exact ⟨[48 + (k : Int) % 10] ++ dl, k / 10, by omega, by rw [List.length_append, List.length_singleton]; have := HE0.out; omega, by rw [strs_app], by go_num, Lib.hid (byt_append (fun x hx => by rw [List.mem_singleton] at hx; subst hx; omega) HDB.out), HNX, HO3⟩
        case measure => simp only [strSize, ByteArray.size_append, strOfNums_size, intOf, List.length_singleton]; have := HE0.out; rw [if_neg (by omega), if_neg (by omega)]; omega
      · have hk0' : ¬ (0 : Int) < k := by omega
        obtain rfl := HD.out.done hd0 hk0
        have HLE : Hid ((digs m).length ≤ 21) := Lib.hid (digs_len m).2
        obtain ⟨c, cs, hcs, hcm, hcb, hcz⟩ := code_at (a % 3).toNat (by omega)
        have HCS := Lib.hid hcs; have HCM := Lib.hid hcm; have HCB := Lib.hid hcb
        have hj3 : ((a % 3).toNat : Int) < 3 := by omega
        have q1 : ∀ w : World, _ := fun w => within_n (w := w) a 3 (by omega) (by omega)
        generalize (a % 3).toNat = j at *
        have Q1 := Lib.hid q1
        clear q1 hcs hcm hcb hd0 hcv2 hmod hq1 hq2 n1 n2 HO3 hk0 hds hdl
        go_wp2_with fail
        generalize hwx : wr.alloc _ = w4
        have hO4 : Own W w4 [(wr.heap.size, .cells (codeS.map Value.string).toArray 9)] := by rw [← hwx]; exact HO2.out.alloc _
        have HO4 := Lib.hid hO4
        clear hwx hO4
        generalize wr.heap.size = gc at *
        with_reducible refine (Q1.out _).mono ?_
        rintro e wq ⟨rfl, hww⟩
        subst hww
        have hcc : w4.cell? ⟨gc, j, none⟩ = some (.string cs) := (HO4.out.cell (.head _) j).trans (by simp [HCS.out])
        have hdz : (strOfNums (digs m)).size = (digs m).length := strOfNums_size _
        have hdl := HLE.out
        obtain ⟨H, hHe⟩ : ∃ H, cutHead c m = H := ⟨_, rfl⟩
        have hXs : sb (⟨#[72, 84, 84, 80, 47, 49, 46, 49, 32]⟩ ++ cs ++ ⟨#[32, 45, 13, 10, 101, 116, 97, 103, 58, 32, 120, 13, 10, 67, 111, 110, 116, 101, 110, 116, 45, 76, 101, 110, 103, 116, 104, 58, 32]⟩ ++ strOfNums (digs m) ++ ⟨#[13, 10, 13, 10]⟩) = H := by
          rw [sb_append, sb_append, sb_append, sb_append, HCB.out, sb_str (digs_byt m), ← hHe]
          rw [show sb ⟨#[72, 84, 84, 80, 47, 49, 46, 49, 32]⟩ = verI from rfl]
          rw [show sb ⟨#[32, 45, 13, 10, 101, 116, 97, 103, 58, 32, 120, 13, 10, 67, 111, 110, 116, 101, 110, 116, 45, 76, 101, 110, 103, 116, 104, 58, 32]⟩ = [32, 45, 13, 10, 101, 116, 97, 103, 58, 32, 120, 13, 10, 67, 111, 110, 116, 101, 110, 116, 45, 76, 101, 110, 103, 116, 104, 58, 32] from rfl, show sb ⟨#[13, 10, 13, 10]⟩ = [13, 10, 13, 10] from rfl]
          simp [cutHead, replyP, headsP, headP, etagI]
        have hH : ⟨#[72, 84, 84, 80, 47, 49, 46, 49, 32]⟩ ++ cs ++ ⟨#[32, 45, 13, 10, 101, 116, 97, 103, 58, 32, 120, 13, 10, 67, 111, 110, 116, 101, 110, 116, 45, 76, 101, 110, 103, 116, 104, 58, 32]⟩ ++ strOfNums (digs m) ++ ⟨#[13, 10, 13, 10]⟩ = strOfNums H := by rw [← hXs, str_sb]
        have hHB : Byt H := by rw [← hXs]; exact byt_sb _
        obtain ⟨hl, hhl⟩ : ∃ hl, H.length = hl := ⟨_, rfl⟩
        have hHl : hl = 45 + (digs m).length := by
          have h1 := congrArg ByteArray.size hH
          rw [strOfNums_size] at h1
          simp only [ByteArray.size_append, hdz, hcz] at h1
          have e1 : (⟨#[72, 84, 84, 80, 47, 49, 46, 49, 32]⟩ : ByteArray).size = 9 := rfl
          have e2 : (⟨#[32, 45, 13, 10, 101, 116, 97, 103, 58, 32, 120, 13, 10, 67, 111, 110, 116, 101, 110, 116, 45, 76, 101, 110, 103, 116, 104, 58, 32]⟩ : ByteArray).size = 29 := rfl
          have e3 : (⟨#[13, 10, 13, 10]⟩ : ByteArray).size = 4 := rfl
          rw [e1, e2, e3, hhl] at h1
          omega
        have hHb : hl ≤ 66 := by omega
        have HHL := Lib.hid hHl
        clear hHl hXs
        have hT : strOfNums H ++ strOfNums l = strOfNums (H ++ l) := (strs_app H l).symm
        have hsz := HSZ.out
        have hHs : (strOfNums H).size = hl := by rw [strOfNums_size, hhl]
        have hTs : (strOfNums (H ++ l)).size = hl + m := by rw [strOfNums_size, List.length_append, HM.out, hhl]
        have HHE := Lib.hid hHe; have HHB := Lib.hid hHB; have HHLEN := Lib.hid hhl
        clear hHe hHB hhl
        have n1 : ¬ (9223372036854775807 < 12) := by omega
        have n3 : ¬ (9223372036854775807 < 41 + (digs m).length) := by omega
        have n4 : ¬ (9223372036854775807 < 41 + (digs m).length + 4) := by omega
        have n5 : ¬ (9223372036854775807 < hl + m) := by omega
        go_wp2_with fail
        clear n1 n3 n4 n5 hH hT hsz hdz hcz hcc
        have hqn : (b % ((hl : Int) + m + 1)).toNat ≤ hl + m := by
          have h1 := Int.emod_lt_of_pos b (show (0 : Int) < (hl : Int) + m + 1 by omega)
          omega
        have hcall := within_n (w := w4) b ((hl : Int) + m + 1) (by omega) (by omega)
        generalize (b % ((hl : Int) + m + 1)).toNat = q at *
        with_reducible refine hcall.mono ?_
        clear hcall
        rintro e wq ⟨rfl, hww⟩
        subst hww
        have hqI : (q : Int) ≤ hl + m := by omega
        have hex : (strOfNums (H ++ l)).extract 0 q = strOfNums ((H ++ l).take q) := by rw [ext_str, sb_str (byt_append HHB.out HLB.out), win_from]
        go_wp2_with fail
        have hp := rparse_c HVV.out HO4.out (strOfNums ((H ++ l).take q)) (by rw [strOfNums_size, List.length_take, List.length_append, HHLEN.out, HM.out]; omega)
        rw [sb_str (byt_take (byt_append HHB.out HLB.out) q)] at hp
        by_cases hq : q < hl
        · have hno : replyI ((H ++ l).take q) = none := by
            rw [List.take_append_of_le_length (by rw [HHLEN.out]; omega), ← HHE.out]
            have h1 := cut_none m (by omega) c HCM.out q (by rw [HHE.out, HHLEN.out]; exact hq)
            exact Option.isNone_iff_eq_none.1 h1
          rw [hno] at hp
          have hqI2 : (q : Int) < hl := by omega
          have HP := Lib.hid hp
          clear hno hp hex hTs
          with_reducible refine HP.out.mono ?_
          rintro e w5 hg
          obtain ⟨A5, c5, rfl, hO⟩ := hg.no
          have HO5 := Lib.hid hO
          clear hO hg HO4 HP
          go_wp2_with (first | (refine wl_alloc rfl _ rfl HO5.out _ (alloc_rep _) ?_; intro g w6 hO; have HO6 := Lib.hid hO; clear hO HO5) | (refine wl_store rfl _ _ _ rfl HO6.out 0 g 0 _ (rv 0 (.slice A5 0 c5) ⟨#[]⟩ false) _ rfl (by rfl) (by rfl) rep_size (one_rv rfl) (by simp [rv]) ?_; intro w7 hO; have HO7 := Lib.hid (hO.cast (L' := (g, .cells (rv 0 (.slice A5 0 c5) ⟨#[]⟩ false).toArray 24) :: [_]) rfl); clear hO HO6; have k0 : w7.cell? ⟨g, 0, none⟩ = some (.int .i64 0) := HO7.out.cell (.head _) 0; have k2 : w7.cell? ⟨g, 2, none⟩ = some (.string ⟨#[]⟩) := HO7.out.cell (.head _) 2))
          with_reducible refine (wakes9_c HVV.out HO7.out).mono ?_
          rintro e w8 ⟨rfl, hO⟩
          have HO8 := Lib.hid hO; clear hO HO7
          go_wp2
          go_ret
          exact HO8.out.yes rfl
        · have hya : replyI ((H ++ l).take q) = some ⟨c, [(etagI, [120]), ([67, 111, 110, 116, 101, 110, 116, 45, 76, 101, 110, 103, 116, 104], digs m)], l.take (q - hl), decide (q < hl + m)⟩ := by
            rw [List.take_append, HHLEN.out, List.take_of_length_le (by rw [HHLEN.out]; omega), ← HHE.out, ← cutHead_app]
            have hc3 : 100 ≤ c ∧ c ≤ 599 := by have := HCM.out; simp only [List.mem_cons, List.not_mem_nil, or_false] at this; omega
            rw [replyI_told hc3.1 hc3.2 (by unfold HeadOk; decide) (by decide) (by decide) (by decide) (by omega)]
            have e1 : (l.take (q - hl)).length = min (q - hl) m := by rw [List.length_take, HM.out]
            congr 2
            · rw [List.take_of_length_le (by rw [e1]; omega)]
            · rw [e1, decide_eq_decide]; omega
          rw [hya] at hp
          have hqI2 : ¬ (q : Int) < hl := by omega
          have HP := Lib.hid hp
          clear hya hp hex
          with_reducible refine HP.out.mono ?_
          rintro e w5 hg
          obtain ⟨A5, c5, L5, rfl, _, hO⟩ := hg.yes
          have HO5 := Lib.hid hO.right
          clear hO hg HO4 HP
          simp only [List.length_cons, List.length_nil]
          obtain ⟨bc, hbc⟩ : ∃ bc, decide (q < hl + m) = bc := ⟨_, rfl⟩
          have hbc2 : decide ((q : Int) < (hl : Int) + m) = bc := by rw [← hbc, decide_eq_decide]; omega
          rw [hbc]
          have hex : (strOfNums (H ++ l)).extract hl q = strOfNums (l.take (q - hl)) := by
            rw [ext_str, sb_str (byt_append HHB.out HLB.out)]
            unfold win
            rw [List.take_append, HHLEN.out, List.take_of_length_le (by rw [HHLEN.out]; omega), List.drop_append_of_le_length (by rw [HHLEN.out]; exact Nat.le_refl _), List.drop_of_length_le (by rw [HHLEN.out]; exact Nat.le_refl _), List.nil_append]
          have hlq : (hl : Int) ≤ q := by omega
          go_wp2_with (first | (refine wl_alloc rfl _ rfl HO5.out _ (alloc_rep _) ?_; intro g w6 hO; have HO6 := Lib.hid hO; clear hO HO5) | (refine wl_store rfl _ _ _ rfl HO6.out 0 g 0 _ (rv c (.slice A5 2 c5) (strOfNums (l.take (q - hl))) bc) _ rfl (by rfl) (by rfl) rep_size (one_rv rfl) (by simp [rv]) ?_; intro w7 hO; have HO7 := Lib.hid (hO.cast (L' := (g, .cells (rv c (.slice A5 2 c5) (strOfNums (l.take (q - hl))) bc).toArray 24) :: [_]) rfl); clear hO HO6))
          have hnn := HO7.out
          refine wp_region_lin (fun w' => w'.cell? ⟨g, 1, none⟩ = some (.slice A5 2 c5) ∧ w'.cell? ⟨g, 2, none⟩ = some (.string (strOfNums (l.take (q - hl)))) ∧ w'.cell? ⟨g, 3, none⟩ = some (.bool bc)) 29 [(0, true), (1, true), (2, true), (3, true), (4, true), (5, true), (6, true), (7, true), (8, true), (9, true), (10, true), (11, true), (12, true), (13, true), (14, true), (15, true), (16, true), (17, true), (18, true), (19, true), (20, true), (21, true), (22, true), (23, true), (24, true), (25, true), (26, true), (27, true), (28, false)] (by kernel_rfl) (by kernel_rfl) (fun _ _ d _ _ h => by cases d <;> exact h) ⟨hnn.drew.cell (.head _) 1, hnn.drew.cell (.head _) 2, hnn.drew.cell (.head _) 3⟩ ?_
          clear hnn
          simp only [List.map_cons, List.map_nil, pick_zero, pick_succ, List.drop_succ_cons, List.drop_zero]
          iterate 28 ((first | (refine lin_q ?_ rfl ?_ ?_; rotate_left 1; (focus (rintro w' ⟨k1, k2, k3⟩; go_simp; first | done | with_reducible rfl))) | (refine lin_g ?_ (by rfl) ?_ ?_; rotate_left 1; (focus (rintro w' ⟨k1, k2, k3⟩; go_simp; first | done | with_reducible rfl)))); simp only [Act.put, List.setIfInBounds_toArray, List.set_cons_zero, List.set_cons_succ])
          refine lin_act ?_
          refine wl_g (by rfl) ?_
          refine wl_call rfl _ _ _ (by go_simp) (wakes9_c HVV.out HO7.out.drew) ?_
          rintro e w8 ⟨rfl, hO⟩
          have HO8 := Lib.hid hO; clear hO HO7
          refine ⟨_, rfl, LinPost.mk ⟨HO8.out.cell (.head _) 1, HO8.out.cell (.head _) 2, HO8.out.cell (.head _) 3⟩ ?_⟩
          simp only [Act.put, List.setIfInBounds_toArray, List.set_cons_zero, List.set_cons_succ]
          refine lin_nil ?_
          go_wp2
          go_ret
          exact HO8.out.yes rfl
set_option maxRecDepth 100000 in
theorem replyCuts_contract (H : Type) (enc : TypeId × Value → H) (W : World) (base : Nat) (args : Array Value) (ds gs : List (DataW H)) (before : List MemPlace)
    (hval : ∀ (j : Nat) t v, Tryd.f7.params[j]? = some t → args[j]? = some v → Value.okWide Tryd.prog W .any base t v)
    (hW : DataW.Whole enc Tryd.prog Tryd.f7.params.toList Rows.replyCutsSpec.vars false W args.toList ds gs before) (hV0 : MostOk W) :
    Calls Tryd.prog 7 args W fun e W' => ∃ v, e = .returned v ∧ Rows.replyCutsSpec.post enc Tryd.prog Tryd.f7 false true false false W args v W' := by
  have hW' := hW
  obtain ⟨p, q, hA0, hV, rfl, hfz, hnd⟩ := hW
  have hA : DataW.TrodAll enc Tryd.prog W 0 (fun _ => true) true Tryd.f7.params.toList args.toList ds p := hA0
  rw [Tryd.params7] at hA hval
  obtain ⟨v0, vs0, d0, ds0, p0, q0, hargs, rfl, rfl, h0, r0⟩ := trodAll_cons hA
  obtain ⟨v1, vs1, d1, ds1, p1, q1, rfl, rfl, rfl, h1, r1⟩ := trodAll_cons r0
  obtain ⟨v2, vs2, d2, ds2, p2, q2, rfl, rfl, rfl, h2, r2⟩ := trodAll_cons r1
  obtain ⟨rfl, rfl, rfl⟩ := trodAll_nil r2
  obtain rfl : args = #[v0, v1, v2] := by cases args; simp_all
  obtain ⟨rfl, rfl⟩ := trodVars_none hV
  obtain ⟨a0, rfl, rfl, rfl, w0⟩ := open_int Tryd.underlying3 (hval 0 3 v0 rfl rfl) h0
  obtain ⟨a1, rfl, rfl, rfl, w1⟩ := open_int Tryd.underlying3 (hval 1 3 v1 rfl rfl) h1
  obtain ⟨b2, len2, cap2, rfl⟩ := okWide_slice Tryd.underlying49 (hval 2 49 v2 rfl rfl)
  have k2 := h2
  have lt2 : ∀ x ∈ p2, x.block < W.heap.size := by obtain ⟨m, hm⟩ := k2; exact DataW.trod_lt m _ _ _ hm
  obtain ⟨a2, w2⟩ : ∃ xs, InRow .u8 W (.slice b2 len2 cap2) xs := by
    obtain ⟨fuel, hf⟩ := h2
    rcases open_ints Tryd.underlying49 Tryd.underlying5 (by kernel_rfl) hf with ⟨hcs, _⟩ | ⟨x, l, c, zs, hcs, _, hl, hm, hz, hx, hcell, hwz⟩
    · simp [Value.cells] at hcs
      obtain ⟨rfl, rfl, rfl⟩ := hcs
      exact ⟨[], inRow_nil _ _⟩
    · simp [Value.cells] at hcs
      obtain ⟨rfl, rfl, rfl⟩ := hcs
      exact ⟨zs.take len2, inRow_mk hl hm (by simpa using hz) hcell hwz⟩
  clear hA0
  refine (replyCuts_walk hV0 a0 w0 a1 w1 _ a2 w2).mono fun e W' ⟨he, bel⟩ => ?_
  subst he
  exact ⟨_, rfl, _, _, _, [], _, [], hW', trodAll_mk1 (shut_bool Tryd.underlying4 _), (trodAll_cons_mk (shut_int Tryd.underlying3 w0) (trodAll_cons_mk (shut_int Tryd.underlying3 w1) (trodAll_cons_mk (Below.trod laidOut (by kernel_rfl) (of_decide_eq_true (by kernel_rfl)) k2 bel lt2) trodAll_mk0))), rfl, bel.frame _, fun h => by cases h⟩

theorem replyCuts_met (os : Os) : laidMet Tryd.prog Rows.replyCutsRow.laid ((laidWorld os).forCall (fun _ _ => 0) ⟨#[], #[.int .i64 0, .int .i64 0, .slice none 0 0], []⟩).memory :=
  laidMet_of_run' 8 (by kernel_rfl) (by kernel_rfl)
theorem replyCuts_reads (os : Os) {H : Type} (enc : TypeId × Value → H) : ∃ places, DataW.whole enc Tryd.prog ((laidWorld os).forCall (fun _ _ => 0) ⟨#[], #[.int .i64 0, .int .i64 0, .slice none 0 0], []⟩).memory Tryd.f7.params.toList Rows.replyCutsSpec.vars false (#[.int .i64 0, .int .i64 0, .slice none 0 0] : Array Value).toList 8 = some ([.lit (.int .i64 0), .lit (.int .i64 0), .nil], [], places) :=
  ⟨[], by kernel_rfl⟩
set_option maxRecDepth 100000 in
theorem replyCuts_lifted (os : Os) (started : os.Started) (H : Type) (enc : TypeId × Value → H) (F : Stop.Interp) :
    ReturnsInHanded {} Tryd.checked os 7 .any ((OpenSpec.ofChange Rows.replyCutsSpec).preRow enc Tryd.prog Tryd.f7 Rows.replyCutsRow.domain false Rows.replyCutsRow.laid) (((OpenSpec.ofChange Rows.replyCutsSpec).at F).post enc Tryd.prog Tryd.f7 false true false false) := by
  obtain ⟨places, hx⟩ := replyCuts_reads os enc
  refine returnsInHanded_of_row (C := Tryd.checked) (s := OpenSpec.ofChange Rows.replyCutsSpec) own_none started (by kernel_rfl) Tryd.func7
    (witness_row_at (enc := enc) (C := Tryd.checked) false (laidWorld os) #[.int .i64 0, .int .i64 0, .slice none 0 0] rfl (by kernel_rfl) (by kernel_rfl) (by kernel_rfl)
      (OpenSpec.preRow_of_cond 8 hx (by kernel_rfl) (fun k hk => by cases hk) (by kernel_rfl) (replyCuts_met os))) ?_
  intro W base args ds gs before hval hW _ _ _ hL hsh _
  exact replyCuts_contract H enc W base args ds gs before hval hW (most_of hsh)
theorem replyCuts_said : Rows.ReplyCutsSaid :=
  OpenClaim.holds_of_cond 7 Tryd.f7 rfl rfl rfl rfl rfl rfl rfl ⟨rfl, rfl, rfl, rfl, rfl⟩ rfl rfl rfl rfl rfl (by kernel_rfl) Tryd.func7 (by kernel_rfl)
    (of_decide_eq_true (by kernel_rfl)) (by unfold Func.isWrapper; first | (rw [if_pos (by decide +kernel)]; kernel_rfl) | (rw [if_neg (by decide +kernel)]; exact ⟨rfl, rfl⟩))
    (fun os started H enc _ F => by rw [OpenClaim.pre_eq_preRow]; exact replyCuts_lifted os started H enc F)
theorem replyCuts_plain (f : FuncId) (fn : Func) (hf : Tryd.pinned.checked.prog.funcNamed "postilion/postilionlaw09.ReplyCuts" = some f) (hfn : Tryd.pinned.checked.prog.funcs[f]? = some fn) :
    false = Tryd.pinned.checked.prog.looks [] ∧ ∀ (j : Nat) t, fn.params[j]? = some t → Tryd.pinned.checked.prog.wantsStandIn t = false := by
  obtain rfl : f = 7 := Option.some.inj ((show Tryd.prog.funcNamed "postilion/postilionlaw09.ReplyCuts" = some 7 by kernel_rfl).symm.trans hf) |>.symm
  obtain rfl : fn = Tryd.f7 := (Option.some.inj (Tryd.func7.symm.trans hfn)).symm
  refine ⟨by kernel_rfl, fun j t ht => ?_⟩
  rw [Tryd.params7] at ht
  have hall : ∀ t ∈ ([3, 3, 49] : List TypeId), Tryd.prog.wantsStandIn t = false := List.forall_mem_cons.2 ⟨by kernel_rfl, List.forall_mem_cons.2 ⟨by kernel_rfl, List.forall_mem_cons.2 ⟨by kernel_rfl, fun _ h => by cases h⟩⟩⟩
  exact hall t (by simpa using Array.mem_of_getElem? ht)
/-- The statement: the card. -/
theorem replyCuts_proved : Rows.ReplyCutsCardSaid :=
  Claim7.holds_tied_plain_at .later [] _ _ _ _ replyCuts_said (fun _ h => by cases h) (by kernel_rfl) (fun _ h => by cases h) replyCuts_row_tie rfl ⟨rfl, rfl⟩ (by kernel_rfl) rfl replyCuts_plain (by kernel_rfl)
end Go.Proofs.YtkmfbfmmlldphaaDoor

