/-
  The walk of CspWords: blanks at a list's ends, more than one of them, and the sources' order do not count.
-/
import Derived.Test.YtfgaikacijdodaaDoorCsp11
import Derived.Test.YtfgaikacijdodaaDoorM1
import Derived.Deep.DeepCutAuto
import Derived.Deep.CutBlock
namespace Go.Proofs.YtfgaikacijdodaaDoor
set_option linter.unusedVariables false
set_option linter.unusedSimpArgs false
set_option maxRecDepth 20000
open Go.RowKit

theorem one_url8 (a b : ByteArray) (k : Int) (c d : ByteArray) : ∀ v ∈ [Value.string a, Value.string b, Value.int .i64 k, Value.string c, Value.string d], v.oneCell' = true := by
  intro v hv
  simp only [List.mem_cons, List.not_mem_nil, or_false] at hv
  rcases hv with rfl | rfl | rfl | rfl | rfl <;> rfl
theorem ul_val (u : UL) : u.val = [Value.string (strOfNums u.sch), Value.string (strOfNums u.host), Value.int .i64 u.port, Value.string (strOfNums u.path), Value.string (strOfNums u.query)] := rfl
def MidW1 (W : World) (L : Blks) (xs : List Int) (n : Nat) (a b : Value) (wx : World) : Prop := ∃ i : Nat, a = .string (strOfNums (aI (jsI xs i))) ∧ b = .string (strOfNums (bI (jsI xs i))) ∧ i ≤ 4 ∧ i ≤ n ∧ ¬ (i < n ∧ i < 4) ∧ Own W wx L
def MidW2 (W : World) (L : Blks) (q : Bool) (s : Value) (wx : World) : Prop := s = .bool q ∧ Own W wx L
set_option maxRecDepth 100000 in
set_option maxHeartbeats 16000000 in
theorem cspWords_walk {W : World} (hV : VarsOk W) (v : Value) (xs : List Int) (hv : InRow .i64 W v xs) (k : Int) (wk : (Lit.int .i64 k).wf = true) (m : Int) (wm : (Lit.int .i64 m).wf = true) :
    Calls Tryd.prog 4 #[v, .int .i64 k, .int .i64 m] W (Yes W) := by
  have HO := Lib.hid (Own.start W)
  have HVV := Lib.hid hV
  obtain ⟨A, n, c, rfl, hn, hc, hm, -, hA⟩ := hv
  have HA := Lib.hid hA; have HN := Lib.hid hn
  have hnm : n ≤ 9223372036854775807 := by unfold maxLen at hm; omega
  clear hV hA hn hm hc wk wm
  go_enter Tryd.func4, Tryd.ntmps4
  go_upto_block 0 with (refine wl_buildSlice rfl _ _ _ rfl HO.out (.cells (srcB.map Value.string).toArray 9) (by kernel_rfl) ?_; intro g7 w1 hO; have HO1 := Lib.hid hO; clear hO HO)
  go_cut [8, 9] (fun a b wx => MidW1 W ((g7, .cells (srcB.map Value.string).toArray 9) :: []) xs n a b wx)
  case first =>
    go_wp2_with fail
    go_loopw [8, 9, 10] (fun av bv iv w' => ∃ i : Nat, av = .string (strOfNums (aI (jsI xs i))) ∧ bv = .string (strOfNums (bI (jsI xs i))) ∧ iv = .int .i64 i ∧ i ≤ 4 ∧ i ≤ n ∧ Hid (Own W w' ((g7, .cells (srcB.map Value.string).toArray 9) :: []))) (fun _ _ iv _ => 4 - (intOf iv).toNat)
    case atStart => exact ⟨0, rfl, rfl, rfl, by omega, by omega, HO1⟩
    case round =>
      obtain ⟨i, rfl, rfl, rfl, hi4, hin, HL⟩ := hrel
      clear HO1
      by_cases h1 : i < n
      · have h1I : (i : Int) < n := by omega
        by_cases h2 : i < 4
        · have h2I : (i : Int) < 4 := by omega
          obtain ⟨ad, rfl, hb, hcell⟩ := HA.out (by omega)
          obtain ⟨x, hx⟩ : ∃ x, xs[i]? = some x := ⟨xs[i]'(by rw [HN.out]; omega), List.getElem?_eq_getElem _⟩
          have hcx := hcell i x hx
          have hsu := jsI_succ hx
          have hj : (x % 7).toNat < 7 := by omega
          have hcl : wr.cell? (ad.add i) = some (.int .i64 x) := by rw [HL.out.below.cell (by rw [block_of_add]; exact hb)]; exact hcx
          have hwn := fun w : World => within_n (w := w) x 7 (by omega) (by omega)
          generalize (x % 7).toNat = j at *
          have hsj : wr.cell? ⟨g7, j, none⟩ = some (.string (strOfNums (srcI j))) := (HL.out.cell (.head _) j).trans (src_at hj)
          have z1 : (strOfNums (srcI j)).size ≤ 10 := by rw [strOfNums_size]; exact (src_words j hj).2.2
          have hlt := jsI_lt xs i
          have hll := jsI_len (xs := xs) (i := i) (by rw [HN.out]; omega)
          have z2 : (strOfNums (aI (jsI xs i))).size ≤ 44 := by rw [strOfNums_size]; have := aI_len _ hlt; omega
          have z3 : (strOfNums (bI (jsI xs i))).size ≤ 58 := by
            rw [strOfNums_size]
            have := bF_len (jsI xs i) [32, 32] hlt
            have e : bI (jsI xs i) = (jsI xs i).foldl bF [32, 32] := rfl
            rw [e]
            simp at this
            omega
          have hna : strOfNums (aI (jsI xs i)) ++ (⟨#[32]⟩ ++ strOfNums (srcI j)) = strOfNums (aI (jsI xs (i + 1))) := by
            rw [hsu, aI_snoc, strs_app, show (32 : Int) :: srcI j = [32] ++ srcI j from rfl, strs_app]
            rfl
          have hnb : ⟨#[32]⟩ ++ strOfNums (srcI j) ++ ⟨#[32, 32, 32]⟩ ++ strOfNums (bI (jsI xs i)) = strOfNums (bI (jsI xs (i + 1))) := by
            rw [hsu, bI_snoc]
            unfold bF
            rw [show (32 : Int) :: (srcI j ++ (32 :: 32 :: 32 :: bI (jsI xs i))) = [32] ++ (srcI j ++ ([32, 32, 32] ++ bI (jsI xs i))) from rfl, strs_app, strs_app, strs_app, ByteArray.append_assoc, ByteArray.append_assoc]
            rfl
          obtain ⟨SS, hSS⟩ : ∃ SS, strOfNums (srcI j) = SS := ⟨_, rfl⟩
          obtain ⟨AS, hAS⟩ : ∃ AS, strOfNums (aI (jsI xs i)) = AS := ⟨_, rfl⟩
          obtain ⟨BS, hBS⟩ : ∃ BS, strOfNums (bI (jsI xs i)) = BS := ⟨_, rfl⟩
          rw [hSS] at hsj z1
          rw [hAS] at z2
          rw [hBS] at z3
          rw [hSS, hAS] at hna
          rw [hSS, hBS] at hnb
          rw [hAS, hBS]
          have HNA := Lib.hid hna; have HNB := Lib.hid hnb; have HWN := Lib.hid hwn
          have hjI : (j : Int) < 7 := by omega
          have n1 : ¬ (9223372036854775807 < 1 + SS.size) := by omega
          have n2 : ¬ (9223372036854775807 < AS.size + (1 + SS.size)) := by omega
          have n3 : ¬ (9223372036854775807 < 1 + SS.size + 3) := by omega
          have n4 : ¬ (9223372036854775807 < 1 + SS.size + 3 + BS.size) := by omega
          clear hna hnb hwn hSS hAS hBS hlt hll hsu hx hcx hcell hb z1 z2 z3
          go_wp2_with fail
          with_reducible refine (HWN.out _).mono ?_
          rintro e w3 ⟨rfl, hww⟩
          subst hww
          go_wp2
          go_roundw
          case rel => exact ⟨i + 1, congrArg Value.string HNA.out, congrArg Value.string HNB.out, by go_num, by omega, by omega, HL⟩
          case measure => simp [intOf]; try omega
        · have h2I : ¬ (i : Int) < 4 := by omega
          go_wp2
          go_meet
          exact ⟨i, rfl, rfl, by omega, by omega, by omega, HL.out⟩
      · have h1I : ¬ (i : Int) < n := by omega
        go_wp2
        go_meet
        exact ⟨i, rfl, rfl, by omega, by omega, by omega, HL.out⟩
  case rest =>
    obtain ⟨K, rfl, rfl, hK4, hKn, hKe, hO⟩ := hcut
    have HO2 := Lib.hid hO
    have hjL := jsI_lt xs K
    have hjl := jsI_len (xs := xs) (i := K) (by rw [HN.out]; omega)
    have hj3 : (k % 3).toNat < 3 := by omega
    have hj5 : (m % 5).toNat < 5 := by omega
    have hw3 := fun w : World => within_n (w := w) k 3 (by omega) (by omega)
    have hw5 := fun w : World => within_n (w := w) m 5 (by omega) (by omega)
    generalize (k % 3).toNat = j3 at *
    generalize (m % 5).toNat = j5 at *
    obtain ⟨tp, page, htp, hpp, hph, hps⟩ := pg_at hj3
    obtain ⟨tu, u, htu, hpu, huh, hus⟩ := to_at hj5
    have hp1 := fun (w1 : World) (R1 : Blks) (h : Own W w1 R1) => uparse_c HVV.out h tp (by omega)
    rw [hpp] at hp1
    have hp2 := fun (w1 : World) (R1 : Blks) (h : Own W w1 R1) => uparse_c HVV.out h tu (by omega)
    rw [hpu] at hp2
    unfold GotE at hp1 hp2
    simp only [Option.getD_some, Option.isSome_some, if_true] at hp1 hp2
    have hla := fun (w1 : World) (R1 : Blks) (h : Own W w1 R1) => callows_c HVV.out h (strOfNums (aI (jsI xs K))) (by rw [strOfNums_size]; have := aI_len _ hjL; omega) page u hph huh
    rw [sb_str (aI_byt _), allows_aI hjL] at hla
    have hlb := fun (w1 : World) (R1 : Blks) (h : Own W w1 R1) => callows_c HVV.out h (strOfNums (bI (jsI xs K))) (by
      rw [strOfNums_size]
      have := bF_len (jsI xs K) [32, 32] hjL
      have e : bI (jsI xs K) = (jsI xs K).foldl bF [32, 32] := rfl
      rw [e]
      simp at this
      omega) page u hph huh
    rw [sb_str (bI_byt _), allows_bI hjL] at hlb
    have hmm := fun (w1 : World) (R1 : Blks) (h : Own W w1 R1) (j : Nat) (hj : j < 7) => cmatch_c HVV.out h (strOfNums (srcI j)) (by rw [strOfNums_size]; have := (src_words j hj).2.2; omega) page u hph huh
    have hmm2 := fun (w1 : World) (R1 : Blks) (h : Own W w1 R1) (j : Nat) (hj : j < 7) => (hmm w1 R1 h j hj).mono (fun e w' hq => by rw [sb_str (srcI_byt j)] at hq; exact hq)
    clear hmm
    obtain ⟨M, hM⟩ : ∃ M : Nat → Bool, (fun j => matchI (srcI j) page u) = M := ⟨_, rfl⟩
    have hM2 : ∀ j, matchI (srcI j) page u = M j := fun j => congrFun hM j
    rw [hM] at hla hlb
    simp only [hM2] at hmm2
    clear hM hM2
    obtain ⟨z, hz⟩ : ∃ z, decide (n = 0) = z := ⟨_, rfl⟩
    have hzI : ((n : Int) == 0) = z := by rw [← hz, Bool.eq_iff_iff, beq_iff_eq, decide_eq_true_iff]; omega
    obtain ⟨ans, hans⟩ : ∃ ans, (z || (jsI xs K).any M) = ans := ⟨_, rfl⟩
    have hans2 : ((jsI xs K).any M || decide (jsI xs K = [])) = ans := by
      rw [← hans, Bool.or_comm]
      congr 1
      rw [← hz, decide_eq_decide, ← List.length_eq_zero_iff, hjl]
      omega
    rw [hans2] at hla hlb
    simp only [ul_val] at hp1 hp2 hla hlb hmm2
    clear hans2 hz hjL hjl hpp hph hpu huh
    generalize strOfNums page.sch = ps at *
    generalize strOfNums page.host = ph at *
    generalize strOfNums page.path = px at *
    generalize strOfNums page.query = pq at *
    generalize page.port = pp at *
    generalize strOfNums u.sch = us at *
    generalize strOfNums u.host = uh at *
    generalize strOfNums u.path = ux at *
    generalize strOfNums u.query = uq at *
    generalize u.port = up at *
    obtain ⟨AS, hAS⟩ : ∃ AS, strOfNums (aI (jsI xs K)) = AS := ⟨_, rfl⟩
    obtain ⟨BS, hBS⟩ : ∃ BS, strOfNums (bI (jsI xs K)) = BS := ⟨_, rfl⟩
    rw [hAS] at hla ⊢
    rw [hBS] at hlb ⊢
    have HP1 := Lib.hid hp1; have HP2 := Lib.hid hp2; have HLA := Lib.hid hla; have HLB := Lib.hid hlb; have HMM := Lib.hid hmm2; have HANS := Lib.hid hans
    have HW3 := Lib.hid hw3; have HW5 := Lib.hid hw5; have HTP := Lib.hid htp; have HTU := Lib.hid htu
    have hj3I : (j3 : Int) < 3 := by omega
    have hj5I : (j5 : Int) < 5 := by omega
    clear hO HO1 hp1 hp2 hla hlb hmm2 hans hw3 hw5 htp htu hAS hBS hps hus
    go_wp2_with (refine wl_buildSlice rfl _ _ _ rfl HO2.out (.cells (pgB.map Value.string).toArray 9) (by kernel_rfl) ?_; intro g49 w3 hO; have HO3 := Lib.hid hO; clear hO HO2)
    with_reducible refine (HW3.out _).mono ?_
    rintro e w4 ⟨rfl, hww⟩
    subst hww
    have kp : w3.cell? ⟨g49, j3, none⟩ = some (.string tp) := (HO3.out.cell (.head _) j3).trans HTP.out
    go_wp2_with fail
    with_reducible refine (HP1.out _ _ HO3.out).mono ?_
    rintro e w5 ⟨rfl, hO⟩
    have HO4 := Lib.hid hO; clear hO HO3 HP1 kp
    go_wp2_with (first | (refine wl_alloc rfl _ rfl HO4.out _ (alloc_url _) ?_; intro g12 w6 hO; have HO4b := Lib.hid hO; clear hO HO4) | (refine wl_store rfl _ _ _ rfl HO4b.out 0 g12 0 _ [Value.string ps, Value.string ph, Value.int .i64 pp, Value.string px, Value.string pq] _ rfl (by rfl) (by rfl) url_size (one_url8 _ _ _ _ _) (by simp [UL.val, UL.zero]) ?_; intro w7 hO; have HO5 := Lib.hid (hO.cast (L' := (g12, .cells [Value.string ps, Value.string ph, Value.int .i64 pp, Value.string px, Value.string pq].toArray 23) :: (g49, .cells (pgB.map Value.string).toArray 9) :: (g7, .cells (srcB.map Value.string).toArray 9) :: []) rfl); clear hO HO4b) | (refine wl_buildSlice rfl _ _ _ rfl HO5.out (.cells (toB11.map Value.string).toArray 9) (by kernel_rfl) ?_; intro g58 w8 hO; have HO6 := Lib.hid hO; clear hO HO5))
    with_reducible refine (HW5.out _).mono ?_
    rintro e w9 ⟨rfl, hww⟩
    subst hww
    have ku : w8.cell? ⟨g58, j5, none⟩ = some (.string tu) := (HO6.out.cell (.head _) j5).trans HTU.out
    go_wp2_with fail
    with_reducible refine (HP2.out _ _ HO6.out).mono ?_
    rintro e w10 ⟨rfl, hO⟩
    have HO7 := Lib.hid hO; clear hO HO6 HP2 ku
    go_upto_region 11 with (first | (refine wl_alloc rfl _ rfl HO7.out _ (alloc_url _) ?_; intro g14 w11 hO; have HO7b := Lib.hid hO; clear hO HO7) | (refine wl_store rfl _ _ _ rfl HO7b.out 0 g14 0 _ [Value.string us, Value.string uh, Value.int .i64 up, Value.string ux, Value.string uq] _ rfl (by rfl) (by rfl) url_size (one_url8 _ _ _ _ _) (by simp [UL.val, UL.zero]) ?_; intro w12 hO; have HO8 := Lib.hid (hO.cast (L' := (g14, .cells [Value.string us, Value.string uh, Value.int .i64 up, Value.string ux, Value.string uq].toArray 23) :: (g58, .cells (toB11.map Value.string).toArray 9) :: (g12, .cells [Value.string ps, Value.string ph, Value.int .i64 pp, Value.string px, Value.string pq].toArray 23) :: (g49, .cells (pgB.map Value.string).toArray 9) :: (g7, .cells (srcB.map Value.string).toArray 9) :: []) rfl); clear hO HO7b))
    refine wp_region_lin (fun w' => Own W w' ((g14, .cells [Value.string us, Value.string uh, Value.int .i64 up, Value.string ux, Value.string uq].toArray 23) :: (g58, .cells (toB11.map Value.string).toArray 9) :: (g12, .cells [Value.string ps, Value.string ph, Value.int .i64 pp, Value.string px, Value.string pq].toArray 23) :: (g49, .cells (pgB.map Value.string).toArray 9) :: (g7, .cells (srcB.map Value.string).toArray 9) :: [])) 13 [(0, true), (1, true), (2, true), (3, true), (4, true), (5, true), (7, true), (8, true), (9, true), (6, false), (10, false), (11, true), (12, true)] (by kernel_rfl) (by kernel_rfl) (fun _ _ d _ _ h => by cases d <;> exact h) HO8.out.drew ?_
    simp only [List.map_cons, List.map_nil, pick_zero, pick_succ, List.drop_succ_cons, List.drop_zero]
    have HR0 := Lib.hid HO8.out.drew; clear HO8
    refine lin_q ?_ rfl ?_ ?_; rotate_left 1; (focus (rintro w' hO; clear hO; go_simp; first | done | with_reducible rfl | (trace_state; fail))); simp only [Act.put, List.setIfInBounds_toArray, List.set_cons_zero, List.set_cons_succ]
    refine lin_q ?_ rfl ?_ ?_; rotate_left 1; (focus (rintro w' hO; clear hO; go_simp; first | done | with_reducible rfl | (trace_state; fail))); simp only [Act.put, List.setIfInBounds_toArray, List.set_cons_zero, List.set_cons_succ]
    refine lin_q ?_ rfl ?_ ?_; rotate_left 1; (focus (rintro w' hO; clear hO; go_simp; first | done | with_reducible rfl | (trace_state; fail))); simp only [Act.put, List.setIfInBounds_toArray, List.set_cons_zero, List.set_cons_succ]
    refine lin_g ?_ (by rfl) ?_ ?_; rotate_left 1; (focus (rintro w' hO; clear hO; go_simp; first | done | with_reducible rfl | (trace_state; fail))); simp only [Act.put, List.setIfInBounds_toArray, List.set_cons_zero, List.set_cons_succ]
    refine lin_loadG (by rfl) _ _ rfl g12 0 [Value.string ps, Value.string ph, Value.int .i64 pp, Value.string px, Value.string pq] [Value.string ps, Value.string ph, Value.int .i64 pp, Value.string px, Value.string pq] 23 (by rfl) _ Tryd.underlying23 rfl url_size (by rfl) (fun w' hO => hO.heap (.tail _ (.tail _ (.head _)))) ?_; simp only [Act.put, List.setIfInBounds_toArray, List.set_cons_zero, List.set_cons_succ]
    refine lin_loadG (by rfl) _ _ rfl g14 0 [Value.string us, Value.string uh, Value.int .i64 up, Value.string ux, Value.string uq] [Value.string us, Value.string uh, Value.int .i64 up, Value.string ux, Value.string uq] 23 (by rfl) _ Tryd.underlying23 rfl url_size (by rfl) (fun w' hO => hO.heap (.head _)) ?_; simp only [Act.put, List.setIfInBounds_toArray, List.set_cons_zero, List.set_cons_succ]
    refine lin_g ?_ (by rfl) ?_ ?_; rotate_left 1; (focus (rintro w' hO; clear hO; go_simp; first | done | with_reducible rfl | (trace_state; fail))); simp only [Act.put, List.setIfInBounds_toArray, List.set_cons_zero, List.set_cons_succ]
    refine lin_loadG (by rfl) _ _ rfl g12 0 [Value.string ps, Value.string ph, Value.int .i64 pp, Value.string px, Value.string pq] [Value.string ps, Value.string ph, Value.int .i64 pp, Value.string px, Value.string pq] 23 (by rfl) _ Tryd.underlying23 rfl url_size (by rfl) (fun w' hO => hO.heap (.tail _ (.tail _ (.head _)))) ?_; simp only [Act.put, List.setIfInBounds_toArray, List.set_cons_zero, List.set_cons_succ]
    refine lin_loadG (by rfl) _ _ rfl g14 0 [Value.string us, Value.string uh, Value.int .i64 up, Value.string ux, Value.string uq] [Value.string us, Value.string uh, Value.int .i64 up, Value.string ux, Value.string uq] 23 (by rfl) _ Tryd.underlying23 rfl url_size (by rfl) (fun w' hO => hO.heap (.head _)) ?_; simp only [Act.put, List.setIfInBounds_toArray, List.set_cons_zero, List.set_cons_succ]
    refine lin_act ?_
    refine wl_g (by rfl) ?_
    refine wl_call rfl _ _ _ (by go_simp) (HLA.out _ _ HR0.out) ?_
    rintro e wzHR1 ⟨rfl, hO⟩
    have HR1 := Lib.hid hO; clear hO HR0
    refine ⟨_, rfl, LinPost.mk HR1.out ?_⟩
    simp only [Act.put, List.setIfInBounds_toArray, List.set_cons_zero, List.set_cons_succ]
    refine lin_act ?_
    refine wl_g (by rfl) ?_
    refine wl_call rfl _ _ _ (by go_simp) (HLB.out _ _ HR1.out) ?_
    rintro e wzHR2 ⟨rfl, hO⟩
    have HR2 := Lib.hid hO; clear hO HR1
    refine ⟨_, rfl, LinPost.mk HR2.out ?_⟩
    simp only [Act.put, List.setIfInBounds_toArray, List.set_cons_zero, List.set_cons_succ]
    refine lin_g ?_ (by rfl) ?_ ?_; rotate_left 1; (focus (rintro w' hO; clear hO; go_simp; first | done | with_reducible rfl | (trace_state; fail))); simp only [Act.put, List.setIfInBounds_toArray, List.set_cons_zero, List.set_cons_succ]
    refine lin_q ?_ rfl ?_ ?_; rotate_left 1; (focus (rintro w' hO; clear hO; go_simp; first | done | with_reducible rfl | (trace_state; fail))); simp only [Act.put, List.setIfInBounds_toArray, List.set_cons_zero, List.set_cons_succ]
    refine lin_nil ?_
    have u0 : (ans != ans) = false := by cases ans <;> rfl
    have HO9 := HR2
    go_upto_block 2 with fail
    go_cut [16] (fun s wx => MidW2 W ((g14, .cells [Value.string us, Value.string uh, Value.int .i64 up, Value.string ux, Value.string uq].toArray 23) :: (g58, .cells (toB11.map Value.string).toArray 9) :: (g12, .cells [Value.string ps, Value.string ph, Value.int .i64 pp, Value.string px, Value.string pq].toArray 23) :: (g49, .cells (pgB.map Value.string).toArray 9) :: (g7, .cells (srcB.map Value.string).toArray 9) :: []) ans s wx)
    case first =>
      go_wp2_with fail
      go_loopw [16, 17] (fun sv iv w' => ∃ i : Nat, sv = .bool (z || (jsI xs i).any M) ∧ iv = .int .i64 i ∧ i ≤ 4 ∧ i ≤ n ∧ Hid (Own W w' ((g14, .cells [Value.string us, Value.string uh, Value.int .i64 up, Value.string ux, Value.string uq].toArray 23) :: (g58, .cells (toB11.map Value.string).toArray 9) :: (g12, .cells [Value.string ps, Value.string ph, Value.int .i64 pp, Value.string px, Value.string pq].toArray 23) :: (g49, .cells (pgB.map Value.string).toArray 9) :: (g7, .cells (srcB.map Value.string).toArray 9) :: []))) (fun _ iv _ => 4 - (intOf iv).toNat)
      case atStart => exact ⟨0, by first | rfl | (simp [jsI, hzI]), rfl, by omega, by omega, HO9⟩
      case round =>
        obtain ⟨i, rfl, rfl, hi4, hin, HL⟩ := hrel
        clear HO9
        by_cases h1 : i < n
        · have h1I : (i : Int) < n := by omega
          by_cases h2 : i < 4
          · have h2I : (i : Int) < 4 := by omega
            obtain ⟨bs, hbs⟩ : ∃ bs, (z || (jsI xs i).any M) = bs := ⟨_, rfl⟩
            rw [hbs]
            cases bs with
            | true =>
              obtain ⟨ad, rfl, hb, hcell⟩ := HA.out (by omega)
              obtain ⟨x, hx⟩ : ∃ x, xs[i]? = some x := ⟨xs[i]'(by rw [HN.out]; omega), List.getElem?_eq_getElem _⟩
              have hcx := hcell i x hx
              have hsu := jsI_succ hx
              have hj : (x % 7).toNat < 7 := by omega
              have hjL := jsI_lt xs (i + 1)
              generalize hjj : (x % 7).toNat = j at *
              have hnew : true = (z || (jsI xs (i + 1)).any M) := by
                rw [hsu, List.any_append]
                cases z
                · rw [Bool.false_or] at hbs
                  rw [hbs]
                  rfl
                · rfl
              have HNEW := Lib.hid hnew
              have hjI : (j : Int) < 7 := by omega
              clear hnew hbs hsu hx hcx hcell hb hjL hjj
              go_upto_region 17 with fail
              refine wp_region_lin (fun w' => Own W w' ((g14, .cells [Value.string us, Value.string uh, Value.int .i64 up, Value.string ux, Value.string uq].toArray 23) :: (g58, .cells (toB11.map Value.string).toArray 9) :: (g12, .cells [Value.string ps, Value.string ph, Value.int .i64 pp, Value.string px, Value.string pq].toArray 23) :: (g49, .cells (pgB.map Value.string).toArray 9) :: (g7, .cells (srcB.map Value.string).toArray 9) :: [])) 17 [(0, true), (1, true), (2, true), (3, true), (4, true), (5, true), (6, true), (7, true), (8, true), (12, true), (13, true), (9, false), (10, true), (11, true), (14, false), (15, true), (16, true)] (by kernel_rfl) (by kernel_rfl) (fun _ _ d _ _ h => by cases d <;> exact h) HL.out.drew ?_
              simp only [List.map_cons, List.map_nil, pick_zero, pick_succ, List.drop_succ_cons, List.drop_zero]
              have HR0 := Lib.hid HL.out.drew; clear HL
              refine lin_q ?_ rfl ?_ ?_; rotate_left 1; (focus (rintro w' hO; clear hO; go_simp; first | done | with_reducible rfl | (trace_state; fail))); simp only [Act.put, List.setIfInBounds_toArray, List.set_cons_zero, List.set_cons_succ]
              refine lin_q ?_ rfl ?_ ?_; rotate_left 1; (focus (rintro w' hO; clear hO; go_simp; first | done | with_reducible rfl | (trace_state; fail))); simp only [Act.put, List.setIfInBounds_toArray, List.set_cons_zero, List.set_cons_succ]
              refine lin_no (by rfl) ?_; simp only [Act.put, List.setIfInBounds_toArray, List.set_cons_zero, List.set_cons_succ]
              refine lin_no (by rfl) ?_; simp only [Act.put, List.setIfInBounds_toArray, List.set_cons_zero, List.set_cons_succ]
              refine lin_no (by rfl) ?_; simp only [Act.put, List.setIfInBounds_toArray, List.set_cons_zero, List.set_cons_succ]
              refine lin_no (by rfl) ?_; simp only [Act.put, List.setIfInBounds_toArray, List.set_cons_zero, List.set_cons_succ]
              refine lin_no (by rfl) ?_; simp only [Act.put, List.setIfInBounds_toArray, List.set_cons_zero, List.set_cons_succ]
              refine lin_no (by rfl) ?_; simp only [Act.put, List.setIfInBounds_toArray, List.set_cons_zero, List.set_cons_succ]
              refine lin_no (by rfl) ?_; simp only [Act.put, List.setIfInBounds_toArray, List.set_cons_zero, List.set_cons_succ]
              refine lin_no (by rfl) ?_; simp only [Act.put, List.setIfInBounds_toArray, List.set_cons_zero, List.set_cons_succ]
              refine lin_no (by rfl) ?_; simp only [Act.put, List.setIfInBounds_toArray, List.set_cons_zero, List.set_cons_succ]
              refine lin_actno (by rfl) HR0.out ?_; simp only [Act.put, List.setIfInBounds_toArray, List.set_cons_zero, List.set_cons_succ]
              refine lin_no (by rfl) ?_; simp only [Act.put, List.setIfInBounds_toArray, List.set_cons_zero, List.set_cons_succ]
              refine lin_no (by rfl) ?_; simp only [Act.put, List.setIfInBounds_toArray, List.set_cons_zero, List.set_cons_succ]
              refine lin_actno (by rfl) HR0.out ?_; simp only [Act.put, List.setIfInBounds_toArray, List.set_cons_zero, List.set_cons_succ]
              refine lin_q ?_ rfl ?_ ?_; rotate_left 1; (focus (rintro w' hO; clear hO; go_simp; first | done | with_reducible rfl | (trace_state; fail))); simp only [Act.put, List.setIfInBounds_toArray, List.set_cons_zero, List.set_cons_succ]
              refine lin_q ?_ rfl ?_ ?_; rotate_left 1; (focus (rintro w' hO; clear hO; go_simp; first | done | with_reducible rfl | (trace_state; fail))); simp only [Act.put, List.setIfInBounds_toArray, List.set_cons_zero, List.set_cons_succ]
              refine lin_nil ?_
              go_wp2
              go_roundw
              case rel => exact ⟨i + 1, congrArg Value.bool HNEW.out, by go_num, by omega, by omega, Lib.hid HR0.out⟩
              case measure => simp [intOf]; try omega
            | false =>
              obtain ⟨ad, rfl, hb, hcell⟩ := HA.out (by omega)
              obtain ⟨x, hx⟩ : ∃ x, xs[i]? = some x := ⟨xs[i]'(by rw [HN.out]; omega), List.getElem?_eq_getElem _⟩
              have hcx := hcell i x hx
              have hsu := jsI_succ hx
              have hj : (x % 7).toNat < 7 := by omega
              have hjL := jsI_lt xs (i + 1)
              generalize hjj : (x % 7).toNat = j at *
              have hnew : M j = (z || (jsI xs (i + 1)).any M) := by
                rw [hsu, List.any_append]
                cases z
                · rw [Bool.false_or] at hbs
                  rw [hbs]
                  simp
                · cases hbs
              have hwn := fun (w1 : World) (R1 : Blks) (h : Own W w1 R1) => (within_n (w := w1) x 7 (by omega) (by omega)).mono (fun e w' hq => And.intro hq.1 (hq.2 ▸ h))
              rw [hjj] at hwn
              have hmj := fun (w1 : World) (R1 : Blks) (h : Own W w1 R1) => HMM.out w1 R1 h j hj
              have hsj : ((srcB.map Value.string).toArray)[j]? = some (Value.string (strOfNums (srcI j))) := src_at hj
              obtain ⟨SS, hSS⟩ : ∃ SS, strOfNums (srcI j) = SS := ⟨_, rfl⟩
              rw [hSS] at hsj hmj
              obtain ⟨mj, hmje⟩ : ∃ mj, M j = mj := ⟨_, rfl⟩
              rw [hmje] at hnew hmj
              have HNEW := Lib.hid hnew; have HWN := Lib.hid hwn; have HMJ := Lib.hid hmj; have HSJ := Lib.hid hsj; have HCX := Lib.hid hcx; have HAB := Lib.hid hb
              have hjI : (j : Int) < 7 := by omega
              clear hnew hbs hsu hx hcx hcell hb hjL hjj hwn hmj hsj hSS hmje
              go_upto_region 17 with fail
              refine wp_region_lin (fun w' => Own W w' ((g14, .cells [Value.string us, Value.string uh, Value.int .i64 up, Value.string ux, Value.string uq].toArray 23) :: (g58, .cells (toB11.map Value.string).toArray 9) :: (g12, .cells [Value.string ps, Value.string ph, Value.int .i64 pp, Value.string px, Value.string pq].toArray 23) :: (g49, .cells (pgB.map Value.string).toArray 9) :: (g7, .cells (srcB.map Value.string).toArray 9) :: [])) 17 [(0, true), (1, true), (2, true), (3, true), (4, true), (5, true), (6, true), (7, true), (8, true), (12, true), (13, true), (9, false), (10, true), (11, true), (14, false), (15, true), (16, true)] (by kernel_rfl) (by kernel_rfl) (fun _ _ d _ _ h => by cases d <;> exact h) HL.out.drew ?_
              simp only [List.map_cons, List.map_nil, pick_zero, pick_succ, List.drop_succ_cons, List.drop_zero]
              have HR0 := Lib.hid HL.out.drew; clear HL
              refine lin_q ?_ rfl ?_ ?_; rotate_left 1; (focus (rintro w' hO; clear hO; go_simp; first | done | with_reducible rfl | (trace_state; fail))); simp only [Act.put, List.setIfInBounds_toArray, List.set_cons_zero, List.set_cons_succ]
              refine lin_q ?_ rfl ?_ ?_; rotate_left 1; (focus (rintro w' hO; clear hO; go_simp; first | done | with_reducible rfl | (trace_state; fail))); simp only [Act.put, List.setIfInBounds_toArray, List.set_cons_zero, List.set_cons_succ]
              refine lin_g ?_ (by rfl) ?_ ?_; rotate_left 1; (focus (rintro w' hO; clear hO; go_simp; first | done | with_reducible rfl | (trace_state; fail))); simp only [Act.put, List.setIfInBounds_toArray, List.set_cons_zero, List.set_cons_succ]
              refine lin_g ?_ (by rfl) ?_ ?_; rotate_left 1; (focus (rintro w' hO; clear hO; go_simp; first | done | with_reducible rfl | (trace_state; fail))); simp only [Act.put, List.setIfInBounds_toArray, List.set_cons_zero, List.set_cons_succ]
              refine lin_g ?_ (by rfl) ?_ ?_; rotate_left 1; (focus (rintro w' hO; clear hO; go_simp; first | done | with_reducible rfl | (trace_state; fail))); simp only [Act.put, List.setIfInBounds_toArray, List.set_cons_zero, List.set_cons_succ]
              refine lin_g ?_ (by rfl) ?_ ?_; rotate_left 1; (focus (rintro w' hO; clear hO; go_simp; first | done | with_reducible rfl | (trace_state; fail))); simp only [Act.put, List.setIfInBounds_toArray, List.set_cons_zero, List.set_cons_succ]
              refine lin_g ?_ (by rfl) ?_ ?_; rotate_left 1; (focus (rintro w' hO; have k1 : w'.cell? (ad.add i) = some (.int .i64 x) := (by rw [hO.below.cell (by rw [block_of_add]; exact HAB.out)]; exact HCX.out); clear hO; go_simp; first | done | with_reducible rfl | (trace_state; fail))); simp only [Act.put, List.setIfInBounds_toArray, List.set_cons_zero, List.set_cons_succ]
              refine lin_g ?_ (by rfl) ?_ ?_; rotate_left 1; (focus (rintro w' hO; clear hO; go_simp; first | done | with_reducible rfl | (trace_state; fail))); simp only [Act.put, List.setIfInBounds_toArray, List.set_cons_zero, List.set_cons_succ]
              refine lin_g ?_ (by rfl) ?_ ?_; rotate_left 1; (focus (rintro w' hO; clear hO; go_simp; first | done | with_reducible rfl | (trace_state; fail))); simp only [Act.put, List.setIfInBounds_toArray, List.set_cons_zero, List.set_cons_succ]
              refine lin_loadG (by rfl) _ _ rfl g12 0 [Value.string ps, Value.string ph, Value.int .i64 pp, Value.string px, Value.string pq] [Value.string ps, Value.string ph, Value.int .i64 pp, Value.string px, Value.string pq] 23 (by rfl) _ Tryd.underlying23 rfl url_size (by rfl) (fun w' hO => hO.heap (.tail _ (.tail _ (.head _)))) ?_; simp only [Act.put, List.setIfInBounds_toArray, List.set_cons_zero, List.set_cons_succ]
              refine lin_loadG (by rfl) _ _ rfl g14 0 [Value.string us, Value.string uh, Value.int .i64 up, Value.string ux, Value.string uq] [Value.string us, Value.string uh, Value.int .i64 up, Value.string ux, Value.string uq] 23 (by rfl) _ Tryd.underlying23 rfl url_size (by rfl) (fun w' hO => hO.heap (.head _)) ?_; simp only [Act.put, List.setIfInBounds_toArray, List.set_cons_zero, List.set_cons_succ]
              refine lin_act ?_
              refine wl_g (by rfl) ?_
              refine wl_call rfl _ _ _ (by go_simp) (HWN.out _ _ HR0.out) ?_
              rintro e wzHR1 ⟨rfl, hO⟩
              have HR1 := Lib.hid hO; clear hO HR0
              refine ⟨_, rfl, LinPost.mk HR1.out ?_⟩
              simp only [Act.put, List.setIfInBounds_toArray, List.set_cons_zero, List.set_cons_succ]
              refine lin_g ?_ (by rfl) ?_ ?_; rotate_left 1; (focus (rintro w' hO; clear hO; go_simp; first | done | with_reducible rfl | (trace_state; fail))); simp only [Act.put, List.setIfInBounds_toArray, List.set_cons_zero, List.set_cons_succ]
              refine lin_g ?_ (by rfl) ?_ ?_; rotate_left 1; (focus (rintro w' hO; have k1 : w'.cell? ⟨g7, j, none⟩ = some (.string SS) := (hO.cell (.tail _ (.tail _ (.tail _ (.tail _ (.head _))))) j).trans HSJ.out; clear hO; go_simp; first | done | with_reducible rfl | (trace_state; fail))); simp only [Act.put, List.setIfInBounds_toArray, List.set_cons_zero, List.set_cons_succ]
              refine lin_act ?_
              refine wl_g (by rfl) ?_
              refine wl_call rfl _ _ _ (by go_simp) (HMJ.out _ _ HR1.out) ?_
              rintro e wzHR2 ⟨rfl, hO⟩
              have HR2 := Lib.hid hO; clear hO HR1
              refine ⟨_, rfl, LinPost.mk HR2.out ?_⟩
              simp only [Act.put, List.setIfInBounds_toArray, List.set_cons_zero, List.set_cons_succ]
              refine lin_q ?_ rfl ?_ ?_; rotate_left 1; (focus (rintro w' hO; clear hO; go_simp; first | done | with_reducible rfl | (trace_state; fail))); simp only [Act.put, List.setIfInBounds_toArray, List.set_cons_zero, List.set_cons_succ]
              refine lin_q ?_ rfl ?_ ?_; rotate_left 1; (focus (rintro w' hO; clear hO; go_simp; first | done | with_reducible rfl | (trace_state; fail))); simp only [Act.put, List.setIfInBounds_toArray, List.set_cons_zero, List.set_cons_succ]
              refine lin_nil ?_
              go_wp2
              go_roundw
              case rel => exact ⟨i + 1, congrArg Value.bool HNEW.out, by go_num, by omega, by omega, Lib.hid HR2.out⟩
              case measure => simp [intOf]; try omega
          · have h2I : ¬ (i : Int) < 4 := by omega
            have hiK : i = K := by omega
            have HE : Hid ((z || (jsI xs i).any M) = ans) := Lib.hid (by rw [hiK]; exact HANS.out)
            clear hiK
            generalize (z || (jsI xs i).any M) = bs at *
            go_wp2
            go_meet
            exact ⟨congrArg Value.bool HE.out, HL.out⟩
        · have h1I : ¬ (i : Int) < n := by omega
          have hiK : i = K := by omega
          have HE : Hid ((z || (jsI xs i).any M) = ans) := Lib.hid (by rw [hiK]; exact HANS.out)
          clear hiK
          generalize (z || (jsI xs i).any M) = bs at *
          go_wp2
          go_meet
          exact ⟨congrArg Value.bool HE.out, HL.out⟩
    case rest =>
      obtain ⟨rfl, hO⟩ := hcut
      have HO10 := Lib.hid hO
      have HWK := Lib.hid (fun (w1 : World) (R1 : Blks) (h : Own W w1 R1) => wakes11_c HVV.out h)
      have u1 : (ans == ans) = true := beq_self_eq_true ans
      clear hO HO9 HANS HMM HLB
      go_wp2_with (first | (refine wl_load rfl _ _ rfl g12 0 [Value.string ps, Value.string ph, Value.int .i64 pp, Value.string px, Value.string pq] [Value.string ps, Value.string ph, Value.int .i64 pp, Value.string px, Value.string pq] _ (HO10.out.heap (.tail _ (.tail _ (.head _)))) (by rfl) _ Tryd.underlying23 rfl url_size (by rfl) ?_) | (refine wl_load rfl _ _ rfl g14 0 [Value.string us, Value.string uh, Value.int .i64 up, Value.string ux, Value.string uq] [Value.string us, Value.string uh, Value.int .i64 up, Value.string ux, Value.string uq] _ (HO10.out.heap (.head _)) (by rfl) _ Tryd.underlying23 rfl url_size (by rfl) ?_))
      with_reducible refine (HLA.out _ _ HO10.out).mono ?_
      rintro e w14 ⟨rfl, hO⟩
      have HO11 := Lib.hid hO; clear hO HO10 HLA
      go_wp2_with fail
      with_reducible refine (HWK.out _ _ HO11.out).mono ?_
      rintro e w15 ⟨rfl, hO⟩
      have HO12 := Lib.hid hO; clear hO HO11 HWK
      go_wp2
      go_ret
      exact HO12.out.yes rfl
end Go.Proofs.YtfgaikacijdodaaDoor
