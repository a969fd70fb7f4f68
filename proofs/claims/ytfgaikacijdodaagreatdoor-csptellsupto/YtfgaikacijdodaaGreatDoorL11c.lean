/-
  The walk of CspTells: of any list, any source, any page, any URL: the landed program answers as the document's own functions.
-/
import Derived.Test.YtfgaikacijdodaaGreatDoorM12
import Derived.Test.YtfgaikacijdodaaGreatDoorM13
import Derived.Test.YtfgaikacijdodaaGreatDoorM1
namespace Go.Proofs.YtfgaikacijdodaaGreatDoor
set_option linter.unusedVariables false
set_option linter.unusedSimpArgs false
set_option maxRecDepth 20000
open Go.RowKit

def MidX11 (w : World) (s : Value) (wx : World) : Prop := ∃ x : ByteArray, s = .string x ∧ x.size ≤ 1050000 ∧ wx = w
def MidT11 (W : World) (PV UV : List Value) (L : Blks) (s16 s17 : Value) (wx : World) : Prop := ∃ g h : Nat, s16 = .pointer (some ⟨g, 0, none⟩) ∧ s17 = .pointer (some ⟨h, 0, none⟩) ∧ Own W wx ((g, .cells PV.toArray 29) :: (h, .cells UV.toArray 29) :: L)
theorem one_url5' (a b : ByteArray) (k : Int) (c d : ByteArray) : ∀ v ∈ [Value.string a, Value.string b, Value.int .i64 k, Value.string c, Value.string d], v.oneCell' = true := by
  intro v hv
  simp only [List.mem_cons, List.not_mem_nil, or_false] at hv
  rcases hv with rfl | rfl | rfl | rfl | rfl <;> rfl
set_option maxRecDepth 100000 in
set_option maxHeartbeats 16000000 in
theorem cspTells_walk {W : World} (hV : VarsOk W) (n : Int) (wn : (Lit.int .i64 n).wf = true) (m : Int) (wm : (Lit.int .i64 m).wf = true) (k : Int) (wk : (Lit.int .i64 k).wf = true) (s : ByteArray) (hs : s.size ≤ 1048576) (raw : Bool) :
    Calls Tryz.prog 3 #[.int .i64 n, .int .i64 m, .int .i64 k, .string s, .bool raw] W (Yes W) := by
  have HO := Lib.hid (Own.start W)
  have HVV := Lib.hid hV
  have hpl := fun (w1 : World) (R1 : Blks) (h : Own W w1 R1) => plist_c h n wn s
  have HPL := Lib.hid hpl
  clear hpl hV wn wm wk
  go_enter Tryz.func3, Tryz.ntmps3
  go_wp2_with fail
  with_reducible refine (HPL.out _ _ HO.out).mono ?_
  rintro e w1 ⟨t, rfl, ht, hO⟩
  have HO1 := Lib.hid hO; clear hO HO HPL
  have HT : Hid (t.size ≤ 1050000) := Lib.hid (by rcases ht with h | rfl; have := listB_size t h; omega; omega)
  clear ht
  go_upto_if 21 with fail
  go_cut [11] (fun s11 wx => MidX11 w1 s11 wx)
  case first =>
    cases raw with
    | true =>
      go_wp2
      go_meet
      exact ⟨s, rfl, by omega, rfl⟩
    | false =>
      go_wp2
      go_meet
      exact ⟨t, rfl, HT.out, rfl⟩
  case rest =>
    obtain ⟨x, rfl, hx, rfl⟩ := hcut
    clear HT
    go_wp2_with fail
    with_reducible refine (curl_c HO1.out m).mono ?_
    rintro e wag12 ⟨tg12, page, rfl, ht, hpar, hhalf, hO⟩
    have HOpg12 := Lib.hid hO; clear hO HO1
    have hup := uparse_c HVV.out HOpg12.out tg12 (by omega)
    rw [hpar] at hup
    have HUPg12 := Lib.hid hup; have HHg12 := Lib.hid hhalf
    clear hup hpar hhalf ht
    go_wp2_with fail
    with_reducible refine HUPg12.out.mono ?_
    rintro e wbg12 ⟨rfl, hO⟩
    have HOqg12 := Lib.hid hO; clear hO HOpg12 HUPg12
    simp only [Option.getD_some, Option.isSome_some, if_true, UL.val]
    have hrmat0 := fun (w1 : World) (R1 : Blks) (h : Own W w1 R1) (u : UL) (hu : u.Half) => rmatch_c h x (by omega) page u HHg12.out hu
    have hrall0 := fun (w1 : World) (R1 : Blks) (h : Own W w1 R1) (u : UL) (hu : u.Half) => rallows_c h x (by omega) page u HHg12.out hu
    have hmat0 := fun (w1 : World) (R1 : Blks) (h : Own W w1 R1) (u : UL) (hu : u.Half) => cmatch_c HVV.out h x (by omega) page u HHg12.out hu
    have hall0 := fun (w1 : World) (R1 : Blks) (h : Own W w1 R1) (u : UL) (hu : u.Half) => callows_c HVV.out h x (by omega) page u HHg12.out hu
    obtain ⟨fm, hfm⟩ : ∃ f : UL → Bool, (fun u => matchI (sb x) page u) = f := ⟨_, rfl⟩
    obtain ⟨fa, hfa⟩ : ∃ f : UL → Bool, (fun u => allowsI (sb x) page u) = f := ⟨_, rfl⟩
    have efm : ∀ u, matchI (sb x) page u = fm u := fun u => congrFun hfm u
    have efa : ∀ u, allowsI (sb x) page u = fa u := fun u => congrFun hfa u
    simp only [efm, efa, UL.val] at hrmat0 hrall0 hmat0 hall0
    clear hfm hfa efm efa
    generalize strOfNums page.sch = ps at *
    generalize strOfNums page.host = ph at *
    generalize strOfNums page.path = px at *
    generalize strOfNums page.query = pq at *
    generalize page.port = pp at *
    have HRM0 := Lib.hid hrmat0; have HRA0 := Lib.hid hrall0; have HM0 := Lib.hid hmat0; have HA0 := Lib.hid hall0
    clear hrmat0 hrall0 hmat0 hall0 HHg12
    go_wp2_with (first | (refine wl_alloc rfl _ rfl HOqg12.out _ (alloc_url _) ?_; intro g12 w4 hO; have HO4 := Lib.hid hO; clear hO HOqg12) | (refine wl_store rfl _ _ _ rfl HO4.out 0 g12 0 _ [Value.string ps, Value.string ph, Value.int .i64 pp, Value.string px, Value.string pq] _ rfl (by rfl) (by rfl) url_size (one_url5' _ _ _ _ _) (by simp [UL.val, UL.zero]) ?_; intro w5 hO; have HO5 := Lib.hid (hO.cast (L' := (g12, .cells [Value.string ps, Value.string ph, Value.int .i64 pp, Value.string px, Value.string pq].toArray 24) :: []) rfl); clear hO HO4))
    with_reducible refine (curl_c HO5.out k).mono ?_
    rintro e wag14 ⟨tg14, u, rfl, ht, hpar, hhalf, hO⟩
    have HOpg14 := Lib.hid hO; clear hO HO5
    have hup := uparse_c HVV.out HOpg14.out tg14 (by omega)
    rw [hpar] at hup
    have HUPg14 := Lib.hid hup
    have hrmat := fun (w1 : World) (R1 : Blks) (h : Own W w1 R1) => HRM0.out w1 R1 h u hhalf
    have hrall := fun (w1 : World) (R1 : Blks) (h : Own W w1 R1) => HRA0.out w1 R1 h u hhalf
    have hmat := fun (w1 : World) (R1 : Blks) (h : Own W w1 R1) => HM0.out w1 R1 h u hhalf
    have hall := fun (w1 : World) (R1 : Blks) (h : Own W w1 R1) => HA0.out w1 R1 h u hhalf
    clear hup hpar hhalf ht HRM0 HRA0 HM0 HA0
    go_wp2_with fail
    with_reducible refine HUPg14.out.mono ?_
    rintro e wbg14 ⟨rfl, hO⟩
    have HOqg14 := Lib.hid hO; clear hO HOpg14 HUPg14
    simp only [Option.getD_some, Option.isSome_some, if_true, UL.val]
    generalize fm u = bm at *
    generalize fa u = ba at *
    generalize strOfNums u.sch = us at *
    generalize strOfNums u.host = uh at *
    generalize strOfNums u.path = ux at *
    generalize strOfNums u.query = uq at *
    generalize u.port = up at *
    have hchk := fun (w1 : World) (R1 : Blks) (h : Own W w1 R1) => ccheck_c HVV.out h x (by omega)
    have hrchk := fun (w1 : World) (R1 : Blks) (h : Own W w1 R1) => rcheck_c h x (by omega)
    have hwk := fun (w1 : World) (R1 : Blks) (h : Own W w1 R1) => wakes11_c HVV.out h
    obtain ⟨bc, hbc⟩ : ∃ b, checkI (sb x) = b := ⟨_, rfl⟩
    rw [hbc] at hchk hrchk
    have HRMAT := Lib.hid hrmat; have HRALL := Lib.hid hrall; have HMAT := Lib.hid hmat; have HALL := Lib.hid hall; have HCHK := Lib.hid hchk; have HRCHK := Lib.hid hrchk; have HWK := Lib.hid hwk
    clear hrmat hrall hmat hall hchk hrchk hwk hbc
    go_upto_region 8 with (first | (refine wl_alloc rfl _ rfl HOqg14.out _ (alloc_url _) ?_; intro g14 w6 hO; have HO6 := Lib.hid hO; clear hO HOqg14) | (refine wl_store rfl _ _ _ rfl HO6.out 0 g14 0 _ [Value.string us, Value.string uh, Value.int .i64 up, Value.string ux, Value.string uq] _ rfl (by rfl) (by rfl) url_size (one_url5' _ _ _ _ _) (by simp [UL.val, UL.zero]) ?_; intro w7 hO; have HO7 := Lib.hid (hO.cast (L' := (g14, .cells [Value.string us, Value.string uh, Value.int .i64 up, Value.string ux, Value.string uq].toArray 24) :: (g12, .cells [Value.string ps, Value.string ph, Value.int .i64 pp, Value.string px, Value.string pq].toArray 24) :: []) rfl); clear hO HO6))
    try simp only [Act.put, List.setIfInBounds_toArray, List.set_cons_zero, List.set_cons_succ]
    go_cut [16, 17] (fun s16 s17 wx => MidT11 W [Value.string ps, Value.string ph, Value.int .i64 pp, Value.string px, Value.string pq] [Value.string us, Value.string uh, Value.int .i64 up, Value.string ux, Value.string uq] ((g14, .cells [Value.string us, Value.string uh, Value.int .i64 up, Value.string ux, Value.string uq].toArray 24) :: (g12, .cells [Value.string ps, Value.string ph, Value.int .i64 pp, Value.string px, Value.string pq].toArray 24) :: []) s16 s17 wx)
    case first =>
      rename_i JJ KK hJJ hKK
      refine wp_region_tree3 (fun w' => Own W w' ((g14, .cells [Value.string us, Value.string uh, Value.int .i64 up, Value.string ux, Value.string uq].toArray 24) :: (g12, .cells [Value.string ps, Value.string ph, Value.int .i64 pp, Value.string px, Value.string pq].toArray 24) :: [])) 5 (.q 0 (.q 1 (.two 2 (.one 3 (.one 4 .done)) 3 (.one 2 (.one 4 .done))))) (by kernel_rfl) (by decide +kernel) (fun _ _ d _ _ h => by cases d <;> exact h) HO7.out.drew ?_
      simp only [List.drop_succ_cons, List.drop_zero]
      have HT := Lib.hid HO7.out.drew; clear HO7
      generalize w7.drew = wdr at *
      refine t3_load rfl _ _ rfl g12 0 [Value.string ps, Value.string ph, Value.int .i64 pp, Value.string px, Value.string pq] [Value.string ps, Value.string ph, Value.int .i64 pp, Value.string px, Value.string pq] 24 (by rfl) _ Tryz.underlying24 rfl url_size (by rfl) (fun w' hO => hO.heap (.tail _ (.head _))) ?_; simp only [pick_zero, pick_succ]; simp only [Act.put, List.setIfInBounds_toArray, List.set_cons_zero, List.set_cons_succ]
      refine t3_load rfl _ _ rfl g14 0 [Value.string us, Value.string uh, Value.int .i64 up, Value.string ux, Value.string uq] [Value.string us, Value.string uh, Value.int .i64 up, Value.string ux, Value.string uq] 24 (by rfl) _ Tryz.underlying24 rfl url_size (by rfl) (fun w' hO => hO.heap (.head _)) ?_; simp only [pick_zero, pick_succ]; simp only [Act.put, List.setIfInBounds_toArray, List.set_cons_zero, List.set_cons_succ]
      refine t3_two ?_ ?_
      · skip
        simp only [pick_zero, pick_succ]
        refine wl_alloc rfl _ rfl HT.out _ (alloc_rurl _) ?_
        intro g16 wx2 hO; have HT1 := Lib.hid hO; clear hO HT
        refine ActPost.mk (fun w' => Own W w' ((g14, .cells [Value.string us, Value.string uh, Value.int .i64 up, Value.string ux, Value.string uq].toArray 24) :: (g12, .cells [Value.string ps, Value.string ph, Value.int .i64 pp, Value.string px, Value.string pq].toArray 24) :: [])) (fun w' h => h) HT1.out.tail ?_; simp only [Act.put, List.setIfInBounds_toArray, List.set_cons_zero, List.set_cons_succ]
        refine t3_one ?_
        simp only [pick_zero, pick_succ]
        refine wl_alloc rfl _ rfl HT1.out _ (alloc_rurl _) ?_
        intro g17 wx3 hO; have HT2 := Lib.hid hO; clear hO HT1
        refine ActPost.mk (fun w' => Own W w' ((g14, .cells [Value.string us, Value.string uh, Value.int .i64 up, Value.string ux, Value.string uq].toArray 24) :: (g12, .cells [Value.string ps, Value.string ph, Value.int .i64 pp, Value.string px, Value.string pq].toArray 24) :: [])) (fun w' h => h) HT2.out.tail.tail ?_; simp only [Act.put, List.setIfInBounds_toArray, List.set_cons_zero, List.set_cons_succ]
        refine t3_one ?_
        simp only [pick_zero, pick_succ]
        refine wl_store rfl _ _ _ rfl HT2.out 1 g16 0 _ [Value.string ps, Value.string ph, Value.int .i64 pp, Value.string px, Value.string pq] _ rfl (by rfl) (by rfl) rurl_size (one_url5' _ _ _ _ _) (by simp [UL.val, UL.zero]) ?_
        intro wx4 hO; have HT3 := Lib.hid (hO.cast (L' := (g17, .cells UL.zero.val.toArray 29) :: (g16, .cells [Value.string ps, Value.string ph, Value.int .i64 pp, Value.string px, Value.string pq].toArray 29) :: ((g14, .cells [Value.string us, Value.string uh, Value.int .i64 up, Value.string ux, Value.string uq].toArray 24) :: (g12, .cells [Value.string ps, Value.string ph, Value.int .i64 pp, Value.string px, Value.string pq].toArray 24) :: [])) rfl); clear hO HT2
        refine ActPost.mk (fun w' => Own W w' ((g14, .cells [Value.string us, Value.string uh, Value.int .i64 up, Value.string ux, Value.string uq].toArray 24) :: (g12, .cells [Value.string ps, Value.string ph, Value.int .i64 pp, Value.string px, Value.string pq].toArray 24) :: [])) (fun w' h => h) HT3.out.tail.tail ?_; simp only [Act.put, List.setIfInBounds_toArray, List.set_cons_zero, List.set_cons_succ]
        refine t3_done ?_
        refine wl_store rfl _ _ _ rfl HT3.out 0 g17 0 _ [Value.string us, Value.string uh, Value.int .i64 up, Value.string ux, Value.string uq] _ rfl (by rfl) (by rfl) rurl_size (one_url5' _ _ _ _ _) (by simp [UL.val, UL.zero]) ?_
        intro wy hO; have HY := Lib.hid (hO.cast (L' := (g17, .cells [Value.string us, Value.string uh, Value.int .i64 up, Value.string ux, Value.string uq].toArray 29) :: (g16, .cells [Value.string ps, Value.string ph, Value.int .i64 pp, Value.string px, Value.string pq].toArray 29) :: ((g14, .cells [Value.string us, Value.string uh, Value.int .i64 up, Value.string ux, Value.string uq].toArray 24) :: (g12, .cells [Value.string ps, Value.string ph, Value.int .i64 pp, Value.string px, Value.string pq].toArray 24) :: [])) rfl); clear hO HT3
        refine hKK _ _ ?_
        simp only [Act.put, List.setIfInBounds_toArray, List.set_cons_zero, List.set_cons_succ]
        go_meet
        exact ⟨g16, g17, rfl, rfl, HY.out.perm (List.Perm.swap _ _ _)⟩
      · skip
        simp only [pick_zero, pick_succ]
        refine wl_alloc rfl _ rfl HT.out _ (alloc_rurl _) ?_
        intro g17 wx3 hO; have HT1 := Lib.hid hO; clear hO HT
        refine ActPost.mk (fun w' => Own W w' ((g14, .cells [Value.string us, Value.string uh, Value.int .i64 up, Value.string ux, Value.string uq].toArray 24) :: (g12, .cells [Value.string ps, Value.string ph, Value.int .i64 pp, Value.string px, Value.string pq].toArray 24) :: [])) (fun w' h => h) HT1.out.tail ?_; simp only [Act.put, List.setIfInBounds_toArray, List.set_cons_zero, List.set_cons_succ]
        refine t3_one ?_
        simp only [pick_zero, pick_succ]
        refine wl_alloc rfl _ rfl HT1.out _ (alloc_rurl _) ?_
        intro g16 wx2 hO; have HT2 := Lib.hid hO; clear hO HT1
        refine ActPost.mk (fun w' => Own W w' ((g14, .cells [Value.string us, Value.string uh, Value.int .i64 up, Value.string ux, Value.string uq].toArray 24) :: (g12, .cells [Value.string ps, Value.string ph, Value.int .i64 pp, Value.string px, Value.string pq].toArray 24) :: [])) (fun w' h => h) HT2.out.tail.tail ?_; simp only [Act.put, List.setIfInBounds_toArray, List.set_cons_zero, List.set_cons_succ]
        refine t3_one ?_
        simp only [pick_zero, pick_succ]
        refine wl_store rfl _ _ _ rfl HT2.out 0 g16 0 _ [Value.string ps, Value.string ph, Value.int .i64 pp, Value.string px, Value.string pq] _ rfl (by rfl) (by rfl) rurl_size (one_url5' _ _ _ _ _) (by simp [UL.val, UL.zero]) ?_
        intro wx4 hO; have HT3 := Lib.hid (hO.cast (L' := (g16, .cells [Value.string ps, Value.string ph, Value.int .i64 pp, Value.string px, Value.string pq].toArray 29) :: (g17, .cells UL.zero.val.toArray 29) :: ((g14, .cells [Value.string us, Value.string uh, Value.int .i64 up, Value.string ux, Value.string uq].toArray 24) :: (g12, .cells [Value.string ps, Value.string ph, Value.int .i64 pp, Value.string px, Value.string pq].toArray 24) :: [])) rfl); clear hO HT2
        refine ActPost.mk (fun w' => Own W w' ((g14, .cells [Value.string us, Value.string uh, Value.int .i64 up, Value.string ux, Value.string uq].toArray 24) :: (g12, .cells [Value.string ps, Value.string ph, Value.int .i64 pp, Value.string px, Value.string pq].toArray 24) :: [])) (fun w' h => h) HT3.out.tail.tail ?_; simp only [Act.put, List.setIfInBounds_toArray, List.set_cons_zero, List.set_cons_succ]
        refine t3_done ?_
        refine wl_store rfl _ _ _ rfl HT3.out 1 g17 0 _ [Value.string us, Value.string uh, Value.int .i64 up, Value.string ux, Value.string uq] _ rfl (by rfl) (by rfl) rurl_size (one_url5' _ _ _ _ _) (by simp [UL.val, UL.zero]) ?_
        intro wy hO; have HY := Lib.hid (hO.cast (L' := (g16, .cells [Value.string ps, Value.string ph, Value.int .i64 pp, Value.string px, Value.string pq].toArray 29) :: (g17, .cells [Value.string us, Value.string uh, Value.int .i64 up, Value.string ux, Value.string uq].toArray 29) :: ((g14, .cells [Value.string us, Value.string uh, Value.int .i64 up, Value.string ux, Value.string uq].toArray 24) :: (g12, .cells [Value.string ps, Value.string ph, Value.int .i64 pp, Value.string px, Value.string pq].toArray 24) :: [])) rfl); clear hO HT3
        refine hKK _ _ ?_
        simp only [Act.put, List.setIfInBounds_toArray, List.set_cons_zero, List.set_cons_succ]
        go_meet
        exact ⟨g16, g17, rfl, rfl, HY.out⟩
    case rest =>
      obtain ⟨g16, g17, rfl, rfl, hO⟩ := hcut
      have HO8 := Lib.hid hO; clear hO HO7
      cases bc with
      | true =>
        rw [show errC true = 0 from rfl] at HCHK
        go_upto_region 9 with fail
        refine wp_region_lin (fun w' => Own W w' ((g16, .cells [Value.string ps, Value.string ph, Value.int .i64 pp, Value.string px, Value.string pq].toArray 29) :: (g17, .cells [Value.string us, Value.string uh, Value.int .i64 up, Value.string ux, Value.string uq].toArray 29) :: (g14, .cells [Value.string us, Value.string uh, Value.int .i64 up, Value.string ux, Value.string uq].toArray 24) :: (g12, .cells [Value.string ps, Value.string ph, Value.int .i64 pp, Value.string px, Value.string pq].toArray 24) :: [])) 41 [(0, true), (3, true), (1, false), (2, true), (4, false), (5, true), (6, true), (7, true), (8, false), (9, true), (10, true), (11, true), (12, false), (13, true), (14, true), (15, true), (16, true), (17, true), (18, true), (19, true), (21, true), (22, true), (23, true), (20, false), (24, false), (25, true), (26, true), (27, true), (28, true), (29, true), (30, true), (32, true), (33, true), (34, true), (31, false), (35, false), (36, true), (37, true), (38, true), (39, false), (40, true)] (by kernel_rfl) (by kernel_rfl) (fun _ _ d _ _ h => by cases d <;> exact h) HO8.out.drew ?_
        simp only [List.map_cons, List.map_nil, pick_zero, pick_succ, List.drop_succ_cons, List.drop_zero]
        have HR0 := Lib.hid HO8.out.drew; clear HO8
        refine lin_q ?_ rfl ?_ ?_; rotate_left 1; (focus (rintro w' -; go_simp; first | done | with_reducible rfl | (trace_state; fail))); simp only [Act.put, List.setIfInBounds_toArray, List.set_cons_zero, List.set_cons_succ]
        refine lin_q ?_ rfl ?_ ?_; rotate_left 1; (focus (rintro w' -; go_simp; first | done | with_reducible rfl | (trace_state; fail))); simp only [Act.put, List.setIfInBounds_toArray, List.set_cons_zero, List.set_cons_succ]
        refine lin_act ?_
        refine wl_call rfl _ _ _ (by go_simp) (HCHK.out _ _ HR0.out) ?_
        rintro e wz1 ⟨rfl, hO⟩
        have HR1 := Lib.hid hO; clear hO HR0
        refine ⟨_, rfl, LinPost.mk HR1.out ?_⟩
        simp only [Act.put, List.setIfInBounds_toArray, List.set_cons_zero, List.set_cons_succ]
        refine lin_q ?_ rfl ?_ ?_; rotate_left 1; (focus (rintro w' -; go_simp; first | done | with_reducible rfl | (trace_state; fail))); simp only [Act.put, List.setIfInBounds_toArray, List.set_cons_zero, List.set_cons_succ]
        refine lin_act ?_
        refine wl_call rfl _ _ _ (by go_simp) (HRCHK.out _ _ HR1.out) ?_
        rintro e wz2 ⟨rfl, hO⟩
        have HR2 := Lib.hid hO; clear hO HR1
        refine ⟨_, rfl, LinPost.mk HR2.out ?_⟩
        simp only [Act.put, List.setIfInBounds_toArray, List.set_cons_zero, List.set_cons_succ]
        refine lin_q ?_ rfl ?_ ?_; rotate_left 1; (focus (rintro w' -; go_simp; first | done | with_reducible rfl | (trace_state; fail))); simp only [Act.put, List.setIfInBounds_toArray, List.set_cons_zero, List.set_cons_succ]
        refine lin_q ?_ rfl ?_ ?_; rotate_left 1; (focus (rintro w' -; go_simp; first | done | with_reducible rfl | (trace_state; fail))); simp only [Act.put, List.setIfInBounds_toArray, List.set_cons_zero, List.set_cons_succ]
        refine lin_g ?_ (by rfl) ?_ ?_; rotate_left 1; (focus (rintro w' -; go_simp; first | done | with_reducible rfl | (trace_state; fail))); simp only [Act.put, List.setIfInBounds_toArray, List.set_cons_zero, List.set_cons_succ]
        refine lin_act ?_
        refine wl_g (by rfl) ?_
        refine wl_call rfl _ _ _ (by go_simp) (HCHK.out _ _ HR2.out) ?_
        rintro e wz3 ⟨rfl, hO⟩
        have HR3 := Lib.hid hO; clear hO HR2
        refine ⟨_, rfl, LinPost.mk HR3.out ?_⟩
        simp only [Act.put, List.setIfInBounds_toArray, List.set_cons_zero, List.set_cons_succ]
        refine lin_g ?_ (by rfl) ?_ ?_; rotate_left 1; (focus (rintro w' -; go_simp; first | done | with_reducible rfl | (trace_state; fail))); simp only [Act.put, List.setIfInBounds_toArray, List.set_cons_zero, List.set_cons_succ]
        refine lin_g ?_ (by rfl) ?_ ?_; rotate_left 1; (focus (rintro w' -; go_simp; first | done | with_reducible rfl | (trace_state; fail))); simp only [Act.put, List.setIfInBounds_toArray, List.set_cons_zero, List.set_cons_succ]
        refine lin_no (by rfl) ?_; simp only [Act.put, List.setIfInBounds_toArray, List.set_cons_zero, List.set_cons_succ]
        refine lin_actno (by rfl) HR3.out ?_; simp only [Act.put, List.setIfInBounds_toArray, List.set_cons_zero, List.set_cons_succ]
        refine lin_no (by rfl) ?_; simp only [Act.put, List.setIfInBounds_toArray, List.set_cons_zero, List.set_cons_succ]
        refine lin_g ?_ (by rfl) ?_ ?_; rotate_left 1; (focus (rintro w' -; go_simp; first | done | with_reducible rfl | (trace_state; fail))); simp only [Act.put, List.setIfInBounds_toArray, List.set_cons_zero, List.set_cons_succ]
        refine lin_q ?_ rfl ?_ ?_; rotate_left 1; (focus (rintro w' -; go_simp; first | done | with_reducible rfl | (trace_state; fail))); simp only [Act.put, List.setIfInBounds_toArray, List.set_cons_zero, List.set_cons_succ]
        refine lin_q ?_ rfl ?_ ?_; rotate_left 1; (focus (rintro w' -; go_simp; first | done | with_reducible rfl | (trace_state; fail))); simp only [Act.put, List.setIfInBounds_toArray, List.set_cons_zero, List.set_cons_succ]
        refine lin_g ?_ (by rfl) ?_ ?_; rotate_left 1; (focus (rintro w' -; go_simp; first | done | with_reducible rfl | (trace_state; fail))); simp only [Act.put, List.setIfInBounds_toArray, List.set_cons_zero, List.set_cons_succ]
        refine lin_loadG (by rfl) _ _ rfl g12 0 [Value.string ps, Value.string ph, Value.int .i64 pp, Value.string px, Value.string pq] [Value.string ps, Value.string ph, Value.int .i64 pp, Value.string px, Value.string pq] 24 (by rfl) _ Tryz.underlying24 rfl url_size (by rfl) (fun w' hO => hO.heap (.tail _ (.tail _ (.tail _ (.head _))))) ?_; simp only [Act.put, List.setIfInBounds_toArray, List.set_cons_zero, List.set_cons_succ]
        refine lin_loadG (by rfl) _ _ rfl g14 0 [Value.string us, Value.string uh, Value.int .i64 up, Value.string ux, Value.string uq] [Value.string us, Value.string uh, Value.int .i64 up, Value.string ux, Value.string uq] 24 (by rfl) _ Tryz.underlying24 rfl url_size (by rfl) (fun w' hO => hO.heap (.tail _ (.tail _ (.head _)))) ?_; simp only [Act.put, List.setIfInBounds_toArray, List.set_cons_zero, List.set_cons_succ]
        refine lin_g ?_ (by rfl) ?_ ?_; rotate_left 1; (focus (rintro w' -; go_simp; first | done | with_reducible rfl | (trace_state; fail))); simp only [Act.put, List.setIfInBounds_toArray, List.set_cons_zero, List.set_cons_succ]
        refine lin_loadG (by rfl) _ _ rfl g16 0 [Value.string ps, Value.string ph, Value.int .i64 pp, Value.string px, Value.string pq] [Value.string ps, Value.string ph, Value.int .i64 pp, Value.string px, Value.string pq] 29 (by rfl) _ Tryz.underlying29 rfl rurl_size (by rfl) (fun w' hO => hO.heap (.head _)) ?_; simp only [Act.put, List.setIfInBounds_toArray, List.set_cons_zero, List.set_cons_succ]
        refine lin_loadG (by rfl) _ _ rfl g17 0 [Value.string us, Value.string uh, Value.int .i64 up, Value.string ux, Value.string uq] [Value.string us, Value.string uh, Value.int .i64 up, Value.string ux, Value.string uq] 29 (by rfl) _ Tryz.underlying29 rfl rurl_size (by rfl) (fun w' hO => hO.heap (.tail _ (.head _))) ?_; simp only [Act.put, List.setIfInBounds_toArray, List.set_cons_zero, List.set_cons_succ]
        refine lin_act ?_
        refine wl_g (by rfl) ?_
        refine wl_call rfl _ _ _ (by go_simp) (HMAT.out _ _ HR3.out) ?_
        rintro e wz4 ⟨rfl, hO⟩
        have HR4 := Lib.hid hO; clear hO HR3
        refine ⟨_, rfl, LinPost.mk HR4.out ?_⟩
        simp only [Act.put, List.setIfInBounds_toArray, List.set_cons_zero, List.set_cons_succ]
        refine lin_act ?_
        refine wl_g (by rfl) ?_
        refine wl_call rfl _ _ _ (by go_simp) (HRMAT.out _ _ HR4.out) ?_
        rintro e wz5 ⟨rfl, hO⟩
        have HR5 := Lib.hid hO; clear hO HR4
        refine ⟨_, rfl, LinPost.mk HR5.out ?_⟩
        simp only [Act.put, List.setIfInBounds_toArray, List.set_cons_zero, List.set_cons_succ]
        refine lin_g ?_ (by rfl) ?_ ?_; rotate_left 1; (focus (rintro w' -; go_simp; first | done | with_reducible rfl | (trace_state; fail))); simp only [Act.put, List.setIfInBounds_toArray, List.set_cons_zero, List.set_cons_succ]
        refine lin_q ?_ rfl ?_ ?_; rotate_left 1; (focus (rintro w' -; go_simp; first | done | with_reducible rfl | (trace_state; fail))); simp only [Act.put, List.setIfInBounds_toArray, List.set_cons_zero, List.set_cons_succ]
        refine lin_q ?_ rfl ?_ ?_; rotate_left 1; (focus (rintro w' -; go_simp; first | done | with_reducible rfl | (trace_state; fail))); simp only [Act.put, List.setIfInBounds_toArray, List.set_cons_zero, List.set_cons_succ]
        refine lin_g ?_ (by rfl) ?_ ?_; rotate_left 1; (focus (rintro w' -; go_simp; first | done | with_reducible rfl | (trace_state; fail))); simp only [Act.put, List.setIfInBounds_toArray, List.set_cons_zero, List.set_cons_succ]
        refine lin_loadG (by rfl) _ _ rfl g12 0 [Value.string ps, Value.string ph, Value.int .i64 pp, Value.string px, Value.string pq] [Value.string ps, Value.string ph, Value.int .i64 pp, Value.string px, Value.string pq] 24 (by rfl) _ Tryz.underlying24 rfl url_size (by rfl) (fun w' hO => hO.heap (.tail _ (.tail _ (.tail _ (.head _))))) ?_; simp only [Act.put, List.setIfInBounds_toArray, List.set_cons_zero, List.set_cons_succ]
        refine lin_loadG (by rfl) _ _ rfl g14 0 [Value.string us, Value.string uh, Value.int .i64 up, Value.string ux, Value.string uq] [Value.string us, Value.string uh, Value.int .i64 up, Value.string ux, Value.string uq] 24 (by rfl) _ Tryz.underlying24 rfl url_size (by rfl) (fun w' hO => hO.heap (.tail _ (.tail _ (.head _)))) ?_; simp only [Act.put, List.setIfInBounds_toArray, List.set_cons_zero, List.set_cons_succ]
        refine lin_g ?_ (by rfl) ?_ ?_; rotate_left 1; (focus (rintro w' -; go_simp; first | done | with_reducible rfl | (trace_state; fail))); simp only [Act.put, List.setIfInBounds_toArray, List.set_cons_zero, List.set_cons_succ]
        refine lin_loadG (by rfl) _ _ rfl g16 0 [Value.string ps, Value.string ph, Value.int .i64 pp, Value.string px, Value.string pq] [Value.string ps, Value.string ph, Value.int .i64 pp, Value.string px, Value.string pq] 29 (by rfl) _ Tryz.underlying29 rfl rurl_size (by rfl) (fun w' hO => hO.heap (.head _)) ?_; simp only [Act.put, List.setIfInBounds_toArray, List.set_cons_zero, List.set_cons_succ]
        refine lin_loadG (by rfl) _ _ rfl g17 0 [Value.string us, Value.string uh, Value.int .i64 up, Value.string ux, Value.string uq] [Value.string us, Value.string uh, Value.int .i64 up, Value.string ux, Value.string uq] 29 (by rfl) _ Tryz.underlying29 rfl rurl_size (by rfl) (fun w' hO => hO.heap (.tail _ (.head _))) ?_; simp only [Act.put, List.setIfInBounds_toArray, List.set_cons_zero, List.set_cons_succ]
        refine lin_act ?_
        refine wl_g (by rfl) ?_
        refine wl_call rfl _ _ _ (by go_simp) (HALL.out _ _ HR5.out) ?_
        rintro e wz6 ⟨rfl, hO⟩
        have HR6 := Lib.hid hO; clear hO HR5
        refine ⟨_, rfl, LinPost.mk HR6.out ?_⟩
        simp only [Act.put, List.setIfInBounds_toArray, List.set_cons_zero, List.set_cons_succ]
        refine lin_act ?_
        refine wl_g (by rfl) ?_
        refine wl_call rfl _ _ _ (by go_simp) (HRALL.out _ _ HR6.out) ?_
        rintro e wz7 ⟨rfl, hO⟩
        have HR7 := Lib.hid hO; clear hO HR6
        refine ⟨_, rfl, LinPost.mk HR7.out ?_⟩
        simp only [Act.put, List.setIfInBounds_toArray, List.set_cons_zero, List.set_cons_succ]
        refine lin_g ?_ (by rfl) ?_ ?_; rotate_left 1; (focus (rintro w' -; go_simp; first | done | with_reducible rfl | (trace_state; fail))); simp only [Act.put, List.setIfInBounds_toArray, List.set_cons_zero, List.set_cons_succ]
        refine lin_q ?_ rfl ?_ ?_; rotate_left 1; (focus (rintro w' -; go_simp; first | done | with_reducible rfl | (trace_state; fail))); simp only [Act.put, List.setIfInBounds_toArray, List.set_cons_zero, List.set_cons_succ]
        refine lin_q ?_ rfl ?_ ?_; rotate_left 1; (focus (rintro w' -; go_simp; first | done | with_reducible rfl | (trace_state; fail))); simp only [Act.put, List.setIfInBounds_toArray, List.set_cons_zero, List.set_cons_succ]
        refine lin_act ?_
        refine wl_g (by rfl) ?_
        refine wl_call rfl _ _ _ (by go_simp) (HWK.out _ _ HR7.out) ?_
        rintro e wz8 ⟨rfl, hO⟩
        have HR8 := Lib.hid hO; clear hO HR7
        refine ⟨_, rfl, LinPost.mk HR8.out ?_⟩
        simp only [Act.put, List.setIfInBounds_toArray, List.set_cons_zero, List.set_cons_succ]
        refine lin_q ?_ rfl ?_ ?_; rotate_left 1; (focus (rintro w' -; go_simp; first | done | with_reducible rfl | (trace_state; fail))); simp only [Act.put, List.setIfInBounds_toArray, List.set_cons_zero, List.set_cons_succ]
        refine lin_nil ?_
        go_wp2
        go_ret
        exact ⟨rfl, HR8.out.below⟩
      | false =>
        rw [show errC false = 1 from rfl] at HCHK
        go_upto_region 9 with fail
        refine wp_region_lin (fun w' => Own W w' ((g16, .cells [Value.string ps, Value.string ph, Value.int .i64 pp, Value.string px, Value.string pq].toArray 29) :: (g17, .cells [Value.string us, Value.string uh, Value.int .i64 up, Value.string ux, Value.string uq].toArray 29) :: (g14, .cells [Value.string us, Value.string uh, Value.int .i64 up, Value.string ux, Value.string uq].toArray 24) :: (g12, .cells [Value.string ps, Value.string ph, Value.int .i64 pp, Value.string px, Value.string pq].toArray 24) :: [])) 41 [(0, true), (3, true), (1, false), (2, true), (4, false), (5, true), (6, true), (7, true), (8, false), (9, true), (10, true), (11, true), (12, false), (13, true), (14, true), (15, true), (16, true), (17, true), (18, true), (19, true), (21, true), (22, true), (23, true), (20, false), (24, false), (25, true), (26, true), (27, true), (28, true), (29, true), (30, true), (32, true), (33, true), (34, true), (31, false), (35, false), (36, true), (37, true), (38, true), (39, false), (40, true)] (by kernel_rfl) (by kernel_rfl) (fun _ _ d _ _ h => by cases d <;> exact h) HO8.out.drew ?_
        simp only [List.map_cons, List.map_nil, pick_zero, pick_succ, List.drop_succ_cons, List.drop_zero]
        have HR0 := Lib.hid HO8.out.drew; clear HO8
        refine lin_q ?_ rfl ?_ ?_; rotate_left 1; (focus (rintro w' -; go_simp; first | done | with_reducible rfl | (trace_state; fail))); simp only [Act.put, List.setIfInBounds_toArray, List.set_cons_zero, List.set_cons_succ]
        refine lin_q ?_ rfl ?_ ?_; rotate_left 1; (focus (rintro w' -; go_simp; first | done | with_reducible rfl | (trace_state; fail))); simp only [Act.put, List.setIfInBounds_toArray, List.set_cons_zero, List.set_cons_succ]
        refine lin_act ?_
        refine wl_call rfl _ _ _ (by go_simp) (HCHK.out _ _ HR0.out) ?_
        rintro e wz9 ⟨rfl, hO⟩
        have HR9 := Lib.hid hO; clear hO HR0
        refine ⟨_, rfl, LinPost.mk HR9.out ?_⟩
        simp only [Act.put, List.setIfInBounds_toArray, List.set_cons_zero, List.set_cons_succ]
        refine lin_q ?_ rfl ?_ ?_; rotate_left 1; (focus (rintro w' -; go_simp; first | done | with_reducible rfl | (trace_state; fail))); simp only [Act.put, List.setIfInBounds_toArray, List.set_cons_zero, List.set_cons_succ]
        refine lin_act ?_
        refine wl_call rfl _ _ _ (by go_simp) (HRCHK.out _ _ HR9.out) ?_
        rintro e wz10 ⟨rfl, hO⟩
        have HR10 := Lib.hid hO; clear hO HR9
        refine ⟨_, rfl, LinPost.mk HR10.out ?_⟩
        simp only [Act.put, List.setIfInBounds_toArray, List.set_cons_zero, List.set_cons_succ]
        refine lin_q ?_ rfl ?_ ?_; rotate_left 1; (focus (rintro w' -; go_simp; first | done | with_reducible rfl | (trace_state; fail))); simp only [Act.put, List.setIfInBounds_toArray, List.set_cons_zero, List.set_cons_succ]
        refine lin_q ?_ rfl ?_ ?_; rotate_left 1; (focus (rintro w' -; go_simp; first | done | with_reducible rfl | (trace_state; fail))); simp only [Act.put, List.setIfInBounds_toArray, List.set_cons_zero, List.set_cons_succ]
        refine lin_g ?_ (by rfl) ?_ ?_; rotate_left 1; (focus (rintro w' -; go_simp; first | done | with_reducible rfl | (trace_state; fail))); simp only [Act.put, List.setIfInBounds_toArray, List.set_cons_zero, List.set_cons_succ]
        refine lin_act ?_
        refine wl_g (by rfl) ?_
        refine wl_call rfl _ _ _ (by go_simp) (HCHK.out _ _ HR10.out) ?_
        rintro e wz11 ⟨rfl, hO⟩
        have HR11 := Lib.hid hO; clear hO HR10
        refine ⟨_, rfl, LinPost.mk HR11.out ?_⟩
        simp only [Act.put, List.setIfInBounds_toArray, List.set_cons_zero, List.set_cons_succ]
        refine lin_g ?_ (by rfl) ?_ ?_; rotate_left 1; (focus (rintro w' -; go_simp; first | done | with_reducible rfl | (trace_state; fail))); simp only [Act.put, List.setIfInBounds_toArray, List.set_cons_zero, List.set_cons_succ]
        refine lin_g ?_ (by rfl) ?_ ?_; rotate_left 1; (focus (rintro w' -; go_simp; first | done | with_reducible rfl | (trace_state; fail))); simp only [Act.put, List.setIfInBounds_toArray, List.set_cons_zero, List.set_cons_succ]
        refine lin_g ?_ (by rfl) ?_ ?_; rotate_left 1; (focus (rintro w' -; go_simp; first | done | with_reducible rfl | (trace_state; fail))); simp only [Act.put, List.setIfInBounds_toArray, List.set_cons_zero, List.set_cons_succ]
        refine lin_act ?_
        refine wl_g (by rfl) ?_
        refine wl_call rfl _ _ _ (by go_simp) (HCHK.out _ _ HR11.out) ?_
        rintro e wz12 ⟨rfl, hO⟩
        have HR12 := Lib.hid hO; clear hO HR11
        refine ⟨_, rfl, LinPost.mk HR12.out ?_⟩
        simp only [Act.put, List.setIfInBounds_toArray, List.set_cons_zero, List.set_cons_succ]
        refine lin_g ?_ (by rfl) ?_ ?_; rotate_left 1; (focus (rintro w' -; go_simp; first | done | with_reducible rfl | (trace_state; fail))); simp only [Act.put, List.setIfInBounds_toArray, List.set_cons_zero, List.set_cons_succ]
        refine lin_g ?_ (by rfl) ?_ ?_; rotate_left 1; (focus (rintro w' -; go_simp; first | done | with_reducible rfl | (trace_state; fail))); simp only [Act.put, List.setIfInBounds_toArray, List.set_cons_zero, List.set_cons_succ]
        refine lin_q ?_ rfl ?_ ?_; rotate_left 1; (focus (rintro w' -; go_simp; first | done | with_reducible rfl | (trace_state; fail))); simp only [Act.put, List.setIfInBounds_toArray, List.set_cons_zero, List.set_cons_succ]
        refine lin_q ?_ rfl ?_ ?_; rotate_left 1; (focus (rintro w' -; go_simp; first | done | with_reducible rfl | (trace_state; fail))); simp only [Act.put, List.setIfInBounds_toArray, List.set_cons_zero, List.set_cons_succ]
        refine lin_g ?_ (by rfl) ?_ ?_; rotate_left 1; (focus (rintro w' -; go_simp; first | done | with_reducible rfl | (trace_state; fail))); simp only [Act.put, List.setIfInBounds_toArray, List.set_cons_zero, List.set_cons_succ]
        refine lin_loadG (by rfl) _ _ rfl g12 0 [Value.string ps, Value.string ph, Value.int .i64 pp, Value.string px, Value.string pq] [Value.string ps, Value.string ph, Value.int .i64 pp, Value.string px, Value.string pq] 24 (by rfl) _ Tryz.underlying24 rfl url_size (by rfl) (fun w' hO => hO.heap (.tail _ (.tail _ (.tail _ (.head _))))) ?_; simp only [Act.put, List.setIfInBounds_toArray, List.set_cons_zero, List.set_cons_succ]
        refine lin_loadG (by rfl) _ _ rfl g14 0 [Value.string us, Value.string uh, Value.int .i64 up, Value.string ux, Value.string uq] [Value.string us, Value.string uh, Value.int .i64 up, Value.string ux, Value.string uq] 24 (by rfl) _ Tryz.underlying24 rfl url_size (by rfl) (fun w' hO => hO.heap (.tail _ (.tail _ (.head _)))) ?_; simp only [Act.put, List.setIfInBounds_toArray, List.set_cons_zero, List.set_cons_succ]
        refine lin_g ?_ (by rfl) ?_ ?_; rotate_left 1; (focus (rintro w' -; go_simp; first | done | with_reducible rfl | (trace_state; fail))); simp only [Act.put, List.setIfInBounds_toArray, List.set_cons_zero, List.set_cons_succ]
        refine lin_loadG (by rfl) _ _ rfl g16 0 [Value.string ps, Value.string ph, Value.int .i64 pp, Value.string px, Value.string pq] [Value.string ps, Value.string ph, Value.int .i64 pp, Value.string px, Value.string pq] 29 (by rfl) _ Tryz.underlying29 rfl rurl_size (by rfl) (fun w' hO => hO.heap (.head _)) ?_; simp only [Act.put, List.setIfInBounds_toArray, List.set_cons_zero, List.set_cons_succ]
        refine lin_loadG (by rfl) _ _ rfl g17 0 [Value.string us, Value.string uh, Value.int .i64 up, Value.string ux, Value.string uq] [Value.string us, Value.string uh, Value.int .i64 up, Value.string ux, Value.string uq] 29 (by rfl) _ Tryz.underlying29 rfl rurl_size (by rfl) (fun w' hO => hO.heap (.tail _ (.head _))) ?_; simp only [Act.put, List.setIfInBounds_toArray, List.set_cons_zero, List.set_cons_succ]
        refine lin_act ?_
        refine wl_g (by rfl) ?_
        refine wl_call rfl _ _ _ (by go_simp) (HMAT.out _ _ HR12.out) ?_
        rintro e wz13 ⟨rfl, hO⟩
        have HR13 := Lib.hid hO; clear hO HR12
        refine ⟨_, rfl, LinPost.mk HR13.out ?_⟩
        simp only [Act.put, List.setIfInBounds_toArray, List.set_cons_zero, List.set_cons_succ]
        refine lin_act ?_
        refine wl_g (by rfl) ?_
        refine wl_call rfl _ _ _ (by go_simp) (HRMAT.out _ _ HR13.out) ?_
        rintro e wz14 ⟨rfl, hO⟩
        have HR14 := Lib.hid hO; clear hO HR13
        refine ⟨_, rfl, LinPost.mk HR14.out ?_⟩
        simp only [Act.put, List.setIfInBounds_toArray, List.set_cons_zero, List.set_cons_succ]
        refine lin_g ?_ (by rfl) ?_ ?_; rotate_left 1; (focus (rintro w' -; go_simp; first | done | with_reducible rfl | (trace_state; fail))); simp only [Act.put, List.setIfInBounds_toArray, List.set_cons_zero, List.set_cons_succ]
        refine lin_q ?_ rfl ?_ ?_; rotate_left 1; (focus (rintro w' -; go_simp; first | done | with_reducible rfl | (trace_state; fail))); simp only [Act.put, List.setIfInBounds_toArray, List.set_cons_zero, List.set_cons_succ]
        refine lin_q ?_ rfl ?_ ?_; rotate_left 1; (focus (rintro w' -; go_simp; first | done | with_reducible rfl | (trace_state; fail))); simp only [Act.put, List.setIfInBounds_toArray, List.set_cons_zero, List.set_cons_succ]
        refine lin_g ?_ (by rfl) ?_ ?_; rotate_left 1; (focus (rintro w' -; go_simp; first | done | with_reducible rfl | (trace_state; fail))); simp only [Act.put, List.setIfInBounds_toArray, List.set_cons_zero, List.set_cons_succ]
        refine lin_loadG (by rfl) _ _ rfl g12 0 [Value.string ps, Value.string ph, Value.int .i64 pp, Value.string px, Value.string pq] [Value.string ps, Value.string ph, Value.int .i64 pp, Value.string px, Value.string pq] 24 (by rfl) _ Tryz.underlying24 rfl url_size (by rfl) (fun w' hO => hO.heap (.tail _ (.tail _ (.tail _ (.head _))))) ?_; simp only [Act.put, List.setIfInBounds_toArray, List.set_cons_zero, List.set_cons_succ]
        refine lin_loadG (by rfl) _ _ rfl g14 0 [Value.string us, Value.string uh, Value.int .i64 up, Value.string ux, Value.string uq] [Value.string us, Value.string uh, Value.int .i64 up, Value.string ux, Value.string uq] 24 (by rfl) _ Tryz.underlying24 rfl url_size (by rfl) (fun w' hO => hO.heap (.tail _ (.tail _ (.head _)))) ?_; simp only [Act.put, List.setIfInBounds_toArray, List.set_cons_zero, List.set_cons_succ]
        refine lin_g ?_ (by rfl) ?_ ?_; rotate_left 1; (focus (rintro w' -; go_simp; first | done | with_reducible rfl | (trace_state; fail))); simp only [Act.put, List.setIfInBounds_toArray, List.set_cons_zero, List.set_cons_succ]
        refine lin_loadG (by rfl) _ _ rfl g16 0 [Value.string ps, Value.string ph, Value.int .i64 pp, Value.string px, Value.string pq] [Value.string ps, Value.string ph, Value.int .i64 pp, Value.string px, Value.string pq] 29 (by rfl) _ Tryz.underlying29 rfl rurl_size (by rfl) (fun w' hO => hO.heap (.head _)) ?_; simp only [Act.put, List.setIfInBounds_toArray, List.set_cons_zero, List.set_cons_succ]
        refine lin_loadG (by rfl) _ _ rfl g17 0 [Value.string us, Value.string uh, Value.int .i64 up, Value.string ux, Value.string uq] [Value.string us, Value.string uh, Value.int .i64 up, Value.string ux, Value.string uq] 29 (by rfl) _ Tryz.underlying29 rfl rurl_size (by rfl) (fun w' hO => hO.heap (.tail _ (.head _))) ?_; simp only [Act.put, List.setIfInBounds_toArray, List.set_cons_zero, List.set_cons_succ]
        refine lin_act ?_
        refine wl_g (by rfl) ?_
        refine wl_call rfl _ _ _ (by go_simp) (HALL.out _ _ HR14.out) ?_
        rintro e wz15 ⟨rfl, hO⟩
        have HR15 := Lib.hid hO; clear hO HR14
        refine ⟨_, rfl, LinPost.mk HR15.out ?_⟩
        simp only [Act.put, List.setIfInBounds_toArray, List.set_cons_zero, List.set_cons_succ]
        refine lin_act ?_
        refine wl_g (by rfl) ?_
        refine wl_call rfl _ _ _ (by go_simp) (HRALL.out _ _ HR15.out) ?_
        rintro e wz16 ⟨rfl, hO⟩
        have HR16 := Lib.hid hO; clear hO HR15
        refine ⟨_, rfl, LinPost.mk HR16.out ?_⟩
        simp only [Act.put, List.setIfInBounds_toArray, List.set_cons_zero, List.set_cons_succ]
        refine lin_g ?_ (by rfl) ?_ ?_; rotate_left 1; (focus (rintro w' -; go_simp; first | done | with_reducible rfl | (trace_state; fail))); simp only [Act.put, List.setIfInBounds_toArray, List.set_cons_zero, List.set_cons_succ]
        refine lin_q ?_ rfl ?_ ?_; rotate_left 1; (focus (rintro w' -; go_simp; first | done | with_reducible rfl | (trace_state; fail))); simp only [Act.put, List.setIfInBounds_toArray, List.set_cons_zero, List.set_cons_succ]
        refine lin_q ?_ rfl ?_ ?_; rotate_left 1; (focus (rintro w' -; go_simp; first | done | with_reducible rfl | (trace_state; fail))); simp only [Act.put, List.setIfInBounds_toArray, List.set_cons_zero, List.set_cons_succ]
        refine lin_act ?_
        refine wl_g (by rfl) ?_
        refine wl_call rfl _ _ _ (by go_simp) (HWK.out _ _ HR16.out) ?_
        rintro e wz17 ⟨rfl, hO⟩
        have HR17 := Lib.hid hO; clear hO HR16
        refine ⟨_, rfl, LinPost.mk HR17.out ?_⟩
        simp only [Act.put, List.setIfInBounds_toArray, List.set_cons_zero, List.set_cons_succ]
        refine lin_q ?_ rfl ?_ ?_; rotate_left 1; (focus (rintro w' -; go_simp; first | done | with_reducible rfl | (trace_state; fail))); simp only [Act.put, List.setIfInBounds_toArray, List.set_cons_zero, List.set_cons_succ]
        refine lin_nil ?_
        go_wp2
        go_ret
        exact ⟨rfl, HR17.out.below⟩
end Go.Proofs.YtfgaikacijdodaaGreatDoor
