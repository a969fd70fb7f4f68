/-
  The walk of CspLaws: what one of a list's sources allows the list allows; an empty list all; 'none' nothing; the page itself by 'self' and by its own host.
-/
import Derived.Test.YtfgaikacijdodaaDoorM11
import Derived.Test.YtfgaikacijdodaaDoorM1
namespace Go.Proofs.YtfgaikacijdodaaDoor
set_option linter.unusedVariables false
set_option linter.unusedSimpArgs false
set_option maxRecDepth 20000
open Go.RowKit

theorem beq_ba' (s t : ByteArray) : (s.toList == t.toList) = decide (s = t) := by
  rw [beq_sb, decide_eq_decide]
  exact ⟨sb_inj, fun e => by rw [e]⟩
set_option maxHeartbeats 2000000 in
theorem blank_c {w : World} (t : ByteArray) : Calls Tryd.prog 15 #[.string t] w fun e w' => e = .returned (.bool (blankB t)) ∧ w = w' := by
  have t1 : (t.toList == []) = decide (t = ⟨#[]⟩) := by
    have h := beq_ba' t ⟨#[]⟩
    rwa [show (⟨#[]⟩ : ByteArray).toList = [] by rw [ByteArray.toList_eq]] at h
  have t2 : (t.toList == [32, 32]) = decide (t = ⟨#[32, 32]⟩) := by
    have h := beq_ba' t ⟨#[32, 32]⟩
    rwa [show (⟨#[32, 32]⟩ : ByteArray).toList = [32, 32] by rw [ByteArray.toList_eq]] at h
  unfold blankB
  obtain ⟨b1, hb1⟩ : ∃ b, decide (t = ⟨#[]⟩) = b := ⟨_, rfl⟩
  obtain ⟨b2, hb2⟩ : ∃ b, decide (t = ⟨#[32, 32]⟩) = b := ⟨_, rfl⟩
  rw [hb1] at t1 ⊢; rw [hb2] at t2 ⊢
  clear hb1 hb2
  cases b1 <;> cases b2 <;>
  (go_enter Tryd.func15, Tryd.ntmps15
   go_wp2
   go_ret
   exact ⟨rfl, rfl⟩)
def MidB (W : World) (L : Blks) (s : Value) (wx : World) : Prop := s = .bool false ∧ Own W wx L
theorem one_url6 (a b : ByteArray) (k : Int) (c d : ByteArray) : ∀ v ∈ [Value.string a, Value.string b, Value.int .i64 k, Value.string c, Value.string d], v.oneCell' = true := by
  intro v hv
  simp only [List.mem_cons, List.not_mem_nil, or_false] at hv
  rcases hv with rfl | rfl | rfl | rfl | rfl <;> rfl
set_option maxRecDepth 100000 in
set_option maxHeartbeats 16000000 in
theorem cspLaws_walk {W : World} (hV : VarsOk W) (n : Int) (wn : (Lit.int .i64 n).wf = true) (m : Int) (wm : (Lit.int .i64 m).wf = true) (k : Int) (wk : (Lit.int .i64 k).wf = true) :
    Calls Tryd.prog 5 #[.int .i64 n, .int .i64 m, .int .i64 k] W (Yes W) := by
  have HO := Lib.hid (Own.start W)
  have HVV := Lib.hid hV
  have hpl := fun (w1 : World) (R1 : Blks) (h : Own W w1 R1) => plist_c h n wn ⟨#[]⟩
  have hpm := fun (w1 : World) (R1 : Blks) (h : Own W w1 R1) => plist_c h m wm ⟨#[]⟩
  have HPL := Lib.hid hpl; have HPM := Lib.hid hpm
  clear hpl hpm hV wn wm wk
  go_enter Tryd.func5, Tryd.ntmps5
  go_wp2_with fail
  with_reducible refine (HPL.out _ _ HO.out).mono ?_
  rintro e w1 ⟨a, rfl, ha, hO⟩
  have HO1 := Lib.hid hO; clear hO HO HPL
  go_wp2_with fail
  with_reducible refine (HPM.out _ _ HO1.out).mono ?_
  rintro e w2 ⟨b, rfl, hb, hO⟩
  have HO2 := Lib.hid hO; clear hO HO1 HPM
  have hal : a.size ≤ 20 := by rcases ha with h | rfl; exact listB_size a h; decide
  have hbl : b.size ≤ 20 := by rcases hb with h | rfl; exact listB_size b h; decide
  have hba := list_blank ha
  have hbb := list_blank hb
  have HBA := Lib.hid hba; have HBB := Lib.hid hbb
  clear ha hb hba hbb
  go_wp2_with fail
  with_reducible refine (curl2_c HO2.out k).mono ?_
  rintro e w3 ⟨tp, page, rfl, hmp, htp, hpp, hph, hO⟩
  have HO3 := Lib.hid hO; clear hO HO2
  have hup := uparse_c HVV.out HO3.out tp (by omega)
  have hown := own_host hmp hpp
  rw [hpp] at hup
  have HUP := Lib.hid hup; have HOWN := Lib.hid hown; have HPH := Lib.hid hph
  clear hup hown hph hpp hmp htp
  go_wp2_with fail
  with_reducible refine HUP.out.mono ?_
  rintro e w4 ⟨rfl, hO⟩
  have HO4 := Lib.hid hO; clear hO HO3 HUP
  simp only [Option.getD_some, Option.isSome_some, if_true]
  have hwk := fun (w1 : World) (R1 : Blks) (h : Own W w1 R1) => wakes11_c HVV.out h
  have hxa := fun (w1 : World) (R1 : Blks) (h : Own W w1 R1) (u : UL) (hu : u.Half) => callows_c HVV.out h a (by omega) page u HPH.out hu
  have hxb := fun (w1 : World) (R1 : Blks) (h : Own W w1 R1) (u : UL) (hu : u.Half) => callows_c HVV.out h b (by omega) page u HPH.out hu
  have hxc := fun (w1 : World) (R1 : Blks) (h : Own W w1 R1) (u : UL) (hu : u.Half) => callows_c HVV.out h (a ++ ⟨#[32]⟩ ++ b) (by simp only [ByteArray.size_append]; show a.size + 1 + b.size ≤ _; omega) page u HPH.out hu
  have ha0 := fun (w1 : World) (R1 : Blks) (h : Own W w1 R1) (u : UL) (hu : u.Half) => callows_c HVV.out h ⟨#[]⟩ (by decide) page u HPH.out hu
  have ha1 := fun (w1 : World) (R1 : Blks) (h : Own W w1 R1) (u : UL) (hu : u.Half) => callows_c HVV.out h ⟨#[39, 110, 111, 110, 101, 39]⟩ (by decide) page u HPH.out hu
  have ha2 := fun (w1 : World) (R1 : Blks) (h : Own W w1 R1) => callows_c HVV.out h ⟨#[39, 115, 101, 108, 102, 39]⟩ (by decide) page page HPH.out HPH.out
  have ha3 := fun (w1 : World) (R1 : Blks) (h : Own W w1 R1) (u : UL) (hu : u.Half) => callows_c HVV.out h ⟨#[39, 115, 101, 108, 102, 39]⟩ (by decide) page u HPH.out hu
  have hsa := fun (w1 : World) (R1 : Blks) (h : Own W w1 R1) (u : UL) (hu : u.Half) => usame_c HVV.out h page u HPH.out hu
  have hphl : (strOfNums page.host).size ≤ 1000 := by rw [strOfNums_size]; have := HPH.out.host.2.1; omega
  have hm1 := fun (w1 : World) (R1 : Blks) (h : Own W w1 R1) => cmatch_c HVV.out h (strOfNums page.host ++ ⟨#[58, 42]⟩) (by rw [ByteArray.size_append]; show _ + 2 ≤ _; omega) page page HPH.out HPH.out
  have hm2 := fun (w1 : World) (R1 : Blks) (h : Own W w1 R1) => cmatch_c HVV.out h (strOfNums page.host ++ ⟨#[58, 49]⟩) (by rw [ByteArray.size_append]; show _ + 2 ≤ _; omega) page page HPH.out HPH.out
  have e1 : sb (strOfNums page.host ++ ⟨#[58, 42]⟩) = page.host ++ [58, 42] := by rw [show (⟨#[58, 42]⟩ : ByteArray) = strOfNums [58, 42] from rfl, ← strs_app, sb_str (byt_append HPH.out.hostB (by intro x hx; simp at hx; omega))]
  have e2 : sb (strOfNums page.host ++ ⟨#[58, 49]⟩) = page.host ++ [58, 49] := by rw [show (⟨#[58, 49]⟩ : ByteArray) = strOfNums [58, 49] from rfl, ← strs_app, sb_str (byt_append HPH.out.hostB (by intro x hx; simp at hx; omega))]
  rw [e1, HOWN.out.1] at hm1
  rw [e2, HOWN.out.2] at hm2
  simp only [show sb ⟨#[]⟩ = [] from rfl, nothing_all] at ha0
  simp only [show sb ⟨#[39, 110, 111, 110, 101, 39]⟩ = noneW from rfl, none_not] at ha1
  simp only [show sb ⟨#[39, 115, 101, 108, 102, 39]⟩ = selfW from rfl, self_is, decide_true] at ha2 ha3
  obtain ⟨fs, hfs⟩ : ∃ f : UL → Bool, (fun u => decide (originI page = originI u)) = f := ⟨_, rfl⟩
  obtain ⟨fa, hfa⟩ : ∃ f : UL → Bool, (fun u => allowsI (sb a) page u) = f := ⟨_, rfl⟩
  obtain ⟨fb, hfb⟩ : ∃ f : UL → Bool, (fun u => allowsI (sb b) page u) = f := ⟨_, rfl⟩
  have efs : ∀ u, decide (originI page = originI u) = fs u := fun u => congrFun hfs u
  have efa : ∀ u, allowsI (sb a) page u = fa u := fun u => congrFun hfa u
  have efb : ∀ u, allowsI (sb b) page u = fb u := fun u => congrFun hfb u
  have hsp : sb (a ++ ⟨#[32]⟩ ++ b) = sb a ++ (32 :: sb b) := by
    have h1 : ∀ s t : ByteArray, sb (s ++ t) = sb s ++ sb t := fun s t => by unfold sb; rw [ByteArray.data_append, Array.toList_append, List.map_append]
    rw [h1, h1]
    simp only [List.append_assoc]
    rfl
  have hbla : blankB a = true → ∀ u, fa u = true := fun h u => by
    rw [HBA.out, decide_eq_true_iff] at h
    rw [← efa u]
    unfold allowsI
    rw [h]
    simp
  have hblc : blankB a = false → blankB b = false → ∀ u, allowsI (sb (a ++ ⟨#[32]⟩ ++ b)) page u = (fa u || fb u) := fun h1 h2 u => by
    rw [HBA.out, decide_eq_false_iff_not] at h1
    rw [HBB.out, decide_eq_false_iff_not] at h2
    rw [hsp, allows_two h1 h2, efa, efb]
  simp only [efs] at hsa ha3
  simp only [efa] at hxa
  simp only [efb] at hxb
  simp only [UL.val] at hxa hxb hxc ha0 ha1 ha2 ha3 hsa hm1 hm2 ⊢
  clear hfs hfa hfb efs efa efb e1 e2 hsp
  generalize strOfNums page.sch = ps at *
  generalize strOfNums page.host = ph at *
  generalize strOfNums page.path = px at *
  generalize strOfNums page.query = pq at *
  generalize page.port = pp at *
  have HXA0 := Lib.hid hxa; have HXB0 := Lib.hid hxb; have HXC0 := Lib.hid hxc; have HA00 := Lib.hid ha0; have HA10 := Lib.hid ha1; have HA2 := Lib.hid ha2; have HA30 := Lib.hid ha3; have HSA0 := Lib.hid hsa; have HM1 := Lib.hid hm1; have HM2 := Lib.hid hm2; have HWK := Lib.hid hwk; have HBLA := Lib.hid hbla; have HBLC := Lib.hid hblc
  clear hxa hxb hxc ha0 ha1 ha2 ha3 hsa hm1 hm2 hwk hbla hblc HBA HBB HOWN HPH
  go_wp2_with (first | (refine wl_alloc rfl _ rfl HO4.out _ (alloc_url _) ?_; intro g9 w5 hO; have HO5 := Lib.hid hO; clear hO HO4) | (refine wl_store rfl _ _ _ rfl HO5.out 0 g9 0 _ [Value.string ps, Value.string ph, Value.int .i64 pp, Value.string px, Value.string pq] _ rfl (by rfl) (by rfl) url_size (one_url6 _ _ _ _ _) (by simp [UL.val, UL.zero]) ?_; intro w6 hO; have HO6 := Lib.hid (hO.cast (L' := (g9, .cells [Value.string ps, Value.string ph, Value.int .i64 pp, Value.string px, Value.string pq].toArray 23) :: []) rfl); clear hO HO5))
  with_reducible refine (curl2_c HO6.out _).mono ?_
  rintro e w7 ⟨tu, u, rfl, hmu, htu, hpu, huh, hO⟩
  have HO7 := Lib.hid hO; clear hO HO6
  have hup := uparse_c HVV.out HO7.out tu (by omega)
  rw [hpu] at hup
  have HUP := Lib.hid hup
  have hxa := fun (w1 : World) (R1 : Blks) (h : Own W w1 R1) => HXA0.out w1 R1 h u huh
  have hxb := fun (w1 : World) (R1 : Blks) (h : Own W w1 R1) => HXB0.out w1 R1 h u huh
  have hxc := fun (w1 : World) (R1 : Blks) (h : Own W w1 R1) => HXC0.out w1 R1 h u huh
  have ha0 := fun (w1 : World) (R1 : Blks) (h : Own W w1 R1) => HA00.out w1 R1 h u huh
  have ha1 := fun (w1 : World) (R1 : Blks) (h : Own W w1 R1) => HA10.out w1 R1 h u huh
  have ha3 := fun (w1 : World) (R1 : Blks) (h : Own W w1 R1) => HA30.out w1 R1 h u huh
  have hsa := fun (w1 : World) (R1 : Blks) (h : Own W w1 R1) => HSA0.out w1 R1 h u huh
  have hbla := fun h => HBLA.out h u
  have hblc := fun h1 h2 => HBLC.out h1 h2 u
  clear hup hmu htu hpu huh HXA0 HXB0 HXC0 HA00 HA10 HA30 HSA0 HBLA HBLC
  go_wp2_with fail
  with_reducible refine HUP.out.mono ?_
  rintro e w8 ⟨rfl, hO⟩
  have HO8a := Lib.hid hO; clear hO HO7 HUP
  simp only [Option.getD_some, Option.isSome_some, if_true, UL.val]
  generalize hcv : allowsI (sb (a ++ ⟨#[32]⟩ ++ b)) page u = cv at *
  clear hcv
  generalize fs u = so at *
  generalize fa u = xa at *
  generalize fb u = xb at *
  generalize strOfNums u.sch = us at *
  generalize strOfNums u.host = uh at *
  generalize strOfNums u.path = ux at *
  generalize strOfNums u.query = uq at *
  generalize u.port = up at *
  have hbca := fun w : World => blank_c (w := w) a
  have hbcb := fun w : World => blank_c (w := w) b
  obtain ⟨ba, hba⟩ : ∃ x, blankB a = x := ⟨_, rfl⟩
  obtain ⟨bb, hbb⟩ : ∃ x, blankB b = x := ⟨_, rfl⟩
  simp only [hba] at hbca hbla hblc
  simp only [hbb] at hbcb hblc
  have HYA := Lib.hid hxa; have HYB := Lib.hid hxb; have HYC := Lib.hid hxc; have HA0 := Lib.hid ha0; have HA1 := Lib.hid ha1; have HA3 := Lib.hid ha3; have HSA := Lib.hid hsa; have HBLA := Lib.hid hbla; have HBLC := Lib.hid hblc; have HBCA := Lib.hid hbca; have HBCB := Lib.hid hbcb
  clear hxa hxb hxc ha0 ha1 ha3 hsa hbla hblc hbca hbcb hba hbb
  go_wp2_with (first | (refine wl_alloc rfl _ rfl HO8a.out _ (alloc_url _) ?_; intro g11 w9 hO; have HO9 := Lib.hid hO; clear hO HO8a) | (refine wl_store rfl _ _ _ rfl HO9.out 0 g11 0 _ [Value.string us, Value.string uh, Value.int .i64 up, Value.string ux, Value.string uq] _ rfl (by rfl) (by rfl) url_size (one_url6 _ _ _ _ _) (by simp [UL.val, UL.zero]) ?_; intro w10 hO; have HO8 := Lib.hid (hO.cast (L' := (g11, .cells [Value.string us, Value.string uh, Value.int .i64 up, Value.string ux, Value.string uq].toArray 23) :: (g9, .cells [Value.string ps, Value.string ph, Value.int .i64 pp, Value.string px, Value.string pq].toArray 23) :: []) rfl); clear hO HO9))
  refine wp_region_lin (fun w' => Own W w' ((g11, .cells [Value.string us, Value.string uh, Value.int .i64 up, Value.string ux, Value.string uq].toArray 23) :: (g9, .cells [Value.string ps, Value.string ph, Value.int .i64 pp, Value.string px, Value.string pq].toArray 23) :: [])) 8 [(0, true), (1, true), (2, true), (4, true), (5, true), (6, true), (3, false), (7, false)] (by kernel_rfl) (by kernel_rfl) (fun _ _ d _ _ h => by cases d <;> exact h) HO8.out.drew ?_
  simp only [List.map_cons, List.map_nil, pick_zero, pick_succ, List.drop_succ_cons, List.drop_zero]
  have HR0 := Lib.hid HO8.out.drew; clear HO8
  refine lin_q ?_ rfl ?_ ?_; rotate_left 1; (focus (rintro w' hO; clear hO; go_simp; first | done | with_reducible rfl | (trace_state; fail))); simp only [Act.put, List.setIfInBounds_toArray, List.set_cons_zero, List.set_cons_succ]
  refine lin_load rfl _ _ rfl g9 0 [Value.string ps, Value.string ph, Value.int .i64 pp, Value.string px, Value.string pq] [Value.string ps, Value.string ph, Value.int .i64 pp, Value.string px, Value.string pq] 23 (by rfl) _ Tryd.underlying23 rfl url_size (by rfl) (fun w' hO => hO.heap (.tail _ (.head _))) ?_; simp only [Act.put, List.setIfInBounds_toArray, List.set_cons_zero, List.set_cons_succ]
  refine lin_load rfl _ _ rfl g11 0 [Value.string us, Value.string uh, Value.int .i64 up, Value.string ux, Value.string uq] [Value.string us, Value.string uh, Value.int .i64 up, Value.string ux, Value.string uq] 23 (by rfl) _ Tryd.underlying23 rfl url_size (by rfl) (fun w' hO => hO.heap (.head _)) ?_; simp only [Act.put, List.setIfInBounds_toArray, List.set_cons_zero, List.set_cons_succ]
  refine lin_q ?_ rfl ?_ ?_; rotate_left 1; (focus (rintro w' hO; clear hO; go_simp; first | done | with_reducible rfl | (trace_state; fail))); simp only [Act.put, List.setIfInBounds_toArray, List.set_cons_zero, List.set_cons_succ]
  refine lin_load rfl _ _ rfl g9 0 [Value.string ps, Value.string ph, Value.int .i64 pp, Value.string px, Value.string pq] [Value.string ps, Value.string ph, Value.int .i64 pp, Value.string px, Value.string pq] 23 (by rfl) _ Tryd.underlying23 rfl url_size (by rfl) (fun w' hO => hO.heap (.tail _ (.head _))) ?_; simp only [Act.put, List.setIfInBounds_toArray, List.set_cons_zero, List.set_cons_succ]
  refine lin_load rfl _ _ rfl g11 0 [Value.string us, Value.string uh, Value.int .i64 up, Value.string ux, Value.string uq] [Value.string us, Value.string uh, Value.int .i64 up, Value.string ux, Value.string uq] 23 (by rfl) _ Tryd.underlying23 rfl url_size (by rfl) (fun w' hO => hO.heap (.head _)) ?_; simp only [Act.put, List.setIfInBounds_toArray, List.set_cons_zero, List.set_cons_succ]
  refine lin_act ?_
  refine wl_call rfl _ _ _ (by go_simp) (HYA.out _ _ HR0.out) ?_
  rintro e wzHR1 ⟨rfl, hO⟩
  have HR1 := Lib.hid hO; clear hO HR0
  refine ⟨_, rfl, LinPost.mk HR1.out ?_⟩
  simp only [Act.put, List.setIfInBounds_toArray, List.set_cons_zero, List.set_cons_succ]
  refine lin_act ?_
  refine wl_call rfl _ _ _ (by go_simp) (HYB.out _ _ HR1.out) ?_
  rintro e wzHR2 ⟨rfl, hO⟩
  have HR2 := Lib.hid hO; clear hO HR1
  refine ⟨_, rfl, LinPost.mk HR2.out ?_⟩
  simp only [Act.put, List.setIfInBounds_toArray, List.set_cons_zero, List.set_cons_succ]
  refine lin_nil ?_
  go_upto_region 7 with fail
  go_cut [51] (fun s51 wx => MidB W ((g11, .cells [Value.string us, Value.string uh, Value.int .i64 up, Value.string ux, Value.string uq].toArray 23) :: (g9, .cells [Value.string ps, Value.string ph, Value.int .i64 pp, Value.string px, Value.string pq].toArray 23) :: []) s51 wx)
  case first =>
    cases ba with
    | true =>
      have HX := Lib.hid (HBLA.out (by trivial))
      go_wp2_with fail
      with_reducible refine (HBCA.out _).mono ?_
      rintro e wq ⟨rfl, hww⟩
      subst hww
      go_wp2
      go_meet
      exact ⟨by first | rfl | (rw [HX.out]; rfl), HR2.out⟩
    | false =>
      go_wp2_with fail
      with_reducible refine (HBCA.out _).mono ?_
      rintro e wq ⟨rfl, hww⟩
      subst hww
      go_wp2
      go_meet
      exact ⟨rfl, HR2.out⟩
  case rest =>
    obtain ⟨rfl, hO⟩ := hcut
    have HO10 := Lib.hid hO; clear hO HR2
    go_upto_region 9 with fail
    go_cut [73] (fun s73 wx => MidB W ((g11, .cells [Value.string us, Value.string uh, Value.int .i64 up, Value.string ux, Value.string uq].toArray 23) :: (g9, .cells [Value.string ps, Value.string ph, Value.int .i64 pp, Value.string px, Value.string pq].toArray 23) :: []) s73 wx)
    case first =>
      have n1 : ¬ (9223372036854775807 < a.size + 1) := by omega
      have n2 : ¬ (9223372036854775807 < a.size + 1 + b.size) := by omega
      cases ba with
      | true =>
        go_wp2_with fail
        with_reducible refine (HBCA.out _).mono ?_
        rintro e wq ⟨rfl, hww⟩
        subst hww
        go_wp2
        go_meet
        exact ⟨rfl, HO10.out⟩
      | false =>
        go_wp2_with fail
        with_reducible refine (HBCA.out _).mono ?_
        rintro e wq ⟨rfl, hww⟩
        subst hww
        cases bb with
        | true =>
          go_wp2_with fail
          with_reducible refine (HBCB.out _).mono ?_
          rintro e wq ⟨rfl, hww⟩
          subst hww
          go_wp2
          go_meet
          exact ⟨rfl, HO10.out⟩
        | false =>
          have HC := Lib.hid (HBLC.out (by trivial) (by trivial))
          go_wp2_with fail
          with_reducible refine (HBCB.out _).mono ?_
          rintro e wq ⟨rfl, hww⟩
          subst hww
          go_wp2_with (first | (refine wl_g (by rfl) ?_; refine wl_load rfl _ _ rfl g9 0 [Value.string ps, Value.string ph, Value.int .i64 pp, Value.string px, Value.string pq] [Value.string ps, Value.string ph, Value.int .i64 pp, Value.string px, Value.string pq] _ (HO10.out.heap (.tail _ (.head _))) (by rfl) _ Tryd.underlying23 rfl url_size (by rfl) ?_) | (refine wl_g (by rfl) ?_; refine wl_load rfl _ _ rfl g11 0 [Value.string us, Value.string uh, Value.int .i64 up, Value.string ux, Value.string uq] [Value.string us, Value.string uh, Value.int .i64 up, Value.string ux, Value.string uq] _ (HO10.out.heap (.head _)) (by rfl) _ Tryd.underlying23 rfl url_size (by rfl) ?_))
          with_reducible refine (HYC.out _ _ HO10.out).mono ?_
          rintro e w12 ⟨rfl, hO⟩
          have HO12 := Lib.hid hO; clear hO HO10
          rw [HC.out]
          clear HC
          cases xa with
          | true =>
            go_wp2
            go_meet
            exact ⟨rfl, HO12.out⟩
          | false =>
            cases xb with
            | true =>
              go_wp2
              go_meet
              exact ⟨rfl, HO12.out⟩
            | false =>
              go_wp2
              go_meet
              exact ⟨rfl, HO12.out⟩
    case rest =>
      obtain ⟨rfl, hO⟩ := hcut
      have HO11 := Lib.hid hO; clear hO HO10
      have n1 : ¬ (9223372036854775807 < ph.size + 2) := by omega
      go_upto_region 11 with fail
      refine wp_region_lin (fun w' => Own W w' ((g11, .cells [Value.string us, Value.string uh, Value.int .i64 up, Value.string ux, Value.string uq].toArray 23) :: (g9, .cells [Value.string ps, Value.string ph, Value.int .i64 pp, Value.string px, Value.string pq].toArray 23) :: [])) 43 [(0, true), (1, true), (2, false), (3, true), (4, true), (5, true), (6, false), (7, true), (8, true), (9, true), (10, true), (11, true), (12, false), (13, true), (14, true), (15, true), (16, true), (18, true), (19, true), (17, false), (20, false), (21, true), (22, true), (23, true), (24, true), (25, true), (26, true), (27, true), (28, true), (29, false), (30, true), (31, true), (32, true), (33, true), (34, true), (35, true), (36, true), (37, false), (38, true), (39, true), (40, true), (41, false), (42, true)] (by kernel_rfl) (by kernel_rfl) (fun _ _ d _ _ h => by cases d <;> exact h) HO11.out.drew ?_
      simp only [List.map_cons, List.map_nil, pick_zero, pick_succ, List.drop_succ_cons, List.drop_zero]
      have HT0 := Lib.hid HO11.out.drew; clear HO11
      refine lin_load rfl _ _ rfl g9 0 [Value.string ps, Value.string ph, Value.int .i64 pp, Value.string px, Value.string pq] [Value.string ps, Value.string ph, Value.int .i64 pp, Value.string px, Value.string pq] 23 (by rfl) _ Tryd.underlying23 rfl url_size (by rfl) (fun w' hO => hO.heap (.tail _ (.head _))) ?_; simp only [Act.put, List.setIfInBounds_toArray, List.set_cons_zero, List.set_cons_succ]
      refine lin_load rfl _ _ rfl g11 0 [Value.string us, Value.string uh, Value.int .i64 up, Value.string ux, Value.string uq] [Value.string us, Value.string uh, Value.int .i64 up, Value.string ux, Value.string uq] 23 (by rfl) _ Tryd.underlying23 rfl url_size (by rfl) (fun w' hO => hO.heap (.head _)) ?_; simp only [Act.put, List.setIfInBounds_toArray, List.set_cons_zero, List.set_cons_succ]
      refine lin_act ?_
      refine wl_call rfl _ _ _ (by go_simp) (HA0.out _ _ HT0.out) ?_
      rintro e wzHT1 ⟨rfl, hO⟩
      have HT1 := Lib.hid hO; clear hO HT0
      refine ⟨_, rfl, LinPost.mk HT1.out ?_⟩
      simp only [Act.put, List.setIfInBounds_toArray, List.set_cons_zero, List.set_cons_succ]
      refine lin_q ?_ rfl ?_ ?_; rotate_left 1; (focus (rintro w' hO; clear hO; go_simp; first | done | with_reducible rfl | (trace_state; fail))); simp only [Act.put, List.setIfInBounds_toArray, List.set_cons_zero, List.set_cons_succ]
      refine lin_loadG (by rfl) _ _ rfl g9 0 [Value.string ps, Value.string ph, Value.int .i64 pp, Value.string px, Value.string pq] [Value.string ps, Value.string ph, Value.int .i64 pp, Value.string px, Value.string pq] 23 (by rfl) _ Tryd.underlying23 rfl url_size (by rfl) (fun w' hO => hO.heap (.tail _ (.head _))) ?_; simp only [Act.put, List.setIfInBounds_toArray, List.set_cons_zero, List.set_cons_succ]
      refine lin_loadG (by rfl) _ _ rfl g11 0 [Value.string us, Value.string uh, Value.int .i64 up, Value.string ux, Value.string uq] [Value.string us, Value.string uh, Value.int .i64 up, Value.string ux, Value.string uq] 23 (by rfl) _ Tryd.underlying23 rfl url_size (by rfl) (fun w' hO => hO.heap (.head _)) ?_; simp only [Act.put, List.setIfInBounds_toArray, List.set_cons_zero, List.set_cons_succ]
      refine lin_act ?_
      refine wl_g (by rfl) ?_
      refine wl_call rfl _ _ _ (by go_simp) (HA1.out _ _ HT1.out) ?_
      rintro e wzHT2 ⟨rfl, hO⟩
      have HT2 := Lib.hid hO; clear hO HT1
      refine ⟨_, rfl, LinPost.mk HT2.out ?_⟩
      simp only [Act.put, List.setIfInBounds_toArray, List.set_cons_zero, List.set_cons_succ]
      refine lin_g ?_ (by rfl) ?_ ?_; rotate_left 1; (focus (rintro w' hO; clear hO; go_simp; first | done | with_reducible rfl | (trace_state; fail))); simp only [Act.put, List.setIfInBounds_toArray, List.set_cons_zero, List.set_cons_succ]
      refine lin_q ?_ rfl ?_ ?_; rotate_left 1; (focus (rintro w' hO; clear hO; go_simp; first | done | with_reducible rfl | (trace_state; fail))); simp only [Act.put, List.setIfInBounds_toArray, List.set_cons_zero, List.set_cons_succ]
      refine lin_q ?_ rfl ?_ ?_; rotate_left 1; (focus (rintro w' hO; clear hO; go_simp; first | done | with_reducible rfl | (trace_state; fail))); simp only [Act.put, List.setIfInBounds_toArray, List.set_cons_zero, List.set_cons_succ]
      refine lin_loadG (by rfl) _ _ rfl g9 0 [Value.string ps, Value.string ph, Value.int .i64 pp, Value.string px, Value.string pq] [Value.string ps, Value.string ph, Value.int .i64 pp, Value.string px, Value.string pq] 23 (by rfl) _ Tryd.underlying23 rfl url_size (by rfl) (fun w' hO => hO.heap (.tail _ (.head _))) ?_; simp only [Act.put, List.setIfInBounds_toArray, List.set_cons_zero, List.set_cons_succ]
      refine lin_loadG (by rfl) _ _ rfl g9 0 [Value.string ps, Value.string ph, Value.int .i64 pp, Value.string px, Value.string pq] [Value.string ps, Value.string ph, Value.int .i64 pp, Value.string px, Value.string pq] 23 (by rfl) _ Tryd.underlying23 rfl url_size (by rfl) (fun w' hO => hO.heap (.tail _ (.head _))) ?_; simp only [Act.put, List.setIfInBounds_toArray, List.set_cons_zero, List.set_cons_succ]
      refine lin_act ?_
      refine wl_g (by rfl) ?_
      refine wl_call rfl _ _ _ (by go_simp) (HA2.out _ _ HT2.out) ?_
      rintro e wzHT3 ⟨rfl, hO⟩
      have HT3 := Lib.hid hO; clear hO HT2
      refine ⟨_, rfl, LinPost.mk HT3.out ?_⟩
      simp only [Act.put, List.setIfInBounds_toArray, List.set_cons_zero, List.set_cons_succ]
      refine lin_q ?_ rfl ?_ ?_; rotate_left 1; (focus (rintro w' hO; clear hO; go_simp; first | done | with_reducible rfl | (trace_state; fail))); simp only [Act.put, List.setIfInBounds_toArray, List.set_cons_zero, List.set_cons_succ]
      refine lin_q ?_ rfl ?_ ?_; rotate_left 1; (focus (rintro w' hO; clear hO; go_simp; first | done | with_reducible rfl | (trace_state; fail))); simp only [Act.put, List.setIfInBounds_toArray, List.set_cons_zero, List.set_cons_succ]
      refine lin_loadG (by rfl) _ _ rfl g9 0 [Value.string ps, Value.string ph, Value.int .i64 pp, Value.string px, Value.string pq] [Value.string ps, Value.string ph, Value.int .i64 pp, Value.string px, Value.string pq] 23 (by rfl) _ Tryd.underlying23 rfl url_size (by rfl) (fun w' hO => hO.heap (.tail _ (.head _))) ?_; simp only [Act.put, List.setIfInBounds_toArray, List.set_cons_zero, List.set_cons_succ]
      refine lin_loadG (by rfl) _ _ rfl g11 0 [Value.string us, Value.string uh, Value.int .i64 up, Value.string ux, Value.string uq] [Value.string us, Value.string uh, Value.int .i64 up, Value.string ux, Value.string uq] 23 (by rfl) _ Tryd.underlying23 rfl url_size (by rfl) (fun w' hO => hO.heap (.head _)) ?_; simp only [Act.put, List.setIfInBounds_toArray, List.set_cons_zero, List.set_cons_succ]
      refine lin_loadG (by rfl) _ _ rfl g9 0 [Value.string ps, Value.string ph, Value.int .i64 pp, Value.string px, Value.string pq] [Value.string ps, Value.string ph, Value.int .i64 pp, Value.string px, Value.string pq] 23 (by rfl) _ Tryd.underlying23 rfl url_size (by rfl) (fun w' hO => hO.heap (.tail _ (.head _))) ?_; simp only [Act.put, List.setIfInBounds_toArray, List.set_cons_zero, List.set_cons_succ]
      refine lin_loadG (by rfl) _ _ rfl g11 0 [Value.string us, Value.string uh, Value.int .i64 up, Value.string ux, Value.string uq] [Value.string us, Value.string uh, Value.int .i64 up, Value.string ux, Value.string uq] 23 (by rfl) _ Tryd.underlying23 rfl url_size (by rfl) (fun w' hO => hO.heap (.head _)) ?_; simp only [Act.put, List.setIfInBounds_toArray, List.set_cons_zero, List.set_cons_succ]
      refine lin_act ?_
      refine wl_g (by rfl) ?_
      refine wl_call rfl _ _ _ (by go_simp) (HA3.out _ _ HT3.out) ?_
      rintro e wzHT4 ⟨rfl, hO⟩
      have HT4 := Lib.hid hO; clear hO HT3
      refine ⟨_, rfl, LinPost.mk HT4.out ?_⟩
      simp only [Act.put, List.setIfInBounds_toArray, List.set_cons_zero, List.set_cons_succ]
      refine lin_act ?_
      refine wl_g (by rfl) ?_
      refine wl_call rfl _ _ _ (by go_simp) (HSA.out _ _ HT4.out) ?_
      rintro e wzHT5 ⟨rfl, hO⟩
      have HT5 := Lib.hid hO; clear hO HT4
      refine ⟨_, rfl, LinPost.mk HT5.out ?_⟩
      simp only [Act.put, List.setIfInBounds_toArray, List.set_cons_zero, List.set_cons_succ]
      refine lin_g ?_ (by rfl) ?_ ?_; rotate_left 1; (focus (rintro w' hO; clear hO; go_simp; first | done | with_reducible rfl | (trace_state; fail))); simp only [Act.put, List.setIfInBounds_toArray, List.set_cons_zero, List.set_cons_succ]
      refine lin_q ?_ rfl ?_ ?_; rotate_left 1; (focus (rintro w' hO; clear hO; go_simp; first | done | with_reducible rfl | (trace_state; fail))); simp only [Act.put, List.setIfInBounds_toArray, List.set_cons_zero, List.set_cons_succ]
      refine lin_q ?_ rfl ?_ ?_; rotate_left 1; (focus (rintro w' hO; clear hO; go_simp; first | done | with_reducible rfl | (trace_state; fail))); simp only [Act.put, List.setIfInBounds_toArray, List.set_cons_zero, List.set_cons_succ]
      refine lin_g ?_ (by rfl) ?_ ?_; rotate_left 1; (focus (rintro w' hO; clear hO; go_simp; first | done | with_reducible rfl | (trace_state; fail))); simp only [Act.put, List.setIfInBounds_toArray, List.set_cons_zero, List.set_cons_succ]
      refine lin_g ?_ (by rfl) ?_ ?_; rotate_left 1; (focus (rintro w' hO; have k1 : w'.cell? ⟨g9, 1, none⟩ = some (.string ph) := hO.cell (.tail _ (.head _)) 1; clear hO; go_simp; first | done | with_reducible rfl | (trace_state; fail))); simp only [Act.put, List.setIfInBounds_toArray, List.set_cons_zero, List.set_cons_succ]
      refine lin_g ?_ (by rfl) ?_ ?_; rotate_left 1; (focus (rintro w' hO; clear hO; go_simp; first | done | with_reducible rfl | (trace_state; fail))); simp only [Act.put, List.setIfInBounds_toArray, List.set_cons_zero, List.set_cons_succ]
      refine lin_loadG (by rfl) _ _ rfl g9 0 [Value.string ps, Value.string ph, Value.int .i64 pp, Value.string px, Value.string pq] [Value.string ps, Value.string ph, Value.int .i64 pp, Value.string px, Value.string pq] 23 (by rfl) _ Tryd.underlying23 rfl url_size (by rfl) (fun w' hO => hO.heap (.tail _ (.head _))) ?_; simp only [Act.put, List.setIfInBounds_toArray, List.set_cons_zero, List.set_cons_succ]
      refine lin_loadG (by rfl) _ _ rfl g9 0 [Value.string ps, Value.string ph, Value.int .i64 pp, Value.string px, Value.string pq] [Value.string ps, Value.string ph, Value.int .i64 pp, Value.string px, Value.string pq] 23 (by rfl) _ Tryd.underlying23 rfl url_size (by rfl) (fun w' hO => hO.heap (.tail _ (.head _))) ?_; simp only [Act.put, List.setIfInBounds_toArray, List.set_cons_zero, List.set_cons_succ]
      refine lin_act ?_
      refine wl_g (by rfl) ?_
      refine wl_call rfl _ _ _ (by go_simp) (HM1.out _ _ HT5.out) ?_
      rintro e wzHT6 ⟨rfl, hO⟩
      have HT6 := Lib.hid hO; clear hO HT5
      refine ⟨_, rfl, LinPost.mk HT6.out ?_⟩
      simp only [Act.put, List.setIfInBounds_toArray, List.set_cons_zero, List.set_cons_succ]
      refine lin_q ?_ rfl ?_ ?_; rotate_left 1; (focus (rintro w' hO; clear hO; go_simp; first | done | with_reducible rfl | (trace_state; fail))); simp only [Act.put, List.setIfInBounds_toArray, List.set_cons_zero, List.set_cons_succ]
      refine lin_q ?_ rfl ?_ ?_; rotate_left 1; (focus (rintro w' hO; clear hO; go_simp; first | done | with_reducible rfl | (trace_state; fail))); simp only [Act.put, List.setIfInBounds_toArray, List.set_cons_zero, List.set_cons_succ]
      refine lin_g ?_ (by rfl) ?_ ?_; rotate_left 1; (focus (rintro w' hO; clear hO; go_simp; first | done | with_reducible rfl | (trace_state; fail))); simp only [Act.put, List.setIfInBounds_toArray, List.set_cons_zero, List.set_cons_succ]
      refine lin_g ?_ (by rfl) ?_ ?_; rotate_left 1; (focus (rintro w' hO; have k1 : w'.cell? ⟨g9, 1, none⟩ = some (.string ph) := hO.cell (.tail _ (.head _)) 1; clear hO; go_simp; first | done | with_reducible rfl | (trace_state; fail))); simp only [Act.put, List.setIfInBounds_toArray, List.set_cons_zero, List.set_cons_succ]
      refine lin_g ?_ (by rfl) ?_ ?_; rotate_left 1; (focus (rintro w' hO; clear hO; go_simp; first | done | with_reducible rfl | (trace_state; fail))); simp only [Act.put, List.setIfInBounds_toArray, List.set_cons_zero, List.set_cons_succ]
      refine lin_loadG (by rfl) _ _ rfl g9 0 [Value.string ps, Value.string ph, Value.int .i64 pp, Value.string px, Value.string pq] [Value.string ps, Value.string ph, Value.int .i64 pp, Value.string px, Value.string pq] 23 (by rfl) _ Tryd.underlying23 rfl url_size (by rfl) (fun w' hO => hO.heap (.tail _ (.head _))) ?_; simp only [Act.put, List.setIfInBounds_toArray, List.set_cons_zero, List.set_cons_succ]
      refine lin_loadG (by rfl) _ _ rfl g9 0 [Value.string ps, Value.string ph, Value.int .i64 pp, Value.string px, Value.string pq] [Value.string ps, Value.string ph, Value.int .i64 pp, Value.string px, Value.string pq] 23 (by rfl) _ Tryd.underlying23 rfl url_size (by rfl) (fun w' hO => hO.heap (.tail _ (.head _))) ?_; simp only [Act.put, List.setIfInBounds_toArray, List.set_cons_zero, List.set_cons_succ]
      refine lin_act ?_
      refine wl_g (by rfl) ?_
      refine wl_call rfl _ _ _ (by go_simp) (HM2.out _ _ HT6.out) ?_
      rintro e wzHT7 ⟨rfl, hO⟩
      have HT7 := Lib.hid hO; clear hO HT6
      refine ⟨_, rfl, LinPost.mk HT7.out ?_⟩
      simp only [Act.put, List.setIfInBounds_toArray, List.set_cons_zero, List.set_cons_succ]
      refine lin_g ?_ (by rfl) ?_ ?_; rotate_left 1; (focus (rintro w' hO; clear hO; go_simp; first | done | with_reducible rfl | (trace_state; fail))); simp only [Act.put, List.setIfInBounds_toArray, List.set_cons_zero, List.set_cons_succ]
      refine lin_q ?_ rfl ?_ ?_; rotate_left 1; (focus (rintro w' hO; clear hO; go_simp; first | done | with_reducible rfl | (trace_state; fail))); simp only [Act.put, List.setIfInBounds_toArray, List.set_cons_zero, List.set_cons_succ]
      refine lin_q ?_ rfl ?_ ?_; rotate_left 1; (focus (rintro w' hO; clear hO; go_simp; first | done | with_reducible rfl | (trace_state; fail))); simp only [Act.put, List.setIfInBounds_toArray, List.set_cons_zero, List.set_cons_succ]
      refine lin_act ?_
      refine wl_g (by rfl) ?_
      refine wl_call rfl _ _ _ (by go_simp) (HWK.out _ _ HT7.out) ?_
      rintro e wzHT8 ⟨rfl, hO⟩
      have HT8 := Lib.hid hO; clear hO HT7
      refine ⟨_, rfl, LinPost.mk HT8.out ?_⟩
      simp only [Act.put, List.setIfInBounds_toArray, List.set_cons_zero, List.set_cons_succ]
      refine lin_q ?_ rfl ?_ ?_; rotate_left 1; (focus (rintro w' hO; clear hO; go_simp; first | done | with_reducible rfl | (trace_state; fail))); simp only [Act.put, List.setIfInBounds_toArray, List.set_cons_zero, List.set_cons_succ]
      refine lin_nil ?_
      go_wp2
      go_ret
      exact ⟨by first | rfl | (cases so <;> rfl), HT8.out.below⟩
end Go.Proofs.YtfgaikacijdodaaDoor
