/-
  The walk of CspForms: sources by hand, of a page that is not secure, and of one that is; lists that may be; lists that may not be.
-/
import Derived.Test.YtfgaikacijdodaaDoorM10
import Derived.Test.YtfgaikacijdodaaDoorM1
import Derived.Deep.DeepCutAuto
import Derived.Deep.CutBlock
namespace Go.Proofs.YtfgaikacijdodaaDoor
set_option linter.unusedVariables false
set_option linter.unusedSimpArgs false
set_option maxRecDepth 20000
open Go.RowKit

theorem one_url6 (a b : ByteArray) (k : Int) (c d : ByteArray) : ∀ v ∈ [Value.string a, Value.string b, Value.int .i64 k, Value.string c, Value.string d], v.oneCell' = true := by
  intro v hv
  simp only [List.mem_cons, List.not_mem_nil, or_false] at hv
  rcases hv with rfl | rfl | rfl | rfl | rfl <;> rfl
def MidF11 (W : World) (L : Blks) (a b c : Value) (wx : World) : Prop := ∃ ge : Nat, a = .slice (some ⟨ge, 0, none⟩) 23 23 ∧ b = .int .i64 23 ∧ c = .int .i64 0 ∧ Own W wx ((ge, .cells (formV formB).toArray 27) :: L)
theorem page_val : pageU.val = [Value.string ⟨#[104, 116, 116, 112]⟩, Value.string ⟨#[97, 46, 98]⟩, Value.int .i64 0, Value.string ⟨#[47]⟩, Value.string ⟨#[]⟩] := rfl
theorem safe_val : safeU.val = [Value.string ⟨#[104, 116, 116, 112, 115]⟩, Value.string ⟨#[97, 46, 98]⟩, Value.int .i64 0, Value.string ⟨#[47]⟩, Value.string ⟨#[]⟩] := rfl
set_option maxRecDepth 100000 in
set_option maxHeartbeats 16000000 in
theorem cspForms_walk {W : World} (hV : VarsOk W) (n : Int) (wn : (Lit.int .i64 n).wf = true) :
    Calls Tryd.prog 3 #[.int .i64 n] W (Yes W) := by
  have HO := Lib.hid (Own.start W)
  have HVV := Lib.hid hV
  clear wn hV
  have h1 := uparse_c HVV.out HO.out ⟨#[104, 116, 116, 112, 58, 47, 47, 97, 46, 98, 47]⟩ (by decide)
  rw [page_is] at h1
  unfold GotE at h1
  simp only [Option.getD_some, Option.isSome_some, if_true, page_val] at h1
  have H1 := Lib.hid h1
  have hsf := fun (w1 : World) (R1 : Blks) (h : Own W w1 R1) => uparse_c HVV.out h ⟨#[104, 116, 116, 112, 115, 58, 47, 47, 97, 46, 98, 47]⟩ (by decide)
  rw [safe_is] at hsf
  unfold GotE at hsf
  simp only [Option.getD_some, Option.isSome_some, if_true, safe_val] at hsf
  have HSF := Lib.hid hsf
  clear h1 hsf
  go_enter Tryd.func3, Tryd.ntmps3
  go_wp2_with fail
  with_reducible refine H1.out.mono ?_
  rintro e w1 ⟨rfl, hO⟩
  have HO1 := Lib.hid hO; clear hO HO H1
  go_wp2_with (first | (refine wl_alloc rfl _ rfl HO1.out _ (alloc_url _) ?_; intro g3 w2 hO; have HO2 := Lib.hid hO; clear hO HO1) | (refine wl_store rfl _ _ _ rfl HO2.out 0 g3 0 _ [Value.string ⟨#[104, 116, 116, 112]⟩, Value.string ⟨#[97, 46, 98]⟩, Value.int .i64 0, Value.string ⟨#[47]⟩, Value.string ⟨#[]⟩] _ rfl (by rfl) (by rfl) url_size (one_url6 _ _ _ _ _) (by simp [UL.val, UL.zero]) ?_; intro w3 hO; have HO3 := Lib.hid (hO.cast (L' := (g3, .cells [Value.string ⟨#[104, 116, 116, 112]⟩, Value.string ⟨#[97, 46, 98]⟩, Value.int .i64 0, Value.string ⟨#[47]⟩, Value.string ⟨#[]⟩].toArray 23) :: []) rfl); clear hO HO2))
  with_reducible refine (HSF.out _ _ HO3.out).mono ?_
  rintro e w4 ⟨rfl, hO⟩
  have HO4 := Lib.hid hO; clear hO HO3 HSF
  go_upto_region 3 with (first | (refine wl_alloc rfl _ rfl HO4.out _ (alloc_url _) ?_; intro g5 w5 hO; have HO5 := Lib.hid hO; clear hO HO4) | (refine wl_store rfl _ _ _ rfl HO5.out 0 g5 0 _ [Value.string ⟨#[104, 116, 116, 112, 115]⟩, Value.string ⟨#[97, 46, 98]⟩, Value.int .i64 0, Value.string ⟨#[47]⟩, Value.string ⟨#[]⟩] _ rfl (by rfl) (by rfl) url_size (one_url6 _ _ _ _ _) (by simp [UL.val, UL.zero]) ?_; intro w6 hO; have HO6 := Lib.hid (hO.cast (L' := (g5, .cells [Value.string ⟨#[104, 116, 116, 112, 115]⟩, Value.string ⟨#[97, 46, 98]⟩, Value.int .i64 0, Value.string ⟨#[47]⟩, Value.string ⟨#[]⟩].toArray 23) :: (g3, .cells [Value.string ⟨#[104, 116, 116, 112]⟩, Value.string ⟨#[97, 46, 98]⟩, Value.int .i64 0, Value.string ⟨#[47]⟩, Value.string ⟨#[]⟩].toArray 23) :: []) rfl); clear hO HO5))
  go_cut [45, 46, 47] (fun a b c wx => MidF11 W ((g5, .cells [Value.string ⟨#[104, 116, 116, 112, 115]⟩, Value.string ⟨#[97, 46, 98]⟩, Value.int .i64 0, Value.string ⟨#[47]⟩, Value.string ⟨#[]⟩].toArray 23) :: (g3, .cells [Value.string ⟨#[104, 116, 116, 112]⟩, Value.string ⟨#[97, 46, 98]⟩, Value.int .i64 0, Value.string ⟨#[47]⟩, Value.string ⟨#[]⟩].toArray 23) :: []) a b c wx)
  case first =>
    refine wp_region_list ?_
    iterate 23 (refine wl_build rfl _ _ rfl _ (by exact build_v4 _ _ _ _ _) ?_)
    refine wl_buildSlice rfl _ _ _ rfl HO6.out (.cells (formV formB).toArray 27) (by kernel_rfl) ?_
    intro ge w7 hO
    have HO7 := Lib.hid hO; clear hO HO6
    simp only [Act.put, List.setIfInBounds_toArray, List.set_cons_zero, List.set_cons_succ]
    go_wp2
    go_meet
    exact ⟨ge, rfl, rfl, rfl, HO7.out⟩
  case rest =>
  obtain ⟨ge, rfl, rfl, rfl, hO⟩ := hcut
  have HO7 := Lib.hid hO; clear hO HO6
  go_wp2_with fail
  go_loopw [47] (fun t w' => ∃ i : Nat, i ≤ 23 ∧ t = .int .i64 i ∧ Hid (Own W w' ((ge, .cells (formV formB).toArray 27) :: (g5, .cells [Value.string ⟨#[104, 116, 116, 112, 115]⟩, Value.string ⟨#[97, 46, 98]⟩, Value.int .i64 0, Value.string ⟨#[47]⟩, Value.string ⟨#[]⟩].toArray 23) :: (g3, .cells [Value.string ⟨#[104, 116, 116, 112]⟩, Value.string ⟨#[97, 46, 98]⟩, Value.int .i64 0, Value.string ⟨#[47]⟩, Value.string ⟨#[]⟩].toArray 23) :: []))) (fun t _ => 23 - (intOf t).toNat)
  case atStart => exact ⟨0, by omega, rfl, HO7⟩
  case round =>
    obtain ⟨i, hi, rfl, HL⟩ := hrel
    clear HO7
    by_cases hi11 : i < 23
    · have hiI : (i : Int) < 23 := by omega
      obtain ⟨⟨s, t, ab, bb⟩, hr⟩ : ∃ r, formB[i]? = some r := ⟨_, List.getElem?_eq_getElem (by simpa [formB] using hi11)⟩
      obtain ⟨u, hpu, huh, hma, hms, hss, hts⟩ := form_at (List.mem_of_getElem? hr)
      have hat := formV_at _ _ _ _ _ _ hr
      have hup := fun (w1 : World) (R1 : Blks) (h : Own W w1 R1) => uparse_c HVV.out h t (by omega)
      rw [hpu] at hup
      unfold GotE at hup
      simp only [Option.getD_some, Option.isSome_some, if_true] at hup
      have hmp := fun (w1 : World) (R1 : Blks) (h : Own W w1 R1) => cmatch_c HVV.out h s (by omega) pageU u page_half huh
      have hmq := fun (w1 : World) (R1 : Blks) (h : Own W w1 R1) => cmatch_c HVV.out h s (by omega) safeU u safe_half huh
      rw [hma] at hmp
      rw [hms] at hmq
      simp only [page_val, safe_val] at hmp hmq
      simp only [UL.val] at hup hmp hmq
      generalize strOfNums u.sch = us at *
      generalize strOfNums u.host = uh at *
      generalize strOfNums u.path = ux at *
      generalize strOfNums u.query = uq at *
      generalize u.port = up at *
      have HUP := Lib.hid hup; have HMP := Lib.hid hmp; have HMS := Lib.hid hmq; have HAT := Lib.hid hat
      clear hup hmp hmq hat hr hpu huh hma hms hss hts
      go_wp2_with (first | (refine wl_load rfl _ _ rfl ge (i * 4) (formV formB) (v4 s t ab bb) _ (HL.out.heap (.head _)) (by rfl) _ Tryd.underlying27 rfl v4_size HAT.out ?_) | (refine wl_alloc rfl _ rfl HL.out _ (alloc_v4 _) ?_; intro g8 w8 hO; have HO8 := Lib.hid hO; clear hO HL) | (refine wl_store rfl _ _ _ rfl HO8.out 0 g8 0 _ (v4 s t ab bb) _ rfl (by rfl) (by rfl) v4_size (one_v4 _ _ _ _) (by simp [v4]) ?_; intro w9 hO; have HO9a := Lib.hid (hO.cast (L' := (g8, .cells (v4 s t ab bb).toArray 27) :: (ge, .cells (formV formB).toArray 27) :: (g5, .cells [Value.string ⟨#[104, 116, 116, 112, 115]⟩, Value.string ⟨#[97, 46, 98]⟩, Value.int .i64 0, Value.string ⟨#[47]⟩, Value.string ⟨#[]⟩].toArray 23) :: (g3, .cells [Value.string ⟨#[104, 116, 116, 112]⟩, Value.string ⟨#[97, 46, 98]⟩, Value.int .i64 0, Value.string ⟨#[47]⟩, Value.string ⟨#[]⟩].toArray 23) :: []) rfl); clear hO HO8; have f1 : w9.cell? ⟨g8, 1, none⟩ = some (.string t) := HO9a.out.cell (.head _) 1))
      with_reducible refine (HUP.out _ _ HO9a.out).mono ?_
      rintro e w10 ⟨rfl, hO⟩
      have HO10 := Lib.hid hO; clear hO HO9a HUP f1
      go_wp2_with (first | (refine wl_alloc rfl _ rfl HO10.out _ (alloc_url _) ?_; intro g9 w11 hO; have HO11 := Lib.hid hO; clear hO HO10) | (refine wl_store rfl _ _ _ rfl HO11.out 0 g9 0 _ [Value.string us, Value.string uh, Value.int .i64 up, Value.string ux, Value.string uq] _ rfl (by rfl) (by rfl) url_size (one_url6 _ _ _ _ _) (by simp [UL.val, UL.zero]) ?_; intro w12 hO; have HO9 := Lib.hid (hO.cast (L' := (g9, .cells [Value.string us, Value.string uh, Value.int .i64 up, Value.string ux, Value.string uq].toArray 23) :: (g8, .cells (v4 s t ab bb).toArray 27) :: (ge, .cells (formV formB).toArray 27) :: (g5, .cells [Value.string ⟨#[104, 116, 116, 112, 115]⟩, Value.string ⟨#[97, 46, 98]⟩, Value.int .i64 0, Value.string ⟨#[47]⟩, Value.string ⟨#[]⟩].toArray 23) :: (g3, .cells [Value.string ⟨#[104, 116, 116, 112]⟩, Value.string ⟨#[97, 46, 98]⟩, Value.int .i64 0, Value.string ⟨#[47]⟩, Value.string ⟨#[]⟩].toArray 23) :: []) rfl); clear hO HO11))
      refine wp_region_lin (fun w' => Own W w' ((g9, .cells [Value.string us, Value.string uh, Value.int .i64 up, Value.string ux, Value.string uq].toArray 23) :: (g8, .cells (v4 s t ab bb).toArray 27) :: (ge, .cells (formV formB).toArray 27) :: (g5, .cells [Value.string ⟨#[104, 116, 116, 112, 115]⟩, Value.string ⟨#[97, 46, 98]⟩, Value.int .i64 0, Value.string ⟨#[47]⟩, Value.string ⟨#[]⟩].toArray 23) :: (g3, .cells [Value.string ⟨#[104, 116, 116, 112]⟩, Value.string ⟨#[97, 46, 98]⟩, Value.int .i64 0, Value.string ⟨#[47]⟩, Value.string ⟨#[]⟩].toArray 23) :: [])) 22 [(0, true), (1, true), (2, true), (3, true), (4, true), (5, true), (6, true), (8, true), (9, true), (7, false), (10, true), (11, true), (12, true), (13, true), (14, true), (15, true), (16, true), (18, true), (19, true), (17, false), (20, true), (21, true)] (by kernel_rfl) (by kernel_rfl) (fun _ _ d _ _ h => by cases d <;> exact h) HO9.out.drew ?_
      simp only [List.map_cons, List.map_nil, pick_zero, pick_succ, List.drop_succ_cons, List.drop_zero]
      have HR0 := Lib.hid HO9.out.drew; clear HO9
      refine lin_q ?_ rfl ?_ ?_; rotate_left 1; (focus (rintro w' hO; clear hO; go_simp; first | done | with_reducible rfl | (trace_state; fail))); simp only [Act.put, List.setIfInBounds_toArray, List.set_cons_zero, List.set_cons_succ]
      refine lin_q ?_ rfl ?_ ?_; rotate_left 1; (focus (rintro w' hO; clear hO; go_simp; first | done | with_reducible rfl | (trace_state; fail))); simp only [Act.put, List.setIfInBounds_toArray, List.set_cons_zero, List.set_cons_succ]
      refine lin_q ?_ rfl ?_ ?_; rotate_left 1; (focus (rintro w' hO; clear hO; go_simp; first | done | with_reducible rfl | (trace_state; fail))); simp only [Act.put, List.setIfInBounds_toArray, List.set_cons_zero, List.set_cons_succ]
      refine lin_g ?_ (by rfl) ?_ ?_; rotate_left 1; (focus (rintro w' hO; clear hO; go_simp; first | done | with_reducible rfl | (trace_state; fail))); simp only [Act.put, List.setIfInBounds_toArray, List.set_cons_zero, List.set_cons_succ]
      refine lin_g ?_ (by rfl) ?_ ?_; rotate_left 1; (focus (rintro w' hO; have k1 : w'.cell? ⟨g8, 0, none⟩ = some (.string s) := hO.cell (.tail _ (.head _)) 0; clear hO; go_simp; first | done | with_reducible rfl | (trace_state; fail))); simp only [Act.put, List.setIfInBounds_toArray, List.set_cons_zero, List.set_cons_succ]
      refine lin_loadG (by rfl) _ _ rfl g3 0 [Value.string ⟨#[104, 116, 116, 112]⟩, Value.string ⟨#[97, 46, 98]⟩, Value.int .i64 0, Value.string ⟨#[47]⟩, Value.string ⟨#[]⟩] [Value.string ⟨#[104, 116, 116, 112]⟩, Value.string ⟨#[97, 46, 98]⟩, Value.int .i64 0, Value.string ⟨#[47]⟩, Value.string ⟨#[]⟩] 23 (by rfl) _ Tryd.underlying23 rfl url_size (by rfl) (fun w' hO => hO.heap (.tail _ (.tail _ (.tail _ (.tail _ (.head _)))))) ?_; simp only [Act.put, List.setIfInBounds_toArray, List.set_cons_zero, List.set_cons_succ]
      refine lin_loadG (by rfl) _ _ rfl g9 0 [Value.string us, Value.string uh, Value.int .i64 up, Value.string ux, Value.string uq] [Value.string us, Value.string uh, Value.int .i64 up, Value.string ux, Value.string uq] 23 (by rfl) _ Tryd.underlying23 rfl url_size (by rfl) (fun w' hO => hO.heap (.head _)) ?_; simp only [Act.put, List.setIfInBounds_toArray, List.set_cons_zero, List.set_cons_succ]
      refine lin_g ?_ (by rfl) ?_ ?_; rotate_left 1; (focus (rintro w' hO; clear hO; go_simp; first | done | with_reducible rfl | (trace_state; fail))); simp only [Act.put, List.setIfInBounds_toArray, List.set_cons_zero, List.set_cons_succ]
      refine lin_g ?_ (by rfl) ?_ ?_; rotate_left 1; (focus (rintro w' hO; have k1 : w'.cell? ⟨g8, 2, none⟩ = some (.bool ab) := hO.cell (.tail _ (.head _)) 2; clear hO; go_simp; first | done | with_reducible rfl | (trace_state; fail))); simp only [Act.put, List.setIfInBounds_toArray, List.set_cons_zero, List.set_cons_succ]
      refine lin_act ?_
      refine wl_g (by rfl) ?_
      refine wl_call rfl _ _ _ (by go_simp) (HMP.out _ _ HR0.out) ?_
      rintro e wzHR1 ⟨rfl, hO⟩
      have HR1 := Lib.hid hO; clear hO HR0
      refine ⟨_, rfl, LinPost.mk HR1.out ?_⟩
      simp only [Act.put, List.setIfInBounds_toArray, List.set_cons_zero, List.set_cons_succ]
      refine lin_g ?_ (by rfl) ?_ ?_; rotate_left 1; (focus (rintro w' hO; clear hO; go_simp; first | done | with_reducible rfl | (trace_state; fail))); simp only [Act.put, List.setIfInBounds_toArray, List.set_cons_zero, List.set_cons_succ]
      refine lin_q ?_ rfl ?_ ?_; rotate_left 1; (focus (rintro w' hO; clear hO; go_simp; first | done | with_reducible rfl | (trace_state; fail))); simp only [Act.put, List.setIfInBounds_toArray, List.set_cons_zero, List.set_cons_succ]
      refine lin_q ?_ rfl ?_ ?_; rotate_left 1; (focus (rintro w' hO; clear hO; go_simp; first | done | with_reducible rfl | (trace_state; fail))); simp only [Act.put, List.setIfInBounds_toArray, List.set_cons_zero, List.set_cons_succ]
      refine lin_g ?_ (by rfl) ?_ ?_; rotate_left 1; (focus (rintro w' hO; clear hO; go_simp; first | done | with_reducible rfl | (trace_state; fail))); simp only [Act.put, List.setIfInBounds_toArray, List.set_cons_zero, List.set_cons_succ]
      refine lin_g ?_ (by rfl) ?_ ?_; rotate_left 1; (focus (rintro w' hO; have k1 : w'.cell? ⟨g8, 0, none⟩ = some (.string s) := hO.cell (.tail _ (.head _)) 0; clear hO; go_simp; first | done | with_reducible rfl | (trace_state; fail))); simp only [Act.put, List.setIfInBounds_toArray, List.set_cons_zero, List.set_cons_succ]
      refine lin_loadG (by rfl) _ _ rfl g5 0 [Value.string ⟨#[104, 116, 116, 112, 115]⟩, Value.string ⟨#[97, 46, 98]⟩, Value.int .i64 0, Value.string ⟨#[47]⟩, Value.string ⟨#[]⟩] [Value.string ⟨#[104, 116, 116, 112, 115]⟩, Value.string ⟨#[97, 46, 98]⟩, Value.int .i64 0, Value.string ⟨#[47]⟩, Value.string ⟨#[]⟩] 23 (by rfl) _ Tryd.underlying23 rfl url_size (by rfl) (fun w' hO => hO.heap (.tail _ (.tail _ (.tail _ (.head _))))) ?_; simp only [Act.put, List.setIfInBounds_toArray, List.set_cons_zero, List.set_cons_succ]
      refine lin_loadG (by rfl) _ _ rfl g9 0 [Value.string us, Value.string uh, Value.int .i64 up, Value.string ux, Value.string uq] [Value.string us, Value.string uh, Value.int .i64 up, Value.string ux, Value.string uq] 23 (by rfl) _ Tryd.underlying23 rfl url_size (by rfl) (fun w' hO => hO.heap (.head _)) ?_; simp only [Act.put, List.setIfInBounds_toArray, List.set_cons_zero, List.set_cons_succ]
      refine lin_g ?_ (by rfl) ?_ ?_; rotate_left 1; (focus (rintro w' hO; clear hO; go_simp; first | done | with_reducible rfl | (trace_state; fail))); simp only [Act.put, List.setIfInBounds_toArray, List.set_cons_zero, List.set_cons_succ]
      refine lin_g ?_ (by rfl) ?_ ?_; rotate_left 1; (focus (rintro w' hO; have k1 : w'.cell? ⟨g8, 3, none⟩ = some (.bool bb) := hO.cell (.tail _ (.head _)) 3; clear hO; go_simp; first | done | with_reducible rfl | (trace_state; fail))); simp only [Act.put, List.setIfInBounds_toArray, List.set_cons_zero, List.set_cons_succ]
      refine lin_act ?_
      refine wl_g (by rfl) ?_
      refine wl_call rfl _ _ _ (by go_simp) (HMS.out _ _ HR1.out) ?_
      rintro e wzHR2 ⟨rfl, hO⟩
      have HR2 := Lib.hid hO; clear hO HR1
      refine ⟨_, rfl, LinPost.mk HR2.out ?_⟩
      simp only [Act.put, List.setIfInBounds_toArray, List.set_cons_zero, List.set_cons_succ]
      refine lin_g ?_ (by rfl) ?_ ?_; rotate_left 1; (focus (rintro w' hO; clear hO; go_simp; first | done | with_reducible rfl | (trace_state; fail))); simp only [Act.put, List.setIfInBounds_toArray, List.set_cons_zero, List.set_cons_succ]
      refine lin_q ?_ rfl ?_ ?_; rotate_left 1; (focus (rintro w' hO; clear hO; go_simp; first | done | with_reducible rfl | (trace_state; fail))); simp only [Act.put, List.setIfInBounds_toArray, List.set_cons_zero, List.set_cons_succ]
      refine lin_nil ?_
      have hab : (ab == ab) = true := by cases ab <;> rfl
      have hbb : (bb == bb) = true := by cases bb <;> rfl
      go_wp2
      go_roundw
      case rel => exact ⟨i + 1, by omega, by go_num, Lib.hid HR2.out.tail.tail⟩
      case measure => simp [intOf]; omega
    · have hiI : ¬ (i : Int) < 23 := by omega
      clear hi hi11
      go_wp2_with (refine wl_buildSlice rfl _ _ _ rfl HL.out _ (by exact build_good _) ?_; intro gg w8 hO; have HO8 := Lib.hid hO; clear hO HL)
      go_loopw [82] (fun t w' => ∃ k : Nat, k ≤ 9 ∧ t = .int .i64 k ∧ Hid (Own W w' ((gg, .cells (goodB.map Value.string).toArray 9) :: (ge, .cells (formV formB).toArray 27) :: (g5, .cells [Value.string ⟨#[104, 116, 116, 112, 115]⟩, Value.string ⟨#[97, 46, 98]⟩, Value.int .i64 0, Value.string ⟨#[47]⟩, Value.string ⟨#[]⟩].toArray 23) :: (g3, .cells [Value.string ⟨#[104, 116, 116, 112]⟩, Value.string ⟨#[97, 46, 98]⟩, Value.int .i64 0, Value.string ⟨#[47]⟩, Value.string ⟨#[]⟩].toArray 23) :: []))) (fun t _ => 9 - (intOf t).toNat)
      case atStart => exact ⟨0, by omega, rfl, HO8⟩
      case round =>
        obtain ⟨k, hk, rfl, HK⟩ := hrel
        clear HO8
        by_cases hk9 : k < 9
        · have hkI : (k : Int) < 9 := by omega
          obtain ⟨y, hy⟩ : ∃ y, goodB[k]? = some y := ⟨_, List.getElem?_eq_getElem (by simpa [goodB] using hk9)⟩
          have hyo := good_ok y (List.mem_of_getElem? hy)
          have hyz := good_size y (List.mem_of_getElem? hy)
          have hck := fun (w1 : World) (R1 : Blks) (h : Own W w1 R1) => ccheck_c HVV.out h y (by omega)
          rw [hyo, show errC true = 0 from rfl] at hck
          have HCK := Lib.hid hck; have HY := Lib.hid hy
          have hc : wr.cell? ⟨gg, k, none⟩ = some (.string y) := (HK.out.cell (.head _) k).trans (by simp [HY.out])
          clear hyo hyz hck hy
          go_wp2_with fail
          with_reducible refine (HCK.out _ _ HK.out).mono ?_
          rintro e w10 ⟨rfl, hO⟩
          have HK2 := Lib.hid hO; clear hO HK hc
          go_wp2
          go_roundw
          case rel => exact ⟨k + 1, by omega, by go_num, HK2⟩
          case measure => simp [intOf]; omega
        · have hkI : ¬ (k : Int) < 9 := by omega
          have q := fun w : World => within_n (w := w) n 18 (by omega) (by omega)
          have hj : (n % 18).toNat < 18 := by omega
          generalize (n % 18).toNat = j at *
          obtain ⟨y, hy⟩ : ∃ y, badL[j]? = some y := ⟨_, List.getElem?_eq_getElem (by simpa [badL] using hj)⟩
          have hyo := bad_no y (List.mem_of_getElem? hy)
          have hyz := bad_size y (List.mem_of_getElem? hy)
          have hck := fun (w1 : World) (R1 : Blks) (h : Own W w1 R1) => ccheck_c HVV.out h y (by omega)
          rw [hyo, show errC false = 1 from rfl] at hck
          have hwk := fun (w1 : World) (R1 : Blks) (h : Own W w1 R1) => wakes11_c HVV.out h
          have HCK := Lib.hid hck; have HY := Lib.hid hy; have HQ := Lib.hid q; have HWK := Lib.hid hwk
          have hjI : (j : Int) < 18 := by omega
          clear hyo hyz hck hy q hwk hk hk9
          go_wp2_with (refine wl_buildSlice rfl _ _ _ rfl HK.out _ (by exact build_badL _) ?_; intro gs w10 hO; have HO10 := Lib.hid hO; clear hO HK)
          with_reducible refine (HQ.out _).mono ?_
          rintro e wq ⟨rfl, hww⟩
          subst hww
          have hc : w10.cell? ⟨gs, j, none⟩ = some (.string y) := (HO10.out.cell (.head _) j).trans (by simp [HY.out])
          go_wp2_with fail
          with_reducible refine (HCK.out _ _ HO10.out).mono ?_
          rintro e w12 ⟨rfl, hO⟩
          have HO12 := Lib.hid hO; clear hO HO10 hc
          go_wp2_with fail
          with_reducible refine (HWK.out _ _ HO12.out).mono ?_
          rintro e w13 ⟨rfl, hO⟩
          have HO13 := Lib.hid hO; clear hO HO12
          go_wp2
          go_ret
          exact ⟨rfl, HO13.out.below⟩
end Go.Proofs.YtfgaikacijdodaaDoor
