/-
  Texts that the laws stand on: CspP, Csp7, Csp9, VarsC.
-/
import Derived.Test.YtfgaikacijdodaaDoorM9
import Derived.Test.YtfgaikacijdodaaDoorM6
import Derived.Test.YtfgaikacijdodaaDoorM1
import Derived.Test.YtfgaikacijdodaaDoorCards
import Derived.Test.YtfgaikacijdodaaDoorTie
import Derived.WalkKit
import Derived.ProofKit
import Derived.OpenShut
import Derived.ShutString
import Derived.Deep.DeepHandedRow
import Derived.Lib.LaidTab
import Derived.Stop.LaidErr

/-
  The landed program's Match and Allows.
-/
namespace Go.Proofs.YtfgaikacijdodaaDoor
set_option linter.unusedVariables false
set_option linter.unusedSimpArgs false
set_option maxRecDepth 20000
open Go.RowKit

set_option maxHeartbeats 8000000 in
theorem cmatch_none {w0 w : World} {R : Blks} (hV : VarsOk w0) (hO : Own w0 w R) (s : ByteArray) (hs : s.size ≤ 4000000) (page u : UL) (hl : lowL (sb s) = noneW) :
    Calls Tryd.prog 8 #[.string s, .agg page.val.toArray, .agg u.val.toArray] w fun e w' => e = .returned (.bool false) ∧ Own w0 w' R := by
  have hlow := fun (w1 : World) (R1 : Blks) (h : Own w0 w1 R1) => lower_c h s (by omega)
  have hlB : Byt (lowL (sb s)) := lowL_byt (byt_sb s)
  have hll : (lowL (sb s)).length ≤ 4000000 := by unfold lowL; rw [List.length_map, length_sb]; exact hs
  obtain ⟨X, hXe⟩ : ∃ X, strOfNums (lowL (sb s)) = X := ⟨_, rfl⟩
  have hX : sb X = lowL (sb s) := by rw [← hXe, sb_str hlB]
  rw [hXe] at hlow
  rw [hl] at hX
  have t1 : (X.toList == [39, 110, 111, 110, 101, 39]) = true := by rw [beq_litC X [39, 110, 111, 110, 101, 39] noneW rfl, hX]; rfl
  unfold UL.val
  generalize strOfNums page.sch = ps at *
  generalize strOfNums page.host = ph at *
  generalize strOfNums page.path = px at *
  generalize strOfNums page.query = pq at *
  generalize page.port = pp at *
  generalize strOfNums u.sch = us at *
  generalize strOfNums u.host = uh at *
  generalize strOfNums u.path = ux at *
  generalize strOfNums u.query = uq at *
  generalize u.port = up at *
  have HO := Lib.hid hO; have HL := Lib.hid hlow
  clear hO hlow hlB hll hXe hX hV
  go_enter Tryd.func8, Tryd.ntmps8
  go_wp2_with (first | (refine wl_box rfl _ _ rfl HO.out [Value.string ps, Value.string ph, Value.int .i64 pp, Value.string px, Value.string pq].toArray (by rfl) ?_; intro g1 w1 hO; have HO1 := Lib.hid hO; clear hO HO) | (refine wl_box rfl _ _ rfl HO1.out [Value.string us, Value.string uh, Value.int .i64 up, Value.string ux, Value.string uq].toArray (by rfl) ?_; intro g2 w2 hO; have HO2 := Lib.hid (hO.cast (L' := (g2, .cells [Value.string us, Value.string uh, Value.int .i64 up, Value.string ux, Value.string uq].toArray 23) :: (g1, .cells [Value.string ps, Value.string ph, Value.int .i64 pp, Value.string px, Value.string pq].toArray 23) :: R) rfl); clear hO HO1))
  with_reducible refine (HL.out _ _ HO2.out).mono ?_
  rintro e w3 ⟨rfl, hO⟩
  have HO3 := Lib.hid hO; clear hO HO2 HL
  go_wp2
  go_ret
  exact ⟨rfl, HO3.out.tail.tail⟩
set_option maxHeartbeats 8000000 in
theorem cmatch_star {w0 w : World} {R : Blks} (hV : VarsOk w0) (hO : Own w0 w R) (s : ByteArray) (hs : s.size ≤ 4000000) (page u : UL) (hl : lowL (sb s) = [42]) :
    Calls Tryd.prog 8 #[.string s, .agg page.val.toArray, .agg u.val.toArray] w fun e w' => e = .returned (.bool true) ∧ Own w0 w' R := by
  have hlow := fun (w1 : World) (R1 : Blks) (h : Own w0 w1 R1) => lower_c h s (by omega)
  have hlB : Byt (lowL (sb s)) := lowL_byt (byt_sb s)
  have hll : (lowL (sb s)).length ≤ 4000000 := by unfold lowL; rw [List.length_map, length_sb]; exact hs
  obtain ⟨X, hXe⟩ : ∃ X, strOfNums (lowL (sb s)) = X := ⟨_, rfl⟩
  have hX : sb X = lowL (sb s) := by rw [← hXe, sb_str hlB]
  rw [hXe] at hlow
  rw [hl] at hX
  have t1 : (X.toList == [39, 110, 111, 110, 101, 39]) = false := by rw [beq_litC X [39, 110, 111, 110, 101, 39] noneW rfl, hX]; rfl
  have t2 : (X.toList == [39, 115, 101, 108, 102, 39]) = false := by rw [beq_litC X [39, 115, 101, 108, 102, 39] selfW rfl, hX]; rfl
  have t3 : (X.toList == [42]) = true := by rw [beq_litC X [42] [42] rfl, hX]; rfl
  unfold UL.val
  generalize strOfNums page.sch = ps at *
  generalize strOfNums page.host = ph at *
  generalize strOfNums page.path = px at *
  generalize strOfNums page.query = pq at *
  generalize page.port = pp at *
  generalize strOfNums u.sch = us at *
  generalize strOfNums u.host = uh at *
  generalize strOfNums u.path = ux at *
  generalize strOfNums u.query = uq at *
  generalize u.port = up at *
  have HO := Lib.hid hO; have HL := Lib.hid hlow
  clear hO hlow hlB hll hXe hX hV
  go_enter Tryd.func8, Tryd.ntmps8
  go_wp2_with (first | (refine wl_box rfl _ _ rfl HO.out [Value.string ps, Value.string ph, Value.int .i64 pp, Value.string px, Value.string pq].toArray (by rfl) ?_; intro g1 w1 hO; have HO1 := Lib.hid hO; clear hO HO) | (refine wl_box rfl _ _ rfl HO1.out [Value.string us, Value.string uh, Value.int .i64 up, Value.string ux, Value.string uq].toArray (by rfl) ?_; intro g2 w2 hO; have HO2 := Lib.hid (hO.cast (L' := (g2, .cells [Value.string us, Value.string uh, Value.int .i64 up, Value.string ux, Value.string uq].toArray 23) :: (g1, .cells [Value.string ps, Value.string ph, Value.int .i64 pp, Value.string px, Value.string pq].toArray 23) :: R) rfl); clear hO HO1))
  with_reducible refine (HL.out _ _ HO2.out).mono ?_
  rintro e w3 ⟨rfl, hO⟩
  have HO3 := Lib.hid hO; clear hO HO2 HL
  go_wp2
  go_ret
  exact ⟨rfl, HO3.out.tail.tail⟩
set_option maxHeartbeats 8000000 in
theorem cmatch_self {w0 w : World} {R : Blks} (hV : VarsOk w0) (hO : Own w0 w R) (s : ByteArray) (hs : s.size ≤ 4000000) (page u : UL) (hp : page.Half) (hu : u.Half) (hl : lowL (sb s) = selfW) :
    Calls Tryd.prog 8 #[.string s, .agg page.val.toArray, .agg u.val.toArray] w fun e w' => e = .returned (.bool (decide (originI page = originI u))) ∧ Own w0 w' R := by
  have hlow := fun (w1 : World) (R1 : Blks) (h : Own w0 w1 R1) => lower_c h s (by omega)
  have hlB : Byt (lowL (sb s)) := lowL_byt (byt_sb s)
  have hll : (lowL (sb s)).length ≤ 4000000 := by unfold lowL; rw [List.length_map, length_sb]; exact hs
  obtain ⟨X, hXe⟩ : ∃ X, strOfNums (lowL (sb s)) = X := ⟨_, rfl⟩
  have hX : sb X = lowL (sb s) := by rw [← hXe, sb_str hlB]
  rw [hXe] at hlow
  rw [hl] at hX
  have t1 : (X.toList == [39, 110, 111, 110, 101, 39]) = false := by rw [beq_litC X [39, 110, 111, 110, 101, 39] noneW rfl, hX]; rfl
  have t2 : (X.toList == [39, 115, 101, 108, 102, 39]) = true := by rw [beq_litC X [39, 115, 101, 108, 102, 39] selfW rfl, hX]; rfl
  have hsm := fun (w1 : World) (R1 : Blks) (h : Own w0 w1 R1) => usame_c hV h page u hp hu
  generalize decide (originI page = originI u) = ans at *
  simp only [UL.val] at hsm ⊢
  generalize strOfNums page.sch = ps at *
  generalize strOfNums page.host = ph at *
  generalize strOfNums page.path = px at *
  generalize strOfNums page.query = pq at *
  generalize page.port = pp at *
  generalize strOfNums u.sch = us at *
  generalize strOfNums u.host = uh at *
  generalize strOfNums u.path = ux at *
  generalize strOfNums u.query = uq at *
  generalize u.port = up at *
  have HS := Lib.hid hsm
  clear hsm
  have HO := Lib.hid hO; have HL := Lib.hid hlow
  clear hO hlow hlB hll hXe hX hV hp hu
  go_enter Tryd.func8, Tryd.ntmps8
  go_wp2_with (first | (refine wl_box rfl _ _ rfl HO.out [Value.string ps, Value.string ph, Value.int .i64 pp, Value.string px, Value.string pq].toArray (by rfl) ?_; intro g1 w1 hO; have HO1 := Lib.hid hO; clear hO HO) | (refine wl_box rfl _ _ rfl HO1.out [Value.string us, Value.string uh, Value.int .i64 up, Value.string ux, Value.string uq].toArray (by rfl) ?_; intro g2 w2 hO; have HO2 := Lib.hid (hO.cast (L' := (g2, .cells [Value.string us, Value.string uh, Value.int .i64 up, Value.string ux, Value.string uq].toArray 23) :: (g1, .cells [Value.string ps, Value.string ph, Value.int .i64 pp, Value.string px, Value.string pq].toArray 23) :: R) rfl); clear hO HO1))
  with_reducible refine (HL.out _ _ HO2.out).mono ?_
  rintro e w3 ⟨rfl, hO⟩
  have HO3 := Lib.hid hO; clear hO HO2 HL
  go_wp2_with (first | (refine wl_load rfl _ _ rfl g1 0 [Value.string ps, Value.string ph, Value.int .i64 pp, Value.string px, Value.string pq] [Value.string ps, Value.string ph, Value.int .i64 pp, Value.string px, Value.string pq] _ (HO3.out.heap (.tail _ (.head _))) (by rfl) _ Tryd.underlying23 rfl url_size (by rfl) ?_) | (refine wl_load rfl _ _ rfl g2 0 [Value.string us, Value.string uh, Value.int .i64 up, Value.string ux, Value.string uq] [Value.string us, Value.string uh, Value.int .i64 up, Value.string ux, Value.string uq] _ (HO3.out.heap (.head _)) (by rfl) _ Tryd.underlying23 rfl url_size (by rfl) ?_))
  with_reducible refine (HS.out _ _ HO3.out).mono ?_
  rintro e w4 ⟨rfl, hO⟩
  have HO4 := Lib.hid hO; clear hO HO3 HS
  go_wp2
  go_ret
  exact ⟨rfl, HO4.out.tail.tail⟩
set_option maxHeartbeats 8000000 in
theorem cmatch_http {w0 w : World} {R : Blks} (hV : VarsOk w0) (hO : Own w0 w R) (s : ByteArray) (hs : s.size ≤ 4000000) (page u : UL) (hu : u.Half) (hl : lowL (sb s) = httpI ++ [58]) :
    Calls Tryd.prog 8 #[.string s, .agg page.val.toArray, .agg u.val.toArray] w fun e w' => e = .returned (.bool (likeI httpI u)) ∧ Own w0 w' R := by
  have hlow := fun (w1 : World) (R1 : Blks) (h : Own w0 w1 R1) => lower_c h s (by omega)
  have hlB : Byt (lowL (sb s)) := lowL_byt (byt_sb s)
  have hll : (lowL (sb s)).length ≤ 4000000 := by unfold lowL; rw [List.length_map, length_sb]; exact hs
  obtain ⟨X, hXe⟩ : ∃ X, strOfNums (lowL (sb s)) = X := ⟨_, rfl⟩
  have hX : sb X = lowL (sb s) := by rw [← hXe, sb_str hlB]
  rw [hXe] at hlow
  rw [hl] at hX
  have t1 : (X.toList == [39, 110, 111, 110, 101, 39]) = false := by rw [beq_litC X [39, 110, 111, 110, 101, 39] noneW rfl, hX]; rfl
  have t2 : (X.toList == [39, 115, 101, 108, 102, 39]) = false := by rw [beq_litC X [39, 115, 101, 108, 102, 39] selfW rfl, hX]; rfl
  have t3 : (X.toList == [42]) = false := by rw [beq_litC X [42] [42] rfl, hX]; rfl
  have t4 : (X.toList == [104, 116, 116, 112, 58]) = true := by rw [beq_litC X [104, 116, 116, 112, 58] (httpI ++ [58]) rfl, hX]; rfl
  have hXl : X.size ≤ 1073741824 := by rw [← length_sb, hX]; decide
  have htr := fun (w1 : World) (R1 : Blks) (h : Own w0 w1 R1) => (ctrims_c (w := w1) X ⟨#[58]⟩ hXl).mono (fun e w' hq => And.intro hq.1 (hq.2 ▸ h))
  rw [hX, show trimS (sb ⟨#[58]⟩) (httpI ++ [58]) = httpI from by decide] at htr
  have hsf := fun (w1 : World) (R1 : Blks) (h : Own w0 w1 R1) => (csafer_c (w := w1) u.sch httpI hu.schB http_byt).mono (fun e w' hq => And.intro hq.1 (hq.2 ▸ h))
  rw [safer_like (sc := httpI) (by first | exact .inl rfl | exact .inr rfl) u] at hsf
  generalize likeI httpI u = ans at *
  unfold UL.val
  generalize strOfNums page.sch = ps at *
  generalize strOfNums page.host = ph at *
  generalize strOfNums page.path = px at *
  generalize strOfNums page.query = pq at *
  generalize page.port = pp at *
  generalize strOfNums u.sch = us at *
  generalize strOfNums u.host = uh at *
  generalize strOfNums u.path = ux at *
  generalize strOfNums u.query = uq at *
  generalize u.port = up at *
  have HT := Lib.hid htr; have HSF := Lib.hid hsf
  clear htr hsf
  have HO := Lib.hid hO; have HL := Lib.hid hlow
  clear hO hlow hlB hll hXe hX hV hu
  go_enter Tryd.func8, Tryd.ntmps8
  go_wp2_with (first | (refine wl_box rfl _ _ rfl HO.out [Value.string ps, Value.string ph, Value.int .i64 pp, Value.string px, Value.string pq].toArray (by rfl) ?_; intro g1 w1 hO; have HO1 := Lib.hid hO; clear hO HO) | (refine wl_box rfl _ _ rfl HO1.out [Value.string us, Value.string uh, Value.int .i64 up, Value.string ux, Value.string uq].toArray (by rfl) ?_; intro g2 w2 hO; have HO2 := Lib.hid (hO.cast (L' := (g2, .cells [Value.string us, Value.string uh, Value.int .i64 up, Value.string ux, Value.string uq].toArray 23) :: (g1, .cells [Value.string ps, Value.string ph, Value.int .i64 pp, Value.string px, Value.string pq].toArray 23) :: R) rfl); clear hO HO1))
  with_reducible refine (HL.out _ _ HO2.out).mono ?_
  rintro e w3 ⟨rfl, hO⟩
  have HO3 := Lib.hid hO; clear hO HO2 HL
  go_upto_region 11 with fail
  refine wp_region_lin (fun w' => Own w0 w' ((g2, .cells [Value.string us, Value.string uh, Value.int .i64 up, Value.string ux, Value.string uq].toArray 23) :: (g1, .cells [Value.string ps, Value.string ph, Value.int .i64 pp, Value.string px, Value.string pq].toArray 23) :: R)) 6 [(0, true), (1, true), (2, true), (3, false), (4, false), (5, true)] (by kernel_rfl) (by kernel_rfl) (fun _ _ d _ _ h => by cases d <;> exact h) HO3.out.drew ?_
  simp only [List.map_cons, List.map_nil, pick_zero, pick_succ, List.drop_succ_cons, List.drop_zero]
  have HR0 := Lib.hid HO3.out.drew; clear HO3
  refine lin_q ?_ rfl ?_ ?_; rotate_left 1; (focus (rintro w' hO; clear hO; go_simp; first | done | with_reducible rfl | (trace_state; fail))); simp only [Act.put, List.setIfInBounds_toArray, List.set_cons_zero, List.set_cons_succ]
  refine lin_q ?_ rfl ?_ ?_; rotate_left 1; (focus (rintro w' hO; have k1 : w'.cell? ⟨g2, 0, none⟩ = some (.string us) := hO.cell (.head _) 0; clear hO; go_simp; first | done | with_reducible rfl | (trace_state; fail))); simp only [Act.put, List.setIfInBounds_toArray, List.set_cons_zero, List.set_cons_succ]
  refine lin_q ?_ rfl ?_ ?_; rotate_left 1; (focus (rintro w' hO; clear hO; go_simp; first | done | with_reducible rfl | (trace_state; fail))); simp only [Act.put, List.setIfInBounds_toArray, List.set_cons_zero, List.set_cons_succ]
  refine lin_act ?_
  refine wl_call rfl _ _ _ (by go_simp) (HT.out _ _ HR0.out) ?_
  rintro e wzHR1 ⟨rfl, hO⟩
  have HR1 := Lib.hid hO; clear hO HR0
  refine ⟨_, rfl, LinPost.mk HR1.out ?_⟩
  simp only [Act.put, List.setIfInBounds_toArray, List.set_cons_zero, List.set_cons_succ]
  refine lin_act ?_
  refine wl_call rfl _ _ _ (by go_simp) (HSF.out _ _ HR1.out) ?_
  rintro e wzHR2 ⟨rfl, hO⟩
  have HR2 := Lib.hid hO; clear hO HR1
  refine ⟨_, rfl, LinPost.mk HR2.out ?_⟩
  simp only [Act.put, List.setIfInBounds_toArray, List.set_cons_zero, List.set_cons_succ]
  refine lin_q ?_ rfl ?_ ?_; rotate_left 1; (focus (rintro w' hO; clear hO; go_simp; first | done | with_reducible rfl | (trace_state; fail))); simp only [Act.put, List.setIfInBounds_toArray, List.set_cons_zero, List.set_cons_succ]
  refine lin_nil ?_
  go_wp2
  go_ret
  exact ⟨rfl, HR2.out.tail.tail⟩
set_option maxHeartbeats 8000000 in
theorem cmatch_https {w0 w : World} {R : Blks} (hV : VarsOk w0) (hO : Own w0 w R) (s : ByteArray) (hs : s.size ≤ 4000000) (page u : UL) (hu : u.Half) (hl : lowL (sb s) = httpsI ++ [58]) :
    Calls Tryd.prog 8 #[.string s, .agg page.val.toArray, .agg u.val.toArray] w fun e w' => e = .returned (.bool (likeI httpsI u)) ∧ Own w0 w' R := by
  have hlow := fun (w1 : World) (R1 : Blks) (h : Own w0 w1 R1) => lower_c h s (by omega)
  have hlB : Byt (lowL (sb s)) := lowL_byt (byt_sb s)
  have hll : (lowL (sb s)).length ≤ 4000000 := by unfold lowL; rw [List.length_map, length_sb]; exact hs
  obtain ⟨X, hXe⟩ : ∃ X, strOfNums (lowL (sb s)) = X := ⟨_, rfl⟩
  have hX : sb X = lowL (sb s) := by rw [← hXe, sb_str hlB]
  rw [hXe] at hlow
  rw [hl] at hX
  have t1 : (X.toList == [39, 110, 111, 110, 101, 39]) = false := by rw [beq_litC X [39, 110, 111, 110, 101, 39] noneW rfl, hX]; rfl
  have t2 : (X.toList == [39, 115, 101, 108, 102, 39]) = false := by rw [beq_litC X [39, 115, 101, 108, 102, 39] selfW rfl, hX]; rfl
  have t3 : (X.toList == [42]) = false := by rw [beq_litC X [42] [42] rfl, hX]; rfl
  have t4 : (X.toList == [104, 116, 116, 112, 58]) = false := by rw [beq_litC X [104, 116, 116, 112, 58] (httpI ++ [58]) rfl, hX]; rfl
  have t5 : (X.toList == [104, 116, 116, 112, 115, 58]) = true := by rw [beq_litC X [104, 116, 116, 112, 115, 58] (httpsI ++ [58]) rfl, hX]; rfl
  have hXl : X.size ≤ 1073741824 := by rw [← length_sb, hX]; decide
  have htr := fun (w1 : World) (R1 : Blks) (h : Own w0 w1 R1) => (ctrims_c (w := w1) X ⟨#[58]⟩ hXl).mono (fun e w' hq => And.intro hq.1 (hq.2 ▸ h))
  rw [hX, show trimS (sb ⟨#[58]⟩) (httpsI ++ [58]) = httpsI from by decide] at htr
  have hsf := fun (w1 : World) (R1 : Blks) (h : Own w0 w1 R1) => (csafer_c (w := w1) u.sch httpsI hu.schB https_byt).mono (fun e w' hq => And.intro hq.1 (hq.2 ▸ h))
  rw [safer_like (sc := httpsI) (by first | exact .inl rfl | exact .inr rfl) u] at hsf
  generalize likeI httpsI u = ans at *
  unfold UL.val
  generalize strOfNums page.sch = ps at *
  generalize strOfNums page.host = ph at *
  generalize strOfNums page.path = px at *
  generalize strOfNums page.query = pq at *
  generalize page.port = pp at *
  generalize strOfNums u.sch = us at *
  generalize strOfNums u.host = uh at *
  generalize strOfNums u.path = ux at *
  generalize strOfNums u.query = uq at *
  generalize u.port = up at *
  have HT := Lib.hid htr; have HSF := Lib.hid hsf
  clear htr hsf
  have HO := Lib.hid hO; have HL := Lib.hid hlow
  clear hO hlow hlB hll hXe hX hV hu
  go_enter Tryd.func8, Tryd.ntmps8
  go_wp2_with (first | (refine wl_box rfl _ _ rfl HO.out [Value.string ps, Value.string ph, Value.int .i64 pp, Value.string px, Value.string pq].toArray (by rfl) ?_; intro g1 w1 hO; have HO1 := Lib.hid hO; clear hO HO) | (refine wl_box rfl _ _ rfl HO1.out [Value.string us, Value.string uh, Value.int .i64 up, Value.string ux, Value.string uq].toArray (by rfl) ?_; intro g2 w2 hO; have HO2 := Lib.hid (hO.cast (L' := (g2, .cells [Value.string us, Value.string uh, Value.int .i64 up, Value.string ux, Value.string uq].toArray 23) :: (g1, .cells [Value.string ps, Value.string ph, Value.int .i64 pp, Value.string px, Value.string pq].toArray 23) :: R) rfl); clear hO HO1))
  with_reducible refine (HL.out _ _ HO2.out).mono ?_
  rintro e w3 ⟨rfl, hO⟩
  have HO3 := Lib.hid hO; clear hO HO2 HL
  go_upto_region 11 with fail
  refine wp_region_lin (fun w' => Own w0 w' ((g2, .cells [Value.string us, Value.string uh, Value.int .i64 up, Value.string ux, Value.string uq].toArray 23) :: (g1, .cells [Value.string ps, Value.string ph, Value.int .i64 pp, Value.string px, Value.string pq].toArray 23) :: R)) 6 [(0, true), (1, true), (2, true), (3, false), (4, false), (5, true)] (by kernel_rfl) (by kernel_rfl) (fun _ _ d _ _ h => by cases d <;> exact h) HO3.out.drew ?_
  simp only [List.map_cons, List.map_nil, pick_zero, pick_succ, List.drop_succ_cons, List.drop_zero]
  have HR0 := Lib.hid HO3.out.drew; clear HO3
  refine lin_q ?_ rfl ?_ ?_; rotate_left 1; (focus (rintro w' hO; clear hO; go_simp; first | done | with_reducible rfl | (trace_state; fail))); simp only [Act.put, List.setIfInBounds_toArray, List.set_cons_zero, List.set_cons_succ]
  refine lin_q ?_ rfl ?_ ?_; rotate_left 1; (focus (rintro w' hO; have k1 : w'.cell? ⟨g2, 0, none⟩ = some (.string us) := hO.cell (.head _) 0; clear hO; go_simp; first | done | with_reducible rfl | (trace_state; fail))); simp only [Act.put, List.setIfInBounds_toArray, List.set_cons_zero, List.set_cons_succ]
  refine lin_q ?_ rfl ?_ ?_; rotate_left 1; (focus (rintro w' hO; clear hO; go_simp; first | done | with_reducible rfl | (trace_state; fail))); simp only [Act.put, List.setIfInBounds_toArray, List.set_cons_zero, List.set_cons_succ]
  refine lin_act ?_
  refine wl_call rfl _ _ _ (by go_simp) (HT.out _ _ HR0.out) ?_
  rintro e wzHR1 ⟨rfl, hO⟩
  have HR1 := Lib.hid hO; clear hO HR0
  refine ⟨_, rfl, LinPost.mk HR1.out ?_⟩
  simp only [Act.put, List.setIfInBounds_toArray, List.set_cons_zero, List.set_cons_succ]
  refine lin_act ?_
  refine wl_call rfl _ _ _ (by go_simp) (HSF.out _ _ HR1.out) ?_
  rintro e wzHR2 ⟨rfl, hO⟩
  have HR2 := Lib.hid hO; clear hO HR1
  refine ⟨_, rfl, LinPost.mk HR2.out ?_⟩
  simp only [Act.put, List.setIfInBounds_toArray, List.set_cons_zero, List.set_cons_succ]
  refine lin_q ?_ rfl ?_ ?_; rotate_left 1; (focus (rintro w' hO; clear hO; go_simp; first | done | with_reducible rfl | (trace_state; fail))); simp only [Act.put, List.setIfInBounds_toArray, List.set_cons_zero, List.set_cons_succ]
  refine lin_nil ?_
  go_wp2
  go_ret
  exact ⟨rfl, HR2.out.tail.tail⟩
set_option maxHeartbeats 8000000 in
theorem cmatch_bad {w0 w : World} {R : Blks} (hV : VarsOk w0) (hO : Own w0 w R) (s : ByteArray) (hs : s.size ≤ 4000000) (page u : UL) (h1 : ¬ lowL (sb s) = noneW) (h2 : ¬ lowL (sb s) = selfW) (h3 : ¬ lowL (sb s) = [42]) (h4 : ¬ lowL (sb s) = httpI ++ [58]) (h5 : ¬ lowL (sb s) = httpsI ++ [58]) (hno : sourceL (lowL (sb s)) = none) :
    Calls Tryd.prog 8 #[.string s, .agg page.val.toArray, .agg u.val.toArray] w fun e w' => e = .returned (.bool false) ∧ Own w0 w' R := by
  have hlow := fun (w1 : World) (R1 : Blks) (h : Own w0 w1 R1) => lower_c h s (by omega)
  have hlB : Byt (lowL (sb s)) := lowL_byt (byt_sb s)
  have hll : (lowL (sb s)).length ≤ 4000000 := by unfold lowL; rw [List.length_map, length_sb]; exact hs
  obtain ⟨X, hXe⟩ : ∃ X, strOfNums (lowL (sb s)) = X := ⟨_, rfl⟩
  have hX : sb X = lowL (sb s) := by rw [← hXe, sb_str hlB]
  rw [hXe] at hlow
  have t1 : (X.toList == [39, 110, 111, 110, 101, 39]) = false := by rw [beq_litC X [39, 110, 111, 110, 101, 39] noneW rfl, hX]; exact decide_eq_false h1
  have t2 : (X.toList == [39, 115, 101, 108, 102, 39]) = false := by rw [beq_litC X [39, 115, 101, 108, 102, 39] selfW rfl, hX]; exact decide_eq_false h2
  have t3 : (X.toList == [42]) = false := by rw [beq_litC X [42] [42] rfl, hX]; exact decide_eq_false h3
  have t4 : (X.toList == [104, 116, 116, 112, 58]) = false := by rw [beq_litC X [104, 116, 116, 112, 58] (httpI ++ [58]) rfl, hX]; exact decide_eq_false h4
  have t5 : (X.toList == [104, 116, 116, 112, 115, 58]) = false := by rw [beq_litC X [104, 116, 116, 112, 115, 58] (httpsI ++ [58]) rfl, hX]; exact decide_eq_false h5
  have hpl := fun (w1 : World) (R1 : Blks) (h : Own w0 w1 R1) => creadplace_c hV h X (by have := congrArg List.length hX; rw [length_sb] at this; omega)
  rw [hX, place_is h4 h5] at hpl
  rw [hno] at hpl
  unfold GotPl at hpl
  simp only [Option.map_none, Option.getD_none, Option.isSome_none] at hpl
  simp only [PL.val_form] at hpl
  generalize strOfNums (PL.zero).sch = qs at *
  generalize strOfNums (PL.zero).host = qh at *
  generalize (PL.zero).under = qu at *
  generalize (PL.zero).port = qp at *
  unfold UL.val
  generalize strOfNums page.sch = ps at *
  generalize strOfNums page.host = ph at *
  generalize strOfNums page.path = px at *
  generalize strOfNums page.query = pq at *
  generalize page.port = pp at *
  generalize strOfNums u.sch = us at *
  generalize strOfNums u.host = uh at *
  generalize strOfNums u.path = ux at *
  generalize strOfNums u.query = uq at *
  generalize u.port = up at *
  have HP := Lib.hid hpl
  clear hpl
  have HO := Lib.hid hO; have HL := Lib.hid hlow
  clear hO hlow hlB hll hXe hX hV h1 h2 h3 h4 h5 hno
  go_enter Tryd.func8, Tryd.ntmps8
  go_wp2_with (first | (refine wl_box rfl _ _ rfl HO.out [Value.string ps, Value.string ph, Value.int .i64 pp, Value.string px, Value.string pq].toArray (by rfl) ?_; intro g1 w1 hO; have HO1 := Lib.hid hO; clear hO HO) | (refine wl_box rfl _ _ rfl HO1.out [Value.string us, Value.string uh, Value.int .i64 up, Value.string ux, Value.string uq].toArray (by rfl) ?_; intro g2 w2 hO; have HO2 := Lib.hid (hO.cast (L' := (g2, .cells [Value.string us, Value.string uh, Value.int .i64 up, Value.string ux, Value.string uq].toArray 23) :: (g1, .cells [Value.string ps, Value.string ph, Value.int .i64 pp, Value.string px, Value.string pq].toArray 23) :: R) rfl); clear hO HO1))
  with_reducible refine (HL.out _ _ HO2.out).mono ?_
  rintro e w3 ⟨rfl, hO⟩
  have HO3 := Lib.hid hO; clear hO HO2 HL
  go_wp2_with fail
  with_reducible refine (HP.out _ _ HO3.out).mono ?_
  rintro e w4 ⟨rfl, hO⟩
  have HO4 := Lib.hid hO; clear hO HO3 HP
  go_wp2_with (first | (refine wl_alloc rfl _ rfl HO4.out _ (alloc_pl _) ?_; intro g8 w5 hO; have HO4b := Lib.hid hO; clear hO HO4) | (refine wl_store rfl _ _ _ rfl HO4b.out 0 g8 0 _ [Value.string qs, Value.string qh, Value.bool qu, Value.int .i64 qp] _ rfl (by rfl) (by rfl) pl_size (one_p4 _ _ _ _) (by first | decide | simp [PL.val, PL.zero]) ?_; intro w6 hO; have HO5 := Lib.hid (hO.cast (L' := (g8, .cells [Value.string qs, Value.string qh, Value.bool qu, Value.int .i64 qp].toArray 50) :: (g2, .cells [Value.string us, Value.string uh, Value.int .i64 up, Value.string ux, Value.string uq].toArray 23) :: (g1, .cells [Value.string ps, Value.string ph, Value.int .i64 pp, Value.string px, Value.string pq].toArray 23) :: R) rfl); clear hO HO4b))
  go_ret
  exact ⟨rfl, HO5.out.tail.tail.tail⟩
set_option maxHeartbeats 8000000 in
theorem cmatch_good {w0 w : World} {R : Blks} (hV : VarsOk w0) (hO : Own w0 w R) (s : ByteArray) (hs : s.size ≤ 4000000) (page u : UL) (hp : page.Half) (hu : u.Half) (h1 : ¬ lowL (sb s) = noneW) (h2 : ¬ lowL (sb s) = selfW) (h3 : ¬ lowL (sb s) = [42]) (h4 : ¬ lowL (sb s) = httpI ++ [58]) (h5 : ¬ lowL (sb s) = httpsI ++ [58]) (x : SL) (hyes : sourceL (lowL (sb s)) = some x) :
    Calls Tryd.prog 8 #[.string s, .agg page.val.toArray, .agg u.val.toArray] w fun e w' => e = .returned (.bool (matchS x page u)) ∧ Own w0 w' R := by
  have hlow := fun (w1 : World) (R1 : Blks) (h : Own w0 w1 R1) => lower_c h s (by omega)
  have hlB : Byt (lowL (sb s)) := lowL_byt (byt_sb s)
  have hll : (lowL (sb s)).length ≤ 4000000 := by unfold lowL; rw [List.length_map, length_sb]; exact hs
  obtain ⟨X, hXe⟩ : ∃ X, strOfNums (lowL (sb s)) = X := ⟨_, rfl⟩
  have hX : sb X = lowL (sb s) := by rw [← hXe, sb_str hlB]
  rw [hXe] at hlow
  have t1 : (X.toList == [39, 110, 111, 110, 101, 39]) = false := by rw [beq_litC X [39, 110, 111, 110, 101, 39] noneW rfl, hX]; exact decide_eq_false h1
  have t2 : (X.toList == [39, 115, 101, 108, 102, 39]) = false := by rw [beq_litC X [39, 115, 101, 108, 102, 39] selfW rfl, hX]; exact decide_eq_false h2
  have t3 : (X.toList == [42]) = false := by rw [beq_litC X [42] [42] rfl, hX]; exact decide_eq_false h3
  have t4 : (X.toList == [104, 116, 116, 112, 58]) = false := by rw [beq_litC X [104, 116, 116, 112, 58] (httpI ++ [58]) rfl, hX]; exact decide_eq_false h4
  have t5 : (X.toList == [104, 116, 116, 112, 115, 58]) = false := by rw [beq_litC X [104, 116, 116, 112, 115, 58] (httpsI ++ [58]) rfl, hX]; exact decide_eq_false h5
  have hpl := fun (w1 : World) (R1 : Blks) (h : Own w0 w1 R1) => creadplace_c hV h X (by have := congrArg List.length hX; rw [length_sb] at this; omega)
  rw [hX, place_is h4 h5, hyes] at hpl
  obtain ⟨q1, q2, q3⟩ := source_some h4 h5 hyes
  have hqB : Byt x.pl.sch := by
    show Byt x.sch
    rcases q1 with e | e | e <;> rw [e]
    · exact fun y hy => by cases hy
    · exact http_byt
    · exact https_byt
  have hqh : Byt x.pl.host := fun y hy => by have := hostOk_hb q2 y hy; unfold HB at this; omega
  have hql : x.pl.host.length ≤ 100000000 := by have := q2.2.1; show (starI x.host).length ≤ _; omega
  have hul : u.host.length ≤ 100000000 := by have := hu.host.2.1; omega
  have hsc := fun (w1 : World) (R1 : Blks) (h : Own w0 w1 R1) => chassch_c h x.pl hqB page u hp.schB hu.schB
  have hho := fun (w1 : World) (R1 : Blks) (h : Own w0 w1 R1) => chashost_c h x.pl hqh hql u hu.hostB hul
  have hpo := fun (w1 : World) (R1 : Blks) (h : Own w0 w1 R1) => chasport_c h x.pl u hu.schB
  rw [match_place h4 h5 hyes page u hp.sch]
  unfold GotPl at hpl
  simp only [Option.map_some, Option.getD_some, Option.isSome_some] at hpl
  generalize x.pl.hasSch page u = a1 at *
  generalize x.pl.hasHost u = a2 at *
  generalize x.pl.hasPort u = a3 at *
  simp only [PL.val_form, UL.val] at hpl hsc hho hpo ⊢
  clear q1 q2 q3 hqB hqh hql hul
  generalize strOfNums x.pl.sch = qs at *
  generalize strOfNums x.pl.host = qh at *
  generalize x.pl.under = qu at *
  generalize x.pl.port = qp at *
  generalize strOfNums page.sch = ps at *
  generalize strOfNums page.host = ph at *
  generalize strOfNums page.path = px at *
  generalize strOfNums page.query = pq at *
  generalize page.port = pp at *
  generalize strOfNums u.sch = us at *
  generalize strOfNums u.host = uh at *
  generalize strOfNums u.path = ux at *
  generalize strOfNums u.query = uq at *
  generalize u.port = up at *
  have HP := Lib.hid hpl; have HA := Lib.hid hsc; have HB := Lib.hid hho; have HC := Lib.hid hpo
  clear hpl hsc hho hpo
  have HO := Lib.hid hO; have HL := Lib.hid hlow
  clear hO hlow hlB hll hXe hX hV h1 h2 h3 h4 h5 hyes hp hu
  go_enter Tryd.func8, Tryd.ntmps8
  go_wp2_with (first | (refine wl_box rfl _ _ rfl HO.out [Value.string ps, Value.string ph, Value.int .i64 pp, Value.string px, Value.string pq].toArray (by rfl) ?_; intro g1 w1 hO; have HO1 := Lib.hid hO; clear hO HO) | (refine wl_box rfl _ _ rfl HO1.out [Value.string us, Value.string uh, Value.int .i64 up, Value.string ux, Value.string uq].toArray (by rfl) ?_; intro g2 w2 hO; have HO2 := Lib.hid (hO.cast (L' := (g2, .cells [Value.string us, Value.string uh, Value.int .i64 up, Value.string ux, Value.string uq].toArray 23) :: (g1, .cells [Value.string ps, Value.string ph, Value.int .i64 pp, Value.string px, Value.string pq].toArray 23) :: R) rfl); clear hO HO1))
  with_reducible refine (HL.out _ _ HO2.out).mono ?_
  rintro e w3 ⟨rfl, hO⟩
  have HO3 := Lib.hid hO; clear hO HO2 HL
  go_wp2_with fail
  with_reducible refine (HP.out _ _ HO3.out).mono ?_
  rintro e w4 ⟨rfl, hO⟩
  have HO4 := Lib.hid hO; clear hO HO3 HP
  cases a1 with
  | false =>
    go_wp2_with (first | (refine wl_alloc rfl _ rfl HO4.out _ (alloc_pl _) ?_; intro g8 w5 hO; have HO4b := Lib.hid hO; clear hO HO4) | (refine wl_store rfl _ _ _ rfl HO4b.out 0 g8 0 _ [Value.string qs, Value.string qh, Value.bool qu, Value.int .i64 qp] _ rfl (by rfl) (by rfl) pl_size (one_p4 _ _ _ _) (by first | decide | simp [PL.val, PL.zero]) ?_; intro w6 hO; have HO5 := Lib.hid (hO.cast (L' := (g8, .cells [Value.string qs, Value.string qh, Value.bool qu, Value.int .i64 qp].toArray 50) :: (g2, .cells [Value.string us, Value.string uh, Value.int .i64 up, Value.string ux, Value.string uq].toArray 23) :: (g1, .cells [Value.string ps, Value.string ph, Value.int .i64 pp, Value.string px, Value.string pq].toArray 23) :: R) rfl); clear hO HO4b) | (refine wl_g (by rfl) ?_; refine wl_load rfl _ _ rfl g8 0 [Value.string qs, Value.string qh, Value.bool qu, Value.int .i64 qp] [Value.string qs, Value.string qh, Value.bool qu, Value.int .i64 qp] _ (HO5.out.heap (.head _)) (by rfl) _ Tryd.underlying50 rfl pl_size (by rfl) ?_) | (refine wl_g (by rfl) ?_; refine wl_load rfl _ _ rfl g2 0 [Value.string us, Value.string uh, Value.int .i64 up, Value.string ux, Value.string uq] [Value.string us, Value.string uh, Value.int .i64 up, Value.string ux, Value.string uq] _ (HO5.out.heap (.tail _ (.head _))) (by rfl) _ Tryd.underlying23 rfl url_size (by rfl) ?_) | (refine wl_g (by rfl) ?_; refine wl_load rfl _ _ rfl g1 0 [Value.string ps, Value.string ph, Value.int .i64 pp, Value.string px, Value.string pq] [Value.string ps, Value.string ph, Value.int .i64 pp, Value.string px, Value.string pq] _ (HO5.out.heap (.tail _ (.tail _ (.head _)))) (by rfl) _ Tryd.underlying23 rfl url_size (by rfl) ?_))
    with_reducible refine (HA.out _ _ HO5.out).mono ?_
    rintro e w7 ⟨rfl, hO⟩
    have HO6 := Lib.hid hO; clear hO HO5
    go_wp2
    go_ret
    exact ⟨rfl, HO6.out.tail.tail.tail⟩
  | true =>
    cases a2 with
    | false =>
      go_wp2_with (first | (refine wl_alloc rfl _ rfl HO4.out _ (alloc_pl _) ?_; intro g8 w5 hO; have HO4b := Lib.hid hO; clear hO HO4) | (refine wl_store rfl _ _ _ rfl HO4b.out 0 g8 0 _ [Value.string qs, Value.string qh, Value.bool qu, Value.int .i64 qp] _ rfl (by rfl) (by rfl) pl_size (one_p4 _ _ _ _) (by first | decide | simp [PL.val, PL.zero]) ?_; intro w6 hO; have HO5 := Lib.hid (hO.cast (L' := (g8, .cells [Value.string qs, Value.string qh, Value.bool qu, Value.int .i64 qp].toArray 50) :: (g2, .cells [Value.string us, Value.string uh, Value.int .i64 up, Value.string ux, Value.string uq].toArray 23) :: (g1, .cells [Value.string ps, Value.string ph, Value.int .i64 pp, Value.string px, Value.string pq].toArray 23) :: R) rfl); clear hO HO4b) | (refine wl_g (by rfl) ?_; refine wl_load rfl _ _ rfl g8 0 [Value.string qs, Value.string qh, Value.bool qu, Value.int .i64 qp] [Value.string qs, Value.string qh, Value.bool qu, Value.int .i64 qp] _ (HO5.out.heap (.head _)) (by rfl) _ Tryd.underlying50 rfl pl_size (by rfl) ?_) | (refine wl_g (by rfl) ?_; refine wl_load rfl _ _ rfl g2 0 [Value.string us, Value.string uh, Value.int .i64 up, Value.string ux, Value.string uq] [Value.string us, Value.string uh, Value.int .i64 up, Value.string ux, Value.string uq] _ (HO5.out.heap (.tail _ (.head _))) (by rfl) _ Tryd.underlying23 rfl url_size (by rfl) ?_) | (refine wl_g (by rfl) ?_; refine wl_load rfl _ _ rfl g1 0 [Value.string ps, Value.string ph, Value.int .i64 pp, Value.string px, Value.string pq] [Value.string ps, Value.string ph, Value.int .i64 pp, Value.string px, Value.string pq] _ (HO5.out.heap (.tail _ (.tail _ (.head _)))) (by rfl) _ Tryd.underlying23 rfl url_size (by rfl) ?_))
      with_reducible refine (HA.out _ _ HO5.out).mono ?_
      rintro e w7 ⟨rfl, hO⟩
      have HO6 := Lib.hid hO; clear hO HO5
      go_wp2_with (first | (refine wl_g (by rfl) ?_; refine wl_load rfl _ _ rfl g8 0 [Value.string qs, Value.string qh, Value.bool qu, Value.int .i64 qp] [Value.string qs, Value.string qh, Value.bool qu, Value.int .i64 qp] _ (HO6.out.heap (.head _)) (by rfl) _ Tryd.underlying50 rfl pl_size (by rfl) ?_) | (refine wl_g (by rfl) ?_; refine wl_load rfl _ _ rfl g2 0 [Value.string us, Value.string uh, Value.int .i64 up, Value.string ux, Value.string uq] [Value.string us, Value.string uh, Value.int .i64 up, Value.string ux, Value.string uq] _ (HO6.out.heap (.tail _ (.head _))) (by rfl) _ Tryd.underlying23 rfl url_size (by rfl) ?_) | (refine wl_g (by rfl) ?_; refine wl_load rfl _ _ rfl g1 0 [Value.string ps, Value.string ph, Value.int .i64 pp, Value.string px, Value.string pq] [Value.string ps, Value.string ph, Value.int .i64 pp, Value.string px, Value.string pq] _ (HO6.out.heap (.tail _ (.tail _ (.head _)))) (by rfl) _ Tryd.underlying23 rfl url_size (by rfl) ?_))
      with_reducible refine (HB.out _ _ HO6.out).mono ?_
      rintro e w8 ⟨rfl, hO⟩
      have HO7 := Lib.hid hO; clear hO HO6
      go_wp2
      go_ret
      exact ⟨rfl, HO7.out.tail.tail.tail⟩
    | true =>
      go_wp2_with (first | (refine wl_alloc rfl _ rfl HO4.out _ (alloc_pl _) ?_; intro g8 w5 hO; have HO4b := Lib.hid hO; clear hO HO4) | (refine wl_store rfl _ _ _ rfl HO4b.out 0 g8 0 _ [Value.string qs, Value.string qh, Value.bool qu, Value.int .i64 qp] _ rfl (by rfl) (by rfl) pl_size (one_p4 _ _ _ _) (by first | decide | simp [PL.val, PL.zero]) ?_; intro w6 hO; have HO5 := Lib.hid (hO.cast (L' := (g8, .cells [Value.string qs, Value.string qh, Value.bool qu, Value.int .i64 qp].toArray 50) :: (g2, .cells [Value.string us, Value.string uh, Value.int .i64 up, Value.string ux, Value.string uq].toArray 23) :: (g1, .cells [Value.string ps, Value.string ph, Value.int .i64 pp, Value.string px, Value.string pq].toArray 23) :: R) rfl); clear hO HO4b) | (refine wl_g (by rfl) ?_; refine wl_load rfl _ _ rfl g8 0 [Value.string qs, Value.string qh, Value.bool qu, Value.int .i64 qp] [Value.string qs, Value.string qh, Value.bool qu, Value.int .i64 qp] _ (HO5.out.heap (.head _)) (by rfl) _ Tryd.underlying50 rfl pl_size (by rfl) ?_) | (refine wl_g (by rfl) ?_; refine wl_load rfl _ _ rfl g2 0 [Value.string us, Value.string uh, Value.int .i64 up, Value.string ux, Value.string uq] [Value.string us, Value.string uh, Value.int .i64 up, Value.string ux, Value.string uq] _ (HO5.out.heap (.tail _ (.head _))) (by rfl) _ Tryd.underlying23 rfl url_size (by rfl) ?_) | (refine wl_g (by rfl) ?_; refine wl_load rfl _ _ rfl g1 0 [Value.string ps, Value.string ph, Value.int .i64 pp, Value.string px, Value.string pq] [Value.string ps, Value.string ph, Value.int .i64 pp, Value.string px, Value.string pq] _ (HO5.out.heap (.tail _ (.tail _ (.head _)))) (by rfl) _ Tryd.underlying23 rfl url_size (by rfl) ?_))
      with_reducible refine (HA.out _ _ HO5.out).mono ?_
      rintro e w7 ⟨rfl, hO⟩
      have HO6 := Lib.hid hO; clear hO HO5
      go_wp2_with (first | (refine wl_g (by rfl) ?_; refine wl_load rfl _ _ rfl g8 0 [Value.string qs, Value.string qh, Value.bool qu, Value.int .i64 qp] [Value.string qs, Value.string qh, Value.bool qu, Value.int .i64 qp] _ (HO6.out.heap (.head _)) (by rfl) _ Tryd.underlying50 rfl pl_size (by rfl) ?_) | (refine wl_g (by rfl) ?_; refine wl_load rfl _ _ rfl g2 0 [Value.string us, Value.string uh, Value.int .i64 up, Value.string ux, Value.string uq] [Value.string us, Value.string uh, Value.int .i64 up, Value.string ux, Value.string uq] _ (HO6.out.heap (.tail _ (.head _))) (by rfl) _ Tryd.underlying23 rfl url_size (by rfl) ?_) | (refine wl_g (by rfl) ?_; refine wl_load rfl _ _ rfl g1 0 [Value.string ps, Value.string ph, Value.int .i64 pp, Value.string px, Value.string pq] [Value.string ps, Value.string ph, Value.int .i64 pp, Value.string px, Value.string pq] _ (HO6.out.heap (.tail _ (.tail _ (.head _)))) (by rfl) _ Tryd.underlying23 rfl url_size (by rfl) ?_))
      with_reducible refine (HB.out _ _ HO6.out).mono ?_
      rintro e w8 ⟨rfl, hO⟩
      have HO7 := Lib.hid hO; clear hO HO6
      go_wp2_with (first | (refine wl_g (by rfl) ?_; refine wl_load rfl _ _ rfl g8 0 [Value.string qs, Value.string qh, Value.bool qu, Value.int .i64 qp] [Value.string qs, Value.string qh, Value.bool qu, Value.int .i64 qp] _ (HO7.out.heap (.head _)) (by rfl) _ Tryd.underlying50 rfl pl_size (by rfl) ?_) | (refine wl_g (by rfl) ?_; refine wl_load rfl _ _ rfl g2 0 [Value.string us, Value.string uh, Value.int .i64 up, Value.string ux, Value.string uq] [Value.string us, Value.string uh, Value.int .i64 up, Value.string ux, Value.string uq] _ (HO7.out.heap (.tail _ (.head _))) (by rfl) _ Tryd.underlying23 rfl url_size (by rfl) ?_) | (refine wl_g (by rfl) ?_; refine wl_load rfl _ _ rfl g1 0 [Value.string ps, Value.string ph, Value.int .i64 pp, Value.string px, Value.string pq] [Value.string ps, Value.string ph, Value.int .i64 pp, Value.string px, Value.string pq] _ (HO7.out.heap (.tail _ (.tail _ (.head _)))) (by rfl) _ Tryd.underlying23 rfl url_size (by rfl) ?_))
      with_reducible refine (HC.out _ _ HO7.out).mono ?_
      rintro e w9 ⟨rfl, hO⟩
      have HO8 := Lib.hid hO; clear hO HO7
      go_wp2
      go_ret
      exact ⟨rfl, HO8.out.tail.tail.tail⟩
theorem src_none : sourceL noneW = none := by decide +kernel
theorem cmatch_c {w0 w : World} {R : Blks} (hV : VarsOk w0) (hO : Own w0 w R) (s : ByteArray) (hs : s.size ≤ 4000000) (page u : UL) (hp : page.Half) (hu : u.Half) :
    Calls Tryd.prog 8 #[.string s, .agg page.val.toArray, .agg u.val.toArray] w fun e w' => e = .returned (.bool (matchI (sb s) page u)) ∧ Own w0 w' R := by
  have hm : matchI (sb s) page u = if lowL (sb s) = selfW then decide (originI page = originI u) else if lowL (sb s) = [42] then true else match sourceL (lowL (sb s)) with
    | none => false
    | some x => matchS x page u := rfl
  rw [hm]
  by_cases h1 : lowL (sb s) = noneW
  · rw [h1, if_neg (by decide), if_neg (by decide), src_none]
    exact cmatch_none hV hO s hs page u h1
  by_cases h2 : lowL (sb s) = selfW
  · rw [if_pos h2]
    exact cmatch_self hV hO s hs page u hp hu h2
  rw [if_neg h2]
  by_cases h3 : lowL (sb s) = [42]
  · rw [if_pos h3]
    exact cmatch_star hV hO s hs page u h3
  rw [if_neg h3]
  by_cases h4 : lowL (sb s) = httpI ++ [58]
  · rw [h4, src_http]
    exact cmatch_http hV hO s hs page u hu h4
  by_cases h5 : lowL (sb s) = httpsI ++ [58]
  · rw [h5, src_https]
    exact cmatch_https hV hO s hs page u hu h5
  cases hx : sourceL (lowL (sb s)) with
  | none => exact cmatch_bad hV hO s hs page u h1 h2 h3 h4 h5 hx
  | some x => exact cmatch_good hV hO s hs page u hp hu h1 h2 h3 h4 h5 x hx
theorem cstar_c {w0 w : World} {R : Blks} (hV : VarsOk w0) (hO : Own w0 w R) :
    Calls Tryd.prog 8 #[.string ⟨#[42]⟩, .agg UL.zero.val.toArray, .agg UL.zero.val.toArray] w fun e w' => e = .returned (.bool true) ∧ Own w0 w' R :=
  cmatch_star hV hO ⟨#[42]⟩ (by decide) UL.zero UL.zero rfl
set_option maxRecDepth 100000 in
set_option maxHeartbeats 16000000 in
theorem callows_c {w0 w : World} {R : Blks} (hV : VarsOk w0) (hO : Own w0 w R) (s : ByteArray) (hs : s.size ≤ 4000000) (page u : UL) (hp : page.Half) (hu : u.Half) :
    Calls Tryd.prog 12 #[.string s, .agg page.val.toArray, .agg u.val.toArray] w fun e w' => e = .returned (.bool (allowsI (sb s) page u)) ∧ Own w0 w' R := by
  have hwd := fun (w1 : World) (R1 : Blks) (h : Own w0 w1 R1) => csplit_c h s (by omega)
  have hwB := wordsI_byt (byt_sb s)
  have hwl := wordsF_len (sb s) []
  rw [length_sb] at hwl
  obtain ⟨ans, hans⟩ : ∃ ans, allowsI (sb s) page u = ans := ⟨_, rfl⟩
  rw [hans]
  unfold allowsI at hans
  unfold wordsI at hwd hwB hans
  generalize wordsF [] (sb s) = W at *
  have hm := fun (w1 : World) (R1 : Blks) (h : Own w0 w1 R1) (x : List Int) (hx : Byt x) (hl : x.length ≤ 4000000) => cmatch_c hV h (strOfNums x) (by rw [strOfNums_size]; omega) page u hp hu
  have hm2 := fun (w1 : World) (R1 : Blks) (h : Own w0 w1 R1) (x : List Int) (hx : Byt x) (hl : x.length ≤ 4000000) => (hm w1 R1 h x hx hl).mono (fun e w' hq => by rw [sb_str hx] at hq; exact hq)
  clear hm
  simp only [UL.val] at hm2 ⊢
  generalize strOfNums page.sch = ps at *
  generalize strOfNums page.host = ph at *
  generalize strOfNums page.path = px at *
  generalize strOfNums page.query = pq at *
  generalize page.port = pp at *
  generalize strOfNums u.sch = us at *
  generalize strOfNums u.host = uh at *
  generalize strOfNums u.path = ux at *
  generalize strOfNums u.query = uq at *
  generalize u.port = up at *
  have HWD := Lib.hid hwd; have HWB := Lib.hid hwB; have HM := Lib.hid hm2; have HANS := Lib.hid hans
  have HWL : Hid (∀ x ∈ W, x.length ≤ 4000000) := Lib.hid (fun x hx => by have := (hwl.2 x hx).2.1; simp at this; omega)
  have hN : W.length ≤ 4000001 := by omega
  have HO := Lib.hid hO
  clear hwd hwB hm2 hans hwl hO hp hu hs
  go_enter Tryd.func12, Tryd.ntmps12
  go_wp2_with (first | (refine wl_box rfl _ _ rfl HO.out [Value.string ps, Value.string ph, Value.int .i64 pp, Value.string px, Value.string pq].toArray (by rfl) ?_; intro g1 w1 hO; have HO1 := Lib.hid hO; clear hO HO) | (refine wl_box rfl _ _ rfl HO1.out [Value.string us, Value.string uh, Value.int .i64 up, Value.string ux, Value.string uq].toArray (by rfl) ?_; intro g2 w2 hO; have HO2 := Lib.hid (hO.cast (L' := (g2, .cells [Value.string us, Value.string uh, Value.int .i64 up, Value.string ux, Value.string uq].toArray 23) :: (g1, .cells [Value.string ps, Value.string ph, Value.int .i64 pp, Value.string px, Value.string pq].toArray 23) :: R) rfl); clear hO HO1))
  with_reducible refine (HWD.out _ _ HO2.out).mono ?_
  rintro e w3 ⟨v, L, rfl, hv, hO⟩
  have HO3 := Lib.hid hO; clear hO HO2 HWD
  obtain ⟨A, c, hve, hcc, hcells⟩ := hv.form
  rw [List.length_map] at hve hcc hcells
  subst hve
  obtain ⟨N, hNe⟩ : ∃ N, W.length = N := ⟨_, rfl⟩
  rw [hNe] at hN hcc hcells ⊢
  have HC := Lib.hid hcells; have HNE := Lib.hid hNe
  clear hv hcells hNe
  go_wp2
  go_loopw [14] (fun t w' => ∃ k : Nat, k ≤ N ∧ t = .int .i64 k ∧ Hid (∀ x ∈ W.take k, matchI x page u = false) ∧ Hid (Own w0 w' (L ++ ((g2, .cells [Value.string us, Value.string uh, Value.int .i64 up, Value.string ux, Value.string uq].toArray 23) :: (g1, .cells [Value.string ps, Value.string ph, Value.int .i64 pp, Value.string px, Value.string pq].toArray 23) :: R)))) (fun t _ => N - (intOf t).toNat)
  case atStart => exact ⟨0, Nat.zero_le _, rfl, Lib.hid (fun x hx => by rw [List.take_zero] at hx; cases hx), HO3⟩
  case round =>
    obtain ⟨k, hk, rfl, HS, HO4⟩ := hrel
    clear HO3
    by_cases hlt : k < N
    · have hkn : (k : Int) < N := by omega
      have hkl : k < W.length := by rw [HNE.out]; exact hlt
      obtain ⟨g, rfl, hcell⟩ := HC.out (by omega)
      have hc := hcell _ _ _ HO4.out k _ (words_at hkl)
      have htk := words_take hkl
      have hmem := words_mem hkl
      generalize W.getD k [] = x at *
      have hmc := fun (w1 : World) (R1 : Blks) (h : Own w0 w1 R1) => HM.out w1 R1 h x (HWB.out x hmem) (HWL.out x hmem)
      cases hmx : matchI x page u with
      | true =>
        have HE : Hid (ans = true) := Lib.hid (by rw [← HANS.out, Bool.or_eq_true]; exact .inl (List.any_eq_true.2 ⟨x, hmem, hmx⟩))
        rw [hmx] at hmc
        have HMC := Lib.hid hmc
        clear hmx hmc hcell htk hmem hkl
        go_wp2_with (first | (refine wl_load rfl _ _ rfl g1 0 [Value.string ps, Value.string ph, Value.int .i64 pp, Value.string px, Value.string pq] [Value.string ps, Value.string ph, Value.int .i64 pp, Value.string px, Value.string pq] _ (HO4.out.heap (List.mem_append_right _ (.tail _ (.head _)))) (by rfl) _ Tryd.underlying23 rfl url_size (by rfl) ?_) | (refine wl_load rfl _ _ rfl g2 0 [Value.string us, Value.string uh, Value.int .i64 up, Value.string ux, Value.string uq] [Value.string us, Value.string uh, Value.int .i64 up, Value.string ux, Value.string uq] _ (HO4.out.heap (List.mem_append_right _ (.head _))) (by rfl) _ Tryd.underlying23 rfl url_size (by rfl) ?_))
        with_reducible refine (HMC.out _ _ HO4.out).mono ?_
        rintro e w5 ⟨rfl, hO⟩
        have HO5 := Lib.hid hO; clear hO HO4 hc
        go_wp2
        go_ret
        exact ⟨by rw [HE.out]; rfl, HO5.out.right.tail.tail⟩
      | false =>
        have HS2 : Hid (∀ y ∈ W.take (k + 1), matchI y page u = false) := Lib.hid (by
          rw [htk]
          intro y hy
          rcases List.mem_append.1 hy with hy | hy
          · exact HS.out y hy
          · rw [List.mem_singleton.1 hy]; exact hmx)
        rw [hmx] at hmc
        have HMC := Lib.hid hmc
        clear hmx hmc hcell htk hmem hkl HS
        go_wp2_with (first | (refine wl_load rfl _ _ rfl g1 0 [Value.string ps, Value.string ph, Value.int .i64 pp, Value.string px, Value.string pq] [Value.string ps, Value.string ph, Value.int .i64 pp, Value.string px, Value.string pq] _ (HO4.out.heap (List.mem_append_right _ (.tail _ (.head _)))) (by rfl) _ Tryd.underlying23 rfl url_size (by rfl) ?_) | (refine wl_load rfl _ _ rfl g2 0 [Value.string us, Value.string uh, Value.int .i64 up, Value.string ux, Value.string uq] [Value.string us, Value.string uh, Value.int .i64 up, Value.string ux, Value.string uq] _ (HO4.out.heap (List.mem_append_right _ (.head _))) (by rfl) _ Tryd.underlying23 rfl url_size (by rfl) ?_))
        with_reducible refine (HMC.out _ _ HO4.out).mono ?_
        rintro e w5 ⟨rfl, hO⟩
        have HO5 := Lib.hid hO; clear hO HO4 hc
        go_wp2
        go_roundw
        case rel => exact ⟨k + 1, by omega, by go_num, HS2, HO5⟩
        case measure => simp [intOf]; omega
    · obtain rfl : k = N := by omega
      have hkn : ¬ (k : Int) < k := by omega
      have hall := HS.out
      rw [List.take_of_length_le (by rw [HNE.out]; exact Nat.le_refl _)] at hall
      have HE : Hid (ans = ((k : Int) == 0)) := Lib.hid (by
        rw [← HANS.out]
        have h1 : W.any (fun w => matchI w page u) = false := by
          rw [List.any_eq_false]; intro y hy; rw [hall y hy]; simp
        rw [h1, Bool.false_or, Bool.eq_iff_iff, decide_eq_true_iff, beq_iff_eq, ← List.length_eq_zero_iff, HNE.out]
        omega)
      clear hall HS
      go_wp2
      go_ret
      exact ⟨by rw [HE.out]; first | rfl | simp, HO4.out.right.tail.tail⟩
end Go.Proofs.YtfgaikacijdodaaDoor
/-
  What the laws of chapter 11 share: wakes.
-/
namespace Go.Proofs.YtfgaikacijdodaaDoor
set_option linter.unusedVariables false
set_option linter.unusedSimpArgs false
set_option maxRecDepth 20000
open Go.RowKit

theorem self_ok : checkI (sb ⟨#[39, 115, 101, 108, 102, 39]⟩) = true := by decide +kernel
set_option maxHeartbeats 2000000 in
theorem wakes11_c {w0 w : World} {R : Blks} (hV : VarsOk w0) (hO : Own w0 w R) : Calls Tryd.prog 11 #[] w fun e w' => e = .returned (.bool true) ∧ Own w0 w' R := by
  have hs := fun (w1 : World) (R1 : Blks) (h : Own w0 w1 R1) => cstar_c hV h
  have hc := fun (w1 : World) (R1 : Blks) (h : Own w0 w1 R1) => ccheck_c hV h ⟨#[39, 115, 101, 108, 102, 39]⟩ (by decide)
  rw [self_ok] at hc
  have hz : (Value.agg UL.zero.val.toArray) = .agg #[.string ⟨#[]⟩, .string ⟨#[]⟩, .int .i64 0, .string ⟨#[]⟩, .string ⟨#[]⟩] := rfl
  simp only [hz] at hs
  clear hz
  have HS := Lib.hid hs; have HC := Lib.hid hc; have HO := Lib.hid hO
  clear hs hc hO hV
  go_enter Tryd.func11, Tryd.ntmps11
  go_wp2_with fail
  with_reducible refine (HS.out _ _ HO.out).mono ?_
  rintro e w1 ⟨rfl, hO⟩
  have HO1 := Lib.hid hO; clear hO HO HS
  go_wp2_with fail
  with_reducible refine (HC.out _ _ HO1.out).mono ?_
  rintro e w2 ⟨rfl, hO⟩
  have HO2 := Lib.hid hO; clear hO HO1 HC
  rw [show errC true = 0 from rfl]
  go_wp2
  go_ret
  exact ⟨rfl, HO2.out⟩
end Go.Proofs.YtfgaikacijdodaaDoor
/-
  The tables of CspForms.
-/
namespace Go.Proofs.YtfgaikacijdodaaDoor
set_option linter.unusedVariables false
set_option linter.unusedSimpArgs false
set_option maxRecDepth 20000
open Go.RowKit

def formB : List (ByteArray × ByteArray × Bool × Bool) := [(⟨#[39, 115, 101, 108, 102, 39]⟩, ⟨#[104, 116, 116, 112, 58, 47, 47, 97, 46, 98, 47, 120]⟩, true, false), (⟨#[39, 83, 69, 76, 70, 39]⟩, ⟨#[104, 116, 116, 112, 115, 58, 47, 47, 97, 46, 98, 47, 120]⟩, false, true), (⟨#[42]⟩, ⟨#[104, 116, 116, 112, 58, 47, 47, 99, 46, 100, 58, 56, 47]⟩, true, true), (⟨#[39, 110, 111, 110, 101, 39]⟩, ⟨#[104, 116, 116, 112, 58, 47, 47, 97, 46, 98, 47]⟩, false, false), (⟨#[104, 116, 116, 112, 58]⟩, ⟨#[104, 116, 116, 112, 115, 58, 47, 47, 99, 46, 100, 47]⟩, true, true), (⟨#[104, 116, 116, 112, 115, 58]⟩, ⟨#[104, 116, 116, 112, 58, 47, 47, 99, 46, 100, 47]⟩, false, false), (⟨#[72, 84, 84, 80, 83, 58]⟩, ⟨#[104, 116, 116, 112, 115, 58, 47, 47, 99, 46, 100, 47]⟩, true, true), (⟨#[99, 46, 100]⟩, ⟨#[104, 116, 116, 112, 58, 47, 47, 99, 46, 100, 47]⟩, true, false), (⟨#[99, 46, 100]⟩, ⟨#[104, 116, 116, 112, 115, 58, 47, 47, 99, 46, 100, 47]⟩, true, true), (⟨#[67, 46, 68]⟩, ⟨#[104, 116, 116, 112, 115, 58, 47, 47, 99, 46, 100, 58, 56, 47]⟩, false, false), (⟨#[99, 46, 100, 58, 56]⟩, ⟨#[104, 116, 116, 112, 115, 58, 47, 47, 99, 46, 100, 58, 56, 47]⟩, true, true), (⟨#[99, 46, 100, 58, 42]⟩, ⟨#[104, 116, 116, 112, 115, 58, 47, 47, 99, 46, 100, 58, 56, 47]⟩, true, true), (⟨#[99, 46, 100, 58, 52, 52, 51]⟩, ⟨#[104, 116, 116, 112, 115, 58, 47, 47, 99, 46, 100, 47]⟩, true, true), (⟨#[99, 46, 100, 58, 56, 48]⟩, ⟨#[104, 116, 116, 112, 115, 58, 47, 47, 99, 46, 100, 47]⟩, false, false), (⟨#[42, 46, 99, 46, 100]⟩, ⟨#[104, 116, 116, 112, 115, 58, 47, 47, 115, 46, 99, 46, 100, 47]⟩, true, true), (⟨#[42, 46, 99, 46, 100]⟩, ⟨#[104, 116, 116, 112, 115, 58, 47, 47, 99, 46, 100, 47]⟩, false, false), (⟨#[42, 46, 100]⟩, ⟨#[104, 116, 116, 112, 115, 58, 47, 47, 115, 46, 99, 46, 100, 47]⟩, true, true), (⟨#[104, 116, 116, 112, 58, 47, 47, 99, 46, 100]⟩, ⟨#[104, 116, 116, 112, 115, 58, 47, 47, 99, 46, 100, 47]⟩, true, true), (⟨#[104, 116, 116, 112, 115, 58, 47, 47, 99, 46, 100]⟩, ⟨#[104, 116, 116, 112, 58, 47, 47, 99, 46, 100, 47]⟩, false, false), (⟨#[115, 46, 99, 46, 100]⟩, ⟨#[104, 116, 116, 112, 115, 58, 47, 47, 99, 46, 100, 47]⟩, false, false), (⟨#[99, 46, 100, 58, 57, 57, 57, 57, 57]⟩, ⟨#[104, 116, 116, 112, 115, 58, 47, 47, 99, 46, 100, 47]⟩, false, false), (⟨#[104, 116, 116, 112, 115, 58, 47, 47, 99, 46, 100, 47]⟩, ⟨#[104, 116, 116, 112, 115, 58, 47, 47, 99, 46, 100, 47]⟩, false, false), (⟨#[]⟩, ⟨#[104, 116, 116, 112, 115, 58, 47, 47, 99, 46, 100, 47]⟩, false, false)]
def goodB : List ByteArray := [⟨#[]⟩, ⟨#[32, 32]⟩, ⟨#[39, 110, 111, 110, 101, 39]⟩, ⟨#[39, 78, 111, 110, 101, 39]⟩, ⟨#[42]⟩, ⟨#[104, 116, 116, 112, 58, 32, 42, 46, 97, 58, 49, 32, 32, 39, 115, 101, 108, 102, 39]⟩, ⟨#[97, 46, 98, 58, 42]⟩, ⟨#[108, 111, 99, 97, 108, 104, 111, 115, 116, 58, 54, 53, 53, 51, 53]⟩, ⟨#[97, 32, 98, 32, 99, 32, 100]⟩]
def badL : List ByteArray := [⟨#[39, 110, 111, 110, 101, 39, 32, 42]⟩, ⟨#[42, 32, 39, 78, 79, 78, 69, 39]⟩, ⟨#[115, 101, 108, 102, 39]⟩, ⟨#[39, 115, 101, 108, 102]⟩, ⟨#[102, 116, 112, 58]⟩, ⟨#[104, 116, 116, 112, 58, 47, 47]⟩, ⟨#[104, 116, 116, 112, 58, 47, 97]⟩, ⟨#[97, 46, 46, 98]⟩, ⟨#[42, 46]⟩, ⟨#[42, 46, 42, 46, 97]⟩, ⟨#[97, 42]⟩, ⟨#[97, 58]⟩, ⟨#[97, 58, 120]⟩, ⟨#[97, 58, 54, 53, 53, 51, 54]⟩, ⟨#[97, 47]⟩, ⟨#[104, 116, 116, 112, 58, 47, 47, 97, 47]⟩, ⟨#[195, 169]⟩, ⟨#[97, 46, 98, 32, 97, 46, 98, 32, 97, 46, 98, 32, 97, 46, 98, 32, 97, 46, 98, 32, 97, 46, 98, 32, 97, 46, 98, 32, 97, 46, 98, 32, 97, 46, 98, 32, 97, 46, 98, 32, 97, 46, 98]⟩]
def pageU : UL := ⟨httpI, [97, 46, 98], 0, [47], []⟩
def safeU : UL := ⟨httpsI, [97, 46, 98], 0, [47], []⟩
theorem page_is : parseI (sb ⟨#[104, 116, 116, 112, 58, 47, 47, 97, 46, 98, 47]⟩) = some pageU := by kernel_rfl
theorem safe_is : parseI (sb ⟨#[104, 116, 116, 112, 115, 58, 47, 47, 97, 46, 98, 47]⟩) = some safeU := by kernel_rfl
theorem page_half : pageU.Half := (parseI_norm (byt_sb _) page_is).fine.half
theorem safe_half : safeU.Half := (parseI_norm (byt_sb _) safe_is).fine.half
def rowOk (r : ByteArray × ByteArray × Bool × Bool) : Bool := match parseI (sb r.2.1) with
  | some u => (matchI (sb r.1) pageU u == r.2.2.1) && (matchI (sb r.1) safeU u == r.2.2.2)
  | none => false
theorem forms_ok : ∀ r ∈ formB, rowOk r = true := by decide +kernel
theorem forms_size : ∀ r ∈ formB, r.1.size ≤ 30 ∧ r.2.1.size ≤ 30 := by decide
theorem form_at {s t : ByteArray} {a b : Bool} (h : (s, t, a, b) ∈ formB) : ∃ u, parseI (sb t) = some u ∧ u.Half ∧ matchI (sb s) pageU u = a ∧ matchI (sb s) safeU u = b ∧ s.size ≤ 30 ∧ t.size ≤ 30 := by
  have h1 := forms_ok _ h
  have h2 := forms_size _ h
  unfold rowOk at h1
  cases hp : parseI (sb t) with
  | none => simp only [hp] at h1; cases h1
  | some u =>
    simp only [hp, Bool.and_eq_true, beq_iff_eq] at h1
    exact ⟨u, rfl, (parseI_norm (byt_sb _) hp).fine.half, h1.1, h1.2, h2.1, h2.2⟩
theorem good_ok : ∀ s ∈ goodB, checkI (sb s) = true := by decide +kernel
theorem good_size : ∀ s ∈ goodB, s.size ≤ 60 := by decide
theorem bad_no : ∀ s ∈ badL, checkI (sb s) = false := by decide +kernel
theorem bad_size : ∀ s ∈ badL, s.size ≤ 60 := by decide
def v4 (s t : ByteArray) (a b : Bool) : List Value := [.string s, .string t, .bool a, .bool b]
theorem one_v4 (s t : ByteArray) (a b : Bool) : ∀ v ∈ v4 s t a b, v.oneCell' = true := by
  intro v hv
  simp only [v4, List.mem_cons, List.not_mem_nil, or_false] at hv
  rcases hv with rfl | rfl | rfl | rfl <;> rfl
def formV (l : List (ByteArray × ByteArray × Bool × Bool)) : List Value := l.flatMap fun r => v4 r.1 r.2.1 r.2.2.1 r.2.2.2
theorem formV_at : ∀ (l : List (ByteArray × ByteArray × Bool × Bool)) (i : Nat) (s t : ByteArray) (a b : Bool), l[i]? = some (s, t, a, b) → ((formV l).drop (i * 4)).take 4 = v4 s t a b
  | [], i, s, t, a, b, h => by simp at h
  | r :: l, 0, s, t, a, b, h => by simp only [List.getElem?_cons_zero, Option.some.injEq] at h; subst h; simp [formV, v4]
  | r :: l, i + 1, s, t, a, b, h => by
    have h2 := formV_at l i s t a b (by simpa using h)
    have e : (i + 1) * 4 = i * 4 + 4 := by omega
    rw [e]
    simpa [formV, v4] using h2
theorem build_v4 (s t : ByteArray) (a b : Bool) (w : World) : (Instr.build 27 #[(0, .string s), (1, .string t), (2, .bool a), (3, .bool b)]).run Tryd.prog w = .ok (.agg (v4 s t a b).toArray) w := by kernel_rfl
theorem build_forms (w : World) : (Instr.buildSlice 28 23 #[(0, .agg (v4 ⟨#[39, 115, 101, 108, 102, 39]⟩ ⟨#[104, 116, 116, 112, 58, 47, 47, 97, 46, 98, 47, 120]⟩ true false).toArray), (1, .agg (v4 ⟨#[39, 83, 69, 76, 70, 39]⟩ ⟨#[104, 116, 116, 112, 115, 58, 47, 47, 97, 46, 98, 47, 120]⟩ false true).toArray), (2, .agg (v4 ⟨#[42]⟩ ⟨#[104, 116, 116, 112, 58, 47, 47, 99, 46, 100, 58, 56, 47]⟩ true true).toArray), (3, .agg (v4 ⟨#[39, 110, 111, 110, 101, 39]⟩ ⟨#[104, 116, 116, 112, 58, 47, 47, 97, 46, 98, 47]⟩ false false).toArray), (4, .agg (v4 ⟨#[104, 116, 116, 112, 58]⟩ ⟨#[104, 116, 116, 112, 115, 58, 47, 47, 99, 46, 100, 47]⟩ true true).toArray), (5, .agg (v4 ⟨#[104, 116, 116, 112, 115, 58]⟩ ⟨#[104, 116, 116, 112, 58, 47, 47, 99, 46, 100, 47]⟩ false false).toArray), (6, .agg (v4 ⟨#[72, 84, 84, 80, 83, 58]⟩ ⟨#[104, 116, 116, 112, 115, 58, 47, 47, 99, 46, 100, 47]⟩ true true).toArray), (7, .agg (v4 ⟨#[99, 46, 100]⟩ ⟨#[104, 116, 116, 112, 58, 47, 47, 99, 46, 100, 47]⟩ true false).toArray), (8, .agg (v4 ⟨#[99, 46, 100]⟩ ⟨#[104, 116, 116, 112, 115, 58, 47, 47, 99, 46, 100, 47]⟩ true true).toArray), (9, .agg (v4 ⟨#[67, 46, 68]⟩ ⟨#[104, 116, 116, 112, 115, 58, 47, 47, 99, 46, 100, 58, 56, 47]⟩ false false).toArray), (10, .agg (v4 ⟨#[99, 46, 100, 58, 56]⟩ ⟨#[104, 116, 116, 112, 115, 58, 47, 47, 99, 46, 100, 58, 56, 47]⟩ true true).toArray), (11, .agg (v4 ⟨#[99, 46, 100, 58, 42]⟩ ⟨#[104, 116, 116, 112, 115, 58, 47, 47, 99, 46, 100, 58, 56, 47]⟩ true true).toArray), (12, .agg (v4 ⟨#[99, 46, 100, 58, 52, 52, 51]⟩ ⟨#[104, 116, 116, 112, 115, 58, 47, 47, 99, 46, 100, 47]⟩ true true).toArray), (13, .agg (v4 ⟨#[99, 46, 100, 58, 56, 48]⟩ ⟨#[104, 116, 116, 112, 115, 58, 47, 47, 99, 46, 100, 47]⟩ false false).toArray), (14, .agg (v4 ⟨#[42, 46, 99, 46, 100]⟩ ⟨#[104, 116, 116, 112, 115, 58, 47, 47, 115, 46, 99, 46, 100, 47]⟩ true true).toArray), (15, .agg (v4 ⟨#[42, 46, 99, 46, 100]⟩ ⟨#[104, 116, 116, 112, 115, 58, 47, 47, 99, 46, 100, 47]⟩ false false).toArray), (16, .agg (v4 ⟨#[42, 46, 100]⟩ ⟨#[104, 116, 116, 112, 115, 58, 47, 47, 115, 46, 99, 46, 100, 47]⟩ true true).toArray), (17, .agg (v4 ⟨#[104, 116, 116, 112, 58, 47, 47, 99, 46, 100]⟩ ⟨#[104, 116, 116, 112, 115, 58, 47, 47, 99, 46, 100, 47]⟩ true true).toArray), (18, .agg (v4 ⟨#[104, 116, 116, 112, 115, 58, 47, 47, 99, 46, 100]⟩ ⟨#[104, 116, 116, 112, 58, 47, 47, 99, 46, 100, 47]⟩ false false).toArray), (19, .agg (v4 ⟨#[115, 46, 99, 46, 100]⟩ ⟨#[104, 116, 116, 112, 115, 58, 47, 47, 99, 46, 100, 47]⟩ false false).toArray), (20, .agg (v4 ⟨#[99, 46, 100, 58, 57, 57, 57, 57, 57]⟩ ⟨#[104, 116, 116, 112, 115, 58, 47, 47, 99, 46, 100, 47]⟩ false false).toArray), (21, .agg (v4 ⟨#[104, 116, 116, 112, 115, 58, 47, 47, 99, 46, 100, 47]⟩ ⟨#[104, 116, 116, 112, 115, 58, 47, 47, 99, 46, 100, 47]⟩ false false).toArray), (22, .agg (v4 ⟨#[]⟩ ⟨#[104, 116, 116, 112, 115, 58, 47, 47, 99, 46, 100, 47]⟩ false false).toArray)]).run Tryd.prog w = .ok (.slice (some ⟨w.heap.size, 0, none⟩) 23 23) (w.alloc (.cells (formV formB).toArray 27)) := by kernel_rfl
theorem build_good (w : World) : (Instr.buildSlice 30 9 #[(0, .string ⟨#[]⟩), (1, .string ⟨#[32, 32]⟩), (2, .string ⟨#[39, 110, 111, 110, 101, 39]⟩), (3, .string ⟨#[39, 78, 111, 110, 101, 39]⟩), (4, .string ⟨#[42]⟩), (5, .string ⟨#[104, 116, 116, 112, 58, 32, 42, 46, 97, 58, 49, 32, 32, 39, 115, 101, 108, 102, 39]⟩), (6, .string ⟨#[97, 46, 98, 58, 42]⟩), (7, .string ⟨#[108, 111, 99, 97, 108, 104, 111, 115, 116, 58, 54, 53, 53, 51, 53]⟩), (8, .string ⟨#[97, 32, 98, 32, 99, 32, 100]⟩)]).run Tryd.prog w = .ok (.slice (some ⟨w.heap.size, 0, none⟩) 9 9) (w.alloc (.cells (goodB.map Value.string).toArray 9)) := by kernel_rfl
theorem build_badL (w : World) : (Instr.buildSlice 30 18 #[(0, .string ⟨#[39, 110, 111, 110, 101, 39, 32, 42]⟩), (1, .string ⟨#[42, 32, 39, 78, 79, 78, 69, 39]⟩), (2, .string ⟨#[115, 101, 108, 102, 39]⟩), (3, .string ⟨#[39, 115, 101, 108, 102]⟩), (4, .string ⟨#[102, 116, 112, 58]⟩), (5, .string ⟨#[104, 116, 116, 112, 58, 47, 47]⟩), (6, .string ⟨#[104, 116, 116, 112, 58, 47, 97]⟩), (7, .string ⟨#[97, 46, 46, 98]⟩), (8, .string ⟨#[42, 46]⟩), (9, .string ⟨#[42, 46, 42, 46, 97]⟩), (10, .string ⟨#[97, 42]⟩), (11, .string ⟨#[97, 58]⟩), (12, .string ⟨#[97, 58, 120]⟩), (13, .string ⟨#[97, 58, 54, 53, 53, 51, 54]⟩), (14, .string ⟨#[97, 47]⟩), (15, .string ⟨#[104, 116, 116, 112, 58, 47, 47, 97, 47]⟩), (16, .string ⟨#[195, 169]⟩), (17, .string ⟨#[97, 46, 98, 32, 97, 46, 98, 32, 97, 46, 98, 32, 97, 46, 98, 32, 97, 46, 98, 32, 97, 46, 98, 32, 97, 46, 98, 32, 97, 46, 98, 32, 97, 46, 98, 32, 97, 46, 98, 32, 97, 46, 98]⟩)]).run Tryd.prog w = .ok (.slice (some ⟨w.heap.size, 0, none⟩) 18 18) (w.alloc (.cells (badL.map Value.string).toArray 9)) := by kernel_rfl
theorem v4_size : (Tryd.prog.info? 27).map (·.size) = some 4 := by kernel_rfl
theorem alloc_v4 (w : World) : (Instr.alloc 27 true (.tuple #[])).run Tryd.prog w = .ok (.pointer (some ⟨w.heap.size, 0, none⟩)) (w.alloc (.cells (v4 ⟨#[]⟩ ⟨#[]⟩ false false).toArray 27)) := by kernel_rfl
end Go.Proofs.YtfgaikacijdodaaDoor
/-
  From a row's list of package-level variables, and the shape of its first world, to what the landed program's calls ask; a world for the witness.
-/
namespace Go.Proofs.YtfgaikacijdodaaDoor
set_option linter.unusedVariables false
set_option linter.unusedSimpArgs false
set_option maxRecDepth 100000
open Go.ChangeShapes Go.WideShapes Go.ChangeAt Go.RowKit
open Go.ChangeMaps (open_string shut_string)

theorem own_none : ownKnob Tryd.prog.godebug = none := by kernel_rfl
theorem tens_named : Tryd.prog.globalNamed "internal/strconv.uint64pow10" = some 3 := by kernel_rfl
theorem tens_type : (Tryd.prog.globals[3]?).map (·.type) = some 108 := by kernel_rfl
theorem tens_cells : Tryd.prog.cellsOf 108 = 20 := by kernel_rfl
theorem u64_cells : Tryd.prog.cellsOf 72 = 1 := by kernel_rfl
/-- The variables that every row of this seat lists. -/
def laidAll : List (String × DataW Unit) := [("math/bits.deBruijn32tab", Rows.laid_math_bits_deBruijn32tab), ("math/bits.deBruijn64tab", Rows.laid_math_bits_deBruijn64tab), ("internal/strconv.uint64pow10", Rows.laid_internal_strconv_uint64pow10), ("unicode/utf8.acceptRanges", Rows.laid_unicode_utf8_acceptRanges), ("strconv.ErrRange", Rows.laid_strconv_ErrRange), ("strconv.ErrSyntax", Rows.laid_strconv_ErrSyntax), ("unicode/utf8.first", Rows.laid_unicode_utf8_first)]
theorem star_err : "*" ++ "errors.errorString" = "*errors.errorString" := by decide
theorem row_err (u : TypeId) (h : Tryd.prog.typeName? 3 u = some "*errors.errorString") : u = 111 :=
  typeName_ptr_named (nm := "errors.errorString") (by rw [star_err]; kernel_rfl) (by kernel_rfl) (by decide) u (by rw [star_err]; exact h)
theorem err_cells : Tryd.prog.cellsOf 113 = 1 := by kernel_rfl
theorem str_cells : Tryd.prog.cellsOf 9 = 1 := by kernel_rfl
theorem rang_named : Tryd.prog.globalNamed "strconv.ErrRange" = some 2 := by kernel_rfl
theorem rang_type : (Tryd.prog.globals[2]?).map (·.type) = some 74 := by kernel_rfl
theorem synt_named : Tryd.prog.globalNamed "strconv.ErrSyntax" = some 1 := by kernel_rfl
theorem synt_type : (Tryd.prog.globals[1]?).map (·.type) = some 74 := by kernel_rfl
theorem vars_of {W : World} (h : laidMetH Tryd.prog laidAll W) (hsh : W.ShapedOpen Tryd.prog) : VarsOk W where
  most := Tryd.laysM145.s1_3 W hsh
  tens := by
    have h1 : laidMet Tryd.prog laidAll W := h
    exact Lib.tabIs_of_head (rest := [("unicode/utf8.acceptRanges", Rows.laid_unicode_utf8_acceptRanges), ("strconv.ErrRange", Rows.laid_strconv_ErrRange), ("strconv.ErrSyntax", Rows.laid_strconv_ErrSyntax), ("unicode/utf8.first", Rows.laid_unicode_utf8_first)]) tens_named tens_type Tryd.underlying108 Tryd.underlying72 u64_cells tens_cells h1.tail.tail
  synt := by
    have h1 : laidMet Tryd.prog laidAll W := h
    obtain ⟨a, s, hv, _⟩ := laid_sentinel h1.tail.tail.tail.tail.tail synt_named synt_type Tryd.underlying74 row_err Tryd.underlying111 Tryd.underlying113 rfl rfl Tryd.underlying9 err_cells str_cells
    exact ⟨_, by rw [World.var?_cell synt_named hv 0]; rfl, .inr ⟨_, _, rfl⟩⟩
  rang := by
    have h1 : laidMet Tryd.prog laidAll W := h
    obtain ⟨a, s, hv, _⟩ := laid_sentinel h1.tail.tail.tail.tail rang_named rang_type Tryd.underlying74 row_err Tryd.underlying111 Tryd.underlying113 rfl rfl Tryd.underlying9 err_cells str_cells
    exact ⟨_, by rw [World.var?_cell rang_named hv 0]; rfl, .inr ⟨_, _, rfl⟩⟩
/-! ### a world that holds them -/
def dat1 : DataW Unit → List Value
  | .lit (.int k n) => [.int k n]
  | _ => []
def dat2 : DataW Unit → List Value
  | .agg ds => ds.flatMap dat1
  | _ => []
def dat3 : DataW Unit → List Value
  | .agg ds => ds.flatMap fun d => dat1 d ++ dat2 d
  | _ => []
def laying (d : DataW Unit) : Obj → Obj
  | .cells _ t frozen => .cells (dat3 d).toArray t frozen
  | o => o
def pointing (n : Nat) : Obj → Obj
  | .cells _ t frozen => .cells #[.iface 111 (.pointer (some ⟨n, 0, none⟩))] t frozen
  | o => o
noncomputable def low (os : Os) : Nat := (World.holding Tryd.prog os ⟨#[], #[], []⟩).heap.size
noncomputable def heldW (os : Os) : World := World.holding Tryd.prog os ⟨#[.cells #[.string ⟨#[118, 97, 108, 117, 101, 32, 111, 117, 116, 32, 111, 102, 32, 114, 97, 110, 103, 101]⟩] 113, .cells #[.string ⟨#[105, 110, 118, 97, 108, 105, 100, 32, 115, 121, 110, 116, 97, 120]⟩] 113], #[], []⟩
noncomputable def laidWorld (os : Os) : World :=
  { heldW os with heap := ((((((((heldW os).heap.modify 6 (laying Rows.laid_math_bits_deBruijn32tab)).modify 7 (laying Rows.laid_math_bits_deBruijn64tab)).modify 3 (laying Rows.laid_internal_strconv_uint64pow10)).modify 5 (laying Rows.laid_unicode_utf8_acceptRanges)).modify 2 (pointing (low os))).modify 1 (pointing (low os + 1))).modify 4 (laying Rows.laid_unicode_utf8_first)) }
/-- What the form's reach says of a string that came in. -/
theorem string_reach {P : Program} {H : Type} {ts : List TypeId} {ds : List (DataW H)} {j : Nat} {t : TypeId} {s : ByteArray} (h : (DataW.weightsEach P ts ds).all (· ≤ reachBytes) = true) (ht : ts[j]? = some t) (hd : ds[j]? = some (.lit (.string s.data.toList))) : s.size ≤ 140737488351232 := by
  have h1 := sized_string h ht hd
  have h2 := reachBytes_lt
  have e : s.data.toList.length = s.size := by simp
  have h3 : reachBytes ≤ 140737488351232 := by decide
  omega
end Go.Proofs.YtfgaikacijdodaaDoor
