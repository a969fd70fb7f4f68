/-
  Texts that the laws stand on: CspP, Csp7, Ply1, Csp6.
-/
import Derived.Test.YtfgaikacijdodaaGreatDoorM11
import Derived.Test.YtfgaikacijdodaaGreatDoorM1
import Derived.Test.YtfgaikacijdodaaGreatDoorM3

/-
  The landed program's Match and Allows.
-/
namespace Go.Proofs.YtfgaikacijdodaaGreatDoor
set_option linter.unusedVariables false
set_option linter.unusedSimpArgs false
set_option maxRecDepth 20000
open Go.RowKit

set_option maxHeartbeats 8000000 in
theorem cmatch_none {w0 w : World} {R : Blks} (hV : VarsOk w0) (hO : Own w0 w R) (s : ByteArray) (hs : s.size ≤ 4000000) (page u : UL) (hl : lowL (sb s) = noneW) :
    Calls Tryz.prog 9 #[.string s, .agg page.val.toArray, .agg u.val.toArray] w fun e w' => e = .returned (.bool false) ∧ Own w0 w' R := by
  have hlow := fun (w1 : World) (R1 : Blks) (h : Own w0 w1 R1) => lower_c h s (by omega)
  have hlB : Byt (lowL (sb s)) := lowL_byt (byt_sb s)
  have hll : (lowL (sb s)).length ≤ 4000000 := by unfold lowL; rw [List.length_map, length_sb]; exact hs
  obtain ⟨X, hXe⟩ : ∃ X, strOfNums (lowL (sb s)) = X := ⟨_, rfl⟩
  have hX : sb X = lowL (sb s) := by rw [← hXe, sb_str hlB]
  rw [hXe] at hlow
  rw [hl] at hX
  have t1 : (X.toList == [39, 110, 111, 110, 101, 39]) = true := by rw [beq_litC X [39, 110, 111, 110, 101, 39] noneW rfl, hX]; rfl
  unfold UL.val
  generalize strOfNums page.sch = ps at *
  generalize strOfNums page.host = ph at *
  generalize strOfNums page.path = px at *
  generalize strOfNums page.query = pq at *
  generalize page.port = pp at *
  generalize strOfNums u.sch = us at *
  generalize strOfNums u.host = uh at *
  generalize strOfNums u.path = ux at *
  generalize strOfNums u.query = uq at *
  generalize u.port = up at *
  have HO := Lib.hid hO; have HL := Lib.hid hlow
  clear hO hlow hlB hll hXe hX hV
  go_enter Tryz.func9, Tryz.ntmps9
  go_wp2_with (first | (refine wl_box rfl _ _ rfl HO.out [Value.string ps, Value.string ph, Value.int .i64 pp, Value.string px, Value.string pq].toArray (by rfl) ?_; intro g1 w1 hO; have HO1 := Lib.hid hO; clear hO HO) | (refine wl_box rfl _ _ rfl HO1.out [Value.string us, Value.string uh, Value.int .i64 up, Value.string ux, Value.string uq].toArray (by rfl) ?_; intro g2 w2 hO; have HO2 := Lib.hid (hO.cast (L' := (g2, .cells [Value.string us, Value.string uh, Value.int .i64 up, Value.string ux, Value.string uq].toArray 24) :: (g1, .cells [Value.string ps, Value.string ph, Value.int .i64 pp, Value.string px, Value.string pq].toArray 24) :: R) rfl); clear hO HO1))
  with_reducible refine (HL.out _ _ HO2.out).mono ?_
  rintro e w3 ⟨rfl, hO⟩
  have HO3 := Lib.hid hO; clear hO HO2 HL
  go_wp2
  go_ret
  exact ⟨rfl, HO3.out.tail.tail⟩
set_option maxHeartbeats 8000000 in
theorem cmatch_star {w0 w : World} {R : Blks} (hV : VarsOk w0) (hO : Own w0 w R) (s : ByteArray) (hs : s.size ≤ 4000000) (page u : UL) (hl : lowL (sb s) = [42]) :
    Calls Tryz.prog 9 #[.string s, .agg page.val.toArray, .agg u.val.toArray] w fun e w' => e = .returned (.bool true) ∧ Own w0 w' R := by
  have hlow := fun (w1 : World) (R1 : Blks) (h : Own w0 w1 R1) => lower_c h s (by omega)
  have hlB : Byt (lowL (sb s)) := lowL_byt (byt_sb s)
  have hll : (lowL (sb s)).length ≤ 4000000 := by unfold lowL; rw [List.length_map, length_sb]; exact hs
  obtain ⟨X, hXe⟩ : ∃ X, strOfNums (lowL (sb s)) = X := ⟨_, rfl⟩
  have hX : sb X = lowL (sb s) := by rw [← hXe, sb_str hlB]
  rw [hXe] at hlow
  rw [hl] at hX
  have t1 : (X.toList == [39, 110, 111, 110, 101, 39]) = false := by rw [beq_litC X [39, 110, 111, 110, 101, 39] noneW rfl, hX]; rfl
  have t2 : (X.toList == [39, 115, 101, 108, 102, 39]) = false := by rw [beq_litC X [39, 115, 101, 108, 102, 39] selfW rfl, hX]; rfl
  have t3 : (X.toList == [42]) = true := by rw [beq_litC X [42] [42] rfl, hX]; rfl
  unfold UL.val
  generalize strOfNums page.sch = ps at *
  generalize strOfNums page.host = ph at *
  generalize strOfNums page.path = px at *
  generalize strOfNums page.query = pq at *
  generalize page.port = pp at *
  generalize strOfNums u.sch = us at *
  generalize strOfNums u.host = uh at *
  generalize strOfNums u.path = ux at *
  generalize strOfNums u.query = uq at *
  generalize u.port = up at *
  have HO := Lib.hid hO; have HL := Lib.hid hlow
  clear hO hlow hlB hll hXe hX hV
  go_enter Tryz.func9, Tryz.ntmps9
  go_wp2_with (first | (refine wl_box rfl _ _ rfl HO.out [Value.string ps, Value.string ph, Value.int .i64 pp, Value.string px, Value.string pq].toArray (by rfl) ?_; intro g1 w1 hO; have HO1 := Lib.hid hO; clear hO HO) | (refine wl_box rfl _ _ rfl HO1.out [Value.string us, Value.string uh, Value.int .i64 up, Value.string ux, Value.string uq].toArray (by rfl) ?_; intro g2 w2 hO; have HO2 := Lib.hid (hO.cast (L' := (g2, .cells [Value.string us, Value.string uh, Value.int .i64 up, Value.string ux, Value.string uq].toArray 24) :: (g1, .cells [Value.string ps, Value.string ph, Value.int .i64 pp, Value.string px, Value.string pq].toArray 24) :: R) rfl); clear hO HO1))
  with_reducible refine (HL.out _ _ HO2.out).mono ?_
  rintro e w3 ⟨rfl, hO⟩
  have HO3 := Lib.hid hO; clear hO HO2 HL
  go_wp2
  go_ret
  exact ⟨rfl, HO3.out.tail.tail⟩
set_option maxHeartbeats 8000000 in
theorem cmatch_self {w0 w : World} {R : Blks} (hV : VarsOk w0) (hO : Own w0 w R) (s : ByteArray) (hs : s.size ≤ 4000000) (page u : UL) (hp : page.Half) (hu : u.Half) (hl : lowL (sb s) = selfW) :
    Calls Tryz.prog 9 #[.string s, .agg page.val.toArray, .agg u.val.toArray] w fun e w' => e = .returned (.bool (decide (originI page = originI u))) ∧ Own w0 w' R := by
  have hlow := fun (w1 : World) (R1 : Blks) (h : Own w0 w1 R1) => lower_c h s (by omega)
  have hlB : Byt (lowL (sb s)) := lowL_byt (byt_sb s)
  have hll : (lowL (sb s)).length ≤ 4000000 := by unfold lowL; rw [List.length_map, length_sb]; exact hs
  obtain ⟨X, hXe⟩ : ∃ X, strOfNums (lowL (sb s)) = X := ⟨_, rfl⟩
  have hX : sb X = lowL (sb s) := by rw [← hXe, sb_str hlB]
  rw [hXe] at hlow
  rw [hl] at hX
  have t1 : (X.toList == [39, 110, 111, 110, 101, 39]) = false := by rw [beq_litC X [39, 110, 111, 110, 101, 39] noneW rfl, hX]; rfl
  have t2 : (X.toList == [39, 115, 101, 108, 102, 39]) = true := by rw [beq_litC X [39, 115, 101, 108, 102, 39] selfW rfl, hX]; rfl
  have hsm := fun (w1 : World) (R1 : Blks) (h : Own w0 w1 R1) => usame_c hV h page u hp hu
  generalize decide (originI page = originI u) = ans at *
  simp only [UL.val] at hsm ⊢
  generalize strOfNums page.sch = ps at *
  generalize strOfNums page.host = ph at *
  generalize strOfNums page.path = px at *
  generalize strOfNums page.query = pq at *
  generalize page.port = pp at *
  generalize strOfNums u.sch = us at *
  generalize strOfNums u.host = uh at *
  generalize strOfNums u.path = ux at *
  generalize strOfNums u.query = uq at *
  generalize u.port = up at *
  have HS := Lib.hid hsm
  clear hsm
  have HO := Lib.hid hO; have HL := Lib.hid hlow
  clear hO hlow hlB hll hXe hX hV hp hu
  go_enter Tryz.func9, Tryz.ntmps9
  go_wp2_with (first | (refine wl_box rfl _ _ rfl HO.out [Value.string ps, Value.string ph, Value.int .i64 pp, Value.string px, Value.string pq].toArray (by rfl) ?_; intro g1 w1 hO; have HO1 := Lib.hid hO; clear hO HO) | (refine wl_box rfl _ _ rfl HO1.out [Value.string us, Value.string uh, Value.int .i64 up, Value.string ux, Value.string uq].toArray (by rfl) ?_; intro g2 w2 hO; have HO2 := Lib.hid (hO.cast (L' := (g2, .cells [Value.string us, Value.string uh, Value.int .i64 up, Value.string ux, Value.string uq].toArray 24) :: (g1, .cells [Value.string ps, Value.string ph, Value.int .i64 pp, Value.string px, Value.string pq].toArray 24) :: R) rfl); clear hO HO1))
  with_reducible refine (HL.out _ _ HO2.out).mono ?_
  rintro e w3 ⟨rfl, hO⟩
  have HO3 := Lib.hid hO; clear hO HO2 HL
  go_wp2_with (first | (refine wl_load rfl _ _ rfl g1 0 [Value.string ps, Value.string ph, Value.int .i64 pp, Value.string px, Value.string pq] [Value.string ps, Value.string ph, Value.int .i64 pp, Value.string px, Value.string pq] _ (HO3.out.heap (.tail _ (.head _))) (by rfl) _ Tryz.underlying24 rfl url_size (by rfl) ?_) | (refine wl_load rfl _ _ rfl g2 0 [Value.string us, Value.string uh, Value.int .i64 up, Value.string ux, Value.string uq] [Value.string us, Value.string uh, Value.int .i64 up, Value.string ux, Value.string uq] _ (HO3.out.heap (.head _)) (by rfl) _ Tryz.underlying24 rfl url_size (by rfl) ?_))
  with_reducible refine (HS.out _ _ HO3.out).mono ?_
  rintro e w4 ⟨rfl, hO⟩
  have HO4 := Lib.hid hO; clear hO HO3 HS
  go_wp2
  go_ret
  exact ⟨rfl, HO4.out.tail.tail⟩
set_option maxHeartbeats 8000000 in
theorem cmatch_http {w0 w : World} {R : Blks} (hV : VarsOk w0) (hO : Own w0 w R) (s : ByteArray) (hs : s.size ≤ 4000000) (page u : UL) (hu : u.Half) (hl : lowL (sb s) = httpI ++ [58]) :
    Calls Tryz.prog 9 #[.string s, .agg page.val.toArray, .agg u.val.toArray] w fun e w' => e = .returned (.bool (likeI httpI u)) ∧ Own w0 w' R := by
  have hlow := fun (w1 : World) (R1 : Blks) (h : Own w0 w1 R1) => lower_c h s (by omega)
  have hlB : Byt (lowL (sb s)) := lowL_byt (byt_sb s)
  have hll : (lowL (sb s)).length ≤ 4000000 := by unfold lowL; rw [List.length_map, length_sb]; exact hs
  obtain ⟨X, hXe⟩ : ∃ X, strOfNums (lowL (sb s)) = X := ⟨_, rfl⟩
  have hX : sb X = lowL (sb s) := by rw [← hXe, sb_str hlB]
  rw [hXe] at hlow
  rw [hl] at hX
  have t1 : (X.toList == [39, 110, 111, 110, 101, 39]) = false := by rw [beq_litC X [39, 110, 111, 110, 101, 39] noneW rfl, hX]; rfl
  have t2 : (X.toList == [39, 115, 101, 108, 102, 39]) = false := by rw [beq_litC X [39, 115, 101, 108, 102, 39] selfW rfl, hX]; rfl
  have t3 : (X.toList == [42]) = false := by rw [beq_litC X [42] [42] rfl, hX]; rfl
  have t4 : (X.toList == [104, 116, 116, 112, 58]) = true := by rw [beq_litC X [104, 116, 116, 112, 58] (httpI ++ [58]) rfl, hX]; rfl
  have hXl : X.size ≤ 1073741824 := by rw [← length_sb, hX]; decide
  have htr := fun (w1 : World) (R1 : Blks) (h : Own w0 w1 R1) => (ctrims_c (w := w1) X ⟨#[58]⟩ hXl).mono (fun e w' hq => And.intro hq.1 (hq.2 ▸ h))
  rw [hX, show trimS (sb ⟨#[58]⟩) (httpI ++ [58]) = httpI from by decide] at htr
  have hsf := fun (w1 : World) (R1 : Blks) (h : Own w0 w1 R1) => (csafer_c (w := w1) u.sch httpI hu.schB http_byt).mono (fun e w' hq => And.intro hq.1 (hq.2 ▸ h))
  rw [safer_like (sc := httpI) (by first | exact .inl rfl | exact .inr rfl) u] at hsf
  generalize likeI httpI u = ans at *
  unfold UL.val
  generalize strOfNums page.sch = ps at *
  generalize strOfNums page.host = ph at *
  generalize strOfNums page.path = px at *
  generalize strOfNums page.query = pq at *
  generalize page.port = pp at *
  generalize strOfNums u.sch = us at *
  generalize strOfNums u.host = uh at *
  generalize strOfNums u.path = ux at *
  generalize strOfNums u.query = uq at *
  generalize u.port = up at *
  have HT := Lib.hid htr; have HSF := Lib.hid hsf
  clear htr hsf
  have HO := Lib.hid hO; have HL := Lib.hid hlow
  clear hO hlow hlB hll hXe hX hV hu
  go_enter Tryz.func9, Tryz.ntmps9
  go_wp2_with (first | (refine wl_box rfl _ _ rfl HO.out [Value.string ps, Value.string ph, Value.int .i64 pp, Value.string px, Value.string pq].toArray (by rfl) ?_; intro g1 w1 hO; have HO1 := Lib.hid hO; clear hO HO) | (refine wl_box rfl _ _ rfl HO1.out [Value.string us, Value.string uh, Value.int .i64 up, Value.string ux, Value.string uq].toArray (by rfl) ?_; intro g2 w2 hO; have HO2 := Lib.hid (hO.cast (L' := (g2, .cells [Value.string us, Value.string uh, Value.int .i64 up, Value.string ux, Value.string uq].toArray 24) :: (g1, .cells [Value.string ps, Value.string ph, Value.int .i64 pp, Value.string px, Value.string pq].toArray 24) :: R) rfl); clear hO HO1))
  with_reducible refine (HL.out _ _ HO2.out).mono ?_
  rintro e w3 ⟨rfl, hO⟩
  have HO3 := Lib.hid hO; clear hO HO2 HL
  go_upto_region 11 with fail
  refine wp_region_lin (fun w' => Own w0 w' ((g2, .cells [Value.string us, Value.string uh, Value.int .i64 up, Value.string ux, Value.string uq].toArray 24) :: (g1, .cells [Value.string ps, Value.string ph, Value.int .i64 pp, Value.string px, Value.string pq].toArray 24) :: R)) 6 [(0, true), (1, true), (2, true), (3, false), (4, false), (5, true)] (by kernel_rfl) (by kernel_rfl) (fun _ _ d _ _ h => by cases d <;> exact h) HO3.out.drew ?_
  simp only [List.map_cons, List.map_nil, pick_zero, pick_succ, List.drop_succ_cons, List.drop_zero]
  have HR0 := Lib.hid HO3.out.drew; clear HO3
  refine lin_q ?_ rfl ?_ ?_; rotate_left 1; (focus (rintro w' hO; clear hO; go_simp; first | done | with_reducible rfl | (trace_state; fail))); simp only [Act.put, List.setIfInBounds_toArray, List.set_cons_zero, List.set_cons_succ]
  refine lin_q ?_ rfl ?_ ?_; rotate_left 1; (focus (rintro w' hO; have k1 : w'.cell? ⟨g2, 0, none⟩ = some (.string us) := hO.cell (.head _) 0; clear hO; go_simp; first | done | with_reducible rfl | (trace_state; fail))); simp only [Act.put, List.setIfInBounds_toArray, List.set_cons_zero, List.set_cons_succ]
  refine lin_q ?_ rfl ?_ ?_; rotate_left 1; (focus (rintro w' hO; clear hO; go_simp; first | done | with_reducible rfl | (trace_state; fail))); simp only [Act.put, List.setIfInBounds_toArray, List.set_cons_zero, List.set_cons_succ]
  refine lin_act ?_
  refine wl_call rfl _ _ _ (by go_simp) (HT.out _ _ HR0.out) ?_
  rintro e wzHR1 ⟨rfl, hO⟩
  have HR1 := Lib.hid hO; clear hO HR0
  refine ⟨_, rfl, LinPost.mk HR1.out ?_⟩
  simp only [Act.put, List.setIfInBounds_toArray, List.set_cons_zero, List.set_cons_succ]
  refine lin_act ?_
  refine wl_call rfl _ _ _ (by go_simp) (HSF.out _ _ HR1.out) ?_
  rintro e wzHR2 ⟨rfl, hO⟩
  have HR2 := Lib.hid hO; clear hO HR1
  refine ⟨_, rfl, LinPost.mk HR2.out ?_⟩
  simp only [Act.put, List.setIfInBounds_toArray, List.set_cons_zero, List.set_cons_succ]
  refine lin_q ?_ rfl ?_ ?_; rotate_left 1; (focus (rintro w' hO; clear hO; go_simp; first | done | with_reducible rfl | (trace_state; fail))); simp only [Act.put, List.setIfInBounds_toArray, List.set_cons_zero, List.set_cons_succ]
  refine lin_nil ?_
  go_wp2
  go_ret
  exact ⟨rfl, HR2.out.tail.tail⟩
set_option maxHeartbeats 8000000 in
theorem cmatch_https {w0 w : World} {R : Blks} (hV : VarsOk w0) (hO : Own w0 w R) (s : ByteArray) (hs : s.size ≤ 4000000) (page u : UL) (hu : u.Half) (hl : lowL (sb s) = httpsI ++ [58]) :
    Calls Tryz.prog 9 #[.string s, .agg page.val.toArray, .agg u.val.toArray] w fun e w' => e = .returned (.bool (likeI httpsI u)) ∧ Own w0 w' R := by
  have hlow := fun (w1 : World) (R1 : Blks) (h : Own w0 w1 R1) => lower_c h s (by omega)
  have hlB : Byt (lowL (sb s)) := lowL_byt (byt_sb s)
  have hll : (lowL (sb s)).length ≤ 4000000 := by unfold lowL; rw [List.length_map, length_sb]; exact hs
  obtain ⟨X, hXe⟩ : ∃ X, strOfNums (lowL (sb s)) = X := ⟨_, rfl⟩
  have hX : sb X = lowL (sb s) := by rw [← hXe, sb_str hlB]
  rw [hXe] at hlow
  rw [hl] at hX
  have t1 : (X.toList == [39, 110, 111, 110, 101, 39]) = false := by rw [beq_litC X [39, 110, 111, 110, 101, 39] noneW rfl, hX]; rfl
  have t2 : (X.toList == [39, 115, 101, 108, 102, 39]) = false := by rw [beq_litC X [39, 115, 101, 108, 102, 39] selfW rfl, hX]; rfl
  have t3 : (X.toList == [42]) = false := by rw [beq_litC X [42] [42] rfl, hX]; rfl
  have t4 : (X.toList == [104, 116, 116, 112, 58]) = false := by rw [beq_litC X [104, 116, 116, 112, 58] (httpI ++ [58]) rfl, hX]; rfl
  have t5 : (X.toList == [104, 116, 116, 112, 115, 58]) = true := by rw [beq_litC X [104, 116, 116, 112, 115, 58] (httpsI ++ [58]) rfl, hX]; rfl
  have hXl : X.size ≤ 1073741824 := by rw [← length_sb, hX]; decide
  have htr := fun (w1 : World) (R1 : Blks) (h : Own w0 w1 R1) => (ctrims_c (w := w1) X ⟨#[58]⟩ hXl).mono (fun e w' hq => And.intro hq.1 (hq.2 ▸ h))
  rw [hX, show trimS (sb ⟨#[58]⟩) (httpsI ++ [58]) = httpsI from by decide] at htr
  have hsf := fun (w1 : World) (R1 : Blks) (h : Own w0 w1 R1) => (csafer_c (w := w1) u.sch httpsI hu.schB https_byt).mono (fun e w' hq => And.intro hq.1 (hq.2 ▸ h))
  rw [safer_like (sc := httpsI) (by first | exact .inl rfl | exact .inr rfl) u] at hsf
  generalize likeI httpsI u = ans at *
  unfold UL.val
  generalize strOfNums page.sch = ps at *
  generalize strOfNums page.host = ph at *
  generalize strOfNums page.path = px at *
  generalize strOfNums page.query = pq at *
  generalize page.port = pp at *
  generalize strOfNums u.sch = us at *
  generalize strOfNums u.host = uh at *
  generalize strOfNums u.path = ux at *
  generalize strOfNums u.query = uq at *
  generalize u.port = up at *
  have HT := Lib.hid htr; have HSF := Lib.hid hsf
  clear htr hsf
  have HO := Lib.hid hO; have HL := Lib.hid hlow
  clear hO hlow hlB hll hXe hX hV hu
  go_enter Tryz.func9, Tryz.ntmps9
  go_wp2_with (first | (refine wl_box rfl _ _ rfl HO.out [Value.string ps, Value.string ph, Value.int .i64 pp, Value.string px, Value.string pq].toArray (by rfl) ?_; intro g1 w1 hO; have HO1 := Lib.hid hO; clear hO HO) | (refine wl_box rfl _ _ rfl HO1.out [Value.string us, Value.string uh, Value.int .i64 up, Value.string ux, Value.string uq].toArray (by rfl) ?_; intro g2 w2 hO; have HO2 := Lib.hid (hO.cast (L' := (g2, .cells [Value.string us, Value.string uh, Value.int .i64 up, Value.string ux, Value.string uq].toArray 24) :: (g1, .cells [Value.string ps, Value.string ph, Value.int .i64 pp, Value.string px, Value.string pq].toArray 24) :: R) rfl); clear hO HO1))
  with_reducible refine (HL.out _ _ HO2.out).mono ?_
  rintro e w3 ⟨rfl, hO⟩
  have HO3 := Lib.hid hO; clear hO HO2 HL
  go_upto_region 11 with fail
  refine wp_region_lin (fun w' => Own w0 w' ((g2, .cells [Value.string us, Value.string uh, Value.int .i64 up, Value.string ux, Value.string uq].toArray 24) :: (g1, .cells [Value.string ps, Value.string ph, Value.int .i64 pp, Value.string px, Value.string pq].toArray 24) :: R)) 6 [(0, true), (1, true), (2, true), (3, false), (4, false), (5, true)] (by kernel_rfl) (by kernel_rfl) (fun _ _ d _ _ h => by cases d <;> exact h) HO3.out.drew ?_
  simp only [List.map_cons, List.map_nil, pick_zero, pick_succ, List.drop_succ_cons, List.drop_zero]
  have HR0 := Lib.hid HO3.out.drew; clear HO3
  refine lin_q ?_ rfl ?_ ?_; rotate_left 1; (focus (rintro w' hO; clear hO; go_simp; first | done | with_reducible rfl | (trace_state; fail))); simp only [Act.put, List.setIfInBounds_toArray, List.set_cons_zero, List.set_cons_succ]
  refine lin_q ?_ rfl ?_ ?_; rotate_left 1; (focus (rintro w' hO; have k1 : w'.cell? ⟨g2, 0, none⟩ = some (.string us) := hO.cell (.head _) 0; clear hO; go_simp; first | done | with_reducible rfl | (trace_state; fail))); simp only [Act.put, List.setIfInBounds_toArray, List.set_cons_zero, List.set_cons_succ]
  refine lin_q ?_ rfl ?_ ?_; rotate_left 1; (focus (rintro w' hO; clear hO; go_simp; first | done | with_reducible rfl | (trace_state; fail))); simp only [Act.put, List.setIfInBounds_toArray, List.set_cons_zero, List.set_cons_succ]
  refine lin_act ?_
  refine wl_call rfl _ _ _ (by go_simp) (HT.out _ _ HR0.out) ?_
  rintro e wzHR1 ⟨rfl, hO⟩
  have HR1 := Lib.hid hO; clear hO HR0
  refine ⟨_, rfl, LinPost.mk HR1.out ?_⟩
  simp only [Act.put, List.setIfInBounds_toArray, List.set_cons_zero, List.set_cons_succ]
  refine lin_act ?_
  refine wl_call rfl _ _ _ (by go_simp) (HSF.out _ _ HR1.out) ?_
  rintro e wzHR2 ⟨rfl, hO⟩
  have HR2 := Lib.hid hO; clear hO HR1
  refine ⟨_, rfl, LinPost.mk HR2.out ?_⟩
  simp only [Act.put, List.setIfInBounds_toArray, List.set_cons_zero, List.set_cons_succ]
  refine lin_q ?_ rfl ?_ ?_; rotate_left 1; (focus (rintro w' hO; clear hO; go_simp; first | done | with_reducible rfl | (trace_state; fail))); simp only [Act.put, List.setIfInBounds_toArray, List.set_cons_zero, List.set_cons_succ]
  refine lin_nil ?_
  go_wp2
  go_ret
  exact ⟨rfl, HR2.out.tail.tail⟩
set_option maxHeartbeats 8000000 in
theorem cmatch_bad {w0 w : World} {R : Blks} (hV : VarsOk w0) (hO : Own w0 w R) (s : ByteArray) (hs : s.size ≤ 4000000) (page u : UL) (h1 : ¬ lowL (sb s) = noneW) (h2 : ¬ lowL (sb s) = selfW) (h3 : ¬ lowL (sb s) = [42]) (h4 : ¬ lowL (sb s) = httpI ++ [58]) (h5 : ¬ lowL (sb s) = httpsI ++ [58]) (hno : sourceL (lowL (sb s)) = none) :
    Calls Tryz.prog 9 #[.string s, .agg page.val.toArray, .agg u.val.toArray] w fun e w' => e = .returned (.bool false) ∧ Own w0 w' R := by
  have hlow := fun (w1 : World) (R1 : Blks) (h : Own w0 w1 R1) => lower_c h s (by omega)
  have hlB : Byt (lowL (sb s)) := lowL_byt (byt_sb s)
  have hll : (lowL (sb s)).length ≤ 4000000 := by unfold lowL; rw [List.length_map, length_sb]; exact hs
  obtain ⟨X, hXe⟩ : ∃ X, strOfNums (lowL (sb s)) = X := ⟨_, rfl⟩
  have hX : sb X = lowL (sb s) := by rw [← hXe, sb_str hlB]
  rw [hXe] at hlow
  have t1 : (X.toList == [39, 110, 111, 110, 101, 39]) = false := by rw [beq_litC X [39, 110, 111, 110, 101, 39] noneW rfl, hX]; exact decide_eq_false h1
  have t2 : (X.toList == [39, 115, 101, 108, 102, 39]) = false := by rw [beq_litC X [39, 115, 101, 108, 102, 39] selfW rfl, hX]; exact decide_eq_false h2
  have t3 : (X.toList == [42]) = false := by rw [beq_litC X [42] [42] rfl, hX]; exact decide_eq_false h3
  have t4 : (X.toList == [104, 116, 116, 112, 58]) = false := by rw [beq_litC X [104, 116, 116, 112, 58] (httpI ++ [58]) rfl, hX]; exact decide_eq_false h4
  have t5 : (X.toList == [104, 116, 116, 112, 115, 58]) = false := by rw [beq_litC X [104, 116, 116, 112, 115, 58] (httpsI ++ [58]) rfl, hX]; exact decide_eq_false h5
  have hpl := fun (w1 : World) (R1 : Blks) (h : Own w0 w1 R1) => creadplace_c hV h X (by have := congrArg List.length hX; rw [length_sb] at this; omega)
  rw [hX, place_is h4 h5] at hpl
  rw [hno] at hpl
  unfold GotPl at hpl
  simp only [Option.map_none, Option.getD_none, Option.isSome_none] at hpl
  simp only [PL.val_form] at hpl
  generalize strOfNums (PL.zero).sch = qs at *
  generalize strOfNums (PL.zero).host = qh at *
  generalize (PL.zero).under = qu at *
  generalize (PL.zero).port = qp at *
  unfold UL.val
  generalize strOfNums page.sch = ps at *
  generalize strOfNums page.host = ph at *
  generalize strOfNums page.path = px at *
  generalize strOfNums page.query = pq at *
  generalize page.port = pp at *
  generalize strOfNums u.sch = us at *
  generalize strOfNums u.host = uh at *
  generalize strOfNums u.path = ux at *
  generalize strOfNums u.query = uq at *
  generalize u.port = up at *
  have HP := Lib.hid hpl
  clear hpl
  have HO := Lib.hid hO; have HL := Lib.hid hlow
  clear hO hlow hlB hll hXe hX hV h1 h2 h3 h4 h5 hno
  go_enter Tryz.func9, Tryz.ntmps9
  go_wp2_with (first | (refine wl_box rfl _ _ rfl HO.out [Value.string ps, Value.string ph, Value.int .i64 pp, Value.string px, Value.string pq].toArray (by rfl) ?_; intro g1 w1 hO; have HO1 := Lib.hid hO; clear hO HO) | (refine wl_box rfl _ _ rfl HO1.out [Value.string us, Value.string uh, Value.int .i64 up, Value.string ux, Value.string uq].toArray (by rfl) ?_; intro g2 w2 hO; have HO2 := Lib.hid (hO.cast (L' := (g2, .cells [Value.string us, Value.string uh, Value.int .i64 up, Value.string ux, Value.string uq].toArray 24) :: (g1, .cells [Value.string ps, Value.string ph, Value.int .i64 pp, Value.string px, Value.string pq].toArray 24) :: R) rfl); clear hO HO1))
  with_reducible refine (HL.out _ _ HO2.out).mono ?_
  rintro e w3 ⟨rfl, hO⟩
  have HO3 := Lib.hid hO; clear hO HO2 HL
  go_wp2_with fail
  with_reducible refine (HP.out _ _ HO3.out).mono ?_
  rintro e w4 ⟨rfl, hO⟩
  have HO4 := Lib.hid hO; clear hO HO3 HP
  go_wp2_with (first | (refine wl_alloc rfl _ rfl HO4.out _ (alloc_pl _) ?_; intro g8 w5 hO; have HO4b := Lib.hid hO; clear hO HO4) | (refine wl_store rfl _ _ _ rfl HO4b.out 0 g8 0 _ [Value.string qs, Value.string qh, Value.bool qu, Value.int .i64 qp] _ rfl (by rfl) (by rfl) pl_size (one_p4 _ _ _ _) (by first | decide | simp [PL.val, PL.zero]) ?_; intro w6 hO; have HO5 := Lib.hid (hO.cast (L' := (g8, .cells [Value.string qs, Value.string qh, Value.bool qu, Value.int .i64 qp].toArray 50) :: (g2, .cells [Value.string us, Value.string uh, Value.int .i64 up, Value.string ux, Value.string uq].toArray 24) :: (g1, .cells [Value.string ps, Value.string ph, Value.int .i64 pp, Value.string px, Value.string pq].toArray 24) :: R) rfl); clear hO HO4b))
  go_ret
  exact ⟨rfl, HO5.out.tail.tail.tail⟩
set_option maxHeartbeats 8000000 in
theorem cmatch_good {w0 w : World} {R : Blks} (hV : VarsOk w0) (hO : Own w0 w R) (s : ByteArray) (hs : s.size ≤ 4000000) (page u : UL) (hp : page.Half) (hu : u.Half) (h1 : ¬ lowL (sb s) = noneW) (h2 : ¬ lowL (sb s) = selfW) (h3 : ¬ lowL (sb s) = [42]) (h4 : ¬ lowL (sb s) = httpI ++ [58]) (h5 : ¬ lowL (sb s) = httpsI ++ [58]) (x : SL) (hyes : sourceL (lowL (sb s)) = some x) :
    Calls Tryz.prog 9 #[.string s, .agg page.val.toArray, .agg u.val.toArray] w fun e w' => e = .returned (.bool (matchS x page u)) ∧ Own w0 w' R := by
  have hlow := fun (w1 : World) (R1 : Blks) (h : Own w0 w1 R1) => lower_c h s (by omega)
  have hlB : Byt (lowL (sb s)) := lowL_byt (byt_sb s)
  have hll : (lowL (sb s)).length ≤ 4000000 := by unfold lowL; rw [List.length_map, length_sb]; exact hs
  obtain ⟨X, hXe⟩ : ∃ X, strOfNums (lowL (sb s)) = X := ⟨_, rfl⟩
  have hX : sb X = lowL (sb s) := by rw [← hXe, sb_str hlB]
  rw [hXe] at hlow
  have t1 : (X.toList == [39, 110, 111, 110, 101, 39]) = false := by rw [beq_litC X [39, 110, 111, 110, 101, 39] noneW rfl, hX]; exact decide_eq_false h1
  have t2 : (X.toList == [39, 115, 101, 108, 102, 39]) = false := by rw [beq_litC X [39, 115, 101, 108, 102, 39] selfW rfl, hX]; exact decide_eq_false h2
  have t3 : (X.toList == [42]) = false := by rw [beq_litC X [42] [42] rfl, hX]; exact decide_eq_false h3
  have t4 : (X.toList == [104, 116, 116, 112, 58]) = false := by rw [beq_litC X [104, 116, 116, 112, 58] (httpI ++ [58]) rfl, hX]; exact decide_eq_false h4
  have t5 : (X.toList == [104, 116, 116, 112, 115, 58]) = false := by rw [beq_litC X [104, 116, 116, 112, 115, 58] (httpsI ++ [58]) rfl, hX]; exact decide_eq_false h5
  have hpl := fun (w1 : World) (R1 : Blks) (h : Own w0 w1 R1) => creadplace_c hV h X (by have := congrArg List.length hX; rw [length_sb] at this; omega)
  rw [hX, place_is h4 h5, hyes] at hpl
  obtain ⟨q1, q2, q3⟩ := source_some h4 h5 hyes
  have hqB : Byt x.pl.sch := by
    show Byt x.sch
    rcases q1 with e | e | e <;> rw [e]
    · exact fun y hy => by cases hy
    · exact http_byt
    · exact https_byt
  have hqh : Byt x.pl.host := fun y hy => by have := hostOk_hb q2 y hy; unfold HB at this; omega
  have hql : x.pl.host.length ≤ 100000000 := by have := q2.2.1; show (starI x.host).length ≤ _; omega
  have hul : u.host.length ≤ 100000000 := by have := hu.host.2.1; omega
  have hsc := fun (w1 : World) (R1 : Blks) (h : Own w0 w1 R1) => chassch_c h x.pl hqB page u hp.schB hu.schB
  have hho := fun (w1 : World) (R1 : Blks) (h : Own w0 w1 R1) => chashost_c h x.pl hqh hql u hu.hostB hul
  have hpo := fun (w1 : World) (R1 : Blks) (h : Own w0 w1 R1) => chasport_c h x.pl u hu.schB
  rw [match_place h4 h5 hyes page u hp.sch]
  unfold GotPl at hpl
  simp only [Option.map_some, Option.getD_some, Option.isSome_some] at hpl
  generalize x.pl.hasSch page u = a1 at *
  generalize x.pl.hasHost u = a2 at *
  generalize x.pl.hasPort u = a3 at *
  simp only [PL.val_form, UL.val] at hpl hsc hho hpo ⊢
  clear q1 q2 q3 hqB hqh hql hul
  generalize strOfNums x.pl.sch = qs at *
  generalize strOfNums x.pl.host = qh at *
  generalize x.pl.under = qu at *
  generalize x.pl.port = qp at *
  generalize strOfNums page.sch = ps at *
  generalize strOfNums page.host = ph at *
  generalize strOfNums page.path = px at *
  generalize strOfNums page.query = pq at *
  generalize page.port = pp at *
  generalize strOfNums u.sch = us at *
  generalize strOfNums u.host = uh at *
  generalize strOfNums u.path = ux at *
  generalize strOfNums u.query = uq at *
  generalize u.port = up at *
  have HP := Lib.hid hpl; have HA := Lib.hid hsc; have HB := Lib.hid hho; have HC := Lib.hid hpo
  clear hpl hsc hho hpo
  have HO := Lib.hid hO; have HL := Lib.hid hlow
  clear hO hlow hlB hll hXe hX hV h1 h2 h3 h4 h5 hyes hp hu
  go_enter Tryz.func9, Tryz.ntmps9
  go_wp2_with (first | (refine wl_box rfl _ _ rfl HO.out [Value.string ps, Value.string ph, Value.int .i64 pp, Value.string px, Value.string pq].toArray (by rfl) ?_; intro g1 w1 hO; have HO1 := Lib.hid hO; clear hO HO) | (refine wl_box rfl _ _ rfl HO1.out [Value.string us, Value.string uh, Value.int .i64 up, Value.string ux, Value.string uq].toArray (by rfl) ?_; intro g2 w2 hO; have HO2 := Lib.hid (hO.cast (L' := (g2, .cells [Value.string us, Value.string uh, Value.int .i64 up, Value.string ux, Value.string uq].toArray 24) :: (g1, .cells [Value.string ps, Value.string ph, Value.int .i64 pp, Value.string px, Value.string pq].toArray 24) :: R) rfl); clear hO HO1))
  with_reducible refine (HL.out _ _ HO2.out).mono ?_
  rintro e w3 ⟨rfl, hO⟩
  have HO3 := Lib.hid hO; clear hO HO2 HL
  go_wp2_with fail
  with_reducible refine (HP.out _ _ HO3.out).mono ?_
  rintro e w4 ⟨rfl, hO⟩
  have HO4 := Lib.hid hO; clear hO HO3 HP
  cases a1 with
  | false =>
    go_wp2_with (first | (refine wl_alloc rfl _ rfl HO4.out _ (alloc_pl _) ?_; intro g8 w5 hO; have HO4b := Lib.hid hO; clear hO HO4) | (refine wl_store rfl _ _ _ rfl HO4b.out 0 g8 0 _ [Value.string qs, Value.string qh, Value.bool qu, Value.int .i64 qp] _ rfl (by rfl) (by rfl) pl_size (one_p4 _ _ _ _) (by first | decide | simp [PL.val, PL.zero]) ?_; intro w6 hO; have HO5 := Lib.hid (hO.cast (L' := (g8, .cells [Value.string qs, Value.string qh, Value.bool qu, Value.int .i64 qp].toArray 50) :: (g2, .cells [Value.string us, Value.string uh, Value.int .i64 up, Value.string ux, Value.string uq].toArray 24) :: (g1, .cells [Value.string ps, Value.string ph, Value.int .i64 pp, Value.string px, Value.string pq].toArray 24) :: R) rfl); clear hO HO4b) | (refine wl_g (by rfl) ?_; refine wl_load rfl _ _ rfl g8 0 [Value.string qs, Value.string qh, Value.bool qu, Value.int .i64 qp] [Value.string qs, Value.string qh, Value.bool qu, Value.int .i64 qp] _ (HO5.out.heap (.head _)) (by rfl) _ Tryz.underlying50 rfl pl_size (by rfl) ?_) | (refine wl_g (by rfl) ?_; refine wl_load rfl _ _ rfl g2 0 [Value.string us, Value.string uh, Value.int .i64 up, Value.string ux, Value.string uq] [Value.string us, Value.string uh, Value.int .i64 up, Value.string ux, Value.string uq] _ (HO5.out.heap (.tail _ (.head _))) (by rfl) _ Tryz.underlying24 rfl url_size (by rfl) ?_) | (refine wl_g (by rfl) ?_; refine wl_load rfl _ _ rfl g1 0 [Value.string ps, Value.string ph, Value.int .i64 pp, Value.string px, Value.string pq] [Value.string ps, Value.string ph, Value.int .i64 pp, Value.string px, Value.string pq] _ (HO5.out.heap (.tail _ (.tail _ (.head _)))) (by rfl) _ Tryz.underlying24 rfl url_size (by rfl) ?_))
    with_reducible refine (HA.out _ _ HO5.out).mono ?_
    rintro e w7 ⟨rfl, hO⟩
    have HO6 := Lib.hid hO; clear hO HO5
    go_wp2
    go_ret
    exact ⟨rfl, HO6.out.tail.tail.tail⟩
  | true =>
    cases a2 with
    | false =>
      go_wp2_with (first | (refine wl_alloc rfl _ rfl HO4.out _ (alloc_pl _) ?_; intro g8 w5 hO; have HO4b := Lib.hid hO; clear hO HO4) | (refine wl_store rfl _ _ _ rfl HO4b.out 0 g8 0 _ [Value.string qs, Value.string qh, Value.bool qu, Value.int .i64 qp] _ rfl (by rfl) (by rfl) pl_size (one_p4 _ _ _ _) (by first | decide | simp [PL.val, PL.zero]) ?_; intro w6 hO; have HO5 := Lib.hid (hO.cast (L' := (g8, .cells [Value.string qs, Value.string qh, Value.bool qu, Value.int .i64 qp].toArray 50) :: (g2, .cells [Value.string us, Value.string uh, Value.int .i64 up, Value.string ux, Value.string uq].toArray 24) :: (g1, .cells [Value.string ps, Value.string ph, Value.int .i64 pp, Value.string px, Value.string pq].toArray 24) :: R) rfl); clear hO HO4b) | (refine wl_g (by rfl) ?_; refine wl_load rfl _ _ rfl g8 0 [Value.string qs, Value.string qh, Value.bool qu, Value.int .i64 qp] [Value.string qs, Value.string qh, Value.bool qu, Value.int .i64 qp] _ (HO5.out.heap (.head _)) (by rfl) _ Tryz.underlying50 rfl pl_size (by rfl) ?_) | (refine wl_g (by rfl) ?_; refine wl_load rfl _ _ rfl g2 0 [Value.string us, Value.string uh, Value.int .i64 up, Value.string ux, Value.string uq] [Value.string us, Value.string uh, Value.int .i64 up, Value.string ux, Value.string uq] _ (HO5.out.heap (.tail _ (.head _))) (by rfl) _ Tryz.underlying24 rfl url_size (by rfl) ?_) | (refine wl_g (by rfl) ?_; refine wl_load rfl _ _ rfl g1 0 [Value.string ps, Value.string ph, Value.int .i64 pp, Value.string px, Value.string pq] [Value.string ps, Value.string ph, Value.int .i64 pp, Value.string px, Value.string pq] _ (HO5.out.heap (.tail _ (.tail _ (.head _)))) (by rfl) _ Tryz.underlying24 rfl url_size (by rfl) ?_))
      with_reducible refine (HA.out _ _ HO5.out).mono ?_
      rintro e w7 ⟨rfl, hO⟩
      have HO6 := Lib.hid hO; clear hO HO5
      go_wp2_with (first | (refine wl_g (by rfl) ?_; refine wl_load rfl _ _ rfl g8 0 [Value.string qs, Value.string qh, Value.bool qu, Value.int .i64 qp] [Value.string qs, Value.string qh, Value.bool qu, Value.int .i64 qp] _ (HO6.out.heap (.head _)) (by rfl) _ Tryz.underlying50 rfl pl_size (by rfl) ?_) | (refine wl_g (by rfl) ?_; refine wl_load rfl _ _ rfl g2 0 [Value.string us, Value.string uh, Value.int .i64 up, Value.string ux, Value.string uq] [Value.string us, Value.string uh, Value.int .i64 up, Value.string ux, Value.string uq] _ (HO6.out.heap (.tail _ (.head _))) (by rfl) _ Tryz.underlying24 rfl url_size (by rfl) ?_) | (refine wl_g (by rfl) ?_; refine wl_load rfl _ _ rfl g1 0 [Value.string ps, Value.string ph, Value.int .i64 pp, Value.string px, Value.string pq] [Value.string ps, Value.string ph, Value.int .i64 pp, Value.string px, Value.string pq] _ (HO6.out.heap (.tail _ (.tail _ (.head _)))) (by rfl) _ Tryz.underlying24 rfl url_size (by rfl) ?_))
      with_reducible refine (HB.out _ _ HO6.out).mono ?_
      rintro e w8 ⟨rfl, hO⟩
      have HO7 := Lib.hid hO; clear hO HO6
      go_wp2
      go_ret
      exact ⟨rfl, HO7.out.tail.tail.tail⟩
    | true =>
      go_wp2_with (first | (refine wl_alloc rfl _ rfl HO4.out _ (alloc_pl _) ?_; intro g8 w5 hO; have HO4b := Lib.hid hO; clear hO HO4) | (refine wl_store rfl _ _ _ rfl HO4b.out 0 g8 0 _ [Value.string qs, Value.string qh, Value.bool qu, Value.int .i64 qp] _ rfl (by rfl) (by rfl) pl_size (one_p4 _ _ _ _) (by first | decide | simp [PL.val, PL.zero]) ?_; intro w6 hO; have HO5 := Lib.hid (hO.cast (L' := (g8, .cells [Value.string qs, Value.string qh, Value.bool qu, Value.int .i64 qp].toArray 50) :: (g2, .cells [Value.string us, Value.string uh, Value.int .i64 up, Value.string ux, Value.string uq].toArray 24) :: (g1, .cells [Value.string ps, Value.string ph, Value.int .i64 pp, Value.string px, Value.string pq].toArray 24) :: R) rfl); clear hO HO4b) | (refine wl_g (by rfl) ?_; refine wl_load rfl _ _ rfl g8 0 [Value.string qs, Value.string qh, Value.bool qu, Value.int .i64 qp] [Value.string qs, Value.string qh, Value.bool qu, Value.int .i64 qp] _ (HO5.out.heap (.head _)) (by rfl) _ Tryz.underlying50 rfl pl_size (by rfl) ?_) | (refine wl_g (by rfl) ?_; refine wl_load rfl _ _ rfl g2 0 [Value.string us, Value.string uh, Value.int .i64 up, Value.string ux, Value.string uq] [Value.string us, Value.string uh, Value.int .i64 up, Value.string ux, Value.string uq] _ (HO5.out.heap (.tail _ (.head _))) (by rfl) _ Tryz.underlying24 rfl url_size (by rfl) ?_) | (refine wl_g (by rfl) ?_; refine wl_load rfl _ _ rfl g1 0 [Value.string ps, Value.string ph, Value.int .i64 pp, Value.string px, Value.string pq] [Value.string ps, Value.string ph, Value.int .i64 pp, Value.string px, Value.string pq] _ (HO5.out.heap (.tail _ (.tail _ (.head _)))) (by rfl) _ Tryz.underlying24 rfl url_size (by rfl) ?_))
      with_reducible refine (HA.out _ _ HO5.out).mono ?_
      rintro e w7 ⟨rfl, hO⟩
      have HO6 := Lib.hid hO; clear hO HO5
      go_wp2_with (first | (refine wl_g (by rfl) ?_; refine wl_load rfl _ _ rfl g8 0 [Value.string qs, Value.string qh, Value.bool qu, Value.int .i64 qp] [Value.string qs, Value.string qh, Value.bool qu, Value.int .i64 qp] _ (HO6.out.heap (.head _)) (by rfl) _ Tryz.underlying50 rfl pl_size (by rfl) ?_) | (refine wl_g (by rfl) ?_; refine wl_load rfl _ _ rfl g2 0 [Value.string us, Value.string uh, Value.int .i64 up, Value.string ux, Value.string uq] [Value.string us, Value.string uh, Value.int .i64 up, Value.string ux, Value.string uq] _ (HO6.out.heap (.tail _ (.head _))) (by rfl) _ Tryz.underlying24 rfl url_size (by rfl) ?_) | (refine wl_g (by rfl) ?_; refine wl_load rfl _ _ rfl g1 0 [Value.string ps, Value.string ph, Value.int .i64 pp, Value.string px, Value.string pq] [Value.string ps, Value.string ph, Value.int .i64 pp, Value.string px, Value.string pq] _ (HO6.out.heap (.tail _ (.tail _ (.head _)))) (by rfl) _ Tryz.underlying24 rfl url_size (by rfl) ?_))
      with_reducible refine (HB.out _ _ HO6.out).mono ?_
      rintro e w8 ⟨rfl, hO⟩
      have HO7 := Lib.hid hO; clear hO HO6
      go_wp2_with (first | (refine wl_g (by rfl) ?_; refine wl_load rfl _ _ rfl g8 0 [Value.string qs, Value.string qh, Value.bool qu, Value.int .i64 qp] [Value.string qs, Value.string qh, Value.bool qu, Value.int .i64 qp] _ (HO7.out.heap (.head _)) (by rfl) _ Tryz.underlying50 rfl pl_size (by rfl) ?_) | (refine wl_g (by rfl) ?_; refine wl_load rfl _ _ rfl g2 0 [Value.string us, Value.string uh, Value.int .i64 up, Value.string ux, Value.string uq] [Value.string us, Value.string uh, Value.int .i64 up, Value.string ux, Value.string uq] _ (HO7.out.heap (.tail _ (.head _))) (by rfl) _ Tryz.underlying24 rfl url_size (by rfl) ?_) | (refine wl_g (by rfl) ?_; refine wl_load rfl _ _ rfl g1 0 [Value.string ps, Value.string ph, Value.int .i64 pp, Value.string px, Value.string pq] [Value.string ps, Value.string ph, Value.int .i64 pp, Value.string px, Value.string pq] _ (HO7.out.heap (.tail _ (.tail _ (.head _)))) (by rfl) _ Tryz.underlying24 rfl url_size (by rfl) ?_))
      with_reducible refine (HC.out _ _ HO7.out).mono ?_
      rintro e w9 ⟨rfl, hO⟩
      have HO8 := Lib.hid hO; clear hO HO7
      go_wp2
      go_ret
      exact ⟨rfl, HO8.out.tail.tail.tail⟩
theorem src_none : sourceL noneW = none := by decide +kernel
theorem cmatch_c {w0 w : World} {R : Blks} (hV : VarsOk w0) (hO : Own w0 w R) (s : ByteArray) (hs : s.size ≤ 4000000) (page u : UL) (hp : page.Half) (hu : u.Half) :
    Calls Tryz.prog 9 #[.string s, .agg page.val.toArray, .agg u.val.toArray] w fun e w' => e = .returned (.bool (matchI (sb s) page u)) ∧ Own w0 w' R := by
  have hm : matchI (sb s) page u = if lowL (sb s) = selfW then decide (originI page = originI u) else if lowL (sb s) = [42] then true else match sourceL (lowL (sb s)) with
    | none => false
    | some x => matchS x page u := rfl
  rw [hm]
  by_cases h1 : lowL (sb s) = noneW
  · rw [h1, if_neg (by decide), if_neg (by decide), src_none]
    exact cmatch_none hV hO s hs page u h1
  by_cases h2 : lowL (sb s) = selfW
  · rw [if_pos h2]
    exact cmatch_self hV hO s hs page u hp hu h2
  rw [if_neg h2]
  by_cases h3 : lowL (sb s) = [42]
  · rw [if_pos h3]
    exact cmatch_star hV hO s hs page u h3
  rw [if_neg h3]
  by_cases h4 : lowL (sb s) = httpI ++ [58]
  · rw [h4, src_http]
    exact cmatch_http hV hO s hs page u hu h4
  by_cases h5 : lowL (sb s) = httpsI ++ [58]
  · rw [h5, src_https]
    exact cmatch_https hV hO s hs page u hu h5
  cases hx : sourceL (lowL (sb s)) with
  | none => exact cmatch_bad hV hO s hs page u h1 h2 h3 h4 h5 hx
  | some x => exact cmatch_good hV hO s hs page u hp hu h1 h2 h3 h4 h5 x hx
theorem cstar_c {w0 w : World} {R : Blks} (hV : VarsOk w0) (hO : Own w0 w R) :
    Calls Tryz.prog 9 #[.string ⟨#[42]⟩, .agg UL.zero.val.toArray, .agg UL.zero.val.toArray] w fun e w' => e = .returned (.bool true) ∧ Own w0 w' R :=
  cmatch_star hV hO ⟨#[42]⟩ (by decide) UL.zero UL.zero rfl
set_option maxRecDepth 100000 in
set_option maxHeartbeats 16000000 in
theorem callows_c {w0 w : World} {R : Blks} (hV : VarsOk w0) (hO : Own w0 w R) (s : ByteArray) (hs : s.size ≤ 4000000) (page u : UL) (hp : page.Half) (hu : u.Half) :
    Calls Tryz.prog 11 #[.string s, .agg page.val.toArray, .agg u.val.toArray] w fun e w' => e = .returned (.bool (allowsI (sb s) page u)) ∧ Own w0 w' R := by
  have hwd := fun (w1 : World) (R1 : Blks) (h : Own w0 w1 R1) => csplit_c h s (by omega)
  have hwB := wordsI_byt (byt_sb s)
  have hwl := wordsF_len (sb s) []
  rw [length_sb] at hwl
  obtain ⟨ans, hans⟩ : ∃ ans, allowsI (sb s) page u = ans := ⟨_, rfl⟩
  rw [hans]
  unfold allowsI at hans
  unfold wordsI at hwd hwB hans
  generalize wordsF [] (sb s) = W at *
  have hm := fun (w1 : World) (R1 : Blks) (h : Own w0 w1 R1) (x : List Int) (hx : Byt x) (hl : x.length ≤ 4000000) => cmatch_c hV h (strOfNums x) (by rw [strOfNums_size]; omega) page u hp hu
  have hm2 := fun (w1 : World) (R1 : Blks) (h : Own w0 w1 R1) (x : List Int) (hx : Byt x) (hl : x.length ≤ 4000000) => (hm w1 R1 h x hx hl).mono (fun e w' hq => by rw [sb_str hx] at hq; exact hq)
  clear hm
  simp only [UL.val] at hm2 ⊢
  generalize strOfNums page.sch = ps at *
  generalize strOfNums page.host = ph at *
  generalize strOfNums page.path = px at *
  generalize strOfNums page.query = pq at *
  generalize page.port = pp at *
  generalize strOfNums u.sch = us at *
  generalize strOfNums u.host = uh at *
  generalize strOfNums u.path = ux at *
  generalize strOfNums u.query = uq at *
  generalize u.port = up at *
  have HWD := Lib.hid hwd; have HWB := Lib.hid hwB; have HM := Lib.hid hm2; have HANS := Lib.hid hans
  have HWL : Hid (∀ x ∈ W, x.length ≤ 4000000) := Lib.hid (fun x hx => by have := (hwl.2 x hx).2.1; simp at this; omega)
  have hN : W.length ≤ 4000001 := by omega
  have HO := Lib.hid hO
  clear hwd hwB hm2 hans hwl hO hp hu hs
  go_enter Tryz.func11, Tryz.ntmps11
  go_wp2_with (first | (refine wl_box rfl _ _ rfl HO.out [Value.string ps, Value.string ph, Value.int .i64 pp, Value.string px, Value.string pq].toArray (by rfl) ?_; intro g1 w1 hO; have HO1 := Lib.hid hO; clear hO HO) | (refine wl_box rfl _ _ rfl HO1.out [Value.string us, Value.string uh, Value.int .i64 up, Value.string ux, Value.string uq].toArray (by rfl) ?_; intro g2 w2 hO; have HO2 := Lib.hid (hO.cast (L' := (g2, .cells [Value.string us, Value.string uh, Value.int .i64 up, Value.string ux, Value.string uq].toArray 24) :: (g1, .cells [Value.string ps, Value.string ph, Value.int .i64 pp, Value.string px, Value.string pq].toArray 24) :: R) rfl); clear hO HO1))
  with_reducible refine (HWD.out _ _ HO2.out).mono ?_
  rintro e w3 ⟨v, L, rfl, hv, hO⟩
  have HO3 := Lib.hid hO; clear hO HO2 HWD
  obtain ⟨A, c, hve, hcc, hcells⟩ := hv.form
  rw [List.length_map] at hve hcc hcells
  subst hve
  obtain ⟨N, hNe⟩ : ∃ N, W.length = N := ⟨_, rfl⟩
  rw [hNe] at hN hcc hcells ⊢
  have HC := Lib.hid hcells; have HNE := Lib.hid hNe
  clear hv hcells hNe
  go_wp2
  go_loopw [14] (fun t w' => ∃ k : Nat, k ≤ N ∧ t = .int .i64 k ∧ Hid (∀ x ∈ W.take k, matchI x page u = false) ∧ Hid (Own w0 w' (L ++ ((g2, .cells [Value.string us, Value.string uh, Value.int .i64 up, Value.string ux, Value.string uq].toArray 24) :: (g1, .cells [Value.string ps, Value.string ph, Value.int .i64 pp, Value.string px, Value.string pq].toArray 24) :: R)))) (fun t _ => N - (intOf t).toNat)
  case atStart => exact ⟨0, Nat.zero_le _, rfl, Lib.hid (fun x hx => by rw [List.take_zero] at hx; cases hx), HO3⟩
  case round =>
    obtain ⟨k, hk, rfl, HS, HO4⟩ := hrel
    clear HO3
    by_cases hlt : k < N
    · have hkn : (k : Int) < N := by omega
      have hkl : k < W.length := by rw [HNE.out]; exact hlt
      obtain ⟨g, rfl, hcell⟩ := HC.out (by omega)
      have hc := hcell _ _ _ HO4.out k _ (words_at hkl)
      have htk := words_take hkl
      have hmem := words_mem hkl
      generalize W.getD k [] = x at *
      have hmc := fun (w1 : World) (R1 : Blks) (h : Own w0 w1 R1) => HM.out w1 R1 h x (HWB.out x hmem) (HWL.out x hmem)
      cases hmx : matchI x page u with
      | true =>
        have HE : Hid (ans = true) := Lib.hid (by rw [← HANS.out, Bool.or_eq_true]; exact .inl (List.any_eq_true.2 ⟨x, hmem, hmx⟩))
        rw [hmx] at hmc
        have HMC := Lib.hid hmc
        clear hmx hmc hcell htk hmem hkl
        go_wp2_with (first | (refine wl_load rfl _ _ rfl g1 0 [Value.string ps, Value.string ph, Value.int .i64 pp, Value.string px, Value.string pq] [Value.string ps, Value.string ph, Value.int .i64 pp, Value.string px, Value.string pq] _ (HO4.out.heap (List.mem_append_right _ (.tail _ (.head _)))) (by rfl) _ Tryz.underlying24 rfl url_size (by rfl) ?_) | (refine wl_load rfl _ _ rfl g2 0 [Value.string us, Value.string uh, Value.int .i64 up, Value.string ux, Value.string uq] [Value.string us, Value.string uh, Value.int .i64 up, Value.string ux, Value.string uq] _ (HO4.out.heap (List.mem_append_right _ (.head _))) (by rfl) _ Tryz.underlying24 rfl url_size (by rfl) ?_))
        with_reducible refine (HMC.out _ _ HO4.out).mono ?_
        rintro e w5 ⟨rfl, hO⟩
        have HO5 := Lib.hid hO; clear hO HO4 hc
        go_wp2
        go_ret
        exact ⟨by rw [HE.out]; rfl, HO5.out.right.tail.tail⟩
      | false =>
        have HS2 : Hid (∀ y ∈ W.take (k + 1), matchI y page u = false) := Lib.hid (by
          rw [htk]
          intro y hy
          rcases List.mem_append.1 hy with hy | hy
          · exact HS.out y hy
          · rw [List.mem_singleton.1 hy]; exact hmx)
        rw [hmx] at hmc
        have HMC := Lib.hid hmc
        clear hmx hmc hcell htk hmem hkl HS
        go_wp2_with (first | (refine wl_load rfl _ _ rfl g1 0 [Value.string ps, Value.string ph, Value.int .i64 pp, Value.string px, Value.string pq] [Value.string ps, Value.string ph, Value.int .i64 pp, Value.string px, Value.string pq] _ (HO4.out.heap (List.mem_append_right _ (.tail _ (.head _)))) (by rfl) _ Tryz.underlying24 rfl url_size (by rfl) ?_) | (refine wl_load rfl _ _ rfl g2 0 [Value.string us, Value.string uh, Value.int .i64 up, Value.string ux, Value.string uq] [Value.string us, Value.string uh, Value.int .i64 up, Value.string ux, Value.string uq] _ (HO4.out.heap (List.mem_append_right _ (.head _))) (by rfl) _ Tryz.underlying24 rfl url_size (by rfl) ?_))
        with_reducible refine (HMC.out _ _ HO4.out).mono ?_
        rintro e w5 ⟨rfl, hO⟩
        have HO5 := Lib.hid hO; clear hO HO4 hc
        go_wp2
        go_roundw
        case rel => exact ⟨k + 1, by omega, by go_num, HS2, HO5⟩
        case measure => simp [intOf]; omega
    · obtain rfl : k = N := by omega
      have hkn : ¬ (k : Int) < k := by omega
      have hall := HS.out
      rw [List.take_of_length_le (by rw [HNE.out]; exact Nat.le_refl _)] at hall
      have HE : Hid (ans = ((k : Int) == 0)) := Lib.hid (by
        rw [← HANS.out]
        have h1 : W.any (fun w => matchI w page u) = false := by
          rw [List.any_eq_false]; intro y hy; rw [hall y hy]; simp
        rw [h1, Bool.false_or, Bool.eq_iff_iff, decide_eq_true_iff, beq_iff_eq, ← List.length_eq_zero_iff, HNE.out]
        omega)
      clear hall HS
      go_wp2
      go_ret
      exact ⟨by rw [HE.out]; first | rfl | simp, HO4.out.right.tail.tail⟩
end Go.Proofs.YtfgaikacijdodaaGreatDoor
/-
  What the laws of chapter 11 share: wakes.
-/
namespace Go.Proofs.YtfgaikacijdodaaGreatDoor
set_option linter.unusedVariables false
set_option linter.unusedSimpArgs false
set_option maxRecDepth 20000
open Go.RowKit

theorem self_ok : checkI (sb ⟨#[39, 115, 101, 108, 102, 39]⟩) = true := by decide +kernel
set_option maxHeartbeats 2000000 in
theorem wakes11_c {w0 w : World} {R : Blks} (hV : VarsOk w0) (hO : Own w0 w R) : Calls Tryz.prog 13 #[] w fun e w' => e = .returned (.bool true) ∧ Own w0 w' R := by
  have hs := fun (w1 : World) (R1 : Blks) (h : Own w0 w1 R1) => cstar_c hV h
  have hc := fun (w1 : World) (R1 : Blks) (h : Own w0 w1 R1) => ccheck_c hV h ⟨#[39, 115, 101, 108, 102, 39]⟩ (by decide)
  rw [self_ok] at hc
  have hz : (Value.agg UL.zero.val.toArray) = .agg #[.string ⟨#[]⟩, .string ⟨#[]⟩, .int .i64 0, .string ⟨#[]⟩, .string ⟨#[]⟩] := rfl
  simp only [hz] at hs
  clear hz
  have HS := Lib.hid hs; have HC := Lib.hid hc; have HO := Lib.hid hO
  clear hs hc hO hV
  go_enter Tryz.func13, Tryz.ntmps13
  go_wp2_with fail
  with_reducible refine (HS.out _ _ HO.out).mono ?_
  rintro e w1 ⟨rfl, hO⟩
  have HO1 := Lib.hid hO; clear hO HO HS
  go_wp2_with fail
  with_reducible refine (HC.out _ _ HO1.out).mono ?_
  rintro e w2 ⟨rfl, hO⟩
  have HO2 := Lib.hid hO; clear hO HO1 HC
  rw [show errC true = 0 from rfl]
  go_wp2
  go_ret
  exact ⟨rfl, HO2.out⟩
end Go.Proofs.YtfgaikacijdodaaGreatDoor
/-
  The statements' own makers of URLs: at, URL, Odd.
-/
namespace Go.Proofs.YtfgaikacijdodaaGreatDoor
set_option linter.unusedVariables false
set_option linter.unusedSimpArgs false
set_option maxRecDepth 20000
open Go.RowKit

def urlB : List ByteArray := [⟨#[104, 116, 116, 112, 58, 47, 47, 97, 46, 98, 47]⟩, ⟨#[104, 116, 116, 112, 115, 58, 47, 47, 97, 46, 98, 47]⟩, ⟨#[104, 116, 116, 112, 115, 58, 47, 47, 97, 46, 98, 47, 120]⟩, ⟨#[104, 116, 116, 112, 58, 47, 47, 97, 46, 98, 47, 120]⟩, ⟨#[104, 116, 116, 112, 115, 58, 47, 47, 99, 46, 100, 47]⟩, ⟨#[104, 116, 116, 112, 115, 58, 47, 47, 99, 46, 100, 47, 112, 63, 113]⟩, ⟨#[104, 116, 116, 112, 115, 58, 47, 47, 99, 46, 100, 58, 56, 47]⟩, ⟨#[104, 116, 116, 112, 58, 47, 47, 99, 46, 100, 47]⟩, ⟨#[104, 116, 116, 112, 115, 58, 47, 47, 115, 46, 99, 46, 100, 47, 121]⟩, ⟨#[104, 116, 116, 112, 58, 47, 47, 108, 111, 99, 97, 108, 104, 111, 115, 116, 47, 108]⟩, ⟨#[104, 116, 116, 112, 115, 58, 47, 47, 97, 46, 98, 47, 122]⟩, ⟨#[104, 116, 116, 112, 115, 58, 47, 47, 97, 46, 98, 58, 56, 47]⟩]
theorem urlB_size : ∀ s ∈ urlB, s.size ≤ 20 := by decide
def oddB : List ByteArray := [⟨#[]⟩, ⟨#[97, 46, 98]⟩, ⟨#[47, 120]⟩, ⟨#[47, 47, 99, 46, 100, 47, 120]⟩, ⟨#[104, 116, 116, 112, 58, 47, 97, 46, 98]⟩, ⟨#[104, 116, 116, 112, 58, 47, 47]⟩, ⟨#[72, 84, 84, 80, 58, 47, 47, 65, 46, 66, 58, 56, 48, 47, 120]⟩, ⟨#[104, 116, 116, 112, 115, 58, 47, 47, 97, 46, 98, 58, 52, 52, 51]⟩, ⟨#[104, 116, 116, 112, 58, 47, 47, 97, 46, 98, 58, 52, 52, 51]⟩, ⟨#[104, 116, 116, 112, 58, 47, 47, 97, 46, 98, 58, 57, 57, 57, 57, 57]⟩, ⟨#[104, 116, 116, 112, 58, 47, 47, 97, 46, 98, 58]⟩, ⟨#[104, 116, 116, 112, 58, 47, 47, 97, 46, 98, 58, 48, 47]⟩, ⟨#[104, 116, 116, 112, 58, 47, 47, 97, 46, 46, 98, 47]⟩, ⟨#[104, 116, 116, 112, 58, 47, 47, 46, 97, 47]⟩, ⟨#[104, 116, 116, 112, 58, 47, 47, 97, 46, 47]⟩, ⟨#[104, 116, 116, 112, 58, 47, 47, 97, 95, 98, 47]⟩, ⟨#[104, 116, 116, 112, 58, 47, 47, 117, 64, 97, 46, 98, 47]⟩, ⟨#[32, 104, 116, 116, 112, 58, 47, 47, 97, 46, 98, 47, 195, 169, 32]⟩, ⟨#[104, 116, 116, 112, 58, 47, 47, 97, 46, 98, 47, 37, 122, 122]⟩, ⟨#[104, 116, 116, 112, 58, 47, 47, 97, 46, 98, 47, 97, 32, 98, 63, 99, 32, 100, 35, 101]⟩, ⟨#[104, 116, 116, 112, 58, 47, 47, 97, 46, 98, 63, 120]⟩, ⟨#[104, 116, 116, 112, 58, 47, 47, 97, 46, 98, 35, 102]⟩, ⟨#[104, 116, 116, 112, 58, 47, 47, 97, 46, 98, 47, 46, 47, 97, 47, 46, 46, 47, 98, 47, 46]⟩, ⟨#[104, 116, 116, 112, 58, 47, 47, 97, 46, 98, 47, 46, 46]⟩, ⟨#[104, 116, 116, 112, 58, 47, 47, 97, 46, 98, 47, 47, 46, 46]⟩, ⟨#[104, 116, 116, 112, 58, 47, 47, 97, 46, 98, 47, 97, 47, 47, 46, 46]⟩, ⟨#[102, 116, 112, 58, 47, 47, 97, 46, 98, 47]⟩, ⟨#[104, 116, 116, 112, 115, 58, 47, 47, 97, 98, 99, 100, 101, 102, 103, 104, 105, 106, 107, 108, 109, 110, 111, 112, 113, 114, 115, 116, 117, 47]⟩, ⟨#[104, 116, 116, 112, 115, 58, 47, 47, 97, 46, 98, 47, 48, 49, 50, 51, 52, 53, 54, 55, 56, 57, 48, 49, 50, 51, 52, 53, 54, 55, 56, 57, 48, 49, 50, 51, 52, 53, 54, 55]⟩, ⟨#[104, 116, 116, 112, 58, 47, 47, 97, 46, 98, 47, 48, 49, 50, 51, 52, 53, 54, 55, 56, 57, 48, 49, 50, 51, 52, 53, 54, 55, 56, 57, 48, 49, 50, 51, 52, 53, 54, 55, 56, 57, 48, 49]⟩, ⟨#[104, 116, 116, 112, 58, 47, 47, 97, 46, 98, 47, 63]⟩, ⟨#[104, 116, 116, 112, 58, 47, 47, 97, 46, 98, 47, 63, 63]⟩, ⟨#[104, 116, 116, 112, 58, 47, 47, 97, 46, 98, 47, 97, 63, 98, 47, 46, 46, 47, 99]⟩, ⟨#[104, 116, 116, 112, 115, 58, 47, 47, 99, 46, 100, 47, 46, 46, 47, 46, 46, 47, 47, 120]⟩]
theorem oddB_size : ∀ s ∈ oddB, s.size ≤ 60 := by decide
set_option maxHeartbeats 2000000 in
theorem qat_c {w : World} (n : Int) (v : Value) (ss : List ByteArray) (hV : Vs w v (sv ss)) (h0 : 0 < ss.length) (h1 : ss.length ≤ 1000) :
    Calls Tryz.prog 18 #[.int .i64 n, v] w fun e w' => (∃ s, s ∈ ss ∧ e = .returned (.string s)) ∧ w = w' := by
  obtain ⟨A, m, c, rfl, hm, hmc, hA⟩ := hV
  rw [length_sv] at hm
  obtain ⟨ad, rfl, hcell⟩ := hA (by omega)
  have q1 := within_n (w := w) n m (by omega) (by omega)
  have hj : (n % (m : Int)).toNat < m := by
    have h2 := Int.emod_lt_of_pos n (show (0 : Int) < m by omega)
    omega
  generalize (n % (m : Int)).toNat = j at *
  have hjs : j < ss.length := by omega
  have hc := hcell j (.string ss[j]) (by unfold sv; rw [List.getElem?_map, List.getElem?_eq_getElem hjs]; rfl)
  have hmem : ss[j] ∈ ss := List.getElem_mem hjs
  generalize ss[j] = s at *
  have HM := Lib.hid hmem
  have hjI : (j : Int) < m := by omega
  clear hcell hA hmem hjs hm h0 h1
  go_enter Tryz.func18, Tryz.ntmps18
  go_wp2_with fail
  with_reducible refine q1.mono ?_
  clear q1
  rintro e wq ⟨rfl, hww⟩
  subst hww
  go_wp2
  go_ret
  exact ⟨⟨s, HM.out, rfl⟩, rfl⟩
set_option maxHeartbeats 2000000 in
theorem qurl_c {w0 w : World} {R : Blks} (hO : Own w0 w R) (n : Int) :
    Calls Tryz.prog 6 #[.int .i64 n] w fun e w' => ∃ s, e = .returned (.string s) ∧ s.size ≤ 20 ∧ Own w0 w' R := by
  have HO := Lib.hid hO
  clear hO
  go_enter Tryz.func6, Tryz.ntmps6
  go_wp2_with fail
  generalize hwx : w.alloc _ = w2
  have hO2 : Own w0 w2 ((w.heap.size, .cells (sv urlB).toArray 9) :: R) := by rw [← hwx]; exact HO.out.alloc _
  have hvs : Vs w2 (.slice (some ⟨w.heap.size, 0, none⟩) 12 12) (sv urlB) := by rw [← hwx]; exact vs_new _ 12 rfl
  have HO2 := Lib.hid hO2
  have hat := qat_c n _ urlB hvs (by decide) (by decide)
  clear hwx hO2 HO hvs
  with_reducible refine hat.mono ?_
  clear hat
  rintro e w3 ⟨⟨s, hs, rfl⟩, hww⟩
  subst hww
  have HS := Lib.hid (urlB_size s hs)
  clear hs
  go_wp2
  go_ret
  exact ⟨s, rfl, HS.out, HO2.out.tail⟩
end Go.Proofs.YtfgaikacijdodaaGreatDoor
/-
  The statements' own makers: lists of sources; URLs that are URLs.
-/
namespace Go.Proofs.YtfgaikacijdodaaGreatDoor
set_option linter.unusedVariables false
set_option linter.unusedSimpArgs false
set_option maxRecDepth 20000
open Go.RowKit

def listB : List ByteArray := [⟨#[]⟩, ⟨#[39, 115, 101, 108, 102, 39]⟩, ⟨#[42]⟩, ⟨#[39, 110, 111, 110, 101, 39]⟩, ⟨#[104, 116, 116, 112, 115, 58]⟩, ⟨#[104, 116, 116, 112, 58]⟩, ⟨#[99, 46, 100]⟩, ⟨#[42, 46, 99, 46, 100]⟩, ⟨#[104, 116, 116, 112, 115, 58, 47, 47, 99, 46, 100]⟩, ⟨#[104, 116, 116, 112, 58, 47, 47, 99, 46, 100, 58, 42]⟩, ⟨#[99, 46, 100, 58, 56]⟩, ⟨#[97, 46, 98, 58, 56]⟩, ⟨#[108, 111, 99, 97, 108, 104, 111, 115, 116]⟩, ⟨#[39, 83, 69, 76, 70, 39, 32, 67, 46, 68]⟩, ⟨#[97, 46, 98, 32, 99, 46, 100]⟩, ⟨#[104, 116, 116, 112, 115, 58, 32, 39, 115, 101, 108, 102, 39]⟩, ⟨#[39, 110, 111, 110, 101, 39, 32, 42]⟩, ⟨#[104, 116, 116, 112, 58, 47, 47]⟩, ⟨#[99, 46, 100, 58]⟩, ⟨#[99, 46, 100, 58, 120]⟩, ⟨#[42, 46]⟩, ⟨#[42, 46, 42, 46, 100]⟩, ⟨#[97, 46, 98, 58, 57, 57, 57, 57, 57]⟩, ⟨#[104, 116, 116, 112, 58, 56, 48]⟩, ⟨#[32, 32]⟩, ⟨#[32, 99, 46, 100, 32, 32, 97, 46, 98, 32]⟩, ⟨#[104, 116, 116, 112, 115, 58, 47, 47, 99, 46, 100, 47]⟩, ⟨#[115, 46, 99, 46, 100]⟩, ⟨#[99, 46, 100, 58, 52, 52, 51, 32, 97, 46, 98, 58, 56, 48]⟩]
theorem listB_size : ∀ s ∈ listB, s.size ≤ 20 := by decide
set_option maxHeartbeats 8000000 in
theorem plist_c {w0 w : World} {R : Blks} (hO : Own w0 w R) (n : Int) (hn : (Lit.int .i64 n).wf = true) (s : ByteArray) :
    Calls Tryz.prog 4 #[.int .i64 n, .string s] w fun e w' => ∃ t, e = .returned (.string t) ∧ (t ∈ listB ∨ t = s) ∧ Own w0 w' R := by
  have HO := Lib.hid hO
  have q1 := fun w : World => within_n (w := w) n 40 (by omega) (by omega)
  have hj : (n % 40).toNat < 40 := by omega
  generalize (n % 40).toNat = j at *
  have q2 := fun w : World => within_n (w := w) (wrap64 (n.tdiv 40)) 3 (by omega) (by omega)
  have hj3 : (wrap64 (n.tdiv 40) % 3).toNat < 3 := by omega
  generalize (wrap64 (n.tdiv 40) % 3).toNat = i at *
  have Q1 := Lib.hid q1; have Q2 := Lib.hid q2
  clear hO q1 q2 hn
  go_enter Tryz.func4, Tryz.ntmps4
  go_wp2_with fail
  generalize hwx : w.alloc _ = w2
  have hO2 : Own w0 w2 ((w.heap.size, .cells (sv (listB ++ [s])).toArray 9) :: R) := by rw [← hwx]; exact HO.out.alloc _
  have hlen : (listB ++ [s]).length = 30 := rfl
  have hcell : ∀ (w' : World), Own w0 w' ((w.heap.size, .cells (sv (listB ++ [s])).toArray 9) :: R) → ∀ k, k < 30 → w'.cell? ⟨w.heap.size, k, none⟩ = some (.string ((listB ++ [s]).getD k ⟨#[]⟩)) := by
    intro w' h k hk
    rw [h.cell (.head _) k]
    have hk2 : k < (listB ++ [s]).length := by rw [hlen]; exact hk
    simp only [List.getElem?_toArray, sv, List.getElem?_map, List.getElem?_eq_getElem hk2, Option.map_some, List.getD_eq_getElem?_getD, Option.getD_some]
  have hmem : ∀ k, k < 30 → (listB ++ [s]).getD k ⟨#[]⟩ ∈ listB ∨ (listB ++ [s]).getD k ⟨#[]⟩ = s := by
    intro k hk
    have hk2 : k < (listB ++ [s]).length := by rw [hlen]; exact hk
    rw [List.getD_eq_getElem?_getD, List.getElem?_eq_getElem hk2, Option.getD_some]
    rcases List.mem_append.1 (List.getElem_mem hk2) with h | h
    · exact .inl h
    · exact .inr (List.mem_singleton.1 h)
  have HO2 := Lib.hid hO2; have HC := Lib.hid hcell; have HME := Lib.hid hmem
  clear hwx hO2 hcell hmem hlen HO
  with_reducible refine (Q1.out _).mono ?_
  rintro e wq ⟨rfl, hww⟩
  subst hww
  by_cases h30 : 30 ≤ j
  · have h30I : (30 : Int) ≤ j := by omega
    have hi : (i : Int) < 30 := by omega
    have hc := HC.out _ HO2.out i (by omega)
    have hme := HME.out i (by omega)
    generalize (listB ++ [s]).getD i ⟨#[]⟩ = t at *
    have HT := Lib.hid hme
    clear hme
    go_wp2_with fail
    with_reducible refine (Q2.out _).mono ?_
    rintro e wq ⟨rfl, hww⟩
    subst hww
    go_wp2
    go_ret
    exact ⟨t, rfl, HT.out, HO2.out.tail⟩
  · have h30I : ¬ (30 : Int) ≤ j := by omega
    have hi : (j : Int) < 30 := by omega
    have hc := HC.out _ HO2.out j (by omega)
    have hme := HME.out j (by omega)
    generalize (listB ++ [s]).getD j ⟨#[]⟩ = t at *
    have HT := Lib.hid hme
    clear hme
    go_wp2
    go_ret
    exact ⟨t, rfl, HT.out, HO2.out.tail⟩
theorem urlB_ok : ∀ s ∈ urlB, (parseI (sb s)).isSome = true := by decide +kernel
set_option maxHeartbeats 4000000 in
theorem curl2_c {w0 w : World} {R : Blks} (hO : Own w0 w R) (n : Int) :
    Calls Tryz.prog 6 #[.int .i64 n] w fun e w' => ∃ t u, e = .returned (.string t) ∧ t ∈ urlB ∧ t.size ≤ 20 ∧ parseI (sb t) = some u ∧ u.Half ∧ Own w0 w' R := by
  have HO := Lib.hid hO
  clear hO
  go_enter Tryz.func6, Tryz.ntmps6
  go_wp2_with fail
  generalize hwx : w.alloc _ = w2
  have hO2 : Own w0 w2 ((w.heap.size, .cells (sv urlB).toArray 9) :: R) := by rw [← hwx]; exact HO.out.alloc _
  have hvs : Vs w2 (.slice (some ⟨w.heap.size, 0, none⟩) 12 12) (sv urlB) := by rw [← hwx]; exact vs_new _ 12 rfl
  have HO2 := Lib.hid hO2
  have hat := qat_c n _ urlB hvs (by decide) (by decide)
  clear hwx hO2 HO hvs
  with_reducible refine hat.mono ?_
  clear hat
  rintro e w3 ⟨⟨s, hs, rfl⟩, hww⟩
  subst hww
  obtain ⟨u, hu⟩ := Option.isSome_iff_exists.1 (urlB_ok s hs)
  have HMB := Lib.hid hs
  have HS := Lib.hid (urlB_size s hs)
  have HU := Lib.hid hu
  clear hu
  clear hs
  go_wp2
  go_ret
  exact ⟨s, u, rfl, HMB.out, HS.out, HU.out, (parseI_norm (byt_sb s) HU.out).fine.half, HO2.out.tail⟩
theorem curl_c {w0 w : World} {R : Blks} (hO : Own w0 w R) (n : Int) :
    Calls Tryz.prog 6 #[.int .i64 n] w fun e w' => ∃ t u, e = .returned (.string t) ∧ t.size ≤ 20 ∧ parseI (sb t) = some u ∧ u.Half ∧ Own w0 w' R :=
  (curl2_c hO n).mono (fun e w' ⟨t, u, h1, _, h2, h3, h4, h5⟩ => ⟨t, u, h1, h2, h3, h4, h5⟩)
end Go.Proofs.YtfgaikacijdodaaGreatDoor
