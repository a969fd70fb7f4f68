/-
  Texts that the laws stand on: CspP2, CspP3, Csp2, Csp3, Ends, Csp4, Csp5, CspP4.
-/
import Derived.Test.YtfgaikacijdodaaDoorM8
import Derived.Deep.DeepCutAuto
import Derived.Deep.CutBlock
import Derived.Test.YtfgaikacijdodaaDoorM5
import Derived.Test.YtfgaikacijdodaaDoorM3
import Derived.Test.YtfgaikacijdodaaDoorM1

/-
  The landed program's hasScheme, hasHost, hasPort, readPlace, isSource.
-/
namespace Go.Proofs.YtfgaikacijdodaaDoor
set_option linter.unusedVariables false
set_option linter.unusedSimpArgs false
set_option maxRecDepth 20000
open Go.RowKit

set_option maxHeartbeats 8000000 in
theorem chassch_c {w0 w : World} {R : Blks} (hO : Own w0 w R) (p : PL) (hpB : Byt p.sch) (page u : UL) (hg : Byt page.sch) (hu : Byt u.sch) :
    Calls Tryd.prog 24 #[.agg p.val.toArray, .agg page.val.toArray, .agg u.val.toArray] w fun e w' => e = .returned (.bool (p.hasSch page u)) ∧ Own w0 w' R := by
  have t1 := str_mtC p.sch hpB
  have hs1 := fun w : World => csafer_c (w := w) u.sch page.sch hu hg
  have hs2 := fun w : World => csafer_c (w := w) u.sch p.sch hu hpB
  have hd : p.hasSch page u = if p.sch = [] then saferI u.sch page.sch else saferI u.sch p.sch := rfl
  rw [hd]
  obtain ⟨b1, hb1⟩ : ∃ b, decide (p.sch = []) = b := ⟨_, rfl⟩
  rw [hb1] at t1
  have hif : (if p.sch = [] then saferI u.sch page.sch else saferI u.sch p.sch) = if b1 = true then saferI u.sch page.sch else saferI u.sch p.sch := by rw [← hb1]; simp only [decide_eq_true_iff]
  rw [hif]
  generalize saferI u.sch page.sch = r1 at *
  generalize saferI u.sch p.sch = r2 at *
  unfold UL.val PL.val
  clear hd hif hb1
  generalize strOfNums p.sch = qs at *
  generalize strOfNums p.host = qh at *
  generalize p.under = qu at *
  generalize p.port = qp at *
  generalize strOfNums page.sch = ps at *
  generalize strOfNums page.host = ph at *
  generalize strOfNums page.path = px at *
  generalize strOfNums page.query = pq at *
  generalize page.port = pp at *
  generalize strOfNums u.sch = us at *
  generalize strOfNums u.host = uh at *
  generalize strOfNums u.path = ux at *
  generalize strOfNums u.query = uq at *
  generalize u.port = up at *
  have HO := Lib.hid hO; have H1 := Lib.hid hs1; have H2 := Lib.hid hs2
  clear hO hs1 hs2 hpB hg hu
  cases b1 with
  | true =>
    go_enter Tryd.func24, Tryd.ntmps24
    go_wp2_with (first | (refine wl_box rfl _ _ rfl HO.out [Value.string qs, Value.string qh, Value.bool qu, Value.int .i64 qp].toArray (by rfl) ?_; intro g0 w1 hO; have HO1 := Lib.hid hO; clear hO HO) | (refine wl_box rfl _ _ rfl HO1.out [Value.string ps, Value.string ph, Value.int .i64 pp, Value.string px, Value.string pq].toArray (by rfl) ?_; intro g1 w2 hO; have HO2 := Lib.hid hO; clear hO HO1) | (refine wl_box rfl _ _ rfl HO2.out [Value.string us, Value.string uh, Value.int .i64 up, Value.string ux, Value.string uq].toArray (by rfl) ?_; intro g2 w3 hO; have HO3 := Lib.hid hO; have k0 : w3.cell? ⟨g0, 0, none⟩ = some (.string qs) := hO.cell (.tail _ (.tail _ (.head _))) 0; have k1 : w3.cell? ⟨g1, 0, none⟩ = some (.string ps) := hO.cell (.tail _ (.head _)) 0; have k2 : w3.cell? ⟨g2, 0, none⟩ = some (.string us) := hO.cell (.head _) 0; clear hO HO2))
    with_reducible refine (H1.out _).mono ?_
    rintro e w4 ⟨rfl, hww⟩
    subst hww
    go_wp2
    go_ret
    exact ⟨rfl, HO3.out.tail.tail.tail⟩
  | false =>
    go_enter Tryd.func24, Tryd.ntmps24
    go_wp2_with (first | (refine wl_box rfl _ _ rfl HO.out [Value.string qs, Value.string qh, Value.bool qu, Value.int .i64 qp].toArray (by rfl) ?_; intro g0 w1 hO; have HO1 := Lib.hid hO; clear hO HO) | (refine wl_box rfl _ _ rfl HO1.out [Value.string ps, Value.string ph, Value.int .i64 pp, Value.string px, Value.string pq].toArray (by rfl) ?_; intro g1 w2 hO; have HO2 := Lib.hid hO; clear hO HO1) | (refine wl_box rfl _ _ rfl HO2.out [Value.string us, Value.string uh, Value.int .i64 up, Value.string ux, Value.string uq].toArray (by rfl) ?_; intro g2 w3 hO; have HO3 := Lib.hid hO; have k0 : w3.cell? ⟨g0, 0, none⟩ = some (.string qs) := hO.cell (.tail _ (.tail _ (.head _))) 0; have k1 : w3.cell? ⟨g1, 0, none⟩ = some (.string ps) := hO.cell (.tail _ (.head _)) 0; have k2 : w3.cell? ⟨g2, 0, none⟩ = some (.string us) := hO.cell (.head _) 0; clear hO HO2))
    with_reducible refine (H2.out _).mono ?_
    rintro e w4 ⟨rfl, hww⟩
    subst hww
    go_wp2
    go_ret
    exact ⟨rfl, HO3.out.tail.tail.tail⟩

set_option maxHeartbeats 8000000 in
theorem chashost_c {w0 w : World} {R : Blks} (hO : Own w0 w R) (p : PL) (hpB : Byt p.host) (hpl : p.host.length ≤ 100000000) (u : UL) (hu : Byt u.host) (hul : u.host.length ≤ 100000000) :
    Calls Tryd.prog 25 #[.agg p.val.toArray, .agg u.val.toArray] w fun e w' => e = .returned (.bool (p.hasHost u)) ∧ Own w0 w' R := by
  have t1 := beq_str hu hpB
  have hen := fun w : World => csuf_c (w := w) (strOfNums u.host) (⟨#[46]⟩ ++ strOfNums p.host) (by rw [strOfNums_size]; omega)
  rw [sb_str hu, sb_append, sb_str hpB] at hen
  have hd : p.hasHost u = if p.under = true then endI (46 :: p.host) u.host && decide (p.host.length + 1 < u.host.length) else decide (u.host = p.host) := rfl
  rw [hd]
  have he : sb ⟨#[46]⟩ ++ p.host = 46 :: p.host := rfl
  rw [he] at hen
  have z1 : (strOfNums u.host).size = u.host.length := strOfNums_size _
  have z2 : (strOfNums p.host).size = p.host.length := strOfNums_size _
  have z3 : ((⟨#[46]⟩ : ByteArray) ++ strOfNums p.host).size = 1 + p.host.length := by rw [ByteArray.size_append, strOfNums_size]; rfl
  obtain ⟨b1, hb1⟩ : ∃ b, decide (u.host = p.host) = b := ⟨_, rfl⟩
  rw [hb1] at t1 ⊢
  generalize endI (46 :: p.host) u.host = b2 at *
  unfold UL.val PL.val
  generalize u.host.length = nu at *
  generalize p.host.length = np at *
  generalize strOfNums p.sch = qs at *
  generalize strOfNums p.host = qh at *
  generalize p.under = qu at *
  generalize p.port = qp at *
  generalize strOfNums u.sch = us at *
  generalize strOfNums u.host = uh at *
  generalize strOfNums u.path = ux at *
  generalize strOfNums u.query = uq at *
  generalize u.port = up at *
  have HO := Lib.hid hO; have H1 := Lib.hid hen
  clear hO hen hd he hb1 hpB hu
  cases qu with
  | false =>
    rw [if_neg (by simp)]
    go_enter Tryd.func25, Tryd.ntmps25
    go_wp2_with (first | (refine wl_box rfl _ _ rfl HO.out [Value.string qs, Value.string qh, Value.bool false, Value.int .i64 qp].toArray (by rfl) ?_; intro g0 w1 hO; have HO1 := Lib.hid hO; clear hO HO) | (refine wl_box rfl _ _ rfl HO1.out [Value.string us, Value.string uh, Value.int .i64 up, Value.string ux, Value.string uq].toArray (by rfl) ?_; intro g2 w3 hO; have HO3 := Lib.hid hO; have k0 : w3.cell? ⟨g0, 1, none⟩ = some (.string qh) := hO.cell (.tail _ (.head _)) 1; have k1 : w3.cell? ⟨g0, 2, none⟩ = some (.bool false) := hO.cell (.tail _ (.head _)) 2; have k2 : w3.cell? ⟨g2, 1, none⟩ = some (.string uh) := hO.cell (.head _) 1; clear hO HO1))
    go_ret
    exact ⟨rfl, HO3.out.tail.tail⟩
  | true =>
    rw [if_pos rfl]
    have n1 : ¬ (9223372036854775807 < 1 + qh.size) := by omega
    go_enter Tryd.func25, Tryd.ntmps25
    go_wp2_with (first | (refine wl_box rfl _ _ rfl HO.out [Value.string qs, Value.string qh, Value.bool true, Value.int .i64 qp].toArray (by rfl) ?_; intro g0 w1 hO; have HO1 := Lib.hid hO; clear hO HO) | (refine wl_box rfl _ _ rfl HO1.out [Value.string us, Value.string uh, Value.int .i64 up, Value.string ux, Value.string uq].toArray (by rfl) ?_; intro g2 w3 hO; have HO3 := Lib.hid hO; have k0 : w3.cell? ⟨g0, 1, none⟩ = some (.string qh) := hO.cell (.tail _ (.head _)) 1; have k1 : w3.cell? ⟨g0, 2, none⟩ = some (.bool true) := hO.cell (.tail _ (.head _)) 2; have k2 : w3.cell? ⟨g2, 1, none⟩ = some (.string uh) := hO.cell (.head _) 1; clear hO HO1))
    with_reducible refine (H1.out _).mono ?_
    rintro e w4 ⟨rfl, hww⟩
    subst hww
    cases b2 with
    | false =>
      go_wp2
      go_ret
      exact ⟨rfl, HO3.out.tail.tail⟩
    | true =>
      by_cases hlt : np + 1 < nu
      · have hI : (((⟨#[46]⟩ : ByteArray) ++ qh).size : Int) < uh.size := by rw [z3, z1]; omega
        have HE : Hid (decide (np + 1 < nu) = true) := Lib.hid (decide_eq_true hlt)
        have HD : Hid (decide ((1 : Int) + np < nu) = true) := Lib.hid (decide_eq_true (by omega))
        go_wp2
        go_ret
        exact ⟨by rw [HE.out]; show Ending.returned (Value.bool (decide ((1 : Int) + np < nu))) = _; rw [HD.out]; rfl, HO3.out.tail.tail⟩
      · have hI : ¬ (((⟨#[46]⟩ : ByteArray) ++ qh).size : Int) < uh.size := by rw [z3, z1]; omega
        have HE : Hid (decide (np + 1 < nu) = false) := Lib.hid (decide_eq_false hlt)
        have HD : Hid (decide ((1 : Int) + np < nu) = false) := Lib.hid (decide_eq_false (by omega))
        go_wp2
        go_ret
        exact ⟨by rw [HE.out]; show Ending.returned (Value.bool (decide ((1 : Int) + np < nu))) = _; rw [HD.out]; rfl, HO3.out.tail.tail⟩

set_option maxHeartbeats 8000000 in
theorem chasport_c {w0 w : World} {R : Blks} (hO : Own w0 w R) (p : PL) (u : UL) (hu : Byt u.sch) :
    Calls Tryd.prog 26 #[.agg p.val.toArray, .agg u.val.toArray] w fun e w' => e = .returned (.bool (p.hasPort u)) ∧ Own w0 w' R := by
  have hpo := fun (w1 : World) (R1 : Blks) (h : Own w0 w1 R1) => cportof_c h u hu
  have hd : p.hasPort u = if p.port = -2 then true else if p.port = -1 then decide (u.port = 0) else decide (p.port = ownPort u) := rfl
  rw [hd]
  generalize ownPort u = op at *
  simp only [UL.val] at hpo
  unfold UL.val PL.val
  clear hd hu
  generalize strOfNums p.sch = qs at *
  generalize strOfNums p.host = qh at *
  generalize p.under = qu at *
  generalize p.port = qp at *
  generalize strOfNums u.sch = us at *
  generalize strOfNums u.host = uh at *
  generalize strOfNums u.path = ux at *
  generalize strOfNums u.query = uq at *
  generalize u.port = up at *
  have HO := Lib.hid hO; have HP := Lib.hid hpo
  clear hO hpo
  by_cases h1 : qp = -2
  · subst h1
    rw [if_pos rfl]
    clear HP
    go_enter Tryd.func26, Tryd.ntmps26
    go_wp2_with (first | (refine wl_box rfl _ _ rfl HO.out [Value.string qs, Value.string qh, Value.bool qu, Value.int .i64 (-2)].toArray (by rfl) ?_; intro g0 w1 hO; have HO1 := Lib.hid hO; clear hO HO) | (refine wl_box rfl _ _ rfl HO1.out [Value.string us, Value.string uh, Value.int .i64 up, Value.string ux, Value.string uq].toArray (by rfl) ?_; intro g2 w3 hO; have HO3 := Lib.hid hO; have k0 : w3.cell? ⟨g0, 3, none⟩ = some (.int .i64 (-2)) := hO.cell (.tail _ (.head _)) 3; have k2 : w3.cell? ⟨g2, 2, none⟩ = some (.int .i64 up) := hO.cell (.head _) 2; clear hO HO1))
    go_ret
    exact ⟨rfl, HO3.out.tail.tail⟩
  · rw [if_neg h1]
    have t1 : (qp == -2) = false := beq_eq_false_iff_ne.2 h1
    by_cases h2 : qp = -1
    · subst h2
      rw [if_pos rfl]
      obtain ⟨b, hb⟩ : ∃ b, decide (up = 0) = b := ⟨_, rfl⟩
      have t0 : (up == 0) = b := hb
      rw [hb]
      clear HP hb h1
      go_enter Tryd.func26, Tryd.ntmps26
      go_wp2_with (first | (refine wl_box rfl _ _ rfl HO.out [Value.string qs, Value.string qh, Value.bool qu, Value.int .i64 (-1)].toArray (by rfl) ?_; intro g0 w1 hO; have HO1 := Lib.hid hO; clear hO HO) | (refine wl_box rfl _ _ rfl HO1.out [Value.string us, Value.string uh, Value.int .i64 up, Value.string ux, Value.string uq].toArray (by rfl) ?_; intro g2 w3 hO; have HO3 := Lib.hid hO; have k0 : w3.cell? ⟨g0, 3, none⟩ = some (.int .i64 (-1)) := hO.cell (.tail _ (.head _)) 3; have k2 : w3.cell? ⟨g2, 2, none⟩ = some (.int .i64 up) := hO.cell (.head _) 2; clear hO HO1))
      go_ret
      exact ⟨by first | rfl | rw [t0], HO3.out.tail.tail⟩
    · rw [if_neg h2]
      have t2 : (qp == -1) = false := beq_eq_false_iff_ne.2 h2
      obtain ⟨b, hb⟩ : ∃ b, decide (qp = op) = b := ⟨_, rfl⟩
      have t0 : (qp == op) = b := hb
      rw [hb]
      clear hb h1 h2
      go_enter Tryd.func26, Tryd.ntmps26
      go_upto_region 6 with (first | (refine wl_box rfl _ _ rfl HO.out [Value.string qs, Value.string qh, Value.bool qu, Value.int .i64 qp].toArray (by rfl) ?_; intro g0 w1 hO; have HO1 := Lib.hid hO; clear hO HO) | (refine wl_box rfl _ _ rfl HO1.out [Value.string us, Value.string uh, Value.int .i64 up, Value.string ux, Value.string uq].toArray (by rfl) ?_; intro g2 w3 hO; have HO3 := Lib.hid hO; have k0 : w3.cell? ⟨g0, 3, none⟩ = some (.int .i64 qp) := hO.cell (.tail _ (.head _)) 3; have k2 : w3.cell? ⟨g2, 2, none⟩ = some (.int .i64 up) := hO.cell (.head _) 2; clear hO HO1))
      refine wp_region_lin (fun w' => Own w0 w' ((g2, .cells [Value.string us, Value.string uh, Value.int .i64 up, Value.string ux, Value.string uq].toArray 23) :: (g0, .cells [Value.string qs, Value.string qh, Value.bool qu, Value.int .i64 qp].toArray 50) :: R)) 6 [(0, true), (1, true), (2, true), (3, false), (4, true), (5, true)] (by kernel_rfl) (by kernel_rfl) (fun _ _ d _ _ h => by cases d <;> exact h) HO3.out.drew ?_
      simp only [List.map_cons, List.map_nil, pick_zero, pick_succ, List.drop_succ_cons, List.drop_zero]
      have HR0 := Lib.hid HO3.out.drew; clear HO3 k0 k2
      refine lin_q ?_ rfl ?_ ?_; rotate_left 1; (focus (rintro w' hO; clear hO; go_simp; first | done | with_reducible rfl | (trace_state; fail))); simp only [Act.put, List.setIfInBounds_toArray, List.set_cons_zero, List.set_cons_succ]
      refine lin_q ?_ rfl ?_ ?_; rotate_left 1; (focus (rintro w' hO; have k1 : w'.cell? ⟨g0, 3, none⟩ = some (.int .i64 qp) := hO.cell (.tail _ (.head _)) 3; clear hO; go_simp; first | done | with_reducible rfl | (trace_state; fail))); simp only [Act.put, List.setIfInBounds_toArray, List.set_cons_zero, List.set_cons_succ]
      refine lin_load rfl _ _ rfl g2 0 [Value.string us, Value.string uh, Value.int .i64 up, Value.string ux, Value.string uq] [Value.string us, Value.string uh, Value.int .i64 up, Value.string ux, Value.string uq] 23 (by rfl) _ Tryd.underlying23 rfl url_size (by rfl) (fun w' hO => hO.heap (.head _)) ?_; simp only [Act.put, List.setIfInBounds_toArray, List.set_cons_zero, List.set_cons_succ]
      refine lin_act ?_
      refine wl_call rfl _ _ _ (by go_simp) (HP.out _ _ HR0.out) ?_
      rintro e w5 ⟨rfl, hO⟩
      have HR1 := Lib.hid hO; clear hO HR0 HP
      refine ⟨_, rfl, LinPost.mk HR1.out ?_⟩
      simp only [Act.put, List.setIfInBounds_toArray, List.set_cons_zero, List.set_cons_succ]
      refine lin_q ?_ rfl ?_ ?_; rotate_left 1; (focus (rintro w' hO; clear hO; go_simp; first | done | with_reducible rfl | (trace_state; fail))); simp only [Act.put, List.setIfInBounds_toArray, List.set_cons_zero, List.set_cons_succ]
      refine lin_q ?_ rfl ?_ ?_; rotate_left 1; (focus (rintro w' hO; clear hO; go_simp; first | done | with_reducible rfl | (trace_state; fail))); simp only [Act.put, List.setIfInBounds_toArray, List.set_cons_zero, List.set_cons_succ]
      refine lin_nil ?_
      go_wp2
      go_ret
      exact ⟨by first | rfl | rw [t0], HR1.out.tail.tail⟩
end Go.Proofs.YtfgaikacijdodaaDoor
/-
  The landed program's readPlace: a source, in small letters, that names a host, taken apart.
-/
namespace Go.Proofs.YtfgaikacijdodaaDoor
set_option linter.unusedVariables false
set_option linter.unusedSimpArgs false
set_option maxRecDepth 20000
open Go.RowKit

theorem one_p4 (a b : ByteArray) (c : Bool) (k : Int) : ∀ v ∈ [Value.string a, Value.string b, Value.bool c, Value.int .i64 k], v.oneCell' = true := by
  intro v hv
  simp only [List.mem_cons, List.not_mem_nil, or_false] at hv
  rcases hv with rfl | rfl | rfl | rfl <;> rfl
def GotPl (w0 : World) (R : Blks) (o : Option PL) (e : Ending) (w' : World) : Prop := e = .returned (.tuple #[.agg (o.getD PL.zero).val.toArray, .bool o.isSome]) ∧ Own w0 w' R
/-- Behind the scheme: what is left, and how the source is read from it. -/
def MidPl (w0 : World) (R : Blks) (g2 : Nat) (o : Option PL) (v : Value) (wx : World) : Prop := ∃ sch r : List Int, o = restG sch r ∧ Byt r ∧ r.length ≤ 4000000 ∧ v = .string (strOfNums r) ∧ Own w0 wx ((g2, .cells [Value.string (strOfNums sch), Value.string ⟨#[]⟩, Value.bool false, Value.int .i64 0].toArray 50) :: R)
set_option maxRecDepth 100000 in
set_option maxHeartbeats 16000000 in
theorem creadplace_c {w0 w : World} {R : Blks} (hV : VarsOk w0) (hO : Own w0 w R) (s : ByteArray) (hs : s.size ≤ 4000000) :
    Calls Tryd.prog 23 #[.string s] w (GotPl w0 R (placeG (sb s))) := by
  have HO := Lib.hid hO; have HV := Lib.hid hV
  have hB0 : Byt (sb s) := byt_sb s
  have hl0 : (sb s).length ≤ 4000000 := by rw [length_sb]; exact hs
  have c1 := fun (w1 : World) (R1 : Blks) (h : Own w0 w1 R1) => ccut_c HV.out.toMostOk h s (by omega) ⟨#[58, 47, 47]⟩ (by decide)
  have hm : sb ⟨#[58, 47, 47]⟩ = [58, 47, 47] := rfl
  rw [hm] at c1
  obtain ⟨o, ho⟩ : ∃ o, placeG (sb s) = o := ⟨_, rfl⟩
  have hres : o = if (cutS [58, 47, 47] (sb s)).2.2 = true then (if (cutS [58, 47, 47] (sb s)).1 = httpI ∨ (cutS [58, 47, 47] (sb s)).1 = httpsI then restG (cutS [58, 47, 47] (sb s)).1 (cutS [58, 47, 47] (sb s)).2.1 else none) else restG [] (sb s) := ho.symm
  rw [ho]
  have hBc := cutS_byt [58, 47, 47] hB0
  have hlc := cutS_len [58, 47, 47] (sb s)
  generalize (cutS [58, 47, 47] (sb s)).2.2 = b at *
  generalize (cutS [58, 47, 47] (sb s)).2.1 = rs at *
  generalize (cutS [58, 47, 47] (sb s)).1 = sc at *
  have hBs := hBc.1; have hBr := hBc.2
  have hls : sc.length ≤ 4000000 := by omega
  have hlr : rs.length ≤ 4000000 := by omega
  have t1 := beq_litC (strOfNums sc) [104, 116, 116, 112] httpI rfl
  have t2 := beq_litC (strOfNums sc) [104, 116, 116, 112, 115] httpsI rfl
  rw [sb_str hBs] at t1 t2
  have C1 := Lib.hid c1; have HRES := Lib.hid hres
  have HB := Lib.hid (And.intro hB0 (And.intro hBr (And.intro hl0 hlr)))
  have HSS := Lib.hid (str_sb s)
  have HT1 := Lib.hid t1; have HT2 := Lib.hid t2
  clear hO hV c1 hm ho hres hBc hlc hB0 hl0 hBs hBr hls hlr hs t1 t2
  go_enter Tryd.func23, Tryd.ntmps23
  go_wp2_with (refine wl_alloc rfl _ rfl HO.out _ (alloc_pl _) ?_; intro g2 w1 hO1; have HO1 := Lib.hid (hO1.cast (L' := (g2, .cells [Value.string ⟨#[]⟩, Value.string ⟨#[]⟩, Value.bool false, Value.int .i64 0].toArray 50) :: R) rfl); clear hO1 HO)
  with_reducible refine (C1.out _ _ HO1.out).mono ?_
  rintro e w2 ⟨rfl, hO⟩
  have HO2 := Lib.hid hO
  clear hO HO1 C1
  go_upto_if 16 with fail
  go_cut [0] (fun v wx => MidPl w0 R g2 o v wx)
  case first =>
    cases b with
    | false =>
      have hre : o = restG [] (sb s) := HRES.out
      have HRE := Lib.hid hre
      clear hre HRES
      go_wp2
      go_meet
      exact ⟨[], sb s, HRE.out, HB.out.1, HB.out.2.2.1, by rw [HSS.out], HO2.out⟩
    | true =>
      by_cases h1 : sc = httpI
      · have hre : o = restG sc rs := by rw [HRES.out, if_pos rfl, if_pos (.inl h1)]
        have t1 := HT1.out; rw [decide_eq_true h1] at t1
        have t1' : ((strOfNums sc).toList != [104, 116, 116, 112]) = false := by rw [bne, t1]; rfl
        have HRE := Lib.hid hre
        clear hre HRES h1 HT1 HT2
        go_wp2_with (refine wl_store1 rfl _ _ _ rfl HO2.out 0 g2 0 _ (.string (strOfNums sc)) _ rfl (by rfl) (by rfl) (by rfl) (by kernel_rfl) (by rfl) (by first | decide | simp) ?_; intro w3 hO; have HO3 := Lib.hid (hO.cast (L' := (g2, .cells [Value.string (strOfNums sc), Value.string ⟨#[]⟩, Value.bool false, Value.int .i64 0].toArray 50) :: R) rfl); clear hO HO2)
        go_meet
        exact ⟨sc, rs, HRE.out, HB.out.2.1, HB.out.2.2.2, rfl, HO3.out⟩
      · have t1 := HT1.out; rw [decide_eq_false h1] at t1
        have t1' : ((strOfNums sc).toList != [104, 116, 116, 112]) = true := by rw [bne, t1]; rfl
        by_cases h2 : sc = httpsI
        · have hre : o = restG sc rs := by rw [HRES.out, if_pos rfl, if_pos (.inr h2)]
          have t2 := HT2.out; rw [decide_eq_true h2] at t2
          have t2' : ((strOfNums sc).toList != [104, 116, 116, 112, 115]) = false := by rw [bne, t2]; rfl
          have HRE := Lib.hid hre
          clear hre HRES h1 h2 HT1 HT2
          go_wp2_with (refine wl_store1 rfl _ _ _ rfl HO2.out 0 g2 0 _ (.string (strOfNums sc)) _ rfl (by rfl) (by rfl) (by rfl) (by kernel_rfl) (by rfl) (by first | decide | simp) ?_; intro w3 hO; have HO3 := Lib.hid (hO.cast (L' := (g2, .cells [Value.string (strOfNums sc), Value.string ⟨#[]⟩, Value.bool false, Value.int .i64 0].toArray 50) :: R) rfl); clear hO HO2)
          go_meet
          exact ⟨sc, rs, HRE.out, HB.out.2.1, HB.out.2.2.2, rfl, HO3.out⟩
        · have hre : o = none := by rw [HRES.out, if_pos rfl, if_neg (fun h => h.elim h1 h2)]
          subst hre
          have t2 := HT2.out; rw [decide_eq_false h2] at t2
          have t2' : ((strOfNums sc).toList != [104, 116, 116, 112, 115]) = true := by rw [bne, t2]; rfl
          clear HRES h1 h2 HT1 HT2
          go_wp2_with (refine wl_store rfl _ _ _ rfl HO2.out 0 g2 0 _ [Value.string ⟨#[]⟩, Value.string ⟨#[]⟩, Value.bool false, Value.int .i64 0] _ rfl (by rfl) (by rfl) pl_size (one_p4 _ _ _ _) (by first | decide | simp) ?_; intro w3 hO; have HO3 := Lib.hid (hO.cast (L' := (g2, .cells [Value.string ⟨#[]⟩, Value.string ⟨#[]⟩, Value.bool false, Value.int .i64 0].toArray 50) :: R) rfl); clear hO HO2)
          have hr0 : w3.cell? ⟨g2, 0, none⟩ = some (Value.string ⟨#[]⟩) := by rw [HO3.out.cell (.head _)]; rfl
          have hr1 : w3.cell? ⟨g2, 1, none⟩ = some (Value.string ⟨#[]⟩) := by rw [HO3.out.cell (.head _)]; rfl
          have hr2 : w3.cell? ⟨g2, 2, none⟩ = some (Value.bool false) := by rw [HO3.out.cell (.head _)]; rfl
          have hr3 : w3.cell? ⟨g2, 3, none⟩ = some (Value.int .i64 0) := by rw [HO3.out.cell (.head _)]; rfl
          exact bodyPost_ret (v := .tuple #[.agg #[Value.string ⟨#[]⟩, Value.string ⟨#[]⟩, Value.bool false, Value.int .i64 0], .bool false]) (by simp [results, Tryd.results23, go_sem, hr0, hr1, hr2, hr3]) rfl ⟨rfl, HO3.out.tail⟩
  case rest =>
    obtain ⟨sch, r, hre, hBr, hlr, rfl, hO⟩ := hcut
    have HO3 := Lib.hid hO
    have c2 := fun w1 : World => cpre_c (w := w1) (strOfNums r) ⟨#[42, 46]⟩
    have hst : sb ⟨#[42, 46]⟩ = [42, 46] := rfl
    rw [hst, sb_str hBr] at c2
    unfold restG at hre
    have hBt : Byt (trimP [42, 46] r) := trimP_byt hBr
    have hlt : (trimP [42, 46] r).length ≤ 4000000 := Nat.le_trans (trimP_len _ _) hlr
    generalize trimP [42, 46] r = t at *
    generalize begI [42, 46] r = un at *
    have c3 := fun (w1 : World) (R1 : Blks) (h : Own w0 w1 R1) => ccut1_c HV.out.toMostOk h (strOfNums t) (by rw [strOfNums_size]; omega) 58 58 rfl
    rw [sb_str hBt] at c3
    have hBh : Byt (ahead [58] t) := ahead_byt hBt
    have hlh : (ahead [58] t).length ≤ 4000000 := Nat.le_trans (ahead_len _ _) hlt
    have hBn : Byt ((behind [58] t).drop 1) := byt_drop (behind_byt hBt) 1
    have hln : ((behind [58] t).drop 1).length ≤ 4000000 := by rw [List.length_drop]; have := behind_len [58] t; omega
    have c4 := fun (w1 : World) (R1 : Blks) (h : Own w0 w1 R1) => cishost_c HV.out h (strOfNums (ahead [58] t)) (by rw [strOfNums_size]; omega)
    rw [sb_str hBh] at c4
    have c5 := fun (w1 : World) (R1 : Blks) (h : Own w0 w1 R1) => creadport_c HV.out h (strOfNums ((behind [58] t).drop 1)) (by rw [strOfNums_size]; omega)
    rw [sb_str hBn] at c5
    obtain ⟨b5, hb5⟩ : ∃ b, decide (behind [58] t ≠ []) = b := ⟨_, rfl⟩
    rw [hb5] at c3
    have hsp : (if behind [58] t = [] then (some ⟨sch, ahead [58] t, un, -1⟩ : Option PL) else (portG ((behind [58] t).drop 1)).map fun p => ⟨sch, ahead [58] t, un, p⟩) = if b5 = true then (portG ((behind [58] t).drop 1)).map fun p => ⟨sch, ahead [58] t, un, p⟩ else some ⟨sch, ahead [58] t, un, -1⟩ := by
      by_cases h : behind [58] t = []
      · rw [if_pos h, ← hb5, if_neg (by simp [h])]
      · rw [if_neg h, ← hb5, if_pos (by simp [h])]
    rw [hsp] at hre
    generalize ahead [58] t = hs at *
    generalize (behind [58] t).drop 1 = pr at *
    obtain ⟨hok, hhk⟩ : ∃ b, decide (HostOk hs) = b := ⟨_, rfl⟩
    rw [hhk] at c4
    have HHK := Lib.hid hhk; have HRE := Lib.hid hre
    have C2 := Lib.hid c2; have C3 := Lib.hid c3; have C4 := Lib.hid c4; have C5 := Lib.hid c5
    clear hO HO2 hre hBr hlr c2 hst hBt hlt c3 hBh hlh hBn hln c4 c5 hb5 hsp hhk HRES HB HSS HT1 HT2
    generalize strOfNums r = SR at *
    generalize strOfNums t = ST at *
    generalize strOfNums pr = SN at *
    go_wp2_with fail
    with_reducible refine (C2.out _).mono ?_
    rintro e w4 ⟨rfl, hww⟩
    subst hww
    clear C2
    go_wp2_with (refine wl_store1 rfl _ _ _ rfl HO3.out 0 g2 2 _ (.bool un) _ rfl (by rfl) (by rfl) (by rfl) (by kernel_rfl) (by rfl) (by first | decide | simp) ?_; intro w4 hO; have HO4 := Lib.hid (hO.cast (L' := (g2, .cells [Value.string (strOfNums sch), Value.string ⟨#[]⟩, Value.bool un, Value.int .i64 0].toArray 50) :: R) rfl); clear hO HO3)
    with_reducible refine (C3.out _ _ HO4.out).mono ?_
    rintro e w5 ⟨rfl, hO⟩
    have HO5 := Lib.hid hO
    clear hO HO4 C3
    go_wp2_with fail
    with_reducible refine (C4.out _ _ HO5.out).mono ?_
    rintro e w6 ⟨rfl, hO⟩
    have HO6 := Lib.hid hO
    clear hO HO5 C4
    cases hok with
    | false =>
      have hno : o = none := by rw [HRE.out, if_neg (of_decide_eq_false HHK.out)]
      subst hno
      clear HRE HHK C5
      go_wp2_with (refine wl_store rfl _ _ _ rfl HO6.out 0 g2 0 _ [Value.string ⟨#[]⟩, Value.string ⟨#[]⟩, Value.bool false, Value.int .i64 0] _ rfl (by rfl) (by rfl) pl_size (one_p4 _ _ _ _) (by first | decide | simp) ?_; intro w7 hO; have HO7 := Lib.hid (hO.cast (L' := (g2, .cells [Value.string ⟨#[]⟩, Value.string ⟨#[]⟩, Value.bool false, Value.int .i64 0].toArray 50) :: R) rfl); clear hO HO6)
      have hr0 : w7.cell? ⟨g2, 0, none⟩ = some (Value.string ⟨#[]⟩) := by rw [HO7.out.cell (.head _)]; rfl
      have hr1 : w7.cell? ⟨g2, 1, none⟩ = some (Value.string ⟨#[]⟩) := by rw [HO7.out.cell (.head _)]; rfl
      have hr2 : w7.cell? ⟨g2, 2, none⟩ = some (Value.bool false) := by rw [HO7.out.cell (.head _)]; rfl
      have hr3 : w7.cell? ⟨g2, 3, none⟩ = some (Value.int .i64 0) := by rw [HO7.out.cell (.head _)]; rfl
      exact bodyPost_ret (v := .tuple #[.agg #[Value.string ⟨#[]⟩, Value.string ⟨#[]⟩, Value.bool false, Value.int .i64 0], .bool false]) (by simp [results, Tryd.results23, go_sem, hr0, hr1, hr2, hr3]) rfl ⟨rfl, HO7.out.tail⟩
    | true =>
      have hre2 : o = if b5 = true then (portG pr).map fun p => ⟨sch, hs, un, p⟩ else some ⟨sch, hs, un, -1⟩ := by rw [HRE.out, if_pos (of_decide_eq_true HHK.out)]
      have HRE2 := Lib.hid hre2
      clear hre2 HRE HHK
      cases b5 with
      | false =>
        have hre3 : o = some ⟨sch, hs, un, -1⟩ := HRE2.out
        subst hre3
        clear HRE2 C5
        go_wp2_with (first | (refine wl_store1 rfl _ _ _ rfl HO6.out 0 g2 1 _ (.string (strOfNums hs)) _ rfl (by rfl) (by rfl) (by rfl) (by kernel_rfl) (by rfl) (by first | decide | simp) ?_; intro w7 hO; have HO7 := Lib.hid (hO.cast (L' := (g2, .cells [Value.string (strOfNums sch), Value.string (strOfNums hs), Value.bool un, Value.int .i64 0].toArray 50) :: R) rfl); clear hO HO6) | (refine wl_store1 rfl _ _ _ rfl HO7.out 0 g2 3 _ (.int .i64 (-1)) _ rfl (by rfl) (by rfl) (by rfl) (by kernel_rfl) (by rfl) (by first | decide | simp) ?_; intro w8 hO; have HO8 := Lib.hid (hO.cast (L' := (g2, .cells [Value.string (strOfNums sch), Value.string (strOfNums hs), Value.bool un, Value.int .i64 (-1)].toArray 50) :: R) rfl); clear hO HO7) | (refine wl_load rfl _ _ rfl g2 0 [Value.string (strOfNums sch), Value.string (strOfNums hs), Value.bool un, Value.int .i64 (-1)] [Value.string (strOfNums sch), Value.string (strOfNums hs), Value.bool un, Value.int .i64 (-1)] _ (HO8.out.heap (.head _)) (by rfl) _ Tryd.underlying50 rfl pl_size (by rfl) ?_) | (refine wl_store rfl _ _ _ rfl HO8.out 0 g2 0 _ [Value.string (strOfNums sch), Value.string (strOfNums hs), Value.bool un, Value.int .i64 (-1)] _ rfl (by rfl) (by rfl) pl_size (one_p4 _ _ _ _) (by first | decide | simp) ?_; intro w9 hO; have HO9 := Lib.hid (hO.cast (L' := (g2, .cells [Value.string (strOfNums sch), Value.string (strOfNums hs), Value.bool un, Value.int .i64 (-1)].toArray 50) :: R) rfl); clear hO HO8))
        have hr0 : w9.cell? ⟨g2, 0, none⟩ = some (Value.string (strOfNums sch)) := by rw [HO9.out.cell (.head _)]; rfl
        have hr1 : w9.cell? ⟨g2, 1, none⟩ = some (Value.string (strOfNums hs)) := by rw [HO9.out.cell (.head _)]; rfl
        have hr2 : w9.cell? ⟨g2, 2, none⟩ = some (Value.bool un) := by rw [HO9.out.cell (.head _)]; rfl
        have hr3 : w9.cell? ⟨g2, 3, none⟩ = some (Value.int .i64 (-1)) := by rw [HO9.out.cell (.head _)]; rfl
        exact bodyPost_ret (v := .tuple #[.agg #[Value.string (strOfNums sch), Value.string (strOfNums hs), Value.bool un, Value.int .i64 (-1)], .bool true]) (by simp [results, Tryd.results23, go_sem, hr0, hr1, hr2, hr3]) rfl ⟨rfl, HO9.out.tail⟩
      | true =>
        have hre3 : o = (portG pr).map fun p => ⟨sch, hs, un, p⟩ := HRE2.out
        have HRE3 := Lib.hid hre3
        clear hre3 HRE2
        go_wp2_with (first | (refine wl_store1 rfl _ _ _ rfl HO6.out 0 g2 1 _ (.string (strOfNums hs)) _ rfl (by rfl) (by rfl) (by rfl) (by kernel_rfl) (by rfl) (by first | decide | simp) ?_; intro w7 hO; have HO7 := Lib.hid (hO.cast (L' := (g2, .cells [Value.string (strOfNums sch), Value.string (strOfNums hs), Value.bool un, Value.int .i64 0].toArray 50) :: R) rfl); clear hO HO6) | (refine wl_store1 rfl _ _ _ rfl HO7.out 0 g2 3 _ (.int .i64 (-1)) _ rfl (by rfl) (by rfl) (by rfl) (by kernel_rfl) (by rfl) (by first | decide | simp) ?_; intro w8 hO; have HO8 := Lib.hid (hO.cast (L' := (g2, .cells [Value.string (strOfNums sch), Value.string (strOfNums hs), Value.bool un, Value.int .i64 (-1)].toArray 50) :: R) rfl); clear hO HO7))
        with_reducible refine (C5.out _ _ HO8.out).mono ?_
        rintro e w9 ⟨rfl, hO⟩
        have HO9 := Lib.hid hO
        clear hO HO8 C5
        cases hpg : portG pr with
        | none =>
          have hno : o = none := by rw [HRE3.out, hpg]; rfl
          subst hno
          clear HRE3 hpg
          simp only [Option.getD_none, Option.isSome_none]
          go_wp2_with (first | (refine wl_store1 rfl _ _ _ rfl HO9.out 0 g2 3 _ (.int .i64 0) _ rfl (by rfl) (by rfl) (by rfl) (by kernel_rfl) (by rfl) (by first | decide | simp) ?_; intro w10 hO; have HO10 := Lib.hid (hO.cast (L' := (g2, .cells [Value.string (strOfNums sch), Value.string (strOfNums hs), Value.bool un, Value.int .i64 0].toArray 50) :: R) rfl); clear hO HO9) | (refine wl_store rfl _ _ _ rfl HO10.out 0 g2 0 _ [Value.string ⟨#[]⟩, Value.string ⟨#[]⟩, Value.bool false, Value.int .i64 0] _ rfl (by rfl) (by rfl) pl_size (one_p4 _ _ _ _) (by first | decide | simp) ?_; intro w11 hO; have HO11 := Lib.hid (hO.cast (L' := (g2, .cells [Value.string ⟨#[]⟩, Value.string ⟨#[]⟩, Value.bool false, Value.int .i64 0].toArray 50) :: R) rfl); clear hO HO10))
          have hr0 : w11.cell? ⟨g2, 0, none⟩ = some (Value.string ⟨#[]⟩) := by rw [HO11.out.cell (.head _)]; rfl
          have hr1 : w11.cell? ⟨g2, 1, none⟩ = some (Value.string ⟨#[]⟩) := by rw [HO11.out.cell (.head _)]; rfl
          have hr2 : w11.cell? ⟨g2, 2, none⟩ = some (Value.bool false) := by rw [HO11.out.cell (.head _)]; rfl
          have hr3 : w11.cell? ⟨g2, 3, none⟩ = some (Value.int .i64 0) := by rw [HO11.out.cell (.head _)]; rfl
          exact bodyPost_ret (v := .tuple #[.agg #[Value.string ⟨#[]⟩, Value.string ⟨#[]⟩, Value.bool false, Value.int .i64 0], .bool false]) (by simp [results, Tryd.results23, go_sem, hr0, hr1, hr2, hr3]) rfl ⟨rfl, HO11.out.tail⟩
        | some n =>
          have hyes : o = some ⟨sch, hs, un, n⟩ := by rw [HRE3.out, hpg]; rfl
          subst hyes
          clear HRE3 hpg
          simp only [Option.getD_some, Option.isSome_some]
          go_wp2_with (first | (refine wl_store1 rfl _ _ _ rfl HO9.out 0 g2 3 _ (.int .i64 n) _ rfl (by rfl) (by rfl) (by rfl) (by kernel_rfl) (by rfl) (by first | decide | simp) ?_; intro w10 hO; have HO10 := Lib.hid (hO.cast (L' := (g2, .cells [Value.string (strOfNums sch), Value.string (strOfNums hs), Value.bool un, Value.int .i64 n].toArray 50) :: R) rfl); clear hO HO9) | (refine wl_load rfl _ _ rfl g2 0 [Value.string (strOfNums sch), Value.string (strOfNums hs), Value.bool un, Value.int .i64 n] [Value.string (strOfNums sch), Value.string (strOfNums hs), Value.bool un, Value.int .i64 n] _ (HO10.out.heap (.head _)) (by rfl) _ Tryd.underlying50 rfl pl_size (by rfl) ?_) | (refine wl_store rfl _ _ _ rfl HO10.out 0 g2 0 _ [Value.string (strOfNums sch), Value.string (strOfNums hs), Value.bool un, Value.int .i64 n] _ rfl (by rfl) (by rfl) pl_size (one_p4 _ _ _ _) (by first | decide | simp) ?_; intro w11 hO; have HO11 := Lib.hid (hO.cast (L' := (g2, .cells [Value.string (strOfNums sch), Value.string (strOfNums hs), Value.bool un, Value.int .i64 n].toArray 50) :: R) rfl); clear hO HO10))
          have hr0 : w11.cell? ⟨g2, 0, none⟩ = some (Value.string (strOfNums sch)) := by rw [HO11.out.cell (.head _)]; rfl
          have hr1 : w11.cell? ⟨g2, 1, none⟩ = some (Value.string (strOfNums hs)) := by rw [HO11.out.cell (.head _)]; rfl
          have hr2 : w11.cell? ⟨g2, 2, none⟩ = some (Value.bool un) := by rw [HO11.out.cell (.head _)]; rfl
          have hr3 : w11.cell? ⟨g2, 3, none⟩ = some (Value.int .i64 n) := by rw [HO11.out.cell (.head _)]; rfl
          exact bodyPost_ret (v := .tuple #[.agg #[Value.string (strOfNums sch), Value.string (strOfNums hs), Value.bool un, Value.int .i64 n], .bool true]) (by simp [results, Tryd.results23, go_sem, hr0, hr1, hr2, hr3]) rfl ⟨rfl, HO11.out.tail⟩
end Go.Proofs.YtfgaikacijdodaaDoor
/-
  The document's own words of a list, in plain Go.
-/
namespace Go.Proofs.YtfgaikacijdodaaDoor
set_option linter.unusedVariables false
set_option linter.unusedSimpArgs false
set_option maxRecDepth 20000
open Go.RowKit

theorem str_one (s : ByteArray) (k : Nat) (h : k < s.size) : s.extract k (k + 1) = strOfNums [(sb s).getD k 0] := by
  have hk : k < (sb s).length := by rw [length_sb]; exact h
  have e : sb (s.extract k (k + 1)) = [(sb s).getD k 0] := by
    rw [sb_extract, List.take_succ_eq_append_getElem hk, List.getD_eq_getElem?_getD, List.getElem?_eq_getElem hk, Option.getD_some, List.drop_append_of_le_length (by rw [List.length_take]; omega), List.drop_of_length_le (by rw [List.length_take]; omega)]
    rfl
  rw [← e, str_sb]
theorem lit_list {m : List Int} {k : List UInt8} (h : (strOfNums m).data.toList = k) : (strOfNums m).toList = k := by rw [ByteArray.toList_eq]; exact h
theorem str_mt (l : List Int) (hB : Byt l) : ((strOfNums l).toList == []) = decide (l = []) := by
  have h := beq_str (ys := []) hB (fun x hx => by cases hx)
  rwa [lit_list (m := []) (k := []) rfl] at h
end Go.Proofs.YtfgaikacijdodaaDoor
/-
  The document's own source (of a list), in plain Go.
-/
namespace Go.Proofs.YtfgaikacijdodaaDoor
set_option linter.unusedVariables false
set_option linter.unusedSimpArgs false
set_option maxRecDepth 20000
open Go.RowKit

theorem results_tmp4 {fn : Func} {t u v x : Tmp} (h : fn.results = #[.tmp t, .tmp u, .tmp v, .tmp x]) (tmps : Array Value) (P : Program) (w : World) :
    (results fn tmps).run P w = .ok (.tuple #[tmps.getD t undef, tmps.getD u undef, tmps.getD v undef, tmps.getD x undef]) w := by
  simp [results, h]
def SL.zero : SL := ⟨[], [], []⟩
/-- What source answers. -/
def GotS (w0 : World) (R : Blks) (o : Option SL) (e : Ending) (w' : World) : Prop :=
  e = .returned (.tuple #[.string (strOfNums (o.getD SL.zero).sch), .string (strOfNums (o.getD SL.zero).host), .string (strOfNums (o.getD SL.zero).port), .bool o.isSome]) ∧ Own w0 w' R
/-- Behind the loop. -/
def SrcState (w0 : World) (R : Blks) (S : List Int) (v0 v2 v4 : Value) (wx : World) : Prop :=
  ∃ sch r, sourceL S = hostP sch r ∧ v0 = .string (strOfNums r) ∧ v2 = .string (strOfNums sch) ∧ v4 = .string ⟨#[]⟩ ∧ Own w0 wx R ∧ r.length ≤ S.length ∧ sch.length ≤ 5 ∧ Byt r ∧ (sch = [] ∨ sch = httpI ∨ sch = httpsI)
def MidV (x : Value) (W : World) (s : Value) (wx : World) : Prop := s = x ∧ wx = W
theorem star_len (h : List Int) : (starI h).length ≤ h.length := by unfold starI; split <;> (try rw [List.length_drop]) <;> omega
end Go.Proofs.YtfgaikacijdodaaDoor
/-
  The document's own 'ends', in plain Go.
-/
namespace Go.Proofs.YtfgaikacijdodaaDoor
set_option linter.unusedVariables false
set_option linter.unusedSimpArgs false
set_option maxRecDepth 20000
open Go.RowKit

end Go.Proofs.YtfgaikacijdodaaDoor
/-
  The document's own like, Match, Allows, CheckCSP, in plain Go.
-/
namespace Go.Proofs.YtfgaikacijdodaaDoor
set_option linter.unusedVariables false
set_option linter.unusedSimpArgs false
set_option maxRecDepth 20000
open Go.RowKit

theorem str_is {l : List Int} (hB : Byt l) (m : List Int) (hm : Byt m) : ((strOfNums l).toList == (strOfNums m).toList) = decide (l = m) := beq_str hB hm
theorem selfW_byt : Byt selfW := by intro x hx; simp [selfW] at hx; omega
theorem noneW_byt : Byt noneW := by intro x hx; simp [noneW] at hx; omega
structure SL.Fit (x : SL) (n : Nat) : Prop where
  schB : Byt x.sch
  hostB : Byt x.host
  portB : Byt x.port
  schL : x.sch.length ≤ 5
  hostL : x.host.length ≤ n
  portL : x.port.length ≤ n
theorem hostP_fit {sch r : List Int} {x : SL} {n : Nat} (hs : Byt sch) (hsl : sch.length ≤ 5) (hr : Byt r) (hrl : r.length ≤ n) (h : hostP sch r = some x) : x.Fit n := by
  unfold hostP at h
  split at h
  · cases h
    refine ⟨hs, ahead_byt hr, byt_drop (behind_byt hr) 1, hsl, Nat.le_trans (List.takeWhile_sublist _).length_le hrl, ?_⟩
    show ((behind [58] r).drop 1).length ≤ n
    have := Nat.le_trans (List.dropWhile_sublist (fun x => !([58] : List Int).contains x) (l := r)).length_le hrl
    unfold behind
    rw [List.length_drop]; omega
  · cases h
theorem sourceL_fit {S : List Int} {x : SL} (hB : Byt S) (h : sourceL S = some x) : x.Fit S.length := by
  unfold sourceL at h
  split at h
  · cases h; exact ⟨http_byt, (fun x hx => by cases hx), (fun x hx => by cases hx), by decide, Nat.zero_le _, Nat.zero_le _⟩
  · split at h
    · exact hostP_fit http_byt (by decide) (byt_drop hB _) (by rw [List.length_drop]; omega) h
    · split at h
      · cases h; exact ⟨https_byt, (fun x hx => by cases hx), (fun x hx => by cases hx), by decide, Nat.zero_le _, Nat.zero_le _⟩
      · split at h
        · exact hostP_fit https_byt (by decide) (byt_drop hB _) (by rw [List.length_drop]; omega) h
        · exact hostP_fit (fun x hx => by cases hx) (by decide) hB (Nat.le_refl _) h
theorem sourceI_fit {s : ByteArray} {x : SL} (h : sourceI (sb s) = some x) : x.Fit s.size := by
  have := sourceL_fit (lowL_byt (byt_sb s)) h
  unfold lowL at this
  rwa [List.length_map, length_sb] at this
theorem UL.Half.origB' {u : UL} (h : u.Half) : Byt (originI u) := by
  unfold originI
  refine byt_append (byt_append (byt_append h.schB ?_) h.hostB) ?_
  · intro x hx; simp at hx; omega
  · split
    · intro x hx
      rcases List.mem_cons.1 hx with rfl | hx
      · omega
      · exact digs_byt _ x hx
    · intro x hx; cases hx
end Go.Proofs.YtfgaikacijdodaaDoor
/-
  The document's own Allows, CheckCSP, in plain Go.
-/
namespace Go.Proofs.YtfgaikacijdodaaDoor
set_option linter.unusedVariables false
set_option linter.unusedSimpArgs false
set_option maxRecDepth 20000
open Go.RowKit

theorem IsStrs.form {v : Value} {ss : List ByteArray} {L : Blks} (h : IsStrs v ss L) : ∃ A c, v = .slice A ss.length c ∧ ss.length ≤ c ∧ (0 < ss.length → ∃ g, A = some ⟨g, 0, none⟩ ∧ ∀ (w0 w : World) (R : Blks), Own w0 w (L ++ R) → ∀ (j : Nat) x, ss[j]? = some x → w.cell? ⟨g, j, none⟩ = some (.string x)) := by
  have h0 := h
  rcases h.2 with ⟨hv, hn, hL⟩ | ⟨g, cap, sp, hv, hL, hl, hn, hm⟩
  · subst hv
    have hn' : ss.length = 0 := by simpa using hn
    exact ⟨none, 0, by rw [hn'], by omega, fun h => by omega⟩
  · subst hv
    refine ⟨some ⟨g, 0, none⟩, cap, rfl, hn, fun _ => ⟨g, rfl, fun w0 w R hO j x hx => ?_⟩⟩
    obtain ⟨A', n', c', e, hn', _, hA⟩ := h0.vs hO
    cases e
    obtain ⟨ad, e, hcell⟩ := hA (by have := (List.getElem?_eq_some_iff.1 hx).1; omega)
    cases e
    have := hcell j (.string x) (by simp only [sv, List.getElem?_map, hx, Option.map_some])
    rw [addr_add_zero] at this
    exact this
theorem words_at {W : List (List Int)} {k : Nat} (h : k < W.length) : (W.map strOfNums)[k]? = some (strOfNums (W.getD k [])) := by
  rw [List.getElem?_map, List.getElem?_eq_getElem h, Option.map_some, List.getD_eq_getElem?_getD, List.getElem?_eq_getElem h]; rfl
theorem words_take {W : List (List Int)} {k : Nat} (h : k < W.length) : W.take (k + 1) = W.take k ++ [W.getD k []] := by
  rw [List.take_succ_eq_append_getElem h, List.getD_eq_getElem?_getD, List.getElem?_eq_getElem h]; rfl
theorem words_mem {W : List (List Int)} {k : Nat} (h : k < W.length) : W.getD k [] ∈ W := by
  rw [List.getD_eq_getElem?_getD, List.getElem?_eq_getElem h]; exact List.getElem_mem h
end Go.Proofs.YtfgaikacijdodaaDoor
/-
  The landed program's isSource and Check.
-/
namespace Go.Proofs.YtfgaikacijdodaaDoor
set_option linter.unusedVariables false
set_option linter.unusedSimpArgs false
set_option maxRecDepth 20000
open Go.RowKit

theorem src_http : sourceL (httpI ++ [58]) = some ⟨httpI, [], []⟩ := by
  unfold sourceL
  rw [if_pos rfl]
theorem src_https : sourceL (httpsI ++ [58]) = some ⟨httpsI, [], []⟩ := by
  unfold sourceL
  rw [if_neg (by decide), if_neg (by decide), if_pos rfl]
def isSrcG (l : List Int) : Bool := decide (l = noneW) || (decide (l = selfW) || (decide (l = [42]) || (decide (l = httpI ++ [58]) || (decide (l = httpsI ++ [58]) || (placeG l).isSome))))
theorem isSrcG_is (x : List Int) : isSrcG (lowL x) = true ↔ ((sourceI x).isSome ∨ lowL x = noneW ∨ lowL x = selfW ∨ lowL x = [42]) := by
  unfold isSrcG sourceI
  generalize lowL x = l
  simp only [Bool.or_eq_true, decide_eq_true_iff]
  by_cases h1 : l = httpI ++ [58]
  · subst h1
    exact ⟨fun _ => .inl (by rw [src_http]; rfl), fun _ => .inr (.inr (.inr (.inl rfl)))⟩
  · by_cases h2 : l = httpsI ++ [58]
    · subst h2
      exact ⟨fun _ => .inl (by rw [src_https]; rfl), fun _ => .inr (.inr (.inr (.inr (.inl rfl))))⟩
    · rw [place_is h1 h2, Option.isSome_map]
      constructor
      · rintro (h | h | h | h | h | h)
        · exact .inr (.inl h)
        · exact .inr (.inr (.inl h))
        · exact .inr (.inr (.inr h))
        · exact absurd h h1
        · exact absurd h h2
        · exact .inl h
      · rintro (h | h | h | h)
        · exact .inr (.inr (.inr (.inr (.inr h))))
        · exact .inl h
        · exact .inr (.inl h)
        · exact .inr (.inr (.inl h))
theorem PL.val_form (p : PL) : p.val = [Value.string (strOfNums p.sch), Value.string (strOfNums p.host), Value.bool p.under, Value.int .i64 p.port] := rfl
set_option maxHeartbeats 8000000 in
theorem cissource_c {w0 w : World} {R : Blks} (hV : VarsOk w0) (hO : Own w0 w R) (s : ByteArray) (hs : s.size ≤ 4000000) :
    Calls Tryd.prog 28 #[.string s] w fun e w' => e = .returned (.bool (isSrcG (lowL (sb s)))) ∧ Own w0 w' R := by
  have hlow := fun (w1 : World) (R1 : Blks) (h : Own w0 w1 R1) => lower_c h s (by omega)
  have hlB : Byt (lowL (sb s)) := lowL_byt (byt_sb s)
  have hll : (lowL (sb s)).length ≤ 4000000 := by unfold lowL; rw [List.length_map, length_sb]; exact hs
  generalize lowL (sb s) = l at *
  have hpl := fun (w1 : World) (R1 : Blks) (h : Own w0 w1 R1) => creadplace_c hV h (strOfNums l) (by rw [strOfNums_size]; exact hll)
  rw [sb_str hlB] at hpl
  have t1 := beq_litC (strOfNums l) [39, 110, 111, 110, 101, 39] noneW rfl
  rw [sb_str hlB] at t1
  have t2 := beq_litC (strOfNums l) [39, 115, 101, 108, 102, 39] selfW rfl
  rw [sb_str hlB] at t2
  have t3 := beq_litC (strOfNums l) [42] [42] rfl
  rw [sb_str hlB] at t3
  have t4 := beq_litC (strOfNums l) [104, 116, 116, 112, 58] (httpI ++ [58]) rfl
  rw [sb_str hlB] at t4
  have t5 := beq_litC (strOfNums l) [104, 116, 116, 112, 115, 58] (httpsI ++ [58]) rfl
  rw [sb_str hlB] at t5
  unfold isSrcG
  obtain ⟨b1, hb1⟩ : ∃ b, decide (l = noneW) = b := ⟨_, rfl⟩
  rw [hb1] at t1 ⊢
  obtain ⟨b2, hb2⟩ : ∃ b, decide (l = selfW) = b := ⟨_, rfl⟩
  rw [hb2] at t2 ⊢
  obtain ⟨b3, hb3⟩ : ∃ b, decide (l = [42]) = b := ⟨_, rfl⟩
  rw [hb3] at t3 ⊢
  obtain ⟨b4, hb4⟩ : ∃ b, decide (l = httpI ++ [58]) = b := ⟨_, rfl⟩
  rw [hb4] at t4 ⊢
  obtain ⟨b5, hb5⟩ : ∃ b, decide (l = httpsI ++ [58]) = b := ⟨_, rfl⟩
  rw [hb5] at t5 ⊢
  unfold GotPl at hpl
  simp only [PL.val_form] at hpl
  generalize placeG l = o at *
  generalize strOfNums (o.getD PL.zero).sch = qs at *
  generalize strOfNums (o.getD PL.zero).host = qh at *
  generalize (o.getD PL.zero).under = qu at *
  generalize (o.getD PL.zero).port = qp at *
  generalize o.isSome = ok at *
  generalize strOfNums l = X at *
  have HO := Lib.hid hO; have HL := Lib.hid hlow; have HP := Lib.hid hpl
  clear hO hlow hpl hlB hll hb1 hb2 hb3 hb4 hb5 hV
  go_enter Tryd.func28, Tryd.ntmps28
  go_wp2_with fail
  with_reducible refine (HL.out _ _ HO.out).mono ?_
  rintro e w1 ⟨rfl, hO⟩
  have HO1 := Lib.hid hO; clear hO HO HL
  cases b1 with
  | true =>
    go_wp2
    go_ret
    exact ⟨by simp, HO1.out⟩
  | false =>
    cases b2 with
    | true =>
      go_wp2
      go_ret
      exact ⟨by simp, HO1.out⟩
    | false =>
      cases b3 with
      | true =>
        go_wp2
        go_ret
        exact ⟨by simp, HO1.out⟩
      | false =>
        cases b4 with
        | true =>
          go_wp2
          go_ret
          exact ⟨by simp, HO1.out⟩
        | false =>
          cases b5 with
          | true =>
            go_wp2
            go_ret
            exact ⟨by simp, HO1.out⟩
          | false =>
            go_wp2_with fail
            with_reducible refine (HP.out _ _ HO1.out).mono ?_
            rintro e w2 ⟨rfl, hO⟩
            have HO2 := Lib.hid hO; clear hO HO1 HP
            go_wp2_with (first | (refine wl_alloc rfl _ rfl HO2.out _ (alloc_pl _) ?_; intro g3 w3 hO; have HO3 := Lib.hid hO; clear hO HO2) | (refine wl_store rfl _ _ _ rfl HO3.out 0 g3 0 _ [Value.string qs, Value.string qh, Value.bool qu, Value.int .i64 qp] _ rfl (by rfl) (by rfl) pl_size (one_p4 _ _ _ _) (by first | decide | simp [PL.val, PL.zero]) ?_; intro w4 hO; have HO4 := Lib.hid (hO.cast (L' := (g3, .cells [Value.string qs, Value.string qh, Value.bool qu, Value.int .i64 qp].toArray 50) :: R) rfl); clear hO HO3))
            go_ret
            exact ⟨rfl, HO4.out.tail⟩

def errC (b : Bool) : Int := if b then 0 else 1
set_option maxRecDepth 100000 in
set_option maxHeartbeats 16000000 in
theorem ccheck_c {w0 w : World} {R : Blks} (hV : VarsOk w0) (hO : Own w0 w R) (s : ByteArray) (hs : s.size ≤ 1073741824) :
    Calls Tryd.prog 9 #[.string s] w fun e w' => e = .returned (.int .i64 (errC (checkI (sb s)))) ∧ Own w0 w' R := by
  have hwd := fun (w1 : World) (R1 : Blks) (h : Own w0 w1 R1) => csplit_c h s (by omega)
  have hwB := wordsI_byt (byt_sb s)
  have hwl := wordsF_len (sb s) []
  rw [length_sb] at hwl
  obtain ⟨ans, hans⟩ : ∃ ans, checkI (sb s) = ans := ⟨_, rfl⟩
  rw [hans]
  unfold checkI at hans
  rw [length_sb] at hans
  unfold wordsI at hwd hwB hans
  generalize wordsF [] (sb s) = W at *
  have HWD := Lib.hid hwd; have HWB := Lib.hid hwB; have HANS := Lib.hid hans; have HWL0 := Lib.hid hwl
  have HO := Lib.hid hO; have HV := Lib.hid hV
  clear hwd hwB hans hwl hO hV
  by_cases h40 : 40 < s.size
  · have h40I : (40 : Int) < s.size := by omega
    have HE : Hid (ans = false) := Lib.hid (by rw [← HANS.out, decide_eq_false (by omega)]; rfl)
    go_enter Tryd.func9, Tryd.ntmps9
    go_wp2
    go_ret
    exact ⟨by rw [HE.out]; rfl, HO.out⟩
  · have h40I : ¬ (40 : Int) < s.size := by omega
    have HANS2 : Hid ((W.all fun w => decide (WordOk W.length w)) = ans) := Lib.hid (by rw [← HANS.out, decide_eq_true (by omega), Bool.true_and])
    have HWL : Hid (∀ x ∈ W, x.length ≤ 40) := Lib.hid (fun x hx => by have := (HWL0.out.2 x hx).2.1; simp at this; omega)
    have hN : W.length ≤ 41 := by have := HWL0.out.1; omega
    clear HANS HWL0
    go_enter Tryd.func9, Tryd.ntmps9
    go_wp2_with fail
    with_reducible refine (HWD.out _ _ HO.out).mono ?_
    rintro e w3 ⟨v, L, rfl, hv, hO⟩
    have HO3 := Lib.hid hO; clear hO HO HWD
    obtain ⟨A, c, hve, hcc, hcells⟩ := hv.form
    rw [List.length_map] at hve hcc hcells
    subst hve
    obtain ⟨N, hNe⟩ : ∃ N, W.length = N := ⟨_, rfl⟩
    rw [hNe] at hN hcc hcells ⊢
    have HC := Lib.hid hcells; have HNE := Lib.hid hNe
    clear hv hcells hNe h40 h40I
    go_wp2
    go_loopw [13] (fun t w' => ∃ k : Nat, k ≤ N ∧ t = .int .i64 k ∧ Hid (∀ x ∈ W.take k, WordOk N x) ∧ Hid (Own w0 w' (L ++ R))) (fun t _ => N - (intOf t).toNat)
    case atStart => exact ⟨0, Nat.zero_le _, rfl, Lib.hid (fun x hx => by rw [List.take_zero] at hx; cases hx), HO3⟩
    case round =>
      obtain ⟨k, hk, rfl, HS, HO4⟩ := hrel
      clear HO3
      by_cases hlt : k < N
      · have hkn : (k : Int) < N := by omega
        have hkl : k < W.length := by rw [HNE.out]; exact hlt
        obtain ⟨g, rfl, hcell⟩ := HC.out (by omega)
        have hc := hcell _ _ _ HO4.out k _ (words_at hkl)
        have htk := words_take hkl
        have hmem := words_mem hkl
        generalize W.getD k [] = x at *
        have hxB := HWB.out x hmem
        have hxl := HWL.out x hmem
        have hlow := fun (w1 : World) (R1 : Blks) (h : Own w0 w1 R1) => lower_c h (strOfNums x) (by rw [strOfNums_size]; omega)
        rw [sb_str hxB] at hlow
        have hsrc := fun (w1 : World) (R1 : Blks) (h : Own w0 w1 R1) => cissource_c HV.out h (strOfNums x) (by rw [strOfNums_size]; omega)
        rw [sb_str hxB] at hsrc
        have hlB := lowL_byt hxB
        have t1 := beq_litC (strOfNums (lowL x)) [39, 110, 111, 110, 101, 39] noneW rfl
        rw [sb_str hlB] at t1
        obtain ⟨b1, hb1⟩ : ∃ b, decide (lowL x = noneW) = b := ⟨_, rfl⟩
        obtain ⟨b4, hb4⟩ : ∃ b, isSrcG (lowL x) = b := ⟨_, rfl⟩
        have hok : WordOk N x ↔ (b1 = true → N ≤ 1) ∧ b4 = true := by
          unfold WordOk
          rw [← isSrcG_is x, ← hb1, ← hb4, decide_eq_true_iff]
        rw [hb1] at t1
        rw [hb4] at hsrc
        generalize strOfNums (lowL x) = X at *
        have hno : ¬ WordOk N x → ans = false := fun h => by
          rw [← HANS2.out, List.all_eq_false]
          exact ⟨x, hmem, by rw [HNE.out]; simpa using h⟩
        have hyes : WordOk N x → ∀ y ∈ W.take (k + 1), WordOk N y := fun h y hy => by
          rw [htk] at hy
          rcases List.mem_append.1 hy with hy | hy
          · exact HS.out y hy
          · rw [List.mem_singleton.1 hy]; exact h
        have HLOW := Lib.hid hlow; have HSRC := Lib.hid hsrc; have HOK := Lib.hid hok; have HNO := Lib.hid hno; have HYES := Lib.hid hyes
        clear hlow hsrc hok hno hyes hb1 hb4 hlB hxB hxl hmem htk hcell hkl HS
        go_wp2_with fail
        with_reducible refine (HSRC.out _ _ HO4.out).mono ?_
        rintro e w4 ⟨rfl, hO⟩
        have HO5 := Lib.hid hO; clear hO HO4 HSRC hc
        cases b4 with
        | false =>
          have HE := Lib.hid (HNO.out (fun h => by have := (HOK.out.1 h).2; cases this))
          go_wp2
          go_ret
          exact ⟨by rw [HE.out]; rfl, HO5.out.right⟩
        | true =>
          by_cases hn1 : (1 : Int) < N
          · go_wp2_with fail
            with_reducible refine (HLOW.out _ _ HO5.out).mono ?_
            rintro e w5 ⟨rfl, hO⟩
            have HO6 := Lib.hid hO; clear hO HO5 HLOW
            cases b1 with
            | true =>
              have HE := Lib.hid (HNO.out (fun h => by have := (HOK.out.1 h).1 rfl; omega))
              go_wp2
              go_ret
              exact ⟨by rw [HE.out]; rfl, HO6.out.right⟩
            | false =>
              have HY := Lib.hid (HYES.out (HOK.out.2 ⟨(fun h => by cases h), by trivial⟩))
              go_wp2
              go_roundw
              case rel => exact ⟨k + 1, by omega, by go_num, HY, HO6⟩
              case measure => simp [intOf]; omega
          · have HY := Lib.hid (HYES.out (HOK.out.2 ⟨(fun _ => by omega), by trivial⟩))
            go_wp2
            go_roundw
            case rel => exact ⟨k + 1, by omega, by go_num, HY, HO5⟩
            case measure => simp [intOf]; omega
      · obtain rfl : k = N := by omega
        have hkn : ¬ (k : Int) < k := by omega
        have hall := HS.out
        rw [List.take_of_length_le (by rw [HNE.out]; exact Nat.le_refl _)] at hall
        have HE : Hid (ans = true) := Lib.hid (by
          rw [← HANS2.out, List.all_eq_true]
          intro y hy
          rw [HNE.out]
          exact decide_eq_true (hall y hy))
        clear hall HS
        go_wp2
        go_ret
        exact ⟨by rw [HE.out]; rfl, HO4.out.right⟩
end Go.Proofs.YtfgaikacijdodaaDoor
