/-
  The document's own Digits, Origin, Print, SameOrigin, Secure.
-/
import Derived.Test.YtakihnmajgmnpaaDoorUrl2
namespace Go.Proofs.YtakihnmajgmnpaaDoor
set_option linter.unusedVariables false
set_option linter.unusedSimpArgs false
set_option maxRecDepth 20000
open Go.RowKit

theorem strs_app (x y : List Int) : strOfNums (x ++ y) = strOfNums x ++ strOfNums y := by
  apply ba_ext
  simp [strOfNums_data]
theorem drewN_drew (w : World) (m : Nat) : w.drew.drewN m = w.drewN (m + 1) := by
  show ({ w with drawn := w.drawn + 1 + m } : World) = { w with drawn := w.drawn + (m + 1) }
  congr 1; omega
theorem digs_at (k : Nat) (h : k < 10) : ∃ d : ByteArray, ∀ w : World, (Instr.slice 9 (.string ⟨#[48, 49, 50, 51, 52, 53, 54, 55, 56, 57]⟩) (some (.int .i64 (k : Int))) none none).run Tryd.prog w = .ok (.string d) w ∧ (Instr.slice 9 (.string d) none (some (.int .i64 1)) none).run Tryd.prog w = .ok (.string (strOfNums [48 + (k : Int)])) w := by
  rcases (by omega : k = 0 ∨ k = 1 ∨ k = 2 ∨ k = 3 ∨ k = 4 ∨ k = 5 ∨ k = 6 ∨ k = 7 ∨ k = 8 ∨ k = 9) with rfl | rfl | rfl | rfl | rfl | rfl | rfl | rfl | rfl | rfl
  · exact ⟨⟨#[48, 49, 50, 51, 52, 53, 54, 55, 56, 57]⟩, fun w => ⟨by kernel_rfl, by kernel_rfl⟩⟩
  · exact ⟨⟨#[49, 50, 51, 52, 53, 54, 55, 56, 57]⟩, fun w => ⟨by kernel_rfl, by kernel_rfl⟩⟩
  · exact ⟨⟨#[50, 51, 52, 53, 54, 55, 56, 57]⟩, fun w => ⟨by kernel_rfl, by kernel_rfl⟩⟩
  · exact ⟨⟨#[51, 52, 53, 54, 55, 56, 57]⟩, fun w => ⟨by kernel_rfl, by kernel_rfl⟩⟩
  · exact ⟨⟨#[52, 53, 54, 55, 56, 57]⟩, fun w => ⟨by kernel_rfl, by kernel_rfl⟩⟩
  · exact ⟨⟨#[53, 54, 55, 56, 57]⟩, fun w => ⟨by kernel_rfl, by kernel_rfl⟩⟩
  · exact ⟨⟨#[54, 55, 56, 57]⟩, fun w => ⟨by kernel_rfl, by kernel_rfl⟩⟩
  · exact ⟨⟨#[55, 56, 57]⟩, fun w => ⟨by kernel_rfl, by kernel_rfl⟩⟩
  · exact ⟨⟨#[56, 57]⟩, fun w => ⟨by kernel_rfl, by kernel_rfl⟩⟩
  · exact ⟨⟨#[57]⟩, fun w => ⟨by kernel_rfl, by kernel_rfl⟩⟩
set_option maxHeartbeats 2000000 in
theorem digits_c : ∀ (n : Nat), n < 1000000000000000000 → ∀ (w : World), Calls Tryd.prog 25 #[.int .i64 (n : Int)] w (Quiet w (.string (strOfNums (digs n)))) := by
  intro n
  induction n using Nat.strongRecOn with
  | ind n ih =>
    intro hn w
    by_cases h : n < 10
    · obtain ⟨d, h12⟩ := digs_at n h
      obtain ⟨h1, h2⟩ := h12 w
      clear h12
      rw [digs_small h]
      have h' : (n : Int) < 10 := by omega
      clear ih
      go_enter Tryd.func25, Tryd.ntmps25
      go_wp2
      go_ret
      exact ⟨rfl, 0, rfl⟩
    · have h' : ¬ ((n : Int) < 10) := by omega
      have hst := digs_step (n := n) (by omega) (by omega)
      have hc := ih (n / 10) (by omega) (by omega)
      have hd : ∃ d : ByteArray, ∀ w' : World, (Instr.slice 9 (.string ⟨#[48, 49, 50, 51, 52, 53, 54, 55, 56, 57]⟩) (some (.int .i64 ((n % 10 : Nat) : Int))) none none).run Tryd.prog w' = .ok (.string d) w' ∧ (Instr.slice 9 (.string d) none (some (.int .i64 1)) none).run Tryd.prog w' = .ok (.string (strOfNums [48 + ((n % 10 : Nat) : Int)])) w' := digs_at (n % 10) (by omega)
      have e1 : ((n / 10 : Nat) : Int) = (n : Int) / 10 := by omega
      have e2 : ((n % 10 : Nat) : Int) = (n : Int) % 10 := by omega
      have q1 : (n : Int).tdiv 10 = (n : Int) / 10 := Int.tdiv_eq_ediv_of_nonneg (by omega)
      have q2 : (n : Int).tmod 10 = (n : Int) % 10 := Int.tmod_eq_emod_of_nonneg (by omega)
      rw [hst]
      have hl := (digs_len (n / 10)).2
      have hl1 : (strOfNums (digs (n / 10))).size ≤ 21 := by rw [strOfNums_size]; exact hl
      have hl2 : (strOfNums [48 + ((n % 10 : Nat) : Int)]).size = 1 := strOfNums_size _
      rw [strs_app]
      rw [e1] at hc
      rw [e2] at hd hl2
      rw [e2]
      generalize strOfNums [48 + (n : Int) % 10] = d1 at *
      generalize strOfNums (digs (n / 10)) = d2 at *
      obtain ⟨d, hd⟩ := hd
      have hcw : ∀ w', _ := fun w' => hc w'
      have HC := Lib.hid hc; have HD := Lib.hid hd
      have hnn : (0 : Int) ≤ n := by omega
      have hnb : (n : Int) < 1000000000000000000 := by omega
      clear hst hc hd e1 e2 ih hl h hcw hn
      go_enter Tryd.func25, Tryd.ntmps25
      go_wp2_with fail
      refine wp_region_lin (fun w' => ∃ m, w' = w.drewN m) 9 [(0, true), (1, true), (3, true), (4, true), (5, true), (6, true), (2, false), (7, true), (8, true)] (by kernel_rfl) (by kernel_rfl) (fun _ _ d _ _ h => by cases d <;> exact h) ⟨1, rfl⟩ ?_
      simp only [List.map_cons, List.map_nil, pick_zero, pick_succ, List.drop_succ_cons, List.drop_zero]
      have k1 : IntKind.i64.wrap ((n : Int) / 10) = (n : Int) / 10 := IntWalk.i64_in _ (by omega)
      have k2 : IntKind.i64.wrap ((n : Int) % 10) = (n : Int) % 10 := IntWalk.i64_in _ (by omega)
      iterate 6 (refine lin_q ?_ rfl ?_ ?_; rotate_left 1; (focus (rintro w' -; obtain ⟨i1, i2⟩ := HD.out w'; go_simp; first | done | with_reducible rfl | (trace_state; fail))); simp only [Act.put, List.setIfInBounds_toArray, List.set_cons_zero, List.set_cons_succ])
      refine lin_act ?_
      refine wl_call rfl _ _ _ (by go_simp) (HC.out _) ?_
      rintro e w3 ⟨rfl, m3, rfl⟩
      refine ⟨_, rfl, LinPost.mk ⟨m3 + 1, drewN_drew w m3⟩ ?_⟩
      simp only [Act.put, List.setIfInBounds_toArray, List.set_cons_zero, List.set_cons_succ]
      have q6 : ¬ (9223372036854775807 < d2.size + 1) := by omega
      iterate 2 (refine lin_q ?_ rfl ?_ ?_; rotate_left 1; (focus (rintro w' -; go_simp; first | done | with_reducible rfl | (trace_state; fail))); simp only [Act.put, List.setIfInBounds_toArray, List.set_cons_zero, List.set_cons_succ])
      refine lin_nil ?_
      go_wp2
      go_ret
      exact ⟨rfl, m3 + 1, drewN_drew w m3⟩
/-- A URL as a value. -/
def UL.val (u : UL) : List Value := [.string (strOfNums u.sch), .string (strOfNums u.host), .int .i64 u.port, .string (strOfNums u.path), .string (strOfNums u.query)]
def UL.Ok (u : UL) : Prop := u.sch.length ≤ 1000000000 ∧ u.host.length ≤ 1000000000 ∧ u.path.length ≤ 1000000000 ∧ u.query.length ≤ 1000000000 ∧ 0 ≤ u.port ∧ u.port < 1000000000000000000
theorem originI_len {u : UL} (h : u.Ok) : (originI u).length ≤ 2000000025 := by
  unfold originI
  have := (digs_len u.port.toNat).2
  have h1 := h.1; have h2 := h.2.1
  split <;> simp <;> omega
set_option maxHeartbeats 2000000 in
theorem rorigin_c {w0 w : World} {R : Blks} (hO : Own w0 w R) (u : UL) (hu : u.Ok) : Calls Tryd.prog 22 #[.agg u.val.toArray] w fun e w' => e = .returned (.string (strOfNums (originI u))) ∧ Own w0 w' R := by
  obtain ⟨sch, host, port, path, query⟩ := u
  obtain ⟨a1, a2, a3, a4, a5, a6⟩ := hu
  simp only at a1 a2 a3 a4 a5 a6
  obtain ⟨p, rfl⟩ : ∃ p : Nat, port = p := ⟨port.toNat, by omega⟩
  have HO := Lib.hid hO
  have e1 : strOfNums (originI ⟨sch, host, (p : Int), path, query⟩) = strOfNums sch ++ ⟨#[58, 47, 47]⟩ ++ strOfNums host ++ (if (0 : Int) < p then ⟨#[58]⟩ ++ strOfNums (digs p) else ⟨#[]⟩) := by
    unfold originI
    rw [strs_app, strs_app, strs_app]
    congr 1
    split
    · rw [Int.toNat_natCast, show (58 : Int) :: digs p = [58] ++ digs p from rfl, strs_app]; rfl
    · rfl
  have s1 : (strOfNums sch).size ≤ 1000000000 := by rw [strOfNums_size]; exact a1
  have s2 : (strOfNums host).size ≤ 1000000000 := by rw [strOfNums_size]; exact a2
  have s3 : (strOfNums (digs p)).size ≤ 21 := by rw [strOfNums_size]; exact (digs_len _).2
  have hd := digits_c p (by omega)
  unfold UL.val
  rw [e1]
  simp only
  clear e1
  generalize strOfNums sch = t1 at *
  generalize strOfNums host = t2 at *
  generalize strOfNums (digs p) = t3 at *
  generalize strOfNums path = t4 at *
  generalize strOfNums query = t5 at *
  have HD := Lib.hid hd
  have n1 : ¬ (9223372036854775807 < t1.size + 3) := by omega
  have n2 : ¬ (9223372036854775807 < t1.size + 3 + t2.size) := by omega
  have n3 : ¬ (9223372036854775807 < 1 + t3.size) := by omega
  have n4 : ¬ (9223372036854775807 < t1.size + 3 + t2.size + (1 + t3.size)) := by omega
  clear hO a1 a2 a3 a4 a5 a6 hd s1 s2 s3
  by_cases h0 : 0 < p
  · have h0' : (0 : Int) < p := by omega
    rw [if_pos h0']
    go_enter Tryd.func22, Tryd.ntmps22
    go_wp2_with (refine wl_box rfl _ _ rfl HO.out _ (by rfl) ?_; intro g w1 hO1; have HO1 := Lib.hid hO1; have c0 : w1.cell? ⟨g, 0, none⟩ = some (.string t1) := (by rw [hO1.cell (.head _)]; rfl); have c1 : w1.cell? ⟨g, 1, none⟩ = some (.string t2) := (by rw [hO1.cell (.head _)]; rfl); have c2 : w1.cell? ⟨g, 2, none⟩ = some (.int .i64 (p : Int)) := (by rw [hO1.cell (.head _)]; rfl); clear hO1 HO)
    with_reducible refine (HD.out w1).mono ?_
    rintro e w2 ⟨rfl, m2, rfl⟩
    have HO2 := Lib.hid (HO1.out.tail.drewN m2)
    clear c0 c1 c2 HO1
    go_wp2
    go_ret
    exact ⟨rfl, HO2.out⟩
  · have h0' : ¬ ((0 : Int) < p) := by omega
    rw [if_neg h0']
    have en : ∀ x : ByteArray, x ++ ⟨#[]⟩ = x := fun x => by apply sb_inj; rw [sb_append, sb_empty, List.append_nil]
    rw [en]
    clear en
    go_enter Tryd.func22, Tryd.ntmps22
    go_wp2_with (refine wl_box rfl _ _ rfl HO.out _ (by rfl) ?_; intro g w1 hO1; have HO1 := Lib.hid hO1; have c0 : w1.cell? ⟨g, 0, none⟩ = some (.string t1) := (by rw [hO1.cell (.head _)]; rfl); have c1 : w1.cell? ⟨g, 1, none⟩ = some (.string t2) := (by rw [hO1.cell (.head _)]; rfl); have c2 : w1.cell? ⟨g, 2, none⟩ = some (.int .i64 (p : Int)) := (by rw [hO1.cell (.head _)]; rfl); clear hO1 HO)
    go_ret
    exact ⟨rfl, HO1.out.tail⟩
def printS (u : UL) : ByteArray := strOfNums (printI u)
theorem printI_len {u : UL} (h : u.Ok) : (printI u).length ≤ 4000000025 := by
  unfold printI
  have := originI_len h
  have h1 := h.2.2.1; have h2 := h.2.2.2.1
  simp; omega
theorem rurl_size : (Tryd.prog.info? 42).map (·.size) = some 5 := by kernel_rfl
set_option maxHeartbeats 2000000 in
theorem rprint_c {w0 w : World} {R : Blks} (hO : Own w0 w R) (u : UL) (hu : u.Ok) : Calls Tryd.prog 21 #[.agg u.val.toArray] w fun e w' => e = .returned (.string (strOfNums (printI u))) ∧ Own w0 w' R := by
  have HO := Lib.hid hO
  have hor : ∀ (w1 : World) (R1 : Blks), Own w0 w1 R1 → _ := fun w1 R1 h => rorigin_c h u hu
  have e1 : strOfNums (printI u) = strOfNums (originI u) ++ strOfNums u.path ++ strOfNums u.query := by unfold printI; rw [strs_app, strs_app]
  have s0 : (strOfNums (originI u)).size ≤ 2000000025 := by rw [strOfNums_size]; exact originI_len hu
  obtain ⟨a1, a2, a3, a4, a5, a6⟩ := hu
  have s1 : (strOfNums u.path).size ≤ 1000000000 := by rw [strOfNums_size]; exact a3
  have s2 : (strOfNums u.query).size ≤ 1000000000 := by rw [strOfNums_size]; exact a4
  rw [e1]
  unfold UL.val at *
  generalize strOfNums (originI u) = t0 at *
  generalize strOfNums u.sch = t1 at *
  generalize strOfNums u.host = t2 at *
  generalize strOfNums u.path = t4 at *
  generalize strOfNums u.query = t5 at *
  generalize u.port = p at *
  have HOR := Lib.hid hor
  have n1 : ¬ (9223372036854775807 < t0.size + t4.size) := by omega
  have n2 : ¬ (9223372036854775807 < t0.size + t4.size + t5.size) := by omega
  clear hO hor a1 a2 a3 a4 a5 a6 e1 s0 s1 s2
  go_enter Tryd.func21, Tryd.ntmps21
  go_wp2_with (refine wl_box rfl _ _ rfl HO.out _ (by rfl) ?_; intro g w1 hO1; have HO1 := Lib.hid hO1; clear hO1 HO)
  refine wp_region_lin (fun w' => w'.heap[g]? = some (.cells [Value.string t1, Value.string t2, Value.int .i64 p, Value.string t4, Value.string t5].toArray 42)) 9 [(0, true), (2, true), (3, true), (5, true), (6, true), (1, false), (4, true), (7, true), (8, true)] (by kernel_rfl) (by kernel_rfl) (fun _ _ d _ _ h => by cases d <;> exact h) (HO1.out.drew.heap (.head _)) ?_
  simp only [List.map_cons, List.map_nil, pick_zero, pick_succ, List.drop_succ_cons, List.drop_zero]
  refine lin_load rfl _ _ rfl g 0 [Value.string t1, Value.string t2, Value.int .i64 p, Value.string t4, Value.string t5] [Value.string t1, Value.string t2, Value.int .i64 p, Value.string t4, Value.string t5] 42 (by rfl) _ Tryd.underlying42 rfl rurl_size (by rfl) (fun w' ew => ew) ?_
  simp only [Act.put, List.setIfInBounds_toArray, List.set_cons_zero, List.set_cons_succ]
  iterate 4 (refine lin_q ?_ rfl ?_ ?_; rotate_left 1; (focus (rintro w' hw; have c3 : w'.cell? ⟨g, 3, none⟩ = some (.string t4) := (by rw [cell_of_row w' g 3 _ _ (0, 0) hw]; rfl); have c4 : w'.cell? ⟨g, 4, none⟩ = some (.string t5) := (by rw [cell_of_row w' g 4 _ _ (0, 0) hw]; rfl); clear hw; go_simp; first | done | with_reducible rfl | (trace_state; fail))); simp only [Act.put, List.setIfInBounds_toArray, List.set_cons_zero, List.set_cons_succ])
  refine lin_act ?_
  refine wl_call rfl _ _ _ (by go_simp) (HOR.out _ _ HO1.out.drew) ?_
  rintro e w3 ⟨rfl, hO3⟩
  refine ⟨_, rfl, LinPost.mk (hO3.heap (.head _)) ?_⟩
  have HO3 := Lib.hid hO3.tail
  clear hO3 HO1 HOR
  simp only [Act.put, List.setIfInBounds_toArray, List.set_cons_zero, List.set_cons_succ]
  iterate 3 (refine lin_q ?_ rfl ?_ ?_; rotate_left 1; (focus (rintro w' -; go_simp; first | done | with_reducible rfl | (trace_state; fail))); simp only [Act.put, List.setIfInBounds_toArray, List.set_cons_zero, List.set_cons_succ])
  refine lin_nil ?_
  go_wp2
  go_ret
  exact ⟨rfl, HO3.out⟩
set_option maxHeartbeats 2000000 in
theorem rsame_c {w0 w : World} {R : Blks} (hO : Own w0 w R) (u v : UL) (hu : u.Ok) (hv : v.Ok) : Calls Tryd.prog 24 #[.agg u.val.toArray, .agg v.val.toArray] w fun e w' => e = .returned (.bool ((strOfNums (originI u)).toList == (strOfNums (originI v)).toList)) ∧ Own w0 w' R := by
  have HO := Lib.hid hO
  have hor : ∀ (w1 : World) (R1 : Blks), Own w0 w1 R1 → _ := fun w1 R1 h => rorigin_c h u hu
  have hov : ∀ (w1 : World) (R1 : Blks), Own w0 w1 R1 → _ := fun w1 R1 h => rorigin_c h v hv
  unfold UL.val at *
  generalize strOfNums (originI u) = t0 at *
  generalize strOfNums u.sch = t1 at *
  generalize strOfNums u.host = t2 at *
  generalize strOfNums u.path = t4 at *
  generalize strOfNums u.query = t5 at *
  generalize u.port = p at *
  generalize strOfNums (originI v) = q0 at *
  generalize strOfNums v.sch = q1 at *
  generalize strOfNums v.host = q2 at *
  generalize strOfNums v.path = q4 at *
  generalize strOfNums v.query = q5 at *
  generalize v.port = q at *
  have HOR := Lib.hid hor; have HOV := Lib.hid hov
  clear hO hor hov hu hv
  go_enter Tryd.func24, Tryd.ntmps24
  go_wp2_with (first | (refine wl_box rfl _ _ rfl HO.out _ (by rfl) ?_; intro g w1 hO1; have HO1 := Lib.hid hO1; clear hO1 HO) | (refine wl_box rfl _ _ rfl HO1.out _ (by rfl) ?_; intro g2 w2 hO2; have HO2 := Lib.hid hO2; clear hO2 HO1))
  refine wp_region_lin (fun w' => w'.heap[g]? = some (.cells [Value.string t1, Value.string t2, Value.int .i64 p, Value.string t4, Value.string t5].toArray 42) ∧ w'.heap[g2]? = some (.cells [Value.string q1, Value.string q2, Value.int .i64 q, Value.string q4, Value.string q5].toArray 42)) 6 [(0, true), (2, true), (1, false), (3, false), (4, true), (5, true)] (by kernel_rfl) (by kernel_rfl) (fun _ _ d _ _ h => by cases d <;> exact h) ⟨HO2.out.drew.heap (.tail _ (.head _)), HO2.out.drew.heap (.head _)⟩ ?_
  simp only [List.map_cons, List.map_nil, pick_zero, pick_succ, List.drop_succ_cons, List.drop_zero]
  refine lin_load rfl _ _ rfl g 0 [Value.string t1, Value.string t2, Value.int .i64 p, Value.string t4, Value.string t5] [Value.string t1, Value.string t2, Value.int .i64 p, Value.string t4, Value.string t5] 42 (by rfl) _ Tryd.underlying42 rfl rurl_size (by rfl) (fun w' ew => ew.1) ?_
  simp only [Act.put, List.setIfInBounds_toArray, List.set_cons_zero, List.set_cons_succ]
  refine lin_load rfl _ _ rfl g2 0 [Value.string q1, Value.string q2, Value.int .i64 q, Value.string q4, Value.string q5] [Value.string q1, Value.string q2, Value.int .i64 q, Value.string q4, Value.string q5] 42 (by rfl) _ Tryd.underlying42 rfl rurl_size (by rfl) (fun w' ew => ew.2) ?_
  simp only [Act.put, List.setIfInBounds_toArray, List.set_cons_zero, List.set_cons_succ]
  refine lin_act ?_
  refine wl_call rfl _ _ _ (by go_simp) (HOR.out _ _ HO2.out.drew) ?_
  rintro e w3 ⟨rfl, hO3⟩
  refine ⟨_, rfl, LinPost.mk ⟨hO3.heap (.tail _ (.head _)), hO3.heap (.head _)⟩ ?_⟩
  simp only [Act.put, List.setIfInBounds_toArray, List.set_cons_zero, List.set_cons_succ]
  refine lin_act ?_
  refine wl_call rfl _ _ _ (by go_simp) (HOV.out _ _ hO3) ?_
  rintro e w4 ⟨rfl, hO4⟩
  refine ⟨_, rfl, LinPost.mk ⟨hO4.heap (.tail _ (.head _)), hO4.heap (.head _)⟩ ?_⟩
  have HO4 := Lib.hid hO4.tail.tail
  clear hO3 hO4 HO2 HOR HOV
  simp only [Act.put, List.setIfInBounds_toArray, List.set_cons_zero, List.set_cons_succ]
  iterate 2 (refine lin_q ?_ rfl ?_ ?_; rotate_left 1; (focus (rintro w' -; go_simp; first | done | with_reducible rfl | (trace_state; fail))); simp only [Act.put, List.setIfInBounds_toArray, List.set_cons_zero, List.set_cons_succ])
  refine lin_nil ?_
  go_wp2
  go_ret
  exact ⟨rfl, HO4.out⟩
set_option maxHeartbeats 1000000 in
theorem rsecure_c {w0 w : World} {R : Blks} (hO : Own w0 w R) (u : UL) (h1 : Byt u.sch) (h2 : Byt u.host) : Calls Tryd.prog 23 #[.agg u.val.toArray] w fun e w' => e = .returned (.bool (secureI u)) ∧ Own w0 w' R := by
  have HO := Lib.hid hO
  have b1 : ((strOfNums u.sch).toList == [104, 116, 116, 112, 115]) = decide (u.sch = httpsI) := by rw [beq_lit, sb_str h1]; rfl
  have b2 : ((strOfNums u.host).toList == [108, 111, 99, 97, 108, 104, 111, 115, 116]) = decide (u.host = [108, 111, 99, 97, 108, 104, 111, 115, 116]) := by rw [beq_lit, sb_str h2]; rfl
  unfold secureI
  unfold UL.val at *
  generalize decide (u.sch = httpsI) = d1 at *
  generalize decide (u.host = [108, 111, 99, 97, 108, 104, 111, 115, 116]) = d2 at *
  generalize strOfNums u.sch = t1 at *
  generalize strOfNums u.host = t2 at *
  generalize strOfNums u.path = t4 at *
  generalize strOfNums u.query = t5 at *
  generalize u.port = p at *
  clear hO h1 h2
  cases d1
  all_goals
    go_enter Tryd.func23, Tryd.ntmps23
    go_wp2_with (refine wl_box rfl _ _ rfl HO.out _ (by rfl) ?_; intro g w1 hO1; have HO1 := Lib.hid hO1; have c0 : w1.cell? ⟨g, 0, none⟩ = some (.string t1) := (by rw [hO1.cell (.head _)]; rfl); have c1 : w1.cell? ⟨g, 1, none⟩ = some (.string t2) := (by rw [hO1.cell (.head _)]; rfl); clear hO1 HO)
    go_ret
    exact ⟨rfl, HO1.out.tail⟩
end Go.Proofs.YtakihnmajgmnpaaDoor
