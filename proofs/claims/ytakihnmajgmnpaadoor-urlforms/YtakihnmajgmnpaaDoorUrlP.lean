/-
  Package url: its calls, in the landed program.
-/
import Derived.Test.YtakihnmajgmnpaaDoorUrlP4
import Derived.Test.YtakihnmajgmnpaaDoorPct6
namespace Go.Proofs.YtakihnmajgmnpaaDoor
set_option linter.unusedVariables false
set_option linter.unusedSimpArgs false
set_option maxRecDepth 20000
open Go.RowKit

theorem UL.Half.origB {u : UL} (h : u.Half) : Byt (originI u) := by
  unfold originI
  refine byt_append (byt_append (byt_append h.schB ?_) h.hostB) ?_
  · intro x hx; simp at hx; omega
  · split
    · intro x hx
      rcases List.mem_cons.1 hx with rfl | hx
      · omega
      · exact digs_byt _ x hx
    · intro x hx; cases hx
theorem UL.Half.orig {u : UL} (h : u.Half) : (originI u).length ≤ 100 := by
  have h1 := h.schl
  have h2 := h.host.2.1
  have h3 := (digs_len u.port.toNat).2
  unfold originI
  split <;> simp <;> omega
set_option maxHeartbeats 2000000 in
theorem uorigin_c {w0 w : World} {R : Blks} (hV : VarsOk w0) (hO : Own w0 w R) (u : UL) (hu : u.Half) : Calls Tryd.prog 11 #[.agg u.val.toArray] w fun e w' => e = .returned (.string (strOfNums (originI u))) ∧ Own w0 w' R := by
  obtain ⟨a1, a2, a3, a4, a5, a6⟩ := hu.ok
  have hp5 := hu.port1
  obtain ⟨sch, host, port, path, query⟩ := u
  simp only at a1 a2 a3 a4 a5 a6 hp5
  obtain ⟨p, rfl⟩ : ∃ p : Nat, port = p := ⟨port.toNat, by omega⟩
  have HO := Lib.hid hO
  have e1 : strOfNums (originI ⟨sch, host, (p : Int), path, query⟩) = strOfNums sch ++ ⟨#[58, 47, 47]⟩ ++ strOfNums host ++ (if (0 : Int) < p then ⟨#[58]⟩ ++ strOfNums (digs p) else ⟨#[]⟩) := by
    unfold originI
    rw [strs_app, strs_app, strs_app]
    congr 1
    split
    · rw [Int.toNat_natCast, show (58 : Int) :: digs p = [58] ++ digs p from rfl, strs_app]; rfl
    · rfl
  have s1 : (strOfNums sch).size ≤ 1000000000 := by rw [strOfNums_size]; exact a1
  have s2 : (strOfNums host).size ≤ 1000000000 := by rw [strOfNums_size]; exact a2
  have s3 : (strOfNums (digs p)).size ≤ 21 := by rw [strOfNums_size]; exact (digs_len _).2
  have hd : ∀ (w' : World) (R' : Blks), Own w0 w' R' → _ := fun w' R' h => litoa_c hV h (p : Int) (by omega) (by omega)
  simp only [Int.toNat_natCast] at hd
  unfold UL.val
  rw [e1]
  simp only
  clear e1
  generalize strOfNums sch = t1 at *
  generalize strOfNums host = t2 at *
  generalize strOfNums (digs p) = t3 at *
  generalize strOfNums path = t4 at *
  generalize strOfNums query = t5 at *
  have HD := Lib.hid hd
  have n1 : ¬ (9223372036854775807 < t1.size + 3) := by omega
  have n2 : ¬ (9223372036854775807 < t1.size + 3 + t2.size) := by omega
  have n3 : ¬ (9223372036854775807 < 1 + t3.size) := by omega
  have n4 : ¬ (9223372036854775807 < t1.size + 3 + t2.size + (1 + t3.size)) := by omega
  clear hO a1 a2 a3 a4 a5 a6 hd s1 s2 s3 hu hV
  by_cases h0 : 0 < p
  · have h0' : (0 : Int) < p := by omega
    have t0 : ((p : Int) != 0) = true := by simp; omega
    have t0' : (p != 0) = true := by simp; omega
    rw [if_pos h0']
    go_enter Tryd.func11, Tryd.ntmps11
    go_wp2_with (refine wl_box rfl _ _ rfl HO.out _ (by rfl) ?_; intro g w1 hO1; have HO1 := Lib.hid hO1; have c0 : w1.cell? ⟨g, 0, none⟩ = some (.string t1) := (by rw [hO1.cell (.head _)]; rfl); have c1 : w1.cell? ⟨g, 1, none⟩ = some (.string t2) := (by rw [hO1.cell (.head _)]; rfl); have c2 : w1.cell? ⟨g, 2, none⟩ = some (.int .i64 (p : Int)) := (by rw [hO1.cell (.head _)]; rfl); clear hO1 HO)
    with_reducible refine (HD.out _ _ HO1.out).mono ?_
    rintro e w2 ⟨rfl, hO2⟩
    have HO2 := Lib.hid hO2.tail
    clear c0 c1 c2 HO1 hO2
    go_wp2
    go_ret
    exact ⟨rfl, HO2.out⟩
  · have h0' : ¬ ((0 : Int) < p) := by omega
    obtain rfl : p = 0 := by omega
    rw [if_neg h0']
    have en : ∀ x : ByteArray, x ++ ⟨#[]⟩ = x := fun x => by apply sb_inj; rw [sb_append, sb_empty, List.append_nil]
    rw [en]
    clear en
    go_enter Tryd.func11, Tryd.ntmps11
    go_wp2_with (refine wl_box rfl _ _ rfl HO.out _ (by rfl) ?_; intro g w1 hO1; have HO1 := Lib.hid hO1; have c0 : w1.cell? ⟨g, 0, none⟩ = some (.string t1) := (by rw [hO1.cell (.head _)]; rfl); have c1 : w1.cell? ⟨g, 1, none⟩ = some (.string t2) := (by rw [hO1.cell (.head _)]; rfl); have c2 : w1.cell? ⟨g, 2, none⟩ = some (.int .i64 0) := (by rw [hO1.cell (.head _)]; rfl); clear hO1 HO)
    go_ret
    exact ⟨rfl, HO1.out.tail⟩
set_option maxHeartbeats 2000000 in
theorem uprint0_c {w0 w : World} {R : Blks} (hV : VarsOk w0) (hO : Own w0 w R) (u : UL) (hu : u.Half) : Calls Tryd.prog 10 #[.agg u.val.toArray] w fun e w' => e = .returned (.string (strOfNums (printI u))) ∧ Own w0 w' R := by
  have HO := Lib.hid hO
  have hor : ∀ (w1 : World) (R1 : Blks), Own w0 w1 R1 → _ := fun w1 R1 h => uorigin_c hV h u hu
  have e1 : strOfNums (printI u) = strOfNums (originI u) ++ strOfNums u.path ++ strOfNums u.query := by unfold printI; rw [strs_app, strs_app]
  have s0 : (strOfNums (originI u)).size ≤ 2000000025 := by rw [strOfNums_size]; exact originI_len hu.ok
  obtain ⟨a1, a2, a3, a4, a5, a6⟩ := hu.ok
  have s1 : (strOfNums u.path).size ≤ 1000000000 := by rw [strOfNums_size]; exact a3
  have s2 : (strOfNums u.query).size ≤ 1000000000 := by rw [strOfNums_size]; exact a4
  rw [e1]
  unfold UL.val at *
  clear hu
  generalize strOfNums (originI u) = t0 at *
  generalize strOfNums u.sch = t1 at *
  generalize strOfNums u.host = t2 at *
  generalize strOfNums u.path = t4 at *
  generalize strOfNums u.query = t5 at *
  generalize u.port = p at *
  have HOR := Lib.hid hor
  have n1 : ¬ (9223372036854775807 < t0.size + t4.size) := by omega
  have n2 : ¬ (9223372036854775807 < t0.size + t4.size + t5.size) := by omega
  clear hO hor a1 a2 a3 a4 a5 a6 e1 s0 s1 s2 hV
  go_enter Tryd.func10, Tryd.ntmps10
  go_wp2_with (refine wl_box rfl _ _ rfl HO.out _ (by rfl) ?_; intro g w1 hO1; have HO1 := Lib.hid hO1; clear hO1 HO)
  refine wp_region_lin (fun w' => w'.heap[g]? = some (.cells [Value.string t1, Value.string t2, Value.int .i64 p, Value.string t4, Value.string t5].toArray 25)) 9 [(0, true), (2, true), (3, true), (5, true), (6, true), (1, false), (4, true), (7, true), (8, true)] (by kernel_rfl) (by kernel_rfl) (fun _ _ d _ _ h => by cases d <;> exact h) (HO1.out.drew.heap (.head _)) ?_
  simp only [List.map_cons, List.map_nil, pick_zero, pick_succ, List.drop_succ_cons, List.drop_zero]
  refine lin_load rfl _ _ rfl g 0 [Value.string t1, Value.string t2, Value.int .i64 p, Value.string t4, Value.string t5] [Value.string t1, Value.string t2, Value.int .i64 p, Value.string t4, Value.string t5] 25 (by rfl) _ Tryd.underlying25 rfl url_size (by rfl) (fun w' ew => ew) ?_
  simp only [Act.put, List.setIfInBounds_toArray, List.set_cons_zero, List.set_cons_succ]
  iterate 4 (refine lin_q ?_ rfl ?_ ?_; rotate_left 1; (focus (rintro w' hw; have c3 : w'.cell? ⟨g, 3, none⟩ = some (.string t4) := (by rw [cell_of_row w' g 3 _ _ (0, 0) hw]; rfl); have c4 : w'.cell? ⟨g, 4, none⟩ = some (.string t5) := (by rw [cell_of_row w' g 4 _ _ (0, 0) hw]; rfl); clear hw; go_simp; first | done | with_reducible rfl | (trace_state; fail))); simp only [Act.put, List.setIfInBounds_toArray, List.set_cons_zero, List.set_cons_succ])
  refine lin_act ?_
  refine wl_call rfl _ _ _ (by go_simp) (HOR.out _ _ HO1.out.drew) ?_
  rintro e w3 ⟨rfl, hO3⟩
  refine ⟨_, rfl, LinPost.mk (hO3.heap (.head _)) ?_⟩
  have HO3 := Lib.hid hO3.tail
  clear hO3 HO1 HOR
  simp only [Act.put, List.setIfInBounds_toArray, List.set_cons_zero, List.set_cons_succ]
  iterate 3 (refine lin_q ?_ rfl ?_ ?_; rotate_left 1; (focus (rintro w' -; go_simp; first | done | with_reducible rfl | (trace_state; fail))); simp only [Act.put, List.setIfInBounds_toArray, List.set_cons_zero, List.set_cons_succ])
  refine lin_nil ?_
  go_wp2
  go_ret
  exact ⟨rfl, HO3.out⟩
theorem uprint_c {w0 w : World} {R : Blks} (hV : VarsOk w0) (hO : Own w0 w R) (u : UL) (hu : u.Fine) : Calls Tryd.prog 10 #[.agg u.val.toArray] w fun e w' => e = .returned (.string (strOfNums (printI u))) ∧ Own w0 w' R := uprint0_c hV hO u hu.half
set_option maxHeartbeats 2000000 in
theorem usame_c {w0 w : World} {R : Blks} (hV : VarsOk w0) (hO : Own w0 w R) (u v : UL) (hu : u.Half) (hv : v.Half) : Calls Tryd.prog 15 #[.agg u.val.toArray, .agg v.val.toArray] w fun e w' => e = .returned (.bool (decide (originI u = originI v))) ∧ Own w0 w' R := by
  rw [← beq_str hu.origB hv.origB]
  have HO := Lib.hid hO
  have hor : ∀ (w1 : World) (R1 : Blks), Own w0 w1 R1 → _ := fun w1 R1 h => uorigin_c hV h u hu
  have hov : ∀ (w1 : World) (R1 : Blks), Own w0 w1 R1 → _ := fun w1 R1 h => uorigin_c hV h v hv
  unfold UL.val at *
  clear hu hv hV
  generalize strOfNums (originI u) = t0 at *
  generalize strOfNums u.sch = t1 at *
  generalize strOfNums u.host = t2 at *
  generalize strOfNums u.path = t4 at *
  generalize strOfNums u.query = t5 at *
  generalize u.port = p at *
  generalize strOfNums (originI v) = q0 at *
  generalize strOfNums v.sch = q1 at *
  generalize strOfNums v.host = q2 at *
  generalize strOfNums v.path = q4 at *
  generalize strOfNums v.query = q5 at *
  generalize v.port = q at *
  have HOR := Lib.hid hor; have HOV := Lib.hid hov
  clear hO hor hov
  go_enter Tryd.func15, Tryd.ntmps15
  go_wp2_with (first | (refine wl_box rfl _ _ rfl HO.out _ (by rfl) ?_; intro g w1 hO1; have HO1 := Lib.hid hO1; clear hO1 HO) | (refine wl_box rfl _ _ rfl HO1.out _ (by rfl) ?_; intro g2 w2 hO2; have HO2 := Lib.hid hO2; clear hO2 HO1))
  refine wp_region_lin (fun w' => w'.heap[g]? = some (.cells [Value.string t1, Value.string t2, Value.int .i64 p, Value.string t4, Value.string t5].toArray 25) ∧ w'.heap[g2]? = some (.cells [Value.string q1, Value.string q2, Value.int .i64 q, Value.string q4, Value.string q5].toArray 25)) 6 [(0, true), (2, true), (1, false), (3, false), (4, true), (5, true)] (by kernel_rfl) (by kernel_rfl) (fun _ _ d _ _ h => by cases d <;> exact h) ⟨HO2.out.drew.heap (.tail _ (.head _)), HO2.out.drew.heap (.head _)⟩ ?_
  simp only [List.map_cons, List.map_nil, pick_zero, pick_succ, List.drop_succ_cons, List.drop_zero]
  refine lin_load rfl _ _ rfl g 0 [Value.string t1, Value.string t2, Value.int .i64 p, Value.string t4, Value.string t5] [Value.string t1, Value.string t2, Value.int .i64 p, Value.string t4, Value.string t5] 25 (by rfl) _ Tryd.underlying25 rfl url_size (by rfl) (fun w' ew => ew.1) ?_
  simp only [Act.put, List.setIfInBounds_toArray, List.set_cons_zero, List.set_cons_succ]
  refine lin_load rfl _ _ rfl g2 0 [Value.string q1, Value.string q2, Value.int .i64 q, Value.string q4, Value.string q5] [Value.string q1, Value.string q2, Value.int .i64 q, Value.string q4, Value.string q5] 25 (by rfl) _ Tryd.underlying25 rfl url_size (by rfl) (fun w' ew => ew.2) ?_
  simp only [Act.put, List.setIfInBounds_toArray, List.set_cons_zero, List.set_cons_succ]
  refine lin_act ?_
  refine wl_call rfl _ _ _ (by go_simp) (HOR.out _ _ HO2.out.drew) ?_
  rintro e w3 ⟨rfl, hO3⟩
  refine ⟨_, rfl, LinPost.mk ⟨hO3.heap (.tail _ (.head _)), hO3.heap (.head _)⟩ ?_⟩
  simp only [Act.put, List.setIfInBounds_toArray, List.set_cons_zero, List.set_cons_succ]
  refine lin_act ?_
  refine wl_call rfl _ _ _ (by go_simp) (HOV.out _ _ hO3) ?_
  rintro e w4 ⟨rfl, hO4⟩
  refine ⟨_, rfl, LinPost.mk ⟨hO4.heap (.tail _ (.head _)), hO4.heap (.head _)⟩ ?_⟩
  have HO4 := Lib.hid hO4.tail.tail
  clear hO3 hO4 HO2 HOR HOV
  simp only [Act.put, List.setIfInBounds_toArray, List.set_cons_zero, List.set_cons_succ]
  iterate 2 (refine lin_q ?_ rfl ?_ ?_; rotate_left 1; (focus (rintro w' -; go_simp; first | done | with_reducible rfl | (trace_state; fail))); simp only [Act.put, List.setIfInBounds_toArray, List.set_cons_zero, List.set_cons_succ])
  refine lin_nil ?_
  go_wp2
  go_ret
  exact ⟨rfl, HO4.out⟩
set_option maxHeartbeats 1000000 in
theorem usecure_c {w0 w : World} {R : Blks} (hO : Own w0 w R) (u : UL) (hu : u.Half) : Calls Tryd.prog 14 #[.agg u.val.toArray] w fun e w' => e = .returned (.bool (secureI u)) ∧ Own w0 w' R := by
  have HO := Lib.hid hO
  have h1 := hu.schB
  have h2 := hu.hostB
  have b1 : ((strOfNums u.sch).toList == [104, 116, 116, 112, 115]) = decide (u.sch = httpsI) := by rw [beq_lit, sb_str h1]; rfl
  have b2 : ((strOfNums u.host).toList == [108, 111, 99, 97, 108, 104, 111, 115, 116]) = decide (u.host = [108, 111, 99, 97, 108, 104, 111, 115, 116]) := by rw [beq_lit, sb_str h2]; rfl
  unfold secureI
  unfold UL.val at *
  clear hu
  generalize decide (u.sch = httpsI) = d1 at *
  generalize decide (u.host = [108, 111, 99, 97, 108, 104, 111, 115, 116]) = d2 at *
  generalize strOfNums u.sch = t1 at *
  generalize strOfNums u.host = t2 at *
  generalize strOfNums u.path = t4 at *
  generalize strOfNums u.query = t5 at *
  generalize u.port = p at *
  clear hO h1 h2
  cases d1
  all_goals
    go_enter Tryd.func14, Tryd.ntmps14
    go_wp2_with (refine wl_box rfl _ _ rfl HO.out _ (by rfl) ?_; intro g w1 hO1; have HO1 := Lib.hid hO1; have c0 : w1.cell? ⟨g, 0, none⟩ = some (.string t1) := (by rw [hO1.cell (.head _)]; rfl); have c1 : w1.cell? ⟨g, 1, none⟩ = some (.string t2) := (by rw [hO1.cell (.head _)]; rfl); clear hO1 HO)
    go_ret
    exact ⟨rfl, HO1.out.tail⟩
/-- What is read is a URL but for its length. -/
theorem readI_half {l : List Int} (hB : Byt l) (hl : l.length ≤ 5000000) {u : UL} (h : readI l = some u) : u.Half := by
  rw [readI_parts l rfl rfl rfl, Option.bind_eq_some_iff] at h
  obtain ⟨sch, hs, h⟩ := h
  have hB1 : Byt (ahead [35] l) := ahead_byt hB
  have hl1 := ahead_len [35] l
  have hB2 : Byt (ahead [63] (ahead [35] l)) := ahead_byt hB1
  have hl2 := ahead_len [63] (ahead [35] l)
  have hBc := cut3_byt hB2
  have hlc := (cut3_mem (ahead [63] (ahead [35] l))).2.2
  have hq := behind_len [63] (ahead [35] l)
  split at h
  · rename_i hho
    rw [Option.bind_eq_some_iff] at h
    obtain ⟨n, hp, h⟩ := h
    have hn : 0 ≤ n ∧ n < 100000 := by
      unfold prtI' prtI at hp
      split at hp
      · cases hp; omega
      · rw [Option.bind_eq_some_iff] at hp
        obtain ⟨k, hk, hp⟩ := hp
        have := figI_range hk
        split at hp
        · cases hp
        · cases hp; exact this
    cases h
    refine ⟨schI_is hs, hho, lowL_byt (ahead_byt (ahead_byt hBc.2)), ?_, ?_, ?_, ?_⟩
    · show 0 ≤ (if n = ownI sch then (0 : Int) else n); split <;> omega
    · show (if n = ownI sch then (0 : Int) else n) < 100000; split <;> omega
    · have h1 := pctE_len (walkI ((behind [47] (cut3 (ahead [63] (ahead [35] l))).2).drop 1))
      have h2 := walkI_len ((behind [47] (cut3 (ahead [63] (ahead [35] l))).2).drop 1)
      have h3 := behind_len [47] (cut3 (ahead [63] (ahead [35] l))).2
      rw [List.length_drop] at h2
      show (pctE (walkI ((behind [47] (cut3 (ahead [63] (ahead [35] l))).2).drop 1))).length ≤ _
      omega
    · have h1 := pctE_len ((behind [63] (ahead [35] l)).drop 1)
      rw [List.length_drop] at h1
      show (if (behind [63] (ahead [35] l)).drop 1 = [] then [] else 63 :: pctE ((behind [63] (ahead [35] l)).drop 1)).length ≤ _
      split
      · simp
      · rw [List.length_cons]; omega
  · cases h
theorem build_url (w : World) : (Instr.build 25 #[]).run Tryd.prog w = .ok (.agg UL.zero.val.toArray) w := by kernel_rfl
set_option maxHeartbeats 8000000 in
theorem uparse_c {w0 w : World} {R : Blks} (hV : VarsOk w0) (hO : Own w0 w R) (s : ByteArray) (hs : s.size ≤ 5000000) :
    Calls Tryd.prog 9 #[.string s] w (GotE w0 R (parseI (sb s))) := by
  have HO := Lib.hid hO
  have htr : ∀ (w' : World) (R' : Blks), Own w0 w' R' → _ := fun w' R' h => trim_c h s (by omega)
  have hTB : Byt (trimI (sb s)) := fun x hx => byt_sb s x ((trimI_sub _).subset hx)
  have hTl : (trimI (sb s)).length ≤ 5000000 := by have := (trimI_sub (sb s)).length_le; rw [length_sb] at this; omega
  have hre : ∀ (w' : World) (R' : Blks), Own w0 w' R' → _ := fun w' R' h => read_c hV h (strOfNums (trimI (sb s))) (by rw [strOfNums_size]; omega)
  rw [sb_str hTB] at hre
  have hhalf : ∀ u, readI (trimI (sb s)) = some u → u.Half := fun u h => readI_half hTB hTl h
  have hres := parse_read (sb s)
  generalize readI (trimI (sb s)) = r at *
  generalize strOfNums (trimI (sb s)) = Z at *
  obtain ⟨res, hr⟩ : ∃ res, parseI (sb s) = res := ⟨_, rfl⟩
  rw [hr] at hres ⊢
  have HT := Lib.hid htr; have HR := Lib.hid hre; have HRES := Lib.hid hres; have HV := Lib.hid hV
  clear hO htr hTB hTl hre hres hr hV
  go_enter Tryd.func9, Tryd.ntmps9
  go_wp2_with (refine wl_alloc rfl _ rfl HO.out _ (alloc_url _) ?_; intro g2 w1 hO1; have HO1 := Lib.hid hO1; clear hO1 HO)
  with_reducible refine (HT.out _ _ HO1.out).mono ?_
  rintro e w2 ⟨rfl, hO⟩
  have HO2 := Lib.hid hO
  clear hO HO1 HT
  go_wp2_with fail
  with_reducible refine (HR.out _ _ HO2.out).mono ?_
  rintro e w3 ⟨rfl, hO⟩
  have HO3 := Lib.hid hO
  clear hO HO2 HR
  cases r with
  | none =>
    have hno : res = none := by rw [HRES.out]; rfl
    subst hno
    clear HRES hhalf
    simp only [Option.getD_none, Option.isSome_none]
    go_wp2_with (first | (refine wl_alloc rfl _ rfl HO3.out _ (alloc_url _) ?_; intro g4 w4 hO; have HO4 := Lib.hid hO; clear hO HO3) | (refine wl_store rfl _ _ _ rfl HO4.out 0 g4 0 _ UL.zero.val _ rfl (by rfl) (by rfl) url_size (one_url _) (by decide) ?_; intro w5 hO; have HO5 := Lib.hid (hO.cast (L' := (g4, .cells UL.zero.val.toArray 25) :: (g2, .cells UL.zero.val.toArray 25) :: R) rfl); clear hO HO4) | (refine wl_store rfl _ _ _ rfl HO5.out 1 g2 0 _ UL.zero.val _ rfl (by rfl) (by rfl) url_size (one_url _) (by decide) ?_; intro w6 hO; have HO6 := Lib.hid (hO.cast (L' := (g4, .cells UL.zero.val.toArray 25) :: (g2, .cells UL.zero.val.toArray 25) :: R) rfl); clear hO HO5))
    have hr0 : w6.cell? ⟨g2, 0, none⟩ = some (Value.string ⟨#[]⟩) := by rw [HO6.out.cell (.tail _ (.head _))]; rfl
    have hr1 : w6.cell? ⟨g2, 1, none⟩ = some (Value.string ⟨#[]⟩) := by rw [HO6.out.cell (.tail _ (.head _))]; rfl
    have hr2 : w6.cell? ⟨g2, 2, none⟩ = some (Value.int .i64 0) := by rw [HO6.out.cell (.tail _ (.head _))]; rfl
    have hr3 : w6.cell? ⟨g2, 3, none⟩ = some (Value.string ⟨#[]⟩) := by rw [HO6.out.cell (.tail _ (.head _))]; rfl
    have hr4 : w6.cell? ⟨g2, 4, none⟩ = some (Value.string ⟨#[]⟩) := by rw [HO6.out.cell (.tail _ (.head _))]; rfl
    exact bodyPost_ret (v := .tuple #[.agg #[.string ⟨#[]⟩, .string ⟨#[]⟩, .int .i64 0, .string ⟨#[]⟩, .string ⟨#[]⟩], .int .i64 2]) (by simp [results, Tryd.results9, go_sem, hr0, hr1, hr2, hr3, hr4]) rfl ⟨rfl, HO6.out.tail.tail⟩
  | some u =>
    have hu := hhalf u rfl
    have hpr : ∀ (w' : World) (R' : Blks), Own w0 w' R' → _ := fun w' R' h => uprint0_c HV.out h u hu
    have hps : (strOfNums (printI u)).size = (printI u).length := strOfNums_size _
    have hres : res = if 40 < (printI u).length then none else some u := by rw [HRES.out]; rfl
    have HPR := Lib.hid hpr; have HRES2 := Lib.hid hres
    obtain ⟨pl, hpl⟩ : ∃ pl, (printI u).length = pl := ⟨_, rfl⟩
    rw [hpl] at hps HRES2
    clear hhalf hu hpr hres hpl HRES
    generalize strOfNums (printI u) = PS at *
    simp only [Option.getD_some, Option.isSome_some]
    obtain ⟨v1, v2, v3, v4, v5⟩ := u
    go_wp2_with (first | (refine wl_alloc rfl _ rfl HO3.out _ (alloc_url _) ?_; intro g4 w4 hO; have HO4 := Lib.hid hO; clear hO HO3) | (refine wl_store rfl _ _ _ rfl HO4.out 0 g4 0 _ (UL.mk v1 v2 v3 v4 v5).val _ rfl (by rfl) (by rfl) url_size (one_url _) (by simp [UL.val, UL.zero]) ?_; intro w5 hO; have HO5 := Lib.hid (hO.cast (L' := (g4, .cells (UL.mk v1 v2 v3 v4 v5).val.toArray 25) :: (g2, .cells UL.zero.val.toArray 25) :: R) rfl); clear hO HO4) | (refine wl_g (by rfl) ?_; refine wl_load rfl _ _ rfl g4 0 (UL.mk v1 v2 v3 v4 v5).val (UL.mk v1 v2 v3 v4 v5).val _ (HO5.out.heap (.head _)) (by rfl) _ Tryd.underlying25 rfl url_size (by rfl) ?_))
    with_reducible refine (HPR.out _ _ HO5.out).mono ?_
    rintro e w6 ⟨rfl, hO⟩
    have HO6 := Lib.hid hO
    clear hO HO5 HPR
    by_cases h40 : 40 < pl
    · have h40' : 40 < PS.size := by omega
      have h40I : (40 : Int) < PS.size := by omega
      have hno : res = none := by rw [HRES2.out, if_pos h40]
      subst hno
      clear HRES2
      go_wp2_with (refine wl_store rfl _ _ _ rfl HO6.out 1 g2 0 _ UL.zero.val _ rfl (by rfl) (by rfl) url_size (one_url _) (by decide) ?_; intro w7 hO; have HO7 := Lib.hid (hO.cast (L' := (g4, .cells (UL.mk v1 v2 v3 v4 v5).val.toArray 25) :: (g2, .cells UL.zero.val.toArray 25) :: R) rfl); clear hO HO6)
      have hr0 : w7.cell? ⟨g2, 0, none⟩ = some (Value.string ⟨#[]⟩) := by rw [HO7.out.cell (.tail _ (.head _))]; rfl
      have hr1 : w7.cell? ⟨g2, 1, none⟩ = some (Value.string ⟨#[]⟩) := by rw [HO7.out.cell (.tail _ (.head _))]; rfl
      have hr2 : w7.cell? ⟨g2, 2, none⟩ = some (Value.int .i64 0) := by rw [HO7.out.cell (.tail _ (.head _))]; rfl
      have hr3 : w7.cell? ⟨g2, 3, none⟩ = some (Value.string ⟨#[]⟩) := by rw [HO7.out.cell (.tail _ (.head _))]; rfl
      have hr4 : w7.cell? ⟨g2, 4, none⟩ = some (Value.string ⟨#[]⟩) := by rw [HO7.out.cell (.tail _ (.head _))]; rfl
      exact bodyPost_ret (v := .tuple #[.agg #[.string ⟨#[]⟩, .string ⟨#[]⟩, .int .i64 0, .string ⟨#[]⟩, .string ⟨#[]⟩], .int .i64 2]) (by simp [results, Tryd.results9, go_sem, hr0, hr1, hr2, hr3, hr4]) rfl ⟨rfl, HO7.out.tail.tail⟩
    · have h40' : ¬ 40 < PS.size := by omega
      have h40I : ¬ (40 : Int) < PS.size := by omega
      have hyes : res = some ⟨v1, v2, v3, v4, v5⟩ := by rw [HRES2.out, if_neg h40]
      have HY := Lib.hid hyes
      clear HRES2 hyes
      go_wp2_with (first | (refine wl_load rfl _ _ rfl g4 0 (UL.mk v1 v2 v3 v4 v5).val (UL.mk v1 v2 v3 v4 v5).val _ (HO6.out.heap (.head _)) (by rfl) _ Tryd.underlying25 rfl url_size (by rfl) ?_) | (refine wl_store rfl _ _ _ rfl HO6.out 1 g2 0 _ (UL.mk v1 v2 v3 v4 v5).val _ rfl (by rfl) (by rfl) url_size (one_url _) (by simp [UL.val, UL.zero]) ?_; intro w7 hO; have HO7 := Lib.hid (hO.cast (L' := (g4, .cells (UL.mk v1 v2 v3 v4 v5).val.toArray 25) :: (g2, .cells (UL.mk v1 v2 v3 v4 v5).val.toArray 25) :: R) rfl); clear hO HO6))
      have hr0 : w7.cell? ⟨g2, 0, none⟩ = some (.string (strOfNums v1)) := by rw [HO7.out.cell (.tail _ (.head _))]; rfl
      have hr1 : w7.cell? ⟨g2, 1, none⟩ = some (.string (strOfNums v2)) := by rw [HO7.out.cell (.tail _ (.head _))]; rfl
      have hr2 : w7.cell? ⟨g2, 2, none⟩ = some (.int .i64 v3) := by rw [HO7.out.cell (.tail _ (.head _))]; rfl
      have hr3 : w7.cell? ⟨g2, 3, none⟩ = some (.string (strOfNums v4)) := by rw [HO7.out.cell (.tail _ (.head _))]; rfl
      have hr4 : w7.cell? ⟨g2, 4, none⟩ = some (.string (strOfNums v5)) := by rw [HO7.out.cell (.tail _ (.head _))]; rfl
      exact bodyPost_ret (v := .tuple #[.agg #[.string (strOfNums v1), .string (strOfNums v2), .int .i64 v3, .string (strOfNums v4), .string (strOfNums v5)], .int .i64 0]) (by simp [results, Tryd.results9, go_sem, hr0, hr1, hr2, hr3, hr4]) rfl ⟨by rw [HY.out]; rfl, HO7.out.tail.tail⟩
set_option maxHeartbeats 8000000 in
theorem ujoin_c {w0 w : World} {R : Blks} (hV : VarsOk w0) (hO : Own w0 w R) (u : UL) (hu : u.Half) (s : ByteArray) (hs : s.size ≤ 4000000) :
    Calls Tryd.prog 13 #[.agg u.val.toArray, .string s] w (GotE w0 R (joinI u (sb s))) := by
  have HO := Lib.hid hO
  obtain ⟨T, hT⟩ : ∃ T, trimI (sb s) = T := ⟨_, rfl⟩
  have htrim : ∀ (w' : World) (R' : Blks), Own w0 w' R' → _ := fun w' R' h => trim_c h s (by omega)
  have hTB : Byt T := by rw [← hT]; exact fun x hx => byt_sb s x ((trimI_sub _).subset hx)
  have hTl : T.length ≤ 4000000 := by rw [← hT]; have := (trimI_sub (sb s)).length_le; rw [length_sb] at this; omega
  have hres : joinI u (sb s) = if begI [47, 47] T then parseI (u.sch ++ [58] ++ T) else if begI [47] T then parseI (originI u ++ T) else parseI T := by unfold joinI; rw [hT]
  rw [hT] at htrim
  obtain ⟨res, hre⟩ : ∃ res, joinI u (sb s) = res := ⟨_, rfl⟩
  rw [hre]
  rw [hre] at hres
  clear hre
  have hb1 : ∀ w' : World, _ := fun w' => lpre_c (w := w') (strOfNums T) ⟨#[47, 47]⟩
  have hb2 : ∀ w' : World, _ := fun w' => lpre_c (w := w') (strOfNums T) ⟨#[47]⟩
  have e1 : sb ⟨#[47, 47]⟩ = [47, 47] := by decide +kernel
  have e2 : sb ⟨#[47]⟩ = [47] := by decide +kernel
  rw [e1, sb_str hTB] at hb1
  rw [e2, sb_str hTB] at hb2
  have hor : ∀ (w' : World) (R' : Blks), Own w0 w' R' → _ := fun w' R' h => uorigin_c hV h u hu
  have hp1 : ∀ (w' : World) (R' : Blks), Own w0 w' R' → _ := fun w' R' h => uparse_c hV h (strOfNums (u.sch ++ [58] ++ T)) (by rw [strOfNums_size]; have := hu.schl; simp; omega)
  have hp2 : ∀ (w' : World) (R' : Blks), Own w0 w' R' → _ := fun w' R' h => uparse_c hV h (strOfNums (originI u ++ T)) (by rw [strOfNums_size]; have := hu.orig; simp; omega)
  have hp3 : ∀ (w' : World) (R' : Blks), Own w0 w' R' → _ := fun w' R' h => uparse_c hV h (strOfNums T) (by rw [strOfNums_size]; omega)
  have hb58 : Byt [58] := by intro x hx; simp at hx; omega
  rw [sb_str (byt_append (byt_append hu.schB hb58) hTB)] at hp1
  rw [sb_str (byt_append hu.origB hTB)] at hp2
  rw [sb_str hTB] at hp3
  have k1 : strOfNums (u.sch ++ [58] ++ T) = strOfNums u.sch ++ ⟨#[58]⟩ ++ strOfNums T := by rw [strs_app, strs_app]; rfl
  have k2 : strOfNums (originI u ++ T) = strOfNums (originI u) ++ strOfNums T := strs_app _ _
  rw [k1] at hp1
  rw [k2] at hp2
  have z1 : (strOfNums u.sch).size ≤ 5 := by rw [strOfNums_size]; exact hu.schl
  have z2 : (strOfNums T).size ≤ 4000000 := by rw [strOfNums_size]; exact hTl
  have z3 : (strOfNums (originI u)).size ≤ 100 := by rw [strOfNums_size]; exact hu.orig
  have n1 : ¬ (9223372036854775807 < (strOfNums u.sch).size + 1) := by omega
  have n2 : ¬ (9223372036854775807 < (strOfNums u.sch).size + 1 + (strOfNums T).size) := by omega
  have n3 : ¬ (9223372036854775807 < (strOfNums (originI u)).size + (strOfNums T).size) := by omega
  clear hu hV
  generalize parseI (u.sch ++ [58] ++ T) = q1 at *
  generalize parseI (originI u ++ T) = q2 at *
  generalize parseI T = q3 at *
  generalize begI [47, 47] T = b1 at *
  generalize begI [47] T = b2 at *
  unfold UL.val at *
  generalize strOfNums (originI u) = t0 at *
  generalize strOfNums u.sch = t1 at *
  generalize strOfNums u.host = t2 at *
  generalize strOfNums u.path = t4 at *
  generalize strOfNums u.query = t5 at *
  generalize u.port = p at *
  generalize strOfNums T = Z at *
  have HRES0 := Lib.hid hres; have HTR := Lib.hid htrim; have HB1 := Lib.hid hb1; have HB2 := Lib.hid hb2; have HOR := Lib.hid hor; have HP1 := Lib.hid hp1; have HP2 := Lib.hid hp2; have HP3 := Lib.hid hp3
  clear hO hT htrim hTB hTl hres hb1 hb2 e1 e2 hor hp1 hp2 hp3 hb58 k1 k2 z1 z2 z3
  go_enter Tryd.func13, Tryd.ntmps13
  go_wp2_with (first | (refine wl_box rfl _ _ rfl HO.out _ (by rfl) ?_; intro g w1 hO1; have HO1 := Lib.hid hO1; clear hO1 HO) | (refine wl_alloc rfl _ rfl HO1.out _ (alloc_url _) ?_; intro g4 w2 hO2; have HO2 := Lib.hid hO2; clear hO2 HO1))
  with_reducible refine (HTR.out _ _ HO2.out).mono ?_
  rintro e w3 ⟨rfl, hO⟩
  have HO3 := Lib.hid hO
  clear hO HO2 HTR
  go_wp2_with fail
  with_reducible refine (HB1.out _).mono ?_
  rintro e w4 ⟨rfl, rfl⟩
  cases b1 with
  | true =>
    have HRES := Lib.hid (by rw [HRES0.out, if_pos rfl] : res = q1)
    have c0 : w3.cell? ⟨g, 0, none⟩ = some (.string t1) := by rw [HO3.out.cell (.tail _ (.head _))]; rfl
    clear HRES0
    go_wp2_with fail
    with_reducible refine (HP1.out _ _ HO3.out).mono ?_
    rintro e w5 ⟨rfl, hO5⟩
    have HO5 := Lib.hid hO5
    clear hO5 HO3 c0
    obtain ⟨v, hv⟩ : ∃ v, q1.getD UL.zero = v := ⟨_, rfl⟩
    obtain ⟨k, hk⟩ : ∃ k : Int, (if q1.isSome then 0 else 2) = k := ⟨_, rfl⟩
    rw [hv, hk]
    have HV2 := Lib.hid hv; have HK := Lib.hid hk
    clear hv hk
    obtain ⟨v1, v2, v3, v4, v5⟩ := v
    go_wp2_with (refine wl_store rfl _ _ _ rfl HO5.out 0 g4 0 _ (UL.mk v1 v2 v3 v4 v5).val _ rfl (by rfl) (by rfl) url_size (one_url _) (by simp [UL.val, UL.zero]) ?_; intro w6 hO; have HOZ := Lib.hid (hO.cast (L' := (g4, .cells (UL.mk v1 v2 v3 v4 v5).val.toArray 25) :: (g, .cells [Value.string t1, Value.string t2, Value.int .i64 p, Value.string t4, Value.string t5].toArray 25) :: R) rfl); clear hO HO5)
    have hr0 : w6.cell? ⟨g4, 0, none⟩ = some (.string (strOfNums v1)) := by rw [HOZ.out.cell (.head _)]; rfl
    have hr1 : w6.cell? ⟨g4, 1, none⟩ = some (.string (strOfNums v2)) := by rw [HOZ.out.cell (.head _)]; rfl
    have hr2 : w6.cell? ⟨g4, 2, none⟩ = some (.int .i64 v3) := by rw [HOZ.out.cell (.head _)]; rfl
    have hr3 : w6.cell? ⟨g4, 3, none⟩ = some (.string (strOfNums v4)) := by rw [HOZ.out.cell (.head _)]; rfl
    have hr4 : w6.cell? ⟨g4, 4, none⟩ = some (.string (strOfNums v5)) := by rw [HOZ.out.cell (.head _)]; rfl
    exact bodyPost_ret (v := .tuple #[.agg #[.string (strOfNums v1), .string (strOfNums v2), .int .i64 v3, .string (strOfNums v4), .string (strOfNums v5)], .int .i64 k]) (by simp [results, Tryd.results13, go_sem, hr0, hr1, hr2, hr3, hr4]) rfl ⟨by rw [HRES.out, HV2.out, HK.out]; rfl, HOZ.out.tail.tail⟩
  | false =>
    go_wp2_with fail
    with_reducible refine (HB2.out _).mono ?_
    rintro e w5 ⟨rfl, rfl⟩
    cases b2 with
    | true =>
      have HRES := Lib.hid (by rw [HRES0.out, if_neg (by simp), if_pos rfl] : res = q2)
      clear HRES0
      go_wp2_with (refine wl_load rfl _ _ rfl g 0 [Value.string t1, Value.string t2, Value.int .i64 p, Value.string t4, Value.string t5] [Value.string t1, Value.string t2, Value.int .i64 p, Value.string t4, Value.string t5] _ (HO3.out.heap (.tail _ (.head _))) (by rfl) _ Tryd.underlying25 rfl url_size (by rfl) ?_)
      with_reducible refine (HOR.out _ _ HO3.out).mono ?_
      rintro e w6 ⟨rfl, hO6⟩
      have HO6 := Lib.hid hO6
      clear hO6 HO3
      go_wp2_with fail
      with_reducible refine (HP2.out _ _ HO6.out).mono ?_
      rintro e w7 ⟨rfl, hO7⟩
      have HO7 := Lib.hid hO7
      clear hO7 HO6
      obtain ⟨v, hv⟩ : ∃ v, q2.getD UL.zero = v := ⟨_, rfl⟩
      obtain ⟨k, hk⟩ : ∃ k : Int, (if q2.isSome then 0 else 2) = k := ⟨_, rfl⟩
      rw [hv, hk]
      have HV2 := Lib.hid hv; have HK := Lib.hid hk
      clear hv hk
      obtain ⟨v1, v2, v3, v4, v5⟩ := v
      go_wp2_with (refine wl_store rfl _ _ _ rfl HO7.out 0 g4 0 _ (UL.mk v1 v2 v3 v4 v5).val _ rfl (by rfl) (by rfl) url_size (one_url _) (by simp [UL.val, UL.zero]) ?_; intro w8 hO; have HOZ := Lib.hid (hO.cast (L' := (g4, .cells (UL.mk v1 v2 v3 v4 v5).val.toArray 25) :: (g, .cells [Value.string t1, Value.string t2, Value.int .i64 p, Value.string t4, Value.string t5].toArray 25) :: R) rfl); clear hO HO7)
      have hr0 : w8.cell? ⟨g4, 0, none⟩ = some (.string (strOfNums v1)) := by rw [HOZ.out.cell (.head _)]; rfl
      have hr1 : w8.cell? ⟨g4, 1, none⟩ = some (.string (strOfNums v2)) := by rw [HOZ.out.cell (.head _)]; rfl
      have hr2 : w8.cell? ⟨g4, 2, none⟩ = some (.int .i64 v3) := by rw [HOZ.out.cell (.head _)]; rfl
      have hr3 : w8.cell? ⟨g4, 3, none⟩ = some (.string (strOfNums v4)) := by rw [HOZ.out.cell (.head _)]; rfl
      have hr4 : w8.cell? ⟨g4, 4, none⟩ = some (.string (strOfNums v5)) := by rw [HOZ.out.cell (.head _)]; rfl
      exact bodyPost_ret (v := .tuple #[.agg #[.string (strOfNums v1), .string (strOfNums v2), .int .i64 v3, .string (strOfNums v4), .string (strOfNums v5)], .int .i64 k]) (by simp [results, Tryd.results13, go_sem, hr0, hr1, hr2, hr3, hr4]) rfl ⟨by rw [HRES.out, HV2.out, HK.out]; rfl, HOZ.out.tail.tail⟩
    | false =>
      have HRES := Lib.hid (by rw [HRES0.out, if_neg (by simp), if_neg (by simp)] : res = q3)
      clear HRES0
      go_wp2_with fail
      with_reducible refine (HP3.out _ _ HO3.out).mono ?_
      rintro e w7 ⟨rfl, hO7⟩
      have HO7 := Lib.hid hO7
      clear hO7 HO3
      obtain ⟨v, hv⟩ : ∃ v, q3.getD UL.zero = v := ⟨_, rfl⟩
      obtain ⟨k, hk⟩ : ∃ k : Int, (if q3.isSome then 0 else 2) = k := ⟨_, rfl⟩
      rw [hv, hk]
      have HV2 := Lib.hid hv; have HK := Lib.hid hk
      clear hv hk
      obtain ⟨v1, v2, v3, v4, v5⟩ := v
      go_wp2_with (refine wl_store rfl _ _ _ rfl HO7.out 0 g4 0 _ (UL.mk v1 v2 v3 v4 v5).val _ rfl (by rfl) (by rfl) url_size (one_url _) (by simp [UL.val, UL.zero]) ?_; intro w8 hO; have HOZ := Lib.hid (hO.cast (L' := (g4, .cells (UL.mk v1 v2 v3 v4 v5).val.toArray 25) :: (g, .cells [Value.string t1, Value.string t2, Value.int .i64 p, Value.string t4, Value.string t5].toArray 25) :: R) rfl); clear hO HO7)
      have hr0 : w8.cell? ⟨g4, 0, none⟩ = some (.string (strOfNums v1)) := by rw [HOZ.out.cell (.head _)]; rfl
      have hr1 : w8.cell? ⟨g4, 1, none⟩ = some (.string (strOfNums v2)) := by rw [HOZ.out.cell (.head _)]; rfl
      have hr2 : w8.cell? ⟨g4, 2, none⟩ = some (.int .i64 v3) := by rw [HOZ.out.cell (.head _)]; rfl
      have hr3 : w8.cell? ⟨g4, 3, none⟩ = some (.string (strOfNums v4)) := by rw [HOZ.out.cell (.head _)]; rfl
      have hr4 : w8.cell? ⟨g4, 4, none⟩ = some (.string (strOfNums v5)) := by rw [HOZ.out.cell (.head _)]; rfl
      exact bodyPost_ret (v := .tuple #[.agg #[.string (strOfNums v1), .string (strOfNums v2), .int .i64 v3, .string (strOfNums v4), .string (strOfNums v5)], .int .i64 k]) (by simp [results, Tryd.results13, go_sem, hr0, hr1, hr2, hr3, hr4]) rfl ⟨by rw [HRES.out, HV2.out, HK.out]; rfl, HOZ.out.tail.tail⟩
end Go.Proofs.YtakihnmajgmnpaaDoor
