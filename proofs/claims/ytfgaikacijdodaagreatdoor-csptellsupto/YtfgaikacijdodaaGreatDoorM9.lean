/-
  Texts that the laws stand on: UrlP, CspP1, CspP2, CspP3.
-/
import Derived.Test.YtfgaikacijdodaaGreatDoorM8
import Derived.Test.YtfgaikacijdodaaGreatDoorM3
import Derived.Test.YtfgaikacijdodaaGreatDoorM7
import Derived.Test.YtfgaikacijdodaaGreatDoorM1
import Derived.Deep.DeepCutAuto
import Derived.Deep.CutBlock

/-
  Package url: its calls, in the landed program.
-/
namespace Go.Proofs.YtfgaikacijdodaaGreatDoor
set_option linter.unusedVariables false
set_option linter.unusedSimpArgs false
set_option maxRecDepth 20000
open Go.RowKit

theorem UL.Half.origB {u : UL} (h : u.Half) : Byt (originI u) := by
  unfold originI
  refine byt_append (byt_append (byt_append h.schB ?_) h.hostB) ?_
  · intro x hx; simp at hx; omega
  · split
    · intro x hx
      rcases List.mem_cons.1 hx with rfl | hx
      · omega
      · exact digs_byt _ x hx
    · intro x hx; cases hx
theorem UL.Half.orig {u : UL} (h : u.Half) : (originI u).length ≤ 100 := by
  have h1 := h.schl
  have h2 := h.host.2.1
  have h3 := (digs_len u.port.toNat).2
  unfold originI
  split <;> simp <;> omega
set_option maxHeartbeats 2000000 in
theorem uorigin_c {w0 w : World} {R : Blks} (hV : VarsOk w0) (hO : Own w0 w R) (u : UL) (hu : u.Half) : Calls Tryz.prog 47 #[.agg u.val.toArray] w fun e w' => e = .returned (.string (strOfNums (originI u))) ∧ Own w0 w' R := by
  obtain ⟨a1, a2, a3, a4, a5, a6⟩ := hu.ok
  have hp5 := hu.port1
  obtain ⟨sch, host, port, path, query⟩ := u
  simp only at a1 a2 a3 a4 a5 a6 hp5
  obtain ⟨p, rfl⟩ : ∃ p : Nat, port = p := ⟨port.toNat, by omega⟩
  have HO := Lib.hid hO
  have e1 : strOfNums (originI ⟨sch, host, (p : Int), path, query⟩) = strOfNums sch ++ ⟨#[58, 47, 47]⟩ ++ strOfNums host ++ (if (0 : Int) < p then ⟨#[58]⟩ ++ strOfNums (digs p) else ⟨#[]⟩) := by
    unfold originI
    rw [strs_app, strs_app, strs_app]
    congr 1
    split
    · rw [Int.toNat_natCast, show (58 : Int) :: digs p = [58] ++ digs p from rfl, strs_app]; rfl
    · rfl
  have s1 : (strOfNums sch).size ≤ 1000000000 := by rw [strOfNums_size]; exact a1
  have s2 : (strOfNums host).size ≤ 1000000000 := by rw [strOfNums_size]; exact a2
  have s3 : (strOfNums (digs p)).size ≤ 21 := by rw [strOfNums_size]; exact (digs_len _).2
  have hd : ∀ (w' : World) (R' : Blks), Own w0 w' R' → _ := fun w' R' h => litoa_c hV h (p : Int) (by omega) (by omega)
  simp only [Int.toNat_natCast] at hd
  unfold UL.val
  rw [e1]
  simp only
  clear e1
  generalize strOfNums sch = t1 at *
  generalize strOfNums host = t2 at *
  generalize strOfNums (digs p) = t3 at *
  generalize strOfNums path = t4 at *
  generalize strOfNums query = t5 at *
  have HD := Lib.hid hd
  have n1 : ¬ (9223372036854775807 < t1.size + 3) := by omega
  have n2 : ¬ (9223372036854775807 < t1.size + 3 + t2.size) := by omega
  have n3 : ¬ (9223372036854775807 < 1 + t3.size) := by omega
  have n4 : ¬ (9223372036854775807 < t1.size + 3 + t2.size + (1 + t3.size)) := by omega
  clear hO a1 a2 a3 a4 a5 a6 hd s1 s2 s3 hu hV
  by_cases h0 : 0 < p
  · have h0' : (0 : Int) < p := by omega
    have t0 : ((p : Int) != 0) = true := by simp; omega
    have t0' : (p != 0) = true := by simp; omega
    rw [if_pos h0']
    go_enter Tryz.func47, Tryz.ntmps47
    go_wp2_with (refine wl_box rfl _ _ rfl HO.out _ (by rfl) ?_; intro g w1 hO1; have HO1 := Lib.hid hO1; have c0 : w1.cell? ⟨g, 0, none⟩ = some (.string t1) := (by rw [hO1.cell (.head _)]; rfl); have c1 : w1.cell? ⟨g, 1, none⟩ = some (.string t2) := (by rw [hO1.cell (.head _)]; rfl); have c2 : w1.cell? ⟨g, 2, none⟩ = some (.int .i64 (p : Int)) := (by rw [hO1.cell (.head _)]; rfl); clear hO1 HO)
    with_reducible refine (HD.out _ _ HO1.out).mono ?_
    rintro e w2 ⟨rfl, hO2⟩
    have HO2 := Lib.hid hO2.tail
    clear c0 c1 c2 HO1 hO2
    go_wp2
    go_ret
    exact ⟨rfl, HO2.out⟩
  · have h0' : ¬ ((0 : Int) < p) := by omega
    obtain rfl : p = 0 := by omega
    rw [if_neg h0']
    have en : ∀ x : ByteArray, x ++ ⟨#[]⟩ = x := fun x => by apply sb_inj; rw [sb_append, sb_empty, List.append_nil]
    rw [en]
    clear en
    go_enter Tryz.func47, Tryz.ntmps47
    go_wp2_with (refine wl_box rfl _ _ rfl HO.out _ (by rfl) ?_; intro g w1 hO1; have HO1 := Lib.hid hO1; have c0 : w1.cell? ⟨g, 0, none⟩ = some (.string t1) := (by rw [hO1.cell (.head _)]; rfl); have c1 : w1.cell? ⟨g, 1, none⟩ = some (.string t2) := (by rw [hO1.cell (.head _)]; rfl); have c2 : w1.cell? ⟨g, 2, none⟩ = some (.int .i64 0) := (by rw [hO1.cell (.head _)]; rfl); clear hO1 HO)
    go_ret
    exact ⟨rfl, HO1.out.tail⟩
set_option maxHeartbeats 2000000 in
theorem uprint0_c {w0 w : World} {R : Blks} (hV : VarsOk w0) (hO : Own w0 w R) (u : UL) (hu : u.Half) : Calls Tryz.prog 17 #[.agg u.val.toArray] w fun e w' => e = .returned (.string (strOfNums (printI u))) ∧ Own w0 w' R := by
  have HO := Lib.hid hO
  have hor : ∀ (w1 : World) (R1 : Blks), Own w0 w1 R1 → _ := fun w1 R1 h => uorigin_c hV h u hu
  have e1 : strOfNums (printI u) = strOfNums (originI u) ++ strOfNums u.path ++ strOfNums u.query := by unfold printI; rw [strs_app, strs_app]
  have s0 : (strOfNums (originI u)).size ≤ 2000000025 := by rw [strOfNums_size]; exact originI_len hu.ok
  obtain ⟨a1, a2, a3, a4, a5, a6⟩ := hu.ok
  have s1 : (strOfNums u.path).size ≤ 1000000000 := by rw [strOfNums_size]; exact a3
  have s2 : (strOfNums u.query).size ≤ 1000000000 := by rw [strOfNums_size]; exact a4
  rw [e1]
  unfold UL.val at *
  clear hu
  generalize strOfNums (originI u) = t0 at *
  generalize strOfNums u.sch = t1 at *
  generalize strOfNums u.host = t2 at *
  generalize strOfNums u.path = t4 at *
  generalize strOfNums u.query = t5 at *
  generalize u.port = p at *
  have HOR := Lib.hid hor
  have n1 : ¬ (9223372036854775807 < t0.size + t4.size) := by omega
  have n2 : ¬ (9223372036854775807 < t0.size + t4.size + t5.size) := by omega
  clear hO hor a1 a2 a3 a4 a5 a6 e1 s0 s1 s2 hV
  go_enter Tryz.func17, Tryz.ntmps17
  go_wp2_with (refine wl_box rfl _ _ rfl HO.out _ (by rfl) ?_; intro g w1 hO1; have HO1 := Lib.hid hO1; clear hO1 HO)
  refine wp_region_lin (fun w' => w'.heap[g]? = some (.cells [Value.string t1, Value.string t2, Value.int .i64 p, Value.string t4, Value.string t5].toArray 24)) 9 [(0, true), (2, true), (3, true), (5, true), (6, true), (1, false), (4, true), (7, true), (8, true)] (by kernel_rfl) (by kernel_rfl) (fun _ _ d _ _ h => by cases d <;> exact h) (HO1.out.drew.heap (.head _)) ?_
  simp only [List.map_cons, List.map_nil, pick_zero, pick_succ, List.drop_succ_cons, List.drop_zero]
  refine lin_load rfl _ _ rfl g 0 [Value.string t1, Value.string t2, Value.int .i64 p, Value.string t4, Value.string t5] [Value.string t1, Value.string t2, Value.int .i64 p, Value.string t4, Value.string t5] 24 (by rfl) _ Tryz.underlying24 rfl url_size (by rfl) (fun w' ew => ew) ?_
  simp only [Act.put, List.setIfInBounds_toArray, List.set_cons_zero, List.set_cons_succ]
  iterate 4 (refine lin_q ?_ rfl ?_ ?_; rotate_left 1; (focus (rintro w' hw; have c3 : w'.cell? ⟨g, 3, none⟩ = some (.string t4) := (by rw [cell_of_row w' g 3 _ _ (0, 0) hw]; rfl); have c4 : w'.cell? ⟨g, 4, none⟩ = some (.string t5) := (by rw [cell_of_row w' g 4 _ _ (0, 0) hw]; rfl); clear hw; go_simp; first | done | with_reducible rfl | (trace_state; fail))); simp only [Act.put, List.setIfInBounds_toArray, List.set_cons_zero, List.set_cons_succ])
  refine lin_act ?_
  refine wl_call rfl _ _ _ (by go_simp) (HOR.out _ _ HO1.out.drew) ?_
  rintro e w3 ⟨rfl, hO3⟩
  refine ⟨_, rfl, LinPost.mk (hO3.heap (.head _)) ?_⟩
  have HO3 := Lib.hid hO3.tail
  clear hO3 HO1 HOR
  simp only [Act.put, List.setIfInBounds_toArray, List.set_cons_zero, List.set_cons_succ]
  iterate 3 (refine lin_q ?_ rfl ?_ ?_; rotate_left 1; (focus (rintro w' -; go_simp; first | done | with_reducible rfl | (trace_state; fail))); simp only [Act.put, List.setIfInBounds_toArray, List.set_cons_zero, List.set_cons_succ])
  refine lin_nil ?_
  go_wp2
  go_ret
  exact ⟨rfl, HO3.out⟩
theorem uprint_c {w0 w : World} {R : Blks} (hV : VarsOk w0) (hO : Own w0 w R) (u : UL) (hu : u.Fine) : Calls Tryz.prog 17 #[.agg u.val.toArray] w fun e w' => e = .returned (.string (strOfNums (printI u))) ∧ Own w0 w' R := uprint0_c hV hO u hu.half
set_option maxHeartbeats 2000000 in
theorem usame_c {w0 w : World} {R : Blks} (hV : VarsOk w0) (hO : Own w0 w R) (u v : UL) (hu : u.Half) (hv : v.Half) : Calls Tryz.prog 25 #[.agg u.val.toArray, .agg v.val.toArray] w fun e w' => e = .returned (.bool (decide (originI u = originI v))) ∧ Own w0 w' R := by
  rw [← beq_str hu.origB hv.origB]
  have HO := Lib.hid hO
  have hor : ∀ (w1 : World) (R1 : Blks), Own w0 w1 R1 → _ := fun w1 R1 h => uorigin_c hV h u hu
  have hov : ∀ (w1 : World) (R1 : Blks), Own w0 w1 R1 → _ := fun w1 R1 h => uorigin_c hV h v hv
  unfold UL.val at *
  clear hu hv hV
  generalize strOfNums (originI u) = t0 at *
  generalize strOfNums u.sch = t1 at *
  generalize strOfNums u.host = t2 at *
  generalize strOfNums u.path = t4 at *
  generalize strOfNums u.query = t5 at *
  generalize u.port = p at *
  generalize strOfNums (originI v) = q0 at *
  generalize strOfNums v.sch = q1 at *
  generalize strOfNums v.host = q2 at *
  generalize strOfNums v.path = q4 at *
  generalize strOfNums v.query = q5 at *
  generalize v.port = q at *
  have HOR := Lib.hid hor; have HOV := Lib.hid hov
  clear hO hor hov
  go_enter Tryz.func25, Tryz.ntmps25
  go_wp2_with (first | (refine wl_box rfl _ _ rfl HO.out _ (by rfl) ?_; intro g w1 hO1; have HO1 := Lib.hid hO1; clear hO1 HO) | (refine wl_box rfl _ _ rfl HO1.out _ (by rfl) ?_; intro g2 w2 hO2; have HO2 := Lib.hid hO2; clear hO2 HO1))
  refine wp_region_lin (fun w' => w'.heap[g]? = some (.cells [Value.string t1, Value.string t2, Value.int .i64 p, Value.string t4, Value.string t5].toArray 24) ∧ w'.heap[g2]? = some (.cells [Value.string q1, Value.string q2, Value.int .i64 q, Value.string q4, Value.string q5].toArray 24)) 6 [(0, true), (2, true), (1, false), (3, false), (4, true), (5, true)] (by kernel_rfl) (by kernel_rfl) (fun _ _ d _ _ h => by cases d <;> exact h) ⟨HO2.out.drew.heap (.tail _ (.head _)), HO2.out.drew.heap (.head _)⟩ ?_
  simp only [List.map_cons, List.map_nil, pick_zero, pick_succ, List.drop_succ_cons, List.drop_zero]
  refine lin_load rfl _ _ rfl g 0 [Value.string t1, Value.string t2, Value.int .i64 p, Value.string t4, Value.string t5] [Value.string t1, Value.string t2, Value.int .i64 p, Value.string t4, Value.string t5] 24 (by rfl) _ Tryz.underlying24 rfl url_size (by rfl) (fun w' ew => ew.1) ?_
  simp only [Act.put, List.setIfInBounds_toArray, List.set_cons_zero, List.set_cons_succ]
  refine lin_load rfl _ _ rfl g2 0 [Value.string q1, Value.string q2, Value.int .i64 q, Value.string q4, Value.string q5] [Value.string q1, Value.string q2, Value.int .i64 q, Value.string q4, Value.string q5] 24 (by rfl) _ Tryz.underlying24 rfl url_size (by rfl) (fun w' ew => ew.2) ?_
  simp only [Act.put, List.setIfInBounds_toArray, List.set_cons_zero, List.set_cons_succ]
  refine lin_act ?_
  refine wl_call rfl _ _ _ (by go_simp) (HOR.out _ _ HO2.out.drew) ?_
  rintro e w3 ⟨rfl, hO3⟩
  refine ⟨_, rfl, LinPost.mk ⟨hO3.heap (.tail _ (.head _)), hO3.heap (.head _)⟩ ?_⟩
  simp only [Act.put, List.setIfInBounds_toArray, List.set_cons_zero, List.set_cons_succ]
  refine lin_act ?_
  refine wl_call rfl _ _ _ (by go_simp) (HOV.out _ _ hO3) ?_
  rintro e w4 ⟨rfl, hO4⟩
  refine ⟨_, rfl, LinPost.mk ⟨hO4.heap (.tail _ (.head _)), hO4.heap (.head _)⟩ ?_⟩
  have HO4 := Lib.hid hO4.tail.tail
  clear hO3 hO4 HO2 HOR HOV
  simp only [Act.put, List.setIfInBounds_toArray, List.set_cons_zero, List.set_cons_succ]
  iterate 2 (refine lin_q ?_ rfl ?_ ?_; rotate_left 1; (focus (rintro w' -; go_simp; first | done | with_reducible rfl | (trace_state; fail))); simp only [Act.put, List.setIfInBounds_toArray, List.set_cons_zero, List.set_cons_succ])
  refine lin_nil ?_
  go_wp2
  go_ret
  exact ⟨rfl, HO4.out⟩
/-- What is read is a URL but for its length. -/
theorem readI_half {l : List Int} (hB : Byt l) (hl : l.length ≤ 5000000) {u : UL} (h : readI l = some u) : u.Half := by
  rw [readI_parts l rfl rfl rfl, Option.bind_eq_some_iff] at h
  obtain ⟨sch, hs, h⟩ := h
  have hB1 : Byt (ahead [35] l) := ahead_byt hB
  have hl1 := ahead_len [35] l
  have hB2 : Byt (ahead [63] (ahead [35] l)) := ahead_byt hB1
  have hl2 := ahead_len [63] (ahead [35] l)
  have hBc := cut3_byt hB2
  have hlc := (cut3_mem (ahead [63] (ahead [35] l))).2.2
  have hq := behind_len [63] (ahead [35] l)
  split at h
  · rename_i hho
    rw [Option.bind_eq_some_iff] at h
    obtain ⟨n, hp, h⟩ := h
    have hn : 0 ≤ n ∧ n < 100000 := by
      unfold prtI' prtI at hp
      split at hp
      · cases hp; omega
      · rw [Option.bind_eq_some_iff] at hp
        obtain ⟨k, hk, hp⟩ := hp
        have := figI_range hk
        split at hp
        · cases hp
        · cases hp; exact this
    cases h
    refine ⟨schI_is hs, hho, lowL_byt (ahead_byt (ahead_byt hBc.2)), ?_, ?_, ?_, ?_⟩
    · show 0 ≤ (if n = ownI sch then (0 : Int) else n); split <;> omega
    · show (if n = ownI sch then (0 : Int) else n) < 100000; split <;> omega
    · have h1 := pctE_len (walkI ((behind [47] (cut3 (ahead [63] (ahead [35] l))).2).drop 1))
      have h2 := walkI_len ((behind [47] (cut3 (ahead [63] (ahead [35] l))).2).drop 1)
      have h3 := behind_len [47] (cut3 (ahead [63] (ahead [35] l))).2
      rw [List.length_drop] at h2
      show (pctE (walkI ((behind [47] (cut3 (ahead [63] (ahead [35] l))).2).drop 1))).length ≤ _
      omega
    · have h1 := pctE_len ((behind [63] (ahead [35] l)).drop 1)
      rw [List.length_drop] at h1
      show (if (behind [63] (ahead [35] l)).drop 1 = [] then [] else 63 :: pctE ((behind [63] (ahead [35] l)).drop 1)).length ≤ _
      split
      · simp
      · rw [List.length_cons]; omega
  · cases h
theorem build_url (w : World) : (Instr.build 24 #[]).run Tryz.prog w = .ok (.agg UL.zero.val.toArray) w := by kernel_rfl
set_option maxHeartbeats 8000000 in
theorem uparse_c {w0 w : World} {R : Blks} (hV : VarsOk w0) (hO : Own w0 w R) (s : ByteArray) (hs : s.size ≤ 5000000) :
    Calls Tryz.prog 5 #[.string s] w (GotE w0 R (parseI (sb s))) := by
  have HO := Lib.hid hO
  have htr : ∀ (w' : World) (R' : Blks), Own w0 w' R' → _ := fun w' R' h => trim_c h s (by omega)
  have hTB : Byt (trimI (sb s)) := fun x hx => byt_sb s x ((trimI_sub _).subset hx)
  have hTl : (trimI (sb s)).length ≤ 5000000 := by have := (trimI_sub (sb s)).length_le; rw [length_sb] at this; omega
  have hre : ∀ (w' : World) (R' : Blks), Own w0 w' R' → _ := fun w' R' h => read_c hV h (strOfNums (trimI (sb s))) (by rw [strOfNums_size]; omega)
  rw [sb_str hTB] at hre
  have hhalf : ∀ u, readI (trimI (sb s)) = some u → u.Half := fun u h => readI_half hTB hTl h
  have hres := parse_read (sb s)
  generalize readI (trimI (sb s)) = r at *
  generalize strOfNums (trimI (sb s)) = Z at *
  obtain ⟨res, hr⟩ : ∃ res, parseI (sb s) = res := ⟨_, rfl⟩
  rw [hr] at hres ⊢
  have HT := Lib.hid htr; have HR := Lib.hid hre; have HRES := Lib.hid hres; have HV := Lib.hid hV
  clear hO htr hTB hTl hre hres hr hV
  go_enter Tryz.func5, Tryz.ntmps5
  go_wp2_with (refine wl_alloc rfl _ rfl HO.out _ (alloc_url _) ?_; intro g2 w1 hO1; have HO1 := Lib.hid hO1; clear hO1 HO)
  with_reducible refine (HT.out _ _ HO1.out).mono ?_
  rintro e w2 ⟨rfl, hO⟩
  have HO2 := Lib.hid hO
  clear hO HO1 HT
  go_wp2_with fail
  with_reducible refine (HR.out _ _ HO2.out).mono ?_
  rintro e w3 ⟨rfl, hO⟩
  have HO3 := Lib.hid hO
  clear hO HO2 HR
  cases r with
  | none =>
    have hno : res = none := by rw [HRES.out]; rfl
    subst hno
    clear HRES hhalf
    simp only [Option.getD_none, Option.isSome_none]
    go_wp2_with (first | (refine wl_alloc rfl _ rfl HO3.out _ (alloc_url _) ?_; intro g4 w4 hO; have HO4 := Lib.hid hO; clear hO HO3) | (refine wl_store rfl _ _ _ rfl HO4.out 0 g4 0 _ UL.zero.val _ rfl (by rfl) (by rfl) url_size (one_url _) (by decide) ?_; intro w5 hO; have HO5 := Lib.hid (hO.cast (L' := (g4, .cells UL.zero.val.toArray 24) :: (g2, .cells UL.zero.val.toArray 24) :: R) rfl); clear hO HO4) | (refine wl_store rfl _ _ _ rfl HO5.out 1 g2 0 _ UL.zero.val _ rfl (by rfl) (by rfl) url_size (one_url _) (by decide) ?_; intro w6 hO; have HO6 := Lib.hid (hO.cast (L' := (g4, .cells UL.zero.val.toArray 24) :: (g2, .cells UL.zero.val.toArray 24) :: R) rfl); clear hO HO5))
    have hr0 : w6.cell? ⟨g2, 0, none⟩ = some (Value.string ⟨#[]⟩) := by rw [HO6.out.cell (.tail _ (.head _))]; rfl
    have hr1 : w6.cell? ⟨g2, 1, none⟩ = some (Value.string ⟨#[]⟩) := by rw [HO6.out.cell (.tail _ (.head _))]; rfl
    have hr2 : w6.cell? ⟨g2, 2, none⟩ = some (Value.int .i64 0) := by rw [HO6.out.cell (.tail _ (.head _))]; rfl
    have hr3 : w6.cell? ⟨g2, 3, none⟩ = some (Value.string ⟨#[]⟩) := by rw [HO6.out.cell (.tail _ (.head _))]; rfl
    have hr4 : w6.cell? ⟨g2, 4, none⟩ = some (Value.string ⟨#[]⟩) := by rw [HO6.out.cell (.tail _ (.head _))]; rfl
    exact bodyPost_ret (v := .tuple #[.agg #[.string ⟨#[]⟩, .string ⟨#[]⟩, .int .i64 0, .string ⟨#[]⟩, .string ⟨#[]⟩], .int .i64 2]) (by simp [results, Tryz.results5, go_sem, hr0, hr1, hr2, hr3, hr4]) rfl ⟨rfl, HO6.out.tail.tail⟩
  | some u =>
    have hu := hhalf u rfl
    have hpr : ∀ (w' : World) (R' : Blks), Own w0 w' R' → _ := fun w' R' h => uprint0_c HV.out h u hu
    have hps : (strOfNums (printI u)).size = (printI u).length := strOfNums_size _
    have hres : res = if 40 < (printI u).length then none else some u := by rw [HRES.out]; rfl
    have HPR := Lib.hid hpr; have HRES2 := Lib.hid hres
    obtain ⟨pl, hpl⟩ : ∃ pl, (printI u).length = pl := ⟨_, rfl⟩
    rw [hpl] at hps HRES2
    clear hhalf hu hpr hres hpl HRES
    generalize strOfNums (printI u) = PS at *
    simp only [Option.getD_some, Option.isSome_some]
    obtain ⟨v1, v2, v3, v4, v5⟩ := u
    go_wp2_with (first | (refine wl_alloc rfl _ rfl HO3.out _ (alloc_url _) ?_; intro g4 w4 hO; have HO4 := Lib.hid hO; clear hO HO3) | (refine wl_store rfl _ _ _ rfl HO4.out 0 g4 0 _ (UL.mk v1 v2 v3 v4 v5).val _ rfl (by rfl) (by rfl) url_size (one_url _) (by simp [UL.val, UL.zero]) ?_; intro w5 hO; have HO5 := Lib.hid (hO.cast (L' := (g4, .cells (UL.mk v1 v2 v3 v4 v5).val.toArray 24) :: (g2, .cells UL.zero.val.toArray 24) :: R) rfl); clear hO HO4) | (refine wl_g (by rfl) ?_; refine wl_load rfl _ _ rfl g4 0 (UL.mk v1 v2 v3 v4 v5).val (UL.mk v1 v2 v3 v4 v5).val _ (HO5.out.heap (.head _)) (by rfl) _ Tryz.underlying24 rfl url_size (by rfl) ?_))
    with_reducible refine (HPR.out _ _ HO5.out).mono ?_
    rintro e w6 ⟨rfl, hO⟩
    have HO6 := Lib.hid hO
    clear hO HO5 HPR
    by_cases h40 : 40 < pl
    · have h40' : 40 < PS.size := by omega
      have h40I : (40 : Int) < PS.size := by omega
      have hno : res = none := by rw [HRES2.out, if_pos h40]
      subst hno
      clear HRES2
      go_wp2_with (refine wl_store rfl _ _ _ rfl HO6.out 1 g2 0 _ UL.zero.val _ rfl (by rfl) (by rfl) url_size (one_url _) (by decide) ?_; intro w7 hO; have HO7 := Lib.hid (hO.cast (L' := (g4, .cells (UL.mk v1 v2 v3 v4 v5).val.toArray 24) :: (g2, .cells UL.zero.val.toArray 24) :: R) rfl); clear hO HO6)
      have hr0 : w7.cell? ⟨g2, 0, none⟩ = some (Value.string ⟨#[]⟩) := by rw [HO7.out.cell (.tail _ (.head _))]; rfl
      have hr1 : w7.cell? ⟨g2, 1, none⟩ = some (Value.string ⟨#[]⟩) := by rw [HO7.out.cell (.tail _ (.head _))]; rfl
      have hr2 : w7.cell? ⟨g2, 2, none⟩ = some (Value.int .i64 0) := by rw [HO7.out.cell (.tail _ (.head _))]; rfl
      have hr3 : w7.cell? ⟨g2, 3, none⟩ = some (Value.string ⟨#[]⟩) := by rw [HO7.out.cell (.tail _ (.head _))]; rfl
      have hr4 : w7.cell? ⟨g2, 4, none⟩ = some (Value.string ⟨#[]⟩) := by rw [HO7.out.cell (.tail _ (.head _))]; rfl
      exact bodyPost_ret (v := .tuple #[.agg #[.string ⟨#[]⟩, .string ⟨#[]⟩, .int .i64 0, .string ⟨#[]⟩, .string ⟨#[]⟩], .int .i64 2]) (by simp [results, Tryz.results5, go_sem, hr0, hr1, hr2, hr3, hr4]) rfl ⟨rfl, HO7.out.tail.tail⟩
    · have h40' : ¬ 40 < PS.size := by omega
      have h40I : ¬ (40 : Int) < PS.size := by omega
      have hyes : res = some ⟨v1, v2, v3, v4, v5⟩ := by rw [HRES2.out, if_neg h40]
      have HY := Lib.hid hyes
      clear HRES2 hyes
      go_wp2_with (first | (refine wl_load rfl _ _ rfl g4 0 (UL.mk v1 v2 v3 v4 v5).val (UL.mk v1 v2 v3 v4 v5).val _ (HO6.out.heap (.head _)) (by rfl) _ Tryz.underlying24 rfl url_size (by rfl) ?_) | (refine wl_store rfl _ _ _ rfl HO6.out 1 g2 0 _ (UL.mk v1 v2 v3 v4 v5).val _ rfl (by rfl) (by rfl) url_size (one_url _) (by simp [UL.val, UL.zero]) ?_; intro w7 hO; have HO7 := Lib.hid (hO.cast (L' := (g4, .cells (UL.mk v1 v2 v3 v4 v5).val.toArray 24) :: (g2, .cells (UL.mk v1 v2 v3 v4 v5).val.toArray 24) :: R) rfl); clear hO HO6))
      have hr0 : w7.cell? ⟨g2, 0, none⟩ = some (.string (strOfNums v1)) := by rw [HO7.out.cell (.tail _ (.head _))]; rfl
      have hr1 : w7.cell? ⟨g2, 1, none⟩ = some (.string (strOfNums v2)) := by rw [HO7.out.cell (.tail _ (.head _))]; rfl
      have hr2 : w7.cell? ⟨g2, 2, none⟩ = some (.int .i64 v3) := by rw [HO7.out.cell (.tail _ (.head _))]; rfl
      have hr3 : w7.cell? ⟨g2, 3, none⟩ = some (.string (strOfNums v4)) := by rw [HO7.out.cell (.tail _ (.head _))]; rfl
      have hr4 : w7.cell? ⟨g2, 4, none⟩ = some (.string (strOfNums v5)) := by rw [HO7.out.cell (.tail _ (.head _))]; rfl
      exact bodyPost_ret (v := .tuple #[.agg #[.string (strOfNums v1), .string (strOfNums v2), .int .i64 v3, .string (strOfNums v4), .string (strOfNums v5)], .int .i64 0]) (by simp [results, Tryz.results5, go_sem, hr0, hr1, hr2, hr3, hr4]) rfl ⟨by rw [HY.out]; rfl, HO7.out.tail.tail⟩
end Go.Proofs.YtfgaikacijdodaaGreatDoor
/-
  The landed program's isOrSafer, portOf, readPort, isHost, hasScheme, hasHost, hasPort, split.
-/
namespace Go.Proofs.YtfgaikacijdodaaGreatDoor
set_option linter.unusedVariables false
set_option linter.unusedSimpArgs false
set_option maxRecDepth 20000
open Go.RowKit

/-- A string held against a constant, as the walk compares them. -/
theorem beq_litC (o : ByteArray) (l : List UInt8) (m : List Int) (h : l.map (fun b => (b.toNat : Int)) = m) : (o.toList == l) = decide (sb o = m) := by
  have h1 := beq_sb o ⟨l.toArray⟩
  have h2 : (⟨l.toArray⟩ : ByteArray).toList = l := by rw [ByteArray.toList_eq]
  have h3 : sb ⟨l.toArray⟩ = m := by rw [← h]; rfl
  rw [h2, h3] at h1
  exact h1
theorem str_mtC (l : List Int) (hB : Byt l) : ((strOfNums l).toList == []) = decide (l = []) := by
  have := beq_litC (strOfNums l) [] [] rfl
  rw [sb_str hB] at this
  exact this
def PL.val (p : PL) : List Value := [.string (strOfNums p.sch), .string (strOfNums p.host), .bool p.under, .int .i64 p.port]
theorem pl_size : (Tryz.prog.info? 50).map (·.size) = some 4 := by kernel_rfl
theorem alloc_pl (w : World) : (Instr.alloc 50 true (.tuple #[])).run Tryz.prog w = .ok (.pointer (some ⟨w.heap.size, 0, none⟩)) (w.alloc (.cells PL.zero.val.toArray 50)) := by kernel_rfl
theorem one_pl (p : PL) : ∀ v ∈ p.val, v.oneCell' = true := by
  intro v hv
  simp only [PL.val, List.mem_cons, List.not_mem_nil, or_false] at hv
  rcases hv with rfl | rfl | rfl | rfl <;> rfl

set_option maxHeartbeats 4000000 in
theorem csafer_c {w : World} (a b : List Int) (ha : Byt a) (hb : Byt b) :
    Calls Tryz.prog 26 #[.string (strOfNums a), .string (strOfNums b)] w fun e w' => e = .returned (.bool (saferI a b)) ∧ w = w' := by
  have t1 := beq_str ha hb
  have t2 := beq_litC (strOfNums a) [104, 116, 116, 112, 115] httpsI rfl
  rw [sb_str ha] at t2
  unfold saferI
  obtain ⟨b1, hb1⟩ : ∃ b', decide (a = b) = b' := ⟨_, rfl⟩
  obtain ⟨b2, hb2⟩ : ∃ b', decide (a = httpsI) = b' := ⟨_, rfl⟩
  rw [hb1] at t1 ⊢; rw [hb2] at t2 ⊢
  generalize strOfNums a = sa at *
  generalize strOfNums b = sb' at *
  clear hb1 hb2 ha hb
  cases b1 <;> cases b2 <;>
  (go_enter Tryz.func26, Tryz.ntmps26
   go_wp2
   go_ret
   exact ⟨rfl, rfl⟩)

set_option maxHeartbeats 4000000 in
theorem cportof_c {w0 w : World} {R : Blks} (hO : Own w0 w R) (u : UL) (hu : Byt u.sch) :
    Calls Tryz.prog 57 #[.agg u.val.toArray] w fun e w' => e = .returned (.int .i64 (ownPort u)) ∧ Own w0 w' R := by
  have t2 := beq_litC (strOfNums u.sch) [104, 116, 116, 112, 115] httpsI rfl
  rw [sb_str hu] at t2
  have hop : ownPort u = if u.port = 0 then (if u.sch = httpsI then 443 else 80) else u.port := rfl
  rw [hop]
  obtain ⟨b2, hb2⟩ : ∃ b', decide (u.sch = httpsI) = b' := ⟨_, rfl⟩
  rw [hb2] at t2
  have hb3 : (if u.sch = httpsI then (443 : Int) else 80) = if b2 = true then 443 else 80 := by rw [← hb2]; simp only [decide_eq_true_iff]
  rw [hb3]
  unfold UL.val
  clear hb2 hb3 hop hu
  generalize strOfNums u.sch = us at *
  generalize strOfNums u.host = uh at *
  generalize strOfNums u.path = ux at *
  generalize strOfNums u.query = uq at *
  generalize u.port = up at *
  have HO := Lib.hid hO
  clear hO
  by_cases h0 : up = 0
  · subst h0
    rw [if_pos rfl]
    cases b2 <;>
    (go_enter Tryz.func57, Tryz.ntmps57
     go_wp2_with (refine wl_box rfl _ _ rfl HO.out [Value.string us, Value.string uh, Value.int .i64 0, Value.string ux, Value.string uq].toArray (by rfl) ?_; intro g w1 hO1; have HO1 := Lib.hid hO1; have c0 : w1.cell? ⟨g, 0, none⟩ = some (.string us) := hO1.cell (.head _) 0; have c2 : w1.cell? ⟨g, 2, none⟩ = some (.int .i64 0) := hO1.cell (.head _) 2; clear hO1 HO)
     go_ret
     exact ⟨rfl, HO1.out.tail⟩)
  · rw [if_neg h0]
    have t0 : (up != 0) = true := by simp [h0]
    clear h0
    go_enter Tryz.func57, Tryz.ntmps57
    go_wp2_with (refine wl_box rfl _ _ rfl HO.out [Value.string us, Value.string uh, Value.int .i64 up, Value.string ux, Value.string uq].toArray (by rfl) ?_; intro g w1 hO1; have HO1 := Lib.hid hO1; have c0 : w1.cell? ⟨g, 0, none⟩ = some (.string us) := hO1.cell (.head _) 0; have c2 : w1.cell? ⟨g, 2, none⟩ = some (.int .i64 up) := hO1.cell (.head _) 2; clear hO1 HO)
    go_ret
    exact ⟨rfl, HO1.out.tail⟩

set_option maxHeartbeats 4000000 in
theorem creadport_c {w0 w : World} {R : Blks} (hV : VarsOk w0) (hO : Own w0 w R) (s : ByteArray) (hs : s.size ≤ 1073741824) :
    Calls Tryz.prog 55 #[.string s] w fun e w' => e = .returned (.tuple #[.int .i64 ((portG (sb s)).getD 0), .bool (portG (sb s)).isSome]) ∧ Own w0 w' R := by
  have t1 := beq_litC s [42] [42] rfl
  have hpu := fun (w1 : World) (R1 : Blks) (h : Own w0 w1 R1) => cuint_c hV h s hs
  have HO := Lib.hid hO; have HP := Lib.hid hpu
  clear hO hpu
  by_cases h1 : sb s = [42]
  · rw [decide_eq_true h1] at t1
    rw [h1]
    show Calls _ _ _ _ fun e w' => e = .returned (.tuple #[.int .i64 (-2), .bool true]) ∧ _
    clear h1 HP
    go_enter Tryz.func55, Tryz.ntmps55
    go_wp2
    go_ret2
    exact ⟨rfl, HO.out⟩
  · rw [decide_eq_false h1] at t1
    have hg : portG (sb s) = prtI (sb s) := by unfold portG; rw [if_neg h1]
    rw [hg]
    obtain ⟨o, ho⟩ : ∃ o, prtI (sb s) = o := ⟨_, rfl⟩
    rw [ho]
    have HPO := Lib.hid ho
    clear h1 hg ho
    go_enter Tryz.func55, Tryz.ntmps55
    go_wp2_with fail
    with_reducible refine (HP.out _ _ HO.out).mono ?_
    rintro e w2 ⟨n, er, rfl, hcase, hO⟩
    have HO2 := Lib.hid hO
    clear hO HO HP
    rcases hcase with ⟨rfl, hn, hpa⟩ | ⟨⟨te, ve, rfl⟩, hpa⟩
    · by_cases h5 : (5 : Int) < s.size
      · have hno : o = none := by rw [← HPO.out]; exact prt_long (by rw [length_sb]; omega)
        subst hno
        clear hpa HPO
        try simp only []
        go_wp2
        go_ret2
        exact ⟨rfl, HO2.out⟩
      · have hyes : o = some (n : Int) := by rw [← HPO.out]; exact (uint_port (s := s) (by omega) n).1 hpa
        subst hyes
        have hnI : (n : Int) ≤ 65535 := by omega
        clear hpa HPO
        have hw1 : IntKind.i64.wrap (n : Int) = n := IntWalk.i64_in _ (by omega)
        try simp only []
        go_wp2
        go_ret2
        exact ⟨rfl, HO2.out⟩
    · have hno : o = none := by
        rw [← HPO.out]
        by_cases h5 : s.size ≤ 5
        · cases hp : prtI (sb s) with
          | none => rfl
          | some m =>
            have hm := prt_some.1 hp
            have hb := figN_bound (sb s) hm.1.2.2
            obtain ⟨k, rfl⟩ : ∃ k : Nat, m = k := ⟨m.toNat, by omega⟩
            exact absurd ((uint_port h5 k).2 hp) (hpa k)
        · exact prt_long (by rw [length_sb]; omega)
      subst hno
      clear hpa HPO
      try simp only []
      go_wp2
      go_ret2
      exact ⟨rfl, HO2.out⟩

set_option maxHeartbeats 8000000 in
theorem cishost_c {w0 w : World} {R : Blks} (hV : VarsOk w0) (hO : Own w0 w R) (s : ByteArray) (hs : s.size ≤ 4000000) :
    Calls Tryz.prog 54 #[.string s] w fun e w' => e = .returned (.bool (decide (HostOk (sb s)))) ∧ Own w0 w' R := by
  have hsz : ((⟨#[104, 116, 116, 112, 58, 47, 47]⟩ : ByteArray) ++ s).size ≤ 5000000 := by
    rw [ByteArray.size_append]
    have : (⟨#[104, 116, 116, 112, 58, 47, 47]⟩ : ByteArray).size = 7 := rfl
    omega
  have hre := fun (w1 : World) (R1 : Blks) (h : Own w0 w1 R1) => uparse_c hV h (⟨#[104, 116, 116, 112, 58, 47, 47]⟩ ++ s) hsz
  have hsb : sb ((⟨#[104, 116, 116, 112, 58, 47, 47]⟩ : ByteArray) ++ s) = httpI ++ markI ++ sb s := by rw [sb_append]; rfl
  rw [hsb] at hre
  have hh := host_parse (byt_sb s)
  rw [← hh]
  have hn7 : ¬ (9223372036854775807 < 7 + s.size) := by omega
  obtain ⟨o, ho⟩ : ∃ o, parseI (httpI ++ markI ++ sb s) = o := ⟨_, rfl⟩
  rw [ho] at hre ⊢
  have hoB : ∀ u, o = some u → Byt u.host := fun u e => (parseI_norm (byt_append (byt_append http_byt mark_byt) (byt_sb s)) (ho.trans e)).fine.half.hostB
  have HO := Lib.hid hO; have HR := Lib.hid hre; have HB := Lib.hid hoB
  clear hO hre ho hoB hh hsb hsz
  go_enter Tryz.func54, Tryz.ntmps54
  go_wp2_with fail
  with_reducible refine (HR.out _ _ HO.out).mono ?_
  rintro e w3 ⟨rfl, hO⟩
  have HO3 := Lib.hid hO
  clear hO HO HR
  cases o with
  | none =>
    simp only [Option.getD_none, Option.isSome_none, Bool.false_eq_true, if_false]
    go_wp2_with (first | (refine wl_alloc rfl _ rfl HO3.out _ (alloc_url _) ?_; intro g4 w4 hO; have HO4 := Lib.hid hO; clear hO HO3) | (refine wl_store rfl _ _ _ rfl HO4.out 0 g4 0 _ UL.zero.val _ rfl (by rfl) (by rfl) url_size (one_url _) (by decide) ?_; intro w5 hO; have HO5 := Lib.hid (hO.cast (L' := (g4, .cells UL.zero.val.toArray 24) :: R) rfl); clear hO HO4))
    go_ret
    exact ⟨rfl, HO5.out.tail⟩
  | some u =>
    have huB := HB.out u rfl
    have t : ((strOfNums u.host).toList == s.toList) = decide (u.host = sb s) := by rw [beq_sb, sb_str huB]
    simp only [Option.getD_some, Option.isSome_some, if_true]
    obtain ⟨v1, v2, v3, v4, v5⟩ := u
    obtain ⟨b, hb⟩ : ∃ b, decide (v2 = sb s) = b := ⟨_, rfl⟩
    simp only at t huB
    rw [hb] at t
    have HBB := Lib.hid hb
    clear HB hb huB
    cases b with
    | true =>
      go_wp2_with (first | (refine wl_alloc rfl _ rfl HO3.out _ (alloc_url _) ?_; intro g4 w4 hO; have HO4 := Lib.hid hO; clear hO HO3) | (refine wl_store rfl _ _ _ rfl HO4.out 0 g4 0 _ (UL.mk v1 v2 v3 v4 v5).val _ rfl (by rfl) (by rfl) url_size (one_url _) (by simp [UL.val, UL.zero]) ?_; intro w5 hO; have HO5 := Lib.hid (hO.cast (L' := (g4, .cells (UL.mk v1 v2 v3 v4 v5).val.toArray 24) :: R) rfl); have k1 : w5.cell? ⟨g4, 1, none⟩ = some (.string (strOfNums v2)) := (by rw [HO5.out.cell (.head _)]; rfl); clear hO HO4))
      go_ret
      exact ⟨by rw [show decide ((UL.mk v1 v2 v3 v4 v5).host = sb s) = _ from HBB.out]; rfl, HO5.out.tail⟩
    | false =>
      go_wp2_with (first | (refine wl_alloc rfl _ rfl HO3.out _ (alloc_url _) ?_; intro g4 w4 hO; have HO4 := Lib.hid hO; clear hO HO3) | (refine wl_store rfl _ _ _ rfl HO4.out 0 g4 0 _ (UL.mk v1 v2 v3 v4 v5).val _ rfl (by rfl) (by rfl) url_size (one_url _) (by simp [UL.val, UL.zero]) ?_; intro w5 hO; have HO5 := Lib.hid (hO.cast (L' := (g4, .cells (UL.mk v1 v2 v3 v4 v5).val.toArray 24) :: R) rfl); have k1 : w5.cell? ⟨g4, 1, none⟩ = some (.string (strOfNums v2)) := (by rw [HO5.out.cell (.head _)]; rfl); clear hO HO4))
      go_ret
      exact ⟨by rw [show decide ((UL.mk v1 v2 v3 v4 v5).host = sb s) = _ from HBB.out]; rfl, HO5.out.tail⟩

theorem csplit_c {w0 w : World} {R : Blks} (hO : Own w0 w R) (s : ByteArray) (hs : s.size ≤ 1073741824) :
    Calls Tryz.prog 19 #[.string s] w fun e w' => ∃ v L, e = .returned v ∧ IsStrs v ((wordsI (sb s)).map strOfNums) L ∧ Own w0 w' (L ++ R) := by
  have HF := Lib.hid (fun (w1 : World) (R1 : Blks) (h : Own w0 w1 R1) => cfields_c h s hs)
  have HO := Lib.hid hO
  clear hO
  go_enter Tryz.func19, Tryz.ntmps19
  go_wp2_with fail
  with_reducible refine (HF.out _ _ HO.out).mono ?_
  rintro e w2 ⟨v, L, rfl, hv, hO⟩
  obtain ⟨A, c, hve⟩ := hv.val
  rw [List.length_map] at hve
  subst hve
  have HO2 := Lib.hid hO; have HI := Lib.hid hv
  clear hO HO HF hv
  go_wp2
  go_ret
  exact ⟨_, L, rfl, HI.out, HO2.out⟩
end Go.Proofs.YtfgaikacijdodaaGreatDoor
/-
  The landed program's hasScheme, hasHost, hasPort, readPlace, isSource.
-/
namespace Go.Proofs.YtfgaikacijdodaaGreatDoor
set_option linter.unusedVariables false
set_option linter.unusedSimpArgs false
set_option maxRecDepth 20000
open Go.RowKit

set_option maxHeartbeats 8000000 in
theorem chassch_c {w0 w : World} {R : Blks} (hO : Own w0 w R) (p : PL) (hpB : Byt p.sch) (page u : UL) (hg : Byt page.sch) (hu : Byt u.sch) :
    Calls Tryz.prog 29 #[.agg p.val.toArray, .agg page.val.toArray, .agg u.val.toArray] w fun e w' => e = .returned (.bool (p.hasSch page u)) ∧ Own w0 w' R := by
  have t1 := str_mtC p.sch hpB
  have hs1 := fun w : World => csafer_c (w := w) u.sch page.sch hu hg
  have hs2 := fun w : World => csafer_c (w := w) u.sch p.sch hu hpB
  have hd : p.hasSch page u = if p.sch = [] then saferI u.sch page.sch else saferI u.sch p.sch := rfl
  rw [hd]
  obtain ⟨b1, hb1⟩ : ∃ b, decide (p.sch = []) = b := ⟨_, rfl⟩
  rw [hb1] at t1
  have hif : (if p.sch = [] then saferI u.sch page.sch else saferI u.sch p.sch) = if b1 = true then saferI u.sch page.sch else saferI u.sch p.sch := by rw [← hb1]; simp only [decide_eq_true_iff]
  rw [hif]
  generalize saferI u.sch page.sch = r1 at *
  generalize saferI u.sch p.sch = r2 at *
  unfold UL.val PL.val
  clear hd hif hb1
  generalize strOfNums p.sch = qs at *
  generalize strOfNums p.host = qh at *
  generalize p.under = qu at *
  generalize p.port = qp at *
  generalize strOfNums page.sch = ps at *
  generalize strOfNums page.host = ph at *
  generalize strOfNums page.path = px at *
  generalize strOfNums page.query = pq at *
  generalize page.port = pp at *
  generalize strOfNums u.sch = us at *
  generalize strOfNums u.host = uh at *
  generalize strOfNums u.path = ux at *
  generalize strOfNums u.query = uq at *
  generalize u.port = up at *
  have HO := Lib.hid hO; have H1 := Lib.hid hs1; have H2 := Lib.hid hs2
  clear hO hs1 hs2 hpB hg hu
  cases b1 with
  | true =>
    go_enter Tryz.func29, Tryz.ntmps29
    go_wp2_with (first | (refine wl_box rfl _ _ rfl HO.out [Value.string qs, Value.string qh, Value.bool qu, Value.int .i64 qp].toArray (by rfl) ?_; intro g0 w1 hO; have HO1 := Lib.hid hO; clear hO HO) | (refine wl_box rfl _ _ rfl HO1.out [Value.string ps, Value.string ph, Value.int .i64 pp, Value.string px, Value.string pq].toArray (by rfl) ?_; intro g1 w2 hO; have HO2 := Lib.hid hO; clear hO HO1) | (refine wl_box rfl _ _ rfl HO2.out [Value.string us, Value.string uh, Value.int .i64 up, Value.string ux, Value.string uq].toArray (by rfl) ?_; intro g2 w3 hO; have HO3 := Lib.hid hO; have k0 : w3.cell? ⟨g0, 0, none⟩ = some (.string qs) := hO.cell (.tail _ (.tail _ (.head _))) 0; have k1 : w3.cell? ⟨g1, 0, none⟩ = some (.string ps) := hO.cell (.tail _ (.head _)) 0; have k2 : w3.cell? ⟨g2, 0, none⟩ = some (.string us) := hO.cell (.head _) 0; clear hO HO2))
    with_reducible refine (H1.out _).mono ?_
    rintro e w4 ⟨rfl, hww⟩
    subst hww
    go_wp2
    go_ret
    exact ⟨rfl, HO3.out.tail.tail.tail⟩
  | false =>
    go_enter Tryz.func29, Tryz.ntmps29
    go_wp2_with (first | (refine wl_box rfl _ _ rfl HO.out [Value.string qs, Value.string qh, Value.bool qu, Value.int .i64 qp].toArray (by rfl) ?_; intro g0 w1 hO; have HO1 := Lib.hid hO; clear hO HO) | (refine wl_box rfl _ _ rfl HO1.out [Value.string ps, Value.string ph, Value.int .i64 pp, Value.string px, Value.string pq].toArray (by rfl) ?_; intro g1 w2 hO; have HO2 := Lib.hid hO; clear hO HO1) | (refine wl_box rfl _ _ rfl HO2.out [Value.string us, Value.string uh, Value.int .i64 up, Value.string ux, Value.string uq].toArray (by rfl) ?_; intro g2 w3 hO; have HO3 := Lib.hid hO; have k0 : w3.cell? ⟨g0, 0, none⟩ = some (.string qs) := hO.cell (.tail _ (.tail _ (.head _))) 0; have k1 : w3.cell? ⟨g1, 0, none⟩ = some (.string ps) := hO.cell (.tail _ (.head _)) 0; have k2 : w3.cell? ⟨g2, 0, none⟩ = some (.string us) := hO.cell (.head _) 0; clear hO HO2))
    with_reducible refine (H2.out _).mono ?_
    rintro e w4 ⟨rfl, hww⟩
    subst hww
    go_wp2
    go_ret
    exact ⟨rfl, HO3.out.tail.tail.tail⟩

set_option maxHeartbeats 8000000 in
theorem chashost_c {w0 w : World} {R : Blks} (hO : Own w0 w R) (p : PL) (hpB : Byt p.host) (hpl : p.host.length ≤ 100000000) (u : UL) (hu : Byt u.host) (hul : u.host.length ≤ 100000000) :
    Calls Tryz.prog 30 #[.agg p.val.toArray, .agg u.val.toArray] w fun e w' => e = .returned (.bool (p.hasHost u)) ∧ Own w0 w' R := by
  have t1 := beq_str hu hpB
  have hen := fun w : World => csuf_c (w := w) (strOfNums u.host) (⟨#[46]⟩ ++ strOfNums p.host) (by rw [strOfNums_size]; omega)
  rw [sb_str hu, sb_append, sb_str hpB] at hen
  have hd : p.hasHost u = if p.under = true then endI (46 :: p.host) u.host && decide (p.host.length + 1 < u.host.length) else decide (u.host = p.host) := rfl
  rw [hd]
  have he : sb ⟨#[46]⟩ ++ p.host = 46 :: p.host := rfl
  rw [he] at hen
  have z1 : (strOfNums u.host).size = u.host.length := strOfNums_size _
  have z2 : (strOfNums p.host).size = p.host.length := strOfNums_size _
  have z3 : ((⟨#[46]⟩ : ByteArray) ++ strOfNums p.host).size = 1 + p.host.length := by rw [ByteArray.size_append, strOfNums_size]; rfl
  obtain ⟨b1, hb1⟩ : ∃ b, decide (u.host = p.host) = b := ⟨_, rfl⟩
  rw [hb1] at t1 ⊢
  generalize endI (46 :: p.host) u.host = b2 at *
  unfold UL.val PL.val
  generalize u.host.length = nu at *
  generalize p.host.length = np at *
  generalize strOfNums p.sch = qs at *
  generalize strOfNums p.host = qh at *
  generalize p.under = qu at *
  generalize p.port = qp at *
  generalize strOfNums u.sch = us at *
  generalize strOfNums u.host = uh at *
  generalize strOfNums u.path = ux at *
  generalize strOfNums u.query = uq at *
  generalize u.port = up at *
  have HO := Lib.hid hO; have H1 := Lib.hid hen
  clear hO hen hd he hb1 hpB hu
  cases qu with
  | false =>
    rw [if_neg (by simp)]
    go_enter Tryz.func30, Tryz.ntmps30
    go_wp2_with (first | (refine wl_box rfl _ _ rfl HO.out [Value.string qs, Value.string qh, Value.bool false, Value.int .i64 qp].toArray (by rfl) ?_; intro g0 w1 hO; have HO1 := Lib.hid hO; clear hO HO) | (refine wl_box rfl _ _ rfl HO1.out [Value.string us, Value.string uh, Value.int .i64 up, Value.string ux, Value.string uq].toArray (by rfl) ?_; intro g2 w3 hO; have HO3 := Lib.hid hO; have k0 : w3.cell? ⟨g0, 1, none⟩ = some (.string qh) := hO.cell (.tail _ (.head _)) 1; have k1 : w3.cell? ⟨g0, 2, none⟩ = some (.bool false) := hO.cell (.tail _ (.head _)) 2; have k2 : w3.cell? ⟨g2, 1, none⟩ = some (.string uh) := hO.cell (.head _) 1; clear hO HO1))
    go_ret
    exact ⟨rfl, HO3.out.tail.tail⟩
  | true =>
    rw [if_pos rfl]
    have n1 : ¬ (9223372036854775807 < 1 + qh.size) := by omega
    go_enter Tryz.func30, Tryz.ntmps30
    go_wp2_with (first | (refine wl_box rfl _ _ rfl HO.out [Value.string qs, Value.string qh, Value.bool true, Value.int .i64 qp].toArray (by rfl) ?_; intro g0 w1 hO; have HO1 := Lib.hid hO; clear hO HO) | (refine wl_box rfl _ _ rfl HO1.out [Value.string us, Value.string uh, Value.int .i64 up, Value.string ux, Value.string uq].toArray (by rfl) ?_; intro g2 w3 hO; have HO3 := Lib.hid hO; have k0 : w3.cell? ⟨g0, 1, none⟩ = some (.string qh) := hO.cell (.tail _ (.head _)) 1; have k1 : w3.cell? ⟨g0, 2, none⟩ = some (.bool true) := hO.cell (.tail _ (.head _)) 2; have k2 : w3.cell? ⟨g2, 1, none⟩ = some (.string uh) := hO.cell (.head _) 1; clear hO HO1))
    with_reducible refine (H1.out _).mono ?_
    rintro e w4 ⟨rfl, hww⟩
    subst hww
    cases b2 with
    | false =>
      go_wp2
      go_ret
      exact ⟨rfl, HO3.out.tail.tail⟩
    | true =>
      by_cases hlt : np + 1 < nu
      · have hI : (((⟨#[46]⟩ : ByteArray) ++ qh).size : Int) < uh.size := by rw [z3, z1]; omega
        have HE : Hid (decide (np + 1 < nu) = true) := Lib.hid (decide_eq_true hlt)
        have HD : Hid (decide ((1 : Int) + np < nu) = true) := Lib.hid (decide_eq_true (by omega))
        go_wp2
        go_ret
        exact ⟨by rw [HE.out]; show Ending.returned (Value.bool (decide ((1 : Int) + np < nu))) = _; rw [HD.out]; rfl, HO3.out.tail.tail⟩
      · have hI : ¬ (((⟨#[46]⟩ : ByteArray) ++ qh).size : Int) < uh.size := by rw [z3, z1]; omega
        have HE : Hid (decide (np + 1 < nu) = false) := Lib.hid (decide_eq_false hlt)
        have HD : Hid (decide ((1 : Int) + np < nu) = false) := Lib.hid (decide_eq_false (by omega))
        go_wp2
        go_ret
        exact ⟨by rw [HE.out]; show Ending.returned (Value.bool (decide ((1 : Int) + np < nu))) = _; rw [HD.out]; rfl, HO3.out.tail.tail⟩

set_option maxHeartbeats 8000000 in
theorem chasport_c {w0 w : World} {R : Blks} (hO : Own w0 w R) (p : PL) (u : UL) (hu : Byt u.sch) :
    Calls Tryz.prog 31 #[.agg p.val.toArray, .agg u.val.toArray] w fun e w' => e = .returned (.bool (p.hasPort u)) ∧ Own w0 w' R := by
  have hpo := fun (w1 : World) (R1 : Blks) (h : Own w0 w1 R1) => cportof_c h u hu
  have hd : p.hasPort u = if p.port = -2 then true else if p.port = -1 then decide (u.port = 0) else decide (p.port = ownPort u) := rfl
  rw [hd]
  generalize ownPort u = op at *
  simp only [UL.val] at hpo
  unfold UL.val PL.val
  clear hd hu
  generalize strOfNums p.sch = qs at *
  generalize strOfNums p.host = qh at *
  generalize p.under = qu at *
  generalize p.port = qp at *
  generalize strOfNums u.sch = us at *
  generalize strOfNums u.host = uh at *
  generalize strOfNums u.path = ux at *
  generalize strOfNums u.query = uq at *
  generalize u.port = up at *
  have HO := Lib.hid hO; have HP := Lib.hid hpo
  clear hO hpo
  by_cases h1 : qp = -2
  · subst h1
    rw [if_pos rfl]
    clear HP
    go_enter Tryz.func31, Tryz.ntmps31
    go_wp2_with (first | (refine wl_box rfl _ _ rfl HO.out [Value.string qs, Value.string qh, Value.bool qu, Value.int .i64 (-2)].toArray (by rfl) ?_; intro g0 w1 hO; have HO1 := Lib.hid hO; clear hO HO) | (refine wl_box rfl _ _ rfl HO1.out [Value.string us, Value.string uh, Value.int .i64 up, Value.string ux, Value.string uq].toArray (by rfl) ?_; intro g2 w3 hO; have HO3 := Lib.hid hO; have k0 : w3.cell? ⟨g0, 3, none⟩ = some (.int .i64 (-2)) := hO.cell (.tail _ (.head _)) 3; have k2 : w3.cell? ⟨g2, 2, none⟩ = some (.int .i64 up) := hO.cell (.head _) 2; clear hO HO1))
    go_ret
    exact ⟨rfl, HO3.out.tail.tail⟩
  · rw [if_neg h1]
    have t1 : (qp == -2) = false := beq_eq_false_iff_ne.2 h1
    by_cases h2 : qp = -1
    · subst h2
      rw [if_pos rfl]
      obtain ⟨b, hb⟩ : ∃ b, decide (up = 0) = b := ⟨_, rfl⟩
      have t0 : (up == 0) = b := hb
      rw [hb]
      clear HP hb h1
      go_enter Tryz.func31, Tryz.ntmps31
      go_wp2_with (first | (refine wl_box rfl _ _ rfl HO.out [Value.string qs, Value.string qh, Value.bool qu, Value.int .i64 (-1)].toArray (by rfl) ?_; intro g0 w1 hO; have HO1 := Lib.hid hO; clear hO HO) | (refine wl_box rfl _ _ rfl HO1.out [Value.string us, Value.string uh, Value.int .i64 up, Value.string ux, Value.string uq].toArray (by rfl) ?_; intro g2 w3 hO; have HO3 := Lib.hid hO; have k0 : w3.cell? ⟨g0, 3, none⟩ = some (.int .i64 (-1)) := hO.cell (.tail _ (.head _)) 3; have k2 : w3.cell? ⟨g2, 2, none⟩ = some (.int .i64 up) := hO.cell (.head _) 2; clear hO HO1))
      go_ret
      exact ⟨by first | rfl | rw [t0], HO3.out.tail.tail⟩
    · rw [if_neg h2]
      have t2 : (qp == -1) = false := beq_eq_false_iff_ne.2 h2
      obtain ⟨b, hb⟩ : ∃ b, decide (qp = op) = b := ⟨_, rfl⟩
      have t0 : (qp == op) = b := hb
      rw [hb]
      clear hb h1 h2
      go_enter Tryz.func31, Tryz.ntmps31
      go_upto_region 6 with (first | (refine wl_box rfl _ _ rfl HO.out [Value.string qs, Value.string qh, Value.bool qu, Value.int .i64 qp].toArray (by rfl) ?_; intro g0 w1 hO; have HO1 := Lib.hid hO; clear hO HO) | (refine wl_box rfl _ _ rfl HO1.out [Value.string us, Value.string uh, Value.int .i64 up, Value.string ux, Value.string uq].toArray (by rfl) ?_; intro g2 w3 hO; have HO3 := Lib.hid hO; have k0 : w3.cell? ⟨g0, 3, none⟩ = some (.int .i64 qp) := hO.cell (.tail _ (.head _)) 3; have k2 : w3.cell? ⟨g2, 2, none⟩ = some (.int .i64 up) := hO.cell (.head _) 2; clear hO HO1))
      refine wp_region_lin (fun w' => Own w0 w' ((g2, .cells [Value.string us, Value.string uh, Value.int .i64 up, Value.string ux, Value.string uq].toArray 24) :: (g0, .cells [Value.string qs, Value.string qh, Value.bool qu, Value.int .i64 qp].toArray 50) :: R)) 6 [(0, true), (1, true), (2, true), (3, false), (4, true), (5, true)] (by kernel_rfl) (by kernel_rfl) (fun _ _ d _ _ h => by cases d <;> exact h) HO3.out.drew ?_
      simp only [List.map_cons, List.map_nil, pick_zero, pick_succ, List.drop_succ_cons, List.drop_zero]
      have HR0 := Lib.hid HO3.out.drew; clear HO3 k0 k2
      refine lin_q ?_ rfl ?_ ?_; rotate_left 1; (focus (rintro w' hO; clear hO; go_simp; first | done | with_reducible rfl | (trace_state; fail))); simp only [Act.put, List.setIfInBounds_toArray, List.set_cons_zero, List.set_cons_succ]
      refine lin_q ?_ rfl ?_ ?_; rotate_left 1; (focus (rintro w' hO; have k1 : w'.cell? ⟨g0, 3, none⟩ = some (.int .i64 qp) := hO.cell (.tail _ (.head _)) 3; clear hO; go_simp; first | done | with_reducible rfl | (trace_state; fail))); simp only [Act.put, List.setIfInBounds_toArray, List.set_cons_zero, List.set_cons_succ]
      refine lin_load rfl _ _ rfl g2 0 [Value.string us, Value.string uh, Value.int .i64 up, Value.string ux, Value.string uq] [Value.string us, Value.string uh, Value.int .i64 up, Value.string ux, Value.string uq] 24 (by rfl) _ Tryz.underlying24 rfl url_size (by rfl) (fun w' hO => hO.heap (.head _)) ?_; simp only [Act.put, List.setIfInBounds_toArray, List.set_cons_zero, List.set_cons_succ]
      refine lin_act ?_
      refine wl_call rfl _ _ _ (by go_simp) (HP.out _ _ HR0.out) ?_
      rintro e w5 ⟨rfl, hO⟩
      have HR1 := Lib.hid hO; clear hO HR0 HP
      refine ⟨_, rfl, LinPost.mk HR1.out ?_⟩
      simp only [Act.put, List.setIfInBounds_toArray, List.set_cons_zero, List.set_cons_succ]
      refine lin_q ?_ rfl ?_ ?_; rotate_left 1; (focus (rintro w' hO; clear hO; go_simp; first | done | with_reducible rfl | (trace_state; fail))); simp only [Act.put, List.setIfInBounds_toArray, List.set_cons_zero, List.set_cons_succ]
      refine lin_q ?_ rfl ?_ ?_; rotate_left 1; (focus (rintro w' hO; clear hO; go_simp; first | done | with_reducible rfl | (trace_state; fail))); simp only [Act.put, List.setIfInBounds_toArray, List.set_cons_zero, List.set_cons_succ]
      refine lin_nil ?_
      go_wp2
      go_ret
      exact ⟨by first | rfl | rw [t0], HR1.out.tail.tail⟩
end Go.Proofs.YtfgaikacijdodaaGreatDoor
/-
  The landed program's readPlace: a source, in small letters, that names a host, taken apart.
-/
namespace Go.Proofs.YtfgaikacijdodaaGreatDoor
set_option linter.unusedVariables false
set_option linter.unusedSimpArgs false
set_option maxRecDepth 20000
open Go.RowKit

theorem one_p4 (a b : ByteArray) (c : Bool) (k : Int) : ∀ v ∈ [Value.string a, Value.string b, Value.bool c, Value.int .i64 k], v.oneCell' = true := by
  intro v hv
  simp only [List.mem_cons, List.not_mem_nil, or_false] at hv
  rcases hv with rfl | rfl | rfl | rfl <;> rfl
def GotPl (w0 : World) (R : Blks) (o : Option PL) (e : Ending) (w' : World) : Prop := e = .returned (.tuple #[.agg (o.getD PL.zero).val.toArray, .bool o.isSome]) ∧ Own w0 w' R
/-- Behind the scheme: what is left, and how the source is read from it. -/
def MidPl (w0 : World) (R : Blks) (g2 : Nat) (o : Option PL) (v : Value) (wx : World) : Prop := ∃ sch r : List Int, o = restG sch r ∧ Byt r ∧ r.length ≤ 4000000 ∧ v = .string (strOfNums r) ∧ Own w0 wx ((g2, .cells [Value.string (strOfNums sch), Value.string ⟨#[]⟩, Value.bool false, Value.int .i64 0].toArray 50) :: R)
set_option maxRecDepth 100000 in
set_option maxHeartbeats 16000000 in
theorem creadplace_c {w0 w : World} {R : Blks} (hV : VarsOk w0) (hO : Own w0 w R) (s : ByteArray) (hs : s.size ≤ 4000000) :
    Calls Tryz.prog 28 #[.string s] w (GotPl w0 R (placeG (sb s))) := by
  have HO := Lib.hid hO; have HV := Lib.hid hV
  have hB0 : Byt (sb s) := byt_sb s
  have hl0 : (sb s).length ≤ 4000000 := by rw [length_sb]; exact hs
  have c1 := fun (w1 : World) (R1 : Blks) (h : Own w0 w1 R1) => ccut_c HV.out.toMostOk h s (by omega) ⟨#[58, 47, 47]⟩ (by decide)
  have hm : sb ⟨#[58, 47, 47]⟩ = [58, 47, 47] := rfl
  rw [hm] at c1
  obtain ⟨o, ho⟩ : ∃ o, placeG (sb s) = o := ⟨_, rfl⟩
  have hres : o = if (cutS [58, 47, 47] (sb s)).2.2 = true then (if (cutS [58, 47, 47] (sb s)).1 = httpI ∨ (cutS [58, 47, 47] (sb s)).1 = httpsI then restG (cutS [58, 47, 47] (sb s)).1 (cutS [58, 47, 47] (sb s)).2.1 else none) else restG [] (sb s) := ho.symm
  rw [ho]
  have hBc := cutS_byt [58, 47, 47] hB0
  have hlc := cutS_len [58, 47, 47] (sb s)
  generalize (cutS [58, 47, 47] (sb s)).2.2 = b at *
  generalize (cutS [58, 47, 47] (sb s)).2.1 = rs at *
  generalize (cutS [58, 47, 47] (sb s)).1 = sc at *
  have hBs := hBc.1; have hBr := hBc.2
  have hls : sc.length ≤ 4000000 := by omega
  have hlr : rs.length ≤ 4000000 := by omega
  have t1 := beq_litC (strOfNums sc) [104, 116, 116, 112] httpI rfl
  have t2 := beq_litC (strOfNums sc) [104, 116, 116, 112, 115] httpsI rfl
  rw [sb_str hBs] at t1 t2
  have C1 := Lib.hid c1; have HRES := Lib.hid hres
  have HB := Lib.hid (And.intro hB0 (And.intro hBr (And.intro hl0 hlr)))
  have HSS := Lib.hid (str_sb s)
  have HT1 := Lib.hid t1; have HT2 := Lib.hid t2
  clear hO hV c1 hm ho hres hBc hlc hB0 hl0 hBs hBr hls hlr hs t1 t2
  go_enter Tryz.func28, Tryz.ntmps28
  go_wp2_with (refine wl_alloc rfl _ rfl HO.out _ (alloc_pl _) ?_; intro g2 w1 hO1; have HO1 := Lib.hid (hO1.cast (L' := (g2, .cells [Value.string ⟨#[]⟩, Value.string ⟨#[]⟩, Value.bool false, Value.int .i64 0].toArray 50) :: R) rfl); clear hO1 HO)
  with_reducible refine (C1.out _ _ HO1.out).mono ?_
  rintro e w2 ⟨rfl, hO⟩
  have HO2 := Lib.hid hO
  clear hO HO1 C1
  go_upto_if 16 with fail
  go_cut [0] (fun v wx => MidPl w0 R g2 o v wx)
  case first =>
    cases b with
    | false =>
      have hre : o = restG [] (sb s) := HRES.out
      have HRE := Lib.hid hre
      clear hre HRES
      go_wp2
      go_meet
      exact ⟨[], sb s, HRE.out, HB.out.1, HB.out.2.2.1, by rw [HSS.out], HO2.out⟩
    | true =>
      by_cases h1 : sc = httpI
      · have hre : o = restG sc rs := by rw [HRES.out, if_pos rfl, if_pos (.inl h1)]
        have t1 := HT1.out; rw [decide_eq_true h1] at t1
        have t1' : ((strOfNums sc).toList != [104, 116, 116, 112]) = false := by rw [bne, t1]; rfl
        have HRE := Lib.hid hre
        clear hre HRES h1 HT1 HT2
        go_wp2_with (refine wl_store1 rfl _ _ _ rfl HO2.out 0 g2 0 _ (.string (strOfNums sc)) _ rfl (by rfl) (by rfl) (by rfl) (by kernel_rfl) (by rfl) (by first | decide | simp) ?_; intro w3 hO; have HO3 := Lib.hid (hO.cast (L' := (g2, .cells [Value.string (strOfNums sc), Value.string ⟨#[]⟩, Value.bool false, Value.int .i64 0].toArray 50) :: R) rfl); clear hO HO2)
        go_meet
        exact ⟨sc, rs, HRE.out, HB.out.2.1, HB.out.2.2.2, rfl, HO3.out⟩
      · have t1 := HT1.out; rw [decide_eq_false h1] at t1
        have t1' : ((strOfNums sc).toList != [104, 116, 116, 112]) = true := by rw [bne, t1]; rfl
        by_cases h2 : sc = httpsI
        · have hre : o = restG sc rs := by rw [HRES.out, if_pos rfl, if_pos (.inr h2)]
          have t2 := HT2.out; rw [decide_eq_true h2] at t2
          have t2' : ((strOfNums sc).toList != [104, 116, 116, 112, 115]) = false := by rw [bne, t2]; rfl
          have HRE := Lib.hid hre
          clear hre HRES h1 h2 HT1 HT2
          go_wp2_with (refine wl_store1 rfl _ _ _ rfl HO2.out 0 g2 0 _ (.string (strOfNums sc)) _ rfl (by rfl) (by rfl) (by rfl) (by kernel_rfl) (by rfl) (by first | decide | simp) ?_; intro w3 hO; have HO3 := Lib.hid (hO.cast (L' := (g2, .cells [Value.string (strOfNums sc), Value.string ⟨#[]⟩, Value.bool false, Value.int .i64 0].toArray 50) :: R) rfl); clear hO HO2)
          go_meet
          exact ⟨sc, rs, HRE.out, HB.out.2.1, HB.out.2.2.2, rfl, HO3.out⟩
        · have hre : o = none := by rw [HRES.out, if_pos rfl, if_neg (fun h => h.elim h1 h2)]
          subst hre
          have t2 := HT2.out; rw [decide_eq_false h2] at t2
          have t2' : ((strOfNums sc).toList != [104, 116, 116, 112, 115]) = true := by rw [bne, t2]; rfl
          clear HRES h1 h2 HT1 HT2
          go_wp2_with (refine wl_store rfl _ _ _ rfl HO2.out 0 g2 0 _ [Value.string ⟨#[]⟩, Value.string ⟨#[]⟩, Value.bool false, Value.int .i64 0] _ rfl (by rfl) (by rfl) pl_size (one_p4 _ _ _ _) (by first | decide | simp) ?_; intro w3 hO; have HO3 := Lib.hid (hO.cast (L' := (g2, .cells [Value.string ⟨#[]⟩, Value.string ⟨#[]⟩, Value.bool false, Value.int .i64 0].toArray 50) :: R) rfl); clear hO HO2)
          have hr0 : w3.cell? ⟨g2, 0, none⟩ = some (Value.string ⟨#[]⟩) := by rw [HO3.out.cell (.head _)]; rfl
          have hr1 : w3.cell? ⟨g2, 1, none⟩ = some (Value.string ⟨#[]⟩) := by rw [HO3.out.cell (.head _)]; rfl
          have hr2 : w3.cell? ⟨g2, 2, none⟩ = some (Value.bool false) := by rw [HO3.out.cell (.head _)]; rfl
          have hr3 : w3.cell? ⟨g2, 3, none⟩ = some (Value.int .i64 0) := by rw [HO3.out.cell (.head _)]; rfl
          exact bodyPost_ret (v := .tuple #[.agg #[Value.string ⟨#[]⟩, Value.string ⟨#[]⟩, Value.bool false, Value.int .i64 0], .bool false]) (by simp [results, Tryz.results28, go_sem, hr0, hr1, hr2, hr3]) rfl ⟨rfl, HO3.out.tail⟩
  case rest =>
    obtain ⟨sch, r, hre, hBr, hlr, rfl, hO⟩ := hcut
    have HO3 := Lib.hid hO
    have c2 := fun w1 : World => cpre_c (w := w1) (strOfNums r) ⟨#[42, 46]⟩
    have hst : sb ⟨#[42, 46]⟩ = [42, 46] := rfl
    rw [hst, sb_str hBr] at c2
    unfold restG at hre
    have hBt : Byt (trimP [42, 46] r) := trimP_byt hBr
    have hlt : (trimP [42, 46] r).length ≤ 4000000 := Nat.le_trans (trimP_len _ _) hlr
    generalize trimP [42, 46] r = t at *
    generalize begI [42, 46] r = un at *
    have c3 := fun (w1 : World) (R1 : Blks) (h : Own w0 w1 R1) => ccut1_c HV.out.toMostOk h (strOfNums t) (by rw [strOfNums_size]; omega) 58 58 rfl
    rw [sb_str hBt] at c3
    have hBh : Byt (ahead [58] t) := ahead_byt hBt
    have hlh : (ahead [58] t).length ≤ 4000000 := Nat.le_trans (ahead_len _ _) hlt
    have hBn : Byt ((behind [58] t).drop 1) := byt_drop (behind_byt hBt) 1
    have hln : ((behind [58] t).drop 1).length ≤ 4000000 := by rw [List.length_drop]; have := behind_len [58] t; omega
    have c4 := fun (w1 : World) (R1 : Blks) (h : Own w0 w1 R1) => cishost_c HV.out h (strOfNums (ahead [58] t)) (by rw [strOfNums_size]; omega)
    rw [sb_str hBh] at c4
    have c5 := fun (w1 : World) (R1 : Blks) (h : Own w0 w1 R1) => creadport_c HV.out h (strOfNums ((behind [58] t).drop 1)) (by rw [strOfNums_size]; omega)
    rw [sb_str hBn] at c5
    obtain ⟨b5, hb5⟩ : ∃ b, decide (behind [58] t ≠ []) = b := ⟨_, rfl⟩
    rw [hb5] at c3
    have hsp : (if behind [58] t = [] then (some ⟨sch, ahead [58] t, un, -1⟩ : Option PL) else (portG ((behind [58] t).drop 1)).map fun p => ⟨sch, ahead [58] t, un, p⟩) = if b5 = true then (portG ((behind [58] t).drop 1)).map fun p => ⟨sch, ahead [58] t, un, p⟩ else some ⟨sch, ahead [58] t, un, -1⟩ := by
      by_cases h : behind [58] t = []
      · rw [if_pos h, ← hb5, if_neg (by simp [h])]
      · rw [if_neg h, ← hb5, if_pos (by simp [h])]
    rw [hsp] at hre
    generalize ahead [58] t = hs at *
    generalize (behind [58] t).drop 1 = pr at *
    obtain ⟨hok, hhk⟩ : ∃ b, decide (HostOk hs) = b := ⟨_, rfl⟩
    rw [hhk] at c4
    have HHK := Lib.hid hhk; have HRE := Lib.hid hre
    have C2 := Lib.hid c2; have C3 := Lib.hid c3; have C4 := Lib.hid c4; have C5 := Lib.hid c5
    clear hO HO2 hre hBr hlr c2 hst hBt hlt c3 hBh hlh hBn hln c4 c5 hb5 hsp hhk HRES HB HSS HT1 HT2
    generalize strOfNums r = SR at *
    generalize strOfNums t = ST at *
    generalize strOfNums pr = SN at *
    go_wp2_with fail
    with_reducible refine (C2.out _).mono ?_
    rintro e w4 ⟨rfl, hww⟩
    subst hww
    clear C2
    go_wp2_with (refine wl_store1 rfl _ _ _ rfl HO3.out 0 g2 2 _ (.bool un) _ rfl (by rfl) (by rfl) (by rfl) (by kernel_rfl) (by rfl) (by first | decide | simp) ?_; intro w4 hO; have HO4 := Lib.hid (hO.cast (L' := (g2, .cells [Value.string (strOfNums sch), Value.string ⟨#[]⟩, Value.bool un, Value.int .i64 0].toArray 50) :: R) rfl); clear hO HO3)
    with_reducible refine (C3.out _ _ HO4.out).mono ?_
    rintro e w5 ⟨rfl, hO⟩
    have HO5 := Lib.hid hO
    clear hO HO4 C3
    go_wp2_with fail
    with_reducible refine (C4.out _ _ HO5.out).mono ?_
    rintro e w6 ⟨rfl, hO⟩
    have HO6 := Lib.hid hO
    clear hO HO5 C4
    cases hok with
    | false =>
      have hno : o = none := by rw [HRE.out, if_neg (of_decide_eq_false HHK.out)]
      subst hno
      clear HRE HHK C5
      go_wp2_with (refine wl_store rfl _ _ _ rfl HO6.out 0 g2 0 _ [Value.string ⟨#[]⟩, Value.string ⟨#[]⟩, Value.bool false, Value.int .i64 0] _ rfl (by rfl) (by rfl) pl_size (one_p4 _ _ _ _) (by first | decide | simp) ?_; intro w7 hO; have HO7 := Lib.hid (hO.cast (L' := (g2, .cells [Value.string ⟨#[]⟩, Value.string ⟨#[]⟩, Value.bool false, Value.int .i64 0].toArray 50) :: R) rfl); clear hO HO6)
      have hr0 : w7.cell? ⟨g2, 0, none⟩ = some (Value.string ⟨#[]⟩) := by rw [HO7.out.cell (.head _)]; rfl
      have hr1 : w7.cell? ⟨g2, 1, none⟩ = some (Value.string ⟨#[]⟩) := by rw [HO7.out.cell (.head _)]; rfl
      have hr2 : w7.cell? ⟨g2, 2, none⟩ = some (Value.bool false) := by rw [HO7.out.cell (.head _)]; rfl
      have hr3 : w7.cell? ⟨g2, 3, none⟩ = some (Value.int .i64 0) := by rw [HO7.out.cell (.head _)]; rfl
      exact bodyPost_ret (v := .tuple #[.agg #[Value.string ⟨#[]⟩, Value.string ⟨#[]⟩, Value.bool false, Value.int .i64 0], .bool false]) (by simp [results, Tryz.results28, go_sem, hr0, hr1, hr2, hr3]) rfl ⟨rfl, HO7.out.tail⟩
    | true =>
      have hre2 : o = if b5 = true then (portG pr).map fun p => ⟨sch, hs, un, p⟩ else some ⟨sch, hs, un, -1⟩ := by rw [HRE.out, if_pos (of_decide_eq_true HHK.out)]
      have HRE2 := Lib.hid hre2
      clear hre2 HRE HHK
      cases b5 with
      | false =>
        have hre3 : o = some ⟨sch, hs, un, -1⟩ := HRE2.out
        subst hre3
        clear HRE2 C5
        go_wp2_with (first | (refine wl_store1 rfl _ _ _ rfl HO6.out 0 g2 1 _ (.string (strOfNums hs)) _ rfl (by rfl) (by rfl) (by rfl) (by kernel_rfl) (by rfl) (by first | decide | simp) ?_; intro w7 hO; have HO7 := Lib.hid (hO.cast (L' := (g2, .cells [Value.string (strOfNums sch), Value.string (strOfNums hs), Value.bool un, Value.int .i64 0].toArray 50) :: R) rfl); clear hO HO6) | (refine wl_store1 rfl _ _ _ rfl HO7.out 0 g2 3 _ (.int .i64 (-1)) _ rfl (by rfl) (by rfl) (by rfl) (by kernel_rfl) (by rfl) (by first | decide | simp) ?_; intro w8 hO; have HO8 := Lib.hid (hO.cast (L' := (g2, .cells [Value.string (strOfNums sch), Value.string (strOfNums hs), Value.bool un, Value.int .i64 (-1)].toArray 50) :: R) rfl); clear hO HO7) | (refine wl_load rfl _ _ rfl g2 0 [Value.string (strOfNums sch), Value.string (strOfNums hs), Value.bool un, Value.int .i64 (-1)] [Value.string (strOfNums sch), Value.string (strOfNums hs), Value.bool un, Value.int .i64 (-1)] _ (HO8.out.heap (.head _)) (by rfl) _ Tryz.underlying50 rfl pl_size (by rfl) ?_) | (refine wl_store rfl _ _ _ rfl HO8.out 0 g2 0 _ [Value.string (strOfNums sch), Value.string (strOfNums hs), Value.bool un, Value.int .i64 (-1)] _ rfl (by rfl) (by rfl) pl_size (one_p4 _ _ _ _) (by first | decide | simp) ?_; intro w9 hO; have HO9 := Lib.hid (hO.cast (L' := (g2, .cells [Value.string (strOfNums sch), Value.string (strOfNums hs), Value.bool un, Value.int .i64 (-1)].toArray 50) :: R) rfl); clear hO HO8))
        have hr0 : w9.cell? ⟨g2, 0, none⟩ = some (Value.string (strOfNums sch)) := by rw [HO9.out.cell (.head _)]; rfl
        have hr1 : w9.cell? ⟨g2, 1, none⟩ = some (Value.string (strOfNums hs)) := by rw [HO9.out.cell (.head _)]; rfl
        have hr2 : w9.cell? ⟨g2, 2, none⟩ = some (Value.bool un) := by rw [HO9.out.cell (.head _)]; rfl
        have hr3 : w9.cell? ⟨g2, 3, none⟩ = some (Value.int .i64 (-1)) := by rw [HO9.out.cell (.head _)]; rfl
        exact bodyPost_ret (v := .tuple #[.agg #[Value.string (strOfNums sch), Value.string (strOfNums hs), Value.bool un, Value.int .i64 (-1)], .bool true]) (by simp [results, Tryz.results28, go_sem, hr0, hr1, hr2, hr3]) rfl ⟨rfl, HO9.out.tail⟩
      | true =>
        have hre3 : o = (portG pr).map fun p => ⟨sch, hs, un, p⟩ := HRE2.out
        have HRE3 := Lib.hid hre3
        clear hre3 HRE2
        go_wp2_with (first | (refine wl_store1 rfl _ _ _ rfl HO6.out 0 g2 1 _ (.string (strOfNums hs)) _ rfl (by rfl) (by rfl) (by rfl) (by kernel_rfl) (by rfl) (by first | decide | simp) ?_; intro w7 hO; have HO7 := Lib.hid (hO.cast (L' := (g2, .cells [Value.string (strOfNums sch), Value.string (strOfNums hs), Value.bool un, Value.int .i64 0].toArray 50) :: R) rfl); clear hO HO6) | (refine wl_store1 rfl _ _ _ rfl HO7.out 0 g2 3 _ (.int .i64 (-1)) _ rfl (by rfl) (by rfl) (by rfl) (by kernel_rfl) (by rfl) (by first | decide | simp) ?_; intro w8 hO; have HO8 := Lib.hid (hO.cast (L' := (g2, .cells [Value.string (strOfNums sch), Value.string (strOfNums hs), Value.bool un, Value.int .i64 (-1)].toArray 50) :: R) rfl); clear hO HO7))
        with_reducible refine (C5.out _ _ HO8.out).mono ?_
        rintro e w9 ⟨rfl, hO⟩
        have HO9 := Lib.hid hO
        clear hO HO8 C5
        cases hpg : portG pr with
        | none =>
          have hno : o = none := by rw [HRE3.out, hpg]; rfl
          subst hno
          clear HRE3 hpg
          simp only [Option.getD_none, Option.isSome_none]
          go_wp2_with (first | (refine wl_store1 rfl _ _ _ rfl HO9.out 0 g2 3 _ (.int .i64 0) _ rfl (by rfl) (by rfl) (by rfl) (by kernel_rfl) (by rfl) (by first | decide | simp) ?_; intro w10 hO; have HO10 := Lib.hid (hO.cast (L' := (g2, .cells [Value.string (strOfNums sch), Value.string (strOfNums hs), Value.bool un, Value.int .i64 0].toArray 50) :: R) rfl); clear hO HO9) | (refine wl_store rfl _ _ _ rfl HO10.out 0 g2 0 _ [Value.string ⟨#[]⟩, Value.string ⟨#[]⟩, Value.bool false, Value.int .i64 0] _ rfl (by rfl) (by rfl) pl_size (one_p4 _ _ _ _) (by first | decide | simp) ?_; intro w11 hO; have HO11 := Lib.hid (hO.cast (L' := (g2, .cells [Value.string ⟨#[]⟩, Value.string ⟨#[]⟩, Value.bool false, Value.int .i64 0].toArray 50) :: R) rfl); clear hO HO10))
          have hr0 : w11.cell? ⟨g2, 0, none⟩ = some (Value.string ⟨#[]⟩) := by rw [HO11.out.cell (.head _)]; rfl
          have hr1 : w11.cell? ⟨g2, 1, none⟩ = some (Value.string ⟨#[]⟩) := by rw [HO11.out.cell (.head _)]; rfl
          have hr2 : w11.cell? ⟨g2, 2, none⟩ = some (Value.bool false) := by rw [HO11.out.cell (.head _)]; rfl
          have hr3 : w11.cell? ⟨g2, 3, none⟩ = some (Value.int .i64 0) := by rw [HO11.out.cell (.head _)]; rfl
          exact bodyPost_ret (v := .tuple #[.agg #[Value.string ⟨#[]⟩, Value.string ⟨#[]⟩, Value.bool false, Value.int .i64 0], .bool false]) (by simp [results, Tryz.results28, go_sem, hr0, hr1, hr2, hr3]) rfl ⟨rfl, HO11.out.tail⟩
        | some n =>
          have hyes : o = some ⟨sch, hs, un, n⟩ := by rw [HRE3.out, hpg]; rfl
          subst hyes
          clear HRE3 hpg
          simp only [Option.getD_some, Option.isSome_some]
          go_wp2_with (first | (refine wl_store1 rfl _ _ _ rfl HO9.out 0 g2 3 _ (.int .i64 n) _ rfl (by rfl) (by rfl) (by rfl) (by kernel_rfl) (by rfl) (by first | decide | simp) ?_; intro w10 hO; have HO10 := Lib.hid (hO.cast (L' := (g2, .cells [Value.string (strOfNums sch), Value.string (strOfNums hs), Value.bool un, Value.int .i64 n].toArray 50) :: R) rfl); clear hO HO9) | (refine wl_load rfl _ _ rfl g2 0 [Value.string (strOfNums sch), Value.string (strOfNums hs), Value.bool un, Value.int .i64 n] [Value.string (strOfNums sch), Value.string (strOfNums hs), Value.bool un, Value.int .i64 n] _ (HO10.out.heap (.head _)) (by rfl) _ Tryz.underlying50 rfl pl_size (by rfl) ?_) | (refine wl_store rfl _ _ _ rfl HO10.out 0 g2 0 _ [Value.string (strOfNums sch), Value.string (strOfNums hs), Value.bool un, Value.int .i64 n] _ rfl (by rfl) (by rfl) pl_size (one_p4 _ _ _ _) (by first | decide | simp) ?_; intro w11 hO; have HO11 := Lib.hid (hO.cast (L' := (g2, .cells [Value.string (strOfNums sch), Value.string (strOfNums hs), Value.bool un, Value.int .i64 n].toArray 50) :: R) rfl); clear hO HO10))
          have hr0 : w11.cell? ⟨g2, 0, none⟩ = some (Value.string (strOfNums sch)) := by rw [HO11.out.cell (.head _)]; rfl
          have hr1 : w11.cell? ⟨g2, 1, none⟩ = some (Value.string (strOfNums hs)) := by rw [HO11.out.cell (.head _)]; rfl
          have hr2 : w11.cell? ⟨g2, 2, none⟩ = some (Value.bool un) := by rw [HO11.out.cell (.head _)]; rfl
          have hr3 : w11.cell? ⟨g2, 3, none⟩ = some (Value.int .i64 n) := by rw [HO11.out.cell (.head _)]; rfl
          exact bodyPost_ret (v := .tuple #[.agg #[Value.string (strOfNums sch), Value.string (strOfNums hs), Value.bool un, Value.int .i64 n], .bool true]) (by simp [results, Tryz.results28, go_sem, hr0, hr1, hr2, hr3]) rfl ⟨rfl, HO11.out.tail⟩
end Go.Proofs.YtfgaikacijdodaaGreatDoor
