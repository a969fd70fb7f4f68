/-
  The document's Decode of percent signs.
-/
import Derived.Test.YthhijngddlmkpaaPct9
namespace Go.Proofs.Ythhijngddlmkpaa
set_option linter.unusedVariables false
set_option linter.unusedSimpArgs false
set_option maxRecDepth 20000
open Go.RowKit

theorem drop_at (l : List Int) (i : Nat) (h : i < l.length) : l.drop i = l.getD i 0 :: l.drop (i + 1) := by
  rw [List.drop_eq_getElem_cons h, List.getD_eq_getElem?_getD, List.getElem?_eq_getElem h, Option.getD_some]
theorem unp_end (l : List Int) (i : Nat) (h : i < l.length) (h37 : l.getD i 0 = 37) (h2 : l.length ≤ i + 2) : unp (l.drop i) = none := by
  rw [drop_at l i h, h37]
  rcases (by omega : l.length = i + 1 ∨ l.length = i + 2) with e | e
  · rw [List.drop_eq_nil_of_le (by omega)]; rfl
  · rw [drop_at l (i + 1) (by omega), List.drop_eq_nil_of_le (by omega)]; rfl
theorem unp_at (l : List Int) (i : Nat) (h : i + 2 < l.length) (h37 : l.getD i 0 = 37) : unp (l.drop i) = (digI (l.getD (i + 1) 0)).bind fun h => (digI (l.getD (i + 2) 0)).bind fun q => (unp (l.drop (i + 3))).map fun t => (16 * h + q) :: t := by
  rw [drop_at l i (by omega), h37, drop_at l (i + 1) (by omega), drop_at l (i + 2) (by omega), unp_pct]
set_option maxHeartbeats 8000000 in
theorem unpct_c {w0 w : World} {R : Blks} (hO : Own w0 w R) (s : ByteArray) (hs : s.size ≤ 1000000000) :
    Calls Try.prog 15 #[.string s] w fun e w' => e = .returned (.tuple #[.string (strOfNums ((unp (sb s)).getD [])), .bool (unp (sb s)).isSome]) ∧ Own w0 w' R := by
  have HO := Lib.hid hO
  obtain ⟨l, hl⟩ : ∃ l, sb s = l := ⟨_, rfl⟩
  obtain ⟨n, hn⟩ : ∃ n, s.size = n := ⟨_, rfl⟩
  have hln : l.length = n := by rw [← hl, ← hn]; exact length_sb s
  have hB : Byt l := by rw [← hl]; exact byt_sb s
  have HL := Lib.hid hl; have HN := Lib.hid hn; have HLN := Lib.hid hln; have HBY := Lib.hid hB
  obtain ⟨o, ho⟩ : ∃ o, unp l = o := ⟨_, rfl⟩
  have HE0 := Lib.hid ho
  rw [hl, ho]
  rw [hn] at hs
  clear hO hl hln hB ho
  go_enter Try.func15, Try.ntmps15
  go_wp2
  go_loopw [4, 5] (fun b t w' => ∃ (i : Nat) (acc : List Int) (L' : Blks), i ≤ n ∧ t = .int .i64 i ∧ Hid (o = (unp (l.drop i)).map fun q => acc ++ q) ∧ Hid (acc.length ≤ i) ∧ Hid (IsBytes b acc L') ∧ Hid (Own w0 w' (L' ++ R))) (fun _ t _ => n - (intOf t).toNat)
  case atStart => exact ⟨0, [], [], Nat.zero_le _, rfl, Lib.hid (by rw [List.drop_zero, HE0.out]; cases o <;> simp), Lib.hid (by simp), isBytes_nil, HO.out⟩
  case round =>
    obtain ⟨i, acc, L', hi, rfl, HE, HA, HV, HO2⟩ := hrel
    clear HO HE0
    by_cases hlt : i < n
    · have hix := index_at wr s i i rfl (by rw [hn]; exact hlt)
      rw [HL.out] at hix
      have hlx : i < l.length := by rw [HLN.out]; exact hlt
      have hacc : acc.length ≤ 1000000000 := by have := HA.out; omega
      have hdr := drop_at l i hlx
      have HDR := Lib.hid hdr
      have hbx := getD_byt HBY.out i
      have hin : (i : Int) < n := by omega
      clear hdr hlx
      generalize hx : l.getD i 0 = x at *
      have HX := Lib.hid hx
      clear hx
      by_cases h37 : x = 37
      · subst h37
        by_cases h2 : n ≤ i + 2
        · have hno : o = none := by rw [HE.out, unp_end l i (by rw [HLN.out]; exact hlt) HX.out (by rw [HLN.out]; exact h2)]; rfl
          have HNO := Lib.hid hno
          have h2' : (n : Int) ≤ i + 2 := by omega
          clear hno
          go_wp2
          go_ret2
          exact ⟨by rw [HNO.out]; rfl, HO2.out.right⟩
        · have h2' : ¬ ((n : Int) ≤ i + 2) := by omega
          have ha := unp_at l i (by rw [HLN.out]; omega) HX.out
          have i1 : ∀ w', _ := fun w' => index_at w' s (i + 1) ((i : Int) + 1) (by omega) (by rw [hn]; omega)
          have i2 : ∀ w', _ := fun w' => index_at w' s (i + 2) ((i : Int) + 2) (by omega) (by rw [hn]; omega)
          rw [HL.out] at i1 i2
          have hb1 := getD_byt HBY.out (i + 1)
          have hb2 := getD_byt HBY.out (i + 2)
          generalize l.getD (i + 1) 0 = a at *
          generalize l.getD (i + 2) 0 = b at *
          have d1 : ∀ w', _ := fun w' => rdigit_c (w := w') a
          have d2 : ∀ w', _ := fun w' => rdigit_c (w := w') b
          have I1 := Lib.hid i1; have I2 := Lib.hid i2; have HAT := Lib.hid ha
          have j1 := i1 wr; have j2 := i2 wr
          have D1 := Lib.hid d1; have D2 := Lib.hid d2
          clear i1 i2 ha d1 d2 hb1 hb2
          cases ea : digI a with
          | none =>
            have hno : o = none := by rw [HE.out, HAT.out, ea]; rfl
            have HNO := Lib.hid hno
            have hd := D1.out wr
            rw [ea] at hd
            have HD := Lib.hid hd
            clear hno hd ea
            go_wp2_with fail
            with_reducible refine HD.out.mono ?_
            rintro e w1 ⟨rfl, rfl⟩
            simp only [Option.getD_none]
            go_wp2
            go_ret2
            exact ⟨by rw [HNO.out]; rfl, HO2.out.right⟩
          | some u =>
            have hu := digI_lt ea
            have hd := D1.out wr
            rw [ea, Option.getD_some] at hd
            have HD := Lib.hid hd
            have hu0 : ¬ (u < 0) := by omega
            cases eb : digI b with
            | none =>
              have hno : o = none := by rw [HE.out, HAT.out, ea, eb]; rfl
              have HNO := Lib.hid hno
              have hd := D2.out wr
              rw [eb] at hd
              have HD2 := Lib.hid hd
              clear hno hd ea eb
              go_wp2_with fail
              with_reducible refine HD.out.mono ?_
              rintro e w1 ⟨rfl, rfl⟩
              go_wp2_with fail
              with_reducible refine HD2.out.mono ?_
              rintro e w1 ⟨rfl, rfl⟩
              simp only [Option.getD_none]
              go_wp2
              go_ret2
              exact ⟨by rw [HNO.out]; rfl, HO2.out.right⟩
            | some v =>
              have hv := digI_lt eb
              have hd := D2.out wr
              rw [eb, Option.getD_some] at hd
              have HD2 := Lib.hid hd
              have hv0 : ¬ (v < 0) := by omega
              have hst : unp (l.drop i) = (unp (l.drop (i + 3))).map fun t => (16 * u + v) :: t := by rw [HAT.out, ea, eb]; rfl
              have HST := Lib.hid hst
              have D1' := Lib.hid (fun w' => by have := D1.out w'; rw [ea, Option.getD_some] at this; exact this : ∀ w' : World, Calls Try.prog 23 #[.int .u8 a] w' fun e w'' => e = .returned (.int .i64 u) ∧ w' = w'')
              have D2' := Lib.hid (fun w' => by have := D2.out w'; rw [eb, Option.getD_some] at this; exact this : ∀ w' : World, Calls Try.prog 23 #[.int .u8 b] w' fun e w'' => e = .returned (.int .i64 v) ∧ w' = w'')
              clear hd ea eb hst HAT
              go_wp2_with fail
              with_reducible refine HD.out.mono ?_
              rintro e w1 ⟨rfl, rfl⟩
              go_wp2_with fail
              with_reducible refine HD2.out.mono ?_
              rintro e w1 ⟨rfl, rfl⟩
              go_wp2_with fail
              refine wp_region_lin (fun w' => True) 17 [(0, true), (1, true), (2, true), (3, true), (4, true), (7, true), (8, true), (9, true), (10, true), (5, false), (6, true), (11, false), (12, true), (13, true), (14, false), (15, false), (16, true)] (by kernel_rfl) (by kernel_rfl) (fun _ _ d _ _ h => by cases d <;> exact h) trivial ?_
              simp only [List.map_cons, List.map_nil, pick_zero, pick_succ, List.drop_succ_cons, List.drop_zero]
              have k1 : IntKind.i64.wrap ((i : Int) + 1) = i + 1 := IntWalk.i64_in _ (by omega)
              have k2 : IntKind.i64.wrap ((i : Int) + 2) = i + 2 := IntWalk.i64_in _ (by omega)
              have k3 : IntKind.i64.wrap (16 * u) = 16 * u := IntWalk.i64_in _ (by omega)
              have k4 : IntKind.i64.wrap (16 * u + v) = 16 * u + v := IntWalk.i64_in _ (by omega)
              have k5 : IntKind.u8.wrap (16 * u + v) = 16 * u + v := wraps_u8 _ (by omega) (by omega)
              iterate 9 (refine lin_q ?_ rfl ?_ ?_; rotate_left 1; (focus (rintro w' -; have i1 := I1.out w'; have i2 := I2.out w'; go_simp; first | done | with_reducible rfl | (trace_state; fail))); simp only [Act.put, List.setIfInBounds_toArray, List.set_cons_zero, List.set_cons_succ])
              refine lin_act ?_
              refine wl_call rfl _ _ _ (by go_simp) (D1'.out _) ?_
              rintro e w3 ⟨rfl, rfl⟩
              refine ⟨_, rfl, LinPost.mk trivial ?_⟩
              simp only [Act.put, List.setIfInBounds_toArray, List.set_cons_zero, List.set_cons_succ]
              iterate 1 (refine lin_q ?_ rfl ?_ ?_; rotate_left 1; (focus (rintro w' -; go_simp; first | done | with_reducible rfl | (trace_state; fail))); simp only [Act.put, List.setIfInBounds_toArray, List.set_cons_zero, List.set_cons_succ])
              refine lin_act ?_
              refine wl_call rfl _ _ _ (by go_simp) (D2'.out _) ?_
              rintro e w4 ⟨rfl, rfl⟩
              refine ⟨_, rfl, LinPost.mk trivial ?_⟩
              simp only [Act.put, List.setIfInBounds_toArray, List.set_cons_zero, List.set_cons_succ]
              iterate 2 (refine lin_q ?_ rfl ?_ ?_; rotate_left 1; (focus (rintro w' -; go_simp; first | done | with_reducible rfl | (trace_state; fail))); simp only [Act.put, List.setIfInBounds_toArray, List.set_cons_zero, List.set_cons_succ])
              refine lin_act ?_
              refine wl_buildSlice rfl _ 1 _ rfl HO2.out.drew (.cells (bv [16 * u + v]).toArray 5) (by go_simp; rfl) ?_
              intro gs w5 hO5
              refine LinPost.mk trivial ?_
              have HO5 := Lib.hid (hO5.perm List.perm_middle.symm)
              clear hO5 HO2
              refine lin_act ?_
              refine wl_appendB rfl _ _ rfl _ _ (by rfl) HV.out HO5.out (.slice (some ⟨gs, 0, none⟩) 1 1) [16 * u + v] (by rfl) ?_ (by simp only [List.length_cons, List.length_nil]; omega) ?_
              · exact (isBytes_whole gs [16 * u + v] (by simp)).bs_sub HO5.out (sub_there (List.sublist_append_left [_] _))
              intro v6 w6 L6 hv6 hO6
              refine LinPost.mk trivial ?_
              have HV6 := Lib.hid hv6; have HO6 := Lib.hid hO6.strike
              clear hv6 hO6 HV HO5
              simp only [Act.put, List.setIfInBounds_toArray, List.set_cons_zero, List.set_cons_succ]
              iterate 1 (refine lin_q ?_ rfl ?_ ?_; rotate_left 1; (focus (rintro w' -; go_simp; first | done | with_reducible rfl | (trace_state; fail))); simp only [Act.put, List.setIfInBounds_toArray, List.set_cons_zero, List.set_cons_succ])
              refine lin_nil ?_
              clear k1 k2 k3 k4 k5
              go_wp2
              go_roundw
              case rel => exact ⟨i + 3, acc ++ [16 * u + v], L6, by omega, by go_num, Lib.hid (by rw [HE.out, HST.out]; cases unp (l.drop (i + 3)) <;> simp), Lib.hid (by have := HA.out; simp; omega), HV6.out, HO6.out⟩
              case measure => simp [intOf]; omega
      · have t : (x != 37) = true := by simp [h37]
        have hst : unp (l.drop i) = (unp (l.drop (i + 1))).map fun t => x :: t := by rw [HDR.out, unp_other h37]
        have HST := Lib.hid hst
        clear h37 hst
        go_wp2_with (refine wl_appendB rfl _ _ rfl _ acc (by rfl) HV.out (HO2.out.put2 _) (.slice (some ⟨_, 0, none⟩) 1 1) [x] (by rfl) (bs_new HO2.out _ _ rfl (by omega)) (by simp; omega) ?_; intro v5 w5 L5 hv5 hO5; have HV5 := Lib.hid hv5; have HO5 := Lib.hid hO5.strike; clear hv5 hO5 HV HO2)
        go_roundw
        case rel => exact ⟨i + 1, acc ++ [x], L5, by omega, by go_num, Lib.hid (by rw [HE.out, HST.out]; cases unp (l.drop (i + 1)) <;> simp), Lib.hid (by have := HA.out; simp; omega), HV5.out, HO5.out⟩
        case measure => simp [intOf]; omega
    · obtain rfl : i = n := by omega
      have hd : o = some acc := by
        rw [HE.out, List.drop_eq_nil_of_le (by rw [HLN.out]; exact Nat.le_refl _)]
        show some (acc ++ []) = _
        rw [List.append_nil]
      have HD := Lib.hid hd
      have hcv := convert_str (HV.out.bs HO2.out)
      clear hd HE
      go_wp2
      go_ret2
      exact ⟨by rw [HD.out]; rfl, HO2.out.right⟩
end Go.Proofs.Ythhijngddlmkpaa
