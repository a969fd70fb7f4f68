/-
  Package pct: a rune's bytes behind an empty slice; addCoded.
-/
import Derived.Test.YtakihnmajgmnpaaDoorPct1
import Derived.Test.YtakihnmajgmnpaaDoorBld
import Derived.Lib.RuneBytes
namespace Go.Proofs.YtakihnmajgmnpaaDoor
set_option linter.unusedVariables false
set_option linter.unusedSimpArgs false
set_option maxRecDepth 20000
open Go.RowKit

set_option maxHeartbeats 2000000 in
theorem rune2_c {w0 w : World} {R : Blks} (hO : Own w0 w R) (r : Int) (h0 : 128 ≤ r) (h1 : r ≤ 2047) : Calls Tryd.prog 75 #[.slice none 0 0, .int .i32 r] w (GotB w0 R [192 + r / 64, 128 + r % 64]) := by
  have HO := Lib.hid hO
  clear hO
  go_enter Tryd.func75, Tryd.ntmps75
  go_wp2_with (refine wl_appendB rfl _ _ rfl _ [] (by rfl) isBytes_nil (HO.out.put2 (L := []) _) (.slice (some ⟨w.heap.size, 0, none⟩) 2 2) [192 + r / 64, 128 + r % 64] (by rfl) (bs_new HO.out _ _ rfl (by omega)) (by simp) ?_; intro v1 w1 L1 hv1 hO1; have HV1 := Lib.hid hv1; have HO1 := Lib.hid hO1.strike; clear hv1 hO1 HO)
  go_ret
  exact ⟨_, L1, rfl, HV1.out, HO1.out⟩
set_option maxHeartbeats 2000000 in
theorem rune3a_c {w0 w : World} {R : Blks} (hO : Own w0 w R) (r : Int) (h0 : 2048 ≤ r) (h1 : r < 55296) : Calls Tryd.prog 75 #[.slice none 0 0, .int .i32 r] w (GotB w0 R [224 + r / 4096, 128 + r / 64 % 64, 128 + r % 64]) := by
  have HO := Lib.hid hO
  clear hO
  go_enter Tryd.func75, Tryd.ntmps75
  go_wp2_with (refine wl_appendB rfl _ _ rfl _ [] (by rfl) isBytes_nil (HO.out.put2 (L := []) _) (.slice (some ⟨w.heap.size, 0, none⟩) 3 3) [224 + r / 4096, 128 + r / 64 % 64, 128 + r % 64] (by rfl) (bs_new HO.out _ _ rfl (by omega)) (by simp) ?_; intro v1 w1 L1 hv1 hO1; have HV1 := Lib.hid hv1; have HO1 := Lib.hid hO1.strike; clear hv1 hO1 HO)
  go_ret
  exact ⟨_, L1, rfl, HV1.out, HO1.out⟩
set_option maxHeartbeats 2000000 in
theorem rune3b_c {w0 w : World} {R : Blks} (hO : Own w0 w R) (r : Int) (h0 : 57343 < r) (h1 : r ≤ 65535) : Calls Tryd.prog 75 #[.slice none 0 0, .int .i32 r] w (GotB w0 R [224 + r / 4096, 128 + r / 64 % 64, 128 + r % 64]) := by
  have HO := Lib.hid hO
  clear hO
  go_enter Tryd.func75, Tryd.ntmps75
  go_wp2_with (refine wl_appendB rfl _ _ rfl _ [] (by rfl) isBytes_nil (HO.out.put2 (L := []) _) (.slice (some ⟨w.heap.size, 0, none⟩) 3 3) [224 + r / 4096, 128 + r / 64 % 64, 128 + r % 64] (by rfl) (bs_new HO.out _ _ rfl (by omega)) (by simp) ?_; intro v1 w1 L1 hv1 hO1; have HV1 := Lib.hid hv1; have HO1 := Lib.hid hO1.strike; clear hv1 hO1 HO)
  go_ret
  exact ⟨_, L1, rfl, HV1.out, HO1.out⟩
set_option maxHeartbeats 2000000 in
theorem rune4_c {w0 w : World} {R : Blks} (hO : Own w0 w R) (r : Int) (h0 : 65535 < r) (h1 : r ≤ 1114111) : Calls Tryd.prog 75 #[.slice none 0 0, .int .i32 r] w (GotB w0 R [240 + r / 262144, 128 + r / 4096 % 64, 128 + r / 64 % 64, 128 + r % 64]) := by
  have HO := Lib.hid hO
  clear hO
  go_enter Tryd.func75, Tryd.ntmps75
  go_wp2_with (refine wl_appendB rfl _ _ rfl _ [] (by rfl) isBytes_nil (HO.out.put2 (L := []) _) (.slice (some ⟨w.heap.size, 0, none⟩) 4 4) [240 + r / 262144, 128 + r / 4096 % 64, 128 + r / 64 % 64, 128 + r % 64] (by rfl) (bs_new HO.out _ _ rfl (by omega)) (by simp) ?_; intro v1 w1 L1 hv1 hO1; have HV1 := Lib.hid hv1; have HO1 := Lib.hid hO1.strike; clear hv1 hO1 HO)
  go_ret
  exact ⟨_, L1, rfl, HV1.out, HO1.out⟩
theorem runeN_c {w0 w : World} {R : Blks} (hO : Own w0 w R) (c : Nat) (hc : vrune c) (h : 127 < c) : Calls Tryd.prog 75 #[.slice none 0 0, .int .i32 (c : Int)] w (GotB w0 R (encI c)) := by
  unfold vrune at hc
  unfold encI
  rcases (by omega : (128 ≤ c ∧ c ≤ 2047) ∨ (2048 ≤ c ∧ c < 55296) ∨ (57343 < c ∧ c ≤ 65535) ∨ (65536 ≤ c ∧ c ≤ 1114111)) with h1 | h1 | h1 | h1
  · rw [Lib.encodeRuneZ_two (by omega) (by omega)]; exact rune2_c hO c (by omega) (by omega)
  · rw [Lib.encodeRuneZ_three (by omega)]; exact rune3a_c hO c (by omega) (by omega)
  · rw [Lib.encodeRuneZ_three (by omega)]; exact rune3b_c hO c (by omega) (by omega)
  · rw [Lib.encodeRuneZ_four (by omega) (by omega)]; exact rune4_c hO c (by omega) (by omega)
set_option maxHeartbeats 2000000 in
theorem rune_c {w0 w : World} {R : Blks} (hO : Own w0 w R) (c : Nat) (hc : vrune c) : Calls Tryd.prog 62 #[.slice none 0 0, .int .i32 (c : Int)] w (GotB w0 R (encI c)) := by
  have hcv : IntKind.u32.wrap (c : Int) = c := by unfold vrune at hc; rw [IntKind.wrap_u32']; omega
  by_cases h : 127 < c
  · have H := Lib.hid (runeN_c hO c hc h)
    have h' : ¬ ((c : Int) ≤ 127) := by omega
    clear hO hc h
    go_enter Tryd.func62, Tryd.ntmps62
    go_wp2_with fail
    with_reducible refine H.out.mono ?_
    rintro e w1 ⟨v1, L1, rfl, hv1, hO1⟩
    have HV1 := Lib.hid hv1; have HO1 := Lib.hid hO1; clear hv1 hO1
    go_wp2
    go_ret
    exact ⟨_, L1, rfl, HV1.out, HO1.out⟩
  · have HO := Lib.hid hO
    have h' : (c : Int) ≤ 127 := by omega
    have hc8 : IntKind.u8.wrap (c : Int) = c := by rw [IntKind.wrap_u8']; omega
    rw [encI_one (by omega)]
    clear hO hc h
    go_enter Tryd.func62, Tryd.ntmps62
    go_wp2_with (refine wl_appendB rfl _ _ rfl _ [] (by rfl) isBytes_nil (HO.out.put2 (L := []) _) (.slice (some ⟨w.heap.size, 0, none⟩) 1 1) [(c : Int)] (by rfl) (bs_new HO.out _ _ rfl (by omega)) (by simp) ?_; intro v1 w1 L1 hv1 hO1; have HV1 := Lib.hid hv1; have HO1 := Lib.hid hO1.strike; clear hv1 hO1 HO)
    go_ret
    exact ⟨_, L1, rfl, HV1.out, HO1.out⟩
theorem u8and15 (x : Int) (h0 : 0 ≤ x) (h1 : x ≤ 255) : bits .and .u8 x 15 = x % 16 := by
  rw [u8_and x 15 h0 (by omega) (by omega) (by omega)]
  have : x.toNat &&& 15 = x.toNat % 16 := Nat.and_two_pow_sub_one_eq_mod x.toNat 4
  show ((x.toNat &&& 15 : Nat) : Int) = _
  rw [this]; omega
theorem hex_at (w : World) (k : Int) (h0 : 0 ≤ k) (h1 : k < 16) : (Instr.index 9 (.string ⟨#[48, 49, 50, 51, 52, 53, 54, 55, 56, 57, 65, 66, 67, 68, 69, 70]⟩) (.int .u8 k)).run Tryd.prog w = .ok (.int .u8 (hexD k)) w := by
  rcases (by omega : k = 0 ∨ k = 1 ∨ k = 2 ∨ k = 3 ∨ k = 4 ∨ k = 5 ∨ k = 6 ∨ k = 7 ∨ k = 8 ∨ k = 9 ∨ k = 10 ∨ k = 11 ∨ k = 12 ∨ k = 13 ∨ k = 14 ∨ k = 15) with rfl | rfl | rfl | rfl | rfl | rfl | rfl | rfl | rfl | rfl | rfl | rfl | rfl | rfl | rfl | rfl <;> kernel_rfl
theorem length_pct3s : ∀ l : List Int, (l.flatMap pct3).length = 3 * l.length
  | [] => rfl
  | x :: l => by rw [List.flatMap_cons, List.length_append, length_pct3s l]; simp [pct3]; omega
theorem pct3s_snoc (l : List Int) (k : Nat) (h : k < l.length) : (l.take (k + 1)).flatMap pct3 = (l.take k).flatMap pct3 ++ pct3 l[k] := by
  rw [List.take_succ_eq_append_getElem h, List.flatMap_append]; simp
set_option maxHeartbeats 2000000 in
theorem addCoded_c {w0 w : World} {L R : Blks} {v : Value} {xs : List Int} (hv : IsBytes v xs L) (hO : Own w0 w (L ++ R)) (hx : xs.length ≤ 1000000000) (c : Nat) (hc : vrune c) :
    Calls Tryd.prog 56 #[v, .int .i32 (c : Int)] w (GotB w0 R (xs ++ (encI c).flatMap pct3)) := by
  have H := Lib.hid (rune_c hO c hc)
  have HV := Lib.hid hv
  have hB := encI_byt c
  have h4 := encI_len c
  have hpos : 0 < (encI c).length := List.length_pos_iff.2 (encI_ne c)
  generalize encI c = es at *
  obtain ⟨n, hn⟩ : ∃ n, es.length = n := ⟨_, rfl⟩
  have HN := Lib.hid hn
  have HBY := Lib.hid hB
  rw [hn] at h4 hpos
  clear hv hO hc hB hn
  go_enter Tryd.func56, Tryd.ntmps56
  go_wp2_with fail
  with_reducible refine H.out.mono ?_
  rintro e w1 ⟨v8, L8, rfl, hv8, hO8⟩
  obtain ⟨g, cap, sp, rfl, rfl, hcap⟩ := hv8.blkn n HN.out hpos
  have HO8 := Lib.hid hO8
  clear hv8 hO8 H
  go_wp2
  go_loopw [0, 10] (fun b t w' => ∃ k : Nat, k ≤ n ∧ t = .int .i64 k ∧ Hid (∃ L', IsBytes b (xs ++ (es.take k).flatMap pct3) L' ∧ Own w0 w' (L' ++ ((g, .cells (List.toArray (bv es ++ sp)) 5) :: R)))) (fun _ t _ => n - (intOf t).toNat)
  case atStart =>
    refine ⟨0, Nat.zero_le _, rfl, L, by simpa using HV.out, ?_⟩
    have h1 : Own w0 w1 ([(g, .cells (List.toArray (bv es ++ sp)) 5)] ++ (L ++ R)) := HO8.out
    exact h1.rot
  case round =>
    obtain ⟨k, hk, rfl, HB⟩ := hrel
    clear HV HO8
    by_cases hlt : k < n
    · obtain ⟨L2, hv2, hO2⟩ := HB.out
      have hkx : k < es.length := by rw [HN.out]; exact hlt
      have hcell : wr.cell? ⟨g, k, none⟩ = some (.int .u8 es[k]) := by
        rw [hO2.cell (List.mem_append_right _ (.head _)), bv_get_sp es sp k hkx]
      have hbx := HBY.out es[k] (List.getElem_mem hkx)
      have hl2 : (xs ++ (es.take k).flatMap pct3).length ≤ 1000000012 := by rw [List.length_append, length_pct3s, List.length_take]; omega
      have hst := pct3s_snoc es k hkx
      have HV2 := Lib.hid hv2; have HO2 := Lib.hid hO2; have HL2 := Lib.hid hl2; have HST := Lib.hid hst
      clear hv2 hO2 HB hl2 hst
      generalize es[k] = x at *
      obtain ⟨y1, hy1⟩ : ∃ y, hexD (x / 16) = y := ⟨_, rfl⟩
      obtain ⟨y2, hy2⟩ : ∃ y, hexD (x % 16) = y := ⟨_, rfl⟩
      have q1 : ∀ w', _ := fun w' => hex_at w' (x / 16) (by omega) (by omega)
      have q2 : ∀ w', _ := fun w' => hex_at w' (x % 16) (by omega) (by omega)
      rw [hy1] at q1; rw [hy2] at q2
      have hp : pct3 x = [37, y1, y2] := by rw [← hy1, ← hy2]; rfl
      have HP := Lib.hid hp; have Q1 := Lib.hid q1; have Q2 := Lib.hid q2
      have hx0 := hbx.1; have hx1 := hbx.2
      have hkn : (k : Int) < n := by omega
      clear hp q1 q2 hy1 hy2 hbx hkx
      go_wp2_with fail
      refine wp_region_lin (fun w' => True) 10 [(0, true), (1, true), (2, true), (3, true), (4, true), (5, true), (6, true), (7, false), (8, false), (9, true)] (by kernel_rfl) (by kernel_rfl) (fun _ _ d _ _ h => by cases d <;> exact h) trivial ?_
      simp only [List.map_cons, List.map_nil, pick_zero, pick_succ, List.drop_succ_cons, List.drop_zero]
      iterate 7 (refine lin_q ?_ rfl ?_ ?_; rotate_left 1; (focus (rintro w' -; have q1 := Q1.out w'; have q2 := Q2.out w'; have q3 := u8and15 x hx0 hx1; go_simp; first | done | with_reducible rfl | (trace_state; fail))); simp only [Act.put, List.setIfInBounds_toArray, List.set_cons_zero, List.set_cons_succ])
      refine lin_act ?_
      clear Q1 Q2 hcell
      refine wl_buildSlice rfl _ 3 _ rfl HO2.out.drew (.cells (bv [37, y1, y2]).toArray 5) (by go_simp; rfl) ?_
      intro gs w3 hO3
      refine LinPost.mk trivial ?_
      have HO3 := Lib.hid (hO3.perm List.perm_middle.symm)
      clear hO3 HO2
      refine lin_act ?_
      refine wl_appendB rfl _ _ rfl _ _ (by rfl) HV2.out HO3.out (.slice (some ⟨gs, 0, none⟩) 3 3) [37, y1, y2] (by rfl) ?_ (by have := HL2.out; simp only [List.length_cons, List.length_nil]; omega) ?_
      · exact (isBytes_whole gs [37, y1, y2] (by simp)).bs_sub HO3.out (sub_there (List.sublist_append_left [_] _))
      intro v4 w4 L4 hv4 hO4
      refine LinPost.mk trivial ?_
      have HV4 := Lib.hid hv4; have HO4 := Lib.hid hO4.strike
      clear hv4 hO4 HV2 HO3
      simp only [Act.put, List.setIfInBounds_toArray, List.set_cons_zero, List.set_cons_succ]
      iterate 1 (refine lin_q ?_ rfl ?_ ?_; rotate_left 1; (focus (rintro w' -; go_simp; first | done | with_reducible rfl | (trace_state; fail))); simp only [Act.put, List.setIfInBounds_toArray, List.set_cons_zero, List.set_cons_succ])
      refine lin_nil ?_
      go_wp2
      go_roundw
      case rel => exact ⟨k + 1, by omega, by go_num, L4, HV4.out.cast (by rw [HST.out, HP.out, List.append_assoc]), HO4.out⟩
      case measure => simp [intOf]; omega
    · obtain rfl : k = n := by omega
      obtain ⟨L2, hv2, hO2⟩ := HB.out
      have HV2 := Lib.hid hv2; have HO2 := Lib.hid hO2.strike
      clear hv2 hO2 HB
      go_wp2
      go_ret
      exact ⟨_, L2, rfl, HV2.out.cast (by rw [List.take_of_length_le (by rw [HN.out]; exact Nat.le_refl _)]), HO2.out⟩
end Go.Proofs.YtakihnmajgmnpaaDoor
