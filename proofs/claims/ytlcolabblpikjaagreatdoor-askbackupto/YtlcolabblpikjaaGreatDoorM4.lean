/-
  Texts that the laws stand on: Pct2, Pct3, Pct5, Pct8.
-/
import Derived.Test.YtlcolabblpikjaaGreatDoorM3
import Derived.Lib.RuneBytes
import Derived.OpenShut
import Derived.Lib.ConvBytes
import Derived.Deep.DeepCutAuto

/-
  Package pct: a rune's bytes behind an empty slice; addCoded.
-/
namespace Go.Proofs.YtlcolabblpikjaaGreatDoor
set_option linter.unusedVariables false
set_option linter.unusedSimpArgs false
set_option maxRecDepth 20000
open Go.RowKit

set_option maxHeartbeats 2000000 in
theorem rune2_c {w0 w : World} {R : Blks} (hO : Own w0 w R) (r : Int) (h0 : 128 ≤ r) (h1 : r ≤ 2047) : Calls Tryz.prog 121 #[.slice none 0 0, .int .i32 r] w (GotB w0 R [192 + r / 64, 128 + r % 64]) := by
  have HO := Lib.hid hO
  clear hO
  go_enter Tryz.func121, Tryz.ntmps121
  go_wp2_with (refine wl_appendB rfl _ _ rfl _ [] (by rfl) isBytes_nil (HO.out.put2 (L := []) _) (.slice (some ⟨w.heap.size, 0, none⟩) 2 2) [192 + r / 64, 128 + r % 64] (by rfl) (bs_new HO.out _ _ rfl (by omega)) (by simp) ?_; intro v1 w1 L1 hv1 hO1; have HV1 := Lib.hid hv1; have HO1 := Lib.hid hO1.strike; clear hv1 hO1 HO)
  go_ret
  exact ⟨_, L1, rfl, HV1.out, HO1.out⟩
set_option maxHeartbeats 2000000 in
theorem rune3a_c {w0 w : World} {R : Blks} (hO : Own w0 w R) (r : Int) (h0 : 2048 ≤ r) (h1 : r < 55296) : Calls Tryz.prog 121 #[.slice none 0 0, .int .i32 r] w (GotB w0 R [224 + r / 4096, 128 + r / 64 % 64, 128 + r % 64]) := by
  have HO := Lib.hid hO
  clear hO
  go_enter Tryz.func121, Tryz.ntmps121
  go_wp2_with (refine wl_appendB rfl _ _ rfl _ [] (by rfl) isBytes_nil (HO.out.put2 (L := []) _) (.slice (some ⟨w.heap.size, 0, none⟩) 3 3) [224 + r / 4096, 128 + r / 64 % 64, 128 + r % 64] (by rfl) (bs_new HO.out _ _ rfl (by omega)) (by simp) ?_; intro v1 w1 L1 hv1 hO1; have HV1 := Lib.hid hv1; have HO1 := Lib.hid hO1.strike; clear hv1 hO1 HO)
  go_ret
  exact ⟨_, L1, rfl, HV1.out, HO1.out⟩
set_option maxHeartbeats 2000000 in
theorem rune3b_c {w0 w : World} {R : Blks} (hO : Own w0 w R) (r : Int) (h0 : 57343 < r) (h1 : r ≤ 65535) : Calls Tryz.prog 121 #[.slice none 0 0, .int .i32 r] w (GotB w0 R [224 + r / 4096, 128 + r / 64 % 64, 128 + r % 64]) := by
  have HO := Lib.hid hO
  clear hO
  go_enter Tryz.func121, Tryz.ntmps121
  go_wp2_with (refine wl_appendB rfl _ _ rfl _ [] (by rfl) isBytes_nil (HO.out.put2 (L := []) _) (.slice (some ⟨w.heap.size, 0, none⟩) 3 3) [224 + r / 4096, 128 + r / 64 % 64, 128 + r % 64] (by rfl) (bs_new HO.out _ _ rfl (by omega)) (by simp) ?_; intro v1 w1 L1 hv1 hO1; have HV1 := Lib.hid hv1; have HO1 := Lib.hid hO1.strike; clear hv1 hO1 HO)
  go_ret
  exact ⟨_, L1, rfl, HV1.out, HO1.out⟩
set_option maxHeartbeats 2000000 in
theorem rune4_c {w0 w : World} {R : Blks} (hO : Own w0 w R) (r : Int) (h0 : 65535 < r) (h1 : r ≤ 1114111) : Calls Tryz.prog 121 #[.slice none 0 0, .int .i32 r] w (GotB w0 R [240 + r / 262144, 128 + r / 4096 % 64, 128 + r / 64 % 64, 128 + r % 64]) := by
  have HO := Lib.hid hO
  clear hO
  go_enter Tryz.func121, Tryz.ntmps121
  go_wp2_with (refine wl_appendB rfl _ _ rfl _ [] (by rfl) isBytes_nil (HO.out.put2 (L := []) _) (.slice (some ⟨w.heap.size, 0, none⟩) 4 4) [240 + r / 262144, 128 + r / 4096 % 64, 128 + r / 64 % 64, 128 + r % 64] (by rfl) (bs_new HO.out _ _ rfl (by omega)) (by simp) ?_; intro v1 w1 L1 hv1 hO1; have HV1 := Lib.hid hv1; have HO1 := Lib.hid hO1.strike; clear hv1 hO1 HO)
  go_ret
  exact ⟨_, L1, rfl, HV1.out, HO1.out⟩
theorem runeN_c {w0 w : World} {R : Blks} (hO : Own w0 w R) (c : Nat) (hc : vrune c) (h : 127 < c) : Calls Tryz.prog 121 #[.slice none 0 0, .int .i32 (c : Int)] w (GotB w0 R (encI c)) := by
  unfold vrune at hc
  unfold encI
  rcases (by omega : (128 ≤ c ∧ c ≤ 2047) ∨ (2048 ≤ c ∧ c < 55296) ∨ (57343 < c ∧ c ≤ 65535) ∨ (65536 ≤ c ∧ c ≤ 1114111)) with h1 | h1 | h1 | h1
  · rw [Lib.encodeRuneZ_two (by omega) (by omega)]; exact rune2_c hO c (by omega) (by omega)
  · rw [Lib.encodeRuneZ_three (by omega)]; exact rune3a_c hO c (by omega) (by omega)
  · rw [Lib.encodeRuneZ_three (by omega)]; exact rune3b_c hO c (by omega) (by omega)
  · rw [Lib.encodeRuneZ_four (by omega) (by omega)]; exact rune4_c hO c (by omega) (by omega)
set_option maxHeartbeats 2000000 in
theorem rune_c {w0 w : World} {R : Blks} (hO : Own w0 w R) (c : Nat) (hc : vrune c) : Calls Tryz.prog 113 #[.slice none 0 0, .int .i32 (c : Int)] w (GotB w0 R (encI c)) := by
  have hcv : IntKind.u32.wrap (c : Int) = c := by unfold vrune at hc; rw [IntKind.wrap_u32']; omega
  by_cases h : 127 < c
  · have H := Lib.hid (runeN_c hO c hc h)
    have h' : ¬ ((c : Int) ≤ 127) := by omega
    clear hO hc h
    go_enter Tryz.func113, Tryz.ntmps113
    go_wp2_with fail
    with_reducible refine H.out.mono ?_
    rintro e w1 ⟨v1, L1, rfl, hv1, hO1⟩
    have HV1 := Lib.hid hv1; have HO1 := Lib.hid hO1; clear hv1 hO1
    go_wp2
    go_ret
    exact ⟨_, L1, rfl, HV1.out, HO1.out⟩
  · have HO := Lib.hid hO
    have h' : (c : Int) ≤ 127 := by omega
    have hc8 : IntKind.u8.wrap (c : Int) = c := by rw [IntKind.wrap_u8']; omega
    rw [encI_one (by omega)]
    clear hO hc h
    go_enter Tryz.func113, Tryz.ntmps113
    go_wp2_with (refine wl_appendB rfl _ _ rfl _ [] (by rfl) isBytes_nil (HO.out.put2 (L := []) _) (.slice (some ⟨w.heap.size, 0, none⟩) 1 1) [(c : Int)] (by rfl) (bs_new HO.out _ _ rfl (by omega)) (by simp) ?_; intro v1 w1 L1 hv1 hO1; have HV1 := Lib.hid hv1; have HO1 := Lib.hid hO1.strike; clear hv1 hO1 HO)
    go_ret
    exact ⟨_, L1, rfl, HV1.out, HO1.out⟩
theorem u8and15 (x : Int) (h0 : 0 ≤ x) (h1 : x ≤ 255) : bits .and .u8 x 15 = x % 16 := by
  rw [u8_and x 15 h0 (by omega) (by omega) (by omega)]
  have : x.toNat &&& 15 = x.toNat % 16 := Nat.and_two_pow_sub_one_eq_mod x.toNat 4
  show ((x.toNat &&& 15 : Nat) : Int) = _
  rw [this]; omega
theorem hex_at (w : World) (k : Int) (h0 : 0 ≤ k) (h1 : k < 16) : (Instr.index 9 (.string ⟨#[48, 49, 50, 51, 52, 53, 54, 55, 56, 57, 65, 66, 67, 68, 69, 70]⟩) (.int .u8 k)).run Tryz.prog w = .ok (.int .u8 (hexD k)) w := by
  rcases (by omega : k = 0 ∨ k = 1 ∨ k = 2 ∨ k = 3 ∨ k = 4 ∨ k = 5 ∨ k = 6 ∨ k = 7 ∨ k = 8 ∨ k = 9 ∨ k = 10 ∨ k = 11 ∨ k = 12 ∨ k = 13 ∨ k = 14 ∨ k = 15) with rfl | rfl | rfl | rfl | rfl | rfl | rfl | rfl | rfl | rfl | rfl | rfl | rfl | rfl | rfl | rfl <;> kernel_rfl
theorem length_pct3s : ∀ l : List Int, (l.flatMap pct3).length = 3 * l.length
  | [] => rfl
  | x :: l => by rw [List.flatMap_cons, List.length_append, length_pct3s l]; simp [pct3]; omega
theorem pct3s_snoc (l : List Int) (k : Nat) (h : k < l.length) : (l.take (k + 1)).flatMap pct3 = (l.take k).flatMap pct3 ++ pct3 l[k] := by
  rw [List.take_succ_eq_append_getElem h, List.flatMap_append]; simp
set_option maxHeartbeats 2000000 in
theorem addCoded_c {w0 w : World} {L R : Blks} {v : Value} {xs : List Int} (hv : IsBytes v xs L) (hO : Own w0 w (L ++ R)) (hx : xs.length ≤ 1000000000) (c : Nat) (hc : vrune c) :
    Calls Tryz.prog 97 #[v, .int .i32 (c : Int)] w (GotB w0 R (xs ++ (encI c).flatMap pct3)) := by
  have H := Lib.hid (rune_c hO c hc)
  have HV := Lib.hid hv
  have hB := encI_byt c
  have h4 := encI_len c
  have hpos : 0 < (encI c).length := List.length_pos_iff.2 (encI_ne c)
  generalize encI c = es at *
  obtain ⟨n, hn⟩ : ∃ n, es.length = n := ⟨_, rfl⟩
  have HN := Lib.hid hn
  have HBY := Lib.hid hB
  rw [hn] at h4 hpos
  clear hv hO hc hB hn
  go_enter Tryz.func97, Tryz.ntmps97
  go_wp2_with fail
  with_reducible refine H.out.mono ?_
  rintro e w1 ⟨v8, L8, rfl, hv8, hO8⟩
  obtain ⟨g, cap, sp, rfl, rfl, hcap⟩ := hv8.blkn n HN.out hpos
  have HO8 := Lib.hid hO8
  clear hv8 hO8 H
  go_wp2
  go_loopw [0, 10] (fun b t w' => ∃ k : Nat, k ≤ n ∧ t = .int .i64 k ∧ Hid (∃ L', IsBytes b (xs ++ (es.take k).flatMap pct3) L' ∧ Own w0 w' (L' ++ ((g, .cells (List.toArray (bv es ++ sp)) 5) :: R)))) (fun _ t _ => n - (intOf t).toNat)
  case atStart =>
    refine ⟨0, Nat.zero_le _, rfl, L, by simpa using HV.out, ?_⟩
    have h1 : Own w0 w1 ([(g, .cells (List.toArray (bv es ++ sp)) 5)] ++ (L ++ R)) := HO8.out
    exact h1.rot
  case round =>
    obtain ⟨k, hk, rfl, HB⟩ := hrel
    clear HV HO8
    by_cases hlt : k < n
    · obtain ⟨L2, hv2, hO2⟩ := HB.out
      have hkx : k < es.length := by rw [HN.out]; exact hlt
      have hcell : wr.cell? ⟨g, k, none⟩ = some (.int .u8 es[k]) := by
        rw [hO2.cell (List.mem_append_right _ (.head _)), bv_get_sp es sp k hkx]
      have hbx := HBY.out es[k] (List.getElem_mem hkx)
      have hl2 : (xs ++ (es.take k).flatMap pct3).length ≤ 1000000012 := by rw [List.length_append, length_pct3s, List.length_take]; omega
      have hst := pct3s_snoc es k hkx
      have HV2 := Lib.hid hv2; have HO2 := Lib.hid hO2; have HL2 := Lib.hid hl2; have HST := Lib.hid hst
      clear hv2 hO2 HB hl2 hst
      generalize es[k] = x at *
      obtain ⟨y1, hy1⟩ : ∃ y, hexD (x / 16) = y := ⟨_, rfl⟩
      obtain ⟨y2, hy2⟩ : ∃ y, hexD (x % 16) = y := ⟨_, rfl⟩
      have q1 : ∀ w', _ := fun w' => hex_at w' (x / 16) (by omega) (by omega)
      have q2 : ∀ w', _ := fun w' => hex_at w' (x % 16) (by omega) (by omega)
      rw [hy1] at q1; rw [hy2] at q2
      have hp : pct3 x = [37, y1, y2] := by rw [← hy1, ← hy2]; rfl
      have HP := Lib.hid hp; have Q1 := Lib.hid q1; have Q2 := Lib.hid q2
      have hx0 := hbx.1; have hx1 := hbx.2
      have hkn : (k : Int) < n := by omega
      clear hp q1 q2 hy1 hy2 hbx hkx
      go_wp2_with fail
      refine wp_region_lin (fun w' => True) 10 [(0, true), (1, true), (2, true), (3, true), (4, true), (5, true), (6, true), (7, false), (8, false), (9, true)] (by kernel_rfl) (by kernel_rfl) (fun _ _ d _ _ h => by cases d <;> exact h) trivial ?_
      simp only [List.map_cons, List.map_nil, pick_zero, pick_succ, List.drop_succ_cons, List.drop_zero]
      iterate 7 (refine lin_q ?_ rfl ?_ ?_; rotate_left 1; (focus (rintro w' -; have q1 := Q1.out w'; have q2 := Q2.out w'; have q3 := u8and15 x hx0 hx1; go_simp; first | done | with_reducible rfl | (trace_state; fail))); simp only [Act.put, List.setIfInBounds_toArray, List.set_cons_zero, List.set_cons_succ])
      refine lin_act ?_
      clear Q1 Q2 hcell
      refine wl_buildSlice rfl _ 3 _ rfl HO2.out.drew (.cells (bv [37, y1, y2]).toArray 5) (by go_simp; rfl) ?_
      intro gs w3 hO3
      refine LinPost.mk trivial ?_
      have HO3 := Lib.hid (hO3.perm List.perm_middle.symm)
      clear hO3 HO2
      refine lin_act ?_
      refine wl_appendB rfl _ _ rfl _ _ (by rfl) HV2.out HO3.out (.slice (some ⟨gs, 0, none⟩) 3 3) [37, y1, y2] (by rfl) ?_ (by have := HL2.out; simp only [List.length_cons, List.length_nil]; omega) ?_
      · exact (isBytes_whole gs [37, y1, y2] (by simp)).bs_sub HO3.out (sub_there (List.sublist_append_left [_] _))
      intro v4 w4 L4 hv4 hO4
      refine LinPost.mk trivial ?_
      have HV4 := Lib.hid hv4; have HO4 := Lib.hid hO4.strike
      clear hv4 hO4 HV2 HO3
      simp only [Act.put, List.setIfInBounds_toArray, List.set_cons_zero, List.set_cons_succ]
      iterate 1 (refine lin_q ?_ rfl ?_ ?_; rotate_left 1; (focus (rintro w' -; go_simp; first | done | with_reducible rfl | (trace_state; fail))); simp only [Act.put, List.setIfInBounds_toArray, List.set_cons_zero, List.set_cons_succ])
      refine lin_nil ?_
      go_wp2
      go_roundw
      case rel => exact ⟨k + 1, by omega, by go_num, L4, HV4.out.cast (by rw [HST.out, HP.out, List.append_assoc]), HO4.out⟩
      case measure => simp [intOf]; omega
    · obtain rfl : k = n := by omega
      obtain ⟨L2, hv2, hO2⟩ := HB.out
      have HV2 := Lib.hid hv2; have HO2 := Lib.hid hO2.strike
      clear hv2 hO2 HB
      go_wp2
      go_ret
      exact ⟨_, L2, rfl, HV2.out.cast (by rw [List.take_of_length_le (by rw [HN.out]; exact Nat.le_refl _)]), HO2.out⟩
end Go.Proofs.YtlcolabblpikjaaGreatDoor
/-
  Package pct: Encode.
-/
namespace Go.Proofs.YtlcolabblpikjaaGreatDoor
set_option linter.unusedVariables false
set_option linter.unusedSimpArgs false
set_option maxRecDepth 20000
open Go.RowKit

/-- What is left of a range over a string. -/
def leftOf (w : World) (r : Nat) : Nat := match w.heap[r]? with
  | some (.stringIter s pos) => s.size - pos
  | _ => 0
theorem leftOf_eq {w : World} {r : Nat} {s : ByteArray} {pos : Nat} (h : w.heap[r]? = some (.stringIter s pos)) : leftOf w r = s.size - pos := by unfold leftOf; rw [h]
theorem pctE_drop {l : List Int} {pos : Nat} (h : pos < l.length) : pctE (l.drop pos) = pctR (decI (l.drop pos)).1 ++ pctE (l.drop (pos + (decI (l.drop pos)).2)) := by
  unfold pctE
  rw [runes_step (by intro e; have := congrArg List.length e; simp at this; omega), List.flatMap_cons, List.drop_drop]
theorem dec_fits {l : List Int} {pos : Nat} (h : pos < l.length) : pos + (decI (l.drop pos)).2 ≤ l.length := by
  have := decI_le (l := l.drop pos) (by intro e; have := congrArg List.length e; simp at this; omega)
  rw [List.length_drop] at this
  omega
set_option maxHeartbeats 4000000 in
theorem encode_c {w0 w : World} {R : Blks} (hO : Own w0 w R) (s : ByteArray) (hs : s.size ≤ 80000000) :
    Calls Tryz.prog 79 #[.string s] w fun e w' => e = .returned (.string (strOfNums (pctE (sb s)))) ∧ Own w0 w' R := by
  have HO := Lib.hid hO
  obtain ⟨l, hl⟩ : ∃ l, sb s = l := ⟨_, rfl⟩
  have hn : l.length = s.size := by rw [← hl]; exact length_sb s
  have HL := Lib.hid hl; have HN := Lib.hid hn
  rw [hl]
  clear hO hl hn
  go_enter Tryz.func79, Tryz.ntmps79
  go_wp2_with (refine wl_rangeS rfl _ _ rfl (by rfl) HO.out s (by rfl) ?_; intro r w1 hO1; have HO1 := Lib.hid hO1; clear hO1 HO)
  simp only [Act.put, List.setIfInBounds_toArray, List.set_cons_zero, List.set_cons_succ]
  go_loopw [3] (fun b w' => ∃ pos acc L', pos ≤ s.size ∧ Hid (pctE l = acc ++ pctE (l.drop pos)) ∧ Hid (IsBytes b acc L') ∧ Hid (Own w0 w' ((r, .stringIter s pos) :: (L' ++ R)))) (fun _ w' => leftOf w' r)
  case atStart => exact ⟨0, [], [], Nat.zero_le _, Lib.hid (by simp), isBytes_nil, HO1.out⟩
  case round =>
    obtain ⟨pos, acc, L', hpos, HE, HV, HO2⟩ := hrel
    clear HO1
    by_cases hlt : pos < s.size
    · have hlt' : pos < l.length := by rw [HN.out]; exact hlt
      have hst := pctE_drop hlt'
      have hfit := dec_fits hlt'
      have hval := decI_valid (l.drop pos)
      have hge := decI_pos (l.drop pos)
      have hlen : acc.length ≤ 960000000 := by
        have h1 := pctE_len l
        rw [HE.out, List.length_append, HN.out] at h1
        omega
      have hcs : pctR (decI (l.drop pos)).1 = if plainR (decI (l.drop pos)).1 then [((decI (l.drop pos)).1 : Int)] else (encI (decI (l.drop pos)).1).flatMap pct3 := rfl
      have hit := Lib.hid (HO2.out.heap (.head _))
      obtain ⟨c, hc⟩ : ∃ c, (decI (l.drop pos)).1 = c := ⟨_, rfl⟩
      obtain ⟨k, hk⟩ : ∃ k, (decI (l.drop pos)).2 = k := ⟨_, rfl⟩
      rw [hc] at hst hval hcs
      rw [hk] at hst hfit hge
      have HC := Lib.hid hc; have HK := Lib.hid hk; have HST := Lib.hid hst; have HVAL := Lib.hid hval; have HCS := Lib.hid hcs
      clear hc hk hst hval hcs
      go_wp2_with (refine wl_nextS rfl _ rfl HO2.out 0 r s pos rfl hlt (by rfl) ?_; intro w3 hO3; rw [HL.out, HK.out] at hO3; rw [HL.out, HC.out]; have HO3 := Lib.hid (hO3.perm List.perm_middle.symm); clear hO3 HO2)
      have hcall := isPlain_c (w := w3) c
      with_reducible refine hcall.mono ?_
      clear hcall
      rintro e w4 ⟨rfl, rfl⟩
      cases hp : plainR c with
      | true =>
        have hce := HCS.out
        rw [if_pos hp] at hce
        have hcb := (plainR_iff c).1 hp
        have hc8 : IntKind.u8.wrap (c : Int) = c := by rw [IntKind.wrap_u8']; omega
        have HCE := Lib.hid hce
        clear hce hcb hp HCS
        go_wp2_with (refine wl_appendB rfl _ _ rfl _ acc (by rfl) HV.out (HO3.out.put2 _) (.slice (some ⟨_, 0, none⟩) 1 1) [(c : Int)] (by rfl) (bs_new HO3.out _ _ rfl (by omega)) (by simp; omega) ?_; intro v5 w5 L5 hv5 hO5; have HV5 := Lib.hid hv5; have HO5 := Lib.hid hO5.strike; clear hv5 hO5 HV HO3)
        go_roundw
        case rel => exact ⟨pos + k, acc ++ [(c : Int)], L5, by have := HN.out; omega, Lib.hid (by rw [HE.out, HST.out, HCE.out, List.append_assoc]), HV5.out, HO5.out.perm List.perm_middle⟩
        case measure => rw [leftOf_eq (HO5.out.heap (List.mem_append_right _ (.head _))), leftOf_eq hit.out]; omega
      | false =>
        have hce := HCS.out
        rw [if_neg (by rw [hp]; simp)] at hce
        have hcall := addCoded_c HV.out HO3.out (by omega) c HVAL.out
        have HCE := Lib.hid hce
        clear hce hp HCS
        go_wp2_with fail
        with_reducible refine hcall.mono ?_
        clear hcall
        rintro e w5 ⟨v5, L5, rfl, hv5, hO5⟩
        have HV5 := Lib.hid hv5; have HO5 := Lib.hid hO5; clear hv5 hO5 HV HO3
        go_wp2
        go_roundw
        case rel => exact ⟨pos + k, acc ++ (encI c).flatMap pct3, L5, by have := HN.out; omega, Lib.hid (by rw [HE.out, HST.out, HCE.out, List.append_assoc]), HV5.out, HO5.out.perm List.perm_middle⟩
        case measure => rw [leftOf_eq (HO5.out.heap (List.mem_append_right _ (.head _))), leftOf_eq hit.out]; omega
    · have hpe : pos = s.size := by omega
      subst hpe
      have hd : l.drop s.size = [] := List.drop_eq_nil_of_le (by rw [HN.out]; exact Nat.le_refl _)
      have he : pctE l = acc := by rw [HE.out, hd]; show acc ++ [] = acc; simp
      have hO3 : Own w0 wr (L' ++ ((r, .stringIter s s.size) :: R)) := HO2.out.perm List.perm_middle.symm
      have hcv := convert_str (HV.out.bs hO3)
      have HO4 := Lib.hid hO3.strike
      have HEQ := Lib.hid he
      clear HE hd he hlt hO3
      go_wp2_with (first | (refine wl_nextS_end rfl _ rfl HO2.out 0 r s s.size rfl (by omega) (by rfl) ?_))
      go_ret
      exact ⟨by rw [HEQ.out]; rfl, HO4.out.right⟩
end Go.Proofs.YtlcolabblpikjaaGreatDoor
/-
  Bytes of a string that may be written into; Lower, the program's and the document's.
-/
namespace Go.Proofs.YtlcolabblpikjaaGreatDoor
set_option linter.unusedVariables false
set_option linter.unusedSimpArgs false
set_option maxRecDepth 20000
open Go.RowKit

/-- A row of cells that a conversion made. -/
def zrow (g : Nat) (cs : List Value) : Nat × Obj := (g, .cells cs.toArray 5 (cs.length, cs.length + 1))
theorem cell_zrow {w0 w : World} {L : Blks} {g : Nat} {cs : List Value} (hO : Own w0 w L) (h : zrow g cs ∈ L) (j : Nat) : w.cell? ⟨g, j, none⟩ = cs[j]? := by
  rw [cell_of_row w g j _ _ _ (hO.heap h)]; simp
theorem frozen_zrow {w0 w : World} {L : Blks} {g : Nat} {cs : List Value} (hO : Own w0 w L) (h : zrow g cs ∈ L) (j : Nat) (hj : j < cs.length) : w.frozen? ⟨g, j, none⟩ = false := by
  unfold World.frozen?
  rw [hO.heap h]
  simp; omega
theorem bytesCells_list (w : World) (s : ByteArray) : (Lib.bytesCells w 5 s).toList = bv (sb s) ++ List.replicate (grownCap w s.size 0 5 - s.size) (.int .u8 0) := by
  unfold Lib.bytesCells bv sb
  simp
theorem bs_zrow {w0 w : World} {L : Blks} {g cap : Nat} {xs : List Int} {sp : List Value} (hO : Own w0 w L) (h : zrow g (bv xs ++ sp) ∈ L) (n : Nat) (hn : xs.length = n) (hc : n ≤ cap) : Bs w (.slice (some ⟨g, 0, none⟩) n cap) xs := by
  refine ⟨_, _, _, rfl, hn, hc, fun _ => ⟨_, rfl, fun j x hx => ?_⟩⟩
  have hj : j < xs.length := (List.getElem?_eq_some_iff.1 hx).1
  rw [addr_add_zero, cell_zrow hO h, List.getElem?_append_left (by simpa using hj)]
  simp [bv, hx]
section
variable {w0 w : World} {L : Blks} {ops : Array Oper} {rest : List Oper} {op : Oper} {a : Act} {Q : Exit → Act → World → Prop}
/-- '[]byte(s)' of a string that is no constant. -/
theorem wl_str2b (hgd : op.guard = none) (x : Operand) (ho : op.op = .convert 9 55 x) (hO : Own w0 w L) (s : ByteArray) (hx : a.eval x = .string s)
    (h : ∀ g cap sp w', s.size ≤ cap → Own w0 w' (zrow g (bv (sb s) ++ sp) :: L) → wpList Tryz.prog ops Q rest (a.put op.dst (.slice (some ⟨g, 0, none⟩) s.size cap)) w') : wpList Tryz.prog ops Q (op :: rest) a w := by
  refine wpList_plain hgd fun K hK => ?_
  have hrun := Lib.run_convert_string_bytes (P := Tryz.prog) w 9 55 5 s Tryz.underlying9 Tryz.underlying55 Tryz.underlying5
  unfold Oper.wp
  simp only [execOp, ho, hx, Sem.run_bind, hrun, Result.andThen_ok, Sem.run_pure]
  have hnew := Lib.bytesWorld_at_new w 5 s
  have hcs := bytesCells_list w s
  obtain ⟨C, hC⟩ : ∃ C, Lib.bytesCells w 5 s = C := ⟨_, rfl⟩
  rw [hC] at hnew hcs
  have hCa : C = (bv (sb s) ++ List.replicate (grownCap w s.size 0 5 - s.size) (Value.int .u8 0)).toArray := by rw [← hcs]
  have hsz : C.size = (bv (sb s) ++ List.replicate (grownCap w s.size 0 5 - s.size) (Value.int .u8 0)).length := by rw [hCa]; simp
  rw [hsz, hCa] at hnew
  refine hK _ _ (h w.heap.size _ (List.replicate (grownCap w s.size 0 5 - s.size) (.int .u8 0)) _ (grownCap_ge w _ _ _) ?_)
  have hg : Below w.heap.size w (Lib.bytesWorld w 5 s) := ⟨rfl, rfl, rfl, by rw [Lib.bytesWorld_size]; omega, fun k hk => Lib.bytesWorld_at_old w _ s k hk⟩
  have hS := hO.same hg
  refine ⟨hS.below, ?_, ?_⟩
  · intro g o hm
    rcases List.mem_cons.1 hm with e | hm
    · cases e; exact ⟨hO.below.size, hnew⟩
    · exact hS.at_ g o hm
  · simp only [List.map_cons, List.nodup_cons]
    exact ⟨hO.notin (Nat.le_refl _), hO.nodup⟩
/-- A store of one byte into such a row. -/
theorem wl_storeZ (hgd : op.guard = none) (x y : Operand) (ho : op.op = .store 5 x y) (hO : Own w0 w L)
    (k : Nat) (g off : Nat) (cs : List Value) (n : Int) (hk : L[k]? = some (zrow g cs)) (hx : a.eval x = .pointer (some ⟨g, off, none⟩)) (hy : a.eval y = .int .u8 n) (hl : off < cs.length)
    (h : ∀ w', Own w0 w' (L.set k (zrow g (cs.set off (.int .u8 n)))) → wpList Tryz.prog ops Q rest (a.put op.dst undef) w') : wpList Tryz.prog ops Q (op :: rest) a w := by
  have hm := List.mem_of_getElem? hk
  have hb := hO.heap hm
  refine wpList_plain hgd fun K hK => ?_
  have hst := run_storeCells_cells (P := Tryz.prog) g off [.int .u8 n] 0 w (fun j hj => by
      simp only [List.length_singleton] at hj
      obtain rfl : j = 0 := by omega
      rw [cell_zrow hO hm]; simp [hl]) (fun j hj => by
        simp only [List.length_singleton] at hj
        exact frozen_zrow hO hm _ (by omega)) (by simp [Value.oneCell'])
  have hrun : (storeVar 5 ⟨g, off, none⟩ (.int .u8 n)).run Tryz.prog w = .ok () (w.setCell ⟨g, off, none⟩ (.int .u8 n)) := by
    obtain ⟨i, hi, hz, hz1, hz2⟩ := info_parts byte_info
    simp only [Nat.add_zero, World.setCells] at hst
    simp [storeVar, sizeOf, typeInfo, hi, hz1, Value.cells, hst]
  unfold Oper.wp
  simp only [execOp, ho, hx, hy, Instr.storeAt, Instr.sureAddr, Sem.run_bind, Sem.run_pure, Result.andThen_ok, hrun]
  refine hK _ _ (h _ ?_)
  refine hO.updAt k hk (grownBy_setCell w _ _) ?_
  simp [World.setCell, Array.getElem?_modify, hb]
end
theorem low_step (l : List Int) (k : Nat) (hk : k < l.length) : ((l.take k).map lowI ++ l.drop k).set k (lowI l[k]) = (l.take (k + 1)).map lowI ++ l.drop (k + 1) := by
  rw [List.set_append_right _ _ (by simp; omega)]
  rw [show k - ((l.take k).map lowI).length = 0 by simp; omega]
  rw [List.drop_eq_getElem_cons hk, List.set_cons_zero, List.take_succ_eq_append_getElem hk, List.map_append, List.append_assoc]
  rfl
theorem low_same (l : List Int) (k : Nat) (hk : k < l.length) (h : lowI l[k] = l[k]) : (l.take k).map lowI ++ l.drop k = (l.take (k + 1)).map lowI ++ l.drop (k + 1) := by
  rw [← low_step l k hk, h]
  apply List.ext_getElem?
  intro j
  rw [List.getElem?_set]
  split
  · rename_i e
    subst e
    have : k < ((l.take k).map lowI ++ l.drop k).length := by simp; omega
    rw [if_pos this, List.getElem?_append_right (by simp; omega)]
    simp [Nat.min_eq_left (Nat.le_of_lt hk), hk]
  · rfl
theorem low_len (l : List Int) (k : Nat) : ((l.take k).map lowI ++ l.drop k).length = l.length := by simp; omega
theorem low_at (l : List Int) (k : Nat) (hk : k < l.length) : ((l.take k).map lowI ++ l.drop k)[k]? = some l[k] := by
  rw [List.getElem?_append_right (by simp; omega)]
  simp [Nat.min_eq_left (Nat.le_of_lt hk), hk]
set_option maxHeartbeats 4000000 in
theorem lower_c {w0 w : World} {R : Blks} (hO : Own w0 w R) (s : ByteArray) (hs : s.size ≤ 1073741824) :
    Calls Tryz.prog 75 #[.string s] w fun e w' => e = .returned (.string (strOfNums (lowL (sb s)))) ∧ Own w0 w' R := by
  have HO := Lib.hid hO
  obtain ⟨l, hl⟩ : ∃ l, sb s = l := ⟨_, rfl⟩
  obtain ⟨n, hn⟩ : ∃ n, s.size = n := ⟨_, rfl⟩
  have hln : l.length = n := by rw [← hl, ← hn]; exact length_sb s
  have hB : Byt l := by rw [← hl]; exact byt_sb s
  have HL := Lib.hid hl; have HN := Lib.hid hn; have HB := Lib.hid hB; have HLN := Lib.hid hln
  rw [hl]
  rw [hn] at hs
  clear hO hl hn hB hln
  go_enter Tryz.func75, Tryz.ntmps75
  go_wp2_with (refine wl_str2b rfl _ rfl HO.out s (by rfl) ?_; intro g cap sp w1 hcap hO1; rw [HL.out] at hO1; rw [HN.out] at hcap ⊢; have HO1 := Lib.hid hO1; clear hO1 HO)
  go_loopw [10] (fun t w' => ∃ k : Nat, k ≤ n ∧ t = .int .i64 k ∧ Hid (Own w0 w' (zrow g (bv ((l.take k).map lowI ++ l.drop k) ++ sp) :: R))) (fun t _ => n - (intOf t).toNat)
  case atStart => exact ⟨0, Nat.zero_le _, rfl, HO1.out⟩
  case round =>
    obtain ⟨k, hk, rfl, HO2⟩ := hrel
    clear HO1
    by_cases hlt : k < n
    · have hkx : k < l.length := by rw [HLN.out]; exact hlt
      have hkl : k < (bv ((l.take k).map lowI ++ l.drop k) ++ sp).length := by rw [List.length_append, length_bv, low_len]; omega
      have hcell : wr.cell? ⟨g, k, none⟩ = some (.int .u8 l[k]) := by
        rw [cell_zrow HO2.out (.head _), List.getElem?_append_left (by rw [length_bv, low_len]; exact hkx)]
        simp only [bv, List.getElem?_map, low_at l k hkx, Option.map_some]
      have hbx := HB.out l[k] (List.getElem_mem hkx)
      have hst := low_step l k hkx
      have hsame := low_same l k hkx
      have HST := Lib.hid hst; have HSAME := Lib.hid hsame; have HKL := Lib.hid hkl
      have hkn : (k : Int) < n := by omega
      have hbv : ∀ x, (bv ((l.take k).map lowI ++ l.drop k) ++ sp).set k (.int .u8 x) = bv (((l.take k).map lowI ++ l.drop k).set k x) ++ sp := by
        intro x
        rw [List.set_append_left _ _ (by rw [length_bv, low_len]; exact hkx)]
        simp [bv]
      have HBV := Lib.hid hbv
      clear hst hsame hkl hbv
      generalize hx : l[k] = x at *
      have hx0 := hbx.1; have hx1 := hbx.2
      clear hbx hx hkx
      by_cases h65 : 65 ≤ x
      · by_cases h90 : x ≤ 90
        · have hlow : lowI x = x - 65 + 97 := by unfold lowI; rw [if_pos ⟨h65, h90⟩]; omega
          have HLOW := Lib.hid hlow
          clear hlow
          go_wp2_with (refine wl_storeZ rfl _ _ rfl HO2.out 0 g k _ (x - 65 + 97) rfl (by rfl) (by rfl) HKL.out ?_; intro w3 hO3; have HO3 := Lib.hid hO3; clear hO3 HO2)
          go_roundw
          case rel =>
            refine ⟨k + 1, by omega, by go_num, ?_⟩
            have := HO3.out
            rw [List.set_cons_zero, HBV.out, ← HLOW.out, HST.out] at this
            exact this
          case measure => simp [intOf]; omega
        · have hlow : lowI x = x := by unfold lowI; rw [if_neg (by omega)]
          have hO3 := HO2.out
          rw [HSAME.out hlow] at hO3
          have HO3 := Lib.hid hO3
          clear hlow hO3 HO2
          go_wp2
          go_roundw
          case rel => exact ⟨k + 1, by omega, by go_num, HO3.out⟩
          case measure => simp [intOf]; omega
      · have hlow : lowI x = x := by unfold lowI; rw [if_neg (by omega)]
        have hO3 := HO2.out
        rw [HSAME.out hlow] at hO3
        have HO3 := Lib.hid hO3
        clear hlow hO3 HO2
        go_wp2
        go_roundw
        case rel => exact ⟨k + 1, by omega, by go_num, HO3.out⟩
        case measure => simp [intOf]; omega
    · obtain rfl : k = n := by omega
      have hO3 := HO2.out
      have e : (l.take k).map lowI ++ l.drop k = lowL l := by
        rw [List.take_of_length_le (by rw [HLN.out]; exact Nat.le_refl _), List.drop_eq_nil_of_le (by rw [HLN.out]; exact Nat.le_refl _), List.append_nil]; rfl
      rw [e] at hO3
      have hcv := convert_str (bs_zrow hO3 (.head _) k (by simp [lowL, HLN.out]) hcap)
      have HO3 := Lib.hid hO3.tail
      clear hO3 e HO2
      go_wp2
      go_ret
      exact ⟨rfl, HO3.out⟩
set_option maxHeartbeats 4000000 in
theorem rlower_c {w0 w : World} {R : Blks} (hO : Own w0 w R) (s : ByteArray) (hs : s.size ≤ 1073741824) :
    Calls Tryz.prog 43 #[.string s] w fun e w' => e = .returned (.string (strOfNums (lowL (sb s)))) ∧ Own w0 w' R := by
  have HO := Lib.hid hO
  obtain ⟨l, hl⟩ : ∃ l, sb s = l := ⟨_, rfl⟩
  obtain ⟨n, hn⟩ : ∃ n, s.size = n := ⟨_, rfl⟩
  have hln : l.length = n := by rw [← hl, ← hn]; exact length_sb s
  have hB : Byt l := by rw [← hl]; exact byt_sb s
  have HL := Lib.hid hl; have HN := Lib.hid hn; have HB := Lib.hid hB; have HLN := Lib.hid hln
  rw [hl]
  rw [hn] at hs
  clear hO hl hn hB hln
  go_enter Tryz.func43, Tryz.ntmps43
  go_wp2_with (refine wl_str2b rfl _ rfl HO.out s (by rfl) ?_; intro g cap sp w1 hcap hO1; rw [HL.out] at hO1; rw [HN.out] at hcap ⊢; have HO1 := Lib.hid hO1; clear hO1 HO)
  go_loopw [10] (fun t w' => ∃ k : Nat, k ≤ n ∧ t = .int .i64 k ∧ Hid (Own w0 w' (zrow g (bv ((l.take k).map lowI ++ l.drop k) ++ sp) :: R))) (fun t _ => n - (intOf t).toNat)
  case atStart => exact ⟨0, Nat.zero_le _, rfl, HO1.out⟩
  case round =>
    obtain ⟨k, hk, rfl, HO2⟩ := hrel
    clear HO1
    by_cases hlt : k < n
    · have hkx : k < l.length := by rw [HLN.out]; exact hlt
      have hkl : k < (bv ((l.take k).map lowI ++ l.drop k) ++ sp).length := by rw [List.length_append, length_bv, low_len]; omega
      have hcell : wr.cell? ⟨g, k, none⟩ = some (.int .u8 l[k]) := by
        rw [cell_zrow HO2.out (.head _), List.getElem?_append_left (by rw [length_bv, low_len]; exact hkx)]
        simp only [bv, List.getElem?_map, low_at l k hkx, Option.map_some]
      have hbx := HB.out l[k] (List.getElem_mem hkx)
      have hst := low_step l k hkx
      have hsame := low_same l k hkx
      have HST := Lib.hid hst; have HSAME := Lib.hid hsame; have HKL := Lib.hid hkl
      have hkn : (k : Int) < n := by omega
      have hbv : ∀ x, (bv ((l.take k).map lowI ++ l.drop k) ++ sp).set k (.int .u8 x) = bv (((l.take k).map lowI ++ l.drop k).set k x) ++ sp := by
        intro x
        rw [List.set_append_left _ _ (by rw [length_bv, low_len]; exact hkx)]
        simp [bv]
      have HBV := Lib.hid hbv
      clear hst hsame hkl hbv
      generalize hx : l[k] = x at *
      have hx0 := hbx.1; have hx1 := hbx.2
      clear hbx hx hkx
      by_cases h65 : 65 ≤ x
      · by_cases h90 : x ≤ 90
        · have hlow : lowI x = x + 32 := by unfold lowI; rw [if_pos ⟨h65, h90⟩]
          have HLOW := Lib.hid hlow
          clear hlow
          go_wp2_with (refine wl_storeZ rfl _ _ rfl HO2.out 0 g k _ (x + 32) rfl (by rfl) (by rfl) HKL.out ?_; intro w3 hO3; have HO3 := Lib.hid hO3; clear hO3 HO2)
          go_roundw
          case rel =>
            refine ⟨k + 1, by omega, by go_num, ?_⟩
            have := HO3.out
            rw [List.set_cons_zero, HBV.out, ← HLOW.out, HST.out] at this
            exact this
          case measure => simp [intOf]; omega
        · have hlow : lowI x = x := by unfold lowI; rw [if_neg (by omega)]
          have hO3 := HO2.out
          rw [HSAME.out hlow] at hO3
          have HO3 := Lib.hid hO3
          clear hlow hO3 HO2
          go_wp2
          go_roundw
          case rel => exact ⟨k + 1, by omega, by go_num, HO3.out⟩
          case measure => simp [intOf]; omega
      · have hlow : lowI x = x := by unfold lowI; rw [if_neg (by omega)]
        have hO3 := HO2.out
        rw [HSAME.out hlow] at hO3
        have HO3 := Lib.hid hO3
        clear hlow hO3 HO2
        go_wp2
        go_roundw
        case rel => exact ⟨k + 1, by omega, by go_num, HO3.out⟩
        case measure => simp [intOf]; omega
    · obtain rfl : k = n := by omega
      have hO3 := HO2.out
      have e : (l.take k).map lowI ++ l.drop k = lowL l := by
        rw [List.take_of_length_le (by rw [HLN.out]; exact Nat.le_refl _), List.drop_eq_nil_of_le (by rw [HLN.out]; exact Nat.le_refl _), List.append_nil]; rfl
      rw [e] at hO3
      have hcv := convert_str (bs_zrow hO3 (.head _) k (by simp [lowL, HLN.out]) hcap)
      have HO3 := Lib.hid hO3.tail
      clear hO3 e HO2
      go_wp2
      go_ret
      exact ⟨rfl, HO3.out⟩
end Go.Proofs.YtlcolabblpikjaaGreatDoor
/-
  The document's Encode of percent signs.
-/
namespace Go.Proofs.YtlcolabblpikjaaGreatDoor
set_option linter.unusedVariables false
set_option linter.unusedSimpArgs false
set_option maxRecDepth 20000
open Go.RowKit

theorem hexs_at (w : World) (k : Int) (h0 : 0 ≤ k) (h1 : k < 16) : (Instr.slice 9 (.string ⟨#[48, 49, 50, 51, 52, 53, 54, 55, 56, 57, 65, 66, 67, 68, 69, 70]⟩) (some (.int .u8 k)) (some (.int .u8 (k + 1))) none).run Tryz.prog w = .ok (.string (strOfNums [hexD k])) w := by
  rcases (by omega : k = 0 ∨ k = 1 ∨ k = 2 ∨ k = 3 ∨ k = 4 ∨ k = 5 ∨ k = 6 ∨ k = 7 ∨ k = 8 ∨ k = 9 ∨ k = 10 ∨ k = 11 ∨ k = 12 ∨ k = 13 ∨ k = 14 ∨ k = 15) with rfl | rfl | rfl | rfl | rfl | rfl | rfl | rfl | rfl | rfl | rfl | rfl | rfl | rfl | rfl | rfl <;> kernel_rfl
theorem hexD_byt {k : Int} (h0 : 0 ≤ k) (h1 : k < 16) : 0 ≤ hexD k ∧ hexD k ≤ 255 := by have := hexD_plain h0 h1; omega
theorem sb_pct3 {x : Int} (h : 0 ≤ x ∧ x ≤ 255) : sb (⟨#[37]⟩ ++ strOfNums [hexD (x / 16)] ++ strOfNums [hexD (x % 16)]) = pct3 x := by
  have h1 := hexD_byt (k := x / 16) (by omega) (by omega)
  have h2 := hexD_byt (k := x % 16) (by omega) (by omega)
  rw [sb_append, sb_append, sb_str (by intro y hy; rw [List.mem_singleton] at hy; subst hy; exact h1), sb_str (by intro y hy; rw [List.mem_singleton] at hy; subst hy; exact h2)]
  rfl
theorem encode_nat (c : Nat) : sb (Utf8.encode (c : Int)) = encI c := sb_encode c
/-- The test that a rune is no plain one, as the document's program has it. -/
def BadState (w0 : World) (L : Blks) (c : Nat) (u : Value) (w : World) : Prop := u = .bool (!plainR c) ∧ Own w0 w L
set_option maxHeartbeats 8000000 in
theorem rpct_c {w0 w : World} {R : Blks} (hO : Own w0 w R) (s : ByteArray) (hs : s.size ≤ 80000000) :
    Calls Tryz.prog 48 #[.string s] w fun e w' => e = .returned (.string (strOfNums (pctE (sb s)))) ∧ Own w0 w' R := by
  have HO := Lib.hid hO
  obtain ⟨l, hl⟩ : ∃ l, sb s = l := ⟨_, rfl⟩
  have hn : l.length = s.size := by rw [← hl]; exact length_sb s
  have HL := Lib.hid hl; have HN := Lib.hid hn
  rw [hl]
  clear hO hl hn
  go_enter Tryz.func48, Tryz.ntmps48
  go_wp2_with (refine wl_rangeS rfl _ _ rfl (by rfl) HO.out s (by rfl) ?_; intro r w1 hO1; have HO1 := Lib.hid hO1; clear hO1 HO)
  simp only [Act.put, List.setIfInBounds_toArray, List.set_cons_zero, List.set_cons_succ]
  go_loopw [3] (fun u w' => ∃ pos o, pos ≤ s.size ∧ u = .string o ∧ Hid (pctE l = sb o ++ pctE (l.drop pos)) ∧ Hid (Own w0 w' ((r, .stringIter s pos) :: R))) (fun _ w' => leftOf w' r)
  case atStart => exact ⟨0, ⟨#[]⟩, Nat.zero_le _, rfl, Lib.hid (by rw [sb_empty]; simp), HO1.out⟩
  case round =>
    obtain ⟨pos, o, hpos, rfl, HE, HO2⟩ := hrel
    clear HO1
    by_cases hlt : pos < s.size
    · have hlt' : pos < l.length := by rw [HN.out]; exact hlt
      have hst := pctE_drop hlt'
      have hfit := dec_fits hlt'
      have hval := decI_valid (l.drop pos)
      have hge := decI_pos (l.drop pos)
      have hlen : o.size ≤ 960000000 := by
        have h1 := pctE_len l
        rw [HE.out, List.length_append, HN.out, length_sb] at h1
        omega
      have hcs : pctR (decI (l.drop pos)).1 = if plainR (decI (l.drop pos)).1 then [((decI (l.drop pos)).1 : Int)] else (encI (decI (l.drop pos)).1).flatMap pct3 := rfl
      have hit := Lib.hid (HO2.out.heap (.head _))
      obtain ⟨c, hc⟩ : ∃ c, (decI (l.drop pos)).1 = c := ⟨_, rfl⟩
      obtain ⟨k, hk⟩ : ∃ k, (decI (l.drop pos)).2 = k := ⟨_, rfl⟩
      rw [hc] at hst hval hcs
      rw [hk] at hst hfit hge
      have HC := Lib.hid hc; have HK := Lib.hid hk; have HST := Lib.hid hst; have HVAL := Lib.hid hval; have HCS := Lib.hid hcs
      have HLEN := Lib.hid hlen
      clear hc hk hst hval hcs hlen
      go_upto_region 5 with (refine wl_nextS rfl _ rfl HO2.out 0 r s pos rfl hlt (by rfl) ?_; intro w3 hO3; rw [HL.out, HK.out] at hO3; rw [HL.out, HC.out]; have HO3 := Lib.hid hO3; clear hO3 HO2)
      go_cut [6] (fun u wx => BadState w0 ((r, .stringIter s (pos + k)) :: R) c u wx)
      case first =>
        rcases (by omega : c = 34 ∨ c = 96 ∨ c = 35 ∨ c = 60 ∨ c = 62 ∨ c = 63 ∨ c = 123 ∨ c = 125 ∨ (c ≠ 34 ∧ c ≠ 96 ∧ c ≠ 35 ∧ c ≠ 60 ∧ c ≠ 62 ∧ c ≠ 63 ∧ c ≠ 123 ∧ c ≠ 125)) with hh | hh | hh | hh | hh | hh | hh | hh | h
        iterate 8
          · have HH := Lib.hid hh
            clear HC HST HVAL HCS
            subst hh
            go_wp2
            go_meet
            exact ⟨rfl, HO3.out⟩
        · obtain ⟨h1, h2, h3, h4, h5, h6, h7, h8⟩ := h
          have t1 : ((c : Int) == 34) = false := by simp; omega
          have t2 : ((c : Int) == 96) = false := by simp; omega
          have t3 : ((c : Int) == 35) = false := by simp; omega
          have t4 : ((c : Int) == 60) = false := by simp; omega
          have t5 : ((c : Int) == 62) = false := by simp; omega
          have t6 : ((c : Int) == 63) = false := by simp; omega
          have t7 : ((c : Int) == 123) = false := by simp; omega
          have t8 : ((c : Int) == 125) = false := by simp; omega
          by_cases h9 : (c : Int) < 33
          · have hp : plainR c = false := by rw [← Bool.not_eq_true, plainR_iff]; omega
            have HP := Lib.hid hp
            clear hp h1 h2 h3 h4 h5 h6 h7 h8
            go_wp2
            go_meet
            exact ⟨by rw [HP.out]; rfl, HO3.out⟩
          · by_cases h10 : (126 : Int) < c
            · have hp : plainR c = false := by rw [← Bool.not_eq_true, plainR_iff]; omega
              have HP := Lib.hid hp
              clear hp h1 h2 h3 h4 h5 h6 h7 h8
              go_wp2
              go_meet
              exact ⟨by rw [HP.out]; rfl, HO3.out⟩
            · have hp : plainR c = true := by rw [plainR_iff]; omega
              have HP := Lib.hid hp
              clear hp h1 h2 h3 h4 h5 h6 h7 h8
              go_wp2
              go_meet
              exact ⟨by rw [HP.out]; rfl, HO3.out⟩
      case rest =>
        obtain ⟨rfl, hO4⟩ := hcut
        have HO4 := Lib.hid hO4
        clear hO4 HO3
        have hen := encode_nat c
        have hel : (Utf8.encode (c : Int)).size ≤ 4 := by rw [← length_sb, hen]; exact encI_len c
        have hcv : (convert 21 9 (.int .i32 (c : Int))).run Tryz.prog wc = .ok (.string (Utf8.encode (c : Int))) wc := run_convert_int_string wc _ _ _ _ (by kernel_rfl) Tryz.underlying9
        generalize hed : Utf8.encode (c : Int) = ec at *
        have HEN := Lib.hid hen; have HED := Lib.hid hed
        have ho := HLEN.out
        clear hen hed
        cases hp : plainR c with
        | true =>
          have hce := HCS.out
          have hcb := (plainR_iff c).1 hp
          rw [if_pos hp, ← encI_one (by omega)] at hce
          have HCE := Lib.hid hce
          clear hce hcb hp HCS
          have hadd : ¬ (9223372036854775807 < o.size + ec.size) := by omega
          clear ho hel
          go_wp2
          go_roundw
          case rel =>
            refine ⟨pos + k, o ++ ec, by have := HN.out; omega, rfl, Lib.hid ?_, HO4.out⟩
            rw [sb_append, HEN.out, HE.out, HST.out, HCE.out, List.append_assoc]
          case measure => rw [leftOf_eq (HO4.out.heap (.head _)), leftOf_eq hit.out]; omega
        | false =>
          have hce := HCS.out
          rw [if_neg (by rw [hp]; simp)] at hce
          have HCE := Lib.hid hce
          have hB := encI_byt c
          clear hce hp HCS
          go_wp2_with (refine wl_str2b rfl _ rfl HO4.out ec (by rfl) ?_; intro g cap sp w5 hcap hO5; rw [HEN.out] at hO5; have HO5 := Lib.hid hO5; clear hO5 HO4)
          obtain ⟨n, hn⟩ : ∃ n, ec.size = n := ⟨_, rfl⟩
          have hesn : (encI c).length = n := by rw [← HEN.out, length_sb, hn]
          generalize hes : encI c = es at *
          have HB := Lib.hid hB; have HESN := Lib.hid hesn
          rw [hn] at hel hcap ⊢
          clear hB hesn hes hcv hn HED HEN
          go_loopw [3, 62] (fun u t w' => ∃ (o2 : ByteArray) (j : Nat), j ≤ n ∧ u = .string o2 ∧ t = .int .i64 j ∧ Hid (sb o2 = sb o ++ (es.take j).flatMap pct3) ∧ Hid (Own w0 w' (zrow g (bv es ++ sp) :: (r, .stringIter s (pos + k)) :: R))) (fun _ t _ => n - (intOf t).toNat)
          case atStart => exact ⟨o, 0, Nat.zero_le _, rfl, rfl, Lib.hid (by simp), HO5.out⟩
          case round =>
            obtain ⟨o2, j, hj, rfl, rfl, HS2, HO6⟩ := hrel
            clear HO5
            have ho2 : o2.size ≤ 960000012 := by
              rw [← length_sb, HS2.out, List.length_append, length_sb, length_pct3s, List.length_take]
              omega
            by_cases hlj : j < n
            · have hjx : j < es.length := by rw [HESN.out]; exact hlj
              have hcell : wr.cell? ⟨g, j, none⟩ = some (.int .u8 es[j]) := by
                rw [cell_zrow HO6.out (.head _), List.getElem?_append_left (by rw [length_bv]; exact hjx)]
                simp [bv, hjx]
              have hbx := HB.out es[j] (List.getElem_mem hjx)
              have hst2 := pct3s_snoc es j hjx
              have HST2 := Lib.hid hst2
              clear hst2
              generalize es[j] = x at *
              have q1 : ∀ w', _ := fun w' => hexs_at w' (x / 16) (by omega) (by omega)
              have q2 : ∀ w', _ := fun w' => hexs_at w' (x % 16) (by omega) (by omega)
              have hsp := sb_pct3 hbx
              have s1 : (strOfNums [hexD (x / 16)]).size = 1 := strOfNums_size _
              have s2 : (strOfNums [hexD (x % 16)]).size = 1 := strOfNums_size _
              generalize strOfNums [hexD (x / 16)] = t1 at *
              generalize strOfNums [hexD (x % 16)] = t2 at *
              have HSP := Lib.hid hsp; have Q1 := Lib.hid q1; have Q2 := Lib.hid q2
              have hx0 := hbx.1; have hx1 := hbx.2
              have hjn : (j : Int) < n := by omega
              clear hsp q1 q2 hbx hjx
              go_wp2_with fail
              refine wp_region_lin (fun w' => w' = wr.drew) 17 [(0, true), (1, true), (2, true), (3, true), (4, true), (5, true), (6, true), (7, true), (8, true), (9, true), (10, true), (11, true), (12, true), (13, true), (14, true), (15, true), (16, true)] (by kernel_rfl) (by kernel_rfl) (fun _ _ d _ _ h => by cases d <;> exact h) rfl ?_
              simp only [List.map_cons, List.map_nil, pick_zero, pick_succ, List.drop_succ_cons, List.drop_zero]
              iterate 17 (refine lin_q ?_ rfl ?_ ?_; rotate_left 1; (focus (rintro w' rfl; have q1 := Q1.out wr.drew; have q2 := Q2.out wr.drew; have q6 : ¬ (9223372036854775807 < o2.size + 3) := (by omega); have q3 := u8and15 x hx0 hx1; have q4 : IntKind.u8.wrap (x / 16 + 1) = x / 16 + 1 := wraps_u8 _ (by omega) (by omega); have q5 : IntKind.u8.wrap (x % 16 + 1) = x % 16 + 1 := wraps_u8 _ (by omega) (by omega); go_simp; first | done | with_reducible rfl | (trace_state; fail))); simp only [Act.put, List.setIfInBounds_toArray, List.set_cons_zero, List.set_cons_succ])
              refine lin_nil ?_
              go_wp2
              go_roundw
              case rel =>
                refine ⟨_, j + 1, by omega, rfl, by go_num, Lib.hid ?_, HO6.out.drew⟩
                rw [sb_append, HS2.out, HST2.out, HSP.out, List.append_assoc]
              case measure => simp [intOf]; omega
            · obtain rfl : j = n := by omega
              go_wp2
              go_roundw
              case rel =>
                refine ⟨pos + k, o2, by have := HN.out; omega, rfl, Lib.hid ?_, HO6.out.tail⟩
                rw [HS2.out, List.take_of_length_le (by rw [HESN.out]; exact Nat.le_refl _), HE.out, HST.out, HCE.out, List.append_assoc]
              case measure => rw [leftOf_eq (HO6.out.heap (.tail _ (.head _))), leftOf_eq hit.out]; omega
    · have hpe : pos = s.size := by omega
      subst hpe
      have hd : l.drop s.size = [] := List.drop_eq_nil_of_le (by rw [HN.out]; exact Nat.le_refl _)
      have he : o = strOfNums (pctE l) := by
        rw [HE.out, hd]
        show o = strOfNums (sb o ++ [])
        rw [List.append_nil, str_sb]
      have HEQ := Lib.hid he
      clear HE hd he hlt
      go_wp2_with (first | (refine wl_nextS_end rfl _ rfl HO2.out 0 r s s.size rfl (by omega) (by rfl) ?_))
      go_ret
      exact ⟨by rw [← HEQ.out]; rfl, HO2.out.tail⟩
end Go.Proofs.YtlcolabblpikjaaGreatDoor
