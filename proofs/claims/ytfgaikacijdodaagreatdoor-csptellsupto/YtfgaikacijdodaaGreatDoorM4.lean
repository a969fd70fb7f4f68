/-
  Texts that the laws stand on: Pct2, Pct3, Pct5, Pct8, Url4, Pct7, Url5, Url6, Url9, Nb.
-/
import Derived.Test.YtfgaikacijdodaaGreatDoorM3
import Derived.Lib.RuneBytes
import Derived.OpenShut
import Derived.Lib.ConvBytes
import Derived.Deep.DeepCutAuto
import Derived.Deep.CutBlock
import Derived.Test.YtfgaikacijdodaaGreatDoorM2
import Derived.Lib.SplitLaws
import Derived.Lib.ItoaNum

/-
  Package pct: a rune's bytes behind an empty slice; addCoded.
-/
namespace Go.Proofs.YtfgaikacijdodaaGreatDoor
set_option linter.unusedVariables false
set_option linter.unusedSimpArgs false
set_option maxRecDepth 20000
open Go.RowKit

set_option maxHeartbeats 2000000 in
theorem rune2_c {w0 w : World} {R : Blks} (hO : Own w0 w R) (r : Int) (h0 : 128 ≤ r) (h1 : r ≤ 2047) : Calls Tryz.prog 86 #[.slice none 0 0, .int .i32 r] w (GotB w0 R [192 + r / 64, 128 + r % 64]) := by
  have HO := Lib.hid hO
  clear hO
  go_enter Tryz.func86, Tryz.ntmps86
  go_wp2_with (refine wl_appendB rfl _ _ rfl _ [] (by rfl) isBytes_nil (HO.out.put2 (L := []) _) (.slice (some ⟨w.heap.size, 0, none⟩) 2 2) [192 + r / 64, 128 + r % 64] (by rfl) (bs_new HO.out _ _ rfl (by omega)) (by simp) ?_; intro v1 w1 L1 hv1 hO1; have HV1 := Lib.hid hv1; have HO1 := Lib.hid hO1.strike; clear hv1 hO1 HO)
  go_ret
  exact ⟨_, L1, rfl, HV1.out, HO1.out⟩
set_option maxHeartbeats 2000000 in
theorem rune3a_c {w0 w : World} {R : Blks} (hO : Own w0 w R) (r : Int) (h0 : 2048 ≤ r) (h1 : r < 55296) : Calls Tryz.prog 86 #[.slice none 0 0, .int .i32 r] w (GotB w0 R [224 + r / 4096, 128 + r / 64 % 64, 128 + r % 64]) := by
  have HO := Lib.hid hO
  clear hO
  go_enter Tryz.func86, Tryz.ntmps86
  go_wp2_with (refine wl_appendB rfl _ _ rfl _ [] (by rfl) isBytes_nil (HO.out.put2 (L := []) _) (.slice (some ⟨w.heap.size, 0, none⟩) 3 3) [224 + r / 4096, 128 + r / 64 % 64, 128 + r % 64] (by rfl) (bs_new HO.out _ _ rfl (by omega)) (by simp) ?_; intro v1 w1 L1 hv1 hO1; have HV1 := Lib.hid hv1; have HO1 := Lib.hid hO1.strike; clear hv1 hO1 HO)
  go_ret
  exact ⟨_, L1, rfl, HV1.out, HO1.out⟩
set_option maxHeartbeats 2000000 in
theorem rune3b_c {w0 w : World} {R : Blks} (hO : Own w0 w R) (r : Int) (h0 : 57343 < r) (h1 : r ≤ 65535) : Calls Tryz.prog 86 #[.slice none 0 0, .int .i32 r] w (GotB w0 R [224 + r / 4096, 128 + r / 64 % 64, 128 + r % 64]) := by
  have HO := Lib.hid hO
  clear hO
  go_enter Tryz.func86, Tryz.ntmps86
  go_wp2_with (refine wl_appendB rfl _ _ rfl _ [] (by rfl) isBytes_nil (HO.out.put2 (L := []) _) (.slice (some ⟨w.heap.size, 0, none⟩) 3 3) [224 + r / 4096, 128 + r / 64 % 64, 128 + r % 64] (by rfl) (bs_new HO.out _ _ rfl (by omega)) (by simp) ?_; intro v1 w1 L1 hv1 hO1; have HV1 := Lib.hid hv1; have HO1 := Lib.hid hO1.strike; clear hv1 hO1 HO)
  go_ret
  exact ⟨_, L1, rfl, HV1.out, HO1.out⟩
set_option maxHeartbeats 2000000 in
theorem rune4_c {w0 w : World} {R : Blks} (hO : Own w0 w R) (r : Int) (h0 : 65535 < r) (h1 : r ≤ 1114111) : Calls Tryz.prog 86 #[.slice none 0 0, .int .i32 r] w (GotB w0 R [240 + r / 262144, 128 + r / 4096 % 64, 128 + r / 64 % 64, 128 + r % 64]) := by
  have HO := Lib.hid hO
  clear hO
  go_enter Tryz.func86, Tryz.ntmps86
  go_wp2_with (refine wl_appendB rfl _ _ rfl _ [] (by rfl) isBytes_nil (HO.out.put2 (L := []) _) (.slice (some ⟨w.heap.size, 0, none⟩) 4 4) [240 + r / 262144, 128 + r / 4096 % 64, 128 + r / 64 % 64, 128 + r % 64] (by rfl) (bs_new HO.out _ _ rfl (by omega)) (by simp) ?_; intro v1 w1 L1 hv1 hO1; have HV1 := Lib.hid hv1; have HO1 := Lib.hid hO1.strike; clear hv1 hO1 HO)
  go_ret
  exact ⟨_, L1, rfl, HV1.out, HO1.out⟩
theorem runeN_c {w0 w : World} {R : Blks} (hO : Own w0 w R) (c : Nat) (hc : vrune c) (h : 127 < c) : Calls Tryz.prog 86 #[.slice none 0 0, .int .i32 (c : Int)] w (GotB w0 R (encI c)) := by
  unfold vrune at hc
  unfold encI
  rcases (by omega : (128 ≤ c ∧ c ≤ 2047) ∨ (2048 ≤ c ∧ c < 55296) ∨ (57343 < c ∧ c ≤ 65535) ∨ (65536 ≤ c ∧ c ≤ 1114111)) with h1 | h1 | h1 | h1
  · rw [Lib.encodeRuneZ_two (by omega) (by omega)]; exact rune2_c hO c (by omega) (by omega)
  · rw [Lib.encodeRuneZ_three (by omega)]; exact rune3a_c hO c (by omega) (by omega)
  · rw [Lib.encodeRuneZ_three (by omega)]; exact rune3b_c hO c (by omega) (by omega)
  · rw [Lib.encodeRuneZ_four (by omega) (by omega)]; exact rune4_c hO c (by omega) (by omega)
set_option maxHeartbeats 2000000 in
theorem rune_c {w0 w : World} {R : Blks} (hO : Own w0 w R) (c : Nat) (hc : vrune c) : Calls Tryz.prog 73 #[.slice none 0 0, .int .i32 (c : Int)] w (GotB w0 R (encI c)) := by
  have hcv : IntKind.u32.wrap (c : Int) = c := by unfold vrune at hc; rw [IntKind.wrap_u32']; omega
  by_cases h : 127 < c
  · have H := Lib.hid (runeN_c hO c hc h)
    have h' : ¬ ((c : Int) ≤ 127) := by omega
    clear hO hc h
    go_enter Tryz.func73, Tryz.ntmps73
    go_wp2_with fail
    with_reducible refine H.out.mono ?_
    rintro e w1 ⟨v1, L1, rfl, hv1, hO1⟩
    have HV1 := Lib.hid hv1; have HO1 := Lib.hid hO1; clear hv1 hO1
    go_wp2
    go_ret
    exact ⟨_, L1, rfl, HV1.out, HO1.out⟩
  · have HO := Lib.hid hO
    have h' : (c : Int) ≤ 127 := by omega
    have hc8 : IntKind.u8.wrap (c : Int) = c := by rw [IntKind.wrap_u8']; omega
    rw [encI_one (by omega)]
    clear hO hc h
    go_enter Tryz.func73, Tryz.ntmps73
    go_wp2_with (refine wl_appendB rfl _ _ rfl _ [] (by rfl) isBytes_nil (HO.out.put2 (L := []) _) (.slice (some ⟨w.heap.size, 0, none⟩) 1 1) [(c : Int)] (by rfl) (bs_new HO.out _ _ rfl (by omega)) (by simp) ?_; intro v1 w1 L1 hv1 hO1; have HV1 := Lib.hid hv1; have HO1 := Lib.hid hO1.strike; clear hv1 hO1 HO)
    go_ret
    exact ⟨_, L1, rfl, HV1.out, HO1.out⟩
theorem u8and15 (x : Int) (h0 : 0 ≤ x) (h1 : x ≤ 255) : bits .and .u8 x 15 = x % 16 := by
  rw [u8_and x 15 h0 (by omega) (by omega) (by omega)]
  have : x.toNat &&& 15 = x.toNat % 16 := Nat.and_two_pow_sub_one_eq_mod x.toNat 4
  show ((x.toNat &&& 15 : Nat) : Int) = _
  rw [this]; omega
theorem hex_at (w : World) (k : Int) (h0 : 0 ≤ k) (h1 : k < 16) : (Instr.index 9 (.string ⟨#[48, 49, 50, 51, 52, 53, 54, 55, 56, 57, 65, 66, 67, 68, 69, 70]⟩) (.int .u8 k)).run Tryz.prog w = .ok (.int .u8 (hexD k)) w := by
  rcases (by omega : k = 0 ∨ k = 1 ∨ k = 2 ∨ k = 3 ∨ k = 4 ∨ k = 5 ∨ k = 6 ∨ k = 7 ∨ k = 8 ∨ k = 9 ∨ k = 10 ∨ k = 11 ∨ k = 12 ∨ k = 13 ∨ k = 14 ∨ k = 15) with rfl | rfl | rfl | rfl | rfl | rfl | rfl | rfl | rfl | rfl | rfl | rfl | rfl | rfl | rfl | rfl <;> kernel_rfl
theorem length_pct3s : ∀ l : List Int, (l.flatMap pct3).length = 3 * l.length
  | [] => rfl
  | x :: l => by rw [List.flatMap_cons, List.length_append, length_pct3s l]; simp [pct3]; omega
theorem pct3s_snoc (l : List Int) (k : Nat) (h : k < l.length) : (l.take (k + 1)).flatMap pct3 = (l.take k).flatMap pct3 ++ pct3 l[k] := by
  rw [List.take_succ_eq_append_getElem h, List.flatMap_append]; simp
set_option maxHeartbeats 2000000 in
theorem addCoded_c {w0 w : World} {L R : Blks} {v : Value} {xs : List Int} (hv : IsBytes v xs L) (hO : Own w0 w (L ++ R)) (hx : xs.length ≤ 1000000000) (c : Nat) (hc : vrune c) :
    Calls Tryz.prog 63 #[v, .int .i32 (c : Int)] w (GotB w0 R (xs ++ (encI c).flatMap pct3)) := by
  have H := Lib.hid (rune_c hO c hc)
  have HV := Lib.hid hv
  have hB := encI_byt c
  have h4 := encI_len c
  have hpos : 0 < (encI c).length := List.length_pos_iff.2 (encI_ne c)
  generalize encI c = es at *
  obtain ⟨n, hn⟩ : ∃ n, es.length = n := ⟨_, rfl⟩
  have HN := Lib.hid hn
  have HBY := Lib.hid hB
  rw [hn] at h4 hpos
  clear hv hO hc hB hn
  go_enter Tryz.func63, Tryz.ntmps63
  go_wp2_with fail
  with_reducible refine H.out.mono ?_
  rintro e w1 ⟨v8, L8, rfl, hv8, hO8⟩
  obtain ⟨g, cap, sp, rfl, rfl, hcap⟩ := hv8.blkn n HN.out hpos
  have HO8 := Lib.hid hO8
  clear hv8 hO8 H
  go_wp2
  go_loopw [0, 10] (fun b t w' => ∃ k : Nat, k ≤ n ∧ t = .int .i64 k ∧ Hid (∃ L', IsBytes b (xs ++ (es.take k).flatMap pct3) L' ∧ Own w0 w' (L' ++ ((g, .cells (List.toArray (bv es ++ sp)) 5) :: R)))) (fun _ t _ => n - (intOf t).toNat)
  case atStart =>
    refine ⟨0, Nat.zero_le _, rfl, L, by simpa using HV.out, ?_⟩
    have h1 : Own w0 w1 ([(g, .cells (List.toArray (bv es ++ sp)) 5)] ++ (L ++ R)) := HO8.out
    exact h1.rot
  case round =>
    obtain ⟨k, hk, rfl, HB⟩ := hrel
    clear HV HO8
    by_cases hlt : k < n
    · obtain ⟨L2, hv2, hO2⟩ := HB.out
      have hkx : k < es.length := by rw [HN.out]; exact hlt
      have hcell : wr.cell? ⟨g, k, none⟩ = some (.int .u8 es[k]) := by
        rw [hO2.cell (List.mem_append_right _ (.head _)), bv_get_sp es sp k hkx]
      have hbx := HBY.out es[k] (List.getElem_mem hkx)
      have hl2 : (xs ++ (es.take k).flatMap pct3).length ≤ 1000000012 := by rw [List.length_append, length_pct3s, List.length_take]; omega
      have hst := pct3s_snoc es k hkx
      have HV2 := Lib.hid hv2; have HO2 := Lib.hid hO2; have HL2 := Lib.hid hl2; have HST := Lib.hid hst
      clear hv2 hO2 HB hl2 hst
      generalize es[k] = x at *
      obtain ⟨y1, hy1⟩ : ∃ y, hexD (x / 16) = y := ⟨_, rfl⟩
      obtain ⟨y2, hy2⟩ : ∃ y, hexD (x % 16) = y := ⟨_, rfl⟩
      have q1 : ∀ w', _ := fun w' => hex_at w' (x / 16) (by omega) (by omega)
      have q2 : ∀ w', _ := fun w' => hex_at w' (x % 16) (by omega) (by omega)
      rw [hy1] at q1; rw [hy2] at q2
      have hp : pct3 x = [37, y1, y2] := by rw [← hy1, ← hy2]; rfl
      have HP := Lib.hid hp; have Q1 := Lib.hid q1; have Q2 := Lib.hid q2
      have hx0 := hbx.1; have hx1 := hbx.2
      have hkn : (k : Int) < n := by omega
      clear hp q1 q2 hy1 hy2 hbx hkx
      go_wp2_with fail
      refine wp_region_lin (fun w' => True) 10 [(0, true), (1, true), (2, true), (3, true), (4, true), (5, true), (6, true), (7, false), (8, false), (9, true)] (by kernel_rfl) (by kernel_rfl) (fun _ _ d _ _ h => by cases d <;> exact h) trivial ?_
      simp only [List.map_cons, List.map_nil, pick_zero, pick_succ, List.drop_succ_cons, List.drop_zero]
      iterate 7 (refine lin_q ?_ rfl ?_ ?_; rotate_left 1; (focus (rintro w' -; have q1 := Q1.out w'; have q2 := Q2.out w'; have q3 := u8and15 x hx0 hx1; go_simp; first | done | with_reducible rfl | (trace_state; fail))); simp only [Act.put, List.setIfInBounds_toArray, List.set_cons_zero, List.set_cons_succ])
      refine lin_act ?_
      clear Q1 Q2 hcell
      refine wl_buildSlice rfl _ 3 _ rfl HO2.out.drew (.cells (bv [37, y1, y2]).toArray 5) (by go_simp; rfl) ?_
      intro gs w3 hO3
      refine LinPost.mk trivial ?_
      have HO3 := Lib.hid (hO3.perm List.perm_middle.symm)
      clear hO3 HO2
      refine lin_act ?_
      refine wl_appendB rfl _ _ rfl _ _ (by rfl) HV2.out HO3.out (.slice (some ⟨gs, 0, none⟩) 3 3) [37, y1, y2] (by rfl) ?_ (by have := HL2.out; simp only [List.length_cons, List.length_nil]; omega) ?_
      · exact (isBytes_whole gs [37, y1, y2] (by simp)).bs_sub HO3.out (sub_there (List.sublist_append_left [_] _))
      intro v4 w4 L4 hv4 hO4
      refine LinPost.mk trivial ?_
      have HV4 := Lib.hid hv4; have HO4 := Lib.hid hO4.strike
      clear hv4 hO4 HV2 HO3
      simp only [Act.put, List.setIfInBounds_toArray, List.set_cons_zero, List.set_cons_succ]
      iterate 1 (refine lin_q ?_ rfl ?_ ?_; rotate_left 1; (focus (rintro w' -; go_simp; first | done | with_reducible rfl | (trace_state; fail))); simp only [Act.put, List.setIfInBounds_toArray, List.set_cons_zero, List.set_cons_succ])
      refine lin_nil ?_
      go_wp2
      go_roundw
      case rel => exact ⟨k + 1, by omega, by go_num, L4, HV4.out.cast (by rw [HST.out, HP.out, List.append_assoc]), HO4.out⟩
      case measure => simp [intOf]; omega
    · obtain rfl : k = n := by omega
      obtain ⟨L2, hv2, hO2⟩ := HB.out
      have HV2 := Lib.hid hv2; have HO2 := Lib.hid hO2.strike
      clear hv2 hO2 HB
      go_wp2
      go_ret
      exact ⟨_, L2, rfl, HV2.out.cast (by rw [List.take_of_length_le (by rw [HN.out]; exact Nat.le_refl _)]), HO2.out⟩
end Go.Proofs.YtfgaikacijdodaaGreatDoor
/-
  Package pct: Encode.
-/
namespace Go.Proofs.YtfgaikacijdodaaGreatDoor
set_option linter.unusedVariables false
set_option linter.unusedSimpArgs false
set_option maxRecDepth 20000
open Go.RowKit

/-- What is left of a range over a string. -/
def leftOf (w : World) (r : Nat) : Nat := match w.heap[r]? with
  | some (.stringIter s pos) => s.size - pos
  | _ => 0
theorem leftOf_eq {w : World} {r : Nat} {s : ByteArray} {pos : Nat} (h : w.heap[r]? = some (.stringIter s pos)) : leftOf w r = s.size - pos := by unfold leftOf; rw [h]
theorem pctE_drop {l : List Int} {pos : Nat} (h : pos < l.length) : pctE (l.drop pos) = pctR (decI (l.drop pos)).1 ++ pctE (l.drop (pos + (decI (l.drop pos)).2)) := by
  unfold pctE
  rw [runes_step (by intro e; have := congrArg List.length e; simp at this; omega), List.flatMap_cons, List.drop_drop]
theorem dec_fits {l : List Int} {pos : Nat} (h : pos < l.length) : pos + (decI (l.drop pos)).2 ≤ l.length := by
  have := decI_le (l := l.drop pos) (by intro e; have := congrArg List.length e; simp at this; omega)
  rw [List.length_drop] at this
  omega
set_option maxHeartbeats 4000000 in
theorem encode_c {w0 w : World} {R : Blks} (hO : Own w0 w R) (s : ByteArray) (hs : s.size ≤ 80000000) :
    Calls Tryz.prog 43 #[.string s] w fun e w' => e = .returned (.string (strOfNums (pctE (sb s)))) ∧ Own w0 w' R := by
  have HO := Lib.hid hO
  obtain ⟨l, hl⟩ : ∃ l, sb s = l := ⟨_, rfl⟩
  have hn : l.length = s.size := by rw [← hl]; exact length_sb s
  have HL := Lib.hid hl; have HN := Lib.hid hn
  rw [hl]
  clear hO hl hn
  go_enter Tryz.func43, Tryz.ntmps43
  go_wp2_with (refine wl_rangeS rfl _ _ rfl (by rfl) HO.out s (by rfl) ?_; intro r w1 hO1; have HO1 := Lib.hid hO1; clear hO1 HO)
  simp only [Act.put, List.setIfInBounds_toArray, List.set_cons_zero, List.set_cons_succ]
  go_loopw [3] (fun b w' => ∃ pos acc L', pos ≤ s.size ∧ Hid (pctE l = acc ++ pctE (l.drop pos)) ∧ Hid (IsBytes b acc L') ∧ Hid (Own w0 w' ((r, .stringIter s pos) :: (L' ++ R)))) (fun _ w' => leftOf w' r)
  case atStart => exact ⟨0, [], [], Nat.zero_le _, Lib.hid (by simp), isBytes_nil, HO1.out⟩
  case round =>
    obtain ⟨pos, acc, L', hpos, HE, HV, HO2⟩ := hrel
    clear HO1
    by_cases hlt : pos < s.size
    · have hlt' : pos < l.length := by rw [HN.out]; exact hlt
      have hst := pctE_drop hlt'
      have hfit := dec_fits hlt'
      have hval := decI_valid (l.drop pos)
      have hge := decI_pos (l.drop pos)
      have hlen : acc.length ≤ 960000000 := by
        have h1 := pctE_len l
        rw [HE.out, List.length_append, HN.out] at h1
        omega
      have hcs : pctR (decI (l.drop pos)).1 = if plainR (decI (l.drop pos)).1 then [((decI (l.drop pos)).1 : Int)] else (encI (decI (l.drop pos)).1).flatMap pct3 := rfl
      have hit := Lib.hid (HO2.out.heap (.head _))
      obtain ⟨c, hc⟩ : ∃ c, (decI (l.drop pos)).1 = c := ⟨_, rfl⟩
      obtain ⟨k, hk⟩ : ∃ k, (decI (l.drop pos)).2 = k := ⟨_, rfl⟩
      rw [hc] at hst hval hcs
      rw [hk] at hst hfit hge
      have HC := Lib.hid hc; have HK := Lib.hid hk; have HST := Lib.hid hst; have HVAL := Lib.hid hval; have HCS := Lib.hid hcs
      clear hc hk hst hval hcs
      go_wp2_with (refine wl_nextS rfl _ rfl HO2.out 0 r s pos rfl hlt (by rfl) ?_; intro w3 hO3; rw [HL.out, HK.out] at hO3; rw [HL.out, HC.out]; have HO3 := Lib.hid (hO3.perm List.perm_middle.symm); clear hO3 HO2)
      have hcall := isPlain_c (w := w3) c
      with_reducible refine hcall.mono ?_
      clear hcall
      rintro e w4 ⟨rfl, rfl⟩
      cases hp : plainR c with
      | true =>
        have hce := HCS.out
        rw [if_pos hp] at hce
        have hcb := (plainR_iff c).1 hp
        have hc8 : IntKind.u8.wrap (c : Int) = c := by rw [IntKind.wrap_u8']; omega
        have HCE := Lib.hid hce
        clear hce hcb hp HCS
        go_wp2_with (refine wl_appendB rfl _ _ rfl _ acc (by rfl) HV.out (HO3.out.put2 _) (.slice (some ⟨_, 0, none⟩) 1 1) [(c : Int)] (by rfl) (bs_new HO3.out _ _ rfl (by omega)) (by simp; omega) ?_; intro v5 w5 L5 hv5 hO5; have HV5 := Lib.hid hv5; have HO5 := Lib.hid hO5.strike; clear hv5 hO5 HV HO3)
        go_roundw
        case rel => exact ⟨pos + k, acc ++ [(c : Int)], L5, by have := HN.out; omega, Lib.hid (by rw [HE.out, HST.out, HCE.out, List.append_assoc]), HV5.out, HO5.out.perm List.perm_middle⟩
        case measure => rw [leftOf_eq (HO5.out.heap (List.mem_append_right _ (.head _))), leftOf_eq hit.out]; omega
      | false =>
        have hce := HCS.out
        rw [if_neg (by rw [hp]; simp)] at hce
        have hcall := addCoded_c HV.out HO3.out (by omega) c HVAL.out
        have HCE := Lib.hid hce
        clear hce hp HCS
        go_wp2_with fail
        with_reducible refine hcall.mono ?_
        clear hcall
        rintro e w5 ⟨v5, L5, rfl, hv5, hO5⟩
        have HV5 := Lib.hid hv5; have HO5 := Lib.hid hO5; clear hv5 hO5 HV HO3
        go_wp2
        go_roundw
        case rel => exact ⟨pos + k, acc ++ (encI c).flatMap pct3, L5, by have := HN.out; omega, Lib.hid (by rw [HE.out, HST.out, HCE.out, List.append_assoc]), HV5.out, HO5.out.perm List.perm_middle⟩
        case measure => rw [leftOf_eq (HO5.out.heap (List.mem_append_right _ (.head _))), leftOf_eq hit.out]; omega
    · have hpe : pos = s.size := by omega
      subst hpe
      have hd : l.drop s.size = [] := List.drop_eq_nil_of_le (by rw [HN.out]; exact Nat.le_refl _)
      have he : pctE l = acc := by rw [HE.out, hd]; show acc ++ [] = acc; simp
      have hO3 : Own w0 wr (L' ++ ((r, .stringIter s s.size) :: R)) := HO2.out.perm List.perm_middle.symm
      have hcv := convert_str (HV.out.bs hO3)
      have HO4 := Lib.hid hO3.strike
      have HEQ := Lib.hid he
      clear HE hd he hlt hO3
      go_wp2_with (first | (refine wl_nextS_end rfl _ rfl HO2.out 0 r s s.size rfl (by omega) (by rfl) ?_))
      go_ret
      exact ⟨by rw [HEQ.out]; rfl, HO4.out.right⟩
end Go.Proofs.YtfgaikacijdodaaGreatDoor
/-
  Bytes of a string that may be written into; Lower, the program's and the document's.
-/
namespace Go.Proofs.YtfgaikacijdodaaGreatDoor
set_option linter.unusedVariables false
set_option linter.unusedSimpArgs false
set_option maxRecDepth 20000
open Go.RowKit

/-- A row of cells that a conversion made. -/
def zrow (g : Nat) (cs : List Value) : Nat × Obj := (g, .cells cs.toArray 5 (cs.length, cs.length + 1))
theorem cell_zrow {w0 w : World} {L : Blks} {g : Nat} {cs : List Value} (hO : Own w0 w L) (h : zrow g cs ∈ L) (j : Nat) : w.cell? ⟨g, j, none⟩ = cs[j]? := by
  rw [cell_of_row w g j _ _ _ (hO.heap h)]; simp
theorem frozen_zrow {w0 w : World} {L : Blks} {g : Nat} {cs : List Value} (hO : Own w0 w L) (h : zrow g cs ∈ L) (j : Nat) (hj : j < cs.length) : w.frozen? ⟨g, j, none⟩ = false := by
  unfold World.frozen?
  rw [hO.heap h]
  simp; omega
theorem bytesCells_list (w : World) (s : ByteArray) : (Lib.bytesCells w 5 s).toList = bv (sb s) ++ List.replicate (grownCap w s.size 0 5 - s.size) (.int .u8 0) := by
  unfold Lib.bytesCells bv sb
  simp
theorem bs_zrow {w0 w : World} {L : Blks} {g cap : Nat} {xs : List Int} {sp : List Value} (hO : Own w0 w L) (h : zrow g (bv xs ++ sp) ∈ L) (n : Nat) (hn : xs.length = n) (hc : n ≤ cap) : Bs w (.slice (some ⟨g, 0, none⟩) n cap) xs := by
  refine ⟨_, _, _, rfl, hn, hc, fun _ => ⟨_, rfl, fun j x hx => ?_⟩⟩
  have hj : j < xs.length := (List.getElem?_eq_some_iff.1 hx).1
  rw [addr_add_zero, cell_zrow hO h, List.getElem?_append_left (by simpa using hj)]
  simp [bv, hx]
section
variable {w0 w : World} {L : Blks} {ops : Array Oper} {rest : List Oper} {op : Oper} {a : Act} {Q : Exit → Act → World → Prop}
/-- '[]byte(s)' of a string that is no constant. -/
theorem wl_str2b (hgd : op.guard = none) (x : Operand) (ho : op.op = .convert 9 67 x) (hO : Own w0 w L) (s : ByteArray) (hx : a.eval x = .string s)
    (h : ∀ g cap sp w', s.size ≤ cap → Own w0 w' (zrow g (bv (sb s) ++ sp) :: L) → wpList Tryz.prog ops Q rest (a.put op.dst (.slice (some ⟨g, 0, none⟩) s.size cap)) w') : wpList Tryz.prog ops Q (op :: rest) a w := by
  refine wpList_plain hgd fun K hK => ?_
  have hrun := Lib.run_convert_string_bytes (P := Tryz.prog) w 9 67 5 s Tryz.underlying9 Tryz.underlying67 Tryz.underlying5
  unfold Oper.wp
  simp only [execOp, ho, hx, Sem.run_bind, hrun, Result.andThen_ok, Sem.run_pure]
  have hnew := Lib.bytesWorld_at_new w 5 s
  have hcs := bytesCells_list w s
  obtain ⟨C, hC⟩ : ∃ C, Lib.bytesCells w 5 s = C := ⟨_, rfl⟩
  rw [hC] at hnew hcs
  have hCa : C = (bv (sb s) ++ List.replicate (grownCap w s.size 0 5 - s.size) (Value.int .u8 0)).toArray := by rw [← hcs]
  have hsz : C.size = (bv (sb s) ++ List.replicate (grownCap w s.size 0 5 - s.size) (Value.int .u8 0)).length := by rw [hCa]; simp
  rw [hsz, hCa] at hnew
  refine hK _ _ (h w.heap.size _ (List.replicate (grownCap w s.size 0 5 - s.size) (.int .u8 0)) _ (grownCap_ge w _ _ _) ?_)
  have hg : Below w.heap.size w (Lib.bytesWorld w 5 s) := ⟨rfl, rfl, rfl, by rw [Lib.bytesWorld_size]; omega, fun k hk => Lib.bytesWorld_at_old w _ s k hk⟩
  have hS := hO.same hg
  refine ⟨hS.below, ?_, ?_⟩
  · intro g o hm
    rcases List.mem_cons.1 hm with e | hm
    · cases e; exact ⟨hO.below.size, hnew⟩
    · exact hS.at_ g o hm
  · simp only [List.map_cons, List.nodup_cons]
    exact ⟨hO.notin (Nat.le_refl _), hO.nodup⟩
/-- A store of one byte into such a row. -/
theorem wl_storeZ (hgd : op.guard = none) (x y : Operand) (ho : op.op = .store 5 x y) (hO : Own w0 w L)
    (k : Nat) (g off : Nat) (cs : List Value) (n : Int) (hk : L[k]? = some (zrow g cs)) (hx : a.eval x = .pointer (some ⟨g, off, none⟩)) (hy : a.eval y = .int .u8 n) (hl : off < cs.length)
    (h : ∀ w', Own w0 w' (L.set k (zrow g (cs.set off (.int .u8 n)))) → wpList Tryz.prog ops Q rest (a.put op.dst undef) w') : wpList Tryz.prog ops Q (op :: rest) a w := by
  have hm := List.mem_of_getElem? hk
  have hb := hO.heap hm
  refine wpList_plain hgd fun K hK => ?_
  have hst := run_storeCells_cells (P := Tryz.prog) g off [.int .u8 n] 0 w (fun j hj => by
      simp only [List.length_singleton] at hj
      obtain rfl : j = 0 := by omega
      rw [cell_zrow hO hm]; simp [hl]) (fun j hj => by
        simp only [List.length_singleton] at hj
        exact frozen_zrow hO hm _ (by omega)) (by simp [Value.oneCell'])
  have hrun : (storeVar 5 ⟨g, off, none⟩ (.int .u8 n)).run Tryz.prog w = .ok () (w.setCell ⟨g, off, none⟩ (.int .u8 n)) := by
    obtain ⟨i, hi, hz, hz1, hz2⟩ := info_parts byte_info
    simp only [Nat.add_zero, World.setCells] at hst
    simp [storeVar, sizeOf, typeInfo, hi, hz1, Value.cells, hst]
  unfold Oper.wp
  simp only [execOp, ho, hx, hy, Instr.storeAt, Instr.sureAddr, Sem.run_bind, Sem.run_pure, Result.andThen_ok, hrun]
  refine hK _ _ (h _ ?_)
  refine hO.updAt k hk (grownBy_setCell w _ _) ?_
  simp [World.setCell, Array.getElem?_modify, hb]
end
theorem low_step (l : List Int) (k : Nat) (hk : k < l.length) : ((l.take k).map lowI ++ l.drop k).set k (lowI l[k]) = (l.take (k + 1)).map lowI ++ l.drop (k + 1) := by
  rw [List.set_append_right _ _ (by simp; omega)]
  rw [show k - ((l.take k).map lowI).length = 0 by simp; omega]
  rw [List.drop_eq_getElem_cons hk, List.set_cons_zero, List.take_succ_eq_append_getElem hk, List.map_append, List.append_assoc]
  rfl
theorem low_same (l : List Int) (k : Nat) (hk : k < l.length) (h : lowI l[k] = l[k]) : (l.take k).map lowI ++ l.drop k = (l.take (k + 1)).map lowI ++ l.drop (k + 1) := by
  rw [← low_step l k hk, h]
  apply List.ext_getElem?
  intro j
  rw [List.getElem?_set]
  split
  · rename_i e
    subst e
    have : k < ((l.take k).map lowI ++ l.drop k).length := by simp; omega
    rw [if_pos this, List.getElem?_append_right (by simp; omega)]
    simp [Nat.min_eq_left (Nat.le_of_lt hk), hk]
  · rfl
theorem low_len (l : List Int) (k : Nat) : ((l.take k).map lowI ++ l.drop k).length = l.length := by simp; omega
theorem low_at (l : List Int) (k : Nat) (hk : k < l.length) : ((l.take k).map lowI ++ l.drop k)[k]? = some l[k] := by
  rw [List.getElem?_append_right (by simp; omega)]
  simp [Nat.min_eq_left (Nat.le_of_lt hk), hk]
set_option maxHeartbeats 4000000 in
theorem lower_c {w0 w : World} {R : Blks} (hO : Own w0 w R) (s : ByteArray) (hs : s.size ≤ 1073741824) :
    Calls Tryz.prog 21 #[.string s] w fun e w' => e = .returned (.string (strOfNums (lowL (sb s)))) ∧ Own w0 w' R := by
  have HO := Lib.hid hO
  obtain ⟨l, hl⟩ : ∃ l, sb s = l := ⟨_, rfl⟩
  obtain ⟨n, hn⟩ : ∃ n, s.size = n := ⟨_, rfl⟩
  have hln : l.length = n := by rw [← hl, ← hn]; exact length_sb s
  have hB : Byt l := by rw [← hl]; exact byt_sb s
  have HL := Lib.hid hl; have HN := Lib.hid hn; have HB := Lib.hid hB; have HLN := Lib.hid hln
  rw [hl]
  rw [hn] at hs
  clear hO hl hn hB hln
  go_enter Tryz.func21, Tryz.ntmps21
  go_wp2_with (refine wl_str2b rfl _ rfl HO.out s (by rfl) ?_; intro g cap sp w1 hcap hO1; rw [HL.out] at hO1; rw [HN.out] at hcap ⊢; have HO1 := Lib.hid hO1; clear hO1 HO)
  go_loopw [10] (fun t w' => ∃ k : Nat, k ≤ n ∧ t = .int .i64 k ∧ Hid (Own w0 w' (zrow g (bv ((l.take k).map lowI ++ l.drop k) ++ sp) :: R))) (fun t _ => n - (intOf t).toNat)
  case atStart => exact ⟨0, Nat.zero_le _, rfl, HO1.out⟩
  case round =>
    obtain ⟨k, hk, rfl, HO2⟩ := hrel
    clear HO1
    by_cases hlt : k < n
    · have hkx : k < l.length := by rw [HLN.out]; exact hlt
      have hkl : k < (bv ((l.take k).map lowI ++ l.drop k) ++ sp).length := by rw [List.length_append, length_bv, low_len]; omega
      have hcell : wr.cell? ⟨g, k, none⟩ = some (.int .u8 l[k]) := by
        rw [cell_zrow HO2.out (.head _), List.getElem?_append_left (by rw [length_bv, low_len]; exact hkx)]
        simp only [bv, List.getElem?_map, low_at l k hkx, Option.map_some]
      have hbx := HB.out l[k] (List.getElem_mem hkx)
      have hst := low_step l k hkx
      have hsame := low_same l k hkx
      have HST := Lib.hid hst; have HSAME := Lib.hid hsame; have HKL := Lib.hid hkl
      have hkn : (k : Int) < n := by omega
      have hbv : ∀ x, (bv ((l.take k).map lowI ++ l.drop k) ++ sp).set k (.int .u8 x) = bv (((l.take k).map lowI ++ l.drop k).set k x) ++ sp := by
        intro x
        rw [List.set_append_left _ _ (by rw [length_bv, low_len]; exact hkx)]
        simp [bv]
      have HBV := Lib.hid hbv
      clear hst hsame hkl hbv
      generalize hx : l[k] = x at *
      have hx0 := hbx.1; have hx1 := hbx.2
      clear hbx hx hkx
      by_cases h65 : 65 ≤ x
      · by_cases h90 : x ≤ 90
        · have hlow : lowI x = x - 65 + 97 := by unfold lowI; rw [if_pos ⟨h65, h90⟩]; omega
          have HLOW := Lib.hid hlow
          clear hlow
          go_wp2_with (refine wl_storeZ rfl _ _ rfl HO2.out 0 g k _ (x - 65 + 97) rfl (by rfl) (by rfl) HKL.out ?_; intro w3 hO3; have HO3 := Lib.hid hO3; clear hO3 HO2)
          go_roundw
          case rel =>
            refine ⟨k + 1, by omega, by go_num, ?_⟩
            have := HO3.out
            rw [List.set_cons_zero, HBV.out, ← HLOW.out, HST.out] at this
            exact this
          case measure => simp [intOf]; omega
        · have hlow : lowI x = x := by unfold lowI; rw [if_neg (by omega)]
          have hO3 := HO2.out
          rw [HSAME.out hlow] at hO3
          have HO3 := Lib.hid hO3
          clear hlow hO3 HO2
          go_wp2
          go_roundw
          case rel => exact ⟨k + 1, by omega, by go_num, HO3.out⟩
          case measure => simp [intOf]; omega
      · have hlow : lowI x = x := by unfold lowI; rw [if_neg (by omega)]
        have hO3 := HO2.out
        rw [HSAME.out hlow] at hO3
        have HO3 := Lib.hid hO3
        clear hlow hO3 HO2
        go_wp2
        go_roundw
        case rel => exact ⟨k + 1, by omega, by go_num, HO3.out⟩
        case measure => simp [intOf]; omega
    · obtain rfl : k = n := by omega
      have hO3 := HO2.out
      have e : (l.take k).map lowI ++ l.drop k = lowL l := by
        rw [List.take_of_length_le (by rw [HLN.out]; exact Nat.le_refl _), List.drop_eq_nil_of_le (by rw [HLN.out]; exact Nat.le_refl _), List.append_nil]; rfl
      rw [e] at hO3
      have hcv := convert_str (bs_zrow hO3 (.head _) k (by simp [lowL, HLN.out]) hcap)
      have HO3 := Lib.hid hO3.tail
      clear hO3 e HO2
      go_wp2
      go_ret
      exact ⟨rfl, HO3.out⟩
set_option maxHeartbeats 4000000 in
theorem rlower_c {w0 w : World} {R : Blks} (hO : Own w0 w R) (s : ByteArray) (hs : s.size ≤ 1073741824) :
    Calls Tryz.prog 23 #[.string s] w fun e w' => e = .returned (.string (strOfNums (lowL (sb s)))) ∧ Own w0 w' R := by
  have HO := Lib.hid hO
  obtain ⟨l, hl⟩ : ∃ l, sb s = l := ⟨_, rfl⟩
  obtain ⟨n, hn⟩ : ∃ n, s.size = n := ⟨_, rfl⟩
  have hln : l.length = n := by rw [← hl, ← hn]; exact length_sb s
  have hB : Byt l := by rw [← hl]; exact byt_sb s
  have HL := Lib.hid hl; have HN := Lib.hid hn; have HB := Lib.hid hB; have HLN := Lib.hid hln
  rw [hl]
  rw [hn] at hs
  clear hO hl hn hB hln
  go_enter Tryz.func23, Tryz.ntmps23
  go_wp2_with (refine wl_str2b rfl _ rfl HO.out s (by rfl) ?_; intro g cap sp w1 hcap hO1; rw [HL.out] at hO1; rw [HN.out] at hcap ⊢; have HO1 := Lib.hid hO1; clear hO1 HO)
  go_loopw [10] (fun t w' => ∃ k : Nat, k ≤ n ∧ t = .int .i64 k ∧ Hid (Own w0 w' (zrow g (bv ((l.take k).map lowI ++ l.drop k) ++ sp) :: R))) (fun t _ => n - (intOf t).toNat)
  case atStart => exact ⟨0, Nat.zero_le _, rfl, HO1.out⟩
  case round =>
    obtain ⟨k, hk, rfl, HO2⟩ := hrel
    clear HO1
    by_cases hlt : k < n
    · have hkx : k < l.length := by rw [HLN.out]; exact hlt
      have hkl : k < (bv ((l.take k).map lowI ++ l.drop k) ++ sp).length := by rw [List.length_append, length_bv, low_len]; omega
      have hcell : wr.cell? ⟨g, k, none⟩ = some (.int .u8 l[k]) := by
        rw [cell_zrow HO2.out (.head _), List.getElem?_append_left (by rw [length_bv, low_len]; exact hkx)]
        simp only [bv, List.getElem?_map, low_at l k hkx, Option.map_some]
      have hbx := HB.out l[k] (List.getElem_mem hkx)
      have hst := low_step l k hkx
      have hsame := low_same l k hkx
      have HST := Lib.hid hst; have HSAME := Lib.hid hsame; have HKL := Lib.hid hkl
      have hkn : (k : Int) < n := by omega
      have hbv : ∀ x, (bv ((l.take k).map lowI ++ l.drop k) ++ sp).set k (.int .u8 x) = bv (((l.take k).map lowI ++ l.drop k).set k x) ++ sp := by
        intro x
        rw [List.set_append_left _ _ (by rw [length_bv, low_len]; exact hkx)]
        simp [bv]
      have HBV := Lib.hid hbv
      clear hst hsame hkl hbv
      generalize hx : l[k] = x at *
      have hx0 := hbx.1; have hx1 := hbx.2
      clear hbx hx hkx
      by_cases h65 : 65 ≤ x
      · by_cases h90 : x ≤ 90
        · have hlow : lowI x = x + 32 := by unfold lowI; rw [if_pos ⟨h65, h90⟩]
          have HLOW := Lib.hid hlow
          clear hlow
          go_wp2_with (refine wl_storeZ rfl _ _ rfl HO2.out 0 g k _ (x + 32) rfl (by rfl) (by rfl) HKL.out ?_; intro w3 hO3; have HO3 := Lib.hid hO3; clear hO3 HO2)
          go_roundw
          case rel =>
            refine ⟨k + 1, by omega, by go_num, ?_⟩
            have := HO3.out
            rw [List.set_cons_zero, HBV.out, ← HLOW.out, HST.out] at this
            exact this
          case measure => simp [intOf]; omega
        · have hlow : lowI x = x := by unfold lowI; rw [if_neg (by omega)]
          have hO3 := HO2.out
          rw [HSAME.out hlow] at hO3
          have HO3 := Lib.hid hO3
          clear hlow hO3 HO2
          go_wp2
          go_roundw
          case rel => exact ⟨k + 1, by omega, by go_num, HO3.out⟩
          case measure => simp [intOf]; omega
      · have hlow : lowI x = x := by unfold lowI; rw [if_neg (by omega)]
        have hO3 := HO2.out
        rw [HSAME.out hlow] at hO3
        have HO3 := Lib.hid hO3
        clear hlow hO3 HO2
        go_wp2
        go_roundw
        case rel => exact ⟨k + 1, by omega, by go_num, HO3.out⟩
        case measure => simp [intOf]; omega
    · obtain rfl : k = n := by omega
      have hO3 := HO2.out
      have e : (l.take k).map lowI ++ l.drop k = lowL l := by
        rw [List.take_of_length_le (by rw [HLN.out]; exact Nat.le_refl _), List.drop_eq_nil_of_le (by rw [HLN.out]; exact Nat.le_refl _), List.append_nil]; rfl
      rw [e] at hO3
      have hcv := convert_str (bs_zrow hO3 (.head _) k (by simp [lowL, HLN.out]) hcap)
      have HO3 := Lib.hid hO3.tail
      clear hO3 e HO2
      go_wp2
      go_ret
      exact ⟨rfl, HO3.out⟩
end Go.Proofs.YtfgaikacijdodaaGreatDoor
/-
  The document's Encode of percent signs.
-/
namespace Go.Proofs.YtfgaikacijdodaaGreatDoor
set_option linter.unusedVariables false
set_option linter.unusedSimpArgs false
set_option maxRecDepth 20000
open Go.RowKit

theorem hexs_at (w : World) (k : Int) (h0 : 0 ≤ k) (h1 : k < 16) : (Instr.slice 9 (.string ⟨#[48, 49, 50, 51, 52, 53, 54, 55, 56, 57, 65, 66, 67, 68, 69, 70]⟩) (some (.int .u8 k)) (some (.int .u8 (k + 1))) none).run Tryz.prog w = .ok (.string (strOfNums [hexD k])) w := by
  rcases (by omega : k = 0 ∨ k = 1 ∨ k = 2 ∨ k = 3 ∨ k = 4 ∨ k = 5 ∨ k = 6 ∨ k = 7 ∨ k = 8 ∨ k = 9 ∨ k = 10 ∨ k = 11 ∨ k = 12 ∨ k = 13 ∨ k = 14 ∨ k = 15) with rfl | rfl | rfl | rfl | rfl | rfl | rfl | rfl | rfl | rfl | rfl | rfl | rfl | rfl | rfl | rfl <;> kernel_rfl
theorem hexD_byt {k : Int} (h0 : 0 ≤ k) (h1 : k < 16) : 0 ≤ hexD k ∧ hexD k ≤ 255 := by have := hexD_plain h0 h1; omega
theorem sb_pct3 {x : Int} (h : 0 ≤ x ∧ x ≤ 255) : sb (⟨#[37]⟩ ++ strOfNums [hexD (x / 16)] ++ strOfNums [hexD (x % 16)]) = pct3 x := by
  have h1 := hexD_byt (k := x / 16) (by omega) (by omega)
  have h2 := hexD_byt (k := x % 16) (by omega) (by omega)
  rw [sb_append, sb_append, sb_str (by intro y hy; rw [List.mem_singleton] at hy; subst hy; exact h1), sb_str (by intro y hy; rw [List.mem_singleton] at hy; subst hy; exact h2)]
  rfl
theorem encode_nat (c : Nat) : sb (Utf8.encode (c : Int)) = encI c := sb_encode c
/-- The test that a rune is no plain one, as the document's program has it. -/
def BadState (w0 : World) (L : Blks) (c : Nat) (u : Value) (w : World) : Prop := u = .bool (!plainR c) ∧ Own w0 w L
end Go.Proofs.YtfgaikacijdodaaGreatDoor
/-
  The document's own way of taking points out of a path.
-/
namespace Go.Proofs.YtfgaikacijdodaaGreatDoor
set_option linter.unusedVariables false
set_option linter.unusedSimpArgs false
set_option maxRecDepth 20000
open Go.RowKit

theorem sls_upto (W : World) (ad : Addr) (n c hi : Nat) (k : Int) (hk : (hi : Int) = k) (h1 : hi ≤ n) (h2 : n ≤ c) : (Instr.slice 36 (.slice (some ad) n c) none (some (.int .i64 k)) none).run Tryz.prog W = .ok (.slice (some ad) hi c) W := by
  subst hk
  have h4 : (hi : Int) ≤ c := by omega
  go_simp
theorem dotGo_cons (st : List (List Int)) (p : List Int) {ps : List (List Int)} (h : ps ≠ []) : dotGo st (p :: ps) = dotGo (dotStep st p false) ps := by
  cases ps with
  | nil => exact absurd rfl h
  | cons a r => rfl
theorem slashed_app (a b : List (List Int)) : slashed (a ++ b) = slashed a ++ slashed b := by simp [slashed]
theorem slashed_len_pop (st : List (List Int)) : (slashed st.dropLast).length ≤ (slashed st).length := by
  rcases List.eq_nil_or_concat st with rfl | ⟨r, x, rfl⟩
  · simp
  · rw [List.concat_eq_append, List.dropLast_concat, slashed_app, List.length_append]; omega
theorem slashed_count : ∀ st : List (List Int), st.length ≤ (slashed st).length
  | [] => by simp
  | x :: r => by
    have := slashed_count r
    show (x :: r).length ≤ ((47 :: x) ++ slashed r).length
    simp only [List.length_cons, List.length_append]; omega
theorem dotStep_len (st : List (List Int)) (p : List Int) (last : Bool) : (slashed (dotStep st p last)).length ≤ (slashed st).length + 12 * p.length + 1 := by
  unfold dotStep
  split
  · simp only []
    have h1 : (slashed (if p = [46, 46] then st.dropLast else st)).length ≤ (slashed st).length := by
      split
      · exact slashed_len_pop st
      · exact Nat.le_refl _
    have h2 : (slashed [([] : List Int)]).length = 1 := rfl
    split
    · rw [slashed_app, List.length_append, h2]; omega
    · omega
  · have h2 : (slashed [pctE p]).length = (pctE p).length + 1 := by simp [slashed]
    rw [slashed_app, List.length_append, h2]
    have := pctE_len p
    omega
/-- A slice of the parts so far. -/
def DotState (w0 : World) (R : Blks) (st : List (List Int)) (v : Value) (w : World) : Prop := ∃ L, IsStrs v (st.map strOfNums) L ∧ Own w0 w (L ++ R)
theorem dot_in {p : List Int} (h : Byt p) (bs : List UInt8) : ((strOfNums p).toList == bs) = decide (p = bs.map fun b => (b.toNat : Int)) := by rw [beq_lit, sb_str h]
end Go.Proofs.YtfgaikacijdodaaGreatDoor
/-
  The document's Trim.
-/
namespace Go.Proofs.YtfgaikacijdodaaGreatDoor
set_option linter.unusedVariables false
set_option linter.unusedSimpArgs false
set_option maxRecDepth 20000
open Go.RowKit

theorem sb_pop (t : ByteArray) (k : Nat) : sb (t.extract 0 k) = (sb t).take k := by rw [sb_extract]; rfl
theorem sb_last (t : ByteArray) (h : 0 < t.size) : sb t = (sb t).take (t.size - 1) ++ [(sb t).getD (t.size - 1) 0] := by
  have hl := length_sb t
  have h1 : t.size - 1 < (sb t).length := by omega
  have := List.take_succ_eq_append_getElem h1
  rw [show t.size - 1 + 1 = (sb t).length by omega, List.take_length] at this
  rw [List.getD_eq_getElem?_getD, List.getElem?_eq_getElem h1, Option.getD_some]
  exact this
end Go.Proofs.YtfgaikacijdodaaGreatDoor
/-
  The document's own Parse of URLs.
-/
namespace Go.Proofs.YtfgaikacijdodaaGreatDoor
set_option linter.unusedVariables false
set_option linter.unusedSimpArgs false
set_option maxRecDepth 20000
open Go.RowKit

theorem slashed_cons (p : List Int) (ps : List (List Int)) : (slashed (p :: ps)).length = p.length + 1 + (slashed ps).length := by
  show ((47 :: p) ++ slashed ps).length = _
  simp only [List.length_append, List.length_cons]
theorem dotGo_len : ∀ (ps st : List (List Int)), (slashed (dotGo st ps)).length ≤ (slashed st).length + 12 * (slashed ps).length
  | [], st => by simp [dotGo, slashed]
  | [p], st => by
    have := dotStep_len st p true
    show (slashed (dotStep st p true)).length ≤ _
    rw [slashed_cons]
    omega
  | p :: q :: r, st => by
    have h1 := dotStep_len st p false
    have h2 := dotGo_len (q :: r) (dotStep st p false)
    show (slashed (dotGo (dotStep st p false) (q :: r))).length ≤ _
    rw [slashed_cons p (q :: r)]
    omega
theorem partsI_len : ∀ l : List Int, (slashed (partsI l)).length = l.length + 1
  | [] => rfl
  | c :: r => by
    have ih := partsI_len r
    unfold partsI
    split
    · rw [slashed_cons, ih]; simp; omega
    · split
      · rename_i p ps hps
        rw [hps, slashed_cons] at ih
        rw [slashed_cons]; simp; omega
      · rename_i hps
        exact absurd hps (partsI_ne r)
theorem dotsI_len (l : List Int) : (dotsI l).length ≤ 12 * (l.length + 1) := by
  unfold dotsI
  have h1 := dotGo_len (partsI (l.drop 1)) []
  rw [partsI_len] at h1
  have h2 : (slashed ([] : List (List Int))).length = 0 := rfl
  rw [h2, List.length_drop] at h1
  omega
def UL.zero : UL := ⟨[], [], 0, [], []⟩
theorem alloc_rurl (w : World) : (Instr.alloc 29 true (.tuple #[])).run Tryz.prog w = .ok (.pointer (some ⟨w.heap.size, 0, none⟩)) (w.alloc (.cells UL.zero.val.toArray 29)) := by kernel_rfl
theorem build_rurl (w : World) : (Instr.build 29 #[]).run Tryz.prog w = .ok (.agg UL.zero.val.toArray) w := by kernel_rfl
theorem one_url (u : UL) : ∀ v ∈ u.val, v.oneCell' = true := by
  intro v hv
  simp only [UL.val, List.mem_cons, List.not_mem_nil, or_false] at hv
  rcases hv with rfl | rfl | rfl | rfl | rfl <;> rfl
def GotU (w0 : World) (R : Blks) (o : Option UL) (e : Ending) (w' : World) : Prop := e = .returned (.tuple #[.agg (o.getD UL.zero).val.toArray, .bool o.isSome]) ∧ Own w0 w' R
theorem http_byt : Byt httpI := by intro x hx; simp [httpI] at hx; omega
theorem https_byt : Byt httpsI := by intro x hx; simp [httpsI] at hx; omega
theorem schemeI_is {t sch r : List Int} (h : schemeI t = some (sch, r)) : (sch = httpI ∧ r = t.drop 7) ∨ (sch = httpsI ∧ r = t.drop 8) := by
  unfold schemeI at h
  split at h
  · cases h; exact .inl ⟨rfl, rfl⟩
  · split at h
    · cases h; exact .inr ⟨rfl, rfl⟩
    · cases h
theorem figI_range {l : List Int} {n : Int} (h : figI l 1 5 = some n) : 0 ≤ n ∧ n < 100000 := by
  unfold figI at h
  split at h
  · rename_i hf
    cases h
    have hb := figN_bound l hf.2.2
    have hall : ∀ k, k < 6 → (10 : Int) ^ k ≤ 10 ^ 5 := by decide
    have := hall l.length (by have := hf.2.1; omega)
    exact ⟨hb.1, Int.lt_of_lt_of_le hb.2 this⟩
  · cases h
end Go.Proofs.YtfgaikacijdodaaGreatDoor
/-
  The document's own Join of URLs; what a parsed URL is like.
-/
namespace Go.Proofs.YtfgaikacijdodaaGreatDoor
set_option linter.unusedVariables false
set_option linter.unusedSimpArgs false
set_option maxRecDepth 20000
open Go.RowKit

/-- A URL whose parts are short, and bytes. -/
structure UL.Fine (u : UL) : Prop where
  sch : u.sch = httpI ∨ u.sch = httpsI
  host : HostOk u.host
  hostB : Byt u.host
  pathB : Byt u.path
  queryB : Byt u.query
  port0 : 0 ≤ u.port
  port1 : u.port < 100000
  short : (printI u).length ≤ 40
theorem UL.Fine.schB {u : UL} (h : u.Fine) : Byt u.sch := by rcases h.sch with e | e <;> rw [e]; exact http_byt; exact https_byt
theorem UL.Fine.schl {u : UL} (h : u.Fine) : u.sch.length ≤ 5 := by rcases h.sch with e | e <;> rw [e] <;> decide
theorem UL.Fine.orig {u : UL} (h : u.Fine) : (originI u).length ≤ 40 := by have := h.short; unfold printI at this; simp only [List.length_append] at this; omega
theorem UL.Fine.lens {u : UL} (h : u.Fine) : u.path.length ≤ 40 ∧ u.query.length ≤ 40 := by have := h.short; unfold printI at this; simp only [List.length_append] at this; omega
theorem UL.Fine.ok {u : UL} (h : u.Fine) : u.Ok := ⟨by have := h.schl; omega, by have := h.host.2.1; omega, by have := h.lens; omega, by have := h.lens; omega, h.port0, by have := h.port1; omega⟩
theorem originI_byt {u : UL} (h : u.Fine) : Byt (originI u) := by
  unfold originI
  refine byt_append (byt_append (byt_append h.schB ?_) h.hostB) ?_
  · intro x hx; simp at hx; omega
  · split
    · intro x hx
      rcases List.mem_cons.1 hx with rfl | hx
      · omega
      · exact digs_byt _ x hx
    · intro x hx; cases hx
theorem pctE_byt' (l : List Int) : Byt (pctE l) := fun x hx => by have := pctE_plain l x hx; omega
theorem dotStep_byt {st : List (List Int)} {p : List Int} {last : Bool} (h : ∀ q ∈ st, Byt q) : ∀ q ∈ dotStep st p last, Byt q := by
  intro q hq
  unfold dotStep at hq
  split at hq
  · simp only [] at hq
    have hst : ∀ q ∈ (if p = [46, 46] then st.dropLast else st), Byt q := by
      intro q hq
      split at hq
      · exact h q ((List.dropLast_sublist _).subset hq)
      · exact h q hq
    split at hq
    · rcases List.mem_append.1 hq with hq | hq
      · exact hst q hq
      · rw [List.mem_singleton] at hq; subst hq; intro x hx; cases hx
    · exact hst q hq
  · rcases List.mem_append.1 hq with hq | hq
    · exact h q hq
    · rw [List.mem_singleton] at hq; subst hq; exact pctE_byt' p
theorem dotGo_byt : ∀ (ps st : List (List Int)), (∀ q ∈ st, Byt q) → ∀ q ∈ dotGo st ps, Byt q
  | [], st, h => h
  | [p], st, h => dotStep_byt h
  | p :: q :: r, st, h => dotGo_byt (q :: r) _ (dotStep_byt h)
theorem dotsI_byt (l : List Int) : Byt (dotsI l) := by
  intro x hx
  unfold dotsI slashed at hx
  rw [List.mem_flatMap] at hx
  obtain ⟨p, hp, hx⟩ := hx
  rcases List.mem_cons.1 hx with rfl | hx
  · omega
  · exact dotGo_byt _ [] (by simp) p hp x hx
theorem queryI_byt (q : List Int) : Byt (queryI q) := by
  unfold queryI
  split
  · intro x hx
    rcases List.mem_cons.1 hx with rfl | hx
    · omega
    · exact pctE_byt' _ x hx
  · intro x hx; cases hx
theorem ahead_sub (st l : List Int) : (ahead st l).Sublist l := List.takeWhile_sublist _
/-- What is parsed is fine. -/
theorem parseI_fine {l : List Int} (hB : Byt l) {u : UL} (h : parseI l = some u) : u.Fine := by
  unfold parseI at h
  rw [Option.bind_eq_some_iff] at h
  obtain ⟨⟨sch, r⟩, hs, h⟩ := h
  have hsr := schemeI_is hs
  have hrB : Byt r := by
    have ht : Byt (trimI l) := fun x hx => hB x ((trimI_sub l).subset hx)
    rcases hsr with ⟨_, rfl⟩ | ⟨_, rfl⟩ <;> exact byt_drop ht _
  unfold hostI at h
  simp only at h
  split at h
  · rename_i hho
    rw [Option.bind_eq_some_iff] at h
    obtain ⟨⟨port, rest2⟩, hp, h⟩ := h
    simp only at h
    have hpr : 0 ≤ port ∧ port < 100000 := by
      unfold portI at hp
      split at hp
      · rw [Option.bind_eq_some_iff] at hp
        obtain ⟨n, hn, hp⟩ := hp
        have hr := figI_range hn
        split at hp
        · cases hp
        · cases hp
          split <;> omega
      · cases hp; omega
    unfold restI at h
    simp only at h
    split at h
    · cases h
    · rename_i h40
      cases h
      refine ⟨?_, hho, lowL_byt (ahead_byt hrB), dotsI_byt _, queryI_byt _, hpr.1, hpr.2, by omega⟩
      rcases hsr with ⟨e, _⟩ | ⟨e, _⟩
      · exact .inl e
      · exact .inr e
  · cases h
end Go.Proofs.YtfgaikacijdodaaGreatDoor
/-
  A parsed URL's print is parsed to itself: plain lists; nothing runs here.
-/
namespace Go.Proofs.YtfgaikacijdodaaGreatDoor
set_option linter.unusedVariables false
set_option linter.unusedSimpArgs false
set_option maxRecDepth 20000

/-- Bytes that stand for themselves. -/
def Plain (l : List Int) : Prop := ∀ x ∈ l, 0 ≤ x ∧ x < 128 ∧ plainR x.toNat = true
theorem Plain.rng {l : List Int} (h : Plain l) : ∀ x ∈ l, 33 ≤ x ∧ x ≤ 126 ∧ x ≠ 34 ∧ x ≠ 96 ∧ x ≠ 35 ∧ x ≠ 60 ∧ x ≠ 62 ∧ x ≠ 63 ∧ x ≠ 123 ∧ x ≠ 125 := by
  intro x hx
  have := h x hx
  have h2 := (plainR_iff _).1 this.2.2
  omega
theorem Plain.same {l : List Int} (h : Plain l) : pctE l = l := pctE_same h
theorem plain_pctE (l : List Int) : Plain (pctE l) := pctE_plain l
/-- A part of a path that stays. -/
structure PartOk (p : List Int) : Prop where
  plain : Plain p
  slash : ∀ x ∈ p, x ≠ 47
  dot1 : p ≠ [46]
  dot2 : p ≠ [46, 46]
theorem partOk_nil : PartOk [] := ⟨fun x hx => (by cases hx), fun x hx => (by cases hx), by simp, by simp⟩
theorem parts_noslash : ∀ (l : List Int), ∀ p ∈ partsI l, ∀ x ∈ p, x ≠ 47
  | [], p, hp => by
    rw [show partsI [] = [[]] from rfl, List.mem_singleton] at hp
    subst hp; intro x hx; cases hx
  | c :: r, p, hp => by
    have ih := parts_noslash r
    unfold partsI at hp
    split at hp
    · rcases List.mem_cons.1 hp with rfl | hp
      · intro x hx; cases hx
      · exact ih p hp
    · rename_i hc
      split at hp
      · rename_i q qs hq
        rw [hq] at ih
        rcases List.mem_cons.1 hp with rfl | hp
        · intro x hx
          rcases List.mem_cons.1 hx with rfl | hx
          · exact hc
          · exact ih q (.head _) x hx
        · exact ih p (.tail _ hp)
      · rw [List.mem_singleton] at hp; subst hp
        intro x hx; rw [List.mem_singleton] at hx; subst hx; exact hc
/-- The runes of bytes without one that is below 128 do not hold it. -/
theorem decI_ascii (l : List Int) (h : (decI l).1 < 128) (hl : l ≠ []) : ((decI l).1 : Int) = ((l.getD 0 0).toNat : Int) ∧ (decI l).2 = 1 := by
  unfold decI at *
  rcases Lib.decodeN_shape l.length (l.getD 0 0).toNat (l.getD 1 0).toNat (l.getD 2 0).toNat (l.getD 3 0).toNat with ⟨h1, e⟩ | ⟨h1, h2, h3, h4, e⟩ | ⟨h1, h2, h3, h4, h5, h6, e⟩ | ⟨h1, h2, h3, h4, h5, h6, h7, e⟩ | e
  · rw [e]; exact ⟨rfl, rfl⟩
  all_goals rw [e] at h
  all_goals simp only [] at h
  all_goals omega
theorem runes_mem {l : List Int} (hB : Byt l) {c : Nat} (hc : c < 128) (h : c ∈ runes l) : (c : Int) ∈ l := by
  induction hn : l.length using Nat.strongRecOn generalizing l with
  | ind n ih =>
    by_cases hl : l = []
    · subst hl; cases h
    · rw [runes_step hl] at h
      rcases List.mem_cons.1 h with e | h
      · have h2 := decI_ascii l (by omega) hl
        rw [← e] at h2
        have h3 : 0 < l.length := List.length_pos_iff.2 hl
        have h4 : l.getD 0 0 ∈ l := by rw [List.getD_eq_getElem?_getD, List.getElem?_eq_getElem h3]; exact List.getElem_mem h3
        have h5 := hB _ h4
        have : (c : Int) = l.getD 0 0 := by omega
        rw [this]; exact h4
      · have hp := decI_pos l
        have h3 : 0 < l.length := List.length_pos_iff.2 hl
        have := ih _ (by rw [← hn, List.length_drop]; omega) (l := l.drop (decI l).2) (byt_drop hB _) h rfl
        exact List.mem_of_mem_drop this
theorem pctE_noslash {p : List Int} (hB : Byt p) (h : ∀ x ∈ p, x ≠ 47) : ∀ x ∈ pctE p, x ≠ 47 := by
  intro x hx e
  subst e
  rw [pctE, List.mem_flatMap] at hx
  obtain ⟨c, hc, hx⟩ := hx
  unfold pctR at hx
  split at hx
  · rw [List.mem_singleton] at hx
    have hc47 : c = 47 := by omega
    subst hc47
    exact h 47 (runes_mem hB (by decide) hc) rfl
  · rw [List.mem_flatMap] at hx
    obtain ⟨b, hb, hx⟩ := hx
    have hbb := encI_byt c b hb
    have h1 := hexD_plain (x := b / 16) (by omega) (by omega)
    have h2 := hexD_plain (x := b % 16) (by omega) (by omega)
    simp only [pct3, List.mem_cons, List.not_mem_nil, or_false] at hx
    omega
theorem pctR_one {c : Nat} {l : List Int} (h : pctR c = l) (hl : l.length < 3) : plainR c = true ∧ l = [(c : Int)] := by
  unfold pctR at h
  split at h
  · rename_i hp; exact ⟨hp, h.symm⟩
  · exfalso
    have h1 : (encI c) ≠ [] := encI_ne c
    obtain ⟨x, r, e⟩ := List.exists_cons_of_ne_nil h1
    rw [e, List.flatMap_cons] at h
    have := congrArg List.length h
    rw [List.length_append] at this
    simp [pct3] at this
    omega
theorem pctR_pos (c : Nat) : 1 ≤ (pctR c).length := by
  unfold pctR
  split
  · simp
  · obtain ⟨x, r, e⟩ := List.exists_cons_of_ne_nil (encI_ne c)
    rw [e, List.flatMap_cons, List.length_append]
    simp [pct3]; omega
/-- What is encoded to one point, or two, was that. -/
theorem pctE_dots {p : List Int} (hB : Byt p) : ∀ (k : Nat), k ≤ 2 → pctE p = List.replicate k 46 → p = List.replicate k 46 := by
  intro k hk h
  induction k generalizing p with
  | zero =>
    by_cases hp : p = []
    · exact hp
    · rw [pctE, runes_step hp, List.flatMap_cons] at h
      have := congrArg List.length h
      have h2 := pctR_pos (decI p).1
      rw [List.length_append, List.replicate_zero, List.length_nil] at this
      omega
  | succ k ih =>
    have hp : p ≠ [] := by rintro rfl; have := congrArg List.length h; rw [show pctE [] = [] from rfl] at this; simp at this
    rw [pctE, runes_step hp, List.flatMap_cons] at h
    have hlen := congrArg List.length h
    rw [List.length_append, List.length_replicate] at hlen
    obtain ⟨hpl, he⟩ := pctR_one (c := (decI p).1) rfl (by omega)
    rw [he, List.replicate_succ, List.singleton_append] at h
    injection h with h1 h2
    have h3 := decI_ascii p (by omega) hp
    have h4 : 0 < p.length := List.length_pos_iff.2 hp
    have h5 := getD_byt hB 0
    have h6 : p = p.getD 0 0 :: p.drop 1 := by
      rw [List.getD_eq_getElem?_getD, List.getElem?_eq_getElem h4, Option.getD_some]
      have := List.drop_eq_getElem_cons h4
      rwa [List.drop_zero] at this
    rw [h3.2] at h2
    have h7 := ih (p := p.drop 1) (byt_drop hB 1) (by omega) h2
    rw [h6, h7, List.replicate_succ]
    congr 1
    omega
theorem partOk_of {p : List Int} (hB : Byt p) (hs : ∀ x ∈ p, x ≠ 47) (h1 : p ≠ [46]) (h2 : p ≠ [46, 46]) : PartOk (pctE p) :=
  ⟨plain_pctE p, pctE_noslash hB hs, fun e => h1 (pctE_dots hB 1 (by omega) e), fun e => h2 (pctE_dots hB 2 (by omega) e)⟩
theorem dotStep_okp {st : List (List Int)} {p : List Int} {last : Bool} (h : ∀ q ∈ st, PartOk q) (hB : Byt p) (hs : ∀ x ∈ p, x ≠ 47) : ∀ q ∈ dotStep st p last, PartOk q := by
  intro q hq
  unfold dotStep at hq
  split at hq
  · simp only [] at hq
    have hst : ∀ q ∈ (if p = [46, 46] then st.dropLast else st), PartOk q := by
      intro q hq
      split at hq
      · exact h q ((List.dropLast_sublist _).subset hq)
      · exact h q hq
    split at hq
    · rcases List.mem_append.1 hq with hq | hq
      · exact hst q hq
      · rw [List.mem_singleton] at hq; subst hq; exact partOk_nil
    · exact hst q hq
  · rename_i hne
    rcases List.mem_append.1 hq with hq | hq
    · exact h q hq
    · rw [List.mem_singleton] at hq; subst hq
      exact partOk_of hB hs (fun e => hne (.inl e)) (fun e => hne (.inr e))
theorem dotGo_okp : ∀ (ps st : List (List Int)), (∀ q ∈ st, PartOk q) → (∀ q ∈ ps, Byt q ∧ ∀ x ∈ q, x ≠ 47) → ∀ q ∈ dotGo st ps, PartOk q
  | [], st, h, _ => h
  | [p], st, h, hp => dotStep_okp h (hp p (.head _)).1 (hp p (.head _)).2
  | p :: q :: r, st, h, hp => dotGo_okp (q :: r) _ (dotStep_okp h (hp p (.head _)).1 (hp p (.head _)).2) (fun x hx => hp x (.tail _ hx))
theorem dotStep_last (st : List (List Int)) (p : List Int) : dotStep st p true ≠ [] := by
  unfold dotStep
  split
  · simp
  · simp
theorem dotGo_ne : ∀ (ps st : List (List Int)), ps ≠ [] → dotGo st ps ≠ []
  | [], _, h => absurd rfl h
  | [p], st, _ => dotStep_last st p
  | p :: q :: r, st, _ => dotGo_ne (q :: r) _ (by simp)
theorem parts_byt : ∀ (l : List Int), Byt l → ∀ p ∈ partsI l, Byt p
  | [], _, p, hp => by
    rw [show partsI [] = [[]] from rfl, List.mem_singleton] at hp
    subst hp; intro x hx; cases hx
  | c :: r, h, p, hp => by
    have ih := parts_byt r (fun x hx => h x (.tail _ hx))
    unfold partsI at hp
    split at hp
    · rcases List.mem_cons.1 hp with rfl | hp
      · intro x hx; cases hx
      · exact ih p hp
    · split at hp
      · rename_i q qs hq
        rw [hq] at ih
        rcases List.mem_cons.1 hp with rfl | hp
        · intro x hx
          rcases List.mem_cons.1 hx with rfl | hx
          · exact h _ (.head _)
          · exact ih q (.head _) x hx
        · exact ih p (.tail _ hp)
      · rw [List.mem_singleton] at hp; subst hp
        intro x hx; rw [List.mem_singleton] at hx; subst hx; exact h _ (.head _)
/-- A path that stays as it is. -/
def PathOk (path : List Int) : Prop := ∃ ps, ps ≠ [] ∧ path = slashed ps ∧ ∀ p ∈ ps, PartOk p
theorem dotsI_ok {l : List Int} (h : Byt l) : PathOk (dotsI l) :=
  ⟨_, dotGo_ne _ _ (partsI_ne _), rfl, dotGo_okp _ [] (by simp) (fun q hq => ⟨parts_byt _ (byt_drop h 1) q hq, parts_noslash _ q hq⟩)⟩
theorem parts_slashed : ∀ (p : List Int) (ps : List (List Int)), (∀ q ∈ p :: ps, ∀ x ∈ q, x ≠ 47) → partsI (p ++ slashed ps) = p :: ps
  | [], [], _ => rfl
  | [], q :: qs, h => by
    show partsI (47 :: (q ++ slashed qs)) = _
    unfold partsI
    rw [if_pos rfl, parts_slashed q qs (fun x hx => h x (.tail _ hx))]
  | c :: p, ps, h => by
    have hc : c ≠ 47 := h _ (.head _) c (.head _)
    have ih := parts_slashed p ps (fun q hq x hx => by
      rcases List.mem_cons.1 hq with rfl | hq
      · exact h _ (.head _) x (.tail _ hx)
      · exact h q (.tail _ hq) x hx)
    show partsI (c :: (p ++ slashed ps)) = _
    unfold partsI
    rw [if_neg hc, ih]
theorem dotGo_id : ∀ (ps st : List (List Int)), ps ≠ [] → (∀ p ∈ ps, PartOk p) → dotGo st ps = st ++ ps
  | [], _, h, _ => absurd rfl h
  | [p], st, _, h => by
    have hp := h p (.head _)
    show dotStep st p true = _
    unfold dotStep
    rw [if_neg (by rintro (e | e); exact hp.dot1 e; exact hp.dot2 e), hp.plain.same]
  | p :: q :: r, st, _, h => by
    have hp := h p (.head _)
    show dotGo (dotStep st p false) (q :: r) = _
    rw [dotGo_id (q :: r) _ (by simp) (fun x hx => h x (.tail _ hx))]
    unfold dotStep
    rw [if_neg (by rintro (e | e); exact hp.dot1 e; exact hp.dot2 e), hp.plain.same]
    simp
theorem dotsI_same {path : List Int} (h : PathOk path) : dotsI path = path := by
  obtain ⟨ps, hne, rfl, hp⟩ := h
  obtain ⟨p, r, rfl⟩ := List.exists_cons_of_ne_nil hne
  unfold dotsI
  have : (slashed (p :: r)).drop 1 = p ++ slashed r := rfl
  rw [this, parts_slashed p r (fun q hq => (hp q hq).slash), dotGo_id _ [] (by simp) hp]
  rfl
theorem PathOk.plain {path : List Int} (h : PathOk path) : Plain path := by
  obtain ⟨ps, _, rfl, hp⟩ := h
  intro x hx
  unfold slashed at hx
  rw [List.mem_flatMap] at hx
  obtain ⟨p, hpp, hx⟩ := hx
  rcases List.mem_cons.1 hx with rfl | hx
  · exact ⟨by omega, by omega, by decide⟩
  · exact (hp p hpp).plain x hx
theorem PathOk.head {path : List Int} (h : PathOk path) : ∃ r, path = 47 :: r := by
  obtain ⟨ps, hne, rfl, _⟩ := h
  obtain ⟨p, r, rfl⟩ := List.exists_cons_of_ne_nil hne
  exact ⟨p ++ slashed r, rfl⟩
def QueryOk (q : List Int) : Prop := q = [] ∨ ∃ r, r ≠ [] ∧ q = 63 :: r ∧ Plain r
theorem queryI_ok (q : List Int) (hB : Byt q) : QueryOk (queryI q) := by
  unfold queryI
  split
  · rename_i h
    refine .inr ⟨_, ?_, rfl, plain_pctE _⟩
    intro e
    have := pctE_dots (byt_drop hB 1) 0 (by omega) e
    have h2 := congrArg List.length this
    rw [List.length_drop] at h2
    simp at h2
    omega
  · exact .inl rfl
theorem queryI_same {q : List Int} (h : QueryOk q) : queryI q = q := by
  rcases h with rfl | ⟨r, hr, rfl, hp⟩
  · rfl
  · unfold queryI
    have : 0 < r.length := List.length_pos_iff.2 hr
    rw [if_pos (by simp; omega)]
    show 63 :: pctE r = _
    rw [hp.same]
end Go.Proofs.YtfgaikacijdodaaGreatDoor
/-
  Lists of bytes cut at a sign; digits; bytes as the library has them: nothing runs here.
-/
namespace Go.Proofs.YtfgaikacijdodaaGreatDoor
set_option linter.unusedVariables false
set_option linter.unusedSimpArgs false
set_option maxRecDepth 20000

theorem ahead_app {st : List Int} : ∀ {p : List Int} (l : List Int), (∀ y ∈ p, st.contains y = false) → ahead st (p ++ l) = p ++ ahead st l ∧ behind st (p ++ l) = behind st l
  | [], l, _ => ⟨rfl, rfl⟩
  | x :: p, l, h => by
    have hx := h x (.head _)
    have ih := ahead_app (st := st) (p := p) l (fun y hy => h y (.tail _ hy))
    unfold ahead behind at *
    rw [List.cons_append, List.takeWhile_cons_of_pos (p := fun x => !st.contains x) (by rw [hx]; rfl), List.dropWhile_cons_of_pos (p := fun x => !st.contains x) (by rw [hx]; rfl), ih.1, ih.2]
    exact ⟨rfl, rfl⟩
theorem ahead_hd {st : List Int} {x : Int} (h : st.contains x = true) (l : List Int) : ahead st (x :: l) = [] ∧ behind st (x :: l) = x :: l := by
  unfold ahead behind
  rw [List.takeWhile_cons_of_neg (p := fun x => !st.contains x) (by rw [h]; simp), List.dropWhile_cons_of_neg (p := fun x => !st.contains x) (by rw [h]; simp)]
  exact ⟨rfl, rfl⟩
theorem ahead_stop {st p : List Int} {x : Int} {r : List Int} (hp : ∀ y ∈ p, st.contains y = false) (hx : st.contains x = true) : ahead st (p ++ x :: r) = p ∧ behind st (p ++ x :: r) = x :: r := by
  induction p with
  | nil =>
    unfold ahead behind
    rw [List.nil_append, List.takeWhile_cons_of_neg (by rw [hx]; simp), List.dropWhile_cons_of_neg (by rw [hx]; simp)]
    exact ⟨rfl, rfl⟩
  | cons y p ih =>
    have h0 := hp y (.head _)
    have := ih (fun z hz => hp z (.tail _ hz))
    unfold ahead behind at *
    rw [List.cons_append, List.takeWhile_cons_of_pos (by rw [h0]; rfl), List.dropWhile_cons_of_pos (by rw [h0]; rfl), this.1, this.2]
    exact ⟨rfl, rfl⟩
theorem ahead_full {st p : List Int} (hp : ∀ y ∈ p, st.contains y = false) : ahead st p = p ∧ behind st p = [] := by
  induction p with
  | nil => exact ⟨rfl, rfl⟩
  | cons y p ih =>
    have h0 := hp y (.head _)
    have := ih (fun z hz => hp z (.tail _ hz))
    unfold ahead behind at *
    rw [List.takeWhile_cons_of_pos (by rw [h0]; rfl), List.dropWhile_cons_of_pos (by rw [h0]; rfl), this.1, this.2]
    exact ⟨rfl, rfl⟩
theorem digs_short {n : Nat} (h : n < 100000) : (digs n).length ≤ 5 := by
  have key : ∀ f k m, m < 10 ^ (k + 1) → (digF f m).length ≤ k + 1 := by
    intro f
    induction f with
    | zero => intro k m _; simp [digF]
    | succ f ih =>
      intro k m hm
      simp only [digF]
      split
      · simp
      · rename_i h10
        cases k with
        | zero => simp at hm; omega
        | succ k =>
          have := ih k (m / 10) (by rw [Nat.pow_succ] at hm; omega)
          simp; omega
  exact key 20 4 n (by omega)
/-! ### bytes as the library has them -/
def nb (l : List UInt8) : List Int := l.map fun b => (b.toNat : Int)
theorem nb_str (l : List UInt8) : (⟨l.toArray⟩ : ByteArray) = strOfNums (nb l) := by
  rw [← str_sb (⟨l.toArray⟩ : ByteArray)]; rfl
theorem sb_nb (s : ByteArray) : sb s = nb s.data.toList := rfl
theorem nb_eq (b c : UInt8) : ((b.toNat : Int) = (c.toNat : Int)) ↔ b = c := by
  constructor
  · intro h; exact UInt8.toNat_inj.1 (by omega)
  · rintro rfl; rfl
theorem pre_begI : ∀ (p l : List UInt8), p.isPrefixOf l = begI (nb p) (nb l)
  | [], l => by unfold begI nb; simp
  | a :: p, [] => by unfold begI nb; simp
  | a :: p, b :: l => by
    rw [List.isPrefixOf_cons_cons, pre_begI p l]
    unfold begI nb
    simp only [List.map_cons, List.length_cons, List.take_succ_cons, List.cons.injEq]
    rw [Bool.eq_iff_iff]
    simp only [Bool.and_eq_true, beq_iff_eq, decide_eq_true_iff, nb_eq]
    exact ⟨fun ⟨h1, h2⟩ => ⟨h1.symm, h2⟩, fun ⟨h1, h2⟩ => ⟨h1.symm, h2⟩⟩
theorem cut_nil {sep : List UInt8} (h : sep ≠ []) : Lib.cut [] sep = ([], [], false) := by
  unfold Lib.cut Lib.index
  cases sep with
  | nil => exact absurd rfl h
  | cons a t => rfl
theorem cut_cons (b : UInt8) (l sep : List UInt8) : Lib.cut (b :: l) sep = if sep.isPrefixOf (b :: l) = true then ([], (b :: l).drop sep.length, true) else (b :: (Lib.cut l sep).1, (Lib.cut l sep).2.1, (Lib.cut l sep).2.2) := by
  have hge := Lib.index_ge l sep
  unfold Lib.cut
  rw [show Lib.index (b :: l) sep = if sep.isPrefixOf (b :: l) then 0 else if Lib.index l sep == -1 then -1 else Lib.index l sep + 1 from rfl]
  by_cases h : sep.isPrefixOf (b :: l) = true
  · rw [if_pos h, if_pos h, if_pos (by omega)]
    simp
  · rw [if_neg h, if_neg h]
    by_cases h1 : Lib.index l sep = -1
    · rw [h1]; simp
    · have h2 : (Lib.index l sep == -1) = false := beq_eq_false_iff_ne.2 h1
      rw [h2]
      have h3 : 0 ≤ Lib.index l sep := by omega
      obtain ⟨i, hi⟩ : ∃ i : Nat, Lib.index l sep = i := ⟨(Lib.index l sep).toNat, by omega⟩
      rw [hi]
      simp only [Bool.false_eq_true, if_false]
      rw [if_pos (by omega), if_pos (by omega)]
      have e1 : ((i : Int) + 1).toNat = i + 1 := by omega
      rw [e1, Int.toNat_natCast]
      simp [List.take_succ_cons, Nat.add_right_comm]
/-- Cut at one byte. -/
theorem cut_one (c : UInt8) : ∀ l : List UInt8, nb (Lib.cut l [c]).1 = ahead [(c.toNat : Int)] (nb l) ∧ nb (Lib.cut l [c]).2.1 = (behind [(c.toNat : Int)] (nb l)).drop 1 ∧ (Lib.cut l [c]).2.2 = decide (behind [(c.toNat : Int)] (nb l) ≠ [])
  | [] => by rw [cut_nil (by simp)]; exact ⟨rfl, rfl, rfl⟩
  | b :: l => by
    have ih := cut_one c l
    rw [cut_cons]
    have e : nb (b :: l) = (b.toNat : Int) :: nb l := rfl
    by_cases h : b = c
    · subst h
      rw [if_pos (by simp), e, (ahead_hd (by simp) _).1, (ahead_hd (by simp) _).2]
      simp [nb]
    · rw [if_neg (by simp; exact fun e => h e.symm), e]
      have hc : ([(c.toNat : Int)] : List Int).contains (b.toNat : Int) = false := by
        rw [← Bool.not_eq_true]; simp only [List.contains_cons, List.contains_nil, Bool.or_false, beq_iff_eq, nb_eq]; exact h
      have h1 := ahead_app (st := [(c.toNat : Int)]) (p := [(b.toNat : Int)]) (nb l) (by intro y hy; rw [List.mem_singleton.1 hy]; exact hc)
      rw [show (b.toNat : Int) :: nb l = [(b.toNat : Int)] ++ nb l from rfl, h1.1, h1.2]
      exact ⟨by show (b.toNat : Int) :: nb _ = _; rw [ih.1]; rfl, ih.2.1, ih.2.2⟩
/-- The digits. -/
theorem dec_digs : ∀ (n : Nat), n < 10 ^ 19 → nb (Lib.decDigits n) = digs n := by
  intro n
  induction n using Nat.strongRecOn with
  | ind n ih =>
    intro hn
    by_cases h : n < 10
    · rw [Lib.decDigits, dif_pos h, digs_small h]
      show [((UInt8.ofNat (48 + n)).toNat : Int)] = _
      rw [UInt8.toNat_ofNat']
      congr 1
      omega
    · rw [Lib.decDigits, dif_neg h, digs_step (by omega) hn]
      unfold nb
      rw [List.map_append]
      have := ih (n / 10) (by omega) (by omega)
      unfold nb at this
      rw [this]
      congr 1
      show [((UInt8.ofNat (48 + n % 10)).toNat : Int)] = _
      rw [UInt8.toNat_ofNat']
      congr 1
      omega
theorem itoa_digs (n : Nat) (hn : n < 10 ^ 19) : (⟨(Lib.itoa (n : Int)).toArray⟩ : ByteArray) = strOfNums (digs n) := by
  rw [nb_str]
  unfold Lib.itoa
  rw [if_neg (by omega), Int.toNat_natCast, dec_digs n hn]
end Go.Proofs.YtfgaikacijdodaaGreatDoor
