/-
  Package frame: Sum, Need, sumAt, withSum.
-/
import Derived.Test.YtdndkapfaiplnaaCrc
import Derived.Test.YtdndkapfaiplnaaBts
import Derived.Test.YtdndkapfaiplnaaMark5
namespace Go.Proofs.Ytdndkapfaiplnaa
set_option linter.unusedVariables false
set_option linter.unusedSimpArgs false
set_option maxRecDepth 20000
open Go.RowKit

theorem take_snoc {α : Type} (xs : List α) (k : Nat) (h : k < xs.length) : xs.take (k + 1) = xs.take k ++ [xs[k]] := List.take_succ_eq_append_getElem h
set_option maxHeartbeats 1000000 in
theorem sum_c {w : World} (v : Value) (xs : List Int) (hb : Bs w v xs) (hB : Byt xs) (hl : xs.length ≤ 1073741824) : Calls Try.prog 65 #[v] w fun e w' => e = .returned (.int .u32 (crc xs)) ∧ w = w' := by
  obtain ⟨A, n, c, rfl, hn, _, hA⟩ := hb
  have HN := Lib.hid hn
  have HA := Lib.hid hA
  have HB := Lib.hid hB
  have hn' : n ≤ 1073741824 := by omega
  clear hn hA hB hl
  go_enter Try.func65, Try.ntmps65
  go_wp2
  go_loopw [3, 9] (fun s t w' => ∃ k : Nat, k ≤ n ∧ t = .int .i64 k ∧ Hid (s = .int .u32 (crcFrom 4294967295 (xs.take k) : Nat)) ∧ w' = w) (fun _ t _ => n - (intOf t).toNat)
  case atStart => exact ⟨0, Nat.zero_le _, rfl, rfl, rfl⟩
  case round =>
    obtain ⟨k, hk, rfl, HS, rfl⟩ := hrel
    have hs := HS.out
    subst hs
    by_cases hlt : k < n
    · have hkx : k < xs.length := by rw [HN.out]; exact hlt
      obtain ⟨ad, rfl, hca⟩ := HA.out (by omega)
      have hca' : wr.cell? (ad.add k) = some (.int .u8 xs[k]) := hca k _ (List.getElem?_eq_getElem hkx)
      have hx := HB.out xs[k] (List.getElem_mem hkx)
      have hc := crcFrom_lt (xs.take k) (c := 4294967295) (by omega) (fun y hy => HB.out y (List.mem_of_mem_take hy))
      have hst : crcFrom 4294967295 (xs.take (k + 1)) = crcBits 8 (crcFrom 4294967295 (xs.take k) ^^^ xs[k].toNat) := by
        rw [take_snoc xs k hkx, crcFrom_snoc]; rfl
      have HST := Lib.hid hst
      clear hca hst
      generalize crcFrom 4294967295 (xs.take k) = c0 at *
      generalize xs[k] = x at *
      obtain ⟨y, rfl⟩ := Int.eq_ofNat_of_zero_le hx.1
      rw [Int.toNat_natCast] at HST
      have hy : y < 256 := by omega
      have hz : c0 ^^^ y < 4294967296 := Nat.xor_lt_two_pow (n := 32) hc (by omega)
      have hx1 : bits .xor .u32 (c0 : Int) (y : Int) = ((c0 ^^^ y : Nat) : Int) := u32_xor_nat c0 y hc (by omega)
      have hwy : IntKind.u32.wrap (y : Int) = y := by rw [IntKind.wrap_u32']; omega
      have hk0 : (k : Int) < n := by omega
      clear hx
      go_wp2
      clear hx1 hwy hca'
      go_loopw [3, 17] (fun s t w' => ∃ j : Nat, j ≤ 8 ∧ t = .int .i64 j ∧ Hid (s = .int .u32 (crcBits j (c0 ^^^ y) : Nat)) ∧ w' = wr) (fun _ t _ => 8 - (intOf t).toNat)
      case atStart => exact ⟨0, Nat.zero_le _, rfl, rfl, rfl⟩
      case round =>
        obtain ⟨j, hj, rfl, HS2, rfl⟩ := hrel
        have hs := HS2.out
        subst hs
        by_cases hj8 : j < 8
        · have hc2 := crcBits_lt j hz
          have hst := crcBits_succ j (c0 ^^^ y)
          generalize crcBits j (c0 ^^^ y) = c1 at *
          have HST2 := Lib.hid hst
          clear hst
          have hand : bits .and .u32 (c1 : Int) 1 = ((c1 % 2 : Nat) : Int) := by
            have := u32_and_nat c1 1 hc2 (by omega)
            rw [Nat.and_one_is_mod] at this
            exact this
          rcases Nat.mod_two_eq_zero_or_one c1 with h2 | h2
          · rw [h2] at hand
            go_wp2
            go_roundw
            case rel => exact ⟨j + 1, by omega, by go_num, by rw [HST2.out, crcBit, h2, Nat.mul_zero, Nat.xor_zero]; rfl, trivial⟩
            case measure => simp [intOf]; omega
          · rw [h2] at hand
            have hxp : bits .xor .u32 ((c1 : Int) / 2) 3988292384 = ((crcBit c1 : Nat) : Int) := by
              have := u32_xor_nat (c1 / 2) 3988292384 (by omega) (by omega)
              rw [crcBit, h2, Nat.mul_one]
              exact this
            go_wp2
            go_roundw
            case rel => exact ⟨j + 1, by omega, by go_num, by rw [HST2.out]; rfl, trivial⟩
            case measure => simp [intOf]; omega
        · obtain rfl : j = 8 := by omega
          go_wp2
          go_roundw
          case rel => exact ⟨k + 1, by omega, by go_num, by rw [HST.out]; rfl, trivial⟩
          case measure => simp [intOf]; omega
    · obtain rfl : k = n := by omega
      have ht : xs.take k = xs := List.take_of_length_le (by rw [HN.out]; exact Nat.le_refl _)
      have hc := crcFrom_lt xs (c := 4294967295) (by omega) HB.out
      have hx1 : bits .xor .u32 ((crcFrom 4294967295 (xs.take k) : Nat) : Int) 4294967295 = ((crc xs : Nat) : Int) := by
        rw [ht]; exact u32_xor_nat (crcFrom 4294967295 xs) 4294967295 hc (by omega)
      clear ht HS HA
      go_wp2
      go_ret
      exact ⟨rfl, rfl⟩
set_option maxHeartbeats 400000 in
theorem need_c {w : World} (v : Value) (xs : List Int) (hb : Bs w v xs) (hl : xs.length ≤ 1073741824) : Calls Try.prog 46 #[v] w fun e w' => e = .returned (.int .i64 (need xs : Nat)) ∧ w = w' := by
  obtain ⟨A, n, c, rfl, hn, _, hA⟩ := hb
  clear hA
  have he : (need xs : Int) = ((n : Int) + 22) / 19 := by unfold need; omega
  have HE := Lib.hid he
  clear he
  have hq : ((4 : Int) + n + 19 - 1).tdiv 19 = ((n : Int) + 22) / 19 := by
    rw [Int.tdiv_eq_ediv_of_nonneg (by omega)]
    congr 1
    omega
  have hn' : n ≤ 1073741824 := by omega
  clear hn hl
  go_enter Try.func46, Try.ntmps46
  go_wp2
  go_ret
  exact ⟨by rw [HE.out]; rfl, rfl⟩
theorem wraps_u32 (n : Int) (h0 : 0 ≤ n) (h1 : n < 2 ^ 32) : IntKind.u32.wrap n = n := by rw [IntKind.wrap_u32']; omega
theorem joinu (k : Nat) (x y : Int) (h0 : 0 ≤ x) (hm : x % 2 ^ k = 0) (h1 : x < 4294967296) (h2 : 0 ≤ y) (h3 : y < 2 ^ k) (h4 : y < 4294967296) : bits .or .u32 x y = x + y :=
  bits_join .u32 32 (by decide) wraps_u32 k x y h0 hm h1 h2 h3 (by omega)
set_option maxHeartbeats 1000000 in
theorem sumAt_c {w : World} (ad : Addr) (n c : Nat) (xs : List Int) (hb : Bs w (.slice (some ad) n c) xs) (hB : Byt xs) (hn : 4 ≤ n) :
    Calls Try.prog 64 #[.slice (some ad) n c] w (Quiet w (.int .u32 (num4 xs))) := by
  obtain ⟨A', n', c', e, hxn, _, hA⟩ := hb
  cases e
  obtain ⟨ad', e, hcell⟩ := hA (by omega)
  cases e
  have hg : ∀ j, j < n → w.cell? (ad.add j) = some (.int .u8 (xs.getD j 0)) := fun j hj => hcell j _ (by simp [List.getD, hxn, hj])
  have b0 := getD_byt hB 0
  have b1 := getD_byt hB 1
  have b2 := getD_byt hB 2
  have b3 := getD_byt hB 3
  have c0 := hg 0 (by omega)
  have c1 : w.cell? ⟨ad.block, ad.off + 1, none⟩ = some (.int .u8 (xs.getD 1 0)) := hg 1 (by omega)
  have c2 : w.cell? ⟨ad.block, ad.off + 2, none⟩ = some (.int .u8 (xs.getD 2 0)) := hg 2 (by omega)
  have c3 : w.cell? ⟨ad.block, ad.off + 3, none⟩ = some (.int .u8 (xs.getD 3 0)) := hg 3 (by omega)
  have hc0 : w.cell? ad = some (.int .u8 (xs.getD 0 0)) := by rwa [show ad.add 0 = ad by unfold Addr.add; simp] at c0
  unfold num4
  clear hg hcell hA hB c0
  generalize xs.getD 0 0 = x0 at *
  generalize xs.getD 1 0 = x1 at *
  generalize xs.getD 2 0 = x2 at *
  generalize xs.getD 3 0 = x3 at *
  have j1 := joinu 24 (x0 * 16777216) (x1 * 65536) (by omega) (by omega) (by omega) (by omega) (by omega) (by omega)
  have j2 := joinu 16 (x0 * 16777216 + x1 * 65536) (x2 * 256) (by omega) (by omega) (by omega) (by omega) (by omega) (by omega)
  have j3 := joinu 8 (x0 * 16777216 + x1 * 65536 + x2 * 256) x3 (by omega) (by omega) (by omega) (by omega) (by omega) (by omega)
  have hn0 : 0 < n := by omega
  have hn1 : (1 : Int) < n := by omega
  have hn2 : (2 : Int) < n := by omega
  have hn3 : (3 : Int) < n := by omega
  have w0 : IntKind.u32.wrap x0 = x0 := wraps_u32 _ (by omega) (by omega)
  have w1 : IntKind.u32.wrap x1 = x1 := wraps_u32 _ (by omega) (by omega)
  have w2 : IntKind.u32.wrap x2 = x2 := wraps_u32 _ (by omega) (by omega)
  have w3 : IntKind.u32.wrap x3 = x3 := wraps_u32 _ (by omega) (by omega)
  have v0 : IntKind.u32.wrap (x0 * 16777216) = x0 * 16777216 := wraps_u32 _ (by omega) (by omega)
  have v1 : IntKind.u32.wrap (x1 * 65536) = x1 * 65536 := wraps_u32 _ (by omega) (by omega)
  have v2 : IntKind.u32.wrap (x2 * 256) = x2 * 256 := wraps_u32 _ (by omega) (by omega)
  have J1 := Lib.hid j1
  have J2 := Lib.hid j2
  have J3 := Lib.hid j3
  clear j1 j2 j3 hn hxn
  go_enter Try.func64, Try.ntmps64
  go_wp2
  refine wp_region_lin (fun w' => w' = w.drew) 23 [(0, true), (1, true), (2, true), (3, true), (4, true), (5, true), (6, true), (7, true), (8, true), (9, true), (10, true), (11, true), (12, true), (13, true), (14, true), (15, true), (16, true), (17, true), (18, true), (19, true), (20, true), (21, true), (22, true)] (by kernel_rfl) (by kernel_rfl) (fun _ _ d _ _ h => by cases d <;> exact h) rfl ?_
  simp only [List.map_cons, List.map_nil, pick_zero, pick_succ, List.drop_succ_cons, List.drop_zero]
  iterate 23 (refine lin_q ?_ rfl ?_ ?_; rotate_left 1; (focus (rintro w' rfl; go_simp; first | done | with_reducible rfl | (trace_state; fail))); simp only [Act.put, List.setIfInBounds_toArray, List.set_cons_zero, List.set_cons_succ])
  refine lin_nil ?_
  go_wp2
  go_ret
  refine ⟨?_, 1, rfl⟩
  rw [← J3.out, ← J2.out, ← J1.out]; rfl
theorem build_four (a b c d : Int) (w : World) : (Instr.buildSlice 27 4 #[(0, .int .u8 a), (1, .int .u8 b), (2, .int .u8 c), (3, .int .u8 d)]).run Try.prog w = .ok (.slice (some ⟨w.heap.size, 0, none⟩) 4 4) (w.alloc (.cells (bv [a, b, c, d]).toArray 5)) := by kernel_rfl
theorem make_cap (n : Nat) (hn : n ≤ 1073741824) (w : World) : (Instr.makeSlice 27 (.int .i64 0) (.int .i64 (n : Int))).run Try.prog w =
    .ok (.slice (some ⟨w.heap.size, 0, none⟩) 0 n) (w.alloc (.cells (bv (List.replicate n 0)).toArray 5)) := by
  obtain ⟨i0, hi0, hz0, hz1, hz2⟩ := info_parts byte_info
  have := run_make_rowN (P := Try.prog) 27 5 i0 _ Try.underlying27 hi0 hz0 .i64 .i64 0 n (Nat.zero_le _) (by rw [hz2]; omega) (by omega) w
  rw [hz1] at this
  have e : madeCells (Value.int .u8 0).cells (n * 1) = (bv (List.replicate n 0)).toArray := by
    rw [Nat.mul_one, bv, List.map_replicate]
    exact made_replicate 1 (by omega) _ n
  rw [← e]
  exact this
theorem isBytes_cap (g n : Nat) (hn : n ≤ 1073741824) : IsBytes (.slice (some ⟨g, 0, none⟩) 0 n) [] [(g, .cells (bv (List.replicate n 0)).toArray 5)] :=
  ⟨rfl, .inr ⟨g, n, bv (List.replicate n 0), rfl, by simp [bv], by simp [bv], Nat.zero_le _, by simp only [maxLen]; omega⟩⟩
set_option maxHeartbeats 1000000 in
theorem withSum_c {w0 w : World} {R : Blks} (hO : Own w0 w R) (v : Value) (xs : List Int) (hb : Rd w0 R v xs) (hB : Byt xs) (hl : xs.length ≤ 1073741000) :
    Calls Try.prog 68 #[v] w (GotBytes w0 R (framed xs)) := by
  have hbs := hb w [] hO
  have hsum := sum_c v xs hbs hB (by omega)
  have hcl := crc_lt xs hB
  have HB := Lib.hid hb; have HO := Lib.hid hO; have HS := Lib.hid hsum
  obtain ⟨A, c, rfl, _⟩ := hbs.len
  clear hb hO hsum hbs
  have hmk := make_cap (4 + xs.length) (by omega)
  rw [Int.natCast_add] at hmk
  unfold framed
  generalize crc xs = s at *
  go_enter Try.func68, Try.ntmps68
  go_wp2_with fail
  with_reducible refine HS.out.mono ?_
  rintro e w1 ⟨rfl, rfl⟩
  clear HS
  go_wp2_with (first | (refine wl_makeSlice rfl _ _ _ rfl HO.out _ 0 (4 + xs.length) (by exact hmk _) ?_; intro g w1 hO1; have HO1 := Lib.hid hO1; clear hO1 HO hmk) | (refine wl_appendB rfl _ _ rfl _ [] (by rfl) (isBytes_cap g (4 + xs.length) (by omega)) (Own.rot (A := [_]) (B := [_]) (HO1.out.alloc _)) (.slice (some ⟨w1.heap.size, 0, none⟩) 4 4) [_, _, _, _] (by rfl) ((isBytes_whole w1.heap.size [_, _, _, _] (by simp)).bs (R := R) (Own.rot (A := [_]) (B := [_]) (HO1.out.alloc _)).right) (by simp) ?_; intro v3 w3 L3 h3 hO3; have H3 := Lib.hid h3; have HO3 := Lib.hid hO3.rot.right; clear h3 hO3 HO1) | (refine wl_appendB rfl _ _ rfl v3 _ (by rfl) H3.out HO3.out (.slice A xs.length c) xs (by rfl) (HB.out _ _ HO3.out) (by simp; omega) ?_; intro v4 w4 L4 h4 hO4; have H4 := Lib.hid h4; have HO4 := Lib.hid hO4; clear h4 hO4 HO3 H3))
  go_ret
  refine ⟨v4, L4, rfl, ?_, HO4.out⟩
  have h4 := H4.out
  have e : ([] ++ [(s : Int) / 16777216, (s : Int) / 65536 % 256, (s : Int) / 256 % 256, (s : Int) % 256]) ++ xs = be4 s ++ xs := by
    congr 1
    simp only [be4, List.nil_append, List.cons.injEq, and_true]
    omega
  rwa [e] at h4
end Go.Proofs.Ytdndkapfaiplnaa
