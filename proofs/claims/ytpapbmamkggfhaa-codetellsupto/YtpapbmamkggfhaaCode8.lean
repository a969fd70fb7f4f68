/-
  The helps of chapter 5's statements: the example, Values.
-/
import Derived.Test.YtpapbmamkggfhaaCode7
import Derived.Test.YtpapbmamkggfhaaConv
namespace Go.Proofs.Ytpapbmamkggfhaa
set_option linter.unusedVariables false
set_option linter.unusedSimpArgs false
set_option maxRecDepth 20000
open Go.RowKit

def GaveT (w0 : World) (R : Blks) (e : Ending) (w' : World) : Prop := e = .returned (.bool true) ∧ Own w0 w' R
theorem build_t (w : World) : (Instr.buildSlice 23 1 #[(0, .int .u8 116)]).run Try.prog w = .ok (.slice (some ⟨w.heap.size, 0, none⟩) 1 1) (w.alloc (.cells (bv [116]).toArray 5)) := by kernel_rfl
theorem rdv_new {w0 : World} {R : Blks} {g : Nat} (us : List Value) (vs : List AV) (e : us = vs.map AV.val) (n : Nat) (hn : us.length = n) (hm : (g, Obj.cells us.toArray 20) ∈ R) : RdV w0 R (.slice (some ⟨g, 0, none⟩) n n) (vs.map AV.val) := by
  subst hn e
  exact fun w' L' h => ⟨_, _, _, rfl, rfl, Nat.le_refl _, fun _ => ⟨_, rfl, fun j u hu => by
    rw [addr_add_zero, h.cell (List.mem_append_right _ hm) j]; simpa using hu⟩⟩
/-- Encode of values that were just laid down. -/
theorem encode_new {w0 w : World} {R : Blks} (hO : Own w0 w R) (us : List Value) (vs : List AV) (e : us = vs.map AV.val) (n : Nat) (hn : us.length = n) (hl : n ≤ 1000000) (ho : ∀ a ∈ vs, a.Ok) :
    Calls Try.prog 8 #[.slice (some ⟨w.heap.size, 0, none⟩) n n] (w.alloc (.cells us.toArray 20)) (GotEnc w0 R (encL vs)) := by
  refine (encode_c (hO.alloc _) (rdv_new us vs e n hn (.head _)) ho (by subst hn e; simpa using hl)).mono ?_
  rintro en w' (⟨bs, v, L, h1, h2, h3, h4⟩ | ⟨h1, h2, h3⟩)
  · exact .inl ⟨bs, v, L, h1, h2, h3, h4.strike⟩
  · exact .inr ⟨h1, h2, h3.tail⟩
set_option maxHeartbeats 1000000 in
theorem wakes5_c {w0 w : World} {R : Blks} (hO : Own w0 w R) : Calls Try.prog 12 #[] w (GaveT w0 R) := by
  have hcall := Lib.hid (encode_new hO [.iface 4 (.bool true)] [.f true] rfl 1 rfl (by omega) (by intro a ha; rw [List.mem_singleton] at ha; subst ha; trivial))
  clear hO
  go_enter Try.func12, Try.ntmps12
  go_wp2_with fail
  with_reducible refine hcall.out.mono ?_
  clear hcall
  rintro e w1 (⟨bs, v, L, ho, rfl, hv, hO1⟩ | ⟨ho, rfl, hO1⟩)
  · simp only [encL, enc1, Option.bind_some, Option.map_some, Option.some.injEq, if_true, List.append_nil] at ho
    subst ho
    simp only []
    have HV := Lib.hid hv; have HO1 := Lib.hid hO1
    clear hv hO1
    go_wp2_with (first | (refine wl_g (by rfl) ?_; refine wl_buildSlice rfl _ _ _ rfl HO1.out _ (by exact build_t _) ?_; intro g2 w2 hO2; have HO2 := Lib.hid hO2; clear hO2 HO1) | (refine wl_g (by rfl) ?_; refine wl_conv rfl _ rfl g2 1 1 _ HO2.out (by rfl) ?_; intro w3 hO3; have HO3 := Lib.hid hO3; clear hO3 HO2))
    have hs := same_c v (.slice (some ⟨g2, 0, none⟩) 1 1) [116] [116] (HV.out.bs (R := R) HO3.out.tail) (bs_sblk HO3.out rfl) (by simp)
    with_reducible refine hs.mono ?_
    clear hs
    rintro e w4 ⟨rfl, q, rfl⟩
    have HO4 := Lib.hid (HO3.out.drewN q)
    clear HO3
    go_wp2
    go_ret
    exact ⟨rfl, HO4.out.tail.right⟩
  · cases ho
/-- A value of two numbers. -/
def val1 (s : ByteArray) (x y : Int) : AV :=
  if x % 7 = 0 ∨ x % 7 = 1 then .i y
  else if x % 7 = 2 then .s s
  else if x % 7 = 3 then .s (strOfNums (List.replicate (y % 256).toNat 0))
  else if x % 7 = 4 ∨ x % 7 = 5 then .f (decide (y % 2 = 0))
  else .s (strOfNums [y % 256] ++ s)
def valsK (xs : List Int) (s : ByteArray) (k : Nat) : List AV := (List.range k).map fun j => val1 s (xs.getD (2 * j) 0) (xs.getD (2 * j + 1) 0)
theorem valsK_succ (xs : List Int) (s : ByteArray) (k : Nat) : valsK xs s (k + 1) = valsK xs s k ++ [val1 s (xs.getD (2 * k) 0) (xs.getD (2 * k + 1) 0)] := by simp [valsK, List.range_succ]
theorem length_valsK (xs : List Int) (s : ByteArray) (k : Nat) : (valsK xs s k).length = k := by simp [valsK]
/-- What Values makes: as many pairs as there are, at most eight; behind them one that is no value, perhaps. -/
def IsVals (xs : List Int) (s : ByteArray) (bad : Int) (vs : List AV) : Prop :=
  ∃ k tl, k ≤ 8 ∧ vs = valsK xs s k ++ tl ∧ (tl = [] ∨ (27 ≤ bad % 30 ∧ ∃ x : AV, tl = [x] ∧ x.Ok ∧ enc1 x = none))
def GotVals (w0 : World) (R : Blks) (xs : List Int) (s : ByteArray) (bad : Int) (e : Ending) (w' : World) : Prop := ∃ vs v L, e = .returned v ∧ IsVals xs s bad vs ∧ IsAny v vs L ∧ Own w0 w' (L ++ R)
theorem build_b1 (x : Int) (w : World) : (Instr.buildSlice 23 1 #[(0, .int .u8 x)]).run Try.prog w = .ok (.slice (some ⟨w.heap.size, 0, none⟩) 1 1) (w.alloc (.cells (bv [x]).toArray 5)) := by kernel_rfl
theorem Own.toMid {w0 w : World} {L R : Blks} {p : Nat × Obj} (hO : Own w0 w (p :: (L ++ R))) : Own w0 w (L ++ (p :: R)) := hO.perm List.perm_middle.symm
theorem bs_mid {w0 w : World} {L R : Blks} {g : Nat} {xs : List Int} {n : Nat} (hn : xs.length = n) (hO : Own w0 w (L ++ ((g, .cells (bv xs).toArray 5) :: R))) : Bs w (.slice (some ⟨g, 0, none⟩) n n) xs :=
  ⟨_, _, _, rfl, hn, Nat.le_refl _, fun _ => ⟨_, rfl, fun j x hx => by rw [addr_add_zero, hO.cell (List.mem_append_right _ (.head _)) j]; simp [bv, hx]⟩⟩
theorem vs_any2 {w0 w : World} {o : Obj} {R : Blks} (hO : Own w0 (w.alloc o) R) (x : Value) : Vs ((w.alloc o).alloc (.cells [x].toArray 20)) (.slice (some ⟨w.heap.size + 1, 0, none⟩) 1 1) [x] := by
  have h := vs_any1 hO x
  rwa [show (w.alloc o).heap.size = w.heap.size + 1 by simp] at h
theorem tmod2 (y : Int) : (y.tmod 2 == 0) = decide (y % 2 = 0) := by
  rw [Bool.eq_iff_iff]
  simp only [beq_iff_eq, decide_eq_true_eq]
  have := Int.emod_eq_tmod (a := y) (b := 2)
  split at this <;> omega
theorem val1_is {s : ByteArray} {x y r : Int} (h : x % 7 = r) : val1 s x y = (if r = 0 ∨ r = 1 then .i y else if r = 2 then .s s else if r = 3 then .s (strOfNums (List.replicate (y % 256).toNat 0)) else if r = 4 ∨ r = 5 then .f (decide (y % 2 = 0)) else .s (strOfNums [y % 256] ++ s)) := by
  subst h; rfl
def VState (w0 : World) (R : Blks) (xs : List Int) (s : ByteArray) (j : Nat) (o : Value) (w' : World) : Prop := ∃ k : Nat, j = 2 * k ∧ k ≤ 8 ∧ ∃ L', IsAny o (valsK xs s k) L' ∧ Own w0 w' (L' ++ R)
set_option maxHeartbeats 40000000 in
theorem values_c {w0 w : World} {R : Blks} (hO : Own w0 w R) (v : Value) (xs : List Int) (hv : InRow .i64 w0 v xs) (s : ByteArray) (hs : s.size ≤ 1000) (bad : Int) :
    Calls Try.prog 13 #[v, .string s, .int .i64 bad] w (GotVals w0 R xs s bad) := by
  have hrd := hv.rdv R
  obtain ⟨A, n, c, rfl, hn, hc, hm, hwf, -⟩ := hv
  have HO := Lib.hid hO; have HRD := Lib.hid hrd; have HN := Lib.hid hn
  have hnm : (n : Int) ≤ 9223372036854775807 := by simp only [maxLen] at hm; omega
  clear hO hrd hn hc hm hwf
  go_enter Try.func13, Try.ntmps13
  go_wp2
  go_loopw [7, 8] (fun o t w' => ∃ j : Nat, j ≤ 16 ∧ t = .int .i64 (j : Int) ∧ Hid (VState w0 R xs s j o w')) (fun _ t _ => (20 - intOf t).toNat)
  case atStart => exact ⟨0, by omega, rfl, 0, rfl, by omega, [], isAny_nil, HO.out⟩
  case round =>
    obtain ⟨j, hj, rfl, HB⟩ := hrel
    clear HO
    by_cases h1 : (j : Int) + 1 < n
    · by_cases h2 : (j : Int) < 16
      · obtain ⟨k, hjk, hk, L2, hv2, hO2⟩ := HB.out
        have HV2 := Lib.hid hv2; have HO2 := Lib.hid hO2; have HJK := Lib.hid hjk; have HK := Lib.hid hk
        obtain ⟨A', n', c', e, hn', hc', hA⟩ := HRD.out _ _ hO2
        simp only [Value.slice.injEq] at e
        obtain ⟨rfl, rfl, rfl⟩ := e
        obtain ⟨ad, rfl, hcell⟩ := hA (by omega)
        have hx1 : j < xs.length := by have := HN.out; omega
        have hx2 : j + 1 < xs.length := by have := HN.out; omega
        have hc1 := hcell j (.int .i64 (xs.getD j 0)) (by rw [List.getElem?_map, List.getD_eq_getElem?_getD, List.getElem?_eq_getElem hx1]; rfl)
        have hc2 := hcell (j + 1) (.int .i64 (xs.getD (j + 1) 0)) (by rw [List.getElem?_map, List.getD_eq_getElem?_getD, List.getElem?_eq_getElem hx2]; rfl)
        have hc3 : wr.cell? ⟨ad.block, ad.off + (j + 1), none⟩ = some (.int .i64 (xs.getD (j + 1) 0)) := hc2
        clear hc2
        have hst := valsK_succ xs s k
        rw [← hjk] at hst
        have HST := Lib.hid hst
        have h3 : ((j : Int) < n) := by omega
        clear hcell hA hc' hn' hv2 hO2 HB hst hx1 hx2 hjk hk HRD
        generalize xs.getD j 0 = x at *
        generalize xs.getD (j + 1) 0 = y at *
        go_wp2_with fail
        clear hc1
        with_reducible refine (within_c x 7 (by omega) (by omega)).mono ?_
        rintro e w1 ⟨rfl, rfl⟩
        have hr0 : 0 ≤ x % 7 ∧ x % 7 ≤ 6 := by omega
        generalize hr : x % 7 = r at *
        have hve := val1_is (s := s) (y := y) hr
        have HVE := Lib.hid hve
        clear hr hve
        obtain rfl | rfl | rfl | rfl | rfl | rfl | rfl : r = 0 ∨ r = 1 ∨ r = 2 ∨ r = 3 ∨ r = 4 ∨ r = 5 ∨ r = 6 := by omega
        · go_wp2_with (refine wl_appendA rfl _ _ rfl _ (valsK xs s k) (by rfl) HV2.out (HO2.out.put2 _) (.slice (some ⟨_, 0, none⟩) 1 1) [.i y] (by rfl) (by exact vs_any1 HO2.out _) (by have := HK.out; simp [length_valsK]; omega) ?_; intro v4 w4 L4 hv4 hO4; have HV4 := Lib.hid hv4; have HO4 := Lib.hid hO4.strike; clear hv4 hO4 HV2 HO2)
          go_roundw
          case rel => exact ⟨j + 2, by have := HJK.out; omega, by go_num, k + 1, by have := HJK.out; omega, by have := HJK.out; omega, L4, HV4.out.cast (by rw [HST.out, HVE.out]; rfl), HO4.out⟩
          case measure => simp [intOf]; omega
        · go_wp2_with (refine wl_appendA rfl _ _ rfl _ (valsK xs s k) (by rfl) HV2.out (HO2.out.put2 _) (.slice (some ⟨_, 0, none⟩) 1 1) [.i y] (by rfl) (by exact vs_any1 HO2.out _) (by have := HK.out; simp [length_valsK]; omega) ?_; intro v4 w4 L4 hv4 hO4; have HV4 := Lib.hid hv4; have HO4 := Lib.hid hO4.strike; clear hv4 hO4 HV2 HO2)
          go_roundw
          case rel => exact ⟨j + 2, by have := HJK.out; omega, by go_num, k + 1, by have := HJK.out; omega, by have := HJK.out; omega, L4, HV4.out.cast (by rw [HST.out, HVE.out]; rfl), HO4.out⟩
          case measure => simp [intOf]; omega
        · go_wp2_with (refine wl_appendA rfl _ _ rfl _ (valsK xs s k) (by rfl) HV2.out (HO2.out.put2 _) (.slice (some ⟨_, 0, none⟩) 1 1) [.s s] (by rfl) (by exact vs_any1 HO2.out _) (by have := HK.out; simp [length_valsK]; omega) ?_; intro v4 w4 L4 hv4 hO4; have HV4 := Lib.hid hv4; have HO4 := Lib.hid hO4.strike; clear hv4 hO4 HV2 HO2)
          go_roundw
          case rel => exact ⟨j + 2, by have := HJK.out; omega, by go_num, k + 1, by have := HJK.out; omega, by have := HJK.out; omega, L4, HV4.out.cast (by rw [HST.out, HVE.out]; rfl), HO4.out⟩
          case measure => simp [intOf]; omega
        · go_wp2_with fail
          clear hc3
          with_reducible refine (within_n y 256 (by omega) (by omega)).mono ?_
          rintro e w1 ⟨rfl, rfl⟩
          have hm : (y % 256).toNat ≤ 255 := by omega
          generalize hm2 : (y % 256).toNat = m at *
          have HM := Lib.hid hm2; clear hm2
          have hmk := make_bytes m (by omega)
          go_wp2_with (first | (refine wl_makeSlice rfl _ _ _ rfl HO2.out _ m m (by exact hmk _) ?_; intro g3 w3 hO3; have HO3 := Lib.hid hO3.toMid; clear hO3 HO2 hmk) | (refine wl_str rfl _ rfl (.slice (some ⟨g3, 0, none⟩) m m) (List.replicate m 0) (by rfl) (bs_mid (by simp) HO3.out) ?_) | (refine wl_appendA rfl _ _ rfl _ (valsK xs s k) (by rfl) HV2.out (HO3.out.put2 _) (.slice (some ⟨_, 0, none⟩) 1 1) [.s _] (by rfl) (by exact vs_any1 HO3.out _) (by have := HK.out; simp [length_valsK]; omega) ?_; intro v4 w4 L4 hv4 hO4; have HV4 := Lib.hid hv4; have HO4 := Lib.hid hO4.strike.strike; clear hv4 hO4 HV2 HO3))
          go_roundw
          case rel => exact ⟨j + 2, by have := HJK.out; omega, by go_num, k + 1, by have := HJK.out; omega, by have := HJK.out; omega, L4, HV4.out.cast (by rw [HST.out, HVE.out]; rfl), HO4.out⟩
          case measure => simp [intOf]; omega
        · go_wp2_with (refine wl_appendA rfl _ _ rfl _ (valsK xs s k) (by rfl) HV2.out (HO2.out.put2 _) (.slice (some ⟨_, 0, none⟩) 1 1) [.f _] (by rfl) (by exact vs_any1 HO2.out _) (by have := HK.out; simp [length_valsK]; omega) ?_; intro v4 w4 L4 hv4 hO4; have HV4 := Lib.hid hv4; have HO4 := Lib.hid hO4.strike; clear hv4 hO4 HV2 HO2)
          go_roundw
          case rel => exact ⟨j + 2, by have := HJK.out; omega, by go_num, k + 1, by have := HJK.out; omega, by have := HJK.out; omega, L4, HV4.out.cast (by rw [HST.out, HVE.out, tmod2]; rfl), HO4.out⟩
          case measure => simp [intOf]; omega
        · go_wp2_with (refine wl_appendA rfl _ _ rfl _ (valsK xs s k) (by rfl) HV2.out (HO2.out.put2 _) (.slice (some ⟨_, 0, none⟩) 1 1) [.f _] (by rfl) (by exact vs_any1 HO2.out _) (by have := HK.out; simp [length_valsK]; omega) ?_; intro v4 w4 L4 hv4 hO4; have HV4 := Lib.hid hv4; have HO4 := Lib.hid hO4.strike; clear hv4 hO4 HV2 HO2)
          go_roundw
          case rel => exact ⟨j + 2, by have := HJK.out; omega, by go_num, k + 1, by have := HJK.out; omega, by have := HJK.out; omega, L4, HV4.out.cast (by rw [HST.out, HVE.out, tmod2]; rfl), HO4.out⟩
          case measure => simp [intOf]; omega
        · have hO3 : Own w0 (wr.alloc (.cells #[.int .u8 (y % 256)] 5)) (L2 ++ ((wr.heap.size, .cells #[.int .u8 (y % 256)] 5) :: R)) := HO2.out.put2 _
          have hcv := convert_str (bs_one HO2.out (y % 256))
          have hsz := strOfNums_size [y % 256]
          simp only [List.length_singleton] at hsz
          generalize hsc : strOfNums [y % 256] = sc at hcv hsz
          have HSC := Lib.hid hsc
          have hcs : ¬ (9223372036854775807 < sc.size + s.size) := by omega
          have HO3 := Lib.hid hO3
          have hcv2 : (convert 23 9 (.slice (some ⟨wr.heap.size, 0, none⟩) 1 1)).run Try.prog (wr.alloc (.cells #[.int .u8 (y % 256)] 5)) = .ok (.string sc) (wr.alloc (.cells #[.int .u8 (y % 256)] 5)) := hcv
          clear hO3 HO2 hsc hsz hcv
          go_wp2_with (refine wl_appendA rfl _ _ rfl _ (valsK xs s k) (by rfl) HV2.out (HO3.out.put2 _) (.slice (some ⟨wr.heap.size + 1, 0, none⟩) 1 1) [.s _] (by rfl) (by exact vs_any2 HO3.out _) (by have := HK.out; simp [length_valsK]; omega) ?_; intro v4 w4 L4 hv4 hO4; have HV4 := Lib.hid hv4; have HO4 := Lib.hid hO4.strike.strike; clear hv4 hO4 HV2 HO3 hcv2)
          go_roundw
          case rel => exact ⟨j + 2, by have := HJK.out; omega, by go_num, k + 1, by have := HJK.out; omega, by have := HJK.out; omega, L4, HV4.out.cast (by rw [HST.out, HVE.out, ← HSC.out]; rfl), HO4.out⟩
          case measure => simp [intOf]; omega
      · have hHB : Hid (VState w0 R xs s j u7 wr) := HB
        go_wp2_with fail
        with_reducible refine (within_c bad 30 (by omega) (by omega)).mono ?_
        rintro e w1 ⟨rfl, rfl⟩
        generalize hr : bad % 30 = r
        have HR := Lib.hid hr
        have hr0 : 0 ≤ r := by omega
        clear hr
        obtain ⟨k, hjk, hk, L2, hv2, hO2⟩ := HB.out
        have HV2 := Lib.hid hv2; have HO2 := Lib.hid hO2; have HK := Lib.hid hk
        clear hv2 hO2 HB hjk hk
        by_cases h27 : r = 27
        · subst h27
          go_wp2_with (refine wl_appendA rfl _ _ rfl _ (valsK xs s k) (by rfl) HV2.out (HO2.out.put2 _) (.slice (some ⟨_, 0, none⟩) 1 1) [.o 5 _] (by rfl) (by exact vs_any1 HO2.out _) (by have := HK.out; simp [length_valsK]; omega) ?_; intro v4 w4 L4 hv4 hO4; have HV4 := Lib.hid hv4; have HO4 := Lib.hid hO4.strike; clear hv4 hO4 HV2 HO2)
          go_ret
          refine ⟨_, _, L4, rfl, ?_, HV4.out, HO4.out⟩; exact ⟨k, _, HK.out, rfl, .inr ⟨by rw [HR.out]; omega, _, rfl, ⟨by decide, by decide, by decide⟩, rfl⟩⟩
        by_cases h28 : r = 28
        · subst h28
          clear h27
          go_wp2_with (refine wl_appendA rfl _ _ rfl _ (valsK xs s k) (by rfl) HV2.out (HO2.out.put2 _) (.slice (some ⟨_, 0, none⟩) 1 1) [.z] (by rfl) (by exact vs_any1 HO2.out _) (by have := HK.out; simp [length_valsK]; omega) ?_; intro v4 w4 L4 hv4 hO4; have HV4 := Lib.hid hv4; have HO4 := Lib.hid hO4.strike; clear hv4 hO4 HV2 HO2)
          go_ret
          refine ⟨_, _, L4, rfl, ?_, HV4.out, HO4.out⟩; exact ⟨k, _, HK.out, rfl, .inr ⟨by rw [HR.out]; omega, _, rfl, trivial, rfl⟩⟩
        by_cases h29 : r = 29
        · subst h29
          clear h27 h28
          go_wp2_with (first | (refine wl_buildSlice rfl _ _ _ rfl HO2.out _ (by exact build_b1 1 _) ?_; intro g3 w3 hO3; have HO3 := Lib.hid hO3.toMid; clear hO3 HO2) | (refine wl_appendA rfl _ _ rfl _ (valsK xs s k) (by rfl) HV2.out (HO3.out.put2 _) (.slice (some ⟨_, 0, none⟩) 1 1) [.o 23 _] (by rfl) (by exact vs_any1 HO3.out _) (by have := HK.out; simp [length_valsK]; omega) ?_; intro v4 w4 L4 hv4 hO4; have HV4 := Lib.hid hv4; have HO4 := Lib.hid hO4.strike.strike; clear hv4 hO4 HV2 HO3))
          go_ret
          refine ⟨_, _, L4, rfl, ?_, HV4.out, HO4.out⟩; exact ⟨k, _, HK.out, rfl, .inr ⟨by rw [HR.out]; omega, _, rfl, ⟨by decide, by decide, by decide⟩, rfl⟩⟩
        have e27 : (r == 27) = false := by simp [h27]
        have e28 : (r == 28) = false := by simp [h28]
        have e29 : (r == 29) = false := by simp [h29]
        clear h27 h28 h29
        go_wp2
        go_ret
        exact ⟨_, _, L2, rfl, ⟨k, [], HK.out, (List.append_nil _).symm, .inl rfl⟩, HV2.out, HO2.out⟩
    · have hHB : Hid (VState w0 R xs s j u7 wr) := HB
      go_wp2_with fail
      with_reducible refine (within_c bad 30 (by omega) (by omega)).mono ?_
      rintro e w1 ⟨rfl, rfl⟩
      generalize hr : bad % 30 = r
      have HR := Lib.hid hr
      have hr0 : 0 ≤ r := by omega
      clear hr
      obtain ⟨k, hjk, hk, L2, hv2, hO2⟩ := HB.out
      have HV2 := Lib.hid hv2; have HO2 := Lib.hid hO2; have HK := Lib.hid hk
      clear hv2 hO2 HB hjk hk
      by_cases h27 : r = 27
      · subst h27
        go_wp2_with (refine wl_appendA rfl _ _ rfl _ (valsK xs s k) (by rfl) HV2.out (HO2.out.put2 _) (.slice (some ⟨_, 0, none⟩) 1 1) [.o 5 _] (by rfl) (by exact vs_any1 HO2.out _) (by have := HK.out; simp [length_valsK]; omega) ?_; intro v4 w4 L4 hv4 hO4; have HV4 := Lib.hid hv4; have HO4 := Lib.hid hO4.strike; clear hv4 hO4 HV2 HO2)
        go_ret
        refine ⟨_, _, L4, rfl, ?_, HV4.out, HO4.out⟩; exact ⟨k, _, HK.out, rfl, .inr ⟨by rw [HR.out]; omega, _, rfl, ⟨by decide, by decide, by decide⟩, rfl⟩⟩
      by_cases h28 : r = 28
      · subst h28
        clear h27
        go_wp2_with (refine wl_appendA rfl _ _ rfl _ (valsK xs s k) (by rfl) HV2.out (HO2.out.put2 _) (.slice (some ⟨_, 0, none⟩) 1 1) [.z] (by rfl) (by exact vs_any1 HO2.out _) (by have := HK.out; simp [length_valsK]; omega) ?_; intro v4 w4 L4 hv4 hO4; have HV4 := Lib.hid hv4; have HO4 := Lib.hid hO4.strike; clear hv4 hO4 HV2 HO2)
        go_ret
        refine ⟨_, _, L4, rfl, ?_, HV4.out, HO4.out⟩; exact ⟨k, _, HK.out, rfl, .inr ⟨by rw [HR.out]; omega, _, rfl, trivial, rfl⟩⟩
      by_cases h29 : r = 29
      · subst h29
        clear h27 h28
        go_wp2_with (first | (refine wl_buildSlice rfl _ _ _ rfl HO2.out _ (by exact build_b1 1 _) ?_; intro g3 w3 hO3; have HO3 := Lib.hid hO3.toMid; clear hO3 HO2) | (refine wl_appendA rfl _ _ rfl _ (valsK xs s k) (by rfl) HV2.out (HO3.out.put2 _) (.slice (some ⟨_, 0, none⟩) 1 1) [.o 23 _] (by rfl) (by exact vs_any1 HO3.out _) (by have := HK.out; simp [length_valsK]; omega) ?_; intro v4 w4 L4 hv4 hO4; have HV4 := Lib.hid hv4; have HO4 := Lib.hid hO4.strike.strike; clear hv4 hO4 HV2 HO3))
        go_ret
        refine ⟨_, _, L4, rfl, ?_, HV4.out, HO4.out⟩; exact ⟨k, _, HK.out, rfl, .inr ⟨by rw [HR.out]; omega, _, rfl, ⟨by decide, by decide, by decide⟩, rfl⟩⟩
      have e27 : (r == 27) = false := by simp [h27]
      have e28 : (r == 28) = false := by simp [h28]
      have e29 : (r == 29) = false := by simp [h29]
      clear h27 h28 h29
      go_wp2
      go_ret
      exact ⟨_, _, L2, rfl, ⟨k, [], HK.out, (List.append_nil _).symm, .inl rfl⟩, HV2.out, HO2.out⟩
end Go.Proofs.Ytpapbmamkggfhaa
