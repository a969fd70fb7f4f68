/-
  Package code: a value's bytes; add.
-/
import Derived.Test.YtpapbmamkggfhaaCode1
namespace Go.Proofs.Ytpapbmamkggfhaa
set_option linter.unusedVariables false
set_option linter.unusedSimpArgs false
set_option maxRecDepth 20000
open Go.RowKit

/-- Eight bytes of a number, the greatest first. -/
def be8 (n : Int) : List Int := [n / 72057594037927936 % 256, n / 281474976710656 % 256, n / 1099511627776 % 256, n / 4294967296 % 256, n / 16777216 % 256, n / 65536 % 256, n / 256 % 256, n % 256]
theorem length_be8 (n : Int) : (be8 n).length = 8 := rfl
theorem byt_be8 (n : Int) : Byt (be8 n) := by
  intro x hx
  simp only [be8, List.mem_cons, List.not_mem_nil, or_false] at hx
  omega
/-- A value's bytes. -/
def enc1 : AV → Option (List Int)
  | .i n => some (105 :: be8 n)
  | .s b => if b.size ≤ 255 then some (115 :: (b.size : Int) :: sb b) else none
  | .f b => some [if b then 116 else 102]
  | _ => none
theorem enc1_len {a : AV} {bs : List Int} (h : enc1 a = some bs) : bs.length ≤ 257 := by
  cases a with
  | i n => simp only [enc1, Option.some.injEq] at h; subst h; simp [length_be8]
  | s b =>
    simp only [enc1] at h
    split at h
    · simp only [Option.some.injEq] at h; subst h; simp [length_sb]; omega
    · cases h
  | f b => simp only [enc1, Option.some.injEq] at h; subst h; simp
  | z => cases h
  | o t v => cases h
theorem enc1_byt {a : AV} {bs : List Int} (h : enc1 a = some bs) : Byt bs := by
  cases a with
  | i n => simp only [enc1, Option.some.injEq] at h; subst h; intro x hx; rcases List.mem_cons.1 hx with rfl | hx; omega; exact byt_be8 n x hx
  | s b =>
    simp only [enc1] at h
    split at h
    · simp only [Option.some.injEq] at h; subst h; intro x hx
      rcases List.mem_cons.1 hx with rfl | hx
      · omega
      · rcases List.mem_cons.1 hx with rfl | hx
        · omega
        · exact byt_sb b x hx
    · cases h
  | f b => simp only [enc1, Option.some.injEq] at h; subst h; intro x hx; cases b <;> simp at hx <;> omega
  | z => cases h
  | o t v => cases h
theorem bs_one {w0 w : World} {R : Blks} (hO : Own w0 w R) (x : Int) : Bs (w.alloc (.cells (bv [x]).toArray 5)) (.slice (some ⟨w.heap.size, 0, none⟩) 1 1) [x] :=
  (isBytes_whole w.heap.size [x] (by simp)).bs (R := R) (hO.alloc _)
theorem bs_two {w0 w : World} {R : Blks} (hO : Own w0 w R) (x y : Int) : Bs (w.alloc (.cells (bv [x, y]).toArray 5)) (.slice (some ⟨w.heap.size, 0, none⟩) 2 2) [x, y] :=
  (isBytes_whole w.heap.size [x, y] (by simp)).bs (R := R) (hO.alloc _)
theorem Own.put2 {w0 w : World} {L R : Blks} (hO : Own w0 w (L ++ R)) (o : Obj) : Own w0 (w.alloc o) (L ++ ((w.heap.size, o) :: R)) := (hO.alloc o).perm List.perm_middle.symm
theorem Own.strike {w0 w : World} {L R : Blks} {g : Nat} {o : Obj} (hO : Own w0 w (L ++ ((g, o) :: R))) : Own w0 w (L ++ R) := hO.sub ((List.Sublist.refl L).append ((List.Sublist.refl R).cons _))
theorem u64w (n : Int) : IntKind.u64.wrap n = n % 18446744073709551616 := rfl
theorem be8_step (xs : List Int) (n y : Int) (k : Nat) (hk : k < 8) (hy : y = (be8 n).getD k 0) : xs ++ 105 :: (be8 n).take k ++ [y] = xs ++ 105 :: (be8 n).take (k + 1) := by
  have hk' : k < (be8 n).length := hk
  rw [List.take_succ_eq_append_getElem hk', hy, List.getD_eq_getElem?_getD, List.getElem?_eq_getElem hk', Option.getD_some]
  simp
theorem Own.cast {w0 w : World} {L L' : Blks} (h : Own w0 w L) (e : L = L') : Own w0 w L' := e ▸ h
theorem IsBytes.cast {v : Value} {xs ys : List Int} {L : Blks} (h : IsBytes v xs L) (e : xs = ys) : IsBytes v ys L := e ▸ h
def GotB (w0 : World) (R : Blks) (xs : List Int) (e : Ending) (w' : World) : Prop := ∃ v L, e = .returned v ∧ IsBytes v xs L ∧ Own w0 w' (L ++ R)
set_option maxHeartbeats 4000000 in
theorem addInt_c {w0 w : World} {L R : Blks} {v : Value} {xs : List Int} (hv : IsBytes v xs L) (hO : Own w0 w (L ++ R)) (hx : xs.length ≤ 1000000000) (n : Int) (hn : (Lit.int .i64 n).wf = true) :
    Calls Try.prog 37 #[v, .int .i64 n] w (GotB w0 R (xs ++ 105 :: be8 n)) := by
  have HV := Lib.hid hv; have HO := Lib.hid hO
  clear hv hO hn
  go_enter Try.func37, Try.ntmps37
  go_wp2_with (refine wl_appendB rfl _ _ rfl _ xs (by rfl) HV.out (HO.out.put2 _) (.slice (some ⟨w.heap.size, 0, none⟩) 1 1) [_] (by rfl) (bs_one HO.out 105) (by simp; omega) ?_; intro v1 w1 L1 hv1 hO1; have HV1 := Lib.hid hv1; have HO1 := Lib.hid hO1.strike; clear hv1 hO1 HV HO)
  go_loopw [0, 6] (fun b t w' => ∃ k : Nat, k ≤ 8 ∧ t = .int .i64 (7 - (k : Int)) ∧ Hid (∃ L', IsBytes b (xs ++ 105 :: (be8 n).take k) L' ∧ Own w0 w' (L' ++ R))) (fun _ t _ => (intOf t + 1).toNat)
  case atStart => exact ⟨0, by omega, rfl, L1, by simpa using HV1.out, HO1.out⟩
  case round =>
    obtain ⟨k, hk, rfl, HB⟩ := hrel
    clear HV1 HO1
    by_cases hlt : k < 8
    · obtain ⟨L2, hv2, hO2⟩ := HB.out
      have hl2 : (xs ++ 105 :: (be8 n).take k).length ≤ 1000000100 := by simp; omega
      have HV2 := Lib.hid hv2; have HO2 := Lib.hid hO2; have HL2 := Lib.hid hl2
      clear hv2 hO2 HB hl2
      obtain rfl | rfl | rfl | rfl | rfl | rfl | rfl | rfl : k = 0 ∨ k = 1 ∨ k = 2 ∨ k = 3 ∨ k = 4 ∨ k = 5 ∨ k = 6 ∨ k = 7 := by omega
      all_goals
        go_wp2_with (refine wl_appendB rfl _ _ rfl _ _ (by rfl) HV2.out (HO2.out.put2 _) (.slice (some ⟨_, 0, none⟩) 1 1) [_] (by rfl) (bs_one HO2.out _) (by have := HL2.out; simp only [List.length_singleton]; omega) ?_; intro v3 w3 L3 hv3 hO3; have HV3 := Lib.hid hv3; have HO3 := Lib.hid hO3.strike; clear hv3 hO3 HV2 HO2)
        go_roundw
        case rel => first | exact ⟨1, by omega, by go_num, L3, HV3.out.cast (be8_step xs n _ 0 (by omega) (by rw [u64w]; simp only [be8, List.getD_cons_zero, List.getD_cons_succ]; omega)), HO3.out⟩ | exact ⟨2, by omega, by go_num, L3, HV3.out.cast (be8_step xs n _ 1 (by omega) (by rw [u64w]; simp only [be8, List.getD_cons_zero, List.getD_cons_succ]; omega)), HO3.out⟩ | exact ⟨3, by omega, by go_num, L3, HV3.out.cast (be8_step xs n _ 2 (by omega) (by rw [u64w]; simp only [be8, List.getD_cons_zero, List.getD_cons_succ]; omega)), HO3.out⟩ | exact ⟨4, by omega, by go_num, L3, HV3.out.cast (be8_step xs n _ 3 (by omega) (by rw [u64w]; simp only [be8, List.getD_cons_zero, List.getD_cons_succ]; omega)), HO3.out⟩ | exact ⟨5, by omega, by go_num, L3, HV3.out.cast (be8_step xs n _ 4 (by omega) (by rw [u64w]; simp only [be8, List.getD_cons_zero, List.getD_cons_succ]; omega)), HO3.out⟩ | exact ⟨6, by omega, by go_num, L3, HV3.out.cast (be8_step xs n _ 5 (by omega) (by rw [u64w]; simp only [be8, List.getD_cons_zero, List.getD_cons_succ]; omega)), HO3.out⟩ | exact ⟨7, by omega, by go_num, L3, HV3.out.cast (be8_step xs n _ 6 (by omega) (by rw [u64w]; simp only [be8, List.getD_cons_zero, List.getD_cons_succ]; omega)), HO3.out⟩ | exact ⟨8, by omega, by go_num, L3, HV3.out.cast (be8_step xs n _ 7 (by omega) (by rw [u64w]; simp only [be8, List.getD_cons_zero, List.getD_cons_succ]; omega)), HO3.out⟩
        case measure => simp [intOf]
    · obtain rfl : k = 8 := by omega
      go_wp2
      go_ret
      obtain ⟨L2, hv2, hO2⟩ := HB.out
      exact ⟨_, L2, rfl, hv2, hO2⟩
theorem flagSign_c {w : World} (b : Bool) : Calls Try.prog 38 #[.bool b] w fun e w' => e = .returned (.int .u8 (if b then 116 else 102)) ∧ w = w' := by
  cases b
  all_goals
    go_enter Try.func38, Try.ntmps38
    go_wp2
    go_ret
    exact ⟨rfl, rfl⟩
/-- What add answers. -/
def GotAdd (w0 : World) (R : Blks) (xs : List Int) (o : Option (List Int)) (e : Ending) (w' : World) : Prop :=
  (∃ bs v L, o = some bs ∧ e = .returned (.tuple #[v, .bool true]) ∧ IsBytes v (xs ++ bs) L ∧ Own w0 w' (L ++ R)) ∨ (o = none ∧ e = .returned (.tuple #[.slice none 0 0, .bool false]) ∧ Own w0 w' R)
set_option maxHeartbeats 4000000 in
theorem add_c {w0 w : World} {L R : Blks} {v : Value} {xs : List Int} (hv : IsBytes v xs L) (hO : Own w0 w (L ++ R)) (hx : xs.length ≤ 1000000000) (a : AV) (ha : a.Ok) :
    Calls Try.prog 25 #[v, a.val] w (GotAdd w0 R xs (enc1 a)) := by
  have hI := Lib.hid (asInt_c (w := w) ha)
  have hT := Lib.hid (asText_c (w := w) ha)
  have hF := Lib.hid (asFlag_c (w := w) ha)
  have HV := Lib.hid hv; have HO := Lib.hid hO
  cases a with
  | i n =>
    have hc := Lib.hid (addInt_c hv hO hx n ha)
    clear hv hO ha hT hF
    simp only [AV.val, AV.int] at *
    go_enter Try.func25, Try.ntmps25
    go_wp2_with fail
    with_reducible refine hI.out.mono ?_
    rintro e w1 ⟨rfl, rfl⟩
    go_wp2_with fail
    with_reducible refine hc.out.mono ?_
    rintro e w1 ⟨v1, L1, rfl, hv1, hO1⟩
    have HV1 := Lib.hid hv1; have HO1 := Lib.hid hO1; clear hv1 hO1
    go_wp2
    go_ret2
    exact .inl ⟨_, _, L1, rfl, rfl, HV1.out, HO1.out⟩
  | s b =>
    clear hv hO ha hF
    simp only [AV.val, AV.int, AV.text] at *
    by_cases hb : b.size ≤ 255
    · have hb' : (b.size : Int) ≤ 255 := by omega
      have hm : (b.size : Int) % 256 = b.size := by omega
      have HB := Lib.hid hb
      clear hb
      go_enter Try.func25, Try.ntmps25
      go_wp2_with fail
      with_reducible refine hI.out.mono ?_
      rintro e w1 ⟨rfl, rfl⟩
      go_wp2_with fail
      with_reducible refine hT.out.mono ?_
      rintro e w1 ⟨rfl, rfl⟩
      go_wp2_with (first | (refine wl_appendB rfl _ _ rfl _ xs (by rfl) HV.out (HO.out.put2 _) (.slice (some ⟨_, 0, none⟩) 2 2) [_, _] (by rfl) (bs_two HO.out _ _) (by simp only [List.length_cons, List.length_nil]; omega) ?_; intro v1 w1 L1 hv1 hO1; have HV1 := Lib.hid hv1; have HO1 := Lib.hid hO1.strike; clear hv1 hO1 HV HO) | (refine wl_appendS rfl _ _ rfl _ _ (by rfl) HV1.out HO1.out b (by rfl) (by have := HB.out; simp only [List.length_append, List.length_cons, List.length_nil]; omega) ?_; intro v2 w2 L2 hv2 hO2; have HV2 := Lib.hid hv2; have HO2 := Lib.hid hO2; clear hv2 hO2 HV1 HO1))
      go_ret2
      refine .inl ⟨_, _, L2, by simp only [enc1]; rw [if_pos HB.out], rfl, HV2.out.cast ?_, HO2.out⟩
      simp
    · have hb' : ¬ ((b.size : Int) ≤ 255) := by omega
      have HB := Lib.hid hb
      have hF := Lib.hid (asFlag_c (w := w) (a := .s b) trivial)
      simp only [AV.val, AV.flag] at hF
      clear hb
      go_enter Try.func25, Try.ntmps25
      go_wp2_with fail
      with_reducible refine hI.out.mono ?_
      rintro e w1 ⟨rfl, rfl⟩
      go_wp2_with fail
      with_reducible refine hT.out.mono ?_
      rintro e w1 ⟨rfl, rfl⟩
      go_wp2_with fail
      with_reducible refine hF.out.mono ?_
      rintro e w1 ⟨rfl, rfl⟩
      go_wp2
      go_ret2
      exact .inr ⟨by simp only [enc1]; rw [if_neg HB.out], rfl, HO.out.right⟩
  | f b =>
    clear hv hO ha
    have hc := Lib.hid (flagSign_c (w := w) b)
    simp only [AV.val, AV.int, AV.text, AV.flag] at *
    go_enter Try.func25, Try.ntmps25
    go_wp2_with fail
    with_reducible refine hI.out.mono ?_
    rintro e w1 ⟨rfl, rfl⟩
    go_wp2_with fail
    with_reducible refine hT.out.mono ?_
    rintro e w1 ⟨rfl, rfl⟩
    go_wp2_with fail
    with_reducible refine hF.out.mono ?_
    rintro e w1 ⟨rfl, rfl⟩
    go_wp2_with fail
    with_reducible refine hc.out.mono ?_
    rintro e w1 ⟨rfl, rfl⟩
    generalize hy : (if b = true then (116 : Int) else 102) = y
    have HY := Lib.hid hy; clear hy
    go_wp2_with (refine wl_appendB rfl _ _ rfl _ xs (by rfl) HV.out (HO.out.put2 _) (.slice (some ⟨_, 0, none⟩) 1 1) [_] (by rfl) (bs_one HO.out _) (by simp; omega) ?_; intro v1 w1 L1 hv1 hO1; have HV1 := Lib.hid hv1; have HO1 := Lib.hid hO1.strike; clear hv1 hO1 HV HO)
    go_ret2
    refine .inl ⟨_, _, L1, rfl, rfl, HV1.out.cast ?_, HO1.out⟩
    rw [← HY.out]
  | z =>
    clear hv hO ha
    simp only [AV.val, AV.int, AV.text, AV.flag] at *
    go_enter Try.func25, Try.ntmps25
    go_wp2_with fail
    with_reducible refine hI.out.mono ?_
    rintro e w1 ⟨rfl, rfl⟩
    go_wp2_with fail
    with_reducible refine hT.out.mono ?_
    rintro e w1 ⟨rfl, rfl⟩
    go_wp2_with fail
    with_reducible refine hF.out.mono ?_
    rintro e w1 ⟨rfl, rfl⟩
    go_wp2
    go_ret2
    exact .inr ⟨rfl, rfl, HO.out.right⟩
  | o t u =>
    clear hv hO ha
    simp only [AV.val, AV.int, AV.text, AV.flag] at *
    go_enter Try.func25, Try.ntmps25
    go_wp2_with fail
    with_reducible refine hI.out.mono ?_
    rintro e w1 ⟨rfl, rfl⟩
    go_wp2_with fail
    with_reducible refine hT.out.mono ?_
    rintro e w1 ⟨rfl, rfl⟩
    go_wp2_with fail
    with_reducible refine hF.out.mono ?_
    rintro e w1 ⟨rfl, rfl⟩
    go_wp2
    go_ret2
    exact .inr ⟨rfl, rfl, HO.out.right⟩
end Go.Proofs.Ytpapbmamkggfhaa
