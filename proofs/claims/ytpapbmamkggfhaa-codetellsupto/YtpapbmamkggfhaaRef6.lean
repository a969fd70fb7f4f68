/-
  The document's own Encode.
-/
import Derived.Test.YtpapbmamkggfhaaRef5
namespace Go.Proofs.Ytpapbmamkggfhaa
set_option linter.unusedVariables false
set_option linter.unusedSimpArgs false
set_option maxRecDepth 20000
open Go.RowKit

theorem IsRV.load {R L : Blks} {v : Value} {vs : List AV} (h : IsRV v vs L) (hs : L.Sublist R) (hk : 0 < vs.length) :
    ∃ g cap sp, v = .slice (some ⟨g, 0, none⟩) vs.length cap ∧ (g, Obj.cells (rvs vs ++ sp).toArray 55) ∈ R := by
  rcases h.2 with ⟨rfl, hn, rfl⟩ | ⟨g, cap, sp, rfl, rfl, hl, hn, hm⟩
  · omega
  · exact ⟨g, cap, sp, rfl, hs.subset (.head _)⟩
theorem rvs_sp (vs : List AV) (sp : List Value) (k : Nat) (hk : k < vs.length) : ((rvs vs ++ sp).drop (k * 4)).take 4 = rv vs[k] := by
  rw [List.drop_append_of_le_length (by rw [length_rvs]; omega), List.take_append_of_le_length (by rw [List.length_drop, length_rvs]; omega)]
  exact rvs_at vs k hk
theorem build_b2 (x y : Int) (w : World) : (Instr.buildSlice 23 2 #[(0, .int .u8 x), (1, .int .u8 y)]).run Try.prog w = .ok (.slice (some ⟨w.heap.size, 0, none⟩) 2 2) (w.alloc (.cells (bv [x, y]).toArray 5)) := by kernel_rfl
/-- What the document's Encode answers. -/
def GotREnc (w0 : World) (R : Blks) (o : Option (List Int)) (e : Ending) (w' : World) : Prop :=
  (∃ bs v L, o = some bs ∧ e = .returned (.tuple #[v, .bool true]) ∧ IsBytes v bs L ∧ Own w0 w' (L ++ R)) ∨ (o = none ∧ e = .returned (.tuple #[.slice none 0 0, .bool false]) ∧ Own w0 w' R)
def EState (w0 : World) (R : Blks) (vs : List AV) (k : Nat) (b : Value) (w' : World) : Prop := ∃ bs L', encL (vs.take k) = some bs ∧ IsBytes b bs L' ∧ Own w0 w' (L' ++ R)
set_option maxHeartbeats 1600000 in
theorem renc_c {w0 w : World} {R L : Blks} {v : Value} {vs : List AV} (hO : Own w0 w R) (hv : IsRV v vs L) (hs : L.Sublist R) (hl : vs.length ≤ 1000000) :
    Calls Try.prog 19 #[v] w (GotREnc w0 R (encL vs)) := by
  obtain ⟨A, c, rfl⟩ := hv.val
  have HO := Lib.hid hO; have HV := Lib.hid hv; have HS := Lib.hid hs
  clear hO hv hs
  go_enter Try.func19, Try.ntmps19
  go_wp2
  generalize hN : vs.length = N at *
  have HN := Lib.hid hN; clear hN
  go_loopw [4, 10] (fun b t w' => ∃ k : Nat, k ≤ N ∧ t = .int .i64 (k : Int) ∧ Hid (EState w0 R vs k b w')) (fun _ t _ => N - (intOf t).toNat)
  case atStart => exact ⟨0, by omega, rfl, [], [], rfl, isBytes_nil, HO.out⟩
  case round =>
    obtain ⟨k, hk, rfl, HB⟩ := hrel
    clear HO
    by_cases hlt : k < N
    · obtain ⟨bs, L2, he2, hv2, hO2⟩ := HB.out
      have hkv : k < vs.length := by rw [HN.out]; exact hlt
      obtain ⟨g, cap, sp, e, hm⟩ := HV.out.load HS.out (by omega)
      simp only [Value.slice.injEq] at e
      obtain ⟨rfl, -, rfl⟩ := e
      have hd := rvs_sp vs sp k hkv
      have hbl : bs.length ≤ 1000000000 := by have := encL_len he2; simp only [List.length_take] at this; omega
      have hsn : ∀ y, enc1 vs[k] = some y → encL (vs.take (k + 1)) = some (bs ++ y) := fun y hy => by rw [List.take_succ_eq_append_getElem hkv]; exact encL_snoc _ _ he2 hy
      have hno : enc1 vs[k] = none → encL vs = none := encL_none (List.getElem_mem hkv)
      have HV2 := Lib.hid hv2; have HO2 := Lib.hid hO2; have HSN := Lib.hid hsn; have HNO := Lib.hid hno; have HM := Lib.hid hm
      have hkn : (k : Int) < N := by omega
      clear hv2 hO2 he2 HB hsn hno hm
      generalize vs[k] = x at *
      cases x with
      | i n =>
        simp only [rv] at hd
        have HD := Lib.hid hd; clear hd
        go_wp2_with (first | (refine wl_load rfl _ _ rfl g (k * 4) (rvs vs ++ sp) [.int .i64 1, .int .i64 n, .string ⟨#[]⟩, .bool false] _ (HO2.out.heap (List.mem_append_right _ HM.out)) (by rfl) _ Try.underlying55 rfl rv_size HD.out ?_) | (refine wl_alloc rfl _ rfl HO2.out _ (alloc_rv _) ?_; intro g6 w6 hO6; have HO6 := Lib.hid hO6; clear hO6 HO2) | (refine wl_store rfl _ _ _ rfl HO6.out 0 g6 0 _ [.int .i64 1, .int .i64 n, .string ⟨#[]⟩, .bool false] _ rfl (by rfl) (by rfl) rv_size (one_rv (.i n)) (by simp [rv]) ?_; intro w7 hO7'; have hO7 : Own w0 w7 ((g6, .cells ([.int .i64 1, .int .i64 n, .string ⟨#[]⟩, .bool false] : List Value).toArray 55) :: (L2 ++ R)) := hO7'; have hc0 : w7.cell? ⟨g6, 0, none⟩ = some (.int .i64 1) := hO7.cell (.head _) 0; have hc2 : w7.cell? ⟨g6, 2, none⟩ = some (.string ⟨#[]⟩) := hO7.cell (.head _) 2; have hc3 : w7.cell? ⟨g6, 3, none⟩ = some (.bool false) := hO7.cell (.head _) 3; have HO7 := Lib.hid hO7.toMid; clear hO7 hO7' HO6) | (refine wl_appendB rfl _ _ rfl _ bs (by rfl) HV2.out (HO7.out.put2 _) (.slice (some ⟨_, 0, none⟩) 1 1) [_] (by rfl) (bs_one HO7.out 105) (by simp; omega) ?_; intro v8 w8 L8 hv8 hO8; have HV8 := Lib.hid hv8; have HO8 := Lib.hid hO8.strike; clear hv8 hO8 HV2 HO7))
        clear hc0 hc2 hc3
        go_loopw [4, 7] (fun b t w' => ∃ j : Nat, j ≤ 8 ∧ t = .int .i64 (56 - 8 * (j : Int)) ∧ Hid (∃ L', IsBytes b (bs ++ 105 :: (be8 n).take j) L' ∧ Own w0 w' (L' ++ ((g6, .cells ([.int .i64 1, .int .i64 n, .string ⟨#[]⟩, .bool false] : List Value).toArray 55) :: R)))) (fun _ t _ => (intOf t + 8).toNat)
        case atStart => exact ⟨0, by omega, rfl, L8, by simpa using HV8.out, HO8.out⟩
        case round =>
          obtain ⟨j, hj, rfl, HB⟩ := hrel
          clear HV8 HO8
          by_cases hj8 : j < 8
          · obtain ⟨L9, hv9, hO9⟩ := HB.out
            have hl2 : (bs ++ 105 :: (be8 n).take j).length ≤ 1000000100 := by simp; omega
            have hc1 : wr.cell? ⟨g6, 1, none⟩ = some (.int .i64 n) := hO9.right.cell (.head _) 1
            have HV9 := Lib.hid hv9; have HO9 := Lib.hid hO9; have HL2 := Lib.hid hl2
            clear hv9 hO9 HB hl2
            obtain rfl | rfl | rfl | rfl | rfl | rfl | rfl | rfl : j = 0 ∨ j = 1 ∨ j = 2 ∨ j = 3 ∨ j = 4 ∨ j = 5 ∨ j = 6 ∨ j = 7 := by omega
            all_goals
              go_wp2_with (refine wl_appendB rfl _ _ rfl _ _ (by rfl) HV9.out (HO9.out.put2 _) (.slice (some ⟨_, 0, none⟩) 1 1) [_] (by rfl) (bs_one HO9.out _) (by have := HL2.out; simp only [List.length_singleton]; omega) ?_; intro v3 w3 L3 hv3 hO3; have HV3 := Lib.hid hv3; have HO3 := Lib.hid hO3.strike; clear hv3 hO3 HV9 HO9)
              go_roundw
              case rel => first | exact ⟨1, by omega, by go_num, L3, HV3.out.cast (be8_step bs n _ 0 (by omega) (by rw [u64w]; simp only [be8, List.getD_cons_zero, List.getD_cons_succ]; omega)), HO3.out⟩ | exact ⟨2, by omega, by go_num, L3, HV3.out.cast (be8_step bs n _ 1 (by omega) (by rw [u64w]; simp only [be8, List.getD_cons_zero, List.getD_cons_succ]; omega)), HO3.out⟩ | exact ⟨3, by omega, by go_num, L3, HV3.out.cast (be8_step bs n _ 2 (by omega) (by rw [u64w]; simp only [be8, List.getD_cons_zero, List.getD_cons_succ]; omega)), HO3.out⟩ | exact ⟨4, by omega, by go_num, L3, HV3.out.cast (be8_step bs n _ 3 (by omega) (by rw [u64w]; simp only [be8, List.getD_cons_zero, List.getD_cons_succ]; omega)), HO3.out⟩ | exact ⟨5, by omega, by go_num, L3, HV3.out.cast (be8_step bs n _ 4 (by omega) (by rw [u64w]; simp only [be8, List.getD_cons_zero, List.getD_cons_succ]; omega)), HO3.out⟩ | exact ⟨6, by omega, by go_num, L3, HV3.out.cast (be8_step bs n _ 5 (by omega) (by rw [u64w]; simp only [be8, List.getD_cons_zero, List.getD_cons_succ]; omega)), HO3.out⟩ | exact ⟨7, by omega, by go_num, L3, HV3.out.cast (be8_step bs n _ 6 (by omega) (by rw [u64w]; simp only [be8, List.getD_cons_zero, List.getD_cons_succ]; omega)), HO3.out⟩ | exact ⟨8, by omega, by go_num, L3, HV3.out.cast (be8_step bs n _ 7 (by omega) (by rw [u64w]; simp only [be8, List.getD_cons_zero, List.getD_cons_succ]; omega)), HO3.out⟩
              case measure => simp [intOf]
          · obtain rfl : j = 8 := by omega
            go_wp2
            go_roundw
            case rel =>
              obtain ⟨L9, hv9, hO9⟩ := HB.out
              exact ⟨k + 1, by omega, by go_num, _, L9, HSN.out _ rfl, hv9, hO9.strike⟩
            case measure => simp [intOf]; omega
      | s b =>
        simp only [rv] at hd
        have HD := Lib.hid hd; clear hd
        by_cases hb : b.size ≤ 255
        · have hb' : ¬ (255 < (b.size : Int)) := by omega
          have hm : (b.size : Int) % 256 = b.size := by omega
          have hm2 : IntKind.u8.wrap (b.size : Int) = b.size := by show (b.size : Int) % 256 = b.size; omega
          have henc : enc1 (.s b) = some (115 :: (b.size : Int) :: sb b) := by simp only [enc1]; rw [if_pos hb]
          have HENC := Lib.hid henc; have HBB := Lib.hid hb
          clear henc hb
          go_wp2_with (first | (refine wl_load rfl _ _ rfl g (k * 4) (rvs vs ++ sp) [.int .i64 2, .int .i64 0, .string b, .bool false] _ (HO2.out.heap (List.mem_append_right _ HM.out)) (by rfl) _ Try.underlying55 rfl rv_size HD.out ?_) | (refine wl_alloc rfl _ rfl HO2.out _ (alloc_rv _) ?_; intro g6 w6 hO6; have HO6 := Lib.hid hO6; clear hO6 HO2) | (refine wl_store rfl _ _ _ rfl HO6.out 0 g6 0 _ [.int .i64 2, .int .i64 0, .string b, .bool false] _ rfl (by rfl) (by rfl) rv_size (one_rv (.s b)) (by simp [rv]) ?_; intro w7 hO7'; have hO7 : Own w0 w7 ((g6, .cells ([.int .i64 2, .int .i64 0, .string b, .bool false] : List Value).toArray 55) :: (L2 ++ R)) := hO7'; have hc0 : w7.cell? ⟨g6, 0, none⟩ = some (.int .i64 2) := hO7.cell (.head _) 0; have hc2 : w7.cell? ⟨g6, 2, none⟩ = some (.string b) := hO7.cell (.head _) 2; have hc3 : w7.cell? ⟨g6, 3, none⟩ = some (.bool false) := hO7.cell (.head _) 3; have HO7 := Lib.hid hO7.toMid; clear hO7 hO7' HO6))
          refine wp_region_lin (fun w' => w'.cell? ⟨g6, 2, none⟩ = some (.string b)) 10 [(0, true), (1, true), (2, true), (3, true), (4, true), (7, true), (8, true), (5, false), (6, false), (9, false)] (by kernel_rfl) (by kernel_rfl) (fun _ _ d _ _ h => by cases d <;> exact h) hc2 ?_
          simp only [List.map_cons, List.map_nil, pick_zero, pick_succ, List.drop_succ_cons, List.drop_zero]
          clear hc0 hc2 hc3
          iterate 7 (refine lin_q ?_ rfl ?_ ?_; rotate_left 1; (focus (rintro w' hq; go_simp; try with_reducible rfl)); simp only [Act.put, List.setIfInBounds_toArray, List.set_cons_zero, List.set_cons_succ])
          have HO8 := Lib.hid HO7.out.drew; clear HO7
          refine lin_act ?_
          refine wl_buildSlice rfl _ _ _ rfl HO8.out _ (by exact build_b2 _ _ _) ?_
          intro g9 w9 hO9
          have hO9' := hO9.toMid
          refine LinPost.mk (hO9'.right.tail.cell (.head _) 2) ?_
          have HO9 := Lib.hid hO9'; clear hO9 hO9' HO8
          simp only [Act.put, List.setIfInBounds_toArray, List.set_cons_zero, List.set_cons_succ]
          refine lin_act ?_
          refine wl_appendB rfl _ _ rfl _ bs (by rfl) HV2.out HO9.out (.slice (some ⟨g9, 0, none⟩) 2 2) [115, (b.size : Int)] (by rfl) (bs_mid (by simp) HO9.out) (by simp only [List.length_cons, List.length_nil]; omega) ?_
          intro v10 w10 L10 hv10 hO10
          refine LinPost.mk (hO10.right.tail.cell (.head _) 2) ?_
          have HV10 := Lib.hid hv10; have HO10 := Lib.hid hO10.strike; clear hv10 hO10 HV2 HO9
          simp only [Act.put, List.setIfInBounds_toArray, List.set_cons_zero, List.set_cons_succ]
          refine lin_act ?_
          refine wl_appendS rfl _ _ rfl _ _ (by rfl) HV10.out HO10.out b (by rfl) (by have := HBB.out; simp only [List.length_append, List.length_cons, List.length_nil]; omega) ?_
          intro v11 w11 L11 hv11 hO11
          refine LinPost.mk (hO11.right.cell (.head _) 2) ?_
          have HV11 := Lib.hid hv11; have HO11 := Lib.hid hO11.strike; clear hv11 hO11 HV10 HO10
          simp only [Act.put, List.setIfInBounds_toArray, List.set_cons_zero, List.set_cons_succ]
          refine lin_nil ?_
          go_wp2
          go_roundw
          case rel => exact ⟨k + 1, by omega, by go_num, _, L11, HSN.out _ HENC.out, HV11.out.cast (by simp), HO11.out⟩
          case measure => simp [intOf]; omega
        · have hb' : (255 < (b.size : Int)) := by omega
          have henc : enc1 (.s b) = none := by simp only [enc1]; rw [if_neg hb]
          have HENC := Lib.hid henc
          clear henc hb
          go_wp2_with (first | (refine wl_load rfl _ _ rfl g (k * 4) (rvs vs ++ sp) [.int .i64 2, .int .i64 0, .string b, .bool false] _ (HO2.out.heap (List.mem_append_right _ HM.out)) (by rfl) _ Try.underlying55 rfl rv_size HD.out ?_) | (refine wl_alloc rfl _ rfl HO2.out _ (alloc_rv _) ?_; intro g6 w6 hO6; have HO6 := Lib.hid hO6; clear hO6 HO2) | (refine wl_store rfl _ _ _ rfl HO6.out 0 g6 0 _ [.int .i64 2, .int .i64 0, .string b, .bool false] _ rfl (by rfl) (by rfl) rv_size (one_rv (.s b)) (by simp [rv]) ?_; intro w7 hO7'; have hO7 : Own w0 w7 ((g6, .cells ([.int .i64 2, .int .i64 0, .string b, .bool false] : List Value).toArray 55) :: (L2 ++ R)) := hO7'; have hc0 : w7.cell? ⟨g6, 0, none⟩ = some (.int .i64 2) := hO7.cell (.head _) 0; have hc2 : w7.cell? ⟨g6, 2, none⟩ = some (.string b) := hO7.cell (.head _) 2; have hc3 : w7.cell? ⟨g6, 3, none⟩ = some (.bool false) := hO7.cell (.head _) 3; have HO7 := Lib.hid hO7.toMid; clear hO7 hO7' HO6))
          go_ret2
          exact .inr ⟨HNO.out HENC.out, rfl, HO7.out.right.tail⟩
      | f b =>
        cases b with
        | false =>
          simp only [rv] at hd
          have HD := Lib.hid hd; clear hd
          go_wp2_with (first | (refine wl_load rfl _ _ rfl g (k * 4) (rvs vs ++ sp) [.int .i64 3, .int .i64 0, .string ⟨#[]⟩, .bool false] _ (HO2.out.heap (List.mem_append_right _ HM.out)) (by rfl) _ Try.underlying55 rfl rv_size HD.out ?_) | (refine wl_alloc rfl _ rfl HO2.out _ (alloc_rv _) ?_; intro g6 w6 hO6; have HO6 := Lib.hid hO6; clear hO6 HO2) | (refine wl_store rfl _ _ _ rfl HO6.out 0 g6 0 _ [.int .i64 3, .int .i64 0, .string ⟨#[]⟩, .bool false] _ rfl (by rfl) (by rfl) rv_size (one_rv (.f false)) (by simp [rv]) ?_; intro w7 hO7'; have hO7 : Own w0 w7 ((g6, .cells ([.int .i64 3, .int .i64 0, .string ⟨#[]⟩, .bool false] : List Value).toArray 55) :: (L2 ++ R)) := hO7'; have hc0 : w7.cell? ⟨g6, 0, none⟩ = some (.int .i64 3) := hO7.cell (.head _) 0; have hc2 : w7.cell? ⟨g6, 2, none⟩ = some (.string ⟨#[]⟩) := hO7.cell (.head _) 2; have hc3 : w7.cell? ⟨g6, 3, none⟩ = some (.bool false) := hO7.cell (.head _) 3; have HO7 := Lib.hid hO7.toMid; clear hO7 hO7' HO6) | (refine wl_appendB rfl _ _ rfl _ bs (by rfl) HV2.out (HO7.out.put2 _) (.slice (some ⟨_, 0, none⟩) 1 1) [_] (by rfl) (bs_one HO7.out 102) (by simp; omega) ?_; intro v8 w8 L8 hv8 hO8; have HV8 := Lib.hid hv8; have HO8 := Lib.hid hO8.strike; clear hv8 hO8 HV2 HO7))
          go_roundw
          case rel => exact ⟨k + 1, by omega, by go_num, _, L8, HSN.out _ rfl, HV8.out, HO8.out.strike⟩
          case measure => simp [intOf]; omega
        | true =>
          simp only [rv] at hd
          have HD := Lib.hid hd; clear hd
          go_wp2_with (first | (refine wl_load rfl _ _ rfl g (k * 4) (rvs vs ++ sp) [.int .i64 3, .int .i64 0, .string ⟨#[]⟩, .bool true] _ (HO2.out.heap (List.mem_append_right _ HM.out)) (by rfl) _ Try.underlying55 rfl rv_size HD.out ?_) | (refine wl_alloc rfl _ rfl HO2.out _ (alloc_rv _) ?_; intro g6 w6 hO6; have HO6 := Lib.hid hO6; clear hO6 HO2) | (refine wl_store rfl _ _ _ rfl HO6.out 0 g6 0 _ [.int .i64 3, .int .i64 0, .string ⟨#[]⟩, .bool true] _ rfl (by rfl) (by rfl) rv_size (one_rv (.f true)) (by simp [rv]) ?_; intro w7 hO7'; have hO7 : Own w0 w7 ((g6, .cells ([.int .i64 3, .int .i64 0, .string ⟨#[]⟩, .bool true] : List Value).toArray 55) :: (L2 ++ R)) := hO7'; have hc0 : w7.cell? ⟨g6, 0, none⟩ = some (.int .i64 3) := hO7.cell (.head _) 0; have hc2 : w7.cell? ⟨g6, 2, none⟩ = some (.string ⟨#[]⟩) := hO7.cell (.head _) 2; have hc3 : w7.cell? ⟨g6, 3, none⟩ = some (.bool true) := hO7.cell (.head _) 3; have HO7 := Lib.hid hO7.toMid; clear hO7 hO7' HO6) | (refine wl_appendB rfl _ _ rfl _ bs (by rfl) HV2.out (HO7.out.put2 _) (.slice (some ⟨_, 0, none⟩) 1 1) [_] (by rfl) (bs_one HO7.out 116) (by simp; omega) ?_; intro v8 w8 L8 hv8 hO8; have HV8 := Lib.hid hv8; have HO8 := Lib.hid hO8.strike; clear hv8 hO8 HV2 HO7))
          go_roundw
          case rel => exact ⟨k + 1, by omega, by go_num, _, L8, HSN.out _ rfl, HV8.out, HO8.out.strike⟩
          case measure => simp [intOf]; omega
      | z =>
        simp only [rv] at hd
        have HD := Lib.hid hd; clear hd
        go_wp2_with (first | (refine wl_load rfl _ _ rfl g (k * 4) (rvs vs ++ sp) [.int .i64 0, .int .i64 0, .string ⟨#[]⟩, .bool false] _ (HO2.out.heap (List.mem_append_right _ HM.out)) (by rfl) _ Try.underlying55 rfl rv_size HD.out ?_) | (refine wl_alloc rfl _ rfl HO2.out _ (alloc_rv _) ?_; intro g6 w6 hO6; have HO6 := Lib.hid hO6; clear hO6 HO2) | (refine wl_store rfl _ _ _ rfl HO6.out 0 g6 0 _ [.int .i64 0, .int .i64 0, .string ⟨#[]⟩, .bool false] _ rfl (by rfl) (by rfl) rv_size (one_rv (.z)) (by simp [rv]) ?_; intro w7 hO7'; have hO7 : Own w0 w7 ((g6, .cells ([.int .i64 0, .int .i64 0, .string ⟨#[]⟩, .bool false] : List Value).toArray 55) :: (L2 ++ R)) := hO7'; have hc0 : w7.cell? ⟨g6, 0, none⟩ = some (.int .i64 0) := hO7.cell (.head _) 0; have hc2 : w7.cell? ⟨g6, 2, none⟩ = some (.string ⟨#[]⟩) := hO7.cell (.head _) 2; have hc3 : w7.cell? ⟨g6, 3, none⟩ = some (.bool false) := hO7.cell (.head _) 3; have HO7 := Lib.hid hO7.toMid; clear hO7 hO7' HO6))
        go_ret2
        exact .inr ⟨HNO.out rfl, rfl, HO7.out.right.tail⟩
      | o t y =>
        simp only [rv] at hd
        have HD := Lib.hid hd; clear hd
        go_wp2_with (first | (refine wl_load rfl _ _ rfl g (k * 4) (rvs vs ++ sp) [.int .i64 0, .int .i64 0, .string ⟨#[]⟩, .bool false] _ (HO2.out.heap (List.mem_append_right _ HM.out)) (by rfl) _ Try.underlying55 rfl rv_size HD.out ?_) | (refine wl_alloc rfl _ rfl HO2.out _ (alloc_rv _) ?_; intro g6 w6 hO6; have HO6 := Lib.hid hO6; clear hO6 HO2) | (refine wl_store rfl _ _ _ rfl HO6.out 0 g6 0 _ [.int .i64 0, .int .i64 0, .string ⟨#[]⟩, .bool false] _ rfl (by rfl) (by rfl) rv_size (one_rv (.o t y)) (by simp [rv]) ?_; intro w7 hO7'; have hO7 : Own w0 w7 ((g6, .cells ([.int .i64 0, .int .i64 0, .string ⟨#[]⟩, .bool false] : List Value).toArray 55) :: (L2 ++ R)) := hO7'; have hc0 : w7.cell? ⟨g6, 0, none⟩ = some (.int .i64 0) := hO7.cell (.head _) 0; have hc2 : w7.cell? ⟨g6, 2, none⟩ = some (.string ⟨#[]⟩) := hO7.cell (.head _) 2; have hc3 : w7.cell? ⟨g6, 3, none⟩ = some (.bool false) := hO7.cell (.head _) 3; have HO7 := Lib.hid hO7.toMid; clear hO7 hO7' HO6))
        go_ret2
        exact .inr ⟨HNO.out rfl, rfl, HO7.out.right.tail⟩
    · obtain rfl : k = N := by omega
      go_wp2
      go_ret2
      obtain ⟨bs, L2, he2, hv2, hO2⟩ := HB.out
      rw [List.take_of_length_le (by rw [HN.out]; omega)] at he2
      exact .inl ⟨bs, _, L2, he2, rfl, hv2, hO2⟩
end Go.Proofs.Ytpapbmamkggfhaa
