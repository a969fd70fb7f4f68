/-
  MarkBack: whatever the numbers and bytes: what was sealed is opened as it was, with one byte turned at either end it is none, unlike things have unlike sectors: the law returns true.
-/
import Derived.Test.YtjdomggboikndaaL02a
import Derived.Test.YtjdomggboikndaaMark6
namespace Go.Proofs.Ytjdomggboikndaa
set_option linter.unusedVariables false
set_option linter.unusedSimpArgs false
open Go.ChangeShapes Go.WideShapes Go.ChangeAt Go.RowKit
open Go.ChangeMaps (open_string shut_string)

theorem build_ends (w : World) : (Instr.buildSlice 22 10 #[(0, .int .i64 0), (1, .int .i64 1), (2, .int .i64 2), (3, .int .i64 3), (4, .int .i64 4), (5, .int .i64 27), (6, .int .i64 28), (7, .int .i64 29), (8, .int .i64 30), (9, .int .i64 31)]).run Try.prog w = .ok (.slice (some ⟨w.heap.size, 0, none⟩) 10 10) (w.alloc (.cells (iv endsL).toArray 3)) := by kernel_rfl
theorem iv_get (xs : List Int) (k : Nat) (h : k < xs.length) : (iv xs).toArray[k]? = some (.int .i64 (xs.getD k 0)) := by simp [iv, h]
theorem set_getD (xs : List Int) (j : Nat) (h : j < xs.length) : xs.set j (xs.getD j 0) = xs := by
  rw [show xs.getD j 0 = xs[j] by simp [List.getD, h]]
  exact List.set_getElem_self h
set_option maxRecDepth 100000 in
set_option maxHeartbeats 4000000 in
theorem markBack_walk {w : World} (a0 : Int) (_ : (Lit.int .i64 a0).wf = true) (a1 : Int) (_ : (Lit.int .i64 a1).wf = true) (a2 : Int) (_ : (Lit.int .i64 a2).wf = true) (a3 : Int) (_ : (Lit.int .i64 a3).wf = true) (v4 : Value) (a4 : List Int) (h4 : InRow .u8 w v4 a4) (a5 : Int) (_ : (Lit.int .i64 a5).wf = true) (a6 : Int) (h6 : (Lit.int .u8 a6).wf = true) :
    Calls Try.prog 5 #[.int .i64 a0, .int .i64 a1, .int .i64 a2, .int .i64 a3, v4, .int .i64 a5, .int .u8 a6] w (Yes w) := by
  have HB4 := Lib.hid h4; clear h4
  have hc := bounds_u8 h6
  have HO := Lib.hid (Own.start w)
  have hq0 : 1 ≤ 1 + a3 % 255 := by omega
  have hq1 : 1 + a3 % 255 ≤ 255 := by omega
  go_enter Try.func5, Try.ntmps5
  go_wp2_with (first | (go_at_call 9; refine (within_c _ _ (by omega) (by omega)).mono ?_; rintro e w' ⟨rfl, rfl⟩) | (refine wl_build rfl _ _ rfl _ (by exact build_mark _ _ _) ?_) | (refine wl_alloc rfl _ rfl HO.out _ (alloc_mark _) ?_; intro gm w1 hO1; have HO1 := Lib.hid hO1; clear hO1 HO) | (refine wl_store rfl _ _ _ rfl HO1.out 0 gm 0 _ [Value.int .i64 (a0 % 65536), Value.int .i64 (a1 % 16777216)] _ rfl (by rfl) (by rfl) mark_size (one_2i _ _) (by simp) ?_; intro w2 hO2; have HO2 := Lib.hid hO2; clear hO2 HO1))
  have hO2 : Own w w2 ((gm, Obj.cells #[Value.int .i64 (a0 % 65536), Value.int .i64 (a1 % 16777216)] 44) :: []) := HO2.out
  clear HO2
  have hE1 : 0 ≤ a0 % 65536 := by omega
  have hE2 : a0 % 65536 ≤ 65535 := by omega
  have hS1 : 0 ≤ a1 % 16777216 := by omega
  have hS2 : a1 % 16777216 ≤ 16777215 := by omega
  have hp0 : 0 ≤ a2 % (1 + a3 % 255) := Int.emod_nonneg _ (by omega)
  have hp1 : a2 % (1 + a3 % 255) < 1 + a3 % 255 := Int.emod_lt_of_pos _ (by omega)
  have hcall := cut_19 hO2 v4 a4 (HB4.out.rd _)
  with_reducible refine hcall.mono ?_
  clear hcall
  rintro e w3 ⟨vb, Lb, rfl, hb, hO3⟩
  clear hO2
  generalize a0 % 65536 = E at *
  generalize a1 % 16777216 = S at *
  generalize a2 % (1 + a3 % 255) = p at *
  generalize 1 + a3 % 255 = q at *
  have hbl : (a4.take 19).length ≤ 19 := by simp; omega
  have hbb : Byt (a4.take 19) := byt_take HB4.out.byt 19
  generalize a4.take 19 = bs at *
  have hok : okSeal E S p q bs.length = true := okSeal_mk (by omega)
  have HBB := Lib.hid hbb; have HK := Lib.hid hok; have HO3 := Lib.hid hO3; have HVB := Lib.hid hb
  clear hbb hok hO3 hb
  have hc0 : w3.cell? ⟨gm, 0, none⟩ = some (.int .i64 E) := HO3.out.cell (List.mem_append_right _ (.head _)) 0
  have hc1 : w3.cell? ⟨gm, 1, none⟩ = some (.int .i64 S) := HO3.out.cell (List.mem_append_right _ (.head _)) 1
  go_wp2_with fail
  have hcall := seal_ok HO3.out E S p q vb bs (HVB.out.rd sub_here) HK.out
  with_reducible refine hcall.mono ?_
  clear hcall hc0 hc1
  rintro e w4 ⟨vs, Ls, rfl, hs, hO4⟩
  obtain ⟨gs, cs, sps, rfl, rfl, hcs'⟩ := hs.blkn 32 (length_sealed _ _ _ _ _ hbl) (by omega)
  have HVS := Lib.hid hs; have HO4 := Lib.hid hO4; clear hs hO4 HO3
  go_wp2_with fail
  have hcall := open_is HO4.out _ _ (HVS.out.rd sub_here) (byt_sealed HK.out HBB.out) _ (openR_sealed HK.out)
  with_reducible refine hcall.mono ?_
  clear hcall
  rintro e w5 ⟨vd, Ld, rfl, hd, hO5⟩
  have hO5' : Own w w5 ((gs, Obj.cells (List.toArray (bv (sealed E S p q bs) ++ sps)) 5) :: (Ld ++ (Lb ++ [(gm, Obj.cells #[Value.int .i64 E, Value.int .i64 S] 44)]))) := hO5.rot
  have HVD := Lib.hid hd; have HO5 := Lib.hid hO5'; clear hd hO5 hO5' HO4
  go_wp2_with (first | (refine wl_alloc rfl _ rfl HO5.out _ (alloc_mark _) ?_; intro gx w6 hO6; have HO6 := Lib.hid hO6; clear hO6 HO5) | (refine wl_store rfl _ _ _ rfl HO6.out 0 gx 0 _ [Value.int .i64 E, Value.int .i64 S] _ rfl (by rfl) (by rfl) mark_size (one_2i _ _) (by simp) ?_; intro w7 hO7; have hO7' : Own w w7 ((gx, Obj.cells #[Value.int .i64 E, Value.int .i64 S] 44) :: (gs, Obj.cells (List.toArray (bv (sealed E S p q bs) ++ sps)) 5) :: (Ld ++ (Lb ++ [(gm, Obj.cells #[Value.int .i64 E, Value.int .i64 S] 44)]))) := hO7; have hx0 : w7.cell? ⟨gx, 0, none⟩ = some (.int .i64 E) := hO7'.cell (.head _) 0; have hx1 : w7.cell? ⟨gx, 1, none⟩ = some (.int .i64 S) := hO7'.cell (.head _) 1; have hm0 : w7.cell? ⟨gm, 0, none⟩ = some (.int .i64 E) := hO7'.cell (.tail _ (.tail _ (List.mem_append_right _ (List.mem_append_right _ (.head _))))) 0; have hm1 : w7.cell? ⟨gm, 1, none⟩ = some (.int .i64 S) := hO7'.cell (.tail _ (.tail _ (List.mem_append_right _ (List.mem_append_right _ (.head _))))) 1; have HO7 := Lib.hid hO7'; clear hO7 hO7' HO6))
  have h1 := HVD.out.bs_sub HO7.out (sub_there (B := [_, _]) sub_here)
  have h2 := HVB.out.bs_sub HO7.out (sub_there (B := [_, _]) (sub_there sub_here))
  have hcall := same_c vd vb bs bs h1 h2 (by omega)
  with_reducible refine hcall.mono ?_
  clear hcall h1 h2 hx0 hx1 hm0 hm1
  rintro e w8 ⟨rfl, m8, rfl⟩
  rw [show decide (bs = bs) = true by simp]
  have hO8 := HO7.out.drewN m8
  generalize w7.drewN m8 = w8 at hO8
  have hm0 : w8.cell? ⟨gm, 0, none⟩ = some (.int .i64 E) := hO8.cell (.tail _ (.tail _ (List.mem_append_right _ (List.mem_append_right _ (.head _))))) 0
  have hm1 : w8.cell? ⟨gm, 1, none⟩ = some (.int .i64 S) := hO8.cell (.tail _ (.tail _ (List.mem_append_right _ (List.mem_append_right _ (.head _))))) 1
  have HO8 := Lib.hid hO8.tail; clear hO8 HO7
  have hx1 := xor1 hS1 hS2
  go_wp2_with ((refine wl_build rfl _ _ rfl _ (by exact build_mark _ _ _) ?_))
  generalize bits .xor .i64 S 1 = S' at *
  have hok' : okSeal E S' p q bs.length = true := okSeal_mk (by omega)
  have hcall := seal_ok HO8.out E S' p q vb bs (HVB.out.rd (sub_there (B := [_]) (sub_there sub_here))) hok'
  with_reducible refine hcall.mono ?_
  clear hcall hm0 hm1 hok'
  rintro e w9 ⟨vt, Lt, rfl, ht, hO9⟩
  obtain ⟨gt, ct, spt, rfl, rfl, hct⟩ := ht.blkn 32 (length_sealed _ _ _ _ _ hbl) (by omega)
  have hO9' : Own w w9 ((gs, Obj.cells (List.toArray (bv (sealed E S p q bs) ++ sps)) 5) :: (gt, Obj.cells (List.toArray (bv (sealed E S' p q bs) ++ spt)) 5) :: (Ld ++ (Lb ++ [(gm, Obj.cells #[Value.int .i64 E, Value.int .i64 S] 44)]))) := hO9.perm (.swap _ _ _)
  have HVT := Lib.hid ht; have HO9 := Lib.hid hO9'; clear ht hO9 hO9' HO8
  have hbe := build_ends
  have hk9 : (a5 % 10).toNat < 10 := by omega
  go_wp2_with ((refine wl_buildSlice rfl _ _ _ rfl HO9.out _ (by exact hbe _) ?_; intro ge w10 hO10; have HO10 := Lib.hid hO10; clear hO10 HO9))
  have hcall := within_n (w := w10) a5 10 (by omega) (by omega)
  with_reducible refine hcall.mono ?_
  clear hcall hbe
  rintro e w' ⟨rfl, rfl⟩
  generalize (a5 % 10).toNat = k at *
  have hj := endAt_lt k hk9
  have hcj : w10.cell? ⟨ge, k, none⟩ = some (.int .i64 (endAt k : Int)) := by rw [HO10.out.cell (.head _) k, iv_get endsL k (by simp [endsL]; omega), endAt_get k hk9]
  have hls := length_sealed E S p q bs hbl
  have hcs : w10.cell? ⟨gs, endAt k, none⟩ = some (.int .u8 ((sealed E S p q bs).getD (endAt k) 0)) := by
    rw [HO10.out.cell (.tail _ (.head _)) _, bv_get_sp _ _ _ (by omega)]
    simp [List.getD, show endAt k < (sealed E S p q bs).length by omega]
  have hxx := getD_byt (byt_sealed HK.out HBB.out) (endAt k)
  have HSP := Lib.hid (spoil_no (isSeal_sealed HK.out) k hk9)
  have HOT := Lib.hid (other_no (e := E) (s := S) (s' := S') (p := p) (q := q) hbl (endAt k) hj)
  have hx8 := xor8 hxx.1 hxx.2 hc.1 hc.2
  generalize hxv : (sealed E S p q bs).getD (endAt k) 0 = x at *
  have HXV := Lib.hid hxv; clear hxv
  generalize endAt k = j at *
  have hk0 : (k : Int) < 10 := by omega
  have hj0 : (j : Int) < 32 := by omega
  have HX8 := Lib.hid hx8; have HLS := Lib.hid hls; clear hx8 hls
  go_wp2_with ((refine wl_store1 rfl _ _ _ rfl HO10.out 1 gs j _ (.int .u8 (bits .xor .u8 x a6)) _ rfl (by rfl) (by rfl) (by rfl) (by kernel_rfl) (by rfl) (by simp only [List.size_toArray, List.length_append, length_bv, HLS.out]; omega) ?_; intro w11 hO11; have HO11 := Lib.hid hO11; clear hO11 HO10))
  have hO11 := HO11.out
  simp only [List.set_cons_succ, List.set_cons_zero] at hO11
  rw [bv_set_sp _ _ _ _ (by rw [HLS.out]; exact hj)] at hO11
  have hl' : ((sealed E S p q bs).set j (bits .xor .u8 x a6)).length = 32 := by rw [List.length_set]; exact HLS.out
  have hb' : Byt ((sealed E S p q bs).set j (bits .xor .u8 x a6)) := by
    intro y hy
    rcases List.mem_or_eq_of_mem_set hy with hy | rfl
    · exact byt_sealed HK.out HBB.out y hy
    · exact ⟨HX8.out.1, HX8.out.2.1⟩
  have hop : (if a6 = 0 then isSeal ((sealed E S p q bs).set j (bits .xor .u8 x a6)) = true else isSeal ((sealed E S p q bs).set j (bits .xor .u8 x a6)) = false) := by
    split
    · rename_i h0
      rw [HX8.out.2.2.2 h0, ← HXV.out, set_getD _ _ (by rw [HLS.out]; exact hj)]
      exact isSeal_sealed HK.out
    · rename_i h0
      exact HSP.out _ (fun e => h0 (HX8.out.2.2.1 e))
  have hne := HOT.out (bits .xor .u8 x a6) hx1.2.2
  clear HO11 HSP HOT
  generalize (sealed E S p q bs).set j (bits .xor .u8 x a6) = xs' at *
  have hrd : Rd w ((ge, Obj.cells (iv endsL).toArray 3) :: (gs, Obj.cells (List.toArray (bv xs' ++ sps)) 5) :: (gt, Obj.cells (List.toArray (bv (sealed E S' p q bs) ++ spt)) 5) :: (Ld ++ (Lb ++ [(gm, Obj.cells #[Value.int .i64 E, Value.int .i64 S] 44)]))) (.slice (some ⟨gs, 0, none⟩) 32 cs) xs' := by
    have := rd_blk (w0 := w) (R := (ge, Obj.cells (iv endsL).toArray 3) :: (gs, Obj.cells (List.toArray (bv xs' ++ sps)) 5) :: (gt, Obj.cells (List.toArray (bv (sealed E S' p q bs) ++ spt)) 5) :: (Ld ++ (Lb ++ [(gm, Obj.cells #[Value.int .i64 E, Value.int .i64 S] 44)]))) (.tail _ (.head _)) 0 32 cs (by omega) hcs'
    rwa [List.drop_zero, List.take_of_length_le (by omega)] at this
  have HRD := Lib.hid hrd; have HB' := Lib.hid hb'; have HOP := Lib.hid hop; have HNE := Lib.hid hne; have HL' := Lib.hid hl'; have HO11 := Lib.hid hO11
  clear hrd hb' hop hne hl' hO11 hx1 hcj hcs
  have hrr : ∃ o, openR xs' = o ∧ o.r = (if a6 = 0 then 0 else 2) := by
    refine ⟨_, rfl, ?_⟩
    have := HOP.out
    split
    · rename_i h0; rw [if_pos h0] at this; exact openR_r.2 this
    · rename_i h0; rw [if_neg h0] at this; rw [openR_r2 this]
  obtain ⟨o, ho, hr⟩ := hrr
  have hcall := open_is HO11.out _ xs' HRD.out HB'.out o ho
  with_reducible refine hcall.mono ?_
  clear hcall ho HOP
  rintro e w12 ⟨vz, Lz, rfl, hz, hO12⟩
  have HO12 := Lib.hid hO12.right; clear hO12 HO11 hz
  obtain ⟨oe, os, op, oq, ob, or⟩ := o
  simp only at hr
  by_cases h0 : a6 = 0
  · rw [if_pos h0] at hr
    subst h0
    subst hr
    go_wp2_with (first | (refine wl_alloc rfl _ rfl HO12.out _ (alloc_mark _) ?_; intro gz w13 hO13; have HO13 := Lib.hid hO13; clear hO13 HO12) | (refine wl_store rfl _ _ _ rfl HO13.out 0 gz 0 _ [Value.int .i64 oe, Value.int .i64 os] _ rfl (by rfl) (by rfl) mark_size (one_2i _ _) (by simp) ?_; intro w14 hO14; have HO14 := Lib.hid hO14.tail; clear hO14 HO13))
    have h1 := HRD.out w14 [] HO14.out
    have h2 := HVT.out.bs_sub HO14.out (sub_there (B := [_, _]) (List.sublist_append_left [_] _))
    have hcall := same_c _ _ xs' (sealed E S' p q bs) h1 h2 (by rw [HL'.out]; omega)
    rw [decide_eq_false HNE.out] at hcall
    with_reducible refine hcall.mono ?_
    clear hcall h1 h2
    rintro e w15 ⟨rfl, m15, rfl⟩
    have HO15 := Lib.hid (HO14.out.drewN m15); clear HO14
    generalize w14.drewN m15 = w15 at HO15
    go_wp2_with fail
    have hcall := wakes2_c HO15.out
    with_reducible refine hcall.mono ?_
    clear hcall
    rintro e w16 ⟨rfl, hO16⟩
    have HO16 := Lib.hid hO16; clear hO16 HO15
    go_wp2
    go_ret
    exact HO16.out.yes rfl
  · rw [if_neg h0] at hr
    subst hr
    have h0' : (a6 == 0) = false := by simp [h0]
    clear h0
    go_wp2_with (first | (refine wl_alloc rfl _ rfl HO12.out _ (alloc_mark _) ?_; intro gz w13 hO13; have HO13 := Lib.hid hO13; clear hO13 HO12) | (refine wl_store rfl _ _ _ rfl HO13.out 0 gz 0 _ [Value.int .i64 oe, Value.int .i64 os] _ rfl (by rfl) (by rfl) mark_size (one_2i _ _) (by simp) ?_; intro w14 hO14; have HO14 := Lib.hid hO14.tail; clear hO14 HO13))
    have h1 := HRD.out w14 [] HO14.out
    have h2 := HVT.out.bs_sub HO14.out (sub_there (B := [_, _]) (List.sublist_append_left [_] _))
    have hcall := same_c _ _ xs' (sealed E S' p q bs) h1 h2 (by rw [HL'.out]; omega)
    rw [decide_eq_false HNE.out] at hcall
    with_reducible refine hcall.mono ?_
    clear hcall h1 h2
    rintro e w15 ⟨rfl, m15, rfl⟩
    have HO15 := Lib.hid (HO14.out.drewN m15); clear HO14
    generalize w14.drewN m15 = w15 at HO15
    go_wp2_with fail
    have hcall := wakes2_c HO15.out
    with_reducible refine hcall.mono ?_
    clear hcall
    rintro e w16 ⟨rfl, hO16⟩
    have HO16 := Lib.hid hO16; clear hO16 HO15
    go_wp2
    go_ret
    exact HO16.out.yes rfl
set_option maxRecDepth 100000 in
theorem markBack_lifted (os : Os) (started : os.Started) (H : Type) (enc : TypeId × Value → H) :
    ReturnsInHanded {} Try.checked os 5 .any (Rows.markBackSpec.pre6 enc Try.prog Try.f5 Rows.markBackRow.domain false) (Rows.markBackSpec.post enc Try.prog Try.f5 false true false false) := by
  refine returnsInHanded_of_change (C := Try.checked) (by kernel_rfl) started (by kernel_rfl) Try.func5
    (ChangeSpec.witness6 (enc := enc) (C := Try.checked) false ⟨#[], #[.int .i64 0, .int .i64 0, .int .i64 0, .int .i64 0, .slice none 0 0, .int .i64 0, .int .u8 0], []⟩ 8 (by kernel_rfl) (by kernel_rfl) (by kernel_rfl) (by kernel_rfl)) ?_
  intro W base args ds gs before hval0 hW hcnd _
  have hval : ∀ (j : Nat) t v, Try.f5.params[j]? = some t → args[j]? = some v → Value.okWide Try.prog W .any base t v := hval0
  have hW' := hW
  obtain ⟨p, q, hA0, hV, rfl, hfz, hnd⟩ := hW
  have hA : DataW.TrodAll enc Try.prog W 0 (fun _ => true) true Try.f5.params.toList args.toList ds p := hA0
  rw [Try.params5] at hA hval
  obtain ⟨v0, vs0, d0, ds0, p0, q0, hargs, rfl, rfl, h0, r0⟩ := trodAll_cons hA
  obtain ⟨v1, vs1, d1, ds1, p1, q1, rfl, rfl, rfl, h1, r1⟩ := trodAll_cons r0
  obtain ⟨v2, vs2, d2, ds2, p2, q2, rfl, rfl, rfl, h2, r2⟩ := trodAll_cons r1
  obtain ⟨v3, vs3, d3, ds3, p3, q3, rfl, rfl, rfl, h3, r3⟩ := trodAll_cons r2
  obtain ⟨v4, vs4, d4, ds4, p4, q4, rfl, rfl, rfl, h4, r4⟩ := trodAll_cons r3
  obtain ⟨v5, vs5, d5, ds5, p5, q5, rfl, rfl, rfl, h5, r5⟩ := trodAll_cons r4
  obtain ⟨v6, vs6, d6, ds6, p6, q6, rfl, rfl, rfl, h6, r6⟩ := trodAll_cons r5
  obtain ⟨rfl, rfl, rfl⟩ := trodAll_nil r6
  obtain rfl : args = #[v0, v1, v2, v3, v4, v5, v6] := by cases args; simp_all
  obtain ⟨rfl, rfl⟩ := trodVars_none hV
  obtain ⟨a0, rfl, rfl, rfl, w0⟩ := open_int Try.underlying3 (hval 0 3 v0 rfl rfl) h0
  obtain ⟨a1, rfl, rfl, rfl, w1⟩ := open_int Try.underlying3 (hval 1 3 v1 rfl rfl) h1
  obtain ⟨a2, rfl, rfl, rfl, w2⟩ := open_int Try.underlying3 (hval 2 3 v2 rfl rfl) h2
  obtain ⟨a3, rfl, rfl, rfl, w3⟩ := open_int Try.underlying3 (hval 3 3 v3 rfl rfl) h3
  obtain ⟨b4, len4, cap4, rfl⟩ := okWide_slice Try.underlying27 (hval 4 27 v4 rfl rfl)
  have k4 := h4
  have lt4 : ∀ x ∈ p4, x.block < W.heap.size := by obtain ⟨m, hm⟩ := k4; exact DataW.trod_lt m _ _ _ hm
  obtain ⟨a4, w4⟩ : ∃ xs, InRow .u8 W (.slice b4 len4 cap4) xs := by
    obtain ⟨fuel, hf⟩ := h4
    rcases open_ints Try.underlying27 Try.underlying5 (by kernel_rfl) hf with ⟨hcs, _⟩ | ⟨x, l, c, zs, hcs, _, hl, hm, hz, _, hcell, hwz⟩
    · simp [Value.cells] at hcs
      obtain ⟨rfl, rfl, rfl⟩ := hcs
      exact ⟨[], inRow_nil _ _⟩
    · simp [Value.cells] at hcs
      obtain ⟨rfl, rfl, rfl⟩ := hcs
      exact ⟨zs.take len4, inRow_mk hl hm (by simpa using hz) hcell hwz⟩
  obtain ⟨a5, rfl, rfl, rfl, w5⟩ := open_int Try.underlying3 (hval 5 3 v5 rfl rfl) h5
  obtain ⟨a6, rfl, rfl, rfl, w6⟩ := open_int Try.underlying5 (hval 6 5 v6 rfl rfl) h6
  clear hA0 hval0
  refine (markBack_walk a0 w0 a1 w1 a2 w2 a3 w3 _ a4 w4 a5 w5 a6 w6).mono fun e W' ⟨he, bel⟩ => ?_
  subst he
  exact ⟨_, rfl, _, _, _, [], _, [], hW', trodAll_mk1 (shut_bool Try.underlying4 _), (trodAll_cons_mk (shut_int Try.underlying3 w0) (trodAll_cons_mk (shut_int Try.underlying3 w1) (trodAll_cons_mk (shut_int Try.underlying3 w2) (trodAll_cons_mk (shut_int Try.underlying3 w3) (trodAll_cons_mk (Below.trod laidOut (by kernel_rfl) (of_decide_eq_true (by kernel_rfl)) k4 bel lt4) (trodAll_cons_mk (shut_int Try.underlying3 w5) (trodAll_cons_mk (shut_int Try.underlying5 w6) trodAll_mk0))))))), rfl, bel.frame _, fun h => by cases h⟩

/-- The statement. -/
theorem markBack_proved : Rows.MarkBackSaid :=
  OpenClaim.holds_of_wide 5 Try.f5 rfl rfl rfl rfl rfl rfl rfl ⟨rfl, rfl, rfl, rfl, rfl⟩ rfl rfl rfl rfl rfl (by kernel_rfl) Try.func5 (by kernel_rfl)
    (of_decide_eq_true (by kernel_rfl)) (by unfold Func.isWrapper; first | (rw [if_pos (by decide +kernel)]; kernel_rfl) | (rw [if_neg (by decide +kernel)]; exact ⟨rfl, rfl⟩))
    (fun os started H enc _ => markBack_lifted os started H enc)
end Go.Proofs.Ytjdomggboikndaa

