/-
  DiskMemory: whatever n, k and c: what is written may change behind that, what is read as well, a clone goes its own way: the law returns true.
-/
import Derived.Test.YtdngllegoljpeaaL01a
namespace Go.Proofs.Ytdngllegoljpeaa
set_option linter.unusedVariables false
set_option linter.unusedSimpArgs false
open Go.ChangeShapes Go.WideShapes Go.ChangeAt Go.RowKit
open Go.ChangeMaps (open_string shut_string)

theorem build_int1' (k : Int) (w : World) : (Instr.buildSlice 22 1 #[(0, .int .i64 k)]).run Try.prog w = .ok (.slice (some ⟨w.heap.size, 0, none⟩) 1 1) (w.alloc (.cells (iv [k]).toArray 3)) := by kernel_rfl
theorem build_int2 (k m : Int) (w : World) : (Instr.buildSlice 22 2 #[(0, .int .i64 k), (1, .int .i64 m)]).run Try.prog w = .ok (.slice (some ⟨w.heap.size, 0, none⟩) 2 2) (w.alloc (.cells (iv [k, m]).toArray 3)) := by kernel_rfl
theorem rdv_block' {w0 : World} {R : Blks} {g n c : Nat} {vs : List Value} {t : TypeId} (hm : (g, Obj.cells vs.toArray t) ∈ R) (hn : vs.length = n) (hc : n ≤ c) : RdV w0 R (.slice (some ⟨g, 0, none⟩) n c) vs := by
  intro w' L' hO
  refine ⟨_, _, _, rfl, hn, hc, fun _ => ⟨_, rfl, fun j u hu => ?_⟩⟩
  rw [addr_add_zero, hO.cell (List.mem_append_right _ hm) j]
  simpa using hu
set_option maxRecDepth 100000 in
set_option maxHeartbeats 4000000 in
theorem diskMemory_walk (a0 : Int) (_ : (Lit.int .i64 a0).wf = true) (a1 : Int) (_ : (Lit.int .i64 a1).wf = true) (a2 : Int) (_ : (Lit.int .u8 a2).wf = true) (w : World) :
    Calls Try.prog 5 #[.int .i64 a0, .int .i64 a1, .int .u8 a2] w (Yes w) := by
  have hwi := within_c (w := w) a1 32 (by omega) (by omega)
  obtain ⟨k, hk⟩ := Int.eq_ofNat_of_zero_le (show 0 ≤ a1 % 32 by omega)
  have hk1 : k < 32 := by omega
  have HK := Lib.hid hk
  clear hk hwi
  have hk0 : (0 : Int) ≤ k := by omega
  have hk32 : (k : Int) < 32 := by omega
  go_enter Try.func5, Try.ntmps5
  go_wp2_with fail
  have hcall := new_is (Own.start w) 2 2 rfl
  with_reducible refine hcall.mono ?_
  clear hcall
  rintro e w1 ⟨d, Ld, rfl, hd, hO⟩
  obtain ⟨bd, rfl⟩ := hd.ptr
  have HD := Lib.hid hd; have HO := Lib.hid hO; clear hO hd
  go_wp2_with fail
  have hcall := within_c (w := w1) a1 32 (by omega) (by omega)
  with_reducible refine hcall.mono ?_
  clear hcall
  rintro e w' ⟨rfl, rfl⟩
  rw [HK.out]
  go_wp2_with fail
  have hcall := bytes32_c HO.out a0
  with_reducible refine hcall.mono ?_
  clear hcall
  rintro e w2 ⟨x, Lx, rfl, hx, hO2⟩
  have hxl := length_pbytes a0 32
  generalize pbytes a0 32 = xs at *
  have HXL := Lib.hid hxl
  obtain ⟨gx, cx, sx, rfl, rfl, hset⟩ := hx.blk (by omega)
  rw [hxl] at hset hx
  rw [hxl]
  have HX := Lib.hid hx; have HS := Lib.hid hset; have HO2 := Lib.hid hO2
  clear hx hset hO2 hxl HO
  go_wp2_with fail
  have hcall := copy_c HO2.out ⟨gx, 0, none⟩ 32 cx xs (HX.out.rd sub_here) (by omega)
  with_reducible refine hcall.mono ?_
  clear hcall
  rintro e w3 ⟨vw, Lw, rfl, hw, hO3⟩
  obtain ⟨aw, cw, hvw⟩ := hw.val
  rw [HXL.out] at hvw
  subst hvw
  have HW := Lib.hid hw; have HO3 := Lib.hid hO3.rot3; clear hw hO3 HO2
  go_wp2_with fail
  have hwr := write_go (s := newSt 2) (i := 1) (xs := xs) (by rfl) HXL.out rfl
  have hcall := write_is HD.out HO3.out 1 _ xs (HX.out.rd (sub_there sub_here)) (by simp [newSt_pend]) ⟨zsecs 2, [(1, xs)], -1, false⟩ 0 hwr.1 hwr.2
  with_reducible refine hcall.mono ?_
  clear hcall
  rintro e w4 ⟨rfl, L4, hd4, hO4⟩
  have HD4 := Lib.hid hd4; have hO5 := hO4.rot3; clear hd4 hO4 HD HO3 hwr
  have hkx : k < xs.length := by rw [HXL.out]; exact hk1
  have hcx : w4.cell? ⟨gx, k, none⟩ = some (.int .u8 xs[k]) := by rw [hO5.cell (.head _) k]; exact bv_get_sp xs sx k hkx
  have HO5 := Lib.hid hO5
  have HKX := Lib.hid hkx
  clear hO5
  go_wp2_with (refine wl_store1 rfl _ _ _ rfl HO5.out 0 gx k _ (.int .u8 (bits .xor .u8 (xs[k]'HKX.out) (bits .or .u8 a2 1))) _ rfl (by rfl) (by rfl) (by rfl) (by kernel_rfl) (by rfl) (by simp only [List.size_toArray, List.length_append, length_bv]; have := HKX.out; omega) ?_; intro w5 hO5; rw [bv_set_sp _ _ _ _ HKX.out] at hO5; have HO6 := Lib.hid hO5; clear hO5 HO5)
  generalize hxe : xs.set k (bits .xor .u8 (xs[k]'HKX.out) (bits .or .u8 a2 1)) = xs' at *
  have hxl' : xs'.length = 32 := by rw [← hxe]; simp [HXL.out]
  have HXL' := Lib.hid hxl'
  have HX' := Lib.hid (HS.out xs' hxl')
  clear hxe hcx hxl' HX
  have hO6 : Own w w5 (L4 ++ ([(gx, Obj.cells (List.toArray (bv xs' ++ sx)) 5)] ++ (Lw ++ []))) := Own.rot (A := [_]) HO6.out
  have hcall := read_ok HD4.out hO6 1 xs (by rfl) (by rfl)
  with_reducible refine hcall.mono ?_
  clear hcall
  rintro e w6 ⟨vy, Ly, L6, rfl, hd6, hO7, hy⟩
  obtain ⟨gy, cy, sy, hvy, hLy, _⟩ := hy.blk (by rw [HXL.out]; omega)
  rw [HXL.out] at hvy
  subst hvy hLy
  have hby := Lib.hid (hy.bs hO7)
  have hbw := Lib.hid (HW.out.bs_sub hO7 (sub_there (sub_there (sub_there sub_here))))
  have HD6 := Lib.hid hd6; have HO7 := Lib.hid hO7; clear hd6 hO7 hO6 hy HD4 HO6
  go_wp2_with fail
  have hcall := same_c _ _ xs xs hby.out hbw.out (by rw [HXL.out]; omega)
  with_reducible refine hcall.mono ?_
  clear hcall
  rintro e w' ⟨rfl, m, rfl⟩
  rw [show decide (xs = xs) = true by simp]
  have hO8 := HO7.out.drewN m
  generalize w6.drewN m = w7 at *
  have hcy : w7.cell? ⟨gy, k, none⟩ = some (.int .u8 (xs[k]'HKX.out)) := by rw [hO8.cell (.head _) k]; exact bv_get_sp xs sy k HKX.out
  have HO8 := Lib.hid hO8
  clear hO8 HO7 hby hbw
  go_wp2_with (refine wl_store1 rfl _ _ _ rfl HO8.out 0 gy k _ _ _ rfl (by rfl) (by rfl) (by rfl) (by kernel_rfl) (by rfl) (by simp only [List.size_toArray, List.length_append, length_bv]; have := HKX.out; omega) ?_; intro w8 hO9; have HO9 := Lib.hid hO9.tail; clear hO9 HO8)
  clear hcy
  have hcall := clone_c HD6.out HO9.out
  with_reducible refine hcall.mono ?_
  clear hcall
  rintro e w9 ⟨f, Lf, L9, rfl, hf, hd9, hO10⟩
  obtain ⟨bf, rfl⟩ := hf.ptr
  have hpf := Lib.hid (pending_is hf hO10 1 rfl)
  have HF := Lib.hid hf; have HD9 := Lib.hid hd9; have HO10 := Lib.hid hO10; clear hf hd9 hO10 HD6 HO9
  go_wp2_with fail
  with_reducible refine hpf.out.mono ?_
  rintro e w' ⟨rfl, rfl⟩
  clear hpf
  go_wp2_with fail
  have hwr := write_go (s := ⟨zsecs 2, [(1, xs)], -1, false⟩) (i := 1) (xs := xs') (by rfl) HXL'.out rfl
  have hcall := write_is HF.out HO10.out 1 _ xs' (HX'.out.rd (sub_there sub_here)) (by simp) ⟨zsecs 2, [(1, xs), (1, xs')], -1, false⟩ 0 hwr.1 hwr.2
  with_reducible refine hcall.mono ?_
  clear hcall
  rintro e w10 ⟨rfl, L10, hf10, hO11⟩
  have HF10 := Lib.hid hf10; have HO11 := Lib.hid hO11; clear hf10 hO11 HF HO10 hwr
  have hbi := build_int2 2 2
  go_wp2_with (refine wl_buildSlice rfl _ _ _ rfl HO11.out _ (by exact hbi _) ?_; intro gk w11 hO12; have HO12 := Lib.hid hO12; clear hO12 HO11)
  have hO12 := Own.rot (A := [_]) HO12.out
  have hcall := crash_is HF10.out hO12 (.slice (some ⟨gk, 0, none⟩) 2 2) [2, 2] (rdv_block' (t := 3) (List.mem_append_left _ (.head _)) rfl (Nat.le_refl _)) ⟨[zsec, xs'], [], -1, false⟩ rfl
  with_reducible refine hcall.mono ?_
  clear hcall
  rintro e w12 ⟨rfl, L12, hf12, hO13⟩
  have HF12 := Lib.hid hf12; have HO13 := Lib.hid hO13.rot3; clear hf12 hO13 HF10 HO12 hO12 hbi
  go_wp2_with fail
  have hcall := read_ok HD9.out HO13.out 1 xs (by rfl) (by rfl)
  with_reducible refine hcall.mono ?_
  clear hcall
  rintro e w13 ⟨vz, Lz, L13, rfl, hd13, hO14, hz⟩
  have HD13 := Lib.hid hd13; have HZ := Lib.hid hz; have HO14 := Lib.hid hO14.rot3
  obtain ⟨az, cz, hvz⟩ := hz.val
  rw [HXL.out] at hvz
  subst hvz
  clear hd13 hz hO14 HD9 HO13
  go_wp2_with fail
  have hcall := read_ok HF12.out HO14.out 1 xs' (by rfl) (by rfl)
  with_reducible refine hcall.mono ?_
  clear hcall
  rintro e w14 ⟨vq, Lq, L14, rfl, hf14, hO15, hq⟩
  have HQ := Lib.hid hq; have HO15 := Lib.hid hO15.rot4
  obtain ⟨aq, cq, hvq⟩ := hq.val
  rw [HXL'.out] at hvq
  subst hvq
  clear hf14 hq hO15 HF12 HO14
  have hbi := build_int1' 2
  go_wp2_with (refine wl_buildSlice rfl _ _ _ rfl HO15.out _ (by exact hbi _) ?_; intro gl w15 hO16; have HO16 := Lib.hid hO16; clear hO16 HO15)
  have hO16 := Own.rot (A := [_]) HO16.out
  have hcall := crash_is HD13.out hO16 (.slice (some ⟨gl, 0, none⟩) 1 1) [2] (rdv_block' (t := 3) (List.mem_append_left _ (.head _)) rfl (Nat.le_refl _)) ⟨[zsec, xs], [], -1, false⟩ rfl
  with_reducible refine hcall.mono ?_
  clear hcall
  rintro e w16 ⟨rfl, L16, hd16, hO17⟩
  have HD16 := Lib.hid hd16; have HO17 := Lib.hid hO17; clear hd16 hO17 HD13 HO16 hO16 hbi
  go_wp2_with fail
  have hcall := read_ok HD16.out HO17.out 1 xs (by rfl) (by rfl)
  with_reducible refine hcall.mono ?_
  clear hcall
  rintro e w17 ⟨vv, Lv, L17, rfl, hd17, hO18, hv⟩
  obtain ⟨av, cv, hvv⟩ := hv.val
  rw [HXL.out] at hvv
  subst hvv
  have HV := Lib.hid hv; have HO18 := Lib.hid hO18
  clear hd17 hv hO18 HD16 HO17
  go_wp2_with fail
  have hcall := same_c _ _ xs xs (HZ.out.bs_sub HO18.out (sub_there (sub_there (sub_there (sub_there (sub_there sub_here)))))) (HW.out.bs_sub HO18.out (sub_there (sub_there (sub_there (sub_there (sub_there (sub_there (sub_there (sub_there sub_here))))))))) (by rw [HXL.out]; omega)
  with_reducible refine hcall.mono ?_
  clear hcall
  rintro e w' ⟨rfl, m2, rfl⟩
  rw [show decide (xs = xs) = true by simp]
  have HO19 := Lib.hid (HO18.out.drewN m2)
  generalize w17.drewN m2 = w18 at *
  clear HO18
  go_wp2_with fail
  have hcall := same_c _ _ xs' xs' (HQ.out.bs_sub HO19.out (sub_there (sub_there (sub_there sub_here)))) (HX'.out.bs_sub HO19.out (sub_there (sub_there (sub_there (sub_there (sub_there (sub_there (sub_there sub_here)))))))) (by rw [HXL'.out]; omega)
  with_reducible refine hcall.mono ?_
  clear hcall
  rintro e w' ⟨rfl, m3, rfl⟩
  rw [show decide (xs' = xs') = true by simp]
  have HO20 := Lib.hid (HO19.out.drewN m3)
  generalize w18.drewN m3 = w19 at *
  clear HO19
  go_wp2_with fail
  have hcall := same_c _ _ xs xs (HV.out.bs_sub HO20.out sub_here) (HW.out.bs_sub HO20.out (sub_there (sub_there (sub_there (sub_there (sub_there (sub_there (sub_there (sub_there sub_here))))))))) (by rw [HXL.out]; omega)
  with_reducible refine hcall.mono ?_
  clear hcall
  rintro e w' ⟨rfl, m4, rfl⟩
  rw [show decide (xs = xs) = true by simp]
  have HO21 := Lib.hid (HO20.out.drewN m4)
  generalize w19.drewN m4 = w20 at *
  clear HO20
  go_wp2_with fail
  have hcall := wakes_c HO21.out
  with_reducible refine hcall.mono ?_
  clear hcall
  rintro e w21 ⟨rfl, hO22⟩
  have HO22 := Lib.hid hO22; clear hO22 HO21
  go_wp2
  go_ret
  exact HO22.out.yes rfl
set_option maxRecDepth 100000 in
theorem diskMemory_lifted (os : Os) (started : os.Started) (H : Type) (enc : TypeId × Value → H) :
    ReturnsInHanded {} Try.checked os 5 .any (Rows.diskMemorySpec.pre6 enc Try.prog Try.f5 Rows.diskMemoryRow.domain false) (Rows.diskMemorySpec.post enc Try.prog Try.f5 false true false false) := by
  refine returnsInHanded_of_change (C := Try.checked) (by kernel_rfl) started (by kernel_rfl) Try.func5
    (ChangeSpec.witness6 (enc := enc) (C := Try.checked) false ⟨#[], #[.int .i64 0, .int .i64 0, .int .u8 0], []⟩ 8 (by kernel_rfl) (by kernel_rfl) (by kernel_rfl) (by kernel_rfl)) ?_
  intro W base args ds gs before hval0 hW hcnd _
  have hval : ∀ (j : Nat) t v, Try.f5.params[j]? = some t → args[j]? = some v → Value.okWide Try.prog W .any base t v := hval0
  have hW' := hW
  obtain ⟨p, q, hA0, hV, rfl, hfz, hnd⟩ := hW
  have hA : DataW.TrodAll enc Try.prog W 0 (fun _ => true) true Try.f5.params.toList args.toList ds p := hA0
  rw [Try.params5] at hA hval
  obtain ⟨v0, vs0, d0, ds0, p0, q0, hargs, rfl, rfl, h0, r0⟩ := trodAll_cons hA
  obtain ⟨v1, vs1, d1, ds1, p1, q1, rfl, rfl, rfl, h1, r1⟩ := trodAll_cons r0
  obtain ⟨v2, vs2, d2, ds2, p2, q2, rfl, rfl, rfl, h2, r2⟩ := trodAll_cons r1
  obtain ⟨rfl, rfl, rfl⟩ := trodAll_nil r2
  obtain rfl : args = #[v0, v1, v2] := by cases args; simp_all
  obtain ⟨rfl, rfl⟩ := trodVars_none hV
  obtain ⟨a0, rfl, rfl, rfl, w0⟩ := open_int Try.underlying3 (hval 0 3 v0 rfl rfl) h0
  obtain ⟨a1, rfl, rfl, rfl, w1⟩ := open_int Try.underlying3 (hval 1 3 v1 rfl rfl) h1
  obtain ⟨a2, rfl, rfl, rfl, w2⟩ := open_int Try.underlying5 (hval 2 5 v2 rfl rfl) h2
  clear hA0 hval0
  refine (diskMemory_walk a0 w0 a1 w1 a2 w2 W).mono fun e W' ⟨he, bel⟩ => ?_
  subst he
  exact ⟨_, rfl, _, _, _, [], _, [], hW', trodAll_mk1 (shut_bool Try.underlying4 _), (trodAll_cons_mk (shut_int Try.underlying3 w0) (trodAll_cons_mk (shut_int Try.underlying3 w1) (trodAll_cons_mk (shut_int Try.underlying5 w2) trodAll_mk0))), rfl, bel.frame _, fun h => by cases h⟩

/-- The statement. -/
theorem diskMemory_proved : Rows.DiskMemorySaid :=
  OpenClaim.holds_of_wide 5 Try.f5 rfl rfl rfl rfl rfl rfl rfl ⟨rfl, rfl, rfl, rfl, rfl⟩ rfl rfl rfl rfl rfl (by kernel_rfl) Try.func5 (by kernel_rfl)
    (of_decide_eq_true (by kernel_rfl)) (by unfold Func.isWrapper; first | (rw [if_pos (by decide +kernel)]; kernel_rfl) | (rw [if_neg (by decide +kernel)]; exact ⟨rfl, rfl⟩))
    (fun os started H enc _ => diskMemory_lifted os started H enc)
end Go.Proofs.Ytdngllegoljpeaa
