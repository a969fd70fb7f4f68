/-
  FrameForms: every input answers true (sums and sectors of a few bytes by hand; what may not be written).
  No conditions beyond the statement's own.
-/
import Derived.Test.YtlapheiekjhceaaL03a
namespace Go.Proofs.Ytlapheiekjhceaa
set_option linter.unusedVariables false
set_option linter.unusedSimpArgs false
open Go.ChangeShapes Go.WideShapes Go.ChangeAt Go.RowKit
open Go.ChangeMaps (open_string shut_string)

theorem build_one (a : Int) (w : World) : (Instr.buildSlice 27 1 #[(0, .int .u8 a)]).run Try.prog w = .ok (.slice (some ⟨w.heap.size, 0, none⟩) 1 1) (w.alloc (.cells (bv [a]).toArray 5)) := by kernel_rfl
theorem build_thirteen (w : World) : (Instr.buildSlice 27 13 #[(0, .int .u8 0), (1, .int .u8 1), (2, .int .u8 0), (3, .int .u8 0), (4, .int .u8 2), (5, .int .u8 0), (6, .int .u8 1), (7, .int .u8 5), (8, .int .u8 232), (9, .int .u8 183), (10, .int .u8 190), (11, .int .u8 67), (12, .int .u8 97)]).run Try.prog w = .ok (.slice (some ⟨w.heap.size, 0, none⟩) 13 13) (w.alloc (.cells (bv [0, 1, 0, 0, 2, 0, 1, 5, 232, 183, 190, 67, 97]).toArray 5)) := by kernel_rfl
theorem build_five (w : World) : (Instr.buildSlice 27 5 #[(0, .int .u8 0), (1, .int .u8 0), (2, .int .u8 2), (3, .int .u8 0), (4, .int .u8 1)]).run Try.prog w = .ok (.slice (some ⟨w.heap.size, 0, none⟩) 5 5) (w.alloc (.cells (bv [0, 0, 2, 0, 1]).toArray 5)) := by kernel_rfl
theorem build_m3 (a b : Int) (w : World) : (Instr.build 48 #[(0, .int .i64 a), (1, .int .i64 b)]).run Try.prog w = .ok (.agg #[.int .i64 a, .int .i64 b]) w := by kernel_rfl
theorem build_m30 (w : World) : (Instr.build 48 #[]).run Try.prog w = .ok (.agg #[.int .i64 0, .int .i64 0]) w := by kernel_rfl
theorem build_m31 (a : Int) (w : World) : (Instr.build 48 #[(1, .int .i64 a)]).run Try.prog w = .ok (.agg #[.int .i64 0, .int .i64 a]) w := by kernel_rfl
theorem make_k (n : Nat) (k : Int) (hk : (n : Int) = k) (hn : n ≤ 1073741824) (w : World) : (Instr.makeSlice 27 (.int .i64 k) (.int .i64 k)).run Try.prog w =
    .ok (.slice (some ⟨w.heap.size, 0, none⟩) n n) (w.alloc (.cells (bv (List.replicate n 0)).toArray 5)) := by rw [← hk]; exact make_bytes n hn w
theorem byt_zeros (n : Nat) : Byt (List.replicate n 0) := by intro x hx; rw [List.mem_replicate] at hx; omega
theorem sec_a : sec 1 2 [97] 0 = [0, 1, 0, 0, 2, 0, 1, 5, 232, 183, 190, 67, 97] ++ List.replicate 14 0 ++ [0, 0, 2, 0, 1] := by decide +kernel
theorem need_a : need [97] = 1 := by decide
set_option maxRecDepth 100000 in
set_option maxHeartbeats 8000000 in
theorem frameForms_walk (a0 : Int) (_ : (Lit.int .i64 a0).wf = true) (w : World) : Calls Try.prog 4 #[.int .i64 a0] w (Yes w) := by
  have HO := Lib.hid (Own.start w)
  go_enter Try.func4, Try.ntmps4
  go_wp2_with fail
  have hcall := sum_is (w := w) (.slice none 0 0) [] (bs_none w) (byt_lit rfl) (by decide) 0 (by decide +kernel)
  with_reducible refine hcall.mono ?_
  clear hcall
  rintro en w1 ⟨rfl, rfl⟩
  go_wp2_with (refine wl_g (by rfl) ?_; refine wl_buildSlice rfl _ _ _ rfl HO.out _ (by exact build_one 0 _) ?_; intro g1 w1 hO1; have HO1 := Lib.hid hO1; clear hO1 HO)
  have hcall := sum_is (w := w1) (.slice (some ⟨g1, 0, none⟩) 1 1) [0] (bs_whole HO1.out rfl) (byt_lit rfl) (by decide) 3523407757 (by decide +kernel)
  with_reducible refine hcall.mono ?_
  clear hcall
  rintro en w' ⟨rfl, rfl⟩
  have HO := Lib.hid (HO1.out.sub (List.nil_sublist _)); clear HO1
  go_wp2_with (first | (refine wl_g (by rfl) ?_; refine wl_buildSlice rfl _ _ _ rfl HO.out _ (by exact build_one 97 _) ?_; intro g2 w2 hO2; have HO2 := Lib.hid hO2; clear hO2 HO) | (refine wl_g (by rfl) ?_; refine wl_conv rfl _ rfl g2 1 1 _ HO2.out (by rfl) ?_; intro w3 hO3; have HO3 := Lib.hid hO3; clear hO3 HO2))
  have hcall := sum_is (w := w3) (.slice (some ⟨g2, 0, none⟩) 1 1) [97] (bs_sblk HO3.out rfl) (byt_lit rfl) (by decide) 3904355907 (by decide +kernel)
  with_reducible refine hcall.mono ?_
  clear hcall
  rintro en w' ⟨rfl, rfl⟩
  have HO := Lib.hid (HO3.out.sub (List.nil_sublist _)); clear HO3
  go_wp2_with (refine wl_g (by rfl) ?_; refine wl_makeSlice rfl _ _ _ rfl HO.out _ 15 15 (by exact make_k 15 15 rfl (by decide) _) ?_; intro g4 w4 hO2; have HO2 := Lib.hid hO2; clear hO2 HO)
  have hcall := need_is (w := w4) (.slice (some ⟨g4, 0, none⟩) 15 15) (List.replicate 15 0) (bs_whole HO2.out rfl) (by decide) 1 (by decide)
  with_reducible refine hcall.mono ?_
  clear hcall
  rintro en w' ⟨rfl, rfl⟩
  have HO := Lib.hid (HO2.out.sub (List.nil_sublist _)); clear HO2
  go_wp2_with (refine wl_g (by rfl) ?_; refine wl_makeSlice rfl _ _ _ rfl HO.out _ 16 16 (by exact make_k 16 16 rfl (by decide) _) ?_; intro g5 w5 hO2; have HO2 := Lib.hid hO2; clear hO2 HO)
  have hcall := need_is (w := w5) (.slice (some ⟨g5, 0, none⟩) 16 16) (List.replicate 16 0) (bs_whole HO2.out rfl) (by decide) 2 (by decide)
  with_reducible refine hcall.mono ?_
  clear hcall
  rintro en w' ⟨rfl, rfl⟩
  have HO := Lib.hid (HO2.out.sub (List.nil_sublist _)); clear HO2
  go_wp2_with (refine wl_g (by rfl) ?_; refine wl_makeSlice rfl _ _ _ rfl HO.out _ 34 34 (by exact make_k 34 34 rfl (by decide) _) ?_; intro g6 w6 hO2; have HO2 := Lib.hid hO2; clear hO2 HO)
  have hcall := need_is (w := w6) (.slice (some ⟨g6, 0, none⟩) 34 34) (List.replicate 34 0) (bs_whole HO2.out rfl) (by decide) 2 (by decide)
  with_reducible refine hcall.mono ?_
  clear hcall
  rintro en w' ⟨rfl, rfl⟩
  have HO := Lib.hid (HO2.out.sub (List.nil_sublist _)); clear HO2
  go_wp2_with (refine wl_g (by rfl) ?_; refine wl_makeSlice rfl _ _ _ rfl HO.out _ 35 35 (by exact make_k 35 35 rfl (by decide) _) ?_; intro g7 w7 hO2; have HO2 := Lib.hid hO2; clear hO2 HO)
  have hcall := need_is (w := w7) (.slice (some ⟨g7, 0, none⟩) 35 35) (List.replicate 35 0) (bs_whole HO2.out rfl) (by decide) 3 (by decide)
  with_reducible refine hcall.mono ?_
  clear hcall
  rintro en w' ⟨rfl, rfl⟩
  have HO := Lib.hid (HO2.out.sub (List.nil_sublist _)); clear HO2
  go_wp2_with fail
  have hcall := new_is HO.out 3 3 (by decide)
  with_reducible refine hcall.mono ?_
  clear hcall
  rintro en w8 ⟨d, L, rfl, hd, hO8⟩
  obtain ⟨bd, rfl⟩ := hd.ptr
  have HD := Lib.hid hd; have HO8 := Lib.hid hO8; clear hd hO8 HO
  go_wp2_with (first | (refine wl_build rfl _ _ rfl _ (by exact build_m3 1 2 _) ?_) | (refine wl_buildSlice rfl _ _ _ rfl HO8.out _ (by exact build_one 97 _) ?_; intro g9 w9 hO9; have HO9 := Lib.hid hO9; clear hO9 HO8) | (refine wl_conv rfl _ rfl g9 1 1 _ HO9.out (by rfl) ?_; intro w10 hO10; have HO10 := Lib.hid (Own.rot (A := [_]) hO10); clear hO10 HO9))
  have hcall := fwrite_ok (a := 1) (e := 1) (q := 2) (b := [97]) HD.out HO10.out (.slice (some ⟨g9, 0, none⟩) 1 1) (rd_sblk (.head _) rfl (Nat.le_refl _)) (byt_lit rfl) (by decide) (by decide) rfl rfl (by decide) (by decide) 1 2 rfl (by decide)
  with_reducible refine hcall.mono ?_
  clear hcall
  rintro en w11 ⟨rfl, L11, hd11, hO11⟩
  have hst : Stands ((newSt 3).put 1 (secs_of 1 2 [97])).la 1 1 2 [97] := put_stands (newSt 3) 1 1 2 [97] (by decide)
  have hs0 : ((newSt 3).put 1 (secs_of 1 2 [97])).la.getD 1 [] = sec 1 2 [97] 0 := hst 0 (by decide)
  have hsp : ((((newSt 3).put 1 (secs_of 1 2 [97])).pend.length : Nat) : Int) = 1 := by simp [DSt.put, newSt, length_pendOf, length_secs_of, need_a]
  have hsn : ((newSt 3).put 1 (secs_of 1 2 [97])).n = 3 := rfl
  have hsd : ((newSt 3).put 1 (secs_of 1 2 [97])).down = false := rfl
  have HS0 := Lib.hid hs0; have HSP := Lib.hid hsp; have HSN := Lib.hid hsn; have HSD := Lib.hid hsd
  clear hst hs0 hsp hsn hsd
  generalize (newSt 3).put 1 (secs_of 1 2 [97]) = s1 at *
  have HD1 := Lib.hid hd11; have HO11 := Lib.hid hO11; clear hd11 hO11 HO10 HD
  go_wp2_with fail
  have hcall := read_ok HD1.out HO11.out 1 _ (refuse0 HSD.out (by decide) (by rw [HSN.out]; decide)) HS0.out
  with_reducible refine hcall.mono ?_
  clear hcall
  rintro en w12 ⟨v12, L12, Ld12, rfl, hd12, hO12, h12⟩
  obtain ⟨g12, c12, sp12, rfl, rfl, hc12⟩ := h12.blkn 32 (sec_len _ _ _ _) (by decide)
  have HD2 := Lib.hid hd12; have HO12 := Lib.hid hO12; have H12 := Lib.hid h12; clear hd12 hO12 h12 HO11 HD1
  go_wp2_with (first | (refine wl_buildSlice rfl _ _ _ rfl HO12.out _ (by exact build_thirteen _) ?_; intro g13 w13 hO13; have HO13 := Lib.hid hO13; clear hO13 HO12) | (refine wl_appendZB rfl _ _ rfl (.slice (some ⟨g13, 0, none⟩) 13 13) [0, 1, 0, 0, 2, 0, 1, 5, 232, 183, 190, 67, 97] (by rfl) (L := [_]) (isBytes_whole g13 _ (by decide)) HO13.out 14 (by rfl) (by decide) ?_; intro v14 w14 L14 h14 hO14; have H14 := Lib.hid h14; have HO14 := Lib.hid hO14; clear h14 hO14 HO13) | (refine wl_buildSlice rfl _ _ _ rfl HO14.out _ (by exact build_five _) ?_; intro g15 w15 hO15; have HO15 := Lib.hid (Own.rot (A := [_]) hO15); clear hO15 HO14) | (refine wl_appendB rfl _ _ rfl v14 _ (by rfl) H14.out HO15.out (.slice (some ⟨g15, 0, none⟩) 5 5) [0, 0, 2, 0, 1] (by rfl) ((isBytes_whole g15 [0, 0, 2, 0, 1] (by decide)).bs (R := _) HO15.out.right) (by decide) ?_; intro v16 w16 L16 h16 hO16; have H16 := Lib.hid h16; have HO16 := Lib.hid hO16; clear h16 hO16 HO15))
  have HO17 := Lib.hid (Own.rot4 (B := [_]) (C := [_]) HO16.out); clear HO16
  have hcall := within_c (w := w16) a0 1000 (by omega) (by omega)
  with_reducible refine hcall.mono ?_
  clear hcall
  rintro en w' ⟨rfl, rfl⟩
  obtain ⟨n, hn⟩ : ∃ n : Nat, 1 + a0 % 1000 = (n : Int) := Int.eq_ofNat_of_zero_le (by omega)
  have hn1 : 1 ≤ n := by omega
  have hn2 : n ≤ 1000 := by omega
  go_wp2_with (first | (refine wl_build rfl _ _ rfl _ (by exact build_m30 _) ?_) | (refine wl_makeSlice rfl _ _ _ rfl HO17.out _ 16 16 (by exact make_k 16 16 rfl (by decide) _) ?_; intro g18 w18 hO18; have HO18 := Lib.hid (Own.rot (A := [_]) hO18); clear hO18 HO17))
  clear hn
  have hcall := fwrite_range HD2.out HO18.out 2 0 0 (.slice (some ⟨g18, 0, none⟩) 16 16) (List.replicate 16 0) (rd_whole3 (.head _) rfl (Nat.le_refl _)) (byt_zeros 16) (by decide) (by decide) (.inr (by rw [HSN.out]; decide))
  with_reducible refine hcall.mono ?_
  clear hcall
  rintro en w19 ⟨rfl, L19, hd19, hO19⟩
  have HD3 := Lib.hid hd19; have HO19 := Lib.hid hO19; clear hd19 hO19 HO18 HD2
  go_wp2_with (refine wl_build rfl _ _ rfl _ (by exact build_m30 _) ?_)
  have hcall := fwrite_range HD3.out HO19.out (-(n : Int)) 0 0 (.slice none 0 0) [] (rd_nil _ _) (byt_lit rfl) (by decide) (by decide) (.inl (by omega))
  with_reducible refine hcall.mono ?_
  clear hcall
  rintro en w20 ⟨rfl, L20, hd20, hO20⟩
  have HD4 := Lib.hid hd20; have HO20 := Lib.hid hO20; clear hd20 hO20 HO19 HD3
  go_wp2_with (refine wl_build rfl _ _ rfl _ (by exact build_m30 _) ?_)
  have hcall := fwrite_range HD4.out HO20.out (2 + (n : Int)) 0 0 (.slice none 0 0) [] (rd_nil _ _) (byt_lit rfl) (by decide) (by decide) (.inr (by rw [HSN.out, show need [] = 1 from rfl]; omega))
  with_reducible refine hcall.mono ?_
  clear hcall
  rintro en w21 ⟨rfl, L21, hd21, hO21⟩
  have HD5 := Lib.hid hd21; have HO21 := Lib.hid hO21; clear hd21 hO21 HO20 HD4
  go_wp2_with (refine wl_build rfl _ _ rfl _ (by exact build_m31 _ _) ?_)
  have hcall := fwrite_arg HD5.out HO21.out 0 0 (-(n : Int)) (.slice none 0 0) [] (rd_nil _ _) (byt_lit rfl) (by decide) (.inr (by unfold okMark; exact decide_eq_false (by omega)))
  with_reducible refine hcall.mono ?_
  clear hcall
  rintro en w22 ⟨rfl, L22, hd22, hO22⟩
  have HD6 := Lib.hid hd22; have HO22 := Lib.hid hO22; clear hd22 hO22 HO21 HD5
  go_wp2_with fail
  have h1 := H12.out.bs_sub HO22.out (sub_there (sub_there (B := [_]) (sub_there (sub_there (B := [_]) sub_here))))
  have h2 := H16.out.bs_sub HO22.out (sub_there (sub_there (B := [_]) sub_here))
  have hcall := same_c _ _ _ _ h1 h2 (by rw [sec_len]; decide)
  rw [sec_a, decide_eq_true rfl] at hcall
  with_reducible refine hcall.mono ?_
  clear hcall h1 h2
  rintro en w23 ⟨rfl, m23, rfl⟩
  have HO23 := Lib.hid (HO22.out.drewN m23); clear HO22
  generalize w22.drewN m23 = w23 at HO23
  go_wp2_with fail
  have hcall := pending_is HD6.out HO23.out 1 HSP.out
  with_reducible refine hcall.mono ?_
  clear hcall
  rintro en w' ⟨rfl, rfl⟩
  go_wp2_with fail
  have hcall := wakes3_c HO23.out
  with_reducible refine hcall.mono ?_
  clear hcall
  rintro en w24 ⟨rfl, hO24⟩
  have HO24 := Lib.hid hO24; clear hO24 HO23
  go_wp2
  go_ret
  exact HO24.out.yes rfl
set_option maxRecDepth 100000 in
theorem frameForms_lifted (os : Os) (started : os.Started) (H : Type) (enc : TypeId × Value → H) :
    ReturnsInHanded {} Try.checked os 4 .any (Rows.frameFormsSpec.pre6 enc Try.prog Try.f4 Rows.frameFormsRow.domain false) (Rows.frameFormsSpec.post enc Try.prog Try.f4 false true false false) := by
  refine returnsInHanded_of_change (C := Try.checked) (by kernel_rfl) started (by kernel_rfl) Try.func4
    (ChangeSpec.witness6 (enc := enc) (C := Try.checked) false ⟨#[], #[.int .i64 0], []⟩ 8 (by kernel_rfl) (by kernel_rfl) (by kernel_rfl) (by kernel_rfl)) ?_
  intro W base args ds gs before hval0 hW hcnd _
  have hval : ∀ (j : Nat) t v, Try.f4.params[j]? = some t → args[j]? = some v → Value.okWide Try.prog W .any base t v := hval0
  have hW' := hW
  obtain ⟨p, q, hA0, hV, rfl, hfz, hnd⟩ := hW
  have hA : DataW.TrodAll enc Try.prog W 0 (fun _ => true) true Try.f4.params.toList args.toList ds p := hA0
  rw [Try.params4] at hA hval
  obtain ⟨v0, vs0, d0, ds0, p0, q0, hargs, rfl, rfl, h0, r0⟩ := trodAll_cons hA
  obtain ⟨rfl, rfl, rfl⟩ := trodAll_nil r0
  obtain rfl : args = #[v0] := by cases args; simp_all
  obtain ⟨rfl, rfl⟩ := trodVars_none hV
  obtain ⟨a0, rfl, rfl, rfl, w0⟩ := open_int Try.underlying3 (hval 0 3 v0 rfl rfl) h0
  clear hA0 hval0
  refine (frameForms_walk a0 w0 W).mono fun e W' ⟨he, bel⟩ => ?_
  subst he
  exact ⟨_, rfl, _, _, _, [], _, [], hW', trodAll_mk1 (shut_bool Try.underlying4 _), (trodAll_cons_mk (shut_int Try.underlying3 w0) trodAll_mk0), rfl, bel.frame _, fun h => by cases h⟩

/-- The statement. -/
theorem frameForms_proved : Rows.FrameFormsSaid :=
  OpenClaim.holds_of_wide 4 Try.f4 rfl rfl rfl rfl rfl rfl rfl ⟨rfl, rfl, rfl, rfl, rfl⟩ rfl rfl rfl rfl rfl (by kernel_rfl) Try.func4 (by kernel_rfl)
    (of_decide_eq_true (by kernel_rfl)) (by unfold Func.isWrapper; first | (rw [if_pos (by decide +kernel)]; kernel_rfl) | (rw [if_neg (by decide +kernel)]; exact ⟨rfl, rfl⟩))
    (fun os started H enc _ => frameForms_lifted os started H enc)
end Go.Proofs.Ytlapheiekjhceaa

