/-
  LogSlots: every input answers true (the slots by hand, behind a format, an opening, a turn).
  No conditions beyond the statement's own.
-/
import Derived.Test.YtdndkapfaiplnaaL04a
namespace Go.Proofs.Ytdndkapfaiplnaa
set_option linter.unusedVariables false
set_option linter.unusedSimpArgs false
set_option maxRecDepth 100000
open Go.ChangeShapes Go.WideShapes Go.ChangeAt Go.RowKit
open Go.ChangeMaps (open_string shut_string)

theorem slot_open {t : Slot} (h : t.Ok) : openR t.sec = ⟨t.ep, t.num, 0, 1, t.by, 0⟩ := openR_sealed (Slot.okSeal h)
theorem slot_byt {t : Slot} (h : t.Ok) : Byt t.sec := byt_sealed (Slot.okSeal h) (Slot.byt h)
theorem same_yes {w : World} (va vb : Value) (xs ys : List Int) (ha : Bs w va xs) (hb : Bs w vb ys) (hx : xs.length ≤ 1073741824) (h : xs = ys) : Calls Try.prog 14 #[va, vb] w (Quiet w (.bool true)) := by
  have := same_c va vb xs ys ha hb hx
  rwa [decide_eq_true h] at this
theorem need3 (n : Int) : need (pbytes n 3) = 1 := by simp [need, pbytes]
def l1 : LSt := upL slot1 []
set_option maxHeartbeats 16000000 in
theorem logSlots_walk (n : Int) (_ : (Lit.int .i64 n).wf = true) (w : World) : Calls Try.prog 4 #[.int .i64 n] w (Yes w) := by
  have HO := Lib.hid (Own.start w)
  go_enter Try.func4, Try.ntmps4
  go_wp2_with fail
  have hcall := new_is HO.out 514 514 (by decide)
  with_reducible refine hcall.mono ?_
  clear hcall
  rintro en w1 ⟨d, L1, rfl, hd1, hO1⟩
  obtain ⟨bd, rfl⟩ := hd1.ptr
  have HD1 := Lib.hid hd1; have HO1 := Lib.hid hO1
  clear hd1 hO1 HO
  go_wp2_with fail
  have hcall := format_ok HD1.out HO1.out (newSt_n 514) rfl rfl (by decide)
  with_reducible refine hcall.mono ?_
  clear hcall
  rintro en w3 ⟨rfl, L3, hd3, hO3⟩
  have HD3 := Lib.hid hd3; have HO3 := Lib.hid hO3
  clear hd3 hO3 HD1 HO1
  go_wp2_with fail
  have hcall := lawslot_c HD3.out HO3.out 1 (by decide) slot1.sec (by rfl) (slot_byt slot1_ok) _ (slot_open slot1_ok)
  with_reducible refine hcall.mono ?_
  clear hcall
  rintro en w4 ⟨v4, L4, L5, rfl, h4, hd5, hO5⟩
  obtain ⟨A4, c4, rfl⟩ := h4.val
  have HD5 := Lib.hid hd5; have HO5 := Lib.hid hO5; have H4 := Lib.hid h4
  clear hd5 hO5 h4 HD3 HO3
  simp only []
  go_wp2_with (first | (refine wl_alloc rfl _ rfl HO5.out _ (alloc_mark _) ?_; intro g4 w5 hO6; have HO6 := Lib.hid hO6; clear hO6 HO5) | (refine wl_store rfl _ _ _ rfl HO6.out 0 g4 0 _ [Value.int .i64 1, Value.int .i64 1] _ rfl (by rfl) (by rfl) mark_size (one_2i _ _) (by simp) ?_; intro w6 hO7; have HO7 := Lib.hid hO7; clear hO7 HO6) | (refine wl_load rfl _ _ rfl g4 0 [.int .i64 1, .int .i64 1] [.int .i64 1, .int .i64 1] 44 (HO7.out.heap (.head _)) (by rfl) _ Try.underlying44 rfl mark_size (by rfl) ?_))
  have hO8 := HO7.out.alloc (.cells #[Value.int .u8 0, Value.int .u8 0, Value.int .u8 0, Value.int .u8 1, Value.int .u8 0, Value.int .u8 1] 5)
  have hcall := same_yes (w := w6.alloc (.cells #[Value.int .u8 0, Value.int .u8 0, Value.int .u8 0, Value.int .u8 1, Value.int .u8 0, Value.int .u8 1] 5)) _ (.slice (some ⟨w6.heap.size, 0, none⟩) 6 6) _ [0, 0, 0, 1, 0, 1] (H4.out.bs_sub hO8 (sub_there (B := [_, _]) sub_here)) ((isBytes_whole w6.heap.size [0, 0, 0, 1, 0, 1] (by simp)).bs_sub hO8 (sub_here (A := [_]))) (by decide) (by decide)
  with_reducible refine hcall.mono ?_
  clear hcall
  rintro en w7 ⟨rfl, m7, rfl⟩
  have hO9 : Own w ((w6.alloc (.cells #[Value.int .u8 0, Value.int .u8 0, Value.int .u8 0, Value.int .u8 1, Value.int .u8 0, Value.int .u8 1] 5)).drewN m7) (L5 ++ ([(g4, .cells [Value.int .i64 1, Value.int .i64 1].toArray 44)] ++ [])) := (Own.rot (A := [_]) (B := L5) ((hO8.drewN m7).tail.sub (List.Sublist.cons_cons _ (List.sublist_append_right L4 _))))
  have HO9 := Lib.hid hO9
  clear hO8 hO9 HO7 H4
  generalize (w6.alloc (.cells #[Value.int .u8 0, Value.int .u8 0, Value.int .u8 0, Value.int .u8 1, Value.int .u8 0, Value.int .u8 1] 5)).drewN m7 = w7 at *
  go_wp2_with fail
  have hcall := open_up HD5.out HO9.out onF_fmt rest_fmt rfl (by decide) (by decide) (by decide)
  with_reducible refine hcall.mono ?_
  clear hcall HD5 HO9
  rintro en w8 ⟨gl, rv, X, rfl, -, s8, F8, Ld8, Lg8, o8, hlv8, hlf8, hd8, hg8, hO8⟩
  have HD8 := Lib.hid hd8; have HO8 := Lib.hid hO8; have HS8 := Lib.hid o8; have HL8 := Lib.hid hlv8; have HG8 := Lib.hid hg8; have HF8 := Lib.hid hlf8
  clear hd8 hO8 o8 hlv8 hg8 hlf8
  go_wp2_with fail
  have hcall := lawslot_c HD8.out HO8.out 0 (refuse0 HS8.out.up (by omega) (by rw [HS8.out.n, HL8.out.rest.n]; decide)) slot1.up.sec (by rw [HS8.out.la]; exact HL8.out.rest.slot) (slot_byt HL8.out.rest.tok) _ (slot_open HL8.out.rest.tok)
  with_reducible refine hcall.mono ?_
  clear hcall HD8 HO8
  rintro en w9 ⟨v9, L9, L10, rfl, h9, hd9, hO9⟩
  obtain ⟨A9, c9, rfl⟩ := h9.val
  have hO10 : Own w w9 ((g4, .cells [Value.int .i64 1, Value.int .i64 1].toArray 44) :: (L9 ++ (L10 ++ (Lg8 ++ X)))) := own_count hO9 (by intro p; simp only [List.count_append, List.count_cons, List.count_nil]; omega)
  have HD9 := Lib.hid hd9; have HO10 := Lib.hid hO10; have H9 := Lib.hid h9
  clear hd9 hO9 h9 hO10
  simp only []
  go_wp2_with (first | (refine wl_store rfl _ _ _ rfl HO10.out 0 g4 0 _ [Value.int .i64 2, Value.int .i64 2] _ rfl (by rfl) (by rfl) mark_size (one_2i _ _) (by simp) ?_; intro w10 hO11; have HO11 := Lib.hid hO11; clear hO11 HO10) | (refine wl_g (by rfl) ?_; refine wl_load rfl _ _ rfl g4 0 [.int .i64 2, .int .i64 2] [.int .i64 2, .int .i64 2] 44 (HO11.out.heap (.head _)) (by rfl) _ Try.underlying44 rfl mark_size (by rfl) ?_))
  have hO8 := HO11.out.alloc (.cells #[Value.int .u8 0, Value.int .u8 0, Value.int .u8 0, Value.int .u8 1, Value.int .u8 0, Value.int .u8 1] 5)
  have hcall := same_yes (w := w10.alloc (.cells #[Value.int .u8 0, Value.int .u8 0, Value.int .u8 0, Value.int .u8 1, Value.int .u8 0, Value.int .u8 1] 5)) _ (.slice (some ⟨w10.heap.size, 0, none⟩) 6 6) _ [0, 0, 0, 1, 0, 1] (H9.out.bs_sub hO8 (sub_there (B := [_, _]) sub_here)) ((isBytes_whole w10.heap.size [0, 0, 0, 1, 0, 1] (by simp)).bs_sub hO8 (sub_here (A := [_]))) (by decide) (by decide)
  with_reducible refine hcall.mono ?_
  clear hcall
  rintro en w11 ⟨rfl, m11, rfl⟩
  have hO12 : Own w ((w10.alloc (.cells #[Value.int .u8 0, Value.int .u8 0, Value.int .u8 0, Value.int .u8 1, Value.int .u8 0, Value.int .u8 1] 5)).drewN m11) ((g4, .cells [Value.int .i64 2, Value.int .i64 2].toArray 44) :: (L10 ++ (Lg8 ++ X))) := ((hO8.drewN m11).tail.sub (List.Sublist.cons_cons _ (List.sublist_append_right L9 _)))
  have HO12 := Lib.hid hO12
  clear hO8 hO12 HO11 H9
  generalize (w10.alloc (.cells #[Value.int .u8 0, Value.int .u8 0, Value.int .u8 0, Value.int .u8 1, Value.int .u8 0, Value.int .u8 1] 5)).drewN m11 = w11 at *
  go_wp2_with fail
  have hcall := bytes_c HO12.out n 3 (by omega)
  rw [show (((3 : Nat) : Int)) = 3 from rfl] at hcall
  with_reducible refine hcall.mono ?_
  clear hcall
  rintro en w12 ⟨vx, Lx, rfl, hx, hO13⟩
  obtain ⟨Ax, cx, rfl⟩ := hx.val
  have hlv : Lives w (Lx ++ ([(g4, .cells [Value.int .i64 2, Value.int .i64 2].toArray 44)] ++ X)) (.pointer (some ⟨bd, 0, none⟩)) (.pointer (some ⟨gl, 0, none⟩)) slot1.up l1 [] w12 := ⟨s8, F8, L10, Lg8, HS8.out, HL8.out, HF8.out, HD9.out, HG8.out, own_count hO13 (by intro p; simp only [List.count_append, List.count_cons, List.count_nil]; omega)⟩
  have hrd : Rd w (Lx ++ ([(g4, .cells [Value.int .i64 2, Value.int .i64 2].toArray 44)] ++ X)) (.slice Ax (pbytes n 3).length cx) (pbytes n 3) := hx.rd sub_here
  have HLV := Lib.hid hlv; have HRD := Lib.hid hrd
  clear hlv hx hO13 HO12 HD9 HS8 HL8 HG8 HF8 hrd
  have HL3 := Lib.hid (show (pbytes n 3).length = 3 by simp [pbytes])
  have HB3 := Lib.hid (byt_pbytes n 3); have HN3 := Lib.hid (need3 n)
  generalize pbytes n 3 = xb at *
  go_wp2_with fail
  have hcall := append_up (bw := .slice Ax xb.length cx) HLV.out HRD.out HB3.out (by rw [HN3.out]; omega) (by rw [HL3.out]; omega) (by rw [HN3.out]; decide) (by decide)
  with_reducible refine hcall.mono ?_
  clear hcall HLV
  rintro en w13 ⟨rfl, hlv⟩
  have HLV := Lib.hid hlv
  clear hlv
  go_wp2_with fail
  have hcall := append_up (bw := .slice Ax xb.length cx) HLV.out HRD.out HB3.out (by rw [HN3.out]; omega) (by rw [HL3.out]; omega) (by rw [needR_append]; simp only [needR, needs, List.map_cons, List.map_nil]; rw [HN3.out]; decide) (show l1.nx + 1 ≤ 16777215 by decide)
  with_reducible refine hcall.mono ?_
  clear hcall HLV
  rintro en w14 ⟨rfl, hlv⟩
  have HLV := Lib.hid hlv
  clear hlv
  go_wp2_with fail
  obtain ⟨s14, F14, Ld14, Lg14, o14, hv14, hf14, hd14, hg14, hO14⟩ := HLV.out
  have hO15 := hO14.alloc (.cells [Value.slice Ax xb.length cx].toArray 27)
  have hlv : Lives w ([(w14.heap.size, .cells [Value.slice Ax xb.length cx].toArray 27)] ++ (Lx ++ ([(g4, .cells [Value.int .i64 2, Value.int .i64 2].toArray 44)] ++ X))) (.pointer (some ⟨bd, 0, none⟩)) (.pointer (some ⟨gl, 0, none⟩)) slot1.up _ _ (w14.alloc (.cells [Value.slice Ax xb.length cx].toArray 27)) := ⟨s14, F14, Ld14, Lg14, o14, hv14, hf14, hd14, hg14, own_count hO15 (by intro p; simp only [List.count_append, List.count_cons, List.count_nil]; omega)⟩
  have hcall := turn_up hlv (rdRows_one (b := xb) (.head _) HRD.out.more) (by simpa using HB3.out) (by simp; rw [HN3.out]; omega) (by simp; rw [HL3.out]; omega) (by simp) (by simp only [needs]; rw [HN3.out]; omega) (show l1.num < 16777215 by decide) (show l1.nx + 1 + 1 + 1 ≤ 16777215 by decide)
  with_reducible refine hcall.mono ?_
  clear hcall HLV hlv hO15 hO14 hg14 hd14 hf14 hv14 o14
  rintro en w15 ⟨rfl, s15, F15, Ld15, Lg15, o15, hv15, hf15, hd15, hg15, hO15⟩
  have HD15 := Lib.hid hd15; have HO15 := Lib.hid hO15; have HS15 := Lib.hid o15; have HL15 := Lib.hid hv15; have HG15 := Lib.hid hg15; have HF15 := Lib.hid hf15
  clear hd15 hO15 o15 hv15 hg15 hf15
  go_wp2_with fail
  have hcall := lawslot_c HD15.out HO15.out 1 (refuse0 HS15.out.up (by omega) (by rw [HS15.out.n, HL15.out.rest.n]; decide)) _ (by rw [HS15.out.la]; exact HL15.out.rest.slot) (slot_byt HL15.out.rest.tok) _ (slot_open HL15.out.rest.tok)
  with_reducible refine hcall.mono ?_
  clear hcall HD15 HO15
  rintro en w16 ⟨v16, L16, L17, rfl, h16, hd17, hO17⟩
  obtain ⟨A16, c16, rfl⟩ := h16.val
  have hO18 : Own w w16 ((g4, .cells [Value.int .i64 2, Value.int .i64 2].toArray 44) :: (L16 ++ (L17 ++ (Lg15 ++ (Lx ++ X))))) := by
    have h5 : Own w w16 (L16 ++ (L17 ++ (Lg15 ++ (Lx ++ ([(g4, .cells [Value.int .i64 2, Value.int .i64 2].toArray 44)] ++ X))))) := hO17.sub ((List.Sublist.refl L16).append ((List.Sublist.refl L17).append ((List.Sublist.refl Lg15).append ((List.Sublist.refl _).cons _))))
    exact own_count h5 (by intro p; simp only [List.count_append, List.count_cons, List.count_nil]; omega)
  have HD17 := Lib.hid hd17; have HO18 := Lib.hid hO18; have H16 := Lib.hid h16
  clear hd17 hO17 h16 hO18
  simp only []
  go_wp2_with (first | (refine wl_store rfl _ _ _ rfl HO18.out 0 g4 0 _ [Value.int .i64 2, Value.int .i64 3] _ rfl (by rfl) (by rfl) mark_size (one_2i _ _) (by simp) ?_; intro w18 hO19; have HO19 := Lib.hid hO19; clear hO19 HO18) | (refine wl_load rfl _ _ rfl g4 0 [.int .i64 2, .int .i64 3] [.int .i64 2, .int .i64 3] 44 (HO19.out.heap (.head _)) (by rfl) _ Try.underlying44 rfl mark_size (by rfl) ?_))
  have hO20 := HO19.out.alloc (.cells #[Value.int .u8 1, Value.int .u8 0, Value.int .u8 0, Value.int .u8 3, Value.int .u8 0, Value.int .u8 2] 5)
  have hcall := same_yes (w := w18.alloc (.cells #[Value.int .u8 1, Value.int .u8 0, Value.int .u8 0, Value.int .u8 3, Value.int .u8 0, Value.int .u8 2] 5)) _ (.slice (some ⟨w18.heap.size, 0, none⟩) 6 6) _ [1, 0, 0, 3, 0, 2] (H16.out.bs_sub hO20 (sub_there (B := [_, _]) sub_here)) ((isBytes_whole w18.heap.size [1, 0, 0, 3, 0, 2] (by simp)).bs_sub hO20 (sub_here (A := [_]))) (by simp [Slot.by]) (show [1 - l1.half, (l1.nx + 1 + 1) / 65536, (l1.nx + 1 + 1) / 256 % 256, (l1.nx + 1 + 1) % 256, l1.ep / 256, l1.ep % 256] = [1, 0, 0, 3, 0, 2] by decide)
  with_reducible refine hcall.mono ?_
  clear hcall
  rintro en w19 ⟨rfl, m19, rfl⟩
  have hlv : Lives w (Lx ++ X) (.pointer (some ⟨bd, 0, none⟩)) (.pointer (some ⟨gl, 0, none⟩)) _ _ _ ((w18.alloc (.cells #[Value.int .u8 1, Value.int .u8 0, Value.int .u8 0, Value.int .u8 3, Value.int .u8 0, Value.int .u8 2] 5)).drewN m19) := ⟨s15, F15, L17, Lg15, HS15.out, HL15.out, HF15.out, HD17.out, HG15.out, (hO20.drewN m19).tail.tail.right⟩
  have HLV := Lib.hid hlv
  clear hlv hO20 HO19 H16 HD17 HS15 HL15 HF15 HG15
  generalize (w18.alloc (.cells #[Value.int .u8 1, Value.int .u8 0, Value.int .u8 0, Value.int .u8 3, Value.int .u8 0, Value.int .u8 2] 5)).drewN m19 = w19 at *
  go_wp2_with fail
  have hcall := room_lives HLV.out 255 (by simp only [needR, needs, List.map_cons, List.map_nil]; rw [HN3.out]; decide)
  with_reducible refine hcall.mono ?_
  clear hcall HLV
  rintro en w20 ⟨rfl, hlv⟩
  obtain ⟨s, F, Ld, Lg, _, _, _, _, _, h6⟩ := hlv
  have HO20 := Lib.hid h6
  clear h6
  go_wp2_with fail
  have hcall := wakes4_c HO20.out
  with_reducible refine hcall.mono ?_
  clear hcall
  rintro en w21 ⟨rfl, hO21⟩
  have HO21 := Lib.hid hO21
  clear hO21 HO20
  go_wp2
  go_ret
  exact ⟨rfl, HO21.out.below⟩
set_option maxRecDepth 100000 in
theorem logSlots_lifted (os : Os) (started : os.Started) (H : Type) (enc : TypeId × Value → H) :
    ReturnsInHanded {} Try.checked os 4 .any (Rows.logSlotsSpec.pre6 enc Try.prog Try.f4 Rows.logSlotsRow.domain false) (Rows.logSlotsSpec.post enc Try.prog Try.f4 false true false false) := by
  refine returnsInHanded_of_change (C := Try.checked) (by kernel_rfl) started (by kernel_rfl) Try.func4
    (ChangeSpec.witness6 (enc := enc) (C := Try.checked) false ⟨#[], #[.int .i64 0], []⟩ 8 (by kernel_rfl) (by kernel_rfl) (by kernel_rfl) (by kernel_rfl)) ?_
  intro W base args ds gs before hval0 hW hcnd _
  have hval : ∀ (j : Nat) t v, Try.f4.params[j]? = some t → args[j]? = some v → Value.okWide Try.prog W .any base t v := hval0
  have hW' := hW
  obtain ⟨p, q, hA0, hV, rfl, hfz, hnd⟩ := hW
  have hA : DataW.TrodAll enc Try.prog W 0 (fun _ => true) true Try.f4.params.toList args.toList ds p := hA0
  rw [Try.params4] at hA hval
  obtain ⟨v0, vs0, d0, ds0, p0, q0, hargs, rfl, rfl, h0, r0⟩ := trodAll_cons hA
  obtain ⟨rfl, rfl, rfl⟩ := trodAll_nil r0
  obtain rfl : args = #[v0] := by cases args; simp_all
  obtain ⟨rfl, rfl⟩ := trodVars_none hV
  obtain ⟨a0, rfl, rfl, rfl, w0⟩ := open_int Try.underlying3 (hval 0 3 v0 rfl rfl) h0
  clear hA0 hval0
  refine (logSlots_walk a0 w0 W).mono fun e W' ⟨he, bel⟩ => ?_
  subst he
  exact ⟨_, rfl, _, _, _, [], _, [], hW', trodAll_mk1 (shut_bool Try.underlying4 _), (trodAll_cons_mk (shut_int Try.underlying3 w0) trodAll_mk0), rfl, bel.frame _, fun h => by cases h⟩

/-- The statement. -/
theorem logSlots_proved : Rows.LogSlotsSaid :=
  OpenClaim.holds_of_wide 4 Try.f4 rfl rfl rfl rfl rfl rfl rfl ⟨rfl, rfl, rfl, rfl, rfl⟩ rfl rfl rfl rfl rfl (by kernel_rfl) Try.func4 (by kernel_rfl)
    (of_decide_eq_true (by kernel_rfl)) (by unfold Func.isWrapper; first | (rw [if_pos (by decide +kernel)]; kernel_rfl) | (rw [if_neg (by decide +kernel)]; exact ⟨rfl, rfl⟩))
    (fun os started H enc _ => logSlots_lifted os started H enc)
end Go.Proofs.Ytdndkapfaiplnaa
