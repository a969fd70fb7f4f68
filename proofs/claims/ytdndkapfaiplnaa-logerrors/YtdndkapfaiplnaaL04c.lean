/-
  LogErrors: every input answers true (disks that are none; a format of one that was used; power that goes).
  No conditions beyond the statement's own.
-/
import Derived.Test.YtdndkapfaiplnaaL04a
import Derived.Test.YtdndkapfaiplnaaConv
namespace Go.Proofs.Ytdndkapfaiplnaa
set_option linter.unusedVariables false
set_option linter.unusedSimpArgs false
set_option maxRecDepth 100000
open Go.ChangeShapes Go.WideShapes Go.ChangeAt Go.RowKit
open Go.ChangeMaps (open_string shut_string)

theorem InRow.ints4 {w : World} {v : Value} {xs : List Int} (h : InRow .i64 w v xs) : ∃ A c, v = .slice A xs.length c ∧ xs.length ≤ maxLen ∧ ∀ i, i < xs.length → ∃ ad, A = some ad ∧ ∀ wx L, Own w wx L → ∀ j, j < xs.length → wx.cell? (ad.add j) = some (.int .i64 (xs.getD j 0)) := by
  obtain ⟨A, n, c, rfl, hn, hc, hm, _, hA⟩ := h
  subst hn
  refine ⟨A, c, rfl, by omega, fun i hi => ?_⟩
  obtain ⟨ad, rfl, hb, hcell⟩ := hA (by omega)
  refine ⟨ad, rfl, fun wx L hO j hj => ?_⟩
  rw [hO.below.cell (by rw [block_of_add]; exact hb)]
  exact hcell j _ (by simp [List.getD, hj])
theorem lwrite_zero {s : DSt} {a : Nat} {e q : Int} {b : List Int} (hd : s.down = false) (hl : s.left = 0) (hn : (a : Int) < s.n) : s.lwrite a e q [b] = ({ s with down := true }, 8) := by
  have h1 := need_pos b
  have h2 : allSecs e q [b] = sec e q b 0 :: (secs_of e q b).drop 1 := by
    rw [allSecs_one, ← secs_of_drop e q b 0 (by omega), List.drop_zero]
  obtain ⟨e1, e2⟩ := write_down (xs := sec e q b 0) (refuse0 hd (Int.natCast_nonneg a) hn) (sec_len _ _ _ _) hl
  unfold DSt.lwrite
  have hne : ¬ s.writeE (a : Int) (sec e q b 0) = 0 := by rw [e2]; decide
  rw [h2, writes_cons, if_neg hne, e1, e2]
  simp
theorem byt_lit4 {xs : List Int} (h : xs.all (fun x => decide (0 ≤ x ∧ x ≤ 255)) = true) : Byt xs := by
  intro x hx
  have := List.all_eq_true.1 h x hx
  simpa using this
def ErrTo (w : World) (d : Value) (j : Nat) (wx : World) : Prop := ∃ s Ld, IsDisk d s Ld ∧ s.n = 514 ∧ s.down = false ∧ s.left = -1 ∧ s.pend.length ≤ j ∧ Own w wx (Ld ++ [])
theorem build_ks (m : Int) (w : World) : (Instr.buildSlice 22 4 #[(0, .int .i64 0), (1, .int .i64 513), (2, .int .i64 515), (3, .int .i64 m)]).run Try.prog w = .ok (.slice (some ⟨w.heap.size, 0, none⟩) 4 4) (w.alloc (.cells (iv [0, 513, 515, m]).toArray 3)) := by kernel_rfl
theorem build_a (w : World) : (Instr.buildSlice 27 1 #[(0, .int .u8 97)]).run Try.prog w = .ok (.slice (some ⟨w.heap.size, 0, none⟩) 1 1) (w.alloc (.cells (bv [97]).toArray 5)) := by kernel_rfl
set_option maxHeartbeats 16000000 in
theorem logErrors_walk {w : World} (a0 : Int) (_ : (Lit.int .i64 a0).wf = true) (v1 : Value) (a1 : List Int) (h1 : InRow .i64 w v1 a1) : Calls Try.prog 5 #[.int .i64 a0, v1] w (Yes w) := by
  obtain ⟨A1, c1, rfl, hl1, hr1⟩ := h1.ints4
  have HR1 := Lib.hid hr1
  clear h1 hr1
  simp only [maxLen] at hl1
  have HO := Lib.hid (Own.start w)
  go_enter Try.func5, Try.ntmps5
  go_wp2_with fail
  have hcall := within_n (w := w) a0 1024 (by omega) (by omega)
  with_reducible refine hcall.mono ?_
  clear hcall
  rintro en w1 ⟨rfl, rfl⟩
  have hm : (a0 % 1024).toNat < 1024 := by omega
  generalize (a0 % 1024).toNat = m at *
  go_wp2_with (refine wl_buildSlice rfl _ _ _ rfl HO.out _ (by exact build_ks (m : Int) _) ?_; intro g21 w1 hO1; have HO1 := Lib.hid hO1; clear hO1 HO)
  go_loopg [23] 4 (fun gg v23 wx => ∃ i : Nat, i ≤ 4 ∧ gg = 4 - i ∧ v23 = .int .i64 i ∧ Hid (Own w wx [(g21, .cells (iv [0, 513, 515, (m : Int)]).toArray 3)]))
  case atStart => exact ⟨0, by omega, rfl, rfl, HO1.out⟩
  case round =>
    obtain ⟨i, hi, rfl, rfl, HOi⟩ := hrel
    clear HO1
    by_cases hlt : i < 4
    · obtain ⟨k, hk, hkc⟩ : ∃ k : Nat, k < 1024 ∧ wr.cell? ⟨g21, i, none⟩ = some (.int .i64 (k : Int)) := by
        have hc := HOi.out.cell (.head _) i
        rcases (show i = 0 ∨ i = 1 ∨ i = 2 ∨ i = 3 by omega) with rfl | rfl | rfl | rfl
        · exact ⟨0, by omega, hc⟩
        · exact ⟨513, by omega, hc⟩
        · exact ⟨515, by omega, hc⟩
        · exact ⟨m, hm, hc⟩
      have hiI : (i : Int) < 4 := by omega
      go_wp2_with fail
      clear hkc
      have hcall := new_is HOi.out (k : Int) k (by omega)
      with_reducible refine hcall.mono ?_
      clear hcall HOi
      rintro en w2 ⟨d, L2, rfl, hd2, hO2⟩
      obtain ⟨bd, rfl⟩ := hd2.ptr
      have HD2 := Lib.hid hd2; have HO2 := Lib.hid hO2
      clear hd2 hO2
      by_cases hk5 : k = 514
      · have hne : ((k : Int) != 514) = false := by rw [bne_eq_false_iff_eq]; omega
        have HO3 := Lib.hid HO2.out.right
        clear HO2 HD2
        go_wp2
        go_roundg (4 - (i + 1))
        case measure => omega
        case rel => exact ⟨i + 1, by omega, rfl, by go_num, HO3.out⟩
      · have hne : ((k : Int) != 514) = true := bne_iff_ne.2 (by omega)
        go_wp2_with fail
        have hcall := format_arg HD2.out HO2.out (by rw [newSt_n]; exact hk5)
        with_reducible refine hcall.mono ?_
        clear hcall HD2 HO2
        rintro en w3 ⟨rfl, L3, hd3, hO3⟩
        have HD3 := Lib.hid hd3; have HO3 := Lib.hid hO3
        clear hd3 hO3
        go_wp2_with fail
        have hcall := lopen_arg HD3.out HO3.out (by rw [newSt_n]; exact hk5)
        with_reducible refine hcall.mono ?_
        clear hcall HD3 HO3
        rintro en w4 ⟨rfl, L4, hd4, hO4⟩
        have HO4 := Lib.hid hO4.right
        clear hd4 hO4
        go_wp2
        go_roundg (4 - (i + 1))
        case measure => omega
        case rel => exact ⟨i + 1, by omega, rfl, by go_num, HO4.out⟩
    · obtain rfl : i = 4 := by omega
      have HO5 := Lib.hid HOi.out.tail
      clear HOi
      go_wp2_with fail
      have hcall := new_is HO5.out 514 514 (by decide)
      with_reducible refine hcall.mono ?_
      clear hcall
      rintro en w6 ⟨d, L6, rfl, hd6, hO6⟩
      obtain ⟨bd, rfl⟩ := hd6.ptr
      have HE : Hid (ErrTo w (.pointer (some ⟨bd, 0, none⟩)) 0 w6) := ⟨_, L6, hd6, newSt_n 514, rfl, rfl, by decide, hO6⟩
      clear hd6 hO6 HO5
      go_wp2_with fail
      go_loopg [12] 41 (fun gg v12 wx => ∃ j : Nat, (j ≤ 40 ∧ j % 2 = 0) ∧ gg = 41 - j ∧ v12 = .int .i64 (j : Nat) ∧ Hid (ErrTo w (.pointer (some ⟨bd, 0, none⟩)) j wx))
      case atStart => exact ⟨0, ⟨by omega, rfl⟩, rfl, rfl, HE.out⟩
      case round =>
        obtain ⟨j, hj, rfl, rfl, HEj⟩ := hrel
        clear HE
        by_cases hgo : j + 1 < a1.length ∧ j < 40
        · obtain ⟨h2, h3⟩ := hgo
          obtain ⟨ad, rfl, hcl⟩ := HR1.out 0 (by omega)
          obtain ⟨s, Ld, hd, hn, hdn, hlf, hpe, hOj⟩ := HEj.out
          clear HEj
          have hcl0 := fun wx L hO => hcl wx L hO j (by omega)
          have hcl1 := fun wx L hO => hcl wx L hO (j + 1) h2
          generalize a1.getD j 0 = x0 at hcl0
          generalize a1.getD (j + 1) 0 = x1 at hcl1
          have HCL := Lib.hid (fun wx L hO => And.intro (hcl0 wx L hO) (show wx.cell? ⟨ad.block, ad.off + (j + 1), none⟩ = _ from (by have := hcl1 wx L hO; simpa [Addr.add] using this)))
          clear hcl0 hcl1
          have HD := Lib.hid hd; have HOj := Lib.hid hOj; have HN := Lib.hid hn; have HDN := Lib.hid hdn; have HLF := Lib.hid hlf
          clear hcl hd hOj hn hdn hlf
          have hI1 : (j : Int) + 1 < a1.length := by omega
          have hI2 : (j : Int) < 40 := by omega
          have hI0 : (0 : Int) ≤ (j : Int) + 1 := by omega
          have hI3 : (j : Int) < a1.length := by omega
          have hw0 : IntKind.i64.wrap ((j : Int) + 1) = (j : Int) + 1 := IntWalk.i64_in _ (by omega)
          go_wp2_with fail
          refine wp_region_lin (fun w' => w'.cell? (ad.add j) = some (.int .i64 x0) ∧ w'.cell? ⟨ad.block, ad.off + (j + 1), none⟩ = some (.int .i64 x1)) 13 [(0, true), (1, true), (2, true), (3, true), (4, true), (6, true), (7, true), (8, true), (9, true), (10, true), (5, false), (11, false), (12, false)] (by kernel_rfl) (by kernel_rfl) (fun _ _ d _ _ h => by cases d <;> exact h) (HCL.out _ _ HOj.out.drew) ?_
          have HO7 := Lib.hid HOj.out.drew
          clear HOj
          generalize wr.drew = w7 at *
          simp only [List.map_cons, List.map_nil, pick_zero, pick_succ, List.drop_succ_cons, List.drop_zero]
          iterate 10 (refine lin_q ?_ rfl ?_ ?_; rotate_left 1; (focus (rintro w' ⟨hq0, hq1⟩; go_simp; first | done | with_reducible rfl | (trace_state; fail))); simp only [Act.put, List.setIfInBounds_toArray, List.set_cons_zero, List.set_cons_succ])
          refine lin_act ?_
          refine wl_call rfl _ _ _ (by go_simp) (within_n (w := w7) x0 12 (by omega) (by omega)) ?_
          rintro e w8 ⟨rfl, rfl⟩
          refine ⟨_, rfl, LinPost.mk (HCL.out _ _ HO7.out) ?_⟩
          simp only [Act.put, List.setIfInBounds_toArray, List.set_cons_zero, List.set_cons_succ]
          have hk12 : (x0 % 12).toNat < 12 := by omega
          generalize (x0 % 12).toNat = k at *
          refine lin_act ?_
          refine wl_call rfl _ _ _ (by go_simp) (bytes32_c HO7.out x1) ?_
          rintro e w8 ⟨vx, Lx, rfl, hx, hO8⟩
          refine ⟨_, rfl, LinPost.mk (HCL.out _ _ hO8) ?_⟩
          have HX := Lib.hid hx; have HO8 := Lib.hid hO8.rot
          clear hx hO8 HO7
          simp only [Act.put, List.setIfInBounds_toArray, List.set_cons_zero, List.set_cons_succ]
          refine lin_act ?_
          have hwg := write_go (s := s) (i := (k : Int)) (xs := pbytes x1 32) (refuse0 HDN.out (by omega) (by rw [HN.out]; omega)) (by simp [pbytes]) HLF.out
          refine wl_call rfl _ _ _ (by go_simp) (write_is HD.out HO8.out (k : Int) vx (pbytes x1 32) (HX.out.rd sub_here) (by omega) _ _ hwg.1 hwg.2) ?_
          rintro e w9 ⟨rfl, L9, hd9, hO9⟩
          refine ⟨_, rfl, LinPost.mk (HCL.out _ _ hO9) ?_⟩
          have HE9 : Hid (ErrTo w (.pointer (some ⟨bd, 0, none⟩)) (j + 2) w9) := ⟨_, L9, hd9, HN.out, HDN.out, HLF.out, by simp only [List.length_append, List.length_singleton]; omega, hO9.rot.right⟩
          clear hd9 hO9 HO8 HX HD HN HDN HLF hwg
          simp only [Act.put, List.setIfInBounds_toArray, List.set_cons_zero, List.set_cons_succ]
          refine lin_nil ?_
          go_wp2
          go_roundg (41 - (j + 2))
          case measure => omega
          case rel => exact ⟨j + 2, ⟨by omega, by omega⟩, rfl, by go_num, HE9.out⟩
        · obtain ⟨s, Ld, hd, hn, hdn, hlf, hpe, hOj⟩ := HEj.out
          clear HEj
          have HD := Lib.hid hd; have HOj := Lib.hid hOj; have HN := Lib.hid hn; have HDN := Lib.hid hdn; have HLF := Lib.hid hlf
          clear hd hOj hn hdn hlf
          have hgo2 : ¬ ((j : Int) + 1 < a1.length) ∨ (((j : Int) + 1 < a1.length) ∧ ¬ ((j : Int) < 40)) := by omega
          clear hgo HR1
          have key : ∀ wx, Own w wx (Ld ++ []) → True := fun _ _ => trivial
          clear key
          have hw0 : IntKind.i64.wrap ((j : Int) + 1) = (j : Int) + 1 := IntWalk.i64_in _ (by omega)
          rcases hgo2 with hn1 | ⟨hy1, hn2⟩
          all_goals
            clear hw0
            go_wp2_with (first | (refine wl_build rfl _ _ rfl _ (by exact build_mark2 9 77 _) ?_) | (refine wl_buildSlice rfl _ _ _ rfl HOj.out _ (by exact build_six 0 0 0 1 0 1 _) ?_; intro g85 w10 hO10; have HO10 := Lib.hid hO10; clear hO10 HOj))
            have hcall := seal_ok HO10.out 9 77 0 1 (.slice (some ⟨g85, 0, none⟩) 6 6) [0, 0, 0, 1, 0, 1] ((isBytes_whole g85 [0, 0, 0, 1, 0, 1] (by simp)).rd (sub_here (A := [_]))) (by decide)
            with_reducible refine hcall.mono ?_
            clear hcall
            rintro en w11 ⟨v11, L11, rfl, h11, hO11⟩
            have hO12 : Own w w11 (Ld ++ (L11 ++ [])) := Own.rot (hO11.sub ((List.Sublist.refl L11).append ((List.Sublist.refl _).cons _)))
            have HO12 := Lib.hid hO12; have H11 := Lib.hid h11
            clear hO11 hO12 h11 HO10
            go_wp2_with fail
            have hwg := write_go (s := s) (i := 0) (xs := sealed 9 77 0 1 [0, 0, 0, 1, 0, 1]) (refuse0 HDN.out (by omega) (by rw [HN.out]; omega)) (by decide) HLF.out
            have hcall := write_is HD.out HO12.out 0 v11 _ (H11.out.rd sub_here) (by omega) _ _ hwg.1 hwg.2
            with_reducible refine hcall.mono ?_
            clear hcall hwg
            rintro en w12 ⟨rfl, L12, hd12, hO12⟩
            have HD12 := Lib.hid hd12; have HO13 := Lib.hid hO12.rot.right
            clear hd12 hO12 HO12 H11 HD
            go_wp2_with fail
            have hcall := format_ok HD12.out HO13.out HN.out HDN.out HLF.out (by simp only [List.length_append, List.length_singleton]; omega)
            with_reducible refine hcall.mono ?_
            clear hcall HD12 HO13 HN HDN HLF
            rintro en w13 ⟨rfl, L13, hd13, hO13⟩
            have HD13 := Lib.hid hd13; have HO14 := Lib.hid hO13
            clear hd13 hO13
            go_wp2_with fail
            have hcall := pending_is HD13.out HO14.out 0 rfl
            with_reducible refine hcall.mono ?_
            clear hcall
            rintro en w14 ⟨rfl, rfl⟩
            go_wp2_with fail
            have hcall := open_up HD13.out HO14.out onF_fmt rest_fmt rfl (by decide) (by decide) (by decide)
            with_reducible refine hcall.mono ?_
            clear hcall HD13 HO14
            rintro en w14 ⟨gl, rv, X, rfl, hrv, hl⟩
            obtain ⟨Ar, cr, rfl⟩ : ∃ A c, rv = .slice A 0 c := by
              obtain ⟨vs, Lr, Y, _, h1, _⟩ := hrv
              exact h1.val
            have HL := Lib.hid hl
            clear hl hrv
            go_wp2_with fail
            have hcall := epoch_lives HL.out 2 rfl
            with_reducible refine hcall.mono ?_
            clear hcall HL
            rintro en w15 ⟨rfl, s15, F15, Ld15, Lg15, o15, hv15, hf15, hd15, hg15, hO15⟩
            have HD15 := Lib.hid hd15; have HO15 := Lib.hid hO15; have HS15 := Lib.hid o15; have HL15 := Lib.hid hv15; have HG15 := Lib.hid hg15
            clear hd15 hO15 o15 hv15 hg15 hf15
            go_wp2_with fail
            have hcall := limit_c HD15.out HO15.out 0 (by omega)
            with_reducible refine hcall.mono ?_
            clear hcall HD15 HO15
            rintro en w16 ⟨rfl, L16, hd16, hO16⟩
            have HD16 := Lib.hid hd16; have HO16 := Lib.hid hO16
            clear hd16 hO16
            go_wp2_with (first | (refine wl_buildSlice rfl _ _ _ rfl HO16.out _ (by exact build_a _) ?_; intro g17 w17 hO17; have HO17 := Lib.hid hO17; clear hO17 HO16) | (refine wl_conv rfl _ rfl g17 1 1 _ HO17.out (by rfl) ?_; intro w18 hO18; have HO18 := Lib.hid hO18; clear hO18 HO17))
            have hO19 : Own w w18 (L16 ++ (Lg15 ++ ([sblk g17 [97]] ++ (X ++ [])))) := own_count HO18.out (by intro p; simp only [List.count_append, List.count_cons, List.count_nil]; omega)
            have hat := Slot.at_eq HL15.out.rest.tok.half
            have hen := HL15.out.en
            have hlz := lwrite_zero (s := { s15 with left := max 0 (-1) }) (a := 2) (e := (upL slot1 []).ep) (q := (upL slot1 []).nx) (b := [97]) HS15.out.up rfl (by show (2 : Int) < s15.n; rw [HS15.out.n, HL15.out.rest.n]; decide)
            have hcall := append_go HD16.out HG15.out hO19 (rd_sblk (n := 1) (c := 1) (xs := [97]) (.head _) rfl (by omega)) (byt_lit4 (by decide)) (by decide) (by decide) (.inl rfl) (by decide) rfl (by decide) (by show s15.n = 514; rw [HS15.out.n, HL15.out.rest.n]) (by decide) (by decide) (by show s15.pend.length ≤ 1000; rw [HS15.out.pend]; decide)
            rw [show (upL slot1 []).en = ((2 : Nat) : Int) from rfl, hlz] at hcall
            with_reducible refine hcall.mono ?_
            clear hcall hO19 hlz HO18 HD16 HG15 hat hen
            rintro en w20 (⟨h20, -⟩ | ⟨-, rfl, L20, Lg20, hd20, hg20, hO20⟩)
            · simp at h20
            simp only at hd20
            have HD20 := Lib.hid hd20
            have HO20 := Lib.hid hO20
            clear hd20 hO20 hg20
            have HN20 : Hid (s15.n = 514) := by show s15.n = 514; rw [HS15.out.n, HL15.out.rest.n]
            have HP20 : Hid (s15.pend = []) := HS15.out.pend
            clear HS15 HL15
            simp only []
            go_wp2_with fail
            have hcall := lopen_down HD20.out HO20.out HN20.out rfl
            with_reducible refine hcall.mono ?_
            clear hcall HD20 HO20
            rintro en w21 ⟨rfl, L21, hd21, hO21⟩
            have HD21 := Lib.hid hd21
            have HO21 := Lib.hid hO21
            clear hd21 hO21
            go_wp2_with fail
            have hcall := format_down HD21.out HO21.out HN20.out rfl (by show s15.pend.length ≤ 1000; rw [HP20.out]; decide)
            with_reducible refine hcall.mono ?_
            clear hcall HD21 HO21
            rintro en w22 ⟨rfl, L22, hd22, hO22⟩
            have HO22 := Lib.hid hO22
            clear hd22 hO22
            go_wp2_with fail
            have hcall := wakes4_c HO22.out
            with_reducible refine hcall.mono ?_
            clear hcall
            rintro en w23 ⟨rfl, hO23⟩
            have HO23 := Lib.hid hO23
            clear hO23 HO22
            go_wp2
            go_ret
            exact ⟨rfl, HO23.out.below⟩
set_option maxRecDepth 100000 in
theorem logErrors_lifted (os : Os) (started : os.Started) (H : Type) (enc : TypeId × Value → H) :
    ReturnsInHanded {} Try.checked os 5 .any (Rows.logErrorsSpec.pre6 enc Try.prog Try.f5 Rows.logErrorsRow.domain false) (Rows.logErrorsSpec.post enc Try.prog Try.f5 false true false false) := by
  refine returnsInHanded_of_change (C := Try.checked) (by kernel_rfl) started (by kernel_rfl) Try.func5
    (ChangeSpec.witness6 (enc := enc) (C := Try.checked) false ⟨#[], #[.int .i64 0, .slice none 0 0], []⟩ 8 (by kernel_rfl) (by kernel_rfl) (by kernel_rfl) (by kernel_rfl)) ?_
  intro W base args ds gs before hval0 hW hcnd _
  have hval : ∀ (j : Nat) t v, Try.f5.params[j]? = some t → args[j]? = some v → Value.okWide Try.prog W .any base t v := hval0
  have hW' := hW
  obtain ⟨p, q, hA0, hV, rfl, hfz, hnd⟩ := hW
  have hA : DataW.TrodAll enc Try.prog W 0 (fun _ => true) true Try.f5.params.toList args.toList ds p := hA0
  rw [Try.params5] at hA hval
  obtain ⟨v0, vs0, d0, ds0, p0, q0, hargs, rfl, rfl, h0, r0⟩ := trodAll_cons hA
  obtain ⟨v1, vs1, d1, ds1, p1, q1, rfl, rfl, rfl, h1, r1⟩ := trodAll_cons r0
  obtain ⟨rfl, rfl, rfl⟩ := trodAll_nil r1
  obtain rfl : args = #[v0, v1] := by cases args; simp_all
  obtain ⟨rfl, rfl⟩ := trodVars_none hV
  obtain ⟨a0, rfl, rfl, rfl, w0⟩ := open_int Try.underlying3 (hval 0 3 v0 rfl rfl) h0
  obtain ⟨b1, len1, cap1, rfl⟩ := okWide_slice Try.underlying22 (hval 1 22 v1 rfl rfl)
  have k1 := h1
  have lt1 : ∀ x ∈ p1, x.block < W.heap.size := by obtain ⟨m, hm⟩ := k1; exact DataW.trod_lt m _ _ _ hm
  obtain ⟨a1, w1⟩ : ∃ xs, InRow .i64 W (.slice b1 len1 cap1) xs := by
    obtain ⟨fuel, hf⟩ := h1
    rcases open_ints Try.underlying22 Try.underlying3 (by kernel_rfl) hf with ⟨hcs, _⟩ | ⟨x, l, c, zs, hcs, _, hl, hm, hz, _, hcell, hwz⟩
    · simp [Value.cells] at hcs
      obtain ⟨rfl, rfl, rfl⟩ := hcs
      exact ⟨[], inRow_nil _ _⟩
    · simp [Value.cells] at hcs
      obtain ⟨rfl, rfl, rfl⟩ := hcs
      exact ⟨zs.take len1, inRow_mk hl hm (by simpa using hz) hcell hwz⟩
  clear hA0 hval0
  refine (logErrors_walk a0 w0 _ a1 w1).mono fun e W' ⟨he, bel⟩ => ?_
  subst he
  exact ⟨_, rfl, _, _, _, [], _, [], hW', trodAll_mk1 (shut_bool Try.underlying4 _), (trodAll_cons_mk (shut_int Try.underlying3 w0) (trodAll_cons_mk (Below.trod laidOut (by kernel_rfl) (of_decide_eq_true (by kernel_rfl)) k1 bel lt1) trodAll_mk0)), rfl, bel.frame _, fun h => by cases h⟩

/-- The statement. -/
theorem logErrors_proved : Rows.LogErrorsSaid :=
  OpenClaim.holds_of_wide 5 Try.f5 rfl rfl rfl rfl rfl rfl rfl ⟨rfl, rfl, rfl, rfl, rfl⟩ rfl rfl rfl rfl rfl (by kernel_rfl) Try.func5 (by kernel_rfl)
    (of_decide_eq_true (by kernel_rfl)) (by unfold Func.isWrapper; first | (rw [if_pos (by decide +kernel)]; kernel_rfl) | (rw [if_neg (by decide +kernel)]; exact ⟨rfl, rfl⟩))
    (fun os started H enc _ => logErrors_lifted os started H enc)
end Go.Proofs.Ytdndkapfaiplnaa
