/-
  LogCrash: every input answers true (cut off at any write, torn in any way, again and again, also in finding it again: what was answered OK is found).
  No conditions beyond the statement's own.
-/
import Derived.Test.YtdndkapfaiplnaaL04g0
import Derived.Deep.CutBlock
import Derived.SizedLaws
namespace Go.Proofs.Ytdndkapfaiplnaa
set_option linter.unusedVariables false
set_option linter.unusedSimpArgs false
set_option maxRecDepth 100000
open Go.ChangeShapes Go.WideShapes Go.ChangeAt Go.RowKit
open Go.ChangeMaps (open_string shut_string)

set_option maxHeartbeats 32000000 in
theorem logCrash_walk {w : World} (v0 : Value) (a0 : List Int) (h0 : InRow .i64 w v0 a0) (v1 : Value) (a1 : List Int) (h1 : InRow .i64 w v1 a1) (v2 : Value) (a2 : List Int) (h2 : InRow .i64 w v2 a2) (hk2 : a2.length ≤ 17592186043904) : Calls Try.prog 8 #[v0, v1, v2] w (Yes w) := by
  obtain ⟨A0, c0, rfl, hl0, hr0⟩ := h0.at4
  obtain ⟨A1, c1, rfl, hl1, hr1⟩ := h1.at4
  obtain ⟨A2, c2, rfl, -, -⟩ := h2.at4
  have HR0 := Lib.hid hr0; have HR1 := Lib.hid hr1; have HIN2 := Lib.hid h2
  clear h0 hr0 h1 hr1 h2
  simp only [maxLen] at hl0 hl1
  have HO := Lib.hid (Own.start w)
  go_enter Try.func8, Try.ntmps8
  go_wp2_with fail
  have hcall := new_is HO.out 514 514 (by decide)
  with_reducible refine hcall.mono ?_
  clear hcall
  rintro en w1 ⟨d, L1, rfl, hd1, hO1⟩
  obtain ⟨bd, rfl⟩ := hd1.ptr
  have HD1 := Lib.hid hd1; have HO1 := Lib.hid hO1
  clear hd1 hO1 HO
  go_wp2_with fail
  have hcall := format_ok HD1.out HO1.out (newSt_n 514) rfl rfl (by decide)
  with_reducible refine hcall.mono ?_
  clear hcall
  rintro en w2 ⟨rfl, L2, hd2, hO2⟩
  have HD2 := Lib.hid hd2; have HO2 := Lib.hid hO2
  clear hd2 hO2 HD1 HO1
  go_wp2_with fail
  have hcall := open_up HD2.out HO2.out onF_fmt rest_fmt rfl (by decide) (by decide) (by decide)
  with_reducible refine hcall.mono ?_
  clear hcall HD2 HO2
  rintro en w3 ⟨g3, rv, X3, rfl, hrv, s3, F3, Ld3, Lg3, o3, hv3, hf3, hd3, hg3, hO3⟩
  have HT : Hid (CrashTo w (.pointer (some ⟨bd, 0, none⟩)) 0 (.slice none 0 0) (.pointer (some ⟨g3, 0, none⟩)) w3) := ⟨g3, slot1.up, upL slot1 [], [], [], rfl, ⟨[], fun _ _ _ => ⟨_, _, _, rfl, rfl, Nat.le_refl _, fun h => absurd h (by omega)⟩, rfl, by simp⟩, ⟨s3, F3, Ld3, Lg3, o3, hv3, hd3, hg3, hO3.sub ((List.Sublist.refl Ld3).append ((List.Sublist.refl Lg3).append (List.nil_sublist _)))⟩, by decide, by decide, by decide, by simp [needR, needs], by simp⟩
  clear hrv o3 hv3 hf3 hd3 hg3 hO3
  go_wp2_with fail
  go_loopg [8, 9, 11, 12] 41 (fun gg v8 v9 v11 v12 wx => ∃ i : Nat, (i ≤ 40 ∧ i % 2 = 0) ∧ gg = 41 - i ∧ v12 = .int .i64 (i : Nat) ∧ v11 = .int .i64 0 ∧ Hid (CrashTo w (.pointer (some ⟨bd, 0, none⟩)) i v8 v9 wx))
  case atStart => exact ⟨0, ⟨by omega, rfl⟩, rfl, rfl, rfl, HT.out⟩
  case round =>
    obtain ⟨i, hi, rfl, rfl, rfl, HTi⟩ := hrel
    clear HT
    by_cases hgo : i + 1 < a0.length ∧ i < 40
    · obtain ⟨h2, h3⟩ := hgo
      obtain ⟨ad, rfl, hcl⟩ := HR0.out 0 (by omega)
      have hcl0 := fun wx L hO => hcl wx L hO i (by omega)
      have hcl1 := fun wx L hO => hcl wx L hO (i + 1) h2
      generalize a0.getD i 0 = x0 at hcl0
      generalize a0.getD (i + 1) 0 = x1 at hcl1
      have HCL := Lib.hid (fun wx L hO => And.intro (hcl0 wx L hO) (show wx.cell? ⟨ad.block, ad.off + (i + 1), none⟩ = _ from (by have := hcl1 wx L hO; simpa [Addr.add] using this)))
      clear hcl0 hcl1 hcl HR0
      have hI1 : (i : Int) + 1 < a0.length := by omega
      have hI2 : (i : Int) < 40 := by omega
      have hI0 : (0 : Int) ≤ (i : Int) + 1 := by omega
      have hI3 : (i : Int) < a0.length := by omega
      have hw0 : IntKind.i64.wrap ((i : Int) + 1) = (i : Int) + 1 := IntWalk.i64_in _ (by omega)
      obtain ⟨m, hm⟩ : ∃ m : Nat, i / 2 = m := ⟨_, rfl⟩
      have hdiv : (i : Int) / 2 = (m : Int) := by omega
      have hdiv3 : ((i / 2 : Nat) : Int) = (m : Int) := by omega
      clear hm
      obtain ⟨g, t, l, rs, X, rfl, hrows, ⟨s, F, Ld, Lg, o, hlv, hd, hg, hO⟩, hb1, hb2, hb3, hb4, hb5⟩ := HTi.out
      clear HTi
      have HO4 := Lib.hid hO; have HST := Lib.hid (And.intro o (And.intro hlv (And.intro hd hg))); have HROWS := Lib.hid hrows
      have HEQ := Lib.hid (And.intro hlv.num (And.intro hlv.ep hlv.nx))
      clear hO o hlv hd hg hrows
      go_wp2_with fail
      refine wp_region_lin (fun w' => w'.cell? (ad.add i) = some (.int .i64 x0) ∧ w'.cell? ⟨ad.block, ad.off + (i + 1), none⟩ = some (.int .i64 x1)) 15 [(0, true), (1, true), (2, true), (3, true), (4, true), (5, true), (6, true), (7, true), (8, true), (9, true), (10, true), (11, true), (12, false), (13, false), (14, true)] (by kernel_rfl) (by kernel_rfl) (fun _ _ d _ _ h => by cases d <;> exact h) (HCL.out _ _ HO4.out.drew) ?_
      have HO5 := Lib.hid HO4.out.drew
      clear HO4
      generalize wr.drew = w7 at *
      simp only [List.map_cons, List.map_nil, pick_zero, pick_succ, List.drop_succ_cons, List.drop_zero]
      iterate 12 (refine lin_q ?_ rfl ?_ ?_; rotate_left 1; (focus (rintro w' ⟨hq0, hq1⟩; go_simp; first | done | with_reducible rfl | (trace_state; fail))); simp only [Act.put, List.setIfInBounds_toArray, List.set_cons_zero, List.set_cons_succ])
      refine lin_act ?_
      refine wl_call rfl _ _ _ (by go_simp) (within_n (w := w7) x1 120 (by omega) (by omega)) ?_
      rintro e w8 ⟨rfl, rfl⟩
      refine ⟨_, rfl, LinPost.mk (HCL.out _ _ HO5.out) ?_⟩
      simp only [Act.put, List.setIfInBounds_toArray, List.set_cons_zero, List.set_cons_succ]
      have hk12 : (x1 % 120).toNat < 120 := by omega
      generalize (x1 % 120).toNat = k at *
      refine lin_act ?_
      refine wl_call rfl _ _ _ (by go_simp) (bytes_c HO5.out (IntKind.i64.wrap (x1 + (i : Int))) k (by omega)) ?_
      rintro e w8 ⟨vb, Lb, rfl, hvb, hO8⟩
      refine ⟨_, rfl, LinPost.mk (HCL.out _ _ hO8) ?_⟩
      generalize IntKind.i64.wrap (x1 + (i : Int)) = xb at *
      have HLV : Hid (LivesA w (Lb ++ X) (.pointer (some ⟨bd, 0, none⟩)) (.pointer (some ⟨g, 0, none⟩)) t l rs w8) := ⟨s, F, Ld, Lg, HST.out.1, HST.out.2.1, HST.out.2.2.1, HST.out.2.2.2, own_count hO8 (by intro p; simp only [List.count_append, List.count_cons, List.count_nil]; omega)⟩
      have hlenk : (pbytes xb k).length = k := by simp [pbytes]
      obtain ⟨Ab, cb, hvv⟩ := hvb.val
      rw [hlenk] at hvv
      subst hvv
      have HRD0 := Lib.hid (show Rd w Lb (.slice Ab k cb) (pbytes xb k) from hvb.rd (List.Sublist.refl _))
      have HBB := Lib.hid (byt_pbytes xb k)
      have HB120 := Lib.hid (show (pbytes xb k).length ≤ 120 by rw [hlenk]; omega)
      have hnb : need (pbytes xb k) ≤ 7 := by unfold need; rw [hlenk]; omega
      clear hvb hO8 HO5 HST hlenk
      simp only [Act.put, List.setIfInBounds_toArray, List.set_cons_zero, List.set_cons_succ]
      iterate 1 (refine lin_q ?_ rfl ?_ ?_; rotate_left 1; (focus (rintro w' -; go_simp; first | done | with_reducible rfl | (trace_state; fail))); simp only [Act.put, List.setIfInBounds_toArray, List.set_cons_zero, List.set_cons_succ])
      refine lin_nil ?_
      generalize pbytes xb k = b at *
      go_upto_if 72 with fail
      go_cut [80] (fun _ wx => LivesA w (Lb ++ X) (.pointer (some ⟨bd, 0, none⟩)) (.pointer (some ⟨g, 0, none⟩)) t l rs wx)
      case first =>
        rename_i JJ KK hJJ hKK
        as_aux_lemma =>
          by_cases hlim : m < a1.length
          · have hlimI : (m : Int) < (a1.length : Int) := by omega
            obtain ⟨adl, hAl, hcl1⟩ := HR1.out 0 (by omega)
            subst hAl
            have cl := fun wx L hO => hcl1 wx L hO m hlim
            generalize a1.getD m 0 = y at *
            have HCLL := Lib.hid cl
            clear cl hcl1 HR1
            obtain ⟨s5, F5, Ld5, Lg5, o5, hv5, hd5, hg5, hO5⟩ := HLV.out
            have cy := HCLL.out _ _ hO5
            have hk24 : (y % 24).toNat < 24 := by omega
            have hcw := within_n (w := w8) y 24 (by omega) (by omega)
            generalize (y % 24).toNat = k24 at *
            have HCW := Lib.hid hcw
            have HLI := Lib.hid (limit_c hd5 hO5 (k24 : Int) (by omega))
            have HS5 := Lib.hid (And.intro o5 (And.intro hv5 hg5))
            clear hcw o5 hv5 hd5 hg5 hO5 HLV HCLL
            go_wp2_with fail
            clear cy
            with_reducible refine HCW.out.mono ?_
            rintro en w9 ⟨rfl, rfl⟩
            go_wp2_with fail
            with_reducible refine HLI.out.mono ?_
            rintro en w10 ⟨rfl, L10, hd10, hO10⟩
            have HF : Hid (LivesA w (Lb ++ X) (.pointer (some ⟨bd, 0, none⟩)) (.pointer (some ⟨g, 0, none⟩)) t l rs w10) := ⟨{ s5 with left := max (k24 : Int) (-1) }, F5, L10, Lg5, ⟨HS5.out.1.fl, HS5.out.1.pend, HS5.out.1.up⟩, HS5.out.2.1, hd10, HS5.out.2.2, hO10⟩
            clear hd10 hO10 HLI HCW HS5
            go_wp2
            go_meet
            exact HF.out
          · have hlimI : ¬ ((m : Int) < (a1.length : Int)) := by omega
            go_wp2
            go_meet
            exact HLV.out
      case rest =>
        have HLV := Lib.hid hcut
        clear hcut
        clear HR1 hdiv hdiv3
        go_upto_region 14 with fail
        go_cut [14] (fun v14 wx => MidA w (.pointer (some ⟨bd, 0, none⟩)) (.pointer (some ⟨g, 0, none⟩)) t l rs u8 (Value.slice Ab k cb) b v14 wx)
        case first =>
          rename_i JJ KK hJJ hKK
          as_aux_lemma =>
            obtain ⟨vs, hv1, hv2, hv3⟩ := HROWS.out
            obtain ⟨s5, F5, Ld5, Lg5, o5, hv5, hd5, hg5, hO5⟩ := HLV.out
            obtain ⟨A8, c8, hu8⟩ : ∃ A c, u8 = .slice A rs.length c := by
              obtain ⟨A, c, e⟩ := (hv1 wc (Ld5 ++ (Lg5 ++ Lb)) (own_count hO5 (by intro p; simp only [List.count_append, List.count_cons, List.count_nil]; omega))).len
              exact ⟨A, c, by rw [e, hv2, List.length_map]⟩
            subst hu8
            rw [List.length_map] at hv2
            have hO12 := hO5.alloc (.cells [(Value.slice Ab k cb)].toArray 27)
            have hvv := hv1 (wc.alloc (.cells [(Value.slice Ab k cb)].toArray 27)) ([(wc.heap.size, (.cells [(Value.slice Ab k cb)].toArray 27))] ++ (Ld5 ++ (Lg5 ++ Lb))) (own_count hO12 (by intro p; simp only [List.count_append, List.count_cons, List.count_nil]; omega))
            have HO12 := Lib.hid hO12; have HV2 := Lib.hid hv2; have HV3 := Lib.hid hv3; have HV1 := Lib.hid hv1
            have HS5 := Lib.hid (And.intro o5 (And.intro hv5 (And.intro hd5 hg5)))
            clear o5 hv5 hd5 hg5 hO5 hO12 hv2 hv3 hv1 HLV
            have hrsl : rs.length ≤ 256 := by have := length_le_needR rs; omega
            obtain ⟨A', n', c', e', hn', hc', hA'⟩ := hvv
            cases e'
            have hend : ∀ (v' : Value) (w' : World) (L' : Blks), IsRow 27 1 v' (rs.length + 1) (vs ++ [(Value.slice Ab k cb)]) L' → Own w w' (L' ++ ([(wc.heap.size, (.cells [(Value.slice Ab k cb)].toArray 27))] ++ (Ld5 ++ (Lg5 ++ (Lb ++ X))))) → MidA w (.pointer (some ⟨bd, 0, none⟩)) (.pointer (some ⟨g, 0, none⟩)) t l rs (.slice A8 rs.length c8) (Value.slice Ab k cb) b v' w' := by
              intro v' w' L' hr' hO'
              have h5 : Own w w' (L' ++ (Ld5 ++ (Lg5 ++ (Lb ++ X)))) := hO'.rot.tail
              exact ⟨L' ++ (Lb ++ X), RdRows.more (RdRows.more HROWS.out), rdRows_snoc hr' HV2.out (by rw [List.length_map]) (fun j hj => HV3.out j (by rw [List.length_map]; exact hj)) HRD0.out, (HRD0.out.sublist (List.sublist_append_left Lb X)).more, ⟨s5, F5, Ld5, Lg5, HS5.out.1, HS5.out.2.1, HS5.out.2.2.1, HS5.out.2.2.2, own_count h5 (by intro p; simp only [List.count_append, List.count_cons, List.count_nil]; omega)⟩⟩
            have HEND := Lib.hid hend
            clear hend HS5 HV1 HV3 HROWS
            cases A8 with
            | none =>
              have hz : rs.length = 0 := by
                rcases Nat.eq_zero_or_pos rs.length with h | h
                · exact h
                · obtain ⟨ad', h', _⟩ := hA' (by omega); cases h'
              have hvs : vs = [] := List.eq_nil_of_length_eq_zero (by rw [HV2.out]; exact hz)
              subst hvs
              clear hA' hn' hc'
              have hrs : rs = [] := List.eq_nil_of_length_eq_zero hz
              clear hz
              subst hrs
              go_wp2_with (refine wl_appendV rfl _ _ _ rfl _ _ 24 Try.underlying28 rows_info (by rfl) (.slice none 0 0) 0 [] (by rfl) (L := []) ⟨rfl, .inl ⟨rfl, rfl, rfl⟩⟩ HO12.out (.slice (some ⟨wc.heap.size, 0, none⟩) 1 1) [(Value.slice Ab k cb)] (by rfl) (vs_oneL HO12.out (.head _)) (by simp; rfl) (by simp only [maxLen, List.length_singleton]; omega) (by simp only [List.length_singleton]; omega) ?_; intro v13 w13 L13 hr13 hO13; have HF := Lib.hid (HEND.out v13 w13 L13 (by simpa using hr13) hO13); clear hr13 hO13 HO12)
              go_meet
              exact HF.out
            | some ad2 =>
              have hcc : ∀ j u, vs[j]? = some u → (wc.alloc (.cells [(Value.slice Ab k cb)].toArray 27)).cell? (ad2.add j) = some u := fun j u hu => by
                have hj : j < vs.length := (List.getElem?_eq_some_iff.1 hu).1
                obtain ⟨ad', e, h⟩ := hA' (by omega)
                cases e
                exact h j u hu
              have HCC := Lib.hid hcc
              have hnc : (rs.length : Int) ≤ (c8 : Int) := by omega
              have hnn : (0 : Int) ≤ (rs.length : Int) := by omega
              clear hcc hA' hn' hc'
              go_wp2_with (refine wl_appendF rfl _ _ _ rfl _ _ 24 Try.underlying28 rows_info (by rfl) ad2 rs.length vs (by rfl) HV2.out HCC.out HO12.out ⟨wc.heap.size, 0, none⟩ 1 1 [(Value.slice Ab k cb)] (by rfl) rfl (by omega) (fun j u hu => by rw [addr_add_zero, HO12.out.cell (.head _) j]; simpa using hu) (by simp only [maxLen]; omega) (by omega) ?_; intro v13 w13 L13 hr13 hO13; have HF := Lib.hid (HEND.out v13 w13 L13 hr13 hO13); clear hr13 hO13 HO12)
              go_meet
              exact HF.out
        case rest =>
          have HM := Lib.hid hcut
          clear hcut HLV HROWS HRD0
          obtain ⟨X2, hrA, hrN, hrb, ⟨s9, F9, Ld9, Lg9, o9, hv9, hd9, hg9, hO9⟩⟩ := HM.out
          have c0 := (HCL.out _ _ hO9).1
          clear hrA hrN hrb o9 hv9 hd9 hg9 hO9
          go_wp2_with fail
          clear c0
          have hcall := within_n (w := wc) x0 4 (by omega) (by omega)
          with_reducible refine hcall.mono ?_
          clear hcall
          rintro en w9 ⟨rfl, rfl⟩
          have hk4 : (x0 % 4).toNat < 4 := by omega
          generalize (x0 % 4).toNat = k4 at *
          go_upto_if 96 with fail
          generalize ((k4 : Int) == 3) = bt
          go_cut [14, 15] (fun v14 v15 wx => AfterOp w (.pointer (some ⟨bd, 0, none⟩)) (.pointer (some ⟨g, 0, none⟩)) i t rs u8 v14 v15 wx)
          case first =>
            rename_i JJ KK hJJ hKK
            cases bt
            · as_aux_lemma =>
                obtain ⟨X2, hrA, hrN, hrb, ⟨s9, F9, Ld9, Lg9, o9, hv9, hd9, hg9, hO9⟩⟩ := HM.out
                have hcall := append_live (bw := (Value.slice Ab k cb)) hd9 hg9 hO9 o9 hv9 hrb HBB.out (by omega) (by have := HB120.out; omega) (by omega) (by omega)
                have HC := Lib.hid hcall; have HRA := Lib.hid hrA; have HRN := Lib.hid hrN
                clear hcall hrA hrN hrb o9 hv9 hd9 hg9 hO9 HM
                go_wp2_with fail
                with_reducible refine HC.out.mono ?_
                clear HC
                rintro en w11 (⟨s11, F11, o11, hv11, -, rfl, Ld11, Lg11, hd11, hg11, hO11⟩ | ⟨s11, l11, -, hcut11, rfl, Ld11, Lg11, hd11, hg11, hO11⟩)
                · have HF : Hid (AfterOp w (.pointer (some ⟨bd, 0, none⟩)) (.pointer (some ⟨g, 0, none⟩)) i t rs u8 u14 (.int .i64 0) w11) := .inl ⟨rfl, t, _, rs ++ [(l.ep, b)], X2, by rw [show (rs ++ [(l.ep, b)]).map (·.2) = rs.map (·.2) ++ [b] by simp]; exact HRN.out, ⟨s11, F11, Ld11, Lg11, o11, hv11, hd11, hg11, hO11⟩, by simp only; omega, by simp only; omega, by simp only; omega, by rw [needR_append, show needR [(l.ep, b)] = need b by simp [needR, needs]]; omega, by
                    intro r hr
                    rcases List.mem_append.1 hr with hr | hr
                    · exact hb5 r hr
                    · rw [List.mem_singleton.1 hr]; exact HB120.out⟩
                  clear o11 hv11 hd11 hg11 hO11
                  go_wp2
                  go_meet
                  exact HF.out
                · have HF : Hid (AfterOp w (.pointer (some ⟨bd, 0, none⟩)) (.pointer (some ⟨g, 0, none⟩)) i t rs u8 u14 (.int .i64 8) w11) := .inr ⟨rfl, s11, X2, Ld11, HRA.out, hcut11, hd11, hO11.sub ((List.Sublist.refl Ld11).append (List.sublist_append_right Lg11 X2))⟩
                  clear hcut11 hd11 hg11 hO11
                  go_wp2
                  go_meet
                  exact HF.out
            · as_aux_lemma =>
                obtain ⟨k3, hk3, hwk3⟩ : ∃ k3 : Nat, k3 < 3 ∧ ∀ wx : World, Calls Try.prog 9 #[.int .i64 (wrap64 (x0.tdiv 4)), .int .i64 3] wx fun e w' => e = .returned (.int .i64 (k3 : Int)) ∧ wx = w' := ⟨(wrap64 (x0.tdiv 4) % 3).toNat, by omega, fun wx => within_n (w := wx) _ 3 (by omega) (by omega)⟩
                have HWK := Lib.hid hwk3
                obtain ⟨X2, hrA, -, -, hlv2⟩ := HM.out
                have HN0 : Hid (NextC w (.pointer (some ⟨bd, 0, none⟩)) (.pointer (some ⟨g, 0, none⟩)) t l rs X2 0 (.slice none 0 0) wc) := ⟨[], [], ⟨[], [], [], rfl, ⟨rfl, .inl ⟨rfl, rfl, rfl⟩⟩, by simp⟩, rfl, by simp, hlv2⟩
                have HRA := Lib.hid hrA
                clear hwk3 hrA hlv2 HM
                go_wp2_with fail
                go_loopg [14, 17] 3 (fun gg v14 v17 wx => ∃ j : Nat, j ≤ k3 ∧ gg = 3 - j ∧ v17 = .int .i64 (j : Nat) ∧ Hid (NextC w (.pointer (some ⟨bd, 0, none⟩)) (.pointer (some ⟨g, 0, none⟩)) t l rs X2 j v14 wx))
                case atStart => exact ⟨0, Nat.zero_le _, rfl, rfl, HN0.out⟩
                case round =>
                  obtain ⟨j, hj, rfl, rfl, HNj⟩ := hrel
                  clear HN0
                  obtain ⟨Z, bs, hz, hzl, hzb, ⟨s9, F9, Ld9, Lg9, o9, hv9, hd9, hg9, hO9⟩⟩ := HNj.out
                  clear HNj
                  have HZ := Lib.hid (And.intro hz (And.intro hzl hzb)); have HS9 := Lib.hid (And.intro o9 (And.intro hv9 (And.intro hd9 hg9))); have HO9 := Lib.hid hO9
                  have c0 := (HCL.out _ _ hO9).1
                  have c1 := (HCL.out _ _ hO9).2
                  clear hz hzl hzb o9 hv9 hd9 hg9 hO9
                  by_cases hjm : j < k3
                  · have hjI : (j : Int) < (k3 : Int) := by omega
                    have hw7 : IntKind.i64.wrap (7 * (j : Int)) = 7 * (j : Int) := IntWalk.i64_in _ (by omega)
                    have hby := fun y : Int => bytes_c HO9.out y 30 (by omega)
                    rw [show (((30 : Nat) : Int)) = 30 from rfl] at hby
                    have HBY := Lib.hid hby
                    clear hby
                    go_wp2_with fail
                    clear c0
                    with_reducible refine (HWK.out _).mono ?_
                    rintro en w10 ⟨rfl, rfl⟩
                    go_wp2_with fail
                    clear c1
                    with_reducible refine (HBY.out _).mono ?_
                    rintro en w11 ⟨vc, Lc, rfl, hvc, hO11⟩
                    generalize wrap64 (x1 + 7 * (j : Int)) = y1 at *
                    have hlenc : (pbytes y1 30).length = 30 := by simp [pbytes]
                    obtain ⟨Ac, cc, hvv⟩ := hvc.val
                    rw [hlenc] at hvv
                    subst hvv
                    have HCK := Lib.hid hlenc; have HCB := Lib.hid (byt_pbytes y1 30)
                    have HRC := Lib.hid (show Rd w Lc (.slice Ac 30 cc) (pbytes y1 30) from hvc.rd (List.Sublist.refl _))
                    obtain ⟨⟨vs, Lr, Y, hZe, hrow, heach⟩, hzl, hzb⟩ := HZ.out
                    subst hZe
                    have hO12 : Own w w11 (Lr ++ (Ld9 ++ (Lg9 ++ (Lc ++ (Y ++ X2))))) := own_count hO11 (by intro p; simp only [List.count_append, List.count_cons, List.count_nil]; omega)
                    have HROW2 := Lib.hid hrow; have HEACH2 := Lib.hid heach; have HO12 := Lib.hid hO12; have HZL := Lib.hid hzl; have HZB := Lib.hid hzb
                    rw [hzl] at hrow
                    obtain ⟨A14, c14, hv14⟩ := hrow.val
                    subst hv14
                    have HROWJ := Lib.hid hrow
                    clear hvc hO11 HZ hlenc hrow heach hO12 hzl hzb HBY HO9
                    generalize pbytes y1 30 = c at *
                    go_wp2_with (refine wl_appendV rfl _ _ _ rfl _ _ 24 Try.underlying28 rows_info (by rfl) (.slice A14 j c14) j vs (by rfl) HROWJ.out (Own.rot (A := [_]) (HO12.out.alloc (.cells [Value.slice Ac 30 cc].toArray 27))) (.slice (some ⟨w11.heap.size, 0, none⟩) 1 1) [.slice Ac 30 cc] (by rfl) (vs_oneL (HO12.out.alloc (.cells [Value.slice Ac 30 cc].toArray 27)) (.head _)) (by simp; rfl) (by simp only [maxLen, List.length_singleton]; omega) (by simp only [List.length_singleton]; omega) ?_; intro v13 w13 L13 hr13 hO13; have HR13 := Lib.hid hr13; have HO13 := Lib.hid hO13; clear hr13 hO13 HO12)
                    go_roundg (3 - (j + 1))
                    case measure => omega
                    case rel =>
                      have h13 : Own w w13 (L13 ++ (Ld9 ++ (Lg9 ++ (Lc ++ (Y ++ X2))))) := HO13.out.rot.tail
                      have hr' : IsRow 27 1 v13 (bs.length + 1) (vs ++ [.slice Ac 30 cc]) L13 := by rw [HZL.out]; exact HR13.out
                      refine ⟨j + 1, by omega, rfl, by go_num, L13 ++ (Lc ++ Y), bs ++ [c], ⟨_, L13, Lc ++ Y, rfl, by simpa using hr', gotRows_snoc HROW2.out HEACH2.out HRC.out hr'⟩, by rw [List.length_append, HZL.out]; rfl, ?_, ⟨s9, F9, Ld9, Lg9, HS9.out.1, HS9.out.2.1, HS9.out.2.2.1, HS9.out.2.2.2, own_count h13 (by intro p; simp only [List.count_append, List.count_cons, List.count_nil]; omega)⟩⟩
                      intro b2 hb2
                      rcases List.mem_append.1 hb2 with hb2 | hb2
                      · exact HZB.out b2 hb2
                      · rw [List.mem_singleton.1 hb2]; exact ⟨HCB.out, HCK.out⟩
                  · have hjI : ¬ ((j : Int) < (k3 : Int)) := by omega
                    obtain ⟨hz, hzl, hzb⟩ := HZ.out
                    have hN2 : ∀ b ∈ bs, need b = 2 := fun b hb => by have := (hzb b hb).2; unfold need; omega
                    have hns : needs bs = 2 * j := by rw [← hzl]; exact needs_two bs hN2
                    obtain ⟨A14, c14, hv14⟩ : ∃ A c, u14 = .slice A bs.length c := by
                      obtain ⟨vs, Lr, Y, _, h1, _⟩ := hz
                      exact h1.val
                    subst hv14
                    have hcall := turn_live HS9.out.2.2.1 HS9.out.2.2.2 HO9.out HS9.out.1 HS9.out.2.1 (hz.rd X2) (fun b hb => (hzb b hb).1) (fun b hb => by have := hN2 b hb; omega) (fun b hb => by have := (hzb b hb).2; omega) (by omega) (by omega) (by omega) (by omega)
                    have HTL := Lib.hid hcall; have HZR := Lib.hid (hz.rd X2); have HZL := Lib.hid hzl; have HNS := Lib.hid hns; have HZB := Lib.hid (fun b hb => (hzb b hb).2)
                    clear hcall hz hzl hzb hN2 hns HZ HO9 HS9 c1
                    go_wp2_with fail
                    clear c0
                    with_reducible refine (HWK.out _).mono ?_
                    rintro en w10 ⟨rfl, rfl⟩
                    go_wp2_with fail
                    with_reducible refine HTL.out.mono ?_
                    clear HTL
                    rintro en w11 (⟨s11, F11, o11, hv11, -, rfl, Ld11, Lg11, hd11, hg11, hO11⟩ | ⟨s11, l11, -, hcut11, rfl, Ld11, Lg11, hd11, hg11, hO11⟩)
                    · have hmm : (bs.map (Prod.mk l.ep)).map (·.2) = bs := by rw [List.map_map]; exact List.map_id' bs
                      have HF : Hid (AfterOp w (.pointer (some ⟨bd, 0, none⟩)) (.pointer (some ⟨g, 0, none⟩)) i t rs u8 (.slice A14 bs.length c14) (.int .i64 0) w11) := .inl ⟨rfl, l.tslot, l.turnTo bs, bs.map (Prod.mk l.ep), Z ++ X2, by rw [hmm]; exact HZR.out, ⟨s11, F11, Ld11, Lg11, o11, hv11, hd11, hg11, hO11⟩, by simp only [LSt.turnTo]; omega, by simp only [LSt.turnTo]; omega, by simp only [LSt.turnTo]; rw [HZL.out]; omega, by rw [needR_map, HNS.out]; omega, by
                        intro r hr
                        obtain ⟨b2, hb2, rfl⟩ := List.mem_map.1 hr
                        have := HZB.out b2 hb2
                        simp only; omega⟩
                      clear hmm o11 hv11 hd11 hg11 hO11
                      go_wp2
                      go_meet
                      exact HF.out
                    · have HF : Hid (AfterOp w (.pointer (some ⟨bd, 0, none⟩)) (.pointer (some ⟨g, 0, none⟩)) i t rs u8 (.slice A14 bs.length c14) (.int .i64 8) w11) := .inr ⟨rfl, s11, X2, Ld11, HRA.out, hcut11, hd11, hO11.sub ((List.Sublist.refl Ld11).append ((List.sublist_append_right Z X2).trans (List.sublist_append_right Lg11 _)))⟩
                      clear hcut11 hd11 hg11 hO11
                      go_wp2
                      go_meet
                      exact HF.out
          case rest =>
            clear HM
            rcases hcut with ⟨rfl, tC, lC, rsC, X3, hr3, ⟨s5, F5, Ld5, Lg5, o5, hv5, hd5, hg5, hO5⟩, hc1, hc2, hc3, hc4, hc5⟩ | ⟨rfl, s3, XC, LdC, hr3, hcut3, hd3, hO3⟩
            · as_aux_lemma =>
                have c0 := (HCL.out _ _ hO5).1
                have hdn := down_is hd5 hO5 false o5.up
                have HDN := Lib.hid hdn; have HRW0 := Lib.hid hr3
                have HS5 := Lib.hid (And.intro o5 (And.intro hv5 (And.intro hd5 (And.intro hg5 hO5))))
                clear hdn hr3 o5 hv5 hd5 hg5 hO5
                go_wp2_with fail
                with_reducible refine HDN.out.mono ?_
                rintro en w9 ⟨rfl, rfl⟩
                clear HDN
                go_wp2_with fail
                clear c0
                have hcall := within_n (w := wc) x0 3 (by omega) (by omega)
                with_reducible refine hcall.mono ?_
                clear hcall
                rintro en w9 ⟨rfl, rfl⟩
                generalize (x0 % 3).toNat = k33 at *
                by_cases hk33 : 0 < k33
                · have hkI : (0 : Int) < (k33 : Int) := by omega
                  have hcall := limit_c HS5.out.2.2.1 HS5.out.2.2.2.2 (-1) (by omega)
                  have HLI := Lib.hid hcall
                  clear hcall
                  go_wp2_with fail
                  with_reducible refine HLI.out.mono ?_
                  clear HLI
                  rintro en w10 ⟨rfl, L10, hd10, hO10⟩
                  have HF : Hid (CrashTo w (.pointer (some ⟨bd, 0, none⟩)) (i + 2) u14 (.pointer (some ⟨g, 0, none⟩)) w10) := ⟨g, tC, lC, rsC, X3, rfl, HRW0.out, ⟨{ s5 with left := max (-1) (-1) }, F5, L10, Lg5, ⟨HS5.out.1.fl, HS5.out.1.pend, HS5.out.1.up⟩, HS5.out.2.1, hd10, HS5.out.2.2.2.1, hO10⟩, by push_cast; omega, by push_cast; omega, by push_cast; omega, by omega, hc5⟩
                  clear hd10 hO10
                  go_wp2
                  go_roundg (41 - (i + 2))
                  case measure => omega
                  case rel => exact ⟨i + 2, ⟨by omega, by omega⟩, rfl, by go_num, rfl, HF.out⟩
                · have hkI : ¬ ((0 : Int) < (k33 : Int)) := by omega
                  obtain ⟨o5, hv5, hd5, hg5, hO5⟩ := HS5.out
                  obtain ⟨XC, hXC⟩ : ∃ XC, X3 = XC := ⟨_, rfl⟩
                  subst hXC
                  obtain ⟨LdC, hLdC⟩ : ∃ L, Ld5 = L := ⟨_, rfl⟩
                  subst hLdC
                  have hnum := hv5.num; have hep := hv5.ep; have hnx := hv5.nx
                  have hz5 : tC.num ≤ 3 + 3 * (i : Int) := by omega
                  have hz6 : tC.ep ≤ 2 + 2 * (i : Int) := by omega
                  have hz7 : tC.first + rsC.length ≤ 3 + (i : Int) := by omega
                  have HDC := Lib.hid hd5
                  have HOC := Lib.hid (show Own w wc (Ld5 ++ X3) from hO5.sub ((List.Sublist.refl Ld5).append (List.sublist_append_right Lg5 X3)))
                  have HCR : Hid (∀ ks, ∃ F, OnF (s5.crash ks) F ∧ Rest F tC rsC) := fun ks => ⟨F5, ⟨by unfold DSt.crash; rw [o5.pend, o5.fl]; rfl, rfl, rfl⟩, hv5.rest⟩
                  have HRW := HRW0
                  have HL120 := Lib.hid hc5
                  have HLN : Hid (∀ x ∈ rsC.map (·.2), x.length ≤ 1000000) := by
                    show ∀ x ∈ rsC.map (·.2), x.length ≤ 1000000
                    intro x hx; obtain ⟨r, hr, rfl⟩ := List.mem_map.1 hx; have := hc5 r hr; omega
                  clear o5 hv5 hd5 hg5 hO5 HS5 HRW0 hnum hep hnx hc1 hc2 hc3
                  go_wp2_with fail
                  as_aux_lemma =>
                    -- HDC, HOC, HCR, HRW, HLC, bounds on tC, rsC over X3 stand
                    have hcall := keeps_c HOC.out (.slice A2 a2.length c2) a2 HIN2.out hk2 (i : Int)
                    with_reducible refine hcall.mono ?_
                    clear hcall
                    rintro en w300 ⟨vk, ks, Lk, rfl, hvk, hO300⟩
                    have hO301 : Own w w300 (Ld5 ++ (Lk ++ X3)) := own_count hO300 (by intro p; simp only [List.count_append, List.count_cons, List.count_nil]; omega)
                    have HRK := Lib.hid (isRow_rdv (w0 := w) (R := X3) hvk); have HO301 := Lib.hid hO301
                    clear hvk hO300 hO301 HOC
                    go_wp2_with fail
                    have hcall := crash_c HDC.out HO301.out vk ks HRK.out
                    with_reducible refine hcall.mono ?_
                    clear hcall HO301 HRK HDC
                    rintro en w302 ⟨rfl, Ld302, hd302, hO302⟩
                    obtain ⟨F30, o30, hr30⟩ := HCR.out ks
                    have HR0 : Hid (∃ tj, RestC w (.pointer (some ⟨bd, 0, none⟩)) X3 tj rsC w302 ∧ tj.num ≤ tC.num + (0 : Nat) ∧ tj.ep ≤ tC.ep + (0 : Nat) ∧ tj.first = tC.first) := ⟨tC, ⟨_, F30, Ld302, o30, hr30, rfl, hd302, hO302.rot.right⟩, by omega, by omega, rfl⟩
                    clear hd302 hO302 o30 hr30 HCR
                    obtain ⟨k16, hk16, hwk16⟩ : ∃ k16 : Nat, k16 < 4 ∧ ∀ wx : World, Calls Try.prog 9 #[.int .i64 (wrap64 (x0.tdiv 16)), .int .i64 4] wx fun e w' => e = .returned (.int .i64 (k16 : Int)) ∧ wx = w' := ⟨(wrap64 (x0.tdiv 16) % 4).toNat, by omega, fun wx => within_n (w := wx) _ 4 (by omega) (by omega)⟩
                    have HW16 := Lib.hid hwk16
                    have HW5 := Lib.hid (fun (y : Int) (wx : World) => within_ex4 (w := wx) y 5 (by omega) (by omega))
                    clear hwk16
                    go_wp2_with fail
                    go_loopg [18] 4 (fun gg v18 wx => ∃ j : Nat, j ≤ k16 ∧ gg = 4 - j ∧ v18 = .int .i64 (j : Nat) ∧ Hid (∃ tj, RestC w (.pointer (some ⟨bd, 0, none⟩)) X3 tj rsC wx ∧ tj.num ≤ tC.num + (j : Nat) ∧ tj.ep ≤ tC.ep + (j : Nat) ∧ tj.first = tC.first))
                    case atStart => exact ⟨0, Nat.zero_le _, rfl, rfl, HR0.out⟩
                    case round =>
                      obtain ⟨j, hj, rfl, rfl, HRj⟩ := hrel
                      clear HR0
                      obtain ⟨tj, ⟨sj, Fj, Ldj, oj, hrj, hlj, hdj, hOj⟩, hj1, hj2, hj3⟩ := HRj.out
                      clear HRj
                      have HSj := Lib.hid (And.intro oj (And.intro hrj (And.intro hlj hdj))); have HOj := Lib.hid hOj; have HJ3 := Lib.hid hj3
                      have c0 := (HCL.out _ _ hOj).1
                      have c1 := (HCL.out _ _ hOj).2
                      clear oj hrj hlj hdj hOj hj3
                      by_cases hjm : j < k16
                      · have hjI : (j : Int) < (k16 : Int) := by omega
                        have hj0 : ¬ ((j : Int) + 1 = 0) := by omega
                        have hwij : IntKind.i64.wrap ((i : Int) + (j : Int)) = (i : Int) + (j : Int) := IntWalk.i64_in _ (by omega)
                        go_wp2_with fail
                        clear c0
                        with_reducible refine (HW16.out _).mono ?_
                        rintro en w40 ⟨rfl, rfl⟩
                        go_wp2_with fail
                        clear c1
                        with_reducible refine (HW5.out _ _).mono ?_
                        rintro en w40 ⟨k5, hk5, rfl, rfl⟩
                        go_wp2_with fail
                        have hcall := limit_c HSj.out.2.2.2 HOj.out (k5 : Int) (by omega)
                        with_reducible refine hcall.mono ?_
                        clear hcall HOj
                        rintro en w41 ⟨rfl, L41, hd41, hO41⟩
                        have hcall := open_live hd41 hO41 (s := { sj with left := max (k5 : Int) (-1) }) ⟨HSj.out.1.fl, HSj.out.1.pend, HSj.out.1.up⟩ HSj.out.2.1 (by omega) (by omega) (by have := HJ3.out; omega)
                        have HOL := Lib.hid hcall
                        clear hcall hd41 hO41
                        go_wp2_with fail
                        with_reducible refine HOL.out.mono ?_
                        clear HOL HSj
                        rintro en w42 (⟨s42, F42, gv42, rv42, X42, Ld42, Lg42, rfl, o42, hv42, -, hg42, -, hd42, hO42⟩ | ⟨s42, -, hcut42, rfl, Ld42, hd42, hO42⟩)
                        · have HD42 := Lib.hid hd42
                          have HO42 := Lib.hid (show Own w w42 (Ld42 ++ X3) from hO42.sub ((List.Sublist.refl Ld42).append ((List.sublist_append_right X42 X3).trans (List.sublist_append_right Lg42 _))))
                          have HC42 : Hid (∀ ks, ∃ F, OnF (s42.crash ks) F ∧ Rest F tj.up rsC) := fun ks => ⟨F42, ⟨by unfold DSt.crash; rw [o42.pend, o42.fl]; rfl, rfl, rfl⟩, hv42.rest⟩
                          clear hd42 hO42 o42 hv42 hg42
                          go_wp2_with fail
                          have hcall := keeps_c HO42.out (.slice A2 a2.length c2) a2 HIN2.out hk2 ((i : Int) + (j : Int))
                          with_reducible refine hcall.mono ?_
                          clear hcall
                          rintro en w500 ⟨vk, ks, Lk, rfl, hvk, hO500⟩
                          have hO501 : Own w w500 (Ld42 ++ (Lk ++ X3)) := own_count hO500 (by intro p; simp only [List.count_append, List.count_cons, List.count_nil]; omega)
                          have HRK := Lib.hid (isRow_rdv (w0 := w) (R := X3) hvk); have HO501 := Lib.hid hO501
                          clear hvk hO500 hO501 HO42
                          go_wp2_with fail
                          have hcall := crash_c HD42.out HO501.out vk ks HRK.out
                          with_reducible refine hcall.mono ?_
                          clear hcall HO501 HRK HD42
                          rintro en w502 ⟨rfl, Ld502, hd502, hO502⟩
                          obtain ⟨F50, o50, hr50⟩ := HC42.out ks
                          have HR1 : Hid (∃ tj, RestC w (.pointer (some ⟨bd, 0, none⟩)) X3 tj rsC w502 ∧ tj.num ≤ tC.num + ((j + 1 : Nat) : Int) ∧ tj.ep ≤ tC.ep + ((j + 1 : Nat) : Int) ∧ tj.first = tC.first) := ⟨tj.up, ⟨_, F50, Ld502, o50, hr50, rfl, hd502, hO502.rot.right⟩, by simp only [Slot.up]; push_cast; omega, by simp only [Slot.up]; push_cast; omega, HJ3.out⟩
                          clear hd502 hO502 o50 hr50 HC42
                          go_wp2
                          go_roundg (4 - (j + 1))
                          case measure => omega
                          case rel => exact ⟨j + 1, by omega, rfl, by go_num, HR1.out⟩
                        · have HD42 := Lib.hid hd42
                          have HO42 := Lib.hid hO42
                          have HC42 : Hid (∀ ks, ∃ F, OnF (s42.crash ks) F ∧ Rest F tj rsC) := hcut42.2
                          clear hd42 hO42 hcut42
                          go_wp2_with fail
                          have hcall := keeps_c HO42.out (.slice A2 a2.length c2) a2 HIN2.out hk2 ((i : Int) + (j : Int))
                          with_reducible refine hcall.mono ?_
                          clear hcall
                          rintro en w500 ⟨vk, ks, Lk, rfl, hvk, hO500⟩
                          have hO501 : Own w w500 (Ld42 ++ (Lk ++ X3)) := own_count hO500 (by intro p; simp only [List.count_append, List.count_cons, List.count_nil]; omega)
                          have HRK := Lib.hid (isRow_rdv (w0 := w) (R := X3) hvk); have HO501 := Lib.hid hO501
                          clear hvk hO500 hO501 HO42
                          go_wp2_with fail
                          have hcall := crash_c HD42.out HO501.out vk ks HRK.out
                          with_reducible refine hcall.mono ?_
                          clear hcall HO501 HRK HD42
                          rintro en w502 ⟨rfl, Ld502, hd502, hO502⟩
                          obtain ⟨F50, o50, hr50⟩ := HC42.out ks
                          have HR1 : Hid (∃ tj, RestC w (.pointer (some ⟨bd, 0, none⟩)) X3 tj rsC w502 ∧ tj.num ≤ tC.num + ((j + 1 : Nat) : Int) ∧ tj.ep ≤ tC.ep + ((j + 1 : Nat) : Int) ∧ tj.first = tC.first) := ⟨tj, ⟨_, F50, Ld502, o50, hr50, rfl, hd502, hO502.rot.right⟩, by push_cast; omega, by push_cast; omega, HJ3.out⟩
                          clear hd502 hO502 o50 hr50 HC42
                          go_wp2
                          go_roundg (4 - (j + 1))
                          case measure => omega
                          case rel => exact ⟨j + 1, by omega, rfl, by go_num, HR1.out⟩
                      · have hjI : ¬ ((j : Int) < (k16 : Int)) := by omega
                        clear c1
                        have hcall := open_up HSj.out.2.2.2 HOj.out HSj.out.1 HSj.out.2.1 HSj.out.2.2.1 (by omega) (by omega) (by have := HJ3.out; omega)
                        have HOU := Lib.hid hcall
                        clear hcall HOj HSj
                        go_wp2_with fail
                        clear c0
                        with_reducible refine (HW16.out _).mono ?_
                        rintro en w40 ⟨rfl, rfl⟩
                        go_wp2_with fail
                        with_reducible refine HOU.out.mono ?_
                        clear HOU
                        rintro en w61 ⟨g61, rv61, X61, rfl, hrv61, s61, F61, Ld61, Lg61, o61, hv61, hf61, hd61, hg61, hO61⟩
                        have hO62 : Own w w61 (X61 ++ (Ld61 ++ (Lg61 ++ X3))) := own_count hO61 (by intro p; simp only [List.count_append, List.count_cons, List.count_nil]; omega)
                        have hsm := same4_yes hO62 (hrv61.rd _) (RdRows.more (RdRows.more (RdRows.more HRW.out))) HLN.out (by rw [List.length_map]; have := length_le_needR rsC; have := hv61.rest.fit; omega)
                        have HSM := Lib.hid hsm; have HRV61 := Lib.hid (hrv61.rd [])
                        have HS61 := Lib.hid (And.intro o61 (And.intro hv61 (And.intro hd61 hg61)))
                        clear hsm hrv61 o61 hv61 hf61 hd61 hg61 hO61 hO62
                        go_wp2_with fail
                        with_reducible refine HSM.out.mono ?_
                        clear HSM
                        rintro en w63 ⟨rfl, hO63⟩
                        have h64 : Own w w63 (X61 ++ (Ld61 ++ (Lg61 ++ []))) := hO63.sub ((List.Sublist.refl X61).append ((List.Sublist.refl Ld61).append ((List.Sublist.refl Lg61).append (List.nil_sublist _))))
                        have HF : Hid (CrashTo w (.pointer (some ⟨bd, 0, none⟩)) (i + 2) rv61 (.pointer (some ⟨g61, 0, none⟩)) w63) := ⟨g61, tj.up, upL tj rsC, rsC, X61 ++ [], rfl, HRV61.out, ⟨s61, F61, Ld61, Lg61, HS61.out.1, HS61.out.2.1, HS61.out.2.2.1, HS61.out.2.2.2, own_count h64 (by intro p; simp only [List.count_append, List.count_cons, List.count_nil]; omega)⟩, by simp only [upL]; push_cast; omega, by simp only [upL]; push_cast; omega, by simp only [upL]; rw [HJ3.out]; push_cast; omega, by omega, HL120.out⟩
                        clear h64 hO63
                        go_wp2
                        go_roundg (41 - (i + 2))
                        case measure => omega
                        case rel => exact ⟨i + 2, ⟨by omega, by omega⟩, rfl, by go_num, rfl, HF.out⟩
            · as_aux_lemma =>
                have hdn := down_is hd3 hO3 true hcut3.1
                have HDN := Lib.hid hdn
                have HDC := Lib.hid hd3; have HOC := Lib.hid hO3; have HRW := Lib.hid hr3; have HL120 := Lib.hid hb5
                have HCR : Hid (∀ ks, ∃ F, OnF (s3.crash ks) F ∧ Rest F t rs) := hcut3.2
                have HLN : Hid (∀ x ∈ rs.map (·.2), x.length ≤ 1000000) := by
                  show ∀ x ∈ rs.map (·.2), x.length ≤ 1000000
                  intro x hx; obtain ⟨r, hr, rfl⟩ := List.mem_map.1 hx; have := hb5 r hr; omega
                have hz5 : t.num ≤ 3 + 3 * (i : Int) := by have := HEQ.out; omega
                have hz6 : t.ep ≤ 2 + 2 * (i : Int) := by have := HEQ.out; omega
                have hz7 : t.first + rs.length ≤ 3 + (i : Int) := by have := HEQ.out; omega
                have hc4 : needR rs ≤ 4 * i + 8 := by omega
                clear hdn hcut3 hd3 hO3 hr3
                obtain ⟨tC, htC⟩ : ∃ tC, t = tC := ⟨_, rfl⟩
                obtain ⟨rsC, hrsC⟩ : ∃ rsC, rs = rsC := ⟨_, rfl⟩
                subst htC
                subst hrsC
                go_wp2_with fail
                with_reducible refine HDN.out.mono ?_
                rintro en w9 ⟨rfl, rfl⟩
                clear HDN
                go_wp2_with fail
                as_aux_lemma =>
                  -- HDC, HOC, HCR, HRW, HLC, bounds on t, rs over XC stand
                  have hcall := keeps_c HOC.out (.slice A2 a2.length c2) a2 HIN2.out hk2 (i : Int)
                  with_reducible refine hcall.mono ?_
                  clear hcall
                  rintro en w300 ⟨vk, ks, Lk, rfl, hvk, hO300⟩
                  have hO301 : Own w w300 (LdC ++ (Lk ++ XC)) := own_count hO300 (by intro p; simp only [List.count_append, List.count_cons, List.count_nil]; omega)
                  have HRK := Lib.hid (isRow_rdv (w0 := w) (R := XC) hvk); have HO301 := Lib.hid hO301
                  clear hvk hO300 hO301 HOC
                  go_wp2_with fail
                  have hcall := crash_c HDC.out HO301.out vk ks HRK.out
                  with_reducible refine hcall.mono ?_
                  clear hcall HO301 HRK HDC
                  rintro en w302 ⟨rfl, Ld302, hd302, hO302⟩
                  obtain ⟨F30, o30, hr30⟩ := HCR.out ks
                  have HR0 : Hid (∃ tj, RestC w (.pointer (some ⟨bd, 0, none⟩)) XC tj rs w302 ∧ tj.num ≤ t.num + (0 : Nat) ∧ tj.ep ≤ t.ep + (0 : Nat) ∧ tj.first = t.first) := ⟨t, ⟨_, F30, Ld302, o30, hr30, rfl, hd302, hO302.rot.right⟩, by omega, by omega, rfl⟩
                  clear hd302 hO302 o30 hr30 HCR
                  obtain ⟨k16, hk16, hwk16⟩ : ∃ k16 : Nat, k16 < 4 ∧ ∀ wx : World, Calls Try.prog 9 #[.int .i64 (wrap64 (x0.tdiv 16)), .int .i64 4] wx fun e w' => e = .returned (.int .i64 (k16 : Int)) ∧ wx = w' := ⟨(wrap64 (x0.tdiv 16) % 4).toNat, by omega, fun wx => within_n (w := wx) _ 4 (by omega) (by omega)⟩
                  have HW16 := Lib.hid hwk16
                  have HW5 := Lib.hid (fun (y : Int) (wx : World) => within_ex4 (w := wx) y 5 (by omega) (by omega))
                  clear hwk16
                  go_wp2_with fail
                  go_loopg [18] 4 (fun gg v18 wx => ∃ j : Nat, j ≤ k16 ∧ gg = 4 - j ∧ v18 = .int .i64 (j : Nat) ∧ Hid (∃ tj, RestC w (.pointer (some ⟨bd, 0, none⟩)) XC tj rs wx ∧ tj.num ≤ t.num + (j : Nat) ∧ tj.ep ≤ t.ep + (j : Nat) ∧ tj.first = t.first))
                  case atStart => exact ⟨0, Nat.zero_le _, rfl, rfl, HR0.out⟩
                  case round =>
                    obtain ⟨j, hj, rfl, rfl, HRj⟩ := hrel
                    clear HR0
                    obtain ⟨tj, ⟨sj, Fj, Ldj, oj, hrj, hlj, hdj, hOj⟩, hj1, hj2, hj3⟩ := HRj.out
                    clear HRj
                    have HSj := Lib.hid (And.intro oj (And.intro hrj (And.intro hlj hdj))); have HOj := Lib.hid hOj; have HJ3 := Lib.hid hj3
                    have c0 := (HCL.out _ _ hOj).1
                    have c1 := (HCL.out _ _ hOj).2
                    clear oj hrj hlj hdj hOj hj3
                    by_cases hjm : j < k16
                    · have hjI : (j : Int) < (k16 : Int) := by omega
                      have hj0 : ¬ ((j : Int) + 1 = 0) := by omega
                      have hwij : IntKind.i64.wrap ((i : Int) + (j : Int)) = (i : Int) + (j : Int) := IntWalk.i64_in _ (by omega)
                      go_wp2_with fail
                      clear c0
                      with_reducible refine (HW16.out _).mono ?_
                      rintro en w40 ⟨rfl, rfl⟩
                      go_wp2_with fail
                      clear c1
                      with_reducible refine (HW5.out _ _).mono ?_
                      rintro en w40 ⟨k5, hk5, rfl, rfl⟩
                      go_wp2_with fail
                      have hcall := limit_c HSj.out.2.2.2 HOj.out (k5 : Int) (by omega)
                      with_reducible refine hcall.mono ?_
                      clear hcall HOj
                      rintro en w41 ⟨rfl, L41, hd41, hO41⟩
                      have hcall := open_live hd41 hO41 (s := { sj with left := max (k5 : Int) (-1) }) ⟨HSj.out.1.fl, HSj.out.1.pend, HSj.out.1.up⟩ HSj.out.2.1 (by omega) (by omega) (by have := HJ3.out; omega)
                      have HOL := Lib.hid hcall
                      clear hcall hd41 hO41
                      go_wp2_with fail
                      with_reducible refine HOL.out.mono ?_
                      clear HOL HSj
                      rintro en w42 (⟨s42, F42, gv42, rv42, X42, Ld42, Lg42, rfl, o42, hv42, -, hg42, -, hd42, hO42⟩ | ⟨s42, -, hcut42, rfl, Ld42, hd42, hO42⟩)
                      · have HD42 := Lib.hid hd42
                        have HO42 := Lib.hid (show Own w w42 (Ld42 ++ XC) from hO42.sub ((List.Sublist.refl Ld42).append ((List.sublist_append_right X42 XC).trans (List.sublist_append_right Lg42 _))))
                        have HC42 : Hid (∀ ks, ∃ F, OnF (s42.crash ks) F ∧ Rest F tj.up rs) := fun ks => ⟨F42, ⟨by unfold DSt.crash; rw [o42.pend, o42.fl]; rfl, rfl, rfl⟩, hv42.rest⟩
                        clear hd42 hO42 o42 hv42 hg42
                        go_wp2_with fail
                        have hcall := keeps_c HO42.out (.slice A2 a2.length c2) a2 HIN2.out hk2 ((i : Int) + (j : Int))
                        with_reducible refine hcall.mono ?_
                        clear hcall
                        rintro en w500 ⟨vk, ks, Lk, rfl, hvk, hO500⟩
                        have hO501 : Own w w500 (Ld42 ++ (Lk ++ XC)) := own_count hO500 (by intro p; simp only [List.count_append, List.count_cons, List.count_nil]; omega)
                        have HRK := Lib.hid (isRow_rdv (w0 := w) (R := XC) hvk); have HO501 := Lib.hid hO501
                        clear hvk hO500 hO501 HO42
                        go_wp2_with fail
                        have hcall := crash_c HD42.out HO501.out vk ks HRK.out
                        with_reducible refine hcall.mono ?_
                        clear hcall HO501 HRK HD42
                        rintro en w502 ⟨rfl, Ld502, hd502, hO502⟩
                        obtain ⟨F50, o50, hr50⟩ := HC42.out ks
                        have HR1 : Hid (∃ tj, RestC w (.pointer (some ⟨bd, 0, none⟩)) XC tj rs w502 ∧ tj.num ≤ t.num + ((j + 1 : Nat) : Int) ∧ tj.ep ≤ t.ep + ((j + 1 : Nat) : Int) ∧ tj.first = t.first) := ⟨tj.up, ⟨_, F50, Ld502, o50, hr50, rfl, hd502, hO502.rot.right⟩, by simp only [Slot.up]; push_cast; omega, by simp only [Slot.up]; push_cast; omega, HJ3.out⟩
                        clear hd502 hO502 o50 hr50 HC42
                        go_wp2
                        go_roundg (4 - (j + 1))
                        case measure => omega
                        case rel => exact ⟨j + 1, by omega, rfl, by go_num, HR1.out⟩
                      · have HD42 := Lib.hid hd42
                        have HO42 := Lib.hid hO42
                        have HC42 : Hid (∀ ks, ∃ F, OnF (s42.crash ks) F ∧ Rest F tj rs) := hcut42.2
                        clear hd42 hO42 hcut42
                        go_wp2_with fail
                        have hcall := keeps_c HO42.out (.slice A2 a2.length c2) a2 HIN2.out hk2 ((i : Int) + (j : Int))
                        with_reducible refine hcall.mono ?_
                        clear hcall
                        rintro en w500 ⟨vk, ks, Lk, rfl, hvk, hO500⟩
                        have hO501 : Own w w500 (Ld42 ++ (Lk ++ XC)) := own_count hO500 (by intro p; simp only [List.count_append, List.count_cons, List.count_nil]; omega)
                        have HRK := Lib.hid (isRow_rdv (w0 := w) (R := XC) hvk); have HO501 := Lib.hid hO501
                        clear hvk hO500 hO501 HO42
                        go_wp2_with fail
                        have hcall := crash_c HD42.out HO501.out vk ks HRK.out
                        with_reducible refine hcall.mono ?_
                        clear hcall HO501 HRK HD42
                        rintro en w502 ⟨rfl, Ld502, hd502, hO502⟩
                        obtain ⟨F50, o50, hr50⟩ := HC42.out ks
                        have HR1 : Hid (∃ tj, RestC w (.pointer (some ⟨bd, 0, none⟩)) XC tj rs w502 ∧ tj.num ≤ t.num + ((j + 1 : Nat) : Int) ∧ tj.ep ≤ t.ep + ((j + 1 : Nat) : Int) ∧ tj.first = t.first) := ⟨tj, ⟨_, F50, Ld502, o50, hr50, rfl, hd502, hO502.rot.right⟩, by push_cast; omega, by push_cast; omega, HJ3.out⟩
                        clear hd502 hO502 o50 hr50 HC42
                        go_wp2
                        go_roundg (4 - (j + 1))
                        case measure => omega
                        case rel => exact ⟨j + 1, by omega, rfl, by go_num, HR1.out⟩
                    · have hjI : ¬ ((j : Int) < (k16 : Int)) := by omega
                      clear c1
                      have hcall := open_up HSj.out.2.2.2 HOj.out HSj.out.1 HSj.out.2.1 HSj.out.2.2.1 (by omega) (by omega) (by have := HJ3.out; omega)
                      have HOU := Lib.hid hcall
                      clear hcall HOj HSj
                      go_wp2_with fail
                      clear c0
                      with_reducible refine (HW16.out _).mono ?_
                      rintro en w40 ⟨rfl, rfl⟩
                      go_wp2_with fail
                      with_reducible refine HOU.out.mono ?_
                      clear HOU
                      rintro en w61 ⟨g61, rv61, X61, rfl, hrv61, s61, F61, Ld61, Lg61, o61, hv61, hf61, hd61, hg61, hO61⟩
                      have hO62 : Own w w61 (X61 ++ (Ld61 ++ (Lg61 ++ XC))) := own_count hO61 (by intro p; simp only [List.count_append, List.count_cons, List.count_nil]; omega)
                      have hsm := same4_yes hO62 (hrv61.rd _) (RdRows.more (RdRows.more (RdRows.more HRW.out))) HLN.out (by rw [List.length_map]; have := length_le_needR rs; have := hv61.rest.fit; omega)
                      have HSM := Lib.hid hsm; have HRV61 := Lib.hid (hrv61.rd [])
                      have HS61 := Lib.hid (And.intro o61 (And.intro hv61 (And.intro hd61 hg61)))
                      clear hsm hrv61 o61 hv61 hf61 hd61 hg61 hO61 hO62
                      go_wp2_with fail
                      with_reducible refine HSM.out.mono ?_
                      clear HSM
                      rintro en w63 ⟨rfl, hO63⟩
                      have h64 : Own w w63 (X61 ++ (Ld61 ++ (Lg61 ++ []))) := hO63.sub ((List.Sublist.refl X61).append ((List.Sublist.refl Ld61).append ((List.Sublist.refl Lg61).append (List.nil_sublist _))))
                      have HF : Hid (CrashTo w (.pointer (some ⟨bd, 0, none⟩)) (i + 2) rv61 (.pointer (some ⟨g61, 0, none⟩)) w63) := ⟨g61, tj.up, upL tj rs, rs, X61 ++ [], rfl, HRV61.out, ⟨s61, F61, Ld61, Lg61, HS61.out.1, HS61.out.2.1, HS61.out.2.2.1, HS61.out.2.2.2, own_count h64 (by intro p; simp only [List.count_append, List.count_cons, List.count_nil]; omega)⟩, by simp only [upL]; push_cast; omega, by simp only [upL]; push_cast; omega, by simp only [upL]; rw [HJ3.out]; push_cast; omega, by omega, HL120.out⟩
                      clear h64 hO63
                      go_wp2
                      go_roundg (41 - (i + 2))
                      case measure => omega
                      case rel => exact ⟨i + 2, ⟨by omega, by omega⟩, rfl, by go_num, rfl, HF.out⟩
    · have hgo2 : ¬ ((i : Int) + 1 < a0.length) ∨ (((i : Int) + 1 < a0.length) ∧ ¬ ((i : Int) < 40)) := by omega
      clear hgo HR0
      obtain ⟨g, t, l, rs, X, rfl, hrows, ⟨s5, F5, Ld5, Lg5, o5, hv5, hd5, hg5, hO5⟩, hb1, hb2, hb3, hb4, hb5⟩ := HTi.out
      clear HTi
      have HO5 := Lib.hid hO5
      clear hrows o5 hv5 hd5 hg5 hO5
      rcases hgo2 with hn1 | ⟨hy1, hn2⟩
      all_goals
        go_wp2_with fail
        have hcall := wakes4_c HO5.out
        with_reducible refine hcall.mono ?_
        clear hcall
        rintro en w21 ⟨rfl, hO21⟩
        have HO21 := Lib.hid hO21
        clear hO21 HO5
        go_wp2
        go_ret
        exact ⟨rfl, HO21.out.below⟩
set_option maxRecDepth 100000 in
theorem logCrash_lifted (os : Os) (started : os.Started) (H : Type) (enc : TypeId × Value → H) :
    ReturnsInHanded {} Try.checked os 8 .any (Rows.logCrashSpec.pre6 enc Try.prog Try.f8 Rows.logCrashRow.domain false) (Rows.logCrashSpec.post enc Try.prog Try.f8 false true false false) := by
  refine returnsInHanded_of_change_sized (C := Try.checked) (by kernel_rfl) started (by kernel_rfl) Try.func8
    (ChangeSpec.witness6 (enc := enc) (C := Try.checked) false ⟨#[], #[.slice none 0 0, .slice none 0 0, .slice none 0 0], []⟩ 8 (by kernel_rfl) (by kernel_rfl) (by kernel_rfl) (by kernel_rfl)) ?_
  intro W base args ds gs before hval0 hW hcnd hsz _
  have hval : ∀ (j : Nat) t v, Try.f8.params[j]? = some t → args[j]? = some v → Value.okWide Try.prog W .any base t v := hval0
  have hW' := hW
  obtain ⟨p, q, hA0, hV, rfl, hfz, hnd⟩ := hW
  have hA : DataW.TrodAll enc Try.prog W 0 (fun _ => true) true Try.f8.params.toList args.toList ds p := hA0
  rw [Try.params8] at hA hval
  obtain ⟨v0, vs0, d0, ds0, p0, q0, hargs, rfl, rfl, h0, r0⟩ := trodAll_cons hA
  obtain ⟨v1, vs1, d1, ds1, p1, q1, rfl, rfl, rfl, h1, r1⟩ := trodAll_cons r0
  obtain ⟨v2, vs2, d2, ds2, p2, q2, rfl, rfl, rfl, h2, r2⟩ := trodAll_cons r1
  obtain ⟨rfl, rfl, rfl⟩ := trodAll_nil r2
  obtain rfl : args = #[v0, v1, v2] := by cases args; simp_all
  obtain ⟨rfl, rfl⟩ := trodVars_none hV
  obtain ⟨b0, len0, cap0, rfl⟩ := okWide_slice Try.underlying22 (hval 0 22 v0 rfl rfl)
  have k0 := h0
  have lt0 : ∀ x ∈ p0, x.block < W.heap.size := by obtain ⟨m, hm⟩ := k0; exact DataW.trod_lt m _ _ _ hm
  obtain ⟨a0, w0⟩ : ∃ xs, InRow .i64 W (.slice b0 len0 cap0) xs := by
    obtain ⟨fuel, hf⟩ := h0
    rcases open_ints Try.underlying22 Try.underlying3 (by kernel_rfl) hf with ⟨hcs, _⟩ | ⟨x, l, c, zs, hcs, _, hl, hm, hz, _, hcell, hwz⟩
    · simp [Value.cells] at hcs
      obtain ⟨rfl, rfl, rfl⟩ := hcs
      exact ⟨[], inRow_nil _ _⟩
    · simp [Value.cells] at hcs
      obtain ⟨rfl, rfl, rfl⟩ := hcs
      exact ⟨zs.take len0, inRow_mk hl hm (by simpa using hz) hcell hwz⟩
  obtain ⟨b1, len1, cap1, rfl⟩ := okWide_slice Try.underlying22 (hval 1 22 v1 rfl rfl)
  have k1 := h1
  have lt1 : ∀ x ∈ p1, x.block < W.heap.size := by obtain ⟨m, hm⟩ := k1; exact DataW.trod_lt m _ _ _ hm
  obtain ⟨a1, w1⟩ : ∃ xs, InRow .i64 W (.slice b1 len1 cap1) xs := by
    obtain ⟨fuel, hf⟩ := h1
    rcases open_ints Try.underlying22 Try.underlying3 (by kernel_rfl) hf with ⟨hcs, _⟩ | ⟨x, l, c, zs, hcs, _, hl, hm, hz, _, hcell, hwz⟩
    · simp [Value.cells] at hcs
      obtain ⟨rfl, rfl, rfl⟩ := hcs
      exact ⟨[], inRow_nil _ _⟩
    · simp [Value.cells] at hcs
      obtain ⟨rfl, rfl, rfl⟩ := hcs
      exact ⟨zs.take len1, inRow_mk hl hm (by simpa using hz) hcell hwz⟩
  obtain ⟨b2, len2, cap2, rfl⟩ := okWide_slice Try.underlying22 (hval 2 22 v2 rfl rfl)
  have k2 := h2
  have lt2 : ∀ x ∈ p2, x.block < W.heap.size := by obtain ⟨m, hm⟩ := k2; exact DataW.trod_lt m _ _ _ hm
  obtain ⟨a2, w2, z2⟩ : ∃ xs, InRow .i64 W (.slice b2 len2 cap2) xs ∧ xs.length ≤ 17592186043904 := by
    obtain ⟨fuel, hf⟩ := h2
    rcases open_ints Try.underlying22 Try.underlying3 (by kernel_rfl) hf with ⟨hcs, _⟩ | ⟨x, l, c, zs, hcs, _, hl, hm, hz, hx, hcell, hwz⟩
    · simp [Value.cells] at hcs
      obtain ⟨rfl, rfl, rfl⟩ := hcs
      exact ⟨[], inRow_nil _ _, by simp⟩
    · simp [Value.cells] at hcs
      obtain ⟨rfl, rfl, rfl⟩ := hcs
      refine ⟨zs.take len2, inRow_mk hl hm (by simpa using hz) hcell hwz, ?_⟩
      have hdd := (Prod.mk.inj hx).1
      have hss := sized_slice hsz (j := 2) (t := 22) (e := 3) (by kernel_rfl) (by rw [hdd]; rfl) Try.underlying22
      rw [show Program.bytesOf Try.checked.prog 3 = 8 by kernel_rfl] at hss
      simp only [lits, List.length_map, reachBytes] at hss
      rw [List.length_take]
      simp only [List.length_take, List.length_drop] at hss
      omega
  clear hA0 hval0
  refine (logCrash_walk _ a0 w0 _ a1 w1 _ a2 w2 z2).mono fun e W' ⟨he, bel⟩ => ?_
  subst he
  exact ⟨_, rfl, _, _, _, [], _, [], hW', trodAll_mk1 (shut_bool Try.underlying4 _), (trodAll_cons_mk (Below.trod laidOut (by kernel_rfl) (of_decide_eq_true (by kernel_rfl)) k0 bel lt0) (trodAll_cons_mk (Below.trod laidOut (by kernel_rfl) (of_decide_eq_true (by kernel_rfl)) k1 bel lt1) (trodAll_cons_mk (Below.trod laidOut (by kernel_rfl) (of_decide_eq_true (by kernel_rfl)) k2 bel lt2) trodAll_mk0))), rfl, bel.frame _, fun h => by cases h⟩

/-- The statement. -/
theorem logCrash_proved : Rows.LogCrashSaid :=
  OpenClaim.holds_of_wide 8 Try.f8 rfl rfl rfl rfl rfl rfl rfl ⟨rfl, rfl, rfl, rfl, rfl⟩ rfl rfl rfl rfl rfl (by kernel_rfl) Try.func8 (by kernel_rfl)
    (of_decide_eq_true (by kernel_rfl)) (by unfold Func.isWrapper; first | (rw [if_pos (by decide +kernel)]; kernel_rfl) | (rw [if_neg (by decide +kernel)]; exact ⟨rfl, rfl⟩))
    (fun os started H enc _ => logCrash_lifted os started H enc)
end Go.Proofs.Ytdndkapfaiplnaa
