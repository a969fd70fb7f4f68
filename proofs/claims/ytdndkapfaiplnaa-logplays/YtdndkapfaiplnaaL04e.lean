/-
  LogPlays: every input answers true (records that are appended, turned to others, found again, time after time: each answer, what is found, how much room is left).
  No conditions beyond the statement's own.
-/
import Derived.Test.YtdndkapfaiplnaaL04d0
import Derived.Deep.CutBlock
namespace Go.Proofs.Ytdndkapfaiplnaa
set_option linter.unusedVariables false
set_option linter.unusedSimpArgs false
set_option maxRecDepth 100000
open Go.ChangeShapes Go.WideShapes Go.ChangeAt Go.RowKit
open Go.ChangeMaps (open_string shut_string)

def PlaysTo (w : World) (d : Value) (i : Nat) (v4 v7 v8 v9 : Value) (wx : World) : Prop :=
  ∃ g t l rs X, v4 = .pointer (some ⟨g, 0, none⟩) ∧ GotRows w X v7 (rs.map (·.2)) ∧ Lives w X d v4 t l rs wx ∧ v8 = .int .i64 (256 - (needR rs : Int)) ∧ v9 = .int .i64 l.ep ∧ l.num ≤ 2 + (i : Int) ∧ l.ep ≤ 2 + (i : Int) ∧ l.nx ≤ 1 + 4 * (i : Int) ∧ (∀ r ∈ rs, r.2.length ≤ 2200)
theorem needs_le : ∀ (bs : List (List Int)), (∀ b ∈ bs, need b ≤ 117) → needs bs ≤ 117 * bs.length
  | [], _ => by simp [needs]
  | b :: bs, h => by
    have := needs_le bs (fun x hx => h x (.tail _ hx))
    have := h b (.head _)
    simp only [needs, List.length_cons]; omega
def NextTo (w : World) (d gv : Value) (t : Slot) (l : LSt) (rs : List Rec) (R : Blks) (j : Nat) (v14 v15 : Value) (wx : World) : Prop :=
  ∃ Z bs, GotRows w Z v14 bs ∧ bs.length = j ∧ v15 = .int .i64 (needs bs : Nat) ∧ (∀ b ∈ bs, Byt b ∧ b.length < 2200) ∧ Lives w (Z ++ R) d gv t l rs wx
set_option maxHeartbeats 32000000 in
theorem logPlays_walk {w : World} (v0 : Value) (a0 : List Int) (h0 : InRow .i64 w v0 a0) : Calls Try.prog 7 #[v0] w (Yes w) := by
  obtain ⟨A0, c0, rfl, hl0, hr0⟩ := h0.at4
  have HR0 := Lib.hid hr0
  clear h0 hr0
  simp only [maxLen] at hl0
  have HO := Lib.hid (Own.start w)
  go_enter Try.func7, Try.ntmps7
  go_wp2_with fail
  have hcall := new_is HO.out 514 514 (by decide)
  with_reducible refine hcall.mono ?_
  clear hcall
  rintro en w1 ⟨d, L1, rfl, hd1, hO1⟩
  obtain ⟨bd, rfl⟩ := hd1.ptr
  have HD1 := Lib.hid hd1; have HO1 := Lib.hid hO1
  clear hd1 hO1 HO
  go_wp2_with fail
  have hcall := format_ok HD1.out HO1.out (newSt_n 514) rfl rfl (by decide)
  with_reducible refine hcall.mono ?_
  clear hcall
  rintro en w2 ⟨rfl, L2, hd2, hO2⟩
  have HD2 := Lib.hid hd2; have HO2 := Lib.hid hO2
  clear hd2 hO2 HD1 HO1
  go_wp2_with fail
  have hcall := open_up HD2.out HO2.out onF_fmt rest_fmt rfl (by decide) (by decide) (by decide)
  with_reducible refine hcall.mono ?_
  clear hcall HD2 HO2
  rintro en w3 ⟨g3, rv, X3, rfl, hrv, s3, F3, Ld3, Lg3, o3, hv3, hf3, hd3, hg3, hO3⟩
  obtain ⟨Ar, cr, rfl⟩ : ∃ A c, rv = .slice A 0 c := by
    obtain ⟨vs, Lr, Y, _, h1, _⟩ := hrv
    exact h1.val
  have HP : Hid (PlaysTo w (.pointer (some ⟨bd, 0, none⟩)) 0 (.pointer (some ⟨g3, 0, none⟩)) (.slice none 0 0) (.int .i64 256) (.int .i64 2) w3) := ⟨g3, slot1.up, upL slot1 [], [], [], rfl, ⟨[], [], [], rfl, ⟨rfl, .inl ⟨rfl, rfl, rfl⟩⟩, by simp⟩, ⟨s3, F3, Ld3, Lg3, o3, hv3, hf3, hd3, hg3, hO3.sub ((List.Sublist.refl Ld3).append ((List.Sublist.refl Lg3).append (List.nil_sublist _)))⟩, rfl, rfl, by decide, by decide, by decide, by simp⟩
  clear hrv o3 hv3 hf3 hd3 hg3 hO3
  go_wp2_with fail
  go_loopg [4, 7, 8, 9, 10] 61 (fun gg v4 v7 v8 v9 v10 wx => ∃ i : Nat, (i ≤ 60 ∧ i % 2 = 0) ∧ gg = 61 - i ∧ v10 = .int .i64 (i : Nat) ∧ Hid (PlaysTo w (.pointer (some ⟨bd, 0, none⟩)) i v4 v7 v8 v9 wx))
  case atStart => exact ⟨0, ⟨by omega, rfl⟩, rfl, rfl, HP.out⟩
  case round =>
    obtain ⟨i, hi, rfl, rfl, HPi⟩ := hrel
    clear HP
    by_cases hgo : i + 1 < a0.length ∧ i < 60
    · obtain ⟨h2, h3⟩ := hgo
      obtain ⟨ad, rfl, hcl⟩ := HR0.out 0 (by omega)
      have hcl0 := fun wx L hO => hcl wx L hO i (by omega)
      have hcl1 := fun wx L hO => hcl wx L hO (i + 1) h2
      generalize a0.getD i 0 = x0 at hcl0
      generalize a0.getD (i + 1) 0 = x1 at hcl1
      have HCL := Lib.hid (fun wx L hO => And.intro (hcl0 wx L hO) (show wx.cell? ⟨ad.block, ad.off + (i + 1), none⟩ = _ from (by have := hcl1 wx L hO; simpa [Addr.add] using this)))
      clear hcl0 hcl1 hcl
      have hI1 : (i : Int) + 1 < a0.length := by omega
      have hI2 : (i : Int) < 60 := by omega
      have hI0 : (0 : Int) ≤ (i : Int) + 1 := by omega
      have hI3 : (i : Int) < a0.length := by omega
      have hw0 : IntKind.i64.wrap ((i : Int) + 1) = (i : Int) + 1 := IntWalk.i64_in _ (by omega)
      obtain ⟨g, t, l, rs, X, rfl, hrows, ⟨s, F, Ld, Lg, o, hlv, hlf, hd, hg, hO⟩, rfl, rfl, hb1, hb2, hb3, hb4⟩ := HPi.out
      clear HPi
      have HO4 := Lib.hid hO; have HST := Lib.hid (And.intro o (And.intro hlv (And.intro hlf (And.intro hd hg)))); have HROWS := Lib.hid hrows
      have hfit := hlv.rest.fit
      clear hO o hlv hlf hd hg hrows
      go_wp2_with fail
      refine wp_region_lin (fun w' => w'.cell? (ad.add i) = some (.int .i64 x0) ∧ w'.cell? ⟨ad.block, ad.off + (i + 1), none⟩ = some (.int .i64 x1)) 13 [(0, true), (1, true), (2, true), (3, true), (4, true), (5, true), (6, true), (7, true), (8, true), (9, true), (10, false), (11, false), (12, true)] (by kernel_rfl) (by kernel_rfl) (fun _ _ d _ _ h => by cases d <;> exact h) (HCL.out _ _ HO4.out.drew) ?_
      have HO5 := Lib.hid HO4.out.drew
      clear HO4
      generalize wr.drew = w7 at *
      simp only [List.map_cons, List.map_nil, pick_zero, pick_succ, List.drop_succ_cons, List.drop_zero]
      iterate 10 (refine lin_q ?_ rfl ?_ ?_; rotate_left 1; (focus (rintro w' ⟨hq0, hq1⟩; go_simp; first | done | with_reducible rfl | (trace_state; fail))); simp only [Act.put, List.setIfInBounds_toArray, List.set_cons_zero, List.set_cons_succ])
      refine lin_act ?_
      refine wl_call rfl _ _ _ (by go_simp) (within_n (w := w7) x1 700 (by omega) (by omega)) ?_
      rintro e w8 ⟨rfl, rfl⟩
      refine ⟨_, rfl, LinPost.mk (HCL.out _ _ HO5.out) ?_⟩
      simp only [Act.put, List.setIfInBounds_toArray, List.set_cons_zero, List.set_cons_succ]
      have hk7 : (x1 % 700).toNat < 700 := by omega
      generalize (x1 % 700).toNat = k at *
      refine lin_act ?_
      refine wl_call rfl _ _ _ (by go_simp) (bytes_c HO5.out x1 k (by omega)) ?_
      rintro e w8 ⟨vb, Lb, rfl, hvb, hO8⟩
      refine ⟨_, rfl, LinPost.mk (HCL.out _ _ hO8) ?_⟩
      have HLV : Hid (Lives w (Lb ++ X) (.pointer (some ⟨bd, 0, none⟩)) (.pointer (some ⟨g, 0, none⟩)) t l rs w8) := ⟨s, F, Ld, Lg, HST.out.1, HST.out.2.1, HST.out.2.2.1, HST.out.2.2.2.1, HST.out.2.2.2.2, own_count hO8 (by intro p; simp only [List.count_append, List.count_cons, List.count_nil]; omega)⟩
      have hlenk : (pbytes x1 k).length = k := by simp [pbytes]
      obtain ⟨Ab, cb, hvv⟩ := hvb.val
      rw [hlenk] at hvv
      subst hvv
      have HBK := Lib.hid hlenk
      clear hlenk
      have HRD0 := Lib.hid (show Rd w Lb (.slice Ab k cb) (pbytes x1 k) from hvb.rd (List.Sublist.refl _))
      have HRD := Lib.hid (show Rd w (Lb ++ X) (.slice Ab k cb) (pbytes x1 k) from hvb.rd sub_here)
      have HBB := Lib.hid (byt_pbytes x1 k)
      have HBL7 := Lib.hid (show (pbytes x1 k).length < 700 by simp [pbytes]; exact hk7)
      have HBN := Lib.hid (show need (pbytes x1 k) ≤ 255 by have := HBL7.out; unfold need; omega)
      have HBL := Lib.hid (show (pbytes x1 k).length ≤ 1000000 by have := HBL7.out; omega)
      have hnb : need (pbytes x1 k) ≤ 255 := HBN.out
      have hpos := hO8
      have HC8 := Lib.hid (HCL.out _ _ hO8).1
      clear hvb hO8 HO5 HST hpos
      simp only [Act.put, List.setIfInBounds_toArray, List.set_cons_zero, List.set_cons_succ]
      iterate 1 (refine lin_q ?_ rfl ?_ ?_; rotate_left 1; (focus (rintro w' -; go_simp; first | done | with_reducible rfl | (trace_state; fail))); simp only [Act.put, List.setIfInBounds_toArray, List.set_cons_zero, List.set_cons_succ])
      refine lin_nil ?_
      generalize pbytes x1 k = b at *
      have c8 := HC8.out
      go_wp2_with fail
      clear c8 HC8
      have hcall := within_n (w := w8) x0 9 (by omega) (by omega)
      with_reducible refine hcall.mono ?_
      clear hcall
      rintro en w9 ⟨rfl, rfl⟩
      have hk9 : (x0 % 9).toNat < 9 := by omega
      generalize (x0 % 9).toNat = k9 at *
      go_upto_block 2 with fail
      go_cut [4, 7, 8, 9] (fun v4 v7 v8 v9 wx => PlaysTo w (.pointer (some ⟨bd, 0, none⟩)) (i + 2) v4 v7 v8 v9 wx)
      case first =>
        rename_i JJ KK hJJ hKK
        rcases (show k9 < 6 ∨ (6 ≤ k9 ∧ k9 < 8) ∨ 8 ≤ k9 by omega) with hk | hk | hk
        · -- k < 6
          have hk6 : (k9 : Int) < 6 := by omega
          go_wp2_with fail
          have hcall := lawneed_c (w := w8) Ab k cb b HBK.out HBL.out
          with_reducible refine hcall.mono ?_
          clear hcall
          rintro en w5 ⟨rfl, rfl⟩
          by_cases hfull : needR rs + need b ≤ 256
          · have hgt : ¬ ((256 : Int) - (needR rs : Int) < (need b : Int)) := by omega
            go_wp2_with fail
            have hcall := append_up (bw := .slice Ab k cb) HLV.out HRD.out HBB.out HBN.out HBL.out hfull (by omega)
            with_reducible refine hcall.mono ?_
            clear hcall HLV
            rintro en w6 ⟨rfl, hlv⟩
            obtain ⟨s6, F6, Ld6, Lg6, o6, hv6, hf6, hd6, hg6, hO6⟩ := hlv
            obtain ⟨vs, Lr, Y, rfl, hrow, heach⟩ := HROWS.out
            rw [List.length_map] at hrow
            obtain ⟨A7, c7, rfl⟩ := hrow.val
            have hO7 : Own w w6 (Lr ++ (Ld6 ++ (Lg6 ++ (Lb ++ Y)))) := own_count hO6 (by intro p; simp only [List.count_append, List.count_cons, List.count_nil]; omega)
            have HO7 := Lib.hid hO7; have HROW := Lib.hid hrow; have HEACH := Lib.hid heach; have HS6 := Lib.hid (And.intro o6 (And.intro hv6 (And.intro hf6 (And.intro hd6 hg6))))
            clear hO7 hrow heach hO6 o6 hv6 hf6 hd6 hg6 HROWS
            have hrsl : rs.length ≤ 256 := by have := length_le_needR rs; omega
            have hwn : IntKind.i64.wrap (256 - (needR rs : Int) - (need b : Int)) = 256 - (needR rs : Int) - (need b : Int) := IntWalk.i64_in _ (by omega)
            go_wp2_with (refine wl_appendV rfl _ _ _ rfl _ _ 24 Try.underlying28 rows_info (by rfl) (.slice A7 rs.length c7) rs.length vs (by rfl) HROW.out (Own.rot (A := [_]) (HO7.out.alloc (.cells [Value.slice Ab k cb].toArray 27))) (.slice (some ⟨w6.heap.size, 0, none⟩) 1 1) [.slice Ab k cb] (by rfl) (vs_oneL (HO7.out.alloc (.cells [Value.slice Ab k cb].toArray 27)) (.head _)) (by simp; rfl) (by simp only [maxLen, List.length_singleton]; omega) (by simp only [List.length_singleton]; omega) ?_; intro v18 w18 L8 hr8 hO8; have HR8 := Lib.hid hr8; have HO8 := Lib.hid hO8; clear hr8 hO8 HO7)
            have hcall := lawneed_c (w := w18) Ab k cb b HBK.out HBL.out
            with_reducible refine hcall.mono ?_
            clear hcall
            rintro en w9 ⟨rfl, rfl⟩
            go_wp2
            go_meet
            have h8 : Own w w18 (L8 ++ (Ld6 ++ (Lg6 ++ (Lb ++ Y)))) := HO8.out.rot.tail
            have h1' : IsRow 27 1 (.slice A7 rs.length c7) (rs.map (·.2)).length vs Lr := by rw [List.length_map]; exact HROW.out
            have h2' : IsRow 27 1 v18 ((rs.map (·.2)).length + 1) (vs ++ [.slice Ab k cb]) L8 := by rw [List.length_map]; exact HR8.out
            refine ⟨g, t, _, rs ++ [(l.ep, b)], L8 ++ (Lb ++ Y), rfl, ?_, ⟨s6, F6, Ld6, Lg6, HS6.out.1, HS6.out.2.1, HS6.out.2.2.1, HS6.out.2.2.2.1, HS6.out.2.2.2.2, own_count h8 (by intro p; simp only [List.count_append, List.count_cons, List.count_nil]; omega)⟩, ?_, rfl, by simp only; omega, by simp only; omega, by simp only; omega, ?_⟩
            · have e : (rs ++ [(l.ep, b)]).map (·.2) = rs.map (·.2) ++ [b] := by simp
              rw [e]
              refine ⟨_, L8, Lb ++ Y, rfl, by simpa using HR8.out, gotRows_snoc h1' HEACH.out HRD0.out h2'⟩
            · rw [needR_append, show needR [(l.ep, b)] = need b by simp [needR, needs]]
              congr 1; push_cast; omega
            · intro r hr
              rcases List.mem_append.1 hr with hr | hr
              · exact hb4 r hr
              · rw [List.mem_singleton.1 hr]; have := HBL7.out; simp only; omega
          · have hgt : ((256 : Int) - (needR rs : Int) < (need b : Int)) := by omega
            obtain ⟨s6, F6, Ld6, Lg6, o6, hv6, hf6, hd6, hg6, hO6⟩ := HLV.out
            have hat := Slot.at_eq hv6.rest.tok.half
            have hbd := hv6.bounds
            have hfi := hv6.rest.fit
            have hcall := append_full (w := w8) (bw := .slice Ab k cb) hd6 hg6 hO6 HRD.out HBL.out (by rw [hv6.half]; exact hv6.rest.tok.half) (by rw [hv6.en]; omega) hv6.dead (by rw [hv6.en, hv6.half]; push_cast; omega)
            have HC := Lib.hid hcall
            have HS6 := Lib.hid (And.intro o6 (And.intro hv6 hf6))
            clear hcall hat hbd hfi o6 hv6 hf6 hd6 hg6 hO6 HLV
            go_wp2_with fail
            with_reducible refine HC.out.mono ?_
            clear HC
            rintro en w6 ⟨rfl, L6, Lg7, hd7, hg7, hO7⟩
            have HS7 := Lib.hid (And.intro hd7 (And.intro hg7 hO7))
            clear hd7 hg7 hO7
            go_wp2
            go_meet
            exact ⟨g, t, l, rs, X, rfl, HROWS.out, ⟨s6, F6, L6, Lg7, HS6.out.1, HS6.out.2.1, HS6.out.2.2, HS7.out.1, HS7.out.2.1, HS7.out.2.2.sub ((List.Sublist.refl L6).append ((List.Sublist.refl Lg7).append (List.sublist_append_right Lb X)))⟩, rfl, rfl, by omega, by omega, by omega, hb4⟩
        · -- the log is turned
          have hk6 : ¬ ((k9 : Int) < 6) := by omega
          have hk8 : ((k9 : Int) < 8) := by omega
          have hm4 : (x0 % 4).toNat < 4 := by omega
          have hwi : ∀ wx : World, Calls Try.prog 9 #[.int .i64 x0, .int .i64 4] wx fun e w' => e = .returned (.int .i64 (((x0 % 4).toNat : Nat) : Int)) ∧ wx = w' := fun wx => within_n (w := wx) x0 4 (by omega) (by omega)
          have HWI := Lib.hid hwi
          clear hwi
          generalize (x0 % 4).toNat = m4 at *
          have HN0 : Hid (NextTo w (.pointer (some ⟨bd, 0, none⟩)) (.pointer (some ⟨g, 0, none⟩)) t l rs (Lb ++ X) 0 (.slice none 0 0) (.int .i64 0) w8) := ⟨[], [], ⟨[], [], [], rfl, ⟨rfl, .inl ⟨rfl, rfl, rfl⟩⟩, by simp⟩, rfl, rfl, by simp, HLV.out⟩
          clear HLV
          go_wp2_with fail
          go_loopg [14, 15, 16] 4 (fun gg v14 v15 v16 wx => ∃ j : Nat, j ≤ m4 ∧ gg = 4 - j ∧ v16 = .int .i64 (j : Nat) ∧ Hid (NextTo w (.pointer (some ⟨bd, 0, none⟩)) (.pointer (some ⟨g, 0, none⟩)) t l rs (Lb ++ X) j v14 v15 wx))
          case atStart => exact ⟨0, Nat.zero_le _, rfl, rfl, HN0.out⟩
          case round =>
            obtain ⟨j, hj, rfl, rfl, HNj⟩ := hrel
            clear HN0
            obtain ⟨Z, bs, hz, hzl, rfl, hzb, ⟨s9, F9, Ld9, Lg9, o9, hv9, hf9, hd9, hg9, hO9⟩⟩ := HNj.out
            clear HNj
            have HZ := Lib.hid (And.intro hz (And.intro hzl hzb)); have HS9 := Lib.hid (And.intro o9 (And.intro hv9 (And.intro hf9 (And.intro hd9 hg9)))); have HO9 := Lib.hid hO9
            have c0 := (HCL.out _ _ hO9).1
            clear hz hzl hzb o9 hv9 hf9 hd9 hg9 hO9
            by_cases hjm : j < m4
            · have hjI : (j : Int) < (m4 : Int) := by omega
              go_wp2_with fail
              clear c0
              with_reducible refine (HWI.out _).mono ?_
              rintro en w10 ⟨rfl, rfl⟩
              go_wp2_with fail
              refine wp_region_lin (fun w' => w'.cell? (ad.add i) = some (.int .i64 x0) ∧ w'.cell? ⟨ad.block, ad.off + (i + 1), none⟩ = some (.int .i64 x1)) 18 [(0, true), (1, true), (2, true), (3, true), (4, true), (5, true), (6, true), (7, true), (8, true), (9, true), (10, true), (11, true), (12, true), (13, true), (14, true), (15, false), (16, false), (17, true)] (by kernel_rfl) (by kernel_rfl) (fun _ _ d _ _ h => by cases d <;> exact h) (HCL.out _ _ HO9.out.drew) ?_
              have HO10 := Lib.hid HO9.out.drew
              clear HO9
              generalize World.drew _ = w10 at *
              have hwj : IntKind.i64.wrap ((j : Int) + 1) = (j : Int) + 1 := IntWalk.i64_in _ (by omega)
              have hj0 : ¬ ((j : Int) + 1 = 0) := by omega
              simp only [List.map_cons, List.map_nil, pick_zero, pick_succ, List.drop_succ_cons, List.drop_zero]
              iterate 15 (refine lin_q ?_ rfl ?_ ?_; rotate_left 1; (focus (rintro w' ⟨hq0, hq1⟩; go_simp; first | done | with_reducible rfl | (trace_state; fail))); simp only [Act.put, List.setIfInBounds_toArray, List.set_cons_zero, List.set_cons_succ])
              refine lin_act ?_
              refine wl_call rfl _ _ _ (by go_simp) (within_n (w := w10) (IntKind.i64.wrap (x1.tdiv ((j : Int) + 1))) 2200 (by omega) (by omega)) ?_
              rintro e w11 ⟨rfl, rfl⟩
              refine ⟨_, rfl, LinPost.mk (HCL.out _ _ HO10.out) ?_⟩
              simp only [Act.put, List.setIfInBounds_toArray, List.set_cons_zero, List.set_cons_succ]
              have hk22 : (IntKind.i64.wrap (x1.tdiv ((j : Int) + 1)) % 2200).toNat < 2200 := by omega
              generalize (IntKind.i64.wrap (x1.tdiv ((j : Int) + 1)) % 2200).toNat = k2 at *
              refine lin_act ?_
              refine wl_call rfl _ _ _ (by go_simp) (bytes_c HO10.out (IntKind.i64.wrap (x1 + (j : Int))) k2 (by omega)) ?_
              rintro e w11 ⟨vc, Lc, rfl, hvc, hO11⟩
              refine ⟨_, rfl, LinPost.mk (HCL.out _ _ hO11) ?_⟩
              generalize IntKind.i64.wrap (x1 + (j : Int)) = y1 at *
              have hlenc : (pbytes y1 k2).length = k2 := by simp [pbytes]
              obtain ⟨Ac, cc, hvv⟩ := hvc.val
              rw [hlenc] at hvv
              subst hvv
              have HCK := Lib.hid hlenc; have HCB := Lib.hid (byt_pbytes y1 k2)
              have HRC := Lib.hid (show Rd w Lc (.slice Ac k2 cc) (pbytes y1 k2) from hvc.rd (List.Sublist.refl _))
              obtain ⟨⟨vs, Lr, Y, hZe, hrow, heach⟩, hzl, hzb⟩ := HZ.out
              subst hZe
              have hO12 : Own w w11 (Lr ++ (Ld9 ++ (Lg9 ++ (Lc ++ (Y ++ (Lb ++ X)))))) := own_count hO11 (by intro p; simp only [List.count_append, List.count_cons, List.count_nil]; omega)
              have HROW2 := Lib.hid hrow; have HEACH2 := Lib.hid heach; have HO12 := Lib.hid hO12; have HZL := Lib.hid hzl; have HZB := Lib.hid hzb
              rw [hzl] at hrow
              obtain ⟨A14, c14, hv14⟩ := hrow.val
              subst hv14
              have HROWJ := Lib.hid hrow
              clear hvc hO11 HO10 HZ hlenc hrow heach hO12 hzl hzb
              simp only [Act.put, List.setIfInBounds_toArray, List.set_cons_zero, List.set_cons_succ]
              iterate 1 (refine lin_q ?_ rfl ?_ ?_; rotate_left 1; (focus (rintro w' -; go_simp; first | done | with_reducible rfl | (trace_state; fail))); simp only [Act.put, List.setIfInBounds_toArray, List.set_cons_zero, List.set_cons_succ])
              refine lin_nil ?_
              generalize pbytes y1 k2 = c at *
              have hnc : need c ≤ 117 := by unfold need; rw [HCK.out]; omega
              have hns : needs bs ≤ 117 * j := by rw [← HZL.out]; exact needs_le bs (fun b hb => by have := (HZB.out b hb).2; unfold need; omega)
              go_wp2_with (refine wl_appendV rfl _ _ _ rfl _ _ 24 Try.underlying28 rows_info (by rfl) (.slice A14 j c14) j vs (by rfl) HROWJ.out (Own.rot (A := [_]) (HO12.out.alloc (.cells [Value.slice Ac k2 cc].toArray 27))) (.slice (some ⟨w11.heap.size, 0, none⟩) 1 1) [.slice Ac k2 cc] (by rfl) (vs_oneL (HO12.out.alloc (.cells [Value.slice Ac k2 cc].toArray 27)) (.head _)) (by simp; rfl) (by simp only [maxLen, List.length_singleton]; omega) (by simp only [List.length_singleton]; omega) ?_; intro v13 w13 L13 hr13 hO13; have HR13 := Lib.hid hr13; have HO13 := Lib.hid hO13; clear hr13 hO13 HO12)
              have hcall := lawneed_c (w := w13) Ac k2 cc c HCK.out (by rw [HCK.out]; omega)
              with_reducible refine hcall.mono ?_
              clear hcall
              rintro en w14 ⟨rfl, rfl⟩
              have hws : IntKind.i64.wrap ((needs bs : Int) + (need c : Int)) = (needs bs : Int) + (need c : Int) := IntWalk.i64_in _ (by omega)
              go_wp2
              go_roundg (4 - (j + 1))
              case measure => omega
              case rel =>
                have h13 : Own w w13 (L13 ++ (Ld9 ++ (Lg9 ++ (Lc ++ (Y ++ (Lb ++ X)))))) := HO13.out.rot.tail
                have hr' : IsRow 27 1 v13 (bs.length + 1) (vs ++ [.slice Ac k2 cc]) L13 := by rw [HZL.out]; exact HR13.out
                refine ⟨j + 1, by omega, rfl, by go_num, L13 ++ (Lc ++ Y), bs ++ [c], ⟨_, L13, Lc ++ Y, rfl, by simpa using hr', gotRows_snoc HROW2.out HEACH2.out HRC.out hr'⟩, by rw [List.length_append, HZL.out]; rfl, by rw [needs_append]; simp only [needs]; congr 1 <;> (push_cast; omega), ?_, ⟨s9, F9, Ld9, Lg9, HS9.out.1, HS9.out.2.1, HS9.out.2.2.1, HS9.out.2.2.2.1, HS9.out.2.2.2.2, own_count h13 (by intro p; simp only [List.count_append, List.count_cons, List.count_nil]; omega)⟩⟩
                intro b2 hb2
                rcases List.mem_append.1 hb2 with hb2 | hb2
                · exact HZB.out b2 hb2
                · rw [List.mem_singleton.1 hb2]; exact ⟨HCB.out, by rw [HCK.out]; omega⟩
            · have hjI : ¬ ((j : Int) < (m4 : Int)) := by omega
              obtain ⟨hz, hzl, hzb⟩ := HZ.out
              have hns : needs bs ≤ 117 * j := by rw [← hzl]; exact needs_le bs (fun b hb => by have := (hzb b hb).2; unfold need; omega)
              have hN : ∀ b ∈ bs, need b ≤ 255 := fun b hb => by have := (hzb b hb).2; unfold need; omega
              have hL : ∀ b ∈ bs, b.length ≤ 1000000 := fun b hb => by have := (hzb b hb).2; omega
              have hB : ∀ b ∈ bs, Byt b := fun b hb => (hzb b hb).1
              have hzl' := hzl
              have HRR := Lib.hid (hz.rd (Lb ++ X)); have HZR := Lib.hid hz; have HBS := Lib.hid (And.intro hN (And.intro hL hB)); have HZL := Lib.hid hzl; have HZ2 := Lib.hid (fun b hb => (hzb b hb).2)
              clear hz hzl hzb hN hL hB HZ hzl'
              obtain ⟨A14, c14, hv14⟩ : ∃ A c, u14 = .slice A bs.length c := by
                obtain ⟨vs, Lr, Y, _, h1, _⟩ := HZR.out
                exact h1.val
              subst hv14
              by_cases hfull : needs bs ≤ 256
              · have hgt : ¬ ((256 : Int) < (needs bs : Int)) := by omega
                have hnmt : l.num < 16777215 := by omega
                have hnxt : l.nx + bs.length ≤ 16777215 := by rw [HZL.out]; omega
                have hcall : ∀ wx, Lives w (Z ++ (Lb ++ X)) (.pointer (some ⟨bd, 0, none⟩)) (.pointer (some ⟨g, 0, none⟩)) t l rs wx → _ := fun wx hl => turn_up (rv := .slice A14 bs.length c14) hl HRR.out HBS.out.2.2 HBS.out.1 HBS.out.2.1 (by rw [HZL.out]; omega) hfull hnmt hnxt
                have HTU := Lib.hid (hcall _ ⟨s9, F9, Ld9, Lg9, HS9.out.1, HS9.out.2.1, HS9.out.2.2.1, HS9.out.2.2.2.1, HS9.out.2.2.2.2, HO9.out⟩)
                clear hcall HS9 HO9 hnmt hnxt
                have hwr : IntKind.i64.wrap (256 - (needs bs : Int)) = 256 - (needs bs : Int) := IntWalk.i64_in _ (by omega)
                go_wp2_with fail
                clear c0
                with_reducible refine (HWI.out _).mono ?_
                rintro en w10 ⟨rfl, rfl⟩
                go_wp2_with fail
                with_reducible refine HTU.out.mono ?_
                clear HTU
                rintro en w11 ⟨rfl, s11, F11, Ld11, Lg11, o11, hv11, hf11, hd11, hg11, hO11⟩
                have HS11 := Lib.hid (And.intro o11 (And.intro hv11 (And.intro hf11 (And.intro hd11 (And.intro hg11 hO11)))))
                clear o11 hv11 hf11 hd11 hg11 hO11
                go_wp2
                go_meet
                have hmm : (bs.map (Prod.mk l.ep)).map (·.2) = bs := by rw [List.map_map]; exact List.map_id' bs
                refine ⟨g, l.tslot, l.turnTo bs, bs.map (Prod.mk l.ep), Z, rfl, by rw [hmm]; exact HZR.out, ⟨s11, F11, Ld11, Lg11, HS11.out.1, HS11.out.2.1, HS11.out.2.2.1, HS11.out.2.2.2.1, HS11.out.2.2.2.2.1, HS11.out.2.2.2.2.2.sub ((List.Sublist.refl _).append ((List.Sublist.refl _).append (List.sublist_append_left Z _)))⟩, by rw [needR_map], rfl, by simp only [LSt.turnTo]; omega, by simp only [LSt.turnTo]; omega, by simp only [LSt.turnTo]; rw [HZL.out]; omega, ?_⟩
                intro r hr
                obtain ⟨b2, hb2, rfl⟩ := List.mem_map.1 hr
                have := HZ2.out b2 hb2
                simp only; omega
              · have hgt : ((256 : Int) < (needs bs : Int)) := by omega
                have hcall := turn_full (rv := .slice A14 bs.length c14) HS9.out.2.2.2.1 HS9.out.2.2.2.2 HO9.out HRR.out HBS.out.2.1 (by rw [HZL.out]; omega) (by omega) HS9.out.2.1.dead (by omega)
                have HTF := Lib.hid hcall
                clear hcall HO9
                go_wp2_with fail
                clear c0
                with_reducible refine (HWI.out _).mono ?_
                rintro en w10 ⟨rfl, rfl⟩
                go_wp2_with fail
                with_reducible refine HTF.out.mono ?_
                clear HTF
                rintro en w11 ⟨rfl, L11, Lg11, hd11, hg11, hO11⟩
                have HS11 := Lib.hid (And.intro hd11 (And.intro hg11 hO11))
                clear hd11 hg11 hO11
                go_wp2
                go_meet
                exact ⟨g, t, l, rs, X, rfl, HROWS.out, ⟨s9, F9, L11, Lg11, HS9.out.1, HS9.out.2.1, HS9.out.2.2.1, HS11.out.1, HS11.out.2.1, HS11.out.2.2.sub ((List.Sublist.refl _).append ((List.Sublist.refl _).append ((List.sublist_append_right Lb X).trans (List.sublist_append_right Z _))))⟩, rfl, rfl, by omega, by omega, by omega, hb4⟩
        · -- the log is opened again
          have hk6 : ¬ ((k9 : Int) < 6) := by omega
          have hk8 : ¬ ((k9 : Int) < 8) := by omega
          obtain ⟨s5, F5, Ld5, Lg5, o5, hv5, hf5, hd5, hg5, hO5⟩ := HLV.out
          have hnx5 := hv5.nx; have hnm5 := hv5.num; have hep5 := hv5.ep
          have hcall := open_up hd5 hO5 o5 hv5.rest hf5 (by omega) (by omega) (by omega)
          have hep0 := hv5.rest.tok.ep
          have hwe : IntKind.i64.wrap (l.ep + 1) = l.ep + 1 := IntWalk.i64_in _ (by omega)
          have HC := Lib.hid hcall; have HEQ := Lib.hid (And.intro hnx5 (And.intro hnm5 hep5))
          clear hcall HLV o5 hv5 hf5 hd5 hg5 hO5 hnx5 hnm5 hep5 hep0
          go_wp2_with fail
          with_reducible refine HC.out.mono ?_
          clear HC
          rintro en w6 ⟨g6, rv6, X6, rfl, hrv6, s6, F6, Ld6, Lg6, o6, hv6, hf6, hd6, hg6, hO6⟩
          have hO7 : Own w w6 (X6 ++ (Ld6 ++ (Lg6 ++ (Lg5 ++ (Lb ++ X))))) := own_count hO6 (by intro p; simp only [List.count_append, List.count_cons, List.count_nil]; omega)
          have hsm := same4_yes hO7 (hrv6.rd _) (RdRows.more (RdRows.more (RdRows.more (RdRows.more (RdRows.more (show RdRows w X u7 _ by have := HROWS.out.rd []; rwa [List.append_nil] at this)))))) (by intro b hb; obtain ⟨r, hr, rfl⟩ := List.mem_map.1 hb; have := hb4 r hr; omega) (by rw [List.length_map]; have := length_le_needR rs; have := hv6.rest.fit; omega)
          have HSM := Lib.hid hsm
          have HS6 := Lib.hid (And.intro o6 (And.intro hv6 (And.intro hf6 (And.intro hd6 hg6))))
          clear hsm hrv6 o6 hv6 hf6 hd6 hg6 hO6 hO7
          go_wp2_with fail
          with_reducible refine HSM.out.mono ?_
          clear HSM
          rintro en w7 ⟨rfl, hO7⟩
          have HO7 := Lib.hid hO7
          clear hO7
          go_wp2
          go_meet
          obtain ⟨hnx5, hnm5, hep5⟩ := HEQ.out
          exact ⟨g6, t.up, upL t rs, rs, X, rfl, HROWS.out, ⟨s6, F6, Ld6, Lg6, HS6.out.1, HS6.out.2.1, HS6.out.2.2.1, HS6.out.2.2.2.1, HS6.out.2.2.2.2, HO7.out.right.sub ((List.Sublist.refl Ld6).append ((List.Sublist.refl Lg6).append ((List.sublist_append_right Lb X).trans (List.sublist_append_right Lg5 _))))⟩, rfl, by simp only [upL]; rw [hep5], by simp only [upL]; omega, by simp only [upL]; omega, by simp only [upL]; omega, hb4⟩
      case rest =>
        obtain ⟨g2, t2, l2, rs2, X2, rfl, hrows2, hlv2, rfl, rfl, hc1, hc2, hc3, hc4⟩ := hcut
        have HLV2 := Lib.hid hlv2; have HROWS2 := Lib.hid hrows2
        clear hlv2 hrows2
        go_wp2_with fail
        have hcall := room_lives HLV2.out (256 - (needR rs2 : Int)) rfl
        with_reducible refine hcall.mono ?_
        clear hcall HLV2
        rintro en w20 ⟨rfl, hlv2⟩
        have HLV2 := Lib.hid hlv2
        clear hlv2
        go_wp2_with fail
        have hcall := epoch_lives HLV2.out l2.ep rfl
        with_reducible refine hcall.mono ?_
        clear hcall HLV2
        rintro en w21 ⟨rfl, hlv2⟩
        obtain ⟨s21, F21, Ld21, Lg21, o21, hv21, hf21, hd21, hg21, hO21⟩ := hlv2
        have hcall := pending_is hd21 hO21 0 (by rw [o21.pend]; rfl)
        have HC := Lib.hid hcall
        have HP2 : Hid (PlaysTo w (.pointer (some ⟨bd, 0, none⟩)) (i + 2) (.pointer (some ⟨g2, 0, none⟩)) u7 (.int .i64 (256 - (needR rs2 : Int))) (.int .i64 l2.ep) w21) := ⟨g2, t2, l2, rs2, X2, rfl, HROWS2.out, ⟨s21, F21, Ld21, Lg21, o21, hv21, hf21, hd21, hg21, hO21⟩, rfl, rfl, hc1, hc2, hc3, hc4⟩
        clear hcall hd21 hO21 o21 hv21 hf21 hg21 HROWS2
        go_wp2_with fail
        with_reducible refine HC.out.mono ?_
        clear HC
        rintro en w22 ⟨rfl, rfl⟩
        go_wp2
        go_roundg (61 - (i + 2))
        case measure => omega
        case rel => exact ⟨i + 2, ⟨by omega, by omega⟩, rfl, by go_num, HP2.out⟩
    · have hgo2 : ¬ ((i : Int) + 1 < a0.length) ∨ (((i : Int) + 1 < a0.length) ∧ ¬ ((i : Int) < 60)) := by omega
      clear hgo HR0
      have hw0 : IntKind.i64.wrap ((i : Int) + 1) = (i : Int) + 1 := IntWalk.i64_in _ (by omega)
      obtain ⟨g, t, l, rs, X, rfl, hrows, ⟨s5, F5, Ld5, Lg5, o5, hv5, hf5, hd5, hg5, hO5⟩, rfl, rfl, hb1, hb2, hb3, hb4⟩ := HPi.out
      clear HPi
      have hnx5 := hv5.nx; have hnm5 := hv5.num; have hep5 := hv5.ep; have hfit := hv5.rest.fit
      have hcall := open_up hd5 hO5 o5 hv5.rest hf5 (by omega) (by omega) (by omega)
      have HC := Lib.hid hcall; have HROWS := Lib.hid hrows
      clear hcall o5 hv5 hf5 hd5 hg5 hO5 hrows
      rcases hgo2 with hn1 | ⟨hy1, hn2⟩
      all_goals
        clear hw0
        go_wp2_with fail
        with_reducible refine HC.out.mono ?_
        clear HC
        rintro en w6 ⟨g6, rv6, X6, rfl, hrv6, s6, F6, Ld6, Lg6, o6, hv6, hf6, hd6, hg6, hO6⟩
        have hO7 : Own w w6 (X6 ++ (Ld6 ++ (Lg6 ++ (Lg5 ++ X)))) := own_count hO6 (by intro p; simp only [List.count_append, List.count_cons, List.count_nil]; omega)
        have hsm := same4_yes hO7 (hrv6.rd _) (RdRows.more (RdRows.more (RdRows.more (RdRows.more (show RdRows w X u7 _ by have := HROWS.out.rd []; rwa [List.append_nil] at this))))) (by intro b hb; obtain ⟨r, hr, rfl⟩ := List.mem_map.1 hb; have := hb4 r hr; omega) (by rw [List.length_map]; have := length_le_needR rs; omega)
        have HSM := Lib.hid hsm
        clear hsm hrv6 o6 hv6 hf6 hd6 hg6 hO6 hO7
        go_wp2_with fail
        with_reducible refine HSM.out.mono ?_
        clear HSM
        rintro en w7 ⟨rfl, hO7⟩
        have HO7 := Lib.hid hO7
        clear hO7
        go_wp2_with fail
        have hcall := wakes4_c HO7.out
        with_reducible refine hcall.mono ?_
        clear hcall
        rintro en w21 ⟨rfl, hO21⟩
        have HO21 := Lib.hid hO21
        clear hO21 HO7
        go_wp2
        go_ret
        exact ⟨rfl, HO21.out.below⟩
set_option maxRecDepth 100000 in
theorem logPlays_lifted (os : Os) (started : os.Started) (H : Type) (enc : TypeId × Value → H) :
    ReturnsInHanded {} Try.checked os 7 .any (Rows.logPlaysSpec.pre6 enc Try.prog Try.f7 Rows.logPlaysRow.domain false) (Rows.logPlaysSpec.post enc Try.prog Try.f7 false true false false) := by
  refine returnsInHanded_of_change (C := Try.checked) (by kernel_rfl) started (by kernel_rfl) Try.func7
    (ChangeSpec.witness6 (enc := enc) (C := Try.checked) false ⟨#[], #[.slice none 0 0], []⟩ 8 (by kernel_rfl) (by kernel_rfl) (by kernel_rfl) (by kernel_rfl)) ?_
  intro W base args ds gs before hval0 hW hcnd _
  have hval : ∀ (j : Nat) t v, Try.f7.params[j]? = some t → args[j]? = some v → Value.okWide Try.prog W .any base t v := hval0
  have hW' := hW
  obtain ⟨p, q, hA0, hV, rfl, hfz, hnd⟩ := hW
  have hA : DataW.TrodAll enc Try.prog W 0 (fun _ => true) true Try.f7.params.toList args.toList ds p := hA0
  rw [Try.params7] at hA hval
  obtain ⟨v0, vs0, d0, ds0, p0, q0, hargs, rfl, rfl, h0, r0⟩ := trodAll_cons hA
  obtain ⟨rfl, rfl, rfl⟩ := trodAll_nil r0
  obtain rfl : args = #[v0] := by cases args; simp_all
  obtain ⟨rfl, rfl⟩ := trodVars_none hV
  obtain ⟨b0, len0, cap0, rfl⟩ := okWide_slice Try.underlying22 (hval 0 22 v0 rfl rfl)
  have k0 := h0
  have lt0 : ∀ x ∈ p0, x.block < W.heap.size := by obtain ⟨m, hm⟩ := k0; exact DataW.trod_lt m _ _ _ hm
  obtain ⟨a0, w0⟩ : ∃ xs, InRow .i64 W (.slice b0 len0 cap0) xs := by
    obtain ⟨fuel, hf⟩ := h0
    rcases open_ints Try.underlying22 Try.underlying3 (by kernel_rfl) hf with ⟨hcs, _⟩ | ⟨x, l, c, zs, hcs, _, hl, hm, hz, _, hcell, hwz⟩
    · simp [Value.cells] at hcs
      obtain ⟨rfl, rfl, rfl⟩ := hcs
      exact ⟨[], inRow_nil _ _⟩
    · simp [Value.cells] at hcs
      obtain ⟨rfl, rfl, rfl⟩ := hcs
      exact ⟨zs.take len0, inRow_mk hl hm (by simpa using hz) hcell hwz⟩
  clear hA0 hval0
  refine (logPlays_walk _ a0 w0).mono fun e W' ⟨he, bel⟩ => ?_
  subst he
  exact ⟨_, rfl, _, _, _, [], _, [], hW', trodAll_mk1 (shut_bool Try.underlying4 _), (trodAll_cons_mk (Below.trod laidOut (by kernel_rfl) (of_decide_eq_true (by kernel_rfl)) k0 bel lt0) trodAll_mk0), rfl, bel.frame _, fun h => by cases h⟩

/-- The statement. -/
theorem logPlays_proved : Rows.LogPlaysSaid :=
  OpenClaim.holds_of_wide 7 Try.f7 rfl rfl rfl rfl rfl rfl rfl ⟨rfl, rfl, rfl, rfl, rfl⟩ rfl rfl rfl rfl rfl (by kernel_rfl) Try.func7 (by kernel_rfl)
    (of_decide_eq_true (by kernel_rfl)) (by unfold Func.isWrapper; first | (rw [if_pos (by decide +kernel)]; kernel_rfl) | (rw [if_neg (by decide +kernel)]; exact ⟨rfl, rfl⟩))
    (fun os started H enc _ => logPlays_lifted os started H enc)
end Go.Proofs.Ytdndkapfaiplnaa
