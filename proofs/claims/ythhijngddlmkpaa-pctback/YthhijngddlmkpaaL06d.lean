/-
  PctBack: what was encoded of any runes but the percent sign has only bytes that are safe, is encoded to itself, and decodes to the text; to trim, and to make small letters, twice is as once.
  Conditions: none but the row's own.
-/
import Derived.Test.YthhijngddlmkpaaL06a
namespace Go.Proofs.Ythhijngddlmkpaa
set_option linter.unusedVariables false
set_option linter.unusedSimpArgs false
set_option maxRecDepth 20000
open Go.ChangeShapes Go.WideShapes Go.ChangeAt Go.RowKit
open Go.ChangeMaps (open_string shut_string)

/-- The text of runes without a percent sign. -/
def TextOf (o : ByteArray) (i : Nat) : Prop := ∃ cs : List Nat, sb o = cs.flatMap encI ∧ (∀ c ∈ cs, vrune c ∧ c ≠ 37) ∧ cs.length ≤ i ∧ cs.length ≤ 40
theorem TextOf.size {o : ByteArray} {i : Nat} (h : TextOf o i) : o.size ≤ 160 := by
  obtain ⟨cs, h1, _, _, h4⟩ := h
  rw [← length_sb, h1]
  have := flatMap_len encI 4 encI_len cs
  omega
theorem TextOf.more {o : ByteArray} {i : Nat} (h : TextOf o i) : TextOf o (i + 1) := by
  obtain ⟨cs, h1, h2, h3, h4⟩ := h
  exact ⟨cs, h1, h2, by omega, h4⟩
theorem TextOf.snoc {o ec : ByteArray} {i c : Nat} (h : TextOf o i) (hi : i < 40) (hc : vrune c ∧ c ≠ 37) (he : sb ec = encI c) : TextOf (o ++ ec) (i + 1) := by
  obtain ⟨cs, h1, h2, h3, h4⟩ := h
  refine ⟨cs ++ [c], by rw [sb_append, h1, he, List.flatMap_append]; simp, ?_, by simp; omega, by simp; omega⟩
  intro x hx
  rcases List.mem_append.1 hx with hx | hx
  · exact h2 x hx
  · rw [List.mem_singleton] at hx; subst hx; exact hc
theorem TextOf.back {o : ByteArray} {i : Nat} (h : TextOf o i) : unp (pctE (sb o)) = some (sb o) := by
  obtain ⟨cs, h1, h2, _, _⟩ := h
  have hr := runes_encs cs (fun c hc => (h2 c hc).1) []
  rw [List.append_nil] at hr
  rw [h1, pctE, hr, runes_nil, List.append_nil, unp_pctRs cs (fun c hc => (h2 c hc).2)]
set_option maxHeartbeats 8000000 in
theorem pctBack_walk (v : Value) (xs : List Int) {W : World} (hv : InRow .i64 W v xs) : Calls Try.prog 6 #[v] W (Yes W) := by
  have hrd := hv.rdv []
  obtain ⟨A, n, cp, rfl, hn, hc, hm, hw, hA⟩ := hv
  have HN := Lib.hid hn; have HA := Lib.hid hA; have HW := Lib.hid hw
  have hnm : (n : Int) ≤ 9223372036854775807 := by simp only [maxLen] at hm; omega
  clear hrd hn hw hA hc hm
  go_enter Try.func6, Try.ntmps6
  go_wp2
  go_loopw [3, 12] (fun u t w' => ∃ (i : Nat) (o : ByteArray), i ≤ n ∧ u = .string o ∧ t = .int .i64 i ∧ Hid (TextOf o i) ∧ w' = W) (fun _ t _ => n - (intOf t).toNat)
  case atStart => exact ⟨0, ⟨#[]⟩, Nat.zero_le _, rfl, rfl, Lib.hid ⟨[], rfl, by simp, by simp, by simp⟩, rfl⟩
  case round =>
    obtain ⟨i, o, hi, rfl, rfl, HT, rfl⟩ := hrel
    by_cases hlt : i < n
    · have hix : i < xs.length := by rw [HN.out]; exact hlt
      obtain ⟨ad, rfl, _, hcell⟩ := HA.out (by omega)
      have hc1 := hcell i xs[i] (List.getElem?_eq_getElem hix)
      have hb := bounds_i64 (HW.out xs[i] (List.getElem_mem hix))
      have hos := HT.out.size
      generalize xs[i] = x at *
      have hin : (i : Int) < n := by omega
      have hadd1 : ¬ (9223372036854775807 < o.size + 1) := by omega
      have hcv1 : (convert 21 9 (.int .i32 120)).run Try.prog wr = .ok (.string ⟨#[120]⟩) wr := by kernel_rfl
      have hx1 : sb ⟨#[120]⟩ = encI 120 := by decide +kernel
      have HX1 := Lib.hid hx1
      clear hcell hix hx1
      by_cases h40 : i < 40
      · have h40' : (i : Int) < 40 := by omega
        rcases (by omega : x < 0 ∨ 1114111 < x ∨ (0 ≤ x ∧ x ≤ 1114111 ∧ 55296 ≤ x ∧ x < 57344) ∨ x = 37 ∨ (0 ≤ x ∧ x ≤ 1114111 ∧ ¬ (55296 ≤ x ∧ x < 57344) ∧ x ≠ 37)) with h | h | ⟨h1, h2, h3, h4⟩ | rfl | ⟨h1, h2, h3, h4⟩
        iterate 4
          · go_wp2
            go_roundw
            case rel => exact ⟨i + 1, _, by omega, rfl, by go_num, Lib.hid (HT.out.snoc h40 (by unfold vrune; omega) HX1.out), trivial⟩
            case measure => simp [intOf]; omega
        · obtain ⟨c, rfl⟩ : ∃ c : Nat, x = c := ⟨x.toNat, by omega⟩
          have hen : sb (Utf8.encode (c : Int)) = encI c := sb_encode c
          have hel : (Utf8.encode (c : Int)).size ≤ 4 := by rw [← length_sb, hen]; exact encI_len c
          have hcv : (convert 21 9 (.int .i32 (c : Int))).run Try.prog wr = .ok (.string (Utf8.encode (c : Int))) wr := run_convert_int_string wr _ _ _ _ (by kernel_rfl) Try.underlying9
          generalize Utf8.encode (c : Int) = ec at *
          have hadd : ¬ (9223372036854775807 < o.size + ec.size) := by omega
          have HEN := Lib.hid hen
          have hw32 : IntKind.i32.wrap (c : Int) = c := IntWalk.i32_in _ (by omega)
          have t37 : ((c : Int) == 37) = false := beq_eq_false_iff_ne.2 h4
          have hvr : vrune c ∧ c ≠ 37 := by unfold vrune; omega
          have HVR := Lib.hid hvr
          have g1 : ¬ ((c : Int) < 0) := by omega
          have g2 : ¬ ((1114111 : Int) < c) := by omega
          clear hen hvr hcv1 hel
          by_cases h5 : (55296 : Int) ≤ c
          · have h6 : ¬ ((c : Int) < 57344) := by omega
            clear h3 h4
            go_wp2
            go_roundw
            case rel => exact ⟨i + 1, _, by omega, rfl, by go_num, Lib.hid (HT.out.snoc h40 HVR.out HEN.out), trivial⟩
            case measure => simp [intOf]; omega
          · clear h3 h4
            go_wp2
            go_roundw
            case rel => exact ⟨i + 1, _, by omega, rfl, by go_num, Lib.hid (HT.out.snoc h40 HVR.out HEN.out), trivial⟩
            case measure => simp [intOf]; omega
      · have h40' : ¬ ((i : Int) < 40) := by omega
        rcases (by omega : x < 0 ∨ 1114111 < x ∨ (0 ≤ x ∧ x ≤ 1114111 ∧ 55296 ≤ x ∧ x < 57344) ∨ x = 37 ∨ (0 ≤ x ∧ x ≤ 1114111 ∧ x < 55296 ∧ x ≠ 37) ∨ (0 ≤ x ∧ x ≤ 1114111 ∧ 57344 ≤ x ∧ x ≠ 37)) with h | h | ⟨h1, h2, h3, h4⟩ | rfl | ⟨h1, h2, h3, h4⟩ | ⟨h1, h2, h3, h4⟩
        iterate 4
          · go_wp2
            go_roundw
            case rel => exact ⟨i + 1, o, by omega, rfl, by go_num, Lib.hid HT.out.more, trivial⟩
            case measure => simp [intOf]; omega
        iterate 2
          · have t37 : (x == 37) = false := beq_eq_false_iff_ne.2 h4
            clear h4
            go_wp2
            go_roundw
            case rel => exact ⟨i + 1, o, by omega, rfl, by go_num, Lib.hid HT.out.more, trivial⟩
            case measure => simp [intOf]; omega
    · obtain rfl : i = n := by omega
      have hos := HT.out.size
      have hback := HT.out.back
      have HO := Lib.hid (Own.start wr)
      obtain ⟨e, he⟩ : ∃ e, strOfNums (pctE (sb o)) = e := ⟨_, rfl⟩
      have hse : sb e = pctE (sb o) := by rw [← he, sb_str (pctE_byt _)]
      have hes : e.size ≤ 1920 := by have := pctE_size o; rw [he] at this; omega
      have hpl : ∀ x ∈ sb e, 0 ≤ x ∧ x < 128 ∧ plainR x.toNat = true := by rw [hse]; exact pctE_plain _
      have f1 : ∀ w', Own wr w' [] → _ := fun w' h => encode_c h o (by omega)
      have f2 : ∀ w', Own wr w' [] → _ := fun w' h => decode_c h e (by omega)
      have f3 : ∀ w', Own wr w' [] → _ := fun w' h => encode_c h e (by omega)
      have f4 : ∀ w', Own wr w' [] → _ := fun w' h => trim_c h o (by omega)
      have f6 : ∀ w', Own wr w' [] → _ := fun w' h => lower_c h o (by omega)
      obtain ⟨tr, htr⟩ : ∃ tr, strOfNums (trimI (sb o)) = tr := ⟨_, rfl⟩
      obtain ⟨lo, hlo⟩ : ∃ lo, strOfNums (lowL (sb o)) = lo := ⟨_, rfl⟩
      have hstr : sb tr = trimI (sb o) := by rw [← htr, sb_str (fun x hx => byt_sb o x ((trimI_sub _).subset hx))]
      have hslo : sb lo = lowL (sb o) := by rw [← hlo, sb_str (lowL_byt (byt_sb o))]
      have htrs : tr.size ≤ 160 := by rw [← length_sb, hstr]; have := (trimI_sub (sb o)).length_le; rw [length_sb] at this; omega
      have hlos : lo.size ≤ 160 := by rw [← length_sb, hslo, lowL, List.length_map, length_sb]; omega
      have f5 : ∀ w', Own wr w' [] → _ := fun w' h => trim_c h tr (by omega)
      have f7 : ∀ w', Own wr w' [] → _ := fun w' h => lower_c h lo (by omega)
      rw [he] at f1
      rw [hse, hback, Option.getD_some, Option.isSome_some, str_sb] at f2
      rw [hse, pctE_twice, he] at f3
      rw [htr] at f4
      rw [hstr, trimI_twice, htr] at f5
      rw [hlo] at f6
      rw [hslo, lowL_twice, hlo] at f7
      have F1 := Lib.hid f1; have F2 := Lib.hid f2; have F3 := Lib.hid f3; have F4 := Lib.hid f4; have F5 := Lib.hid f5; have F6 := Lib.hid f6; have F7 := Lib.hid f7
      have HPL := Lib.hid hpl
      obtain ⟨m, hm⟩ : ∃ m, e.size = m := ⟨_, rfl⟩
      have HM := Lib.hid hm
      rw [hm] at hes
      clear f1 f2 f3 f4 f5 f6 f7 hpl hse hback he htr hlo hstr hslo htrs hlos hos HT HA HW HN
      go_wp2_with fail
      have hcall := F1.out _ HO.out
      with_reducible refine hcall.mono ?_
      clear hcall
      rintro en w1 ⟨rfl, hO⟩
      have HO1 := Lib.hid hO; clear hO HO
      go_wp2
      clear hm
      go_loopw [7] (fun t w' => ∃ j : Nat, j ≤ m ∧ t = .int .i64 j ∧ w' = w1) (fun t _ => m - (intOf t).toNat)
      case atStart => exact ⟨0, Nat.zero_le _, rfl, rfl⟩
      case round =>
        obtain ⟨j, hj, rfl, rfl⟩ := hrel
        have hm := HM.out
        by_cases hlt2 : j < m
        · have hix := index_sb wr e j (by rw [hm]; exact hlt2)
          have hjx : j < (sb e).length := by rw [length_sb, hm]; exact hlt2
          have hp := HPL.out ((sb e).getD j 0) (by rw [List.getD_eq_getElem?_getD, List.getElem?_eq_getElem hjx, Option.getD_some]; exact List.getElem_mem hjx)
          generalize (sb e).getD j 0 = y at *
          obtain ⟨hy0, hy1, hy2⟩ := hp
          rw [plainR_iff] at hy2
          obtain ⟨q, rfl⟩ : ∃ q : Nat, y = q := ⟨y.toNat, by omega⟩
          rw [Int.toNat_natCast] at hy2
          obtain ⟨y1, y2, y3, y4, y5, y6, y7, y8, y9, y10⟩ := hy2
          have g1 : ¬ ((q : Int) < 33) := by omega
          have g2 : ¬ ((126 : Int) < q) := by omega
          have g3 : ((q : Int) == 34) = false := beq_eq_false_iff_ne.2 (by omega)
          have g4 : ((q : Int) == 35) = false := beq_eq_false_iff_ne.2 (by omega)
          have g5 : ((q : Int) == 60) = false := beq_eq_false_iff_ne.2 (by omega)
          have g6 : ((q : Int) == 62) = false := beq_eq_false_iff_ne.2 (by omega)
          have g7 : ((q : Int) == 63) = false := beq_eq_false_iff_ne.2 (by omega)
          have hjm : (j : Int) < m := by omega
          clear hy0 hy1 y1 y2 y3 y4 y5 y6 y7 y8 y9 y10 hjx
          go_wp2
          go_roundw
          case rel => exact ⟨j + 1, by omega, by go_num, trivial⟩
          case measure => simp [intOf]; omega
        · obtain rfl : j = m := by omega
          go_wp2_with fail
          have hcall := F2.out _ HO1.out
          with_reducible refine hcall.mono ?_
          clear hcall
          rintro en v0 ⟨rfl, hO⟩
          have HP0 := Lib.hid hO; clear hO HO1
          go_wp2_with fail
          have hcall := F3.out _ HP0.out
          with_reducible refine hcall.mono ?_
          clear hcall
          rintro en v1 ⟨rfl, hO⟩
          have HP1 := Lib.hid hO; clear hO HP0
          go_wp2_with fail
          have hcall := F4.out _ HP1.out
          with_reducible refine hcall.mono ?_
          clear hcall
          rintro en v2 ⟨rfl, hO⟩
          have HP2 := Lib.hid hO; clear hO HP1
          go_wp2_with fail
          have hcall := F5.out _ HP2.out
          with_reducible refine hcall.mono ?_
          clear hcall
          rintro en v3 ⟨rfl, hO⟩
          have HP3 := Lib.hid hO; clear hO HP2
          go_wp2_with fail
          have hcall := F4.out _ HP3.out
          with_reducible refine hcall.mono ?_
          clear hcall
          rintro en v4 ⟨rfl, hO⟩
          have HP4 := Lib.hid hO; clear hO HP3
          go_wp2_with fail
          have hcall := F6.out _ HP4.out
          with_reducible refine hcall.mono ?_
          clear hcall
          rintro en v5 ⟨rfl, hO⟩
          have HP5 := Lib.hid hO; clear hO HP4
          go_wp2_with fail
          have hcall := F7.out _ HP5.out
          with_reducible refine hcall.mono ?_
          clear hcall
          rintro en v6 ⟨rfl, hO⟩
          have HP6 := Lib.hid hO; clear hO HP5
          go_wp2_with fail
          have hcall := F6.out _ HP6.out
          with_reducible refine hcall.mono ?_
          clear hcall
          rintro en v7 ⟨rfl, hO⟩
          have HP7 := Lib.hid hO; clear hO HP6
          go_wp2_with fail
          have hcall := wakes6_c HP7.out
          with_reducible refine hcall.mono ?_
          clear hcall
          rintro en v9 ⟨rfl, hO⟩
          have HP9 := Lib.hid hO; clear hO HP7
          go_wp2
          go_ret
          exact HP9.out.yes rfl
set_option maxRecDepth 100000 in
theorem pctBack_lifted (os : Os) (started : os.Started) (H : Type) (enc : TypeId × Value → H) :
    ReturnsInHanded {} Try.checked os 6 .any (Rows.pctBackSpec.pre6 enc Try.prog Try.f6 Rows.pctBackRow.domain false) (Rows.pctBackSpec.post enc Try.prog Try.f6 false true false false) := by
  refine returnsInHanded_of_change (C := Try.checked) (by kernel_rfl) started (by kernel_rfl) Try.func6
    (ChangeSpec.witness6 (enc := enc) (C := Try.checked) false ⟨#[], #[.slice none 0 0], []⟩ 8 (by kernel_rfl) (by kernel_rfl) (by kernel_rfl) (by kernel_rfl)) ?_
  intro W base args ds gs before hval0 hW hcnd _
  have hval : ∀ (j : Nat) t v, Try.f6.params[j]? = some t → args[j]? = some v → Value.okWide Try.prog W .any base t v := hval0
  have hW' := hW
  obtain ⟨p, q, hA0, hV, rfl, hfz, hnd⟩ := hW
  have hA : DataW.TrodAll enc Try.prog W 0 (fun _ => true) true Try.f6.params.toList args.toList ds p := hA0
  rw [Try.params6] at hA hval
  obtain ⟨v0, vs0, d0, ds0, p0, q0, hargs, rfl, rfl, h0, r0⟩ := trodAll_cons hA
  obtain ⟨rfl, rfl, rfl⟩ := trodAll_nil r0
  obtain rfl : args = #[v0] := by cases args; simp_all
  obtain ⟨rfl, rfl⟩ := trodVars_none hV
  obtain ⟨b0, len0, cap0, rfl⟩ := okWide_slice Try.underlying32 (hval 0 32 v0 rfl rfl)
  have k0 := h0
  have lt0 : ∀ x ∈ p0, x.block < W.heap.size := by obtain ⟨m, hm⟩ := k0; exact DataW.trod_lt m _ _ _ hm
  obtain ⟨a0, w0⟩ : ∃ xs, InRow .i64 W (.slice b0 len0 cap0) xs := by
    obtain ⟨fuel, hf⟩ := h0
    rcases open_ints Try.underlying32 Try.underlying3 (by kernel_rfl) hf with ⟨hcs, _⟩ | ⟨x, l, c, zs, hcs, _, hl, hm, hz, _, hcell, hwz⟩
    · simp [Value.cells] at hcs
      obtain ⟨rfl, rfl, rfl⟩ := hcs
      exact ⟨[], inRow_nil _ _⟩
    · simp [Value.cells] at hcs
      obtain ⟨rfl, rfl, rfl⟩ := hcs
      exact ⟨zs.take len0, inRow_mk hl hm (by simpa using hz) hcell hwz⟩
  clear hA0 hval0
  refine (pctBack_walk _ a0 w0).mono fun e W' ⟨he, bel⟩ => ?_
  subst he
  exact ⟨_, rfl, _, _, _, [], _, [], hW', trodAll_mk1 (shut_bool Try.underlying4 _), (trodAll_cons_mk (Below.trod laidOut (by kernel_rfl) (of_decide_eq_true (by kernel_rfl)) k0 bel lt0) trodAll_mk0), rfl, bel.frame _, fun h => by cases h⟩

/-- The statement. -/
theorem pctBack_proved : Rows.PctBackSaid :=
  OpenClaim.holds_of_wide 6 Try.f6 rfl rfl rfl rfl rfl rfl rfl ⟨rfl, rfl, rfl, rfl, rfl⟩ rfl rfl rfl rfl rfl (by kernel_rfl) Try.func6 (by kernel_rfl)
    (of_decide_eq_true (by kernel_rfl)) (by unfold Func.isWrapper; first | (rw [if_pos (by decide +kernel)]; kernel_rfl) | (rw [if_neg (by decide +kernel)]; exact ⟨rfl, rfl⟩))
    (fun os started H enc _ => pctBack_lifted os started H enc)
end Go.Proofs.Ythhijngddlmkpaa
