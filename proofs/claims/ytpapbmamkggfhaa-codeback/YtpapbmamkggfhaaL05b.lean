/-
  CodeBack: for all numbers, any text and any place, the values made of them are decoded as they were encoded, each is told by its own kind alone, also past the end.
  Conditions: none but the statement's own.
-/
import Derived.Test.YtpapbmamkggfhaaL05a
import Derived.Deep.DeepCutAuto
namespace Go.Proofs.Ytpapbmamkggfhaa
set_option linter.unusedVariables false
set_option linter.unusedSimpArgs false
set_option maxRecDepth 20000
open Go.ChangeShapes Go.WideShapes Go.ChangeAt Go.RowKit
open Go.ChangeMaps (open_string shut_string)

theorem at_in {vs : List AV} {k : Int} (h0 : 0 ≤ k) (h1 : k < vs.length) : ∃ a, a ∈ vs ∧ at_ vs k = a ∧ (vs.map AV.val)[k.toNat]? = some a.val := by
  have hl : k.toNat < vs.length := by omega
  refine ⟨vs[k.toNat], List.getElem_mem hl, ?_, ?_⟩
  · unfold at_; rw [if_neg (by omega), List.getD_eq_getElem?_getD, List.getElem?_eq_getElem hl]; rfl
  · rw [List.getElem?_map, List.getElem?_eq_getElem hl]; rfl
theorem at_out {vs : List AV} {k : Int} (h : k < 0 ∨ vs.length ≤ k) : at_ vs k = .z := by
  unfold at_
  split
  · rfl
  · rw [List.getD_eq_getElem?_getD, List.getElem?_eq_none (by omega)]; rfl
set_option maxHeartbeats 20000000 in
theorem codeBack_walk {w : World} (v0 : Value) (a0 : List Int) (h0 : InRow .i64 w v0 a0) (a1 : ByteArray) (_ : a1.size ≤ maxLen) (a2 : Int) (_ : (Lit.int .i64 a2).wf = true) :
    Calls Try.prog 7 #[v0, .string a1, .int .i64 a2] w (Yes w) := by
  have HB0 := Lib.hid h0; clear h0
  have HO := Lib.hid (Own.start w)
  have htext := Lib.hid (ktextN (w := w) a1 200 (by omega) 200 rfl)
  go_enter Try.func7, Try.ntmps7
  go_wp2_with fail
  with_reducible refine htext.out.mono ?_
  clear htext
  rintro e w1 ⟨t, ht, rfl, rfl⟩
  go_wp2_with fail
  have hvals := values_c HO.out v0 a0 HB0.out t (by omega) 0
  with_reducible refine hvals.mono ?_
  clear hvals
  rintro e w1 ⟨vs, v, L, rfl, hvs, hv, hO1⟩
  obtain ⟨K, hK, rfl⟩ := hvs.good
  have hok := valsK_ok (by obtain ⟨_, _, _, _, _, _, _, h, _⟩ := HB0.out; exact h) t K
  have hpl := valsK_plain a0 t K
  have hen := encL_some (valsK_enc a0 (by omega : t.size ≤ 254) K)
  have hln := length_valsK a0 t K
  generalize valsK a0 t K = vs at *
  subst hln
  have HOK := Lib.hid hok; have HPL := Lib.hid hpl; have HV := Lib.hid hv; have HO1 := Lib.hid hO1
  obtain ⟨bs, hbs⟩ := hen
  have HBS := Lib.hid hbs
  clear hvs hok hpl hv hO1 hbs HO HB0
  obtain ⟨A1, c1, rfl⟩ := HV.out.val
  go_wp2_with fail
  have hcall := encode_c HO1.out (HV.out.rdv (by simp)) HOK.out (by omega)
  rw [HBS.out] at hcall
  with_reducible refine hcall.mono ?_
  clear hcall
  rintro e w2 (⟨bs', v2, L2, ho, rfl, hv2, hO2⟩ | ⟨ho, _⟩)
  rotate_left
  · cases ho
  cases ho
  simp only []
  have HV2 := Lib.hid hv2; have HO2 := Lib.hid hO2
  clear hv2 hO2 HO1
  go_wp2_with fail
  have hcall := decode_c HO2.out (HV2.out.rd sub_here) (encL_byt HBS.out) (by have := encL_len HBS.out; omega)
  rw [decL_encL HBS.out HOK.out] at hcall
  with_reducible refine hcall.mono ?_
  clear hcall
  rintro e w3 (⟨us, v3, L3, ho, _, rfl, hv3, hO3⟩ | ⟨ho, _⟩)
  rotate_left
  · cases ho
  cases ho
  simp only []
  have HV3 := Lib.hid hv3; have HO3 := Lib.hid hO3
  clear hv3 hO3 HO2
  obtain ⟨A3, c3, rfl⟩ := HV3.out.val
  have hnn : ((vs.length : Int) == vs.length) = true := by simp
  have HVA := Lib.hid (vs_sub HV.out HO3.out (by simp))
  have HVB := Lib.hid (HV3.out.vs HO3.out)
  generalize hN : vs.length = N at *
  have HN := Lib.hid hN; clear hN
  go_upto_if 50 with fail
  go_cut [2] (fun s2 wx => ∃ k2 : Int, s2 = .int .i64 k2 ∧ w3 = wx)
  case first =>
    by_cases h5 : 0 < a2.tmod 5
    · go_wp2_with fail
      with_reducible refine (within_c a2 (N + 1) (by omega) (by omega)).mono ?_
      rintro e w4 ⟨rfl, rfl⟩
      go_wp2_with fail
      go_meet
      exact ⟨_, rfl, rfl⟩
    · go_wp2_with fail
      go_meet
      exact ⟨_, rfl, rfl⟩
  case rest =>
    obtain ⟨k, rfl, rfl⟩ := hcut
    rcases (by omega : k < 0 ∨ (N : Int) ≤ k ∨ (0 ≤ k ∧ k < N)) with hk | hk | ⟨hk1, hk2⟩
    · have hz := at_out (vs := vs) (k := k) (.inl hk)
      have HZ := Lib.hid hz; clear hz
      go_wp2_with fail
      have hcall := int_c HVB.out HOK.out k
      rw [HZ.out] at hcall
      simp only [AV.int] at hcall
      with_reducible refine hcall.mono ?_
      clear hcall
      rintro e w4 ⟨rfl, rfl⟩
      simp only []
      go_wp2_with fail
      have hcall := text_c HVB.out HOK.out k
      rw [HZ.out] at hcall
      simp only [AV.text] at hcall
      with_reducible refine hcall.mono ?_
      clear hcall
      rintro e w4 ⟨rfl, rfl⟩
      simp only []
      go_wp2_with fail
      have hcall := flag_c HVB.out HOK.out k
      rw [HZ.out] at hcall
      simp only [AV.flag] at hcall
      with_reducible refine hcall.mono ?_
      clear hcall
      rintro e w4 ⟨rfl, rfl⟩
      simp only []
      go_wp2_with fail
      with_reducible refine (wakes5_c HO3.out).mono ?_
      rintro e w5 ⟨rfl, hO5⟩
      have HO5 := Lib.hid hO5; clear hO5 HO3
      go_wp2
      go_ret
      exact HO5.out.yes rfl
    · have hz := at_out (vs := vs) (k := k) (.inr (by have := HN.out; omega))
      have HZ := Lib.hid hz; clear hz
      go_wp2_with fail
      have hcall := int_c HVB.out HOK.out k
      rw [HZ.out] at hcall
      simp only [AV.int] at hcall
      with_reducible refine hcall.mono ?_
      clear hcall
      rintro e w4 ⟨rfl, rfl⟩
      simp only []
      go_wp2_with fail
      have hcall := text_c HVB.out HOK.out k
      rw [HZ.out] at hcall
      simp only [AV.text] at hcall
      with_reducible refine hcall.mono ?_
      clear hcall
      rintro e w4 ⟨rfl, rfl⟩
      simp only []
      go_wp2_with fail
      have hcall := flag_c HVB.out HOK.out k
      rw [HZ.out] at hcall
      simp only [AV.flag] at hcall
      with_reducible refine hcall.mono ?_
      clear hcall
      rintro e w4 ⟨rfl, rfl⟩
      simp only []
      go_wp2_with fail
      with_reducible refine (wakes5_c HO3.out).mono ?_
      rintro e w5 ⟨rfl, hO5⟩
      have HO5 := Lib.hid hO5; clear hO5 HO3
      go_wp2
      go_ret
      exact HO5.out.yes rfl
    · obtain ⟨j, rfl⟩ : ∃ j : Nat, k = j := ⟨k.toNat, by omega⟩
      obtain ⟨a, ha, hat, hcel⟩ := at_in (vs := vs) hk1 (by have := HN.out; omega)
      rw [Int.toNat_natCast] at hcel
      obtain ⟨A', n', c', e, hn', hc', hA⟩ := HVA.out
      simp only [Value.slice.injEq] at e
      obtain ⟨rfl, rfl, rfl⟩ := e
      obtain ⟨ad, rfl, hcell⟩ := hA (by omega)
      have hc1 := hcell j _ hcel
      have hpl := HPL.out a ha
      have HAT := Lib.hid hat
      have hj1 : ¬ ((N : Int) ≤ j) := by omega
      have hj2 : ((j : Int) < N) := by omega
      have hj3 : ¬ ((j : Int) < 0) := by omega
      clear hcell hA hcel ha hat hk1 hn' hc'
      cases a with
      | z => exact hpl.elim
      | o t2 v2 => exact hpl.elim
      | i n =>
        have has := asI_yes w3 (.int .i64 n)
        simp only [AV.val] at hc1
        go_wp2_with fail
        have hcall := int_c HVB.out HOK.out j
        rw [HAT.out] at hcall
        simp only [AV.int] at hcall
        with_reducible refine hcall.mono ?_
        clear hcall
        rintro e w4 ⟨rfl, rfl⟩
        simp only []
        go_wp2_with fail
        have hcall := text_c HVB.out HOK.out j
        rw [HAT.out] at hcall
        simp only [AV.text] at hcall
        with_reducible refine hcall.mono ?_
        clear hcall
        rintro e w4 ⟨rfl, rfl⟩
        simp only []
        go_wp2_with fail
        have hcall := flag_c HVB.out HOK.out j
        rw [HAT.out] at hcall
        simp only [AV.flag] at hcall
        with_reducible refine hcall.mono ?_
        clear hcall
        rintro e w4 ⟨rfl, rfl⟩
        simp only []
        go_wp2_with fail
        with_reducible refine (mustInt_c HVB.out j n HAT.out).mono ?_
        rintro e w4 ⟨rfl, rfl⟩
        go_wp2_with fail
        with_reducible refine (wakes5_c HO3.out).mono ?_
        rintro e w5 ⟨rfl, hO5⟩
        have HO5 := Lib.hid hO5; clear hO5 HO3
        go_wp2
        go_ret
        exact HO5.out.yes rfl
      | s b =>
        have has0 := asI_no w3 9 (.string b) (by decide)
        have has := asS_yes w3 (.string b)
        simp only [AV.val] at hc1
        go_wp2_with fail
        have hcall := int_c HVB.out HOK.out j
        rw [HAT.out] at hcall
        simp only [AV.int] at hcall
        with_reducible refine hcall.mono ?_
        clear hcall
        rintro e w4 ⟨rfl, rfl⟩
        simp only []
        go_wp2_with fail
        have hcall := text_c HVB.out HOK.out j
        rw [HAT.out] at hcall
        simp only [AV.text] at hcall
        with_reducible refine hcall.mono ?_
        clear hcall
        rintro e w4 ⟨rfl, rfl⟩
        simp only []
        go_wp2_with fail
        have hcall := flag_c HVB.out HOK.out j
        rw [HAT.out] at hcall
        simp only [AV.flag] at hcall
        with_reducible refine hcall.mono ?_
        clear hcall
        rintro e w4 ⟨rfl, rfl⟩
        simp only []
        have hbb : (b.toList == b.toList) = true := by simp
        go_wp2_with fail
        with_reducible refine (mustText_c HVB.out j b HAT.out).mono ?_
        rintro e w4 ⟨rfl, rfl⟩
        go_wp2_with fail
        with_reducible refine (wakes5_c HO3.out).mono ?_
        rintro e w5 ⟨rfl, hO5⟩
        have HO5 := Lib.hid hO5; clear hO5 HO3
        go_wp2
        go_ret
        exact HO5.out.yes rfl
      | f b =>
        have has0 := asI_no w3 4 (.bool b) (by decide)
        have has1 := asS_no w3 4 (.bool b) (by decide)
        have has := asB_yes w3 (.bool b)
        simp only [AV.val] at hc1
        go_wp2_with fail
        have hcall := int_c HVB.out HOK.out j
        rw [HAT.out] at hcall
        simp only [AV.int] at hcall
        with_reducible refine hcall.mono ?_
        clear hcall
        rintro e w4 ⟨rfl, rfl⟩
        simp only []
        go_wp2_with fail
        have hcall := text_c HVB.out HOK.out j
        rw [HAT.out] at hcall
        simp only [AV.text] at hcall
        with_reducible refine hcall.mono ?_
        clear hcall
        rintro e w4 ⟨rfl, rfl⟩
        simp only []
        go_wp2_with fail
        have hcall := flag_c HVB.out HOK.out j
        rw [HAT.out] at hcall
        simp only [AV.flag] at hcall
        with_reducible refine hcall.mono ?_
        clear hcall
        rintro e w4 ⟨rfl, rfl⟩
        simp only []
        have hbb : (b == b) = true := by simp
        go_wp2_with fail
        with_reducible refine (wakes5_c HO3.out).mono ?_
        rintro e w5 ⟨rfl, hO5⟩
        have HO5 := Lib.hid hO5; clear hO5 HO3
        go_wp2
        go_ret
        exact HO5.out.yes rfl
set_option maxRecDepth 100000 in
theorem codeBack_lifted (os : Os) (started : os.Started) (H : Type) (enc : TypeId × Value → H) :
    ReturnsInHanded {} Try.checked os 7 .any (Rows.codeBackSpec.pre6 enc Try.prog Try.f7 Rows.codeBackRow.domain false) (Rows.codeBackSpec.post enc Try.prog Try.f7 false true false false) := by
  refine returnsInHanded_of_change (C := Try.checked) (by kernel_rfl) started (by kernel_rfl) Try.func7
    (ChangeSpec.witness6 (enc := enc) (C := Try.checked) false ⟨#[], #[.slice none 0 0, .string ByteArray.empty, .int .i64 0], []⟩ 8 (by kernel_rfl) (by kernel_rfl) (by kernel_rfl) (by kernel_rfl)) ?_
  intro W base args ds gs before hval0 hW hcnd _
  have hval : ∀ (j : Nat) t v, Try.f7.params[j]? = some t → args[j]? = some v → Value.okWide Try.prog W .any base t v := hval0
  have hW' := hW
  obtain ⟨p, q, hA0, hV, rfl, hfz, hnd⟩ := hW
  have hA : DataW.TrodAll enc Try.prog W 0 (fun _ => true) true Try.f7.params.toList args.toList ds p := hA0
  rw [Try.params7] at hA hval
  obtain ⟨v0, vs0, d0, ds0, p0, q0, hargs, rfl, rfl, h0, r0⟩ := trodAll_cons hA
  obtain ⟨v1, vs1, d1, ds1, p1, q1, rfl, rfl, rfl, h1, r1⟩ := trodAll_cons r0
  obtain ⟨v2, vs2, d2, ds2, p2, q2, rfl, rfl, rfl, h2, r2⟩ := trodAll_cons r1
  obtain ⟨rfl, rfl, rfl⟩ := trodAll_nil r2
  obtain rfl : args = #[v0, v1, v2] := by cases args; simp_all
  obtain ⟨rfl, rfl⟩ := trodVars_none hV
  obtain ⟨b0, len0, cap0, rfl⟩ := okWide_slice Try.underlying37 (hval 0 37 v0 rfl rfl)
  have k0 := h0
  have lt0 : ∀ x ∈ p0, x.block < W.heap.size := by obtain ⟨m, hm⟩ := k0; exact DataW.trod_lt m _ _ _ hm
  obtain ⟨a0, w0⟩ : ∃ xs, InRow .i64 W (.slice b0 len0 cap0) xs := by
    obtain ⟨fuel, hf⟩ := h0
    rcases open_ints Try.underlying37 Try.underlying3 (by kernel_rfl) hf with ⟨hcs, _⟩ | ⟨x, l, c, zs, hcs, _, hl, hm, hz, _, hcell, hwz⟩
    · simp [Value.cells] at hcs
      obtain ⟨rfl, rfl, rfl⟩ := hcs
      exact ⟨[], inRow_nil _ _⟩
    · simp [Value.cells] at hcs
      obtain ⟨rfl, rfl, rfl⟩ := hcs
      exact ⟨zs.take len0, inRow_mk hl hm (by simpa using hz) hcell hwz⟩
  obtain ⟨a1, rfl, rfl, rfl, w1⟩ := open_string Try.underlying9 (hval 1 9 v1 rfl rfl) h1
  obtain ⟨a2, rfl, rfl, rfl, w2⟩ := open_int Try.underlying3 (hval 2 3 v2 rfl rfl) h2
  clear hA0 hval0
  refine (codeBack_walk _ a0 w0 a1 w1 a2 w2).mono fun e W' ⟨he, bel⟩ => ?_
  subst he
  exact ⟨_, rfl, _, _, _, [], _, [], hW', trodAll_mk1 (shut_bool Try.underlying4 _), (trodAll_cons_mk (Below.trod laidOut (by kernel_rfl) (of_decide_eq_true (by kernel_rfl)) k0 bel lt0) (trodAll_cons_mk (shut_string Try.underlying9 w1) (trodAll_cons_mk (shut_int Try.underlying3 w2) trodAll_mk0))), rfl, bel.frame _, fun h => by cases h⟩

/-- The statement. -/
theorem codeBack_proved : Rows.CodeBackSaid :=
  OpenClaim.holds_of_wide 7 Try.f7 rfl rfl rfl rfl rfl rfl rfl ⟨rfl, rfl, rfl, rfl, rfl⟩ rfl rfl rfl rfl rfl (by kernel_rfl) Try.func7 (by kernel_rfl)
    (of_decide_eq_true (by kernel_rfl)) (by unfold Func.isWrapper; first | (rw [if_pos (by decide +kernel)]; kernel_rfl) | (rw [if_neg (by decide +kernel)]; exact ⟨rfl, rfl⟩))
    (fun os started H enc _ => codeBack_lifted os started H enc)
end Go.Proofs.Ytpapbmamkggfhaa

