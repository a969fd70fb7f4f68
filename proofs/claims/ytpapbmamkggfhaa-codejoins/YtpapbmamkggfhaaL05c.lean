/-
  CodeJoins: for all numbers and texts, values one behind the other are encoded as each alone, one behind the other; unlike ones have unlike bytes.
  Conditions: none but the statement's own.
-/
import Derived.Test.YtpapbmamkggfhaaL05a
import Derived.Deep.DeepCutAuto
import Derived.Stop.Asserts
namespace Go.Proofs.Ytpapbmamkggfhaa
set_option linter.unusedVariables false
set_option linter.unusedSimpArgs false
set_option maxRecDepth 20000
open Go.ChangeShapes Go.WideShapes Go.ChangeAt Go.RowKit
open Go.ChangeMaps (open_string shut_string)

theorem str_eq (c d : ByteArray) : (c == d) = true ↔ AV.s c = AV.s d := by
  rw [AV.s.injEq]
  obtain ⟨x⟩ := c
  obtain ⟨y⟩ := d
  have h : ((ByteArray.mk x == ByteArray.mk y) : Bool) = (x == y) := by first | rfl | simp [BEq.beq]
  rw [h, beq_iff_eq, ByteArray.mk.injEq]
theorem eq_av (W : World) {a b : AV} (ha : a.plain) (hb : b.plain) : ∃ r : Bool, (r = true ↔ a = b) ∧ (binOp .eql 20 a.val b.val).run Try.prog W = .ok (.bool r) W ∧ (eqGuard .eql 20 (.tmp 81) (.tmp 85) a.val b.val).run Try.prog W = .ok () W := by
  cases a with
  | z => exact ha.elim
  | o _ _ => exact ha.elim
  | i n =>
    cases b with
    | z => exact hb.elim
    | o _ _ => exact hb.elim
    | i m => exact ⟨n == m, by rw [beq_iff_eq, AV.i.injEq], by kernel_rfl, by kernel_rfl⟩
    | s c => exact ⟨false, by simp, run_eql_iface_types _ _ _ _ Try.underlying20 (by decide) W, by kernel_rfl⟩
    | f c => exact ⟨false, by simp, run_eql_iface_types _ _ _ _ Try.underlying20 (by decide) W, by kernel_rfl⟩
  | s n =>
    cases b with
    | z => exact hb.elim
    | o _ _ => exact hb.elim
    | s m => exact ⟨n == m, str_eq n m, by kernel_rfl, by kernel_rfl⟩
    | i c => exact ⟨false, by simp, run_eql_iface_types _ _ _ _ Try.underlying20 (by decide) W, by kernel_rfl⟩
    | f c => exact ⟨false, by simp, run_eql_iface_types _ _ _ _ Try.underlying20 (by decide) W, by kernel_rfl⟩
  | f n =>
    cases b with
    | z => exact hb.elim
    | o _ _ => exact hb.elim
    | f m => exact ⟨n == m, by rw [beq_iff_eq, AV.f.injEq], by kernel_rfl, by kernel_rfl⟩
    | i c => exact ⟨false, by simp, run_eql_iface_types _ _ _ _ Try.underlying20 (by decide) W, by kernel_rfl⟩
    | s c => exact ⟨false, by simp, run_eql_iface_types _ _ _ _ Try.underlying20 (by decide) W, by kernel_rfl⟩
set_option maxHeartbeats 4000000 in
theorem copyB_c {w0 w : World} {R : Blks} {v : Value} {xs : List Int} (hO : Own w0 w R) (hb : Rd w0 R v xs) (hn : xs.length ≤ 1073741824) : Calls Try.prog 18 #[v] w (GotBytes w0 R xs) := by
  have HV := Lib.hid (hb w [] hO); have HO := Lib.hid hO
  clear hb hO
  go_enter Try.func18, Try.ntmps18
  go_wp2_with (refine wl_appendB rfl _ _ rfl (.slice none 0 0) [] (by rfl) (L := []) (R := R) isBytes_nil (by exact HO.out) v xs (by rfl) HV.out (by simp; omega) ?_; intro v2 w2 L2 hr2 hO2; have HR2 := Lib.hid hr2; have HO2 := Lib.hid hO2; clear hr2 hO2 HV HO)
  go_ret
  exact ⟨v2, L2, rfl, HR2.out, HO2.out⟩
def boolOf : Value → Bool
  | .bool b => b
  | _ => false
/-- A round of the comparison: alike so far, or not at all. -/
def JState (vs us : List AV) (j : Nat) (r : Bool) : Prop := (r = true → j ≤ vs.length ∧ vs.length = us.length ∧ vs.take j = us.take j) ∧ (r = false → vs ≠ us)
theorem jstep {vs us : List AV} {j : Nat} (h : JState vs us j true) (hj : j < vs.length) {r : Bool} {a b : AV} (ha : vs[j]? = some a) (hb : us[j]? = some b) (hr : r = true ↔ a = b) : JState vs us (j + 1) r := by
  obtain ⟨h1, h2, h3⟩ := h.1 rfl
  obtain ⟨x1, rfl⟩ := List.getElem?_eq_some_iff.1 ha
  obtain ⟨x2, rfl⟩ := List.getElem?_eq_some_iff.1 hb
  refine ⟨fun e => ⟨hj, h2, take_succ_eq h3 x1 x2 (hr.1 e)⟩, fun e h => ?_⟩
  subst h
  rw [hr.2 rfl] at e
  cases e
theorem jend {vs us : List AV} {j : Nat} {r : Bool} (h : JState vs us j r) (hj : r = true → ¬ j < vs.length) : r = true ↔ vs = us := by
  constructor
  · intro e
    obtain ⟨h1, h2, h3⟩ := h.1 e
    have := hj e
    rwa [List.take_of_length_le (by omega), List.take_of_length_le (by omega)] at h3
  · intro e
    cases r with
    | true => rfl
    | false => exact absurd e (h.2 rfl)
set_option maxHeartbeats 20000000 in
theorem codeJoins_walk {w : World} (v0 : Value) (a0 : List Int) (h0 : InRow .i64 w v0 a0) (v1 : Value) (a1 : List Int) (h1 : InRow .i64 w v1 a1) (a2 : ByteArray) (_ : a2.size ≤ maxLen) (a3 : ByteArray) (_ : a3.size ≤ maxLen) :
    Calls Try.prog 5 #[v0, v1, .string a2, .string a3] w (Yes w) := by
  have HB0 := Lib.hid h0; have HB1 := Lib.hid h1; clear h0 h1
  have HO := Lib.hid (Own.start w)
  go_enter Try.func5, Try.ntmps5
  go_wp2_with fail
  have hcall := ktextN (w := w) a2 100 (by omega) 100 rfl
  with_reducible refine hcall.mono ?_
  clear hcall
  rintro e w' ⟨t0, ht0, rfl, rfl⟩
  go_wp2_with fail
  have hcall := values_c HO.out v0 a0 HB0.out t0 (by omega) 0
  with_reducible refine hcall.mono ?_
  clear hcall
  rintro e w1 ⟨vs0, x0, L0, rfl, hvs, hv, hO1⟩
  obtain ⟨K, hK0, rfl⟩ := hvs.good
  have hok := valsK_ok (by obtain ⟨_, _, _, _, _, _, _, h, _⟩ := HB0.out; exact h) t0 K
  have hpl := valsK_plain a0 t0 K
  have hen := encL_some (valsK_enc a0 (by omega : t0.size ≤ 254) K)
  have hln := length_valsK a0 t0 K
  generalize valsK a0 t0 K = vs0 at *
  subst hln
  obtain ⟨bs0, hbs⟩ := hen
  have HOK0 := Lib.hid hok; have HPL0 := Lib.hid hpl; have HV0 := Lib.hid hv; have HO0 := Lib.hid hO1; have HBS0 := Lib.hid hbs
  clear hvs hok hpl hv hO1 hbs HO HB0
  obtain ⟨A0, c0, rfl⟩ := HV0.out.val
  go_wp2_with fail
  have hcall := ktextN (w := w1) a3 100 (by omega) 100 rfl
  with_reducible refine hcall.mono ?_
  clear hcall
  rintro e w' ⟨t1, ht1, rfl, rfl⟩
  go_wp2_with fail
  have hcall := values_c HO0.out v1 a1 HB1.out t1 (by omega) 0
  with_reducible refine hcall.mono ?_
  clear hcall
  rintro e w2 ⟨vs1, x1, L1, rfl, hvs, hv, hO1⟩
  obtain ⟨K, hK1, rfl⟩ := hvs.good
  have hok := valsK_ok (by obtain ⟨_, _, _, _, _, _, _, h, _⟩ := HB1.out; exact h) t1 K
  have hpl := valsK_plain a1 t1 K
  have hen := encL_some (valsK_enc a1 (by omega : t1.size ≤ 254) K)
  have hln := length_valsK a1 t1 K
  generalize valsK a1 t1 K = vs1 at *
  subst hln
  obtain ⟨bs1, hbs⟩ := hen
  have HOK1 := Lib.hid hok; have HPL1 := Lib.hid hpl; have HV1 := Lib.hid hv; have HO1 := Lib.hid hO1; have HBS1 := Lib.hid hbs
  clear hvs hok hpl hv hO1 hbs HO0 HB1
  obtain ⟨A1, c1, rfl⟩ := HV1.out.val
  go_wp2_with fail
  have hcall := encode_c HO1.out (HV0.out.rdv (sub_there sub_here)) HOK0.out (by omega)
  rw [HBS0.out] at hcall
  with_reducible refine hcall.mono ?_
  clear hcall
  rintro e w3 (⟨bs', y0, M0, ho, rfl, hv, hO2⟩ | ⟨ho, _⟩)
  rotate_left
  · cases ho
  cases ho
  simp only []
  have HY0 := Lib.hid hv; have HE0 := Lib.hid hO2
  clear hv hO2 HO1
  go_wp2_with fail
  have hcall := encode_c HE0.out (HV1.out.rdv (sub_there sub_here)) HOK1.out (by omega)
  rw [HBS1.out] at hcall
  with_reducible refine hcall.mono ?_
  clear hcall
  rintro e w4 (⟨bs', y1, M1, ho, rfl, hv, hO2⟩ | ⟨ho, _⟩)
  rotate_left
  · cases ho
  cases ho
  simp only []
  have HY1 := Lib.hid hv; have HE1 := Lib.hid hO2
  clear hv hO2 HE0
  go_wp2_with (first | (refine wl_appendA rfl _ _ rfl (.slice none 0 0) [] (by rfl) (L := []) isAny_nil (by exact HE1.out) (.slice A0 vs0.length c0) vs0 (by rfl) (vs_sub HV0.out HE1.out (sub_there (sub_there (sub_there sub_here)))) (by simp; omega) ?_; intro z1 w5 N1 hr hO5; have HZ1 := Lib.hid hr; have HF1 := Lib.hid hO5; clear hr hO5 HE1) | (refine wl_appendA rfl _ _ rfl z1 ([] ++ vs0) (by rfl) HZ1.out HF1.out (.slice A1 vs1.length c1) vs1 (by rfl) (vs_sub HV1.out HF1.out (sub_there (sub_there (sub_there sub_here)))) (by simp; omega) ?_; intro z2 w6 N2 hr hO5; have HZ2 := Lib.hid hr; have HF2 := Lib.hid hO5; clear hr hO5 HF1 HZ1))
  have hen : encL ([] ++ vs0 ++ vs1) = some (bs0 ++ bs1) := by rw [List.nil_append, encL_append, HBS0.out, HBS1.out]; rfl
  have HEN := Lib.hid hen; clear hen
  have hcall := encode_c HF2.out (HZ2.out.rdv sub_here) (by intro a ha; simp only [List.nil_append, List.mem_append] at ha; rcases ha with ha | ha; exact HOK0.out a ha; exact HOK1.out a ha) (by simp; omega)
  rw [HEN.out] at hcall
  with_reducible refine hcall.mono ?_
  clear hcall
  rintro e w7 (⟨bs', y2, M2, ho, rfl, hv, hO2⟩ | ⟨ho, _⟩)
  rotate_left
  · cases ho
  cases ho
  simp only []
  have HY2 := Lib.hid hv; have HE2 := Lib.hid hO2
  have hl0 := encL_len HBS0.out
  have hl1 := encL_len HBS1.out
  clear hv hO2 HF2
  go_wp2_with fail
  have hcall := copyB_c HE2.out (HY0.out.rd (sub_there (sub_there (sub_there sub_here)))) (by omega)
  with_reducible refine hcall.mono ?_
  clear hcall
  rintro e w8 ⟨y3, M3, rfl, hv, hO2⟩
  have HY3 := Lib.hid hv; have HE3 := Lib.hid hO2
  clear hv hO2 HE2
  go_wp2_with (refine wl_g (by rfl) ?_; refine wl_appendB rfl _ _ rfl y3 bs0 (by rfl) HY3.out HE3.out y1 bs1 (by rfl) (HY1.out.bs_sub HE3.out (sub_there (sub_there (sub_there sub_here)))) (by omega) ?_; intro y4 w9 M4 hr hO5; have HY4 := Lib.hid hr; have HE4 := Lib.hid hO5; clear hr hO5 HE3 HY3)
  have hcall := same_c (w := w9) y2 y4 (bs0 ++ bs1) (bs0 ++ bs1) (HY2.out.bs_sub HE4.out (sub_there sub_here)) (HY4.out.bs HE4.out) (by simp; omega)
  rw [decide_eq_true rfl] at hcall
  with_reducible refine hcall.mono ?_
  clear hcall
  rintro e w10 ⟨rfl, q, rfl⟩
  have HE5 := Lib.hid (HE4.out.drewN q).right.right.right
  clear HE4 HY4 HY2
  generalize w9.drewN q = w10 at *
  go_wp2
  have HV0' := HV0; have HV1' := HV1
  generalize hn0 : vs0.length = n0 at *
  generalize hn1 : vs1.length = n1 at *
  have HN0 := Lib.hid hn0; have HN1 := Lib.hid hn1
  clear hn0 hn1
  go_loopw [17, 18] (fun s t w' => ∃ (j : Nat) (r : Bool), j ≤ 9 ∧ s = .bool r ∧ t = .int .i64 (j : Int) ∧ Hid (JState vs0 vs1 j r) ∧ Hid (Own w w' (M1 ++ (M0 ++ (L1 ++ (L0 ++ [])))))) (fun s t _ => bif boolOf s then (20 - intOf t).toNat else 0)
  case atStart =>
    refine ⟨0, _, by omega, rfl, rfl, ⟨fun e => ⟨by omega, ?_, by simp⟩, fun e h => ?_⟩, HE5.out⟩
    · have h1 := HN0.out; have h2 := HN1.out; simp only [beq_iff_eq] at e; omega
    · have h1 := HN0.out; have h2 := HN1.out; subst h; rw [← h1, ← h2] at e; simp at e
  case round =>
    obtain ⟨j, r, hj, rfl, rfl, HJ, HW⟩ := hrel
    clear HE5
    by_cases hgo : r = true ∧ j < n0
    · obtain ⟨rfl, hjn⟩ := hgo
      obtain ⟨g1, g2, g3⟩ := HJ.out.1 rfl
      have hj0 : j < vs0.length := by have := HN0.out; omega
      have hj1 : j < vs1.length := by omega
      have hjm : j < n1 := by have := HN1.out; omega
      obtain ⟨A', n', c', e, hn', hc', hA⟩ := vs_sub HV0.out HW.out (sub_there (sub_there (sub_there sub_here)))
      simp only [Value.slice.injEq] at e
      obtain ⟨rfl, rfl, rfl⟩ := e
      obtain ⟨ad, rfl, hcell⟩ := hA (by omega)
      have hca := hcell j vs0[j].val (by rw [List.getElem?_map, List.getElem?_eq_getElem hj0]; rfl)
      clear hcell hA hn' hc'
      obtain ⟨A', n', c', e, hn', hc', hA⟩ := vs_sub HV1.out HW.out (sub_there (sub_there sub_here))
      simp only [Value.slice.injEq] at e
      obtain ⟨rfl, rfl, rfl⟩ := e
      obtain ⟨bd, rfl, hcell⟩ := hA (by omega)
      have hcb := hcell j vs1[j].val (by rw [List.getElem?_map, List.getElem?_eq_getElem hj1]; rfl)
      clear hcell hA hn' hc'
      obtain ⟨r, hr, hrun, hrun2⟩ := eq_av wr.drew (HPL0.out _ (List.getElem_mem hj0)) (HPL1.out _ (List.getElem_mem hj1))
      have HS := Lib.hid (jstep HJ.out hj0 (List.getElem?_eq_getElem hj0) (List.getElem?_eq_getElem hj1) hr)
      generalize vs0[j].val = xa at *
      generalize vs1[j].val = xb at *
      have hja : (j : Int) < n0 := by omega
      have hjb : (j : Int) < n1 := by omega
      clear hr g1 g2 g3 hj0 hj1 HJ
      go_wp2
      refine wp_region_lin (fun w' => w' = wr.drew) 9 [(0, true), (1, true), (2, true), (3, true), (4, true), (5, true), (6, true), (7, true), (8, true)] (by kernel_rfl) (by kernel_rfl) (fun _ _ d _ _ h => by cases d <;> exact h) rfl ?_
      simp only [List.map_cons, List.map_nil, pick_zero, pick_succ, List.drop_succ_cons, List.drop_zero]
      iterate 8 (refine lin_q ?_ rfl ?_ ?_; rotate_left 1; (focus (rintro w' rfl; go_simp; try with_reducible rfl)); simp only [Act.put, List.setIfInBounds_toArray, List.set_cons_zero, List.set_cons_succ])
      refine lin_q (.bool r) rfl ?_ ?_
      · rintro w' rfl
        simp [execOp, Act.eval, hrun, hrun2]
      simp only [Act.put, List.setIfInBounds_toArray, List.set_cons_zero, List.set_cons_succ]
      refine lin_nil ?_
      go_wp2
      go_roundw
      case rel => exact ⟨j + 1, r, by omega, rfl, by go_num, HS.out, HW.out.drew⟩
      case measure => cases r <;> simp [intOf, boolOf] <;> omega
    · have hend := jend HJ.out (fun e h => hgo ⟨e, by have := HN0.out; omega⟩)
      have hdec : (decide (bs0 = bs1) == r) = true := by
        rw [beq_iff_eq]
        cases r with
        | true =>
          have e := hend.1 rfl
          have h1 := HBS0.out
          rw [e, HBS1.out, Option.some.injEq] at h1
          exact decide_eq_true h1.symm
        | false =>
          refine decide_eq_false (fun e => ?_)
          have h1 := HBS0.out
          rw [e] at h1
          have := hend.2 (encL_inj h1 HBS1.out HOK0.out HOK1.out)
          cases this
      have hcall := Lib.hid (same_c (w := wr) y0 y1 bs0 bs1 (HY0.out.bs_sub HW.out (sub_there sub_here)) (HY1.out.bs HW.out) (by omega))
      clear hend
      cases r with
      | true =>
        have hjn : ¬ ((j : Int) < n0) := by have : ¬ j < n0 := fun h => hgo ⟨rfl, h⟩; omega
        clear hgo
        go_wp2_with fail
        with_reducible refine hcall.out.mono ?_
        rintro e w11 ⟨rfl, q, rfl⟩
        go_wp2_with fail
        with_reducible refine (wakes5_c (HW.out.drewN q)).mono ?_
        rintro e w12 ⟨rfl, hO5⟩
        have HO5 := Lib.hid hO5; clear hO5
        go_wp2
        go_ret
        exact HO5.out.yes rfl
      | false =>
        clear hgo
        go_wp2_with fail
        with_reducible refine hcall.out.mono ?_
        rintro e w11 ⟨rfl, q, rfl⟩
        go_wp2_with fail
        with_reducible refine (wakes5_c (HW.out.drewN q)).mono ?_
        rintro e w12 ⟨rfl, hO5⟩
        have HO5 := Lib.hid hO5; clear hO5
        go_wp2
        go_ret
        exact HO5.out.yes rfl
set_option maxRecDepth 100000 in
theorem codeJoins_lifted (os : Os) (started : os.Started) (H : Type) (enc : TypeId × Value → H) :
    ReturnsInHanded {} Try.checked os 5 .any (Rows.codeJoinsSpec.pre6 enc Try.prog Try.f5 Rows.codeJoinsRow.domain false) (Rows.codeJoinsSpec.post enc Try.prog Try.f5 false true false false) := by
  refine returnsInHanded_of_change (C := Try.checked) (by kernel_rfl) started (by kernel_rfl) Try.func5
    (ChangeSpec.witness6 (enc := enc) (C := Try.checked) false ⟨#[], #[.slice none 0 0, .slice none 0 0, .string ByteArray.empty, .string ByteArray.empty], []⟩ 8 (by kernel_rfl) (by kernel_rfl) (by kernel_rfl) (by kernel_rfl)) ?_
  intro W base args ds gs before hval0 hW hcnd _
  have hval : ∀ (j : Nat) t v, Try.f5.params[j]? = some t → args[j]? = some v → Value.okWide Try.prog W .any base t v := hval0
  have hW' := hW
  obtain ⟨p, q, hA0, hV, rfl, hfz, hnd⟩ := hW
  have hA : DataW.TrodAll enc Try.prog W 0 (fun _ => true) true Try.f5.params.toList args.toList ds p := hA0
  rw [Try.params5] at hA hval
  obtain ⟨v0, vs0, d0, ds0, p0, q0, hargs, rfl, rfl, h0, r0⟩ := trodAll_cons hA
  obtain ⟨v1, vs1, d1, ds1, p1, q1, rfl, rfl, rfl, h1, r1⟩ := trodAll_cons r0
  obtain ⟨v2, vs2, d2, ds2, p2, q2, rfl, rfl, rfl, h2, r2⟩ := trodAll_cons r1
  obtain ⟨v3, vs3, d3, ds3, p3, q3, rfl, rfl, rfl, h3, r3⟩ := trodAll_cons r2
  obtain ⟨rfl, rfl, rfl⟩ := trodAll_nil r3
  obtain rfl : args = #[v0, v1, v2, v3] := by cases args; simp_all
  obtain ⟨rfl, rfl⟩ := trodVars_none hV
  obtain ⟨b0, len0, cap0, rfl⟩ := okWide_slice Try.underlying37 (hval 0 37 v0 rfl rfl)
  have k0 := h0
  have lt0 : ∀ x ∈ p0, x.block < W.heap.size := by obtain ⟨m, hm⟩ := k0; exact DataW.trod_lt m _ _ _ hm
  obtain ⟨a0, w0⟩ : ∃ xs, InRow .i64 W (.slice b0 len0 cap0) xs := by
    obtain ⟨fuel, hf⟩ := h0
    rcases open_ints Try.underlying37 Try.underlying3 (by kernel_rfl) hf with ⟨hcs, _⟩ | ⟨x, l, c, zs, hcs, _, hl, hm, hz, _, hcell, hwz⟩
    · simp [Value.cells] at hcs
      obtain ⟨rfl, rfl, rfl⟩ := hcs
      exact ⟨[], inRow_nil _ _⟩
    · simp [Value.cells] at hcs
      obtain ⟨rfl, rfl, rfl⟩ := hcs
      exact ⟨zs.take len0, inRow_mk hl hm (by simpa using hz) hcell hwz⟩
  obtain ⟨b1, len1, cap1, rfl⟩ := okWide_slice Try.underlying37 (hval 1 37 v1 rfl rfl)
  have k1 := h1
  have lt1 : ∀ x ∈ p1, x.block < W.heap.size := by obtain ⟨m, hm⟩ := k1; exact DataW.trod_lt m _ _ _ hm
  obtain ⟨a1, w1⟩ : ∃ xs, InRow .i64 W (.slice b1 len1 cap1) xs := by
    obtain ⟨fuel, hf⟩ := h1
    rcases open_ints Try.underlying37 Try.underlying3 (by kernel_rfl) hf with ⟨hcs, _⟩ | ⟨x, l, c, zs, hcs, _, hl, hm, hz, _, hcell, hwz⟩
    · simp [Value.cells] at hcs
      obtain ⟨rfl, rfl, rfl⟩ := hcs
      exact ⟨[], inRow_nil _ _⟩
    · simp [Value.cells] at hcs
      obtain ⟨rfl, rfl, rfl⟩ := hcs
      exact ⟨zs.take len1, inRow_mk hl hm (by simpa using hz) hcell hwz⟩
  obtain ⟨a2, rfl, rfl, rfl, w2⟩ := open_string Try.underlying9 (hval 2 9 v2 rfl rfl) h2
  obtain ⟨a3, rfl, rfl, rfl, w3⟩ := open_string Try.underlying9 (hval 3 9 v3 rfl rfl) h3
  clear hA0 hval0
  refine (codeJoins_walk _ a0 w0 _ a1 w1 a2 w2 a3 w3).mono fun e W' ⟨he, bel⟩ => ?_
  subst he
  exact ⟨_, rfl, _, _, _, [], _, [], hW', trodAll_mk1 (shut_bool Try.underlying4 _), (trodAll_cons_mk (Below.trod laidOut (by kernel_rfl) (of_decide_eq_true (by kernel_rfl)) k0 bel lt0) (trodAll_cons_mk (Below.trod laidOut (by kernel_rfl) (of_decide_eq_true (by kernel_rfl)) k1 bel lt1) (trodAll_cons_mk (shut_string Try.underlying9 w2) (trodAll_cons_mk (shut_string Try.underlying9 w3) trodAll_mk0)))), rfl, bel.frame _, fun h => by cases h⟩

/-- The statement. -/
theorem codeJoins_proved : Rows.CodeJoinsSaid :=
  OpenClaim.holds_of_wide 5 Try.f5 rfl rfl rfl rfl rfl rfl rfl ⟨rfl, rfl, rfl, rfl, rfl⟩ rfl rfl rfl rfl rfl (by kernel_rfl) Try.func5 (by kernel_rfl)
    (of_decide_eq_true (by kernel_rfl)) (by unfold Func.isWrapper; first | (rw [if_pos (by decide +kernel)]; kernel_rfl) | (rw [if_neg (by decide +kernel)]; exact ⟨rfl, rfl⟩))
    (fun os started H enc _ => codeJoins_lifted os started H enc)
end Go.Proofs.Ytpapbmamkggfhaa

