/-
  PctParts: any two texts of at most 1,048,576 letters in all: what is UTF-8 of them, put in a row, is encoded part by part, and as the texts themselves; small letters are made part by part.
  Conditions: the statement's own bound (the arguments hold together at most 1,048,576 values and letters).
-/
import Derived.Test.YthhijngddlmkpaaL06a
import Derived.JoinedCond
namespace Go.Proofs.Ythhijngddlmkpaa
set_option linter.unusedVariables false
set_option linter.unusedSimpArgs false
set_option maxRecDepth 20000
open Go.ChangeShapes Go.WideShapes Go.ChangeAt Go.RowKit
open Go.ChangeMaps (open_string shut_string)

theorem clean_drop {l : List Int} {pos : Nat} (h : pos < l.length) : clean (l.drop pos) = encI (decI (l.drop pos)).1 ++ clean (l.drop (pos + (decI (l.drop pos)).2)) := by
  unfold clean
  rw [runes_step (by intro e; have := congrArg List.length e; simp at this; omega), List.flatMap_cons, List.drop_drop]
theorem clean_len (l : List Int) : (clean l).length ≤ 4 * l.length := by
  have h1 := flatMap_len encI 4 encI_len (runes l)
  have h2 := runes_len l
  have h3 : 4 * (runes l).length ≤ 4 * l.length := Nat.mul_le_mul_left 4 h2
  exact Nat.le_trans h1 h3
theorem clean_byt (l : List Int) : Byt (clean l) := by
  intro x hx
  rw [clean, List.mem_flatMap] at hx
  obtain ⟨c, _, hx⟩ := hx
  exact encI_byt c x hx
theorem str_append (x y : List Int) : strOfNums (x ++ y) = strOfNums x ++ strOfNums y := by
  apply ba_ext
  simp [strOfNums_data]
theorem pctE_of_clean (l : List Int) : pctE (clean l) = pctE l := by
  have := pctE_clean l []
  rw [List.append_nil] at this
  rw [this]
  show pctE l ++ [] = pctE l
  simp
set_option maxHeartbeats 8000000 in
theorem pctParts_walk (s : ByteArray) (hs : s.size ≤ 1048576) (t : ByteArray) (ht : t.size ≤ 1048576) {W : World} : Calls Try.prog 4 #[.string s, .string t] W (Yes W) := by
  have HO := Lib.hid (Own.start W)
  go_enter Try.func4, Try.ntmps4
  go_wp2_with (refine wl_rangeS rfl _ _ rfl (by rfl) HO.out s (by rfl) ?_; intro r1 w1 hO1; have HO1s := Lib.hid hO1; clear hO1 HO)
  simp only [Act.put, List.setIfInBounds_toArray, List.set_cons_zero, List.set_cons_succ]
  go_loopw [5] (fun u w' => ∃ pos o, pos ≤ s.size ∧ u = .string o ∧ Hid (clean (sb s) = sb o ++ clean ((sb s).drop pos)) ∧ Hid (Own W w' ((r1, .stringIter s pos) :: []))) (fun _ w' => leftOf w' r1)
  case atStart => exact ⟨0, ⟨#[]⟩, Nat.zero_le _, rfl, Lib.hid (by rw [sb_empty]; simp), HO1s.out.left (A := [_])⟩
  case round =>
    obtain ⟨pos, o, hpos, rfl, HE, HO2⟩ := hrel
    clear HO1s
    by_cases hlt : pos < s.size
    · have hlt' : pos < (sb s).length := by rw [length_sb]; exact hlt
      have hst := clean_drop hlt'
      have hfit := dec_fits hlt'
      rw [length_sb] at hfit
      have hval := decI_valid ((sb s).drop pos)
      have hge := decI_pos ((sb s).drop pos)
      have hlen : o.size ≤ 4194304 := by
        have h1 := clean_len (sb s)
        rw [HE.out, List.length_append, length_sb, length_sb] at h1
        omega
      have hit := Lib.hid (HO2.out.heap (.head _))
      obtain ⟨c, hc⟩ : ∃ c, (decI ((sb s).drop pos)).1 = c := ⟨_, rfl⟩
      obtain ⟨k, hk⟩ : ∃ k, (decI ((sb s).drop pos)).2 = k := ⟨_, rfl⟩
      rw [hc] at hst hval
      rw [hk] at hst hfit hge
      have hen : sb (Utf8.encode (c : Int)) = encI c := sb_encode c
      have hel : (Utf8.encode (c : Int)).size ≤ 4 := by rw [← length_sb, hen]; exact encI_len c
      have hcv : ∀ w' : World, (convert 21 9 (.int .i32 (c : Int))).run Try.prog w' = .ok (.string (Utf8.encode (c : Int))) w' := fun w' => run_convert_int_string w' _ _ _ _ (by kernel_rfl) Try.underlying9
      generalize Utf8.encode (c : Int) = ec at *
      have hadd : ¬ (9223372036854775807 < o.size + ec.size) := by omega
      have HC := Lib.hid hc; have HK := Lib.hid hk; have HST := Lib.hid hst; have HEN := Lib.hid hen; have HCV := Lib.hid hcv
      clear hc hk hst hval hen hel hcv hlen hlt'
      go_wp2_with (refine wl_nextS rfl _ rfl HO2.out 0 r1 s pos rfl hlt (by rfl) ?_; intro w3 hO3; rw [HK.out] at hO3; rw [HC.out]; have HO3 := Lib.hid hO3; have hcv3 := HCV.out w3; clear hO3 HO2)
      go_roundw
      case rel => exact ⟨pos + k, o ++ ec, by omega, rfl, Lib.hid (by rw [sb_append, HEN.out, HE.out, HST.out, List.append_assoc]), HO3.out⟩
      case measure => rw [leftOf_eq (HO3.out.heap (.head _)), leftOf_eq hit.out]; omega
    · have hpe : pos = s.size := by omega
      subst hpe
      have hd : (sb s).drop s.size = [] := List.drop_eq_nil_of_le (by rw [length_sb]; exact Nat.le_refl _)
      have he : o = strOfNums (clean (sb s)) := by
        rw [HE.out, hd]
        show o = strOfNums (sb o ++ [])
        rw [List.append_nil, str_sb]
      have hol : o.size ≤ 4194304 := by
        have h1 := clean_len (sb s)
        rw [he, strOfNums_size]
        rw [length_sb] at h1
        omega
      have HEQs := Lib.hid he
      have HOLs := Lib.hid hol
      clear HE hd he hlt hol
      go_wp2_with (first | (refine wl_nextS_end rfl _ rfl HO2.out 0 r1 s s.size rfl (by omega) (by rfl) ?_; have HOs := Lib.hid (Own.right (A := [_]) HO2.out); clear HO2) | (refine wl_rangeS rfl _ _ rfl (by rfl) HOs.out t (by rfl) ?_; intro r2 w2 hO1; have HO1t := Lib.hid hO1; clear hO1 HOs))
      simp only [Act.put, List.setIfInBounds_toArray, List.set_cons_zero, List.set_cons_succ]
      go_loopw [8] (fun u w' => ∃ pos o, pos ≤ t.size ∧ u = .string o ∧ Hid (clean (sb t) = sb o ++ clean ((sb t).drop pos)) ∧ Hid (Own W w' ((r2, .stringIter t pos) :: []))) (fun _ w' => leftOf w' r2)
      case atStart => exact ⟨0, ⟨#[]⟩, Nat.zero_le _, rfl, Lib.hid (by rw [sb_empty]; simp), HO1t.out.left (A := [_])⟩
      case round =>
        obtain ⟨pos2, o2, hpos, rfl, HE, HO2⟩ := hrel
        clear HO1t
        by_cases hlt : pos2 < t.size
        · have hlt' : pos2 < (sb t).length := by rw [length_sb]; exact hlt
          have hst := clean_drop hlt'
          have hfit := dec_fits hlt'
          rw [length_sb] at hfit
          have hval := decI_valid ((sb t).drop pos2)
          have hge := decI_pos ((sb t).drop pos2)
          have hlen : o2.size ≤ 4194304 := by
            have h1 := clean_len (sb t)
            rw [HE.out, List.length_append, length_sb, length_sb] at h1
            omega
          have hit := Lib.hid (HO2.out.heap (.head _))
          obtain ⟨c, hc⟩ : ∃ c, (decI ((sb t).drop pos2)).1 = c := ⟨_, rfl⟩
          obtain ⟨k, hk⟩ : ∃ k, (decI ((sb t).drop pos2)).2 = k := ⟨_, rfl⟩
          rw [hc] at hst hval
          rw [hk] at hst hfit hge
          have hen : sb (Utf8.encode (c : Int)) = encI c := sb_encode c
          have hel : (Utf8.encode (c : Int)).size ≤ 4 := by rw [← length_sb, hen]; exact encI_len c
          have hcv : ∀ w' : World, (convert 21 9 (.int .i32 (c : Int))).run Try.prog w' = .ok (.string (Utf8.encode (c : Int))) w' := fun w' => run_convert_int_string w' _ _ _ _ (by kernel_rfl) Try.underlying9
          generalize Utf8.encode (c : Int) = ec at *
          have hadd : ¬ (9223372036854775807 < o2.size + ec.size) := by omega
          have HC := Lib.hid hc; have HK := Lib.hid hk; have HST := Lib.hid hst; have HEN := Lib.hid hen; have HCV := Lib.hid hcv
          clear hc hk hst hval hen hel hcv hlen hlt'
          go_wp2_with (refine wl_nextS rfl _ rfl HO2.out 0 r2 t pos2 rfl hlt (by rfl) ?_; intro w3 hO3; rw [HK.out] at hO3; rw [HC.out]; have HO3 := Lib.hid hO3; have hcv3 := HCV.out w3; clear hO3 HO2)
          go_roundw
          case rel => exact ⟨pos2 + k, o2 ++ ec, by omega, rfl, Lib.hid (by rw [sb_append, HEN.out, HE.out, HST.out, List.append_assoc]), HO3.out⟩
          case measure => rw [leftOf_eq (HO3.out.heap (.head _)), leftOf_eq hit.out]; omega
        · have hpe : pos2 = t.size := by omega
          subst hpe
          have hd : (sb t).drop t.size = [] := List.drop_eq_nil_of_le (by rw [length_sb]; exact Nat.le_refl _)
          have he : o2 = strOfNums (clean (sb t)) := by
            rw [HE.out, hd]
            show o2 = strOfNums (sb o2 ++ [])
            rw [List.append_nil, str_sb]
          have hol : o2.size ≤ 4194304 := by
            have h1 := clean_len (sb t)
            rw [he, strOfNums_size]
            rw [length_sb] at h1
            omega
          have HEQt := Lib.hid he
          have HOLt := Lib.hid hol
          clear HE hd he hlt hol
          have hab : ¬ (9223372036854775807 < o.size + o2.size) := by have := HOLs.out; have := HOLt.out; omega
          have hst0 : ¬ (9223372036854775807 < s.size + t.size) := by omega
          have hes := pctE_size s
          have het := pctE_size t
          have hl : strOfNums (lowL (sb (s ++ t))) = strOfNums (lowL (sb s)) ++ strOfNums (lowL (sb t)) := by rw [sb_append, lowL_append, str_append]
          have ha : strOfNums (pctE (sb o)) = strOfNums (pctE (sb s)) := by rw [HEQs.out, sb_str (clean_byt _), pctE_of_clean]
          have hb : strOfNums (pctE (sb o2)) = strOfNums (pctE (sb t)) := by rw [HEQt.out, sb_str (clean_byt _), pctE_of_clean]
          have hc : strOfNums (pctE (sb (o ++ o2))) = strOfNums (pctE (sb s)) ++ strOfNums (pctE (sb t)) := by
            rw [sb_append, HEQs.out, HEQt.out, sb_str (clean_byt _), sb_str (clean_byt _), pctE_clean, pctE_of_clean, str_append]
          have hls : (strOfNums (lowL (sb s))).size = s.size := by rw [strOfNums_size, lowL, List.length_map, length_sb]
          have hlt2 : (strOfNums (lowL (sb t))).size = t.size := by rw [strOfNums_size, lowL, List.length_map, length_sb]
          have hoo : (o ++ o2).size ≤ 80000000 := by rw [ByteArray.size_append]; have := HOLs.out; have := HOLt.out; omega
          have hso : o.size ≤ 80000000 := by have := HOLs.out; omega
          have hso2 : o2.size ≤ 80000000 := by have := HOLt.out; omega
          have hss : (s ++ t).size ≤ 1073741824 := by rw [ByteArray.size_append]; omega
          have f1 : ∀ w', Own W w' [] → _ := fun w' h => encode_c h (o ++ o2) hoo
          have f2 : ∀ w', Own W w' [] → _ := fun w' h => encode_c h o hso
          have f3 : ∀ w', Own W w' [] → _ := fun w' h => encode_c h o2 hso2
          have f4 : ∀ w', Own W w' [] → _ := fun w' h => encode_c h s (by omega)
          have f5 : ∀ w', Own W w' [] → _ := fun w' h => lower_c h (s ++ t) hss
          have f6 : ∀ w', Own W w' [] → _ := fun w' h => lower_c h s (by omega)
          have f7 : ∀ w', Own W w' [] → _ := fun w' h => lower_c h t (by omega)
          rw [hc] at f1
          rw [ha] at f2
          rw [hb] at f3
          rw [hl] at f5
          generalize strOfNums (pctE (sb s)) = e1 at *
          generalize strOfNums (pctE (sb t)) = e2 at *
          generalize strOfNums (lowL (sb s)) = l1 at *
          generalize strOfNums (lowL (sb t)) = l2 at *
          have hee : ¬ (9223372036854775807 < e1.size + e2.size) := by omega
          have hll : ¬ (9223372036854775807 < l1.size + l2.size) := by omega
          have F1 := Lib.hid f1; have F2 := Lib.hid f2; have F3 := Lib.hid f3; have F4 := Lib.hid f4; have F5 := Lib.hid f5; have F6 := Lib.hid f6; have F7 := Lib.hid f7
          clear f1 f2 f3 f4 f5 f6 f7 ha hb hc hl hes het hls hlt2 hoo hso hso2 hss HEQs HEQt HOLs HOLt hs ht
          have htl : ((e1 ++ e2).toList == (e1 ++ e2).toList) = true := by simp
          go_wp2_with (refine wl_nextS_end rfl _ rfl HO2.out 0 r2 t t.size rfl (by omega) (by rfl) ?_; have HOt := Lib.hid (Own.right (A := [_]) HO2.out); clear HO2)
          have hcall := F1.out _ HOt.out
          with_reducible refine hcall.mono ?_
          clear hcall
          rintro e v0 ⟨rfl, hO⟩
          have HP0 := Lib.hid hO; clear hO HOt
          go_wp2_with fail
          have hcall := F2.out _ HP0.out
          with_reducible refine hcall.mono ?_
          clear hcall
          rintro e v1 ⟨rfl, hO⟩
          have HP1 := Lib.hid hO; clear hO HP0
          go_wp2_with fail
          have hcall := F3.out _ HP1.out
          with_reducible refine hcall.mono ?_
          clear hcall
          rintro e v2 ⟨rfl, hO⟩
          have HP2 := Lib.hid hO; clear hO HP1
          go_wp2_with fail
          have hcall := F2.out _ HP2.out
          with_reducible refine hcall.mono ?_
          clear hcall
          rintro e v3 ⟨rfl, hO⟩
          have HP3 := Lib.hid hO; clear hO HP2
          go_wp2_with fail
          have hcall := F4.out _ HP3.out
          with_reducible refine hcall.mono ?_
          clear hcall
          rintro e v4 ⟨rfl, hO⟩
          have HP4 := Lib.hid hO; clear hO HP3
          go_wp2_with fail
          have hcall := F5.out _ HP4.out
          with_reducible refine hcall.mono ?_
          clear hcall
          rintro e v5 ⟨rfl, hO⟩
          have HP5 := Lib.hid hO; clear hO HP4
          go_wp2_with fail
          have hcall := F6.out _ HP5.out
          with_reducible refine hcall.mono ?_
          clear hcall
          rintro e v6 ⟨rfl, hO⟩
          have HP6 := Lib.hid hO; clear hO HP5
          go_wp2_with fail
          have hcall := F7.out _ HP6.out
          with_reducible refine hcall.mono ?_
          clear hcall
          rintro e v7 ⟨rfl, hO⟩
          have HP7 := Lib.hid hO; clear hO HP6
          go_wp2_with fail
          have hcall := wakes6_c HP7.out
          with_reducible refine hcall.mono ?_
          clear hcall
          rintro e v8 ⟨rfl, hO⟩
          have HP8 := Lib.hid hO; clear hO HP7
          go_wp2
          go_ret
          exact HP8.out.yes rfl
set_option maxRecDepth 100000 in
theorem pctParts_contract (H : Type) (enc : TypeId × Value → H) (W : World) (base : Nat) (args : Array Value) (ds gs : List (DataW H)) (before : List MemPlace)
    (hval : ∀ (j : Nat) t v, Try.f4.params[j]? = some t → args[j]? = some v → Value.okWide Try.prog W .any base t v)
    (hW : DataW.Whole enc Try.prog Try.f4.params.toList Rows.pctPartsSpec.vars false W args.toList ds gs before) (hk : Rows.uptoSmall H (ds ++ gs) = true) :
    Calls Try.prog 4 args W fun e W' => ∃ v, e = .returned v ∧ Rows.pctPartsSpec.post enc Try.prog Try.f4 false true false false W args v W' := by
  have hW' := hW
  obtain ⟨p, q, hA0, hV, rfl, hfz, hnd⟩ := hW
  have hA : DataW.TrodAll enc Try.prog W 0 (fun _ => true) true Try.f4.params.toList args.toList ds p := hA0
  rw [Try.params4] at hA hval
  obtain ⟨v0, vs0, d0, ds0, p0, q0, hargs, rfl, rfl, h0, r0⟩ := trodAll_cons hA
  obtain ⟨v1, vs1, d1, ds1, p1, q1, rfl, rfl, rfl, h1, r1⟩ := trodAll_cons r0
  obtain ⟨rfl, rfl, rfl⟩ := trodAll_nil r1
  obtain rfl : args = #[v0, v1] := by cases args; simp_all
  obtain ⟨rfl, rfl⟩ := trodVars_none hV
  obtain ⟨a0, rfl, rfl, rfl, w0⟩ := open_string Try.underlying9 (hval 0 9 v0 rfl rfl) h0
  obtain ⟨a1, rfl, rfl, rfl, w1⟩ := open_string Try.underlying9 (hval 1 9 v1 rfl rfl) h1
  have z0 : a0.size ≤ 1048576 := by
    have hb : _ ≤ 1048576 := of_decide_eq_true hk
    simp only [List.append_nil, List.cons_append, List.nil_append, Rows.uptoBulkAll, Rows.uptoBulk] at hb
    have e : a0.data.toList.length = a0.size := by simp
    omega
  have z1 : a1.size ≤ 1048576 := by
    have hb : _ ≤ 1048576 := of_decide_eq_true hk
    simp only [List.append_nil, List.cons_append, List.nil_append, Rows.uptoBulkAll, Rows.uptoBulk] at hb
    have e : a1.data.toList.length = a1.size := by simp
    omega
  clear hA0
  refine (pctParts_walk a0 z0 a1 z1).mono fun e W' ⟨he, bel⟩ => ?_
  subst he
  exact ⟨_, rfl, _, _, _, [], _, [], hW', trodAll_mk1 (shut_bool Try.underlying4 _), (trodAll_cons_mk (shut_string Try.underlying9 w0) (trodAll_cons_mk (shut_string Try.underlying9 w1) trodAll_mk0)), rfl, bel.frame _, fun h => by cases h⟩

set_option maxRecDepth 100000 in
theorem pctParts_lifted (os : Os) (started : os.Started) (H : Type) (enc : TypeId × Value → H) (F : Stop.Interp) :
    ReturnsInHanded {} Try.checked os 4 .any ((Rows.OpenSpec.upto Rows.pctPartsSpec).pre6 enc Try.prog Try.f4 Rows.pctPartsUptoRow.domain false) (((Rows.OpenSpec.upto Rows.pctPartsSpec).at F).post enc Try.prog Try.f4 false true false false) := by
  refine returnsInHanded_of_cond (C := Try.checked) (s := Rows.OpenSpec.upto Rows.pctPartsSpec) (k := Rows.uptoSmall) rfl (by kernel_rfl) started (by kernel_rfl) Try.func4
    (OpenSpec.witness (enc := enc) (C := Try.checked) (s := Rows.OpenSpec.upto Rows.pctPartsSpec) (k := Rows.uptoSmall) rfl false ⟨#[], #[.string .empty, .string .empty], []⟩ 8 (by kernel_rfl) (by kernel_rfl) (by kernel_rfl)
      (x := ([.lit (.string []), .lit (.string [])], [], [])) (by kernel_rfl) rfl (by kernel_rfl)) ?_
  intro W base args ds gs before hval hW _ hk _
  exact pctParts_contract H enc W base args ds gs before hval hW hk

/-- The statement. -/
theorem pctParts_proved : Rows.PctPartsUptoSaid :=
  OpenClaim.holds_of_cond 4 Try.f4 rfl rfl rfl rfl rfl rfl rfl ⟨rfl, rfl, rfl, rfl, rfl⟩ rfl rfl rfl rfl rfl (by kernel_rfl) Try.func4 (by kernel_rfl)
    (of_decide_eq_true (by kernel_rfl)) (by unfold Func.isWrapper; first | (rw [if_pos (by decide +kernel)]; kernel_rfl) | (rw [if_neg (by decide +kernel)]; exact ⟨rfl, rfl⟩))
    (fun os started H enc _ F => pctParts_lifted os started H enc F)
end Go.Proofs.Ythhijngddlmkpaa
