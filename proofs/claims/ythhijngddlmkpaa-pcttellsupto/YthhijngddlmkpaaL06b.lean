/-
  PctTells: any two texts of at most 1,048,576 letters in all, each, both in a row, behind a cut off percent sign, and encoded: encoded, decoded, in small letters, trimmed, as the document's own program has it.
  Conditions: the statement's own bound (the arguments hold together at most 1,048,576 values and letters).
-/
import Derived.Test.YthhijngddlmkpaaL06a
import Derived.Test.YthhijngddlmkpaaPct7
import Derived.Test.YthhijngddlmkpaaPct8
import Derived.Test.YthhijngddlmkpaaPct10
import Derived.JoinedCond
namespace Go.Proofs.Ythhijngddlmkpaa
set_option linter.unusedVariables false
set_option linter.unusedSimpArgs false
set_option maxRecDepth 20000
open Go.ChangeShapes Go.WideShapes Go.ChangeAt Go.RowKit
open Go.ChangeMaps (open_string shut_string)

set_option maxHeartbeats 8000000 in
theorem pctTells_walk (s : ByteArray) (hs : s.size ≤ 1048576) (t : ByteArray) (ht : t.size ≤ 1048576) {W : World} : Calls Try.prog 5 #[.string s, .string t] W (Yes W) := by
  have HO := Lib.hid (Own.start W)
  have hr := rpct_c (Own.start W) s (by omega)
  have hps := pctE_size s
  generalize strOfNums (pctE (sb s)) = p at *
  have HR := Lib.hid hr
  have hn1 : ¬ (9223372036854775807 < s.size + t.size) := by omega
  have hn2 : ¬ (9223372036854775807 < 2 + s.size) := by omega
  have hall : ∀ x ∈ [s, t, s ++ t, (⟨#[37, 52]⟩ : ByteArray) ++ s, p], x.size ≤ 12582912 := by
    have e2 : (⟨#[37, 52]⟩ : ByteArray).size = 2 := rfl
    intro x hx
    simp only [List.mem_cons, List.not_mem_nil, or_false] at hx
    rcases hx with rfl | rfl | rfl | rfl | rfl
    · omega
    · omega
    · rw [ByteArray.size_append]; omega
    · rw [ByteArray.size_append, e2]; omega
    · omega
  have HALL := Lib.hid hall
  clear hr hps hs ht hall
  go_enter Try.func5, Try.ntmps5
  go_wp2_with fail
  with_reducible refine HR.out.mono ?_
  rintro e w1 ⟨rfl, hO1⟩
  have HO1 := Lib.hid hO1; clear hO1 HO HR
  obtain ⟨xs, hxs⟩ : ∃ xs, xs = [s, t, s ++ t, (⟨#[37, 52]⟩ : ByteArray) ++ s, p] := ⟨_, rfl⟩
  have hlen : xs.length = 5 := by rw [hxs]; rfl
  rw [← hxs] at HALL
  have HLEN := Lib.hid hlen; have HXS := Lib.hid hxs
  clear hxs hlen
  go_wp2_with fail
  clear hn1 hn2
  go_loopw [22] (fun v w' => ∃ i : Nat, i ≤ 5 ∧ v = .int .i64 i ∧ Hid (Own W w' [(w1.heap.size, .cells (xs.map Value.string).toArray 9)])) (fun v _ => 5 - (intOf v).toNat)
  case atStart => exact ⟨0, by omega, rfl, by have h := HO1.out.alloc (.cells (xs.map Value.string).toArray 9); rw [HXS.out] at h ⊢; exact h⟩
  case round =>
    obtain ⟨i, hi, rfl, HO3⟩ := hrel
    clear HO1 HXS
    by_cases hlt : i < 5
    · have hix : i < xs.length := by rw [HLEN.out]; exact hlt
      have hcell : wr.cell? ⟨w1.heap.size, i, none⟩ = some (.string xs[i]) := by
        rw [HO3.out.cell (.head _)]; simp [hix]
      have hsz := HALL.out xs[i] (List.getElem_mem hix)
      generalize xs[i] = x at *
      have hi5 : (i : Int) < 5 := by omega
      obtain ⟨d, hd⟩ : ∃ d, strOfNums ((unp (sb x)).getD []) = d := ⟨_, rfl⟩
      obtain ⟨k, hk⟩ : ∃ k, (unp (sb x)).isSome = k := ⟨_, rfl⟩
      obtain ⟨c, hc⟩ : ∃ c, strOfNums (pctE (sb x)) = c := ⟨_, rfl⟩
      obtain ⟨l, hl⟩ : ∃ l, strOfNums (lowL (sb x)) = l := ⟨_, rfl⟩
      obtain ⟨t', ht⟩ : ∃ t', strOfNums (trimI (sb x)) = t' := ⟨_, rfl⟩
      have f1 : ∀ w', Own W w' [(w1.heap.size, .cells (xs.map Value.string).toArray 9)] → _ := fun w' h => decode_c h x (by omega)
      have f2 : ∀ w', Own W w' [(w1.heap.size, .cells (xs.map Value.string).toArray 9)] → _ := fun w' h => unpct_c h x (by omega)
      have f3 : ∀ w', Own W w' [(w1.heap.size, .cells (xs.map Value.string).toArray 9)] → _ := fun w' h => encode_c h x (by omega)
      have f4 : ∀ w', Own W w' [(w1.heap.size, .cells (xs.map Value.string).toArray 9)] → _ := fun w' h => rpct_c h x (by omega)
      have f5 : ∀ w', Own W w' [(w1.heap.size, .cells (xs.map Value.string).toArray 9)] → _ := fun w' h => lower_c h x (by omega)
      have f6 : ∀ w', Own W w' [(w1.heap.size, .cells (xs.map Value.string).toArray 9)] → _ := fun w' h => rlower_c h x (by omega)
      have f7 : ∀ w', Own W w' [(w1.heap.size, .cells (xs.map Value.string).toArray 9)] → _ := fun w' h => trim_c h x (by omega)
      have f8 : ∀ w', _ := fun w' => rtrim_c (w := w') x (by omega)
      rw [hd, hk] at f1 f2
      rw [hc] at f3 f4
      rw [hl] at f5 f6
      rw [ht] at f7 f8
      have F1 := Lib.hid f1; have F2 := Lib.hid f2; have F3 := Lib.hid f3; have F4 := Lib.hid f4; have F5 := Lib.hid f5; have F6 := Lib.hid f6; have F7 := Lib.hid f7; have F8 := Lib.hid f8
      clear f1 f2 f3 f4 f5 f6 f7 f8 hd hk hc hl ht hsz hix
      go_wp2_with fail
      have hcall := F1.out _ HO3.out
      with_reducible refine hcall.mono ?_
      clear hcall
      rintro e w4 ⟨rfl, hO4⟩
      have HO4 := Lib.hid hO4; clear hO4 HO3
      go_wp2_with fail
      have hcall := F2.out _ HO4.out
      with_reducible refine hcall.mono ?_
      clear hcall
      rintro e w5 ⟨rfl, hO5⟩
      have HO5 := Lib.hid hO5; clear hO5 HO4
      go_wp2_with fail
      have hcall := F3.out _ HO5.out
      with_reducible refine hcall.mono ?_
      clear hcall
      rintro e w6 ⟨rfl, hO6⟩
      have HO6 := Lib.hid hO6; clear hO6 HO5
      go_wp2_with fail
      have hcall := F4.out _ HO6.out
      with_reducible refine hcall.mono ?_
      clear hcall
      rintro e w7 ⟨rfl, hO7⟩
      have HO7 := Lib.hid hO7; clear hO7 HO6
      cases k
      all_goals
        go_wp2_with fail
        have hcall := F5.out _ HO7.out
        with_reducible refine hcall.mono ?_
        clear hcall
        rintro e w8 ⟨rfl, hO8⟩
        have HO8 := Lib.hid hO8; clear hO8 HO7
        go_wp2_with fail
        have hcall := F6.out _ HO8.out
        with_reducible refine hcall.mono ?_
        clear hcall
        rintro e w9 ⟨rfl, hO9⟩
        have HO9 := Lib.hid hO9; clear hO9 HO8
        go_wp2_with fail
        have hcall := F7.out _ HO9.out
        with_reducible refine hcall.mono ?_
        clear hcall
        rintro e w10 ⟨rfl, hO10⟩
        have HO10 := Lib.hid hO10; clear hO10 HO9
        go_wp2_with fail
        have hcall := F8.out w10
        with_reducible refine hcall.mono ?_
        clear hcall
        rintro e w11 ⟨rfl, rfl⟩
        go_wp2
        go_roundw
        case rel => exact ⟨i + 1, by omega, by go_num, HO10.out⟩
        case measure => simp [intOf]; omega
    · obtain rfl : i = 5 := by omega
      go_wp2_with fail
      have hcall := wakes6_c HO3.out
      with_reducible refine hcall.mono ?_
      clear hcall
      rintro e w4 ⟨rfl, hO4⟩
      have HO4 := Lib.hid hO4; clear hO4 HO3
      go_wp2
      go_ret
      exact HO4.out.yes rfl
set_option maxRecDepth 100000 in
theorem pctTells_contract (H : Type) (enc : TypeId × Value → H) (W : World) (base : Nat) (args : Array Value) (ds gs : List (DataW H)) (before : List MemPlace)
    (hval : ∀ (j : Nat) t v, Try.f5.params[j]? = some t → args[j]? = some v → Value.okWide Try.prog W .any base t v)
    (hW : DataW.Whole enc Try.prog Try.f5.params.toList Rows.pctTellsSpec.vars false W args.toList ds gs before) (hk : Rows.uptoSmall H (ds ++ gs) = true) :
    Calls Try.prog 5 args W fun e W' => ∃ v, e = .returned v ∧ Rows.pctTellsSpec.post enc Try.prog Try.f5 false true false false W args v W' := by
  have hW' := hW
  obtain ⟨p, q, hA0, hV, rfl, hfz, hnd⟩ := hW
  have hA : DataW.TrodAll enc Try.prog W 0 (fun _ => true) true Try.f5.params.toList args.toList ds p := hA0
  rw [Try.params5] at hA hval
  obtain ⟨v0, vs0, d0, ds0, p0, q0, hargs, rfl, rfl, h0, r0⟩ := trodAll_cons hA
  obtain ⟨v1, vs1, d1, ds1, p1, q1, rfl, rfl, rfl, h1, r1⟩ := trodAll_cons r0
  obtain ⟨rfl, rfl, rfl⟩ := trodAll_nil r1
  obtain rfl : args = #[v0, v1] := by cases args; simp_all
  obtain ⟨rfl, rfl⟩ := trodVars_none hV
  obtain ⟨a0, rfl, rfl, rfl, w0⟩ := open_string Try.underlying9 (hval 0 9 v0 rfl rfl) h0
  obtain ⟨a1, rfl, rfl, rfl, w1⟩ := open_string Try.underlying9 (hval 1 9 v1 rfl rfl) h1
  have z0 : a0.size ≤ 1048576 := by
    have hb : _ ≤ 1048576 := of_decide_eq_true hk
    simp only [List.append_nil, List.cons_append, List.nil_append, Rows.uptoBulkAll, Rows.uptoBulk] at hb
    have e : a0.data.toList.length = a0.size := by simp
    omega
  have z1 : a1.size ≤ 1048576 := by
    have hb : _ ≤ 1048576 := of_decide_eq_true hk
    simp only [List.append_nil, List.cons_append, List.nil_append, Rows.uptoBulkAll, Rows.uptoBulk] at hb
    have e : a1.data.toList.length = a1.size := by simp
    omega
  clear hA0
  refine (pctTells_walk a0 z0 a1 z1).mono fun e W' ⟨he, bel⟩ => ?_
  subst he
  exact ⟨_, rfl, _, _, _, [], _, [], hW', trodAll_mk1 (shut_bool Try.underlying4 _), (trodAll_cons_mk (shut_string Try.underlying9 w0) (trodAll_cons_mk (shut_string Try.underlying9 w1) trodAll_mk0)), rfl, bel.frame _, fun h => by cases h⟩

set_option maxRecDepth 100000 in
theorem pctTells_lifted (os : Os) (started : os.Started) (H : Type) (enc : TypeId × Value → H) (F : Stop.Interp) :
    ReturnsInHanded {} Try.checked os 5 .any ((Rows.OpenSpec.upto Rows.pctTellsSpec).pre6 enc Try.prog Try.f5 Rows.pctTellsUptoRow.domain false) (((Rows.OpenSpec.upto Rows.pctTellsSpec).at F).post enc Try.prog Try.f5 false true false false) := by
  refine returnsInHanded_of_cond (C := Try.checked) (s := Rows.OpenSpec.upto Rows.pctTellsSpec) (k := Rows.uptoSmall) rfl (by kernel_rfl) started (by kernel_rfl) Try.func5
    (OpenSpec.witness (enc := enc) (C := Try.checked) (s := Rows.OpenSpec.upto Rows.pctTellsSpec) (k := Rows.uptoSmall) rfl false ⟨#[], #[.string .empty, .string .empty], []⟩ 8 (by kernel_rfl) (by kernel_rfl) (by kernel_rfl)
      (x := ([.lit (.string []), .lit (.string [])], [], [])) (by kernel_rfl) rfl (by kernel_rfl)) ?_
  intro W base args ds gs before hval hW _ hk _
  exact pctTells_contract H enc W base args ds gs before hval hW hk

/-- The statement. -/
theorem pctTells_proved : Rows.PctTellsUptoSaid :=
  OpenClaim.holds_of_cond 5 Try.f5 rfl rfl rfl rfl rfl rfl rfl ⟨rfl, rfl, rfl, rfl, rfl⟩ rfl rfl rfl rfl rfl (by kernel_rfl) Try.func5 (by kernel_rfl)
    (of_decide_eq_true (by kernel_rfl)) (by unfold Func.isWrapper; first | (rw [if_pos (by decide +kernel)]; kernel_rfl) | (rw [if_neg (by decide +kernel)]; exact ⟨rfl, rfl⟩))
    (fun os started H enc _ F => pctTells_lifted os started H enc F)
end Go.Proofs.Ythhijngddlmkpaa
