/-
  Package pct: Decode.
-/
import Derived.Test.YthhijngddlmkpaaPct1
import Derived.Test.YthhijngddlmkpaaBld
namespace Go.Proofs.Ythhijngddlmkpaa
set_option linter.unusedVariables false
set_option linter.unusedSimpArgs false
set_option maxRecDepth 20000
open Go.RowKit

theorem unp_cut {l : List Int} (h : l ≠ []) : unp l = (cutI l).bind fun p => (unp p.2).map fun t => p.1 :: t := by
  match l, h with
  | x :: r, _ =>
    by_cases hx : x = 37
    · subst hx
      match r with
      | [] => rfl
      | [a] => rfl
      | a :: b :: q =>
        rw [unp_pct]
        show _ = (((digI a).bind fun h => (digI b).map fun l => (16 * h + l, q)) : Option (Int × List Int)).bind _
        cases digI a with
        | none => rfl
        | some u => cases digI b <;> rfl
    · rw [unp_other hx]
      simp [cutI, hx]
theorem cutI_len {l : List Int} {c : Int} {q : List Int} (h : cutI l = some (c, q)) : q.length < l.length := by
  match l, h with
  | x :: r, h =>
    by_cases hx : x = 37
    · subst hx
      match r, h with
      | [], h => cases h
      | [a], h => cases h
      | a :: b :: q', h =>
        have h' : ((digI a).bind fun h => (digI b).map fun l => (16 * h + l, q')) = some (c, q) := h
        simp only [Option.bind_eq_some_iff, Option.map_eq_some_iff, Prod.mk.injEq] at h'
        obtain ⟨_, _, _, _, _, rfl⟩ := h'
        simp only [List.length_cons]; omega
    · simp only [cutI, if_neg hx, Option.some.injEq, Prod.mk.injEq] at h
      obtain ⟨_, rfl⟩ := h
      simp
def strLen : Value → Nat
  | .string s => s.size
  | _ => 0
set_option maxHeartbeats 4000000 in
theorem decode_c {w0 w : World} {R : Blks} (hO : Own w0 w R) (s : ByteArray) (hs : s.size ≤ 1000000000) :
    Calls Try.prog 9 #[.string s] w fun e w' => e = .returned (.tuple #[.string (strOfNums ((unp (sb s)).getD [])), .bool (unp (sb s)).isSome]) ∧ Own w0 w' R := by
  have HO := Lib.hid hO
  obtain ⟨o, ho⟩ : ∃ o, unp (sb s) = o := ⟨_, rfl⟩
  have HE0 := Lib.hid ho
  rw [ho]
  clear hO ho
  go_enter Try.func9, Try.ntmps9
  go_wp2
  go_loopw [0, 4] (fun sv b w' => ∃ t acc L', sv = .string t ∧ Hid (o = (unp (sb t)).map fun q => acc ++ q) ∧ Hid (acc.length + t.size ≤ s.size) ∧ Hid (IsBytes b acc L') ∧ Hid (Own w0 w' (L' ++ R))) (fun sv _ _ => strLen sv)
  case atStart => exact ⟨s, [], [], rfl, Lib.hid (by rw [HE0.out]; cases o <;> simp), Lib.hid (by simp), isBytes_nil, HO.out⟩
  case round =>
    obtain ⟨t, acc, L', rfl, HE, HN, HV, HO2⟩ := hrel
    clear HO HE0
    by_cases hlt : 0 < t.size
    · have hne : sb t ≠ [] := fun e => by have := length_sb t; rw [e] at this; simp at this; omega
      have hu := unp_cut hne
      have hcall := cut_c (w := wr) t hlt
      have hcl : ∀ c q, cutI (sb t) = some (c, q) → q.length < t.size := fun c q h => by have := cutI_len h; rwa [length_sb] at this
      have HU := Lib.hid hu; have HC := Lib.hid hcall; have HCL := Lib.hid hcl
      have hlt' : (0 : Int) < t.size := by omega
      clear hne hu hcall hcl hlt
      go_wp2_with fail
      with_reducible refine HC.out.mono ?_
      rintro e w1 ⟨⟨c, t', ho, hc0, hc1, rfl⟩ | ⟨ho, rfl⟩, m, rfl⟩
      · have HOC := Lib.hid ho
        have hlen := HCL.out c _ ho
        rw [length_sb] at hlen
        have hacc : acc.length ≤ 1000000000 := by have := HN.out; omega
        have HO3 := Lib.hid (HO2.out.drewN m)
        clear ho HC HO2
        generalize wr.drewN m = w2 at *
        go_wp2_with (refine wl_appendB rfl _ _ rfl _ acc (by rfl) HV.out (HO3.out.put2 _) (.slice (some ⟨_, 0, none⟩) 1 1) [c] (by rfl) (bs_new HO3.out _ _ rfl (by omega)) (by simp; omega) ?_; intro v5 w5 L5 hv5 hO5; have HV5 := Lib.hid hv5; have HO5 := Lib.hid hO5.strike; clear hv5 hO5 HV HO3)
        go_roundw
        case rel =>
          refine ⟨t', acc ++ [c], L5, rfl, Lib.hid ?_, Lib.hid ?_, HV5.out, HO5.out⟩
          · rw [HE.out, HU.out, HOC.out]
            simp only [Option.bind_some]
            cases unp (sb t') <;> simp
          · have := HN.out; simp; omega
        case measure => simp only [strLen]; omega
      · have hon : o = none := by rw [HE.out, HU.out, ho]; rfl
        have HON := Lib.hid hon
        have HO3 := Lib.hid (HO2.out.drewN m)
        clear ho hon HC HO2
        generalize wr.drewN m = w2 at *
        go_wp2
        go_ret2
        exact ⟨by rw [HON.out]; rfl, HO3.out.right⟩
    · have ht : sb t = [] := List.eq_nil_of_length_eq_zero (by rw [length_sb]; omega)
      have hon : o = some acc := by rw [HE.out, ht]; show some (acc ++ []) = _; simp
      have HON := Lib.hid hon
      have hcv := convert_str (HV.out.bs HO2.out)
      have hlt' : ¬ ((0 : Int) < t.size) := by omega
      clear hon ht hlt HE
      go_wp2
      go_ret2
      exact ⟨by rw [HON.out]; rfl, HO2.out.right⟩
end Go.Proofs.Ythhijngddlmkpaa
