/-
  Package pct: Encode.
-/
import Derived.Test.YtakihnmajgmnpaaDoorPct2
import Derived.OpenShut
namespace Go.Proofs.YtakihnmajgmnpaaDoor
set_option linter.unusedVariables false
set_option linter.unusedSimpArgs false
set_option maxRecDepth 20000
open Go.RowKit

/-- What is left of a range over a string. -/
def leftOf (w : World) (r : Nat) : Nat := match w.heap[r]? with
  | some (.stringIter s pos) => s.size - pos
  | _ => 0
theorem leftOf_eq {w : World} {r : Nat} {s : ByteArray} {pos : Nat} (h : w.heap[r]? = some (.stringIter s pos)) : leftOf w r = s.size - pos := by unfold leftOf; rw [h]
theorem pctE_drop {l : List Int} {pos : Nat} (h : pos < l.length) : pctE (l.drop pos) = pctR (decI (l.drop pos)).1 ++ pctE (l.drop (pos + (decI (l.drop pos)).2)) := by
  unfold pctE
  rw [runes_step (by intro e; have := congrArg List.length e; simp at this; omega), List.flatMap_cons, List.drop_drop]
theorem dec_fits {l : List Int} {pos : Nat} (h : pos < l.length) : pos + (decI (l.drop pos)).2 ≤ l.length := by
  have := decI_le (l := l.drop pos) (by intro e; have := congrArg List.length e; simp at this; omega)
  rw [List.length_drop] at this
  omega
set_option maxHeartbeats 4000000 in
theorem encode_c {w0 w : World} {R : Blks} (hO : Own w0 w R) (s : ByteArray) (hs : s.size ≤ 80000000) :
    Calls Tryd.prog 46 #[.string s] w fun e w' => e = .returned (.string (strOfNums (pctE (sb s)))) ∧ Own w0 w' R := by
  have HO := Lib.hid hO
  obtain ⟨l, hl⟩ : ∃ l, sb s = l := ⟨_, rfl⟩
  have hn : l.length = s.size := by rw [← hl]; exact length_sb s
  have HL := Lib.hid hl; have HN := Lib.hid hn
  rw [hl]
  clear hO hl hn
  go_enter Tryd.func46, Tryd.ntmps46
  go_wp2_with (refine wl_rangeS rfl _ _ rfl (by rfl) HO.out s (by rfl) ?_; intro r w1 hO1; have HO1 := Lib.hid hO1; clear hO1 HO)
  simp only [Act.put, List.setIfInBounds_toArray, List.set_cons_zero, List.set_cons_succ]
  go_loopw [3] (fun b w' => ∃ pos acc L', pos ≤ s.size ∧ Hid (pctE l = acc ++ pctE (l.drop pos)) ∧ Hid (IsBytes b acc L') ∧ Hid (Own w0 w' ((r, .stringIter s pos) :: (L' ++ R)))) (fun _ w' => leftOf w' r)
  case atStart => exact ⟨0, [], [], Nat.zero_le _, Lib.hid (by simp), isBytes_nil, HO1.out⟩
  case round =>
    obtain ⟨pos, acc, L', hpos, HE, HV, HO2⟩ := hrel
    clear HO1
    by_cases hlt : pos < s.size
    · have hlt' : pos < l.length := by rw [HN.out]; exact hlt
      have hst := pctE_drop hlt'
      have hfit := dec_fits hlt'
      have hval := decI_valid (l.drop pos)
      have hge := decI_pos (l.drop pos)
      have hlen : acc.length ≤ 960000000 := by
        have h1 := pctE_len l
        rw [HE.out, List.length_append, HN.out] at h1
        omega
      have hcs : pctR (decI (l.drop pos)).1 = if plainR (decI (l.drop pos)).1 then [((decI (l.drop pos)).1 : Int)] else (encI (decI (l.drop pos)).1).flatMap pct3 := rfl
      have hit := Lib.hid (HO2.out.heap (.head _))
      obtain ⟨c, hc⟩ : ∃ c, (decI (l.drop pos)).1 = c := ⟨_, rfl⟩
      obtain ⟨k, hk⟩ : ∃ k, (decI (l.drop pos)).2 = k := ⟨_, rfl⟩
      rw [hc] at hst hval hcs
      rw [hk] at hst hfit hge
      have HC := Lib.hid hc; have HK := Lib.hid hk; have HST := Lib.hid hst; have HVAL := Lib.hid hval; have HCS := Lib.hid hcs
      clear hc hk hst hval hcs
      go_wp2_with (refine wl_nextS rfl _ rfl HO2.out 0 r s pos rfl hlt (by rfl) ?_; intro w3 hO3; rw [HL.out, HK.out] at hO3; rw [HL.out, HC.out]; have HO3 := Lib.hid (hO3.perm List.perm_middle.symm); clear hO3 HO2)
      have hcall := isPlain_c (w := w3) c
      with_reducible refine hcall.mono ?_
      clear hcall
      rintro e w4 ⟨rfl, rfl⟩
      cases hp : plainR c with
      | true =>
        have hce := HCS.out
        rw [if_pos hp] at hce
        have hcb := (plainR_iff c).1 hp
        have hc8 : IntKind.u8.wrap (c : Int) = c := by rw [IntKind.wrap_u8']; omega
        have HCE := Lib.hid hce
        clear hce hcb hp HCS
        go_wp2_with (refine wl_appendB rfl _ _ rfl _ acc (by rfl) HV.out (HO3.out.put2 _) (.slice (some ⟨_, 0, none⟩) 1 1) [(c : Int)] (by rfl) (bs_new HO3.out _ _ rfl (by omega)) (by simp; omega) ?_; intro v5 w5 L5 hv5 hO5; have HV5 := Lib.hid hv5; have HO5 := Lib.hid hO5.strike; clear hv5 hO5 HV HO3)
        go_roundw
        case rel => exact ⟨pos + k, acc ++ [(c : Int)], L5, by have := HN.out; omega, Lib.hid (by rw [HE.out, HST.out, HCE.out, List.append_assoc]), HV5.out, HO5.out.perm List.perm_middle⟩
        case measure => rw [leftOf_eq (HO5.out.heap (List.mem_append_right _ (.head _))), leftOf_eq hit.out]; omega
      | false =>
        have hce := HCS.out
        rw [if_neg (by rw [hp]; simp)] at hce
        have hcall := addCoded_c HV.out HO3.out (by omega) c HVAL.out
        have HCE := Lib.hid hce
        clear hce hp HCS
        go_wp2_with fail
        with_reducible refine hcall.mono ?_
        clear hcall
        rintro e w5 ⟨v5, L5, rfl, hv5, hO5⟩
        have HV5 := Lib.hid hv5; have HO5 := Lib.hid hO5; clear hv5 hO5 HV HO3
        go_wp2
        go_roundw
        case rel => exact ⟨pos + k, acc ++ (encI c).flatMap pct3, L5, by have := HN.out; omega, Lib.hid (by rw [HE.out, HST.out, HCE.out, List.append_assoc]), HV5.out, HO5.out.perm List.perm_middle⟩
        case measure => rw [leftOf_eq (HO5.out.heap (List.mem_append_right _ (.head _))), leftOf_eq hit.out]; omega
    · have hpe : pos = s.size := by omega
      subst hpe
      have hd : l.drop s.size = [] := List.drop_eq_nil_of_le (by rw [HN.out]; exact Nat.le_refl _)
      have he : pctE l = acc := by rw [HE.out, hd]; show acc ++ [] = acc; simp
      have hO3 : Own w0 wr (L' ++ ((r, .stringIter s s.size) :: R)) := HO2.out.perm List.perm_middle.symm
      have hcv := convert_str (HV.out.bs hO3)
      have HO4 := Lib.hid hO3.strike
      have HEQ := Lib.hid he
      clear HE hd he hlt hO3
      go_wp2_with (first | (refine wl_nextS_end rfl _ rfl HO2.out 0 r s s.size rfl (by omega) (by rfl) ?_))
      go_ret
      exact ⟨by rw [HEQ.out]; rfl, HO4.out.right⟩
end Go.Proofs.YtakihnmajgmnpaaDoor
