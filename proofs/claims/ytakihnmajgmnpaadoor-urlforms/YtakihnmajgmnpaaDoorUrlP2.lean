/-
  Package url: a host, a path (inner functions of the landed program).
-/
import Derived.Test.YtakihnmajgmnpaaDoorUrlP1
namespace Go.Proofs.YtakihnmajgmnpaaDoor
set_option linter.unusedVariables false
set_option linter.unusedSimpArgs false
set_option maxRecDepth 20000
open Go.RowKit

set_option maxHeartbeats 4000000 in
theorem isHost_c {w0 w : World} {R : Blks} (hV : VarsOk w0) (hO : Own w0 w R) (s : ByteArray) (hs : s.size ≤ 1073741824) :
    Calls Tryd.prog 43 #[.string s] w fun e w' => e = .returned (.bool (decide (HostOk (sb s)))) ∧ Own w0 w' R := by
  rw [hostP_dec]
  obtain ⟨o, ho⟩ : ∃ o, decide (HostP (sb s)) = o := ⟨_, rfl⟩
  obtain ⟨n, hn⟩ : ∃ n, s.size = n := ⟨_, rfl⟩
  have hln : (sb s).length = n := by rw [← hn]; exact length_sb s
  have hsp := lsplit_c hV hO s hs
  have hlen := splI_len 46 (sb s)
  have hmem := splI_mem 46 (sb s)
  have hne := splI_ne 46 (sb s)
  have hBy := byt_sb s
  have hdef : o = decide (n ≤ 20 ∧ ∀ p ∈ splI 46 (sb s), PartH p) := by rw [← ho, ← hln]; rfl
  rw [ho]
  rw [hln] at hlen
  generalize sb s = l at *
  have HO := Lib.hid hO; have HD := Lib.hid hdef
  clear hO hdef ho
  by_cases h1 : 20 < n
  · have hno : o = false := by rw [HD.out]; exact decide_eq_false (fun h => by omega)
    have HNO := Lib.hid hno
    clear hno hsp hlen hmem hne hBy hln
    go_enter Tryd.func43, Tryd.ntmps43
    go_wp2
    go_ret
    exact ⟨by rw [HNO.out]; rfl, HO.out⟩
  · have h1' : ¬ 20 < n := h1
    have hpl : ∀ p ∈ splI 46 l, p.length ≤ 20 ∧ Byt p := fun p hp => ⟨by have := (hmem p hp).1; omega, fun x hx => hBy x ((hmem p hp).2 x hx)⟩
    generalize splI 46 l = ps at *
    have HSP := Lib.hid hsp; have HNE := Lib.hid hne; have HPL := Lib.hid hpl
    obtain ⟨k, hk⟩ : ∃ k, ps.length = k := ⟨_, rfl⟩
    have hk2 : k ≤ 21 := by omega
    have hk0 : 0 < k := by have := List.length_pos_iff.2 hne; omega
    have HK := Lib.hid hk
    clear hsp hlen hmem hne hBy hln hpl hk
    go_enter Tryd.func43, Tryd.ntmps43
    go_wp2_with fail
    with_reducible refine HSP.out.mono ?_
    rintro e w1 ⟨v, L, rfl, hrow, hO1⟩
    have HO1 := Lib.hid hO1
    rcases hrow.2 with ⟨_, h0, _⟩ | ⟨g, cap, sp, rfl, rfl, hl, hc, hm⟩
    · exfalso; rw [List.length_map] at h0; have := HK.out; omega
    have hcell : ∀ j, j < k → w1.cell? ⟨g, j, none⟩ = some (.string (strOfNums (ps.getD j []))) := by
      intro j hj
      have hj' : j < ps.length := by rw [HK.out]; exact hj
      rw [hO1.cell (.head _) j]
      simp only [List.getElem?_toArray]
      rw [List.getElem?_append_left (by simp; exact hj')]
      simp [sv, List.getD_eq_getElem?_getD, List.getElem?_eq_getElem hj']
    have HCELL := Lib.hid hcell
    rw [List.length_map, HK.out] at hc ⊢
    clear hO1 hrow hl hcell HO HSP HNE
    go_wp2
    go_loopw [11] (fun t w' => ∃ i : Nat, i ≤ k ∧ t = .int .i64 i ∧ Hid (∀ j, j < i → PartH (ps.getD j [])) ∧ w' = w1) (fun t _ => k - (intOf t).toNat)
    case atStart => exact ⟨0, Nat.zero_le _, rfl, Lib.hid (fun j hj => by omega), rfl⟩
    case round =>
      obtain ⟨i, hi, rfl, HAT, rfl⟩ := hrel
      by_cases hlt : i < k
      · have hcl := HCELL.out i hlt
        have hix : i < ps.length := by rw [HK.out]; exact hlt
        have hin : (i : Int) < k := by omega
        have hpm : ps.getD i [] ∈ ps := by rw [List.getD_eq_getElem?_getD, List.getElem?_eq_getElem hix]; exact List.getElem_mem hix
        have hp := HPL.out _ hpm
        have hbad : ¬ PartH (ps.getD i []) → o = false := fun e => by rw [HD.out]; exact decide_eq_false (fun h => e (h.2 _ hpm))
        have hgood : PartH (ps.getD i []) → ∀ j, j < i + 1 → PartH (ps.getD j []) := fun e j hj => by
          rcases (by omega : j < i ∨ j = i) with h | rfl
          · exact HAT.out j h
          · exact e
        have hcall := isHostPart_c (w := wr) (strOfNums (ps.getD i [])) (by rw [strOfNums_size]; have := hp.1; omega)
        rw [sb_str hp.2] at hcall
        have hb0 : ((strOfNums (ps.getD i [])).toList == []) = decide (ps.getD i [] = []) := by rw [beq_lit, sb_str hp.2]; rfl
        have hdp : PartH (ps.getD i []) ↔ (ps.getD i [] ≠ [] ∧ ∀ x ∈ ps.getD i [], HB0 x) := Iff.rfl
        have HBAD := Lib.hid hbad; have HG := Lib.hid hgood; have HC := Lib.hid hcall; have HDP := Lib.hid hdp
        clear hbad hgood hcall hdp hpm hix hp
        generalize ps.getD i [] = p at *
        by_cases hpe : p = []
        · have hno := HBAD.out (fun h => (HDP.out.1 h).1 hpe)
          have HNO := Lib.hid hno
          rw [decide_eq_true hpe] at hb0
          clear hno hpe
          generalize strOfNums p = x at *
          go_wp2
          go_ret
          exact ⟨by rw [HNO.out]; rfl, (HO1.out).tail⟩
        · rw [decide_eq_false hpe] at hb0
          by_cases hall : ∀ x ∈ p, HB0 x
          · have hg := HG.out (HDP.out.2 ⟨hpe, hall⟩)
            have HGG := Lib.hid hg
            have HC2 := Lib.hid (by have := HC.out; rwa [decide_eq_true hall] at this)
            clear hg hall hpe HC
            generalize strOfNums p = x at *
            go_wp2_with fail
            with_reducible refine HC2.out.mono ?_
            rintro e w2 ⟨rfl, rfl⟩
            go_wp2
            go_roundw
            case rel => exact ⟨i + 1, by omega, by go_num, HGG, trivial⟩
            case measure => simp [intOf]; omega
          · have hno := HBAD.out (fun h => hall (HDP.out.1 h).2)
            have HNO := Lib.hid hno
            have HC2 := Lib.hid (by have := HC.out; rwa [decide_eq_false hall] at this)
            clear hno hall hpe HC
            generalize strOfNums p = x at *
            go_wp2_with fail
            with_reducible refine HC2.out.mono ?_
            rintro e w2 ⟨rfl, rfl⟩
            go_wp2
            go_ret
            exact ⟨by rw [HNO.out]; rfl, (HO1.out).tail⟩
      · obtain rfl : i = k := by omega
        have hyes : o = true := by
          rw [HD.out]
          refine decide_eq_true ⟨by omega, fun p hp => ?_⟩
          obtain ⟨j, hj, rfl⟩ := List.mem_iff_getElem.1 hp
          have := HAT.out j (by rw [HK.out] at hj; exact hj)
          rwa [List.getD_eq_getElem?_getD, List.getElem?_eq_getElem hj] at this
        have HY := Lib.hid hyes
        clear hyes
        go_wp2
        go_ret
        exact ⟨by rw [HY.out]; rfl, (HO1.out).tail⟩
end Go.Proofs.YtakihnmajgmnpaaDoor
