/-
  Package head: isNameByte, Name, Value, Forbidden; the library's HasPrefix, HasSuffix.
-/
import Derived.Test.YtkmfbfmmlldphaaDoorPct5
import Derived.Test.YtkmfbfmmlldphaaDoorPct6
import Derived.Test.YtkmfbfmmlldphaaDoorUrl1
namespace Go.Proofs.YtkmfbfmmlldphaaDoor
set_option linter.unusedVariables false
set_option linter.unusedSimpArgs false
set_option maxRecDepth 20000
open Go.RowKit

/-! ### names, values -/
def nbI (x : Int) : Bool := decide ((65 ≤ x ∧ x ≤ 90) ∨ (97 ≤ x ∧ x ≤ 122) ∨ (48 ≤ x ∧ x ≤ 57) ∨ x = 45)
def nameI (l : List Int) : Bool := decide (1 ≤ l.length ∧ l.length ≤ 12) && l.all nbI
def vbI (x : Int) : Bool := decide (32 ≤ x ∧ x ≤ 126)
def valI (l : List Int) : Bool := decide (l.length ≤ 16) && !begI [32] l && !begI [32] l.reverse && l.all vbI
def fobI : List (List Int) := [[104, 111, 115, 116], [111, 114, 105, 103, 105, 110], [114, 101, 102, 101, 114, 101, 114], [99, 111, 111, 107, 105, 101], [99, 111, 110, 110, 101, 99, 116, 105, 111, 110], [114, 97, 110, 103, 101], [105, 102, 45, 114, 97, 110, 103, 101]]
def secI : List Int := [115, 101, 99, 45]
def proxyI : List Int := [112, 114, 111, 120, 121, 45]
def forbI (l : List Int) : Bool := fobI.contains (lowL l) || begI secI (lowL l) || begI proxyI (lowL l)
theorem all_step {f : Int → Bool} {l : List Int} {k : Nat} (hk : k < l.length) (h : (l.take k).all f = true) (h2 : f (l.getD k 0) = true) : (l.take (k + 1)).all f = true := by
  rw [List.take_succ_eq_append_getElem hk, List.all_append, h]
  simpa [List.getD_eq_getElem?_getD, List.getElem?_eq_getElem hk] using h2
theorem all_not {f : Int → Bool} {l : List Int} {k : Nat} (hk : k < l.length) (h2 : f (l.getD k 0) = false) : l.all f = false := by
  rw [← Bool.not_eq_true, List.all_eq_true]
  intro h
  have := h l[k] (List.getElem_mem hk)
  rw [List.getD_eq_getElem?_getD, List.getElem?_eq_getElem hk, Option.getD_some] at h2
  rw [h2] at this; cases this
theorem begI_take {p l : List Int} : begI p l = decide (l.take p.length = p) := rfl

set_option maxHeartbeats 1000000 in
theorem isNameByte_c {w : World} (x : Int) : Calls Tryd.prog 79 #[.int .u8 x] w fun e w' => e = .returned (.bool (nbI x)) ∧ w = w' := by
  by_cases h1 : 65 ≤ x
  · by_cases h2 : x ≤ 90
    · have e : nbI x = true := by unfold nbI; rw [decide_eq_true_iff]; omega
      rw [e]; clear e
      go_enter Tryd.func79, Tryd.ntmps79
      go_wp2
      go_ret
      exact ⟨rfl, rfl⟩
    · by_cases h3 : 97 ≤ x
      · by_cases h4 : x ≤ 122
        · have e : nbI x = true := by unfold nbI; rw [decide_eq_true_iff]; omega
          rw [e]; clear e
          go_enter Tryd.func79, Tryd.ntmps79
          go_wp2
          go_ret
          exact ⟨rfl, rfl⟩
        · have e : nbI x = false := by unfold nbI; rw [decide_eq_false_iff_not]; omega
          have q1 : (48 : Int) ≤ x := by omega
          have q2 : ¬ x ≤ 57 := by omega
          have q3 : (x == 45) = false := by simp; omega
          rw [e]; clear e
          go_enter Tryd.func79, Tryd.ntmps79
          go_wp2
          go_ret
          exact ⟨rfl, rfl⟩
      · have e : nbI x = false := by unfold nbI; rw [decide_eq_false_iff_not]; omega
        have q1 : (48 : Int) ≤ x := by omega
        have q2 : ¬ x ≤ 57 := by omega
        have q3 : (x == 45) = false := by simp; omega
        rw [e]; clear e
        go_enter Tryd.func79, Tryd.ntmps79
        go_wp2
        go_ret
        exact ⟨rfl, rfl⟩
  · have h3 : ¬ 97 ≤ x := by omega
    by_cases h5 : 48 ≤ x
    · by_cases h6 : x ≤ 57
      · have e : nbI x = true := by unfold nbI; rw [decide_eq_true_iff]; omega
        rw [e]; clear e
        go_enter Tryd.func79, Tryd.ntmps79
        go_wp2
        go_ret
        exact ⟨rfl, rfl⟩
      · have e : nbI x = false := by unfold nbI; rw [decide_eq_false_iff_not]; omega
        have q3 : (x == 45) = false := by simp; omega
        rw [e]; clear e
        go_enter Tryd.func79, Tryd.ntmps79
        go_wp2
        go_ret
        exact ⟨rfl, rfl⟩
    · by_cases h7 : x = 45
      · subst h7
        go_enter Tryd.func79, Tryd.ntmps79
        go_wp2
        go_ret
        exact ⟨rfl, rfl⟩
      · have e : nbI x = false := by unfold nbI; rw [decide_eq_false_iff_not]; omega
        have q3 : (x == 45) = false := by simp; omega
        rw [e]; clear e
        go_enter Tryd.func79, Tryd.ntmps79
        go_wp2
        go_ret
        exact ⟨rfl, rfl⟩
set_option maxHeartbeats 2000000 in
theorem hname_c {w : World} (s : ByteArray) : Calls Tryd.prog 68 #[.string s] w fun e w' => e = .returned (.bool (nameI (sb s))) ∧ w = w' := by
  obtain ⟨l, hl⟩ : ∃ l, sb s = l := ⟨_, rfl⟩
  obtain ⟨n, hn⟩ : ∃ n, s.size = n := ⟨_, rfl⟩
  have hln : l.length = n := by rw [← hl, ← hn]; exact length_sb s
  have HL := Lib.hid hl; have HN := Lib.hid hn; have HLN := Lib.hid hln
  rw [hl]
  clear hl hln
  by_cases h1 : n < 1
  · have e : nameI l = false := by unfold nameI; rw [HLN.out, decide_eq_false (by omega)]; rfl
    have h1' : (n : Int) < 1 := by omega
    rw [e]; clear e h1
    go_enter Tryd.func68, Tryd.ntmps68
    go_wp2
    go_ret
    exact ⟨rfl, rfl⟩
  · have h1' : ¬ (n : Int) < 1 := by omega
    by_cases h2 : 12 < n
    · have e : nameI l = false := by unfold nameI; rw [HLN.out, decide_eq_false (by omega)]; rfl
      have h2' : (12 : Int) < n := by omega
      rw [e]; clear e h1 h2
      go_enter Tryd.func68, Tryd.ntmps68
      go_wp2
      go_ret
      exact ⟨rfl, rfl⟩
    · have h2' : ¬ (12 : Int) < n := by omega
      have e : nameI l = l.all nbI := by unfold nameI; rw [HLN.out, decide_eq_true (by omega)]; rfl
      rw [e]; clear e h1
      go_enter Tryd.func68, Tryd.ntmps68
      go_wp2
      clear hn
      go_loopw [14] (fun t w' => ∃ k : Nat, k ≤ n ∧ t = .int .i64 k ∧ Hid ((l.take k).all nbI = true) ∧ w' = w) (fun t _ => n - (intOf t).toNat)
      case atStart => exact ⟨0, Nat.zero_le _, rfl, Lib.hid rfl, rfl⟩
      case round =>
        obtain ⟨k, hk, rfl, HA, rfl⟩ := hrel
        by_cases hlt : k < n
        · have hix := index_sb wr s k (by rw [HN.out]; exact hlt)
          rw [HL.out] at hix
          have hkn : (k : Int) < n := by omega
          have hkl : k < l.length := by rw [HLN.out]; exact hlt
          cases hb : nbI (l.getD k 0) with
          | true =>
            have HST := Lib.hid (all_step hkl HA.out hb)
            have hcall := isNameByte_c (w := wr) (l.getD k 0)
            rw [hb] at hcall
            generalize l.getD k 0 = x at *
            have HC := Lib.hid hcall
            clear hb hcall hkl
            go_wp2_with fail
            with_reducible refine HC.out.mono ?_
            rintro e w2 ⟨rfl, rfl⟩
            clear HC
            go_wp2
            go_roundw
            case rel => exact ⟨k + 1, by omega, by go_num, HST, trivial⟩
            case measure => simp [intOf]; omega
          | false =>
            have HE := Lib.hid (all_not hkl hb)
            have hcall := isNameByte_c (w := wr) (l.getD k 0)
            rw [hb] at hcall
            generalize l.getD k 0 = x at *
            have HC := Lib.hid hcall
            clear hb hcall hkl
            go_wp2_with fail
            with_reducible refine HC.out.mono ?_
            rintro e w2 ⟨rfl, rfl⟩
            clear HC
            go_wp2
            go_ret
            exact ⟨by rw [HE.out]; rfl, rfl⟩
        · obtain rfl : k = n := by omega
          have hall := HA.out
          rw [List.take_of_length_le (by rw [HLN.out]; exact Nat.le_refl _)] at hall
          have HALL := Lib.hid hall
          clear hall
          go_wp2
          go_ret
          exact ⟨by rw [HALL.out]; rfl, rfl⟩
theorem pre_c {w : World} (s p : ByteArray) : Calls Tryd.prog 60 #[.string s, .string p] w fun e w' => e = .returned (.bool (begI (sb p) (sb s))) ∧ w = w' := by
  by_cases h : p.size ≤ s.size
  · have hc : ((s.extract 0 p.size).toList == p.toList) = begI (sb p) (sb s) := by
      rw [beq_sb, sb_extract, List.drop_zero]
      unfold begI
      rw [length_sb]
    have h1 : (p.size : Int) ≤ s.size := by omega
    generalize begI (sb p) (sb s) = b at *
    clear h
    go_enter Tryd.func60, Tryd.ntmps60
    go_wp2
    go_ret
    exact ⟨rfl, rfl⟩
  · have hb : begI (sb p) (sb s) = false := begI_short (by rw [length_sb, length_sb]; omega)
    have h1 : ¬ (p.size : Int) ≤ s.size := by omega
    rw [hb]
    clear h hb
    go_enter Tryd.func60, Tryd.ntmps60
    go_wp2
    go_ret
    exact ⟨rfl, rfl⟩
end Go.Proofs.YtkmfbfmmlldphaaDoor
