/-
  Package head: isNameByte, Name, Value, Forbidden; the library's HasPrefix, HasSuffix.
-/
import Derived.Test.YtbaidlemlkklhaaPct5
import Derived.Test.YtbaidlemlkklhaaPct6
import Derived.Test.YtbaidlemlkklhaaUrl1
namespace Go.Proofs.Ytbaidlemlkklhaa
set_option linter.unusedVariables false
set_option linter.unusedSimpArgs false
set_option maxRecDepth 20000
open Go.RowKit

/-! ### names, values -/
def nbI (x : Int) : Bool := decide ((65 ≤ x ∧ x ≤ 90) ∨ (97 ≤ x ∧ x ≤ 122) ∨ (48 ≤ x ∧ x ≤ 57) ∨ x = 45)
def nameI (l : List Int) : Bool := decide (1 ≤ l.length ∧ l.length ≤ 12) && l.all nbI
def vbI (x : Int) : Bool := decide (32 ≤ x ∧ x ≤ 126)
def valI (l : List Int) : Bool := decide (l.length ≤ 16) && !begI [32] l && !begI [32] l.reverse && l.all vbI
def fobI : List (List Int) := [[104, 111, 115, 116], [111, 114, 105, 103, 105, 110], [114, 101, 102, 101, 114, 101, 114], [99, 111, 111, 107, 105, 101], [99, 111, 110, 110, 101, 99, 116, 105, 111, 110], [114, 97, 110, 103, 101], [105, 102, 45, 114, 97, 110, 103, 101]]
def secI : List Int := [115, 101, 99, 45]
def proxyI : List Int := [112, 114, 111, 120, 121, 45]
def forbI (l : List Int) : Bool := fobI.contains (lowL l) || begI secI (lowL l) || begI proxyI (lowL l)
theorem all_step {f : Int → Bool} {l : List Int} {k : Nat} (hk : k < l.length) (h : (l.take k).all f = true) (h2 : f (l.getD k 0) = true) : (l.take (k + 1)).all f = true := by
  rw [List.take_succ_eq_append_getElem hk, List.all_append, h]
  simpa [List.getD_eq_getElem?_getD, List.getElem?_eq_getElem hk] using h2
theorem all_not {f : Int → Bool} {l : List Int} {k : Nat} (hk : k < l.length) (h2 : f (l.getD k 0) = false) : l.all f = false := by
  rw [← Bool.not_eq_true, List.all_eq_true]
  intro h
  have := h l[k] (List.getElem_mem hk)
  rw [List.getD_eq_getElem?_getD, List.getElem?_eq_getElem hk, Option.getD_some] at h2
  rw [h2] at this; cases this
theorem begI_take {p l : List Int} : begI p l = decide (l.take p.length = p) := rfl

set_option maxHeartbeats 1000000 in
theorem isNameByte_c {w : World} (x : Int) : Calls Try.prog 12 #[.int .u8 x] w fun e w' => e = .returned (.bool (nbI x)) ∧ w = w' := by
  by_cases h1 : 65 ≤ x
  · by_cases h2 : x ≤ 90
    · have e : nbI x = true := by unfold nbI; rw [decide_eq_true_iff]; omega
      rw [e]; clear e
      go_enter Try.func12, Try.ntmps12
      go_wp2
      go_ret
      exact ⟨rfl, rfl⟩
    · by_cases h3 : 97 ≤ x
      · by_cases h4 : x ≤ 122
        · have e : nbI x = true := by unfold nbI; rw [decide_eq_true_iff]; omega
          rw [e]; clear e
          go_enter Try.func12, Try.ntmps12
          go_wp2
          go_ret
          exact ⟨rfl, rfl⟩
        · have e : nbI x = false := by unfold nbI; rw [decide_eq_false_iff_not]; omega
          have q1 : (48 : Int) ≤ x := by omega
          have q2 : ¬ x ≤ 57 := by omega
          have q3 : (x == 45) = false := by simp; omega
          rw [e]; clear e
          go_enter Try.func12, Try.ntmps12
          go_wp2
          go_ret
          exact ⟨rfl, rfl⟩
      · have e : nbI x = false := by unfold nbI; rw [decide_eq_false_iff_not]; omega
        have q1 : (48 : Int) ≤ x := by omega
        have q2 : ¬ x ≤ 57 := by omega
        have q3 : (x == 45) = false := by simp; omega
        rw [e]; clear e
        go_enter Try.func12, Try.ntmps12
        go_wp2
        go_ret
        exact ⟨rfl, rfl⟩
  · have h3 : ¬ 97 ≤ x := by omega
    by_cases h5 : 48 ≤ x
    · by_cases h6 : x ≤ 57
      · have e : nbI x = true := by unfold nbI; rw [decide_eq_true_iff]; omega
        rw [e]; clear e
        go_enter Try.func12, Try.ntmps12
        go_wp2
        go_ret
        exact ⟨rfl, rfl⟩
      · have e : nbI x = false := by unfold nbI; rw [decide_eq_false_iff_not]; omega
        have q3 : (x == 45) = false := by simp; omega
        rw [e]; clear e
        go_enter Try.func12, Try.ntmps12
        go_wp2
        go_ret
        exact ⟨rfl, rfl⟩
    · by_cases h7 : x = 45
      · subst h7
        go_enter Try.func12, Try.ntmps12
        go_wp2
        go_ret
        exact ⟨rfl, rfl⟩
      · have e : nbI x = false := by unfold nbI; rw [decide_eq_false_iff_not]; omega
        have q3 : (x == 45) = false := by simp; omega
        rw [e]; clear e
        go_enter Try.func12, Try.ntmps12
        go_wp2
        go_ret
        exact ⟨rfl, rfl⟩
set_option maxHeartbeats 2000000 in
theorem hname_c {w : World} (s : ByteArray) : Calls Try.prog 6 #[.string s] w fun e w' => e = .returned (.bool (nameI (sb s))) ∧ w = w' := by
  obtain ⟨l, hl⟩ : ∃ l, sb s = l := ⟨_, rfl⟩
  obtain ⟨n, hn⟩ : ∃ n, s.size = n := ⟨_, rfl⟩
  have hln : l.length = n := by rw [← hl, ← hn]; exact length_sb s
  have HL := Lib.hid hl; have HN := Lib.hid hn; have HLN := Lib.hid hln
  rw [hl]
  clear hl hln
  by_cases h1 : n < 1
  · have e : nameI l = false := by unfold nameI; rw [HLN.out, decide_eq_false (by omega)]; rfl
    have h1' : (n : Int) < 1 := by omega
    rw [e]; clear e h1
    go_enter Try.func6, Try.ntmps6
    go_wp2
    go_ret
    exact ⟨rfl, rfl⟩
  · have h1' : ¬ (n : Int) < 1 := by omega
    by_cases h2 : 12 < n
    · have e : nameI l = false := by unfold nameI; rw [HLN.out, decide_eq_false (by omega)]; rfl
      have h2' : (12 : Int) < n := by omega
      rw [e]; clear e h1 h2
      go_enter Try.func6, Try.ntmps6
      go_wp2
      go_ret
      exact ⟨rfl, rfl⟩
    · have h2' : ¬ (12 : Int) < n := by omega
      have e : nameI l = l.all nbI := by unfold nameI; rw [HLN.out, decide_eq_true (by omega)]; rfl
      rw [e]; clear e h1
      go_enter Try.func6, Try.ntmps6
      go_wp2
      clear hn
      go_loopw [14] (fun t w' => ∃ k : Nat, k ≤ n ∧ t = .int .i64 k ∧ Hid ((l.take k).all nbI = true) ∧ w' = w) (fun t _ => n - (intOf t).toNat)
      case atStart => exact ⟨0, Nat.zero_le _, rfl, Lib.hid rfl, rfl⟩
      case round =>
        obtain ⟨k, hk, rfl, HA, rfl⟩ := hrel
        by_cases hlt : k < n
        · have hix := index_sb wr s k (by rw [HN.out]; exact hlt)
          rw [HL.out] at hix
          have hkn : (k : Int) < n := by omega
          have hkl : k < l.length := by rw [HLN.out]; exact hlt
          cases hb : nbI (l.getD k 0) with
          | true =>
            have HST := Lib.hid (all_step hkl HA.out hb)
            have hcall := isNameByte_c (w := wr) (l.getD k 0)
            rw [hb] at hcall
            generalize l.getD k 0 = x at *
            have HC := Lib.hid hcall
            clear hb hcall hkl
            go_wp2_with fail
            with_reducible refine HC.out.mono ?_
            rintro e w2 ⟨rfl, rfl⟩
            clear HC
            go_wp2
            go_roundw
            case rel => exact ⟨k + 1, by omega, by go_num, HST, trivial⟩
            case measure => simp [intOf]; omega
          | false =>
            have HE := Lib.hid (all_not hkl hb)
            have hcall := isNameByte_c (w := wr) (l.getD k 0)
            rw [hb] at hcall
            generalize l.getD k 0 = x at *
            have HC := Lib.hid hcall
            clear hb hcall hkl
            go_wp2_with fail
            with_reducible refine HC.out.mono ?_
            rintro e w2 ⟨rfl, rfl⟩
            clear HC
            go_wp2
            go_ret
            exact ⟨by rw [HE.out]; rfl, rfl⟩
        · obtain rfl : k = n := by omega
          have hall := HA.out
          rw [List.take_of_length_le (by rw [HLN.out]; exact Nat.le_refl _)] at hall
          have HALL := Lib.hid hall
          clear hall
          go_wp2
          go_ret
          exact ⟨by rw [HALL.out]; rfl, rfl⟩
theorem pre_c {w : World} (s p : ByteArray) : Calls Try.prog 18 #[.string s, .string p] w fun e w' => e = .returned (.bool (begI (sb p) (sb s))) ∧ w = w' := by
  by_cases h : p.size ≤ s.size
  · have hc : ((s.extract 0 p.size).toList == p.toList) = begI (sb p) (sb s) := by
      rw [beq_sb, sb_extract, List.drop_zero]
      unfold begI
      rw [length_sb]
    have h1 : (p.size : Int) ≤ s.size := by omega
    generalize begI (sb p) (sb s) = b at *
    clear h
    go_enter Try.func18, Try.ntmps18
    go_wp2
    go_ret
    exact ⟨rfl, rfl⟩
  · have hb : begI (sb p) (sb s) = false := begI_short (by rw [length_sb, length_sb]; omega)
    have h1 : ¬ (p.size : Int) ≤ s.size := by omega
    rw [hb]
    clear h hb
    go_enter Try.func18, Try.ntmps18
    go_wp2
    go_ret
    exact ⟨rfl, rfl⟩
theorem suf_c {w : World} (s p : ByteArray) (hs : s.size ≤ 1073741824) : Calls Try.prog 19 #[.string s, .string p] w fun e w' => e = .returned (.bool (begI (sb p).reverse (sb s).reverse)) ∧ w = w' := by
  by_cases h : p.size ≤ s.size
  · have hc : ((s.extract (s.size - p.size) s.size).toList == p.toList) = begI (sb p).reverse (sb s).reverse := by
      rw [beq_sb, sb_from]
      unfold begI
      rw [List.length_reverse, length_sb, List.take_reverse, length_sb, decide_eq_decide]
      exact List.reverse_inj.symm
    have h1 : (p.size : Int) ≤ s.size := by omega
    have h2 : (s.size : Int) - p.size = ((s.size - p.size : Nat) : Int) := by omega
    have h3 : ((s.size : Int) - p.size).toNat = s.size - p.size := by omega
    have h4 : (p.size : Int) ≥ 0 := by omega
    generalize begI (sb p).reverse (sb s).reverse = b at *
    clear h
    go_enter Try.func19, Try.ntmps19
    go_wp2
    go_ret
    exact ⟨rfl, rfl⟩
  · have hb : begI (sb p).reverse (sb s).reverse = false := begI_short (by rw [List.length_reverse, List.length_reverse, length_sb, length_sb]; omega)
    have h1 : ¬ (p.size : Int) ≤ s.size := by omega
    rw [hb]
    clear h hb
    go_enter Try.func19, Try.ntmps19
    go_wp2
    go_ret
    exact ⟨rfl, rfl⟩
theorem hpre_c {w : World} (s p : ByteArray) : Calls Try.prog 13 #[.string s, .string p] w fun e w' => e = .returned (.bool (begI (sb p) (sb s))) ∧ w = w' := by
  have H := Lib.hid (pre_c (w := w) s p)
  go_enter Try.func13, Try.ntmps13
  go_wp2_with fail
  with_reducible refine H.out.mono ?_
  rintro e w1 ⟨rfl, rfl⟩
  clear H
  go_wp2
  go_ret
  exact ⟨rfl, rfl⟩
theorem hsuf_c {w : World} (s p : ByteArray) (hs : s.size ≤ 1073741824) : Calls Try.prog 14 #[.string s, .string p] w fun e w' => e = .returned (.bool (begI (sb p).reverse (sb s).reverse)) ∧ w = w' := by
  have H := Lib.hid (suf_c (w := w) s p hs)
  go_enter Try.func14, Try.ntmps14
  go_wp2_with fail
  with_reducible refine H.out.mono ?_
  rintro e w1 ⟨rfl, rfl⟩
  clear H
  go_wp2
  go_ret
  exact ⟨rfl, rfl⟩
set_option maxHeartbeats 2000000 in
theorem hvalue_c {w : World} (s : ByteArray) (hs : s.size ≤ 1073741824) : Calls Try.prog 7 #[.string s] w fun e w' => e = .returned (.bool (valI (sb s))) ∧ w = w' := by
  obtain ⟨l, hl⟩ : ∃ l, sb s = l := ⟨_, rfl⟩
  obtain ⟨n, hn⟩ : ∃ n, s.size = n := ⟨_, rfl⟩
  have hln : l.length = n := by rw [← hl, ← hn]; exact length_sb s
  have hp := hpre_c (w := w) s ⟨#[32]⟩
  have hq := hsuf_c (w := w) s ⟨#[32]⟩ hs
  rw [show sb ⟨#[32]⟩ = [32] from rfl, hl] at hp hq
  rw [show ([32] : List Int).reverse = [32] from rfl] at hq
  have HL := Lib.hid hl; have HN := Lib.hid hn; have HLN := Lib.hid hln
  rw [hl]
  clear hl hln hs
  by_cases h2 : 16 < n
  · have e : valI l = false := by unfold valI; rw [HLN.out, decide_eq_false (by omega)]; rfl
    have h2' : (16 : Int) < n := by omega
    rw [e]; clear e h2 hp hq
    go_enter Try.func7, Try.ntmps7
    go_wp2
    go_ret
    exact ⟨rfl, rfl⟩
  · have h2' : ¬ (16 : Int) < n := by omega
    cases hb1 : begI [32] l with
    | true =>
      have e : valI l = false := by unfold valI; rw [hb1]; simp
      rw [hb1] at hp
      have HP := Lib.hid hp
      rw [e]; clear e h2 hp hq hb1
      go_enter Try.func7, Try.ntmps7
      go_wp2_with fail
      with_reducible refine HP.out.mono ?_
      rintro e w2 ⟨rfl, rfl⟩
      clear HP
      go_wp2
      go_ret
      exact ⟨rfl, rfl⟩
    | false =>
      cases hb2 : begI [32] l.reverse with
      | true =>
        have e : valI l = false := by unfold valI; rw [hb1, hb2]; simp
        rw [hb1] at hp
        rw [hb2] at hq
        have HP := Lib.hid hp; have HQ := Lib.hid hq
        rw [e]; clear e h2 hp hq hb1 hb2
        go_enter Try.func7, Try.ntmps7
        go_wp2_with fail
        with_reducible refine HP.out.mono ?_
        rintro e w2 ⟨rfl, rfl⟩
        clear HP
        go_wp2_with fail
        with_reducible refine HQ.out.mono ?_
        rintro e w2 ⟨rfl, rfl⟩
        clear HQ
        go_wp2
        go_ret
        exact ⟨rfl, rfl⟩
      | false =>
        have e : valI l = l.all vbI := by unfold valI; rw [hb1, hb2, HLN.out, decide_eq_true (by omega)]; simp
        rw [hb1] at hp
        rw [hb2] at hq
        have HP := Lib.hid hp; have HQ := Lib.hid hq
        rw [e]; clear e h2 hp hq hb1 hb2
        go_enter Try.func7, Try.ntmps7
        go_wp2_with fail
        with_reducible refine HP.out.mono ?_
        rintro e w2 ⟨rfl, rfl⟩
        clear HP
        go_wp2_with fail
        with_reducible refine HQ.out.mono ?_
        rintro e w2 ⟨rfl, rfl⟩
        clear HQ
        go_wp2
        clear hn
        go_loopw [17] (fun t w' => ∃ k : Nat, k ≤ n ∧ t = .int .i64 k ∧ Hid ((l.take k).all vbI = true) ∧ w' = w) (fun t _ => n - (intOf t).toNat)
        case atStart => exact ⟨0, Nat.zero_le _, rfl, Lib.hid rfl, rfl⟩
        case round =>
          obtain ⟨k, hk, rfl, HA, rfl⟩ := hrel
          by_cases hlt : k < n
          · have hix := index_sb wr s k (by rw [HN.out]; exact hlt)
            rw [HL.out] at hix
            have hkn : (k : Int) < n := by omega
            have hkl : k < l.length := by rw [HLN.out]; exact hlt
            by_cases hx1 : l.getD k 0 < 32
            · have HE := Lib.hid (all_not (f := vbI) hkl (by unfold vbI; rw [decide_eq_false_iff_not]; omega))
              generalize l.getD k 0 = x at *
              clear hkl
              go_wp2
              go_ret
              exact ⟨by rw [HE.out]; rfl, rfl⟩
            · by_cases hx2 : 126 < l.getD k 0
              · have HE := Lib.hid (all_not (f := vbI) hkl (by unfold vbI; rw [decide_eq_false_iff_not]; omega))
                generalize l.getD k 0 = x at *
                clear hkl
                go_wp2
                go_ret
                exact ⟨by rw [HE.out]; rfl, rfl⟩
              · have HST := Lib.hid (all_step (f := vbI) hkl HA.out (by unfold vbI; rw [decide_eq_true_iff]; omega))
                generalize l.getD k 0 = x at *
                clear hkl
                go_wp2
                go_roundw
                case rel => exact ⟨k + 1, by omega, by go_num, HST, trivial⟩
                case measure => simp [intOf]; omega
          · obtain rfl : k = n := by omega
            have hall := HA.out
            rw [List.take_of_length_le (by rw [HLN.out]; exact Nat.le_refl _)] at hall
            have HALL := Lib.hid hall
            clear hall
            go_wp2
            go_ret
            exact ⟨by rw [HALL.out]; rfl, rfl⟩
end Go.Proofs.Ytbaidlemlkklhaa
