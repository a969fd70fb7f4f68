/-
  The landed program's Number, isName, isValue.
-/
import Derived.Test.YtkmfbfmmlldphaaDoorRepL
import Derived.Test.YtkmfbfmmlldphaaDoorHead2
import Derived.Test.YtkmfbfmmlldphaaDoorPct6
namespace Go.Proofs.YtkmfbfmmlldphaaDoor
set_option linter.unusedVariables false
set_option linter.unusedSimpArgs false
set_option maxRecDepth 20000
open Go.RowKit

set_option maxHeartbeats 2000000 in
theorem rnumber_q {w : World} (s : ByteArray) : Calls Tryd.prog 12 #[.string s] w fun e w' => e = .returned (.tuple #[.int .i64 ((figI (sb s) 1 6).getD 0), .bool (figI (sb s) 1 6).isSome]) ∧ w = w' := by
  obtain ⟨l, hl⟩ : ∃ l, sb s = l := ⟨_, rfl⟩
  obtain ⟨n, hn⟩ : ∃ n, s.size = n := ⟨_, rfl⟩
  have hln : l.length = n := by rw [← hl, ← hn]; exact length_sb s
  have HL := Lib.hid hl; have HN := Lib.hid hn; have HLN := Lib.hid hln
  obtain ⟨o, ho⟩ : ∃ o, figI l 1 6 = o := ⟨_, rfl⟩
  have HO := Lib.hid ho
  rw [hl, ho]
  clear hl hln ho
  by_cases h1 : (n : Int) < 1
  · have hno : o = none := by rw [← HO.out]; unfold figI; rw [if_neg]; intro h; have := h.1; rw [HLN.out] at this; omega
    have HNO := Lib.hid hno
    clear hno
    go_enter Tryd.func12, Tryd.ntmps12
    go_wp2
    go_ret2
    exact ⟨by rw [HNO.out]; rfl, rfl⟩
  · by_cases h2 : (6 : Int) < n
    · have hno : o = none := by rw [← HO.out]; unfold figI; rw [if_neg]; intro h; have := h.2.1; rw [HLN.out] at this; omega
      have HNO := Lib.hid hno
      clear hno
      go_enter Tryd.func12, Tryd.ntmps12
      go_wp2
      go_ret2
      exact ⟨by rw [HNO.out]; rfl, rfl⟩
    · go_enter Tryd.func12, Tryd.ntmps12
      go_wp2
      have hn18 : n ≤ 6 := by omega
      go_loopw [4, 17] (fun u t w' => ∃ i : Nat, i ≤ n ∧ t = .int .i64 i ∧ Hid (u = .int .i64 (figN (l.take i))) ∧ Hid (∀ x ∈ l.take i, 48 ≤ x ∧ x ≤ 57) ∧ w' = w) (fun _ t _ => n - (intOf t).toNat)
      case atStart => exact ⟨0, Nat.zero_le _, rfl, rfl, Lib.hid (by simp), rfl⟩
      case round =>
        obtain ⟨i, hi, rfl, HU, HA, rfl⟩ := hrel
        have hu := HU.out
        subst hu
        have hb := figN_bound (l.take i) HA.out
        have hp : (10 : Int) ^ (l.take i).length ≤ 10 ^ 6 := by
          have : (l.take i).length ≤ 6 := by rw [List.length_take]; omega
          have hall : ∀ k, k < 7 → (10 : Int) ^ k ≤ 10 ^ 6 := by decide
          exact hall _ (by omega)
        by_cases hlt : i < n
        · have hix : i < l.length := by rw [HLN.out]; exact hlt
          have h3 := index_at wr s i i rfl (by rw [hn]; exact hlt)
          rw [HL.out] at h3
          have hin : (i : Int) < n := by omega
          have hts : l.take (i + 1) = l.take i ++ [l.getD i 0] := by rw [List.take_succ_eq_append_getElem hix, List.getD_eq_getElem?_getD, List.getElem?_eq_getElem hix]; rfl
          have hmem : l.getD i 0 ∈ l := by rw [List.getD_eq_getElem?_getD, List.getElem?_eq_getElem hix]; exact List.getElem_mem hix
          have hsn := figN_snoc (l.take i) (l.getD i 0)
          rw [← hts] at hsn
          have HSN := Lib.hid hsn; have HMEM := Lib.hid hmem; have HTS := Lib.hid hts
          have hf0 : 0 ≤ figN (l.take i) := hb.1
          have hf1 : figN (l.take i) < 1000000 := Int.lt_of_lt_of_le hb.2 hp
          clear hts hsn hmem hb hp hix
          generalize figN (l.take i) = f at *
          generalize l.getD i 0 = x at *
          by_cases h4 : x < 48
          · have hno : o = none := by rw [← HO.out]; unfold figI; rw [if_neg]; intro h; have := h.2.2 x HMEM.out; omega
            have HNO := Lib.hid hno
            clear hno
            go_wp2
            go_ret2
            exact ⟨by rw [HNO.out]; rfl, rfl⟩
          · by_cases h5 : 57 < x
            · have hno : o = none := by rw [← HO.out]; unfold figI; rw [if_neg]; intro h; have := h.2.2 x HMEM.out; omega
              have HNO := Lib.hid hno
              clear hno
              go_wp2
              go_ret2
              exact ⟨by rw [HNO.out]; rfl, rfl⟩
            · have hA2 : ∀ y ∈ l.take (i + 1), 48 ≤ y ∧ y ≤ 57 := by
                rw [HTS.out]
                intro y hy
                rcases List.mem_append.1 hy with hy | hy
                · exact HA.out y hy
                · rw [List.mem_singleton] at hy; omega
              have HA2 := Lib.hid hA2
              clear hA2
              go_wp2
              go_roundw
              case rel => exact ⟨i + 1, by omega, by go_num, Lib.hid (by rw [HSN.out]; congr 1; omega), HA2, trivial⟩
              case measure => simp [intOf]; omega
        · obtain rfl : i = n := by omega
          have hta : l.take i = l := List.take_of_length_le (by rw [HLN.out]; exact Nat.le_refl _)
          have hal := HA.out
          rw [hta] at hal hb
          rw [hta]
          have hyes : o = some (figN l) := by rw [← HO.out]; unfold figI; rw [if_pos ⟨by rw [HLN.out]; omega, by rw [HLN.out]; omega, hal⟩]
          have HY := Lib.hid hyes
          clear hyes hta hb hp hal
          generalize figN l = f at *
          go_wp2
          go_ret2
          exact ⟨by rw [HY.out]; rfl, rfl⟩
theorem nameI_one (s : ByteArray) (k : Nat) (h : k < s.size) : nameI (sb (s.extract k (k + 1))) = nbI ((sb s).getD k 0) := by
  have hk : k < (sb s).length := by rw [length_sb]; exact h
  have e : sb (s.extract k (k + 1)) = [(sb s).getD k 0] := by
    rw [sb_extract, List.take_succ_eq_append_getElem hk, List.getD_eq_getElem?_getD, List.getElem?_eq_getElem hk, Option.getD_some, List.drop_append_of_le_length (by rw [List.length_take]; omega), List.drop_of_length_le (by rw [List.length_take]; omega)]
    rfl
  rw [e]
  unfold nameI
  simp
set_option maxHeartbeats 2000000 in
theorem risName_c {w : World} (s : ByteArray) (hs : s.size ≤ 1073741824) : Calls Tryd.prog 50 #[.string s] w fun e w' => e = .returned (.bool (decide (NameOk 20 (sb s)))) ∧ w = w' := by
  obtain ⟨l, hl⟩ : ∃ l, sb s = l := ⟨_, rfl⟩
  obtain ⟨n, hn⟩ : ∃ n, s.size = n := ⟨_, rfl⟩
  have hln : l.length = n := by rw [← hl, ← hn]; exact length_sb s
  have HL := Lib.hid hl; have HN := Lib.hid hn; have HLN := Lib.hid hln
  rw [hl]
  have hno := nameOk_all l
  clear hl hln
  by_cases h1 : n < 1
  · have e : decide (NameOk 20 l) = false := decide_eq_false (fun h => by have := (hno.1 h).2.1; rw [HLN.out] at this; omega)
    have h1' : (n : Int) < 1 := by omega
    rw [e]; clear e h1 hno
    go_enter Tryd.func50, Tryd.ntmps50
    go_wp2
    go_ret
    exact ⟨rfl, rfl⟩
  · have h1' : ¬ (n : Int) < 1 := by omega
    by_cases h2 : 20 < n
    · have e : decide (NameOk 20 l) = false := decide_eq_false (fun h => by have := (hno.1 h).2.2; rw [HLN.out] at this; omega)
      have h2' : (20 : Int) < n := by omega
      rw [e]; clear e h1 h2 hno
      go_enter Tryd.func50, Tryd.ntmps50
      go_wp2
      go_ret
      exact ⟨rfl, rfl⟩
    · have h2' : ¬ (20 : Int) < n := by omega
      have e : decide (NameOk 20 l) = l.all nbI := by
        rw [Bool.eq_iff_iff, decide_eq_true_iff, hno]
        exact ⟨fun h => h.1, fun h => ⟨h, by rw [HLN.out]; omega, by rw [HLN.out]; omega⟩⟩
      rw [e]; clear e h1 hno
      go_enter Tryd.func50, Tryd.ntmps50
      go_wp2
      clear hn
      go_loopw [14] (fun t w' => ∃ k : Nat, k ≤ n ∧ t = .int .i64 k ∧ Hid ((l.take k).all nbI = true) ∧ w' = w) (fun t _ => n - (intOf t).toNat)
      case atStart => exact ⟨0, Nat.zero_le _, rfl, Lib.hid rfl, rfl⟩
      case round =>
        obtain ⟨k, hk, rfl, HA, rfl⟩ := hrel
        by_cases hlt : k < n
        · have hkn : (k : Int) < n := by omega
          have hkl : k < l.length := by rw [HLN.out]; exact hlt
          have hsz : (k : Int) + 1 ≤ s.size := by rw [HN.out]; omega
          have hto : ((k : Int) + 1).toNat = k + 1 := by omega
          have hk0 : (0 : Int) ≤ k := by omega
          have hk1 : (0 : Int) ≤ (k : Int) + 1 := by omega
          have hkk : (k : Int) ≤ (k : Int) + 1 := by omega
          have hcall := hname_c (w := wr) (s.extract k (k + 1))
          rw [nameI_one s k (by rw [HN.out]; exact hlt), HL.out] at hcall
          cases hb : nbI (l.getD k 0) with
          | true =>
            have HST := Lib.hid (all_step hkl HA.out hb)
            rw [hb] at hcall
            have HC := Lib.hid hcall
            clear hb hcall hkl
            go_wp2_with fail
            with_reducible refine HC.out.mono ?_
            rintro e w2 ⟨rfl, rfl⟩
            clear HC
            go_wp2
            go_roundw
            case rel => exact ⟨k + 1, by omega, by go_num, HST, trivial⟩
            case measure => simp [intOf]; omega
          | false =>
            have HE := Lib.hid (all_not hkl hb)
            rw [hb] at hcall
            have HC := Lib.hid hcall
            clear hb hcall hkl
            go_wp2_with fail
            with_reducible refine HC.out.mono ?_
            rintro e w2 ⟨rfl, rfl⟩
            clear HC
            go_wp2
            go_ret
            exact ⟨by rw [HE.out]; rfl, rfl⟩
        · obtain rfl : k = n := by omega
          have hall := HA.out
          rw [List.take_of_length_le (by rw [HLN.out]; exact Nat.le_refl _)] at hall
          have HALL := Lib.hid hall
          clear hall
          go_wp2
          go_ret
          exact ⟨by rw [HALL.out]; rfl, rfl⟩
theorem vbI_iff (x : Int) : vbI x = true ↔ (32 ≤ x ∧ x ≤ 126) := by unfold vbI; rw [decide_eq_true_iff]
theorem vbI_not (x : Int) (h : ¬ (32 ≤ x ∧ x ≤ 126)) : vbI x = false := by rw [← Bool.not_eq_true, vbI_iff]; exact h
set_option maxHeartbeats 2000000 in
theorem risValue_c {w : World} (s : ByteArray) (hs : s.size ≤ 1073741824) : Calls Tryd.prog 51 #[.string s] w fun e w' => e = .returned (.bool (decide ((sb s).all vbI = true ∧ (sb s).length ≤ 40))) ∧ w = w' := by
  obtain ⟨l, hl⟩ : ∃ l, sb s = l := ⟨_, rfl⟩
  obtain ⟨n, hn⟩ : ∃ n, s.size = n := ⟨_, rfl⟩
  have hln : l.length = n := by rw [← hl, ← hn]; exact length_sb s
  have HL := Lib.hid hl; have HN := Lib.hid hn; have HLN := Lib.hid hln
  rw [hl]
  clear hl hln
  by_cases h2 : 40 < n
  · have e : decide (l.all vbI = true ∧ l.length ≤ 40) = false := decide_eq_false (fun h => by have := h.2; rw [HLN.out] at this; omega)
    have h2' : (40 : Int) < n := by omega
    rw [e]; clear e h2
    go_enter Tryd.func51, Tryd.ntmps51
    go_wp2
    go_ret
    exact ⟨rfl, rfl⟩
  · have h2' : ¬ (40 : Int) < n := by omega
    have e : decide (l.all vbI = true ∧ l.length ≤ 40) = l.all vbI := by
      rw [Bool.eq_iff_iff, decide_eq_true_iff]
      exact ⟨fun h => h.1, fun h => ⟨h, by rw [HLN.out]; omega⟩⟩
    rw [e]; clear e
    go_enter Tryd.func51, Tryd.ntmps51
    go_wp2
    clear hn
    go_loopw [9] (fun t w' => ∃ k : Nat, k ≤ n ∧ t = .int .i64 k ∧ Hid ((l.take k).all vbI = true) ∧ w' = w) (fun t _ => n - (intOf t).toNat)
    case atStart => exact ⟨0, Nat.zero_le _, rfl, Lib.hid rfl, rfl⟩
    case round =>
      obtain ⟨k, hk, rfl, HA, rfl⟩ := hrel
      by_cases hlt : k < n
      · have hkn : (k : Int) < n := by omega
        have hkl : k < l.length := by rw [HLN.out]; exact hlt
        have hix := index_at wr s k k rfl (by rw [HN.out]; exact hlt)
        rw [HL.out] at hix
        have hst := all_step (f := vbI) hkl HA.out
        have hnt := all_not (f := vbI) hkl
        generalize l.getD k 0 = x at *
        by_cases h3 : x < 32
        · have HE := Lib.hid (hnt (vbI_not x (by omega)))
          clear hst hnt hkl
          go_wp2
          go_ret
          exact ⟨by rw [HE.out]; rfl, rfl⟩
        · by_cases h4 : 126 < x
          · have HE := Lib.hid (hnt (vbI_not x (by omega)))
            clear hst hnt hkl
            go_wp2
            go_ret
            exact ⟨by rw [HE.out]; rfl, rfl⟩
          · have HST := Lib.hid (hst ((vbI_iff x).2 ⟨by omega, by omega⟩))
            clear hst hnt hkl
            go_wp2
            go_roundw
            case rel => exact ⟨k + 1, by omega, by go_num, HST, trivial⟩
            case measure => simp [intOf]; omega
      · obtain rfl : k = n := by omega
        have hall := HA.out
        rw [List.take_of_length_le (by rw [HLN.out]; exact Nat.le_refl _)] at hall
        have HALL := Lib.hid hall
        clear hall
        go_wp2
        go_ret
        exact ⟨by rw [HALL.out]; rfl, rfl⟩
end Go.Proofs.YtkmfbfmmlldphaaDoor
