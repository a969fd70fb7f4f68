/-
  Package url: the parts of a host, a port, a scheme (inner functions of the landed program).
-/
import Derived.Test.YtakihnmajgmnpaaDoorUrlV
namespace Go.Proofs.YtakihnmajgmnpaaDoor
set_option linter.unusedVariables false
set_option linter.unusedSimpArgs false
set_option maxRecDepth 20000
open Go.RowKit

set_option maxHeartbeats 4000000 in
theorem isHostPart_c {w : World} (s : ByteArray) (hs : s.size ≤ 1073741824) : Calls Tryd.prog 54 #[.string s] w fun e w' => e = .returned (.bool (decide (∀ x ∈ sb s, HB0 x))) ∧ w = w' := by
  obtain ⟨l, hl⟩ : ∃ l, sb s = l := ⟨_, rfl⟩
  obtain ⟨n, hn⟩ : ∃ n, s.size = n := ⟨_, rfl⟩
  have hln : l.length = n := by rw [← hl, ← hn]; exact length_sb s
  have HL := Lib.hid hl; have HN := Lib.hid hn; have HLN := Lib.hid hln
  obtain ⟨o, ho⟩ : ∃ o, decide (∀ x ∈ l, HB0 x) = o := ⟨_, rfl⟩
  have HO := Lib.hid ho
  have hfail : ¬ (∀ x ∈ l, HB0 x) → o = false := fun h => by rw [← HO.out]; exact decide_eq_false h
  have HF := Lib.hid hfail
  rw [hl, ho]
  rw [hn] at hs
  clear hl hln ho hfail
  go_enter Tryd.func54, Tryd.ntmps54
  go_wp2
  go_loopw [7] (fun t w' => ∃ i : Nat, i ≤ n ∧ t = .int .i64 i ∧ Hid (∀ j, j < i → HB0 (l.getD j 0)) ∧ w' = w) (fun t _ => n - (intOf t).toNat)
  case atStart => exact ⟨0, Nat.zero_le _, rfl, Lib.hid (fun j hj => by omega), rfl⟩
  case round =>
    obtain ⟨i, hi, rfl, HAT, rfl⟩ := hrel
    by_cases hlt : i < n
    · have hix : i < l.length := by rw [HLN.out]; exact hlt
      have h5 := index_at wr s i i rfl (by rw [hn]; exact hlt)
      rw [HL.out] at h5
      have hin : (i : Int) < n := by omega
      have hmem : l.getD i 0 ∈ l := by rw [List.getD_eq_getElem?_getD, List.getElem?_eq_getElem hix]; exact List.getElem_mem hix
      have hbad : ¬ HB0 (l.getD i 0) → o = false := fun e => HF.out (fun h => e (h _ hmem))
      have hgood : HB0 (l.getD i 0) → ∀ j, j < i + 1 → HB0 (l.getD j 0) := fun e j hj => by
        rcases (by omega : j < i ∨ j = i) with h | rfl
        · exact HAT.out j h
        · exact e
      have HBAD := Lib.hid hbad; have HG := Lib.hid hgood
      clear hbad hgood hix hmem
      generalize l.getD i 0 = x at *
      rcases (by omega : (97 ≤ x ∧ x ≤ 122) ∨ (48 ≤ x ∧ x ≤ 57) ∨ x = 45 ∨ (x < 48 ∧ x ≠ 45) ∨ (57 < x ∧ x < 97) ∨ 122 < x) with ⟨c1, c2⟩ | ⟨c1, c2⟩ | rfl | ⟨c1, c0⟩ | ⟨c1, c2⟩ | c1
      · have hg := HG.out (.inl ⟨c1, c2⟩)
        have HGG := Lib.hid hg
        have t45 : (x == 45) = false := beq_eq_false_iff_ne.2 (by omega)
        clear hg
        go_wp2
        go_roundw
        case rel => exact ⟨i + 1, by omega, by go_num, HGG, trivial⟩
        case measure => simp [intOf]; omega
      · have hg := HG.out (.inr (.inl ⟨c1, c2⟩))
        have HGG := Lib.hid hg
        have c3 : ¬ (97 ≤ x) := by omega
        have t45 : (x == 45) = false := beq_eq_false_iff_ne.2 (by omega)
        clear hg
        go_wp2
        go_roundw
        case rel => exact ⟨i + 1, by omega, by go_num, HGG, trivial⟩
        case measure => simp [intOf]; omega
      · have hg := HG.out (.inr (.inr rfl))
        have HGG := Lib.hid hg
        clear hg
        go_wp2
        go_roundw
        case rel => exact ⟨i + 1, by omega, by go_num, HGG, trivial⟩
        case measure => simp [intOf]; omega
      · have hno := HBAD.out (fun h => by unfold HB0 at h; omega)
        have HNO := Lib.hid hno
        have c3 : ¬ (97 ≤ x) := by omega
        have c4 : ¬ (48 ≤ x) := by omega
        have t45 : (x == 45) = false := beq_eq_false_iff_ne.2 c0
        clear hno c0
        go_wp2
        go_ret
        exact ⟨by rw [HNO.out]; rfl, rfl⟩
      · have hno := HBAD.out (fun h => by unfold HB0 at h; omega)
        have HNO := Lib.hid hno
        have c3 : ¬ (97 ≤ x) := by omega
        have c4 : ¬ (x ≤ 57) := by omega
        have c5 : 48 ≤ x := by omega
        have t45 : (x == 45) = false := beq_eq_false_iff_ne.2 (by omega)
        clear hno
        go_wp2
        go_ret
        exact ⟨by rw [HNO.out]; rfl, rfl⟩
      · have hno := HBAD.out (fun h => by unfold HB0 at h; omega)
        have HNO := Lib.hid hno
        have c3 : ¬ (x ≤ 122) := by omega
        have c4 : ¬ (x ≤ 57) := by omega
        have c5 : 48 ≤ x := by omega
        have c6 : 97 ≤ x := by omega
        have t45 : (x == 45) = false := beq_eq_false_iff_ne.2 (by omega)
        clear hno
        go_wp2
        go_ret
        exact ⟨by rw [HNO.out]; rfl, rfl⟩
    · obtain rfl : i = n := by omega
      have hyes : o = true := by
        rw [← HO.out]
        refine decide_eq_true (fun x hx => ?_)
        obtain ⟨j, hj, rfl⟩ := List.mem_iff_getElem.1 hx
        have := HAT.out j (by rw [HLN.out] at hj; exact hj)
        rwa [List.getD_eq_getElem?_getD, List.getElem?_eq_getElem hj] at this
      have HY := Lib.hid hyes
      clear hyes
      go_wp2
      go_ret
      exact ⟨by rw [HY.out]; rfl, rfl⟩
theorem ownPort_c {w : World} (s : ByteArray) : Calls Tryd.prog 45 #[.string s] w fun e w' => e = .returned (.int .i64 (ownI (sb s))) ∧ w = w' := by
  have hb : (s.toList == [104, 116, 116, 112, 115]) = decide (sb s = httpsI) := beq_lit s _
  unfold ownI
  by_cases h : sb s = httpsI
  · rw [if_pos h]
    rw [decide_eq_true h] at hb
    clear h
    go_enter Tryd.func45, Tryd.ntmps45
    go_wp2
    go_ret
    exact ⟨rfl, rfl⟩
  · rw [if_neg h]
    rw [decide_eq_false h] at hb
    clear h
    go_enter Tryd.func45, Tryd.ntmps45
    go_wp2
    go_ret
    exact ⟨rfl, rfl⟩
theorem readScheme_c {w0 w : World} {R : Blks} (hO : Own w0 w R) (s : ByteArray) (hs : s.size ≤ 1073741824) :
    Calls Tryd.prog 41 #[.string s] w fun e w' => e = .returned (.tuple #[.string (strOfNums ((schI (sb s)).getD [])), .bool (schI (sb s)).isSome]) ∧ Own w0 w' R := by
  have hc := lower_c hO s hs
  have hB : Byt (lowL (sb s)) := lowL_byt (byt_sb s)
  have hb1 : ((strOfNums (lowL (sb s))).toList == [104, 116, 116, 112]) = decide (lowL (sb s) = httpI) := by rw [beq_lit, sb_str hB]; rfl
  have hb2 : ((strOfNums (lowL (sb s))).toList == [104, 116, 116, 112, 115]) = decide (lowL (sb s) = httpsI) := by rw [beq_lit, sb_str hB]; rfl
  have HC := Lib.hid hc
  unfold schI
  generalize lowL (sb s) = l at *
  clear hc hO hB
  have s1 : strOfNums httpI = ⟨#[104, 116, 116, 112]⟩ := by decide +kernel
  have s2 : strOfNums httpsI = ⟨#[104, 116, 116, 112, 115]⟩ := by decide +kernel
  have S1 := Lib.hid s1; have S2 := Lib.hid s2
  clear s1 s2
  by_cases h1 : l = httpI
  · rw [if_pos h1]
    rw [decide_eq_true h1] at hb1
    clear h1 hb2
    generalize strOfNums l = x at *
    go_enter Tryd.func41, Tryd.ntmps41
    go_wp2_with fail
    with_reducible refine HC.out.mono ?_
    rintro e w1 ⟨rfl, hO1⟩
    have HO1 := Lib.hid hO1
    clear hO1 HC
    go_wp2
    go_ret2
    exact ⟨by simp only [Option.getD_some, Option.isSome_some]; rw [S1.out]; rfl, HO1.out⟩
  · rw [if_neg h1]
    rw [decide_eq_false h1] at hb1
    clear h1
    by_cases h2 : l = httpsI
    · rw [if_pos h2]
      rw [decide_eq_true h2] at hb2
      clear h2
      generalize strOfNums l = x at *
      go_enter Tryd.func41, Tryd.ntmps41
      go_wp2_with fail
      with_reducible refine HC.out.mono ?_
      rintro e w1 ⟨rfl, hO1⟩
      have HO1 := Lib.hid hO1
      clear hO1 HC
      go_wp2
      go_ret2
      exact ⟨by simp only [Option.getD_some, Option.isSome_some]; rw [S2.out]; rfl, HO1.out⟩
    · rw [if_neg h2]
      rw [decide_eq_false h2] at hb2
      clear h2
      generalize strOfNums l = x at *
      go_enter Tryd.func41, Tryd.ntmps41
      go_wp2_with fail
      with_reducible refine HC.out.mono ?_
      rintro e w1 ⟨rfl, hO1⟩
      have HO1 := Lib.hid hO1
      clear hO1 HC
      go_wp2
      go_ret2
      exact ⟨rfl, HO1.out⟩
set_option maxHeartbeats 4000000 in
theorem readPort_c {w : World} (s : ByteArray) : Calls Tryd.prog 44 #[.string s] w fun e w' => e = .returned (.tuple #[.int .i64 ((figI (sb s) 1 5).getD 0), .bool (prtI (sb s)).isSome]) ∧ w = w' := by
  unfold prtI
  obtain ⟨l, hl⟩ : ∃ l, sb s = l := ⟨_, rfl⟩
  obtain ⟨n, hn⟩ : ∃ n, s.size = n := ⟨_, rfl⟩
  have hln : l.length = n := by rw [← hl, ← hn]; exact length_sb s
  have HL := Lib.hid hl; have HN := Lib.hid hn; have HLN := Lib.hid hln
  obtain ⟨o, ho⟩ : ∃ o, figI l 1 5 = o := ⟨_, rfl⟩
  have HO := Lib.hid ho
  rw [hl, ho]
  clear hl hln ho
  by_cases h1 : (n : Int) < 1
  · have hno : o = none := by rw [← HO.out]; unfold figI; rw [if_neg]; intro h; have := h.1; rw [HLN.out] at this; omega
    have HNO := Lib.hid hno
    have h1' : n < 1 := by omega
    clear hno
    go_enter Tryd.func44, Tryd.ntmps44
    go_wp2
    go_ret2
    exact ⟨by rw [HNO.out]; rfl, rfl⟩
  · by_cases h2 : 5 < (n : Int)
    · have hno : o = none := by rw [← HO.out]; unfold figI; rw [if_neg]; intro h; have := h.2.1; rw [HLN.out] at this; omega
      have HNO := Lib.hid hno
      have h1' : ¬ n < 1 := by omega
      have h2' : 5 < n := by omega
      clear hno
      go_enter Tryd.func44, Tryd.ntmps44
      go_wp2
      go_ret2
      exact ⟨by rw [HNO.out]; rfl, rfl⟩
    · have h1' : ¬ n < 1 := by omega
      have h2' : ¬ 5 < n := by omega
      go_enter Tryd.func44, Tryd.ntmps44
      go_wp2
      have hn5 : n ≤ 5 := by omega
      go_loopw [4, 17] (fun u t w' => ∃ i : Nat, i ≤ n ∧ t = .int .i64 i ∧ Hid (u = .int .i64 (figN (l.take i))) ∧ Hid (∀ x ∈ l.take i, 48 ≤ x ∧ x ≤ 57) ∧ w' = w) (fun _ t _ => n - (intOf t).toNat)
      case atStart => exact ⟨0, Nat.zero_le _, rfl, rfl, Lib.hid (by simp), rfl⟩
      case round =>
        obtain ⟨i, hi, rfl, HU, HA, rfl⟩ := hrel
        have hu := HU.out
        subst hu
        have hb := figN_bound (l.take i) HA.out
        have hp : (10 : Int) ^ (l.take i).length ≤ 10 ^ 5 := by
          have : (l.take i).length ≤ 5 := by rw [List.length_take]; omega
          have hall : ∀ k, k < 6 → (10 : Int) ^ k ≤ 10 ^ 5 := by decide
          exact hall _ (by omega)
        have hf0 : 0 ≤ figN (l.take i) := hb.1
        have hf1 : figN (l.take i) < 100000 := Int.lt_of_lt_of_le hb.2 hp
        clear hb hp
        by_cases hlt : i < n
        · have hix : i < l.length := by rw [HLN.out]; exact hlt
          have h3 := index_at wr s i i rfl (by rw [hn]; exact hlt)
          rw [HL.out] at h3
          have hin : (i : Int) < n := by omega
          have hts : l.take (i + 1) = l.take i ++ [l.getD i 0] := by rw [List.take_succ_eq_append_getElem hix, List.getD_eq_getElem?_getD, List.getElem?_eq_getElem hix]; rfl
          have hmem : l.getD i 0 ∈ l := by rw [List.getD_eq_getElem?_getD, List.getElem?_eq_getElem hix]; exact List.getElem_mem hix
          have hsn := figN_snoc (l.take i) (l.getD i 0)
          rw [← hts] at hsn
          have HSN := Lib.hid hsn; have HMEM := Lib.hid hmem; have HTS := Lib.hid hts
          clear hts hsn hmem hix
          generalize figN (l.take i) = f at *
          generalize l.getD i 0 = x at *
          by_cases h4 : x < 48
          · have hno : o = none := by rw [← HO.out]; unfold figI; rw [if_neg]; intro h; have := h.2.2 x HMEM.out; omega
            have HNO := Lib.hid hno
            clear hno
            go_wp2
            go_ret2
            exact ⟨by rw [HNO.out]; rfl, rfl⟩
          · by_cases h5 : 57 < x
            · have hno : o = none := by rw [← HO.out]; unfold figI; rw [if_neg]; intro h; have := h.2.2 x HMEM.out; omega
              have HNO := Lib.hid hno
              clear hno
              go_wp2
              go_ret2
              exact ⟨by rw [HNO.out]; rfl, rfl⟩
            · have hA2 : ∀ y ∈ l.take (i + 1), 48 ≤ y ∧ y ≤ 57 := by
                rw [HTS.out]
                intro y hy
                rcases List.mem_append.1 hy with hy | hy
                · exact HA.out y hy
                · rw [List.mem_singleton] at hy; omega
              have HA2 := Lib.hid hA2
              clear hA2
              go_wp2
              go_roundw
              case rel => exact ⟨i + 1, by omega, by go_num, Lib.hid (by rw [HSN.out, Int.mul_comm]), HA2, trivial⟩
              case measure => simp [intOf]; omega
        · obtain rfl : i = n := by omega
          have hta : l.take i = l := List.take_of_length_le (by rw [HLN.out]; exact Nat.le_refl _)
          have hal := HA.out
          rw [hta] at hal hf0 hf1
          rw [hta]
          have hyes : o = some (figN l) := by rw [← HO.out]; unfold figI; rw [if_pos ⟨by rw [HLN.out]; omega, by rw [HLN.out]; omega, hal⟩]
          have HY := Lib.hid hyes
          clear hyes hta hal
          generalize figN l = f at *
          by_cases h6 : 65535 < f
          · have h6' : ¬ f ≤ 65535 := by omega
            go_wp2
            go_ret2
            exact ⟨by rw [HY.out]; simp only [Option.bind_some, Option.getD_some]; rw [if_pos (by omega)]; simp, rfl⟩
          · have h6' : f ≤ 65535 := by omega
            go_wp2
            go_ret2
            exact ⟨by rw [HY.out]; simp only [Option.bind_some, Option.getD_some]; rw [if_neg (by omega)]; simp, rfl⟩
end Go.Proofs.YtakihnmajgmnpaaDoor
