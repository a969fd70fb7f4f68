/-
  Texts that the laws stand on: UrlP1, UrlP2, UrlP3.
-/
import Derived.Test.YtfgaikacijdodaaDoorM6
import Derived.Test.YtfgaikacijdodaaDoorM3

/-
  Package url: the parts of a host, a port, a scheme (inner functions of the landed program).
-/
namespace Go.Proofs.YtfgaikacijdodaaDoor
set_option linter.unusedVariables false
set_option linter.unusedSimpArgs false
set_option maxRecDepth 20000
open Go.RowKit

set_option maxHeartbeats 4000000 in
theorem isHostPart_c {w : World} (s : ByteArray) (hs : s.size ≤ 1073741824) : Calls Tryd.prog 51 #[.string s] w fun e w' => e = .returned (.bool (decide (∀ x ∈ sb s, HB0 x))) ∧ w = w' := by
  obtain ⟨l, hl⟩ : ∃ l, sb s = l := ⟨_, rfl⟩
  obtain ⟨n, hn⟩ : ∃ n, s.size = n := ⟨_, rfl⟩
  have hln : l.length = n := by rw [← hl, ← hn]; exact length_sb s
  have HL := Lib.hid hl; have HN := Lib.hid hn; have HLN := Lib.hid hln
  obtain ⟨o, ho⟩ : ∃ o, decide (∀ x ∈ l, HB0 x) = o := ⟨_, rfl⟩
  have HO := Lib.hid ho
  have hfail : ¬ (∀ x ∈ l, HB0 x) → o = false := fun h => by rw [← HO.out]; exact decide_eq_false h
  have HF := Lib.hid hfail
  rw [hl, ho]
  rw [hn] at hs
  clear hl hln ho hfail
  go_enter Tryd.func51, Tryd.ntmps51
  go_wp2
  go_loopw [7] (fun t w' => ∃ i : Nat, i ≤ n ∧ t = .int .i64 i ∧ Hid (∀ j, j < i → HB0 (l.getD j 0)) ∧ w' = w) (fun t _ => n - (intOf t).toNat)
  case atStart => exact ⟨0, Nat.zero_le _, rfl, Lib.hid (fun j hj => by omega), rfl⟩
  case round =>
    obtain ⟨i, hi, rfl, HAT, rfl⟩ := hrel
    by_cases hlt : i < n
    · have hix : i < l.length := by rw [HLN.out]; exact hlt
      have h5 := index_at wr s i i rfl (by rw [hn]; exact hlt)
      rw [HL.out] at h5
      have hin : (i : Int) < n := by omega
      have hmem : l.getD i 0 ∈ l := by rw [List.getD_eq_getElem?_getD, List.getElem?_eq_getElem hix]; exact List.getElem_mem hix
      have hbad : ¬ HB0 (l.getD i 0) → o = false := fun e => HF.out (fun h => e (h _ hmem))
      have hgood : HB0 (l.getD i 0) → ∀ j, j < i + 1 → HB0 (l.getD j 0) := fun e j hj => by
        rcases (by omega : j < i ∨ j = i) with h | rfl
        · exact HAT.out j h
        · exact e
      have HBAD := Lib.hid hbad; have HG := Lib.hid hgood
      clear hbad hgood hix hmem
      generalize l.getD i 0 = x at *
      rcases (by omega : (97 ≤ x ∧ x ≤ 122) ∨ (48 ≤ x ∧ x ≤ 57) ∨ x = 45 ∨ (x < 48 ∧ x ≠ 45) ∨ (57 < x ∧ x < 97) ∨ 122 < x) with ⟨c1, c2⟩ | ⟨c1, c2⟩ | rfl | ⟨c1, c0⟩ | ⟨c1, c2⟩ | c1
      · have hg := HG.out (.inl ⟨c1, c2⟩)
        have HGG := Lib.hid hg
        have t45 : (x == 45) = false := beq_eq_false_iff_ne.2 (by omega)
        clear hg
        go_wp2
        go_roundw
        case rel => exact ⟨i + 1, by omega, by go_num, HGG, trivial⟩
        case measure => simp [intOf]; omega
      · have hg := HG.out (.inr (.inl ⟨c1, c2⟩))
        have HGG := Lib.hid hg
        have c3 : ¬ (97 ≤ x) := by omega
        have t45 : (x == 45) = false := beq_eq_false_iff_ne.2 (by omega)
        clear hg
        go_wp2
        go_roundw
        case rel => exact ⟨i + 1, by omega, by go_num, HGG, trivial⟩
        case measure => simp [intOf]; omega
      · have hg := HG.out (.inr (.inr rfl))
        have HGG := Lib.hid hg
        clear hg
        go_wp2
        go_roundw
        case rel => exact ⟨i + 1, by omega, by go_num, HGG, trivial⟩
        case measure => simp [intOf]; omega
      · have hno := HBAD.out (fun h => by unfold HB0 at h; omega)
        have HNO := Lib.hid hno
        have c3 : ¬ (97 ≤ x) := by omega
        have c4 : ¬ (48 ≤ x) := by omega
        have t45 : (x == 45) = false := beq_eq_false_iff_ne.2 c0
        clear hno c0
        go_wp2
        go_ret
        exact ⟨by rw [HNO.out]; rfl, rfl⟩
      · have hno := HBAD.out (fun h => by unfold HB0 at h; omega)
        have HNO := Lib.hid hno
        have c3 : ¬ (97 ≤ x) := by omega
        have c4 : ¬ (x ≤ 57) := by omega
        have c5 : 48 ≤ x := by omega
        have t45 : (x == 45) = false := beq_eq_false_iff_ne.2 (by omega)
        clear hno
        go_wp2
        go_ret
        exact ⟨by rw [HNO.out]; rfl, rfl⟩
      · have hno := HBAD.out (fun h => by unfold HB0 at h; omega)
        have HNO := Lib.hid hno
        have c3 : ¬ (x ≤ 122) := by omega
        have c4 : ¬ (x ≤ 57) := by omega
        have c5 : 48 ≤ x := by omega
        have c6 : 97 ≤ x := by omega
        have t45 : (x == 45) = false := beq_eq_false_iff_ne.2 (by omega)
        clear hno
        go_wp2
        go_ret
        exact ⟨by rw [HNO.out]; rfl, rfl⟩
    · obtain rfl : i = n := by omega
      have hyes : o = true := by
        rw [← HO.out]
        refine decide_eq_true (fun x hx => ?_)
        obtain ⟨j, hj, rfl⟩ := List.mem_iff_getElem.1 hx
        have := HAT.out j (by rw [HLN.out] at hj; exact hj)
        rwa [List.getD_eq_getElem?_getD, List.getElem?_eq_getElem hj] at this
      have HY := Lib.hid hyes
      clear hyes
      go_wp2
      go_ret
      exact ⟨by rw [HY.out]; rfl, rfl⟩
theorem ownPort_c {w : World} (s : ByteArray) : Calls Tryd.prog 35 #[.string s] w fun e w' => e = .returned (.int .i64 (ownI (sb s))) ∧ w = w' := by
  have hb : (s.toList == [104, 116, 116, 112, 115]) = decide (sb s = httpsI) := beq_lit s _
  unfold ownI
  by_cases h : sb s = httpsI
  · rw [if_pos h]
    rw [decide_eq_true h] at hb
    clear h
    go_enter Tryd.func35, Tryd.ntmps35
    go_wp2
    go_ret
    exact ⟨rfl, rfl⟩
  · rw [if_neg h]
    rw [decide_eq_false h] at hb
    clear h
    go_enter Tryd.func35, Tryd.ntmps35
    go_wp2
    go_ret
    exact ⟨rfl, rfl⟩
theorem readScheme_c {w0 w : World} {R : Blks} (hO : Own w0 w R) (s : ByteArray) (hs : s.size ≤ 1073741824) :
    Calls Tryd.prog 32 #[.string s] w fun e w' => e = .returned (.tuple #[.string (strOfNums ((schI (sb s)).getD [])), .bool (schI (sb s)).isSome]) ∧ Own w0 w' R := by
  have hc := lower_c hO s hs
  have hB : Byt (lowL (sb s)) := lowL_byt (byt_sb s)
  have hb1 : ((strOfNums (lowL (sb s))).toList == [104, 116, 116, 112]) = decide (lowL (sb s) = httpI) := by rw [beq_lit, sb_str hB]; rfl
  have hb2 : ((strOfNums (lowL (sb s))).toList == [104, 116, 116, 112, 115]) = decide (lowL (sb s) = httpsI) := by rw [beq_lit, sb_str hB]; rfl
  have HC := Lib.hid hc
  unfold schI
  generalize lowL (sb s) = l at *
  clear hc hO hB
  have s1 : strOfNums httpI = ⟨#[104, 116, 116, 112]⟩ := by decide +kernel
  have s2 : strOfNums httpsI = ⟨#[104, 116, 116, 112, 115]⟩ := by decide +kernel
  have S1 := Lib.hid s1; have S2 := Lib.hid s2
  clear s1 s2
  by_cases h1 : l = httpI
  · rw [if_pos h1]
    rw [decide_eq_true h1] at hb1
    clear h1 hb2
    generalize strOfNums l = x at *
    go_enter Tryd.func32, Tryd.ntmps32
    go_wp2_with fail
    with_reducible refine HC.out.mono ?_
    rintro e w1 ⟨rfl, hO1⟩
    have HO1 := Lib.hid hO1
    clear hO1 HC
    go_wp2
    go_ret2
    exact ⟨by simp only [Option.getD_some, Option.isSome_some]; rw [S1.out]; rfl, HO1.out⟩
  · rw [if_neg h1]
    rw [decide_eq_false h1] at hb1
    clear h1
    by_cases h2 : l = httpsI
    · rw [if_pos h2]
      rw [decide_eq_true h2] at hb2
      clear h2
      generalize strOfNums l = x at *
      go_enter Tryd.func32, Tryd.ntmps32
      go_wp2_with fail
      with_reducible refine HC.out.mono ?_
      rintro e w1 ⟨rfl, hO1⟩
      have HO1 := Lib.hid hO1
      clear hO1 HC
      go_wp2
      go_ret2
      exact ⟨by simp only [Option.getD_some, Option.isSome_some]; rw [S2.out]; rfl, HO1.out⟩
    · rw [if_neg h2]
      rw [decide_eq_false h2] at hb2
      clear h2
      generalize strOfNums l = x at *
      go_enter Tryd.func32, Tryd.ntmps32
      go_wp2_with fail
      with_reducible refine HC.out.mono ?_
      rintro e w1 ⟨rfl, hO1⟩
      have HO1 := Lib.hid hO1
      clear hO1 HC
      go_wp2
      go_ret2
      exact ⟨rfl, HO1.out⟩
set_option maxHeartbeats 4000000 in
theorem readPort_c {w : World} (s : ByteArray) : Calls Tryd.prog 34 #[.string s] w fun e w' => e = .returned (.tuple #[.int .i64 ((figI (sb s) 1 5).getD 0), .bool (prtI (sb s)).isSome]) ∧ w = w' := by
  unfold prtI
  obtain ⟨l, hl⟩ : ∃ l, sb s = l := ⟨_, rfl⟩
  obtain ⟨n, hn⟩ : ∃ n, s.size = n := ⟨_, rfl⟩
  have hln : l.length = n := by rw [← hl, ← hn]; exact length_sb s
  have HL := Lib.hid hl; have HN := Lib.hid hn; have HLN := Lib.hid hln
  obtain ⟨o, ho⟩ : ∃ o, figI l 1 5 = o := ⟨_, rfl⟩
  have HO := Lib.hid ho
  rw [hl, ho]
  clear hl hln ho
  by_cases h1 : (n : Int) < 1
  · have hno : o = none := by rw [← HO.out]; unfold figI; rw [if_neg]; intro h; have := h.1; rw [HLN.out] at this; omega
    have HNO := Lib.hid hno
    have h1' : n < 1 := by omega
    clear hno
    go_enter Tryd.func34, Tryd.ntmps34
    go_wp2
    go_ret2
    exact ⟨by rw [HNO.out]; rfl, rfl⟩
  · by_cases h2 : 5 < (n : Int)
    · have hno : o = none := by rw [← HO.out]; unfold figI; rw [if_neg]; intro h; have := h.2.1; rw [HLN.out] at this; omega
      have HNO := Lib.hid hno
      have h1' : ¬ n < 1 := by omega
      have h2' : 5 < n := by omega
      clear hno
      go_enter Tryd.func34, Tryd.ntmps34
      go_wp2
      go_ret2
      exact ⟨by rw [HNO.out]; rfl, rfl⟩
    · have h1' : ¬ n < 1 := by omega
      have h2' : ¬ 5 < n := by omega
      go_enter Tryd.func34, Tryd.ntmps34
      go_wp2
      have hn5 : n ≤ 5 := by omega
      go_loopw [4, 17] (fun u t w' => ∃ i : Nat, i ≤ n ∧ t = .int .i64 i ∧ Hid (u = .int .i64 (figN (l.take i))) ∧ Hid (∀ x ∈ l.take i, 48 ≤ x ∧ x ≤ 57) ∧ w' = w) (fun _ t _ => n - (intOf t).toNat)
      case atStart => exact ⟨0, Nat.zero_le _, rfl, rfl, Lib.hid (by simp), rfl⟩
      case round =>
        obtain ⟨i, hi, rfl, HU, HA, rfl⟩ := hrel
        have hu := HU.out
        subst hu
        have hb := figN_bound (l.take i) HA.out
        have hp : (10 : Int) ^ (l.take i).length ≤ 10 ^ 5 := by
          have : (l.take i).length ≤ 5 := by rw [List.length_take]; omega
          have hall : ∀ k, k < 6 → (10 : Int) ^ k ≤ 10 ^ 5 := by decide
          exact hall _ (by omega)
        have hf0 : 0 ≤ figN (l.take i) := hb.1
        have hf1 : figN (l.take i) < 100000 := Int.lt_of_lt_of_le hb.2 hp
        clear hb hp
        by_cases hlt : i < n
        · have hix : i < l.length := by rw [HLN.out]; exact hlt
          have h3 := index_at wr s i i rfl (by rw [hn]; exact hlt)
          rw [HL.out] at h3
          have hin : (i : Int) < n := by omega
          have hts : l.take (i + 1) = l.take i ++ [l.getD i 0] := by rw [List.take_succ_eq_append_getElem hix, List.getD_eq_getElem?_getD, List.getElem?_eq_getElem hix]; rfl
          have hmem : l.getD i 0 ∈ l := by rw [List.getD_eq_getElem?_getD, List.getElem?_eq_getElem hix]; exact List.getElem_mem hix
          have hsn := figN_snoc (l.take i) (l.getD i 0)
          rw [← hts] at hsn
          have HSN := Lib.hid hsn; have HMEM := Lib.hid hmem; have HTS := Lib.hid hts
          clear hts hsn hmem hix
          generalize figN (l.take i) = f at *
          generalize l.getD i 0 = x at *
          by_cases h4 : x < 48
          · have hno : o = none := by rw [← HO.out]; unfold figI; rw [if_neg]; intro h; have := h.2.2 x HMEM.out; omega
            have HNO := Lib.hid hno
            clear hno
            go_wp2
            go_ret2
            exact ⟨by rw [HNO.out]; rfl, rfl⟩
          · by_cases h5 : 57 < x
            · have hno : o = none := by rw [← HO.out]; unfold figI; rw [if_neg]; intro h; have := h.2.2 x HMEM.out; omega
              have HNO := Lib.hid hno
              clear hno
              go_wp2
              go_ret2
              exact ⟨by rw [HNO.out]; rfl, rfl⟩
            · have hA2 : ∀ y ∈ l.take (i + 1), 48 ≤ y ∧ y ≤ 57 := by
                rw [HTS.out]
                intro y hy
                rcases List.mem_append.1 hy with hy | hy
                · exact HA.out y hy
                · rw [List.mem_singleton] at hy; omega
              have HA2 := Lib.hid hA2
              clear hA2
              go_wp2
              go_roundw
              case rel => exact ⟨i + 1, by omega, by go_num, Lib.hid (by rw [HSN.out, Int.mul_comm]), HA2, trivial⟩
              case measure => simp [intOf]; omega
        · obtain rfl : i = n := by omega
          have hta : l.take i = l := List.take_of_length_le (by rw [HLN.out]; exact Nat.le_refl _)
          have hal := HA.out
          rw [hta] at hal hf0 hf1
          rw [hta]
          have hyes : o = some (figN l) := by rw [← HO.out]; unfold figI; rw [if_pos ⟨by rw [HLN.out]; omega, by rw [HLN.out]; omega, hal⟩]
          have HY := Lib.hid hyes
          clear hyes hta hal
          generalize figN l = f at *
          by_cases h6 : 65535 < f
          · have h6' : ¬ f ≤ 65535 := by omega
            go_wp2
            go_ret2
            exact ⟨by rw [HY.out]; simp only [Option.bind_some, Option.getD_some]; rw [if_pos (by omega)]; simp, rfl⟩
          · have h6' : f ≤ 65535 := by omega
            go_wp2
            go_ret2
            exact ⟨by rw [HY.out]; simp only [Option.bind_some, Option.getD_some]; rw [if_neg (by omega)]; simp, rfl⟩
end Go.Proofs.YtfgaikacijdodaaDoor
/-
  Package url: a host, a path (inner functions of the landed program).
-/
namespace Go.Proofs.YtfgaikacijdodaaDoor
set_option linter.unusedVariables false
set_option linter.unusedSimpArgs false
set_option maxRecDepth 20000
open Go.RowKit

set_option maxHeartbeats 4000000 in
theorem isHost_c {w0 w : World} {R : Blks} (hV : VarsOk w0) (hO : Own w0 w R) (s : ByteArray) (hs : s.size ≤ 1073741824) :
    Calls Tryd.prog 33 #[.string s] w fun e w' => e = .returned (.bool (decide (HostOk (sb s)))) ∧ Own w0 w' R := by
  rw [hostP_dec]
  obtain ⟨o, ho⟩ : ∃ o, decide (HostP (sb s)) = o := ⟨_, rfl⟩
  obtain ⟨n, hn⟩ : ∃ n, s.size = n := ⟨_, rfl⟩
  have hln : (sb s).length = n := by rw [← hn]; exact length_sb s
  have hsp := lsplit_c hV hO s hs
  have hlen := splI_len 46 (sb s)
  have hmem := splI_mem 46 (sb s)
  have hne := splI_ne 46 (sb s)
  have hBy := byt_sb s
  have hdef : o = decide (n ≤ 20 ∧ ∀ p ∈ splI 46 (sb s), PartH p) := by rw [← ho, ← hln]; rfl
  rw [ho]
  rw [hln] at hlen
  generalize sb s = l at *
  have HO := Lib.hid hO; have HD := Lib.hid hdef
  clear hO hdef ho
  by_cases h1 : 20 < n
  · have hno : o = false := by rw [HD.out]; exact decide_eq_false (fun h => by omega)
    have HNO := Lib.hid hno
    clear hno hsp hlen hmem hne hBy hln
    go_enter Tryd.func33, Tryd.ntmps33
    go_wp2
    go_ret
    exact ⟨by rw [HNO.out]; rfl, HO.out⟩
  · have h1' : ¬ 20 < n := h1
    have hpl : ∀ p ∈ splI 46 l, p.length ≤ 20 ∧ Byt p := fun p hp => ⟨by have := (hmem p hp).1; omega, fun x hx => hBy x ((hmem p hp).2 x hx)⟩
    generalize splI 46 l = ps at *
    have HSP := Lib.hid hsp; have HNE := Lib.hid hne; have HPL := Lib.hid hpl
    obtain ⟨k, hk⟩ : ∃ k, ps.length = k := ⟨_, rfl⟩
    have hk2 : k ≤ 21 := by omega
    have hk0 : 0 < k := by have := List.length_pos_iff.2 hne; omega
    have HK := Lib.hid hk
    clear hsp hlen hmem hne hBy hln hpl hk
    go_enter Tryd.func33, Tryd.ntmps33
    go_wp2_with fail
    with_reducible refine HSP.out.mono ?_
    rintro e w1 ⟨v, L, rfl, hrow, hO1⟩
    have HO1 := Lib.hid hO1
    rcases hrow.2 with ⟨_, h0, _⟩ | ⟨g, cap, sp, rfl, rfl, hl, hc, hm⟩
    · exfalso; rw [List.length_map] at h0; have := HK.out; omega
    have hcell : ∀ j, j < k → w1.cell? ⟨g, j, none⟩ = some (.string (strOfNums (ps.getD j []))) := by
      intro j hj
      have hj' : j < ps.length := by rw [HK.out]; exact hj
      rw [hO1.cell (.head _) j]
      simp only [List.getElem?_toArray]
      rw [List.getElem?_append_left (by simp; exact hj')]
      simp [sv, List.getD_eq_getElem?_getD, List.getElem?_eq_getElem hj']
    have HCELL := Lib.hid hcell
    rw [List.length_map, HK.out] at hc ⊢
    clear hO1 hrow hl hcell HO HSP HNE
    go_wp2
    go_loopw [11] (fun t w' => ∃ i : Nat, i ≤ k ∧ t = .int .i64 i ∧ Hid (∀ j, j < i → PartH (ps.getD j [])) ∧ w' = w1) (fun t _ => k - (intOf t).toNat)
    case atStart => exact ⟨0, Nat.zero_le _, rfl, Lib.hid (fun j hj => by omega), rfl⟩
    case round =>
      obtain ⟨i, hi, rfl, HAT, rfl⟩ := hrel
      by_cases hlt : i < k
      · have hcl := HCELL.out i hlt
        have hix : i < ps.length := by rw [HK.out]; exact hlt
        have hin : (i : Int) < k := by omega
        have hpm : ps.getD i [] ∈ ps := by rw [List.getD_eq_getElem?_getD, List.getElem?_eq_getElem hix]; exact List.getElem_mem hix
        have hp := HPL.out _ hpm
        have hbad : ¬ PartH (ps.getD i []) → o = false := fun e => by rw [HD.out]; exact decide_eq_false (fun h => e (h.2 _ hpm))
        have hgood : PartH (ps.getD i []) → ∀ j, j < i + 1 → PartH (ps.getD j []) := fun e j hj => by
          rcases (by omega : j < i ∨ j = i) with h | rfl
          · exact HAT.out j h
          · exact e
        have hcall := isHostPart_c (w := wr) (strOfNums (ps.getD i [])) (by rw [strOfNums_size]; have := hp.1; omega)
        rw [sb_str hp.2] at hcall
        have hb0 : ((strOfNums (ps.getD i [])).toList == []) = decide (ps.getD i [] = []) := by rw [beq_lit, sb_str hp.2]; rfl
        have hdp : PartH (ps.getD i []) ↔ (ps.getD i [] ≠ [] ∧ ∀ x ∈ ps.getD i [], HB0 x) := Iff.rfl
        have HBAD := Lib.hid hbad; have HG := Lib.hid hgood; have HC := Lib.hid hcall; have HDP := Lib.hid hdp
        clear hbad hgood hcall hdp hpm hix hp
        generalize ps.getD i [] = p at *
        by_cases hpe : p = []
        · have hno := HBAD.out (fun h => (HDP.out.1 h).1 hpe)
          have HNO := Lib.hid hno
          rw [decide_eq_true hpe] at hb0
          clear hno hpe
          generalize strOfNums p = x at *
          go_wp2
          go_ret
          exact ⟨by rw [HNO.out]; rfl, (HO1.out).tail⟩
        · rw [decide_eq_false hpe] at hb0
          by_cases hall : ∀ x ∈ p, HB0 x
          · have hg := HG.out (HDP.out.2 ⟨hpe, hall⟩)
            have HGG := Lib.hid hg
            have HC2 := Lib.hid (by have := HC.out; rwa [decide_eq_true hall] at this)
            clear hg hall hpe HC
            generalize strOfNums p = x at *
            go_wp2_with fail
            with_reducible refine HC2.out.mono ?_
            rintro e w2 ⟨rfl, rfl⟩
            go_wp2
            go_roundw
            case rel => exact ⟨i + 1, by omega, by go_num, HGG, trivial⟩
            case measure => simp [intOf]; omega
          · have hno := HBAD.out (fun h => hall (HDP.out.1 h).2)
            have HNO := Lib.hid hno
            have HC2 := Lib.hid (by have := HC.out; rwa [decide_eq_false hall] at this)
            clear hno hall hpe HC
            generalize strOfNums p = x at *
            go_wp2_with fail
            with_reducible refine HC2.out.mono ?_
            rintro e w2 ⟨rfl, rfl⟩
            go_wp2
            go_ret
            exact ⟨by rw [HNO.out]; rfl, (HO1.out).tail⟩
      · obtain rfl : i = k := by omega
        have hyes : o = true := by
          rw [HD.out]
          refine decide_eq_true ⟨by omega, fun p hp => ?_⟩
          obtain ⟨j, hj, rfl⟩ := List.mem_iff_getElem.1 hp
          have := HAT.out j (by rw [HK.out] at hj; exact hj)
          rwa [List.getD_eq_getElem?_getD, List.getElem?_eq_getElem hj] at this
        have HY := Lib.hid hyes
        clear hyes
        go_wp2
        go_ret
        exact ⟨by rw [HY.out]; rfl, (HO1.out).tail⟩
end Go.Proofs.YtfgaikacijdodaaDoor
/-
  Package url: a path (an inner function of the landed program).
-/
namespace Go.Proofs.YtfgaikacijdodaaDoor
set_option linter.unusedVariables false
set_option linter.unusedSimpArgs false
set_option maxRecDepth 20000
open Go.RowKit

/-- The last place below n that holds c, or -1. -/
def lastF (c : Int) (xs : List Int) : Nat → Int
  | 0 => -1
  | n + 1 => if xs.getD n 0 = c then (n : Int) else lastF c xs n
def lastI (c : Int) (xs : List Int) : Int := lastF c xs xs.length
theorem lastF_no (c : Int) (xs : List Int) : ∀ (a n : Nat), a ≤ n → (∀ j, a ≤ j → j < n → xs.getD j 0 ≠ c) → lastF c xs n = lastF c xs a
  | a, 0, h, _ => by obtain rfl : a = 0 := by omega
                     rfl
  | a, n + 1, h, hno => by
    rcases (by omega : a = n + 1 ∨ a ≤ n) with rfl | ha
    · rfl
    · rw [lastF, if_neg (hno n ha (by omega)), lastF_no c xs a n ha (fun j h1 h2 => hno j h1 (by omega))]
theorem getD_app (a b : List Int) (k : Nat) : (a ++ b).getD (a.length + k) 0 = b.getD k 0 := by
  simp [List.getD_eq_getElem?_getD, List.getElem?_append_right]
theorem lastI_slashed (st : List (List Int)) (p : List Int) (hp : ∀ x ∈ p, x ≠ 47) : lastI 47 (slashed (st ++ [p])) = ((slashed st).length : Int) := by
  have e : slashed (st ++ [p]) = slashed st ++ (47 :: p) := by rw [slashed_app]; show _ ++ ((47 :: p) ++ []) = _; rw [List.append_nil]
  rw [e]
  unfold lastI
  rw [lastF_no 47 _ ((slashed st).length + 1) _ (by simp) (fun j h1 h2 => ?_)]
  · rw [lastF, if_pos (by simp)]
  · simp only [List.length_append, List.length_cons] at h2
    obtain ⟨k, hk⟩ : ∃ k, j = (slashed st).length + (k + 1) := ⟨j - (slashed st).length - 1, by omega⟩
    rw [hk, getD_app, List.getD_cons_succ]
    have hkl : k < p.length := by omega
    rw [List.getD_eq_getElem?_getD, List.getElem?_eq_getElem hkl]
    exact hp _ (List.getElem_mem hkl)
theorem take_slashed (st : List (List Int)) (p : List Int) : (slashed (st ++ [p])).take (slashed st).length = slashed st := by
  rw [slashed_app, List.take_left']
  rfl
theorem blast_c {w : World} {v : Value} {xs : List Int} (hb : Bs w v xs) (hx : xs.length ≤ 1073741824) (c : Int) :
    Calls Tryd.prog 63 #[v, .int .u8 c] w fun e w' => e = .returned (.int .i64 (lastI c xs)) ∧ w = w' := by
  obtain ⟨A, n, cp, rfl, hn, hc, hA⟩ := hb
  unfold lastI
  obtain ⟨o, ho⟩ : ∃ o, lastF c xs xs.length = o := ⟨_, rfl⟩
  rw [hn] at hx ho
  have HO := Lib.hid ho; have HN := Lib.hid hn; have HA := Lib.hid hA
  rw [hn, ho]
  clear ho hn hA
  go_enter Tryd.func63, Tryd.ntmps63
  go_wp2
  go_loopw [5] (fun t w' => ∃ m : Nat, m ≤ n ∧ t = .int .i64 ((m : Int) - 1) ∧ Hid (o = lastF c xs m) ∧ w' = w) (fun t _ => (intOf t + 1).toNat)
  case atStart => exact ⟨n, Nat.le_refl _, rfl, Lib.hid HO.out.symm, rfl⟩
  case round =>
    obtain ⟨m, hm, rfl, HE, rfl⟩ := hrel
    cases m with
    | zero =>
      have he : o = -1 := HE.out
      subst he
      go_wp2
      go_ret
      exact ⟨rfl, rfl⟩
    | succ k =>
      have he : o = if xs.getD k 0 = c then (k : Int) else lastF c xs k := HE.out
      obtain ⟨ad, rfl, hcell⟩ := HA.out (by omega)
      have hcl := hcell k (xs.getD k 0) (by rw [List.getD_eq_getElem?_getD, List.getElem?_eq_getElem (by rw [HN.out]; omega)]; rfl)
      have e1 : ((k + 1 : Nat) : Int) - 1 = k := by omega
      have hkn : (k : Int) < n := by omega
      rw [e1]
      have HE2 := Lib.hid he
      clear he HE hcell e1 HA
      generalize xs.getD k 0 = x at *
      by_cases hxc : x = c
      · have he := HE2.out
        rw [if_pos hxc] at he
        have t1 : (x == c) = true := beq_iff_eq.2 hxc
        have HE3 := Lib.hid he
        clear he hxc
        go_wp2
        go_ret
        exact ⟨by rw [HE3.out]; rfl, rfl⟩
      · have he := HE2.out
        rw [if_neg hxc] at he
        have t1 : (x == c) = false := beq_eq_false_iff_ne.2 hxc
        have HE3 := Lib.hid he
        clear he hxc
        go_wp2
        go_roundw
        case rel => exact ⟨k, by omega, by go_num, HE3, trivial⟩
        case measure => simp [intOf]
theorem last_c {w : World} {v : Value} {xs : List Int} (hb : Bs w v xs) (hx : xs.length ≤ 1073741824) (c : Int) :
    Calls Tryd.prog 54 #[v, .int .u8 c] w fun e w' => e = .returned (.int .i64 (lastI c xs)) ∧ w = w' := by
  have HC := Lib.hid (blast_c hb hx c)
  clear hb
  go_enter Tryd.func54, Tryd.ntmps54
  go_wp2_with fail
  with_reducible refine HC.out.mono ?_
  rintro e w1 ⟨rfl, rfl⟩
  go_wp2
  go_ret
  exact ⟨rfl, rfl⟩
/-- The first bytes, in the same blocks. -/
theorem bsl_upto {v : Value} {xs : List Int} {L : Blks} (h : IsBytes v xs L) (k : Nat) (i : Int) (hi : (k : Int) = i) (hk : k ≤ xs.length) :
    ∃ v', IsBytes v' (xs.take k) L ∧ ∀ W : World, (Instr.slice 64 v none (some (.int .i64 i)) none).run Tryd.prog W = .ok v' W := by
  subst hi
  rcases h.2 with ⟨rfl, h0, rfl⟩ | ⟨g, cap, sp, rfl, rfl, hl, hn, hm⟩
  · obtain rfl : k = 0 := by omega
    exact ⟨.slice none 0 0, isBytes_nil, fun W => by go_simp⟩
  · refine ⟨.slice (some ⟨g, 0, none⟩) k cap, ⟨by simp, .inr ⟨g, cap, (bv xs).drop k ++ sp, by simp [Nat.min_eq_left hk], ?_, ?_, by simp only [List.length_take]; omega, hm⟩⟩, fun W => ?_⟩
    · have e : bv (xs.take k) ++ ((bv xs).drop k ++ sp) = bv xs ++ sp := by
        rw [← List.append_assoc]; congr 1
        show List.map _ _ ++ _ = _
        rw [List.map_take]; exact List.take_append_drop k (bv xs)
      rw [e]
    · have e : bv (xs.take k) ++ ((bv xs).drop k ++ sp) = bv xs ++ sp := by
        rw [← List.append_assoc]; congr 1
        show List.map _ _ ++ _ = _
        rw [List.map_take]; exact List.take_append_drop k (bv xs)
      rw [e]; exact hl
    · have h4 : (k : Int) ≤ cap := by omega
      go_simp
/-- A part's step: the bytes that stand, in blocks of the call's own. -/
def PathState (w0 : World) (R : Blks) (st : List (List Int)) (v : Value) (w : World) : Prop := ∃ L, IsBytes v (slashed st) L ∧ Own w0 w (L ++ R)
def WalkFin (fin st : List (List Int)) (t : ByteArray) (b : Bool) : Prop := (b = true → fin = rawGo st (partsI (sb t))) ∧ (b = false → fin = st)
def WalkLen (st : List (List Int)) (t : ByteArray) (b : Bool) : Prop := t.size ≤ 80000000 ∧ (slashed st).length ≤ 80000001 ∧ (b = true → (slashed st).length + t.size + 1 ≤ 80000001)
def PartsOk (st : List (List Int)) : Prop := ∀ p ∈ st, Byt p ∧ ∀ x ∈ p, x ≠ 47
def leftW (s m : Value) : Nat := match m with
  | .bool true => strSize s + 1
  | _ => 0
theorem max_last {st : List (List Int)} (h : PartsOk st) : (lastI 47 (slashed st) = -1 ∧ st = []) ∨ lastI 47 (slashed st) = ((slashed st.dropLast).length : Int) := by
  rcases List.eq_nil_or_concat st with rfl | ⟨a, p, rfl⟩
  · exact .inl ⟨rfl, rfl⟩
  · right
    rw [List.concat_eq_append, lastI_slashed a p (h p (by simp)).2, List.dropLast_concat]
theorem take_last (st : List (List Int)) : (slashed st).take (slashed st.dropLast).length = slashed st.dropLast := by
  rcases List.eq_nil_or_concat st with rfl | ⟨a, p, rfl⟩
  · rfl
  · rw [List.concat_eq_append, List.dropLast_concat, take_slashed]
theorem raw_dots (st : List (List Int)) (p : List Int) (h : p = [46, 46]) : rawStep st p false = st.dropLast ∧ rawStep st p true = st.dropLast ++ [[]] := by subst h; exact ⟨rfl, rfl⟩
theorem raw_dot (st : List (List Int)) (p : List Int) (h : p = [46]) : rawStep st p false = st ∧ rawStep st p true = st ++ [[]] := by subst h; exact ⟨rfl, rfl⟩
theorem raw_else (st : List (List Int)) (p : List Int) (l : Bool) (h1 : p ≠ [46]) (h2 : p ≠ [46, 46]) : rawStep st p l = st ++ [p] := by unfold rawStep; rw [if_neg (by rintro (e | e); exact h1 e; exact h2 e)]
theorem slashed_snoc (st : List (List Int)) (p : List Int) : slashed (st ++ [p]) = slashed st ++ [47] ++ p := by
  rw [slashed_app, List.append_assoc]; show _ ++ ((47 :: p) ++ []) = _; rw [List.append_nil]; rfl
theorem rawStep_len (st : List (List Int)) (p : List Int) (last : Bool) : (slashed (rawStep st p last)).length ≤ (slashed st).length + p.length + 1 := by
  have hp := slashed_len_pop st
  by_cases h2 : p = [46, 46]
  · have h := raw_dots st p h2
    cases last
    · rw [h.1]; omega
    · rw [h.2, slashed_snoc]; simp; omega
  · by_cases h1 : p = [46]
    · have h := raw_dot st p h1
      cases last
      · rw [h.1]; omega
      · rw [h.2, slashed_snoc]; simp
    · rw [raw_else st p last h1 h2, slashed_snoc]; simp; omega
theorem rawStep_ok {st : List (List Int)} {p : List Int} (last : Bool) (h : PartsOk st) (hp : Byt p ∧ ∀ x ∈ p, x ≠ 47) : PartsOk (rawStep st p last) := by
  have hd : PartsOk st.dropLast := fun q hq => h q (List.dropLast_subset _ hq)
  have hs : ∀ {a : List (List Int)} {r : List Int}, PartsOk a → (Byt r ∧ ∀ x ∈ r, x ≠ 47) → PartsOk (a ++ [r]) := by
    intro a r ha hr q hq
    rcases List.mem_append.1 hq with hq | hq
    · exact ha q hq
    · rw [List.mem_singleton.1 hq]; exact hr
  have hn : Byt ([] : List Int) ∧ ∀ x ∈ ([] : List Int), x ≠ 47 := ⟨fun x hx => (by cases hx), fun x hx => (by cases hx)⟩
  by_cases h2 : p = [46, 46]
  · have e := raw_dots st p h2
    cases last
    · rw [e.1]; exact hd
    · rw [e.2]; exact hs hd hn
  · by_cases h1 : p = [46]
    · have e := raw_dot st p h1
      cases last
      · rw [e.1]; exact h
      · rw [e.2]; exact hs h hn
    · rw [raw_else st p last h1 h2]; exact hs h hp
/-- What one round does: the part p, what stands behind it, whether there is more. -/
theorem walk_next {fin st : List (List Int)} {t : ByteArray} (hF : WalkFin fin st t true) (hZ : WalkLen st t true) (hP : PartsOk st) {p q : List Int} (hp : ahead [47] (sb t) = p) (hq : behind [47] (sb t) = q) (m : Bool) (hm : decide (q ≠ []) = m) :
    WalkFin fin (rawStep st p !m) (strOfNums (q.drop 1)) m ∧ WalkLen (rawStep st p !m) (strOfNums (q.drop 1)) m ∧ PartsOk (rawStep st p !m) ∧ leftW (.string (strOfNums (q.drop 1))) (.bool m) < leftW (.string t) (.bool true) := by
  have hf := hF.1 rfl
  have hB : Byt (q.drop 1) := by rw [← hq]; exact byt_drop (behind_byt (byt_sb t)) 1
  have hpo : Byt p ∧ ∀ x ∈ p, x ≠ 47 := by
    rw [← hp]
    refine ⟨ahead_byt (byt_sb t), fun x hx e => ?_⟩
    have := ahead_no [47] (sb t) x hx
    rw [e] at this; simp at this
  have hl := congrArg List.length (ahead_behind [47] (sb t))
  rw [List.length_append, length_sb, hp, hq] at hl
  have hlen := rawStep_len st p (!m)
  obtain ⟨z1, z2, z3⟩ := hZ
  have z3 := z3 rfl
  refine ⟨?_, ?_, rawStep_ok _ hP hpo, ?_⟩
  · cases m with
    | false =>
      have hq0 : q = [] := by simpa using hm
      rw [partsI_end (by rw [hq]; exact hq0), hp] at hf
      exact ⟨fun h => (by cases h), fun _ => hf⟩
    | true =>
      have hq0 : q ≠ [] := by simpa using hm
      obtain ⟨c, r, rfl⟩ := List.exists_cons_of_ne_nil hq0
      rw [partsI_more hq, hp, rawGo_cons _ _ (partsI_ne r)] at hf
      refine ⟨fun _ => ?_, fun h => (by cases h)⟩
      rw [sb_str hB]
      exact hf
  · refine ⟨by rw [strOfNums_size, List.length_drop]; omega, by omega, fun h => ?_⟩
    subst h
    have hq0 : q ≠ [] := by simpa using hm
    have := List.length_pos_iff.2 hq0
    rw [strOfNums_size, List.length_drop]; omega
  · cases m with
    | false => show 0 < t.size + 1; omega
    | true =>
      have hq0 : q ≠ [] := by simpa using hm
      have := List.length_pos_iff.2 hq0
      show (strOfNums (q.drop 1)).size + 1 < t.size + 1
      rw [strOfNums_size, List.length_drop]; omega
set_option maxHeartbeats 4000000 in
theorem walk_c {w0 w : World} {R : Blks} (hV : VarsOk w0) (hO : Own w0 w R) (s : ByteArray) (hs : s.size ≤ 80000000) :
    Calls Tryd.prog 37 #[.string s] w fun e w' => e = .returned (.string (strOfNums (walkI (sb s)))) ∧ Own w0 w' R := by
  have HO := Lib.hid hO; have HV := Lib.hid hV
  unfold walkI
  obtain ⟨fin, hfin⟩ : ∃ fin, rawGo [] (partsI (sb s)) = fin := ⟨_, rfl⟩
  have HFIN := Lib.hid hfin
  rw [hfin]
  clear hO hV hfin
  go_enter Tryd.func37, Tryd.ntmps37
  go_wp2
  go_loopw [0, 3, 4] (fun sv v mv w' => ∃ (st : List (List Int)) (t : ByteArray) (b : Bool), sv = .string t ∧ mv = .bool b ∧ Hid (WalkFin fin st t b) ∧ Hid (WalkLen st t b) ∧ Hid (PartsOk st) ∧ Hid (PathState w0 R st v w')) (fun sv _ mv _ => leftW sv mv)
  case atStart => exact ⟨[], s, true, rfl, rfl, Lib.hid ⟨fun _ => HFIN.out.symm, fun h => by cases h⟩, Lib.hid ⟨hs, by simp [slashed], fun _ => by simp [slashed]; omega⟩, Lib.hid (fun p hp => by cases hp), Lib.hid ⟨[], isBytes_nil, HO.out⟩⟩
  case round =>
    obtain ⟨st, t, b, rfl, rfl, HF, HZ, HP, HS⟩ := hrel
    clear HO HFIN
    cases b with
    | false =>
      have hf : fin = st := HF.out.2 rfl
      obtain ⟨L, hv, hO2⟩ := HS.out
      have hcv := convert_str (hv.bs hO2)
      have HO2 := Lib.hid hO2
      have HEQ := Lib.hid hf
      clear hf hO2 hv HF HS
      go_wp2
      go_ret
      exact ⟨by rw [HEQ.out]; rfl, (HO2.out).right⟩
    | true =>
      obtain ⟨L, hv, hO2⟩ := HS.out
      obtain ⟨p, hp⟩ : ∃ p, ahead [47] (sb t) = p := ⟨_, rfl⟩
      obtain ⟨q, hq⟩ : ∃ q, behind [47] (sb t) = q := ⟨_, rfl⟩
      have hcall := lcut_c HV.out hO2 t (by have := HZ.out.1; omega) 47 47 rfl
      rw [hp, hq] at hcall
      obtain ⟨m, hm⟩ : ∃ m, decide (q ≠ []) = m := ⟨_, rfl⟩
      rw [hm] at hcall
      have hnext := walk_next HF.out HZ.out HP.out hp hq m hm
      have hpB : Byt p := by rw [← hp]; exact ahead_byt (byt_sb t)
      have hpl : p.length ≤ 80000000 := by have := congrArg List.length (ahead_behind [47] (sb t)); rw [List.length_append, length_sb, hp] at this; have := HZ.out.1; omega
      have b1 : ((strOfNums p).toList == [46]) = decide (p = [46]) := by rw [beq_lit, sb_str hpB]; rfl
      have b2 : ((strOfNums p).toList == [46, 46]) = decide (p = [46, 46]) := by rw [beq_lit, sb_str hpB]; rfl
      have hsp : sb (strOfNums p) = p := sb_str hpB
      have hps : (strOfNums p).size = p.length := strOfNums_size p
      have hml := max_last HP.out
      have htl := take_last st
      have hzl := HZ.out.2.1
      have hpop := slashed_len_pop st
      have HC := Lib.hid hcall; have HN := Lib.hid hnext; have HVV := Lib.hid hv; have HML := Lib.hid hml; have HTL := Lib.hid htl; have HSP := Lib.hid hsp; have HPS := Lib.hid hps; have HPL := Lib.hid hpl
      clear hcall hnext hml htl hp hq hm HF HS hpB hsp hps hpl
      generalize strOfNums (q.drop 1) = Q at *
      by_cases h2 : p = [46, 46]
      · have hst := raw_dots st p h2
        rw [decide_eq_true h2] at b2
        rw [decide_eq_false (by rw [h2]; decide)] at b1
        have HST := Lib.hid hst
        clear h2 hst
        generalize strOfNums p = x at *
        go_wp2_with fail
        with_reducible refine HC.out.mono ?_
        rintro e w1 ⟨rfl, hO1⟩
        have hcl := last_c (w := w1) (HVV.out.bs hO1) (by omega) 47
        have HO1 := Lib.hid hO1; have HCL := Lib.hid hcl
        clear hO1 hcl HC hO2 hv
        go_wp2_with fail
        with_reducible refine HCL.out.mono ?_
        rintro e w2 ⟨rfl, rfl⟩
        simp only []
        rcases HML.out with ⟨hl, hst0⟩ | hl
        · rw [hl]
          obtain ⟨v', hX', hrun⟩ := bsl_upto HVV.out 0 (max 0 (-1)) (by decide) (Nat.zero_le _)
          obtain ⟨X, hXe⟩ : ∃ X, (slashed st).take 0 = X := ⟨_, rfl⟩
          rw [hXe] at hX'
          have hX := hX'
          have hXE : X = slashed st.dropLast := by rw [← hXe, hst0]; rfl
          have hxl : X.length ≤ 80000001 := by rw [hXE]; omega
          have HXE := Lib.hid hXE
          have HRUN := Lib.hid hrun
          clear hl hX' hXe hXE hst0
          clear hrun
          have hrun := HRUN.out
          have HX := Lib.hid hX
          clear hX
          cases m with
          | true =>
            go_wp2
            go_roundw
            case rel => exact ⟨_, Q, _, rfl, rfl, Lib.hid HN.out.1, Lib.hid HN.out.2.1, Lib.hid HN.out.2.2.1, Lib.hid ⟨L, HX.out.cast (by rw [HXE.out]; exact congrArg slashed HST.out.1.symm), HO1.out⟩⟩
            case measure => exact HN.out.2.2.2
          | false =>
            go_wp2_with (first | (refine wl_appendB rfl _ _ rfl _ X (by rfl) HX.out (HO1.out.put2 _) (.slice (some ⟨_, 0, none⟩) 1 1) [47] (by rfl) (bs_new HO1.out _ _ rfl (by omega)) (by simp only [List.length_cons, List.length_nil]; omega) ?_; intro v5 w5 L5 hv5 hO5; have HV5 := Lib.hid hv5; have HO5 := Lib.hid hO5.strike; clear hv5 hO5 HX HO1) | (refine wl_appendS rfl _ _ rfl _ _ (by rfl) HV5.out HO5.out ⟨#[]⟩ (by rfl) (by simp only [List.length_append, List.length_cons, List.length_nil]; show _ + 0 ≤ _; omega) ?_; intro v6 w6 L6 hv6 hO6; have HV6 := Lib.hid hv6; have HO6 := Lib.hid hO6; clear hv6 hO6 HV5 HO5))
            go_roundw
            case rel => exact ⟨_, Q, _, rfl, rfl, Lib.hid HN.out.1, Lib.hid HN.out.2.1, Lib.hid HN.out.2.2.1, Lib.hid ⟨L6, HV6.out.cast (by rw [HXE.out]; show _ = slashed (rawStep st p true); rw [HST.out.2, slashed_snoc]; rfl), HO6.out⟩⟩
            case measure => exact HN.out.2.2.2
        · rw [hl]
          obtain ⟨v', hX', hrun⟩ := bsl_upto HVV.out (slashed st.dropLast).length _ rfl hpop
          obtain ⟨X, hXe⟩ : ∃ X, (slashed st).take (slashed st.dropLast).length = X := ⟨_, rfl⟩
          rw [hXe] at hX'
          have hX := hX'
          have hXE : X = slashed st.dropLast := by rw [← hXe]; exact HTL.out
          have hxl : X.length ≤ 80000001 := by rw [hXE]; omega
          have HXE := Lib.hid hXE
          clear hl hX' hXe hXE HTL HML
          generalize (slashed st.dropLast).length = k at *
          have HX := Lib.hid hX
          clear hX
          cases m with
          | true =>
            go_wp2
            go_roundw
            case rel => exact ⟨_, Q, _, rfl, rfl, Lib.hid HN.out.1, Lib.hid HN.out.2.1, Lib.hid HN.out.2.2.1, Lib.hid ⟨L, HX.out.cast (by rw [HXE.out]; exact congrArg slashed HST.out.1.symm), HO1.out⟩⟩
            case measure => exact HN.out.2.2.2
          | false =>
            go_wp2_with (first | (refine wl_appendB rfl _ _ rfl _ X (by rfl) HX.out (HO1.out.put2 _) (.slice (some ⟨_, 0, none⟩) 1 1) [47] (by rfl) (bs_new HO1.out _ _ rfl (by omega)) (by simp only [List.length_cons, List.length_nil]; omega) ?_; intro v5 w5 L5 hv5 hO5; have HV5 := Lib.hid hv5; have HO5 := Lib.hid hO5.strike; clear hv5 hO5 HX HO1) | (refine wl_appendS rfl _ _ rfl _ _ (by rfl) HV5.out HO5.out ⟨#[]⟩ (by rfl) (by simp only [List.length_append, List.length_cons, List.length_nil]; show _ + 0 ≤ _; omega) ?_; intro v6 w6 L6 hv6 hO6; have HV6 := Lib.hid hv6; have HO6 := Lib.hid hO6; clear hv6 hO6 HV5 HO5))
            go_roundw
            case rel => exact ⟨_, Q, _, rfl, rfl, Lib.hid HN.out.1, Lib.hid HN.out.2.1, Lib.hid HN.out.2.2.1, Lib.hid ⟨L6, HV6.out.cast (by rw [HXE.out]; show _ = slashed (rawStep st p true); rw [HST.out.2, slashed_snoc]; rfl), HO6.out⟩⟩
            case measure => exact HN.out.2.2.2
      · rw [decide_eq_false h2] at b2
        obtain ⟨X, hXe⟩ : ∃ X, slashed st = X := ⟨_, rfl⟩
        have hX := HVV.out
        rw [hXe] at hX
        have hxl : X.length ≤ 80000001 := by rw [← hXe]; exact hzl
        have HXE := Lib.hid hXe.symm
        by_cases h1 : p = [46]
        · have hst := raw_dot st p h1
          rw [decide_eq_true h1] at b1
          have HST := Lib.hid hst
          clear h1 h2 hst hXe
          generalize strOfNums p = x at *
          go_wp2_with fail
          with_reducible refine HC.out.mono ?_
          rintro e w1 ⟨rfl, hO1⟩
          have HO1 := Lib.hid hO1
          clear hO1 HC hO2 hv HVV
          simp only []
          have HX := Lib.hid hX
          clear hX
          cases m with
          | true =>
            go_wp2
            go_roundw
            case rel => exact ⟨_, Q, _, rfl, rfl, Lib.hid HN.out.1, Lib.hid HN.out.2.1, Lib.hid HN.out.2.2.1, Lib.hid ⟨L, HX.out.cast (by rw [HXE.out]; exact congrArg slashed HST.out.1.symm), HO1.out⟩⟩
            case measure => exact HN.out.2.2.2
          | false =>
            go_wp2_with (first | (refine wl_appendB rfl _ _ rfl _ X (by rfl) HX.out (HO1.out.put2 _) (.slice (some ⟨_, 0, none⟩) 1 1) [47] (by rfl) (bs_new HO1.out _ _ rfl (by omega)) (by simp only [List.length_cons, List.length_nil]; omega) ?_; intro v5 w5 L5 hv5 hO5; have HV5 := Lib.hid hv5; have HO5 := Lib.hid hO5.strike; clear hv5 hO5 HX HO1) | (refine wl_appendS rfl _ _ rfl _ _ (by rfl) HV5.out HO5.out ⟨#[]⟩ (by rfl) (by simp only [List.length_append, List.length_cons, List.length_nil]; show _ + 0 ≤ _; omega) ?_; intro v6 w6 L6 hv6 hO6; have HV6 := Lib.hid hv6; have HO6 := Lib.hid hO6; clear hv6 hO6 HV5 HO5))
            go_roundw
            case rel => exact ⟨_, Q, _, rfl, rfl, Lib.hid HN.out.1, Lib.hid HN.out.2.1, Lib.hid HN.out.2.2.1, Lib.hid ⟨L6, HV6.out.cast (by rw [HXE.out]; show _ = slashed (rawStep st p true); rw [HST.out.2, slashed_snoc]; rfl), HO6.out⟩⟩
            case measure => exact HN.out.2.2.2
        · have hst := fun l => raw_else st p l h1 h2
          rw [decide_eq_false h1] at b1
          have HST := Lib.hid hst
          clear h1 h2 hst hXe
          generalize strOfNums p = x at *
          go_wp2_with fail
          with_reducible refine HC.out.mono ?_
          rintro e w1 ⟨rfl, hO1⟩
          have HO1 := Lib.hid hO1
          clear hO1 HC hO2 hv HVV
          simp only []
          have HX := Lib.hid hX
          clear hX
          go_wp2_with (first | (refine wl_appendB rfl _ _ rfl _ X (by rfl) HX.out (HO1.out.put2 _) (.slice (some ⟨_, 0, none⟩) 1 1) [47] (by rfl) (bs_new HO1.out _ _ rfl (by omega)) (by simp only [List.length_cons, List.length_nil]; omega) ?_; intro v5 w5 L5 hv5 hO5; have HV5 := Lib.hid hv5; have HO5 := Lib.hid hO5.strike; clear hv5 hO5 HX HO1) | (refine wl_appendS rfl _ _ rfl _ _ (by rfl) HV5.out HO5.out x (by rfl) (by have h1 := HPS.out; have h2 := HPL.out; simp only [List.length_append, List.length_cons, List.length_nil]; omega) ?_; intro v6 w6 L6 hv6 hO6; have HV6 := Lib.hid hv6; have HO6 := Lib.hid hO6; clear hv6 hO6 HV5 HO5))
          go_roundw
          case rel => exact ⟨_, Q, _, rfl, rfl, Lib.hid HN.out.1, Lib.hid HN.out.2.1, Lib.hid HN.out.2.2.1, Lib.hid ⟨L6, HV6.out.cast (by rw [HXE.out, HSP.out, HST.out, slashed_snoc]), HO6.out⟩⟩
          case measure => exact HN.out.2.2.2
end Go.Proofs.YtfgaikacijdodaaDoor
