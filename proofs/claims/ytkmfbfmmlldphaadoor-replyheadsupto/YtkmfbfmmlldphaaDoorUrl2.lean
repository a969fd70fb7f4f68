/-
  The document's own helps of URLs: until, begins, Host, Digits, Figures, own.
-/
import Derived.Test.YtkmfbfmmlldphaaDoorUrl1
import Derived.Test.YtkmfbfmmlldphaaDoorPct6
namespace Go.Proofs.YtkmfbfmmlldphaaDoor
set_option linter.unusedVariables false
set_option linter.unusedSimpArgs false
set_option maxRecDepth 20000
open Go.RowKit

theorem contains_of {st : List Int} {k : Nat} (hk : k < st.length) (c : Int) (h : c = st.getD k 0) : st.contains c = true := by
  rw [List.getD_eq_getElem?_getD, List.getElem?_eq_getElem hk, Option.getD_some] at h
  subst h
  simp
theorem contains_no {st : List Int} {c : Int} (h : ∀ k, k < st.length → c ≠ st.getD k 0) : st.contains c = false := by
  rw [← Bool.not_eq_true]
  intro e
  have hm : c ∈ st := by simpa using e
  obtain ⟨k, hk, e⟩ := List.getElem_of_mem hm
  exact h k hk (by rw [List.getD_eq_getElem?_getD, List.getElem?_eq_getElem hk, Option.getD_some, e])
set_option maxHeartbeats 4000000 in
theorem until_c {w : World} (s st : ByteArray) (hs : s.size ≤ 1073741824) (ht : st.size ≤ 1073741824) : Calls Tryd.prog 30 #[.string s, .string st] w
    (Quiet w (.tuple #[.string (strOfNums (ahead (sb st) (sb s))), .string (strOfNums (behind (sb st) (sb s)))])) := by
  obtain ⟨l, hl⟩ : ∃ l, sb s = l := ⟨_, rfl⟩
  obtain ⟨n, hn⟩ : ∃ n, s.size = n := ⟨_, rfl⟩
  obtain ⟨ts, hts⟩ : ∃ ts, sb st = ts := ⟨_, rfl⟩
  obtain ⟨m, hm⟩ : ∃ m, st.size = m := ⟨_, rfl⟩
  have hln : l.length = n := by rw [← hl, ← hn]; exact length_sb s
  have htm : ts.length = m := by rw [← hts, ← hm]; exact length_sb st
  have HL := Lib.hid hl; have HN := Lib.hid hn; have HTS := Lib.hid hts; have HM := Lib.hid hm; have HLN := Lib.hid hln; have HTM := Lib.hid htm
  rw [hl, hts]
  rw [hn] at hs; rw [hm] at ht
  clear hl hts hln htm
  go_enter Tryd.func30, Tryd.ntmps30
  go_wp2
  go_loopw [6] (fun t w' => ∃ i : Nat, i ≤ n ∧ t = .int .i64 i ∧ Hid (∀ j, j < i → ts.contains (l.getD j 0) = false) ∧ Hid (∃ q, w' = w.drewN q)) (fun t _ => n - (intOf t).toNat)
  case atStart => exact ⟨0, Nat.zero_le _, rfl, Lib.hid (fun j hj => by omega), 0, rfl⟩
  case round =>
    obtain ⟨i, hi, rfl, HA, HW⟩ := hrel
    by_cases hlt : i < n
    · have hin : (i : Int) < n := by omega
      go_wp2
      go_loopw [7] (fun t w' => ∃ j : Nat, j ≤ m ∧ t = .int .i64 j ∧ Hid (∀ k, k < j → l.getD i 0 ≠ ts.getD k 0) ∧ Hid (∃ q, w' = w.drewN q)) (fun t _ => m - (intOf t).toNat)
      case atStart => exact ⟨0, Nat.zero_le _, rfl, Lib.hid (fun j hj => by omega), HW.out⟩
      case round =>
        clear HW
        obtain ⟨j, hj, rfl, HB, HW⟩ := hrel
        by_cases hlj : j < m
        · have h1 := index_at wr.drew s i i rfl (by rw [hn]; exact hlt)
          have h2 := index_at wr.drew st j j rfl (by rw [hm]; exact hlj)
          rw [HL.out] at h1
          rw [HTS.out] at h2
          have hjm : (j : Int) < m := by omega
          have hcy : l.getD i 0 = ts.getD j 0 → ts.contains (l.getD i 0) = true := contains_of (by rw [HTM.out]; exact hlj) _
          have HCY := Lib.hid hcy
          generalize hx : l.getD i 0 = x at *
          generalize hy : ts.getD j 0 = y at *
          have HX := Lib.hid hx; have HY := Lib.hid hy
          clear hx hy hcy
          by_cases hxy : x = y
          · have hat := ahead_at (by rw [HLN.out]; exact hlt) HA.out (by rw [HX.out]; exact HCY.out hxy)
            have HAT := Lib.hid hat
            have t1 : (x == y) = true := beq_iff_eq.2 hxy
            clear hat hxy
            have hin2 : (i : Int) ≤ s.size := by rw [hn]; omega
            have e1 : s.extract 0 i = strOfNums (ahead ts l) := by rw [HAT.out.1, ← str_sb (s.extract 0 i), sb_extract, HL.out]; rfl
            have e2 : s.extract i s.size = strOfNums (behind ts l) := by rw [HAT.out.2, ← str_sb (s.extract i s.size), sb_from, HL.out]
            have E1 := Lib.hid e1; have E2 := Lib.hid e2
            clear e1 e2
            go_wp2
            refine wp_region_lin (fun w' => w' = wr.drew) 7 [(0, true), (1, true), (2, true), (3, true), (4, true), (5, true), (6, true)] (by kernel_rfl) (by kernel_rfl) (fun _ _ d _ _ h => by cases d <;> exact h) rfl ?_
            simp only [List.map_cons, List.map_nil, pick_zero, pick_succ, List.drop_succ_cons, List.drop_zero]
            iterate 7 (refine lin_q ?_ rfl ?_ ?_; rotate_left 1; (focus (rintro w' rfl; go_simp; first | done | with_reducible rfl | (trace_state; fail))); simp only [Act.put, List.setIfInBounds_toArray, List.set_cons_zero, List.set_cons_succ])
            refine lin_nil ?_
            clear h1 h2 t1
            go_wp2
            refine wp_region_lin (fun w' => w' = wr.drew.drew) 8 [(0, true), (1, true), (2, true), (3, true), (4, true), (5, true), (6, true), (7, true)] (by kernel_rfl) (by kernel_rfl) (fun _ _ d _ _ h => by cases d <;> exact h) rfl ?_
            simp only [List.map_cons, List.map_nil, pick_zero, pick_succ, List.drop_succ_cons, List.drop_zero]
            iterate 8 (refine lin_q ?_ rfl ?_ ?_; rotate_left 1; (focus (rintro w' rfl; go_simp; first | done | with_reducible rfl | (trace_state; fail))); simp only [Act.put, List.setIfInBounds_toArray, List.set_cons_zero, List.set_cons_succ])
            refine lin_nil ?_
            go_wp2
            go_ret2
            obtain ⟨q, hq⟩ := HW.out
            exact ⟨by rw [← E1.out, ← E2.out, hn]; rfl, q + 2, by rw [hq]; rfl⟩
          · have t1 : (x == y) = false := beq_eq_false_iff_ne.2 hxy
            have hb : ∀ k, k < j + 1 → x ≠ ts.getD k 0 := by
              intro k hk
              rcases (by omega : k < j ∨ k = j) with h | rfl
              · exact HB.out k h
              · rw [HY.out]; exact hxy
            have HB2 := Lib.hid hb
            clear hxy hb
            go_wp2
            refine wp_region_lin (fun w' => w' = wr.drew) 7 [(0, true), (1, true), (2, true), (3, true), (4, true), (5, true), (6, true)] (by kernel_rfl) (by kernel_rfl) (fun _ _ d _ _ h => by cases d <;> exact h) rfl ?_
            simp only [List.map_cons, List.map_nil, pick_zero, pick_succ, List.drop_succ_cons, List.drop_zero]
            iterate 7 (refine lin_q ?_ rfl ?_ ?_; rotate_left 1; (focus (rintro w' rfl; go_simp; first | done | with_reducible rfl | (trace_state; fail))); simp only [Act.put, List.setIfInBounds_toArray, List.set_cons_zero, List.set_cons_succ])
            refine lin_nil ?_
            clear h1 h2 t1
            go_wp2
            go_roundw
            case rel => exact ⟨j + 1, by omega, by go_num, HB2, by obtain ⟨q, hq⟩ := HW.out; exact ⟨q + 1, by rw [hq]; rfl⟩⟩
            case measure => simp [intOf]; omega
        · obtain rfl : j = m := by omega
          have hno := contains_no (st := ts) (c := l.getD i 0) (fun k hk => HB.out k (by rw [HTM.out] at hk; exact hk))
          have ha : ∀ k, k < i + 1 → ts.contains (l.getD k 0) = false := by
            intro k hk
            rcases (by omega : k < i ∨ k = i) with h | rfl
            · exact HA.out k h
            · exact hno
          have HA2 := Lib.hid ha
          clear hno ha
          go_wp2
          go_roundw
          case rel => exact ⟨i + 1, by omega, by go_num, HA2, HW.out⟩
          case measure => simp [intOf]; omega
    · obtain rfl : i = n := by omega
      have hat := ahead_none (stops := ts) (l := l) (fun j hj => HA.out j (by rw [HLN.out] at hj; exact hj))
      have HAT := Lib.hid hat
      have e1 : s = strOfNums (ahead ts l) := by rw [HAT.out.1, ← HL.out, str_sb]
      have E1 := Lib.hid e1
      clear hat e1
      go_wp2
      go_ret2
      exact ⟨by rw [HAT.out.2, ← E1.out]; rfl, HW.out⟩
set_option maxHeartbeats 1000000 in
theorem begins_c {w : World} (s p : ByteArray) (hs : s.size ≤ 1073741824) (hp : p.size ≤ 1073741824) : Calls Tryd.prog 29 #[.string s, .string p] w fun e w' => e = .returned (.bool (begI (sb p) (sb s))) ∧ w = w' := by
  by_cases h : p.size ≤ s.size
  · have h' : (p.size : Int) ≤ s.size := by omega
    have hb : ((s.extract 0 p.size).toList == p.toList) = begI (sb p) (sb s) := by
      rw [beq_sb, sb_extract]
      unfold begI
      rw [length_sb]
      rfl
    generalize begI (sb p) (sb s) = b at *
    go_enter Tryd.func29, Tryd.ntmps29
    go_wp2
    go_ret
    exact ⟨rfl, rfl⟩
  · have h' : ¬ ((p.size : Int) ≤ s.size) := by omega
    rw [begI_short (by rw [length_sb, length_sb]; omega)]
    go_enter Tryd.func29, Tryd.ntmps29
    go_wp2
    go_ret
    exact ⟨rfl, rfl⟩
/-- A string held against a constant, as the walk has it. -/
theorem beq_lit (s : ByteArray) (bs : List UInt8) : (s.toList == bs) = decide (sb s = bs.map fun b => (b.toNat : Int)) := by
  have h := beq_sb s ⟨bs.toArray⟩
  have e : (⟨bs.toArray⟩ : ByteArray).toList = bs := ByteArray.toList_mk bs
  rw [e] at h
  rw [h]
  rfl
set_option maxHeartbeats 2000000 in
theorem figures_c {w : World} (s : ByteArray) (least most : Int) (hm : most ≤ 18) : Calls Tryd.prog 18 #[.string s, .int .i64 least, .int .i64 most] w fun e w' => e = .returned (.tuple #[.int .i64 ((figI (sb s) least most).getD 0), .bool (figI (sb s) least most).isSome]) ∧ w = w' := by
  obtain ⟨l, hl⟩ : ∃ l, sb s = l := ⟨_, rfl⟩
  obtain ⟨n, hn⟩ : ∃ n, s.size = n := ⟨_, rfl⟩
  have hln : l.length = n := by rw [← hl, ← hn]; exact length_sb s
  have HL := Lib.hid hl; have HN := Lib.hid hn; have HLN := Lib.hid hln
  obtain ⟨o, ho⟩ : ∃ o, figI l least most = o := ⟨_, rfl⟩
  have HO := Lib.hid ho
  rw [hl, ho]
  clear hl hln ho
  by_cases h1 : (n : Int) < least
  · have hno : o = none := by rw [← HO.out]; unfold figI; rw [if_neg]; intro h; have := h.1; rw [HLN.out] at this; omega
    have HNO := Lib.hid hno
    clear hno
    go_enter Tryd.func18, Tryd.ntmps18
    go_wp2
    go_ret2
    exact ⟨by rw [HNO.out]; rfl, rfl⟩
  · by_cases h2 : most < (n : Int)
    · have hno : o = none := by rw [← HO.out]; unfold figI; rw [if_neg]; intro h; have := h.2.1; rw [HLN.out] at this; omega
      have HNO := Lib.hid hno
      clear hno
      go_enter Tryd.func18, Tryd.ntmps18
      go_wp2
      go_ret2
      exact ⟨by rw [HNO.out]; rfl, rfl⟩
    · go_enter Tryd.func18, Tryd.ntmps18
      go_wp2
      have hn18 : n ≤ 18 := by omega
      go_loopw [8, 9] (fun u t w' => ∃ i : Nat, i ≤ n ∧ t = .int .i64 i ∧ Hid (u = .int .i64 (figN (l.take i))) ∧ Hid (∀ x ∈ l.take i, 48 ≤ x ∧ x ≤ 57) ∧ w' = w) (fun _ t _ => n - (intOf t).toNat)
      case atStart => exact ⟨0, Nat.zero_le _, rfl, rfl, Lib.hid (by simp), rfl⟩
      case round =>
        obtain ⟨i, hi, rfl, HU, HA, rfl⟩ := hrel
        have hu := HU.out
        subst hu
        have hb := figN_bound (l.take i) HA.out
        have hp : (10 : Int) ^ (l.take i).length ≤ 10 ^ 17 ∨ n ≤ i := by
          by_cases h : i < n
          · left
            have : (l.take i).length ≤ 17 := by rw [List.length_take]; omega
            have hall : ∀ k, k < 18 → (10 : Int) ^ k ≤ 10 ^ 17 := by decide
            exact hall _ (by omega)
          · right; omega
        by_cases hlt : i < n
        · have hix : i < l.length := by rw [HLN.out]; exact hlt
          have h3 := index_at wr s i i rfl (by rw [hn]; exact hlt)
          rw [HL.out] at h3
          have hin : (i : Int) < n := by omega
          have hts : l.take (i + 1) = l.take i ++ [l.getD i 0] := by rw [List.take_succ_eq_append_getElem hix, List.getD_eq_getElem?_getD, List.getElem?_eq_getElem hix]; rfl
          have hmem : l.getD i 0 ∈ l := by rw [List.getD_eq_getElem?_getD, List.getElem?_eq_getElem hix]; exact List.getElem_mem hix
          have hsn := figN_snoc (l.take i) (l.getD i 0)
          rw [← hts] at hsn
          have HSN := Lib.hid hsn; have HMEM := Lib.hid hmem; have HTS := Lib.hid hts
          have hf0 : 0 ≤ figN (l.take i) := hb.1
          have hf1 : figN (l.take i) < 100000000000000000 := by
            rcases hp with hp | hp
            · exact Int.lt_of_lt_of_le hb.2 hp
            · omega
          clear hts hsn hmem hb hp hix
          generalize figN (l.take i) = f at *
          generalize l.getD i 0 = x at *
          by_cases h4 : x < 48
          · have hno : o = none := by rw [← HO.out]; unfold figI; rw [if_neg]; intro h; have := h.2.2 x HMEM.out; omega
            have HNO := Lib.hid hno
            clear hno
            go_wp2
            go_ret2
            exact ⟨by rw [HNO.out]; rfl, rfl⟩
          · by_cases h5 : 57 < x
            · have hno : o = none := by rw [← HO.out]; unfold figI; rw [if_neg]; intro h; have := h.2.2 x HMEM.out; omega
              have HNO := Lib.hid hno
              clear hno
              go_wp2
              go_ret2
              exact ⟨by rw [HNO.out]; rfl, rfl⟩
            · have hA2 : ∀ y ∈ l.take (i + 1), 48 ≤ y ∧ y ≤ 57 := by
                rw [HTS.out]
                intro y hy
                rcases List.mem_append.1 hy with hy | hy
                · exact HA.out y hy
                · rw [List.mem_singleton] at hy; omega
              have HA2 := Lib.hid hA2
              clear hA2
              go_wp2
              go_roundw
              case rel => exact ⟨i + 1, by omega, by go_num, Lib.hid (by rw [HSN.out]), HA2, trivial⟩
              case measure => simp [intOf]; omega
        · obtain rfl : i = n := by omega
          have hta : l.take i = l := List.take_of_length_le (by rw [HLN.out]; exact Nat.le_refl _)
          have hal := HA.out
          rw [hta] at hal hb
          rw [hta]
          have hyes : o = some (figN l) := by rw [← HO.out]; unfold figI; rw [if_pos ⟨by rw [HLN.out]; omega, by rw [HLN.out]; omega, hal⟩]
          have HY := Lib.hid hyes
          clear hyes hta hb hp hal
          generalize figN l = f at *
          go_wp2
          go_ret2
          exact ⟨by rw [HY.out]; rfl, rfl⟩
end Go.Proofs.YtkmfbfmmlldphaaDoor
