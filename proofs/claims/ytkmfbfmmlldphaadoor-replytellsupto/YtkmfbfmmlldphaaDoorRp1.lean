/-
  The document's own answers, in plain Go: line, blanks, names, values.
-/
import Derived.Test.YtkmfbfmmlldphaaDoorRep1
import Derived.Test.YtkmfbfmmlldphaaDoorHead2
import Derived.Test.YtkmfbfmmlldphaaDoorUrl3
import Derived.Deep.QuietTactic
import Derived.BigQuiet
namespace Go.Proofs.YtkmfbfmmlldphaaDoor
set_option linter.unusedVariables false
set_option linter.unusedSimpArgs false
set_option maxRecDepth 20000
open Go.RowKit

/-! ### lines -/
def lineV (o : Option (List Int × List Int)) : Value := match o with
  | some (p, r) => .tuple #[.string (strOfNums p), .string (strOfNums r), .bool true]
  | none => .tuple #[.string ⟨#[]⟩, .string ⟨#[]⟩, .bool false]
theorem lineI_at {l : List Int} {i : Nat} (h : i + 1 < l.length) : lineI (l.drop i) = if l.getD i 0 = 13 ∧ l.getD (i + 1) 0 = 10 then some ([], l.drop (i + 2)) else (lineI (l.drop (i + 1))).map fun p => (l.getD i 0 :: p.1, p.2) := by
  have e0 : l.getD i 0 = l[i] := by rw [List.getD_eq_getElem?_getD, List.getElem?_eq_getElem (by omega), Option.getD_some]
  have e1 : l.getD (i + 1) 0 = l[i + 1] := by rw [List.getD_eq_getElem?_getD, List.getElem?_eq_getElem h, Option.getD_some]
  rw [List.drop_eq_getElem_cons (show i < l.length by omega), lineI_cons, e0, e1]
  have e2 : (l.drop (i + 1)).head? = some l[i + 1] := by rw [List.drop_eq_getElem_cons h]; rfl
  have e3 : (l.drop (i + 1)).tail = l.drop (i + 2) := by rw [List.drop_eq_getElem_cons h]; rfl
  rw [e2, e3]
  simp only [Option.some.injEq]
theorem lineI_last {l : List Int} {i : Nat} (h : l.length ≤ i + 1) : lineI (l.drop i) = none := by
  have hl : (l.drop i).length ≤ 1 := by simp; omega
  match hd : l.drop i, hl with
  | [], _ => rfl
  | [_], _ => rfl
  | _ :: _ :: _, hl => simp at hl
def LineTo (l : List Int) (i : Nat) : Prop := lineI l = (lineI (l.drop i)).map fun p => (l.take i ++ p.1, p.2)
theorem lineTo_zero (l : List Int) : LineTo l 0 := by
  unfold LineTo
  rw [List.drop_zero]
  cases lineI l with
  | none => rfl
  | some p => simp
theorem LineTo.next {l : List Int} {i : Nat} (h : LineTo l i) (hi : i + 1 < l.length) (hn : ¬ (l.getD i 0 = 13 ∧ l.getD (i + 1) 0 = 10)) : LineTo l (i + 1) := by
  unfold LineTo at *
  rw [h, lineI_at hi, if_neg hn, Option.map_map]
  have e0 : l.take (i + 1) = l.take i ++ [l.getD i 0] := by
    rw [List.take_succ_eq_append_getElem (by omega), List.getD_eq_getElem?_getD, List.getElem?_eq_getElem (by omega), Option.getD_some]
  congr 1
  funext p
  simp [e0]
theorem LineTo.hit {l : List Int} {i : Nat} (h : LineTo l i) (hi : i + 1 < l.length) (h1 : l.getD i 0 = 13) (h2 : l.getD (i + 1) 0 = 10) : lineI l = some (l.take i, l.drop (i + 2)) := by
  unfold LineTo at h
  rw [h, lineI_at hi, if_pos ⟨h1, h2⟩]
  simp
theorem LineTo.none {l : List Int} {i : Nat} (h : LineTo l i) (hi : l.length ≤ i + 1) : lineI l = none := by
  unfold LineTo at h
  rw [h, lineI_last hi]
  rfl
theorem ext_str (s : ByteArray) (i j : Nat) : s.extract i j = strOfNums (win (sb s) i j) := by rw [← sb_win, str_sb]
theorem win_from (l : List Int) (i : Nat) : win l 0 i = l.take i := by unfold win; rw [List.drop_zero]
theorem win_rest (l : List Int) (i n : Nat) (h : n = l.length) : win l i n = l.drop i := by unfold win; rw [h, List.take_length]
set_option maxHeartbeats 4000000 in
theorem line_c {w : World} (s : ByteArray) (hs : s.size ≤ 1073741824) : Calls Tryd.prog 28 #[.string s] w (Quiet w (lineV (lineI (sb s)))) := by
  obtain ⟨l, hl⟩ : ∃ l, sb s = l := ⟨_, rfl⟩
  obtain ⟨n, hn⟩ : ∃ n, s.size = n := ⟨_, rfl⟩
  have hln : l.length = n := by rw [← hl, ← hn]; exact length_sb s
  have HL := Lib.hid hl; have HN := Lib.hid hn; have HLN := Lib.hid hln
  rw [hl]
  rw [hn] at hs
  clear hl hln
  go_enter Tryd.func28, Tryd.ntmps28
  go_wp2
  go_loopw [5] (fun t w' => ∃ i : Nat, i ≤ n ∧ t = .int .i64 i ∧ Hid (LineTo l i) ∧ w' = w) (fun t _ => n - (intOf t).toNat)
  case atStart => exact ⟨0, Nat.zero_le _, rfl, Lib.hid (lineTo_zero l), rfl⟩
  case round =>
    obtain ⟨i, hi, rfl, HT, rfl⟩ := hrel
    by_cases hlt : i + 1 < n
    · have hlt' : (i : Int) + 1 < n := by omega
      have hil : i + 1 < l.length := by rw [HLN.out]; exact hlt
      have h1 := index_at wr s i i rfl (by rw [HN.out]; omega)
      have h2 := index_at wr s (i + 1) ((i : Int) + 1) (by omega) (by rw [HN.out]; exact hlt)
      rw [HL.out] at h1 h2
      have hnx := HT.out.next hil
      have hht := HT.out.hit hil
      have hw1 : IntKind.i64.wrap ((i : Int) + 1) = (i : Int) + 1 := IntWalk.i64_in _ (by omega)
      have hw2 : IntKind.i64.wrap ((i : Int) + 2) = (i : Int) + 2 := IntWalk.i64_in _ (by omega)
      generalize l.getD i 0 = x at *
      generalize l.getD (i + 1) 0 = y at *
      have HNX := Lib.hid hnx; have HHT := Lib.hid hht
      clear hnx hht hil
      by_cases hx : x = 13
      · have hx' : (x == 13) = true := by simp; omega
        by_cases hy : y = 10
        · have hy' : (y == 10) = true := by simp; omega
          have hres := HHT.out hx hy
          have HE := Lib.hid hres
          have hsz : (i : Int) + 2 ≤ s.size := by rw [HN.out]; omega
          have hsi : (i : Int) ≤ s.size := by rw [HN.out]; omega
          have hto : ((i : Int) + 2).toNat = i + 2 := by omega
          have hi0 : (0 : Int) ≤ (i : Int) + 2 := by omega
          have hi1 : (0 : Int) ≤ (i : Int) := by omega
          clear hx hy hres HNX HHT
          go_wp2
          go_quiet (fail)
          go_wp2
          go_ret3
          refine ⟨?_, nq, rfl⟩
          rw [HE.out]
          show Ending.returned (.tuple #[.string (s.extract 0 i), .string (s.extract (i + 2) n), .bool true]) = _
          rw [ext_str s 0 i, ext_str s (i + 2) n, HL.out, win_from l i, win_rest l (i + 2) n (by rw [HLN.out])]
          rfl
        · have hy' : (y == 10) = false := by simp; omega
          have HT2 := Lib.hid (HNX.out (fun h => hy h.2))
          clear hx hy HNX HHT
          go_wp2
          go_roundw
          case rel => exact ⟨i + 1, by omega, by go_num, HT2, trivial⟩
          case measure => simp [intOf]; omega
      · have hx' : (x == 13) = false := by simp; omega
        have HT2 := Lib.hid (HNX.out (fun h => hx h.1))
        clear hx HNX HHT
        go_wp2
        go_roundw
        case rel => exact ⟨i + 1, by omega, by go_num, HT2, trivial⟩
        case measure => simp [intOf]; omega
    · have hlt' : ¬ (i : Int) + 1 < n := by omega
      have hres := HT.out.none (by rw [HLN.out]; omega)
      have HE := Lib.hid hres
      clear hres
      go_wp2
      go_ret3
      exact ⟨by rw [HE.out]; rfl, 0, rfl⟩
/-! ### blanks -/
theorem blanksI_cons {x : Int} {l : List Int} (h : x = 32) : blanksI (x :: l) = blanksI l := by subst h; exact blanksI_front l
set_option maxHeartbeats 4000000 in
theorem blanks_c {w : World} (s : ByteArray) (hs : s.size ≤ 1073741824) : Calls Tryd.prog 31 #[.string s] w fun e w' => e = .returned (.string (strOfNums (blanksI (sb s)))) ∧ w = w' := by
  obtain ⟨l, hl⟩ : ∃ l, blanksI (sb s) = l := ⟨_, rfl⟩
  have HL := Lib.hid hl
  rw [hl]
  clear hl
  go_enter Tryd.func31, Tryd.ntmps31
  go_wp2
  go_loopw [0] (fun u w' => ∃ t : ByteArray, t.size ≤ 1073741824 ∧ u = .string t ∧ Hid (blanksI (sb t) = l) ∧ w' = w) (fun u _ => strSize u)
  case atStart => exact ⟨s, hs, rfl, HL, rfl⟩
  case round =>
    obtain ⟨t, ht, rfl, HT, rfl⟩ := hrel
    clear HL
    by_cases h0 : 0 < t.size
    · have hix := index_sb0 wr t h0
      have hsb : sb t = (sb t).getD 0 0 :: (sb t).drop 1 := by
        have h1 : 0 < (sb t).length := by rw [length_sb]; exact h0
        rw [List.getD_eq_getElem?_getD, List.getElem?_eq_getElem h1, Option.getD_some]
        exact (List.drop_eq_getElem_cons (l := sb t) h1)
      have h0' : (0 : Int) < t.size := by omega
      have h1' : (1 : Int) ≤ t.size := by omega
      have HSB := Lib.hid hsb
      clear hsb
      by_cases hx : (sb t).getD 0 0 = 32
      · have hx' : ((sb t).getD 0 0 == 32) = true := beq_iff_eq.2 hx
        have hbl : blanksI (sb (t.extract 1 t.size)) = l := by
          rw [sb_from, ← HT.out, HSB.out, blanksI_cons hx]; rfl
        have hsz : (t.extract 1 t.size).size = t.size - 1 := by rw [← length_sb, sb_from, List.length_drop, length_sb]
        have HBL := Lib.hid hbl; have HSZ := Lib.hid hsz
        generalize (sb t).getD 0 0 = x at *
        clear hbl hx hsz HSB
        go_wp2
        go_roundw
        case rel => exact ⟨_, by rw [HSZ.out]; omega, rfl, HBL, trivial⟩
        case measure => simp only [strSize]; rw [HSZ.out]; omega
      · have hx' : ((sb t).getD 0 0 == 32) = false := beq_eq_false_iff_ne.2 hx
        have hhd : (sb t).head? ≠ some 32 := by rw [HSB.out]; simpa using hx
        have HHD := Lib.hid hhd
        generalize (sb t).getD 0 0 = x at *
        clear hx hhd HSB
        go_wp2
        go_loopw [0] (fun u w' => ∃ r : ByteArray, r.size ≤ 1073741824 ∧ u = .string r ∧ Hid (blanksI (sb r) = l ∧ (sb r).head? ≠ some 32) ∧ w' = wr) (fun u _ => strSize u)
        case atStart => exact ⟨t, ht, rfl, Lib.hid ⟨HT.out, HHD.out⟩, rfl⟩
        case round =>
          clear HT HHD hix hx' h0 h0' h1' ht
          obtain ⟨r, hr, rfl, HR, rfl⟩ := hrel
          by_cases h2 : 0 < r.size
          · have hix2 := index_at wr r (r.size - 1) ((r.size : Int) - 1) (by omega) (by omega)
            have hls : sb r = (sb r).take (r.size - 1) ++ [(sb r).getD (r.size - 1) 0] := by
              have h3 : r.size - 1 < (sb r).length := by rw [length_sb]; omega
              rw [List.getD_eq_getElem?_getD, List.getElem?_eq_getElem h3, Option.getD_some, ← List.take_succ_eq_append_getElem h3, show r.size - 1 + 1 = (sb r).length by rw [length_sb]; omega, List.take_length]
            have h2' : (0 : Int) < r.size := by omega
            have h3' : (1 : Int) ≤ r.size := by omega
            have h4' : (r.size : Int) - 1 ≤ r.size := by omega
            have h5' : (0 : Int) ≤ (r.size : Int) - 1 := by omega
            have h6' : ((r.size : Int) - 1).toNat = r.size - 1 := by omega
            have HLS := Lib.hid hls
            clear hls
            by_cases hy : (sb r).getD (r.size - 1) 0 = 32
            · have hy' : ((sb r).getD (r.size - 1) 0 == 32) = true := beq_iff_eq.2 hy
              have hsb2 : sb (r.extract 0 (r.size - 1)) = (sb r).take (r.size - 1) := by rw [sb_extract, List.drop_zero]
              have hbl : blanksI (sb (r.extract 0 (r.size - 1))) = l := by
                rw [hsb2, ← HR.out.1]
                conv => rhs; rw [HLS.out, hy]
                rw [blanksI_back]
              have hhd : (sb (r.extract 0 (r.size - 1))).head? ≠ some 32 := by
                rw [hsb2]
                intro e
                apply HR.out.2
                rw [List.head?_take] at e
                split at e
                · cases e
                · exact e
              have hsz : (r.extract 0 (r.size - 1)).size = r.size - 1 := by rw [← length_sb, hsb2, List.length_take, length_sb]; omega
              have HBL := Lib.hid hbl; have HSZ := Lib.hid hsz; have HHD := Lib.hid hhd
              generalize (sb r).getD (r.size - 1) 0 = y at *
              clear hbl hy hsz hhd HLS hsb2 HR
              go_wp2
              go_roundw
              case rel => exact ⟨_, by rw [HSZ.out]; omega, rfl, Lib.hid ⟨HBL.out, HHD.out⟩, trivial⟩
              case measure => simp only [strSize]; rw [HSZ.out]; omega
            · have hy' : ((sb r).getD (r.size - 1) 0 == 32) = false := beq_eq_false_iff_ne.2 hy
              have hres : blanksI (sb r) = sb r := blanksI_same HR.out.2 (by rw [HLS.out, List.getLast?_concat]; simpa using hy)
              have he : r = strOfNums l := by rw [← HR.out.1, hres, str_sb]
              have HE := Lib.hid he
              generalize (sb r).getD (r.size - 1) 0 = y at *
              clear hy hres he HLS
              go_wp2
              go_ret
              exact ⟨by rw [← HE.out]; rfl, rfl⟩
          · have hres : sb r = [] := List.eq_nil_of_length_eq_zero (by rw [length_sb]; omega)
            have he : r = strOfNums l := by rw [← HR.out.1, hres, ← str_sb r, hres]; rfl
            have HE := Lib.hid he
            have h2' : ¬ (0 : Int) < r.size := by omega
            clear hres he
            go_wp2
            go_ret
            exact ⟨by rw [← HE.out]; rfl, rfl⟩
    · have hres : sb t = [] := List.eq_nil_of_length_eq_zero (by rw [length_sb]; omega)
      have he : t = strOfNums l := by rw [← HT.out, hres, ← str_sb t, hres]; rfl
      have HE := Lib.hid he
      have h0' : ¬ (0 : Int) < t.size := by omega
      clear hres he
      go_wp2
      go_loopw [0] (fun u w' => u = .string t ∧ w' = wr) (fun u _ => strSize u)
      case atStart => exact ⟨rfl, rfl⟩
      case round =>
        obtain ⟨rfl, rfl⟩ := hrel
        go_wp2
        go_ret
        exact ⟨by rw [← HE.out]; rfl, rfl⟩
/-! ### names, values -/
set_option maxHeartbeats 1000000 in
theorem nameByte_c {w : World} (x : Int) : Calls Tryd.prog 46 #[.int .u8 x] w fun e w' => e = .returned (.bool (nbI x)) ∧ w = w' := by
  by_cases h1 : 65 ≤ x
  · by_cases h2 : x ≤ 90
    · have e : nbI x = true := by unfold nbI; rw [decide_eq_true_iff]; omega
      rw [e]; clear e
      go_enter Tryd.func46, Tryd.ntmps46
      go_wp2
      go_ret
      exact ⟨rfl, rfl⟩
    · by_cases h3 : 97 ≤ x
      · by_cases h4 : x ≤ 122
        · have e : nbI x = true := by unfold nbI; rw [decide_eq_true_iff]; omega
          rw [e]; clear e
          go_enter Tryd.func46, Tryd.ntmps46
          go_wp2
          go_ret
          exact ⟨rfl, rfl⟩
        · have e : nbI x = false := by unfold nbI; rw [decide_eq_false_iff_not]; omega
          have q1 : (48 : Int) ≤ x := by omega
          have q2 : ¬ x ≤ 57 := by omega
          have q3 : (x == 45) = false := by simp; omega
          rw [e]; clear e
          go_enter Tryd.func46, Tryd.ntmps46
          go_wp2
          go_ret
          exact ⟨rfl, rfl⟩
      · have e : nbI x = false := by unfold nbI; rw [decide_eq_false_iff_not]; omega
        have q1 : (48 : Int) ≤ x := by omega
        have q2 : ¬ x ≤ 57 := by omega
        have q3 : (x == 45) = false := by simp; omega
        rw [e]; clear e
        go_enter Tryd.func46, Tryd.ntmps46
        go_wp2
        go_ret
        exact ⟨rfl, rfl⟩
  · have h3 : ¬ 97 ≤ x := by omega
    by_cases h5 : 48 ≤ x
    · by_cases h6 : x ≤ 57
      · have e : nbI x = true := by unfold nbI; rw [decide_eq_true_iff]; omega
        rw [e]; clear e
        go_enter Tryd.func46, Tryd.ntmps46
        go_wp2
        go_ret
        exact ⟨rfl, rfl⟩
      · have e : nbI x = false := by unfold nbI; rw [decide_eq_false_iff_not]; omega
        have q3 : (x == 45) = false := by simp; omega
        rw [e]; clear e
        go_enter Tryd.func46, Tryd.ntmps46
        go_wp2
        go_ret
        exact ⟨rfl, rfl⟩
    · by_cases h7 : x = 45
      · subst h7
        go_enter Tryd.func46, Tryd.ntmps46
        go_wp2
        go_ret
        exact ⟨rfl, rfl⟩
      · have e : nbI x = false := by unfold nbI; rw [decide_eq_false_iff_not]; omega
        have q3 : (x == 45) = false := by simp; omega
        rw [e]; clear e
        go_enter Tryd.func46, Tryd.ntmps46
        go_wp2
        go_ret
        exact ⟨rfl, rfl⟩
theorem nameOk_iff (most : Int) (l : List Int) : decide (NameOk most l) = (l.all nbI && (decide (1 ≤ (l.length : Int)) && decide ((l.length : Int) ≤ most))) := by
  rw [Bool.eq_iff_iff, decide_eq_true_iff]
  unfold NameOk
  simp only [decide_eq_true_iff, Bool.and_eq_true, List.all_eq_true]
  have h : ∀ x : Int, nbI x = true ↔ NB x := fun x => by unfold nbI NB; rw [decide_eq_true_iff]
  simp only [h]
  constructor
  · rintro ⟨h1, h2, h3⟩; exact ⟨h1, by omega, h3⟩
  · rintro ⟨h1, h2, h3⟩; exact ⟨h1, by omega, h3⟩
set_option maxHeartbeats 2000000 in
theorem named_c {w : World} (s : ByteArray) (hs : s.size ≤ 1073741824) (most : Int) : Calls Tryd.prog 32 #[.string s, .int .i64 most] w fun e w' => e = .returned (.bool (decide (NameOk most (sb s)))) ∧ w = w' := by
  rw [nameOk_iff]
  obtain ⟨l, hl⟩ : ∃ l, sb s = l := ⟨_, rfl⟩
  obtain ⟨n, hn⟩ : ∃ n, s.size = n := ⟨_, rfl⟩
  have hln : l.length = n := by rw [← hl, ← hn]; exact length_sb s
  have HL := Lib.hid hl; have HN := Lib.hid hn; have HLN := Lib.hid hln
  rw [hl, hln]
  rw [hn] at hs
  clear hl hln
  go_enter Tryd.func32, Tryd.ntmps32
  go_wp2
  go_loopw [5] (fun t w' => ∃ k : Nat, k ≤ n ∧ t = .int .i64 k ∧ Hid ((l.take k).all nbI = true) ∧ w' = w) (fun t _ => n - (intOf t).toNat)
  case atStart => exact ⟨0, Nat.zero_le _, rfl, Lib.hid rfl, rfl⟩
  case round =>
    obtain ⟨k, hk, rfl, HA, rfl⟩ := hrel
    by_cases hlt : k < n
    · have hix := index_sb wr s k (by rw [HN.out]; exact hlt)
      rw [HL.out] at hix
      have hkn : (k : Int) < n := by omega
      have hkl : k < l.length := by rw [HLN.out]; exact hlt
      cases hb : nbI (l.getD k 0) with
      | true =>
        have HST := Lib.hid (all_step hkl HA.out hb)
        have hcall := nameByte_c (w := wr) (l.getD k 0)
        rw [hb] at hcall
        generalize l.getD k 0 = x at *
        have HC := Lib.hid hcall
        clear hb hcall hkl
        go_wp2_with fail
        with_reducible refine HC.out.mono ?_
        rintro e w2 ⟨rfl, rfl⟩
        clear HC
        go_wp2
        go_roundw
        case rel => exact ⟨k + 1, by omega, by go_num, HST, trivial⟩
        case measure => simp [intOf]; omega
      | false =>
        have HE := Lib.hid (all_not hkl hb)
        have hcall := nameByte_c (w := wr) (l.getD k 0)
        rw [hb] at hcall
        generalize l.getD k 0 = x at *
        have HC := Lib.hid hcall
        clear hb hcall hkl
        go_wp2_with fail
        with_reducible refine HC.out.mono ?_
        rintro e w2 ⟨rfl, rfl⟩
        clear HC
        go_wp2
        go_ret
        exact ⟨by rw [HE.out]; rfl, rfl⟩
    · obtain rfl : k = n := by omega
      have hall := HA.out
      rw [List.take_of_length_le (by rw [HLN.out]; exact Nat.le_refl _)] at hall
      have HALL := Lib.hid hall
      clear hall
      by_cases h1 : (1 : Int) ≤ k
      · go_wp2
        go_ret
        exact ⟨by rw [HALL.out, decide_eq_true h1]; rfl, rfl⟩
      · have H1 := Lib.hid h1
        go_wp2
        go_ret
        exact ⟨by rw [HALL.out, decide_eq_false (by have := H1.out; omega)]; rfl, rfl⟩
theorem valueOk_iff (most : Int) (l : List Int) : decide (ValueOk most l) = (l.all vbI && (decide ((l.length : Int) ≤ most) && (decide (l = []) || (!decide (l.getD 0 0 = 32) && !decide (l.getD (l.length - 1) 0 = 32))))) := by
  rw [Bool.eq_iff_iff, decide_eq_true_iff]
  unfold ValueOk
  simp only [decide_eq_true_iff, Bool.and_eq_true, List.all_eq_true, Bool.or_eq_true, Bool.not_eq_true', decide_eq_false_iff_not]
  have h : ∀ x : Int, vbI x = true ↔ (32 ≤ x ∧ x ≤ 126) := fun x => by unfold vbI; rw [decide_eq_true_iff]
  simp only [h]
set_option maxHeartbeats 2000000 in
theorem valued_c {w : World} (s : ByteArray) (hs : s.size ≤ 1073741824) (most : Int) : Calls Tryd.prog 33 #[.string s, .int .i64 most] w fun e w' => e = .returned (.bool (decide (ValueOk most (sb s)))) ∧ w = w' := by
  rw [valueOk_iff]
  obtain ⟨l, hl⟩ : ∃ l, sb s = l := ⟨_, rfl⟩
  obtain ⟨n, hn⟩ : ∃ n, s.size = n := ⟨_, rfl⟩
  have hln : l.length = n := by rw [← hl, ← hn]; exact length_sb s
  have HL := Lib.hid hl; have HN := Lib.hid hn; have HLN := Lib.hid hln
  have hem : (s.toList == ([] : List UInt8)) = decide (l = []) := by rw [beq_lit8 s [] [] rfl, hl]
  rw [hl, hln]
  rw [hn] at hs
  clear hl hln
  go_enter Tryd.func33, Tryd.ntmps33
  go_wp2
  go_loopw [5] (fun t w' => ∃ k : Nat, k ≤ n ∧ t = .int .i64 k ∧ Hid ((l.take k).all vbI = true) ∧ w' = w) (fun t _ => n - (intOf t).toNat)
  case atStart => exact ⟨0, Nat.zero_le _, rfl, Lib.hid rfl, rfl⟩
  case round =>
    obtain ⟨k, hk, rfl, HA, rfl⟩ := hrel
    by_cases hlt : k < n
    · have hix := index_sb wr s k (by rw [HN.out]; exact hlt)
      rw [HL.out] at hix
      have hkn : (k : Int) < n := by omega
      have hkl : k < l.length := by rw [HLN.out]; exact hlt
      by_cases hx1 : l.getD k 0 < 32
      · have HE := Lib.hid (all_not (f := vbI) hkl (by unfold vbI; rw [decide_eq_false_iff_not]; omega))
        generalize l.getD k 0 = x at *
        clear hkl
        go_wp2
        go_ret
        exact ⟨by rw [HE.out]; rfl, rfl⟩
      · by_cases hx2 : 126 < l.getD k 0
        · have HE := Lib.hid (all_not (f := vbI) hkl (by unfold vbI; rw [decide_eq_false_iff_not]; omega))
          generalize l.getD k 0 = x at *
          clear hkl
          go_wp2
          go_ret
          exact ⟨by rw [HE.out]; rfl, rfl⟩
        · have HST := Lib.hid (all_step (f := vbI) hkl HA.out (by unfold vbI; rw [decide_eq_true_iff]; omega))
          generalize l.getD k 0 = x at *
          clear hkl
          go_wp2
          go_roundw
          case rel => exact ⟨k + 1, by omega, by go_num, HST, trivial⟩
          case measure => simp [intOf]; omega
    · obtain rfl : k = n := by omega
      have hall := HA.out
      rw [List.take_of_length_le (by rw [HLN.out]; exact Nat.le_refl _)] at hall
      have HALL := Lib.hid hall
      clear hall
      by_cases h1 : (k : Int) ≤ most
      · have D1 := Lib.hid (decide_eq_true h1)
        by_cases h2 : k = 0
        · have hnil : l = [] := List.eq_nil_of_length_eq_zero (by rw [HLN.out]; exact h2)
          have D2 := Lib.hid (decide_eq_true hnil)
          rw [decide_eq_true hnil] at hem
          clear h2 hnil
          go_wp2
          go_ret
          exact ⟨by rw [HALL.out, D1.out, D2.out]; rfl, rfl⟩
        · have hnil : ¬ l = [] := fun e => h2 (by rw [← HLN.out, e]; rfl)
          have D2 := Lib.hid (decide_eq_false hnil)
          rw [decide_eq_false hnil] at hem
          have hi0 := index_sb0 wr s (by rw [HN.out]; omega)
          have hi1 := index_at wr s (k - 1) ((k : Int) - 1) (by omega) (by rw [HN.out]; omega)
          rw [HL.out] at hi0 hi1
          clear h2 hnil
          by_cases hx : l.getD 0 0 = 32
          · have D3 := Lib.hid (decide_eq_true hx)
            have hx' : (l.getD 0 0 != 32) = false := by rw [bne_eq_false_iff_eq]; exact hx
            generalize l.getD 0 0 = x at hi0 hx'
            clear hx hi1
            go_wp2
            go_ret
            exact ⟨by rw [HALL.out, D1.out, D2.out, D3.out]; rfl, rfl⟩
          · have D3 := Lib.hid (decide_eq_false hx)
            have hx' : (l.getD 0 0 != 32) = true := bne_iff_ne.2 hx
            have hy' : (l.getD (k - 1) 0 != 32) = !decide (l.getD (k - 1) 0 = 32) := by rw [Bool.eq_iff_iff, bne_iff_ne, Bool.not_eq_true', decide_eq_false_iff_not]
            obtain ⟨b, hb⟩ : ∃ b, decide (l.getD (k - 1) 0 = 32) = b := ⟨_, rfl⟩
            rw [hb] at hy'
            have D4 := Lib.hid hb
            generalize l.getD 0 0 = x at hi0 hx'
            generalize l.getD (k - 1) 0 = y at hi1 hy'
            clear hx hb
            go_wp2
            go_ret
            exact ⟨by rw [HALL.out, D1.out, D2.out, D3.out, D4.out]; rfl, rfl⟩
      · have D1 := Lib.hid (decide_eq_false h1)
        go_wp2
        go_ret
        exact ⟨by rw [HALL.out, D1.out]; rfl, rfl⟩
end Go.Proofs.YtkmfbfmmlldphaaDoor
