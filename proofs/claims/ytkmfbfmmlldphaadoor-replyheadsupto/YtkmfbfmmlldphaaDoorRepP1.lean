/-
  The landed program's readHead, contentLengths.
-/
import Derived.Test.YtkmfbfmmlldphaaDoorRepN
import Derived.Test.YtkmfbfmmlldphaaDoorRepV
import Derived.Test.YtkmfbfmmlldphaaDoorRp2
import Derived.Test.YtkmfbfmmlldphaaDoorStrs
import Derived.Test.YtkmfbfmmlldphaaDoorPct5
namespace Go.Proofs.YtkmfbfmmlldphaaDoor
set_option linter.unusedVariables false
set_option linter.unusedSimpArgs false
set_option maxRecDepth 20000
open Go.RowKit

/-- A header, or none, and whether there is one. -/
def headV (o : Option (List Int × List Int)) : Value := .tuple #[.agg (hv2 (toB (o.getD ([], [])))).toArray, .bool o.isSome]
theorem headV_none : headV none = .tuple #[.agg #[.string ⟨#[]⟩, .string ⟨#[]⟩], .bool false] := rfl
set_option maxHeartbeats 4000000 in
theorem rreadHead_c {w0 w : World} {R : Blks} (hV : MostOk w0) (hO : Own w0 w R) (s : ByteArray) (hs : s.size ≤ 1073741824) :
    Calls Tryd.prog 41 #[.string s] w fun e w' => e = .returned (headV (headI (sb s))) ∧ Own w0 w' R := by
  obtain ⟨o, ho⟩ : ∃ o, headI (sb s) = o := ⟨_, rfl⟩
  rw [ho]
  rw [headI_of] at ho
  have hlen : (sb s).length ≤ 1073741824 := by rw [length_sb]; exact hs
  have hB := byt_sb s
  have ha : Byt (ahead [58] (sb s)) := ahead_byt hB
  have hal : (ahead [58] (sb s)).length ≤ 1073741824 := Nat.le_trans (List.takeWhile_sublist _).length_le hlen
  have hb : Byt ((behind [58] (sb s)).drop 1) := byt_drop (behind_byt hB) 1
  have hbl : ((behind [58] (sb s)).drop 1).length ≤ 1073741824 := by
    have h1 : (behind [58] (sb s)).length ≤ (sb s).length := (List.dropWhile_sublist _).length_le
    rw [List.length_drop]; omega
  have hcut := fun (w1 : World) (R1 : Blks) (h : Own w0 w1 R1) => rcut_c hV h s hs 58 58 rfl
  generalize ahead [58] (sb s) = na at *
  obtain ⟨b1, hb1⟩ : ∃ b, decide (behind [58] (sb s) ≠ []) = b := ⟨_, rfl⟩
  have hb1' : (behind [58] (sb s) ≠ []) ↔ b1 = true := by rw [← hb1, decide_eq_true_iff]
  simp only [hb1'] at ho
  simp only [hb1] at hcut
  generalize (behind [58] (sb s)).drop 1 = ra at *
  have hvB := blanksI_byt hb
  have hvL : (blanksI ra).length ≤ 1073741824 := Nat.le_trans (blanksI_len ra) hbl
  have htrim := fun (w1 : World) (R1 : Blks) (h : Own w0 w1 R1) => rtrim_c h (strOfNums ra) (strs_size hbl)
  rw [sb_str hb] at htrim
  generalize blanksI ra = va at *
  have hnm := fun (w1 : World) => risName_c (w := w1) (strOfNums na) (strs_size hal)
  rw [sb_str ha] at hnm
  have hvl := fun (w1 : World) => risValue_c (w := w1) (strOfNums va) (strs_size hvL)
  rw [sb_str hvB] at hvl
  have hno := nameOk_all na
  obtain ⟨b2, hb2⟩ : ∃ b, decide (NameOk 20 na) = b := ⟨_, rfl⟩
  obtain ⟨b3, hb3⟩ : ∃ b, decide (va.all vbI = true ∧ va.length ≤ 40) = b := ⟨_, rfl⟩
  simp only [hb2] at hnm
  simp only [hb3] at hvl
  have hoo : o = if b1 = true ∧ b2 = true ∧ b3 = true then some (na, va) else none := by
    rw [← ho, ← hb2, ← hb3]
    simp only [decide_eq_true_iff, hno]
    by_cases h : b1 = true ∧ na.all nbI = true ∧ (1 ≤ na.length ∧ na.length ≤ 20) ∧ va.all vbI = true ∧ va.length ≤ 40
    · rw [if_pos h, if_pos ⟨h.1, ⟨h.2.1, h.2.2.1⟩, h.2.2.2⟩]
    · rw [if_neg h, if_neg (fun h' => h ⟨h'.1, h'.2.1.1, h'.2.1.2, h'.2.2⟩)]
  have hcl1 := fun (w1 : World) (R1 : Blks) (h : Own w0 w1 R1) => clone_c h (strOfNums na) (strs_size hal)
  have hcl2 := fun (w1 : World) (R1 : Blks) (h : Own w0 w1 R1) => clone_c h (strOfNums va) (strs_size hvL)
  have HCUT := Lib.hid hcut; have HTRIM := Lib.hid htrim; have HNM := Lib.hid hnm; have HVL := Lib.hid hvl; have HOO := Lib.hid hoo; have HC1 := Lib.hid hcl1; have HC2 := Lib.hid hcl2
  have HO := Lib.hid hO
  clear hcut htrim hnm hvl hoo hcl1 hcl2 hO hb1 hb1' hb2 hb3 ho hno hvB hvL hb hbl ha hal hB hlen hV
  have hemp : ∀ x : Bool, False → x = x := fun _ h => rfl
  clear hemp
  cases b1 with
  | false =>
    have HE : Hid (o = none) := Lib.hid (by rw [HOO.out, if_neg (by simp)])
    go_enter Tryd.func41, Tryd.ntmps41
    go_wp2_with (refine wl_alloc rfl _ rfl HO.out _ (alloc_head _) ?_; intro g w1 hO; have HO1 := Lib.hid hO; clear hO HO)
    with_reducible refine (HCUT.out _ _ HO1.out).mono ?_
    rintro e w2 ⟨rfl, hO⟩
    have HO2 := Lib.hid hO; clear hO HO1
    go_wp2_with fail
    with_reducible refine (HTRIM.out _ _ HO2.out).mono ?_
    rintro e w3 ⟨rfl, hO⟩
    have HO3 := Lib.hid hO; clear hO HO2
    go_wp2_with (refine wl_store rfl _ _ _ rfl HO3.out 0 g 0 _ (hv2 (⟨#[]⟩, ⟨#[]⟩)) _ rfl (by rfl) (by rfl) head_size (one_hv2 _) (by simp [hv2]) ?_; intro wz hO; have HZ := Lib.hid (hO.cast (L' := (g, .cells (hv2 (⟨#[]⟩, ⟨#[]⟩)).toArray 30) :: R) rfl); clear hO HO3)
    have hc0 : wz.cell? ⟨g, 0, none⟩ = some (.string ⟨#[]⟩) := HZ.out.cell (.head _) 0
    have hc1 : wz.cell? ⟨g, 1, none⟩ = some (.string ⟨#[]⟩) := HZ.out.cell (.head _) 1
    exact bodyPost_ret (v := .tuple #[.agg #[.string ⟨#[]⟩, .string ⟨#[]⟩], .bool false]) (by simp [results, Tryd.results41, go_sem, hc0, hc1]) rfl ⟨by rw [HE.out]; rfl, HZ.out.tail⟩
  | true =>
    cases b2 with
    | false =>
      have HE : Hid (o = none) := Lib.hid (by rw [HOO.out, if_neg (by simp)])
      go_enter Tryd.func41, Tryd.ntmps41
      go_wp2_with (refine wl_alloc rfl _ rfl HO.out _ (alloc_head _) ?_; intro g w1 hO; have HO1 := Lib.hid hO; clear hO HO)
      with_reducible refine (HCUT.out _ _ HO1.out).mono ?_
      rintro e w2 ⟨rfl, hO⟩
      have HO2 := Lib.hid hO; clear hO HO1
      go_wp2_with fail
      with_reducible refine (HTRIM.out _ _ HO2.out).mono ?_
      rintro e w3 ⟨rfl, hO⟩
      have HO3 := Lib.hid hO; clear hO HO2
      go_wp2_with fail
      with_reducible refine (HNM.out _).mono ?_
      rintro e wq ⟨rfl, hww⟩
      subst hww
      go_wp2_with (refine wl_store rfl _ _ _ rfl HO3.out 0 g 0 _ (hv2 (⟨#[]⟩, ⟨#[]⟩)) _ rfl (by rfl) (by rfl) head_size (one_hv2 _) (by simp [hv2]) ?_; intro wz hO; have HZ := Lib.hid (hO.cast (L' := (g, .cells (hv2 (⟨#[]⟩, ⟨#[]⟩)).toArray 30) :: R) rfl); clear hO HO3)
      have hc0 : wz.cell? ⟨g, 0, none⟩ = some (.string ⟨#[]⟩) := HZ.out.cell (.head _) 0
      have hc1 : wz.cell? ⟨g, 1, none⟩ = some (.string ⟨#[]⟩) := HZ.out.cell (.head _) 1
      exact bodyPost_ret (v := .tuple #[.agg #[.string ⟨#[]⟩, .string ⟨#[]⟩], .bool false]) (by simp [results, Tryd.results41, go_sem, hc0, hc1]) rfl ⟨by rw [HE.out]; rfl, HZ.out.tail⟩
    | true =>
      cases b3 with
      | false =>
        have HE : Hid (o = none) := Lib.hid (by rw [HOO.out, if_neg (by simp)])
        go_enter Tryd.func41, Tryd.ntmps41
        go_wp2_with (refine wl_alloc rfl _ rfl HO.out _ (alloc_head _) ?_; intro g w1 hO; have HO1 := Lib.hid hO; clear hO HO)
        with_reducible refine (HCUT.out _ _ HO1.out).mono ?_
        rintro e w2 ⟨rfl, hO⟩
        have HO2 := Lib.hid hO; clear hO HO1
        go_wp2_with fail
        with_reducible refine (HTRIM.out _ _ HO2.out).mono ?_
        rintro e w3 ⟨rfl, hO⟩
        have HO3 := Lib.hid hO; clear hO HO2
        go_wp2_with fail
        with_reducible refine (HNM.out _).mono ?_
        rintro e wq ⟨rfl, hww⟩
        subst hww
        go_wp2_with fail
        with_reducible refine (HVL.out _).mono ?_
        rintro e wq ⟨rfl, hww⟩
        subst hww
        go_wp2_with (refine wl_store rfl _ _ _ rfl HO3.out 0 g 0 _ (hv2 (⟨#[]⟩, ⟨#[]⟩)) _ rfl (by rfl) (by rfl) head_size (one_hv2 _) (by simp [hv2]) ?_; intro wz hO; have HZ := Lib.hid (hO.cast (L' := (g, .cells (hv2 (⟨#[]⟩, ⟨#[]⟩)).toArray 30) :: R) rfl); clear hO HO3)
        have hc0 : wz.cell? ⟨g, 0, none⟩ = some (.string ⟨#[]⟩) := HZ.out.cell (.head _) 0
        have hc1 : wz.cell? ⟨g, 1, none⟩ = some (.string ⟨#[]⟩) := HZ.out.cell (.head _) 1
        exact bodyPost_ret (v := .tuple #[.agg #[.string ⟨#[]⟩, .string ⟨#[]⟩], .bool false]) (by simp [results, Tryd.results41, go_sem, hc0, hc1]) rfl ⟨by rw [HE.out]; rfl, HZ.out.tail⟩
      | true =>
        have HE : Hid (o = some (na, va)) := Lib.hid (by rw [HOO.out, if_pos ⟨rfl, rfl, rfl⟩])
        go_enter Tryd.func41, Tryd.ntmps41
        go_wp2_with (refine wl_alloc rfl _ rfl HO.out _ (alloc_head _) ?_; intro g w1 hO; have HO1 := Lib.hid hO; clear hO HO)
        with_reducible refine (HCUT.out _ _ HO1.out).mono ?_
        rintro e w2 ⟨rfl, hO⟩
        have HO2 := Lib.hid hO; clear hO HO1
        go_wp2_with fail
        with_reducible refine (HTRIM.out _ _ HO2.out).mono ?_
        rintro e w3 ⟨rfl, hO⟩
        have HO3 := Lib.hid hO; clear hO HO2
        go_wp2_with fail
        with_reducible refine (HNM.out _).mono ?_
        rintro e wq ⟨rfl, hww⟩
        subst hww
        go_wp2_with fail
        with_reducible refine (HVL.out _).mono ?_
        rintro e wq ⟨rfl, hww⟩
        subst hww
        go_wp2_with fail
        with_reducible refine (HC1.out _ _ HO3.out).mono ?_
        rintro e w4 ⟨rfl, hO⟩
        have HO4 := Lib.hid hO; clear hO HO3
        go_wp2_with fail
        with_reducible refine (HC2.out _ _ HO4.out).mono ?_
        rintro e w5 ⟨rfl, hO⟩
        have HO5 := Lib.hid hO; clear hO HO4
        go_wp2_with (refine wl_store rfl _ _ _ rfl HO5.out 0 g 0 _ (hv2 (strOfNums na, strOfNums va)) _ rfl (by rfl) (by rfl) head_size (one_hv2 _) (by simp [hv2]) ?_; intro wz hO; have HZ := Lib.hid (hO.cast (L' := (g, .cells (hv2 (strOfNums na, strOfNums va)).toArray 30) :: R) rfl); clear hO HO5)
        have hc0 : wz.cell? ⟨g, 0, none⟩ = some (.string (strOfNums na)) := HZ.out.cell (.head _) 0
        have hc1 : wz.cell? ⟨g, 1, none⟩ = some (.string (strOfNums va)) := HZ.out.cell (.head _) 1
        exact bodyPost_ret (v := .tuple #[.agg #[.string (strOfNums na), .string (strOfNums va)], .bool true]) (by simp [results, Tryd.results41, go_sem, hc0, hc1]) rfl ⟨by rw [HE.out]; rfl, HZ.out.tail⟩
/-! ### what headers say of a length -/
theorem valsI_take {hs : HL} {k : Nat} (hk : k < hs.length) : valsI (hs.take (k + 1)) = if lowL hs[k].1 = clI then valsI (hs.take k) ++ [hs[k].2] else valsI (hs.take k) := by
  rw [List.take_succ_eq_append_getElem hk, valsI_snoc]
theorem map_toB {hs : HL} {k : Nat} (hk : k < hs.length) : (hs.map toB)[k]? = some (strOfNums hs[k].1, strOfNums hs[k].2) := by
  rw [List.getElem?_map, List.getElem?_eq_getElem hk]
  rfl
theorem build_str1 (w : World) (p : ByteArray) : (Instr.buildSlice 32 1 #[(0, .string p)]).run Tryd.prog w = .ok (.slice (some ⟨w.heap.size, 0, none⟩) 1 1) (w.alloc (.cells (sv [p]).toArray 9)) := by kernel_rfl
set_option maxHeartbeats 4000000 in
theorem rlengths_c {w0 w : World} {R : Blks} (hO : Own w0 w R) (v : Value) (hs : HL) (hR : HRd w0 R v (hs.map toB)) (h8 : hs.length ≤ 8) (hok : ∀ h ∈ hs, HeadOk h) :
    Calls Tryd.prog 42 #[v] w fun e w' => ∃ v' L, e = .returned v' ∧ IsStrs v' ((valsI hs).map strOfNums) L ∧ Own w0 w' (L ++ R) := by
  obtain ⟨A, n, c, rfl, hn, hnc, hA⟩ := hR w [] hO
  rw [List.length_map] at hn
  have HN := Lib.hid hn; have HRR := Lib.hid hR; have HO := Lib.hid hO; have HOK := Lib.hid hok
  have hn8 : n ≤ 8 := by omega
  clear hA hn hR hO hok h8
  go_enter Tryd.func42, Tryd.ntmps42
  go_wp2
  go_loopw [3, 8] (fun u t w' => ∃ (k : Nat) (A1 : Option Addr) (m c1 : Nat) (L : Blks), k ≤ n ∧ u = .slice A1 m c1 ∧ t = .int .i64 k ∧ Hid (IsStrs (.slice A1 m c1) ((valsI (hs.take k)).map strOfNums) L ∧ (valsI (hs.take k)).length ≤ k) ∧ Hid (Own w0 w' (L ++ R))) (fun _ t _ => n - (intOf t).toNat)
  case atStart => exact ⟨0, none, 0, 0, [], Nat.zero_le _, rfl, rfl, Lib.hid ⟨isStrs_nil, Nat.le_refl _⟩, HO⟩
  case round =>
    obtain ⟨k, A1, m, c1, L, hk, rfl, rfl, HS, HO2⟩ := hrel
    clear HO
    by_cases hlt : k < n
    · have hkl : k < hs.length := by rw [HN.out]; exact hlt
      obtain ⟨A', n', cp', e, _, _, hA'⟩ := HRR.out wr _ HO2.out
      cases e
      obtain ⟨g, rfl, hcell⟩ := hA' (by omega)
      have hrg := hcell k _ (map_toB hkl)
      have htk := valsI_take hkl
      have hho := HOK.out hs[k] (List.getElem_mem hkl)
      generalize hs[k] = h at *
      obtain ⟨x, y⟩ := h
      have hcx : wr.cell? ⟨g, k * 2, none⟩ = some (.string (strOfNums x)) := hrg 0 _ rfl
      have hcy : wr.cell? ⟨g, k * 2 + 1, none⟩ = some (.string (strOfNums y)) := hrg 1 _ rfl
      have hxb : Byt x := fun z hz => by have := hho.1.1 z hz; unfold NB at this; omega
      have hxl : x.length ≤ 1073741824 := by have h20 : (x.length : Int) ≤ 20 := hho.1.2.2; omega
      have hkn : (k : Int) < n := by omega
      have HTK := Lib.hid htk; have HXB := Lib.hid hxb; have HXL := Lib.hid hxl
      have HOs : Hid (Own w0 wr (L ++ R)) := HO2
      clear hcell hA' hrg htk hho hkl hxb hxl HO2
      go_wp2_with (first | (refine wl_alloc rfl _ rfl HOs.out _ (alloc_head _) ?_; intro gh w3 hO; have HO4 := Lib.hid hO; clear hO HOs) | (refine wl_store rfl _ _ _ rfl HO4.out 0 gh 0 _ (hv2 (strOfNums x, strOfNums y)) _ rfl (by rfl) (by rfl) head_size (one_hv2 _) (by simp [hv2]) ?_; intro w4 hO; have HO5 := Lib.hid (hO.cast (L' := (gh, .cells (hv2 (strOfNums x, strOfNums y)).toArray 30) :: (L ++ R)) rfl); clear hO HO4; have hc3 : w4.cell? ⟨gh, 0, none⟩ = some (.string (strOfNums x)) := HO5.out.cell (.head _) 0; clear hcx hcy))
      have hcall := lower_c HO5.out (strOfNums x) (strs_size HXL.out)
      rw [sb_str HXB.out] at hcall
      have hcl := str_lit (lowL x) (lowL_byt HXB.out) [99, 111, 110, 116, 101, 110, 116, 45, 108, 101, 110, 103, 116, 104] clI rfl
      with_reducible refine hcall.mono ?_
      clear hcall
      rintro e w5 ⟨rfl, hO⟩
      have HO6 := Lib.hid hO; clear hO HO5 hc3
      have hc4 : w5.cell? ⟨gh, 1, none⟩ = some (.string (strOfNums y)) := HO6.out.cell (.head _) 1
      by_cases hc : lowL x = clI
      · rw [decide_eq_true hc] at hcl
        have HC : Hid (valsI (hs.take (k + 1)) = valsI (hs.take k) ++ [y]) := Lib.hid (by rw [HTK.out, if_pos hc])
        have HV : Hid (IsStrs (.slice A1 m c1) ((valsI (hs.take k)).map strOfNums) L) := Lib.hid HS.out.1
        have HM : Hid (((valsI (hs.take k)).map strOfNums).length + [strOfNums y].length ≤ 1073741824) := Lib.hid (by have := HS.out.2; simp; omega)
        have HO7 : Hid (Own w0 w5 (L ++ R)) := Lib.hid HO6.out.tail
        clear hc HTK
        go_wp2_with (refine wl_appendT rfl _ _ rfl (.slice A1 m c1) _ (by rfl) HV.out (HO7.out.put2 (.cells #[.string (strOfNums y)] 9)) _ [strOfNums y] (by rfl) (vs_new _ 1 rfl) HM.out ?_; intro v2 wa L2 hv2' hO; have HV2 := Lib.hid hv2'; have HOA := Lib.hid hO; obtain ⟨A2, c2, hve⟩ := IsStrs.val hv2'; rw [List.length_append, List.length_map, List.length_singleton] at hve; subst hve; clear hO hv2' HO7 HO6)
        go_roundw
        case rel => exact ⟨k + 1, _, _, _, L2, by omega, rfl, by go_num, Lib.hid ⟨by have := HV2.out; rw [HC.out, List.map_append]; exact this, by rw [HC.out, List.length_append]; have := HS.out.2; simp; omega⟩, Lib.hid (HOA.out.sub (List.Sublist.append_left (List.sublist_cons_self _ _) _))⟩
        case measure => simp [intOf]; omega
      · rw [decide_eq_false hc] at hcl
        have HC : Hid (valsI (hs.take (k + 1)) = valsI (hs.take k)) := Lib.hid (by rw [HTK.out, if_neg hc])
        clear hc HTK
        go_wp2
        go_roundw
        case rel => exact ⟨k + 1, A1, m, c1, L, by omega, rfl, by go_num, Lib.hid ⟨by rw [HC.out]; exact HS.out.1, by rw [HC.out]; have := HS.out.2; omega⟩, Lib.hid HO6.out.tail⟩
        case measure => simp [intOf]; omega
    · obtain rfl : k = n := by omega
      have hta : hs.take k = hs := List.take_of_length_le (by rw [HN.out]; exact Nat.le_refl _)
      have hv := HS.out.1
      rw [hta] at hv
      have HV := Lib.hid hv
      clear hta hv
      go_wp2
      go_ret
      exact ⟨_, L, rfl, HV.out, HO2.out⟩
end Go.Proofs.YtkmfbfmmlldphaaDoor
