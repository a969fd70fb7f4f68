/-
  The document's own PrintReply, in plain Go; lists of headers held against each other.
-/
import Derived.Test.YtkmfbfmmlldphaaDoorRp2
namespace Go.Proofs.YtkmfbfmmlldphaaDoor
set_option linter.unusedVariables false
set_option linter.unusedSimpArgs false
set_option maxRecDepth 20000
open Go.RowKit

def baseP (code : Nat) : List Int := verI ++ (digs code ++ [32, 45, 13, 10])
theorem replyP_eq (code : Nat) (hs : HL) (body : List Int) : replyP code hs body = baseP code ++ (headsP hs ++ ([13, 10] ++ body)) := by simp [replyP, baseP]
theorem headsP_snoc (hs : HL) (k : Nat) (hk : k < hs.length) : headsP (hs.take (k + 1)) = headsP (hs.take k) ++ headP hs[k] := by
  unfold headsP
  rw [List.take_succ_eq_append_getElem hk, List.flatMap_append]; simp
theorem headsP_len (hs : HL) (k : Nat) : (headsP (hs.take k)).length ≤ (headsP hs).length := by
  unfold headsP
  conv => rhs; rw [← List.take_append_drop k hs, List.flatMap_append, List.length_append]
  omega
theorem map_toB_at {hs : HL} {k : Nat} (hk : k < hs.length) : (hs.map toB)[k]? = some (strOfNums hs[k].1, strOfNums hs[k].2) := by
  rw [List.getElem?_map, List.getElem?_eq_getElem hk]; rfl
set_option maxHeartbeats 8000000 in
theorem rprint9_c {w0 w : World} {R : Blks} (hO : Own w0 w R) (code : Nat) (hc : code < 1000000000000000000) (v : Value) (hs : HL) (hR : HRd w0 R v (hs.map toB)) (body : ByteArray) (cut : Bool) (hl : (replyP code hs (sb body)).length ≤ 1073741824) :
    Calls Tryd.prog 19 #[.agg (rv code v body cut).toArray] w fun e w' => e = .returned (.string (strOfNums (replyP code hs (sb body)))) ∧ Own w0 w' R := by
  obtain ⟨A, n, c, rfl, hn, hnc, hA⟩ := hR w [] hO
  rw [List.length_map] at hn
  have hl' : (baseP code).length + ((headsP hs).length + (2 + body.size)) ≤ 1073741824 := by
    rw [replyP_eq] at hl
    simp only [List.length_append, length_sb, List.length_cons, List.length_nil] at hl
    omega
  have hnb : n ≤ 1073741824 := by
    have h4 : ∀ l : HL, l.length ≤ (headsP l).length := by
      intro l
      induction l with
      | nil => simp
      | cons h t ih => simp only [headsP, List.flatMap_cons, List.length_append, List.length_cons, headP, List.length_nil] at ih ⊢; omega
    have := h4 hs
    omega
  have HN := Lib.hid hn; have HRR := Lib.hid hR; have HL := Lib.hid hl'
  have HO := Lib.hid hO
  have HFIN : Hid (∀ o : ByteArray, o = strOfNums (baseP code ++ headsP hs) → o ++ ⟨#[13, 10]⟩ ++ body = strOfNums (replyP code hs (sb body))) := Lib.hid (by
    intro o ho
    rw [ho, replyP_eq, strs_app, strs_app, strs_app, strs_app, str_sb, ByteArray.append_assoc, ByteArray.append_assoc]
    rfl)
  clear hA hn hR hl hl' hO
  go_enter Tryd.func19, Tryd.ntmps19
  go_wp2_with (refine wl_box rfl _ _ rfl HO.out (rv code (.slice A n c) body cut).toArray (by rfl) ?_; intro g1 w1 hO; have HO1 := Lib.hid hO; clear hO HO; have hc0 : w1.cell? ⟨g1, 0, none⟩ = some (.int .i64 code) := HO1.out.cell (.head _) 0; have hc1 : w1.cell? ⟨g1, 1, none⟩ = some (.slice A n c) := HO1.out.cell (.head _) 1)
  with_reducible refine (digits_c code hc w1).mono ?_
  rintro e w2 ⟨rfl, qq, hww⟩
  have HO2 := Lib.hid (HO1.out.drewN qq); rw [← hww] at HO2; clear hww HO1 hc0 hc1
  have hc1 : w2.cell? ⟨g1, 1, none⟩ = some (.slice A n c) := HO2.out.cell (.head _) 1
  have hds : (strOfNums (digs code)).size + 13 ≤ 1073741824 := by
    have h1 := HL.out
    rw [strOfNums_size]
    unfold baseP verI at h1
    simp only [List.length_append, List.length_cons, List.length_nil] at h1
    omega
  have hbase : ⟨#[72, 84, 84, 80, 47, 49, 46, 49, 32]⟩ ++ strOfNums (digs code) ++ ⟨#[32, 45]⟩ ++ ⟨#[13, 10]⟩ = strOfNums (baseP code) := by
    unfold baseP
    rw [strs_app, strs_app, show ([32, 45, 13, 10] : List Int) = [32, 45] ++ [13, 10] from rfl, strs_app, ← ByteArray.append_assoc, ← ByteArray.append_assoc]
    rfl
  generalize strOfNums (digs code) = ds at *
  have n1 : ¬ (9223372036854775807 < 9 + ds.size) := by omega
  have n2 : ¬ (9223372036854775807 < 9 + ds.size + 2) := by omega
  have n3 : ¬ (9223372036854775807 < 9 + ds.size + 2 + 2) := by omega
  have HBASE := Lib.hid hbase
  clear hbase hds
  go_wp2
  clear hc1
  go_loopw [3, 15] (fun u t w' => ∃ (k : Nat) (o : ByteArray), k ≤ n ∧ u = .string o ∧ t = .int .i64 k ∧ Hid (o = strOfNums (baseP code ++ headsP (hs.take k))) ∧ Hid (Own w0 w' ((g1, .cells (rv code (.slice A n c) body cut).toArray 41) :: R))) (fun _ t _ => n - (intOf t).toNat)
  case atStart => exact ⟨0, _, Nat.zero_le _, rfl, rfl, Lib.hid (by rw [HBASE.out, List.take_zero]; simp [headsP]), HO2⟩
  case round =>
    obtain ⟨k, o, hk, rfl, rfl, HS, HO3⟩ := hrel
    clear HO2 HBASE n1 n2 n3
    by_cases hlt : k < n
    · have hkl : k < hs.length := by rw [HN.out]; exact hlt
      obtain ⟨A', n', cp', e, _, _, hA'⟩ := HRR.out wr [_] HO3.out
      cases e
      obtain ⟨g, rfl, hcell⟩ := hA' (by omega)
      have hrg := hcell k _ (map_toB_at hkl)
      have hsn := headsP_snoc hs k hkl
      have hle := headsP_len hs (k + 1)
      rw [hsn] at hle
      generalize hs[k] = h at *
      obtain ⟨x, y⟩ := h
      have hcx : wr.cell? ⟨g, k * 2, none⟩ = some (.string (strOfNums x)) := hrg 0 _ rfl
      have hcy : wr.cell? ⟨g, k * 2 + 1, none⟩ = some (.string (strOfNums y)) := hrg 1 _ rfl
      have hos : o.size = (baseP code).length + (headsP (hs.take k)).length := by rw [HS.out, strOfNums_size, List.length_append]
      have hhp : (headP (x, y)).length = x.length + (2 + (y.length + 2)) := by simp [headP]; omega
      have hxs : (strOfNums x).size = x.length := strOfNums_size x
      have hys : (strOfNums y).size = y.length := strOfNums_size y
      rw [List.length_append, hhp] at hle
      have hq : strOfNums x ++ ⟨#[58, 32]⟩ ++ strOfNums y ++ ⟨#[13, 10]⟩ = strOfNums (headP (x, y)) := by
        unfold headP
        rw [strs_app, strs_app, strs_app, ByteArray.append_assoc, ByteArray.append_assoc]
        rfl
      have hnext : o ++ (strOfNums x ++ ⟨#[58, 32]⟩ ++ strOfNums y ++ ⟨#[13, 10]⟩) = strOfNums (baseP code ++ headsP (hs.take (k + 1))) := by
        rw [hq, hsn, ← List.append_assoc, strs_app (baseP code ++ headsP (hs.take k)), ← HS.out]
      clear hq
      have hb := HL.out
      generalize strOfNums x = sx at *
      generalize strOfNums y = sy at *
      have n1 : ¬ (9223372036854775807 < sx.size + 2) := by omega
      have n2 : ¬ (9223372036854775807 < sx.size + 2 + sy.size) := by omega
      have n3 : ¬ (9223372036854775807 < sx.size + 2 + sy.size + 2) := by omega
      have n4 : ¬ (9223372036854775807 < o.size + (sx.size + 2 + sy.size + 2)) := by omega
      have HNX := Lib.hid hnext
      have hkn : (k : Int) < n := by omega
      clear hcell hA' hrg hsn hle hos hhp hxs hys hnext hb hkl
      go_wp2_with (first | (refine wl_alloc rfl _ rfl HO3.out _ (alloc_head _) ?_; intro gh w3 hO; have HO4 := Lib.hid hO; clear hO HO3) | (refine wl_store rfl _ _ _ rfl HO4.out 0 gh 0 _ (hv2 (sx, sy)) _ rfl (by rfl) (by rfl) head_size (one_hv2 _) (by simp [hv2]) ?_; intro w4 hO; have HO5 := Lib.hid (hO.cast (L' := (gh, .cells (hv2 (sx, sy)).toArray 30) :: (g1, .cells (rv code (.slice (some ⟨g, 0, none⟩) n c) body cut).toArray 41) :: R) rfl); clear hO HO4; have hc3 : w4.cell? ⟨gh, 0, none⟩ = some (.string sx) := HO5.out.cell (.head _) 0; have hc4 : w4.cell? ⟨gh, 1, none⟩ = some (.string sy) := HO5.out.cell (.head _) 1; clear hcx hcy))
      go_roundw
      case rel => exact ⟨k + 1, _, by omega, rfl, by go_num, HNX, Lib.hid HO5.out.tail⟩
      case measure => simp [intOf]; omega
    · obtain rfl : k = n := by omega
      have hc2 : wr.cell? ⟨g1, 2, none⟩ = some (.string body) := HO3.out.cell (.head _) 2
      have hho : o = strOfNums (baseP code ++ headsP hs) := by rw [HS.out, List.take_of_length_le (by rw [HN.out]; exact Nat.le_refl _)]
      have hos : o.size = (baseP code).length + (headsP hs).length := by rw [hho, strOfNums_size, List.length_append]
      have hfin := HFIN.out o hho
      have hb := HL.out
      have n1 : ¬ (9223372036854775807 < o.size + 2) := by omega
      have n2 : ¬ (9223372036854775807 < o.size + 2 + body.size) := by omega
      have HF := Lib.hid hfin
      clear hho hos hfin hb HFIN
      go_wp2
      go_ret
      exact ⟨by rw [← HF.out]; rfl, HO3.out.tail⟩
/-! ### lists of headers held against each other -/
theorem drewN_add (w : World) (a b : Nat) : (w.drewN a).drewN b = w.drewN (a + b) := by simp [World.drewN, Nat.add_assoc]
theorem beq_ba (s t : ByteArray) : (s.toList == t.toList) = decide (s = t) := by
  rw [beq_sb, decide_eq_decide]
  exact ⟨sb_inj, fun e => by rw [e]⟩
set_option maxHeartbeats 4000000 in
theorem sameH_c {w : World} (va vb : Value) (hs ks : HBL) (ha : Hs w va hs) (hb : Hs w vb ks) (hx : hs.length ≤ 1073741824) : Calls Tryd.prog 9 #[va, vb] w (Quiet w (.bool (decide (hs = ks)))) := by
  obtain ⟨A, n, c, rfl, hn, _, hA⟩ := ha
  obtain ⟨B, m, d, rfl, hm, _, hB⟩ := hb
  have HN := Lib.hid hn
  have HM := Lib.hid hm
  have HA := Lib.hid hA
  have HB := Lib.hid hB
  have hx' : n ≤ 1073741824 := by omega
  by_cases hnm : n = m
  · subst hnm
    have hne : ((n : Int) != n) = false := by simp
    clear hn hm hA hB hx
    go_enter Tryd.func9, Tryd.ntmps9
    go_wp2
    go_loopw [5] (fun t w' => ∃ k : Nat, k ≤ n ∧ t = .int .i64 k ∧ Hid (hs.take k = ks.take k) ∧ Hid (∃ q, w' = w.drewN q)) (fun t _ => n - (intOf t).toNat)
    case atStart => exact ⟨0, Nat.zero_le _, rfl, rfl, 0, rfl⟩
    case round =>
      obtain ⟨k, hk, rfl, HT, HW⟩ := hrel
      by_cases hlt : k < n
      · have hkx : k < hs.length := by rw [HN.out]; exact hlt
        have hky : k < ks.length := by rw [HM.out]; exact hlt
        obtain ⟨g, rfl, hca⟩ := HA.out (by omega)
        obtain ⟨g', rfl, hcb⟩ := HB.out (by omega)
        have hra := hca k _ (List.getElem?_eq_getElem hkx)
        have hrb := hcb k _ (List.getElem?_eq_getElem hky)
        have hstep : hs[k] = ks[k] → hs.take (k + 1) = ks.take (k + 1) := fun e => by
          rw [List.take_succ_eq_append_getElem hkx, List.take_succ_eq_append_getElem hky, HT.out, e]
        have hdiff : hs[k] ≠ ks[k] → hs ≠ ks := fun e h => e (by subst h; rfl)
        have HS := Lib.hid hstep
        have HD := Lib.hid hdiff
        clear hstep hdiff hca hcb HA HB
        generalize hs[k] = a at *
        generalize ks[k] = b at *
        obtain ⟨x, y⟩ := a
        obtain ⟨p, q⟩ := b
        have c1 : wr.cell? ⟨g, k * 2, none⟩ = some (.string x) := by obtain ⟨q, rfl⟩ := HW.out; exact hra 0 _ rfl
        have c2 : wr.cell? ⟨g, k * 2 + 1, none⟩ = some (.string y) := by obtain ⟨q, rfl⟩ := HW.out; exact hra 1 _ rfl
        have c3 : wr.cell? ⟨g', k * 2, none⟩ = some (.string p) := by obtain ⟨q, rfl⟩ := HW.out; exact hrb 0 _ rfl
        have c4 : wr.cell? ⟨g', k * 2 + 1, none⟩ = some (.string q) := by obtain ⟨q, rfl⟩ := HW.out; exact hrb 1 _ rfl
        have b1 := beq_ba x p
        have b2 := beq_ba y q
        have hk0 : (0 : Int) ≤ k := by omega
        have hkn : (k : Int) < n := by omega
        clear hra hrb hkx hky
        by_cases hxp : x = p
        · by_cases hyq : y = q
          · rw [decide_eq_true hxp] at b1
            rw [decide_eq_true hyq] at b2
            have HE := Lib.hid (HS.out (by rw [hxp, hyq]))
            clear hxp hyq HS HD
            go_wp2
            go_quiet (fail)
            go_wp2
            go_roundw
            case rel => exact ⟨k + 1, by omega, by go_num, HE, by obtain ⟨q, e⟩ := HW.out; exact ⟨q + nq, by rw [e]; exact drewN_add _ _ _⟩⟩
            case measure => simp [intOf]; omega
          · rw [decide_eq_true hxp] at b1
            rw [decide_eq_false hyq] at b2
            have HE := Lib.hid (HD.out (fun e => hyq (congrArg Prod.snd e)))
            clear hxp hyq HS HD
            go_wp2
            go_quiet (fail)
            go_wp2
            go_ret
            refine ⟨?_, by obtain ⟨q, e⟩ := HW.out; exact ⟨q + nq, by rw [e]; exact drewN_add _ _ _⟩⟩
            rw [decide_eq_false HE.out]; rfl
        · rw [decide_eq_false hxp] at b1
          have HE := Lib.hid (HD.out (fun e => hxp (congrArg Prod.fst e)))
          clear hxp HS HD
          generalize decide (y = q) = b at *
          go_wp2
          go_quiet (fail)
          go_wp2
          go_ret
          refine ⟨?_, by obtain ⟨q, e⟩ := HW.out; exact ⟨q + nq, by rw [e]; exact drewN_add _ _ _⟩⟩
          rw [decide_eq_false HE.out]; rfl
      · obtain rfl : k = n := by omega
        have hT := HT.out
        rw [List.take_of_length_le (by rw [HN.out]; exact Nat.le_refl _), List.take_of_length_le (by rw [HM.out]; exact Nat.le_refl _)] at hT
        have HT' := Lib.hid hT
        clear hT HA HB HT
        go_wp2
        go_ret
        refine ⟨?_, HW.out⟩
        rw [decide_eq_true HT'.out]; rfl
  · have hne : ((n : Int) != m) = true := by rw [bne_iff_ne]; omega
    have hd : decide (hs = ks) = false := decide_eq_false (fun e => by subst e; omega)
    rw [hd]
    clear hn hm hA hB hx hnm hd
    go_enter Tryd.func9, Tryd.ntmps9
    go_wp2
    go_ret
    exact ⟨rfl, 0, rfl⟩
end Go.Proofs.YtkmfbfmmlldphaaDoor
