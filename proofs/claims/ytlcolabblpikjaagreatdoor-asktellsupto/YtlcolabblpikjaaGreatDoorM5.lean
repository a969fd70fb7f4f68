/-
  Texts that the laws stand on: Url4, Pct7.
-/
import Derived.Test.YtlcolabblpikjaaGreatDoorM3
import Derived.Test.YtlcolabblpikjaaGreatDoorM4
import Derived.Deep.DeepCutAuto
import Derived.Deep.CutBlock

/-
  The document's own way of taking points out of a path.
-/
namespace Go.Proofs.YtlcolabblpikjaaGreatDoor
set_option linter.unusedVariables false
set_option linter.unusedSimpArgs false
set_option maxRecDepth 20000
open Go.RowKit

theorem sls_upto (W : World) (ad : Addr) (n c hi : Nat) (k : Int) (hk : (hi : Int) = k) (h1 : hi ≤ n) (h2 : n ≤ c) : (Instr.slice 34 (.slice (some ad) n c) none (some (.int .i64 k)) none).run Tryz.prog W = .ok (.slice (some ad) hi c) W := by
  subst hk
  have h4 : (hi : Int) ≤ c := by omega
  go_simp
theorem dotGo_cons (st : List (List Int)) (p : List Int) {ps : List (List Int)} (h : ps ≠ []) : dotGo st (p :: ps) = dotGo (dotStep st p false) ps := by
  cases ps with
  | nil => exact absurd rfl h
  | cons a r => rfl
theorem slashed_app (a b : List (List Int)) : slashed (a ++ b) = slashed a ++ slashed b := by simp [slashed]
theorem slashed_len_pop (st : List (List Int)) : (slashed st.dropLast).length ≤ (slashed st).length := by
  rcases List.eq_nil_or_concat st with rfl | ⟨r, x, rfl⟩
  · simp
  · rw [List.concat_eq_append, List.dropLast_concat, slashed_app, List.length_append]; omega
theorem slashed_count : ∀ st : List (List Int), st.length ≤ (slashed st).length
  | [] => by simp
  | x :: r => by
    have := slashed_count r
    show (x :: r).length ≤ ((47 :: x) ++ slashed r).length
    simp only [List.length_cons, List.length_append]; omega
theorem dotStep_len (st : List (List Int)) (p : List Int) (last : Bool) : (slashed (dotStep st p last)).length ≤ (slashed st).length + 12 * p.length + 1 := by
  unfold dotStep
  split
  · simp only []
    have h1 : (slashed (if p = [46, 46] then st.dropLast else st)).length ≤ (slashed st).length := by
      split
      · exact slashed_len_pop st
      · exact Nat.le_refl _
    have h2 : (slashed [([] : List Int)]).length = 1 := rfl
    split
    · rw [slashed_app, List.length_append, h2]; omega
    · omega
  · have h2 : (slashed [pctE p]).length = (pctE p).length + 1 := by simp [slashed]
    rw [slashed_app, List.length_append, h2]
    have := pctE_len p
    omega
/-- A slice of the parts so far. -/
def DotState (w0 : World) (R : Blks) (st : List (List Int)) (v : Value) (w : World) : Prop := ∃ L, IsStrs v (st.map strOfNums) L ∧ Own w0 w (L ++ R)
theorem dot_in {p : List Int} (h : Byt p) (bs : List UInt8) : ((strOfNums p).toList == bs) = decide (p = bs.map fun b => (b.toNat : Int)) := by rw [beq_lit, sb_str h]
set_option maxHeartbeats 8000000 in
theorem dots_c {w0 w : World} {R : Blks} (hO : Own w0 w R) (s : ByteArray) (hs : s.size ≤ 10000000) :
    Calls Tryz.prog 47 #[.string s] w fun e w' => e = .returned (.string (strOfNums (dotsI (sb s)))) ∧ Own w0 w' R := by
  have HO := Lib.hid hO
  obtain ⟨l, hl⟩ : ∃ l, sb s = l := ⟨_, rfl⟩
  have hn : l.length = s.size := by rw [← hl]; exact length_sb s
  have hB : Byt l := by rw [← hl]; exact byt_sb s
  rw [hl]
  -- the path without its first letter
  have hstart : ∃ t : ByteArray, sb t = l.drop 1 ∧ t.size ≤ 10000000 ∧ ((s.size = 0 ∧ t = ⟨#[]⟩) ∨ (0 < s.size ∧ t = s.extract 1 s.size)) := by
    by_cases h0 : s.size = 0
    · have : l = [] := List.eq_nil_of_length_eq_zero (by omega)
      subst this
      exact ⟨⟨#[]⟩, rfl, by decide, .inl ⟨h0, rfl⟩⟩
    · refine ⟨s.extract 1 s.size, by rw [sb_from, hl], ?_, .inr ⟨by omega, rfl⟩⟩
      rw [← length_sb, sb_from, List.length_drop, length_sb]; omega
  obtain ⟨t0, ht0, hts, hcase⟩ := hstart
  have hdef : dotsI l = slashed (dotGo [] (partsI (sb t0))) := by unfold dotsI; rw [ht0]
  rw [hdef]
  obtain ⟨fin, hfin⟩ : ∃ fin, dotGo [] (partsI (sb t0)) = fin := ⟨_, rfl⟩
  have HFIN := Lib.hid hfin; have HTS := Lib.hid hts
  rw [hfin]
  have hb0 : (s.toList == []) = decide (l = []) := by rw [beq_lit, hl]; rfl
  have HCASE := Lib.hid hcase; have HN := Lib.hid hn
  clear hO hl hB ht0 hts hdef hfin hcase hn
  rcases HCASE.out with ⟨h0, rfl⟩ | ⟨h0, rfl⟩
  · have hne : decide (l = []) = true := decide_eq_true (List.eq_nil_of_length_eq_zero (by rw [HN.out]; exact h0))
    rw [hne] at hb0
    clear hne HCASE
    have hext : (Instr.slice 9 (.string ⟨#[47]⟩) (some (.int .i64 1)) none none).run Tryz.prog w = .ok (.string ⟨#[]⟩) w := by kernel_rfl
    generalize (⟨#[]⟩ : ByteArray) = t0 at hext HFIN HTS
    go_enter Tryz.func47, Tryz.ntmps47
    go_wp2
    go_loopw [3, 4] (fun v u w' => ∃ (st : List (List Int)) (t : ByteArray), u = .string t ∧ Hid (fin = dotGo st (partsI (sb t))) ∧ Hid (t.size ≤ 10000000 ∧ (slashed st).length + 13 * t.size ≤ 130000000) ∧ Hid (DotState w0 R st v w')) (fun _ u _ => strSize u)
    case atStart => exact ⟨[], t0, rfl, Lib.hid HFIN.out.symm, Lib.hid ⟨HTS.out, by have := HTS.out; show 0 + 13 * t0.size ≤ _; omega⟩, Lib.hid ⟨[], isStrs_nil, HO.out⟩⟩
    case round =>
      obtain ⟨st, t, rfl, HE, HZ, HD⟩ := hrel
      clear HO HFIN HTS
      have hzz := HZ.out
      have hcall := until_c (w := wr) t ⟨#[47]⟩ (by omega) (by decide)
      have e47 : sb ⟨#[47]⟩ = [47] := rfl
      rw [e47] at hcall
      have hpe : behind [47] (sb t) = [] → partsI (sb t) = [ahead [47] (sb t)] := partsI_end
      have hpm : ∀ c r, behind [47] (sb t) = c :: r → partsI (sb t) = ahead [47] (sb t) :: partsI r := fun c r => partsI_more
      have hpB : Byt (ahead [47] (sb t)) := ahead_byt (byt_sb t)
      have hqB : Byt (behind [47] (sb t)) := behind_byt (byt_sb t)
      have hab := congrArg List.length (ahead_behind [47] (sb t))
      rw [List.length_append, length_sb] at hab
      obtain ⟨p, hpd⟩ : ∃ p, ahead [47] (sb t) = p := ⟨_, rfl⟩
      obtain ⟨q, hqd⟩ : ∃ q, behind [47] (sb t) = q := ⟨_, rfl⟩
      rw [hpd] at hcall hpe hpm hpB hab
      rw [hqd] at hcall hpe hpm hqB hab
      have b0 := dot_in hqB []
      have b1 := dot_in hpB [46]
      have b2 := dot_in hpB [46, 46]
      have hPs : (strOfNums p).size = p.length := strOfNums_size p
      have hQs : (strOfNums q).size = q.length := strOfNums_size q
      have hsbp : sb (strOfNums p) = p := sb_str hpB
      have hsbq : sb (strOfNums q) = q := sb_str hqB
      have hlen := dotStep_len st p
      obtain ⟨last, hlast⟩ : ∃ b, decide (q = []) = b := ⟨_, rfl⟩
      have b0' : ((strOfNums q).toList == []) = last := by rw [b0]; exact hlast
      have HLAST := Lib.hid hlast
      clear b0 hlast
      have HPE := Lib.hid hpe; have HPM := Lib.hid hpm
      have HAB := Lib.hid hab; have HPB := Lib.hid hpB; have HSP := Lib.hid hsbp; have HSQ := Lib.hid hsbq; have HC := Lib.hid hcall; have HLEN := Lib.hid hlen; have HPS := Lib.hid hPs; have HQS := Lib.hid hQs
      obtain ⟨P, hP⟩ : ∃ P, strOfNums p = P := ⟨_, rfl⟩
      obtain ⟨Q, hQ⟩ : ∃ Q, strOfNums q = Q := ⟨_, rfl⟩
      rw [hP] at HC HPS HSP b1 b2
      rw [hQ] at HC HQS HSQ b0'
      have B1 := Lib.hid b1; have B2 := Lib.hid b2
      clear hpe hpm hcall hpd hqd hab hpB hqB hPs hQs hsbp hsbq hlen hP hQ e47 hzz b1 b2
      go_wp2_with fail
      with_reducible refine HC.out.mono ?_
      rintro e w1 ⟨rfl, m1, rfl⟩
      obtain ⟨L1, hst, hO1⟩ := HD.out
      have HST := Lib.hid hst; have HO1 := Lib.hid (hO1.drewN m1)
      clear HD hst hO1 HC
      generalize wr.drewN m1 = w1 at *
      go_upto_block 2 with fail
      go_cut [3] (fun v wx => DotState w0 R (dotStep st p last) v wx)
      case first =>
        have hstlen := slashed_count st
        have hz := HZ.out
        have hss : (st.map strOfNums).length ≤ 130000000 := by rw [List.length_map]; omega
        have HSS := Lib.hid hss
        by_cases hp1 : p = [46]
        · have hds : dotStep st p last = if last then st ++ [[]] else st := by
            simp [dotStep, hp1]
          have HDS := Lib.hid hds
          have t1 : (P.toList == [46]) = true := by rw [B1.out, hp1]; rfl
          have t2 : (P.toList == [46, 46]) = false := by rw [B2.out, hp1]; rfl
          clear hp1 hds hstlen hz hss
          cases last with
          | true =>
            go_wp2_with (refine wl_appendT rfl _ _ rfl _ _ (by rfl) HST.out (HO1.out.put2 _) (.slice (some ⟨_, 0, none⟩) 1 1) [⟨#[]⟩] (by rfl) (vs_new (sv [⟨#[]⟩]) 1 rfl) (by have := HSS.out; simp at this ⊢; omega) ?_; intro v5 w5 L5 hv5 hO5; have HV5 := Lib.hid hv5; have HO5 := Lib.hid hO5.strike; clear hv5 hO5 HO1 HST)
            go_meet
            exact ⟨L5, HV5.out.cast (by rw [HDS.out]; simp; rfl), HO5.out⟩
          | false =>
            go_wp2
            go_meet
            exact ⟨L1, HST.out.cast (by rw [HDS.out]; rfl), HO1.out⟩
        · by_cases hp2 : p = [46, 46]
          · have hds : dotStep st p last = if last then st.dropLast ++ [[]] else st.dropLast := by
              simp [dotStep, hp2]
            have HDS := Lib.hid hds
            have t1 : (P.toList == [46]) = false := by rw [B1.out, hp2]; rfl
            have t2 : (P.toList == [46, 46]) = true := by rw [B2.out, hp2]; rfl
            have hs130 : st.length ≤ 130000000 := by omega
            clear hp1 hp2 hds hz hss
            by_cases h0 : 0 < st.length
            · obtain ⟨g, c, rfl, hgc, hcm, hcut⟩ := HST.out.cut (st.length - 1) (by simp) (by simpa using h0)
              have hcut2 : IsStrs (.slice (some ⟨g, 0, none⟩) (st.length - 1) c) (st.dropLast.map strOfNums) L1 := hcut.cast (by rw [← List.map_take, List.dropLast_eq_take])
              have HCUT := Lib.hid hcut2
              have hsl := sls_upto w1 ⟨g, 0, none⟩ st.length c (st.length - 1) ((st.length : Int) - 1) (by omega) (by omega) (by simpa using hgc)
              have hpos : (0 : Int) < st.length := by omega
              have hlm : (st.map strOfNums).length = st.length := by simp
              rw [hlm]
              clear hcut hcut2 hgc hcm hstlen hlm h0 HST
              cases last with
              | true =>
                go_wp2_with (refine wl_appendT rfl _ _ rfl _ _ (by rfl) HCUT.out (HO1.out.put2 _) (.slice (some ⟨_, 0, none⟩) 1 1) [⟨#[]⟩] (by rfl) (vs_new (sv [⟨#[]⟩]) 1 rfl) (by have := HSS.out; simp at this ⊢; omega) ?_; intro v5 w5 L5 hv5 hO5; have HV5 := Lib.hid hv5; have HO5 := Lib.hid hO5.strike; clear hv5 hO5 HO1 HCUT)
                go_meet
                exact ⟨L5, HV5.out.cast (by rw [HDS.out]; simp; rfl), HO5.out⟩
              | false =>
                go_wp2
                go_meet
                exact ⟨L1, HCUT.out.cast (by rw [HDS.out]; rfl), HO1.out⟩
            · obtain rfl : st = [] := List.eq_nil_of_length_eq_zero (by omega)
              obtain ⟨A, c, rfl⟩ := HST.out.val
              simp only [List.map_nil, List.length_nil]
              have hst0 : IsStrs (.slice A 0 c) [] L1 := HST.out
              have HST0 := Lib.hid hst0
              clear hst0 HST h0 hstlen
              cases last with
              | true =>
                go_wp2_with (refine wl_appendT rfl _ _ rfl _ _ (by rfl) HST0.out (HO1.out.put2 _) (.slice (some ⟨_, 0, none⟩) 1 1) [⟨#[]⟩] (by rfl) (vs_new (sv [⟨#[]⟩]) 1 rfl) (by simp) ?_; intro v5 w5 L5 hv5 hO5; have HV5 := Lib.hid hv5; have HO5 := Lib.hid hO5.strike; clear hv5 hO5 HO1 HST0)
                go_meet
                exact ⟨L5, HV5.out.cast (by rw [HDS.out]; rfl), HO5.out⟩
              | false =>
                go_wp2
                go_meet
                exact ⟨L1, HST0.out.cast (by rw [HDS.out]; rfl), HO1.out⟩
          · have hds : dotStep st p last = st ++ [pctE p] := by
              unfold dotStep
              rw [if_neg (by intro h; rcases h with h | h; exact hp1 h; exact hp2 h)]
            have HDS := Lib.hid hds
            have t1 : (P.toList == [46]) = false := by rw [B1.out]; exact decide_eq_false hp1
            have t2 : (P.toList == [46, 46]) = false := by rw [B2.out]; exact decide_eq_false hp2
            have hcall := rpct_c HO1.out P (by rw [HPS.out]; have := HAB.out; omega)
            rw [HSP.out] at hcall
            have HC := Lib.hid hcall
            clear hp1 hp2 hds hstlen hz hss hcall
            go_wp2_with fail
            with_reducible refine HC.out.mono ?_
            rintro e w2 ⟨rfl, hO2⟩
            have HO2 := Lib.hid hO2; clear hO2 HO1 HC
            go_wp2_with (refine wl_appendT rfl _ _ rfl _ _ (by rfl) HST.out (HO2.out.put2 _) (.slice (some ⟨_, 0, none⟩) 1 1) [strOfNums (pctE p)] (by rfl) (vs_new (sv [strOfNums (pctE p)]) 1 rfl) (by have := HSS.out; simp at this ⊢; omega) ?_; intro v5 w5 L5 hv5 hO5; have HV5 := Lib.hid hv5; have HO5 := Lib.hid hO5.strike; clear hv5 hO5 HO2 HST)
            go_meet
            exact ⟨L5, HV5.out.cast (by rw [HDS.out]; simp), HO5.out⟩
      case rest =>
        have HD2 := Lib.hid hcut
        clear HST HO1 hcut
        cases q with
        | nil =>
          have hl : last = true := by rw [← HLAST.out]; rfl
          subst hl
          have hf : fin = dotStep st p true := by rw [HE.out, HPE.out rfl]; rfl
          have hfl : (slashed fin).length ≤ 200000000 := by rw [hf]; have := HLEN.out true; have := HZ.out; have := HAB.out; omega
          have HFL := Lib.hid hfl
          obtain ⟨L5, hst5, hO5⟩ := HD2.out
          rw [← hf] at hst5
          obtain ⟨A5, c5, rfl⟩ := hst5.val
          obtain ⟨A', n', c', e5, hn5, _, hA5⟩ := hst5.vs hO5
          rw [List.length_map] at *
          have hnf : (sv (fin.map strOfNums)).length = fin.length := by simp
          have hA6 : ∀ k (hk : k < fin.length), ∃ ad, A5 = some ad ∧ wc.cell? (ad.add k) = some (.string (strOfNums fin[k])) := by
            intro k hk
            cases e5
            obtain ⟨ad, rfl, hc⟩ := hA5 (by omega)
            exact ⟨ad, rfl, hc k _ (by simp [sv, hk])⟩
          have HA6 := Lib.hid hA6
          have HO5 := Lib.hid hO5
          have hfc : fin.length ≤ 200000000 := by have := slashed_count fin; omega
          have htake : ∀ k (hk : k < fin.length), slashed (fin.take (k + 1)) = slashed (fin.take k) ++ 47 :: fin[k] := by
            intro k hk
            rw [List.take_succ_eq_append_getElem hk, slashed_app]; simp [slashed]
          have HTK := Lib.hid htake
          have hbig : ∀ k, (slashed (fin.take k)).length ≤ 200000000 := by
            intro k
            have : slashed fin = slashed (fin.take k) ++ slashed (fin.drop k) := by rw [← slashed_app, List.take_append_drop]
            rw [this, List.length_append] at hfl
            omega
          have HBG := Lib.hid hbig
          obtain ⟨n, hn⟩ : ∃ n, fin.length = n := ⟨_, rfl⟩
          rw [hn] at hfc ⊢
          have HNF := Lib.hid hn
          clear hf hfl HD2 hst5 hO5 e5 hn5 hA5 hnf hA6 htake hbig hn HE HPE HPM HLAST HLEN HAB HZ
          go_wp2
          go_loopw [8, 55] (fun u v w' => ∃ k : Nat, k ≤ n ∧ v = .int .i64 k ∧ Hid (u = .string (strOfNums (slashed (fin.take k)))) ∧ w' = wc) (fun _ v _ => n - (intOf v).toNat)
          case atStart => exact ⟨0, Nat.zero_le _, rfl, rfl, rfl⟩
          case round =>
            obtain ⟨k, hk, rfl, HU, rfl⟩ := hrel
            have hu := HU.out
            subst hu
            by_cases hkn : k < n
            · obtain ⟨ad, rfl, hcell⟩ := HA6.out k (by rw [HNF.out]; exact hkn)
              have htk := HTK.out k (by rw [HNF.out]; exact hkn)
              have hs1 : (strOfNums (slashed (fin.take (k + 1)))).size ≤ 200000000 := by rw [strOfNums_size]; exact HBG.out (k + 1)
              have hs2 : strOfNums (slashed (fin.take (k + 1))) = strOfNums (slashed (fin.take k)) ++ (⟨#[47]⟩ ++ strOfNums (fin[k]'(by rw [HNF.out]; exact hkn))) := by
                rw [htk, strs_app, show (47 : Int) :: fin[k]'(by rw [HNF.out]; exact hkn) = [47] ++ fin[k]'(by rw [HNF.out]; exact hkn) from rfl, strs_app]; rfl
              have hsz : (strOfNums (slashed (fin.take (k + 1)))).size = (strOfNums (slashed (fin.take k))).size + (1 + (strOfNums (fin[k]'(by rw [HNF.out]; exact hkn))).size) := by
                rw [hs2, ByteArray.size_append, ByteArray.size_append]; rfl
              generalize strOfNums (fin[k]'(by rw [HNF.out]; exact hkn)) = x at *
              generalize strOfNums (slashed (fin.take k)) = o at *
              have n1 : ¬ (9223372036854775807 < 1 + x.size) := by omega
              have n2 : ¬ (9223372036854775807 < o.size + (1 + x.size)) := by omega
              have HS2 := Lib.hid hs2
              have hkI : (k : Int) < n := by omega
              clear htk hs1 hs2 hsz
              go_wp2
              go_roundw
              case rel => exact ⟨k + 1, by omega, by go_num, Lib.hid (by rw [HS2.out]), trivial⟩
              case measure => simp [intOf]; omega
            · obtain rfl : k = n := by omega
              have htk : fin.take k = fin := List.take_of_length_le (by rw [HNF.out]; exact Nat.le_refl _)
              rw [htk]
              go_wp2
              go_ret
              exact ⟨rfl, HO5.out.right⟩
        | cons x r =>
          have hl : last = false := by rw [← HLAST.out]; rfl
          subst hl
          have hQ1 : (1 : Int) ≤ Q.size := by rw [HQS.out]; simp only [List.length_cons]; omega
          have hnx : sb (Q.extract 1 Q.size) = r := by rw [sb_from, HSQ.out]; rfl
          have hst2 : fin = dotGo (dotStep st p false) (partsI (sb (Q.extract 1 Q.size))) := by rw [HE.out, HPM.out x r rfl, dotGo_cons _ _ (partsI_ne r), hnx]
          have hsz : (Q.extract 1 Q.size).size = r.length := by rw [← length_sb, hnx]
          have hzz : (Q.extract 1 Q.size).size ≤ 10000000 ∧ (slashed (dotStep st p false)).length + 13 * (Q.extract 1 Q.size).size ≤ 130000000 := by
            have h1 := HAB.out; have h2 := HZ.out; have h3 := HLEN.out false
            rw [hsz]
            simp only [List.length_cons] at h1
            omega
          have hms : (Q.extract 1 Q.size).size < t.size := by have h1 := HAB.out; rw [hsz]; simp only [List.length_cons] at h1; omega
          have HST2 := Lib.hid hst2; have HZZ := Lib.hid hzz; have HMS := Lib.hid hms
          clear hnx hst2 hsz hzz hms
          go_wp2
          go_roundw
          case rel => exact ⟨_, _, rfl, HST2, HZZ, HD2⟩
          case measure => exact HMS.out
  · have h1 : (1 : Int) ≤ s.size := by omega
    have hne : decide (l = []) = false := decide_eq_false (fun e => by have := HN.out; rw [e] at this; simp at this; omega)
    rw [hne] at hb0
    clear hne HCASE
    generalize ht : s.extract 1 s.size = t0 at *
    have HT := Lib.hid ht
    go_enter Tryz.func47, Tryz.ntmps47
    go_wp2
    go_loopw [3, 4] (fun v u w' => ∃ (st : List (List Int)) (t : ByteArray), u = .string t ∧ Hid (fin = dotGo st (partsI (sb t))) ∧ Hid (t.size ≤ 10000000 ∧ (slashed st).length + 13 * t.size ≤ 130000000) ∧ Hid (DotState w0 R st v w')) (fun _ u _ => strSize u)
    case atStart => exact ⟨[], t0, rfl, Lib.hid HFIN.out.symm, Lib.hid ⟨HTS.out, by have := HTS.out; show 0 + 13 * t0.size ≤ _; omega⟩, Lib.hid ⟨[], isStrs_nil, HO.out⟩⟩
    case round =>
      obtain ⟨st, t, rfl, HE, HZ, HD⟩ := hrel
      clear HO HFIN HTS
      have hzz := HZ.out
      have hcall := until_c (w := wr) t ⟨#[47]⟩ (by omega) (by decide)
      have e47 : sb ⟨#[47]⟩ = [47] := rfl
      rw [e47] at hcall
      have hpe : behind [47] (sb t) = [] → partsI (sb t) = [ahead [47] (sb t)] := partsI_end
      have hpm : ∀ c r, behind [47] (sb t) = c :: r → partsI (sb t) = ahead [47] (sb t) :: partsI r := fun c r => partsI_more
      have hpB : Byt (ahead [47] (sb t)) := ahead_byt (byt_sb t)
      have hqB : Byt (behind [47] (sb t)) := behind_byt (byt_sb t)
      have hab := congrArg List.length (ahead_behind [47] (sb t))
      rw [List.length_append, length_sb] at hab
      obtain ⟨p, hpd⟩ : ∃ p, ahead [47] (sb t) = p := ⟨_, rfl⟩
      obtain ⟨q, hqd⟩ : ∃ q, behind [47] (sb t) = q := ⟨_, rfl⟩
      rw [hpd] at hcall hpe hpm hpB hab
      rw [hqd] at hcall hpe hpm hqB hab
      have b0 := dot_in hqB []
      have b1 := dot_in hpB [46]
      have b2 := dot_in hpB [46, 46]
      have hPs : (strOfNums p).size = p.length := strOfNums_size p
      have hQs : (strOfNums q).size = q.length := strOfNums_size q
      have hsbp : sb (strOfNums p) = p := sb_str hpB
      have hsbq : sb (strOfNums q) = q := sb_str hqB
      have hlen := dotStep_len st p
      obtain ⟨last, hlast⟩ : ∃ b, decide (q = []) = b := ⟨_, rfl⟩
      have b0' : ((strOfNums q).toList == []) = last := by rw [b0]; exact hlast
      have HLAST := Lib.hid hlast
      clear b0 hlast
      have HPE := Lib.hid hpe; have HPM := Lib.hid hpm
      have HAB := Lib.hid hab; have HPB := Lib.hid hpB; have HSP := Lib.hid hsbp; have HSQ := Lib.hid hsbq; have HC := Lib.hid hcall; have HLEN := Lib.hid hlen; have HPS := Lib.hid hPs; have HQS := Lib.hid hQs
      obtain ⟨P, hP⟩ : ∃ P, strOfNums p = P := ⟨_, rfl⟩
      obtain ⟨Q, hQ⟩ : ∃ Q, strOfNums q = Q := ⟨_, rfl⟩
      rw [hP] at HC HPS HSP b1 b2
      rw [hQ] at HC HQS HSQ b0'
      have B1 := Lib.hid b1; have B2 := Lib.hid b2
      clear hpe hpm hcall hpd hqd hab hpB hqB hPs hQs hsbp hsbq hlen hP hQ e47 hzz b1 b2
      go_wp2_with fail
      with_reducible refine HC.out.mono ?_
      rintro e w1 ⟨rfl, m1, rfl⟩
      obtain ⟨L1, hst, hO1⟩ := HD.out
      have HST := Lib.hid hst; have HO1 := Lib.hid (hO1.drewN m1)
      clear HD hst hO1 HC
      generalize wr.drewN m1 = w1 at *
      go_upto_block 2 with fail
      go_cut [3] (fun v wx => DotState w0 R (dotStep st p last) v wx)
      case first =>
        have hstlen := slashed_count st
        have hz := HZ.out
        have hss : (st.map strOfNums).length ≤ 130000000 := by rw [List.length_map]; omega
        have HSS := Lib.hid hss
        by_cases hp1 : p = [46]
        · have hds : dotStep st p last = if last then st ++ [[]] else st := by
            simp [dotStep, hp1]
          have HDS := Lib.hid hds
          have t1 : (P.toList == [46]) = true := by rw [B1.out, hp1]; rfl
          have t2 : (P.toList == [46, 46]) = false := by rw [B2.out, hp1]; rfl
          clear hp1 hds hstlen hz hss
          cases last with
          | true =>
            go_wp2_with (refine wl_appendT rfl _ _ rfl _ _ (by rfl) HST.out (HO1.out.put2 _) (.slice (some ⟨_, 0, none⟩) 1 1) [⟨#[]⟩] (by rfl) (vs_new (sv [⟨#[]⟩]) 1 rfl) (by have := HSS.out; simp at this ⊢; omega) ?_; intro v5 w5 L5 hv5 hO5; have HV5 := Lib.hid hv5; have HO5 := Lib.hid hO5.strike; clear hv5 hO5 HO1 HST)
            go_meet
            exact ⟨L5, HV5.out.cast (by rw [HDS.out]; simp; rfl), HO5.out⟩
          | false =>
            go_wp2
            go_meet
            exact ⟨L1, HST.out.cast (by rw [HDS.out]; rfl), HO1.out⟩
        · by_cases hp2 : p = [46, 46]
          · have hds : dotStep st p last = if last then st.dropLast ++ [[]] else st.dropLast := by
              simp [dotStep, hp2]
            have HDS := Lib.hid hds
            have t1 : (P.toList == [46]) = false := by rw [B1.out, hp2]; rfl
            have t2 : (P.toList == [46, 46]) = true := by rw [B2.out, hp2]; rfl
            have hs130 : st.length ≤ 130000000 := by omega
            clear hp1 hp2 hds hz hss
            by_cases h0 : 0 < st.length
            · obtain ⟨g, c, rfl, hgc, hcm, hcut⟩ := HST.out.cut (st.length - 1) (by simp) (by simpa using h0)
              have hcut2 : IsStrs (.slice (some ⟨g, 0, none⟩) (st.length - 1) c) (st.dropLast.map strOfNums) L1 := hcut.cast (by rw [← List.map_take, List.dropLast_eq_take])
              have HCUT := Lib.hid hcut2
              have hsl := sls_upto w1 ⟨g, 0, none⟩ st.length c (st.length - 1) ((st.length : Int) - 1) (by omega) (by omega) (by simpa using hgc)
              have hpos : (0 : Int) < st.length := by omega
              have hlm : (st.map strOfNums).length = st.length := by simp
              rw [hlm]
              clear hcut hcut2 hgc hcm hstlen hlm h0 HST
              cases last with
              | true =>
                go_wp2_with (refine wl_appendT rfl _ _ rfl _ _ (by rfl) HCUT.out (HO1.out.put2 _) (.slice (some ⟨_, 0, none⟩) 1 1) [⟨#[]⟩] (by rfl) (vs_new (sv [⟨#[]⟩]) 1 rfl) (by have := HSS.out; simp at this ⊢; omega) ?_; intro v5 w5 L5 hv5 hO5; have HV5 := Lib.hid hv5; have HO5 := Lib.hid hO5.strike; clear hv5 hO5 HO1 HCUT)
                go_meet
                exact ⟨L5, HV5.out.cast (by rw [HDS.out]; simp; rfl), HO5.out⟩
              | false =>
                go_wp2
                go_meet
                exact ⟨L1, HCUT.out.cast (by rw [HDS.out]; rfl), HO1.out⟩
            · obtain rfl : st = [] := List.eq_nil_of_length_eq_zero (by omega)
              obtain ⟨A, c, rfl⟩ := HST.out.val
              simp only [List.map_nil, List.length_nil]
              have hst0 : IsStrs (.slice A 0 c) [] L1 := HST.out
              have HST0 := Lib.hid hst0
              clear hst0 HST h0 hstlen
              cases last with
              | true =>
                go_wp2_with (refine wl_appendT rfl _ _ rfl _ _ (by rfl) HST0.out (HO1.out.put2 _) (.slice (some ⟨_, 0, none⟩) 1 1) [⟨#[]⟩] (by rfl) (vs_new (sv [⟨#[]⟩]) 1 rfl) (by simp) ?_; intro v5 w5 L5 hv5 hO5; have HV5 := Lib.hid hv5; have HO5 := Lib.hid hO5.strike; clear hv5 hO5 HO1 HST0)
                go_meet
                exact ⟨L5, HV5.out.cast (by rw [HDS.out]; rfl), HO5.out⟩
              | false =>
                go_wp2
                go_meet
                exact ⟨L1, HST0.out.cast (by rw [HDS.out]; rfl), HO1.out⟩
          · have hds : dotStep st p last = st ++ [pctE p] := by
              unfold dotStep
              rw [if_neg (by intro h; rcases h with h | h; exact hp1 h; exact hp2 h)]
            have HDS := Lib.hid hds
            have t1 : (P.toList == [46]) = false := by rw [B1.out]; exact decide_eq_false hp1
            have t2 : (P.toList == [46, 46]) = false := by rw [B2.out]; exact decide_eq_false hp2
            have hcall := rpct_c HO1.out P (by rw [HPS.out]; have := HAB.out; omega)
            rw [HSP.out] at hcall
            have HC := Lib.hid hcall
            clear hp1 hp2 hds hstlen hz hss hcall
            go_wp2_with fail
            with_reducible refine HC.out.mono ?_
            rintro e w2 ⟨rfl, hO2⟩
            have HO2 := Lib.hid hO2; clear hO2 HO1 HC
            go_wp2_with (refine wl_appendT rfl _ _ rfl _ _ (by rfl) HST.out (HO2.out.put2 _) (.slice (some ⟨_, 0, none⟩) 1 1) [strOfNums (pctE p)] (by rfl) (vs_new (sv [strOfNums (pctE p)]) 1 rfl) (by have := HSS.out; simp at this ⊢; omega) ?_; intro v5 w5 L5 hv5 hO5; have HV5 := Lib.hid hv5; have HO5 := Lib.hid hO5.strike; clear hv5 hO5 HO2 HST)
            go_meet
            exact ⟨L5, HV5.out.cast (by rw [HDS.out]; simp), HO5.out⟩
      case rest =>
        have HD2 := Lib.hid hcut
        clear HST HO1 hcut
        cases q with
        | nil =>
          have hl : last = true := by rw [← HLAST.out]; rfl
          subst hl
          have hf : fin = dotStep st p true := by rw [HE.out, HPE.out rfl]; rfl
          have hfl : (slashed fin).length ≤ 200000000 := by rw [hf]; have := HLEN.out true; have := HZ.out; have := HAB.out; omega
          have HFL := Lib.hid hfl
          obtain ⟨L5, hst5, hO5⟩ := HD2.out
          rw [← hf] at hst5
          obtain ⟨A5, c5, rfl⟩ := hst5.val
          obtain ⟨A', n', c', e5, hn5, _, hA5⟩ := hst5.vs hO5
          rw [List.length_map] at *
          have hnf : (sv (fin.map strOfNums)).length = fin.length := by simp
          have hA6 : ∀ k (hk : k < fin.length), ∃ ad, A5 = some ad ∧ wc.cell? (ad.add k) = some (.string (strOfNums fin[k])) := by
            intro k hk
            cases e5
            obtain ⟨ad, rfl, hc⟩ := hA5 (by omega)
            exact ⟨ad, rfl, hc k _ (by simp [sv, hk])⟩
          have HA6 := Lib.hid hA6
          have HO5 := Lib.hid hO5
          have hfc : fin.length ≤ 200000000 := by have := slashed_count fin; omega
          have htake : ∀ k (hk : k < fin.length), slashed (fin.take (k + 1)) = slashed (fin.take k) ++ 47 :: fin[k] := by
            intro k hk
            rw [List.take_succ_eq_append_getElem hk, slashed_app]; simp [slashed]
          have HTK := Lib.hid htake
          have hbig : ∀ k, (slashed (fin.take k)).length ≤ 200000000 := by
            intro k
            have : slashed fin = slashed (fin.take k) ++ slashed (fin.drop k) := by rw [← slashed_app, List.take_append_drop]
            rw [this, List.length_append] at hfl
            omega
          have HBG := Lib.hid hbig
          obtain ⟨n, hn⟩ : ∃ n, fin.length = n := ⟨_, rfl⟩
          rw [hn] at hfc ⊢
          have HNF := Lib.hid hn
          clear hf hfl HD2 hst5 hO5 e5 hn5 hA5 hnf hA6 htake hbig hn HE HPE HPM HLAST HLEN HAB HZ
          go_wp2
          go_loopw [8, 55] (fun u v w' => ∃ k : Nat, k ≤ n ∧ v = .int .i64 k ∧ Hid (u = .string (strOfNums (slashed (fin.take k)))) ∧ w' = wc) (fun _ v _ => n - (intOf v).toNat)
          case atStart => exact ⟨0, Nat.zero_le _, rfl, rfl, rfl⟩
          case round =>
            obtain ⟨k, hk, rfl, HU, rfl⟩ := hrel
            have hu := HU.out
            subst hu
            by_cases hkn : k < n
            · obtain ⟨ad, rfl, hcell⟩ := HA6.out k (by rw [HNF.out]; exact hkn)
              have htk := HTK.out k (by rw [HNF.out]; exact hkn)
              have hs1 : (strOfNums (slashed (fin.take (k + 1)))).size ≤ 200000000 := by rw [strOfNums_size]; exact HBG.out (k + 1)
              have hs2 : strOfNums (slashed (fin.take (k + 1))) = strOfNums (slashed (fin.take k)) ++ (⟨#[47]⟩ ++ strOfNums (fin[k]'(by rw [HNF.out]; exact hkn))) := by
                rw [htk, strs_app, show (47 : Int) :: fin[k]'(by rw [HNF.out]; exact hkn) = [47] ++ fin[k]'(by rw [HNF.out]; exact hkn) from rfl, strs_app]; rfl
              have hsz : (strOfNums (slashed (fin.take (k + 1)))).size = (strOfNums (slashed (fin.take k))).size + (1 + (strOfNums (fin[k]'(by rw [HNF.out]; exact hkn))).size) := by
                rw [hs2, ByteArray.size_append, ByteArray.size_append]; rfl
              generalize strOfNums (fin[k]'(by rw [HNF.out]; exact hkn)) = x at *
              generalize strOfNums (slashed (fin.take k)) = o at *
              have n1 : ¬ (9223372036854775807 < 1 + x.size) := by omega
              have n2 : ¬ (9223372036854775807 < o.size + (1 + x.size)) := by omega
              have HS2 := Lib.hid hs2
              have hkI : (k : Int) < n := by omega
              clear htk hs1 hs2 hsz
              go_wp2
              go_roundw
              case rel => exact ⟨k + 1, by omega, by go_num, Lib.hid (by rw [HS2.out]), trivial⟩
              case measure => simp [intOf]; omega
            · obtain rfl : k = n := by omega
              have htk : fin.take k = fin := List.take_of_length_le (by rw [HNF.out]; exact Nat.le_refl _)
              rw [htk]
              go_wp2
              go_ret
              exact ⟨rfl, HO5.out.right⟩
        | cons x r =>
          have hl : last = false := by rw [← HLAST.out]; rfl
          subst hl
          have hQ1 : (1 : Int) ≤ Q.size := by rw [HQS.out]; simp only [List.length_cons]; omega
          have hnx : sb (Q.extract 1 Q.size) = r := by rw [sb_from, HSQ.out]; rfl
          have hst2 : fin = dotGo (dotStep st p false) (partsI (sb (Q.extract 1 Q.size))) := by rw [HE.out, HPM.out x r rfl, dotGo_cons _ _ (partsI_ne r), hnx]
          have hsz : (Q.extract 1 Q.size).size = r.length := by rw [← length_sb, hnx]
          have hzz : (Q.extract 1 Q.size).size ≤ 10000000 ∧ (slashed (dotStep st p false)).length + 13 * (Q.extract 1 Q.size).size ≤ 130000000 := by
            have h1 := HAB.out; have h2 := HZ.out; have h3 := HLEN.out false
            rw [hsz]
            simp only [List.length_cons] at h1
            omega
          have hms : (Q.extract 1 Q.size).size < t.size := by have h1 := HAB.out; rw [hsz]; simp only [List.length_cons] at h1; omega
          have HST2 := Lib.hid hst2; have HZZ := Lib.hid hzz; have HMS := Lib.hid hms
          clear hnx hst2 hsz hzz hms
          go_wp2
          go_roundw
          case rel => exact ⟨_, _, rfl, HST2, HZZ, HD2⟩
          case measure => exact HMS.out
end Go.Proofs.YtlcolabblpikjaaGreatDoor
/-
  The document's Trim.
-/
namespace Go.Proofs.YtlcolabblpikjaaGreatDoor
set_option linter.unusedVariables false
set_option linter.unusedSimpArgs false
set_option maxRecDepth 20000
open Go.RowKit

theorem sb_pop (t : ByteArray) (k : Nat) : sb (t.extract 0 k) = (sb t).take k := by rw [sb_extract]; rfl
theorem sb_last (t : ByteArray) (h : 0 < t.size) : sb t = (sb t).take (t.size - 1) ++ [(sb t).getD (t.size - 1) 0] := by
  have hl := length_sb t
  have h1 : t.size - 1 < (sb t).length := by omega
  have := List.take_succ_eq_append_getElem h1
  rw [show t.size - 1 + 1 = (sb t).length by omega, List.take_length] at this
  rw [List.getD_eq_getElem?_getD, List.getElem?_eq_getElem h1, Option.getD_some]
  exact this
set_option maxHeartbeats 4000000 in
theorem rtrim_c {w : World} (s : ByteArray) (hs : s.size ≤ 1073741824) :
    Calls Tryz.prog 42 #[.string s] w fun e w' => e = .returned (.string (strOfNums (trimI (sb s)))) ∧ w = w' := by
  obtain ⟨l, hl⟩ : ∃ l, trimI (sb s) = l := ⟨_, rfl⟩
  have HT0 := Lib.hid hl
  rw [hl]
  clear hl
  go_enter Tryz.func42, Tryz.ntmps42
  go_wp2
  go_loopw [0] (fun u w' => ∃ t, u = .string t ∧ Hid (trimI (sb t) = l) ∧ Hid (t.size ≤ 1073741824) ∧ w' = w) (fun u _ => strSize u)
  case atStart => exact ⟨s, rfl, HT0, Lib.hid hs, rfl⟩
  case round =>
    obtain ⟨t, rfl, HT, HS, rfl⟩ := hrel
    by_cases hlt : 0 < t.size
    · have hix := index_sb0 wr t hlt
      have hcons : ∃ r, sb t = (sb t).getD 0 0 :: r := by
        cases h : sb t with
        | nil => have := length_sb t; rw [h] at this; simp at this; omega
        | cons x r => exact ⟨r, rfl⟩
      obtain ⟨r, hr⟩ := hcons
      have hsz := HS.out
      have ht0 : (0 : Int) < t.size := by omega
      have ht1 : (1 : Int) ≤ t.size := by omega
      generalize hx : (sb t).getD 0 0 = x at *
      have HR := Lib.hid hr
      clear hr hx
      by_cases hb : x ≤ 32
      · have h1 : trimI (sb (t.extract 1 t.size)) = l := by rw [sb_from, ← HT.out, HR.out, trim_front ((blank_iff x).2 hb)]; rfl
        have h2 : (t.extract 1 t.size).size < t.size := by rw [← length_sb, sb_from, List.length_drop, length_sb]; omega
        have H1 := Lib.hid h1; have H2 := Lib.hid h2
        clear h1 h2
        go_wp2
        go_roundw
        case rel => exact ⟨_, rfl, H1, Lib.hid (by have := H2.out; omega), trivial⟩
        case measure => exact H2.out
      · have hbf : ∀ y q, sb t = y :: q → blank y = false := by
          intro y q e
          rw [HR.out] at e
          injection e with e1 e2
          rw [← e1, ← Bool.not_eq_true, blank_iff]; exact hb
        have HB := Lib.hid hbf
        clear hbf
        go_wp2
        clear hix hb hlt ht0 ht1 hsz
        go_loopw [0] (fun u w' => ∃ t, u = .string t ∧ Hid (trimI (sb t) = l) ∧ Hid (t.size ≤ 1073741824) ∧ Hid (∀ y q, sb t = y :: q → blank y = false) ∧ w' = wr) (fun u _ => strSize u)
        case atStart => exact ⟨t, rfl, HT, HS, HB, rfl⟩
        case round =>
          clear HT HS HB HR
          obtain ⟨t, rfl, HT, HS, HB, rfl⟩ := hrel
          by_cases hlt : 0 < t.size
          · have hix := index_at wr t (t.size - 1) ((t.size : Int) - 1) (by omega) (by omega)
            have hla := sb_last t hlt
            have hsz := HS.out
            have ht0 : (0 : Int) < t.size := by omega
            have ht1 : (1 : Int) ≤ t.size := by omega
            generalize hy : (sb t).getD (t.size - 1) 0 = y at *
            have HLA := Lib.hid hla
            clear hla hy
            by_cases hb : y ≤ 32
            · have h0 : ((t.size : Int) - 1).toNat = t.size - 1 := by omega
              have h1 : trimI (sb (t.extract 0 (t.size - 1))) = l := by
                rw [sb_pop, ← HT.out, ← trim_back ((blank_iff y).2 hb), ← HLA.out]
              have h2 : (t.extract 0 (t.size - 1)).size < t.size := by rw [← length_sb, sb_pop, List.length_take, length_sb]; omega
              have h3 : ∀ y q, sb (t.extract 0 (t.size - 1)) = y :: q → blank y = false := by
                intro y' q e
                rw [sb_pop] at e
                have := HLA.out
                rw [e] at this
                exact HB.out y' _ this
              have H1 := Lib.hid h1; have H2 := Lib.hid h2; have H3 := Lib.hid h3
              clear h1 h2 h3
              go_wp2
              go_roundw
              case rel => exact ⟨_, rfl, H1, Lib.hid (by have := H2.out; omega), H3, trivial⟩
              case measure => exact H2.out
            · have hd : t = strOfNums l := by
                rw [← str_sb t, ← HT.out, trim_done HB.out]
                intro q z e
                rw [HLA.out] at e
                have e2 := (List.append_inj' e rfl).2
                injection e2 with e3
                rw [← e3, ← Bool.not_eq_true, blank_iff]; exact hb
              have HD := Lib.hid hd
              clear hd
              go_wp2
              go_ret
              exact ⟨by rw [← HD.out]; rfl, rfl⟩
          · have ht : sb t = [] := List.eq_nil_of_length_eq_zero (by rw [length_sb]; omega)
            have hd : t = strOfNums l := by rw [← str_sb t, ← HT.out, ht]; rfl
            have HD := Lib.hid hd
            have ht0 : ¬ ((0 : Int) < t.size) := by omega
            clear hd ht
            go_wp2
            go_ret
            exact ⟨by rw [← HD.out]; rfl, rfl⟩
    · have ht : sb t = [] := List.eq_nil_of_length_eq_zero (by rw [length_sb]; omega)
      have hd : t = strOfNums l := by rw [← str_sb t, ← HT.out, ht]; rfl
      have HD := Lib.hid hd
      have ht0 : ¬ ((0 : Int) < t.size) := by omega
      clear hd ht
      go_wp2
      go_loopw [0] (fun u w' => u = .string t ∧ w' = wr) (fun _ _ => 0)
      case atStart => exact ⟨rfl, rfl⟩
      case round =>
        obtain ⟨rfl, rfl⟩ := hrel
        go_wp2
        go_ret
        exact ⟨by rw [← HD.out]; rfl, rfl⟩
end Go.Proofs.YtlcolabblpikjaaGreatDoor
