/-
  URLDots: for any list of numbers (of which five count): parts that are one point count for nothing, two points take the part ahead away.
  Conditions: none but the row's own.
-/
import Derived.Test.YtakihnmajgmnpaaDoorL07b0
import Derived.Test.YtakihnmajgmnpaaDoorVars
import Derived.Test.YtakihnmajgmnpaaDoorUrl12
import Derived.Test.YtakihnmajgmnpaaDoorUrl4
import Derived.Deep.CutBlock
namespace Go.Proofs.YtakihnmajgmnpaaDoor
set_option linter.unusedVariables false
set_option linter.unusedSimpArgs false
set_option maxRecDepth 20000
open Go.ChangeShapes Go.WideShapes Go.ChangeAt Go.RowKit
open Go.ChangeMaps (open_string shut_string)

theorem dstep_dot (s : List (List Int) × Bool) {p : List Int} (h : p = [46]) : dstep s p = (s.1, true) := by unfold dstep; rw [if_pos h]
theorem dstep_dots (s : List (List Int) × Bool) {p : List Int} (h : p = [46, 46]) : dstep s p = (s.1.dropLast, true) := by subst h; unfold dstep; rw [if_neg (by decide), if_pos rfl]
theorem dstep_else (s : List (List Int) × Bool) {p : List Int} (h : p ≠ [46]) (h2 : p ≠ [46, 46]) : dstep s p = (s.1 ++ [p], false) := by unfold dstep; rw [if_neg h, if_neg h2]
theorem dfin_ne (s : List (List Int) × Bool) : dfin s ≠ [] := by
  unfold dfin
  split
  · simp
  · rename_i h; intro e; exact h (.inr e)
def DotsIn (ps : List (List Int)) (S : ByteArray) : Prop := (∀ p ∈ ps, p ∈ dkinds) ∧ ps.length ≤ 5 ∧ sb S = httpI ++ ([58, 47, 47] ++ ([104] ++ slashed ps))
theorem DotsIn.size {ps : List (List Int)} {S : ByteArray} (h : DotsIn ps S) : S.size ≤ 30 := by
  have h1 := slashed_len ps h.1
  have h2 := h.2.1
  rw [← length_sb, h.2.2]
  simp [httpI]
  omega
theorem DotsIn.snoc {ps : List (List Int)} {S : ByteArray} (h : DotsIn ps S) (hl : ps.length < 5) {p : List Int} (hp : p ∈ dkinds) : DotsIn (ps ++ [p]) (S ++ (⟨#[47]⟩ ++ strOfNums p)) := by
  have hB : Byt p := fun x hx => by have := (dkind_mem hp).2 x hx; omega
  refine ⟨fun q hq => ?_, by simp; omega, ?_⟩
  · rcases List.mem_append.1 hq with hq | hq
    · exact h.1 q hq
    · rw [List.mem_singleton.1 hq]; exact hp
  · rw [sb_append, sb_append, h.2.2, sb_str hB, slashed_app]
    show _ ++ (47 :: p) = _ ++ (_ ++ (_ ++ (_ ++ ((47 :: p) ++ []))))
    simp
theorem dkind_at (j : Nat) (hj : j < 5) : ∃ p, p ∈ dkinds ∧ (([⟨#[97]⟩, ⟨#[46]⟩, ⟨#[46, 46]⟩, ⟨#[98, 99]⟩, ⟨#[]⟩] : List ByteArray).map Value.string)[j]? = some (Value.string (strOfNums p)) := by
  match j, hj with
  | 0, _ => exact ⟨[97], by decide, by rw [show strOfNums [97] = ⟨#[97]⟩ by decide +kernel]; rfl⟩
  | 1, _ => exact ⟨[46], by decide, by rw [show strOfNums [46] = ⟨#[46]⟩ by decide +kernel]; rfl⟩
  | 2, _ => exact ⟨[46, 46], by decide, by rw [show strOfNums [46, 46] = ⟨#[46, 46]⟩ by decide +kernel]; rfl⟩
  | 3, _ => exact ⟨[98, 99], by decide, by rw [show strOfNums [98, 99] = ⟨#[98, 99]⟩ by decide +kernel]; rfl⟩
  | 4, _ => exact ⟨[], by decide, by rw [show strOfNums [] = ⟨#[]⟩ by decide +kernel]; rfl⟩
theorem fold_snoc (ps : List (List Int)) (p : List Int) : (ps ++ [p]).foldl dstep ([], false) = dstep (ps.foldl dstep ([], false)) p := by rw [List.foldl_append]; rfl
/-- Of a slice of strings the first ones, in the same blocks. -/
theorem ssl_upto {v : Value} {ss : List ByteArray} {L : Blks} (h : IsStrs v ss L) (k : Nat) (i : Int) (hi : (k : Int) = i) (hk : k ≤ ss.length) :
    ∃ v', IsStrs v' (ss.take k) L ∧ ∀ W : World, (Instr.slice 30 v none (some (.int .i64 i)) none).run Tryd.prog W = .ok v' W := by
  subst hi
  rcases h.2 with ⟨rfl, h0, rfl⟩ | ⟨g, cap, sp, rfl, rfl, hl, hn, hm⟩
  · obtain rfl : k = 0 := by omega
    exact ⟨.slice none 0 0, isStrs_nil, fun W => by go_simp⟩
  · rcases Nat.eq_zero_or_pos ss.length with h0 | h0
    · obtain rfl : k = 0 := by omega
      have hs : ss = [] := List.eq_nil_of_length_eq_zero h0
      subst hs
      exact ⟨_, h, fun W => sls_upto W _ _ _ 0 _ rfl (Nat.le_refl _) hn⟩
    · obtain ⟨g', c', e, hc, hm', hcut⟩ := h.cut k hk h0
      cases e
      exact ⟨_, hcut, fun W => sls_upto W _ _ _ k _ rfl hk hc⟩
/-- What is read at a place. -/
theorem IsStrs.at {w0 w : World} {v : Value} {ss : List ByteArray} {L R : Blks} (h : IsStrs v ss L) (hO : Own w0 w (L ++ R)) (h0 : 0 < ss.length) :
    ∃ g c, v = .slice (some ⟨g, 0, none⟩) ss.length c ∧ ss.length ≤ c ∧ ∀ j, j < ss.length → w.cell? ⟨g, j, none⟩ = some (.string (ss.getD j ⟨#[]⟩)) := by
  rcases h.2 with ⟨_, hn, _⟩ | ⟨g, cap, sp, rfl, rfl, hl, hn, hm⟩
  · omega
  · refine ⟨g, cap, rfl, hn, fun j hj => ?_⟩
    rw [hO.cell (.head _) j]
    simp only [List.getElem?_toArray]
    rw [List.getElem?_append_left (by simp; exact hj)]
    simp [sv, List.getD_eq_getElem?_getD, List.getElem?_eq_getElem hj]
def Walked (T : ByteArray) (Q : List (List Int)) (i : Nat) : Prop := sb T = httpI ++ ([58, 47, 47] ++ ([104] ++ slashed (Q.take i)))
set_option maxRecDepth 100000 in
set_option maxHeartbeats 16000000 in
theorem uRLDots_walk {W : World} (hV : VarsOk W) (v : Value) (xs : List Int) (hv : InRow .i64 W v xs) :
    Calls Tryd.prog 4 #[v] W (Yes W) := by
  have HO := Lib.hid (Own.start W)
  have HVV := Lib.hid hV
  clear hV
  obtain ⟨A, n, cp, rfl, hn, hc, hm, hwf, hA⟩ := hv
  have HA := Lib.hid hA; have HN := Lib.hid hn
  have hnm : n ≤ 9223372036854775807 := by unfold maxLen at hm; omega
  clear hwf hA hn hm hc
  go_enter Tryd.func4, Tryd.ntmps4
  go_wp2
  go_loopw [3, 4, 5, 6] (fun sv wv dv iv w' => ∃ (ps : List (List Int)) (S : ByteArray) (d : Bool) (k : Nat), sv = .string S ∧ dv = .bool d ∧ iv = .int .i64 k ∧ Hid (ps.length = k) ∧ k ≤ 5 ∧ Hid (d = (ps.foldl dstep ([], false)).2) ∧ Hid (DotsIn ps S) ∧ Hid (DotState W [] (ps.foldl dstep ([], false)).1 wv w')) (fun _ _ _ iv _ => 5 - (intOf iv).toNat)
  case atStart => exact ⟨[], _, false, 0, rfl, rfl, rfl, Lib.hid rfl, by omega, Lib.hid rfl, Lib.hid ⟨by simp, by simp, by decide +kernel⟩, Lib.hid ⟨[], isStrs_nil, HO.out⟩⟩
  case round =>
    obtain ⟨ps, S, d, k, rfl, rfl, rfl, HK, hk5, HD, HS, HW⟩ := hrel
    clear HO
    by_cases hin : k < n ∧ k < 5
    · obtain ⟨hkn, hk4⟩ := hin
      have hknI : (k : Int) < n := by omega
      have hk5I : (k : Int) < 5 := by omega
      obtain ⟨ad, rfl, hcell⟩ := HA.out (by omega)
      obtain ⟨hb, hcell⟩ := hcell
      obtain ⟨x, hx⟩ : ∃ x, xs[k]? = some x := ⟨xs[k]'(by rw [HN.out]; omega), List.getElem?_eq_getElem _⟩
      obtain ⟨L, hst, hO1⟩ := HW.out
      have hcl : ∀ o : Obj, (wr.alloc o).cell? (ad.add k) = some (.int .i64 x) := fun o => by
        rw [(hO1.alloc o).below.cell (by rw [block_of_add]; exact hb)]; exact hcell k x hx
      have HST := Lib.hid hst; have HO1 := Lib.hid hO1
      clear hb hcell hx hst hO1 HW
      have hj : (x % 5).toNat < 5 := by omega
      obtain ⟨p, hpd, hrow⟩ := dkind_at _ hj
      have hwn : ∀ w : World, _ := fun w => within_n (w := w) x 5 (by omega) (by omega)
      generalize (x % 5).toNat = j at *
      have HROW := Lib.hid hrow; have HWN := Lib.hid hwn; have HPD := Lib.hid hpd
      clear hrow hwn hpd
      go_wp2_with fail
      generalize hwx : wr.alloc _ = wx
      have hO2 : Own W wx (L ++ ((wr.heap.size, .cells (([⟨#[97]⟩, ⟨#[46]⟩, ⟨#[46, 46]⟩, ⟨#[98, 99]⟩, ⟨#[]⟩] : List ByteArray).map Value.string).toArray 9) :: [])) := by rw [← hwx]; exact HO1.out.put2 _
      have HO2 := Lib.hid hO2
      clear hwx hO2 hcl
      with_reducible refine (HWN.out wx).mono ?_
      rintro en w20 ⟨rfl, hww⟩
      subst hww
      have hc7 : wx.cell? ⟨wr.heap.size, j, none⟩ = some (.string (strOfNums p)) := by rw [HO2.out.cell (List.mem_append_right _ (.head _)), List.getElem?_toArray]; exact HROW.out
      have hj5 : (j : Int) < 5 := by omega
      have HO3 := Lib.hid HO2.out.strike
      have hpB : Byt p := fun y hy => by have := (dkind_mem HPD.out).2 y hy; omega
      have hps : (strOfNums p).size ≤ 2 := by rw [strOfNums_size]; exact (dkind_mem HPD.out).1
      have hss := HS.out.size
      have b1 : ((strOfNums p).toList == [46]) = decide (p = [46]) := by rw [beq_lit, sb_str hpB]; rfl
      have b2 : ((strOfNums p).toList == [46, 46]) = decide (p = [46, 46]) := by rw [beq_lit, sb_str hpB]; rfl
      have hnext := HS.out.snoc (by rw [HK.out]; omega) HPD.out
      have hfold := fold_snoc ps p
      have n1 : ¬ (9223372036854775807 < 1 + (strOfNums p).size) := by omega
      have n2 : ¬ (9223372036854775807 < S.size + (1 + (strOfNums p).size)) := by omega
      have hcount : (ps.foldl dstep ([], false)).1.length ≤ 5 := by
        have := (dfold_mem ps ([], false) (by intro q hq; cases hq) HS.out.1).2
        simp at this; have := HK.out; omega
      have HNEXT := Lib.hid hnext; have HFOLD := Lib.hid hfold; have HCNT := Lib.hid hcount
      clear hnext hfold hcount hpB hps hss HO1 HO2 HROW HWN HPD HS HD
      obtain ⟨st, hst0⟩ : ∃ st, (ps.foldl dstep ([], false)).1 = st := ⟨_, rfl⟩
      have HST0 := Lib.hid hst0
      rw [hst0] at HST HCNT
      clear hst0
      have hP : ∀ d2 st2, dstep (ps.foldl dstep ([], false)) p = (st2, d2) → (d2 = ((ps ++ [p]).foldl dstep ([], false)).2 ∧ st2 = ((ps ++ [p]).foldl dstep ([], false)).1) := fun d2 st2 h => by rw [HFOLD.out, h]; exact ⟨rfl, rfl⟩
      have HP := Lib.hid hP
      clear hP
      by_cases h1 : p = [46]
      · have hds := HP.out true st (by rw [dstep_dot _ h1, HST0.out])
        have HDS := Lib.hid hds
        rw [decide_eq_true h1] at b1
        rw [decide_eq_false (by rw [h1]; decide)] at b2
        clear h1 hds
        generalize hPP : strOfNums p = P at *
        clear hPP
        go_wp2
        go_roundw
        case rel => exact ⟨ps ++ [p], _, _, k + 1, rfl, rfl, by go_num, Lib.hid (by rw [List.length_append, HK.out]; rfl), by omega, Lib.hid HDS.out.1, HNEXT, Lib.hid ⟨L, HST.out.cast (by rw [HDS.out.2]), HO3.out⟩⟩
        case measure => simp [intOf]; omega
      · rw [decide_eq_false h1] at b1
        by_cases h2 : p = [46, 46]
        · have hds := HP.out true st.dropLast (by rw [dstep_dots _ h2, HST0.out])
          have HDS := Lib.hid hds
          rw [decide_eq_true h2] at b2
          clear h1 h2 hds
          generalize hPP : strOfNums p = P at *
          clear hPP
          rcases Nat.eq_zero_or_pos st.length with hz | hz
          · have hsn : st = [] := List.eq_nil_of_length_eq_zero hz
            obtain ⟨v', hv', hrun⟩ := ssl_upto HST.out 0 (max (-1) 0) (by decide) (Nat.zero_le _)
            obtain ⟨A2, c2, rfl⟩ := HST.out.val
            have hv2 : IsStrs v' (st.dropLast.map strOfNums) L := hv'.cast (by rw [hsn]; rfl)
            have HV2 := Lib.hid hv2
            have hl0 : (st.map strOfNums).length = 0 := by rw [List.length_map]; exact hz
            rw [hl0] at hrun ⊢
            clear hv' hv2 hsn hz hl0
            go_wp2
            go_roundw
            case rel => exact ⟨ps ++ [p], _, _, k + 1, rfl, rfl, by go_num, Lib.hid (by rw [List.length_append, HK.out]; rfl), by omega, Lib.hid HDS.out.1, HNEXT, Lib.hid ⟨L, HV2.out.cast (by rw [HDS.out.2]), HO3.out⟩⟩
            case measure => simp [intOf]; omega
          · obtain ⟨q, hq⟩ : ∃ q, st.length = q + 1 := ⟨st.length - 1, by omega⟩
            obtain ⟨v', hv', hrun⟩ := ssl_upto HST.out q (q : Int) rfl (by rw [List.length_map]; omega)
            obtain ⟨A2, c2, rfl⟩ := HST.out.val
            have hv2 : IsStrs v' (st.dropLast.map strOfNums) L := hv'.cast (by rw [← List.map_take, List.dropLast_eq_take, hq]; rfl)
            have HV2 := Lib.hid hv2
            have hl0 : (st.map strOfNums).length = q + 1 := by rw [List.length_map]; exact hq
            rw [hl0] at hrun ⊢
            have hq5 : q ≤ 5 := by have := HCNT.out; omega
            clear hv' hv2 hq hz hl0
            go_wp2
            go_roundw
            case rel => exact ⟨ps ++ [p], _, _, k + 1, rfl, rfl, by go_num, Lib.hid (by rw [List.length_append, HK.out]; rfl), by omega, Lib.hid HDS.out.1, HNEXT, Lib.hid ⟨L, HV2.out.cast (by rw [HDS.out.2]), HO3.out⟩⟩
            case measure => simp [intOf]; omega
        · have hds := HP.out false (st ++ [p]) (by rw [dstep_else _ h1 h2, HST0.out])
          have HDS := Lib.hid hds
          rw [decide_eq_false h2] at b2
          clear h1 h2 hds
          have hcast : st.map strOfNums ++ [strOfNums p] = (st ++ [p]).map strOfNums := by simp
          generalize hPP : strOfNums p = P at *
          have HC := Lib.hid hcast
          clear hPP hcast
          go_wp2_with (refine wl_appendT rfl _ _ rfl _ _ (by rfl) HST.out (HO3.out.put2 _) (.slice (some ⟨_, 0, none⟩) 1 1) [P] (by rfl) (vs_new (sv [P]) 1 rfl) (by have := HCNT.out; simp at this ⊢; omega) ?_; intro v5 w5 L5 hv5 hO5; have HV5 := Lib.hid hv5; have HO5 := Lib.hid hO5.strike; clear hv5 hO5 HO3 HST)
          go_roundw
          case rel => exact ⟨ps ++ [p], _, _, k + 1, rfl, rfl, by go_num, Lib.hid (by rw [List.length_append, HK.out]; rfl), by omega, Lib.hid HDS.out.1, HNEXT, Lib.hid ⟨L5, HV5.out.cast (by rw [HC.out, HDS.out.2]), HO5.out⟩⟩
          case measure => simp [intOf]; omega
    · -- behind the loop
      have hex : ¬ (k < n) ∨ (k < n ∧ k = 5) := by omega
      obtain ⟨L, hst, hO1⟩ := HW.out
      have hcount : (ps.foldl dstep ([], false)).1.length ≤ 5 := by
        have := (dfold_mem ps ([], false) (by intro q hq; cases hq) HS.out.1).2
        simp at this; have := HK.out; omega
      have hmem := (dfold_mem ps ([], false) (by intro q hq; cases hq) HS.out.1).1
      have hpar : parseI (sb S) = some ⟨httpI, [104], 0, slashed (dfin (ps.foldl dstep ([], false))), []⟩ := by rw [HS.out.2.2]; exact parseI_dots ps HS.out.1 HS.out.2.1
      have hSs := HS.out.size
      have hdd := HD.out
      generalize ps.foldl dstep ([], false) = fs at *
      obtain ⟨st, d2⟩ := fs
      simp only at hst hcount hmem hdd
      subst hdd
      have hfm := dfin_mem (s := (st, d)) hmem
      have hfn := dfin_ne (st, d)
      have hfd : dfin (st, d) = if d = true ∨ st = [] then st ++ [[]] else st := rfl
      have hfl : (dfin (st, d)).length ≤ 6 := by have := hfm.2; simp at this; omega
      generalize dfin (st, d) = Q at *
      have HST := Lib.hid hst; have HO1 := Lib.hid hO1; have HCNT := Lib.hid hcount; have HFD := Lib.hid hfd; have HFM := Lib.hid hfm.1; have HFN := Lib.hid hfn; have HPAR := Lib.hid hpar
      obtain ⟨m, hm⟩ : ∃ m, Q.length = m := ⟨_, rfl⟩
      have HM := Lib.hid hm
      have hm6 : m ≤ 6 := by omega
      have hm0 : 0 < m := by have := List.length_pos_iff.2 hfn; omega
      clear hst hO1 hcount hmem hfd hfm hfn hpar hfl hm HW HS HD HK hin HN HA
      obtain ⟨A2, c2, rfl⟩ := HST.out.val
      obtain ⟨z, hz⟩ : ∃ z, (st.map strOfNums).length = z := ⟨_, rfl⟩
      have hzs : z = st.length := by rw [← hz, List.length_map]
      rw [hz]
      have HZ := Lib.hid hz; have HZS := Lib.hid hzs
      clear hz hzs
      have hcase : d = true ∨ (d = false ∧ z = 0) ∨ (d = false ∧ z ≠ 0) := by cases d <;> simp <;> omega
      rcases hex with hkn | ⟨hkn, rfl⟩
      all_goals
        first | (have hknI : ¬ ((k : Int) < n) := by omega) | (have hknI : ((5 : Nat) : Int) < n := by omega)
        rcases hcase with rfl | ⟨rfl, hz0⟩ | ⟨rfl, hz0⟩
        · go_upto_if 61 with fail
          go_cut [4] (fun v wx => DotState W [] Q v wx)
          case first =>
            have hq : Q = st ++ [[]] := by rw [HFD.out, if_pos (.inl rfl)]
            have HQ := Lib.hid hq
            have hcast : IsStrs (.slice A2 z c2) (st.map strOfNums) L := by rw [← HZ.out]; exact HST.out
            have HST := Lib.hid hcast
            clear hq hcast
            go_wp2_with (refine wl_appendT rfl _ _ rfl _ _ (by rfl) HST.out (HO1.out.put2 _) (.slice (some ⟨_, 0, none⟩) 1 1) [⟨#[]⟩] (by rfl) (vs_new (sv [⟨#[]⟩]) 1 rfl) (by have := HCNT.out; simp at this ⊢; omega) ?_; intro v5 w5 L5 hv5 hO5; have HV5 := Lib.hid hv5; have HO5 := Lib.hid hO5.strike; clear hv5 hO5 HO1 HST)
            go_meet
            exact ⟨L5, HV5.out.cast (by rw [HQ.out]; simp; rfl), HO5.out⟩
          case rest =>
            obtain ⟨L2, hv2, hO2⟩ := hcut
            obtain ⟨g, cq, rfl, hmc, hcell⟩ := hv2.at hO2 (by rw [List.length_map, HM.out]; exact hm0)
            rw [List.length_map, HM.out] at hmc hcell ⊢
            have hcell2 : ∀ j, j < m → wc.cell? ⟨g, j, none⟩ = some (.string (strOfNums (Q.getD j []))) := fun j hj => by
              rw [hcell j hj]
              have hj' : j < Q.length := by rw [HM.out]; exact hj
              simp [List.getD_eq_getElem?_getD, List.getElem?_eq_getElem hj']
            have HCELL := Lib.hid hcell2; have HO2 := Lib.hid hO2.right
            clear hcell hcell2 hv2 hO2 HO1 HST HFD HZ HZS HCNT
            go_wp2
            go_loopw [8, 67] (fun tv iv w' => ∃ (T : ByteArray) (i : Nat), tv = .string T ∧ iv = .int .i64 i ∧ i ≤ m ∧ Hid (Walked T Q i) ∧ w' = wc) (fun _ iv _ => m - (intOf iv).toNat)
            case atStart => exact ⟨_, 0, rfl, rfl, by omega, Lib.hid (show sb _ = _ by rw [List.take_zero]; decide +kernel), rfl⟩
            case round =>
              obtain ⟨T, i, rfl, rfl, him, HT, rfl⟩ := hrel
              have htk : ∀ q ∈ Q.take i, q ∈ dkinds := fun q hq => HFM.out q (List.mem_of_mem_take hq)
              have hts : T.size ≤ 30 := by
                have h1 := slashed_len _ htk
                have h2 := HT.out
                rw [← length_sb, h2]
                rw [List.length_take] at h1
                simp [httpI]; omega
              clear htk
              by_cases hlt : i < m
              · have hc := HCELL.out i hlt
                have hix : i < Q.length := by rw [HM.out]; exact hlt
                have hqm : Q.getD i [] ∈ dkinds := HFM.out _ (by rw [List.getD_eq_getElem?_getD, List.getElem?_eq_getElem hix]; exact List.getElem_mem hix)
                have hqs : (strOfNums (Q.getD i [])).size ≤ 2 := by rw [strOfNums_size]; exact (dkind_mem hqm).1
                have hnx : Walked (T ++ (⟨#[47]⟩ ++ strOfNums (Q.getD i []))) Q (i + 1) := by
                  have hB : Byt (Q.getD i []) := fun y hy => by have := (dkind_mem hqm).2 y hy; omega
                  have h2 : sb T = _ := HT.out
                  have e1 : Q.take (i + 1) = Q.take i ++ [Q.getD i []] := by rw [List.take_succ_eq_append_getElem hix, List.getD_eq_getElem?_getD, List.getElem?_eq_getElem hix]; rfl
                  unfold Walked
                  rw [sb_append, sb_append, h2, sb_str hB, e1, slashed_app]
                  show _ ++ (47 :: Q.getD i []) = _ ++ (_ ++ (_ ++ (_ ++ ((47 :: Q.getD i []) ++ []))))
                  simp
                have HNX := Lib.hid hnx
                have hiI : (i : Int) < m := by omega
                clear hqm hix hnx HT
                generalize strOfNums (Q.getD i []) = P at *
                have n1 : ¬ (9223372036854775807 < 1 + P.size) := by omega
                have n2 : ¬ (9223372036854775807 < T.size + (1 + P.size)) := by omega
                go_wp2
                go_roundw
                case rel => exact ⟨_, i + 1, rfl, by go_num, by omega, HNX, trivial⟩
                case measure => simp [intOf]; omega
              · obtain rfl : i = m := by omega
                have htt : T = strOfNums (printI ⟨httpI, [104], 0, slashed Q, []⟩) := by
                  rw [← str_sb T]
                  have h2 : sb T = _ := HT.out
                  rw [h2, List.take_of_length_le (by rw [HM.out]; exact Nat.le_refl _), printI_parts]
                  simp [portT]
                have hF := parseI_fine (byt_sb S) HPAR.out
                have p1 : ∀ (w' : World) (R' : Blks), Own W w' R' → _ := fun w' R' h => uparse_c HVV.out h S (by omega)
                rw [HPAR.out] at p1
                have p2 : ∀ (w' : World) (R' : Blks), Own W w' R' → _ := fun w' R' h => uprint_c HVV.out h _ hF
                rw [← htt] at p2
                have P1 := Lib.hid p1; have P2 := Lib.hid p2
                clear htt hF p1 p2 HT HCELL HPAR
                go_wp2_with fail
                with_reducible refine (P1.out _ _ HO2.out).mono ?_
                rintro e w4 ⟨rfl, hO4⟩
                have HO4 := Lib.hid hO4; clear hO4 HO2 P1
                simp only [Option.getD_some, Option.isSome_some]
                generalize UL.mk httpI [104] 0 (slashed Q) [] = U at *
                obtain ⟨u1, u2, u3, u4, u5⟩ := U
                go_wp2_with (first | (refine wl_alloc rfl _ rfl HO4.out _ (alloc_url _) ?_; intro g11 w5 hO5; have HO5 := Lib.hid hO5; clear hO5 HO4) | (refine wl_store rfl _ _ _ rfl HO5.out 0 g11 0 _ (UL.mk u1 u2 u3 u4 u5).val _ rfl (by rfl) (by rfl) url_size (one_url _) (by simp [UL.val, UL.zero]) ?_; intro w6 hO6; have HO6 := Lib.hid (hO6.cast (L' := [(g11, .cells (UL.mk u1 u2 u3 u4 u5).val.toArray 25)]) rfl); clear hO6 HO5) | (refine wl_g (by rfl) ?_; refine wl_load rfl _ _ rfl g11 0 (UL.mk u1 u2 u3 u4 u5).val (UL.mk u1 u2 u3 u4 u5).val _ (HO6.out.heap (.head _)) (by rfl) _ Tryd.underlying25 rfl url_size (by rfl) ?_))
                with_reducible refine (P2.out _ _ HO6.out).mono ?_
                rintro e w7 ⟨rfl, hO7⟩
                have HO7 := Lib.hid hO7; clear hO7 HO6 P2
                go_wp2_with fail
                with_reducible refine (wakes7_c HVV.out HO7.out).mono ?_
                rintro e w8 ⟨rfl, hO8⟩
                have HO8 := Lib.hid hO8; clear hO8 HO7
                go_wp2
                go_ret
                exact HO8.out.yes rfl
        · subst hz0
          go_upto_if 61 with fail
          go_cut [4] (fun v wx => DotState W [] Q v wx)
          case first =>
            have hcast : IsStrs (.slice A2 0 c2) (st.map strOfNums) L := by rw [← HZ.out]; exact HST.out
            have HST := Lib.hid hcast
            clear hcast
            have hs0 : st = [] := List.eq_nil_of_length_eq_zero HZS.out.symm
            have hq : Q = st ++ [[]] := by rw [HFD.out, if_pos (.inr hs0)]
            have HQ := Lib.hid hq
            clear hq hs0
            go_wp2_with (refine wl_appendT rfl _ _ rfl _ _ (by rfl) HST.out (HO1.out.put2 _) (.slice (some ⟨_, 0, none⟩) 1 1) [⟨#[]⟩] (by rfl) (vs_new (sv [⟨#[]⟩]) 1 rfl) (by have := HCNT.out; simp at this ⊢; omega) ?_; intro v5 w5 L5 hv5 hO5; have HV5 := Lib.hid hv5; have HO5 := Lib.hid hO5.strike; clear hv5 hO5 HO1 HST)
            go_meet
            exact ⟨L5, HV5.out.cast (by rw [HQ.out]; simp; rfl), HO5.out⟩
          case rest =>
            obtain ⟨L2, hv2, hO2⟩ := hcut
            obtain ⟨g, cq, rfl, hmc, hcell⟩ := hv2.at hO2 (by rw [List.length_map, HM.out]; exact hm0)
            rw [List.length_map, HM.out] at hmc hcell ⊢
            have hcell2 : ∀ j, j < m → wc.cell? ⟨g, j, none⟩ = some (.string (strOfNums (Q.getD j []))) := fun j hj => by
              rw [hcell j hj]
              have hj' : j < Q.length := by rw [HM.out]; exact hj
              simp [List.getD_eq_getElem?_getD, List.getElem?_eq_getElem hj']
            have HCELL := Lib.hid hcell2; have HO2 := Lib.hid hO2.right
            clear hcell hcell2 hv2 hO2 HO1 HST HFD HZ HZS HCNT
            go_wp2
            go_loopw [8, 67] (fun tv iv w' => ∃ (T : ByteArray) (i : Nat), tv = .string T ∧ iv = .int .i64 i ∧ i ≤ m ∧ Hid (Walked T Q i) ∧ w' = wc) (fun _ iv _ => m - (intOf iv).toNat)
            case atStart => exact ⟨_, 0, rfl, rfl, by omega, Lib.hid (show sb _ = _ by rw [List.take_zero]; decide +kernel), rfl⟩
            case round =>
              obtain ⟨T, i, rfl, rfl, him, HT, rfl⟩ := hrel
              have htk : ∀ q ∈ Q.take i, q ∈ dkinds := fun q hq => HFM.out q (List.mem_of_mem_take hq)
              have hts : T.size ≤ 30 := by
                have h1 := slashed_len _ htk
                have h2 := HT.out
                rw [← length_sb, h2]
                rw [List.length_take] at h1
                simp [httpI]; omega
              clear htk
              by_cases hlt : i < m
              · have hc := HCELL.out i hlt
                have hix : i < Q.length := by rw [HM.out]; exact hlt
                have hqm : Q.getD i [] ∈ dkinds := HFM.out _ (by rw [List.getD_eq_getElem?_getD, List.getElem?_eq_getElem hix]; exact List.getElem_mem hix)
                have hqs : (strOfNums (Q.getD i [])).size ≤ 2 := by rw [strOfNums_size]; exact (dkind_mem hqm).1
                have hnx : Walked (T ++ (⟨#[47]⟩ ++ strOfNums (Q.getD i []))) Q (i + 1) := by
                  have hB : Byt (Q.getD i []) := fun y hy => by have := (dkind_mem hqm).2 y hy; omega
                  have h2 : sb T = _ := HT.out
                  have e1 : Q.take (i + 1) = Q.take i ++ [Q.getD i []] := by rw [List.take_succ_eq_append_getElem hix, List.getD_eq_getElem?_getD, List.getElem?_eq_getElem hix]; rfl
                  unfold Walked
                  rw [sb_append, sb_append, h2, sb_str hB, e1, slashed_app]
                  show _ ++ (47 :: Q.getD i []) = _ ++ (_ ++ (_ ++ (_ ++ ((47 :: Q.getD i []) ++ []))))
                  simp
                have HNX := Lib.hid hnx
                have hiI : (i : Int) < m := by omega
                clear hqm hix hnx HT
                generalize strOfNums (Q.getD i []) = P at *
                have n1 : ¬ (9223372036854775807 < 1 + P.size) := by omega
                have n2 : ¬ (9223372036854775807 < T.size + (1 + P.size)) := by omega
                go_wp2
                go_roundw
                case rel => exact ⟨_, i + 1, rfl, by go_num, by omega, HNX, trivial⟩
                case measure => simp [intOf]; omega
              · obtain rfl : i = m := by omega
                have htt : T = strOfNums (printI ⟨httpI, [104], 0, slashed Q, []⟩) := by
                  rw [← str_sb T]
                  have h2 : sb T = _ := HT.out
                  rw [h2, List.take_of_length_le (by rw [HM.out]; exact Nat.le_refl _), printI_parts]
                  simp [portT]
                have hF := parseI_fine (byt_sb S) HPAR.out
                have p1 : ∀ (w' : World) (R' : Blks), Own W w' R' → _ := fun w' R' h => uparse_c HVV.out h S (by omega)
                rw [HPAR.out] at p1
                have p2 : ∀ (w' : World) (R' : Blks), Own W w' R' → _ := fun w' R' h => uprint_c HVV.out h _ hF
                rw [← htt] at p2
                have P1 := Lib.hid p1; have P2 := Lib.hid p2
                clear htt hF p1 p2 HT HCELL HPAR
                go_wp2_with fail
                with_reducible refine (P1.out _ _ HO2.out).mono ?_
                rintro e w4 ⟨rfl, hO4⟩
                have HO4 := Lib.hid hO4; clear hO4 HO2 P1
                simp only [Option.getD_some, Option.isSome_some]
                generalize UL.mk httpI [104] 0 (slashed Q) [] = U at *
                obtain ⟨u1, u2, u3, u4, u5⟩ := U
                go_wp2_with (first | (refine wl_alloc rfl _ rfl HO4.out _ (alloc_url _) ?_; intro g11 w5 hO5; have HO5 := Lib.hid hO5; clear hO5 HO4) | (refine wl_store rfl _ _ _ rfl HO5.out 0 g11 0 _ (UL.mk u1 u2 u3 u4 u5).val _ rfl (by rfl) (by rfl) url_size (one_url _) (by simp [UL.val, UL.zero]) ?_; intro w6 hO6; have HO6 := Lib.hid (hO6.cast (L' := [(g11, .cells (UL.mk u1 u2 u3 u4 u5).val.toArray 25)]) rfl); clear hO6 HO5) | (refine wl_g (by rfl) ?_; refine wl_load rfl _ _ rfl g11 0 (UL.mk u1 u2 u3 u4 u5).val (UL.mk u1 u2 u3 u4 u5).val _ (HO6.out.heap (.head _)) (by rfl) _ Tryd.underlying25 rfl url_size (by rfl) ?_))
                with_reducible refine (P2.out _ _ HO6.out).mono ?_
                rintro e w7 ⟨rfl, hO7⟩
                have HO7 := Lib.hid hO7; clear hO7 HO6 P2
                go_wp2_with fail
                with_reducible refine (wakes7_c HVV.out HO7.out).mono ?_
                rintro e w8 ⟨rfl, hO8⟩
                have HO8 := Lib.hid hO8; clear hO8 HO7
                go_wp2
                go_ret
                exact HO8.out.yes rfl
        · have t0 : ((z : Int) == 0) = false := beq_eq_false_iff_ne.2 (by omega)
          have t1 : (z == 0) = false := beq_eq_false_iff_ne.2 hz0
          go_upto_if 61 with fail
          go_cut [4] (fun v wx => DotState W [] Q v wx)
          case first =>
            have hcast : IsStrs (.slice A2 z c2) (st.map strOfNums) L := by rw [← HZ.out]; exact HST.out
            have HST := Lib.hid hcast
            clear hcast
            have hs0 : st ≠ [] := fun e => hz0 (by rw [HZS.out, e]; rfl)
            have hq : Q = st := by rw [HFD.out, if_neg (by rintro (h | h); cases h; exact hs0 h)]
            have HQ := Lib.hid hq
            clear hq hs0
            go_wp2
            go_meet
            exact ⟨L, HST.out.cast (by rw [HQ.out]), HO1.out⟩
          case rest =>
            obtain ⟨L2, hv2, hO2⟩ := hcut
            obtain ⟨g, cq, rfl, hmc, hcell⟩ := hv2.at hO2 (by rw [List.length_map, HM.out]; exact hm0)
            rw [List.length_map, HM.out] at hmc hcell ⊢
            have hcell2 : ∀ j, j < m → wc.cell? ⟨g, j, none⟩ = some (.string (strOfNums (Q.getD j []))) := fun j hj => by
              rw [hcell j hj]
              have hj' : j < Q.length := by rw [HM.out]; exact hj
              simp [List.getD_eq_getElem?_getD, List.getElem?_eq_getElem hj']
            have HCELL := Lib.hid hcell2; have HO2 := Lib.hid hO2.right
            clear hcell hcell2 hv2 hO2 HO1 HST HFD HZ HZS HCNT
            go_wp2
            go_loopw [8, 67] (fun tv iv w' => ∃ (T : ByteArray) (i : Nat), tv = .string T ∧ iv = .int .i64 i ∧ i ≤ m ∧ Hid (Walked T Q i) ∧ w' = wc) (fun _ iv _ => m - (intOf iv).toNat)
            case atStart => exact ⟨_, 0, rfl, rfl, by omega, Lib.hid (show sb _ = _ by rw [List.take_zero]; decide +kernel), rfl⟩
            case round =>
              obtain ⟨T, i, rfl, rfl, him, HT, rfl⟩ := hrel
              have htk : ∀ q ∈ Q.take i, q ∈ dkinds := fun q hq => HFM.out q (List.mem_of_mem_take hq)
              have hts : T.size ≤ 30 := by
                have h1 := slashed_len _ htk
                have h2 := HT.out
                rw [← length_sb, h2]
                rw [List.length_take] at h1
                simp [httpI]; omega
              clear htk
              by_cases hlt : i < m
              · have hc := HCELL.out i hlt
                have hix : i < Q.length := by rw [HM.out]; exact hlt
                have hqm : Q.getD i [] ∈ dkinds := HFM.out _ (by rw [List.getD_eq_getElem?_getD, List.getElem?_eq_getElem hix]; exact List.getElem_mem hix)
                have hqs : (strOfNums (Q.getD i [])).size ≤ 2 := by rw [strOfNums_size]; exact (dkind_mem hqm).1
                have hnx : Walked (T ++ (⟨#[47]⟩ ++ strOfNums (Q.getD i []))) Q (i + 1) := by
                  have hB : Byt (Q.getD i []) := fun y hy => by have := (dkind_mem hqm).2 y hy; omega
                  have h2 : sb T = _ := HT.out
                  have e1 : Q.take (i + 1) = Q.take i ++ [Q.getD i []] := by rw [List.take_succ_eq_append_getElem hix, List.getD_eq_getElem?_getD, List.getElem?_eq_getElem hix]; rfl
                  unfold Walked
                  rw [sb_append, sb_append, h2, sb_str hB, e1, slashed_app]
                  show _ ++ (47 :: Q.getD i []) = _ ++ (_ ++ (_ ++ (_ ++ ((47 :: Q.getD i []) ++ []))))
                  simp
                have HNX := Lib.hid hnx
                have hiI : (i : Int) < m := by omega
                clear hqm hix hnx HT
                generalize strOfNums (Q.getD i []) = P at *
                have n1 : ¬ (9223372036854775807 < 1 + P.size) := by omega
                have n2 : ¬ (9223372036854775807 < T.size + (1 + P.size)) := by omega
                go_wp2
                go_roundw
                case rel => exact ⟨_, i + 1, rfl, by go_num, by omega, HNX, trivial⟩
                case measure => simp [intOf]; omega
              · obtain rfl : i = m := by omega
                have htt : T = strOfNums (printI ⟨httpI, [104], 0, slashed Q, []⟩) := by
                  rw [← str_sb T]
                  have h2 : sb T = _ := HT.out
                  rw [h2, List.take_of_length_le (by rw [HM.out]; exact Nat.le_refl _), printI_parts]
                  simp [portT]
                have hF := parseI_fine (byt_sb S) HPAR.out
                have p1 : ∀ (w' : World) (R' : Blks), Own W w' R' → _ := fun w' R' h => uparse_c HVV.out h S (by omega)
                rw [HPAR.out] at p1
                have p2 : ∀ (w' : World) (R' : Blks), Own W w' R' → _ := fun w' R' h => uprint_c HVV.out h _ hF
                rw [← htt] at p2
                have P1 := Lib.hid p1; have P2 := Lib.hid p2
                clear htt hF p1 p2 HT HCELL HPAR
                go_wp2_with fail
                with_reducible refine (P1.out _ _ HO2.out).mono ?_
                rintro e w4 ⟨rfl, hO4⟩
                have HO4 := Lib.hid hO4; clear hO4 HO2 P1
                simp only [Option.getD_some, Option.isSome_some]
                generalize UL.mk httpI [104] 0 (slashed Q) [] = U at *
                obtain ⟨u1, u2, u3, u4, u5⟩ := U
                go_wp2_with (first | (refine wl_alloc rfl _ rfl HO4.out _ (alloc_url _) ?_; intro g11 w5 hO5; have HO5 := Lib.hid hO5; clear hO5 HO4) | (refine wl_store rfl _ _ _ rfl HO5.out 0 g11 0 _ (UL.mk u1 u2 u3 u4 u5).val _ rfl (by rfl) (by rfl) url_size (one_url _) (by simp [UL.val, UL.zero]) ?_; intro w6 hO6; have HO6 := Lib.hid (hO6.cast (L' := [(g11, .cells (UL.mk u1 u2 u3 u4 u5).val.toArray 25)]) rfl); clear hO6 HO5) | (refine wl_g (by rfl) ?_; refine wl_load rfl _ _ rfl g11 0 (UL.mk u1 u2 u3 u4 u5).val (UL.mk u1 u2 u3 u4 u5).val _ (HO6.out.heap (.head _)) (by rfl) _ Tryd.underlying25 rfl url_size (by rfl) ?_))
                with_reducible refine (P2.out _ _ HO6.out).mono ?_
                rintro e w7 ⟨rfl, hO7⟩
                have HO7 := Lib.hid hO7; clear hO7 HO6 P2
                go_wp2_with fail
                with_reducible refine (wakes7_c HVV.out HO7.out).mono ?_
                rintro e w8 ⟨rfl, hO8⟩
                have HO8 := Lib.hid hO8; clear hO8 HO7
                go_wp2
                go_ret
                exact HO8.out.yes rfl
set_option maxRecDepth 100000 in
theorem uRLDots_contract (H : Type) (enc : TypeId × Value → H) (W : World) (base : Nat) (args : Array Value) (ds gs : List (DataW H)) (before : List MemPlace)
    (hval : ∀ (j : Nat) t v, Tryd.f4.params[j]? = some t → args[j]? = some v → Value.okWide Tryd.prog W .any base t v)
    (hW : DataW.Whole enc Tryd.prog Tryd.f4.params.toList Rows.uRLDotsSpec.vars false W args.toList ds gs before) (hV0 : VarsOk W) :
    Calls Tryd.prog 4 args W fun e W' => ∃ v, e = .returned v ∧ Rows.uRLDotsSpec.post enc Tryd.prog Tryd.f4 false true false false W args v W' := by
  have hW' := hW
  obtain ⟨p, q, hA0, hV, rfl, hfz, hnd⟩ := hW
  have hA : DataW.TrodAll enc Tryd.prog W 0 (fun _ => true) true Tryd.f4.params.toList args.toList ds p := hA0
  rw [Tryd.params4] at hA hval
  obtain ⟨v0, vs0, d0, ds0, p0, q0, hargs, rfl, rfl, h0, r0⟩ := trodAll_cons hA
  obtain ⟨rfl, rfl, rfl⟩ := trodAll_nil r0
  obtain rfl : args = #[v0] := by cases args; simp_all
  obtain ⟨rfl, rfl⟩ := trodVars_none hV
  obtain ⟨b0, len0, cap0, rfl⟩ := okWide_slice Tryd.underlying39 (hval 0 39 v0 rfl rfl)
  have k0 := h0
  have lt0 : ∀ x ∈ p0, x.block < W.heap.size := by obtain ⟨m, hm⟩ := k0; exact DataW.trod_lt m _ _ _ hm
  obtain ⟨a0, w0⟩ : ∃ xs, InRow .i64 W (.slice b0 len0 cap0) xs := by
    obtain ⟨fuel, hf⟩ := h0
    rcases open_ints Tryd.underlying39 Tryd.underlying3 (by kernel_rfl) hf with ⟨hcs, _⟩ | ⟨x, l, c, zs, hcs, _, hl, hm, hz, hx, hcell, hwz⟩
    · simp [Value.cells] at hcs
      obtain ⟨rfl, rfl, rfl⟩ := hcs
      exact ⟨[], inRow_nil _ _⟩
    · simp [Value.cells] at hcs
      obtain ⟨rfl, rfl, rfl⟩ := hcs
      exact ⟨zs.take len0, inRow_mk hl hm (by simpa using hz) hcell hwz⟩
  clear hA0
  refine (uRLDots_walk hV0 _ a0 w0).mono fun e W' ⟨he, bel⟩ => ?_
  subst he
  exact ⟨_, rfl, _, _, _, [], _, [], hW', trodAll_mk1 (shut_bool Tryd.underlying4 _), (trodAll_cons_mk (Below.trod laidOut (by kernel_rfl) (of_decide_eq_true (by kernel_rfl)) k0 bel lt0) trodAll_mk0), rfl, bel.frame _, fun h => by cases h⟩

theorem uRLDots_met (os : Os) : laidMet Tryd.prog Rows.uRLDotsRow.laid ((laidWorld os).forCall (fun _ _ => 0) ⟨#[], #[.slice none 0 0], []⟩).memory :=
  laidMet_of_run' 8 (by kernel_rfl) (by kernel_rfl)
theorem uRLDots_reads (os : Os) {H : Type} (enc : TypeId × Value → H) : ∃ places, DataW.whole enc Tryd.prog ((laidWorld os).forCall (fun _ _ => 0) ⟨#[], #[.slice none 0 0], []⟩).memory Tryd.f4.params.toList Rows.uRLDotsSpec.vars false (#[.slice none 0 0] : Array Value).toList 8 = some ([.nil], [], places) :=
  ⟨[], by kernel_rfl⟩
set_option maxRecDepth 100000 in
theorem uRLDots_lifted (os : Os) (started : os.Started) (H : Type) (enc : TypeId × Value → H) (F : Stop.Interp) :
    ReturnsInHanded {} Tryd.checked os 4 .any ((OpenSpec.ofChange Rows.uRLDotsSpec).preRow enc Tryd.prog Tryd.f4 Rows.uRLDotsRow.domain false Rows.uRLDotsRow.laid) (((OpenSpec.ofChange Rows.uRLDotsSpec).at F).post enc Tryd.prog Tryd.f4 false true false false) := by
  obtain ⟨places, hx⟩ := uRLDots_reads os enc
  refine returnsInHanded_of_row (C := Tryd.checked) (s := OpenSpec.ofChange Rows.uRLDotsSpec) own_none started (by kernel_rfl) Tryd.func4
    (witness_row_at (enc := enc) (C := Tryd.checked) false (laidWorld os) #[.slice none 0 0] rfl (by kernel_rfl) (by kernel_rfl) (by kernel_rfl)
      (OpenSpec.preRow_of_cond 8 hx (by kernel_rfl) (fun k hk => by cases hk) (by kernel_rfl) (uRLDots_met os))) ?_
  intro W base args ds gs before hval hW _ _ _ hL hsh _
  exact uRLDots_contract H enc W base args ds gs before hval hW (vars_of hL hsh)
theorem uRLDots_said : Rows.URLDotsSaid :=
  OpenClaim.holds_of_cond 4 Tryd.f4 rfl rfl rfl rfl rfl rfl rfl ⟨rfl, rfl, rfl, rfl, rfl⟩ rfl rfl rfl rfl rfl (by kernel_rfl) Tryd.func4 (by kernel_rfl)
    (of_decide_eq_true (by kernel_rfl)) (by unfold Func.isWrapper; first | (rw [if_pos (by decide +kernel)]; kernel_rfl) | (rw [if_neg (by decide +kernel)]; exact ⟨rfl, rfl⟩))
    (fun os started H enc _ F => by rw [OpenClaim.pre_eq_preRow]; exact uRLDots_lifted os started H enc F)
theorem uRLDots_plain (f : FuncId) (fn : Func) (hf : Tryd.pinned.checked.prog.funcNamed "postilion/postilionlaw07.URLDots" = some f) (hfn : Tryd.pinned.checked.prog.funcs[f]? = some fn) :
    false = Tryd.pinned.checked.prog.looks [] ∧ ∀ (j : Nat) t, fn.params[j]? = some t → Tryd.pinned.checked.prog.wantsStandIn t = false := by
  obtain rfl : f = 4 := Option.some.inj ((show Tryd.prog.funcNamed "postilion/postilionlaw07.URLDots" = some 4 by kernel_rfl).symm.trans hf) |>.symm
  obtain rfl : fn = Tryd.f4 := (Option.some.inj (Tryd.func4.symm.trans hfn)).symm
  refine ⟨by kernel_rfl, fun j t ht => ?_⟩
  rw [Tryd.params4] at ht
  have hall : ∀ t ∈ ([39] : List TypeId), Tryd.prog.wantsStandIn t = false := List.forall_mem_cons.2 ⟨by kernel_rfl, fun _ h => by cases h⟩
  exact hall t (by simpa using Array.mem_of_getElem? ht)
/-- The statement: the card. -/
theorem uRLDots_proved : Rows.URLDotsCardSaid :=
  Claim7.holds_tied_plain_at .later [] _ _ _ _ uRLDots_said (fun _ h => by cases h) (by kernel_rfl) (fun _ h => by cases h) uRLDots_row_tie rfl ⟨rfl, rfl⟩ (by kernel_rfl) rfl uRLDots_plain (by kernel_rfl)
end Go.Proofs.YtakihnmajgmnpaaDoor

