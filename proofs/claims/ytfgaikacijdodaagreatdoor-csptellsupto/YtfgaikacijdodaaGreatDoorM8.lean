/-
  Texts that the laws stand on: UrlP3, UrlP4.
-/
import Derived.Test.YtfgaikacijdodaaGreatDoorM7
import Derived.Test.YtfgaikacijdodaaGreatDoorM3
import Derived.Test.YtfgaikacijdodaaGreatDoorM4
import Derived.Deep.CutBlock

/-
  Package url: a path (an inner function of the landed program).
-/
namespace Go.Proofs.YtfgaikacijdodaaGreatDoor
set_option linter.unusedVariables false
set_option linter.unusedSimpArgs false
set_option maxRecDepth 20000
open Go.RowKit

/-- The last place below n that holds c, or -1. -/
def lastF (c : Int) (xs : List Int) : Nat → Int
  | 0 => -1
  | n + 1 => if xs.getD n 0 = c then (n : Int) else lastF c xs n
def lastI (c : Int) (xs : List Int) : Int := lastF c xs xs.length
theorem lastF_no (c : Int) (xs : List Int) : ∀ (a n : Nat), a ≤ n → (∀ j, a ≤ j → j < n → xs.getD j 0 ≠ c) → lastF c xs n = lastF c xs a
  | a, 0, h, _ => by obtain rfl : a = 0 := by omega
                     rfl
  | a, n + 1, h, hno => by
    rcases (by omega : a = n + 1 ∨ a ≤ n) with rfl | ha
    · rfl
    · rw [lastF, if_neg (hno n ha (by omega)), lastF_no c xs a n ha (fun j h1 h2 => hno j h1 (by omega))]
theorem getD_app (a b : List Int) (k : Nat) : (a ++ b).getD (a.length + k) 0 = b.getD k 0 := by
  simp [List.getD_eq_getElem?_getD, List.getElem?_append_right]
theorem lastI_slashed (st : List (List Int)) (p : List Int) (hp : ∀ x ∈ p, x ≠ 47) : lastI 47 (slashed (st ++ [p])) = ((slashed st).length : Int) := by
  have e : slashed (st ++ [p]) = slashed st ++ (47 :: p) := by rw [slashed_app]; show _ ++ ((47 :: p) ++ []) = _; rw [List.append_nil]
  rw [e]
  unfold lastI
  rw [lastF_no 47 _ ((slashed st).length + 1) _ (by simp) (fun j h1 h2 => ?_)]
  · rw [lastF, if_pos (by simp)]
  · simp only [List.length_append, List.length_cons] at h2
    obtain ⟨k, hk⟩ : ∃ k, j = (slashed st).length + (k + 1) := ⟨j - (slashed st).length - 1, by omega⟩
    rw [hk, getD_app, List.getD_cons_succ]
    have hkl : k < p.length := by omega
    rw [List.getD_eq_getElem?_getD, List.getElem?_eq_getElem hkl]
    exact hp _ (List.getElem_mem hkl)
theorem take_slashed (st : List (List Int)) (p : List Int) : (slashed (st ++ [p])).take (slashed st).length = slashed st := by
  rw [slashed_app, List.take_left']
  rfl
theorem blast_c {w : World} {v : Value} {xs : List Int} (hb : Bs w v xs) (hx : xs.length ≤ 1073741824) (c : Int) :
    Calls Tryz.prog 74 #[v, .int .u8 c] w fun e w' => e = .returned (.int .i64 (lastI c xs)) ∧ w = w' := by
  obtain ⟨A, n, cp, rfl, hn, hc, hA⟩ := hb
  unfold lastI
  obtain ⟨o, ho⟩ : ∃ o, lastF c xs xs.length = o := ⟨_, rfl⟩
  rw [hn] at hx ho
  have HO := Lib.hid ho; have HN := Lib.hid hn; have HA := Lib.hid hA
  rw [hn, ho]
  clear ho hn hA
  go_enter Tryz.func74, Tryz.ntmps74
  go_wp2
  go_loopw [5] (fun t w' => ∃ m : Nat, m ≤ n ∧ t = .int .i64 ((m : Int) - 1) ∧ Hid (o = lastF c xs m) ∧ w' = w) (fun t _ => (intOf t + 1).toNat)
  case atStart => exact ⟨n, Nat.le_refl _, rfl, Lib.hid HO.out.symm, rfl⟩
  case round =>
    obtain ⟨m, hm, rfl, HE, rfl⟩ := hrel
    cases m with
    | zero =>
      have he : o = -1 := HE.out
      subst he
      go_wp2
      go_ret
      exact ⟨rfl, rfl⟩
    | succ k =>
      have he : o = if xs.getD k 0 = c then (k : Int) else lastF c xs k := HE.out
      obtain ⟨ad, rfl, hcell⟩ := HA.out (by omega)
      have hcl := hcell k (xs.getD k 0) (by rw [List.getD_eq_getElem?_getD, List.getElem?_eq_getElem (by rw [HN.out]; omega)]; rfl)
      have e1 : ((k + 1 : Nat) : Int) - 1 = k := by omega
      have hkn : (k : Int) < n := by omega
      rw [e1]
      have HE2 := Lib.hid he
      clear he HE hcell e1 HA
      generalize xs.getD k 0 = x at *
      by_cases hxc : x = c
      · have he := HE2.out
        rw [if_pos hxc] at he
        have t1 : (x == c) = true := beq_iff_eq.2 hxc
        have HE3 := Lib.hid he
        clear he hxc
        go_wp2
        go_ret
        exact ⟨by rw [HE3.out]; rfl, rfl⟩
      · have he := HE2.out
        rw [if_neg hxc] at he
        have t1 : (x == c) = false := beq_eq_false_iff_ne.2 hxc
        have HE3 := Lib.hid he
        clear he hxc
        go_wp2
        go_roundw
        case rel => exact ⟨k, by omega, by go_num, HE3, trivial⟩
        case measure => simp [intOf]
theorem last_c {w : World} {v : Value} {xs : List Int} (hb : Bs w v xs) (hx : xs.length ≤ 1073741824) (c : Int) :
    Calls Tryz.prog 64 #[v, .int .u8 c] w fun e w' => e = .returned (.int .i64 (lastI c xs)) ∧ w = w' := by
  have HC := Lib.hid (blast_c hb hx c)
  clear hb
  go_enter Tryz.func64, Tryz.ntmps64
  go_wp2_with fail
  with_reducible refine HC.out.mono ?_
  rintro e w1 ⟨rfl, rfl⟩
  go_wp2
  go_ret
  exact ⟨rfl, rfl⟩
/-- The first bytes, in the same blocks. -/
theorem bsl_upto {v : Value} {xs : List Int} {L : Blks} (h : IsBytes v xs L) (k : Nat) (i : Int) (hi : (k : Int) = i) (hk : k ≤ xs.length) :
    ∃ v', IsBytes v' (xs.take k) L ∧ ∀ W : World, (Instr.slice 67 v none (some (.int .i64 i)) none).run Tryz.prog W = .ok v' W := by
  subst hi
  rcases h.2 with ⟨rfl, h0, rfl⟩ | ⟨g, cap, sp, rfl, rfl, hl, hn, hm⟩
  · obtain rfl : k = 0 := by omega
    exact ⟨.slice none 0 0, isBytes_nil, fun W => by go_simp⟩
  · refine ⟨.slice (some ⟨g, 0, none⟩) k cap, ⟨by simp, .inr ⟨g, cap, (bv xs).drop k ++ sp, by simp [Nat.min_eq_left hk], ?_, ?_, by simp only [List.length_take]; omega, hm⟩⟩, fun W => ?_⟩
    · have e : bv (xs.take k) ++ ((bv xs).drop k ++ sp) = bv xs ++ sp := by
        rw [← List.append_assoc]; congr 1
        show List.map _ _ ++ _ = _
        rw [List.map_take]; exact List.take_append_drop k (bv xs)
      rw [e]
    · have e : bv (xs.take k) ++ ((bv xs).drop k ++ sp) = bv xs ++ sp := by
        rw [← List.append_assoc]; congr 1
        show List.map _ _ ++ _ = _
        rw [List.map_take]; exact List.take_append_drop k (bv xs)
      rw [e]; exact hl
    · have h4 : (k : Int) ≤ cap := by omega
      go_simp
/-- A part's step: the bytes that stand, in blocks of the call's own. -/
def PathState (w0 : World) (R : Blks) (st : List (List Int)) (v : Value) (w : World) : Prop := ∃ L, IsBytes v (slashed st) L ∧ Own w0 w (L ++ R)
def WalkFin (fin st : List (List Int)) (t : ByteArray) (b : Bool) : Prop := (b = true → fin = rawGo st (partsI (sb t))) ∧ (b = false → fin = st)
def WalkLen (st : List (List Int)) (t : ByteArray) (b : Bool) : Prop := t.size ≤ 80000000 ∧ (slashed st).length ≤ 80000001 ∧ (b = true → (slashed st).length + t.size + 1 ≤ 80000001)
def PartsOk (st : List (List Int)) : Prop := ∀ p ∈ st, Byt p ∧ ∀ x ∈ p, x ≠ 47
def leftW (s m : Value) : Nat := match m with
  | .bool true => strSize s + 1
  | _ => 0
theorem max_last {st : List (List Int)} (h : PartsOk st) : (lastI 47 (slashed st) = -1 ∧ st = []) ∨ lastI 47 (slashed st) = ((slashed st.dropLast).length : Int) := by
  rcases List.eq_nil_or_concat st with rfl | ⟨a, p, rfl⟩
  · exact .inl ⟨rfl, rfl⟩
  · right
    rw [List.concat_eq_append, lastI_slashed a p (h p (by simp)).2, List.dropLast_concat]
theorem take_last (st : List (List Int)) : (slashed st).take (slashed st.dropLast).length = slashed st.dropLast := by
  rcases List.eq_nil_or_concat st with rfl | ⟨a, p, rfl⟩
  · rfl
  · rw [List.concat_eq_append, List.dropLast_concat, take_slashed]
theorem raw_dots (st : List (List Int)) (p : List Int) (h : p = [46, 46]) : rawStep st p false = st.dropLast ∧ rawStep st p true = st.dropLast ++ [[]] := by subst h; exact ⟨rfl, rfl⟩
theorem raw_dot (st : List (List Int)) (p : List Int) (h : p = [46]) : rawStep st p false = st ∧ rawStep st p true = st ++ [[]] := by subst h; exact ⟨rfl, rfl⟩
theorem raw_else (st : List (List Int)) (p : List Int) (l : Bool) (h1 : p ≠ [46]) (h2 : p ≠ [46, 46]) : rawStep st p l = st ++ [p] := by unfold rawStep; rw [if_neg (by rintro (e | e); exact h1 e; exact h2 e)]
theorem slashed_snoc (st : List (List Int)) (p : List Int) : slashed (st ++ [p]) = slashed st ++ [47] ++ p := by
  rw [slashed_app, List.append_assoc]; show _ ++ ((47 :: p) ++ []) = _; rw [List.append_nil]; rfl
theorem rawStep_len (st : List (List Int)) (p : List Int) (last : Bool) : (slashed (rawStep st p last)).length ≤ (slashed st).length + p.length + 1 := by
  have hp := slashed_len_pop st
  by_cases h2 : p = [46, 46]
  · have h := raw_dots st p h2
    cases last
    · rw [h.1]; omega
    · rw [h.2, slashed_snoc]; simp; omega
  · by_cases h1 : p = [46]
    · have h := raw_dot st p h1
      cases last
      · rw [h.1]; omega
      · rw [h.2, slashed_snoc]; simp
    · rw [raw_else st p last h1 h2, slashed_snoc]; simp; omega
theorem rawStep_ok {st : List (List Int)} {p : List Int} (last : Bool) (h : PartsOk st) (hp : Byt p ∧ ∀ x ∈ p, x ≠ 47) : PartsOk (rawStep st p last) := by
  have hd : PartsOk st.dropLast := fun q hq => h q (List.dropLast_subset _ hq)
  have hs : ∀ {a : List (List Int)} {r : List Int}, PartsOk a → (Byt r ∧ ∀ x ∈ r, x ≠ 47) → PartsOk (a ++ [r]) := by
    intro a r ha hr q hq
    rcases List.mem_append.1 hq with hq | hq
    · exact ha q hq
    · rw [List.mem_singleton.1 hq]; exact hr
  have hn : Byt ([] : List Int) ∧ ∀ x ∈ ([] : List Int), x ≠ 47 := ⟨fun x hx => (by cases hx), fun x hx => (by cases hx)⟩
  by_cases h2 : p = [46, 46]
  · have e := raw_dots st p h2
    cases last
    · rw [e.1]; exact hd
    · rw [e.2]; exact hs hd hn
  · by_cases h1 : p = [46]
    · have e := raw_dot st p h1
      cases last
      · rw [e.1]; exact h
      · rw [e.2]; exact hs h hn
    · rw [raw_else st p last h1 h2]; exact hs h hp
/-- What one round does: the part p, what stands behind it, whether there is more. -/
theorem walk_next {fin st : List (List Int)} {t : ByteArray} (hF : WalkFin fin st t true) (hZ : WalkLen st t true) (hP : PartsOk st) {p q : List Int} (hp : ahead [47] (sb t) = p) (hq : behind [47] (sb t) = q) (m : Bool) (hm : decide (q ≠ []) = m) :
    WalkFin fin (rawStep st p !m) (strOfNums (q.drop 1)) m ∧ WalkLen (rawStep st p !m) (strOfNums (q.drop 1)) m ∧ PartsOk (rawStep st p !m) ∧ leftW (.string (strOfNums (q.drop 1))) (.bool m) < leftW (.string t) (.bool true) := by
  have hf := hF.1 rfl
  have hB : Byt (q.drop 1) := by rw [← hq]; exact byt_drop (behind_byt (byt_sb t)) 1
  have hpo : Byt p ∧ ∀ x ∈ p, x ≠ 47 := by
    rw [← hp]
    refine ⟨ahead_byt (byt_sb t), fun x hx e => ?_⟩
    have := ahead_no [47] (sb t) x hx
    rw [e] at this; simp at this
  have hl := congrArg List.length (ahead_behind [47] (sb t))
  rw [List.length_append, length_sb, hp, hq] at hl
  have hlen := rawStep_len st p (!m)
  obtain ⟨z1, z2, z3⟩ := hZ
  have z3 := z3 rfl
  refine ⟨?_, ?_, rawStep_ok _ hP hpo, ?_⟩
  · cases m with
    | false =>
      have hq0 : q = [] := by simpa using hm
      rw [partsI_end (by rw [hq]; exact hq0), hp] at hf
      exact ⟨fun h => (by cases h), fun _ => hf⟩
    | true =>
      have hq0 : q ≠ [] := by simpa using hm
      obtain ⟨c, r, rfl⟩ := List.exists_cons_of_ne_nil hq0
      rw [partsI_more hq, hp, rawGo_cons _ _ (partsI_ne r)] at hf
      refine ⟨fun _ => ?_, fun h => (by cases h)⟩
      rw [sb_str hB]
      exact hf
  · refine ⟨by rw [strOfNums_size, List.length_drop]; omega, by omega, fun h => ?_⟩
    subst h
    have hq0 : q ≠ [] := by simpa using hm
    have := List.length_pos_iff.2 hq0
    rw [strOfNums_size, List.length_drop]; omega
  · cases m with
    | false => show 0 < t.size + 1; omega
    | true =>
      have hq0 : q ≠ [] := by simpa using hm
      have := List.length_pos_iff.2 hq0
      show (strOfNums (q.drop 1)).size + 1 < t.size + 1
      rw [strOfNums_size, List.length_drop]; omega
set_option maxHeartbeats 4000000 in
theorem walk_c {w0 w : World} {R : Blks} (hV : VarsOk w0) (hO : Own w0 w R) (s : ByteArray) (hs : s.size ≤ 80000000) :
    Calls Tryz.prog 44 #[.string s] w fun e w' => e = .returned (.string (strOfNums (walkI (sb s)))) ∧ Own w0 w' R := by
  have HO := Lib.hid hO; have HV := Lib.hid hV
  unfold walkI
  obtain ⟨fin, hfin⟩ : ∃ fin, rawGo [] (partsI (sb s)) = fin := ⟨_, rfl⟩
  have HFIN := Lib.hid hfin
  rw [hfin]
  clear hO hV hfin
  go_enter Tryz.func44, Tryz.ntmps44
  go_wp2
  go_loopw [0, 3, 4] (fun sv v mv w' => ∃ (st : List (List Int)) (t : ByteArray) (b : Bool), sv = .string t ∧ mv = .bool b ∧ Hid (WalkFin fin st t b) ∧ Hid (WalkLen st t b) ∧ Hid (PartsOk st) ∧ Hid (PathState w0 R st v w')) (fun sv _ mv _ => leftW sv mv)
  case atStart => exact ⟨[], s, true, rfl, rfl, Lib.hid ⟨fun _ => HFIN.out.symm, fun h => by cases h⟩, Lib.hid ⟨hs, by simp [slashed], fun _ => by simp [slashed]; omega⟩, Lib.hid (fun p hp => by cases hp), Lib.hid ⟨[], isBytes_nil, HO.out⟩⟩
  case round =>
    obtain ⟨st, t, b, rfl, rfl, HF, HZ, HP, HS⟩ := hrel
    clear HO HFIN
    cases b with
    | false =>
      have hf : fin = st := HF.out.2 rfl
      obtain ⟨L, hv, hO2⟩ := HS.out
      have hcv := convert_str (hv.bs hO2)
      have HO2 := Lib.hid hO2
      have HEQ := Lib.hid hf
      clear hf hO2 hv HF HS
      go_wp2
      go_ret
      exact ⟨by rw [HEQ.out]; rfl, (HO2.out).right⟩
    | true =>
      obtain ⟨L, hv, hO2⟩ := HS.out
      obtain ⟨p, hp⟩ : ∃ p, ahead [47] (sb t) = p := ⟨_, rfl⟩
      obtain ⟨q, hq⟩ : ∃ q, behind [47] (sb t) = q := ⟨_, rfl⟩
      have hcall := lcut_c HV.out hO2 t (by have := HZ.out.1; omega) 47 47 rfl
      rw [hp, hq] at hcall
      obtain ⟨m, hm⟩ : ∃ m, decide (q ≠ []) = m := ⟨_, rfl⟩
      rw [hm] at hcall
      have hnext := walk_next HF.out HZ.out HP.out hp hq m hm
      have hpB : Byt p := by rw [← hp]; exact ahead_byt (byt_sb t)
      have hpl : p.length ≤ 80000000 := by have := congrArg List.length (ahead_behind [47] (sb t)); rw [List.length_append, length_sb, hp] at this; have := HZ.out.1; omega
      have b1 : ((strOfNums p).toList == [46]) = decide (p = [46]) := by rw [beq_lit, sb_str hpB]; rfl
      have b2 : ((strOfNums p).toList == [46, 46]) = decide (p = [46, 46]) := by rw [beq_lit, sb_str hpB]; rfl
      have hsp : sb (strOfNums p) = p := sb_str hpB
      have hps : (strOfNums p).size = p.length := strOfNums_size p
      have hml := max_last HP.out
      have htl := take_last st
      have hzl := HZ.out.2.1
      have hpop := slashed_len_pop st
      have HC := Lib.hid hcall; have HN := Lib.hid hnext; have HVV := Lib.hid hv; have HML := Lib.hid hml; have HTL := Lib.hid htl; have HSP := Lib.hid hsp; have HPS := Lib.hid hps; have HPL := Lib.hid hpl
      clear hcall hnext hml htl hp hq hm HF HS hpB hsp hps hpl
      generalize strOfNums (q.drop 1) = Q at *
      by_cases h2 : p = [46, 46]
      · have hst := raw_dots st p h2
        rw [decide_eq_true h2] at b2
        rw [decide_eq_false (by rw [h2]; decide)] at b1
        have HST := Lib.hid hst
        clear h2 hst
        generalize strOfNums p = x at *
        go_wp2_with fail
        with_reducible refine HC.out.mono ?_
        rintro e w1 ⟨rfl, hO1⟩
        have hcl := last_c (w := w1) (HVV.out.bs hO1) (by omega) 47
        have HO1 := Lib.hid hO1; have HCL := Lib.hid hcl
        clear hO1 hcl HC hO2 hv
        go_wp2_with fail
        with_reducible refine HCL.out.mono ?_
        rintro e w2 ⟨rfl, rfl⟩
        simp only []
        rcases HML.out with ⟨hl, hst0⟩ | hl
        · rw [hl]
          obtain ⟨v', hX', hrun⟩ := bsl_upto HVV.out 0 (max 0 (-1)) (by decide) (Nat.zero_le _)
          obtain ⟨X, hXe⟩ : ∃ X, (slashed st).take 0 = X := ⟨_, rfl⟩
          rw [hXe] at hX'
          have hX := hX'
          have hXE : X = slashed st.dropLast := by rw [← hXe, hst0]; rfl
          have hxl : X.length ≤ 80000001 := by rw [hXE]; omega
          have HXE := Lib.hid hXE
          have HRUN := Lib.hid hrun
          clear hl hX' hXe hXE hst0
          clear hrun
          have hrun := HRUN.out
          have HX := Lib.hid hX
          clear hX
          cases m with
          | true =>
            go_wp2
            go_roundw
            case rel => exact ⟨_, Q, _, rfl, rfl, Lib.hid HN.out.1, Lib.hid HN.out.2.1, Lib.hid HN.out.2.2.1, Lib.hid ⟨L, HX.out.cast (by rw [HXE.out]; exact congrArg slashed HST.out.1.symm), HO1.out⟩⟩
            case measure => exact HN.out.2.2.2
          | false =>
            go_wp2_with (first | (refine wl_appendB rfl _ _ rfl _ X (by rfl) HX.out (HO1.out.put2 _) (.slice (some ⟨_, 0, none⟩) 1 1) [47] (by rfl) (bs_new HO1.out _ _ rfl (by omega)) (by simp only [List.length_cons, List.length_nil]; omega) ?_; intro v5 w5 L5 hv5 hO5; have HV5 := Lib.hid hv5; have HO5 := Lib.hid hO5.strike; clear hv5 hO5 HX HO1) | (refine wl_appendS rfl _ _ rfl _ _ (by rfl) HV5.out HO5.out ⟨#[]⟩ (by rfl) (by simp only [List.length_append, List.length_cons, List.length_nil]; show _ + 0 ≤ _; omega) ?_; intro v6 w6 L6 hv6 hO6; have HV6 := Lib.hid hv6; have HO6 := Lib.hid hO6; clear hv6 hO6 HV5 HO5))
            go_roundw
            case rel => exact ⟨_, Q, _, rfl, rfl, Lib.hid HN.out.1, Lib.hid HN.out.2.1, Lib.hid HN.out.2.2.1, Lib.hid ⟨L6, HV6.out.cast (by rw [HXE.out]; show _ = slashed (rawStep st p true); rw [HST.out.2, slashed_snoc]; rfl), HO6.out⟩⟩
            case measure => exact HN.out.2.2.2
        · rw [hl]
          obtain ⟨v', hX', hrun⟩ := bsl_upto HVV.out (slashed st.dropLast).length _ rfl hpop
          obtain ⟨X, hXe⟩ : ∃ X, (slashed st).take (slashed st.dropLast).length = X := ⟨_, rfl⟩
          rw [hXe] at hX'
          have hX := hX'
          have hXE : X = slashed st.dropLast := by rw [← hXe]; exact HTL.out
          have hxl : X.length ≤ 80000001 := by rw [hXE]; omega
          have HXE := Lib.hid hXE
          clear hl hX' hXe hXE HTL HML
          generalize (slashed st.dropLast).length = k at *
          have HX := Lib.hid hX
          clear hX
          cases m with
          | true =>
            go_wp2
            go_roundw
            case rel => exact ⟨_, Q, _, rfl, rfl, Lib.hid HN.out.1, Lib.hid HN.out.2.1, Lib.hid HN.out.2.2.1, Lib.hid ⟨L, HX.out.cast (by rw [HXE.out]; exact congrArg slashed HST.out.1.symm), HO1.out⟩⟩
            case measure => exact HN.out.2.2.2
          | false =>
            go_wp2_with (first | (refine wl_appendB rfl _ _ rfl _ X (by rfl) HX.out (HO1.out.put2 _) (.slice (some ⟨_, 0, none⟩) 1 1) [47] (by rfl) (bs_new HO1.out _ _ rfl (by omega)) (by simp only [List.length_cons, List.length_nil]; omega) ?_; intro v5 w5 L5 hv5 hO5; have HV5 := Lib.hid hv5; have HO5 := Lib.hid hO5.strike; clear hv5 hO5 HX HO1) | (refine wl_appendS rfl _ _ rfl _ _ (by rfl) HV5.out HO5.out ⟨#[]⟩ (by rfl) (by simp only [List.length_append, List.length_cons, List.length_nil]; show _ + 0 ≤ _; omega) ?_; intro v6 w6 L6 hv6 hO6; have HV6 := Lib.hid hv6; have HO6 := Lib.hid hO6; clear hv6 hO6 HV5 HO5))
            go_roundw
            case rel => exact ⟨_, Q, _, rfl, rfl, Lib.hid HN.out.1, Lib.hid HN.out.2.1, Lib.hid HN.out.2.2.1, Lib.hid ⟨L6, HV6.out.cast (by rw [HXE.out]; show _ = slashed (rawStep st p true); rw [HST.out.2, slashed_snoc]; rfl), HO6.out⟩⟩
            case measure => exact HN.out.2.2.2
      · rw [decide_eq_false h2] at b2
        obtain ⟨X, hXe⟩ : ∃ X, slashed st = X := ⟨_, rfl⟩
        have hX := HVV.out
        rw [hXe] at hX
        have hxl : X.length ≤ 80000001 := by rw [← hXe]; exact hzl
        have HXE := Lib.hid hXe.symm
        by_cases h1 : p = [46]
        · have hst := raw_dot st p h1
          rw [decide_eq_true h1] at b1
          have HST := Lib.hid hst
          clear h1 h2 hst hXe
          generalize strOfNums p = x at *
          go_wp2_with fail
          with_reducible refine HC.out.mono ?_
          rintro e w1 ⟨rfl, hO1⟩
          have HO1 := Lib.hid hO1
          clear hO1 HC hO2 hv HVV
          simp only []
          have HX := Lib.hid hX
          clear hX
          cases m with
          | true =>
            go_wp2
            go_roundw
            case rel => exact ⟨_, Q, _, rfl, rfl, Lib.hid HN.out.1, Lib.hid HN.out.2.1, Lib.hid HN.out.2.2.1, Lib.hid ⟨L, HX.out.cast (by rw [HXE.out]; exact congrArg slashed HST.out.1.symm), HO1.out⟩⟩
            case measure => exact HN.out.2.2.2
          | false =>
            go_wp2_with (first | (refine wl_appendB rfl _ _ rfl _ X (by rfl) HX.out (HO1.out.put2 _) (.slice (some ⟨_, 0, none⟩) 1 1) [47] (by rfl) (bs_new HO1.out _ _ rfl (by omega)) (by simp only [List.length_cons, List.length_nil]; omega) ?_; intro v5 w5 L5 hv5 hO5; have HV5 := Lib.hid hv5; have HO5 := Lib.hid hO5.strike; clear hv5 hO5 HX HO1) | (refine wl_appendS rfl _ _ rfl _ _ (by rfl) HV5.out HO5.out ⟨#[]⟩ (by rfl) (by simp only [List.length_append, List.length_cons, List.length_nil]; show _ + 0 ≤ _; omega) ?_; intro v6 w6 L6 hv6 hO6; have HV6 := Lib.hid hv6; have HO6 := Lib.hid hO6; clear hv6 hO6 HV5 HO5))
            go_roundw
            case rel => exact ⟨_, Q, _, rfl, rfl, Lib.hid HN.out.1, Lib.hid HN.out.2.1, Lib.hid HN.out.2.2.1, Lib.hid ⟨L6, HV6.out.cast (by rw [HXE.out]; show _ = slashed (rawStep st p true); rw [HST.out.2, slashed_snoc]; rfl), HO6.out⟩⟩
            case measure => exact HN.out.2.2.2
        · have hst := fun l => raw_else st p l h1 h2
          rw [decide_eq_false h1] at b1
          have HST := Lib.hid hst
          clear h1 h2 hst hXe
          generalize strOfNums p = x at *
          go_wp2_with fail
          with_reducible refine HC.out.mono ?_
          rintro e w1 ⟨rfl, hO1⟩
          have HO1 := Lib.hid hO1
          clear hO1 HC hO2 hv HVV
          simp only []
          have HX := Lib.hid hX
          clear hX
          go_wp2_with (first | (refine wl_appendB rfl _ _ rfl _ X (by rfl) HX.out (HO1.out.put2 _) (.slice (some ⟨_, 0, none⟩) 1 1) [47] (by rfl) (bs_new HO1.out _ _ rfl (by omega)) (by simp only [List.length_cons, List.length_nil]; omega) ?_; intro v5 w5 L5 hv5 hO5; have HV5 := Lib.hid hv5; have HO5 := Lib.hid hO5.strike; clear hv5 hO5 HX HO1) | (refine wl_appendS rfl _ _ rfl _ _ (by rfl) HV5.out HO5.out x (by rfl) (by have h1 := HPS.out; have h2 := HPL.out; simp only [List.length_append, List.length_cons, List.length_nil]; omega) ?_; intro v6 w6 L6 hv6 hO6; have HV6 := Lib.hid hv6; have HO6 := Lib.hid hO6; clear hv6 hO6 HV5 HO5))
          go_roundw
          case rel => exact ⟨_, Q, _, rfl, rfl, Lib.hid HN.out.1, Lib.hid HN.out.2.1, Lib.hid HN.out.2.2.1, Lib.hid ⟨L6, HV6.out.cast (by rw [HXE.out, HSP.out, HST.out, slashed_snoc]), HO6.out⟩⟩
          case measure => exact HN.out.2.2.2
end Go.Proofs.YtfgaikacijdodaaGreatDoor
/-
  Package url: read (an inner function of the landed program): Parse of what is trimmed already.
-/
namespace Go.Proofs.YtfgaikacijdodaaGreatDoor
set_option linter.unusedVariables false
set_option linter.unusedSimpArgs false
set_option maxRecDepth 20000
open Go.RowKit

theorem rawGo_len : ∀ (ps st : List (List Int)), (slashed (rawGo st ps)).length ≤ (slashed st).length + (slashed ps).length
  | [], st => Nat.le_add_right _ _
  | [p], st => by
    have := rawStep_len st p true
    have h2 := slashed_cons p []
    show (slashed (rawStep st p true)).length ≤ _
    omega
  | p :: q :: r, st => by
    have h1 := rawStep_len st p false
    have h2 := slashed_cons p (q :: r)
    have h3 := rawGo_len (q :: r) (rawStep st p false)
    show (slashed (rawGo (rawStep st p false) (q :: r))).length ≤ _
    omega
theorem walkI_len (l : List Int) : (walkI l).length ≤ l.length + 1 := by
  have h1 := rawGo_len (partsI l) []
  have h2 := partsI_len l
  unfold walkI
  simp [slashed] at h1 h2 ⊢
  omega
theorem rawGo_ok : ∀ (ps st : List (List Int)), PartsOk st → PartsOk ps → PartsOk (rawGo st ps)
  | [], st, h, _ => h
  | [p], st, h, hp => rawStep_ok true h (hp p (.head _))
  | p :: q :: r, st, h, hp => rawGo_ok (q :: r) _ (rawStep_ok false h (hp p (.head _))) (fun x hx => hp x (.tail _ hx))
theorem walkI_byt {l : List Int} (h : Byt l) : Byt (walkI l) := by
  have hk : PartsOk (rawGo [] (partsI l)) := rawGo_ok _ _ (fun p hp => by cases hp) (fun p hp => ⟨parts_byt l h p hp, parts_noslash l p hp⟩)
  intro x hx
  unfold walkI slashed at hx
  rw [List.mem_flatMap] at hx
  obtain ⟨p, hp, hx⟩ := hx
  rcases List.mem_cons.1 hx with rfl | hx
  · omega
  · exact (hk p hp).1 x hx
theorem cut3_byt {l : List Int} (h : Byt l) : Byt (cut3 l).1 ∧ Byt (cut3 l).2 := ⟨fun x hx => h x ((cut3_mem l).1 x hx), fun x hx => h x ((cut3_mem l).2.1 x hx)⟩
theorem schI_is {s sch : List Int} (h : schI s = some sch) : sch = httpI ∨ sch = httpsI := by
  unfold schI at h
  split at h
  · cases h; exact .inl rfl
  · split at h
    · cases h; exact .inr rfl
    · cases h
/-- What read reads, its parts by name. -/
theorem readI_parts (l : List Int) {A1 A2 at_ : List Int} (h1 : ahead [35] l = A1) (h2 : ahead [63] A1 = A2) (h3 : ahead [47] (cut3 A2).2 = at_) :
    readI l = (schI (cut3 A2).1).bind fun sch => if HostOk (lowL (ahead [58] at_)) then
      (prtI' at_).bind fun n => some ⟨sch, lowL (ahead [58] at_), if n = ownI sch then 0 else n, pctE (walkI ((behind [47] (cut3 A2).2).drop 1)), if (behind [63] A1).drop 1 = [] then [] else 63 :: pctE ((behind [63] A1).drop 1)⟩
    else none := by
  subst h1 h2 h3; rfl
def PortS (w0 : World) (R : Blks) (g2 : Nat) (sch host at_ : List Int) (w : World) : Prop := ∃ n : Int, prtI' at_ = some n ∧ 0 ≤ n ∧ n < 100000 ∧ Own w0 w ((g2, .cells (UL.mk sch host n [] []).val.toArray 24) :: R)
def OwnS (w0 : World) (R : Blks) (g2 : Nat) (sch host : List Int) (p : Int) (w : World) : Prop := Own w0 w ((g2, .cells (UL.mk sch host p [] []).val.toArray 24) :: R)
set_option maxRecDepth 100000 in
set_option maxHeartbeats 16000000 in
theorem read_c {w0 w : World} {R : Blks} (hV : VarsOk w0) (hO : Own w0 w R) (s : ByteArray) (hs : s.size ≤ 5000000) :
    Calls Tryz.prog 15 #[.string s] w (GotU w0 R (readI (sb s))) := by
  have HO := Lib.hid hO; have HV := Lib.hid hV
  have hB0 : Byt (sb s) := byt_sb s
  have hl0 : (sb s).length ≤ 5000000 := by rw [length_sb]; exact hs
  have c1 : ∀ (w' : World) (R' : Blks), Own w0 w' R' → _ := fun w' R' h => lcut_c HV.out h s (by omega) 35 35 rfl
  obtain ⟨A1, hA1⟩ : ∃ A1, ahead [35] (sb s) = A1 := ⟨_, rfl⟩
  have hB1 : Byt A1 := by rw [← hA1]; exact ahead_byt hB0
  have hl1 : A1.length ≤ 5000000 := by rw [← hA1]; exact Nat.le_trans (ahead_len _ _) hl0
  rw [hA1] at c1
  have c2 : ∀ (w' : World) (R' : Blks), Own w0 w' R' → _ := fun w' R' h => lcut_c HV.out h (strOfNums A1) (by rw [strOfNums_size]; omega) 63 63 rfl
  rw [sb_str hB1] at c2
  obtain ⟨A2, hA2⟩ : ∃ A2, ahead [63] A1 = A2 := ⟨_, rfl⟩
  have hB2 : Byt A2 := by rw [← hA2]; exact ahead_byt hB1
  have hl2 : A2.length ≤ 5000000 := by rw [← hA2]; exact Nat.le_trans (ahead_len _ _) hl1
  rw [hA2] at c2
  have c3 : ∀ (w' : World) (R' : Blks), Own w0 w' R' → _ := fun w' R' h => lcut3_c HV.out h (strOfNums A2) (by rw [strOfNums_size]; omega)
  rw [sb_str hB2] at c3
  have hBc := cut3_byt hB2
  have hlc := (cut3_mem A2).2.2
  have c4 : ∀ (w' : World) (R' : Blks), Own w0 w' R' → _ := fun w' R' h => lcut_c HV.out h (strOfNums (cut3 A2).2) (by rw [strOfNums_size]; omega) 47 47 rfl
  rw [sb_str hBc.2] at c4
  obtain ⟨at_, hA4⟩ : ∃ at_, ahead [47] (cut3 A2).2 = at_ := ⟨_, rfl⟩
  have hB4 : Byt at_ := by rw [← hA4]; exact ahead_byt hBc.2
  have hl4 : at_.length ≤ 5000000 := by rw [← hA4]; exact Nat.le_trans (ahead_len _ _) (by omega)
  rw [hA4] at c4
  have c5 : ∀ (w' : World) (R' : Blks), Own w0 w' R' → _ := fun w' R' h => lcut_c HV.out h (strOfNums at_) (by rw [strOfNums_size]; omega) 58 58 rfl
  rw [sb_str hB4] at c5
  have hres := readI_parts (sb s) hA1 hA2 hA4
  obtain ⟨res, hr⟩ : ∃ res, readI (sb s) = res := ⟨_, rfl⟩
  rw [hr] at hres ⊢
  have hprt : prtI' at_ = if behind [58] at_ = [] then some 0 else prtI ((behind [58] at_).drop 1) := rfl
  -- names for the parts
  have hBp : Byt ((behind [47] (cut3 A2).2).drop 1) := byt_drop (behind_byt hBc.2) 1
  have hlp : ((behind [47] (cut3 A2).2).drop 1).length ≤ 5000000 := by rw [List.length_drop]; have := behind_len [47] (cut3 A2).2; omega
  have hBq : Byt ((behind [63] A1).drop 1) := byt_drop (behind_byt hB1) 1
  have hlq : ((behind [63] A1).drop 1).length ≤ 5000000 := by rw [List.length_drop]; have := behind_len [63] A1; omega
  have hBh : Byt (ahead [58] at_) := ahead_byt hB4
  have hlh : (ahead [58] at_).length ≤ 5000000 := Nat.le_trans (ahead_len _ _) hl4
  have hBn : Byt ((behind [58] at_).drop 1) := byt_drop (behind_byt hB4) 1
  have hBs := hBc.1
  have hls : (cut3 A2).1.length ≤ 5000000 := by omega
  obtain ⟨b3, hb3⟩ : ∃ b, (Lib.cut (strOfNums A2).data.toList [58, 47, 47]).2.2 = b := ⟨_, rfl⟩
  rw [hb3] at c3
  obtain ⟨b2, hb2⟩ : ∃ b, decide (behind [63] A1 ≠ []) = b := ⟨_, rfl⟩
  rw [hb2] at c2
  obtain ⟨b4, hb4⟩ : ∃ b, decide (behind [47] (cut3 A2).2 ≠ []) = b := ⟨_, rfl⟩
  rw [hb4] at c4
  obtain ⟨prt, hpt⟩ : ∃ p, (behind [58] at_).drop 1 = p := ⟨_, rfl⟩
  rw [hpt] at c5 hprt hBn
  obtain ⟨b5, hb5⟩ : ∃ b, decide (behind [58] at_ ≠ []) = b := ⟨_, rfl⟩
  rw [hb5] at c5
  have HB5 := Lib.hid hb5
  clear hb3 hb2 hb4 hb5 hpt hA1 hA2 hA4 hr hBc hlc hB0 hl0 hB1 hl1 hB2 hl2
  generalize (cut3 A2).1 = sc at *
  generalize (behind [47] (cut3 A2).2).drop 1 = pth at *
  generalize (cut3 A2).2 = rs at *
  generalize (behind [63] A1).drop 1 = q at *
  generalize ahead [58] at_ = ho at *
  have C1 := Lib.hid c1; have C2 := Lib.hid c2; have C3 := Lib.hid c3; have C4 := Lib.hid c4; have C5 := Lib.hid c5; have HRES := Lib.hid hres; have HPRT := Lib.hid hprt
  have hcs : ∀ (w' : World) (R' : Blks), Own w0 w' R' → _ := fun w' R' h => readScheme_c h (strOfNums sc) (by rw [strOfNums_size]; omega)
  rw [sb_str hBs] at hcs
  have hlw : ∀ (w' : World) (R' : Blks), Own w0 w' R' → _ := fun w' R' h => lower_c h (strOfNums ho) (by rw [strOfNums_size]; omega)
  rw [sb_str hBh] at hlw
  have hBl : Byt (lowL ho) := lowL_byt hBh
  have hih : ∀ (w' : World) (R' : Blks), Own w0 w' R' → _ := fun w' R' h => isHost_c HV.out h (strOfNums (lowL ho)) (by rw [strOfNums_size, lowL, List.length_map]; omega)
  rw [sb_str hBl] at hih
  have hrp : ∀ (w' : World) (R' : Blks), Own w0 w' R' → Calls Tryz.prog 41 #[.string (strOfNums prt)] w' fun e w'' => e = .returned (.tuple #[.int .i64 ((figI prt 1 5).getD 0), .bool (prtI prt).isSome]) ∧ Own w0 w'' R' := fun w' R' h => (readPort_c (w := w') (strOfNums prt)).mono fun e w'' ⟨he, hw⟩ => ⟨by rw [he, sb_str hBn], hw ▸ h⟩
  have hwk : ∀ (w' : World) (R' : Blks), Own w0 w' R' → _ := fun w' R' h => walk_c HV.out h (strOfNums pth) (by rw [strOfNums_size]; omega)
  rw [sb_str hBp] at hwk
  have hBw : Byt (walkI pth) := walkI_byt hBp
  have hlwk := walkI_len pth
  have hen : ∀ (w' : World) (R' : Blks), Own w0 w' R' → _ := fun w' R' h => encode_c h (strOfNums (walkI pth)) (by rw [strOfNums_size]; omega)
  rw [sb_str hBw] at hen
  have heq : ∀ (w' : World) (R' : Blks), Own w0 w' R' → _ := fun w' R' h => encode_c h (strOfNums q) (by rw [strOfNums_size]; omega)
  rw [sb_str hBq] at heq
  have hq0 : ((strOfNums q).toList == []) = decide (q = []) := by rw [beq_lit, sb_str hBq]; rfl
  have hqs : (strOfNums (pctE q)).size ≤ 60000000 := by rw [strOfNums_size]; have := pctE_len q; omega
  have CS := Lib.hid hcs; have CL := Lib.hid hlw; have CH := Lib.hid hih; have CP := Lib.hid hrp; have CW := Lib.hid hwk; have CE := Lib.hid hen; have CQ := Lib.hid heq; have HQ0 := Lib.hid hq0; have HQS := Lib.hid hqs
  generalize hho : lowL ho = host at *
  obtain ⟨hok, hhk⟩ : ∃ b, decide (HostOk host) = b := ⟨_, rfl⟩
  rw [hhk] at CH
  have HHK := Lib.hid hhk
  clear hO hV c1 c2 c3 c4 c5 hres hprt hcs hlw hBl hih hrp hwk hBw hlwk hen heq hq0 hqs hhk hho hBp hlp hBq hlq hBh hlh hBn hBs hls hB4 hl4
  generalize strOfNums A1 = S1 at *
  generalize strOfNums A2 = S2 at *
  generalize strOfNums rs = S4 at *
  generalize strOfNums at_ = S5 at *
  generalize strOfNums sc = SC at *
  generalize strOfNums ho = SH at *
  generalize strOfNums pth = SP at *
  generalize strOfNums q = SQ at *
  generalize strOfNums prt = SN at *
  go_enter Tryz.func15, Tryz.ntmps15
  go_wp2_with (refine wl_alloc rfl _ rfl HO.out _ (alloc_url _) ?_; intro g2 w1 hO1; have HO1 := Lib.hid hO1; clear hO1 HO)
  with_reducible refine (C1.out _ _ HO1.out).mono ?_
  rintro e w2 ⟨rfl, hO⟩
  have HO2 := Lib.hid hO
  clear hO HO1 C1
  go_wp2_with fail
  with_reducible refine (C2.out _ _ HO2.out).mono ?_
  rintro e w3 ⟨rfl, hO⟩
  have HO3 := Lib.hid hO
  clear hO HO2 C2
  go_wp2_with fail
  with_reducible refine (C3.out _ _ HO3.out).mono ?_
  rintro e w4 ⟨rfl, hO⟩
  have HO4 := Lib.hid hO
  clear hO HO3 C3
  go_wp2_with fail
  with_reducible refine (C4.out _ _ HO4.out).mono ?_
  rintro e w5 ⟨rfl, hO⟩
  have HO5 := Lib.hid hO
  clear hO HO4 C4
  go_wp2_with fail
  with_reducible refine (C5.out _ _ HO5.out).mono ?_
  rintro e w6 ⟨rfl, hO⟩
  have HO6 := Lib.hid hO
  clear hO HO5 C5
  go_wp2_with fail
  with_reducible refine (CS.out _ _ HO6.out).mono ?_
  rintro e w7 ⟨rfl, hO⟩
  have HO7 := Lib.hid hO
  clear hO HO6 CS
  cases hsc : schI sc with
  | none =>
    have hno : res = none := by rw [HRES.out, hsc]; rfl
    subst hno
    clear hsc
    simp only [Option.getD_none, Option.isSome_none]
    go_wp2_with (first | (refine wl_store1 rfl _ _ _ rfl HO7.out 0 g2 0 _ (.string (strOfNums [])) _ rfl (by rfl) (by rfl) (by rfl) (by kernel_rfl) (by rfl) (by decide) ?_; intro w8 hO; have HO8 := Lib.hid (hO.cast (L' := (g2, .cells UL.zero.val.toArray 24) :: R) rfl); clear hO HO7) | (refine wl_store rfl _ _ _ rfl HO8.out 0 g2 0 _ UL.zero.val _ rfl (by rfl) (by rfl) url_size (one_url _) (by decide) ?_; intro w9 hO; have HOZ := Lib.hid (hO.cast (L' := (g2, .cells UL.zero.val.toArray 24) :: R) rfl); clear hO HO8))
    have hr0 : w9.cell? ⟨g2, 0, none⟩ = some (Value.string ⟨#[]⟩) := by rw [HOZ.out.cell (.head _)]; rfl
    have hr1 : w9.cell? ⟨g2, 1, none⟩ = some (Value.string ⟨#[]⟩) := by rw [HOZ.out.cell (.head _)]; rfl
    have hr2 : w9.cell? ⟨g2, 2, none⟩ = some (Value.int .i64 0) := by rw [HOZ.out.cell (.head _)]; rfl
    have hr3 : w9.cell? ⟨g2, 3, none⟩ = some (Value.string ⟨#[]⟩) := by rw [HOZ.out.cell (.head _)]; rfl
    have hr4 : w9.cell? ⟨g2, 4, none⟩ = some (Value.string ⟨#[]⟩) := by rw [HOZ.out.cell (.head _)]; rfl
    exact bodyPost_ret (v := .tuple #[.agg #[.string ⟨#[]⟩, .string ⟨#[]⟩, .int .i64 0, .string ⟨#[]⟩, .string ⟨#[]⟩], .bool false]) (by simp [results, Tryz.results15, go_sem, hr0, hr1, hr2, hr3, hr4]) rfl ⟨rfl, HOZ.out.tail⟩
  | some sch =>
    have hsi := schI_is hsc
    have hres2 : res = if HostOk host then (prtI' at_).bind fun n => some ⟨sch, host, if n = ownI sch then 0 else n, pctE (walkI pth), if q = [] then [] else 63 :: pctE q⟩ else none := by rw [HRES.out, hsc]; rfl
    have HSI := Lib.hid hsi; have HRES2 := Lib.hid hres2
    clear hsc hsi hres2 HRES
    simp only [Option.getD_some, Option.isSome_some]
    go_wp2_with (refine wl_store1 rfl _ _ _ rfl HO7.out 0 g2 0 _ (.string (strOfNums sch)) _ rfl (by rfl) (by rfl) (by rfl) (by kernel_rfl) (by rfl) (by decide) ?_; intro w8 hO; have HO8 := Lib.hid (hO.cast (L' := (g2, .cells (UL.mk sch [] 0 [] []).val.toArray 24) :: R) rfl); clear hO HO7)
    with_reducible refine (CL.out _ _ HO8.out).mono ?_
    rintro e w9 ⟨rfl, hO⟩
    have HO9 := Lib.hid hO
    clear hO HO8 CL
    go_wp2_with (first | (refine wl_store1 rfl _ _ _ rfl HO9.out 0 g2 1 _ (.string (strOfNums host)) _ rfl (by rfl) (by rfl) (by rfl) (by kernel_rfl) (by rfl) (by simp [UL.val]) ?_; intro w10 hO; have HO10 := Lib.hid (hO.cast (L' := (g2, .cells (UL.mk sch host 0 [] []).val.toArray 24) :: R) rfl); have k1 : w10.cell? ⟨g2, 1, none⟩ = some (.string (strOfNums host)) := (by rw [HO10.out.cell (.head _)]; rfl); clear hO HO9))
    with_reducible refine (CH.out _ _ HO10.out).mono ?_
    rintro e w11 ⟨rfl, hO⟩
    have HO11 := Lib.hid hO
    clear hO HO10 CH k1
    cases hok with
    | false =>
      have hno : res = none := by rw [HRES2.out, if_neg (of_decide_eq_false HHK.out)]
      subst hno
      go_wp2_with (refine wl_store rfl _ _ _ rfl HO11.out 0 g2 0 _ UL.zero.val _ rfl (by rfl) (by rfl) url_size (one_url _) (by simp [UL.val, UL.zero]) ?_; intro w12 hO; have HOZ := Lib.hid (hO.cast (L' := (g2, .cells UL.zero.val.toArray 24) :: R) rfl); clear hO HO11)
      have hr0 : w12.cell? ⟨g2, 0, none⟩ = some (Value.string ⟨#[]⟩) := by rw [HOZ.out.cell (.head _)]; rfl
      have hr1 : w12.cell? ⟨g2, 1, none⟩ = some (Value.string ⟨#[]⟩) := by rw [HOZ.out.cell (.head _)]; rfl
      have hr2 : w12.cell? ⟨g2, 2, none⟩ = some (Value.int .i64 0) := by rw [HOZ.out.cell (.head _)]; rfl
      have hr3 : w12.cell? ⟨g2, 3, none⟩ = some (Value.string ⟨#[]⟩) := by rw [HOZ.out.cell (.head _)]; rfl
      have hr4 : w12.cell? ⟨g2, 4, none⟩ = some (Value.string ⟨#[]⟩) := by rw [HOZ.out.cell (.head _)]; rfl
      exact bodyPost_ret (v := .tuple #[.agg #[.string ⟨#[]⟩, .string ⟨#[]⟩, .int .i64 0, .string ⟨#[]⟩, .string ⟨#[]⟩], .bool false]) (by simp [results, Tryz.results15, go_sem, hr0, hr1, hr2, hr3, hr4]) rfl ⟨rfl, HOZ.out.tail⟩

    | true =>
      have hres3 : res = (prtI' at_).bind fun n => some ⟨sch, host, if n = ownI sch then 0 else n, pctE (walkI pth), if q = [] then [] else 63 :: pctE q⟩ := by rw [HRES2.out, if_pos (of_decide_eq_true HHK.out)]
      have HRES4 := Lib.hid hres3
      clear hres3 HRES2 HHK
      go_upto_if 62 with fail
      go_cut [3] (fun v wx => PortS w0 R g2 sch host at_ wx)
      case first =>
        cases b5 with
        | false =>
          have hbe : behind [58] at_ = [] := by have := of_decide_eq_false HB5.out; simpa using this
          have hpz : prtI' at_ = some 0 := by rw [HPRT.out, if_pos hbe]
          have HPZ := Lib.hid hpz
          clear hpz hbe
          go_wp2
          go_meet
          exact ⟨0, HPZ.out, by omega, by omega, HO11.out⟩
        | true =>
          have hpz : prtI' at_ = prtI prt := by rw [HPRT.out, if_neg (of_decide_eq_true HB5.out)]
          have HPZ := Lib.hid hpz
          clear hpz HPRT HB5
          go_wp2_with fail
          with_reducible refine (CP.out _ _ HO11.out).mono ?_
          rintro e w12 ⟨rfl, hO⟩
          have HO12 := Lib.hid hO
          clear hO HO11 CP
          cases hfg : figI prt 1 5 with
          | none =>
            have hpn : prtI prt = none := by unfold prtI; rw [hfg]; rfl
            have hno : res = none := by rw [HRES4.out, HPZ.out, hpn]; rfl
            subst hno
            rw [hpn]
            clear hpn hfg
            simp only [Option.getD_none, Option.isSome_none]
            go_wp2_with (first | (refine wl_store1 rfl _ _ _ rfl HO12.out 0 g2 2 _ (.int .i64 0) _ rfl (by rfl) (by rfl) (by rfl) (by kernel_rfl) (by rfl) (by simp [UL.val]) ?_; intro w13 hO; have HO13 := Lib.hid (hO.cast (L' := (g2, .cells (UL.mk sch host 0 [] []).val.toArray 24) :: R) rfl); clear hO HO12) | (refine wl_store rfl _ _ _ rfl HO13.out 0 g2 0 _ UL.zero.val _ rfl (by rfl) (by rfl) url_size (one_url _) (by simp [UL.val, UL.zero]) ?_; intro w14 hO; have HOZ := Lib.hid (hO.cast (L' := (g2, .cells UL.zero.val.toArray 24) :: R) rfl); clear hO HO13))
            have hr0 : w14.cell? ⟨g2, 0, none⟩ = some (Value.string ⟨#[]⟩) := by rw [HOZ.out.cell (.head _)]; rfl
            have hr1 : w14.cell? ⟨g2, 1, none⟩ = some (Value.string ⟨#[]⟩) := by rw [HOZ.out.cell (.head _)]; rfl
            have hr2 : w14.cell? ⟨g2, 2, none⟩ = some (Value.int .i64 0) := by rw [HOZ.out.cell (.head _)]; rfl
            have hr3 : w14.cell? ⟨g2, 3, none⟩ = some (Value.string ⟨#[]⟩) := by rw [HOZ.out.cell (.head _)]; rfl
            have hr4 : w14.cell? ⟨g2, 4, none⟩ = some (Value.string ⟨#[]⟩) := by rw [HOZ.out.cell (.head _)]; rfl
            exact bodyPost_ret (v := .tuple #[.agg #[.string ⟨#[]⟩, .string ⟨#[]⟩, .int .i64 0, .string ⟨#[]⟩, .string ⟨#[]⟩], .bool false]) (by simp [results, Tryz.results15, go_sem, hr0, hr1, hr2, hr3, hr4]) rfl ⟨rfl, HOZ.out.tail⟩
          | some n =>
            have hnr := figI_range hfg
            have hn0 := hnr.1; have hn1 := hnr.2
            by_cases hbig : 65535 < n
            · have hpn : prtI prt = none := by unfold prtI; rw [hfg]; simp [hbig]
              have hno : res = none := by rw [HRES4.out, HPZ.out, hpn]; rfl
              subst hno
              rw [hpn]
              clear hpn hfg hbig hnr
              simp only [Option.getD_some, Option.isSome_none]
              go_wp2_with (first | (refine wl_store1 rfl _ _ _ rfl HO12.out 0 g2 2 _ (.int .i64 n) _ rfl (by rfl) (by rfl) (by rfl) (by kernel_rfl) (by rfl) (by simp [UL.val]) ?_; intro w13 hO; have HO13 := Lib.hid (hO.cast (L' := (g2, .cells (UL.mk sch host n [] []).val.toArray 24) :: R) rfl); clear hO HO12) | (refine wl_store rfl _ _ _ rfl HO13.out 0 g2 0 _ UL.zero.val _ rfl (by rfl) (by rfl) url_size (one_url _) (by simp [UL.val, UL.zero]) ?_; intro w14 hO; have HOZ := Lib.hid (hO.cast (L' := (g2, .cells UL.zero.val.toArray 24) :: R) rfl); clear hO HO13))
              have hr0 : w14.cell? ⟨g2, 0, none⟩ = some (Value.string ⟨#[]⟩) := by rw [HOZ.out.cell (.head _)]; rfl
              have hr1 : w14.cell? ⟨g2, 1, none⟩ = some (Value.string ⟨#[]⟩) := by rw [HOZ.out.cell (.head _)]; rfl
              have hr2 : w14.cell? ⟨g2, 2, none⟩ = some (Value.int .i64 0) := by rw [HOZ.out.cell (.head _)]; rfl
              have hr3 : w14.cell? ⟨g2, 3, none⟩ = some (Value.string ⟨#[]⟩) := by rw [HOZ.out.cell (.head _)]; rfl
              have hr4 : w14.cell? ⟨g2, 4, none⟩ = some (Value.string ⟨#[]⟩) := by rw [HOZ.out.cell (.head _)]; rfl
              exact bodyPost_ret (v := .tuple #[.agg #[.string ⟨#[]⟩, .string ⟨#[]⟩, .int .i64 0, .string ⟨#[]⟩, .string ⟨#[]⟩], .bool false]) (by simp [results, Tryz.results15, go_sem, hr0, hr1, hr2, hr3, hr4]) rfl ⟨rfl, HOZ.out.tail⟩
            · have hpn : prtI prt = some n := by unfold prtI; rw [hfg]; simp [hbig]
              have HPN := Lib.hid (HPZ.out.trans hpn)
              rw [hpn]
              clear hpn hfg hbig hnr
              simp only [Option.getD_some, Option.isSome_some]
              go_wp2_with (refine wl_store1 rfl _ _ _ rfl HO12.out 0 g2 2 _ (.int .i64 n) _ rfl (by rfl) (by rfl) (by rfl) (by kernel_rfl) (by rfl) (by simp [UL.val]) ?_; intro w13 hO; have HO13 := Lib.hid (hO.cast (L' := (g2, .cells (UL.mk sch host n [] []).val.toArray 24) :: R) rfl); clear hO HO12)
              go_meet
              exact ⟨n, HPN.out, hn0, hn1, HO13.out⟩
      case rest =>
        obtain ⟨n, hpn, hn0, hn1, hO⟩ := hcut
        have HO14 := Lib.hid hO
        have hres5 : res = some ⟨sch, host, if n = ownI sch then 0 else n, pctE (walkI pth), if q = [] then [] else 63 :: pctE q⟩ := by rw [HRES4.out, hpn]; rfl
        have HRES5 := Lib.hid hres5
        clear hO hpn hres5 HRES4 HO11 CP HPRT HB5
        have how : ∀ w' : World, _ := fun w' => ownPort_c (w := w') (strOfNums sch)
        rw [sb_str (by rcases HSI.out with e | e <;> rw [e]; exact http_byt; exact https_byt)] at how
        have HOW := Lib.hid how
        clear how
        obtain ⟨own, hown⟩ : ∃ k, ownI sch = k := ⟨_, rfl⟩
        rw [hown] at HOW HRES5
        clear hown
        go_upto_region 16 with fail
        refine wp_region_lin (fun w' => w'.heap[g2]? = some (.cells (UL.mk sch host n [] []).val.toArray 24)) 6 [(0, true), (2, true), (1, true), (3, true), (4, false), (5, true)] (by kernel_rfl) (by kernel_rfl) (fun _ _ d _ _ h => by cases d <;> exact h) (HO14.out.drew.heap (.head _)) ?_
        simp only [List.map_cons, List.map_nil, pick_zero, pick_succ, List.drop_succ_cons, List.drop_zero]
        iterate 4 (refine lin_q ?_ rfl ?_ ?_; rotate_left 1; (focus (rintro w' hw; have k0 : w'.cell? ⟨g2, 0, none⟩ = some (.string (strOfNums sch)) := (by rw [cell_of_row w' g2 0 _ _ (0, 0) hw]; rfl); have k2 : w'.cell? ⟨g2, 2, none⟩ = some (.int .i64 n) := (by rw [cell_of_row w' g2 2 _ _ (0, 0) hw]; rfl); clear hw; go_simp; first | done | with_reducible rfl | (trace_state; fail))); simp only [Act.put, List.setIfInBounds_toArray, List.set_cons_zero, List.set_cons_succ])
        refine lin_act ?_
        refine wl_call rfl _ _ _ (by go_simp) (HOW.out _) ?_
        rintro e w15 ⟨rfl, rfl⟩
        refine ⟨_, rfl, LinPost.mk (HO14.out.drew.heap (.head _)) ?_⟩
        have HO15 := Lib.hid HO14.out.drew
        clear HO14 HOW
        generalize wc.drew = w15 at *
        simp only [Act.put, List.setIfInBounds_toArray, List.set_cons_zero, List.set_cons_succ]
        iterate 1 (refine lin_q ?_ rfl ?_ ?_; rotate_left 1; (focus (rintro w' -; go_simp; first | done | with_reducible rfl | (trace_state; fail))); simp only [Act.put, List.setIfInBounds_toArray, List.set_cons_zero, List.set_cons_succ])
        refine lin_nil ?_
        obtain ⟨bo, hbo⟩ : ∃ b, (n == own) = b := ⟨_, rfl⟩
        rw [hbo]
        have HBO := Lib.hid hbo
        clear hbo
        go_upto_if 77 with fail
        go_cut [3] (fun v wx => OwnS w0 R g2 sch host (if n = own then 0 else n) wx)
        case first =>
          cases bo with
          | true =>
            have hif := Lib.hid (if_pos (beq_iff_eq.1 HBO.out) : (if n = own then (0 : Int) else n) = 0)
            go_wp2_with (refine wl_store1 rfl _ _ _ rfl HO15.out 0 g2 2 _ (.int .i64 0) _ rfl (by rfl) (by rfl) (by rfl) (by kernel_rfl) (by rfl) (by simp [UL.val]) ?_; intro w16 hO; have HO16 := Lib.hid (hO.cast (L' := (g2, .cells (UL.mk sch host 0 [] []).val.toArray 24) :: R) rfl); clear hO HO15)
            go_meet
            show OwnS _ _ _ _ _ _ _
            rw [hif.out]
            exact HO16.out
          | false =>
            have hif := Lib.hid (if_neg (beq_eq_false_iff_ne.1 HBO.out) : (if n = own then (0 : Int) else n) = n)
            go_wp2
            go_meet
            show OwnS _ _ _ _ _ _ _
            rw [hif.out]
            exact HO15.out
        case rest =>
          have HO17 := Lib.hid (show Own w0 wc (_ :: R) from hcut)
          clear hcut HO15 HBO
          generalize (if n = own then 0 else n) = pt at *
          generalize pctE (walkI pth) = pp at *
          generalize strOfNums (walkI pth) = SW at *
          go_wp2_with fail
          with_reducible refine (CW.out _ _ HO17.out).mono ?_
          rintro e w18 ⟨rfl, hO⟩
          have HO18 := Lib.hid hO
          clear hO HO17 CW
          go_wp2_with fail
          with_reducible refine (CE.out _ _ HO18.out).mono ?_
          rintro e w19 ⟨rfl, hO⟩
          have HO19 := Lib.hid hO
          clear hO HO18 CE
          by_cases hqn : q = []
          · have hq1 : (SQ.toList == []) = true := by rw [HQ0.out]; exact decide_eq_true hqn
            have hre : res = some ⟨sch, host, pt, pp, []⟩ := by rw [HRES5.out, if_pos hqn]
            have HRES3 := Lib.hid hre
            clear hqn hre HRES5 HQ0 CQ HQS
            go_upto_region 21 with (refine wl_store1 rfl _ _ _ rfl HO19.out 0 g2 3 _ (.string (strOfNums pp)) _ rfl (by rfl) (by rfl) (by rfl) (by kernel_rfl) (by rfl) (by simp [UL.val]) ?_; intro w20 hO; have HO20 := Lib.hid (hO.cast (L' := (g2, .cells (UL.mk sch host pt pp []).val.toArray 24) :: R) rfl); clear hO HO19)
            go_wp2_with (first | (refine wl_load rfl _ _ rfl g2 0 (UL.mk sch host pt pp []).val (UL.mk sch host pt pp []).val _ (HO20.out.heap (.head _)) (by rfl) _ Tryz.underlying24 rfl url_size (by rfl) ?_) | (refine wl_store rfl _ _ _ rfl HO20.out 0 g2 0 _ (UL.mk sch host pt pp []).val _ rfl (by rfl) (by rfl) url_size (one_url _) (by simp [UL.val]) ?_; intro w21 hO; have HOZ := Lib.hid (hO.cast (L' := (g2, .cells (UL.mk sch host pt pp []).val.toArray 24) :: R) rfl); clear hO HO20))
            have hr0 : w21.cell? ⟨g2, 0, none⟩ = some (Value.string (strOfNums sch)) := by rw [HOZ.out.cell (.head _)]; rfl
            have hr1 : w21.cell? ⟨g2, 1, none⟩ = some (Value.string (strOfNums host)) := by rw [HOZ.out.cell (.head _)]; rfl
            have hr2 : w21.cell? ⟨g2, 2, none⟩ = some (Value.int .i64 pt) := by rw [HOZ.out.cell (.head _)]; rfl
            have hr3 : w21.cell? ⟨g2, 3, none⟩ = some (Value.string (strOfNums pp)) := by rw [HOZ.out.cell (.head _)]; rfl
            have hr4 : w21.cell? ⟨g2, 4, none⟩ = some (Value.string (strOfNums [])) := by rw [HOZ.out.cell (.head _)]; rfl
            exact bodyPost_ret (v := .tuple #[.agg #[Value.string (strOfNums sch), Value.string (strOfNums host), Value.int .i64 pt, Value.string (strOfNums pp), Value.string (strOfNums [])], .bool true]) (by simp [results, Tryz.results15, go_sem, hr0, hr1, hr2, hr3, hr4]) rfl ⟨by rw [HRES3.out]; rfl, HOZ.out.tail⟩

          · have hq1 : (SQ.toList == []) = false := by rw [HQ0.out]; exact decide_eq_false hqn
            have hre : res = some ⟨sch, host, pt, pp, 63 :: pctE q⟩ := by rw [HRES5.out, if_neg hqn]
            have hcat : (⟨#[63]⟩ : ByteArray) ++ strOfNums (pctE q) = strOfNums (63 :: pctE q) := by rw [show (63 : Int) :: pctE q = [63] ++ pctE q from rfl, strs_app]; rfl
            have hadd : ¬ (9223372036854775807 < 1 + (strOfNums (pctE q)).size) := by have := HQS.out; omega
            have HRES3 := Lib.hid hre; have HCAT := Lib.hid hcat
            clear hqn hre HRES5 HQ0 HQS hcat
            generalize 63 :: pctE q = qq at *
            generalize strOfNums (pctE q) = PQ at *
            go_wp2_with (refine wl_store1 rfl _ _ _ rfl HO19.out 0 g2 3 _ (.string (strOfNums pp)) _ rfl (by rfl) (by rfl) (by rfl) (by kernel_rfl) (by rfl) (by simp [UL.val]) ?_; intro w20 hO; have HO20 := Lib.hid (hO.cast (L' := (g2, .cells (UL.mk sch host pt pp []).val.toArray 24) :: R) rfl); clear hO HO19)
            with_reducible refine (CQ.out _ _ HO20.out).mono ?_
            rintro e w22 ⟨rfl, hO⟩
            have HO22 := Lib.hid hO
            clear hO HO20 CQ
            go_upto_region 21 with (refine wl_store1 rfl _ _ _ rfl HO22.out 0 g2 4 _ (.string (⟨#[63]⟩ ++ PQ)) _ rfl (by rfl) (by rfl) (by rfl) (by kernel_rfl) (by rfl) (by simp [UL.val]) ?_; intro w23 hO; have HO23 := Lib.hid (hO.cast (L' := (g2, .cells (UL.mk sch host pt pp qq).val.toArray 24) :: R) (by rw [HCAT.out]; rfl)); clear hO HO22)
            clear hadd
            go_wp2_with (first | (refine wl_load rfl _ _ rfl g2 0 (UL.mk sch host pt pp qq).val (UL.mk sch host pt pp qq).val _ (HO23.out.heap (.head _)) (by rfl) _ Tryz.underlying24 rfl url_size (by rfl) ?_) | (refine wl_store rfl _ _ _ rfl HO23.out 0 g2 0 _ (UL.mk sch host pt pp qq).val _ rfl (by rfl) (by rfl) url_size (one_url _) (by simp [UL.val]) ?_; intro w24 hO; have HOZ := Lib.hid (hO.cast (L' := (g2, .cells (UL.mk sch host pt pp qq).val.toArray 24) :: R) rfl); clear hO HO23))
            have hr0 : w24.cell? ⟨g2, 0, none⟩ = some (Value.string (strOfNums sch)) := by rw [HOZ.out.cell (.head _)]; rfl
            have hr1 : w24.cell? ⟨g2, 1, none⟩ = some (Value.string (strOfNums host)) := by rw [HOZ.out.cell (.head _)]; rfl
            have hr2 : w24.cell? ⟨g2, 2, none⟩ = some (Value.int .i64 pt) := by rw [HOZ.out.cell (.head _)]; rfl
            have hr3 : w24.cell? ⟨g2, 3, none⟩ = some (Value.string (strOfNums pp)) := by rw [HOZ.out.cell (.head _)]; rfl
            have hr4 : w24.cell? ⟨g2, 4, none⟩ = some (Value.string (strOfNums qq)) := by rw [HOZ.out.cell (.head _)]; rfl
            exact bodyPost_ret (v := .tuple #[.agg #[Value.string (strOfNums sch), Value.string (strOfNums host), Value.int .i64 pt, Value.string (strOfNums pp), Value.string (strOfNums qq)], .bool true]) (by simp [results, Tryz.results15, go_sem, hr0, hr1, hr2, hr3, hr4]) rfl ⟨by rw [HRES3.out]; rfl, HOZ.out.tail⟩
end Go.Proofs.YtfgaikacijdodaaGreatDoor
