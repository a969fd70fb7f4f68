/-
  The walk of CspHosts: a host with a star is any longer host that ends so; without one it is that host alone.
-/
import Derived.Test.YtfgaikacijdodaaDoorM11
import Derived.Test.YtfgaikacijdodaaDoorM1
import Derived.Deep.DeepCutAuto
import Derived.Deep.CutBlock
namespace Go.Proofs.YtfgaikacijdodaaDoor
set_option linter.unusedVariables false
set_option linter.unusedSimpArgs false
set_option maxRecDepth 20000
open Go.RowKit

theorem one_url7 (a b : ByteArray) (k : Int) (c d : ByteArray) : ∀ v ∈ [Value.string a, Value.string b, Value.int .i64 k, Value.string c, Value.string d], v.oneCell' = true := by
  intro v hv
  simp only [List.mem_cons, List.not_mem_nil, or_false] at hv
  rcases hv with rfl | rfl | rfl | rfl | rfl <;> rfl
theorem add_zero11 (a : Addr) : a.add 0 = a := by
  unfold Addr.add
  split <;> simp_all
theorem part_len (j : Nat) : (partI j).length ≤ 2 := by
  unfold partI
  split
  · decide
  · split <;> decide
theorem part_at {j : Nat} (h : j < 3) : ([Value.string ⟨#[97]⟩, Value.string ⟨#[98]⟩, Value.string ⟨#[99, 100]⟩].toArray)[j]? = some (Value.string (strOfNums (partI j))) := by
  match j, h with
  | 0, _ => rfl
  | 1, _ => rfl
  | 2, _ => rfl
theorem host_len : ∀ ks : List Nat, (hostI' ks).length ≤ 3 * ks.length
  | [] => by simp [hostI']
  | [k] => by have := part_len k; simp [hostI']; omega
  | k :: l :: r => by
    have h1 := part_len k
    have h2 := host_len (l :: r)
    simp only [hostI', List.length_append, List.length_cons] at h2 ⊢
    omega
theorem host_snoc : ∀ (ks : List Nat) (j : Nat), ks ≠ [] → hostI' (ks ++ [j]) = hostI' ks ++ (46 :: partI j)
  | [], j, h => absurd rfl h
  | [k], j, _ => rfl
  | k :: l :: r, j, _ => by
    have h2 := host_snoc (l :: r) j (by simp)
    show partI k ++ (46 :: hostI' (l :: r ++ [j])) = partI k ++ (46 :: hostI' (l :: r)) ++ (46 :: partI j)
    rw [h2, List.append_assoc]
    rfl
theorem keys_mem : ∀ (ks : List Nat), 1 ≤ ks.length ∧ ks.length ≤ 3 → (∀ k ∈ ks, k < 3) → ks ∈ keys := by
  have h3 : ∀ k, k < 3 → k = 0 ∨ k = 1 ∨ k = 2 := fun k h => by omega
  intro ks hl hk
  match ks, hl, hk with
  | [], hl, _ => simp at hl
  | [a], _, hk => rcases h3 a (hk a (by simp)) with rfl | rfl | rfl <;> decide
  | [a, b], _, hk => rcases h3 a (hk a (by simp)) with rfl | rfl | rfl <;> rcases h3 b (hk b (by simp)) with rfl | rfl | rfl <;> decide
  | [a, b, c], _, hk => rcases h3 a (hk a (by simp)) with rfl | rfl | rfl <;> rcases h3 b (hk b (by simp)) with rfl | rfl | rfl <;> rcases h3 c (hk c (by simp)) with rfl | rfl | rfl <;> decide
  | a :: b :: c :: d :: r, hl, _ => simp at hl
theorem keys_host {ks : List Nat} (hl : 1 ≤ ks.length ∧ ks.length ≤ 3) (hk : ∀ k ∈ ks, k < 3) : hostI' ks ∈ hostsI := List.mem_map.2 ⟨ks, keys_mem ks hl hk, rfl⟩
theorem ulB_eq {a b : UL} (h : ulB a b = true) : a = b := by
  unfold ulB at h
  simp only [Bool.and_eq_true, decide_eq_true_iff] at h
  obtain ⟨h1, h2, h3, h4, h5⟩ := h
  cases a; cases b
  simp only at h1 h2 h3 h4 h5
  subst h1 h2 h3 h4 h5
  rfl
theorem parsesTo_eq {l : List Int} {u : UL} (h : parsesTo l u = true) : parseI l = some u := by
  unfold parsesTo at h
  split at h
  · rename_i v hv
    rw [hv, ulB_eq h]
  · cases h
theorem host_parse11 {h : List Int} (hh : h ∈ hostsI) : parseI (httpsM ++ (h ++ [47])) = some (hostU h) := parsesTo_eq (hosts_parse h hh)
theorem page_parse : parseI (sb ⟨#[104, 116, 116, 112, 115, 58, 47, 47, 120, 46, 121, 47]⟩) = some (hostU [120, 46, 121]) := parsesTo_eq (by decide +kernel)
theorem hosts_ok : ∀ h ∈ hostsI, HostOk h := by decide +kernel
theorem host_half {h : List Int} (hk : HostOk h) : (hostU h).Half := ⟨.inr rfl, hk, fun y hy => by have := hostOk_hb hk y hy; unfold HB at this; omega, Int.le_refl 0, by show (0 : Int) < 100000; decide, by show (1 : Nat) ≤ 1000000000; decide, by show (0 : Nat) ≤ 1000000000; decide⟩
theorem hosts_len : ∀ h ∈ hostsI, h.length ≤ 8 := by decide +kernel
theorem host_fine {h : List Int} (hh : h ∈ hostsI) : (hostU h).Half ∧ h.length ≤ 8 := ⟨host_half (hosts_ok h hh), hosts_len h hh⟩
theorem page_half11 : (hostU [120, 46, 121]).Half := host_half (by decide +kernel)
theorem pair_is {h b : List Int} (hh : h ∈ hostsI) (hb : b ∈ hostsI) : matchI b (hostU [120, 46, 121]) (hostU h) = decide (h = b) ∧ matchI ([42, 46] ++ b) (hostU [120, 46, 121]) (hostU h) = underI h b ∧ matchI (httpsM ++ ([42, 46] ++ (b ++ [58, 42]))) (hostU [120, 46, 121]) (hostU h) = underI h b := by
  have := hosts_pairs h hh b hb
  unfold pairOk at this
  simp only [Bool.and_eq_true, beq_iff_eq] at this
  exact this
theorem host_val (h : List Int) : (hostU h).val = [Value.string ⟨#[104, 116, 116, 112, 115]⟩, Value.string (strOfNums h), Value.int .i64 0, Value.string ⟨#[47]⟩, Value.string ⟨#[]⟩] := rfl
def MidH11 (W : World) (q : Bool) (L : Blks) (s : Value) (wx : World) : Prop := s = .bool q ∧ Own W wx L
set_option maxRecDepth 100000 in
set_option maxHeartbeats 16000000 in
theorem cspHosts_walk {W : World} (hV : VarsOk W) (v : Value) (xs : List Int) (hv : InRow .i64 W v xs) (v2 : Value) (ys : List Int) (hv2 : InRow .i64 W v2 ys) :
    Calls Tryd.prog 6 #[v, v2] W (Yes W) := by
  have HO := Lib.hid (Own.start W)
  have HVV := Lib.hid hV
  obtain ⟨A1, n1, c1, rfl, hn1, hc1, hm1, -, hA1⟩ := hv
  obtain ⟨A2, n2, c2, rfl, hn2, hc2, hm2, -, hA2⟩ := hv2
  have HA1 := Lib.hid hA1; have HN1 := Lib.hid hn1; have HA2 := Lib.hid hA2; have HN2 := Lib.hid hn2
  have hnm1 : n1 ≤ 9223372036854775807 := by unfold maxLen at hm1; omega
  have hnm2 : n2 ≤ 9223372036854775807 := by unfold maxLen at hm2; omega
  have hw1 := fun w : World => within_n (w := w) (n1 : Int) 3 (by omega) (by omega)
  have hw2 := fun w : World => within_n (w := w) (n2 : Int) 3 (by omega) (by omega)
  have hl1 : ((n1 : Int) % 3).toNat ≤ 2 := by omega
  have hl2 : ((n2 : Int) % 3).toNat ≤ 2 := by omega
  generalize ((n1 : Int) % 3).toNat = m1 at *
  generalize ((n2 : Int) % 3).toNat = m2 at *
  have HM1 := Lib.hid hw1; have HM2 := Lib.hid hw2
  clear hV hw1 hw2 hA1 hA2 hn1 hn2 hm1 hm2 hc1 hc2
  go_enter Tryd.func6, Tryd.ntmps6
  go_wp2_with (refine wl_buildSlice rfl _ _ _ rfl HO.out (.cells [Value.string ⟨#[97]⟩, Value.string ⟨#[98]⟩, Value.string ⟨#[99, 100]⟩].toArray 9) (by kernel_rfl) ?_; intro g5 w1 hO; have HO1 := Lib.hid hO; clear hO HO)
  go_loopw [6, 8] (fun hv iv w' => ∃ (ks : List Nat) (i : Nat), hv = .string (strOfNums (hostI' ks)) ∧ iv = .int .i64 i ∧ Hid (ks.length = i ∧ ∀ k ∈ ks, k < 3) ∧ i ≤ m1 + 1 ∧ Hid (Own W w' ((g5, .cells [Value.string ⟨#[97]⟩, Value.string ⟨#[98]⟩, Value.string ⟨#[99, 100]⟩].toArray 9) :: []))) (fun _ iv _ => (m1 + 1) - (intOf iv).toNat)
  case atStart => exact ⟨[], 0, rfl, rfl, Lib.hid ⟨rfl, fun k hk => by cases hk⟩, by omega, HO1⟩
  case round =>
    obtain ⟨ks, i, rfl, rfl, HK, hi, HL⟩ := hrel
    clear HO1
    go_wp2_with fail
    with_reducible refine (HM1.out _).mono ?_
    rintro e w2 ⟨rfl, hww⟩
    subst hww
    by_cases hlt : i < m1 + 1
    · have hltI : (i : Int) < 1 + m1 := by omega
      have hi3 : i ≤ 2 := by omega
      clear HM1
      by_cases hin : i < n1
      · by_cases h0 : i = 0
        · obtain rfl : i = 0 := h0
          have hinI : (0 : Int) < n1 := by omega
          obtain ⟨ad, rfl, hb, hcell⟩ := HA1.out (by omega)
          obtain ⟨x, hx⟩ : ∃ x, xs[0]? = some x := ⟨xs[0]'(by rw [HN1.out]; omega), List.getElem?_eq_getElem _⟩
          have hcl : wr.cell? (ad.add 0) = some (.int .i64 x) := by rw [HL.out.below.cell (by rw [block_of_add]; exact hb)]; exact hcell 0 x hx
          clear hb hcell hx
          rw [add_zero11] at hcl
          have hj : (x % 3).toNat < 3 := by omega
          have hwn := fun w : World => within_n (w := w) x 3 (by omega) (by omega)
          generalize (x % 3).toNat = j at *
          have hcj : wr.cell? ⟨g5, j, none⟩ = some (.string (strOfNums (partI j))) := by rw [HL.out.cell (.head _) j]; exact part_at hj
          have hps : (strOfNums (partI j)).size ≤ 2 := by rw [strOfNums_size]; exact part_len j
          have hhs : (strOfNums (hostI' ks)).size ≤ 9 := by rw [strOfNums_size]; have := host_len ks; have := HK.out.1; omega
          have hall : ∀ k ∈ ks ++ [j], k < 3 := fun k hk => by
            rcases List.mem_append.1 hk with hk | hk
            · exact HK.out.2 k hk
            · rw [List.mem_singleton.1 hk]; exact hj
          have HALL := Lib.hid hall
          have hjI : (j : Int) < 3 := by omega
          have hnew : strOfNums (hostI' ks) ++ strOfNums (partI j) = strOfNums (hostI' (ks ++ [j])) := by
            rw [List.eq_nil_of_length_eq_zero HK.out.1]
            first | done | rfl
          have n1 : ¬ (9223372036854775807 < (strOfNums (hostI' ks)).size + (strOfNums (partI j)).size) := by omega
          have HNEW := Lib.hid hnew; have HWN := Lib.hid hwn; have HKL := Lib.hid HK.out.1
          clear hnew hwn hall hps hhs HK
          obtain ⟨HS, hHS⟩ : ∃ HS, strOfNums (hostI' ks) = HS := ⟨_, rfl⟩
          obtain ⟨PS, hPS⟩ : ∃ PS, strOfNums (partI j) = PS := ⟨_, rfl⟩
          obtain ⟨TS, hTS⟩ : ∃ TS, strOfNums (hostI' (ks ++ [j])) = TS := ⟨_, rfl⟩
          have HTS := Lib.hid hTS
          rw [hHS, hPS, hTS] at HNEW
          rw [hPS] at hcj
          rw [hHS, hPS] at n1
          rw [hHS]
          clear hHS hPS hTS
          go_wp2_with fail
          with_reducible refine (HWN.out _).mono ?_
          rintro e w3 ⟨rfl, hww⟩
          subst hww
          go_wp2
          go_roundw
          case rel => exact ⟨ks ++ [j], 0 + 1, congrArg Value.string (HNEW.out.trans HTS.out.symm), by go_num, Lib.hid ⟨by rw [List.length_append, HKL.out]; first | done | rfl, HALL.out⟩, by omega, HL⟩
          case measure => simp [intOf]; try omega
        · have hinI : (i : Int) < n1 := by omega
          obtain ⟨ad, rfl, hb, hcell⟩ := HA1.out (by omega)
          obtain ⟨x, hx⟩ : ∃ x, xs[i]? = some x := ⟨xs[i]'(by rw [HN1.out]; omega), List.getElem?_eq_getElem _⟩
          have hcl : wr.cell? (ad.add i) = some (.int .i64 x) := by rw [HL.out.below.cell (by rw [block_of_add]; exact hb)]; exact hcell i x hx
          clear hb hcell hx
          have hj : (x % 3).toNat < 3 := by omega
          have hwn := fun w : World => within_n (w := w) x 3 (by omega) (by omega)
          generalize (x % 3).toNat = j at *
          have hcj : wr.cell? ⟨g5, j, none⟩ = some (.string (strOfNums (partI j))) := by rw [HL.out.cell (.head _) j]; exact part_at hj
          have hps : (strOfNums (partI j)).size ≤ 2 := by rw [strOfNums_size]; exact part_len j
          have hhs : (strOfNums (hostI' ks)).size ≤ 9 := by rw [strOfNums_size]; have := host_len ks; have := HK.out.1; omega
          have hall : ∀ k ∈ ks ++ [j], k < 3 := fun k hk => by
            rcases List.mem_append.1 hk with hk | hk
            · exact HK.out.2 k hk
            · rw [List.mem_singleton.1 hk]; exact hj
          have HALL := Lib.hid hall
          have hjI : (j : Int) < 3 := by omega
          have hnew : strOfNums (hostI' ks) ++ ⟨#[46]⟩ ++ strOfNums (partI j) = strOfNums (hostI' (ks ++ [j])) := by
            rw [host_snoc ks j (fun e => h0 (by rw [← HK.out.1, e]; rfl)), strs_app, show (46 : Int) :: partI j = [46] ++ partI j from rfl, strs_app, ByteArray.append_assoc]
            rfl
          have n1 : ¬ (9223372036854775807 < (strOfNums (hostI' ks)).size + 1) := by omega
          have n2 : ¬ (9223372036854775807 < (strOfNums (hostI' ks)).size + 1 + (strOfNums (partI j)).size) := by omega
          have HNEW := Lib.hid hnew; have HWN := Lib.hid hwn; have HKL := Lib.hid HK.out.1
          clear hnew hwn hall hps hhs HK
          obtain ⟨HS, hHS⟩ : ∃ HS, strOfNums (hostI' ks) = HS := ⟨_, rfl⟩
          obtain ⟨PS, hPS⟩ : ∃ PS, strOfNums (partI j) = PS := ⟨_, rfl⟩
          obtain ⟨TS, hTS⟩ : ∃ TS, strOfNums (hostI' (ks ++ [j])) = TS := ⟨_, rfl⟩
          have HTS := Lib.hid hTS
          rw [hHS, hPS, hTS] at HNEW
          rw [hPS] at hcj
          rw [hHS] at n1
          rw [hHS, hPS] at n2
          rw [hHS]
          clear hHS hPS hTS
          have h0I : (0 : Int) < i := by omega
          go_wp2_with fail
          with_reducible refine (HWN.out _).mono ?_
          rintro e w3 ⟨rfl, hww⟩
          subst hww
          go_wp2
          go_roundw
          case rel => exact ⟨ks ++ [j], i + 1, congrArg Value.string (HNEW.out.trans HTS.out.symm), by go_num, Lib.hid ⟨by rw [List.length_append, HKL.out]; first | done | rfl, HALL.out⟩, by omega, HL⟩
          case measure => simp [intOf]; try omega
      · by_cases h0 : i = 0
        · obtain rfl : i = 0 := h0
          have hinI : ¬ (0 : Int) < n1 := by omega
          obtain ⟨x, hx⟩ : ∃ x : Int, (0 : Int) = x := ⟨_, rfl⟩
          have hj : (x % 3).toNat < 3 := by omega
          have hwn := fun w : World => within_n (w := w) x 3 (by omega) (by omega)
          generalize (x % 3).toNat = j at *
          have hcj : wr.cell? ⟨g5, j, none⟩ = some (.string (strOfNums (partI j))) := by rw [HL.out.cell (.head _) j]; exact part_at hj
          have hps : (strOfNums (partI j)).size ≤ 2 := by rw [strOfNums_size]; exact part_len j
          have hhs : (strOfNums (hostI' ks)).size ≤ 9 := by rw [strOfNums_size]; have := host_len ks; have := HK.out.1; omega
          have hall : ∀ k ∈ ks ++ [j], k < 3 := fun k hk => by
            rcases List.mem_append.1 hk with hk | hk
            · exact HK.out.2 k hk
            · rw [List.mem_singleton.1 hk]; exact hj
          have HALL := Lib.hid hall
          have hjI : (j : Int) < 3 := by omega
          have hnew : strOfNums (hostI' ks) ++ strOfNums (partI j) = strOfNums (hostI' (ks ++ [j])) := by
            rw [List.eq_nil_of_length_eq_zero HK.out.1]
            first | done | rfl
          have n1 : ¬ (9223372036854775807 < (strOfNums (hostI' ks)).size + (strOfNums (partI j)).size) := by omega
          have HNEW := Lib.hid hnew; have HWN := Lib.hid hwn; have HKL := Lib.hid HK.out.1
          clear hnew hwn hall hps hhs HK
          obtain ⟨HS, hHS⟩ : ∃ HS, strOfNums (hostI' ks) = HS := ⟨_, rfl⟩
          obtain ⟨PS, hPS⟩ : ∃ PS, strOfNums (partI j) = PS := ⟨_, rfl⟩
          obtain ⟨TS, hTS⟩ : ∃ TS, strOfNums (hostI' (ks ++ [j])) = TS := ⟨_, rfl⟩
          have HTS := Lib.hid hTS
          rw [hHS, hPS, hTS] at HNEW
          rw [hPS] at hcj
          rw [hHS, hPS] at n1
          rw [hHS]
          clear hHS hPS hTS
          rw [← hx] at HWN
          clear hx
          go_wp2_with fail
          with_reducible refine (HWN.out _).mono ?_
          rintro e w3 ⟨rfl, hww⟩
          subst hww
          go_wp2
          go_roundw
          case rel => exact ⟨ks ++ [j], 0 + 1, congrArg Value.string (HNEW.out.trans HTS.out.symm), by go_num, Lib.hid ⟨by rw [List.length_append, HKL.out]; first | done | rfl, HALL.out⟩, by omega, HL⟩
          case measure => simp [intOf]; try omega
        · have hinI : ¬ (i : Int) < n1 := by omega
          obtain ⟨x, hx⟩ : ∃ x : Int, (i : Int) = x := ⟨_, rfl⟩
          have hj : (x % 3).toNat < 3 := by omega
          have hwn := fun w : World => within_n (w := w) x 3 (by omega) (by omega)
          generalize (x % 3).toNat = j at *
          have hcj : wr.cell? ⟨g5, j, none⟩ = some (.string (strOfNums (partI j))) := by rw [HL.out.cell (.head _) j]; exact part_at hj
          have hps : (strOfNums (partI j)).size ≤ 2 := by rw [strOfNums_size]; exact part_len j
          have hhs : (strOfNums (hostI' ks)).size ≤ 9 := by rw [strOfNums_size]; have := host_len ks; have := HK.out.1; omega
          have hall : ∀ k ∈ ks ++ [j], k < 3 := fun k hk => by
            rcases List.mem_append.1 hk with hk | hk
            · exact HK.out.2 k hk
            · rw [List.mem_singleton.1 hk]; exact hj
          have HALL := Lib.hid hall
          have hjI : (j : Int) < 3 := by omega
          have hnew : strOfNums (hostI' ks) ++ ⟨#[46]⟩ ++ strOfNums (partI j) = strOfNums (hostI' (ks ++ [j])) := by
            rw [host_snoc ks j (fun e => h0 (by rw [← HK.out.1, e]; rfl)), strs_app, show (46 : Int) :: partI j = [46] ++ partI j from rfl, strs_app, ByteArray.append_assoc]
            rfl
          have n1 : ¬ (9223372036854775807 < (strOfNums (hostI' ks)).size + 1) := by omega
          have n2 : ¬ (9223372036854775807 < (strOfNums (hostI' ks)).size + 1 + (strOfNums (partI j)).size) := by omega
          have HNEW := Lib.hid hnew; have HWN := Lib.hid hwn; have HKL := Lib.hid HK.out.1
          clear hnew hwn hall hps hhs HK
          obtain ⟨HS, hHS⟩ : ∃ HS, strOfNums (hostI' ks) = HS := ⟨_, rfl⟩
          obtain ⟨PS, hPS⟩ : ∃ PS, strOfNums (partI j) = PS := ⟨_, rfl⟩
          obtain ⟨TS, hTS⟩ : ∃ TS, strOfNums (hostI' (ks ++ [j])) = TS := ⟨_, rfl⟩
          have HTS := Lib.hid hTS
          rw [hHS, hPS, hTS] at HNEW
          rw [hPS] at hcj
          rw [hHS] at n1
          rw [hHS, hPS] at n2
          rw [hHS]
          clear hHS hPS hTS
          have h0I : (0 : Int) < i := by omega
          rw [← hx] at HWN
          clear hx
          go_wp2_with fail
          with_reducible refine (HWN.out _).mono ?_
          rintro e w3 ⟨rfl, hww⟩
          subst hww
          go_wp2
          go_roundw
          case rel => exact ⟨ks ++ [j], i + 1, congrArg Value.string (HNEW.out.trans HTS.out.symm), by go_num, Lib.hid ⟨by rw [List.length_append, HKL.out]; first | done | rfl, HALL.out⟩, by omega, HL⟩
          case measure => simp [intOf]; try omega

    · have hltI : ¬ (i : Int) < 1 + m1 := by omega
      have hi3 : i = m1 + 1 := by omega
      have hkh : (1 ≤ ks.length ∧ ks.length ≤ 3) ∧ ∀ k ∈ ks, k < 3 := ⟨⟨by rw [HK.out.1]; omega, by rw [HK.out.1]; omega⟩, HK.out.2⟩
      obtain ⟨kh, hke⟩ : ∃ kh, ks = kh := ⟨_, rfl⟩
      rw [hke] at hkh
      obtain ⟨H, hHh⟩ : ∃ H, strOfNums (hostI' ks) = H := ⟨_, rfl⟩
      rw [hHh]
      have HHE : Hid (H = strOfNums (hostI' kh)) := Lib.hid (by rw [← hHh, hke])
      have HKH := Lib.hid hkh
      have HO2 := HL
      clear hkh hHh hke HK HL hi hlt hi3 HM1
      go_wp2
      go_loopw [7, 10] (fun hv iv w' => ∃ (ks : List Nat) (i : Nat), hv = .string (strOfNums (hostI' ks)) ∧ iv = .int .i64 i ∧ Hid (ks.length = i ∧ ∀ k ∈ ks, k < 3) ∧ i ≤ m2 + 1 ∧ Hid (Own W w' ((g5, .cells [Value.string ⟨#[97]⟩, Value.string ⟨#[98]⟩, Value.string ⟨#[99, 100]⟩].toArray 9) :: []))) (fun _ iv _ => (m2 + 1) - (intOf iv).toNat)
      case atStart => exact ⟨[], 0, rfl, rfl, Lib.hid ⟨rfl, fun k hk => by cases hk⟩, by omega, HO2⟩
      case round =>
        obtain ⟨ks, i, rfl, rfl, HK, hi, HL⟩ := hrel
        clear HO2
        go_wp2_with fail
        with_reducible refine (HM2.out _).mono ?_
        rintro e w2 ⟨rfl, hww⟩
        subst hww
        by_cases hlt : i < m2 + 1
        · have hltI : (i : Int) < 1 + m2 := by omega
          have hi3 : i ≤ 2 := by omega
          clear HM2
          by_cases hin : i < n2
          · by_cases h0 : i = 0
            · obtain rfl : i = 0 := h0
              have hinI : (0 : Int) < n2 := by omega
              obtain ⟨ad, rfl, hb, hcell⟩ := HA2.out (by omega)
              obtain ⟨x, hx⟩ : ∃ x, ys[0]? = some x := ⟨ys[0]'(by rw [HN2.out]; omega), List.getElem?_eq_getElem _⟩
              have hcl : wr.cell? (ad.add 0) = some (.int .i64 x) := by rw [HL.out.below.cell (by rw [block_of_add]; exact hb)]; exact hcell 0 x hx
              clear hb hcell hx
              rw [add_zero11] at hcl
              have hj : (x % 3).toNat < 3 := by omega
              have hwn := fun w : World => within_n (w := w) x 3 (by omega) (by omega)
              generalize (x % 3).toNat = j at *
              have hcj : wr.cell? ⟨g5, j, none⟩ = some (.string (strOfNums (partI j))) := by rw [HL.out.cell (.head _) j]; exact part_at hj
              have hps : (strOfNums (partI j)).size ≤ 2 := by rw [strOfNums_size]; exact part_len j
              have hhs : (strOfNums (hostI' ks)).size ≤ 9 := by rw [strOfNums_size]; have := host_len ks; have := HK.out.1; omega
              have hall : ∀ k ∈ ks ++ [j], k < 3 := fun k hk => by
                rcases List.mem_append.1 hk with hk | hk
                · exact HK.out.2 k hk
                · rw [List.mem_singleton.1 hk]; exact hj
              have HALL := Lib.hid hall
              have hjI : (j : Int) < 3 := by omega
              have hnew : strOfNums (hostI' ks) ++ strOfNums (partI j) = strOfNums (hostI' (ks ++ [j])) := by
                rw [List.eq_nil_of_length_eq_zero HK.out.1]
                first | done | rfl
              have n1 : ¬ (9223372036854775807 < (strOfNums (hostI' ks)).size + (strOfNums (partI j)).size) := by omega
              have HNEW := Lib.hid hnew; have HWN := Lib.hid hwn; have HKL := Lib.hid HK.out.1
              clear hnew hwn hall hps hhs HK
              obtain ⟨HS, hHS⟩ : ∃ HS, strOfNums (hostI' ks) = HS := ⟨_, rfl⟩
              obtain ⟨PS, hPS⟩ : ∃ PS, strOfNums (partI j) = PS := ⟨_, rfl⟩
              obtain ⟨TS, hTS⟩ : ∃ TS, strOfNums (hostI' (ks ++ [j])) = TS := ⟨_, rfl⟩
              have HTS := Lib.hid hTS
              rw [hHS, hPS, hTS] at HNEW
              rw [hPS] at hcj
              rw [hHS, hPS] at n1
              rw [hHS]
              clear hHS hPS hTS
              go_wp2_with fail
              with_reducible refine (HWN.out _).mono ?_
              rintro e w3 ⟨rfl, hww⟩
              subst hww
              go_wp2
              go_roundw
              case rel => exact ⟨ks ++ [j], 0 + 1, congrArg Value.string (HNEW.out.trans HTS.out.symm), by go_num, Lib.hid ⟨by rw [List.length_append, HKL.out]; first | done | rfl, HALL.out⟩, by omega, HL⟩
              case measure => simp [intOf]; try omega
            · have hinI : (i : Int) < n2 := by omega
              obtain ⟨ad, rfl, hb, hcell⟩ := HA2.out (by omega)
              obtain ⟨x, hx⟩ : ∃ x, ys[i]? = some x := ⟨ys[i]'(by rw [HN2.out]; omega), List.getElem?_eq_getElem _⟩
              have hcl : wr.cell? (ad.add i) = some (.int .i64 x) := by rw [HL.out.below.cell (by rw [block_of_add]; exact hb)]; exact hcell i x hx
              clear hb hcell hx
              have hj : (x % 3).toNat < 3 := by omega
              have hwn := fun w : World => within_n (w := w) x 3 (by omega) (by omega)
              generalize (x % 3).toNat = j at *
              have hcj : wr.cell? ⟨g5, j, none⟩ = some (.string (strOfNums (partI j))) := by rw [HL.out.cell (.head _) j]; exact part_at hj
              have hps : (strOfNums (partI j)).size ≤ 2 := by rw [strOfNums_size]; exact part_len j
              have hhs : (strOfNums (hostI' ks)).size ≤ 9 := by rw [strOfNums_size]; have := host_len ks; have := HK.out.1; omega
              have hall : ∀ k ∈ ks ++ [j], k < 3 := fun k hk => by
                rcases List.mem_append.1 hk with hk | hk
                · exact HK.out.2 k hk
                · rw [List.mem_singleton.1 hk]; exact hj
              have HALL := Lib.hid hall
              have hjI : (j : Int) < 3 := by omega
              have hnew : strOfNums (hostI' ks) ++ ⟨#[46]⟩ ++ strOfNums (partI j) = strOfNums (hostI' (ks ++ [j])) := by
                rw [host_snoc ks j (fun e => h0 (by rw [← HK.out.1, e]; rfl)), strs_app, show (46 : Int) :: partI j = [46] ++ partI j from rfl, strs_app, ByteArray.append_assoc]
                rfl
              have n1 : ¬ (9223372036854775807 < (strOfNums (hostI' ks)).size + 1) := by omega
              have n2 : ¬ (9223372036854775807 < (strOfNums (hostI' ks)).size + 1 + (strOfNums (partI j)).size) := by omega
              have HNEW := Lib.hid hnew; have HWN := Lib.hid hwn; have HKL := Lib.hid HK.out.1
              clear hnew hwn hall hps hhs HK
              obtain ⟨HS, hHS⟩ : ∃ HS, strOfNums (hostI' ks) = HS := ⟨_, rfl⟩
              obtain ⟨PS, hPS⟩ : ∃ PS, strOfNums (partI j) = PS := ⟨_, rfl⟩
              obtain ⟨TS, hTS⟩ : ∃ TS, strOfNums (hostI' (ks ++ [j])) = TS := ⟨_, rfl⟩
              have HTS := Lib.hid hTS
              rw [hHS, hPS, hTS] at HNEW
              rw [hPS] at hcj
              rw [hHS] at n1
              rw [hHS, hPS] at n2
              rw [hHS]
              clear hHS hPS hTS
              have h0I : (0 : Int) < i := by omega
              go_wp2_with fail
              with_reducible refine (HWN.out _).mono ?_
              rintro e w3 ⟨rfl, hww⟩
              subst hww
              go_wp2
              go_roundw
              case rel => exact ⟨ks ++ [j], i + 1, congrArg Value.string (HNEW.out.trans HTS.out.symm), by go_num, Lib.hid ⟨by rw [List.length_append, HKL.out]; first | done | rfl, HALL.out⟩, by omega, HL⟩
              case measure => simp [intOf]; try omega
          · by_cases h0 : i = 0
            · obtain rfl : i = 0 := h0
              have hinI : ¬ (0 : Int) < n2 := by omega
              obtain ⟨x, hx⟩ : ∃ x : Int, (0 : Int) = x := ⟨_, rfl⟩
              have hj : (x % 3).toNat < 3 := by omega
              have hwn := fun w : World => within_n (w := w) x 3 (by omega) (by omega)
              generalize (x % 3).toNat = j at *
              have hcj : wr.cell? ⟨g5, j, none⟩ = some (.string (strOfNums (partI j))) := by rw [HL.out.cell (.head _) j]; exact part_at hj
              have hps : (strOfNums (partI j)).size ≤ 2 := by rw [strOfNums_size]; exact part_len j
              have hhs : (strOfNums (hostI' ks)).size ≤ 9 := by rw [strOfNums_size]; have := host_len ks; have := HK.out.1; omega
              have hall : ∀ k ∈ ks ++ [j], k < 3 := fun k hk => by
                rcases List.mem_append.1 hk with hk | hk
                · exact HK.out.2 k hk
                · rw [List.mem_singleton.1 hk]; exact hj
              have HALL := Lib.hid hall
              have hjI : (j : Int) < 3 := by omega
              have hnew : strOfNums (hostI' ks) ++ strOfNums (partI j) = strOfNums (hostI' (ks ++ [j])) := by
                rw [List.eq_nil_of_length_eq_zero HK.out.1]
                first | done | rfl
              have n1 : ¬ (9223372036854775807 < (strOfNums (hostI' ks)).size + (strOfNums (partI j)).size) := by omega
              have HNEW := Lib.hid hnew; have HWN := Lib.hid hwn; have HKL := Lib.hid HK.out.1
              clear hnew hwn hall hps hhs HK
              obtain ⟨HS, hHS⟩ : ∃ HS, strOfNums (hostI' ks) = HS := ⟨_, rfl⟩
              obtain ⟨PS, hPS⟩ : ∃ PS, strOfNums (partI j) = PS := ⟨_, rfl⟩
              obtain ⟨TS, hTS⟩ : ∃ TS, strOfNums (hostI' (ks ++ [j])) = TS := ⟨_, rfl⟩
              have HTS := Lib.hid hTS
              rw [hHS, hPS, hTS] at HNEW
              rw [hPS] at hcj
              rw [hHS, hPS] at n1
              rw [hHS]
              clear hHS hPS hTS
              rw [← hx] at HWN
              clear hx
              go_wp2_with fail
              with_reducible refine (HWN.out _).mono ?_
              rintro e w3 ⟨rfl, hww⟩
              subst hww
              go_wp2
              go_roundw
              case rel => exact ⟨ks ++ [j], 0 + 1, congrArg Value.string (HNEW.out.trans HTS.out.symm), by go_num, Lib.hid ⟨by rw [List.length_append, HKL.out]; first | done | rfl, HALL.out⟩, by omega, HL⟩
              case measure => simp [intOf]; try omega
            · have hinI : ¬ (i : Int) < n2 := by omega
              obtain ⟨x, hx⟩ : ∃ x : Int, (i : Int) = x := ⟨_, rfl⟩
              have hj : (x % 3).toNat < 3 := by omega
              have hwn := fun w : World => within_n (w := w) x 3 (by omega) (by omega)
              generalize (x % 3).toNat = j at *
              have hcj : wr.cell? ⟨g5, j, none⟩ = some (.string (strOfNums (partI j))) := by rw [HL.out.cell (.head _) j]; exact part_at hj
              have hps : (strOfNums (partI j)).size ≤ 2 := by rw [strOfNums_size]; exact part_len j
              have hhs : (strOfNums (hostI' ks)).size ≤ 9 := by rw [strOfNums_size]; have := host_len ks; have := HK.out.1; omega
              have hall : ∀ k ∈ ks ++ [j], k < 3 := fun k hk => by
                rcases List.mem_append.1 hk with hk | hk
                · exact HK.out.2 k hk
                · rw [List.mem_singleton.1 hk]; exact hj
              have HALL := Lib.hid hall
              have hjI : (j : Int) < 3 := by omega
              have hnew : strOfNums (hostI' ks) ++ ⟨#[46]⟩ ++ strOfNums (partI j) = strOfNums (hostI' (ks ++ [j])) := by
                rw [host_snoc ks j (fun e => h0 (by rw [← HK.out.1, e]; rfl)), strs_app, show (46 : Int) :: partI j = [46] ++ partI j from rfl, strs_app, ByteArray.append_assoc]
                rfl
              have n1 : ¬ (9223372036854775807 < (strOfNums (hostI' ks)).size + 1) := by omega
              have n2 : ¬ (9223372036854775807 < (strOfNums (hostI' ks)).size + 1 + (strOfNums (partI j)).size) := by omega
              have HNEW := Lib.hid hnew; have HWN := Lib.hid hwn; have HKL := Lib.hid HK.out.1
              clear hnew hwn hall hps hhs HK
              obtain ⟨HS, hHS⟩ : ∃ HS, strOfNums (hostI' ks) = HS := ⟨_, rfl⟩
              obtain ⟨PS, hPS⟩ : ∃ PS, strOfNums (partI j) = PS := ⟨_, rfl⟩
              obtain ⟨TS, hTS⟩ : ∃ TS, strOfNums (hostI' (ks ++ [j])) = TS := ⟨_, rfl⟩
              have HTS := Lib.hid hTS
              rw [hHS, hPS, hTS] at HNEW
              rw [hPS] at hcj
              rw [hHS] at n1
              rw [hHS, hPS] at n2
              rw [hHS]
              clear hHS hPS hTS
              have h0I : (0 : Int) < i := by omega
              rw [← hx] at HWN
              clear hx
              go_wp2_with fail
              with_reducible refine (HWN.out _).mono ?_
              rintro e w3 ⟨rfl, hww⟩
              subst hww
              go_wp2
              go_roundw
              case rel => exact ⟨ks ++ [j], i + 1, congrArg Value.string (HNEW.out.trans HTS.out.symm), by go_num, Lib.hid ⟨by rw [List.length_append, HKL.out]; first | done | rfl, HALL.out⟩, by omega, HL⟩
              case measure => simp [intOf]; try omega

        · have hltI : ¬ (i : Int) < 1 + m2 := by omega
          have hi3 : i = m2 + 1 := by omega
          have hh := keys_host (ks := kh) HKH.out.1 HKH.out.2
          have hbb := keys_host (ks := ks) ⟨by rw [HK.out.1]; omega, by rw [HK.out.1]; omega⟩ HK.out.2
          obtain ⟨h, hhe⟩ : ∃ h, hostI' kh = h := ⟨_, rfl⟩
          obtain ⟨b, hbe⟩ : ∃ b, hostI' ks = b := ⟨_, rfl⟩
          rw [hhe] at hh
          rw [hbe] at hbb
          have hHe : H = strOfNums h := by rw [HHE.out, hhe]
          rw [hbe]
          clear hhe hbe HK HKH HHE
          obtain ⟨p1, p2, p3⟩ := pair_is hh hbb
          obtain ⟨f1, f2⟩ := host_fine hh
          obtain ⟨f3, f4⟩ := host_fine hbb
          have hpg := fun (w1 : World) (R1 : Blks) (hh : Own W w1 R1) => uparse_c HVV.out hh ⟨#[104, 116, 116, 112, 115, 58, 47, 47, 120, 46, 121, 47]⟩ (by decide)
          rw [page_parse] at hpg
          unfold GotE at hpg
          simp only [Option.getD_some, Option.isSome_some, if_true, host_val] at hpg
          have hHsz : H.size = h.length := by rw [hHe, strOfNums_size]
          have hsH : sb H = h := by rw [hHe, sb_str (show Byt h from f1.hostB)]
          obtain ⟨B, hBe⟩ : ∃ B, strOfNums b = B := ⟨_, rfl⟩
          have hBsz : B.size = b.length := by rw [← hBe, strOfNums_size]
          have hsB : sb B = b := by rw [← hBe, sb_str (show Byt b from f3.hostB)]
          have z1 : (⟨#[104, 116, 116, 112, 115, 58, 47, 47]⟩ ++ H ++ ⟨#[47]⟩ : ByteArray).size ≤ 100 := by
            rw [ByteArray.size_append, ByteArray.size_append, hHsz]
            show 8 + h.length + 1 ≤ 100
            omega
          have hup := fun (w1 : World) (R1 : Blks) (hh : Own W w1 R1) => uparse_c HVV.out hh (⟨#[104, 116, 116, 112, 115, 58, 47, 47]⟩ ++ H ++ ⟨#[47]⟩) (by omega)
          have e1 : sb (⟨#[104, 116, 116, 112, 115, 58, 47, 47]⟩ ++ H ++ ⟨#[47]⟩ : ByteArray) = httpsM ++ (h ++ [47]) := by rw [sb_append, sb_append, hsH, List.append_assoc]; rfl
          rw [e1, host_parse11 hh] at hup
          unfold GotE at hup
          simp only [Option.getD_some, Option.isSome_some, if_true, host_val] at hup
          rw [← hHe] at hup
          have hm1 := fun (w1 : World) (R1 : Blks) (hh : Own W w1 R1) => cmatch_c HVV.out hh B (by omega) (hostU [120, 46, 121]) (hostU h) page_half11 f1
          have e2 : sb (⟨#[42, 46]⟩ ++ B : ByteArray) = [42, 46] ++ b := by rw [sb_append, hsB]; rfl
          have z2 : (⟨#[42, 46]⟩ ++ B : ByteArray).size ≤ 100 := by rw [ByteArray.size_append, hBsz]; show 2 + b.length ≤ 100; omega
          have hm2 := fun (w1 : World) (R1 : Blks) (hh : Own W w1 R1) => cmatch_c HVV.out hh (⟨#[42, 46]⟩ ++ B) (by omega) (hostU [120, 46, 121]) (hostU h) page_half11 f1
          have e3 : sb (⟨#[104, 116, 116, 112, 115, 58, 47, 47, 42, 46]⟩ ++ B ++ ⟨#[58, 42]⟩ : ByteArray) = httpsM ++ ([42, 46] ++ (b ++ [58, 42])) := by rw [sb_append, sb_append, hsB, List.append_assoc]; rfl
          have z3 : (⟨#[104, 116, 116, 112, 115, 58, 47, 47, 42, 46]⟩ ++ B ++ ⟨#[58, 42]⟩ : ByteArray).size ≤ 100 := by rw [ByteArray.size_append, ByteArray.size_append, hBsz]; show 10 + b.length + 2 ≤ 100; omega
          have hm3 := fun (w1 : World) (R1 : Blks) (hh : Own W w1 R1) => cmatch_c HVV.out hh (⟨#[104, 116, 116, 112, 115, 58, 47, 47, 42, 46]⟩ ++ B ++ ⟨#[58, 42]⟩) (by omega) (hostU [120, 46, 121]) (hostU h) page_half11 f1
          rw [hsB, p1] at hm1
          rw [e2, p2] at hm2
          rw [e3, p3] at hm3
          have hxy : strOfNums [120, 46, 121] = ⟨#[120, 46, 121]⟩ := rfl
          simp only [host_val, hxy] at hm1 hm2 hm3
          clear hxy
          rw [← hHe] at hm1 hm2 hm3
          have t1 : (H.toList == B.toList) = decide (h = b) := by rw [beq_sb, hsH, hsB]
          obtain ⟨q1, hq1⟩ : ∃ q, decide (h = b) = q := ⟨_, rfl⟩
          obtain ⟨q2, hq2⟩ : ∃ q, underI h b = q := ⟨_, rfl⟩
          rw [hq1] at hm1 t1
          rw [hq2] at hm2 hm3
          have HQ2 := Lib.hid hq2; have HSH := Lib.hid hsH; have HSB := Lib.hid hsB; have HHZ := Lib.hid hHsz; have HBZ := Lib.hid hBsz
          have hH8 : H.size ≤ 8 := by omega
          have hB8 : B.size ≤ 8 := by omega
          have n3 : ¬ (9223372036854775807 < 8 + H.size) := by omega
          have n4 : ¬ (9223372036854775807 < 8 + H.size + 1) := by omega
          have n5 : ¬ (9223372036854775807 < 2 + B.size) := by omega
          have n6 : ¬ (9223372036854775807 < 10 + B.size) := by omega
          have n7 : ¬ (9223372036854775807 < 10 + B.size + 2) := by omega
          have n8 : ¬ (9223372036854775807 < 1 + B.size) := by omega
          have HPG := Lib.hid hpg; have HUP := Lib.hid hup; have H1 := Lib.hid hm1; have H2 := Lib.hid hm2; have H3 := Lib.hid hm3
          rw [hBe]
          clear hpg hup hm1 hm2 hm3 hq1 hq2 e1 e2 e3 z1 z2 z3 hHe hBe hsH hsB hHsz hBsz hh hbb p1 p2 p3 f1 f2 f3 f4 hi3 hi hlt HM2
          go_wp2_with fail
          with_reducible refine (HPG.out _ _ HL.out).mono ?_
          rintro e w3 ⟨rfl, hO⟩
          have HO3 := Lib.hid hO; clear hO HL HPG
          go_wp2_with (first | (refine wl_alloc rfl _ rfl HO3.out _ (alloc_url _) ?_; intro g12 w4 hO; have HO4 := Lib.hid hO; clear hO HO3) | (refine wl_store rfl _ _ _ rfl HO4.out 0 g12 0 _ [Value.string ⟨#[104, 116, 116, 112, 115]⟩, Value.string ⟨#[120, 46, 121]⟩, Value.int .i64 0, Value.string ⟨#[47]⟩, Value.string ⟨#[]⟩] _ rfl (by rfl) (by rfl) url_size (one_url7 _ _ _ _ _) (by simp [UL.val, UL.zero]) ?_; intro w5 hO; have HO5 := Lib.hid (hO.cast (L' := (g12, .cells [Value.string ⟨#[104, 116, 116, 112, 115]⟩, Value.string ⟨#[120, 46, 121]⟩, Value.int .i64 0, Value.string ⟨#[47]⟩, Value.string ⟨#[]⟩].toArray 23) :: ((g5, .cells [Value.string ⟨#[97]⟩, Value.string ⟨#[98]⟩, Value.string ⟨#[99, 100]⟩].toArray 9) :: [])) rfl); clear hO HO4))
          with_reducible refine (HUP.out _ _ HO5.out).mono ?_
          rintro e w6 ⟨rfl, hO⟩
          have HO6 := Lib.hid hO; clear hO HO5 HUP n3 n4
          go_upto_region 25 with (first | (refine wl_alloc rfl _ rfl HO6.out _ (alloc_url _) ?_; intro g14 w7 hO; have HO7 := Lib.hid hO; clear hO HO6) | (refine wl_store rfl _ _ _ rfl HO7.out 0 g14 0 _ [Value.string ⟨#[104, 116, 116, 112, 115]⟩, Value.string H, Value.int .i64 0, Value.string ⟨#[47]⟩, Value.string ⟨#[]⟩] _ rfl (by rfl) (by rfl) url_size (one_url7 _ _ _ _ _) (by simp [UL.val, UL.zero]) ?_; intro w8 hO; have HO8 := Lib.hid (hO.cast (L' := ((g14, .cells [Value.string ⟨#[104, 116, 116, 112, 115]⟩, Value.string H, Value.int .i64 0, Value.string ⟨#[47]⟩, Value.string ⟨#[]⟩].toArray 23) :: (g12, .cells [Value.string ⟨#[104, 116, 116, 112, 115]⟩, Value.string ⟨#[120, 46, 121]⟩, Value.int .i64 0, Value.string ⟨#[47]⟩, Value.string ⟨#[]⟩].toArray 23) :: ((g5, .cells [Value.string ⟨#[97]⟩, Value.string ⟨#[98]⟩, Value.string ⟨#[99, 100]⟩].toArray 9) :: []))) rfl); clear hO HO7))
          go_cut [16] (fun s wx => MidH11 W q2 ((g14, .cells [Value.string ⟨#[104, 116, 116, 112, 115]⟩, Value.string H, Value.int .i64 0, Value.string ⟨#[47]⟩, Value.string ⟨#[]⟩].toArray 23) :: (g12, .cells [Value.string ⟨#[104, 116, 116, 112, 115]⟩, Value.string ⟨#[120, 46, 121]⟩, Value.int .i64 0, Value.string ⟨#[47]⟩, Value.string ⟨#[]⟩].toArray 23) :: ((g5, .cells [Value.string ⟨#[97]⟩, Value.string ⟨#[98]⟩, Value.string ⟨#[99, 100]⟩].toArray 9) :: [])) s wx)
          case first =>
            by_cases hlong : b.length + 1 < h.length
            · have hlI : ((B.size : Int) + 1) < H.size := by rw [HHZ.out, HBZ.out]; omega
              have hsl : ((H.extract (H.size - B.size - 1) H.size).toList == (⟨#[46]⟩ ++ B : ByteArray).toList) = q2 := by
                rw [beq_sb, sb_from, sb_append, HSH.out, HSB.out, ← HQ2.out, HHZ.out, HBZ.out]
                unfold underI
                rw [decide_eq_true hlong, Bool.true_and]
                rfl
              have hw1 : IntKind.i64.wrap ((B.size : Int) + 1) = (B.size : Int) + 1 := IntWalk.i64_in _ (by omega)
              have hw2 : IntKind.i64.wrap ((H.size : Int) - B.size) = (H.size : Int) - B.size := IntWalk.i64_in _ (by omega)
              have hw3 : IntKind.i64.wrap ((H.size : Int) - B.size - 1) = (H.size : Int) - B.size - 1 := IntWalk.i64_in _ (by omega)
              have hnn : ((H.size : Int) - B.size - 1).toNat = H.size - B.size - 1 := by omega
              have ha1 : ¬ ((H.size : Int) - B.size - 1 < 0) := by omega
              have ha2 : (H.size : Int) - B.size - 1 ≤ H.size := by omega
              clear HQ2 HSH HSB HHZ HBZ hlong
              go_wp2
              go_meet
              exact ⟨by first | rfl | (simp only [hnn, hsl]) | (trace_state; fail), HO8.out⟩
            · have hlI : ¬ ((B.size : Int) + 1) < H.size := by rw [HHZ.out, HBZ.out]; omega
              have hqf : false = q2 := by rw [← HQ2.out]; unfold underI; rw [decide_eq_false hlong, Bool.false_and]
              have hw1 : IntKind.i64.wrap ((B.size : Int) + 1) = (B.size : Int) + 1 := IntWalk.i64_in _ (by omega)
              have HQF := Lib.hid hqf
              clear HQ2 HSH HSB HHZ HBZ hlong hqf
              go_wp2
              go_meet
              exact ⟨by rw [HQF.out], HO8.out⟩
          case rest =>
            obtain ⟨rfl, hO⟩ := hcut
            have HO9 := Lib.hid hO
            have HWK := Lib.hid (fun (w1 : World) (R1 : Blks) (h : Own W w1 R1) => wakes11_c HVV.out h)
            clear hO HO8 HQ2 HSH HSB HHZ HBZ hH8 hB8 n8
            go_wp2_with (first | (refine wl_load rfl _ _ rfl g12 0 [Value.string ⟨#[104, 116, 116, 112, 115]⟩, Value.string ⟨#[120, 46, 121]⟩, Value.int .i64 0, Value.string ⟨#[47]⟩, Value.string ⟨#[]⟩] [Value.string ⟨#[104, 116, 116, 112, 115]⟩, Value.string ⟨#[120, 46, 121]⟩, Value.int .i64 0, Value.string ⟨#[47]⟩, Value.string ⟨#[]⟩] _ (HO9.out.heap (.tail _ (.head _))) (by rfl) _ Tryd.underlying23 rfl url_size (by rfl) ?_) | (refine wl_load rfl _ _ rfl g14 0 [Value.string ⟨#[104, 116, 116, 112, 115]⟩, Value.string H, Value.int .i64 0, Value.string ⟨#[47]⟩, Value.string ⟨#[]⟩] [Value.string ⟨#[104, 116, 116, 112, 115]⟩, Value.string H, Value.int .i64 0, Value.string ⟨#[47]⟩, Value.string ⟨#[]⟩] _ (HO9.out.heap (.head _)) (by rfl) _ Tryd.underlying23 rfl url_size (by rfl) ?_))
            with_reducible refine (H1.out _ _ HO9.out).mono ?_
            rintro e w10 ⟨rfl, hO⟩
            have HO10 := Lib.hid hO; clear hO HO9 H1
            have u1 : (q1 == q1) = true := beq_self_eq_true q1
            have u2 : (q2 == q2) = true := beq_self_eq_true q2
            go_wp2_with (first | (refine wl_g (by rfl) ?_; refine wl_load rfl _ _ rfl g12 0 [Value.string ⟨#[104, 116, 116, 112, 115]⟩, Value.string ⟨#[120, 46, 121]⟩, Value.int .i64 0, Value.string ⟨#[47]⟩, Value.string ⟨#[]⟩] [Value.string ⟨#[104, 116, 116, 112, 115]⟩, Value.string ⟨#[120, 46, 121]⟩, Value.int .i64 0, Value.string ⟨#[47]⟩, Value.string ⟨#[]⟩] _ (HO10.out.heap (.tail _ (.head _))) (by rfl) _ Tryd.underlying23 rfl url_size (by rfl) ?_) | (refine wl_g (by rfl) ?_; refine wl_load rfl _ _ rfl g14 0 [Value.string ⟨#[104, 116, 116, 112, 115]⟩, Value.string H, Value.int .i64 0, Value.string ⟨#[47]⟩, Value.string ⟨#[]⟩] [Value.string ⟨#[104, 116, 116, 112, 115]⟩, Value.string H, Value.int .i64 0, Value.string ⟨#[47]⟩, Value.string ⟨#[]⟩] _ (HO10.out.heap (.head _)) (by rfl) _ Tryd.underlying23 rfl url_size (by rfl) ?_))
            with_reducible refine (H2.out _ _ HO10.out).mono ?_
            rintro e w11 ⟨rfl, hO⟩
            have HO11 := Lib.hid hO; clear hO HO10 H2
            go_wp2_with (first | (refine wl_g (by rfl) ?_; refine wl_load rfl _ _ rfl g12 0 [Value.string ⟨#[104, 116, 116, 112, 115]⟩, Value.string ⟨#[120, 46, 121]⟩, Value.int .i64 0, Value.string ⟨#[47]⟩, Value.string ⟨#[]⟩] [Value.string ⟨#[104, 116, 116, 112, 115]⟩, Value.string ⟨#[120, 46, 121]⟩, Value.int .i64 0, Value.string ⟨#[47]⟩, Value.string ⟨#[]⟩] _ (HO11.out.heap (.tail _ (.head _))) (by rfl) _ Tryd.underlying23 rfl url_size (by rfl) ?_) | (refine wl_g (by rfl) ?_; refine wl_load rfl _ _ rfl g14 0 [Value.string ⟨#[104, 116, 116, 112, 115]⟩, Value.string H, Value.int .i64 0, Value.string ⟨#[47]⟩, Value.string ⟨#[]⟩] [Value.string ⟨#[104, 116, 116, 112, 115]⟩, Value.string H, Value.int .i64 0, Value.string ⟨#[47]⟩, Value.string ⟨#[]⟩] _ (HO11.out.heap (.head _)) (by rfl) _ Tryd.underlying23 rfl url_size (by rfl) ?_))
            with_reducible refine (H3.out _ _ HO11.out).mono ?_
            rintro e w12 ⟨rfl, hO⟩
            have HO12 := Lib.hid hO; clear hO HO11 H3
            go_wp2_with fail
            with_reducible refine (HWK.out _ _ HO12.out).mono ?_
            rintro e w13 ⟨rfl, hO⟩
            have HO13 := Lib.hid hO; clear hO HO12 HWK
            go_wp2
            go_ret
            exact HO13.out.yes rfl
end Go.Proofs.YtfgaikacijdodaaDoor
