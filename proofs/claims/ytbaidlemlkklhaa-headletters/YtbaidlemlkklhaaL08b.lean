/-
  HeadLetters: of any bytes (the first twenty) as a text: a name is one just if it has 1 to 12 letters and each is one as a name; a value just if it has at most 16 bytes, each from 32 to 126, no blank at its ends; any byte is a name just if it is a letter, a digit, or a dash.
  Conditions: none but the row's own.
-/
import Derived.Test.YtbaidlemlkklhaaL08a
import Derived.Test.YtbaidlemlkklhaaKeep2
import Derived.Test.YtbaidlemlkklhaaInb
namespace Go.Proofs.Ytbaidlemlkklhaa
set_option linter.unusedVariables false
set_option linter.unusedSimpArgs false
set_option maxRecDepth 20000
open Go.ChangeShapes Go.WideShapes Go.ChangeAt Go.RowKit
open Go.ChangeMaps (open_string shut_string)

/-- May the byte at place j stand in a value? -/
def vok (l : List Int) (j : Nat) : Bool := vbI (l.getD j 0) && !(decide (l.getD j 0 = 32) && (decide (j = 0) || decide (j + 1 = l.length)))
def vokTo (l : List Int) (k : Nat) : Bool := (List.range k).all (vok l)
theorem vokTo_succ (l : List Int) (k : Nat) : vokTo l (k + 1) = (vokTo l k && vok l k) := by
  unfold vokTo; rw [List.range_succ, List.all_append]; simp
theorem vokTo_all (l : List Int) : (decide (l.length ≤ 16) && vokTo l l.length) = valI l := by
  unfold valI
  rw [Bool.eq_iff_iff]
  simp only [Bool.and_eq_true, Bool.not_eq_true', decide_eq_true_iff, and_assoc]
  refine and_congr_right fun _ => ?_
  unfold vokTo
  rw [List.all_eq_true]
  simp only [List.mem_range]
  constructor
  · intro h
    refine ⟨?_, ?_, ?_⟩
    · rw [← Bool.not_eq_true, begI_iff]
      intro e
      cases l with
      | nil => cases e
      | cons x r =>
        simp only [List.length_singleton, List.take_succ_cons, List.take_zero, List.cons.injEq, and_true] at e
        subst e
        have := h 0 (by simp)
        simp [vok] at this
    · rw [← Bool.not_eq_true, begI_iff]
      intro e
      rcases List.eq_nil_or_concat l with rfl | ⟨r, x, rfl⟩
      · cases e
      · simp only [List.concat_eq_append] at *
        rw [List.reverse_append] at e
        simp only [List.length_singleton, List.reverse_singleton, List.singleton_append, List.take_succ_cons, List.take_zero, List.cons.injEq, and_true] at e
        subst e
        have := h r.length (by simp)
        simp [vok] at this
    · rw [List.all_eq_true]
      intro x hx
      obtain ⟨j, hj, rfl⟩ := List.mem_iff_getElem.1 hx
      have := h j hj
      unfold vok at this
      rw [Bool.and_eq_true] at this
      have h1 := this.1
      rw [List.getD_eq_getElem?_getD, List.getElem?_eq_getElem hj, Option.getD_some] at h1
      exact h1
  · rintro ⟨h1, h2, h3⟩ j hj
    rw [List.all_eq_true] at h3
    have hx := h3 l[j] (List.getElem_mem hj)
    have e : l.getD j 0 = l[j] := by rw [List.getD_eq_getElem?_getD, List.getElem?_eq_getElem hj, Option.getD_some]
    unfold vok
    rw [e, hx, Bool.true_and, Bool.not_eq_true', ← Bool.not_eq_true]
    intro hc
    simp only [Bool.and_eq_true, Bool.or_eq_true, decide_eq_true_iff] at hc
    obtain ⟨h32, hc⟩ := hc
    rcases hc with rfl | hc
    · rw [← Bool.not_eq_true, begI_iff] at h1
      apply h1
      cases l with
      | nil => simp at hj
      | cons x r => simp only [List.getElem_cons_zero] at h32; subst h32; rfl
    · rw [← Bool.not_eq_true, begI_iff] at h2
      apply h2
      rcases List.eq_nil_or_concat l with rfl | ⟨r, x, rfl⟩
      · simp at hj
      · simp only [List.concat_eq_append] at *
        rw [List.length_append, List.length_singleton] at hc
        obtain rfl : j = r.length := by omega
        have h32' : x = 32 := by simpa using h32
        subst h32'
        rw [List.reverse_append]
        rfl
def nmTo (l : List Int) (k : Nat) : Bool := decide (1 ≤ l.length ∧ l.length ≤ 12) && (l.take k).all nbI
theorem nmTo_succ {l : List Int} {k : Nat} (hk : k < l.length) : nmTo l (k + 1) = (nmTo l k && nbI (l.getD k 0)) := by
  unfold nmTo
  rw [List.take_succ_eq_append_getElem hk, List.all_append, Bool.and_assoc]
  simp [List.getD_eq_getElem?_getD, List.getElem?_eq_getElem hk]
theorem nmTo_all (l : List Int) : nmTo l l.length = nameI l := by unfold nmTo nameI; rw [List.take_of_length_le (Nat.le_refl _)]
theorem name_one (x : Int) : nameI [x] = nbI x := by unfold nameI; simp
set_option maxRecDepth 100000 in
set_option maxHeartbeats 16000000 in
theorem headLetters_walk {W : World} (v : Value) (xs : List Int) (hv : InRow .u8 W v xs) (a : Int) (wa : (Lit.int .i64 a).wf = true) : Calls Try.prog 3 #[v, .int .i64 a] W (Yes W) := by
  have hrd := hv.rdb []
  have hB := hv.bytb
  clear hv wa
  have HO := Lib.hid (Own.start W)
  have hcc := cut_c (Own.start W) v xs hrd 20 (by omega)
  rw [show ((20 : Nat) : Int) = 20 from rfl] at hcc
  have HC := Lib.hid hcc
  clear hcc
  have hlB : Byt (xs.take 20) := byt_take hB 20
  have hl20 : (xs.take 20).length ≤ 20 := by simp; omega
  generalize xs.take 20 = l at *
  obtain ⟨A, n0, c0, rfl, _, _, _⟩ := hrd W [] (Own.start W)
  clear hrd hB
  obtain ⟨s, hs⟩ : ∃ s, strOfNums l = s := ⟨_, rfl⟩
  have hsb : sb s = l := by rw [← hs]; exact sb_str hlB
  obtain ⟨n, hn⟩ : ∃ n, s.size = n := ⟨_, rfl⟩
  have hln : l.length = n := by rw [← hsb, ← hn]; exact length_sb s
  have hn20 : n ≤ 20 := by omega
  have HS := Lib.hid hs; have HSB := Lib.hid hsb; have HN := Lib.hid hn; have HLN := Lib.hid hln; have HB := Lib.hid hlB
  clear hs hsb hlB hl20 hln
  go_enter Try.func3, Try.ntmps3
  go_wp2_with fail
  with_reducible refine HC.out.mono ?_
  rintro e w1 ⟨bv1, L1, rfl, hr1, hO1⟩
  have hcv := convert_str (hr1.bs hO1)
  rw [HS.out] at hcv
  have HO1 := Lib.hid (hO1.right)
  clear hr1 hO1 HC HO
  by_cases h1 : 1 ≤ n
  · have h1' : (1 : Int) ≤ n := by omega
    go_wp2
    go_loopw [6, 7, 8] (fun b u t w' => ∃ k : Nat, k ≤ n ∧ b = .bool (nmTo l k) ∧ u = .bool (decide (n ≤ 16) && vokTo l k) ∧ t = .int .i64 k ∧ w' = w1) (fun _ _ t _ => n - (intOf t).toNat)
    case atStart => exact ⟨0, Nat.zero_le _, by unfold nmTo; rw [HLN.out]; simp [h1]; omega, by simp [vokTo]; omega, rfl, rfl⟩
    case round =>
      obtain ⟨k, hk, rfl, rfl, rfl, rfl⟩ := hrel
      by_cases hlt : k < n
      · have hix := index_sb wr s k (by rw [HN.out]; exact hlt)
        have hkl : k < l.length := by rw [HLN.out]; exact hlt
        have hone : ∀ w, _ := fun w => hname_c (w := w) (s.extract k (k + 1))
        have hex : sb (s.extract k (k + 1)) = [l.getD k 0] := by rw [sb_win, HSB.out]; exact (win_head l k (k + 1) (by omega) (by omega)).trans (by rw [win_empty])
        rw [hex, name_one] at hone
        rw [HSB.out] at hix
        have hns := nmTo_succ hkl
        have hvs := vokTo_succ l k
        have hvk : vok l k = (vbI (l.getD k 0) && !(decide (l.getD k 0 = 32) && (decide (k = 0) || decide (k + 1 = n)))) := by unfold vok; rw [HLN.out]
        have hkn : (k : Int) < n := by omega
        have hk1 : (k : Int) + 1 ≤ n := by omega
        have hkk : (k : Int) ≤ k + 1 := by omega
        have hvs' : (decide (n ≤ 16) && vokTo l (k + 1)) = ((decide (n ≤ 16) && vokTo l k) && vok l k) := by rw [hvs, Bool.and_assoc]
        rw [hvk] at hvs'
        clear hvs hvk hex hkl
        generalize l.getD k 0 = x at *
        generalize nmTo l k = nm at *
        generalize (decide (n ≤ 16) && vokTo l k) = vl at *
        obtain ⟨ob, hob⟩ : ∃ b, nbI x = b := ⟨_, rfl⟩
        rw [hob] at hone hns
        have HONE := Lib.hid hone; have HNS := Lib.hid hns; have HVS := Lib.hid hvs'
        clear hone hns hvs' hob
        cases nm with
        | true =>
          go_wp2_with fail
          with_reducible refine (HONE.out _).mono ?_
          rintro e w2 ⟨rfl, rfl⟩
          clear HONE
          cases vl with
          | false =>
            skip
            skip
            go_wp2
            go_roundw
            case rel => exact ⟨k + 1, by omega, by rw [HNS.out]; rfl, by rw [HVS.out]; rfl, by go_num, trivial⟩
            case measure => simp [intOf]; omega
          | true =>
            by_cases hx1 : 32 ≤ x
            · by_cases hx2 : x ≤ 126
              · by_cases hx3 : x = 32
                · have g0 : (x == 32) = true := by simp; omega
                  by_cases hk0 : k = 0
                  · skip
                    have g1 : ((k : Int) == 0) = true := by simp; omega
                    have HR : Hid ((vbI x && !(decide (x = 32) && (decide (k = 0) || decide (k + 1 = n)))) = false) := Lib.hid (by unfold vbI; simp; omega)
                    skip
                    clear hk0 hx3
                    go_wp2
                    go_roundw
                    case rel => exact ⟨k + 1, by omega, by rw [HNS.out]; rfl, by rw [HVS.out, HR.out]; rfl, by go_num, trivial⟩
                    case measure => simp [intOf]; omega
                  · by_cases hkl : k + 1 = n
                    · skip
                      have g1 : ((k : Int) == 0) = false := by simp; omega
                      have g2 : ((k : Int) == (n : Int) - 1) = true := by simp; omega
                      have HR : Hid ((vbI x && !(decide (x = 32) && (decide (k = 0) || decide (k + 1 = n)))) = false) := Lib.hid (by unfold vbI; simp; omega)
                      skip
                      clear hk0 hx3 hkl
                      go_wp2
                      go_roundw
                      case rel => exact ⟨k + 1, by omega, by rw [HNS.out]; rfl, by rw [HVS.out, HR.out]; rfl, by go_num, trivial⟩
                      case measure => simp [intOf]; omega
                    · skip
                      have g1 : ((k : Int) == 0) = false := by simp; omega
                      have g2 : ((k : Int) == (n : Int) - 1) = false := by simp; omega
                      have HR : Hid ((vbI x && !(decide (x = 32) && (decide (k = 0) || decide (k + 1 = n)))) = true) := Lib.hid (by unfold vbI; simp; omega)
                      skip
                      clear hk0 hx3 hkl
                      go_wp2
                      go_roundw
                      case rel => exact ⟨k + 1, by omega, by rw [HNS.out]; rfl, by rw [HVS.out, HR.out]; rfl, by go_num, trivial⟩
                      case measure => simp [intOf]; omega
                · skip
                  have g1 : (x == 32) = false := by simp; omega
                  have HR : Hid ((vbI x && !(decide (x = 32) && (decide (k = 0) || decide (k + 1 = n)))) = true) := Lib.hid (by unfold vbI; simp; omega)
                  skip
                  clear hx3
                  go_wp2
                  go_roundw
                  case rel => exact ⟨k + 1, by omega, by rw [HNS.out]; rfl, by rw [HVS.out, HR.out]; rfl, by go_num, trivial⟩
                  case measure => simp [intOf]; omega
              · skip
                have HR : Hid ((vbI x && !(decide (x = 32) && (decide (k = 0) || decide (k + 1 = n)))) = false) := Lib.hid (by unfold vbI; simp; omega)
                skip
                skip
                go_wp2
                go_roundw
                case rel => exact ⟨k + 1, by omega, by rw [HNS.out]; rfl, by rw [HVS.out, HR.out]; rfl, by go_num, trivial⟩
                case measure => simp [intOf]; omega
            · skip
              have HR : Hid ((vbI x && !(decide (x = 32) && (decide (k = 0) || decide (k + 1 = n)))) = false) := Lib.hid (by unfold vbI; simp; omega)
              skip
              skip
              go_wp2
              go_roundw
              case rel => exact ⟨k + 1, by omega, by rw [HNS.out]; rfl, by rw [HVS.out, HR.out]; rfl, by go_num, trivial⟩
              case measure => simp [intOf]; omega
        | false =>
          clear HONE
          cases vl with
          | false =>
            skip
            skip
            go_wp2
            go_roundw
            case rel => exact ⟨k + 1, by omega, by rw [HNS.out]; rfl, by rw [HVS.out]; rfl, by go_num, trivial⟩
            case measure => simp [intOf]; omega
          | true =>
            by_cases hx1 : 32 ≤ x
            · by_cases hx2 : x ≤ 126
              · by_cases hx3 : x = 32
                · have g0 : (x == 32) = true := by simp; omega
                  by_cases hk0 : k = 0
                  · skip
                    have g1 : ((k : Int) == 0) = true := by simp; omega
                    have HR : Hid ((vbI x && !(decide (x = 32) && (decide (k = 0) || decide (k + 1 = n)))) = false) := Lib.hid (by unfold vbI; simp; omega)
                    skip
                    clear hk0 hx3
                    go_wp2
                    go_roundw
                    case rel => exact ⟨k + 1, by omega, by rw [HNS.out]; rfl, by rw [HVS.out, HR.out]; rfl, by go_num, trivial⟩
                    case measure => simp [intOf]; omega
                  · by_cases hkl : k + 1 = n
                    · skip
                      have g1 : ((k : Int) == 0) = false := by simp; omega
                      have g2 : ((k : Int) == (n : Int) - 1) = true := by simp; omega
                      have HR : Hid ((vbI x && !(decide (x = 32) && (decide (k = 0) || decide (k + 1 = n)))) = false) := Lib.hid (by unfold vbI; simp; omega)
                      skip
                      clear hk0 hx3 hkl
                      go_wp2
                      go_roundw
                      case rel => exact ⟨k + 1, by omega, by rw [HNS.out]; rfl, by rw [HVS.out, HR.out]; rfl, by go_num, trivial⟩
                      case measure => simp [intOf]; omega
                    · skip
                      have g1 : ((k : Int) == 0) = false := by simp; omega
                      have g2 : ((k : Int) == (n : Int) - 1) = false := by simp; omega
                      have HR : Hid ((vbI x && !(decide (x = 32) && (decide (k = 0) || decide (k + 1 = n)))) = true) := Lib.hid (by unfold vbI; simp; omega)
                      skip
                      clear hk0 hx3 hkl
                      go_wp2
                      go_roundw
                      case rel => exact ⟨k + 1, by omega, by rw [HNS.out]; rfl, by rw [HVS.out, HR.out]; rfl, by go_num, trivial⟩
                      case measure => simp [intOf]; omega
                · skip
                  have g1 : (x == 32) = false := by simp; omega
                  have HR : Hid ((vbI x && !(decide (x = 32) && (decide (k = 0) || decide (k + 1 = n)))) = true) := Lib.hid (by unfold vbI; simp; omega)
                  skip
                  clear hx3
                  go_wp2
                  go_roundw
                  case rel => exact ⟨k + 1, by omega, by rw [HNS.out]; rfl, by rw [HVS.out, HR.out]; rfl, by go_num, trivial⟩
                  case measure => simp [intOf]; omega
              · skip
                have HR : Hid ((vbI x && !(decide (x = 32) && (decide (k = 0) || decide (k + 1 = n)))) = false) := Lib.hid (by unfold vbI; simp; omega)
                skip
                skip
                go_wp2
                go_roundw
                case rel => exact ⟨k + 1, by omega, by rw [HNS.out]; rfl, by rw [HVS.out, HR.out]; rfl, by go_num, trivial⟩
                case measure => simp [intOf]; omega
            · skip
              have HR : Hid ((vbI x && !(decide (x = 32) && (decide (k = 0) || decide (k + 1 = n)))) = false) := Lib.hid (by unfold vbI; simp; omega)
              skip
              skip
              go_wp2
              go_roundw
              case rel => exact ⟨k + 1, by omega, by rw [HNS.out]; rfl, by rw [HVS.out, HR.out]; rfl, by go_num, trivial⟩
              case measure => simp [intOf]; omega
      · obtain rfl : k = n := by omega
        have hN : nmTo l k = nameI l := by rw [← HLN.out]; exact nmTo_all l
        have hV : (decide (k ≤ 16) && vokTo l k) = valI l := by rw [← HLN.out]; exact vokTo_all l
        rw [hN, hV]
        clear hN hV
        have q1 : ∀ w, _ := fun w => hname_c (w := w) s
        have q2 : ∀ w, _ := fun w => hvalue_c (w := w) s (by omega)
        have q3 : ∀ w, _ := fun w => hname_c (w := w) (strOfNums [a % 256])
        have hy0 : 0 ≤ a % 256 := by omega
        have hy1 : a % 256 ≤ 255 := by omega
        rw [HSB.out] at q1 q2
        rw [sb_str (by intro z hz; rw [List.mem_singleton] at hz; subst hz; omega), name_one] at q3
        have hcv2 : (convert 22 9 (.slice (some ⟨wr.heap.size, 0, none⟩) 1 1)).run Try.prog (wr.alloc (.cells #[.int .u8 (a % 256)] 5)) = .ok (.string (strOfNums [a % 256])) (wr.alloc (.cells #[.int .u8 (a % 256)] 5)) := convert_str (bs_one HO1.out (a % 256))
        have hix0 := index_sb0 (wr.alloc (.cells #[.int .u8 (a % 256)] 5)) (strOfNums [a % 256]) (by rw [strOfNums_size]; simp)
        rw [sb_str (by intro z hz; rw [List.mem_singleton] at hz; subst hz; omega), show ([a % 256] : List Int).getD 0 0 = a % 256 from rfl] at hix0
        have HO2 := Lib.hid (HO1.out.alloc (.cells #[.int .u8 (a % 256)] 5)).tail
        generalize nameI l = nb at *
        generalize valI l = vb at *
        have Q1 := Lib.hid q1; have Q2 := Lib.hid q2
        clear q1 q2 HO1
        by_cases x1 : 48 ≤ a % 256
        · by_cases x2 : a % 256 ≤ 57
          · skip
            rw [show nbI (a % 256) = true by unfold nbI; simp; omega] at q3
            skip
            have Q3 := Lib.hid q3; clear q3
            go_wp2_with fail
            with_reducible refine (Q1.out _).mono ?_
            rintro e w2 ⟨rfl, hww⟩
            subst hww
            clear Q1
            go_wp2_with fail
            with_reducible refine (Q2.out _).mono ?_
            rintro e w2 ⟨rfl, hww⟩
            subst hww
            clear Q2
            go_wp2_with fail
            with_reducible refine (Q3.out _).mono ?_
            rintro e w2 ⟨rfl, hww⟩
            subst hww
            clear Q3
            go_wp2_with fail
            with_reducible refine (wakes8_c HO2.out).mono ?_
            rintro e w3 ⟨rfl, hO⟩
            have HO3 := Lib.hid hO; clear hO HO2
            go_wp2
            go_ret
            exact HO3.out.yes rfl
          · by_cases x3 : 97 ≤ a % 256
            · by_cases x4 : a % 256 ≤ 122
              · skip
                rw [show nbI (a % 256) = true by unfold nbI; simp; omega] at q3
                skip
                have Q3 := Lib.hid q3; clear q3
                go_wp2_with fail
                with_reducible refine (Q1.out _).mono ?_
                rintro e w2 ⟨rfl, hww⟩
                subst hww
                clear Q1
                go_wp2_with fail
                with_reducible refine (Q2.out _).mono ?_
                rintro e w2 ⟨rfl, hww⟩
                subst hww
                clear Q2
                go_wp2_with fail
                with_reducible refine (Q3.out _).mono ?_
                rintro e w2 ⟨rfl, hww⟩
                subst hww
                clear Q3
                go_wp2_with fail
                with_reducible refine (wakes8_c HO2.out).mono ?_
                rintro e w3 ⟨rfl, hO⟩
                have HO3 := Lib.hid hO; clear hO HO2
                go_wp2
                go_ret
                exact HO3.out.yes rfl
              · skip
                have x5 : 65 ≤ a % 256 := by omega
                have x6 : ¬ a % 256 ≤ 90 := by omega
                have x7 : (a % 256 == 45) = false := by simp; omega
                rw [show nbI (a % 256) = false by unfold nbI; simp; omega] at q3
                skip
                have Q3 := Lib.hid q3; clear q3
                go_wp2_with fail
                with_reducible refine (Q1.out _).mono ?_
                rintro e w2 ⟨rfl, hww⟩
                subst hww
                clear Q1
                go_wp2_with fail
                with_reducible refine (Q2.out _).mono ?_
                rintro e w2 ⟨rfl, hww⟩
                subst hww
                clear Q2
                go_wp2_with fail
                with_reducible refine (Q3.out _).mono ?_
                rintro e w2 ⟨rfl, hww⟩
                subst hww
                clear Q3
                go_wp2_with fail
                with_reducible refine (wakes8_c HO2.out).mono ?_
                rintro e w3 ⟨rfl, hO⟩
                have HO3 := Lib.hid hO; clear hO HO2
                go_wp2
                go_ret
                exact HO3.out.yes rfl
            · by_cases x5 : 65 ≤ a % 256
              · by_cases x6 : a % 256 ≤ 90
                · skip
                  rw [show nbI (a % 256) = true by unfold nbI; simp; omega] at q3
                  skip
                  have Q3 := Lib.hid q3; clear q3
                  go_wp2_with fail
                  with_reducible refine (Q1.out _).mono ?_
                  rintro e w2 ⟨rfl, hww⟩
                  subst hww
                  clear Q1
                  go_wp2_with fail
                  with_reducible refine (Q2.out _).mono ?_
                  rintro e w2 ⟨rfl, hww⟩
                  subst hww
                  clear Q2
                  go_wp2_with fail
                  with_reducible refine (Q3.out _).mono ?_
                  rintro e w2 ⟨rfl, hww⟩
                  subst hww
                  clear Q3
                  go_wp2_with fail
                  with_reducible refine (wakes8_c HO2.out).mono ?_
                  rintro e w3 ⟨rfl, hO⟩
                  have HO3 := Lib.hid hO; clear hO HO2
                  go_wp2
                  go_ret
                  exact HO3.out.yes rfl
                · skip
                  have x7 : (a % 256 == 45) = false := by simp; omega
                  rw [show nbI (a % 256) = false by unfold nbI; simp; omega] at q3
                  skip
                  have Q3 := Lib.hid q3; clear q3
                  go_wp2_with fail
                  with_reducible refine (Q1.out _).mono ?_
                  rintro e w2 ⟨rfl, hww⟩
                  subst hww
                  clear Q1
                  go_wp2_with fail
                  with_reducible refine (Q2.out _).mono ?_
                  rintro e w2 ⟨rfl, hww⟩
                  subst hww
                  clear Q2
                  go_wp2_with fail
                  with_reducible refine (Q3.out _).mono ?_
                  rintro e w2 ⟨rfl, hww⟩
                  subst hww
                  clear Q3
                  go_wp2_with fail
                  with_reducible refine (wakes8_c HO2.out).mono ?_
                  rintro e w3 ⟨rfl, hO⟩
                  have HO3 := Lib.hid hO; clear hO HO2
                  go_wp2
                  go_ret
                  exact HO3.out.yes rfl
              · skip
                have x7 : (a % 256 == 45) = false := by simp; omega
                rw [show nbI (a % 256) = false by unfold nbI; simp; omega] at q3
                skip
                have Q3 := Lib.hid q3; clear q3
                go_wp2_with fail
                with_reducible refine (Q1.out _).mono ?_
                rintro e w2 ⟨rfl, hww⟩
                subst hww
                clear Q1
                go_wp2_with fail
                with_reducible refine (Q2.out _).mono ?_
                rintro e w2 ⟨rfl, hww⟩
                subst hww
                clear Q2
                go_wp2_with fail
                with_reducible refine (Q3.out _).mono ?_
                rintro e w2 ⟨rfl, hww⟩
                subst hww
                clear Q3
                go_wp2_with fail
                with_reducible refine (wakes8_c HO2.out).mono ?_
                rintro e w3 ⟨rfl, hO⟩
                have HO3 := Lib.hid hO; clear hO HO2
                go_wp2
                go_ret
                exact HO3.out.yes rfl
        · have x3 : ¬ 97 ≤ a % 256 := by omega
          have x5 : ¬ 65 ≤ a % 256 := by omega
          by_cases x7 : a % 256 = 45
          · skip
            have x8 : (a % 256 == 45) = true := by simp; omega
            rw [show nbI (a % 256) = true by unfold nbI; simp; omega] at q3
            clear x7
            have Q3 := Lib.hid q3; clear q3
            go_wp2_with fail
            with_reducible refine (Q1.out _).mono ?_
            rintro e w2 ⟨rfl, hww⟩
            subst hww
            clear Q1
            go_wp2_with fail
            with_reducible refine (Q2.out _).mono ?_
            rintro e w2 ⟨rfl, hww⟩
            subst hww
            clear Q2
            go_wp2_with fail
            with_reducible refine (Q3.out _).mono ?_
            rintro e w2 ⟨rfl, hww⟩
            subst hww
            clear Q3
            go_wp2_with fail
            with_reducible refine (wakes8_c HO2.out).mono ?_
            rintro e w3 ⟨rfl, hO⟩
            have HO3 := Lib.hid hO; clear hO HO2
            go_wp2
            go_ret
            exact HO3.out.yes rfl
          · skip
            have x8 : (a % 256 == 45) = false := by simp; omega
            rw [show nbI (a % 256) = false by unfold nbI; simp; omega] at q3
            skip
            have Q3 := Lib.hid q3; clear q3
            go_wp2_with fail
            with_reducible refine (Q1.out _).mono ?_
            rintro e w2 ⟨rfl, hww⟩
            subst hww
            clear Q1
            go_wp2_with fail
            with_reducible refine (Q2.out _).mono ?_
            rintro e w2 ⟨rfl, hww⟩
            subst hww
            clear Q2
            go_wp2_with fail
            with_reducible refine (Q3.out _).mono ?_
            rintro e w2 ⟨rfl, hww⟩
            subst hww
            clear Q3
            go_wp2_with fail
            with_reducible refine (wakes8_c HO2.out).mono ?_
            rintro e w3 ⟨rfl, hO⟩
            have HO3 := Lib.hid hO; clear hO HO2
            go_wp2
            go_ret
            exact HO3.out.yes rfl
  · have h1' : ¬ (1 : Int) ≤ n := by omega
    go_wp2
    go_loopw [6, 7, 8] (fun b u t w' => ∃ k : Nat, k ≤ n ∧ b = .bool (nmTo l k) ∧ u = .bool (decide (n ≤ 16) && vokTo l k) ∧ t = .int .i64 k ∧ w' = w1) (fun _ _ t _ => n - (intOf t).toNat)
    case atStart => exact ⟨0, Nat.zero_le _, by unfold nmTo; rw [HLN.out]; simp [h1], by simp [vokTo]; omega, rfl, rfl⟩
    case round =>
      obtain ⟨k, hk, rfl, rfl, rfl, rfl⟩ := hrel
      by_cases hlt : k < n
      · exfalso; omega
      · obtain rfl : k = n := by omega
        have hN : nmTo l k = nameI l := by rw [← HLN.out]; exact nmTo_all l
        have hV : (decide (k ≤ 16) && vokTo l k) = valI l := by rw [← HLN.out]; exact vokTo_all l
        rw [hN, hV]
        clear hN hV
        have q1 : ∀ w, _ := fun w => hname_c (w := w) s
        have q2 : ∀ w, _ := fun w => hvalue_c (w := w) s (by omega)
        have q3 : ∀ w, _ := fun w => hname_c (w := w) (strOfNums [a % 256])
        have hy0 : 0 ≤ a % 256 := by omega
        have hy1 : a % 256 ≤ 255 := by omega
        rw [HSB.out] at q1 q2
        rw [sb_str (by intro z hz; rw [List.mem_singleton] at hz; subst hz; omega), name_one] at q3
        have hcv2 : (convert 22 9 (.slice (some ⟨wr.heap.size, 0, none⟩) 1 1)).run Try.prog (wr.alloc (.cells #[.int .u8 (a % 256)] 5)) = .ok (.string (strOfNums [a % 256])) (wr.alloc (.cells #[.int .u8 (a % 256)] 5)) := convert_str (bs_one HO1.out (a % 256))
        have hix0 := index_sb0 (wr.alloc (.cells #[.int .u8 (a % 256)] 5)) (strOfNums [a % 256]) (by rw [strOfNums_size]; simp)
        rw [sb_str (by intro z hz; rw [List.mem_singleton] at hz; subst hz; omega), show ([a % 256] : List Int).getD 0 0 = a % 256 from rfl] at hix0
        have HO2 := Lib.hid (HO1.out.alloc (.cells #[.int .u8 (a % 256)] 5)).tail
        generalize nameI l = nb at *
        generalize valI l = vb at *
        have Q1 := Lib.hid q1; have Q2 := Lib.hid q2
        clear q1 q2 HO1
        by_cases x1 : 48 ≤ a % 256
        · by_cases x2 : a % 256 ≤ 57
          · skip
            rw [show nbI (a % 256) = true by unfold nbI; simp; omega] at q3
            skip
            have Q3 := Lib.hid q3; clear q3
            go_wp2_with fail
            with_reducible refine (Q1.out _).mono ?_
            rintro e w2 ⟨rfl, hww⟩
            subst hww
            clear Q1
            go_wp2_with fail
            with_reducible refine (Q2.out _).mono ?_
            rintro e w2 ⟨rfl, hww⟩
            subst hww
            clear Q2
            go_wp2_with fail
            with_reducible refine (Q3.out _).mono ?_
            rintro e w2 ⟨rfl, hww⟩
            subst hww
            clear Q3
            go_wp2_with fail
            with_reducible refine (wakes8_c HO2.out).mono ?_
            rintro e w3 ⟨rfl, hO⟩
            have HO3 := Lib.hid hO; clear hO HO2
            go_wp2
            go_ret
            exact HO3.out.yes rfl
          · by_cases x3 : 97 ≤ a % 256
            · by_cases x4 : a % 256 ≤ 122
              · skip
                rw [show nbI (a % 256) = true by unfold nbI; simp; omega] at q3
                skip
                have Q3 := Lib.hid q3; clear q3
                go_wp2_with fail
                with_reducible refine (Q1.out _).mono ?_
                rintro e w2 ⟨rfl, hww⟩
                subst hww
                clear Q1
                go_wp2_with fail
                with_reducible refine (Q2.out _).mono ?_
                rintro e w2 ⟨rfl, hww⟩
                subst hww
                clear Q2
                go_wp2_with fail
                with_reducible refine (Q3.out _).mono ?_
                rintro e w2 ⟨rfl, hww⟩
                subst hww
                clear Q3
                go_wp2_with fail
                with_reducible refine (wakes8_c HO2.out).mono ?_
                rintro e w3 ⟨rfl, hO⟩
                have HO3 := Lib.hid hO; clear hO HO2
                go_wp2
                go_ret
                exact HO3.out.yes rfl
              · skip
                have x5 : 65 ≤ a % 256 := by omega
                have x6 : ¬ a % 256 ≤ 90 := by omega
                have x7 : (a % 256 == 45) = false := by simp; omega
                rw [show nbI (a % 256) = false by unfold nbI; simp; omega] at q3
                skip
                have Q3 := Lib.hid q3; clear q3
                go_wp2_with fail
                with_reducible refine (Q1.out _).mono ?_
                rintro e w2 ⟨rfl, hww⟩
                subst hww
                clear Q1
                go_wp2_with fail
                with_reducible refine (Q2.out _).mono ?_
                rintro e w2 ⟨rfl, hww⟩
                subst hww
                clear Q2
                go_wp2_with fail
                with_reducible refine (Q3.out _).mono ?_
                rintro e w2 ⟨rfl, hww⟩
                subst hww
                clear Q3
                go_wp2_with fail
                with_reducible refine (wakes8_c HO2.out).mono ?_
                rintro e w3 ⟨rfl, hO⟩
                have HO3 := Lib.hid hO; clear hO HO2
                go_wp2
                go_ret
                exact HO3.out.yes rfl
            · by_cases x5 : 65 ≤ a % 256
              · by_cases x6 : a % 256 ≤ 90
                · skip
                  rw [show nbI (a % 256) = true by unfold nbI; simp; omega] at q3
                  skip
                  have Q3 := Lib.hid q3; clear q3
                  go_wp2_with fail
                  with_reducible refine (Q1.out _).mono ?_
                  rintro e w2 ⟨rfl, hww⟩
                  subst hww
                  clear Q1
                  go_wp2_with fail
                  with_reducible refine (Q2.out _).mono ?_
                  rintro e w2 ⟨rfl, hww⟩
                  subst hww
                  clear Q2
                  go_wp2_with fail
                  with_reducible refine (Q3.out _).mono ?_
                  rintro e w2 ⟨rfl, hww⟩
                  subst hww
                  clear Q3
                  go_wp2_with fail
                  with_reducible refine (wakes8_c HO2.out).mono ?_
                  rintro e w3 ⟨rfl, hO⟩
                  have HO3 := Lib.hid hO; clear hO HO2
                  go_wp2
                  go_ret
                  exact HO3.out.yes rfl
                · skip
                  have x7 : (a % 256 == 45) = false := by simp; omega
                  rw [show nbI (a % 256) = false by unfold nbI; simp; omega] at q3
                  skip
                  have Q3 := Lib.hid q3; clear q3
                  go_wp2_with fail
                  with_reducible refine (Q1.out _).mono ?_
                  rintro e w2 ⟨rfl, hww⟩
                  subst hww
                  clear Q1
                  go_wp2_with fail
                  with_reducible refine (Q2.out _).mono ?_
                  rintro e w2 ⟨rfl, hww⟩
                  subst hww
                  clear Q2
                  go_wp2_with fail
                  with_reducible refine (Q3.out _).mono ?_
                  rintro e w2 ⟨rfl, hww⟩
                  subst hww
                  clear Q3
                  go_wp2_with fail
                  with_reducible refine (wakes8_c HO2.out).mono ?_
                  rintro e w3 ⟨rfl, hO⟩
                  have HO3 := Lib.hid hO; clear hO HO2
                  go_wp2
                  go_ret
                  exact HO3.out.yes rfl
              · skip
                have x7 : (a % 256 == 45) = false := by simp; omega
                rw [show nbI (a % 256) = false by unfold nbI; simp; omega] at q3
                skip
                have Q3 := Lib.hid q3; clear q3
                go_wp2_with fail
                with_reducible refine (Q1.out _).mono ?_
                rintro e w2 ⟨rfl, hww⟩
                subst hww
                clear Q1
                go_wp2_with fail
                with_reducible refine (Q2.out _).mono ?_
                rintro e w2 ⟨rfl, hww⟩
                subst hww
                clear Q2
                go_wp2_with fail
                with_reducible refine (Q3.out _).mono ?_
                rintro e w2 ⟨rfl, hww⟩
                subst hww
                clear Q3
                go_wp2_with fail
                with_reducible refine (wakes8_c HO2.out).mono ?_
                rintro e w3 ⟨rfl, hO⟩
                have HO3 := Lib.hid hO; clear hO HO2
                go_wp2
                go_ret
                exact HO3.out.yes rfl
        · have x3 : ¬ 97 ≤ a % 256 := by omega
          have x5 : ¬ 65 ≤ a % 256 := by omega
          by_cases x7 : a % 256 = 45
          · skip
            have x8 : (a % 256 == 45) = true := by simp; omega
            rw [show nbI (a % 256) = true by unfold nbI; simp; omega] at q3
            clear x7
            have Q3 := Lib.hid q3; clear q3
            go_wp2_with fail
            with_reducible refine (Q1.out _).mono ?_
            rintro e w2 ⟨rfl, hww⟩
            subst hww
            clear Q1
            go_wp2_with fail
            with_reducible refine (Q2.out _).mono ?_
            rintro e w2 ⟨rfl, hww⟩
            subst hww
            clear Q2
            go_wp2_with fail
            with_reducible refine (Q3.out _).mono ?_
            rintro e w2 ⟨rfl, hww⟩
            subst hww
            clear Q3
            go_wp2_with fail
            with_reducible refine (wakes8_c HO2.out).mono ?_
            rintro e w3 ⟨rfl, hO⟩
            have HO3 := Lib.hid hO; clear hO HO2
            go_wp2
            go_ret
            exact HO3.out.yes rfl
          · skip
            have x8 : (a % 256 == 45) = false := by simp; omega
            rw [show nbI (a % 256) = false by unfold nbI; simp; omega] at q3
            skip
            have Q3 := Lib.hid q3; clear q3
            go_wp2_with fail
            with_reducible refine (Q1.out _).mono ?_
            rintro e w2 ⟨rfl, hww⟩
            subst hww
            clear Q1
            go_wp2_with fail
            with_reducible refine (Q2.out _).mono ?_
            rintro e w2 ⟨rfl, hww⟩
            subst hww
            clear Q2
            go_wp2_with fail
            with_reducible refine (Q3.out _).mono ?_
            rintro e w2 ⟨rfl, hww⟩
            subst hww
            clear Q3
            go_wp2_with fail
            with_reducible refine (wakes8_c HO2.out).mono ?_
            rintro e w3 ⟨rfl, hO⟩
            have HO3 := Lib.hid hO; clear hO HO2
            go_wp2
            go_ret
            exact HO3.out.yes rfl
set_option maxRecDepth 100000 in
theorem headLetters_lifted (os : Os) (started : os.Started) (H : Type) (enc : TypeId × Value → H) :
    ReturnsInHanded {} Try.checked os 3 .any (Rows.headLettersSpec.pre6 enc Try.prog Try.f3 Rows.headLettersRow.domain false) (Rows.headLettersSpec.post enc Try.prog Try.f3 false true false false) := by
  refine returnsInHanded_of_change (C := Try.checked) (by kernel_rfl) started (by kernel_rfl) Try.func3
    (ChangeSpec.witness6 (enc := enc) (C := Try.checked) false ⟨#[], #[.slice none 0 0, .int .i64 0], []⟩ 8 (by kernel_rfl) (by kernel_rfl) (by kernel_rfl) (by kernel_rfl)) ?_
  intro W base args ds gs before hval0 hW hcnd _
  have hval : ∀ (j : Nat) t v, Try.f3.params[j]? = some t → args[j]? = some v → Value.okWide Try.prog W .any base t v := hval0
  have hW' := hW
  obtain ⟨p, q, hA0, hV, rfl, hfz, hnd⟩ := hW
  have hA : DataW.TrodAll enc Try.prog W 0 (fun _ => true) true Try.f3.params.toList args.toList ds p := hA0
  rw [Try.params3] at hA hval
  obtain ⟨v0, vs0, d0, ds0, p0, q0, hargs, rfl, rfl, h0, r0⟩ := trodAll_cons hA
  obtain ⟨v1, vs1, d1, ds1, p1, q1, rfl, rfl, rfl, h1, r1⟩ := trodAll_cons r0
  obtain ⟨rfl, rfl, rfl⟩ := trodAll_nil r1
  obtain rfl : args = #[v0, v1] := by cases args; simp_all
  obtain ⟨rfl, rfl⟩ := trodVars_none hV
  obtain ⟨b0, len0, cap0, rfl⟩ := okWide_slice Try.underlying22 (hval 0 22 v0 rfl rfl)
  have k0 := h0
  have lt0 : ∀ x ∈ p0, x.block < W.heap.size := by obtain ⟨m, hm⟩ := k0; exact DataW.trod_lt m _ _ _ hm
  obtain ⟨a0, w0⟩ : ∃ xs, InRow .u8 W (.slice b0 len0 cap0) xs := by
    obtain ⟨fuel, hf⟩ := h0
    rcases open_ints Try.underlying22 Try.underlying5 (by kernel_rfl) hf with ⟨hcs, _⟩ | ⟨x, l, c, zs, hcs, _, hl, hm, hz, _, hcell, hwz⟩
    · simp [Value.cells] at hcs
      obtain ⟨rfl, rfl, rfl⟩ := hcs
      exact ⟨[], inRow_nil _ _⟩
    · simp [Value.cells] at hcs
      obtain ⟨rfl, rfl, rfl⟩ := hcs
      exact ⟨zs.take len0, inRow_mk hl hm (by simpa using hz) hcell hwz⟩
  obtain ⟨a1, rfl, rfl, rfl, w1⟩ := open_int Try.underlying3 (hval 1 3 v1 rfl rfl) h1
  clear hA0 hval0
  refine (headLetters_walk _ a0 w0 a1 w1).mono fun e W' ⟨he, bel⟩ => ?_
  subst he
  exact ⟨_, rfl, _, _, _, [], _, [], hW', trodAll_mk1 (shut_bool Try.underlying4 _), (trodAll_cons_mk (Below.trod laidOut (by kernel_rfl) (of_decide_eq_true (by kernel_rfl)) k0 bel lt0) (trodAll_cons_mk (shut_int Try.underlying3 w1) trodAll_mk0)), rfl, bel.frame _, fun h => by cases h⟩

/-- The statement. -/
theorem headLetters_proved : Rows.HeadLettersSaid :=
  OpenClaim.holds_of_wide 3 Try.f3 rfl rfl rfl rfl rfl rfl rfl ⟨rfl, rfl, rfl, rfl, rfl⟩ rfl rfl rfl rfl rfl (by kernel_rfl) Try.func3 (by kernel_rfl)
    (of_decide_eq_true (by kernel_rfl)) (by unfold Func.isWrapper; first | (rw [if_pos (by decide +kernel)]; kernel_rfl) | (rw [if_neg (by decide +kernel)]; exact ⟨rfl, rfl⟩))
    (fun os started H enc _ => headLetters_lifted os started H enc)
end Go.Proofs.Ytbaidlemlkklhaa
