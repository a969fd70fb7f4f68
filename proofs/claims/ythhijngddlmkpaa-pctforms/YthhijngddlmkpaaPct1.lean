/-
  Package pct: isPlain, isBlank, digit, cut.
-/
import Derived.Test.YthhijngddlmkpaaStrOps
import Derived.Test.YthhijngddlmkpaaUtf2
import Derived.Test.YthhijngddlmkpaaBts
namespace Go.Proofs.Ythhijngddlmkpaa
set_option linter.unusedVariables false
set_option linter.unusedSimpArgs false
set_option maxRecDepth 20000
open Go.RowKit

set_option maxHeartbeats 1000000 in
theorem isPlain_c {w : World} (c : Nat) : Calls Try.prog 18 #[.int .i32 (c : Int)] w fun e w' => e = .returned (.bool (plainR c)) ∧ w = w' := by
  rcases (by omega : c = 34 ∨ c = 96 ∨ c = 35 ∨ c = 60 ∨ c = 62 ∨ c = 63 ∨ c = 123 ∨ c = 125 ∨ (c ≠ 34 ∧ c ≠ 96 ∧ c ≠ 35 ∧ c ≠ 60 ∧ c ≠ 62 ∧ c ≠ 63 ∧ c ≠ 123 ∧ c ≠ 125)) with rfl | rfl | rfl | rfl | rfl | rfl | rfl | rfl | h
  iterate 8
    · go_enter Try.func18, Try.ntmps18
      go_wp2
      go_ret
      exact ⟨rfl, rfl⟩
  · obtain ⟨h1, h2, h3, h4, h5, h6, h7, h8⟩ := h
    have t1 : ((c : Int) == 34) = false := by simp; omega
    have t2 : ((c : Int) == 96) = false := by simp; omega
    have t3 : ((c : Int) == 35) = false := by simp; omega
    have t4 : ((c : Int) == 60) = false := by simp; omega
    have t5 : ((c : Int) == 62) = false := by simp; omega
    have t6 : ((c : Int) == 63) = false := by simp; omega
    have t7 : ((c : Int) == 123) = false := by simp; omega
    have t8 : ((c : Int) == 125) = false := by simp; omega
    by_cases h9 : (33 : Int) ≤ c
    · by_cases h10 : (c : Int) ≤ 126
      · have hp : plainR c = true := by rw [plainR_iff]; omega
        rw [hp]
        clear hp h1 h2 h3 h4 h5 h6 h7 h8
        go_enter Try.func18, Try.ntmps18
        go_wp2
        go_ret
        exact ⟨rfl, rfl⟩
      · have hp : plainR c = false := by rw [← Bool.not_eq_true, plainR_iff]; omega
        rw [hp]
        clear hp h1 h2 h3 h4 h5 h6 h7 h8
        go_enter Try.func18, Try.ntmps18
        go_wp2
        go_ret
        exact ⟨rfl, rfl⟩
    · have hp : plainR c = false := by rw [← Bool.not_eq_true, plainR_iff]; omega
      rw [hp]
      clear hp h1 h2 h3 h4 h5 h6 h7 h8
      go_enter Try.func18, Try.ntmps18
      go_wp2
      go_ret
      exact ⟨rfl, rfl⟩
theorem isBlank_c {w : World} (c : Int) : Calls Try.prog 21 #[.int .u8 c] w fun e w' => e = .returned (.bool (blank c)) ∧ w = w' := by
  unfold blank
  go_enter Try.func21, Try.ntmps21
  go_wp2
  go_ret
  exact ⟨rfl, rfl⟩
set_option maxHeartbeats 1000000 in
theorem digit_c {w : World} (c : Int) (hc : 0 ≤ c ∧ c ≤ 255) : Calls Try.prog 25 #[.int .u8 c] w fun e w' => e = .returned (.tuple #[.int .u8 ((digI c).getD 0), .bool (digI c).isSome]) ∧ w = w' := by
  obtain ⟨h0, h1⟩ := hc
  by_cases a1 : 48 ≤ c
  · by_cases a2 : c ≤ 57
    · have e : digI c = some (c - 48) := by unfold digI; rw [if_pos (by omega)]
      rw [e, Option.getD_some, Option.isSome_some]
      clear e
      go_enter Try.func25, Try.ntmps25
      go_wp2
      go_ret2
      exact ⟨rfl, rfl⟩
    · by_cases a3 : 65 ≤ c
      · by_cases a4 : c ≤ 70
        · have e : digI c = some (c - 55) := by unfold digI; rw [if_neg (by omega), if_neg (by omega), if_pos (by omega)]
          rw [e, Option.getD_some, Option.isSome_some, show c - 55 = c - 65 + 10 by omega]
          clear e
          go_enter Try.func25, Try.ntmps25
          go_wp2
          go_ret2
          exact ⟨rfl, rfl⟩
        · by_cases a5 : 97 ≤ c
          · by_cases a6 : c ≤ 102
            · have e : digI c = some (c - 87) := by unfold digI; rw [if_neg (by omega), if_pos (by omega)]
              rw [e, Option.getD_some, Option.isSome_some, show c - 87 = c - 97 + 10 by omega]
              clear e
              go_enter Try.func25, Try.ntmps25
              go_wp2
              go_ret2
              exact ⟨rfl, rfl⟩
            · have e : digI c = none := by unfold digI; rw [if_neg (by omega), if_neg (by omega), if_neg (by omega)]
              rw [e]
              clear e
              go_enter Try.func25, Try.ntmps25
              go_wp2
              go_ret2
              exact ⟨rfl, rfl⟩
          · have e : digI c = none := by unfold digI; rw [if_neg (by omega), if_neg (by omega), if_neg (by omega)]
            rw [e]
            clear e
            go_enter Try.func25, Try.ntmps25
            go_wp2
            go_ret2
            exact ⟨rfl, rfl⟩
      · have a5 : ¬ (97 ≤ c) := by omega
        have e : digI c = none := by unfold digI; rw [if_neg (by omega), if_neg (by omega), if_neg (by omega)]
        rw [e]
        clear e
        go_enter Try.func25, Try.ntmps25
        go_wp2
        go_ret2
        exact ⟨rfl, rfl⟩
  · have a3 : ¬ (65 ≤ c) := by omega
    have a5 : ¬ (97 ≤ c) := by omega
    have e : digI c = none := by unfold digI; rw [if_neg (by omega), if_neg (by omega), if_neg (by omega)]
    rw [e]
    clear e
    go_enter Try.func25, Try.ntmps25
    go_wp2
    go_ret2
    exact ⟨rfl, rfl⟩
theorem index_sb (w : World) (s : ByteArray) (j : Nat) (h : j < s.size) : (Instr.index 9 (.string s) (.int .i64 (j : Int))).run Try.prog w = .ok (.int .u8 ((sb s).getD j 0)) w := by
  rw [run_index_string w _ s .i64 (j : Int) Try.underlying9, dif_pos (by omega)]
  congr 2
  simp only [Int.toNat_natCast]
  rw [List.getD_eq_getElem?_getD, List.getElem?_eq_getElem (by rw [length_sb]; exact h), Option.getD_some]
  simp [sb, ByteArray.getElem_eq_getElem_data]
theorem index_at (w : World) (s : ByteArray) (j : Nat) (k : Int) (hk : (j : Int) = k) (h : j < s.size) : (Instr.index 9 (.string s) (.int .i64 k)).run Try.prog w = .ok (.int .u8 ((sb s).getD j 0)) w := by subst hk; exact index_sb w s j h
theorem index_sb0 (w : World) (s : ByteArray) (h : 0 < s.size) : (Instr.index 9 (.string s) (.int .i64 0)).run Try.prog w = .ok (.int .u8 ((sb s).getD 0 0)) w := index_sb w s 0 h
theorem index_sb1 (w : World) (s : ByteArray) (h : 1 < s.size) : (Instr.index 9 (.string s) (.int .i64 1)).run Try.prog w = .ok (.int .u8 ((sb s).getD 1 0)) w := index_sb w s 1 h
theorem index_sb2 (w : World) (s : ByteArray) (h : 2 < s.size) : (Instr.index 9 (.string s) (.int .i64 2)).run Try.prog w = .ok (.int .u8 ((sb s).getD 2 0)) w := index_sb w s 2 h
theorem sb_from (s : ByteArray) (i : Nat) : sb (s.extract i s.size) = (sb s).drop i := by
  rw [sb_extract, List.take_of_length_le (by rw [length_sb]; exact Nat.le_refl _)]
/-- The first byte that l stands for, and what is left. -/
def cutI : List Int → Option (Int × List Int)
  | [] => none
  | x :: r => if x = 37 then
      (match r with
        | a :: b :: q => (digI a).bind fun h => (digI b).map fun l => (16 * h + l, q)
        | _ => none)
    else some (x, r)
def GotCut (w : World) (o : Option (Int × List Int)) (e : Ending) (w' : World) : Prop :=
  ((∃ c t, o = some (c, sb t) ∧ 0 ≤ c ∧ c ≤ 255 ∧ e = .returned (.tuple #[.int .u8 c, .string t, .bool true])) ∨ (o = none ∧ e = .returned (.tuple #[.int .u8 0, .string ⟨#[]⟩, .bool false]))) ∧ ∃ m, w' = w.drewN m
theorem u8shl4 (h : Int) (h0 : 0 ≤ h) (h1 : h < 16) : IntKind.u8.wrap (h * 16) = h * 16 := by rw [IntKind.wrap_u8']; omega
theorem u8or4 (h l : Int) (h0 : 0 ≤ h) (h1 : h < 16) (l0 : 0 ≤ l) (l1 : l < 16) : bits .or .u8 (h * 16) l = h * 16 + l :=
  bits_join .u8 8 (by decide) wraps_u8 4 (h * 16) l (by omega) (by omega) (by omega) l0 (by omega) (by omega)
set_option maxHeartbeats 1000000 in
theorem cut_c {w : World} (s : ByteArray) (h : 0 < s.size) : Calls Try.prog 20 #[.string s] w (GotCut w (cutI (sb s))) := by
  have hl := length_sb s
  have hB := byt_sb s
  have i0 := index_sb0 w s h
  have i0' := index_sb0 w.drew s h
  cases hsb : sb s with
  | nil => rw [hsb] at hl; simp at hl; omega
  | cons x r =>
    have hx := hB x (by rw [hsb]; exact .head _)
    rw [hsb, List.getD_cons_zero] at i0 i0'
    by_cases h37 : x = 37
    · subst h37
      by_cases h3 : s.size < 3
      · have ho : cutI (37 :: r) = none := by
          rw [hsb] at hl
          match r, hl with
          | [], _ => rfl
          | [_], _ => rfl
          | _ :: _ :: _, hl => simp at hl; omega
        have h3' : (s.size : Int) < 3 := by omega
        have HO := Lib.hid ho
        clear hl hB h h3 ho hsb i0'
        go_enter Try.func20, Try.ntmps20
        go_wp2
        go_ret3
        exact ⟨.inr ⟨HO.out, rfl⟩, 0, rfl⟩
      · match r, hsb with
        | [], hsb => rw [hsb] at hl; simp at hl; omega
        | [_], hsb => rw [hsb] at hl; simp at hl; omega
        | a :: b :: q, hsb =>
          have i1 := index_sb1 w s (by omega)
          have i2 := index_sb2 w s (by omega)
          rw [hsb, List.getD_cons_succ, List.getD_cons_zero] at i1
          rw [hsb, List.getD_cons_succ, List.getD_cons_succ, List.getD_cons_zero] at i2
          have h3' : ¬ ((s.size : Int) < 3) := by omega
          have h3s : (3 : Int) ≤ s.size := by omega
          have ha := hB a (by rw [hsb]; exact .tail _ (.head _))
          have hb := hB b (by rw [hsb]; exact .tail _ (.tail _ (.head _)))
          have hq : sb (s.extract 3 s.size) = q := by rw [sb_from, hsb]; rfl
          have HQ := Lib.hid hq
          have da := Lib.hid (digit_c (w := w) a ha)
          have db := Lib.hid (digit_c (w := w) b hb)
          have ho : cutI (37 :: a :: b :: q) = (digI a).bind fun h => (digI b).map fun l => (16 * h + l, q) := rfl
          cases ea : digI a with
          | none =>
            rw [ea] at ho da
            have HO := Lib.hid ho
            clear hl hB h h3 ho hsb ha hq db i0'
            simp only [Option.getD_none, Option.isSome_none] at da
            have hdb : Hid (Calls Try.prog 25 #[.int .u8 b] w fun e w' => e = .returned (.tuple #[.int .u8 ((digI b).getD 0), .bool (digI b).isSome]) ∧ w = w') := Lib.hid (digit_c (w := w) b hb); clear hb
            go_enter Try.func20, Try.ntmps20
            go_wp2_with fail
            with_reducible refine da.out.mono ?_
            rintro e w1 ⟨rfl, rfl⟩
            go_wp2_with fail
            with_reducible refine hdb.out.mono ?_
            rintro e w1 ⟨rfl, rfl⟩
            go_wp2
            go_ret3
            exact ⟨.inr ⟨HO.out, rfl⟩, 0, rfl⟩
          | some u =>
            have hu := digI_lt ea
            rw [ea] at ho da
            simp only [Option.getD_some, Option.isSome_some] at da
            cases eb : digI b with
            | none =>
              rw [eb] at ho db
              have HO := Lib.hid ho
              clear hl hB h h3 ho hsb ha hb hq i0' ea eb
              simp only [Option.getD_none, Option.isSome_none] at db
              go_enter Try.func20, Try.ntmps20
              go_wp2_with fail
              with_reducible refine da.out.mono ?_
              rintro e w1 ⟨rfl, rfl⟩
              go_wp2_with fail
              with_reducible refine db.out.mono ?_
              rintro e w1 ⟨rfl, rfl⟩
              go_wp2
              go_ret3
              exact ⟨.inr ⟨HO.out, rfl⟩, 0, rfl⟩
            | some v =>
              have hv := digI_lt eb
              rw [eb] at ho db
              simp only [Option.getD_some, Option.isSome_some] at db
              have HO := Lib.hid ho
              have HU := Lib.hid hu
              have HV := Lib.hid hv
              have e1 := u8shl4 u hu.1 hu.2
              have e2 := u8or4 u v hu.1 hu.2 hv.1 hv.2
              clear hl hB h h3 ho hsb ha hb hq i0' ea eb hu hv
              go_enter Try.func20, Try.ntmps20
              go_wp2_with fail
              with_reducible refine da.out.mono ?_
              rintro e w1 ⟨rfl, rfl⟩
              go_wp2_with fail
              with_reducible refine db.out.mono ?_
              rintro e w1 ⟨rfl, rfl⟩
              go_wp2
              refine wp_region_lin (fun w' => w' = w.drew) 9 [(0, true), (1, true), (2, true), (3, true), (4, true), (5, true), (6, true), (7, true), (8, true)] (by kernel_rfl) (by kernel_rfl) (fun _ _ d _ _ h => by cases d <;> exact h) rfl ?_
              simp only [List.map_cons, List.map_nil, pick_zero, pick_succ, List.drop_succ_cons, List.drop_zero]
              iterate 9 (refine lin_q ?_ rfl ?_ ?_; rotate_left 1; (focus (rintro w' rfl; go_simp; first | done | with_reducible rfl | (trace_state; fail))); simp only [Act.put, List.setIfInBounds_toArray, List.set_cons_zero, List.set_cons_succ])
              refine lin_nil ?_
              go_wp2
              go_ret3
              have := HU.out
              have := HV.out
              exact ⟨.inl ⟨_, _, by rw [HO.out, HQ.out]; simp only [Option.bind_some, Option.map_some]; rw [show 16 * u + v = u * 16 + v by omega], by omega, by omega, rfl⟩, 1, rfl⟩
    · have ho : cutI (x :: r) = some (x, sb (s.extract 1 s.size)) := by rw [sb_from, hsb]; simp [cutI, h37]
      have HO := Lib.hid ho
      have HX := Lib.hid hx
      have t : (x != 37) = true := by simp [h37]
      have h1 : (1 : Int) ≤ s.size := by omega
      clear hl hB h hsb h37 ho hx
      go_enter Try.func20, Try.ntmps20
      go_wp2
      refine wp_region_lin (fun w' => w' = w.drew) 7 [(0, true), (1, true), (2, true), (3, true), (4, true), (5, true), (6, true)] (by kernel_rfl) (by kernel_rfl) (fun _ _ d _ _ h => by cases d <;> exact h) rfl ?_
      simp only [List.map_cons, List.map_nil, pick_zero, pick_succ, List.drop_succ_cons, List.drop_zero]
      iterate 7 (refine lin_q ?_ rfl ?_ ?_; rotate_left 1; (focus (rintro w' rfl; go_simp; first | done | with_reducible rfl | (trace_state; fail))); simp only [Act.put, List.setIfInBounds_toArray, List.set_cons_zero, List.set_cons_succ])
      refine lin_nil ?_
      go_wp2
      go_ret3
      exact ⟨.inl ⟨_, _, HO.out, HX.out.1, HX.out.2, rfl⟩, 1, rfl⟩
end Go.Proofs.Ythhijngddlmkpaa
