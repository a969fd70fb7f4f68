/-
  Texts that the laws stand on: Pct1, Pct6, Url2, Url3, Bld, Strs, Pct2, Pct3, Pct5, Pct8, Url4, Pct7, Url5, Url6.
-/
import Derived.Test.YtfgaikacijdodaaDoorM2
import Derived.Lib.UnsafeStr
import Derived.Lib.BufferWrite
import Derived.Lib.RuneBytes
import Derived.OpenShut
import Derived.Lib.ConvBytes
import Derived.Deep.DeepCutAuto
import Derived.Deep.CutBlock

/-
  Package pct: isPlain, isBlank, digit, cut.
-/
namespace Go.Proofs.YtfgaikacijdodaaDoor
set_option linter.unusedVariables false
set_option linter.unusedSimpArgs false
set_option maxRecDepth 20000
open Go.RowKit

set_option maxHeartbeats 1000000 in
theorem isPlain_c {w : World} (c : Nat) : Calls Tryd.prog 52 #[.int .i32 (c : Int)] w fun e w' => e = .returned (.bool (plainR c)) ∧ w = w' := by
  rcases (by omega : c = 34 ∨ c = 96 ∨ c = 35 ∨ c = 60 ∨ c = 62 ∨ c = 63 ∨ c = 123 ∨ c = 125 ∨ (c ≠ 34 ∧ c ≠ 96 ∧ c ≠ 35 ∧ c ≠ 60 ∧ c ≠ 62 ∧ c ≠ 63 ∧ c ≠ 123 ∧ c ≠ 125)) with rfl | rfl | rfl | rfl | rfl | rfl | rfl | rfl | h
  iterate 8
    · go_enter Tryd.func52, Tryd.ntmps52
      go_wp2
      go_ret
      exact ⟨rfl, rfl⟩
  · obtain ⟨h1, h2, h3, h4, h5, h6, h7, h8⟩ := h
    have t1 : ((c : Int) == 34) = false := by simp; omega
    have t2 : ((c : Int) == 96) = false := by simp; omega
    have t3 : ((c : Int) == 35) = false := by simp; omega
    have t4 : ((c : Int) == 60) = false := by simp; omega
    have t5 : ((c : Int) == 62) = false := by simp; omega
    have t6 : ((c : Int) == 63) = false := by simp; omega
    have t7 : ((c : Int) == 123) = false := by simp; omega
    have t8 : ((c : Int) == 125) = false := by simp; omega
    by_cases h9 : (33 : Int) ≤ c
    · by_cases h10 : (c : Int) ≤ 126
      · have hp : plainR c = true := by rw [plainR_iff]; omega
        rw [hp]
        clear hp h1 h2 h3 h4 h5 h6 h7 h8
        go_enter Tryd.func52, Tryd.ntmps52
        go_wp2
        go_ret
        exact ⟨rfl, rfl⟩
      · have hp : plainR c = false := by rw [← Bool.not_eq_true, plainR_iff]; omega
        rw [hp]
        clear hp h1 h2 h3 h4 h5 h6 h7 h8
        go_enter Tryd.func52, Tryd.ntmps52
        go_wp2
        go_ret
        exact ⟨rfl, rfl⟩
    · have hp : plainR c = false := by rw [← Bool.not_eq_true, plainR_iff]; omega
      rw [hp]
      clear hp h1 h2 h3 h4 h5 h6 h7 h8
      go_enter Tryd.func52, Tryd.ntmps52
      go_wp2
      go_ret
      exact ⟨rfl, rfl⟩
theorem isBlank_c {w : World} (c : Int) : Calls Tryd.prog 38 #[.int .u8 c] w fun e w' => e = .returned (.bool (blank c)) ∧ w = w' := by
  unfold blank
  go_enter Tryd.func38, Tryd.ntmps38
  go_wp2
  go_ret
  exact ⟨rfl, rfl⟩
theorem index_sb (w : World) (s : ByteArray) (j : Nat) (h : j < s.size) : (Instr.index 9 (.string s) (.int .i64 (j : Int))).run Tryd.prog w = .ok (.int .u8 ((sb s).getD j 0)) w := by
  rw [run_index_string w _ s .i64 (j : Int) Tryd.underlying9, dif_pos (by omega)]
  congr 2
  simp only [Int.toNat_natCast]
  rw [List.getD_eq_getElem?_getD, List.getElem?_eq_getElem (by rw [length_sb]; exact h), Option.getD_some]
  simp [sb, ByteArray.getElem_eq_getElem_data]
theorem index_at (w : World) (s : ByteArray) (j : Nat) (k : Int) (hk : (j : Int) = k) (h : j < s.size) : (Instr.index 9 (.string s) (.int .i64 k)).run Tryd.prog w = .ok (.int .u8 ((sb s).getD j 0)) w := by subst hk; exact index_sb w s j h
theorem index_sb0 (w : World) (s : ByteArray) (h : 0 < s.size) : (Instr.index 9 (.string s) (.int .i64 0)).run Tryd.prog w = .ok (.int .u8 ((sb s).getD 0 0)) w := index_sb w s 0 h
theorem index_sb1 (w : World) (s : ByteArray) (h : 1 < s.size) : (Instr.index 9 (.string s) (.int .i64 1)).run Tryd.prog w = .ok (.int .u8 ((sb s).getD 1 0)) w := index_sb w s 1 h
theorem index_sb2 (w : World) (s : ByteArray) (h : 2 < s.size) : (Instr.index 9 (.string s) (.int .i64 2)).run Tryd.prog w = .ok (.int .u8 ((sb s).getD 2 0)) w := index_sb w s 2 h
theorem sb_from (s : ByteArray) (i : Nat) : sb (s.extract i s.size) = (sb s).drop i := by
  rw [sb_extract, List.take_of_length_le (by rw [length_sb]; exact Nat.le_refl _)]
/-- The first byte that l stands for, and what is left. -/
def cutI : List Int → Option (Int × List Int)
  | [] => none
  | x :: r => if x = 37 then
      (match r with
        | a :: b :: q => (digI a).bind fun h => (digI b).map fun l => (16 * h + l, q)
        | _ => none)
    else some (x, r)
def GotCut (w : World) (o : Option (Int × List Int)) (e : Ending) (w' : World) : Prop :=
  ((∃ c t, o = some (c, sb t) ∧ 0 ≤ c ∧ c ≤ 255 ∧ e = .returned (.tuple #[.int .u8 c, .string t, .bool true])) ∨ (o = none ∧ e = .returned (.tuple #[.int .u8 0, .string ⟨#[]⟩, .bool false]))) ∧ ∃ m, w' = w.drewN m
theorem u8shl4 (h : Int) (h0 : 0 ≤ h) (h1 : h < 16) : IntKind.u8.wrap (h * 16) = h * 16 := by rw [IntKind.wrap_u8']; omega
theorem u8or4 (h l : Int) (h0 : 0 ≤ h) (h1 : h < 16) (l0 : 0 ≤ l) (l1 : l < 16) : bits .or .u8 (h * 16) l = h * 16 + l :=
  bits_join .u8 8 (by decide) wraps_u8 4 (h * 16) l (by omega) (by omega) (by omega) l0 (by omega) (by omega)
end Go.Proofs.YtfgaikacijdodaaDoor
/-
  Trim: the program's and the document's.
-/
namespace Go.Proofs.YtfgaikacijdodaaDoor
set_option linter.unusedVariables false
set_option linter.unusedSimpArgs false
set_option maxRecDepth 20000
open Go.RowKit

/-! ### what is left between two places -/
def win (l : List Int) (f t : Nat) : List Int := (l.take t).drop f
theorem win_len (l : List Int) (f t : Nat) (ht : t ≤ l.length) : (win l f t).length = t - f := by unfold win; simp; omega
theorem win_head (l : List Int) (f t : Nat) (h : f < t) (ht : t ≤ l.length) : win l f t = (l.getD f 0) :: win l (f + 1) t := by
  unfold win
  have hf : f < (l.take t).length := by simp; omega
  rw [List.drop_eq_getElem_cons hf]
  congr 1
  simp [List.getD_eq_getElem?_getD, List.getElem?_eq_getElem (show f < l.length by omega)]
theorem win_last (l : List Int) (f t : Nat) (h : f ≤ t) (ht : t < l.length) : win l f (t + 1) = win l f t ++ [l.getD t 0] := by
  unfold win
  rw [List.take_succ_eq_append_getElem ht, List.drop_append_of_le_length (by simp; omega)]
  simp [List.getD_eq_getElem?_getD, List.getElem?_eq_getElem ht]
theorem trim_front {x : Int} {l : List Int} (h : blank x = true) : trimI (x :: l) = trimI l := by unfold trimI; rw [List.dropWhile_cons_of_pos h]
theorem trim_back {x : Int} {l : List Int} (h : blank x = true) : trimI (l ++ [x]) = trimI l := by
  unfold trimI
  rw [List.dropWhile_append]
  cases hd : l.dropWhile blank with
  | nil => simp [h]
  | cons y d =>
    simp only [List.isEmpty_cons, Bool.false_eq_true, if_false]
    rw [List.reverse_append, List.reverse_singleton, List.singleton_append, List.dropWhile_cons_of_pos h]
theorem trim_done {l : List Int} (h1 : ∀ x r, l = x :: r → blank x = false) (h2 : ∀ r x, l = r ++ [x] → blank x = false) : trimI l = l := by
  unfold trimI
  cases l with
  | nil => rfl
  | cons x r =>
    rw [List.dropWhile_cons_of_neg (by rw [h1 x r rfl]; simp)]
    rcases List.eq_nil_or_concat (x :: r) with e | ⟨r', y, e⟩
    · cases e
    · rw [List.concat_eq_append] at e
      rw [e, List.reverse_append, List.reverse_singleton, List.singleton_append, List.dropWhile_cons_of_neg (by rw [h2 r' y e]; simp)]
      simp
def strSize : Value → Nat
  | .string s => s.size
  | _ => 0
theorem win_all (l : List Int) : win l 0 l.length = l := by unfold win; simp
theorem sb_win (s : ByteArray) (f t : Nat) : sb (s.extract f t) = win (sb s) f t := sb_extract s f t
set_option maxHeartbeats 4000000 in
theorem sclone_c {w0 w : World} {R : Blks} (hO : Own w0 w R) (s : ByteArray) (hs : s.size ≤ 1073741824) :
    Calls Tryd.prog 55 #[.string s] w fun e w' => e = .returned (.string s) ∧ Own w0 w' R := by
  by_cases h0 : s.size = 0
  · have he : s = ⟨#[]⟩ := sb_inj (by rw [List.eq_nil_of_length_eq_zero (by rw [length_sb]; exact h0) (l := sb s)]; rfl)
    subst he
    have HO := Lib.hid hO
    clear hO h0 hs
    go_enter Tryd.func55, Tryd.ntmps55
    go_wp2
    go_ret
    exact ⟨rfl, HO.out⟩
  · have hz1 : (Tryd.prog.info? 5).map (·.size) = some 1 := by kernel_rfl
    have hco : Tryd.prog.cellsOf 5 = 1 := by kernel_rfl
    have hmk := make_bytes s.size hs w
    obtain ⟨M, hM⟩ : ∃ M, M = (bv (List.replicate s.size 0)).toArray := ⟨_, rfl⟩
    rw [← hM] at hmk
    have hMs : M.size = s.size := by rw [hM]; simp
    have hcp := Lib.run_copy_row_string (P := Tryd.prog) (w.alloc (.cells M 5)) 64 9 3 5 w.heap.size 0 s.size s.size s M 5 Tryd.underlying64 hz1 (heap_alloc_new w _) (Nat.le_refl _) (by omega)
    obtain ⟨Y, hY⟩ : ∃ Y, Y = (M.toList.take 0 ++ Lib.byteCells s.data.toList ++ M.toList.drop (0 + s.size)).toArray := ⟨_, rfl⟩
    rw [← hY] at hcp
    have hYl : Y.toList = Lib.byteCells s.data.toList := by
      rw [hY, List.toList_toArray, List.take_zero, List.nil_append, List.drop_of_length_le (by rw [Array.length_toList]; omega), List.append_nil]
    have hYs : Y.size = s.size := by rw [← Array.length_toList, hYl, Lib.byteCells_length, ← Lib.size_eq]
    have hgY : ((w.alloc (.cells M 5)).setRow w.heap.size Y).heap[w.heap.size]? = some (.cells Y 5 (0, 0)) := setRow_heap _ _ M _ 5 (0, 0) (heap_alloc_new w _)
    have hne : s.data.toList ≠ [] := fun e => h0 (by rw [Lib.size_eq, e]; rfl)
    have hUS := Lib.run_unsafeString_row (P := Tryd.prog) ((w.alloc (.cells M 5)).setRow w.heap.size Y) 83 3 9 5 Tryd.underlying83 hco w.heap.size Y.size (by unfold World.shape?; rw [hgY]) s.data.toList hne (by rw [← Lib.size_eq]; omega) (by rw [← Lib.size_eq]; omega)
      (fun j x hx => Lib.cells_of_row hgY Y.size j _ (by rw [List.take_of_length_le (by rw [Array.length_toList]; exact Nat.le_refl _), hYl]; simp [Lib.byteCells, hx]))
    rw [← Lib.size_eq] at hUS
    have hsd : (⟨s.data.toList.toArray⟩ : ByteArray) = s := by simp
    rw [hsd] at hUS
    have hb1 : Below w.heap.size w (w.alloc (.cells M 5)) := (Below.refl _ w).alloc (Nat.le_refl _) _
    have hb2 : Below w.heap.size (w.alloc (.cells M 5)) ((w.alloc (.cells M 5)).setRow w.heap.size Y) := ⟨rfl, rfl, rfl, by simp, fun k hk => setRow_other _ _ _ _ (by omega)⟩
    have hOf := hO.same (Lib.below_freeze (hb1.trans hb2) (p := ⟨w.heap.size, 0, none⟩) (Nat.le_refl _) s.size)
    have HO := Lib.hid hOf
    have hp : (0 : Int) < s.size := by omega
    have hne0 : ((s.size : Int) == 0) = false := beq_eq_false_iff_ne.2 (by omega)
    clear hO hY hM hOf hb1 hb2 hne hgY hYl hsd hz1 hco hMs hYs
    go_enter Tryd.func55, Tryd.ntmps55
    go_wp2
    go_ret
    exact ⟨rfl, HO.out⟩
theorem clone_c {w0 w : World} {R : Blks} (hO : Own w0 w R) (s : ByteArray) (hs : s.size ≤ 1073741824) :
    Calls Tryd.prog 39 #[.string s] w fun e w' => e = .returned (.string s) ∧ Own w0 w' R := by
  have H := Lib.hid (sclone_c hO s hs)
  clear hO
  go_enter Tryd.func39, Tryd.ntmps39
  go_wp2_with fail
  with_reducible refine H.out.mono ?_
  rintro e w1 ⟨rfl, hO1⟩
  have HO1 := Lib.hid hO1; clear hO1 H
  go_wp2
  go_ret
  exact ⟨rfl, HO1.out⟩
theorem blank_iff (x : Int) : blank x = true ↔ x ≤ 32 := by unfold blank; exact decide_eq_true_iff
theorem win_empty (l : List Int) (f : Nat) : win l f f = [] := by unfold win; exact List.drop_eq_nil_of_le (by simp; omega)
theorem ext_empty (s : ByteArray) (f : Nat) : s.extract f f = ByteArray.empty := sb_inj (by rw [sb_win, win_empty]; rfl)
theorem win_trim {l : List Int} {f t : Nat} (h : f < t) (ht : t ≤ l.length) (h1 : blank (l.getD f 0) = false) (h2 : blank (l.getD (t - 1) 0) = false) : trimI (win l f t) = win l f t := by
  apply trim_done
  · intro x r e
    rw [win_head l f t h ht] at e
    injection e with e1 e2
    rw [← e1]; exact h1
  · intro r x e
    have h3 := win_last l f (t - 1) (by omega) (by omega)
    rw [show t - 1 + 1 = t by omega] at h3
    rw [h3] at e
    have := List.append_inj' e rfl
    have e2 : [l.getD (t - 1) 0] = [x] := this.2
    injection e2 with e3
    rw [← e3]; exact h2
set_option maxHeartbeats 4000000 in
theorem trim_c {w0 w : World} {R : Blks} (hO : Own w0 w R) (s : ByteArray) (hs : s.size ≤ 1073741824) :
    Calls Tryd.prog 18 #[.string s] w fun e w' => e = .returned (.string (strOfNums (trimI (sb s)))) ∧ Own w0 w' R := by
  have HO := Lib.hid hO
  obtain ⟨l, hl⟩ : ∃ l, sb s = l := ⟨_, rfl⟩
  obtain ⟨n, hn⟩ : ∃ n, s.size = n := ⟨_, rfl⟩
  have hln : l.length = n := by rw [← hl, ← hn]; exact length_sb s
  have HL := Lib.hid hl; have HN := Lib.hid hn; have HLN := Lib.hid hln
  have hfin : ∀ f t, f ≤ t → t ≤ n → trimI l = win l f t → Hid (Calls Tryd.prog 39 #[.string (s.extract f t)] w fun e w' => e = .returned (.string (strOfNums (trimI l))) ∧ Own w0 w' R) := by
    intro f t h1 h2 h3
    have hlen : (s.extract f t).size ≤ 1073741824 := by rw [← length_sb, sb_win, win_len _ _ _ (by rw [length_sb, hn]; exact h2)]; omega
    have := clone_c hO (s.extract f t) hlen
    have e : s.extract f t = strOfNums (trimI l) := by rw [← str_sb (s.extract f t), sb_win, hl, h3]
    rw [← e]
    exact this
  have HF := Lib.hid hfin
  have hT0 : trimI (win l 0 n) = trimI l := by rw [← hln, win_all]
  have HT0 := Lib.hid hT0
  rw [hl]
  rw [hn] at hs
  clear hO hl hln hfin hT0
  go_enter Tryd.func18, Tryd.ntmps18
  go_wp2
  clear hn
  go_loopw [3] (fun u w' => ∃ f : Nat, f ≤ n ∧ u = .int .i64 f ∧ Hid (trimI (win l f n) = trimI l) ∧ w' = w) (fun u _ => n - (intOf u).toNat)
  case atStart => exact ⟨0, Nat.zero_le _, rfl, HT0, rfl⟩
  case round =>
    obtain ⟨f, hf, rfl, HT, rfl⟩ := hrel
    by_cases hlt : f < n
    · have hix := index_sb wr s f (by rw [HN.out]; exact hlt)
      have hwh := win_head l f n hlt (by rw [HLN.out]; exact Nat.le_refl _)
      rw [HL.out] at hix
      have HW := Lib.hid hwh
      have hfn : (f : Int) < n := by omega
      clear hwh
      generalize hx : l.getD f 0 = x at *
      have HX := Lib.hid hx
      clear hx
      by_cases hb : x ≤ 32
      · have ht : trimI (win l (f + 1) n) = trimI l := by rw [← HT.out, HW.out, trim_front ((blank_iff x).2 hb)]
        have HT1 := Lib.hid ht
        clear ht
        go_wp2
        go_roundw
        case rel => exact ⟨f + 1, by omega, by go_num, HT1, trivial⟩
        case measure => simp [intOf]; omega
      · have HB := Lib.hid hb
        have hbf : blank (l.getD f 0) = false := by rw [HX.out]; rw [← Bool.not_eq_true, blank_iff]; exact hb
        have HBF := Lib.hid hbf
        clear hbf
        go_wp2
        clear hix hb HB
        go_loopw [4] (fun u w' => ∃ t : Nat, f ≤ t ∧ t ≤ n ∧ u = .int .i64 t ∧ Hid (trimI (win l f t) = trimI l) ∧ w' = wr) (fun u _ => (intOf u).toNat)
        case atStart => exact ⟨n, hf, Nat.le_refl _, rfl, HT, rfl⟩
        case round =>
          obtain ⟨t, hft, htn, rfl, HT2, rfl⟩ := hrel
          by_cases hlt2 : f < t
          · have hix2 := index_at wr s (t - 1) ((t : Int) - 1) (by omega) (by rw [HN.out]; omega)
            have hwl := win_last l f (t - 1) (by omega) (by rw [HLN.out]; omega)
            rw [show t - 1 + 1 = t by omega] at hwl
            have hwt := win_trim (l := l) hlt2 (by rw [HLN.out]; exact htn) HBF.out
            rw [HL.out] at hix2
            have HW2 := Lib.hid hwl; have HWT := Lib.hid hwt
            have hft' : (f : Int) < t := by omega
            have ht1 : (1 : Int) ≤ t := by omega
            clear hwl hwt
            generalize hy : l.getD (t - 1) 0 = y at *
            clear hy
            by_cases hb : y ≤ 32
            · have ht : trimI (win l f (t - 1)) = trimI l := by rw [← HT2.out, HW2.out, trim_back ((blank_iff y).2 hb)]
              have HT3 := Lib.hid ht
              clear ht
              go_wp2
              go_roundw
              case rel => exact ⟨t - 1, by omega, by omega, by go_num, HT3, trivial⟩
              case measure => simp [intOf]; omega
            · have hbl : blank y = false := by rw [← Bool.not_eq_true, blank_iff]; exact hb
              have hcall := HF.out f t hft htn (by rw [← HT2.out]; exact HWT.out hbl)
              have hts : (t : Int) ≤ s.size := by rw [HN.out]; omega
              have hftI : (f : Int) ≤ t := by omega
              have hcb := isBlank_c (w := wr) y
              rw [hbl] at hcb
              have HCB := Lib.hid hcb
              clear hbl hcb
              go_wp2_with fail
              with_reducible refine HCB.out.mono ?_
              rintro e w2 ⟨rfl, rfl⟩
              go_wp2_with fail
              with_reducible refine hcall.out.mono ?_
              rintro e w3 ⟨rfl, hO3⟩
              have HO3 := Lib.hid hO3; clear hO3
              go_wp2
              go_ret
              exact ⟨rfl, HO3.out⟩
          · obtain rfl : t = f := by omega
            have hcall := HF.out t t (Nat.le_refl _) htn (by rw [← HT2.out, win_empty]; rfl)
            rw [ext_empty s t] at hcall
            have hts : (t : Int) ≤ s.size := by rw [HN.out]; omega
            go_wp2_with fail
            with_reducible refine hcall.out.mono ?_
            rintro e w3 ⟨rfl, hO3⟩
            have HO3 := Lib.hid hO3; clear hO3
            go_wp2
            go_ret
            exact ⟨rfl, HO3.out⟩
    · obtain rfl : f = n := by omega
      have hcall := HF.out f f (Nat.le_refl _) (Nat.le_refl _) (by rw [← HT.out, win_empty]; rfl)
      rw [ext_empty s f] at hcall
      have hts : (f : Int) ≤ s.size := by rw [HN.out]; omega
      go_wp2
      go_loopw [4] (fun u w' => u = .int .i64 f ∧ w' = wr) (fun _ _ => 0)
      case atStart => exact ⟨rfl, rfl⟩
      case round =>
        obtain ⟨rfl, rfl⟩ := hrel
        go_wp2_with fail
        with_reducible refine hcall.out.mono ?_
        rintro e w3 ⟨rfl, hO3⟩
        have HO3 := Lib.hid hO3; clear hO3
        go_wp2
        go_ret
        exact ⟨rfl, HO3.out⟩
end Go.Proofs.YtfgaikacijdodaaDoor
/-
  The document's own helps of URLs: until, begins, Host, Digits, Figures, own.
-/
namespace Go.Proofs.YtfgaikacijdodaaDoor
set_option linter.unusedVariables false
set_option linter.unusedSimpArgs false
set_option maxRecDepth 20000
open Go.RowKit

theorem contains_of {st : List Int} {k : Nat} (hk : k < st.length) (c : Int) (h : c = st.getD k 0) : st.contains c = true := by
  rw [List.getD_eq_getElem?_getD, List.getElem?_eq_getElem hk, Option.getD_some] at h
  subst h
  simp
theorem contains_no {st : List Int} {c : Int} (h : ∀ k, k < st.length → c ≠ st.getD k 0) : st.contains c = false := by
  rw [← Bool.not_eq_true]
  intro e
  have hm : c ∈ st := by simpa using e
  obtain ⟨k, hk, e⟩ := List.getElem_of_mem hm
  exact h k hk (by rw [List.getD_eq_getElem?_getD, List.getElem?_eq_getElem hk, Option.getD_some, e])
/-- A string held against a constant, as the walk has it. -/
theorem beq_lit (s : ByteArray) (bs : List UInt8) : (s.toList == bs) = decide (sb s = bs.map fun b => (b.toNat : Int)) := by
  have h := beq_sb s ⟨bs.toArray⟩
  have e : (⟨bs.toArray⟩ : ByteArray).toList = bs := ByteArray.toList_mk bs
  rw [e] at h
  rw [h]
  rfl
end Go.Proofs.YtfgaikacijdodaaDoor
/-
  The document's own Digits, Origin, Print, SameOrigin, Secure.
-/
namespace Go.Proofs.YtfgaikacijdodaaDoor
set_option linter.unusedVariables false
set_option linter.unusedSimpArgs false
set_option maxRecDepth 20000
open Go.RowKit

theorem strs_app (x y : List Int) : strOfNums (x ++ y) = strOfNums x ++ strOfNums y := by
  apply ba_ext
  simp [strOfNums_data]
theorem drewN_drew (w : World) (m : Nat) : w.drew.drewN m = w.drewN (m + 1) := by
  show ({ w with drawn := w.drawn + 1 + m } : World) = { w with drawn := w.drawn + (m + 1) }
  congr 1; omega
theorem digs_at (k : Nat) (h : k < 10) : ∃ d : ByteArray, ∀ w : World, (Instr.slice 9 (.string ⟨#[48, 49, 50, 51, 52, 53, 54, 55, 56, 57]⟩) (some (.int .i64 (k : Int))) none none).run Tryd.prog w = .ok (.string d) w ∧ (Instr.slice 9 (.string d) none (some (.int .i64 1)) none).run Tryd.prog w = .ok (.string (strOfNums [48 + (k : Int)])) w := by
  rcases (by omega : k = 0 ∨ k = 1 ∨ k = 2 ∨ k = 3 ∨ k = 4 ∨ k = 5 ∨ k = 6 ∨ k = 7 ∨ k = 8 ∨ k = 9) with rfl | rfl | rfl | rfl | rfl | rfl | rfl | rfl | rfl | rfl
  · exact ⟨⟨#[48, 49, 50, 51, 52, 53, 54, 55, 56, 57]⟩, fun w => ⟨by kernel_rfl, by kernel_rfl⟩⟩
  · exact ⟨⟨#[49, 50, 51, 52, 53, 54, 55, 56, 57]⟩, fun w => ⟨by kernel_rfl, by kernel_rfl⟩⟩
  · exact ⟨⟨#[50, 51, 52, 53, 54, 55, 56, 57]⟩, fun w => ⟨by kernel_rfl, by kernel_rfl⟩⟩
  · exact ⟨⟨#[51, 52, 53, 54, 55, 56, 57]⟩, fun w => ⟨by kernel_rfl, by kernel_rfl⟩⟩
  · exact ⟨⟨#[52, 53, 54, 55, 56, 57]⟩, fun w => ⟨by kernel_rfl, by kernel_rfl⟩⟩
  · exact ⟨⟨#[53, 54, 55, 56, 57]⟩, fun w => ⟨by kernel_rfl, by kernel_rfl⟩⟩
  · exact ⟨⟨#[54, 55, 56, 57]⟩, fun w => ⟨by kernel_rfl, by kernel_rfl⟩⟩
  · exact ⟨⟨#[55, 56, 57]⟩, fun w => ⟨by kernel_rfl, by kernel_rfl⟩⟩
  · exact ⟨⟨#[56, 57]⟩, fun w => ⟨by kernel_rfl, by kernel_rfl⟩⟩
  · exact ⟨⟨#[57]⟩, fun w => ⟨by kernel_rfl, by kernel_rfl⟩⟩
/-- A URL as a value. -/
def UL.val (u : UL) : List Value := [.string (strOfNums u.sch), .string (strOfNums u.host), .int .i64 u.port, .string (strOfNums u.path), .string (strOfNums u.query)]
def UL.Ok (u : UL) : Prop := u.sch.length ≤ 1000000000 ∧ u.host.length ≤ 1000000000 ∧ u.path.length ≤ 1000000000 ∧ u.query.length ≤ 1000000000 ∧ 0 ≤ u.port ∧ u.port < 1000000000000000000
theorem originI_len {u : UL} (h : u.Ok) : (originI u).length ≤ 2000000025 := by
  unfold originI
  have := (digs_len u.port.toNat).2
  have h1 := h.1; have h2 := h.2.1
  split <;> simp <;> omega
def printS (u : UL) : ByteArray := strOfNums (printI u)
theorem printI_len {u : UL} (h : u.Ok) : (printI u).length ≤ 4000000025 := by
  unfold printI
  have := originI_len h
  have h1 := h.2.2.1; have h2 := h.2.2.2.1
  simp; omega
end Go.Proofs.YtfgaikacijdodaaDoor
/-
  Rows that a walk builds: their bytes; blocks put behind, struck out.
-/
namespace Go.Proofs.YtfgaikacijdodaaDoor
set_option linter.unusedVariables false
set_option linter.unusedSimpArgs false
set_option maxRecDepth 20000
open Go.RowKit

theorem bs_one {w0 w : World} {R : Blks} (hO : Own w0 w R) (x : Int) : Bs (w.alloc (.cells (bv [x]).toArray 5)) (.slice (some ⟨w.heap.size, 0, none⟩) 1 1) [x] :=
  (isBytes_whole w.heap.size [x] (by simp)).bs (R := R) (hO.alloc _)
theorem bs_two {w0 w : World} {R : Blks} (hO : Own w0 w R) (x y : Int) : Bs (w.alloc (.cells (bv [x, y]).toArray 5)) (.slice (some ⟨w.heap.size, 0, none⟩) 2 2) [x, y] :=
  (isBytes_whole w.heap.size [x, y] (by simp)).bs (R := R) (hO.alloc _)
theorem Own.put2 {w0 w : World} {L R : Blks} (hO : Own w0 w (L ++ R)) (o : Obj) : Own w0 (w.alloc o) (L ++ ((w.heap.size, o) :: R)) := (hO.alloc o).perm List.perm_middle.symm
theorem Own.strike {w0 w : World} {L R : Blks} {g : Nat} {o : Obj} (hO : Own w0 w (L ++ ((g, o) :: R))) : Own w0 w (L ++ R) := hO.sub ((List.Sublist.refl L).append ((List.Sublist.refl R).cons _))
theorem Own.cast {w0 w : World} {L L' : Blks} (h : Own w0 w L) (e : L = L') : Own w0 w L' := e ▸ h
theorem IsBytes.cast {v : Value} {xs ys : List Int} {L : Blks} (h : IsBytes v xs L) (e : xs = ys) : IsBytes v ys L := e ▸ h
def GotB (w0 : World) (R : Blks) (xs : List Int) (e : Ending) (w' : World) : Prop := ∃ v L, e = .returned v ∧ IsBytes v xs L ∧ Own w0 w' (L ++ R)
theorem bs_new {w0 w : World} {R : Blks} (hO : Own w0 w R) (xs : List Int) (n : Nat) (hn : xs.length = n) (hl : n ≤ 1073741824) : Bs (w.alloc (.cells (bv xs).toArray 5)) (.slice (some ⟨w.heap.size, 0, none⟩) n n) xs := by
  subst hn
  exact (isBytes_whole w.heap.size xs hl).bs (R := R) (hO.alloc _)
end Go.Proofs.YtfgaikacijdodaaDoor
/-
  Slices of strings in blocks of the call's own.
-/
namespace Go.Proofs.YtfgaikacijdodaaDoor
set_option linter.unusedVariables false
set_option linter.unusedSimpArgs false
set_option maxRecDepth 20000
open Go.RowKit

theorem string_info : (Tryd.prog.info? 9).map (fun i => (i.zero, i.size, i.bytes)) = some (some (.string ⟨#[]⟩), 1, 16) := by kernel_rfl
def sv (ss : List ByteArray) : List Value := ss.map Value.string
@[simp] theorem length_sv (ss : List ByteArray) : (sv ss).length = ss.length := by simp [sv]
theorem one_sv (ss : List ByteArray) : ∀ v ∈ sv ss, v.oneCell' = true := by intro v hv; simp only [sv, List.mem_map] at hv; obtain ⟨x, _, rfl⟩ := hv; rfl
/-- A slice of strings in blocks of its own. -/
def IsStrs (v : Value) (ss : List ByteArray) (L : Blks) : Prop := IsRow 9 1 v ss.length (sv ss) L
theorem isStrs_nil : IsStrs (.slice none 0 0) [] [] := ⟨rfl, .inl ⟨rfl, rfl, rfl⟩⟩
theorem IsStrs.cast {v : Value} {xs ys : List ByteArray} {L : Blks} (h : IsStrs v xs L) (e : xs = ys) : IsStrs v ys L := e ▸ h
theorem IsStrs.val {v : Value} {ss : List ByteArray} {L : Blks} (h : IsStrs v ss L) : ∃ A c, v = .slice A ss.length c := IsRow.val h
theorem IsStrs.vs {w0 w : World} {v : Value} {ss : List ByteArray} {L R : Blks} (h : IsStrs v ss L) (hO : Own w0 w (L ++ R)) : Vs w v (sv ss) := by
  rcases h.2 with ⟨rfl, hn, rfl⟩ | ⟨g, cap, sp, rfl, rfl, hl, hn, hm⟩
  · exact ⟨_, _, _, rfl, by simpa using hn, Nat.le_refl _, fun h => absurd h (by omega)⟩
  · refine ⟨_, _, _, rfl, by simp, hn, fun _ => ⟨_, rfl, fun j x hx => ?_⟩⟩
    rw [addr_add_zero, hO.cell (.head _) j]
    have hj : j < (sv ss).length := (List.getElem?_eq_some_iff.1 hx).1
    simp only [List.getElem?_toArray]
    rw [List.getElem?_append_left hj]
    exact hx
theorem IsStrs.rdv {w0 : World} {v : Value} {ss : List ByteArray} {L R : Blks} (h : IsStrs v ss L) (hs : L.Sublist R) : RdV w0 R v (sv ss) := by
  intro w' L' hO
  have h1 : Own w0 w' L := hO.right.sub hs
  exact h.vs (R := []) (by rw [List.append_nil]; exact h1)
/-- Its first k, in the same blocks. -/
theorem IsStrs.cut {v : Value} {ss : List ByteArray} {L : Blks} (h : IsStrs v ss L) (k : Nat) (hk : k ≤ ss.length) (h0 : 0 < ss.length) : ∃ g c, v = .slice (some ⟨g, 0, none⟩) ss.length c ∧ ss.length ≤ c ∧ c ≤ maxLen ∧ IsStrs (.slice (some ⟨g, 0, none⟩) k c) (ss.take k) L := by
  rcases h.2 with ⟨_, hn, _⟩ | ⟨g, cap, sp, rfl, rfl, hl, hn, hm⟩
  · omega
  · refine ⟨g, cap, rfl, hn, hm, ⟨by simp, .inr ⟨g, cap, (sv ss).drop k ++ sp, by simp [Nat.min_eq_left hk], ?_, ?_, by simp; omega, hm⟩⟩⟩
    · have e : sv (ss.take k) ++ ((sv ss).drop k ++ sp) = sv ss ++ sp := by
        rw [← List.append_assoc]; congr 1
        show List.map _ _ ++ _ = _
        rw [List.map_take]; exact List.take_append_drop k (sv ss)
      rw [e]
    · have e : sv (ss.take k) ++ ((sv ss).drop k ++ sp) = sv ss ++ sp := by
        rw [← List.append_assoc]; congr 1
        show List.map _ _ ++ _ = _
        rw [List.map_take]; exact List.take_append_drop k (sv ss)
      rw [e]; exact hl
theorem vs_new {w : World} {t : TypeId} (vs : List Value) (n : Nat) (hn : vs.length = n) : Vs (w.alloc (.cells vs.toArray t)) (.slice (some ⟨w.heap.size, 0, none⟩) n n) vs := by
  refine ⟨_, _, _, rfl, hn, Nat.le_refl _, fun _ => ⟨_, rfl, fun j u hu => ?_⟩⟩
  rw [addr_add_zero, cell_of_row _ _ j _ _ (0, 0) (heap_alloc_new w _)]
  simpa using hu
section
variable {w0 w : World} {L R : Blks} {ops : Array Oper} {rest : List Oper} {op : Oper} {a : Act} {Q : Exit → Act → World → Prop}
theorem wl_appendT (hgd : op.guard = none) (s x : Operand)
    (ho : op.op = .call { callee := .builtin .append, args := #[s, x], argTypes := #[30, 30] })
    (v : Value) (ss : List ByteArray) (hs : a.eval s = v) (hr : IsStrs v ss L) (hO : Own w0 w (L ++ R))
    (xv : Value) (us : List ByteArray) (hx : a.eval x = xv) (hV : Vs w xv (sv us)) (h63 : ss.length + us.length ≤ 1073741824)
    (h : ∀ v' w' L', IsStrs v' (ss ++ us) L' → Own w0 w' (L' ++ R) → wpList Tryd.prog ops Q rest (a.put op.dst v') w') : wpList Tryd.prog ops Q (op :: rest) a w := by
  refine wl_appendV hgd s x _ ho _ _ 16 Tryd.underlying30 string_info (by rfl) v ss.length (sv ss) hs hr hO xv (sv us) hx hV (one_sv _) (by simp only [length_sv, maxLen]; omega) (by simp only [length_sv]; omega) ?_
  intro v' w' L' hr' hO'
  refine h v' w' L' ?_ hO'
  unfold IsStrs
  rw [List.length_append]
  simpa [sv] using hr'
end
end Go.Proofs.YtfgaikacijdodaaDoor
/-
  Package pct: a rune's bytes behind an empty slice; addCoded.
-/
namespace Go.Proofs.YtfgaikacijdodaaDoor
set_option linter.unusedVariables false
set_option linter.unusedSimpArgs false
set_option maxRecDepth 20000
open Go.RowKit

set_option maxHeartbeats 2000000 in
theorem rune2_c {w0 w : World} {R : Blks} (hO : Own w0 w R) (r : Int) (h0 : 128 ≤ r) (h1 : r ≤ 2047) : Calls Tryd.prog 75 #[.slice none 0 0, .int .i32 r] w (GotB w0 R [192 + r / 64, 128 + r % 64]) := by
  have HO := Lib.hid hO
  clear hO
  go_enter Tryd.func75, Tryd.ntmps75
  go_wp2_with (refine wl_appendB rfl _ _ rfl _ [] (by rfl) isBytes_nil (HO.out.put2 (L := []) _) (.slice (some ⟨w.heap.size, 0, none⟩) 2 2) [192 + r / 64, 128 + r % 64] (by rfl) (bs_new HO.out _ _ rfl (by omega)) (by simp) ?_; intro v1 w1 L1 hv1 hO1; have HV1 := Lib.hid hv1; have HO1 := Lib.hid hO1.strike; clear hv1 hO1 HO)
  go_ret
  exact ⟨_, L1, rfl, HV1.out, HO1.out⟩
set_option maxHeartbeats 2000000 in
theorem rune3a_c {w0 w : World} {R : Blks} (hO : Own w0 w R) (r : Int) (h0 : 2048 ≤ r) (h1 : r < 55296) : Calls Tryd.prog 75 #[.slice none 0 0, .int .i32 r] w (GotB w0 R [224 + r / 4096, 128 + r / 64 % 64, 128 + r % 64]) := by
  have HO := Lib.hid hO
  clear hO
  go_enter Tryd.func75, Tryd.ntmps75
  go_wp2_with (refine wl_appendB rfl _ _ rfl _ [] (by rfl) isBytes_nil (HO.out.put2 (L := []) _) (.slice (some ⟨w.heap.size, 0, none⟩) 3 3) [224 + r / 4096, 128 + r / 64 % 64, 128 + r % 64] (by rfl) (bs_new HO.out _ _ rfl (by omega)) (by simp) ?_; intro v1 w1 L1 hv1 hO1; have HV1 := Lib.hid hv1; have HO1 := Lib.hid hO1.strike; clear hv1 hO1 HO)
  go_ret
  exact ⟨_, L1, rfl, HV1.out, HO1.out⟩
set_option maxHeartbeats 2000000 in
theorem rune3b_c {w0 w : World} {R : Blks} (hO : Own w0 w R) (r : Int) (h0 : 57343 < r) (h1 : r ≤ 65535) : Calls Tryd.prog 75 #[.slice none 0 0, .int .i32 r] w (GotB w0 R [224 + r / 4096, 128 + r / 64 % 64, 128 + r % 64]) := by
  have HO := Lib.hid hO
  clear hO
  go_enter Tryd.func75, Tryd.ntmps75
  go_wp2_with (refine wl_appendB rfl _ _ rfl _ [] (by rfl) isBytes_nil (HO.out.put2 (L := []) _) (.slice (some ⟨w.heap.size, 0, none⟩) 3 3) [224 + r / 4096, 128 + r / 64 % 64, 128 + r % 64] (by rfl) (bs_new HO.out _ _ rfl (by omega)) (by simp) ?_; intro v1 w1 L1 hv1 hO1; have HV1 := Lib.hid hv1; have HO1 := Lib.hid hO1.strike; clear hv1 hO1 HO)
  go_ret
  exact ⟨_, L1, rfl, HV1.out, HO1.out⟩
set_option maxHeartbeats 2000000 in
theorem rune4_c {w0 w : World} {R : Blks} (hO : Own w0 w R) (r : Int) (h0 : 65535 < r) (h1 : r ≤ 1114111) : Calls Tryd.prog 75 #[.slice none 0 0, .int .i32 r] w (GotB w0 R [240 + r / 262144, 128 + r / 4096 % 64, 128 + r / 64 % 64, 128 + r % 64]) := by
  have HO := Lib.hid hO
  clear hO
  go_enter Tryd.func75, Tryd.ntmps75
  go_wp2_with (refine wl_appendB rfl _ _ rfl _ [] (by rfl) isBytes_nil (HO.out.put2 (L := []) _) (.slice (some ⟨w.heap.size, 0, none⟩) 4 4) [240 + r / 262144, 128 + r / 4096 % 64, 128 + r / 64 % 64, 128 + r % 64] (by rfl) (bs_new HO.out _ _ rfl (by omega)) (by simp) ?_; intro v1 w1 L1 hv1 hO1; have HV1 := Lib.hid hv1; have HO1 := Lib.hid hO1.strike; clear hv1 hO1 HO)
  go_ret
  exact ⟨_, L1, rfl, HV1.out, HO1.out⟩
theorem runeN_c {w0 w : World} {R : Blks} (hO : Own w0 w R) (c : Nat) (hc : vrune c) (h : 127 < c) : Calls Tryd.prog 75 #[.slice none 0 0, .int .i32 (c : Int)] w (GotB w0 R (encI c)) := by
  unfold vrune at hc
  unfold encI
  rcases (by omega : (128 ≤ c ∧ c ≤ 2047) ∨ (2048 ≤ c ∧ c < 55296) ∨ (57343 < c ∧ c ≤ 65535) ∨ (65536 ≤ c ∧ c ≤ 1114111)) with h1 | h1 | h1 | h1
  · rw [Lib.encodeRuneZ_two (by omega) (by omega)]; exact rune2_c hO c (by omega) (by omega)
  · rw [Lib.encodeRuneZ_three (by omega)]; exact rune3a_c hO c (by omega) (by omega)
  · rw [Lib.encodeRuneZ_three (by omega)]; exact rune3b_c hO c (by omega) (by omega)
  · rw [Lib.encodeRuneZ_four (by omega) (by omega)]; exact rune4_c hO c (by omega) (by omega)
set_option maxHeartbeats 2000000 in
theorem rune_c {w0 w : World} {R : Blks} (hO : Own w0 w R) (c : Nat) (hc : vrune c) : Calls Tryd.prog 62 #[.slice none 0 0, .int .i32 (c : Int)] w (GotB w0 R (encI c)) := by
  have hcv : IntKind.u32.wrap (c : Int) = c := by unfold vrune at hc; rw [IntKind.wrap_u32']; omega
  by_cases h : 127 < c
  · have H := Lib.hid (runeN_c hO c hc h)
    have h' : ¬ ((c : Int) ≤ 127) := by omega
    clear hO hc h
    go_enter Tryd.func62, Tryd.ntmps62
    go_wp2_with fail
    with_reducible refine H.out.mono ?_
    rintro e w1 ⟨v1, L1, rfl, hv1, hO1⟩
    have HV1 := Lib.hid hv1; have HO1 := Lib.hid hO1; clear hv1 hO1
    go_wp2
    go_ret
    exact ⟨_, L1, rfl, HV1.out, HO1.out⟩
  · have HO := Lib.hid hO
    have h' : (c : Int) ≤ 127 := by omega
    have hc8 : IntKind.u8.wrap (c : Int) = c := by rw [IntKind.wrap_u8']; omega
    rw [encI_one (by omega)]
    clear hO hc h
    go_enter Tryd.func62, Tryd.ntmps62
    go_wp2_with (refine wl_appendB rfl _ _ rfl _ [] (by rfl) isBytes_nil (HO.out.put2 (L := []) _) (.slice (some ⟨w.heap.size, 0, none⟩) 1 1) [(c : Int)] (by rfl) (bs_new HO.out _ _ rfl (by omega)) (by simp) ?_; intro v1 w1 L1 hv1 hO1; have HV1 := Lib.hid hv1; have HO1 := Lib.hid hO1.strike; clear hv1 hO1 HO)
    go_ret
    exact ⟨_, L1, rfl, HV1.out, HO1.out⟩
theorem u8and15 (x : Int) (h0 : 0 ≤ x) (h1 : x ≤ 255) : bits .and .u8 x 15 = x % 16 := by
  rw [u8_and x 15 h0 (by omega) (by omega) (by omega)]
  have : x.toNat &&& 15 = x.toNat % 16 := Nat.and_two_pow_sub_one_eq_mod x.toNat 4
  show ((x.toNat &&& 15 : Nat) : Int) = _
  rw [this]; omega
theorem hex_at (w : World) (k : Int) (h0 : 0 ≤ k) (h1 : k < 16) : (Instr.index 9 (.string ⟨#[48, 49, 50, 51, 52, 53, 54, 55, 56, 57, 65, 66, 67, 68, 69, 70]⟩) (.int .u8 k)).run Tryd.prog w = .ok (.int .u8 (hexD k)) w := by
  rcases (by omega : k = 0 ∨ k = 1 ∨ k = 2 ∨ k = 3 ∨ k = 4 ∨ k = 5 ∨ k = 6 ∨ k = 7 ∨ k = 8 ∨ k = 9 ∨ k = 10 ∨ k = 11 ∨ k = 12 ∨ k = 13 ∨ k = 14 ∨ k = 15) with rfl | rfl | rfl | rfl | rfl | rfl | rfl | rfl | rfl | rfl | rfl | rfl | rfl | rfl | rfl | rfl <;> kernel_rfl
theorem length_pct3s : ∀ l : List Int, (l.flatMap pct3).length = 3 * l.length
  | [] => rfl
  | x :: l => by rw [List.flatMap_cons, List.length_append, length_pct3s l]; simp [pct3]; omega
theorem pct3s_snoc (l : List Int) (k : Nat) (h : k < l.length) : (l.take (k + 1)).flatMap pct3 = (l.take k).flatMap pct3 ++ pct3 l[k] := by
  rw [List.take_succ_eq_append_getElem h, List.flatMap_append]; simp
set_option maxHeartbeats 2000000 in
theorem addCoded_c {w0 w : World} {L R : Blks} {v : Value} {xs : List Int} (hv : IsBytes v xs L) (hO : Own w0 w (L ++ R)) (hx : xs.length ≤ 1000000000) (c : Nat) (hc : vrune c) :
    Calls Tryd.prog 53 #[v, .int .i32 (c : Int)] w (GotB w0 R (xs ++ (encI c).flatMap pct3)) := by
  have H := Lib.hid (rune_c hO c hc)
  have HV := Lib.hid hv
  have hB := encI_byt c
  have h4 := encI_len c
  have hpos : 0 < (encI c).length := List.length_pos_iff.2 (encI_ne c)
  generalize encI c = es at *
  obtain ⟨n, hn⟩ : ∃ n, es.length = n := ⟨_, rfl⟩
  have HN := Lib.hid hn
  have HBY := Lib.hid hB
  rw [hn] at h4 hpos
  clear hv hO hc hB hn
  go_enter Tryd.func53, Tryd.ntmps53
  go_wp2_with fail
  with_reducible refine H.out.mono ?_
  rintro e w1 ⟨v8, L8, rfl, hv8, hO8⟩
  obtain ⟨g, cap, sp, rfl, rfl, hcap⟩ := hv8.blkn n HN.out hpos
  have HO8 := Lib.hid hO8
  clear hv8 hO8 H
  go_wp2
  go_loopw [0, 10] (fun b t w' => ∃ k : Nat, k ≤ n ∧ t = .int .i64 k ∧ Hid (∃ L', IsBytes b (xs ++ (es.take k).flatMap pct3) L' ∧ Own w0 w' (L' ++ ((g, .cells (List.toArray (bv es ++ sp)) 5) :: R)))) (fun _ t _ => n - (intOf t).toNat)
  case atStart =>
    refine ⟨0, Nat.zero_le _, rfl, L, by simpa using HV.out, ?_⟩
    have h1 : Own w0 w1 ([(g, .cells (List.toArray (bv es ++ sp)) 5)] ++ (L ++ R)) := HO8.out
    exact h1.rot
  case round =>
    obtain ⟨k, hk, rfl, HB⟩ := hrel
    clear HV HO8
    by_cases hlt : k < n
    · obtain ⟨L2, hv2, hO2⟩ := HB.out
      have hkx : k < es.length := by rw [HN.out]; exact hlt
      have hcell : wr.cell? ⟨g, k, none⟩ = some (.int .u8 es[k]) := by
        rw [hO2.cell (List.mem_append_right _ (.head _)), bv_get_sp es sp k hkx]
      have hbx := HBY.out es[k] (List.getElem_mem hkx)
      have hl2 : (xs ++ (es.take k).flatMap pct3).length ≤ 1000000012 := by rw [List.length_append, length_pct3s, List.length_take]; omega
      have hst := pct3s_snoc es k hkx
      have HV2 := Lib.hid hv2; have HO2 := Lib.hid hO2; have HL2 := Lib.hid hl2; have HST := Lib.hid hst
      clear hv2 hO2 HB hl2 hst
      generalize es[k] = x at *
      obtain ⟨y1, hy1⟩ : ∃ y, hexD (x / 16) = y := ⟨_, rfl⟩
      obtain ⟨y2, hy2⟩ : ∃ y, hexD (x % 16) = y := ⟨_, rfl⟩
      have q1 : ∀ w', _ := fun w' => hex_at w' (x / 16) (by omega) (by omega)
      have q2 : ∀ w', _ := fun w' => hex_at w' (x % 16) (by omega) (by omega)
      rw [hy1] at q1; rw [hy2] at q2
      have hp : pct3 x = [37, y1, y2] := by rw [← hy1, ← hy2]; rfl
      have HP := Lib.hid hp; have Q1 := Lib.hid q1; have Q2 := Lib.hid q2
      have hx0 := hbx.1; have hx1 := hbx.2
      have hkn : (k : Int) < n := by omega
      clear hp q1 q2 hy1 hy2 hbx hkx
      go_wp2_with fail
      refine wp_region_lin (fun w' => True) 10 [(0, true), (1, true), (2, true), (3, true), (4, true), (5, true), (6, true), (7, false), (8, false), (9, true)] (by kernel_rfl) (by kernel_rfl) (fun _ _ d _ _ h => by cases d <;> exact h) trivial ?_
      simp only [List.map_cons, List.map_nil, pick_zero, pick_succ, List.drop_succ_cons, List.drop_zero]
      iterate 7 (refine lin_q ?_ rfl ?_ ?_; rotate_left 1; (focus (rintro w' -; have q1 := Q1.out w'; have q2 := Q2.out w'; have q3 := u8and15 x hx0 hx1; go_simp; first | done | with_reducible rfl | (trace_state; fail))); simp only [Act.put, List.setIfInBounds_toArray, List.set_cons_zero, List.set_cons_succ])
      refine lin_act ?_
      clear Q1 Q2 hcell
      refine wl_buildSlice rfl _ 3 _ rfl HO2.out.drew (.cells (bv [37, y1, y2]).toArray 5) (by go_simp; rfl) ?_
      intro gs w3 hO3
      refine LinPost.mk trivial ?_
      have HO3 := Lib.hid (hO3.perm List.perm_middle.symm)
      clear hO3 HO2
      refine lin_act ?_
      refine wl_appendB rfl _ _ rfl _ _ (by rfl) HV2.out HO3.out (.slice (some ⟨gs, 0, none⟩) 3 3) [37, y1, y2] (by rfl) ?_ (by have := HL2.out; simp only [List.length_cons, List.length_nil]; omega) ?_
      · exact (isBytes_whole gs [37, y1, y2] (by simp)).bs_sub HO3.out (sub_there (List.sublist_append_left [_] _))
      intro v4 w4 L4 hv4 hO4
      refine LinPost.mk trivial ?_
      have HV4 := Lib.hid hv4; have HO4 := Lib.hid hO4.strike
      clear hv4 hO4 HV2 HO3
      simp only [Act.put, List.setIfInBounds_toArray, List.set_cons_zero, List.set_cons_succ]
      iterate 1 (refine lin_q ?_ rfl ?_ ?_; rotate_left 1; (focus (rintro w' -; go_simp; first | done | with_reducible rfl | (trace_state; fail))); simp only [Act.put, List.setIfInBounds_toArray, List.set_cons_zero, List.set_cons_succ])
      refine lin_nil ?_
      go_wp2
      go_roundw
      case rel => exact ⟨k + 1, by omega, by go_num, L4, HV4.out.cast (by rw [HST.out, HP.out, List.append_assoc]), HO4.out⟩
      case measure => simp [intOf]; omega
    · obtain rfl : k = n := by omega
      obtain ⟨L2, hv2, hO2⟩ := HB.out
      have HV2 := Lib.hid hv2; have HO2 := Lib.hid hO2.strike
      clear hv2 hO2 HB
      go_wp2
      go_ret
      exact ⟨_, L2, rfl, HV2.out.cast (by rw [List.take_of_length_le (by rw [HN.out]; exact Nat.le_refl _)]), HO2.out⟩
end Go.Proofs.YtfgaikacijdodaaDoor
/-
  Package pct: Encode.
-/
namespace Go.Proofs.YtfgaikacijdodaaDoor
set_option linter.unusedVariables false
set_option linter.unusedSimpArgs false
set_option maxRecDepth 20000
open Go.RowKit

/-- What is left of a range over a string. -/
def leftOf (w : World) (r : Nat) : Nat := match w.heap[r]? with
  | some (.stringIter s pos) => s.size - pos
  | _ => 0
theorem leftOf_eq {w : World} {r : Nat} {s : ByteArray} {pos : Nat} (h : w.heap[r]? = some (.stringIter s pos)) : leftOf w r = s.size - pos := by unfold leftOf; rw [h]
theorem pctE_drop {l : List Int} {pos : Nat} (h : pos < l.length) : pctE (l.drop pos) = pctR (decI (l.drop pos)).1 ++ pctE (l.drop (pos + (decI (l.drop pos)).2)) := by
  unfold pctE
  rw [runes_step (by intro e; have := congrArg List.length e; simp at this; omega), List.flatMap_cons, List.drop_drop]
theorem dec_fits {l : List Int} {pos : Nat} (h : pos < l.length) : pos + (decI (l.drop pos)).2 ≤ l.length := by
  have := decI_le (l := l.drop pos) (by intro e; have := congrArg List.length e; simp at this; omega)
  rw [List.length_drop] at this
  omega
set_option maxHeartbeats 4000000 in
theorem encode_c {w0 w : World} {R : Blks} (hO : Own w0 w R) (s : ByteArray) (hs : s.size ≤ 80000000) :
    Calls Tryd.prog 36 #[.string s] w fun e w' => e = .returned (.string (strOfNums (pctE (sb s)))) ∧ Own w0 w' R := by
  have HO := Lib.hid hO
  obtain ⟨l, hl⟩ : ∃ l, sb s = l := ⟨_, rfl⟩
  have hn : l.length = s.size := by rw [← hl]; exact length_sb s
  have HL := Lib.hid hl; have HN := Lib.hid hn
  rw [hl]
  clear hO hl hn
  go_enter Tryd.func36, Tryd.ntmps36
  go_wp2_with (refine wl_rangeS rfl _ _ rfl (by rfl) HO.out s (by rfl) ?_; intro r w1 hO1; have HO1 := Lib.hid hO1; clear hO1 HO)
  simp only [Act.put, List.setIfInBounds_toArray, List.set_cons_zero, List.set_cons_succ]
  go_loopw [3] (fun b w' => ∃ pos acc L', pos ≤ s.size ∧ Hid (pctE l = acc ++ pctE (l.drop pos)) ∧ Hid (IsBytes b acc L') ∧ Hid (Own w0 w' ((r, .stringIter s pos) :: (L' ++ R)))) (fun _ w' => leftOf w' r)
  case atStart => exact ⟨0, [], [], Nat.zero_le _, Lib.hid (by simp), isBytes_nil, HO1.out⟩
  case round =>
    obtain ⟨pos, acc, L', hpos, HE, HV, HO2⟩ := hrel
    clear HO1
    by_cases hlt : pos < s.size
    · have hlt' : pos < l.length := by rw [HN.out]; exact hlt
      have hst := pctE_drop hlt'
      have hfit := dec_fits hlt'
      have hval := decI_valid (l.drop pos)
      have hge := decI_pos (l.drop pos)
      have hlen : acc.length ≤ 960000000 := by
        have h1 := pctE_len l
        rw [HE.out, List.length_append, HN.out] at h1
        omega
      have hcs : pctR (decI (l.drop pos)).1 = if plainR (decI (l.drop pos)).1 then [((decI (l.drop pos)).1 : Int)] else (encI (decI (l.drop pos)).1).flatMap pct3 := rfl
      have hit := Lib.hid (HO2.out.heap (.head _))
      obtain ⟨c, hc⟩ : ∃ c, (decI (l.drop pos)).1 = c := ⟨_, rfl⟩
      obtain ⟨k, hk⟩ : ∃ k, (decI (l.drop pos)).2 = k := ⟨_, rfl⟩
      rw [hc] at hst hval hcs
      rw [hk] at hst hfit hge
      have HC := Lib.hid hc; have HK := Lib.hid hk; have HST := Lib.hid hst; have HVAL := Lib.hid hval; have HCS := Lib.hid hcs
      clear hc hk hst hval hcs
      go_wp2_with (refine wl_nextS rfl _ rfl HO2.out 0 r s pos rfl hlt (by rfl) ?_; intro w3 hO3; rw [HL.out, HK.out] at hO3; rw [HL.out, HC.out]; have HO3 := Lib.hid (hO3.perm List.perm_middle.symm); clear hO3 HO2)
      have hcall := isPlain_c (w := w3) c
      with_reducible refine hcall.mono ?_
      clear hcall
      rintro e w4 ⟨rfl, rfl⟩
      cases hp : plainR c with
      | true =>
        have hce := HCS.out
        rw [if_pos hp] at hce
        have hcb := (plainR_iff c).1 hp
        have hc8 : IntKind.u8.wrap (c : Int) = c := by rw [IntKind.wrap_u8']; omega
        have HCE := Lib.hid hce
        clear hce hcb hp HCS
        go_wp2_with (refine wl_appendB rfl _ _ rfl _ acc (by rfl) HV.out (HO3.out.put2 _) (.slice (some ⟨_, 0, none⟩) 1 1) [(c : Int)] (by rfl) (bs_new HO3.out _ _ rfl (by omega)) (by simp; omega) ?_; intro v5 w5 L5 hv5 hO5; have HV5 := Lib.hid hv5; have HO5 := Lib.hid hO5.strike; clear hv5 hO5 HV HO3)
        go_roundw
        case rel => exact ⟨pos + k, acc ++ [(c : Int)], L5, by have := HN.out; omega, Lib.hid (by rw [HE.out, HST.out, HCE.out, List.append_assoc]), HV5.out, HO5.out.perm List.perm_middle⟩
        case measure => rw [leftOf_eq (HO5.out.heap (List.mem_append_right _ (.head _))), leftOf_eq hit.out]; omega
      | false =>
        have hce := HCS.out
        rw [if_neg (by rw [hp]; simp)] at hce
        have hcall := addCoded_c HV.out HO3.out (by omega) c HVAL.out
        have HCE := Lib.hid hce
        clear hce hp HCS
        go_wp2_with fail
        with_reducible refine hcall.mono ?_
        clear hcall
        rintro e w5 ⟨v5, L5, rfl, hv5, hO5⟩
        have HV5 := Lib.hid hv5; have HO5 := Lib.hid hO5; clear hv5 hO5 HV HO3
        go_wp2
        go_roundw
        case rel => exact ⟨pos + k, acc ++ (encI c).flatMap pct3, L5, by have := HN.out; omega, Lib.hid (by rw [HE.out, HST.out, HCE.out, List.append_assoc]), HV5.out, HO5.out.perm List.perm_middle⟩
        case measure => rw [leftOf_eq (HO5.out.heap (List.mem_append_right _ (.head _))), leftOf_eq hit.out]; omega
    · have hpe : pos = s.size := by omega
      subst hpe
      have hd : l.drop s.size = [] := List.drop_eq_nil_of_le (by rw [HN.out]; exact Nat.le_refl _)
      have he : pctE l = acc := by rw [HE.out, hd]; show acc ++ [] = acc; simp
      have hO3 : Own w0 wr (L' ++ ((r, .stringIter s s.size) :: R)) := HO2.out.perm List.perm_middle.symm
      have hcv := convert_str (HV.out.bs hO3)
      have HO4 := Lib.hid hO3.strike
      have HEQ := Lib.hid he
      clear HE hd he hlt hO3
      go_wp2_with (first | (refine wl_nextS_end rfl _ rfl HO2.out 0 r s s.size rfl (by omega) (by rfl) ?_))
      go_ret
      exact ⟨by rw [HEQ.out]; rfl, HO4.out.right⟩
end Go.Proofs.YtfgaikacijdodaaDoor
/-
  Bytes of a string that may be written into; Lower, the program's and the document's.
-/
namespace Go.Proofs.YtfgaikacijdodaaDoor
set_option linter.unusedVariables false
set_option linter.unusedSimpArgs false
set_option maxRecDepth 20000
open Go.RowKit

/-- A row of cells that a conversion made. -/
def zrow (g : Nat) (cs : List Value) : Nat × Obj := (g, .cells cs.toArray 5 (cs.length, cs.length + 1))
theorem cell_zrow {w0 w : World} {L : Blks} {g : Nat} {cs : List Value} (hO : Own w0 w L) (h : zrow g cs ∈ L) (j : Nat) : w.cell? ⟨g, j, none⟩ = cs[j]? := by
  rw [cell_of_row w g j _ _ _ (hO.heap h)]; simp
theorem frozen_zrow {w0 w : World} {L : Blks} {g : Nat} {cs : List Value} (hO : Own w0 w L) (h : zrow g cs ∈ L) (j : Nat) (hj : j < cs.length) : w.frozen? ⟨g, j, none⟩ = false := by
  unfold World.frozen?
  rw [hO.heap h]
  simp; omega
theorem bytesCells_list (w : World) (s : ByteArray) : (Lib.bytesCells w 5 s).toList = bv (sb s) ++ List.replicate (grownCap w s.size 0 5 - s.size) (.int .u8 0) := by
  unfold Lib.bytesCells bv sb
  simp
theorem bs_zrow {w0 w : World} {L : Blks} {g cap : Nat} {xs : List Int} {sp : List Value} (hO : Own w0 w L) (h : zrow g (bv xs ++ sp) ∈ L) (n : Nat) (hn : xs.length = n) (hc : n ≤ cap) : Bs w (.slice (some ⟨g, 0, none⟩) n cap) xs := by
  refine ⟨_, _, _, rfl, hn, hc, fun _ => ⟨_, rfl, fun j x hx => ?_⟩⟩
  have hj : j < xs.length := (List.getElem?_eq_some_iff.1 hx).1
  rw [addr_add_zero, cell_zrow hO h, List.getElem?_append_left (by simpa using hj)]
  simp [bv, hx]
section
variable {w0 w : World} {L : Blks} {ops : Array Oper} {rest : List Oper} {op : Oper} {a : Act} {Q : Exit → Act → World → Prop}
/-- '[]byte(s)' of a string that is no constant. -/
theorem wl_str2b (hgd : op.guard = none) (x : Operand) (ho : op.op = .convert 9 64 x) (hO : Own w0 w L) (s : ByteArray) (hx : a.eval x = .string s)
    (h : ∀ g cap sp w', s.size ≤ cap → Own w0 w' (zrow g (bv (sb s) ++ sp) :: L) → wpList Tryd.prog ops Q rest (a.put op.dst (.slice (some ⟨g, 0, none⟩) s.size cap)) w') : wpList Tryd.prog ops Q (op :: rest) a w := by
  refine wpList_plain hgd fun K hK => ?_
  have hrun := Lib.run_convert_string_bytes (P := Tryd.prog) w 9 64 5 s Tryd.underlying9 Tryd.underlying64 Tryd.underlying5
  unfold Oper.wp
  simp only [execOp, ho, hx, Sem.run_bind, hrun, Result.andThen_ok, Sem.run_pure]
  have hnew := Lib.bytesWorld_at_new w 5 s
  have hcs := bytesCells_list w s
  obtain ⟨C, hC⟩ : ∃ C, Lib.bytesCells w 5 s = C := ⟨_, rfl⟩
  rw [hC] at hnew hcs
  have hCa : C = (bv (sb s) ++ List.replicate (grownCap w s.size 0 5 - s.size) (Value.int .u8 0)).toArray := by rw [← hcs]
  have hsz : C.size = (bv (sb s) ++ List.replicate (grownCap w s.size 0 5 - s.size) (Value.int .u8 0)).length := by rw [hCa]; simp
  rw [hsz, hCa] at hnew
  refine hK _ _ (h w.heap.size _ (List.replicate (grownCap w s.size 0 5 - s.size) (.int .u8 0)) _ (grownCap_ge w _ _ _) ?_)
  have hg : Below w.heap.size w (Lib.bytesWorld w 5 s) := ⟨rfl, rfl, rfl, by rw [Lib.bytesWorld_size]; omega, fun k hk => Lib.bytesWorld_at_old w _ s k hk⟩
  have hS := hO.same hg
  refine ⟨hS.below, ?_, ?_⟩
  · intro g o hm
    rcases List.mem_cons.1 hm with e | hm
    · cases e; exact ⟨hO.below.size, hnew⟩
    · exact hS.at_ g o hm
  · simp only [List.map_cons, List.nodup_cons]
    exact ⟨hO.notin (Nat.le_refl _), hO.nodup⟩
/-- A store of one byte into such a row. -/
theorem wl_storeZ (hgd : op.guard = none) (x y : Operand) (ho : op.op = .store 5 x y) (hO : Own w0 w L)
    (k : Nat) (g off : Nat) (cs : List Value) (n : Int) (hk : L[k]? = some (zrow g cs)) (hx : a.eval x = .pointer (some ⟨g, off, none⟩)) (hy : a.eval y = .int .u8 n) (hl : off < cs.length)
    (h : ∀ w', Own w0 w' (L.set k (zrow g (cs.set off (.int .u8 n)))) → wpList Tryd.prog ops Q rest (a.put op.dst undef) w') : wpList Tryd.prog ops Q (op :: rest) a w := by
  have hm := List.mem_of_getElem? hk
  have hb := hO.heap hm
  refine wpList_plain hgd fun K hK => ?_
  have hst := run_storeCells_cells (P := Tryd.prog) g off [.int .u8 n] 0 w (fun j hj => by
      simp only [List.length_singleton] at hj
      obtain rfl : j = 0 := by omega
      rw [cell_zrow hO hm]; simp [hl]) (fun j hj => by
        simp only [List.length_singleton] at hj
        exact frozen_zrow hO hm _ (by omega)) (by simp [Value.oneCell'])
  have hrun : (storeVar 5 ⟨g, off, none⟩ (.int .u8 n)).run Tryd.prog w = .ok () (w.setCell ⟨g, off, none⟩ (.int .u8 n)) := by
    obtain ⟨i, hi, hz, hz1, hz2⟩ := info_parts byte_info
    simp only [Nat.add_zero, World.setCells] at hst
    simp [storeVar, sizeOf, typeInfo, hi, hz1, Value.cells, hst]
  unfold Oper.wp
  simp only [execOp, ho, hx, hy, Instr.storeAt, Instr.sureAddr, Sem.run_bind, Sem.run_pure, Result.andThen_ok, hrun]
  refine hK _ _ (h _ ?_)
  refine hO.updAt k hk (grownBy_setCell w _ _) ?_
  simp [World.setCell, Array.getElem?_modify, hb]
end
theorem low_step (l : List Int) (k : Nat) (hk : k < l.length) : ((l.take k).map lowI ++ l.drop k).set k (lowI l[k]) = (l.take (k + 1)).map lowI ++ l.drop (k + 1) := by
  rw [List.set_append_right _ _ (by simp; omega)]
  rw [show k - ((l.take k).map lowI).length = 0 by simp; omega]
  rw [List.drop_eq_getElem_cons hk, List.set_cons_zero, List.take_succ_eq_append_getElem hk, List.map_append, List.append_assoc]
  rfl
theorem low_same (l : List Int) (k : Nat) (hk : k < l.length) (h : lowI l[k] = l[k]) : (l.take k).map lowI ++ l.drop k = (l.take (k + 1)).map lowI ++ l.drop (k + 1) := by
  rw [← low_step l k hk, h]
  apply List.ext_getElem?
  intro j
  rw [List.getElem?_set]
  split
  · rename_i e
    subst e
    have : k < ((l.take k).map lowI ++ l.drop k).length := by simp; omega
    rw [if_pos this, List.getElem?_append_right (by simp; omega)]
    simp [Nat.min_eq_left (Nat.le_of_lt hk), hk]
  · rfl
theorem low_len (l : List Int) (k : Nat) : ((l.take k).map lowI ++ l.drop k).length = l.length := by simp; omega
theorem low_at (l : List Int) (k : Nat) (hk : k < l.length) : ((l.take k).map lowI ++ l.drop k)[k]? = some l[k] := by
  rw [List.getElem?_append_right (by simp; omega)]
  simp [Nat.min_eq_left (Nat.le_of_lt hk), hk]
set_option maxHeartbeats 4000000 in
theorem lower_c {w0 w : World} {R : Blks} (hO : Own w0 w R) (s : ByteArray) (hs : s.size ≤ 1073741824) :
    Calls Tryd.prog 20 #[.string s] w fun e w' => e = .returned (.string (strOfNums (lowL (sb s)))) ∧ Own w0 w' R := by
  have HO := Lib.hid hO
  obtain ⟨l, hl⟩ : ∃ l, sb s = l := ⟨_, rfl⟩
  obtain ⟨n, hn⟩ : ∃ n, s.size = n := ⟨_, rfl⟩
  have hln : l.length = n := by rw [← hl, ← hn]; exact length_sb s
  have hB : Byt l := by rw [← hl]; exact byt_sb s
  have HL := Lib.hid hl; have HN := Lib.hid hn; have HB := Lib.hid hB; have HLN := Lib.hid hln
  rw [hl]
  rw [hn] at hs
  clear hO hl hn hB hln
  go_enter Tryd.func20, Tryd.ntmps20
  go_wp2_with (refine wl_str2b rfl _ rfl HO.out s (by rfl) ?_; intro g cap sp w1 hcap hO1; rw [HL.out] at hO1; rw [HN.out] at hcap ⊢; have HO1 := Lib.hid hO1; clear hO1 HO)
  go_loopw [10] (fun t w' => ∃ k : Nat, k ≤ n ∧ t = .int .i64 k ∧ Hid (Own w0 w' (zrow g (bv ((l.take k).map lowI ++ l.drop k) ++ sp) :: R))) (fun t _ => n - (intOf t).toNat)
  case atStart => exact ⟨0, Nat.zero_le _, rfl, HO1.out⟩
  case round =>
    obtain ⟨k, hk, rfl, HO2⟩ := hrel
    clear HO1
    by_cases hlt : k < n
    · have hkx : k < l.length := by rw [HLN.out]; exact hlt
      have hkl : k < (bv ((l.take k).map lowI ++ l.drop k) ++ sp).length := by rw [List.length_append, length_bv, low_len]; omega
      have hcell : wr.cell? ⟨g, k, none⟩ = some (.int .u8 l[k]) := by
        rw [cell_zrow HO2.out (.head _), List.getElem?_append_left (by rw [length_bv, low_len]; exact hkx)]
        simp only [bv, List.getElem?_map, low_at l k hkx, Option.map_some]
      have hbx := HB.out l[k] (List.getElem_mem hkx)
      have hst := low_step l k hkx
      have hsame := low_same l k hkx
      have HST := Lib.hid hst; have HSAME := Lib.hid hsame; have HKL := Lib.hid hkl
      have hkn : (k : Int) < n := by omega
      have hbv : ∀ x, (bv ((l.take k).map lowI ++ l.drop k) ++ sp).set k (.int .u8 x) = bv (((l.take k).map lowI ++ l.drop k).set k x) ++ sp := by
        intro x
        rw [List.set_append_left _ _ (by rw [length_bv, low_len]; exact hkx)]
        simp [bv]
      have HBV := Lib.hid hbv
      clear hst hsame hkl hbv
      generalize hx : l[k] = x at *
      have hx0 := hbx.1; have hx1 := hbx.2
      clear hbx hx hkx
      by_cases h65 : 65 ≤ x
      · by_cases h90 : x ≤ 90
        · have hlow : lowI x = x - 65 + 97 := by unfold lowI; rw [if_pos ⟨h65, h90⟩]; omega
          have HLOW := Lib.hid hlow
          clear hlow
          go_wp2_with (refine wl_storeZ rfl _ _ rfl HO2.out 0 g k _ (x - 65 + 97) rfl (by rfl) (by rfl) HKL.out ?_; intro w3 hO3; have HO3 := Lib.hid hO3; clear hO3 HO2)
          go_roundw
          case rel =>
            refine ⟨k + 1, by omega, by go_num, ?_⟩
            have := HO3.out
            rw [List.set_cons_zero, HBV.out, ← HLOW.out, HST.out] at this
            exact this
          case measure => simp [intOf]; omega
        · have hlow : lowI x = x := by unfold lowI; rw [if_neg (by omega)]
          have hO3 := HO2.out
          rw [HSAME.out hlow] at hO3
          have HO3 := Lib.hid hO3
          clear hlow hO3 HO2
          go_wp2
          go_roundw
          case rel => exact ⟨k + 1, by omega, by go_num, HO3.out⟩
          case measure => simp [intOf]; omega
      · have hlow : lowI x = x := by unfold lowI; rw [if_neg (by omega)]
        have hO3 := HO2.out
        rw [HSAME.out hlow] at hO3
        have HO3 := Lib.hid hO3
        clear hlow hO3 HO2
        go_wp2
        go_roundw
        case rel => exact ⟨k + 1, by omega, by go_num, HO3.out⟩
        case measure => simp [intOf]; omega
    · obtain rfl : k = n := by omega
      have hO3 := HO2.out
      have e : (l.take k).map lowI ++ l.drop k = lowL l := by
        rw [List.take_of_length_le (by rw [HLN.out]; exact Nat.le_refl _), List.drop_eq_nil_of_le (by rw [HLN.out]; exact Nat.le_refl _), List.append_nil]; rfl
      rw [e] at hO3
      have hcv := convert_str (bs_zrow hO3 (.head _) k (by simp [lowL, HLN.out]) hcap)
      have HO3 := Lib.hid hO3.tail
      clear hO3 e HO2
      go_wp2
      go_ret
      exact ⟨rfl, HO3.out⟩
end Go.Proofs.YtfgaikacijdodaaDoor
/-
  The document's Encode of percent signs.
-/
namespace Go.Proofs.YtfgaikacijdodaaDoor
set_option linter.unusedVariables false
set_option linter.unusedSimpArgs false
set_option maxRecDepth 20000
open Go.RowKit

theorem hexs_at (w : World) (k : Int) (h0 : 0 ≤ k) (h1 : k < 16) : (Instr.slice 9 (.string ⟨#[48, 49, 50, 51, 52, 53, 54, 55, 56, 57, 65, 66, 67, 68, 69, 70]⟩) (some (.int .u8 k)) (some (.int .u8 (k + 1))) none).run Tryd.prog w = .ok (.string (strOfNums [hexD k])) w := by
  rcases (by omega : k = 0 ∨ k = 1 ∨ k = 2 ∨ k = 3 ∨ k = 4 ∨ k = 5 ∨ k = 6 ∨ k = 7 ∨ k = 8 ∨ k = 9 ∨ k = 10 ∨ k = 11 ∨ k = 12 ∨ k = 13 ∨ k = 14 ∨ k = 15) with rfl | rfl | rfl | rfl | rfl | rfl | rfl | rfl | rfl | rfl | rfl | rfl | rfl | rfl | rfl | rfl <;> kernel_rfl
theorem hexD_byt {k : Int} (h0 : 0 ≤ k) (h1 : k < 16) : 0 ≤ hexD k ∧ hexD k ≤ 255 := by have := hexD_plain h0 h1; omega
theorem sb_pct3 {x : Int} (h : 0 ≤ x ∧ x ≤ 255) : sb (⟨#[37]⟩ ++ strOfNums [hexD (x / 16)] ++ strOfNums [hexD (x % 16)]) = pct3 x := by
  have h1 := hexD_byt (k := x / 16) (by omega) (by omega)
  have h2 := hexD_byt (k := x % 16) (by omega) (by omega)
  rw [sb_append, sb_append, sb_str (by intro y hy; rw [List.mem_singleton] at hy; subst hy; exact h1), sb_str (by intro y hy; rw [List.mem_singleton] at hy; subst hy; exact h2)]
  rfl
theorem encode_nat (c : Nat) : sb (Utf8.encode (c : Int)) = encI c := sb_encode c
/-- The test that a rune is no plain one, as the document's program has it. -/
def BadState (w0 : World) (L : Blks) (c : Nat) (u : Value) (w : World) : Prop := u = .bool (!plainR c) ∧ Own w0 w L
end Go.Proofs.YtfgaikacijdodaaDoor
/-
  The document's own way of taking points out of a path.
-/
namespace Go.Proofs.YtfgaikacijdodaaDoor
set_option linter.unusedVariables false
set_option linter.unusedSimpArgs false
set_option maxRecDepth 20000
open Go.RowKit

theorem sls_upto (W : World) (ad : Addr) (n c hi : Nat) (k : Int) (hk : (hi : Int) = k) (h1 : hi ≤ n) (h2 : n ≤ c) : (Instr.slice 30 (.slice (some ad) n c) none (some (.int .i64 k)) none).run Tryd.prog W = .ok (.slice (some ad) hi c) W := by
  subst hk
  have h4 : (hi : Int) ≤ c := by omega
  go_simp
theorem dotGo_cons (st : List (List Int)) (p : List Int) {ps : List (List Int)} (h : ps ≠ []) : dotGo st (p :: ps) = dotGo (dotStep st p false) ps := by
  cases ps with
  | nil => exact absurd rfl h
  | cons a r => rfl
theorem slashed_app (a b : List (List Int)) : slashed (a ++ b) = slashed a ++ slashed b := by simp [slashed]
theorem slashed_len_pop (st : List (List Int)) : (slashed st.dropLast).length ≤ (slashed st).length := by
  rcases List.eq_nil_or_concat st with rfl | ⟨r, x, rfl⟩
  · simp
  · rw [List.concat_eq_append, List.dropLast_concat, slashed_app, List.length_append]; omega
theorem slashed_count : ∀ st : List (List Int), st.length ≤ (slashed st).length
  | [] => by simp
  | x :: r => by
    have := slashed_count r
    show (x :: r).length ≤ ((47 :: x) ++ slashed r).length
    simp only [List.length_cons, List.length_append]; omega
theorem dotStep_len (st : List (List Int)) (p : List Int) (last : Bool) : (slashed (dotStep st p last)).length ≤ (slashed st).length + 12 * p.length + 1 := by
  unfold dotStep
  split
  · simp only []
    have h1 : (slashed (if p = [46, 46] then st.dropLast else st)).length ≤ (slashed st).length := by
      split
      · exact slashed_len_pop st
      · exact Nat.le_refl _
    have h2 : (slashed [([] : List Int)]).length = 1 := rfl
    split
    · rw [slashed_app, List.length_append, h2]; omega
    · omega
  · have h2 : (slashed [pctE p]).length = (pctE p).length + 1 := by simp [slashed]
    rw [slashed_app, List.length_append, h2]
    have := pctE_len p
    omega
/-- A slice of the parts so far. -/
def DotState (w0 : World) (R : Blks) (st : List (List Int)) (v : Value) (w : World) : Prop := ∃ L, IsStrs v (st.map strOfNums) L ∧ Own w0 w (L ++ R)
theorem dot_in {p : List Int} (h : Byt p) (bs : List UInt8) : ((strOfNums p).toList == bs) = decide (p = bs.map fun b => (b.toNat : Int)) := by rw [beq_lit, sb_str h]
end Go.Proofs.YtfgaikacijdodaaDoor
/-
  The document's Trim.
-/
namespace Go.Proofs.YtfgaikacijdodaaDoor
set_option linter.unusedVariables false
set_option linter.unusedSimpArgs false
set_option maxRecDepth 20000
open Go.RowKit

theorem sb_pop (t : ByteArray) (k : Nat) : sb (t.extract 0 k) = (sb t).take k := by rw [sb_extract]; rfl
theorem sb_last (t : ByteArray) (h : 0 < t.size) : sb t = (sb t).take (t.size - 1) ++ [(sb t).getD (t.size - 1) 0] := by
  have hl := length_sb t
  have h1 : t.size - 1 < (sb t).length := by omega
  have := List.take_succ_eq_append_getElem h1
  rw [show t.size - 1 + 1 = (sb t).length by omega, List.take_length] at this
  rw [List.getD_eq_getElem?_getD, List.getElem?_eq_getElem h1, Option.getD_some]
  exact this
end Go.Proofs.YtfgaikacijdodaaDoor
/-
  The document's own Parse of URLs.
-/
namespace Go.Proofs.YtfgaikacijdodaaDoor
set_option linter.unusedVariables false
set_option linter.unusedSimpArgs false
set_option maxRecDepth 20000
open Go.RowKit

theorem slashed_cons (p : List Int) (ps : List (List Int)) : (slashed (p :: ps)).length = p.length + 1 + (slashed ps).length := by
  show ((47 :: p) ++ slashed ps).length = _
  simp only [List.length_append, List.length_cons]
theorem dotGo_len : ∀ (ps st : List (List Int)), (slashed (dotGo st ps)).length ≤ (slashed st).length + 12 * (slashed ps).length
  | [], st => by simp [dotGo, slashed]
  | [p], st => by
    have := dotStep_len st p true
    show (slashed (dotStep st p true)).length ≤ _
    rw [slashed_cons]
    omega
  | p :: q :: r, st => by
    have h1 := dotStep_len st p false
    have h2 := dotGo_len (q :: r) (dotStep st p false)
    show (slashed (dotGo (dotStep st p false) (q :: r))).length ≤ _
    rw [slashed_cons p (q :: r)]
    omega
theorem partsI_len : ∀ l : List Int, (slashed (partsI l)).length = l.length + 1
  | [] => rfl
  | c :: r => by
    have ih := partsI_len r
    unfold partsI
    split
    · rw [slashed_cons, ih]; simp; omega
    · split
      · rename_i p ps hps
        rw [hps, slashed_cons] at ih
        rw [slashed_cons]; simp; omega
      · rename_i hps
        exact absurd hps (partsI_ne r)
theorem dotsI_len (l : List Int) : (dotsI l).length ≤ 12 * (l.length + 1) := by
  unfold dotsI
  have h1 := dotGo_len (partsI (l.drop 1)) []
  rw [partsI_len] at h1
  have h2 : (slashed ([] : List (List Int))).length = 0 := rfl
  rw [h2, List.length_drop] at h1
  omega
def UL.zero : UL := ⟨[], [], 0, [], []⟩
theorem one_url (u : UL) : ∀ v ∈ u.val, v.oneCell' = true := by
  intro v hv
  simp only [UL.val, List.mem_cons, List.not_mem_nil, or_false] at hv
  rcases hv with rfl | rfl | rfl | rfl | rfl <;> rfl
def GotU (w0 : World) (R : Blks) (o : Option UL) (e : Ending) (w' : World) : Prop := e = .returned (.tuple #[.agg (o.getD UL.zero).val.toArray, .bool o.isSome]) ∧ Own w0 w' R
theorem http_byt : Byt httpI := by intro x hx; simp [httpI] at hx; omega
theorem https_byt : Byt httpsI := by intro x hx; simp [httpsI] at hx; omega
theorem schemeI_is {t sch r : List Int} (h : schemeI t = some (sch, r)) : (sch = httpI ∧ r = t.drop 7) ∨ (sch = httpsI ∧ r = t.drop 8) := by
  unfold schemeI at h
  split at h
  · cases h; exact .inl ⟨rfl, rfl⟩
  · split at h
    · cases h; exact .inr ⟨rfl, rfl⟩
    · cases h
theorem figI_range {l : List Int} {n : Int} (h : figI l 1 5 = some n) : 0 ≤ n ∧ n < 100000 := by
  unfold figI at h
  split at h
  · rename_i hf
    cases h
    have hb := figN_bound l hf.2.2
    have hall : ∀ k, k < 6 → (10 : Int) ^ k ≤ 10 ^ 5 := by decide
    have := hall l.length (by have := hf.2.1; omega)
    exact ⟨hb.1, Int.lt_of_lt_of_le hb.2 this⟩
  · cases h
end Go.Proofs.YtfgaikacijdodaaDoor
/-
  The document's own Join of URLs; what a parsed URL is like.
-/
namespace Go.Proofs.YtfgaikacijdodaaDoor
set_option linter.unusedVariables false
set_option linter.unusedSimpArgs false
set_option maxRecDepth 20000
open Go.RowKit

/-- A URL whose parts are short, and bytes. -/
structure UL.Fine (u : UL) : Prop where
  sch : u.sch = httpI ∨ u.sch = httpsI
  host : HostOk u.host
  hostB : Byt u.host
  pathB : Byt u.path
  queryB : Byt u.query
  port0 : 0 ≤ u.port
  port1 : u.port < 100000
  short : (printI u).length ≤ 40
theorem UL.Fine.schB {u : UL} (h : u.Fine) : Byt u.sch := by rcases h.sch with e | e <;> rw [e]; exact http_byt; exact https_byt
theorem UL.Fine.schl {u : UL} (h : u.Fine) : u.sch.length ≤ 5 := by rcases h.sch with e | e <;> rw [e] <;> decide
theorem UL.Fine.orig {u : UL} (h : u.Fine) : (originI u).length ≤ 40 := by have := h.short; unfold printI at this; simp only [List.length_append] at this; omega
theorem UL.Fine.lens {u : UL} (h : u.Fine) : u.path.length ≤ 40 ∧ u.query.length ≤ 40 := by have := h.short; unfold printI at this; simp only [List.length_append] at this; omega
theorem UL.Fine.ok {u : UL} (h : u.Fine) : u.Ok := ⟨by have := h.schl; omega, by have := h.host.2.1; omega, by have := h.lens; omega, by have := h.lens; omega, h.port0, by have := h.port1; omega⟩
theorem originI_byt {u : UL} (h : u.Fine) : Byt (originI u) := by
  unfold originI
  refine byt_append (byt_append (byt_append h.schB ?_) h.hostB) ?_
  · intro x hx; simp at hx; omega
  · split
    · intro x hx
      rcases List.mem_cons.1 hx with rfl | hx
      · omega
      · exact digs_byt _ x hx
    · intro x hx; cases hx
theorem pctE_byt' (l : List Int) : Byt (pctE l) := fun x hx => by have := pctE_plain l x hx; omega
theorem dotStep_byt {st : List (List Int)} {p : List Int} {last : Bool} (h : ∀ q ∈ st, Byt q) : ∀ q ∈ dotStep st p last, Byt q := by
  intro q hq
  unfold dotStep at hq
  split at hq
  · simp only [] at hq
    have hst : ∀ q ∈ (if p = [46, 46] then st.dropLast else st), Byt q := by
      intro q hq
      split at hq
      · exact h q ((List.dropLast_sublist _).subset hq)
      · exact h q hq
    split at hq
    · rcases List.mem_append.1 hq with hq | hq
      · exact hst q hq
      · rw [List.mem_singleton] at hq; subst hq; intro x hx; cases hx
    · exact hst q hq
  · rcases List.mem_append.1 hq with hq | hq
    · exact h q hq
    · rw [List.mem_singleton] at hq; subst hq; exact pctE_byt' p
theorem dotGo_byt : ∀ (ps st : List (List Int)), (∀ q ∈ st, Byt q) → ∀ q ∈ dotGo st ps, Byt q
  | [], st, h => h
  | [p], st, h => dotStep_byt h
  | p :: q :: r, st, h => dotGo_byt (q :: r) _ (dotStep_byt h)
theorem dotsI_byt (l : List Int) : Byt (dotsI l) := by
  intro x hx
  unfold dotsI slashed at hx
  rw [List.mem_flatMap] at hx
  obtain ⟨p, hp, hx⟩ := hx
  rcases List.mem_cons.1 hx with rfl | hx
  · omega
  · exact dotGo_byt _ [] (by simp) p hp x hx
theorem queryI_byt (q : List Int) : Byt (queryI q) := by
  unfold queryI
  split
  · intro x hx
    rcases List.mem_cons.1 hx with rfl | hx
    · omega
    · exact pctE_byt' _ x hx
  · intro x hx; cases hx
theorem ahead_sub (st l : List Int) : (ahead st l).Sublist l := List.takeWhile_sublist _
/-- What is parsed is fine. -/
theorem parseI_fine {l : List Int} (hB : Byt l) {u : UL} (h : parseI l = some u) : u.Fine := by
  unfold parseI at h
  rw [Option.bind_eq_some_iff] at h
  obtain ⟨⟨sch, r⟩, hs, h⟩ := h
  have hsr := schemeI_is hs
  have hrB : Byt r := by
    have ht : Byt (trimI l) := fun x hx => hB x ((trimI_sub l).subset hx)
    rcases hsr with ⟨_, rfl⟩ | ⟨_, rfl⟩ <;> exact byt_drop ht _
  unfold hostI at h
  simp only at h
  split at h
  · rename_i hho
    rw [Option.bind_eq_some_iff] at h
    obtain ⟨⟨port, rest2⟩, hp, h⟩ := h
    simp only at h
    have hpr : 0 ≤ port ∧ port < 100000 := by
      unfold portI at hp
      split at hp
      · rw [Option.bind_eq_some_iff] at hp
        obtain ⟨n, hn, hp⟩ := hp
        have hr := figI_range hn
        split at hp
        · cases hp
        · cases hp
          split <;> omega
      · cases hp; omega
    unfold restI at h
    simp only at h
    split at h
    · cases h
    · rename_i h40
      cases h
      refine ⟨?_, hho, lowL_byt (ahead_byt hrB), dotsI_byt _, queryI_byt _, hpr.1, hpr.2, by omega⟩
      rcases hsr with ⟨e, _⟩ | ⟨e, _⟩
      · exact .inl e
      · exact .inr e
  · cases h
end Go.Proofs.YtfgaikacijdodaaDoor
