/-
  Texts that the laws stand on: Pct1, Pct6, Url2, Url3, Bld, Strs.
-/
import Derived.Test.YtfgaikacijdodaaGreatDoorM2
import Derived.Lib.UnsafeStr
import Derived.Lib.BufferWrite

/-
  Package pct: isPlain, isBlank, digit, cut.
-/
namespace Go.Proofs.YtfgaikacijdodaaGreatDoor
set_option linter.unusedVariables false
set_option linter.unusedSimpArgs false
set_option maxRecDepth 20000
open Go.RowKit

set_option maxHeartbeats 1000000 in
theorem isPlain_c {w : World} (c : Nat) : Calls Tryz.prog 62 #[.int .i32 (c : Int)] w fun e w' => e = .returned (.bool (plainR c)) ∧ w = w' := by
  rcases (by omega : c = 34 ∨ c = 96 ∨ c = 35 ∨ c = 60 ∨ c = 62 ∨ c = 63 ∨ c = 123 ∨ c = 125 ∨ (c ≠ 34 ∧ c ≠ 96 ∧ c ≠ 35 ∧ c ≠ 60 ∧ c ≠ 62 ∧ c ≠ 63 ∧ c ≠ 123 ∧ c ≠ 125)) with rfl | rfl | rfl | rfl | rfl | rfl | rfl | rfl | h
  iterate 8
    · go_enter Tryz.func62, Tryz.ntmps62
      go_wp2
      go_ret
      exact ⟨rfl, rfl⟩
  · obtain ⟨h1, h2, h3, h4, h5, h6, h7, h8⟩ := h
    have t1 : ((c : Int) == 34) = false := by simp; omega
    have t2 : ((c : Int) == 96) = false := by simp; omega
    have t3 : ((c : Int) == 35) = false := by simp; omega
    have t4 : ((c : Int) == 60) = false := by simp; omega
    have t5 : ((c : Int) == 62) = false := by simp; omega
    have t6 : ((c : Int) == 63) = false := by simp; omega
    have t7 : ((c : Int) == 123) = false := by simp; omega
    have t8 : ((c : Int) == 125) = false := by simp; omega
    by_cases h9 : (33 : Int) ≤ c
    · by_cases h10 : (c : Int) ≤ 126
      · have hp : plainR c = true := by rw [plainR_iff]; omega
        rw [hp]
        clear hp h1 h2 h3 h4 h5 h6 h7 h8
        go_enter Tryz.func62, Tryz.ntmps62
        go_wp2
        go_ret
        exact ⟨rfl, rfl⟩
      · have hp : plainR c = false := by rw [← Bool.not_eq_true, plainR_iff]; omega
        rw [hp]
        clear hp h1 h2 h3 h4 h5 h6 h7 h8
        go_enter Tryz.func62, Tryz.ntmps62
        go_wp2
        go_ret
        exact ⟨rfl, rfl⟩
    · have hp : plainR c = false := by rw [← Bool.not_eq_true, plainR_iff]; omega
      rw [hp]
      clear hp h1 h2 h3 h4 h5 h6 h7 h8
      go_enter Tryz.func62, Tryz.ntmps62
      go_wp2
      go_ret
      exact ⟨rfl, rfl⟩
theorem isBlank_c {w : World} (c : Int) : Calls Tryz.prog 45 #[.int .u8 c] w fun e w' => e = .returned (.bool (blank c)) ∧ w = w' := by
  unfold blank
  go_enter Tryz.func45, Tryz.ntmps45
  go_wp2
  go_ret
  exact ⟨rfl, rfl⟩
theorem index_sb (w : World) (s : ByteArray) (j : Nat) (h : j < s.size) : (Instr.index 9 (.string s) (.int .i64 (j : Int))).run Tryz.prog w = .ok (.int .u8 ((sb s).getD j 0)) w := by
  rw [run_index_string w _ s .i64 (j : Int) Tryz.underlying9, dif_pos (by omega)]
  congr 2
  simp only [Int.toNat_natCast]
  rw [List.getD_eq_getElem?_getD, List.getElem?_eq_getElem (by rw [length_sb]; exact h), Option.getD_some]
  simp [sb, ByteArray.getElem_eq_getElem_data]
theorem index_at (w : World) (s : ByteArray) (j : Nat) (k : Int) (hk : (j : Int) = k) (h : j < s.size) : (Instr.index 9 (.string s) (.int .i64 k)).run Tryz.prog w = .ok (.int .u8 ((sb s).getD j 0)) w := by subst hk; exact index_sb w s j h
theorem index_sb0 (w : World) (s : ByteArray) (h : 0 < s.size) : (Instr.index 9 (.string s) (.int .i64 0)).run Tryz.prog w = .ok (.int .u8 ((sb s).getD 0 0)) w := index_sb w s 0 h
theorem index_sb1 (w : World) (s : ByteArray) (h : 1 < s.size) : (Instr.index 9 (.string s) (.int .i64 1)).run Tryz.prog w = .ok (.int .u8 ((sb s).getD 1 0)) w := index_sb w s 1 h
theorem index_sb2 (w : World) (s : ByteArray) (h : 2 < s.size) : (Instr.index 9 (.string s) (.int .i64 2)).run Tryz.prog w = .ok (.int .u8 ((sb s).getD 2 0)) w := index_sb w s 2 h
theorem sb_from (s : ByteArray) (i : Nat) : sb (s.extract i s.size) = (sb s).drop i := by
  rw [sb_extract, List.take_of_length_le (by rw [length_sb]; exact Nat.le_refl _)]
/-- The first byte that l stands for, and what is left. -/
def cutI : List Int → Option (Int × List Int)
  | [] => none
  | x :: r => if x = 37 then
      (match r with
        | a :: b :: q => (digI a).bind fun h => (digI b).map fun l => (16 * h + l, q)
        | _ => none)
    else some (x, r)
def GotCut (w : World) (o : Option (Int × List Int)) (e : Ending) (w' : World) : Prop :=
  ((∃ c t, o = some (c, sb t) ∧ 0 ≤ c ∧ c ≤ 255 ∧ e = .returned (.tuple #[.int .u8 c, .string t, .bool true])) ∨ (o = none ∧ e = .returned (.tuple #[.int .u8 0, .string ⟨#[]⟩, .bool false]))) ∧ ∃ m, w' = w.drewN m
theorem u8shl4 (h : Int) (h0 : 0 ≤ h) (h1 : h < 16) : IntKind.u8.wrap (h * 16) = h * 16 := by rw [IntKind.wrap_u8']; omega
theorem u8or4 (h l : Int) (h0 : 0 ≤ h) (h1 : h < 16) (l0 : 0 ≤ l) (l1 : l < 16) : bits .or .u8 (h * 16) l = h * 16 + l :=
  bits_join .u8 8 (by decide) wraps_u8 4 (h * 16) l (by omega) (by omega) (by omega) l0 (by omega) (by omega)
end Go.Proofs.YtfgaikacijdodaaGreatDoor
/-
  Trim: the program's and the document's.
-/
namespace Go.Proofs.YtfgaikacijdodaaGreatDoor
set_option linter.unusedVariables false
set_option linter.unusedSimpArgs false
set_option maxRecDepth 20000
open Go.RowKit

/-! ### what is left between two places -/
def win (l : List Int) (f t : Nat) : List Int := (l.take t).drop f
theorem win_len (l : List Int) (f t : Nat) (ht : t ≤ l.length) : (win l f t).length = t - f := by unfold win; simp; omega
theorem win_head (l : List Int) (f t : Nat) (h : f < t) (ht : t ≤ l.length) : win l f t = (l.getD f 0) :: win l (f + 1) t := by
  unfold win
  have hf : f < (l.take t).length := by simp; omega
  rw [List.drop_eq_getElem_cons hf]
  congr 1
  simp [List.getD_eq_getElem?_getD, List.getElem?_eq_getElem (show f < l.length by omega)]
theorem win_last (l : List Int) (f t : Nat) (h : f ≤ t) (ht : t < l.length) : win l f (t + 1) = win l f t ++ [l.getD t 0] := by
  unfold win
  rw [List.take_succ_eq_append_getElem ht, List.drop_append_of_le_length (by simp; omega)]
  simp [List.getD_eq_getElem?_getD, List.getElem?_eq_getElem ht]
theorem trim_front {x : Int} {l : List Int} (h : blank x = true) : trimI (x :: l) = trimI l := by unfold trimI; rw [List.dropWhile_cons_of_pos h]
theorem trim_back {x : Int} {l : List Int} (h : blank x = true) : trimI (l ++ [x]) = trimI l := by
  unfold trimI
  rw [List.dropWhile_append]
  cases hd : l.dropWhile blank with
  | nil => simp [h]
  | cons y d =>
    simp only [List.isEmpty_cons, Bool.false_eq_true, if_false]
    rw [List.reverse_append, List.reverse_singleton, List.singleton_append, List.dropWhile_cons_of_pos h]
theorem trim_done {l : List Int} (h1 : ∀ x r, l = x :: r → blank x = false) (h2 : ∀ r x, l = r ++ [x] → blank x = false) : trimI l = l := by
  unfold trimI
  cases l with
  | nil => rfl
  | cons x r =>
    rw [List.dropWhile_cons_of_neg (by rw [h1 x r rfl]; simp)]
    rcases List.eq_nil_or_concat (x :: r) with e | ⟨r', y, e⟩
    · cases e
    · rw [List.concat_eq_append] at e
      rw [e, List.reverse_append, List.reverse_singleton, List.singleton_append, List.dropWhile_cons_of_neg (by rw [h2 r' y e]; simp)]
      simp
def strSize : Value → Nat
  | .string s => s.size
  | _ => 0
theorem win_all (l : List Int) : win l 0 l.length = l := by unfold win; simp
theorem sb_win (s : ByteArray) (f t : Nat) : sb (s.extract f t) = win (sb s) f t := sb_extract s f t
set_option maxHeartbeats 4000000 in
theorem sclone_c {w0 w : World} {R : Blks} (hO : Own w0 w R) (s : ByteArray) (hs : s.size ≤ 1073741824) :
    Calls Tryz.prog 65 #[.string s] w fun e w' => e = .returned (.string s) ∧ Own w0 w' R := by
  by_cases h0 : s.size = 0
  · have he : s = ⟨#[]⟩ := sb_inj (by rw [List.eq_nil_of_length_eq_zero (by rw [length_sb]; exact h0) (l := sb s)]; rfl)
    subst he
    have HO := Lib.hid hO
    clear hO h0 hs
    go_enter Tryz.func65, Tryz.ntmps65
    go_wp2
    go_ret
    exact ⟨rfl, HO.out⟩
  · have hz1 : (Tryz.prog.info? 5).map (·.size) = some 1 := by kernel_rfl
    have hco : Tryz.prog.cellsOf 5 = 1 := by kernel_rfl
    have hmk := make_bytes s.size hs w
    obtain ⟨M, hM⟩ : ∃ M, M = (bv (List.replicate s.size 0)).toArray := ⟨_, rfl⟩
    rw [← hM] at hmk
    have hMs : M.size = s.size := by rw [hM]; simp
    have hcp := Lib.run_copy_row_string (P := Tryz.prog) (w.alloc (.cells M 5)) 67 9 3 5 w.heap.size 0 s.size s.size s M 5 Tryz.underlying67 hz1 (heap_alloc_new w _) (Nat.le_refl _) (by omega)
    obtain ⟨Y, hY⟩ : ∃ Y, Y = (M.toList.take 0 ++ Lib.byteCells s.data.toList ++ M.toList.drop (0 + s.size)).toArray := ⟨_, rfl⟩
    rw [← hY] at hcp
    have hYl : Y.toList = Lib.byteCells s.data.toList := by
      rw [hY, List.toList_toArray, List.take_zero, List.nil_append, List.drop_of_length_le (by rw [Array.length_toList]; omega), List.append_nil]
    have hYs : Y.size = s.size := by rw [← Array.length_toList, hYl, Lib.byteCells_length, ← Lib.size_eq]
    have hgY : ((w.alloc (.cells M 5)).setRow w.heap.size Y).heap[w.heap.size]? = some (.cells Y 5 (0, 0)) := setRow_heap _ _ M _ 5 (0, 0) (heap_alloc_new w _)
    have hne : s.data.toList ≠ [] := fun e => h0 (by rw [Lib.size_eq, e]; rfl)
    have hUS := Lib.run_unsafeString_row (P := Tryz.prog) ((w.alloc (.cells M 5)).setRow w.heap.size Y) 87 3 9 5 Tryz.underlying87 hco w.heap.size Y.size (by unfold World.shape?; rw [hgY]) s.data.toList hne (by rw [← Lib.size_eq]; omega) (by rw [← Lib.size_eq]; omega)
      (fun j x hx => Lib.cells_of_row hgY Y.size j _ (by rw [List.take_of_length_le (by rw [Array.length_toList]; exact Nat.le_refl _), hYl]; simp [Lib.byteCells, hx]))
    rw [← Lib.size_eq] at hUS
    have hsd : (⟨s.data.toList.toArray⟩ : ByteArray) = s := by simp
    rw [hsd] at hUS
    have hb1 : Below w.heap.size w (w.alloc (.cells M 5)) := (Below.refl _ w).alloc (Nat.le_refl _) _
    have hb2 : Below w.heap.size (w.alloc (.cells M 5)) ((w.alloc (.cells M 5)).setRow w.heap.size Y) := ⟨rfl, rfl, rfl, by simp, fun k hk => setRow_other _ _ _ _ (by omega)⟩
    have hOf := hO.same (Lib.below_freeze (hb1.trans hb2) (p := ⟨w.heap.size, 0, none⟩) (Nat.le_refl _) s.size)
    have HO := Lib.hid hOf
    have hp : (0 : Int) < s.size := by omega
    have hne0 : ((s.size : Int) == 0) = false := beq_eq_false_iff_ne.2 (by omega)
    clear hO hY hM hOf hb1 hb2 hne hgY hYl hsd hz1 hco hMs hYs
    go_enter Tryz.func65, Tryz.ntmps65
    go_wp2
    go_ret
    exact ⟨rfl, HO.out⟩
theorem clone_c {w0 w : World} {R : Blks} (hO : Own w0 w R) (s : ByteArray) (hs : s.size ≤ 1073741824) :
    Calls Tryz.prog 46 #[.string s] w fun e w' => e = .returned (.string s) ∧ Own w0 w' R := by
  have H := Lib.hid (sclone_c hO s hs)
  clear hO
  go_enter Tryz.func46, Tryz.ntmps46
  go_wp2_with fail
  with_reducible refine H.out.mono ?_
  rintro e w1 ⟨rfl, hO1⟩
  have HO1 := Lib.hid hO1; clear hO1 H
  go_wp2
  go_ret
  exact ⟨rfl, HO1.out⟩
theorem blank_iff (x : Int) : blank x = true ↔ x ≤ 32 := by unfold blank; exact decide_eq_true_iff
theorem win_empty (l : List Int) (f : Nat) : win l f f = [] := by unfold win; exact List.drop_eq_nil_of_le (by simp; omega)
theorem ext_empty (s : ByteArray) (f : Nat) : s.extract f f = ByteArray.empty := sb_inj (by rw [sb_win, win_empty]; rfl)
theorem win_trim {l : List Int} {f t : Nat} (h : f < t) (ht : t ≤ l.length) (h1 : blank (l.getD f 0) = false) (h2 : blank (l.getD (t - 1) 0) = false) : trimI (win l f t) = win l f t := by
  apply trim_done
  · intro x r e
    rw [win_head l f t h ht] at e
    injection e with e1 e2
    rw [← e1]; exact h1
  · intro r x e
    have h3 := win_last l f (t - 1) (by omega) (by omega)
    rw [show t - 1 + 1 = t by omega] at h3
    rw [h3] at e
    have := List.append_inj' e rfl
    have e2 : [l.getD (t - 1) 0] = [x] := this.2
    injection e2 with e3
    rw [← e3]; exact h2
set_option maxHeartbeats 4000000 in
theorem trim_c {w0 w : World} {R : Blks} (hO : Own w0 w R) (s : ByteArray) (hs : s.size ≤ 1073741824) :
    Calls Tryz.prog 16 #[.string s] w fun e w' => e = .returned (.string (strOfNums (trimI (sb s)))) ∧ Own w0 w' R := by
  have HO := Lib.hid hO
  obtain ⟨l, hl⟩ : ∃ l, sb s = l := ⟨_, rfl⟩
  obtain ⟨n, hn⟩ : ∃ n, s.size = n := ⟨_, rfl⟩
  have hln : l.length = n := by rw [← hl, ← hn]; exact length_sb s
  have HL := Lib.hid hl; have HN := Lib.hid hn; have HLN := Lib.hid hln
  have hfin : ∀ f t, f ≤ t → t ≤ n → trimI l = win l f t → Hid (Calls Tryz.prog 46 #[.string (s.extract f t)] w fun e w' => e = .returned (.string (strOfNums (trimI l))) ∧ Own w0 w' R) := by
    intro f t h1 h2 h3
    have hlen : (s.extract f t).size ≤ 1073741824 := by rw [← length_sb, sb_win, win_len _ _ _ (by rw [length_sb, hn]; exact h2)]; omega
    have := clone_c hO (s.extract f t) hlen
    have e : s.extract f t = strOfNums (trimI l) := by rw [← str_sb (s.extract f t), sb_win, hl, h3]
    rw [← e]
    exact this
  have HF := Lib.hid hfin
  have hT0 : trimI (win l 0 n) = trimI l := by rw [← hln, win_all]
  have HT0 := Lib.hid hT0
  rw [hl]
  rw [hn] at hs
  clear hO hl hln hfin hT0
  go_enter Tryz.func16, Tryz.ntmps16
  go_wp2
  clear hn
  go_loopw [3] (fun u w' => ∃ f : Nat, f ≤ n ∧ u = .int .i64 f ∧ Hid (trimI (win l f n) = trimI l) ∧ w' = w) (fun u _ => n - (intOf u).toNat)
  case atStart => exact ⟨0, Nat.zero_le _, rfl, HT0, rfl⟩
  case round =>
    obtain ⟨f, hf, rfl, HT, rfl⟩ := hrel
    by_cases hlt : f < n
    · have hix := index_sb wr s f (by rw [HN.out]; exact hlt)
      have hwh := win_head l f n hlt (by rw [HLN.out]; exact Nat.le_refl _)
      rw [HL.out] at hix
      have HW := Lib.hid hwh
      have hfn : (f : Int) < n := by omega
      clear hwh
      generalize hx : l.getD f 0 = x at *
      have HX := Lib.hid hx
      clear hx
      by_cases hb : x ≤ 32
      · have ht : trimI (win l (f + 1) n) = trimI l := by rw [← HT.out, HW.out, trim_front ((blank_iff x).2 hb)]
        have HT1 := Lib.hid ht
        clear ht
        go_wp2
        go_roundw
        case rel => exact ⟨f + 1, by omega, by go_num, HT1, trivial⟩
        case measure => simp [intOf]; omega
      · have HB := Lib.hid hb
        have hbf : blank (l.getD f 0) = false := by rw [HX.out]; rw [← Bool.not_eq_true, blank_iff]; exact hb
        have HBF := Lib.hid hbf
        clear hbf
        go_wp2
        clear hix hb HB
        go_loopw [4] (fun u w' => ∃ t : Nat, f ≤ t ∧ t ≤ n ∧ u = .int .i64 t ∧ Hid (trimI (win l f t) = trimI l) ∧ w' = wr) (fun u _ => (intOf u).toNat)
        case atStart => exact ⟨n, hf, Nat.le_refl _, rfl, HT, rfl⟩
        case round =>
          obtain ⟨t, hft, htn, rfl, HT2, rfl⟩ := hrel
          by_cases hlt2 : f < t
          · have hix2 := index_at wr s (t - 1) ((t : Int) - 1) (by omega) (by rw [HN.out]; omega)
            have hwl := win_last l f (t - 1) (by omega) (by rw [HLN.out]; omega)
            rw [show t - 1 + 1 = t by omega] at hwl
            have hwt := win_trim (l := l) hlt2 (by rw [HLN.out]; exact htn) HBF.out
            rw [HL.out] at hix2
            have HW2 := Lib.hid hwl; have HWT := Lib.hid hwt
            have hft' : (f : Int) < t := by omega
            have ht1 : (1 : Int) ≤ t := by omega
            clear hwl hwt
            generalize hy : l.getD (t - 1) 0 = y at *
            clear hy
            by_cases hb : y ≤ 32
            · have ht : trimI (win l f (t - 1)) = trimI l := by rw [← HT2.out, HW2.out, trim_back ((blank_iff y).2 hb)]
              have HT3 := Lib.hid ht
              clear ht
              go_wp2
              go_roundw
              case rel => exact ⟨t - 1, by omega, by omega, by go_num, HT3, trivial⟩
              case measure => simp [intOf]; omega
            · have hbl : blank y = false := by rw [← Bool.not_eq_true, blank_iff]; exact hb
              have hcall := HF.out f t hft htn (by rw [← HT2.out]; exact HWT.out hbl)
              have hts : (t : Int) ≤ s.size := by rw [HN.out]; omega
              have hftI : (f : Int) ≤ t := by omega
              have hcb := isBlank_c (w := wr) y
              rw [hbl] at hcb
              have HCB := Lib.hid hcb
              clear hbl hcb
              go_wp2_with fail
              with_reducible refine HCB.out.mono ?_
              rintro e w2 ⟨rfl, rfl⟩
              go_wp2_with fail
              with_reducible refine hcall.out.mono ?_
              rintro e w3 ⟨rfl, hO3⟩
              have HO3 := Lib.hid hO3; clear hO3
              go_wp2
              go_ret
              exact ⟨rfl, HO3.out⟩
          · obtain rfl : t = f := by omega
            have hcall := HF.out t t (Nat.le_refl _) htn (by rw [← HT2.out, win_empty]; rfl)
            rw [ext_empty s t] at hcall
            have hts : (t : Int) ≤ s.size := by rw [HN.out]; omega
            go_wp2_with fail
            with_reducible refine hcall.out.mono ?_
            rintro e w3 ⟨rfl, hO3⟩
            have HO3 := Lib.hid hO3; clear hO3
            go_wp2
            go_ret
            exact ⟨rfl, HO3.out⟩
    · obtain rfl : f = n := by omega
      have hcall := HF.out f f (Nat.le_refl _) (Nat.le_refl _) (by rw [← HT.out, win_empty]; rfl)
      rw [ext_empty s f] at hcall
      have hts : (f : Int) ≤ s.size := by rw [HN.out]; omega
      go_wp2
      go_loopw [4] (fun u w' => u = .int .i64 f ∧ w' = wr) (fun _ _ => 0)
      case atStart => exact ⟨rfl, rfl⟩
      case round =>
        obtain ⟨rfl, rfl⟩ := hrel
        go_wp2_with fail
        with_reducible refine hcall.out.mono ?_
        rintro e w3 ⟨rfl, hO3⟩
        have HO3 := Lib.hid hO3; clear hO3
        go_wp2
        go_ret
        exact ⟨rfl, HO3.out⟩
end Go.Proofs.YtfgaikacijdodaaGreatDoor
/-
  The document's own helps of URLs: until, begins, Host, Digits, Figures, own.
-/
namespace Go.Proofs.YtfgaikacijdodaaGreatDoor
set_option linter.unusedVariables false
set_option linter.unusedSimpArgs false
set_option maxRecDepth 20000
open Go.RowKit

theorem contains_of {st : List Int} {k : Nat} (hk : k < st.length) (c : Int) (h : c = st.getD k 0) : st.contains c = true := by
  rw [List.getD_eq_getElem?_getD, List.getElem?_eq_getElem hk, Option.getD_some] at h
  subst h
  simp
theorem contains_no {st : List Int} {c : Int} (h : ∀ k, k < st.length → c ≠ st.getD k 0) : st.contains c = false := by
  rw [← Bool.not_eq_true]
  intro e
  have hm : c ∈ st := by simpa using e
  obtain ⟨k, hk, e⟩ := List.getElem_of_mem hm
  exact h k hk (by rw [List.getD_eq_getElem?_getD, List.getElem?_eq_getElem hk, Option.getD_some, e])
set_option maxHeartbeats 4000000 in
theorem until_c {w : World} (s st : ByteArray) (hs : s.size ≤ 1073741824) (ht : st.size ≤ 1073741824) : Calls Tryz.prog 50 #[.string s, .string st] w
    (Quiet w (.tuple #[.string (strOfNums (ahead (sb st) (sb s))), .string (strOfNums (behind (sb st) (sb s)))])) := by
  obtain ⟨l, hl⟩ : ∃ l, sb s = l := ⟨_, rfl⟩
  obtain ⟨n, hn⟩ : ∃ n, s.size = n := ⟨_, rfl⟩
  obtain ⟨ts, hts⟩ : ∃ ts, sb st = ts := ⟨_, rfl⟩
  obtain ⟨m, hm⟩ : ∃ m, st.size = m := ⟨_, rfl⟩
  have hln : l.length = n := by rw [← hl, ← hn]; exact length_sb s
  have htm : ts.length = m := by rw [← hts, ← hm]; exact length_sb st
  have HL := Lib.hid hl; have HN := Lib.hid hn; have HTS := Lib.hid hts; have HM := Lib.hid hm; have HLN := Lib.hid hln; have HTM := Lib.hid htm
  rw [hl, hts]
  rw [hn] at hs; rw [hm] at ht
  clear hl hts hln htm
  go_enter Tryz.func50, Tryz.ntmps50
  go_wp2
  go_loopw [6] (fun t w' => ∃ i : Nat, i ≤ n ∧ t = .int .i64 i ∧ Hid (∀ j, j < i → ts.contains (l.getD j 0) = false) ∧ Hid (∃ q, w' = w.drewN q)) (fun t _ => n - (intOf t).toNat)
  case atStart => exact ⟨0, Nat.zero_le _, rfl, Lib.hid (fun j hj => by omega), 0, rfl⟩
  case round =>
    obtain ⟨i, hi, rfl, HA, HW⟩ := hrel
    by_cases hlt : i < n
    · have hin : (i : Int) < n := by omega
      go_wp2
      go_loopw [7] (fun t w' => ∃ j : Nat, j ≤ m ∧ t = .int .i64 j ∧ Hid (∀ k, k < j → l.getD i 0 ≠ ts.getD k 0) ∧ Hid (∃ q, w' = w.drewN q)) (fun t _ => m - (intOf t).toNat)
      case atStart => exact ⟨0, Nat.zero_le _, rfl, Lib.hid (fun j hj => by omega), HW.out⟩
      case round =>
        clear HW
        obtain ⟨j, hj, rfl, HB, HW⟩ := hrel
        by_cases hlj : j < m
        · have h1 := index_at wr.drew s i i rfl (by rw [hn]; exact hlt)
          have h2 := index_at wr.drew st j j rfl (by rw [hm]; exact hlj)
          rw [HL.out] at h1
          rw [HTS.out] at h2
          have hjm : (j : Int) < m := by omega
          have hcy : l.getD i 0 = ts.getD j 0 → ts.contains (l.getD i 0) = true := contains_of (by rw [HTM.out]; exact hlj) _
          have HCY := Lib.hid hcy
          generalize hx : l.getD i 0 = x at *
          generalize hy : ts.getD j 0 = y at *
          have HX := Lib.hid hx; have HY := Lib.hid hy
          clear hx hy hcy
          by_cases hxy : x = y
          · have hat := ahead_at (by rw [HLN.out]; exact hlt) HA.out (by rw [HX.out]; exact HCY.out hxy)
            have HAT := Lib.hid hat
            have t1 : (x == y) = true := beq_iff_eq.2 hxy
            clear hat hxy
            have hin2 : (i : Int) ≤ s.size := by rw [hn]; omega
            have e1 : s.extract 0 i = strOfNums (ahead ts l) := by rw [HAT.out.1, ← str_sb (s.extract 0 i), sb_extract, HL.out]; rfl
            have e2 : s.extract i s.size = strOfNums (behind ts l) := by rw [HAT.out.2, ← str_sb (s.extract i s.size), sb_from, HL.out]
            have E1 := Lib.hid e1; have E2 := Lib.hid e2
            clear e1 e2
            go_wp2
            refine wp_region_lin (fun w' => w' = wr.drew) 7 [(0, true), (1, true), (2, true), (3, true), (4, true), (5, true), (6, true)] (by kernel_rfl) (by kernel_rfl) (fun _ _ d _ _ h => by cases d <;> exact h) rfl ?_
            simp only [List.map_cons, List.map_nil, pick_zero, pick_succ, List.drop_succ_cons, List.drop_zero]
            iterate 7 (refine lin_q ?_ rfl ?_ ?_; rotate_left 1; (focus (rintro w' rfl; go_simp; first | done | with_reducible rfl | (trace_state; fail))); simp only [Act.put, List.setIfInBounds_toArray, List.set_cons_zero, List.set_cons_succ])
            refine lin_nil ?_
            clear h1 h2 t1
            go_wp2
            refine wp_region_lin (fun w' => w' = wr.drew.drew) 8 [(0, true), (1, true), (2, true), (3, true), (4, true), (5, true), (6, true), (7, true)] (by kernel_rfl) (by kernel_rfl) (fun _ _ d _ _ h => by cases d <;> exact h) rfl ?_
            simp only [List.map_cons, List.map_nil, pick_zero, pick_succ, List.drop_succ_cons, List.drop_zero]
            iterate 8 (refine lin_q ?_ rfl ?_ ?_; rotate_left 1; (focus (rintro w' rfl; go_simp; first | done | with_reducible rfl | (trace_state; fail))); simp only [Act.put, List.setIfInBounds_toArray, List.set_cons_zero, List.set_cons_succ])
            refine lin_nil ?_
            go_wp2
            go_ret2
            obtain ⟨q, hq⟩ := HW.out
            exact ⟨by rw [← E1.out, ← E2.out, hn]; rfl, q + 2, by rw [hq]; rfl⟩
          · have t1 : (x == y) = false := beq_eq_false_iff_ne.2 hxy
            have hb : ∀ k, k < j + 1 → x ≠ ts.getD k 0 := by
              intro k hk
              rcases (by omega : k < j ∨ k = j) with h | rfl
              · exact HB.out k h
              · rw [HY.out]; exact hxy
            have HB2 := Lib.hid hb
            clear hxy hb
            go_wp2
            refine wp_region_lin (fun w' => w' = wr.drew) 7 [(0, true), (1, true), (2, true), (3, true), (4, true), (5, true), (6, true)] (by kernel_rfl) (by kernel_rfl) (fun _ _ d _ _ h => by cases d <;> exact h) rfl ?_
            simp only [List.map_cons, List.map_nil, pick_zero, pick_succ, List.drop_succ_cons, List.drop_zero]
            iterate 7 (refine lin_q ?_ rfl ?_ ?_; rotate_left 1; (focus (rintro w' rfl; go_simp; first | done | with_reducible rfl | (trace_state; fail))); simp only [Act.put, List.setIfInBounds_toArray, List.set_cons_zero, List.set_cons_succ])
            refine lin_nil ?_
            clear h1 h2 t1
            go_wp2
            go_roundw
            case rel => exact ⟨j + 1, by omega, by go_num, HB2, by obtain ⟨q, hq⟩ := HW.out; exact ⟨q + 1, by rw [hq]; rfl⟩⟩
            case measure => simp [intOf]; omega
        · obtain rfl : j = m := by omega
          have hno := contains_no (st := ts) (c := l.getD i 0) (fun k hk => HB.out k (by rw [HTM.out] at hk; exact hk))
          have ha : ∀ k, k < i + 1 → ts.contains (l.getD k 0) = false := by
            intro k hk
            rcases (by omega : k < i ∨ k = i) with h | rfl
            · exact HA.out k h
            · exact hno
          have HA2 := Lib.hid ha
          clear hno ha
          go_wp2
          go_roundw
          case rel => exact ⟨i + 1, by omega, by go_num, HA2, HW.out⟩
          case measure => simp [intOf]; omega
    · obtain rfl : i = n := by omega
      have hat := ahead_none (stops := ts) (l := l) (fun j hj => HA.out j (by rw [HLN.out] at hj; exact hj))
      have HAT := Lib.hid hat
      have e1 : s = strOfNums (ahead ts l) := by rw [HAT.out.1, ← HL.out, str_sb]
      have E1 := Lib.hid e1
      clear hat e1
      go_wp2
      go_ret2
      exact ⟨by rw [HAT.out.2, ← E1.out]; rfl, HW.out⟩
set_option maxHeartbeats 1000000 in
theorem begins_c {w : World} (s p : ByteArray) (hs : s.size ≤ 1073741824) (hp : p.size ≤ 1073741824) : Calls Tryz.prog 34 #[.string s, .string p] w fun e w' => e = .returned (.bool (begI (sb p) (sb s))) ∧ w = w' := by
  by_cases h : p.size ≤ s.size
  · have h' : (p.size : Int) ≤ s.size := by omega
    have hb : ((s.extract 0 p.size).toList == p.toList) = begI (sb p) (sb s) := by
      rw [beq_sb, sb_extract]
      unfold begI
      rw [length_sb]
      rfl
    generalize begI (sb p) (sb s) = b at *
    go_enter Tryz.func34, Tryz.ntmps34
    go_wp2
    go_ret
    exact ⟨rfl, rfl⟩
  · have h' : ¬ ((p.size : Int) ≤ s.size) := by omega
    rw [begI_short (by rw [length_sb, length_sb]; omega)]
    go_enter Tryz.func34, Tryz.ntmps34
    go_wp2
    go_ret
    exact ⟨rfl, rfl⟩
/-- A string held against a constant, as the walk has it. -/
theorem beq_lit (s : ByteArray) (bs : List UInt8) : (s.toList == bs) = decide (sb s = bs.map fun b => (b.toNat : Int)) := by
  have h := beq_sb s ⟨bs.toArray⟩
  have e : (⟨bs.toArray⟩ : ByteArray).toList = bs := ByteArray.toList_mk bs
  rw [e] at h
  rw [h]
  rfl
theorem own_c {w : World} (s : ByteArray) : Calls Tryz.prog 36 #[.string s] w fun e w' => e = .returned (.int .i64 (ownI (sb s))) ∧ w = w' := by
  have hb : (s.toList == [104, 116, 116, 112, 115]) = decide (sb s = httpsI) := beq_lit s _
  unfold ownI
  by_cases h : sb s = httpsI
  · rw [if_pos h]
    rw [decide_eq_true h] at hb
    clear h
    go_enter Tryz.func36, Tryz.ntmps36
    go_wp2
    go_ret
    exact ⟨rfl, rfl⟩
  · rw [if_neg h]
    rw [decide_eq_false h] at hb
    clear h
    go_enter Tryz.func36, Tryz.ntmps36
    go_wp2
    go_ret
    exact ⟨rfl, rfl⟩
set_option maxHeartbeats 2000000 in
theorem figures_c {w : World} (s : ByteArray) (least most : Int) (hm : most ≤ 18) : Calls Tryz.prog 37 #[.string s, .int .i64 least, .int .i64 most] w fun e w' => e = .returned (.tuple #[.int .i64 ((figI (sb s) least most).getD 0), .bool (figI (sb s) least most).isSome]) ∧ w = w' := by
  obtain ⟨l, hl⟩ : ∃ l, sb s = l := ⟨_, rfl⟩
  obtain ⟨n, hn⟩ : ∃ n, s.size = n := ⟨_, rfl⟩
  have hln : l.length = n := by rw [← hl, ← hn]; exact length_sb s
  have HL := Lib.hid hl; have HN := Lib.hid hn; have HLN := Lib.hid hln
  obtain ⟨o, ho⟩ : ∃ o, figI l least most = o := ⟨_, rfl⟩
  have HO := Lib.hid ho
  rw [hl, ho]
  clear hl hln ho
  by_cases h1 : (n : Int) < least
  · have hno : o = none := by rw [← HO.out]; unfold figI; rw [if_neg]; intro h; have := h.1; rw [HLN.out] at this; omega
    have HNO := Lib.hid hno
    clear hno
    go_enter Tryz.func37, Tryz.ntmps37
    go_wp2
    go_ret2
    exact ⟨by rw [HNO.out]; rfl, rfl⟩
  · by_cases h2 : most < (n : Int)
    · have hno : o = none := by rw [← HO.out]; unfold figI; rw [if_neg]; intro h; have := h.2.1; rw [HLN.out] at this; omega
      have HNO := Lib.hid hno
      clear hno
      go_enter Tryz.func37, Tryz.ntmps37
      go_wp2
      go_ret2
      exact ⟨by rw [HNO.out]; rfl, rfl⟩
    · go_enter Tryz.func37, Tryz.ntmps37
      go_wp2
      have hn18 : n ≤ 18 := by omega
      go_loopw [8, 9] (fun u t w' => ∃ i : Nat, i ≤ n ∧ t = .int .i64 i ∧ Hid (u = .int .i64 (figN (l.take i))) ∧ Hid (∀ x ∈ l.take i, 48 ≤ x ∧ x ≤ 57) ∧ w' = w) (fun _ t _ => n - (intOf t).toNat)
      case atStart => exact ⟨0, Nat.zero_le _, rfl, rfl, Lib.hid (by simp), rfl⟩
      case round =>
        obtain ⟨i, hi, rfl, HU, HA, rfl⟩ := hrel
        have hu := HU.out
        subst hu
        have hb := figN_bound (l.take i) HA.out
        have hp : (10 : Int) ^ (l.take i).length ≤ 10 ^ 17 ∨ n ≤ i := by
          by_cases h : i < n
          · left
            have : (l.take i).length ≤ 17 := by rw [List.length_take]; omega
            have hall : ∀ k, k < 18 → (10 : Int) ^ k ≤ 10 ^ 17 := by decide
            exact hall _ (by omega)
          · right; omega
        by_cases hlt : i < n
        · have hix : i < l.length := by rw [HLN.out]; exact hlt
          have h3 := index_at wr s i i rfl (by rw [hn]; exact hlt)
          rw [HL.out] at h3
          have hin : (i : Int) < n := by omega
          have hts : l.take (i + 1) = l.take i ++ [l.getD i 0] := by rw [List.take_succ_eq_append_getElem hix, List.getD_eq_getElem?_getD, List.getElem?_eq_getElem hix]; rfl
          have hmem : l.getD i 0 ∈ l := by rw [List.getD_eq_getElem?_getD, List.getElem?_eq_getElem hix]; exact List.getElem_mem hix
          have hsn := figN_snoc (l.take i) (l.getD i 0)
          rw [← hts] at hsn
          have HSN := Lib.hid hsn; have HMEM := Lib.hid hmem; have HTS := Lib.hid hts
          have hf0 : 0 ≤ figN (l.take i) := hb.1
          have hf1 : figN (l.take i) < 100000000000000000 := by
            rcases hp with hp | hp
            · exact Int.lt_of_lt_of_le hb.2 hp
            · omega
          clear hts hsn hmem hb hp hix
          generalize figN (l.take i) = f at *
          generalize l.getD i 0 = x at *
          by_cases h4 : x < 48
          · have hno : o = none := by rw [← HO.out]; unfold figI; rw [if_neg]; intro h; have := h.2.2 x HMEM.out; omega
            have HNO := Lib.hid hno
            clear hno
            go_wp2
            go_ret2
            exact ⟨by rw [HNO.out]; rfl, rfl⟩
          · by_cases h5 : 57 < x
            · have hno : o = none := by rw [← HO.out]; unfold figI; rw [if_neg]; intro h; have := h.2.2 x HMEM.out; omega
              have HNO := Lib.hid hno
              clear hno
              go_wp2
              go_ret2
              exact ⟨by rw [HNO.out]; rfl, rfl⟩
            · have hA2 : ∀ y ∈ l.take (i + 1), 48 ≤ y ∧ y ≤ 57 := by
                rw [HTS.out]
                intro y hy
                rcases List.mem_append.1 hy with hy | hy
                · exact HA.out y hy
                · rw [List.mem_singleton] at hy; omega
              have HA2 := Lib.hid hA2
              clear hA2
              go_wp2
              go_roundw
              case rel => exact ⟨i + 1, by omega, by go_num, Lib.hid (by rw [HSN.out]), HA2, trivial⟩
              case measure => simp [intOf]; omega
        · obtain rfl : i = n := by omega
          have hta : l.take i = l := List.take_of_length_le (by rw [HLN.out]; exact Nat.le_refl _)
          have hal := HA.out
          rw [hta] at hal hb
          rw [hta]
          have hyes : o = some (figN l) := by rw [← HO.out]; unfold figI; rw [if_pos ⟨by rw [HLN.out]; omega, by rw [HLN.out]; omega, hal⟩]
          have HY := Lib.hid hyes
          clear hyes hta hb hp hal
          generalize figN l = f at *
          go_wp2
          go_ret2
          exact ⟨by rw [HY.out]; rfl, rfl⟩
set_option maxHeartbeats 4000000 in
theorem host_c {w : World} (s : ByteArray) : Calls Tryz.prog 51 #[.string s] w fun e w' => e = .returned (.bool (decide (HostOk (sb s)))) ∧ w = w' := by
  obtain ⟨l, hl⟩ : ∃ l, sb s = l := ⟨_, rfl⟩
  obtain ⟨n, hn⟩ : ∃ n, s.size = n := ⟨_, rfl⟩
  have hln : l.length = n := by rw [← hl, ← hn]; exact length_sb s
  have hB : Byt l := by rw [← hl]; exact byt_sb s
  have HL := Lib.hid hl; have HN := Lib.hid hn; have HLN := Lib.hid hln; have HBY := Lib.hid hB
  obtain ⟨o, ho⟩ : ∃ o, decide (HostOk l) = o := ⟨_, rfl⟩
  have HO := Lib.hid ho
  have hfail : ¬ HostOk l → o = false := fun h => by rw [← HO.out]; exact decide_eq_false h
  have HF := Lib.hid hfail
  rw [hl, ho]
  clear hl hln ho hB hfail
  by_cases h1 : n < 1
  · have hno := HF.out (fun h => by have := h.1; rw [HLN.out] at this; omega)
    have HNO := Lib.hid hno
    have h1' : (n : Int) < 1 := by omega
    clear hno
    go_enter Tryz.func51, Tryz.ntmps51
    go_wp2
    go_ret
    exact ⟨by rw [HNO.out]; rfl, rfl⟩
  · have h1' : ¬ ((n : Int) < 1) := by omega
    by_cases h2 : 20 < n
    · have hno := HF.out (fun h => by have := h.2.1; rw [HLN.out] at this; omega)
      have HNO := Lib.hid hno
      have h2' : (20 : Int) < n := by omega
      clear hno
      go_enter Tryz.func51, Tryz.ntmps51
      go_wp2
      go_ret
      exact ⟨by rw [HNO.out]; rfl, rfl⟩
    · have h2' : ¬ ((20 : Int) < n) := by omega
      have i0 := index_sb0 w s (by rw [hn]; omega)
      have i1 := index_at w s (n - 1) ((n : Int) - 1) (by omega) (by rw [hn]; omega)
      rw [HL.out] at i0 i1
      have g0 : l.getD 0 0 = 46 → o = false := fun e => HF.out (fun h => h.2.2.1 e)
      have g1 : l.getD (n - 1) 0 = 46 → o = false := fun e => HF.out (fun h => by have := h.2.2.2.1; rw [HLN.out] at this; exact this e)
      have G0 := Lib.hid g0; have G1 := Lib.hid g1
      clear g0 g1
      obtain ⟨a, ha⟩ : ∃ a, l.getD 0 0 = a := ⟨_, rfl⟩
      obtain ⟨b, hb⟩ : ∃ b, l.getD (n - 1) 0 = b := ⟨_, rfl⟩
      rw [ha] at i0 G0
      rw [hb] at i1 G1
      have HA := Lib.hid ha; have HLB := Lib.hid hb
      clear ha hb
      by_cases h3 : a = 46
      · have hno := G0.out h3
        have HNO := Lib.hid hno
        have t3 : (a == 46) = true := beq_iff_eq.2 h3
        clear hno h3
        go_enter Tryz.func51, Tryz.ntmps51
        go_wp2
        go_ret
        exact ⟨by rw [HNO.out]; rfl, rfl⟩
      · have t3 : (a == 46) = false := beq_eq_false_iff_ne.2 h3
        have H3 := Lib.hid h3
        by_cases h4 : b = 46
        · have hno := G1.out h4
          have HNO := Lib.hid hno
          have t4 : (b == 46) = true := beq_iff_eq.2 h4
          clear hno h3 h4
          go_enter Tryz.func51, Tryz.ntmps51
          go_wp2
          go_ret
          exact ⟨by rw [HNO.out]; rfl, rfl⟩
        · have t4 : (b == 46) = false := beq_eq_false_iff_ne.2 h4
          have H4 := Lib.hid h4
          clear h3 h4
          go_enter Tryz.func51, Tryz.ntmps51
          go_wp2
          clear i0 i1 t3 t4
          go_loopw [3] (fun t w' => ∃ i : Nat, i ≤ n ∧ t = .int .i64 i ∧ Hid (∀ j, j < i → HostAt l j) ∧ w' = w) (fun t _ => n - (intOf t).toNat)
          case atStart => exact ⟨0, Nat.zero_le _, rfl, Lib.hid (fun j hj => by omega), rfl⟩
          case round =>
            obtain ⟨i, hi, rfl, HAT, rfl⟩ := hrel
            by_cases hlt : i < n
            · have hix : i < l.length := by rw [HLN.out]; exact hlt
              have h5 := index_at wr s i i rfl (by rw [hn]; exact hlt)
              rw [HL.out] at h5
              have hin : (i : Int) < n := by omega
              have hbx := getD_byt HBY.out i
              have hbad : ¬ HostAt l i → o = false := fun e => HF.out (fun h => e (h.2.2.2.2 i hix))
              have hgood : HostAt l i → ∀ j, j < i + 1 → HostAt l j := fun e j hj => by
                rcases (by omega : j < i ∨ j = i) with h | rfl
                · exact HAT.out j h
                · exact e
              have hdef : HostAt l i ↔ (HB (l.getD i 0) ∧ ¬ (l.getD i 0 = 46 ∧ l.getD (i + 1) 0 = 46)) := Iff.rfl
              have hlast : l.getD i 0 = 46 → i + 1 < n := by
                intro e
                rcases (by omega : i + 1 < n ∨ i = n - 1) with h | h
                · exact h
                · subst h; rw [HLB.out] at e; exact absurd e H4.out
              have HBAD := Lib.hid hbad; have HG := Lib.hid hgood; have HDEF := Lib.hid hdef
              have h6 : l.getD i 0 = 46 → (Instr.index 9 (.string s) (.int .i64 ((i : Int) + 1))).run Tryz.prog wr = .ok (.int .u8 (l.getD (i + 1) 0)) wr := by
                intro e
                have := index_at wr s (i + 1) ((i : Int) + 1) (by omega) (by rw [hn]; exact hlast e)
                rwa [HL.out] at this
              have H6 := Lib.hid h6
              clear hbad hgood hdef hlast h6 hix
              generalize l.getD i 0 = x at *
              generalize l.getD (i + 1) 0 = y at *
              have hx0 := hbx.1; have hx1 := hbx.2
              clear hbx
              rcases (by omega : (97 ≤ x ∧ x ≤ 122) ∨ (48 ≤ x ∧ x ≤ 57) ∨ x = 45 ∨ x = 46 ∨ x < 45 ∨ x = 47 ∨ (57 < x ∧ x < 97) ∨ 122 < x) with ⟨c1, c2⟩ | ⟨c1, c2⟩ | rfl | rfl | c1 | rfl | ⟨c1, c2⟩ | c1
              · have hg := HG.out (HDEF.out.2 ⟨.inl ⟨c1, c2⟩, fun h => by omega⟩)
                have HGG := Lib.hid hg
                have t45 : (x == 45) = false := beq_eq_false_iff_ne.2 (by omega)
                have t46 : (x == 46) = false := beq_eq_false_iff_ne.2 (by omega)
                clear hg
                go_wp2
                go_roundw
                case rel => exact ⟨i + 1, by omega, by go_num, HGG, trivial⟩
                case measure => simp [intOf]; omega
              · have hg := HG.out (HDEF.out.2 ⟨.inr (.inl ⟨c1, c2⟩), fun h => by omega⟩)
                have HGG := Lib.hid hg
                have c3 : ¬ (97 ≤ x) := by omega
                have t45 : (x == 45) = false := beq_eq_false_iff_ne.2 (by omega)
                have t46 : (x == 46) = false := beq_eq_false_iff_ne.2 (by omega)
                clear hg
                go_wp2
                go_roundw
                case rel => exact ⟨i + 1, by omega, by go_num, HGG, trivial⟩
                case measure => simp [intOf]; omega
              · have hg := HG.out (HDEF.out.2 ⟨.inr (.inr (.inl rfl)), fun h => by omega⟩)
                have HGG := Lib.hid hg
                clear hg
                go_wp2
                go_roundw
                case rel => exact ⟨i + 1, by omega, by go_num, HGG, trivial⟩
                case measure => simp [intOf]; omega
              · have h7 := H6.out rfl
                by_cases hy : y = 46
                · have hno := HBAD.out (fun h => (HDEF.out.1 h).2 ⟨rfl, hy⟩)
                  have HNO := Lib.hid hno
                  have t7 : (y == 46) = true := beq_iff_eq.2 hy
                  clear hno hy
                  go_wp2
                  go_ret
                  exact ⟨by rw [HNO.out]; rfl, rfl⟩
                · have hg := HG.out (HDEF.out.2 ⟨.inr (.inr (.inr rfl)), fun h => hy h.2⟩)
                  have HGG := Lib.hid hg
                  have t7 : (y == 46) = false := beq_eq_false_iff_ne.2 hy
                  clear hg hy
                  go_wp2
                  go_roundw
                  case rel => exact ⟨i + 1, by omega, by go_num, HGG, trivial⟩
                  case measure => simp [intOf]; omega
              · have hno := HBAD.out (fun h => by have := (HDEF.out.1 h).1; unfold HB at this; omega)
                have HNO := Lib.hid hno
                have c3 : ¬ (97 ≤ x) := by omega
                have c4 : ¬ (48 ≤ x) := by omega
                have t45 : (x == 45) = false := beq_eq_false_iff_ne.2 (by omega)
                have t46 : (x == 46) = false := beq_eq_false_iff_ne.2 (by omega)
                clear hno
                go_wp2
                go_ret
                exact ⟨by rw [HNO.out]; rfl, rfl⟩
              · have hno := HBAD.out (fun h => by have := (HDEF.out.1 h).1; unfold HB at this; omega)
                have HNO := Lib.hid hno
                clear hno
                go_wp2
                go_ret
                exact ⟨by rw [HNO.out]; rfl, rfl⟩
              · have hno := HBAD.out (fun h => by have := (HDEF.out.1 h).1; unfold HB at this; omega)
                have HNO := Lib.hid hno
                have c3 : ¬ (97 ≤ x) := by omega
                have c4 : ¬ (x ≤ 57) := by omega
                have c5 : 48 ≤ x := by omega
                have t45 : (x == 45) = false := beq_eq_false_iff_ne.2 (by omega)
                have t46 : (x == 46) = false := beq_eq_false_iff_ne.2 (by omega)
                clear hno
                go_wp2
                go_ret
                exact ⟨by rw [HNO.out]; rfl, rfl⟩
              · have hno := HBAD.out (fun h => by have := (HDEF.out.1 h).1; unfold HB at this; omega)
                have HNO := Lib.hid hno
                have c3 : ¬ (x ≤ 122) := by omega
                have c4 : ¬ (x ≤ 57) := by omega
                have c5 : 48 ≤ x := by omega
                have c6 : 97 ≤ x := by omega
                have t45 : (x == 45) = false := beq_eq_false_iff_ne.2 (by omega)
                have t46 : (x == 46) = false := beq_eq_false_iff_ne.2 (by omega)
                clear hno
                go_wp2
                go_ret
                exact ⟨by rw [HNO.out]; rfl, rfl⟩
            · obtain rfl : i = n := by omega
              have hyes : o = true := by
                rw [← HO.out]
                exact decide_eq_true ⟨by rw [HLN.out]; omega, by rw [HLN.out]; omega, by rw [HA.out]; exact H3.out, by rw [HLN.out, HLB.out]; exact H4.out, fun j hj => HAT.out j (by rw [HLN.out] at hj; exact hj)⟩
              have HY := Lib.hid hyes
              clear hyes
              go_wp2
              go_ret
              exact ⟨by rw [HY.out]; rfl, rfl⟩
end Go.Proofs.YtfgaikacijdodaaGreatDoor
/-
  The document's own Digits, Origin, Print, SameOrigin, Secure.
-/
namespace Go.Proofs.YtfgaikacijdodaaGreatDoor
set_option linter.unusedVariables false
set_option linter.unusedSimpArgs false
set_option maxRecDepth 20000
open Go.RowKit

theorem strs_app (x y : List Int) : strOfNums (x ++ y) = strOfNums x ++ strOfNums y := by
  apply ba_ext
  simp [strOfNums_data]
theorem drewN_drew (w : World) (m : Nat) : w.drew.drewN m = w.drewN (m + 1) := by
  show ({ w with drawn := w.drawn + 1 + m } : World) = { w with drawn := w.drawn + (m + 1) }
  congr 1; omega
theorem digs_at (k : Nat) (h : k < 10) : ∃ d : ByteArray, ∀ w : World, (Instr.slice 9 (.string ⟨#[48, 49, 50, 51, 52, 53, 54, 55, 56, 57]⟩) (some (.int .i64 (k : Int))) none none).run Tryz.prog w = .ok (.string d) w ∧ (Instr.slice 9 (.string d) none (some (.int .i64 1)) none).run Tryz.prog w = .ok (.string (strOfNums [48 + (k : Int)])) w := by
  rcases (by omega : k = 0 ∨ k = 1 ∨ k = 2 ∨ k = 3 ∨ k = 4 ∨ k = 5 ∨ k = 6 ∨ k = 7 ∨ k = 8 ∨ k = 9) with rfl | rfl | rfl | rfl | rfl | rfl | rfl | rfl | rfl | rfl
  · exact ⟨⟨#[48, 49, 50, 51, 52, 53, 54, 55, 56, 57]⟩, fun w => ⟨by kernel_rfl, by kernel_rfl⟩⟩
  · exact ⟨⟨#[49, 50, 51, 52, 53, 54, 55, 56, 57]⟩, fun w => ⟨by kernel_rfl, by kernel_rfl⟩⟩
  · exact ⟨⟨#[50, 51, 52, 53, 54, 55, 56, 57]⟩, fun w => ⟨by kernel_rfl, by kernel_rfl⟩⟩
  · exact ⟨⟨#[51, 52, 53, 54, 55, 56, 57]⟩, fun w => ⟨by kernel_rfl, by kernel_rfl⟩⟩
  · exact ⟨⟨#[52, 53, 54, 55, 56, 57]⟩, fun w => ⟨by kernel_rfl, by kernel_rfl⟩⟩
  · exact ⟨⟨#[53, 54, 55, 56, 57]⟩, fun w => ⟨by kernel_rfl, by kernel_rfl⟩⟩
  · exact ⟨⟨#[54, 55, 56, 57]⟩, fun w => ⟨by kernel_rfl, by kernel_rfl⟩⟩
  · exact ⟨⟨#[55, 56, 57]⟩, fun w => ⟨by kernel_rfl, by kernel_rfl⟩⟩
  · exact ⟨⟨#[56, 57]⟩, fun w => ⟨by kernel_rfl, by kernel_rfl⟩⟩
  · exact ⟨⟨#[57]⟩, fun w => ⟨by kernel_rfl, by kernel_rfl⟩⟩
set_option maxHeartbeats 2000000 in
theorem digits_c : ∀ (n : Nat), n < 1000000000000000000 → ∀ (w : World), Calls Tryz.prog 70 #[.int .i64 (n : Int)] w (Quiet w (.string (strOfNums (digs n)))) := by
  intro n
  induction n using Nat.strongRecOn with
  | ind n ih =>
    intro hn w
    by_cases h : n < 10
    · obtain ⟨d, h12⟩ := digs_at n h
      obtain ⟨h1, h2⟩ := h12 w
      clear h12
      rw [digs_small h]
      have h' : (n : Int) < 10 := by omega
      clear ih
      go_enter Tryz.func70, Tryz.ntmps70
      go_wp2
      go_ret
      exact ⟨rfl, 0, rfl⟩
    · have h' : ¬ ((n : Int) < 10) := by omega
      have hst := digs_step (n := n) (by omega) (by omega)
      have hc := ih (n / 10) (by omega) (by omega)
      have hd : ∃ d : ByteArray, ∀ w' : World, (Instr.slice 9 (.string ⟨#[48, 49, 50, 51, 52, 53, 54, 55, 56, 57]⟩) (some (.int .i64 ((n % 10 : Nat) : Int))) none none).run Tryz.prog w' = .ok (.string d) w' ∧ (Instr.slice 9 (.string d) none (some (.int .i64 1)) none).run Tryz.prog w' = .ok (.string (strOfNums [48 + ((n % 10 : Nat) : Int)])) w' := digs_at (n % 10) (by omega)
      have e1 : ((n / 10 : Nat) : Int) = (n : Int) / 10 := by omega
      have e2 : ((n % 10 : Nat) : Int) = (n : Int) % 10 := by omega
      have q1 : (n : Int).tdiv 10 = (n : Int) / 10 := Int.tdiv_eq_ediv_of_nonneg (by omega)
      have q2 : (n : Int).tmod 10 = (n : Int) % 10 := Int.tmod_eq_emod_of_nonneg (by omega)
      rw [hst]
      have hl := (digs_len (n / 10)).2
      have hl1 : (strOfNums (digs (n / 10))).size ≤ 21 := by rw [strOfNums_size]; exact hl
      have hl2 : (strOfNums [48 + ((n % 10 : Nat) : Int)]).size = 1 := strOfNums_size _
      rw [strs_app]
      rw [e1] at hc
      rw [e2] at hd hl2
      rw [e2]
      generalize strOfNums [48 + (n : Int) % 10] = d1 at *
      generalize strOfNums (digs (n / 10)) = d2 at *
      obtain ⟨d, hd⟩ := hd
      have hcw : ∀ w', _ := fun w' => hc w'
      have HC := Lib.hid hc; have HD := Lib.hid hd
      have hnn : (0 : Int) ≤ n := by omega
      have hnb : (n : Int) < 1000000000000000000 := by omega
      clear hst hc hd e1 e2 ih hl h hcw hn
      go_enter Tryz.func70, Tryz.ntmps70
      go_wp2_with fail
      refine wp_region_lin (fun w' => ∃ m, w' = w.drewN m) 9 [(0, true), (1, true), (3, true), (4, true), (5, true), (6, true), (2, false), (7, true), (8, true)] (by kernel_rfl) (by kernel_rfl) (fun _ _ d _ _ h => by cases d <;> exact h) ⟨1, rfl⟩ ?_
      simp only [List.map_cons, List.map_nil, pick_zero, pick_succ, List.drop_succ_cons, List.drop_zero]
      have k1 : IntKind.i64.wrap ((n : Int) / 10) = (n : Int) / 10 := IntWalk.i64_in _ (by omega)
      have k2 : IntKind.i64.wrap ((n : Int) % 10) = (n : Int) % 10 := IntWalk.i64_in _ (by omega)
      iterate 6 (refine lin_q ?_ rfl ?_ ?_; rotate_left 1; (focus (rintro w' -; obtain ⟨i1, i2⟩ := HD.out w'; go_simp; first | done | with_reducible rfl | (trace_state; fail))); simp only [Act.put, List.setIfInBounds_toArray, List.set_cons_zero, List.set_cons_succ])
      refine lin_act ?_
      refine wl_call rfl _ _ _ (by go_simp) (HC.out _) ?_
      rintro e w3 ⟨rfl, m3, rfl⟩
      refine ⟨_, rfl, LinPost.mk ⟨m3 + 1, drewN_drew w m3⟩ ?_⟩
      simp only [Act.put, List.setIfInBounds_toArray, List.set_cons_zero, List.set_cons_succ]
      have q6 : ¬ (9223372036854775807 < d2.size + 1) := by omega
      iterate 2 (refine lin_q ?_ rfl ?_ ?_; rotate_left 1; (focus (rintro w' -; go_simp; first | done | with_reducible rfl | (trace_state; fail))); simp only [Act.put, List.setIfInBounds_toArray, List.set_cons_zero, List.set_cons_succ])
      refine lin_nil ?_
      go_wp2
      go_ret
      exact ⟨rfl, m3 + 1, drewN_drew w m3⟩
/-- A URL as a value. -/
def UL.val (u : UL) : List Value := [.string (strOfNums u.sch), .string (strOfNums u.host), .int .i64 u.port, .string (strOfNums u.path), .string (strOfNums u.query)]
def UL.Ok (u : UL) : Prop := u.sch.length ≤ 1000000000 ∧ u.host.length ≤ 1000000000 ∧ u.path.length ≤ 1000000000 ∧ u.query.length ≤ 1000000000 ∧ 0 ≤ u.port ∧ u.port < 1000000000000000000
theorem originI_len {u : UL} (h : u.Ok) : (originI u).length ≤ 2000000025 := by
  unfold originI
  have := (digs_len u.port.toNat).2
  have h1 := h.1; have h2 := h.2.1
  split <;> simp <;> omega
set_option maxHeartbeats 2000000 in
theorem rorigin_c {w0 w : World} {R : Blks} (hO : Own w0 w R) (u : UL) (hu : u.Ok) : Calls Tryz.prog 58 #[.agg u.val.toArray] w fun e w' => e = .returned (.string (strOfNums (originI u))) ∧ Own w0 w' R := by
  obtain ⟨sch, host, port, path, query⟩ := u
  obtain ⟨a1, a2, a3, a4, a5, a6⟩ := hu
  simp only at a1 a2 a3 a4 a5 a6
  obtain ⟨p, rfl⟩ : ∃ p : Nat, port = p := ⟨port.toNat, by omega⟩
  have HO := Lib.hid hO
  have e1 : strOfNums (originI ⟨sch, host, (p : Int), path, query⟩) = strOfNums sch ++ ⟨#[58, 47, 47]⟩ ++ strOfNums host ++ (if (0 : Int) < p then ⟨#[58]⟩ ++ strOfNums (digs p) else ⟨#[]⟩) := by
    unfold originI
    rw [strs_app, strs_app, strs_app]
    congr 1
    split
    · rw [Int.toNat_natCast, show (58 : Int) :: digs p = [58] ++ digs p from rfl, strs_app]; rfl
    · rfl
  have s1 : (strOfNums sch).size ≤ 1000000000 := by rw [strOfNums_size]; exact a1
  have s2 : (strOfNums host).size ≤ 1000000000 := by rw [strOfNums_size]; exact a2
  have s3 : (strOfNums (digs p)).size ≤ 21 := by rw [strOfNums_size]; exact (digs_len _).2
  have hd := digits_c p (by omega)
  unfold UL.val
  rw [e1]
  simp only
  clear e1
  generalize strOfNums sch = t1 at *
  generalize strOfNums host = t2 at *
  generalize strOfNums (digs p) = t3 at *
  generalize strOfNums path = t4 at *
  generalize strOfNums query = t5 at *
  have HD := Lib.hid hd
  have n1 : ¬ (9223372036854775807 < t1.size + 3) := by omega
  have n2 : ¬ (9223372036854775807 < t1.size + 3 + t2.size) := by omega
  have n3 : ¬ (9223372036854775807 < 1 + t3.size) := by omega
  have n4 : ¬ (9223372036854775807 < t1.size + 3 + t2.size + (1 + t3.size)) := by omega
  clear hO a1 a2 a3 a4 a5 a6 hd s1 s2 s3
  by_cases h0 : 0 < p
  · have h0' : (0 : Int) < p := by omega
    rw [if_pos h0']
    go_enter Tryz.func58, Tryz.ntmps58
    go_wp2_with (refine wl_box rfl _ _ rfl HO.out _ (by rfl) ?_; intro g w1 hO1; have HO1 := Lib.hid hO1; have c0 : w1.cell? ⟨g, 0, none⟩ = some (.string t1) := (by rw [hO1.cell (.head _)]; rfl); have c1 : w1.cell? ⟨g, 1, none⟩ = some (.string t2) := (by rw [hO1.cell (.head _)]; rfl); have c2 : w1.cell? ⟨g, 2, none⟩ = some (.int .i64 (p : Int)) := (by rw [hO1.cell (.head _)]; rfl); clear hO1 HO)
    with_reducible refine (HD.out w1).mono ?_
    rintro e w2 ⟨rfl, m2, rfl⟩
    have HO2 := Lib.hid (HO1.out.tail.drewN m2)
    clear c0 c1 c2 HO1
    go_wp2
    go_ret
    exact ⟨rfl, HO2.out⟩
  · have h0' : ¬ ((0 : Int) < p) := by omega
    rw [if_neg h0']
    have en : ∀ x : ByteArray, x ++ ⟨#[]⟩ = x := fun x => by apply sb_inj; rw [sb_append, sb_empty, List.append_nil]
    rw [en]
    clear en
    go_enter Tryz.func58, Tryz.ntmps58
    go_wp2_with (refine wl_box rfl _ _ rfl HO.out _ (by rfl) ?_; intro g w1 hO1; have HO1 := Lib.hid hO1; have c0 : w1.cell? ⟨g, 0, none⟩ = some (.string t1) := (by rw [hO1.cell (.head _)]; rfl); have c1 : w1.cell? ⟨g, 1, none⟩ = some (.string t2) := (by rw [hO1.cell (.head _)]; rfl); have c2 : w1.cell? ⟨g, 2, none⟩ = some (.int .i64 (p : Int)) := (by rw [hO1.cell (.head _)]; rfl); clear hO1 HO)
    go_ret
    exact ⟨rfl, HO1.out.tail⟩
def printS (u : UL) : ByteArray := strOfNums (printI u)
theorem printI_len {u : UL} (h : u.Ok) : (printI u).length ≤ 4000000025 := by
  unfold printI
  have := originI_len h
  have h1 := h.2.2.1; have h2 := h.2.2.2.1
  simp; omega
theorem rurl_size : (Tryz.prog.info? 29).map (·.size) = some 5 := by kernel_rfl
set_option maxHeartbeats 2000000 in
theorem rsame_c {w0 w : World} {R : Blks} (hO : Own w0 w R) (u v : UL) (hu : u.Ok) (hv : v.Ok) : Calls Tryz.prog 32 #[.agg u.val.toArray, .agg v.val.toArray] w fun e w' => e = .returned (.bool ((strOfNums (originI u)).toList == (strOfNums (originI v)).toList)) ∧ Own w0 w' R := by
  have HO := Lib.hid hO
  have hor : ∀ (w1 : World) (R1 : Blks), Own w0 w1 R1 → _ := fun w1 R1 h => rorigin_c h u hu
  have hov : ∀ (w1 : World) (R1 : Blks), Own w0 w1 R1 → _ := fun w1 R1 h => rorigin_c h v hv
  unfold UL.val at *
  generalize strOfNums (originI u) = t0 at *
  generalize strOfNums u.sch = t1 at *
  generalize strOfNums u.host = t2 at *
  generalize strOfNums u.path = t4 at *
  generalize strOfNums u.query = t5 at *
  generalize u.port = p at *
  generalize strOfNums (originI v) = q0 at *
  generalize strOfNums v.sch = q1 at *
  generalize strOfNums v.host = q2 at *
  generalize strOfNums v.path = q4 at *
  generalize strOfNums v.query = q5 at *
  generalize v.port = q at *
  have HOR := Lib.hid hor; have HOV := Lib.hid hov
  clear hO hor hov hu hv
  go_enter Tryz.func32, Tryz.ntmps32
  go_wp2_with (first | (refine wl_box rfl _ _ rfl HO.out _ (by rfl) ?_; intro g w1 hO1; have HO1 := Lib.hid hO1; clear hO1 HO) | (refine wl_box rfl _ _ rfl HO1.out _ (by rfl) ?_; intro g2 w2 hO2; have HO2 := Lib.hid hO2; clear hO2 HO1))
  refine wp_region_lin (fun w' => w'.heap[g]? = some (.cells [Value.string t1, Value.string t2, Value.int .i64 p, Value.string t4, Value.string t5].toArray 29) ∧ w'.heap[g2]? = some (.cells [Value.string q1, Value.string q2, Value.int .i64 q, Value.string q4, Value.string q5].toArray 29)) 6 [(0, true), (2, true), (1, false), (3, false), (4, true), (5, true)] (by kernel_rfl) (by kernel_rfl) (fun _ _ d _ _ h => by cases d <;> exact h) ⟨HO2.out.drew.heap (.tail _ (.head _)), HO2.out.drew.heap (.head _)⟩ ?_
  simp only [List.map_cons, List.map_nil, pick_zero, pick_succ, List.drop_succ_cons, List.drop_zero]
  refine lin_load rfl _ _ rfl g 0 [Value.string t1, Value.string t2, Value.int .i64 p, Value.string t4, Value.string t5] [Value.string t1, Value.string t2, Value.int .i64 p, Value.string t4, Value.string t5] 29 (by rfl) _ Tryz.underlying29 rfl rurl_size (by rfl) (fun w' ew => ew.1) ?_
  simp only [Act.put, List.setIfInBounds_toArray, List.set_cons_zero, List.set_cons_succ]
  refine lin_load rfl _ _ rfl g2 0 [Value.string q1, Value.string q2, Value.int .i64 q, Value.string q4, Value.string q5] [Value.string q1, Value.string q2, Value.int .i64 q, Value.string q4, Value.string q5] 29 (by rfl) _ Tryz.underlying29 rfl rurl_size (by rfl) (fun w' ew => ew.2) ?_
  simp only [Act.put, List.setIfInBounds_toArray, List.set_cons_zero, List.set_cons_succ]
  refine lin_act ?_
  refine wl_call rfl _ _ _ (by go_simp) (HOR.out _ _ HO2.out.drew) ?_
  rintro e w3 ⟨rfl, hO3⟩
  refine ⟨_, rfl, LinPost.mk ⟨hO3.heap (.tail _ (.head _)), hO3.heap (.head _)⟩ ?_⟩
  simp only [Act.put, List.setIfInBounds_toArray, List.set_cons_zero, List.set_cons_succ]
  refine lin_act ?_
  refine wl_call rfl _ _ _ (by go_simp) (HOV.out _ _ hO3) ?_
  rintro e w4 ⟨rfl, hO4⟩
  refine ⟨_, rfl, LinPost.mk ⟨hO4.heap (.tail _ (.head _)), hO4.heap (.head _)⟩ ?_⟩
  have HO4 := Lib.hid hO4.tail.tail
  clear hO3 hO4 HO2 HOR HOV
  simp only [Act.put, List.setIfInBounds_toArray, List.set_cons_zero, List.set_cons_succ]
  iterate 2 (refine lin_q ?_ rfl ?_ ?_; rotate_left 1; (focus (rintro w' -; go_simp; first | done | with_reducible rfl | (trace_state; fail))); simp only [Act.put, List.setIfInBounds_toArray, List.set_cons_zero, List.set_cons_succ])
  refine lin_nil ?_
  go_wp2
  go_ret
  exact ⟨rfl, HO4.out⟩
end Go.Proofs.YtfgaikacijdodaaGreatDoor
/-
  Rows that a walk builds: their bytes; blocks put behind, struck out.
-/
namespace Go.Proofs.YtfgaikacijdodaaGreatDoor
set_option linter.unusedVariables false
set_option linter.unusedSimpArgs false
set_option maxRecDepth 20000
open Go.RowKit

theorem bs_one {w0 w : World} {R : Blks} (hO : Own w0 w R) (x : Int) : Bs (w.alloc (.cells (bv [x]).toArray 5)) (.slice (some ⟨w.heap.size, 0, none⟩) 1 1) [x] :=
  (isBytes_whole w.heap.size [x] (by simp)).bs (R := R) (hO.alloc _)
theorem bs_two {w0 w : World} {R : Blks} (hO : Own w0 w R) (x y : Int) : Bs (w.alloc (.cells (bv [x, y]).toArray 5)) (.slice (some ⟨w.heap.size, 0, none⟩) 2 2) [x, y] :=
  (isBytes_whole w.heap.size [x, y] (by simp)).bs (R := R) (hO.alloc _)
theorem Own.put2 {w0 w : World} {L R : Blks} (hO : Own w0 w (L ++ R)) (o : Obj) : Own w0 (w.alloc o) (L ++ ((w.heap.size, o) :: R)) := (hO.alloc o).perm List.perm_middle.symm
theorem Own.strike {w0 w : World} {L R : Blks} {g : Nat} {o : Obj} (hO : Own w0 w (L ++ ((g, o) :: R))) : Own w0 w (L ++ R) := hO.sub ((List.Sublist.refl L).append ((List.Sublist.refl R).cons _))
theorem Own.cast {w0 w : World} {L L' : Blks} (h : Own w0 w L) (e : L = L') : Own w0 w L' := e ▸ h
theorem IsBytes.cast {v : Value} {xs ys : List Int} {L : Blks} (h : IsBytes v xs L) (e : xs = ys) : IsBytes v ys L := e ▸ h
def GotB (w0 : World) (R : Blks) (xs : List Int) (e : Ending) (w' : World) : Prop := ∃ v L, e = .returned v ∧ IsBytes v xs L ∧ Own w0 w' (L ++ R)
theorem bs_new {w0 w : World} {R : Blks} (hO : Own w0 w R) (xs : List Int) (n : Nat) (hn : xs.length = n) (hl : n ≤ 1073741824) : Bs (w.alloc (.cells (bv xs).toArray 5)) (.slice (some ⟨w.heap.size, 0, none⟩) n n) xs := by
  subst hn
  exact (isBytes_whole w.heap.size xs hl).bs (R := R) (hO.alloc _)
end Go.Proofs.YtfgaikacijdodaaGreatDoor
/-
  Slices of strings in blocks of the call's own.
-/
namespace Go.Proofs.YtfgaikacijdodaaGreatDoor
set_option linter.unusedVariables false
set_option linter.unusedSimpArgs false
set_option maxRecDepth 20000
open Go.RowKit

theorem string_info : (Tryz.prog.info? 9).map (fun i => (i.zero, i.size, i.bytes)) = some (some (.string ⟨#[]⟩), 1, 16) := by kernel_rfl
def sv (ss : List ByteArray) : List Value := ss.map Value.string
@[simp] theorem length_sv (ss : List ByteArray) : (sv ss).length = ss.length := by simp [sv]
theorem one_sv (ss : List ByteArray) : ∀ v ∈ sv ss, v.oneCell' = true := by intro v hv; simp only [sv, List.mem_map] at hv; obtain ⟨x, _, rfl⟩ := hv; rfl
/-- A slice of strings in blocks of its own. -/
def IsStrs (v : Value) (ss : List ByteArray) (L : Blks) : Prop := IsRow 9 1 v ss.length (sv ss) L
theorem isStrs_nil : IsStrs (.slice none 0 0) [] [] := ⟨rfl, .inl ⟨rfl, rfl, rfl⟩⟩
theorem IsStrs.cast {v : Value} {xs ys : List ByteArray} {L : Blks} (h : IsStrs v xs L) (e : xs = ys) : IsStrs v ys L := e ▸ h
theorem IsStrs.val {v : Value} {ss : List ByteArray} {L : Blks} (h : IsStrs v ss L) : ∃ A c, v = .slice A ss.length c := IsRow.val h
theorem IsStrs.vs {w0 w : World} {v : Value} {ss : List ByteArray} {L R : Blks} (h : IsStrs v ss L) (hO : Own w0 w (L ++ R)) : Vs w v (sv ss) := by
  rcases h.2 with ⟨rfl, hn, rfl⟩ | ⟨g, cap, sp, rfl, rfl, hl, hn, hm⟩
  · exact ⟨_, _, _, rfl, by simpa using hn, Nat.le_refl _, fun h => absurd h (by omega)⟩
  · refine ⟨_, _, _, rfl, by simp, hn, fun _ => ⟨_, rfl, fun j x hx => ?_⟩⟩
    rw [addr_add_zero, hO.cell (.head _) j]
    have hj : j < (sv ss).length := (List.getElem?_eq_some_iff.1 hx).1
    simp only [List.getElem?_toArray]
    rw [List.getElem?_append_left hj]
    exact hx
theorem IsStrs.rdv {w0 : World} {v : Value} {ss : List ByteArray} {L R : Blks} (h : IsStrs v ss L) (hs : L.Sublist R) : RdV w0 R v (sv ss) := by
  intro w' L' hO
  have h1 : Own w0 w' L := hO.right.sub hs
  exact h.vs (R := []) (by rw [List.append_nil]; exact h1)
/-- Its first k, in the same blocks. -/
theorem IsStrs.cut {v : Value} {ss : List ByteArray} {L : Blks} (h : IsStrs v ss L) (k : Nat) (hk : k ≤ ss.length) (h0 : 0 < ss.length) : ∃ g c, v = .slice (some ⟨g, 0, none⟩) ss.length c ∧ ss.length ≤ c ∧ c ≤ maxLen ∧ IsStrs (.slice (some ⟨g, 0, none⟩) k c) (ss.take k) L := by
  rcases h.2 with ⟨_, hn, _⟩ | ⟨g, cap, sp, rfl, rfl, hl, hn, hm⟩
  · omega
  · refine ⟨g, cap, rfl, hn, hm, ⟨by simp, .inr ⟨g, cap, (sv ss).drop k ++ sp, by simp [Nat.min_eq_left hk], ?_, ?_, by simp; omega, hm⟩⟩⟩
    · have e : sv (ss.take k) ++ ((sv ss).drop k ++ sp) = sv ss ++ sp := by
        rw [← List.append_assoc]; congr 1
        show List.map _ _ ++ _ = _
        rw [List.map_take]; exact List.take_append_drop k (sv ss)
      rw [e]
    · have e : sv (ss.take k) ++ ((sv ss).drop k ++ sp) = sv ss ++ sp := by
        rw [← List.append_assoc]; congr 1
        show List.map _ _ ++ _ = _
        rw [List.map_take]; exact List.take_append_drop k (sv ss)
      rw [e]; exact hl
theorem vs_new {w : World} {t : TypeId} (vs : List Value) (n : Nat) (hn : vs.length = n) : Vs (w.alloc (.cells vs.toArray t)) (.slice (some ⟨w.heap.size, 0, none⟩) n n) vs := by
  refine ⟨_, _, _, rfl, hn, Nat.le_refl _, fun _ => ⟨_, rfl, fun j u hu => ?_⟩⟩
  rw [addr_add_zero, cell_of_row _ _ j _ _ (0, 0) (heap_alloc_new w _)]
  simpa using hu
section
variable {w0 w : World} {L R : Blks} {ops : Array Oper} {rest : List Oper} {op : Oper} {a : Act} {Q : Exit → Act → World → Prop}
theorem wl_appendT (hgd : op.guard = none) (s x : Operand)
    (ho : op.op = .call { callee := .builtin .append, args := #[s, x], argTypes := #[36, 36] })
    (v : Value) (ss : List ByteArray) (hs : a.eval s = v) (hr : IsStrs v ss L) (hO : Own w0 w (L ++ R))
    (xv : Value) (us : List ByteArray) (hx : a.eval x = xv) (hV : Vs w xv (sv us)) (h63 : ss.length + us.length ≤ 1073741824)
    (h : ∀ v' w' L', IsStrs v' (ss ++ us) L' → Own w0 w' (L' ++ R) → wpList Tryz.prog ops Q rest (a.put op.dst v') w') : wpList Tryz.prog ops Q (op :: rest) a w := by
  refine wl_appendV hgd s x _ ho _ _ 16 Tryz.underlying36 string_info (by rfl) v ss.length (sv ss) hs hr hO xv (sv us) hx hV (one_sv _) (by simp only [length_sv, maxLen]; omega) (by simp only [length_sv]; omega) ?_
  intro v' w' L' hr' hO'
  refine h v' w' L' ?_ hO'
  unfold IsStrs
  rw [List.length_append]
  simpa [sv] using hr'
end
end Go.Proofs.YtfgaikacijdodaaGreatDoor
