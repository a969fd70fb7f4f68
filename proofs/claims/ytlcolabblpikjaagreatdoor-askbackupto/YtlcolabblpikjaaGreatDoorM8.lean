/-
  Texts that the laws stand on: Rp1, Head3, Tree, Tree3.
-/
import Derived.Test.YtlcolabblpikjaaGreatDoorM7
import Derived.Test.YtlcolabblpikjaaGreatDoorM3
import Derived.Deep.QuietTactic
import Derived.BigQuiet
import Derived.Test.YtlcolabblpikjaaGreatDoorM2
import Derived.Test.YtlcolabblpikjaaGreatDoorM1

/-
  The document's own answers, in plain Go: line, blanks, names, values.
-/
namespace Go.Proofs.YtlcolabblpikjaaGreatDoor
set_option linter.unusedVariables false
set_option linter.unusedSimpArgs false
set_option maxRecDepth 20000
open Go.RowKit

/-! ### lines -/
def lineV (o : Option (List Int × List Int)) : Value := match o with
  | some (p, r) => .tuple #[.string (strOfNums p), .string (strOfNums r), .bool true]
  | none => .tuple #[.string ⟨#[]⟩, .string ⟨#[]⟩, .bool false]
theorem lineI_at {l : List Int} {i : Nat} (h : i + 1 < l.length) : lineI (l.drop i) = if l.getD i 0 = 13 ∧ l.getD (i + 1) 0 = 10 then some ([], l.drop (i + 2)) else (lineI (l.drop (i + 1))).map fun p => (l.getD i 0 :: p.1, p.2) := by
  have e0 : l.getD i 0 = l[i] := by rw [List.getD_eq_getElem?_getD, List.getElem?_eq_getElem (by omega), Option.getD_some]
  have e1 : l.getD (i + 1) 0 = l[i + 1] := by rw [List.getD_eq_getElem?_getD, List.getElem?_eq_getElem h, Option.getD_some]
  rw [List.drop_eq_getElem_cons (show i < l.length by omega), lineI_cons, e0, e1]
  have e2 : (l.drop (i + 1)).head? = some l[i + 1] := by rw [List.drop_eq_getElem_cons h]; rfl
  have e3 : (l.drop (i + 1)).tail = l.drop (i + 2) := by rw [List.drop_eq_getElem_cons h]; rfl
  rw [e2, e3]
  simp only [Option.some.injEq]
theorem lineI_last {l : List Int} {i : Nat} (h : l.length ≤ i + 1) : lineI (l.drop i) = none := by
  have hl : (l.drop i).length ≤ 1 := by simp; omega
  match hd : l.drop i, hl with
  | [], _ => rfl
  | [_], _ => rfl
  | _ :: _ :: _, hl => simp at hl
def LineTo (l : List Int) (i : Nat) : Prop := lineI l = (lineI (l.drop i)).map fun p => (l.take i ++ p.1, p.2)
theorem lineTo_zero (l : List Int) : LineTo l 0 := by
  unfold LineTo
  rw [List.drop_zero]
  cases lineI l with
  | none => rfl
  | some p => simp
theorem LineTo.next {l : List Int} {i : Nat} (h : LineTo l i) (hi : i + 1 < l.length) (hn : ¬ (l.getD i 0 = 13 ∧ l.getD (i + 1) 0 = 10)) : LineTo l (i + 1) := by
  unfold LineTo at *
  rw [h, lineI_at hi, if_neg hn, Option.map_map]
  have e0 : l.take (i + 1) = l.take i ++ [l.getD i 0] := by
    rw [List.take_succ_eq_append_getElem (by omega), List.getD_eq_getElem?_getD, List.getElem?_eq_getElem (by omega), Option.getD_some]
  congr 1
  funext p
  simp [e0]
theorem LineTo.hit {l : List Int} {i : Nat} (h : LineTo l i) (hi : i + 1 < l.length) (h1 : l.getD i 0 = 13) (h2 : l.getD (i + 1) 0 = 10) : lineI l = some (l.take i, l.drop (i + 2)) := by
  unfold LineTo at h
  rw [h, lineI_at hi, if_pos ⟨h1, h2⟩]
  simp
theorem LineTo.none {l : List Int} {i : Nat} (h : LineTo l i) (hi : l.length ≤ i + 1) : lineI l = none := by
  unfold LineTo at h
  rw [h, lineI_last hi]
  rfl
theorem ext_str (s : ByteArray) (i j : Nat) : s.extract i j = strOfNums (win (sb s) i j) := by rw [← sb_win, str_sb]
theorem win_from (l : List Int) (i : Nat) : win l 0 i = l.take i := by unfold win; rw [List.drop_zero]
theorem win_rest (l : List Int) (i n : Nat) (h : n = l.length) : win l i n = l.drop i := by unfold win; rw [h, List.take_length]
set_option maxHeartbeats 4000000 in
theorem line_c {w : World} (s : ByteArray) (hs : s.size ≤ 1073741824) : Calls Tryz.prog 30 #[.string s] w (Quiet w (lineV (lineI (sb s)))) := by
  obtain ⟨l, hl⟩ : ∃ l, sb s = l := ⟨_, rfl⟩
  obtain ⟨n, hn⟩ : ∃ n, s.size = n := ⟨_, rfl⟩
  have hln : l.length = n := by rw [← hl, ← hn]; exact length_sb s
  have HL := Lib.hid hl; have HN := Lib.hid hn; have HLN := Lib.hid hln
  rw [hl]
  rw [hn] at hs
  clear hl hln
  go_enter Tryz.func30, Tryz.ntmps30
  go_wp2
  go_loopw [5] (fun t w' => ∃ i : Nat, i ≤ n ∧ t = .int .i64 i ∧ Hid (LineTo l i) ∧ w' = w) (fun t _ => n - (intOf t).toNat)
  case atStart => exact ⟨0, Nat.zero_le _, rfl, Lib.hid (lineTo_zero l), rfl⟩
  case round =>
    obtain ⟨i, hi, rfl, HT, rfl⟩ := hrel
    by_cases hlt : i + 1 < n
    · have hlt' : (i : Int) + 1 < n := by omega
      have hil : i + 1 < l.length := by rw [HLN.out]; exact hlt
      have h1 := index_at wr s i i rfl (by rw [HN.out]; omega)
      have h2 := index_at wr s (i + 1) ((i : Int) + 1) (by omega) (by rw [HN.out]; exact hlt)
      rw [HL.out] at h1 h2
      have hnx := HT.out.next hil
      have hht := HT.out.hit hil
      have hw1 : IntKind.i64.wrap ((i : Int) + 1) = (i : Int) + 1 := IntWalk.i64_in _ (by omega)
      have hw2 : IntKind.i64.wrap ((i : Int) + 2) = (i : Int) + 2 := IntWalk.i64_in _ (by omega)
      generalize l.getD i 0 = x at *
      generalize l.getD (i + 1) 0 = y at *
      have HNX := Lib.hid hnx; have HHT := Lib.hid hht
      clear hnx hht hil
      by_cases hx : x = 13
      · have hx' : (x == 13) = true := by simp; omega
        by_cases hy : y = 10
        · have hy' : (y == 10) = true := by simp; omega
          have hres := HHT.out hx hy
          have HE := Lib.hid hres
          have hsz : (i : Int) + 2 ≤ s.size := by rw [HN.out]; omega
          have hsi : (i : Int) ≤ s.size := by rw [HN.out]; omega
          have hto : ((i : Int) + 2).toNat = i + 2 := by omega
          have hi0 : (0 : Int) ≤ (i : Int) + 2 := by omega
          have hi1 : (0 : Int) ≤ (i : Int) := by omega
          clear hx hy hres HNX HHT
          go_wp2
          go_quiet (fail)
          go_wp2
          go_ret3
          refine ⟨?_, nq, rfl⟩
          rw [HE.out]
          show Ending.returned (.tuple #[.string (s.extract 0 i), .string (s.extract (i + 2) n), .bool true]) = _
          rw [ext_str s 0 i, ext_str s (i + 2) n, HL.out, win_from l i, win_rest l (i + 2) n (by rw [HLN.out])]
          rfl
        · have hy' : (y == 10) = false := by simp; omega
          have HT2 := Lib.hid (HNX.out (fun h => hy h.2))
          clear hx hy HNX HHT
          go_wp2
          go_roundw
          case rel => exact ⟨i + 1, by omega, by go_num, HT2, trivial⟩
          case measure => simp [intOf]; omega
      · have hx' : (x == 13) = false := by simp; omega
        have HT2 := Lib.hid (HNX.out (fun h => hx h.1))
        clear hx HNX HHT
        go_wp2
        go_roundw
        case rel => exact ⟨i + 1, by omega, by go_num, HT2, trivial⟩
        case measure => simp [intOf]; omega
    · have hlt' : ¬ (i : Int) + 1 < n := by omega
      have hres := HT.out.none (by rw [HLN.out]; omega)
      have HE := Lib.hid hres
      clear hres
      go_wp2
      go_ret3
      exact ⟨by rw [HE.out]; rfl, 0, rfl⟩
/-! ### blanks -/
theorem blanksI_cons {x : Int} {l : List Int} (h : x = 32) : blanksI (x :: l) = blanksI l := by subst h; exact blanksI_front l
/-! ### names, values -/
theorem valueOk_iff (most : Int) (l : List Int) : decide (ValueOk most l) = (l.all vbI && (decide ((l.length : Int) ≤ most) && (decide (l = []) || (!decide (l.getD 0 0 = 32) && !decide (l.getD (l.length - 1) 0 = 32))))) := by
  rw [Bool.eq_iff_iff, decide_eq_true_iff]
  unfold ValueOk
  simp only [decide_eq_true_iff, Bool.and_eq_true, List.all_eq_true, Bool.or_eq_true, Bool.not_eq_true', decide_eq_false_iff_not]
  have h : ∀ x : Int, vbI x = true ↔ (32 ≤ x ∧ x ≤ 126) := fun x => by unfold vbI; rw [decide_eq_true_iff]
  simp only [h]
set_option maxHeartbeats 2000000 in
theorem valued_c {w : World} (s : ByteArray) (hs : s.size ≤ 1073741824) (most : Int) : Calls Tryz.prog 28 #[.string s, .int .i64 most] w fun e w' => e = .returned (.bool (decide (ValueOk most (sb s)))) ∧ w = w' := by
  rw [valueOk_iff]
  obtain ⟨l, hl⟩ : ∃ l, sb s = l := ⟨_, rfl⟩
  obtain ⟨n, hn⟩ : ∃ n, s.size = n := ⟨_, rfl⟩
  have hln : l.length = n := by rw [← hl, ← hn]; exact length_sb s
  have HL := Lib.hid hl; have HN := Lib.hid hn; have HLN := Lib.hid hln
  have hem : (s.toList == ([] : List UInt8)) = decide (l = []) := by rw [beq_lit8 s [] [] rfl, hl]
  rw [hl, hln]
  rw [hn] at hs
  clear hl hln
  go_enter Tryz.func28, Tryz.ntmps28
  go_wp2
  go_loopw [5] (fun t w' => ∃ k : Nat, k ≤ n ∧ t = .int .i64 k ∧ Hid ((l.take k).all vbI = true) ∧ w' = w) (fun t _ => n - (intOf t).toNat)
  case atStart => exact ⟨0, Nat.zero_le _, rfl, Lib.hid rfl, rfl⟩
  case round =>
    obtain ⟨k, hk, rfl, HA, rfl⟩ := hrel
    by_cases hlt : k < n
    · have hix := index_sb wr s k (by rw [HN.out]; exact hlt)
      rw [HL.out] at hix
      have hkn : (k : Int) < n := by omega
      have hkl : k < l.length := by rw [HLN.out]; exact hlt
      by_cases hx1 : l.getD k 0 < 32
      · have HE := Lib.hid (all_not (f := vbI) hkl (by unfold vbI; rw [decide_eq_false_iff_not]; omega))
        generalize l.getD k 0 = x at *
        clear hkl
        go_wp2
        go_ret
        exact ⟨by rw [HE.out]; rfl, rfl⟩
      · by_cases hx2 : 126 < l.getD k 0
        · have HE := Lib.hid (all_not (f := vbI) hkl (by unfold vbI; rw [decide_eq_false_iff_not]; omega))
          generalize l.getD k 0 = x at *
          clear hkl
          go_wp2
          go_ret
          exact ⟨by rw [HE.out]; rfl, rfl⟩
        · have HST := Lib.hid (all_step (f := vbI) hkl HA.out (by unfold vbI; rw [decide_eq_true_iff]; omega))
          generalize l.getD k 0 = x at *
          clear hkl
          go_wp2
          go_roundw
          case rel => exact ⟨k + 1, by omega, by go_num, HST, trivial⟩
          case measure => simp [intOf]; omega
    · obtain rfl : k = n := by omega
      have hall := HA.out
      rw [List.take_of_length_le (by rw [HLN.out]; exact Nat.le_refl _)] at hall
      have HALL := Lib.hid hall
      clear hall
      by_cases h1 : (k : Int) ≤ most
      · have D1 := Lib.hid (decide_eq_true h1)
        by_cases h2 : k = 0
        · have hnil : l = [] := List.eq_nil_of_length_eq_zero (by rw [HLN.out]; exact h2)
          have D2 := Lib.hid (decide_eq_true hnil)
          rw [decide_eq_true hnil] at hem
          clear h2 hnil
          go_wp2
          go_ret
          exact ⟨by rw [HALL.out, D1.out, D2.out]; rfl, rfl⟩
        · have hnil : ¬ l = [] := fun e => h2 (by rw [← HLN.out, e]; rfl)
          have D2 := Lib.hid (decide_eq_false hnil)
          rw [decide_eq_false hnil] at hem
          have hi0 := index_sb0 wr s (by rw [HN.out]; omega)
          have hi1 := index_at wr s (k - 1) ((k : Int) - 1) (by omega) (by rw [HN.out]; omega)
          rw [HL.out] at hi0 hi1
          clear h2 hnil
          by_cases hx : l.getD 0 0 = 32
          · have D3 := Lib.hid (decide_eq_true hx)
            have hx' : (l.getD 0 0 != 32) = false := by rw [bne_eq_false_iff_eq]; exact hx
            generalize l.getD 0 0 = x at hi0 hx'
            clear hx hi1
            go_wp2
            go_ret
            exact ⟨by rw [HALL.out, D1.out, D2.out, D3.out]; rfl, rfl⟩
          · have D3 := Lib.hid (decide_eq_false hx)
            have hx' : (l.getD 0 0 != 32) = true := bne_iff_ne.2 hx
            have hy' : (l.getD (k - 1) 0 != 32) = !decide (l.getD (k - 1) 0 = 32) := by rw [Bool.eq_iff_iff, bne_iff_ne, Bool.not_eq_true', decide_eq_false_iff_not]
            obtain ⟨b, hb⟩ : ∃ b, decide (l.getD (k - 1) 0 = 32) = b := ⟨_, rfl⟩
            rw [hb] at hy'
            have D4 := Lib.hid hb
            generalize l.getD 0 0 = x at hi0 hx'
            generalize l.getD (k - 1) 0 = y at hi1 hy'
            clear hx hb
            go_wp2
            go_ret
            exact ⟨by rw [HALL.out, D1.out, D2.out, D3.out, D4.out]; rfl, rfl⟩
      · have D1 := Lib.hid (decide_eq_false h1)
        go_wp2
        go_ret
        exact ⟨by rw [HALL.out, D1.out]; rfl, rfl⟩
theorem line_l {w : World} {l : List Int} (hB : Byt l) (h : l.length ≤ 1073741824) : Calls Tryz.prog 30 #[.string (strOfNums l)] w (Quiet w (lineV (lineI l))) := by
  have := line_c (w := w) (strOfNums l) (by rw [strOfNums_size]; exact h); rwa [sb_str hB] at this
theorem until_l {w : World} {l : List Int} (hB : Byt l) (h : l.length ≤ 1073741824) : Calls Tryz.prog 27 #[.string (strOfNums l), .string ⟨#[58]⟩] w (Quiet w (.tuple #[.string (strOfNums (ahead [58] l)), .string (strOfNums (behind [58] l))])) := by
  have := until_c (w := w) (strOfNums l) ⟨#[58]⟩ (by rw [strOfNums_size]; exact h) (by decide); rwa [sb_str hB] at this
theorem until_b {w : World} {l : List Int} (hB : Byt l) (h : l.length ≤ 1073741824) : Calls Tryz.prog 27 #[.string (strOfNums l), .string ⟨#[32]⟩] w (Quiet w (.tuple #[.string (strOfNums (ahead [32] l)), .string (strOfNums (behind [32] l))])) := by
  have := until_c (w := w) (strOfNums l) ⟨#[32]⟩ (by rw [strOfNums_size]; exact h) (by decide); rwa [sb_str hB] at this
end Go.Proofs.YtlcolabblpikjaaGreatDoor
/-
  Headers appended to a row of the call's own, one by one.
-/
namespace Go.Proofs.YtlcolabblpikjaaGreatDoor
set_option linter.unusedVariables false
set_option linter.unusedSimpArgs false
set_option maxRecDepth 20000
open Go.RowKit

theorem build_head (w : World) (p q : ByteArray) : (Instr.build 46 #[(0, .string p), (1, .string q)]).run Tryz.prog w = .ok (.agg #[.string p, .string q]) w := by kernel_rfl
theorem build_heads1 (w : World) (p q : ByteArray) : (Instr.buildSlice 22 1 #[(0, .agg #[.string p, .string q])]).run Tryz.prog w = .ok (.slice (some ⟨w.heap.size, 0, none⟩) 1 1) (w.alloc (.cells (hv2 (p, q)).toArray 46)) := by kernel_rfl
theorem build_byte1 (w : World) (y : Int) : (Instr.buildSlice 55 1 #[(0, .int .u8 y)]).run Tryz.prog w = .ok (.slice (some ⟨w.heap.size, 0, none⟩) 1 1) (w.alloc (.cells (bv [y]).toArray 5)) := by kernel_rfl
def toB (h : List Int × List Int) : ByteArray × ByteArray := (strOfNums h.1, strOfNums h.2)
theorem IsHeads.one {v : Value} {hs : HBL} {L : Blks} (h : IsHeads v hs L) : v.oneCell' = true := by obtain ⟨A, c, rfl⟩ := IsRow.val h; rfl
theorem Own.sink2 {w0 w : World} {L R : Blks} {x y : Nat × Obj} (h : Own w0 w (x :: y :: (L ++ R))) : Own w0 w (L ++ (x :: y :: R)) :=
  h.perm ((List.Perm.cons x List.perm_middle.symm).trans List.perm_middle.symm)
theorem Own.rise2 {w0 w : World} {L R : Blks} {x y : Nat × Obj} (h : Own w0 w (L ++ (x :: y :: R))) : Own w0 w (x :: y :: (L ++ R)) :=
  h.perm (List.perm_middle.trans (List.Perm.cons x List.perm_middle))
theorem Own.sink3 {w0 w : World} {L R : Blks} {x y z : Nat × Obj} (h : Own w0 w (x :: y :: z :: (L ++ R))) : Own w0 w (L ++ (x :: y :: z :: R)) :=
  h.perm ((List.Perm.cons x ((List.Perm.cons y List.perm_middle.symm).trans List.perm_middle.symm)).trans List.perm_middle.symm)
theorem strs_size {l : List Int} {n : Nat} (h : l.length ≤ n) : (strOfNums l).size ≤ n := by rw [strOfNums_size]; exact h
theorem str_lit (l : List Int) (hB : Byt l) (k : List UInt8) (m : List Int) (h : k.map (fun b => (b.toNat : Int)) = m) : ((strOfNums l).toList == k) = decide (l = m) := by
  rw [beq_lit8 _ _ m h, sb_str hB]
/-- All but the last, in the same blocks. -/
theorem IsHeads.cut {v : Value} {hs : HBL} {L : Blks} (h : IsHeads v hs L) (h0 : hs ≠ []) : ∃ g c, v = .slice (some ⟨g, 0, none⟩) hs.length c ∧ hs.length ≤ c ∧ c ≤ maxLen ∧ IsHeads (.slice (some ⟨g, 0, none⟩) (hs.length - 1) c) hs.dropLast L := by
  have hp : 0 < hs.length := List.length_pos_iff.2 h0
  rcases h.2 with ⟨_, hn, _⟩ | ⟨g, cap, sp, rfl, rfl, hl, hn, hm⟩
  · omega
  · refine ⟨g, cap, rfl, hn, hm, ?_, .inr ⟨g, cap, hv2 (hs.getLast h0) ++ sp, by simp, ?_, ?_, by simp; omega, hm⟩⟩
    · rw [length_hv]
    · have e : hv hs.dropLast ++ (hv2 (hs.getLast h0) ++ sp) = hv hs ++ sp := by
        rw [← List.append_assoc]
        congr 1
        conv => rhs; rw [← List.dropLast_concat_getLast h0]
        rw [hv_append]
        simp [hv]
      rw [e]
    · have e : hv hs.dropLast ++ (hv2 (hs.getLast h0) ++ sp) = hv hs ++ sp := by
        rw [← List.append_assoc]
        congr 1
        conv => rhs; rw [← List.dropLast_concat_getLast h0]
        rw [hv_append]
        simp [hv]
      rw [e]; exact hl
section
variable {w0 w : World} {L R : Blks} {ops : Array Oper} {rest : List Oper} {op : Oper} {a : Act} {Q : Exit → Act → World → Prop}
theorem wl_appendH1 (hgd : op.guard = none) (s x : Operand)
    (ho : op.op = .call { callee := .builtin .append, args := #[s, x], argTypes := #[22, 22] })
    (v : Value) (hs : HBL) (hv' : a.eval s = v) (hr : IsHeads v hs L) (hO : Own w0 w (L ++ R))
    (g c : Nat) (h : ByteArray × ByteArray) (hx : a.eval x = .slice (some ⟨g, 0, none⟩) 1 c) (hm : (g, Obj.cells (hv2 h).toArray 46) ∈ R) (h63 : hs.length + 1 ≤ 1073741824)
    (k : ∀ v' w' L', IsHeads v' (hs ++ [h]) L' → Own w0 w' (L' ++ R) → wpList Tryz.prog ops Q rest (a.put op.dst v') w') : wpList Tryz.prog ops Q (op :: rest) a w := by
  refine wl_append hgd s x _ ho _ _ 2 32 Tryz.underlying22 head_info (by rfl) (by omega) v hs.length (hv hs) hv' hr hO ⟨g, 0, none⟩ 1 c (hv2 h) hx (by rfl) (fun j u hu => ?_) (one_hv2 h) (by simp only [maxLen]; omega) (by omega) ?_
  · rw [addr_add_zero, hO.cell (List.mem_append_right _ hm) j]
    simpa using hu
  · intro v' w' L' hr' hO' _
    refine k v' w' L' ?_ hO'
    unfold IsHeads
    rw [List.length_append, hv_append]
    simpa [hv] using hr'
end
end Go.Proofs.YtlcolabblpikjaaGreatDoor
/-
  A region that draws its order, in which an operation that acts floats beside others that act: both orders, branch by branch. No program is named here.
-/
namespace Go.Proofs.YtlcolabblpikjaaGreatDoor
set_option linter.unusedVariables false
set_option linter.unusedSimpArgs false
set_option maxRecDepth 20000
open Go.RowKit

/-- How the head is walked: q: a quiet one, taken first; one: the only one that is ready; two: either of two. -/
inductive Ord where
  | done
  | q (i : Nat) (r : Ord)
  | one (i : Nat) (r : Ord)
  | two (i : Nat) (r : Ord) (j : Nat) (s : Ord)
def Ord.len : Ord → Nat
  | .done => 0
  | .q _ r => r.len + 1
  | .one _ r => r.len + 1
  | .two _ r _ _ => r.len + 1
def treeChk (md : Region.Mode) (ops : Array Oper) (nh : Nat) : Ord → Array Bool → Bool
  | .done, listed => headDone nh listed && Region.seqB md ops (ops.size - nh) nh listed
  | .q i r, listed => decide (i < nh) && (Region.ready md ops listed).contains i && Region.free md ops listed i && treeChk md ops nh r (listed.setIfInBounds i true)
  | .one i r, listed => decide (i < nh) && decide (Region.ready md ops listed = [i]) && treeChk md ops nh r (listed.setIfInBounds i true)
  | .two i r j s, listed => decide (i < nh) && decide (j < nh) && decide (Region.ready md ops listed = [i, j]) && decide (r.len = s.len) && treeChk md ops nh r (listed.setIfInBounds i true) && treeChk md ops nh s (listed.setIfInBounds j true)
section
variable {P : Program} {ops : Array Oper} {Q : Exit → Act → World → Prop} {md : Region.Mode} {S : World → Prop} {nh : Nat}
/-- The head branch by branch; T behind it. -/
def wpT (P : Program) (ops : Array Oper) (l : List Oper) (Q : Exit → Act → World → Prop) (S : World → Prop) (T : Act → World → Prop) : Ord → Act → World → Prop
  | .done, a, w => T a w
  | .q i r, a, w => ∃ v, YieldsIf P ops S (pick l i) v a ∧ wpT P ops l Q S T r (a.put (pick l i).dst v) w
  | .one i r, a, w => wpList P ops (LinPost Q S (wpT P ops l Q S T r)) [pick l i] a w
  | .two i r j s, a, w => wpList P ops (LinPost Q S (wpT P ops l Q S T r)) [pick l i] a w ∧ wpList P ops (LinPost Q S (wpT P ops l Q S T s)) [pick l j] a w

theorem wpOp_of_list {X : Act → World → Prop} {Y : Act → World → Prop} {j : Nat} {oi : Oper} {a : Act} {w : World} (hoi : ops[j]? = some oi) (fin : ∀ a' w', S w' ∧ X a' w' → Y a' w')
    (h : wpList P ops (LinPost Q S X) [oi] a w) : wpOp P ops Q j Y a w := by
  unfold wpOp
  simp only [hoi]
  simp only [wpList] at h
  split
  · rename_i hw
    rw [if_pos hw] at h
    rcases h with h | ⟨h1, h2⟩
    · refine .inl ?_
      unfold Oper.wp at *
      generalize (execOp a.eval oi).run P w = rs at *
      cases rs with
      | ok n w' =>
        cases n <;> simp only [Oper.upon] at h ⊢
        case value u => exact fin _ _ h
        case skip => exact fin _ _ h
        case defer d => exact fin _ _ h
        case enter f args =>
          refine Calls.mono h fun e w'' he => ?_
          cases e with
          | returned u => exact fin _ _ he
          | panicked c => exact he
          | outgrown => exact he
        case row row args => exact Rows.mono h fun u w'' he => fin _ _ he
      | halt x w' => cases x <;> simp only [Oper.upon] at h ⊢; exact h
    · exact .inr ⟨h1, h2⟩
  · rename_i hw
    rw [if_neg hw] at h
    exact fin _ _ h
theorem headDone_no {listed : Array Bool} {i : Nat} (hin : i < nh) (hun : listed.getD i true = false) : headDone nh listed = false := by
  cases hd : headDone nh listed with
  | false => rfl
  | true =>
    have := List.all_eq_true.1 hd i (List.mem_range.2 hin)
    rw [getD_both hun] at this
    cases this
theorem wpHL_of_tree {l : List Oper} (hl : ops = l.toArray) (hsel : Region.noSelect ops = true) (ht : tailB md ops nh = true) (hQ : ∀ c a d v w, Q (.panic c) (Act.put a d v) w → Q (.panic c) a w) (tl : List Oper) (htl : ∀ j, tl[j]? = ops[nh + j]?) (htn : tl.length = ops.size - nh) :
    ∀ (o : Ord) (listed : Array Bool) (a : Act) (w : World), Closed md ops listed → treeChk md ops nh o listed = true → S w →
      wpT P ops l Q S (fun a w => wpList P ops Q tl a w) o a w → wpHL P md ops Q S nh (o.len + (ops.size - nh)) listed a w
  | .done, listed, a, w, hcl, hB, hS, h => by
    simp only [treeChk, Bool.and_eq_true] at hB
    have := wpAny_of_seq (P := P) (md := md) (ops := ops) (Q' := Q) tl nh listed a w htl (by rw [htn]; exact hB.2) h
    rw [htn] at this
    simp only [Ord.len, Nat.zero_add]
    cases hn : ops.size - nh with
    | zero => rw [hn] at this; exact ⟨hB.1, this⟩
    | succ n => rw [hn] at this; unfold wpHL; rw [if_pos hB.1]; exact this
  | .q i r, listed, a, w, hcl, hB, hS, h => by
    simp only [treeChk, Bool.and_eq_true, decide_eq_true_eq] at hB
    obtain ⟨⟨⟨hin, hr⟩, hf⟩, hrest⟩ := hB
    have hr' : i ∈ Region.ready md ops listed := by simpa using hr
    obtain ⟨_, oi, hoi, _⟩ := mem_ready.1 hr'
    obtain ⟨v, hy, h⟩ := h
    have hlt : i < ops.size := (Array.getElem?_eq_some_iff.1 hoi).1
    have e : pick l i = oi := by rw [pick_eq, ← hl]; simp [getElem!_pos, hlt, (Array.getElem?_eq_some_iff.1 hoi).2]
    simp only [e] at hy h
    have hfin := wpHL_of_tree hl hsel ht hQ tl htl htn r _ _ w (hcl.set hr') hrest hS h
    have := wpHL_first (Q := Q) (S := S) hoi hin hsel ht (fun c a w => hQ c a _ _ w) _ listed a w hcl (Region.free_spec hoi hf) hr' hy hS hfin
    rw [show (Ord.q i r).len + (ops.size - nh) = r.len + (ops.size - nh) + 1 by simp [Ord.len]; omega]
    exact this
  | .one i r, listed, a, w, hcl, hB, hS, h => by
    simp only [treeChk, Bool.and_eq_true, decide_eq_true_eq] at hB
    obtain ⟨⟨hin, hr⟩, hrest⟩ := hB
    have hr' : i ∈ Region.ready md ops listed := by rw [hr]; simp
    obtain ⟨hun, oi, hoi, _⟩ := mem_ready.1 hr'
    have hlt : i < ops.size := (Array.getElem?_eq_some_iff.1 hoi).1
    have e : pick l i = oi := by rw [pick_eq, ← hl]; simp [getElem!_pos, hlt, (Array.getElem?_eq_some_iff.1 hoi).2]
    unfold wpT at h
    rw [e] at h
    rw [show (Ord.one i r).len + (ops.size - nh) = r.len + (ops.size - nh) + 1 by simp [Ord.len]; omega]
    unfold wpHL
    rw [if_neg (by rw [headDone_no hin hun]; simp), hr]
    refine ⟨by simp, fun j hj => ?_⟩
    obtain rfl : j = i := by simpa using hj
    exact wpOp_of_list hoi (fun a' w' h' => ⟨h'.1, wpHL_of_tree hl hsel ht hQ tl htl htn r _ _ w' (hcl.set hr') hrest h'.1 h'.2⟩) h
  | .two i r i2 s, listed, a, w, hcl, hB, hS, h => by
    simp only [treeChk, Bool.and_eq_true, decide_eq_true_eq] at hB
    obtain ⟨⟨⟨⟨⟨hin, hin2⟩, hr⟩, hls⟩, hrest⟩, hrest2⟩ := hB
    have hr' : i ∈ Region.ready md ops listed := by rw [hr]; simp
    have hr2 : i2 ∈ Region.ready md ops listed := by rw [hr]; simp
    obtain ⟨hun, oi, hoi, _⟩ := mem_ready.1 hr'
    obtain ⟨hun2, oj, hoj, _⟩ := mem_ready.1 hr2
    have hlt : i < ops.size := (Array.getElem?_eq_some_iff.1 hoi).1
    have hlt2 : i2 < ops.size := (Array.getElem?_eq_some_iff.1 hoj).1
    have e : pick l i = oi := by rw [pick_eq, ← hl]; simp [getElem!_pos, hlt, (Array.getElem?_eq_some_iff.1 hoi).2]
    have e2 : pick l i2 = oj := by rw [pick_eq, ← hl]; simp [getElem!_pos, hlt2, (Array.getElem?_eq_some_iff.1 hoj).2]
    unfold wpT at h
    rw [e, e2] at h
    rw [show (Ord.two i r i2 s).len + (ops.size - nh) = r.len + (ops.size - nh) + 1 by simp [Ord.len]; omega]
    unfold wpHL
    rw [if_neg (by rw [headDone_no hin hun]; simp), hr]
    refine ⟨by simp, fun j hj => ?_⟩
    simp only [List.mem_cons, List.not_mem_nil, or_false] at hj
    rcases hj with rfl | rfl
    · exact wpOp_of_list hoi (fun a' w' h' => ⟨h'.1, wpHL_of_tree hl hsel ht hQ tl htl htn r _ _ w' (hcl.set hr') hrest h'.1 h'.2⟩) h.1
    · refine wpOp_of_list hoj (fun a' w' h' => ⟨h'.1, ?_⟩) h.2
      rw [hls]
      exact wpHL_of_tree hl hsel ht hQ tl htl htn s _ _ w' (hcl.set hr2) hrest2 h'.1 h'.2
/-- **A region that draws its order, branch by branch.** -/
theorem wp_region_tree {id : Nat} {a : Act} {w : World} {l : List Oper} (S : World → Prop) (nh : Nat) (order : Ord) (hm : P.follows .mixedOrders = true)
    (hB : (Region.noSelect l.toArray && tailB .any l.toArray nh && treeChk .any l.toArray nh order (Array.replicate l.toArray.size false) && decide (order.len + (l.toArray.size - nh) = l.toArray.size)) = true)
    (hQ : ∀ c a d v w, Q (.panic c) (Act.put a d v) w → Q (.panic c) a w) (hS : S w.drew)
    (h : wpT P l.toArray l Q S (fun a w => wpList P l.toArray Q (l.drop nh) a w) order a w.drew) : (Code.region id l.toArray true).wp P Q a w := by
  simp only [Bool.and_eq_true, decide_eq_true_eq] at hB
  obtain ⟨⟨⟨hsel, ht⟩, hc⟩, hlen⟩ := hB
  refine wp_region_any hm (wpAny_of_HL (S := S) (nh := nh) _ _ _ _ ?_)
  have := wpHL_of_tree (P := P) (Q := Q) (S := S) (l := l) rfl hsel ht hQ (l.drop nh) (fun j => by simp [List.getElem?_drop]) (by simp) order (Array.replicate l.toArray.size false) a w.drew
    ⟨by simp, fun j o _ hj => by rw [getD_replicate_false] at hj; cases hj⟩ hc hS h
  rw [hlen] at this
  exact this
section
variable {l : List Oper} {T : Act → World → Prop} {a : Act} {w : World}
theorem tr_done (h : T a w) : wpT P ops l Q S T .done a w := h
theorem tr_q {i : Nat} {r : Ord} (v : Value) (hgd : (pick l i).guard = none) (hrun : ∀ w', S w' → (execOp a.eval (pick l i)).run P w' = .ok (.value v) w') (h : wpT P ops l Q S T r (a.put (pick l i).dst v) w) : wpT P ops l Q S T (.q i r) a w :=
  ⟨v, .inl ⟨by simp [Region.wanted, hgd], hrun⟩, h⟩
theorem tr_one {i : Nat} {r : Ord} (h : wpList P ops (LinPost Q S (wpT P ops l Q S T r)) [pick l i] a w) : wpT P ops l Q S T (.one i r) a w := h
theorem tr_two {i j : Nat} {r s : Ord} (h : wpList P ops (LinPost Q S (wpT P ops l Q S T r)) [pick l i] a w) (h2 : wpList P ops (LinPost Q S (wpT P ops l Q S T s)) [pick l j] a w) : wpT P ops l Q S T (.two i r j s) a w := ⟨h, h2⟩
end
end
end Go.Proofs.YtlcolabblpikjaaGreatDoor
/-
  A region that draws its order, branch by branch: up to three operations that act may float beside one another; a call that answers the same in every world that meets S, and leaves the world as it is, is taken first as a quiet operation is. No program is named here.
-/
namespace Go.Proofs.YtlcolabblpikjaaGreatDoor
set_option linter.unusedVariables false
set_option linter.unusedSimpArgs false
set_option maxRecDepth 20000
open Go.RowKit

section
variable {P : Program} {ops : Array Oper} {Q : Exit → Act → World → Prop} {md : Region.Mode} {S : World → Prop} {nh : Nat}
/-- In state a the operation yields v, by itself or by a call that only answers, in every world that meets S. -/
def YieldsC (P : Program) (ops : Array Oper) (S : World → Prop) (o : Oper) (v : Value) (a : Act) : Prop :=
  YieldsIf P ops S o v a ∨ (Region.wanted o (yielded ops a.tmps) = true ∧ ∃ f args, ∀ w, S w → (execOp a.eval o).run P w = .ok (.enter f args) w ∧ Calls P f args w fun e w' => e = .returned v ∧ w = w')
theorem YieldsC.wpOp {i : Nat} {o : Oper} {v : Value} {a : Act} (hi : ops[i]? = some o) (hy : YieldsC P ops S o v a)
    {K : Act → World → Prop} {w : World} (hS : S w) (h : K (a.put o.dst v) w) : wpOp P ops Q i K a w := by
  rcases hy with hy | ⟨hw, f, args, hc⟩
  · exact YieldsIf.wpOp hi hy hS h
  · obtain ⟨hr, hc⟩ := hc w hS
    unfold Go.wpOp
    simp only [hi, hw, if_true, Oper.wp, hr, Oper.upon]
    refine .inl (hc.mono fun e w' he => ?_)
    obtain ⟨rfl, rfl⟩ := he
    exact h
theorem YieldsC.of_same {o : Oper} {v : Value} {a a' : Act} (hy : YieldsC P ops S o v a) (he : execOp a'.eval o = execOp a.eval o)
    (hw : Region.wanted o (yielded ops a'.tmps) = Region.wanted o (yielded ops a.tmps)) : YieldsC P ops S o v a' := by
  rcases hy with hy | hy
  · exact .inl (hy.of_same he hw)
  · refine .inr ?_
    rw [he, hw]
    exact hy
theorem wpOp_putC {j : Nat} {oi oj : Oper} {v : Value} (hj : ops[j]? = some oj) (hap : oi.apart ops oj = true)
    (hsi : ∀ cs b, oi.op ≠ .select cs b) (hsj : ∀ cs b, oj.op ≠ .select cs b)
    (hQ : ∀ c a w, Q (.panic c) (a.put oi.dst v) w → Q (.panic c) a w) {K : Act → World → Prop} {a : Act} {w : World}
    (hy : YieldsC P ops S oi v a) (h : wpOp P ops Q j K (a.put oi.dst v) w) :
    wpOp P ops Q j (fun a' w' => YieldsC P ops S oi v a' ∧ K (a'.put oi.dst v) w') a w := by
  obtain ⟨h1, h2, h3⟩ := Oper.apart_spec hap
  have keep : ∀ (a : Act), YieldsC P ops S oi v a → ∀ u, YieldsC P ops S oi v (a.put oj.dst u) := fun a hy u =>
    hy.of_same (execOp_put oi hsi a oj.dst u h3) (wanted_put oi a oj.dst u h3)
  have keepD : ∀ d, YieldsC P ops S oi v { a with defers := d :: a.defers } := fun d => hy.of_same rfl rfl
  unfold wpOp at *
  simp only [hj] at *
  rw [wanted_put oj a oi.dst v h1] at h
  split
  · rename_i hw
    simp only [hw, if_true] at h
    rcases h with h | ⟨hasks, hlets⟩
    case inr => exact .inr ⟨by unfold Oper.asks at *; rw [execOp_put oj hsj a oi.dst v h1] at hasks; exact hasks, hlets⟩
    refine .inl ?_
    unfold Oper.wp at *
    rw [execOp_put oj hsj a oi.dst v h1] at h
    generalize (execOp a.eval oj).run P w = r at *
    cases r with
    | ok n w' =>
      cases n <;> simp only [Oper.upon] at h ⊢
      case value u => exact ⟨keep a hy u, by rw [← Act.put_comm a v u h2]; exact h⟩
      case skip => exact ⟨keep a hy _, by rw [← Act.put_comm a v undef h2]; exact h⟩
      case defer d =>
        refine ⟨keep _ (keepD d) _, ?_⟩
        rw [← Act.put_comm _ v undef h2, ← Act.put_defers]
        exact h
      case enter f args =>
        refine Calls.mono h fun e w'' he => ?_
        cases e with
        | returned u => exact ⟨keep a hy u, by rw [← Act.put_comm a v u h2]; exact he⟩
        | panicked c => exact hQ _ _ _ he
        | outgrown => exact he
      case row row args => exact Rows.mono h fun u w'' he => ⟨keep a hy u, by rw [← Act.put_comm a v u h2]; exact he⟩
    | halt x w' =>
      cases x <;> simp only [Oper.upon] at h ⊢
      case panic u => exact hQ _ _ _ h
  · rename_i hw
    simp only [hw] at h
    exact ⟨keep a hy _, by rw [← Act.put_comm a v undef h2]; exact h⟩
theorem wpHL_firstC {i : Nat} {oi : Oper} {v : Value} (hi : ops[i]? = some oi) (hin : i < nh) (hsel : Region.noSelect ops = true) (ht : tailB md ops nh = true)
    (hQ : ∀ c a w, Q (.panic c) (a.put oi.dst v) w → Q (.panic c) a w) :
    ∀ (fuel : Nat) (listed : Array Bool) (a : Act) (w : World), Closed md ops listed →
      (∀ j oj, ops[j]? = some oj → j ≠ i → listed.getD j true = false → (∀ e ∈ oj.after, Region.binds md e = true → e.on ≠ i) → oi.apart ops oj = true) →
      i ∈ Region.ready md ops listed → YieldsC P ops S oi v a → S w →
      wpHL P md ops Q S nh fuel (listed.setIfInBounds i true) (a.put oi.dst v) w → wpHL P md ops Q S nh (fuel + 1) listed a w := by
  have hun : ∀ {listed : Array Bool} {j : Nat}, j < nh → listed.getD j true = false → headDone nh listed = false := by
    intro listed j hj hl
    exact headDone_no hj hl
  intro fuel
  induction fuel with
  | zero =>
    intro listed a w hcl _ hr hy hS H
    unfold wpHL
    rw [if_neg (by rw [hun hin (mem_ready.1 hr).1]; simp)]
    refine ⟨fun h => (by rw [h] at hr; cases hr), fun j hj => ?_⟩
    by_cases hji : j = i
    · subst hji; exact hy.wpOp hi hS ⟨hS, H⟩
    · have hjn := ready_head ht hcl hj (hun hin (mem_ready.1 hr).1)
      have := hun hjn (mem_ready.1 (ready_mono hj hji)).1
      have H1 := H.1
      rw [this] at H1
      cases H1
  | succ fuel ih =>
    intro listed a w hcl hfree hr hy hS H
    unfold wpHL
    have hnd := hun hin (mem_ready.1 hr).1
    rw [if_neg (by rw [hnd]; simp)]
    refine ⟨fun h => (by rw [h] at hr; cases hr), fun j hj => ?_⟩
    by_cases hji : j = i
    · subst hji; exact hy.wpOp hi hS ⟨hS, H⟩
    · have hjn := ready_head ht hcl hj hnd
      have hnd' := hun hjn (mem_ready.1 (ready_mono hj hji)).1
      unfold wpHL at H
      rw [if_neg (by rw [hnd']; simp)] at H
      have h1 := H.2 j (ready_mono hj hji)
      obtain ⟨hjun, oj, hoj, hall⟩ := mem_ready.1 hj
      have hnot : ∀ e ∈ oj.after, Region.binds md e = true → e.on ≠ i := fun e he hb heq => by
        have h1 := hall e he hb
        rw [heq, getD_both (mem_ready.1 hr).1] at h1
        cases h1
      have h2 := wpOp_putC hoj (hfree j oj hoj hji hjun hnot) (fun cs b => Region.noSelect_spec hsel i oi cs b hi) (fun cs b => Region.noSelect_spec hsel j oj cs b hoj) hQ hy h1
      have hfree' : ∀ k ok, ops[k]? = some ok → k ≠ i → (listed.setIfInBounds j true).getD k true = false →
          (∀ e ∈ ok.after, Region.binds md e = true → e.on ≠ i) → oi.apart ops ok = true := fun k ok hk hki hun' hno => by
        refine hfree k ok hk hki ?_ hno
        by_cases hjk : j = k
        · subst hjk; exact hjun
        · rw [getD_set_ne true hjk] at hun'; exact hun'
      refine wpOp_mono (fun a' w' h3 => ⟨h3.2.1, ih (listed.setIfInBounds j true) a' w' (hcl.set hj) hfree' (ready_mono hr (Ne.symm hji)) h3.1 h3.2.1 ?_⟩) h2
      rw [Array.setIfInBounds_comm _ _ hji]
      exact h3.2.2

/-- How the head is walked: q: a quiet one, taken first; one, two, three: whichever of those that are ready. -/
inductive Ord3 where
  | done
  | q (i : Nat) (r : Ord3)
  | one (i : Nat) (r : Ord3)
  | two (i : Nat) (r : Ord3) (j : Nat) (s : Ord3)
  | three (i : Nat) (r : Ord3) (j : Nat) (s : Ord3) (k : Nat) (t : Ord3)
def Ord3.len : Ord3 → Nat
  | .done => 0
  | .q _ r => r.len + 1
  | .one _ r => r.len + 1
  | .two _ r _ _ => r.len + 1
  | .three _ r _ _ _ _ => r.len + 1
/-- The quiet ones of a list, one behind the other. -/
def Ord3.qs : List Nat → Ord3 → Ord3
  | [], r => r
  | i :: l, r => .q i (Ord3.qs l r)
def tree3Chk (md : Region.Mode) (ops : Array Oper) (nh : Nat) : Ord3 → Array Bool → Bool
  | .done, listed => headDone nh listed && Region.seqB md ops (ops.size - nh) nh listed
  | .q i r, listed => decide (i < nh) && (Region.ready md ops listed).contains i && Region.free md ops listed i && tree3Chk md ops nh r (listed.setIfInBounds i true)
  | .one i r, listed => decide (i < nh) && decide (Region.ready md ops listed = [i]) && tree3Chk md ops nh r (listed.setIfInBounds i true)
  | .two i r j s, listed => decide (i < nh) && decide (j < nh) && decide (Region.ready md ops listed = [i, j]) && decide (r.len = s.len) && tree3Chk md ops nh r (listed.setIfInBounds i true) && tree3Chk md ops nh s (listed.setIfInBounds j true)
  | .three i r j s k t, listed => decide (i < nh) && decide (j < nh) && decide (k < nh) && decide (Region.ready md ops listed = [i, j, k]) && decide (r.len = s.len) && decide (r.len = t.len) && tree3Chk md ops nh r (listed.setIfInBounds i true) && tree3Chk md ops nh s (listed.setIfInBounds j true) && tree3Chk md ops nh t (listed.setIfInBounds k true)
/-- Behind an operation that acts: a condition S' that says more than S, and the rest. -/
def ActPost (Q : Exit → Act → World → Prop) (S : World → Prop) (X : (World → Prop) → Act → World → Prop) : Exit → Act → World → Prop
  | .normal, a, w => ∃ S' : World → Prop, (∀ w', S' w' → S w') ∧ S' w ∧ X S' a w
  | e, a, w => Q e a w
theorem ActPost.mk {Q : Exit → Act → World → Prop} {S : World → Prop} {X : (World → Prop) → Act → World → Prop} {a : Act} {w : World} (S' : World → Prop) (h : ∀ w', S' w' → S w') (h1 : S' w) (h2 : X S' a w) : ActPost Q S X .normal a w := ⟨S', h, h1, h2⟩
def wpT3 (P : Program) (ops : Array Oper) (l : List Oper) (Q : Exit → Act → World → Prop) (T : Act → World → Prop) : Ord3 → (World → Prop) → Act → World → Prop
  | .done, _, a, w => T a w
  | .q i r, S, a, w => ∃ v, YieldsC P ops S (pick l i) v a ∧ wpT3 P ops l Q T r S (a.put (pick l i).dst v) w
  | .one i r, S, a, w => wpList P ops (ActPost Q S (wpT3 P ops l Q T r)) [pick l i] a w
  | .two i r j s, S, a, w => wpList P ops (ActPost Q S (wpT3 P ops l Q T r)) [pick l i] a w ∧ wpList P ops (ActPost Q S (wpT3 P ops l Q T s)) [pick l j] a w
  | .three i r j s k t, S, a, w => wpList P ops (ActPost Q S (wpT3 P ops l Q T r)) [pick l i] a w ∧ wpList P ops (ActPost Q S (wpT3 P ops l Q T s)) [pick l j] a w ∧ wpList P ops (ActPost Q S (wpT3 P ops l Q T t)) [pick l k] a w
theorem wpHL_mono {S S' : World → Prop} (hS : ∀ w, S' w → S w) : ∀ (fuel : Nat) (listed : Array Bool) (a : Act) (w : World), wpHL P md ops Q S' nh fuel listed a w → wpHL P md ops Q S nh fuel listed a w
  | 0, _, _, _, h => h
  | fuel + 1, listed, a, w, h => by
    unfold wpHL at h ⊢
    split
    · rename_i hd; rw [if_pos hd] at h; exact h
    · rename_i hd
      rw [if_neg hd] at h
      exact ⟨h.1, fun i hi => wpOp_mono (fun a' w' h' => ⟨hS _ h'.1, wpHL_mono hS fuel _ a' w' h'.2⟩) (h.2 i hi)⟩
theorem wpOp_of_act {S : World → Prop} {X : (World → Prop) → Act → World → Prop} {Y : Act → World → Prop} {j : Nat} {oi : Oper} {a : Act} {w : World} (hoi : ops[j]? = some oi)
    (fin : ∀ S', (∀ w', S' w' → S w') → ∀ a' w', S' w' → X S' a' w' → Y a' w')
    (h : wpList P ops (ActPost Q S X) [oi] a w) : wpOp P ops Q j Y a w := by
  have fin' : ∀ a' w', (∃ S' : World → Prop, (∀ w', S' w' → S w') ∧ S' w' ∧ X S' a' w') → Y a' w' := fun a' w' ⟨S', h1, h2, h3⟩ => fin S' h1 a' w' h2 h3
  unfold wpOp
  simp only [hoi]
  simp only [wpList] at h
  split
  · rename_i hw
    rw [if_pos hw] at h
    rcases h with h | ⟨h1, h2⟩
    · refine .inl ?_
      unfold Oper.wp at *
      generalize (execOp a.eval oi).run P w = rs at *
      cases rs with
      | ok n w' =>
        cases n <;> simp only [Oper.upon] at h ⊢
        case value u => exact fin' _ _ h
        case skip => exact fin' _ _ h
        case defer d => exact fin' _ _ h
        case enter f args =>
          refine Calls.mono h fun e w'' he => ?_
          cases e with
          | returned u => exact fin' _ _ he
          | panicked c => exact he
          | outgrown => exact he
        case row row args => exact Rows.mono h fun u w'' he => fin' _ _ he
      | halt x w' => cases x <;> simp only [Oper.upon] at h ⊢; exact h
    · exact .inr ⟨h1, h2⟩
  · rename_i hw
    rw [if_neg hw] at h
    exact fin' _ _ h
theorem pick_of {l : List Oper} (hl : ops = l.toArray) {i : Nat} {oi : Oper} (hoi : ops[i]? = some oi) : pick l i = oi := by
  have hlt : i < ops.size := (Array.getElem?_eq_some_iff.1 hoi).1
  rw [pick_eq, ← hl]
  simp [getElem!_pos, hlt, (Array.getElem?_eq_some_iff.1 hoi).2]
theorem wpHL_of_tree3 {l : List Oper} (hl : ops = l.toArray) (hsel : Region.noSelect ops = true) (ht : tailB md ops nh = true) (hQ : ∀ c a d v w, Q (.panic c) (Act.put a d v) w → Q (.panic c) a w) (tl : List Oper) (htl : ∀ j, tl[j]? = ops[nh + j]?) (htn : tl.length = ops.size - nh) :
    ∀ (o : Ord3) (S : World → Prop) (listed : Array Bool) (a : Act) (w : World), Closed md ops listed → tree3Chk md ops nh o listed = true → S w →
      wpT3 P ops l Q (fun a w => wpList P ops Q tl a w) o S a w → wpHL P md ops Q S nh (o.len + (ops.size - nh)) listed a w
  | .done, S, listed, a, w, hcl, hB, hS, h => by
    simp only [tree3Chk, Bool.and_eq_true] at hB
    have := wpAny_of_seq (P := P) (md := md) (ops := ops) (Q' := Q) tl nh listed a w htl (by rw [htn]; exact hB.2) h
    rw [htn] at this
    simp only [Ord3.len, Nat.zero_add]
    cases hn : ops.size - nh with
    | zero => rw [hn] at this; exact ⟨hB.1, this⟩
    | succ n => rw [hn] at this; unfold wpHL; rw [if_pos hB.1]; exact this
  | .q i r, S, listed, a, w, hcl, hB, hS, h => by
    simp only [tree3Chk, Bool.and_eq_true, decide_eq_true_eq] at hB
    obtain ⟨⟨⟨hin, hr⟩, hf⟩, hrest⟩ := hB
    have hr' : i ∈ Region.ready md ops listed := by simpa using hr
    obtain ⟨_, oi, hoi, _⟩ := mem_ready.1 hr'
    obtain ⟨v, hy, h⟩ := h
    have e := pick_of hl hoi
    simp only [e] at hy h
    have hfin := wpHL_of_tree3 hl hsel ht hQ tl htl htn r S _ _ w (hcl.set hr') hrest hS h
    have := wpHL_firstC (Q := Q) (S := S) hoi hin hsel ht (fun c a w => hQ c a _ _ w) _ listed a w hcl (Region.free_spec hoi hf) hr' hy hS hfin
    rw [show (Ord3.q i r).len + (ops.size - nh) = r.len + (ops.size - nh) + 1 by simp [Ord3.len]; omega]
    exact this
  | .one i r, S, listed, a, w, hcl, hB, hS, h => by
    simp only [tree3Chk, Bool.and_eq_true, decide_eq_true_eq] at hB
    obtain ⟨⟨hin, hr⟩, hrest⟩ := hB
    have hr' : i ∈ Region.ready md ops listed := by rw [hr]; simp
    obtain ⟨hun, oi, hoi, _⟩ := mem_ready.1 hr'
    have e := pick_of hl hoi
    unfold wpT3 at h
    rw [e] at h
    rw [show (Ord3.one i r).len + (ops.size - nh) = r.len + (ops.size - nh) + 1 by simp [Ord3.len]; omega]
    unfold wpHL
    rw [if_neg (by rw [headDone_no hin hun]; simp), hr]
    refine ⟨by simp, fun j hj => ?_⟩
    obtain rfl : j = i := by simpa using hj
    exact wpOp_of_act hoi (fun S' hSS a' w' h1 h2 => ⟨hSS _ h1, wpHL_mono hSS _ _ _ _ (wpHL_of_tree3 hl hsel ht hQ tl htl htn r S' _ _ w' (hcl.set hr') hrest h1 h2)⟩) h
  | .two i r i2 s, S, listed, a, w, hcl, hB, hS, h => by
    simp only [tree3Chk, Bool.and_eq_true, decide_eq_true_eq] at hB
    obtain ⟨⟨⟨⟨⟨hin, hin2⟩, hr⟩, hls⟩, hrest⟩, hrest2⟩ := hB
    have hr' : i ∈ Region.ready md ops listed := by rw [hr]; simp
    have hr2 : i2 ∈ Region.ready md ops listed := by rw [hr]; simp
    obtain ⟨hun, oi, hoi, _⟩ := mem_ready.1 hr'
    obtain ⟨hun2, oj, hoj, _⟩ := mem_ready.1 hr2
    have e := pick_of hl hoi
    have e2 := pick_of hl hoj
    unfold wpT3 at h
    rw [e, e2] at h
    rw [show (Ord3.two i r i2 s).len + (ops.size - nh) = r.len + (ops.size - nh) + 1 by simp [Ord3.len]; omega]
    unfold wpHL
    rw [if_neg (by rw [headDone_no hin hun]; simp), hr]
    refine ⟨by simp, fun j hj => ?_⟩
    simp only [List.mem_cons, List.not_mem_nil, or_false] at hj
    rcases hj with rfl | rfl
    · exact wpOp_of_act hoi (fun S' hSS a' w' h1 h2 => ⟨hSS _ h1, wpHL_mono hSS _ _ _ _ (wpHL_of_tree3 hl hsel ht hQ tl htl htn r S' _ _ w' (hcl.set hr') hrest h1 h2)⟩) h.1
    · refine wpOp_of_act hoj (fun S' hSS a' w' h1 h2 => ⟨hSS _ h1, ?_⟩) h.2
      rw [hls]
      exact wpHL_mono hSS _ _ _ _ (wpHL_of_tree3 hl hsel ht hQ tl htl htn s S' _ _ w' (hcl.set hr2) hrest2 h1 h2)
  | .three i r i2 s i3 t, S, listed, a, w, hcl, hB, hS, h => by
    simp only [tree3Chk, Bool.and_eq_true, decide_eq_true_eq] at hB
    obtain ⟨⟨⟨⟨⟨⟨⟨⟨hin, hin2⟩, hin3⟩, hr⟩, hls⟩, hlt⟩, hrest⟩, hrest2⟩, hrest3⟩ := hB
    have hr' : i ∈ Region.ready md ops listed := by rw [hr]; simp
    have hr2 : i2 ∈ Region.ready md ops listed := by rw [hr]; simp
    have hr3 : i3 ∈ Region.ready md ops listed := by rw [hr]; simp
    obtain ⟨hun, oi, hoi, _⟩ := mem_ready.1 hr'
    obtain ⟨hun2, oj, hoj, _⟩ := mem_ready.1 hr2
    obtain ⟨hun3, ok, hok, _⟩ := mem_ready.1 hr3
    have e := pick_of hl hoi
    have e2 := pick_of hl hoj
    have e3 := pick_of hl hok
    unfold wpT3 at h
    rw [e, e2, e3] at h
    rw [show (Ord3.three i r i2 s i3 t).len + (ops.size - nh) = r.len + (ops.size - nh) + 1 by simp [Ord3.len]; omega]
    unfold wpHL
    rw [if_neg (by rw [headDone_no hin hun]; simp), hr]
    refine ⟨by simp, fun j hj => ?_⟩
    simp only [List.mem_cons, List.not_mem_nil, or_false] at hj
    rcases hj with rfl | rfl | rfl
    · exact wpOp_of_act hoi (fun S' hSS a' w' h1 h2 => ⟨hSS _ h1, wpHL_mono hSS _ _ _ _ (wpHL_of_tree3 hl hsel ht hQ tl htl htn r S' _ _ w' (hcl.set hr') hrest h1 h2)⟩) h.1
    · refine wpOp_of_act hoj (fun S' hSS a' w' h1 h2 => ⟨hSS _ h1, ?_⟩) h.2.1
      rw [hls]
      exact wpHL_mono hSS _ _ _ _ (wpHL_of_tree3 hl hsel ht hQ tl htl htn s S' _ _ w' (hcl.set hr2) hrest2 h1 h2)
    · refine wpOp_of_act hok (fun S' hSS a' w' h1 h2 => ⟨hSS _ h1, ?_⟩) h.2.2
      rw [hlt]
      exact wpHL_mono hSS _ _ _ _ (wpHL_of_tree3 hl hsel ht hQ tl htl htn t S' _ _ w' (hcl.set hr3) hrest3 h1 h2)
/-- **A region that draws its order, branch by branch.** -/
theorem wp_region_tree3 {id : Nat} {a : Act} {w : World} {l : List Oper} (S : World → Prop) (nh : Nat) (order : Ord3) (hm : P.follows .mixedOrders = true)
    (hB : (Region.noSelect l.toArray && tailB .any l.toArray nh && tree3Chk .any l.toArray nh order (Array.replicate l.toArray.size false) && decide (order.len + (l.toArray.size - nh) = l.toArray.size)) = true)
    (hQ : ∀ c a d v w, Q (.panic c) (Act.put a d v) w → Q (.panic c) a w) (hS : S w.drew)
    (h : wpT3 P l.toArray l Q (fun a w => wpList P l.toArray Q (l.drop nh) a w) order S a w.drew) : (Code.region id l.toArray true).wp P Q a w := by
  simp only [Bool.and_eq_true, decide_eq_true_eq] at hB
  obtain ⟨⟨⟨hsel, ht⟩, hc⟩, hlen⟩ := hB
  refine wp_region_any hm (wpAny_of_HL (S := S) (nh := nh) _ _ _ _ ?_)
  have := wpHL_of_tree3 (P := P) (Q := Q) (l := l) rfl hsel ht hQ (l.drop nh) (fun j => by simp [List.getElem?_drop]) (by simp) order S (Array.replicate l.toArray.size false) a w.drew
    ⟨by simp, fun j o _ hj => by rw [getD_replicate_false] at hj; cases hj⟩ hc hS h
  rw [hlen] at this
  exact this
section
variable {l : List Oper} {T : Act → World → Prop} {a : Act} {w : World}
theorem t3_done (h : T a w) : wpT3 P ops l Q T .done S a w := h
theorem t3_q {i : Nat} {r : Ord3} (v : Value) (hgd : (pick l i).guard = none) (hrun : ∀ w', S w' → (execOp a.eval (pick l i)).run P w' = .ok (.value v) w') (h : wpT3 P ops l Q T r S (a.put (pick l i).dst v) w) : wpT3 P ops l Q T (.q i r) S a w :=
  ⟨v, .inl (.inl ⟨by simp [Region.wanted, hgd], hrun⟩), h⟩
theorem t3_g {i : Nat} {r : Ord3} (v : Value) (hw : Region.wanted (pick l i) (yielded ops a.tmps) = true) (hrun : ∀ w', S w' → (execOp a.eval (pick l i)).run P w' = .ok (.value v) w') (h : wpT3 P ops l Q T r S (a.put (pick l i).dst v) w) : wpT3 P ops l Q T (.q i r) S a w :=
  ⟨v, .inl (.inl ⟨hw, hrun⟩), h⟩
theorem t3_no {i : Nat} {r : Ord3} (hw : Region.wanted (pick l i) (yielded ops a.tmps) = false) (h : wpT3 P ops l Q T r S (a.put (pick l i).dst undef) w) : wpT3 P ops l Q T (.q i r) S a w :=
  ⟨undef, .inl (.inr ⟨hw, rfl⟩), h⟩
/-- A call that only answers. -/
theorem t3_call {i : Nat} {r : Ord3} (v : Value) (hgd : (pick l i).guard = none) (f : FuncId) (args : Array Value) (hrun : ∀ w', (execOp a.eval (pick l i)).run P w' = .ok (.enter f args) w')
    (hc : ∀ w', S w' → Calls P f args w' fun e w2 => e = .returned v ∧ w' = w2) (h : wpT3 P ops l Q T r S (a.put (pick l i).dst v) w) : wpT3 P ops l Q T (.q i r) S a w :=
  ⟨v, .inr ⟨by simp [Region.wanted, hgd], f, args, fun w' hS => ⟨hrun w', hc w' hS⟩⟩, h⟩
/-- A run of cells is loaded. -/
theorem t3_load {i : Nat} {r : Ord3} (hgd : (pick l i).guard = none) (ty : TypeId) (x : Operand) (ho : (pick l i).op = .load ty x) (g off : Nat) (cs vs : List Value) (t : TypeId)
    (hx : a.eval x = .pointer (some ⟨g, off, none⟩)) (d : TypeDesc) (hu : P.underlying ty = some d) (hd : d.isRow = true) (hi : (P.info? ty).map (·.size) = some vs.length)
    (hv : (cs.drop off).take vs.length = vs) (hb : ∀ w', S w' → w'.heap[g]? = some (.cells cs.toArray t))
    (h : wpT3 P ops l Q T r S (a.put (pick l i).dst (.agg vs.toArray)) w) : wpT3 P ops l Q T (.q i r) S a w := by
  refine t3_q _ hgd (fun w' hS => ?_) h
  have hr : w'.rangeAt g off vs := by have := range_of_heap (hb w' hS) off vs.length; rwa [hv] at this
  unfold execOp
  simp only [ho, hx, Instr.loadAt, Instr.sureAddr, Sem.run_bind, Sem.run_pure, Result.andThen_ok, run_loadVar_mid w' g off ty vs d hr hu hd hi]
theorem t3_loadG {i : Nat} {r : Ord3} (hw : Region.wanted (pick l i) (yielded ops a.tmps) = true) (ty : TypeId) (x : Operand) (ho : (pick l i).op = .load ty x) (g off : Nat) (cs vs : List Value) (t : TypeId)
    (hx : a.eval x = .pointer (some ⟨g, off, none⟩)) (d : TypeDesc) (hu : P.underlying ty = some d) (hd : d.isRow = true) (hi : (P.info? ty).map (·.size) = some vs.length)
    (hv : (cs.drop off).take vs.length = vs) (hb : ∀ w', S w' → w'.heap[g]? = some (.cells cs.toArray t))
    (h : wpT3 P ops l Q T r S (a.put (pick l i).dst (.agg vs.toArray)) w) : wpT3 P ops l Q T (.q i r) S a w := by
  refine t3_g _ hw (fun w' hS => ?_) h
  have hr : w'.rangeAt g off vs := by have := range_of_heap (hb w' hS) off vs.length; rwa [hv] at this
  unfold execOp
  simp only [ho, hx, Instr.loadAt, Instr.sureAddr, Sem.run_bind, Sem.run_pure, Result.andThen_ok, run_loadVar_mid w' g off ty vs d hr hu hd hi]
theorem t3_one {i : Nat} {r : Ord3} (h : wpList P ops (ActPost Q S (wpT3 P ops l Q T r)) [pick l i] a w) : wpT3 P ops l Q T (.one i r) S a w := h
theorem t3_two {i j : Nat} {r s : Ord3} (h : wpList P ops (ActPost Q S (wpT3 P ops l Q T r)) [pick l i] a w) (h2 : wpList P ops (ActPost Q S (wpT3 P ops l Q T s)) [pick l j] a w) : wpT3 P ops l Q T (.two i r j s) S a w := ⟨h, h2⟩
theorem t3_three {i j k : Nat} {r s t : Ord3} (h : wpList P ops (ActPost Q S (wpT3 P ops l Q T r)) [pick l i] a w) (h2 : wpList P ops (ActPost Q S (wpT3 P ops l Q T s)) [pick l j] a w) (h3 : wpList P ops (ActPost Q S (wpT3 P ops l Q T t)) [pick l k] a w) : wpT3 P ops l Q T (.three i r j s k t) S a w := ⟨h, h2, h3⟩
end
end
end Go.Proofs.YtlcolabblpikjaaGreatDoor
