/-
  Bytes of a string that may be written into; Lower, the program's and the document's.
-/
import Derived.Test.YtkmfbfmmlldphaaDoorPct1
import Derived.Test.YtkmfbfmmlldphaaDoorBld
import Derived.Lib.ConvBytes
namespace Go.Proofs.YtkmfbfmmlldphaaDoor
set_option linter.unusedVariables false
set_option linter.unusedSimpArgs false
set_option maxRecDepth 20000
open Go.RowKit

/-- A row of cells that a conversion made. -/
def zrow (g : Nat) (cs : List Value) : Nat × Obj := (g, .cells cs.toArray 5 (cs.length, cs.length + 1))
theorem cell_zrow {w0 w : World} {L : Blks} {g : Nat} {cs : List Value} (hO : Own w0 w L) (h : zrow g cs ∈ L) (j : Nat) : w.cell? ⟨g, j, none⟩ = cs[j]? := by
  rw [cell_of_row w g j _ _ _ (hO.heap h)]; simp
theorem frozen_zrow {w0 w : World} {L : Blks} {g : Nat} {cs : List Value} (hO : Own w0 w L) (h : zrow g cs ∈ L) (j : Nat) (hj : j < cs.length) : w.frozen? ⟨g, j, none⟩ = false := by
  unfold World.frozen?
  rw [hO.heap h]
  simp; omega
theorem bytesCells_list (w : World) (s : ByteArray) : (Lib.bytesCells w 5 s).toList = bv (sb s) ++ List.replicate (grownCap w s.size 0 5 - s.size) (.int .u8 0) := by
  unfold Lib.bytesCells bv sb
  simp
theorem bs_zrow {w0 w : World} {L : Blks} {g cap : Nat} {xs : List Int} {sp : List Value} (hO : Own w0 w L) (h : zrow g (bv xs ++ sp) ∈ L) (n : Nat) (hn : xs.length = n) (hc : n ≤ cap) : Bs w (.slice (some ⟨g, 0, none⟩) n cap) xs := by
  refine ⟨_, _, _, rfl, hn, hc, fun _ => ⟨_, rfl, fun j x hx => ?_⟩⟩
  have hj : j < xs.length := (List.getElem?_eq_some_iff.1 hx).1
  rw [addr_add_zero, cell_zrow hO h, List.getElem?_append_left (by simpa using hj)]
  simp [bv, hx]
section
variable {w0 w : World} {L : Blks} {ops : Array Oper} {rest : List Oper} {op : Oper} {a : Act} {Q : Exit → Act → World → Prop}
/-- '[]byte(s)' of a string that is no constant. -/
theorem wl_str2b (hgd : op.guard = none) (x : Operand) (ho : op.op = .convert 9 49 x) (hO : Own w0 w L) (s : ByteArray) (hx : a.eval x = .string s)
    (h : ∀ g cap sp w', s.size ≤ cap → Own w0 w' (zrow g (bv (sb s) ++ sp) :: L) → wpList Tryd.prog ops Q rest (a.put op.dst (.slice (some ⟨g, 0, none⟩) s.size cap)) w') : wpList Tryd.prog ops Q (op :: rest) a w := by
  refine wpList_plain hgd fun K hK => ?_
  have hrun := Lib.run_convert_string_bytes (P := Tryd.prog) w 9 49 5 s Tryd.underlying9 Tryd.underlying49 Tryd.underlying5
  unfold Oper.wp
  simp only [execOp, ho, hx, Sem.run_bind, hrun, Result.andThen_ok, Sem.run_pure]
  have hnew := Lib.bytesWorld_at_new w 5 s
  have hcs := bytesCells_list w s
  obtain ⟨C, hC⟩ : ∃ C, Lib.bytesCells w 5 s = C := ⟨_, rfl⟩
  rw [hC] at hnew hcs
  have hCa : C = (bv (sb s) ++ List.replicate (grownCap w s.size 0 5 - s.size) (Value.int .u8 0)).toArray := by rw [← hcs]
  have hsz : C.size = (bv (sb s) ++ List.replicate (grownCap w s.size 0 5 - s.size) (Value.int .u8 0)).length := by rw [hCa]; simp
  rw [hsz, hCa] at hnew
  refine hK _ _ (h w.heap.size _ (List.replicate (grownCap w s.size 0 5 - s.size) (.int .u8 0)) _ (grownCap_ge w _ _ _) ?_)
  have hg : Below w.heap.size w (Lib.bytesWorld w 5 s) := ⟨rfl, rfl, rfl, by rw [Lib.bytesWorld_size]; omega, fun k hk => Lib.bytesWorld_at_old w _ s k hk⟩
  have hS := hO.same hg
  refine ⟨hS.below, ?_, ?_⟩
  · intro g o hm
    rcases List.mem_cons.1 hm with e | hm
    · cases e; exact ⟨hO.below.size, hnew⟩
    · exact hS.at_ g o hm
  · simp only [List.map_cons, List.nodup_cons]
    exact ⟨hO.notin (Nat.le_refl _), hO.nodup⟩
/-- A store of one byte into such a row. -/
theorem wl_storeZ (hgd : op.guard = none) (x y : Operand) (ho : op.op = .store 5 x y) (hO : Own w0 w L)
    (k : Nat) (g off : Nat) (cs : List Value) (n : Int) (hk : L[k]? = some (zrow g cs)) (hx : a.eval x = .pointer (some ⟨g, off, none⟩)) (hy : a.eval y = .int .u8 n) (hl : off < cs.length)
    (h : ∀ w', Own w0 w' (L.set k (zrow g (cs.set off (.int .u8 n)))) → wpList Tryd.prog ops Q rest (a.put op.dst undef) w') : wpList Tryd.prog ops Q (op :: rest) a w := by
  have hm := List.mem_of_getElem? hk
  have hb := hO.heap hm
  refine wpList_plain hgd fun K hK => ?_
  have hst := run_storeCells_cells (P := Tryd.prog) g off [.int .u8 n] 0 w (fun j hj => by
      simp only [List.length_singleton] at hj
      obtain rfl : j = 0 := by omega
      rw [cell_zrow hO hm]; simp [hl]) (fun j hj => by
        simp only [List.length_singleton] at hj
        exact frozen_zrow hO hm _ (by omega)) (by simp [Value.oneCell'])
  have hrun : (storeVar 5 ⟨g, off, none⟩ (.int .u8 n)).run Tryd.prog w = .ok () (w.setCell ⟨g, off, none⟩ (.int .u8 n)) := by
    obtain ⟨i, hi, hz, hz1, hz2⟩ := info_parts byte_info
    simp only [Nat.add_zero, World.setCells] at hst
    simp [storeVar, sizeOf, typeInfo, hi, hz1, Value.cells, hst]
  unfold Oper.wp
  simp only [execOp, ho, hx, hy, Instr.storeAt, Instr.sureAddr, Sem.run_bind, Sem.run_pure, Result.andThen_ok, hrun]
  refine hK _ _ (h _ ?_)
  refine hO.updAt k hk (grownBy_setCell w _ _) ?_
  simp [World.setCell, Array.getElem?_modify, hb]
end
theorem low_step (l : List Int) (k : Nat) (hk : k < l.length) : ((l.take k).map lowI ++ l.drop k).set k (lowI l[k]) = (l.take (k + 1)).map lowI ++ l.drop (k + 1) := by
  rw [List.set_append_right _ _ (by simp; omega)]
  rw [show k - ((l.take k).map lowI).length = 0 by simp; omega]
  rw [List.drop_eq_getElem_cons hk, List.set_cons_zero, List.take_succ_eq_append_getElem hk, List.map_append, List.append_assoc]
  rfl
theorem low_same (l : List Int) (k : Nat) (hk : k < l.length) (h : lowI l[k] = l[k]) : (l.take k).map lowI ++ l.drop k = (l.take (k + 1)).map lowI ++ l.drop (k + 1) := by
  rw [← low_step l k hk, h]
  apply List.ext_getElem?
  intro j
  rw [List.getElem?_set]
  split
  · rename_i e
    subst e
    have : k < ((l.take k).map lowI ++ l.drop k).length := by simp; omega
    rw [if_pos this, List.getElem?_append_right (by simp; omega)]
    simp [Nat.min_eq_left (Nat.le_of_lt hk), hk]
  · rfl
theorem low_len (l : List Int) (k : Nat) : ((l.take k).map lowI ++ l.drop k).length = l.length := by simp; omega
theorem low_at (l : List Int) (k : Nat) (hk : k < l.length) : ((l.take k).map lowI ++ l.drop k)[k]? = some l[k] := by
  rw [List.getElem?_append_right (by simp; omega)]
  simp [Nat.min_eq_left (Nat.le_of_lt hk), hk]
set_option maxHeartbeats 4000000 in
theorem lower_c {w0 w : World} {R : Blks} (hO : Own w0 w R) (s : ByteArray) (hs : s.size ≤ 1073741824) :
    Calls Tryd.prog 52 #[.string s] w fun e w' => e = .returned (.string (strOfNums (lowL (sb s)))) ∧ Own w0 w' R := by
  have HO := Lib.hid hO
  obtain ⟨l, hl⟩ : ∃ l, sb s = l := ⟨_, rfl⟩
  obtain ⟨n, hn⟩ : ∃ n, s.size = n := ⟨_, rfl⟩
  have hln : l.length = n := by rw [← hl, ← hn]; exact length_sb s
  have hB : Byt l := by rw [← hl]; exact byt_sb s
  have HL := Lib.hid hl; have HN := Lib.hid hn; have HB := Lib.hid hB; have HLN := Lib.hid hln
  rw [hl]
  rw [hn] at hs
  clear hO hl hn hB hln
  go_enter Tryd.func52, Tryd.ntmps52
  go_wp2_with (refine wl_str2b rfl _ rfl HO.out s (by rfl) ?_; intro g cap sp w1 hcap hO1; rw [HL.out] at hO1; rw [HN.out] at hcap ⊢; have HO1 := Lib.hid hO1; clear hO1 HO)
  go_loopw [10] (fun t w' => ∃ k : Nat, k ≤ n ∧ t = .int .i64 k ∧ Hid (Own w0 w' (zrow g (bv ((l.take k).map lowI ++ l.drop k) ++ sp) :: R))) (fun t _ => n - (intOf t).toNat)
  case atStart => exact ⟨0, Nat.zero_le _, rfl, HO1.out⟩
  case round =>
    obtain ⟨k, hk, rfl, HO2⟩ := hrel
    clear HO1
    by_cases hlt : k < n
    · have hkx : k < l.length := by rw [HLN.out]; exact hlt
      have hkl : k < (bv ((l.take k).map lowI ++ l.drop k) ++ sp).length := by rw [List.length_append, length_bv, low_len]; omega
      have hcell : wr.cell? ⟨g, k, none⟩ = some (.int .u8 l[k]) := by
        rw [cell_zrow HO2.out (.head _), List.getElem?_append_left (by rw [length_bv, low_len]; exact hkx)]
        simp only [bv, List.getElem?_map, low_at l k hkx, Option.map_some]
      have hbx := HB.out l[k] (List.getElem_mem hkx)
      have hst := low_step l k hkx
      have hsame := low_same l k hkx
      have HST := Lib.hid hst; have HSAME := Lib.hid hsame; have HKL := Lib.hid hkl
      have hkn : (k : Int) < n := by omega
      have hbv : ∀ x, (bv ((l.take k).map lowI ++ l.drop k) ++ sp).set k (.int .u8 x) = bv (((l.take k).map lowI ++ l.drop k).set k x) ++ sp := by
        intro x
        rw [List.set_append_left _ _ (by rw [length_bv, low_len]; exact hkx)]
        simp [bv]
      have HBV := Lib.hid hbv
      clear hst hsame hkl hbv
      generalize hx : l[k] = x at *
      have hx0 := hbx.1; have hx1 := hbx.2
      clear hbx hx hkx
      by_cases h65 : 65 ≤ x
      · by_cases h90 : x ≤ 90
        · have hlow : lowI x = x - 65 + 97 := by unfold lowI; rw [if_pos ⟨h65, h90⟩]; omega
          have HLOW := Lib.hid hlow
          clear hlow
          go_wp2_with (refine wl_storeZ rfl _ _ rfl HO2.out 0 g k _ (x - 65 + 97) rfl (by rfl) (by rfl) HKL.out ?_; intro w3 hO3; have HO3 := Lib.hid hO3; clear hO3 HO2)
          go_roundw
          case rel =>
            refine ⟨k + 1, by omega, by go_num, ?_⟩
            have := HO3.out
            rw [List.set_cons_zero, HBV.out, ← HLOW.out, HST.out] at this
            exact this
          case measure => simp [intOf]; omega
        · have hlow : lowI x = x := by unfold lowI; rw [if_neg (by omega)]
          have hO3 := HO2.out
          rw [HSAME.out hlow] at hO3
          have HO3 := Lib.hid hO3
          clear hlow hO3 HO2
          go_wp2
          go_roundw
          case rel => exact ⟨k + 1, by omega, by go_num, HO3.out⟩
          case measure => simp [intOf]; omega
      · have hlow : lowI x = x := by unfold lowI; rw [if_neg (by omega)]
        have hO3 := HO2.out
        rw [HSAME.out hlow] at hO3
        have HO3 := Lib.hid hO3
        clear hlow hO3 HO2
        go_wp2
        go_roundw
        case rel => exact ⟨k + 1, by omega, by go_num, HO3.out⟩
        case measure => simp [intOf]; omega
    · obtain rfl : k = n := by omega
      have hO3 := HO2.out
      have e : (l.take k).map lowI ++ l.drop k = lowL l := by
        rw [List.take_of_length_le (by rw [HLN.out]; exact Nat.le_refl _), List.drop_eq_nil_of_le (by rw [HLN.out]; exact Nat.le_refl _), List.append_nil]; rfl
      rw [e] at hO3
      have hcv := convert_str (bs_zrow hO3 (.head _) k (by simp [lowL, HLN.out]) hcap)
      have HO3 := Lib.hid hO3.tail
      clear hO3 e HO2
      go_wp2
      go_ret
      exact ⟨rfl, HO3.out⟩
set_option maxHeartbeats 4000000 in
theorem rlower_c {w0 w : World} {R : Blks} (hO : Own w0 w R) (s : ByteArray) (hs : s.size ≤ 1073741824) :
    Calls Tryd.prog 34 #[.string s] w fun e w' => e = .returned (.string (strOfNums (lowL (sb s)))) ∧ Own w0 w' R := by
  have HO := Lib.hid hO
  obtain ⟨l, hl⟩ : ∃ l, sb s = l := ⟨_, rfl⟩
  obtain ⟨n, hn⟩ : ∃ n, s.size = n := ⟨_, rfl⟩
  have hln : l.length = n := by rw [← hl, ← hn]; exact length_sb s
  have hB : Byt l := by rw [← hl]; exact byt_sb s
  have HL := Lib.hid hl; have HN := Lib.hid hn; have HB := Lib.hid hB; have HLN := Lib.hid hln
  rw [hl]
  rw [hn] at hs
  clear hO hl hn hB hln
  go_enter Tryd.func34, Tryd.ntmps34
  go_wp2_with (refine wl_str2b rfl _ rfl HO.out s (by rfl) ?_; intro g cap sp w1 hcap hO1; rw [HL.out] at hO1; rw [HN.out] at hcap ⊢; have HO1 := Lib.hid hO1; clear hO1 HO)
  go_loopw [10] (fun t w' => ∃ k : Nat, k ≤ n ∧ t = .int .i64 k ∧ Hid (Own w0 w' (zrow g (bv ((l.take k).map lowI ++ l.drop k) ++ sp) :: R))) (fun t _ => n - (intOf t).toNat)
  case atStart => exact ⟨0, Nat.zero_le _, rfl, HO1.out⟩
  case round =>
    obtain ⟨k, hk, rfl, HO2⟩ := hrel
    clear HO1
    by_cases hlt : k < n
    · have hkx : k < l.length := by rw [HLN.out]; exact hlt
      have hkl : k < (bv ((l.take k).map lowI ++ l.drop k) ++ sp).length := by rw [List.length_append, length_bv, low_len]; omega
      have hcell : wr.cell? ⟨g, k, none⟩ = some (.int .u8 l[k]) := by
        rw [cell_zrow HO2.out (.head _), List.getElem?_append_left (by rw [length_bv, low_len]; exact hkx)]
        simp only [bv, List.getElem?_map, low_at l k hkx, Option.map_some]
      have hbx := HB.out l[k] (List.getElem_mem hkx)
      have hst := low_step l k hkx
      have hsame := low_same l k hkx
      have HST := Lib.hid hst; have HSAME := Lib.hid hsame; have HKL := Lib.hid hkl
      have hkn : (k : Int) < n := by omega
      have hbv : ∀ x, (bv ((l.take k).map lowI ++ l.drop k) ++ sp).set k (.int .u8 x) = bv (((l.take k).map lowI ++ l.drop k).set k x) ++ sp := by
        intro x
        rw [List.set_append_left _ _ (by rw [length_bv, low_len]; exact hkx)]
        simp [bv]
      have HBV := Lib.hid hbv
      clear hst hsame hkl hbv
      generalize hx : l[k] = x at *
      have hx0 := hbx.1; have hx1 := hbx.2
      clear hbx hx hkx
      by_cases h65 : 65 ≤ x
      · by_cases h90 : x ≤ 90
        · have hlow : lowI x = x + 32 := by unfold lowI; rw [if_pos ⟨h65, h90⟩]
          have HLOW := Lib.hid hlow
          clear hlow
          go_wp2_with (refine wl_storeZ rfl _ _ rfl HO2.out 0 g k _ (x + 32) rfl (by rfl) (by rfl) HKL.out ?_; intro w3 hO3; have HO3 := Lib.hid hO3; clear hO3 HO2)
          go_roundw
          case rel =>
            refine ⟨k + 1, by omega, by go_num, ?_⟩
            have := HO3.out
            rw [List.set_cons_zero, HBV.out, ← HLOW.out, HST.out] at this
            exact this
          case measure => simp [intOf]; omega
        · have hlow : lowI x = x := by unfold lowI; rw [if_neg (by omega)]
          have hO3 := HO2.out
          rw [HSAME.out hlow] at hO3
          have HO3 := Lib.hid hO3
          clear hlow hO3 HO2
          go_wp2
          go_roundw
          case rel => exact ⟨k + 1, by omega, by go_num, HO3.out⟩
          case measure => simp [intOf]; omega
      · have hlow : lowI x = x := by unfold lowI; rw [if_neg (by omega)]
        have hO3 := HO2.out
        rw [HSAME.out hlow] at hO3
        have HO3 := Lib.hid hO3
        clear hlow hO3 HO2
        go_wp2
        go_roundw
        case rel => exact ⟨k + 1, by omega, by go_num, HO3.out⟩
        case measure => simp [intOf]; omega
    · obtain rfl : k = n := by omega
      have hO3 := HO2.out
      have e : (l.take k).map lowI ++ l.drop k = lowL l := by
        rw [List.take_of_length_le (by rw [HLN.out]; exact Nat.le_refl _), List.drop_eq_nil_of_le (by rw [HLN.out]; exact Nat.le_refl _), List.append_nil]; rfl
      rw [e] at hO3
      have hcv := convert_str (bs_zrow hO3 (.head _) k (by simp [lowL, HLN.out]) hcap)
      have HO3 := Lib.hid hO3.tail
      clear hO3 e HO2
      go_wp2
      go_ret
      exact ⟨rfl, HO3.out⟩
end Go.Proofs.YtkmfbfmmlldphaaDoor
