/-
  MarkForms: whatever n: a sector by hand, byte by byte; marks, parts, bytes that may not be: the law returns true.
-/
import Derived.Test.YtjdomggboikndaaL02a
import Derived.Test.YtjdomggboikndaaOps3
namespace Go.Proofs.Ytjdomggboikndaa
set_option linter.unusedVariables false
set_option linter.unusedSimpArgs false
open Go.ChangeShapes Go.WideShapes Go.ChangeAt Go.RowKit
open Go.ChangeMaps (open_string shut_string)

theorem rd_whole {w0 : World} {R : Blks} {g n c : Nat} {xs : List Int} {t : TypeId} (hm : (g, Obj.cells (bv xs).toArray t) ∈ R) (hn : xs.length = n) (hc : n ≤ c) : Rd w0 R (.slice (some ⟨g, 0, none⟩) n c) xs := by
  subst hn
  have := rd_blk (w0 := w0) (R := R) (g := g) (xs := xs) (sp := []) (t := t) (by rwa [List.append_nil]) 0 xs.length c (by omega) hc
  rwa [List.drop_zero, List.take_length] at this
theorem isBytes_form {v : Value} {xs : List Int} {L : Blks} (h : IsBytes v xs L) {m : Nat} (hm : xs.length = m) : ∃ A n c, v = .slice A n c ∧ n = m := by
  obtain ⟨A, c, rfl⟩ := h.val
  exact ⟨A, _, c, rfl, hm⟩
def rowsV (N : Int) (gb : Nat) (A : Option Addr) (n c : Nat) : List Value := [Value.int .i64 (-N), Value.int .i64 0, Value.int .i64 0, Value.int .i64 1, Value.slice (some ⟨gb, 0, none⟩) 19 19, Value.int .i64 (65535 + N), Value.int .i64 0, Value.int .i64 0, Value.int .i64 1, Value.slice (some ⟨gb, 0, none⟩) 19 19, Value.int .i64 0, Value.int .i64 (-N), Value.int .i64 0, Value.int .i64 1, Value.slice (some ⟨gb, 0, none⟩) 19 19, Value.int .i64 0, Value.int .i64 (16777215 + N), Value.int .i64 0, Value.int .i64 1, Value.slice (some ⟨gb, 0, none⟩) 19 19, Value.int .i64 0, Value.int .i64 0, Value.int .i64 (-N), Value.int .i64 1, Value.slice (some ⟨gb, 0, none⟩) 19 19, Value.int .i64 0, Value.int .i64 0, Value.int .i64 (N), Value.int .i64 (N), Value.slice (some ⟨gb, 0, none⟩) 19 19, Value.int .i64 0, Value.int .i64 0, Value.int .i64 0, Value.int .i64 0, Value.slice (some ⟨gb, 0, none⟩) 19 19, Value.int .i64 0, Value.int .i64 0, Value.int .i64 0, Value.int .i64 (255 + N), Value.slice (some ⟨gb, 0, none⟩) 19 19, Value.int .i64 0, Value.int .i64 0, Value.int .i64 0, Value.int .i64 (-N), Value.slice (some ⟨gb, 0, none⟩) 19 19, Value.int .i64 0, Value.int .i64 0, Value.int .i64 0, Value.int .i64 1, Value.slice A n c]
theorem build_rows (N : Int) (gb : Nat) (A : Option Addr) (n c : Nat) (w : World) : (Instr.buildSlice 46 10 #[(0, .agg #[Value.int .i64 (-N), Value.int .i64 0, Value.int .i64 0, Value.int .i64 1, Value.slice (some ⟨gb, 0, none⟩) 19 19]), (1, .agg #[Value.int .i64 (65535 + N), Value.int .i64 0, Value.int .i64 0, Value.int .i64 1, Value.slice (some ⟨gb, 0, none⟩) 19 19]), (2, .agg #[Value.int .i64 0, Value.int .i64 (-N), Value.int .i64 0, Value.int .i64 1, Value.slice (some ⟨gb, 0, none⟩) 19 19]), (3, .agg #[Value.int .i64 0, Value.int .i64 (16777215 + N), Value.int .i64 0, Value.int .i64 1, Value.slice (some ⟨gb, 0, none⟩) 19 19]), (4, .agg #[Value.int .i64 0, Value.int .i64 0, Value.int .i64 (-N), Value.int .i64 1, Value.slice (some ⟨gb, 0, none⟩) 19 19]), (5, .agg #[Value.int .i64 0, Value.int .i64 0, Value.int .i64 (N), Value.int .i64 (N), Value.slice (some ⟨gb, 0, none⟩) 19 19]), (6, .agg #[Value.int .i64 0, Value.int .i64 0, Value.int .i64 0, Value.int .i64 0, Value.slice (some ⟨gb, 0, none⟩) 19 19]), (7, .agg #[Value.int .i64 0, Value.int .i64 0, Value.int .i64 0, Value.int .i64 (255 + N), Value.slice (some ⟨gb, 0, none⟩) 19 19]), (8, .agg #[Value.int .i64 0, Value.int .i64 0, Value.int .i64 0, Value.int .i64 (-N), Value.slice (some ⟨gb, 0, none⟩) 19 19]), (9, .agg #[Value.int .i64 0, Value.int .i64 0, Value.int .i64 0, Value.int .i64 1, Value.slice A n c])]).run Try.prog w =
    .ok (.slice (some ⟨w.heap.size, 0, none⟩) 10 10) (w.alloc (.cells (rowsV N gb A n c).toArray 45)) := by kernel_rfl
theorem build_ma (a : Int) (w : World) : (Instr.build 44 #[(0, .int .i64 a)]).run Try.prog w = .ok (.agg #[.int .i64 a, .int .i64 0]) w := by kernel_rfl
theorem build_mb (a : Int) (w : World) : (Instr.build 44 #[(1, .int .i64 a)]).run Try.prog w = .ok (.agg #[.int .i64 0, .int .i64 a]) w := by kernel_rfl
theorem build_m0 (w : World) : (Instr.build 44 #[]).run Try.prog w = .ok (.agg #[.int .i64 0, .int .i64 0]) w := by kernel_rfl
theorem build_row (a b p q : Int) (A : Option Addr) (n c : Nat) (w : World) : (Instr.build 45 #[(0, .agg #[.int .i64 a, .int .i64 b]), (1, .int .i64 p), (2, .int .i64 q), (3, .slice A n c)]).run Try.prog w = .ok (.agg #[.int .i64 a, .int .i64 b, .int .i64 p, .int .i64 q, .slice A n c]) w := by kernel_rfl
theorem build_b3 (w : World) : (Instr.buildSlice 27 3 #[(0, .int .u8 8), (1, .int .u8 9), (2, .int .u8 10)]).run Try.prog w = .ok (.slice (some ⟨w.heap.size, 0, none⟩) 3 3) (w.alloc (.cells (bv [8, 9, 10]).toArray 5)) := by kernel_rfl
theorem build_b11 (w : World) : (Instr.buildSlice 27 11 #[(0, .int .u8 1), (1, .int .u8 2), (2, .int .u8 3), (3, .int .u8 4), (4, .int .u8 5), (5, .int .u8 6), (6, .int .u8 7), (7, .int .u8 3), (8, .int .u8 8), (9, .int .u8 9), (10, .int .u8 10)]).run Try.prog w = .ok (.slice (some ⟨w.heap.size, 0, none⟩) 11 11) (w.alloc (.cells (bv [1, 2, 3, 4, 5, 6, 7, 3, 8, 9, 10]).toArray 5)) := by kernel_rfl
theorem build_b5 (w : World) : (Instr.buildSlice 27 5 #[(0, .int .u8 3), (1, .int .u8 4), (2, .int .u8 5), (3, .int .u8 1), (4, .int .u8 2)]).run Try.prog w = .ok (.slice (some ⟨w.heap.size, 0, none⟩) 5 5) (w.alloc (.cells (bv [3, 4, 5, 1, 2]).toArray 5)) := by kernel_rfl
theorem alloc_row (w : World) : (Instr.alloc 45 true (.tuple #[])).run Try.prog w = .ok (.pointer (some ⟨w.heap.size, 0, none⟩)) (w.alloc (.cells [Value.int .i64 0, Value.int .i64 0, Value.int .i64 0, Value.int .i64 0, Value.slice none 0 0].toArray 45)) := by kernel_rfl
theorem row_size : (Try.prog.info? 45).map (·.size) = some 5 := by kernel_rfl
theorem rows_at (N : Int) (hN : 1 ≤ N) (gb : Nat) (A : Option Addr) (n c : Nat) (hn : 19 < n) (k : Nat) (hk : k < 10) : ∃ (e s p q : Int) (B : Option Addr) (m d : Nat),
    ((rowsV N gb A n c).drop (k * 5)).take 5 = [Value.int .i64 e, Value.int .i64 s, Value.int .i64 p, Value.int .i64 q, Value.slice B m d] ∧ okSeal e s p q m = false ∧ (Value.slice B m d = .slice (some ⟨gb, 0, none⟩) 19 19 ∨ Value.slice B m d = .slice A n c) := by
  match k, hk with
  | 0, _ => exact ⟨_, _, _, _, _, _, _, rfl, okSeal_no (fun h => by have := okMark_spec h.1; omega), .inl rfl⟩
  | 1, _ => exact ⟨_, _, _, _, _, _, _, rfl, okSeal_no (fun h => by have := okMark_spec h.1; omega), .inl rfl⟩
  | 2, _ => exact ⟨_, _, _, _, _, _, _, rfl, okSeal_no (fun h => by have := okMark_spec h.1; omega), .inl rfl⟩
  | 3, _ => exact ⟨_, _, _, _, _, _, _, rfl, okSeal_no (fun h => by have := okMark_spec h.1; omega), .inl rfl⟩
  | 4, _ => exact ⟨_, _, _, _, _, _, _, rfl, okSeal_no (fun h => by have := okMark_spec h.1; omega), .inl rfl⟩
  | 5, _ => exact ⟨_, _, _, _, _, _, _, rfl, okSeal_no (fun h => by have := okMark_spec h.1; omega), .inl rfl⟩
  | 6, _ => exact ⟨_, _, _, _, _, _, _, rfl, okSeal_no (fun h => by have := okMark_spec h.1; omega), .inl rfl⟩
  | 7, _ => exact ⟨_, _, _, _, _, _, _, rfl, okSeal_no (fun h => by have := okMark_spec h.1; omega), .inl rfl⟩
  | 8, _ => exact ⟨_, _, _, _, _, _, _, rfl, okSeal_no (fun h => by have := okMark_spec h.1; omega), .inl rfl⟩
  | 9, _ => exact ⟨_, _, _, _, _, _, _, rfl, okSeal_no (fun h => by have := okMark_spec h.1; omega), .inr rfl⟩
theorem one_row (e s p q : Int) (B : Option Addr) (m d : Nat) : ∀ v ∈ [Value.int .i64 e, Value.int .i64 s, Value.int .i64 p, Value.int .i64 q, Value.slice B m d], v.oneCell' = true := by
  intro v hv; simp at hv; rcases hv with rfl | rfl | rfl | rfl | rfl <;> rfl
set_option maxRecDepth 100000 in
set_option maxHeartbeats 4000000 in
theorem markForms_walk (a0 : Int) (_ : (Lit.int .i64 a0).wf = true) (w : World) : Calls Try.prog 4 #[.int .i64 a0] w (Yes w) := by
  have HO := Lib.hid (Own.start w)
  have hb3 := build_b3
  have hb11 := build_b11
  have hb5 := build_b5
  have hbm := build_mark 258 197637
  go_enter Try.func4, Try.ntmps4
  go_wp2_with (refine wl_buildSlice rfl _ _ _ rfl HO.out _ (by exact hb3 _) ?_; intro g1 w1 hO1; have HO1 := Lib.hid hO1; clear hO1 HO)
  have hcall := seal_ok HO1.out 258 197637 6 7 (.slice (some ⟨g1, 0, none⟩) 3 3) [8, 9, 10] (rd_whole (.head _) rfl (by omega)) (by rfl)
  with_reducible refine hcall.mono ?_
  clear hcall hb3 hbm
  rintro e w2 ⟨vs, Ls, rfl, hs, hO2⟩
  obtain ⟨gs, cs, sps, rfl, rfl, hcs⟩ := hs.blkn 32 rfl (by omega)
  have HVS := Lib.hid hs; have HO2 := Lib.hid hO2; clear hs hO2 HO1
  go_wp2_with (first | (refine wl_buildSlice rfl _ _ _ rfl HO2.out _ (by exact hb11 _) ?_; intro g2 w3 hO3; have HO3 := Lib.hid hO3; clear hO3 HO2) | (refine wl_appendZB rfl _ _ rfl (.slice (some ⟨g2, 0, none⟩) 11 11) [1, 2, 3, 4, 5, 6, 7, 3, 8, 9, 10] (by rfl) (L := [_]) (isBytes_whole g2 _ (by decide)) HO3.out 16 (by rfl) (by decide) ?_; intro v4 w4 L4 h4 hO4; have HO4 := Lib.hid hO4; clear hO4 HO3) | (refine wl_buildSlice rfl _ _ _ rfl HO4.out _ (by exact hb5 _) ?_; intro g5 w5 hO5; have HO5 := Lib.hid (Own.rot (A := [_]) hO5); clear hO5 HO4) | (refine wl_appendB rfl _ _ rfl v4 _ (by rfl) h4 HO5.out (.slice (some ⟨g5, 0, none⟩) 5 5) [3, 4, 5, 1, 2] (by rfl) (rd_whole (n := 5) (c := 5) (.head _) rfl (Nat.le_refl _) w5 L4 HO5.out) (by simp) ?_; intro v6 w6 L6 h6 hO6; have HO6 := Lib.hid hO6; clear hO6 HO5))
  have hd : decide (sealed 258 197637 6 7 [8, 9, 10] = [1, 2, 3, 4, 5, 6, 7, 3, 8, 9, 10] ++ List.replicate 16 0 ++ [3, 4, 5, 1, 2]) = true := by decide
  have h1 := HVS.out.bs_sub HO6.out (sub_there (sub_there (B := [_]) (List.sublist_append_left [_] _)))
  have hcall := same_c _ _ _ _ h1 (h6.bs HO6.out) (by decide)
  rw [hd] at hcall
  with_reducible refine hcall.mono ?_
  clear hcall h1 hd h6 h4 HVS hb11 hb5
  rintro e w7 ⟨rfl, m7, rfl⟩
  have HO7 := Lib.hid ((HO6.out.drewN m7).sub (List.nil_sublist _)); clear HO6
  generalize w6.drewN m7 = w7 at HO7
  go_wp2_with fail
  have hcall := within_c (w := w7) a0 1000 (by omega) (by omega)
  with_reducible refine hcall.mono ?_
  clear hcall
  rintro e w' ⟨rfl, rfl⟩
  have hN1 : 1 ≤ 1 + a0 % 1000 := by omega
  have hN2 : 1 + a0 % 1000 ≤ 1000 := by omega
  have hmk := make_bytes 19 (by omega)
  have hmk' : ∀ w, (Instr.makeSlice 27 (.int .i64 19) (.int .i64 19)).run Try.prog w =
    .ok (.slice (some ⟨w.heap.size, 0, none⟩) 19 19) (w.alloc (.cells (bv (List.replicate 19 0)).toArray 5)) := hmk
  clear hmk
  obtain ⟨n, hn⟩ : ∃ n : Nat, 1 + a0 % 1000 = (n : Int) := Int.eq_ofNat_of_zero_le (by omega)
  have hn1 : 1 ≤ n := by omega
  have hn2 : n ≤ 1000 := by omega
  go_wp2_with (first | (refine wl_makeSlice rfl _ _ _ rfl HO7.out _ 19 19 (by exact hmk' _) ?_; intro gb w8 hO8; have HO8 := Lib.hid hO8; clear hO8 HO7) | (refine wl_build rfl _ _ rfl _ (by exact build_ma _ _) ?_) | (refine wl_build rfl _ _ rfl _ (by exact build_mb _ _) ?_) | (refine wl_build rfl _ _ rfl _ (by exact build_m0 _) ?_) | (refine wl_build rfl _ _ rfl _ (by exact build_row _ _ _ _ _ _ _ _) ?_) | (refine wl_appendZN rfl _ _ rfl ⟨gb, 0, none⟩ 19 19 (List.replicate 19 0) (by rfl) HO8.out (rd_whole (n := 19) (c := 19) (.head _) rfl (Nat.le_refl _) w8 [] HO8.out) n (by omega) (by omega) (by rfl) (by omega) ?_; intro v9 w9 L9 h9 hO9; obtain ⟨A9, n9, c9, rfl, hn9⟩ := (isBytes_form h9 (m := 19 + n) (by simp; omega)); have H9 := Lib.hid h9; have HO9 := Lib.hid hO9; clear hO9 HO8 h9) | (refine wl_buildSlice rfl _ _ _ rfl HO9.out _ (by exact build_rows _ gb A9 n9 c9 _) ?_; intro gr w10 hO10; have HO10 := Lib.hid hO10; clear hO10 HO9))
  clear hmk'
  have hbase : ∀ (wx : World), Own w wx ((gr, Obj.cells (rowsV n gb A9 n9 c9).toArray 45) :: (L9 ++ [(gb, Obj.cells (bv (List.replicate 19 0)).toArray 5)])) → wx.heap[gr]? = some (.cells (rowsV n gb A9 n9 c9).toArray 45) := fun wx h => h.heap (.head _)
  have HBASE := Lib.hid hbase; clear hbase
  go_loopw [89] (fun t wx => ∃ k : Nat, k ≤ 10 ∧ t = .int .i64 k ∧ Hid (Own w wx ((gr, Obj.cells (rowsV n gb A9 n9 c9).toArray 45) :: (L9 ++ [(gb, Obj.cells (bv (List.replicate 19 0)).toArray 5)])))) (fun t _ => 10 - (intOf t).toNat)
  case atStart => exact ⟨0, by omega, rfl, HO10.out⟩
  case round =>
    obtain ⟨k, hk, rfl, HOr⟩ := hrel
    clear HO10
    by_cases hlt : k < 10
    · obtain ⟨e, s, p, q, B, m, d, hrow, hok, hv⟩ := rows_at n (by omega) gb A9 n9 c9 (by omega) k hlt
      have HROW := Lib.hid hrow; have HOK := Lib.hid hok; clear hrow hok
      have hrd : ∃ xs, xs.length = m ∧ Rd w ((gr, Obj.cells (rowsV n gb A9 n9 c9).toArray 45) :: (L9 ++ [(gb, Obj.cells (bv (List.replicate 19 0)).toArray 5)])) (.slice B m d) xs := by
        rcases hv with hv | hv
        · injection hv with h1 h2 h3
          subst h1 h2 h3
          exact ⟨List.replicate 19 0, by simp, rd_whole (.tail _ (List.mem_append_right _ (.head _))) (by simp) (Nat.le_refl _)⟩
        · injection hv with h1 h2 h3
          subst h1 h2 h3
          exact ⟨List.replicate 19 0 ++ List.replicate n 0, by simp; omega, H9.out.rd (sub_there (B := [_]) sub_here)⟩
      obtain ⟨xs, hxs, hrd⟩ := hrd
      have HRD := Lib.hid hrd; have HXS := Lib.hid hxs; clear hrd hxs hv
      have hk10 : (k : Int) < 10 := by omega
      go_wp2_with (first | (refine wl_load rfl _ _ rfl gr (k * 5) (rowsV n gb A9 n9 c9) [Value.int .i64 e, Value.int .i64 s, Value.int .i64 p, Value.int .i64 q, Value.slice B m d] _ (HBASE.out _ HOr.out) (by rfl) _ Try.underlying45 rfl row_size HROW.out ?_) | (refine wl_alloc rfl _ rfl HOr.out _ (alloc_row _) ?_; intro g8 w11 hO11; have HO11 := Lib.hid hO11; clear hO11 HOr) | (refine wl_store rfl _ _ _ rfl HO11.out 0 g8 0 _ [Value.int .i64 e, Value.int .i64 s, Value.int .i64 p, Value.int .i64 q, Value.slice B m d] _ rfl (by rfl) (by rfl) row_size (one_row _ _ _ _ _ _ _) (by simp) ?_; intro w12 hO12; have hO12' : Own w w12 ((g8, Obj.cells #[Value.int .i64 e, Value.int .i64 s, Value.int .i64 p, Value.int .i64 q, Value.slice B m d] 45) :: (gr, Obj.cells (rowsV n gb A9 n9 c9).toArray 45) :: (L9 ++ [(gb, Obj.cells (bv (List.replicate 19 0)).toArray 5)])) := hO12; have f0 : w12.cell? ⟨g8, 0, none⟩ = some (.int .i64 e) := hO12'.cell (.head _) 0; have f1 : w12.cell? ⟨g8, 1, none⟩ = some (.int .i64 s) := hO12'.cell (.head _) 1; have f2 : w12.cell? ⟨g8, 2, none⟩ = some (.int .i64 p) := hO12'.cell (.head _) 2; have f3 : w12.cell? ⟨g8, 3, none⟩ = some (.int .i64 q) := hO12'.cell (.head _) 3; have f4 : w12.cell? ⟨g8, 4, none⟩ = some (.slice B m d) := hO12'.cell (.head _) 4; have HO12 := Lib.hid hO12'.tail; clear hO12 hO12' HO11))
      have hcall := seal_err HO12.out e s p q (.slice B m d) xs HRD.out (by rw [HXS.out]; exact HOK.out)
      with_reducible refine hcall.mono ?_
      clear hcall f0 f1 f2 f3 f4
      rintro en w13 ⟨v13, L13, rfl, h13, hO13⟩
      obtain ⟨A13, c13, rfl⟩ := h13.val
      have HO13 := Lib.hid hO13.right; clear hO13 h13 HO12
      simp only [List.length_nil]
      go_wp2
      go_roundw
      case rel => exact ⟨k + 1, by omega, by go_num, HO13.out⟩
      case measure => simp [intOf]; omega
    · obtain rfl : k = 10 := by omega
      have hbm := build_mark 65535 16777215
      have hmk := make_bytes 32 (by omega)
      have hmk' : ∀ w, (Instr.makeSlice 27 (.int .i64 32) (.int .i64 32)).run Try.prog w =
        .ok (.slice (some ⟨w.heap.size, 0, none⟩) 32 32) (w.alloc (.cells (bv (List.replicate 32 0)).toArray 5)) := hmk
      clear hmk
      go_wp2_with fail
      have hcall := seal_ok HOr.out 65535 16777215 254 255 (.slice (some ⟨gb, 0, none⟩) 19 19) (List.replicate 19 0) (rd_whole (.tail _ (List.mem_append_right _ (.head _))) (by simp) (Nat.le_refl _)) (by rfl)
      with_reducible refine hcall.mono ?_
      clear hcall hbm
      rintro en w13 ⟨v13, L13, rfl, h13, hO13⟩
      have HO13 := Lib.hid hO13.right; clear hO13 h13 HOr
      go_wp2_with (refine wl_makeSlice rfl _ _ _ rfl HO13.out _ 32 32 (by exact hmk' _) ?_; intro g14 w14 hO14; have HO14 := Lib.hid hO14; clear hO14 HO13)
      have hcall := open_is HO14.out (.slice (some ⟨g14, 0, none⟩) 32 32) (List.replicate 32 0) (rd_whole (.head _) (by simp) (Nat.le_refl _)) (fun x hx => by rw [List.mem_replicate] at hx; omega) _ (openR_r2 (by rfl))
      with_reducible refine hcall.mono ?_
      clear hcall hmk'
      rintro en w15 ⟨v15, L15, rfl, _, hO15⟩
      have HO15 := Lib.hid hO15.right; clear hO15 HO14
      go_wp2_with (first | (refine wl_alloc rfl _ rfl HO15.out _ (alloc_mark _) ?_; intro g16 w16 hO16; have HO16 := Lib.hid hO16; clear hO16 HO15) | (refine wl_store rfl _ _ _ rfl HO16.out 0 g16 0 _ [Value.int .i64 0, Value.int .i64 0] _ rfl (by rfl) (by rfl) mark_size (one_2i _ _) (by simp) ?_; intro w17 hO17; have HO17 := Lib.hid hO17.tail; clear hO17 HO16))
      have hcall := wakes2_c HO17.out
      with_reducible refine hcall.mono ?_
      clear hcall
      rintro en w18 ⟨rfl, hO18⟩
      have HO18 := Lib.hid hO18; clear hO18 HO17
      go_wp2
      go_ret
      exact HO18.out.yes rfl
set_option maxRecDepth 100000 in
theorem markForms_lifted (os : Os) (started : os.Started) (H : Type) (enc : TypeId × Value → H) :
    ReturnsInHanded {} Try.checked os 4 .any (Rows.markFormsSpec.pre6 enc Try.prog Try.f4 Rows.markFormsRow.domain false) (Rows.markFormsSpec.post enc Try.prog Try.f4 false true false false) := by
  refine returnsInHanded_of_change (C := Try.checked) (by kernel_rfl) started (by kernel_rfl) Try.func4
    (ChangeSpec.witness6 (enc := enc) (C := Try.checked) false ⟨#[], #[.int .i64 0], []⟩ 8 (by kernel_rfl) (by kernel_rfl) (by kernel_rfl) (by kernel_rfl)) ?_
  intro W base args ds gs before hval0 hW hcnd _
  have hval : ∀ (j : Nat) t v, Try.f4.params[j]? = some t → args[j]? = some v → Value.okWide Try.prog W .any base t v := hval0
  have hW' := hW
  obtain ⟨p, q, hA0, hV, rfl, hfz, hnd⟩ := hW
  have hA : DataW.TrodAll enc Try.prog W 0 (fun _ => true) true Try.f4.params.toList args.toList ds p := hA0
  rw [Try.params4] at hA hval
  obtain ⟨v0, vs0, d0, ds0, p0, q0, hargs, rfl, rfl, h0, r0⟩ := trodAll_cons hA
  obtain ⟨rfl, rfl, rfl⟩ := trodAll_nil r0
  obtain rfl : args = #[v0] := by cases args; simp_all
  obtain ⟨rfl, rfl⟩ := trodVars_none hV
  obtain ⟨a0, rfl, rfl, rfl, w0⟩ := open_int Try.underlying3 (hval 0 3 v0 rfl rfl) h0
  clear hA0 hval0
  refine (markForms_walk a0 w0 W).mono fun e W' ⟨he, bel⟩ => ?_
  subst he
  exact ⟨_, rfl, _, _, _, [], _, [], hW', trodAll_mk1 (shut_bool Try.underlying4 _), (trodAll_cons_mk (shut_int Try.underlying3 w0) trodAll_mk0), rfl, bel.frame _, fun h => by cases h⟩

/-- The statement. -/
theorem markForms_proved : Rows.MarkFormsSaid :=
  OpenClaim.holds_of_wide 4 Try.f4 rfl rfl rfl rfl rfl rfl rfl ⟨rfl, rfl, rfl, rfl, rfl⟩ rfl rfl rfl rfl rfl (by kernel_rfl) Try.func4 (by kernel_rfl)
    (of_decide_eq_true (by kernel_rfl)) (by unfold Func.isWrapper; first | (rw [if_pos (by decide +kernel)]; kernel_rfl) | (rw [if_neg (by decide +kernel)]; exact ⟨rfl, rfl⟩))
    (fun os started H enc _ => markForms_lifted os started H enc)
end Go.Proofs.Ytjdomggboikndaa

