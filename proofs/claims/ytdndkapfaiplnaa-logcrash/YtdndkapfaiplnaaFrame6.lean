/-
  Package frame: Read.
-/
import Derived.Test.YtdndkapfaiplnaaFrame5
namespace Go.Proofs.Ytdndkapfaiplnaa
set_option linter.unusedVariables false
set_option linter.unusedSimpArgs false
set_option maxRecDepth 20000
open Go.RowKit

def GotRec (w0 : World) (R : Blks) (d : Value) (s : DSt) (oe os : Int) (xs : List Int) (nx r : Int) (en : Ending) (w' : World) : Prop :=
  ∃ v Lv L, en = .returned (.tuple #[.agg #[.int .i64 oe, .int .i64 os], v, .int .i64 nx, .int .i64 r]) ∧ Rd w0 Lv v xs ∧ IsDisk d s L ∧ Own w0 w' (Lv ++ (L ++ R))
/-- A record is there, from sector a on, with f its first part. -/
def RecOk (s : DSt) (a e : Int) (f : Opened) : Prop := f.q ≤ e - a ∧ (∀ j, j < f.q.toNat → goodPart s a f j) ∧ 4 ≤ (joinB s a f.q.toNat).length ∧ num4 (joinB s a f.q.toNat) = crc ((joinB s a f.q.toNat).drop 4)
def ReadPost (w0 : World) (R : Blks) (d : Value) (s : DSt) (a e : Int) (f : Opened) (en : Ending) (w' : World) : Prop :=
  (RecOk s a e f ∧ GotRec w0 R d s f.e f.s ((joinB s a f.q.toNat).drop 4) (a + f.q) 0 en w') ∨ (¬ RecOk s a e f ∧ GotRec w0 R d s 0 0 [] 0 2 en w')
theorem Rd.bs_sub {w0 w : World} {L R : Blks} {v : Value} {xs : List Int} (h : Rd w0 L v xs) (hO : Own w0 w R) (hs : L.Sublist R) : Bs w v xs := h w [] (hO.sub hs)
theorem pieceR_byt {s : DSt} (hB : ∀ j : Nat, Byt (s.la.getD j [])) (i : Int) : Byt (pieceR s i).b := by
  unfold pieceR
  split
  · exact openR_byt (hB _)
  · intro x hx; simp at hx
theorem joinB_byt {s : DSt} (hB : ∀ j : Nat, Byt (s.la.getD j [])) (a : Int) : ∀ n, Byt (joinB s a n)
  | 0 => by intro x hx; simp [joinB] at hx
  | n + 1 => byt_append (joinB_byt hB a n) (pieceR_byt hB _)
section
variable {w0 w : World} {R L : Blks} {d : Value} {s : DSt}
set_option maxHeartbeats 4000000 in
theorem fread_range (hd : IsDisk d s L) (hO : Own w0 w (L ++ R)) (a e : Int) (h : a < 0 ∨ e ≤ a ∨ (s.n : Int) < e) : Calls Try.prog 60 #[d, .int .i64 a, .int .i64 e] w (GotRec w0 R d s 0 0 [] 0 9) := by
  have HO := Lib.hid hO; have HD := Lib.hid hd
  clear hO hd
  by_cases h1 : a < 0
  · clear h
    go_enter Try.func60, Try.ntmps60
    go_wp2_with (first | (refine wl_alloc rfl _ rfl HO.out _ (alloc_mark _) ?_; intro gm w1 hO1; have HO1 := Lib.hid hO1; clear hO1 HO) | (refine wl_build rfl _ _ rfl _ (by exact build_mark0 _) ?_) | (refine wl_store rfl _ _ _ rfl HO1.out 0 gm 0 _ [Value.int .i64 0, Value.int .i64 0] _ rfl (by rfl) (by rfl) mark_size (one_2i _ _) (by simp) ?_; intro w2 hO2; have HO2 := Lib.hid hO2; clear hO2 HO1))
    have hO2 : Own w0 w2 ((gm, .cells #[.int .i64 0, .int .i64 0] 44) :: (L ++ R)) := HO2.out
    have hc0 : w2.cell? ⟨gm, 0, none⟩ = some (.int .i64 0) := hO2.cell (.head _) 0
    have hc1 : w2.cell? ⟨gm, 1, none⟩ = some (.int .i64 0) := hO2.cell (.head _) 1
    exact bodyPost_ret (v := .tuple #[.agg #[.int .i64 0, .int .i64 0], .slice none 0 0, .int .i64 0, .int .i64 9]) (by simp [results, Try.results60, go_sem, hc0, hc1]) rfl ⟨_, [], L, rfl, rd_nil _ _, HD.out, hO2.tail⟩
  · by_cases h2 : e ≤ a
    · clear h
      go_enter Try.func60, Try.ntmps60
      go_wp2_with (first | (refine wl_alloc rfl _ rfl HO.out _ (alloc_mark _) ?_; intro gm w1 hO1; have HO1 := Lib.hid hO1; clear hO1 HO) | (refine wl_build rfl _ _ rfl _ (by exact build_mark0 _) ?_) | (refine wl_store rfl _ _ _ rfl HO1.out 0 gm 0 _ [Value.int .i64 0, Value.int .i64 0] _ rfl (by rfl) (by rfl) mark_size (one_2i _ _) (by simp) ?_; intro w2 hO2; have HO2 := Lib.hid hO2; clear hO2 HO1))
      have hO2 : Own w0 w2 ((gm, .cells #[.int .i64 0, .int .i64 0] 44) :: (L ++ R)) := HO2.out
      have hc0 : w2.cell? ⟨gm, 0, none⟩ = some (.int .i64 0) := hO2.cell (.head _) 0
      have hc1 : w2.cell? ⟨gm, 1, none⟩ = some (.int .i64 0) := hO2.cell (.head _) 1
      exact bodyPost_ret (v := .tuple #[.agg #[.int .i64 0, .int .i64 0], .slice none 0 0, .int .i64 0, .int .i64 9]) (by simp [results, Try.results60, go_sem, hc0, hc1]) rfl ⟨_, [], L, rfl, rd_nil _ _, HD.out, hO2.tail⟩
    · have h3 : (s.n : Int) < e := by omega
      clear h
      go_enter Try.func60, Try.ntmps60
      go_wp2_with (first | (refine wl_alloc rfl _ rfl HO.out _ (alloc_mark _) ?_; intro gm w1 hO1; have hl := Lib.hid (len_c HD.out (Own.rot (A := [_]) hO1)); have HO1 := Lib.hid hO1; clear hO1 HO) | (go_at_call 19; refine (hl.out).mono ?_; rintro e w' ⟨rfl, rfl⟩) | (refine wl_build rfl _ _ rfl _ (by exact build_mark0 _) ?_) | (refine wl_store rfl _ _ _ rfl HO1.out 0 gm 0 _ [Value.int .i64 0, Value.int .i64 0] _ rfl (by rfl) (by rfl) mark_size (one_2i _ _) (by simp) ?_; intro w2 hO2; have HO2 := Lib.hid hO2; clear hO2 HO1 hl))
      have hO2 : Own w0 w2 ((gm, .cells #[.int .i64 0, .int .i64 0] 44) :: (L ++ R)) := HO2.out
      have hc0 : w2.cell? ⟨gm, 0, none⟩ = some (.int .i64 0) := hO2.cell (.head _) 0
      have hc1 : w2.cell? ⟨gm, 1, none⟩ = some (.int .i64 0) := hO2.cell (.head _) 1
      exact bodyPost_ret (v := .tuple #[.agg #[.int .i64 0, .int .i64 0], .slice none 0 0, .int .i64 0, .int .i64 9]) (by simp [results, Try.results60, go_sem, hc0, hc1]) rfl ⟨_, [], L, rfl, rd_nil _ _, HD.out, hO2.tail⟩
set_option maxHeartbeats 4000000 in
theorem fread_none (hd : IsDisk d s L) (hO : Own w0 w (L ++ R)) (a e : Int) (h1 : 0 ≤ a) (h2 : a < e) (h3 : e ≤ s.n) (hB : Byt (s.la.getD a.toNat [])) (h : (pieceR s a).r ≠ 0) : Calls Try.prog 60 #[d, .int .i64 a, .int .i64 e] w (GotRec w0 R d s 0 0 [] 0 (pieceR s a).r) := by
  have HO := Lib.hid hO; have HD := Lib.hid hd; have HB := Lib.hid hB
  have hne : ((pieceR s a).r != 0) = true := by simpa using h
  clear hO hd hB h
  have k1 : ¬ a < 0 := by omega
  have k2 : ¬ e ≤ a := by omega
  have k3 : ¬ (s.n : Int) < e := by omega
  go_enter Try.func60, Try.ntmps60
  go_wp2_with (first | (refine wl_alloc rfl _ rfl HO.out _ (alloc_mark _) ?_; intro gm w1 hO1; have hl := Lib.hid (len_c HD.out (Own.rot (A := [_]) hO1)); have HO1 := Lib.hid (Own.rot (A := [_]) hO1); clear hO1 HO) | (go_at_call 19; refine (hl.out).mono ?_; rintro e w' ⟨rfl, rfl⟩))
  have hcall := fopen_c HD.out HO1.out a HB.out
  with_reducible refine hcall.mono ?_
  clear hcall HB hl HD
  rintro en w3 ⟨v3, L3, Ld3, rfl, h3', hd3, hO3⟩
  obtain ⟨A3, c3, rfl⟩ := h3'.val
  generalize pieceR s a = o at *
  obtain ⟨oe, os, op, oq, ob, or_⟩ := o
  have HO3 := Lib.hid (Own.rot (B := [_]) hO3.right); have HD3 := Lib.hid hd3
  clear hO3 h3' hd3 HO1
  simp only [pcs] at *
  go_wp2_with (first | (refine wl_alloc rfl _ rfl HO3.out _ (alloc_piece _) ?_; intro gp w4 hO4; have HO4 := Lib.hid hO4; clear hO4 HO3) | (refine wl_store rfl _ _ _ rfl HO4.out 0 gp 0 _ [Value.int .i64 oe, Value.int .i64 os, Value.int .i64 op, Value.int .i64 oq, Value.slice A3 ob.length c3] _ rfl (by rfl) (by rfl) piece_size (one_piece _ _ _ _ _ _ _) (by simp) ?_; intro w5 hO5; have HO5 := Lib.hid hO5; clear hO5 HO4) | (refine wl_build rfl _ _ rfl _ (by exact build_mark0 _) ?_) | (refine wl_store rfl _ _ _ rfl HO5.out 1 gm 0 _ [Value.int .i64 0, Value.int .i64 0] _ rfl (by rfl) (by rfl) mark_size (one_2i _ _) (by simp) ?_; intro w6 hO6; have HO6 := Lib.hid hO6; clear hO6 HO5))
  have hO2 : Own w0 w6 ((gm, .cells #[.int .i64 0, .int .i64 0] 44) :: (Ld3 ++ R)) := HO6.out.tail
  have hc0 : w6.cell? ⟨gm, 0, none⟩ = some (.int .i64 0) := hO2.cell (.head _) 0
  have hc1 : w6.cell? ⟨gm, 1, none⟩ = some (.int .i64 0) := hO2.cell (.head _) 1
  exact bodyPost_ret (v := .tuple #[.agg #[.int .i64 0, .int .i64 0], .slice none 0 0, .int .i64 0, .int .i64 or_]) (by simp [results, Try.results60, go_sem, hc0, hc1]) rfl ⟨_, [], Ld3, rfl, rd_nil _ _, HD3.out, hO2.tail⟩
set_option maxHeartbeats 4000000 in
theorem fread_go (hd : IsDisk d s L) (hO : Own w0 w (L ++ R)) (a e : Int) (h1 : 0 ≤ a) (h2 : a < e) (h3 : e ≤ s.n) (hdn : s.down = false) (hB : ∀ j : Nat, Byt (s.la.getD j [])) (f : Opened) (hf : pieceR s a = f) (h : f.r = 0) : Calls Try.prog 60 #[d, .int .i64 a, .int .i64 e] w (ReadPost w0 R d s a e f) := by
  have hn := hd.1.n
  have HO := Lib.hid hO; have HD := Lib.hid hd; have HB := Lib.hid hB; have HF := Lib.hid hf
  have hrf : ∀ j : Int, 0 ≤ j → j < s.n → s.refuse j = 0 := fun j k1 k2 => refuse0 hdn k1 k2
  have HRF := Lib.hid hrf
  have hpf : f = openR (s.la.getD a.toNat []) := by rw [← hf]; unfold pieceR; rw [if_pos (hrf a h1 (by omega))]
  have hq := openR_q (s.la.getD a.toNat [])
  have hbl := openR_b (s.la.getD a.toNat [])
  rw [← hpf] at hq hbl
  clear hO hd hB hf hrf hpf hdn
  have k1 : ¬ a < 0 := by omega
  have k2 : ¬ e ≤ a := by omega
  have k3 : ¬ (s.n : Int) < e := by omega
  go_enter Try.func60, Try.ntmps60
  go_wp2_with (first | (refine wl_alloc rfl _ rfl HO.out _ (alloc_mark _) ?_; intro gm w1 hO1; have hl := Lib.hid (len_c HD.out (Own.rot (A := [_]) hO1)); have HO1 := Lib.hid (Own.rot (A := [_]) hO1); clear hO1 HO) | (go_at_call 19; refine (hl.out).mono ?_; rintro e w' ⟨rfl, rfl⟩))
  have hcall := fopen_c HD.out HO1.out a (HB.out _)
  rw [HF.out] at hcall
  with_reducible refine hcall.mono ?_
  clear hcall hl HD
  rintro en w3 ⟨v3, L3, Ld3, rfl, h3', hd3, hO3⟩
  obtain ⟨A3, c3, rfl⟩ := h3'.val
  obtain ⟨oe, os, op, oq, ob, or_⟩ := f
  simp only [pcs] at *
  subst h
  obtain ⟨Q, rfl⟩ := Int.eq_ofNat_of_zero_le hq.1
  have HO3 := Lib.hid (Own.rot3 (C := [_]) hO3); have HD3 := Lib.hid hd3; have H3 := Lib.hid h3'
  clear hO3 h3' hd3 HO1
  by_cases hqe : e - a < Q
  · go_wp2_with (first | (refine wl_alloc rfl _ rfl HO3.out _ (alloc_piece _) ?_; intro gp w4 hO4; have HO4 := Lib.hid hO4; clear hO4 HO3) | (refine wl_store rfl _ _ _ rfl HO4.out 0 gp 0 _ [Value.int .i64 oe, Value.int .i64 os, Value.int .i64 op, Value.int .i64 Q, Value.slice A3 ob.length c3] _ rfl (by rfl) (by rfl) piece_size (one_piece _ _ _ _ _ _ _) (by simp) ?_; intro w5 hO5; have hc3 : w5.cell? ⟨gp, 3, none⟩ = some (.int .i64 Q) := hO5.cell (.head _) 3; have HO5 := Lib.hid hO5; clear hO5 HO4) | (refine wl_build rfl _ _ rfl _ (by exact build_mark0 _) ?_) | (refine wl_store rfl _ _ _ rfl HO5.out 1 gm 0 _ [Value.int .i64 0, Value.int .i64 0] _ rfl (by rfl) (by rfl) mark_size (one_2i _ _) (by simp) ?_; intro w6 hO6; have HO6 := Lib.hid hO6; clear hO6 HO5))
    have hO2 : Own w0 w6 ((gm, .cells #[.int .i64 0, .int .i64 0] 44) :: (L3 ++ (Ld3 ++ R))) := HO6.out.tail
    have hc0 : w6.cell? ⟨gm, 0, none⟩ = some (.int .i64 0) := hO2.cell (.head _) 0
    have hc1 : w6.cell? ⟨gm, 1, none⟩ = some (.int .i64 0) := hO2.cell (.head _) 1
    exact bodyPost_ret (v := .tuple #[.agg #[.int .i64 0, .int .i64 0], .slice none 0 0, .int .i64 0, .int .i64 2]) (by simp [results, Try.results60, go_sem, hc0, hc1]) rfl (.inr ⟨fun hh => absurd hh.1 (by simp only; omega), _, [], Ld3, rfl, rd_nil _ _, HD3.out, hO2.tail.right⟩)
  · go_wp2_with (first | (refine wl_alloc rfl _ rfl HO3.out _ (alloc_piece _) ?_; intro gp w4 hO4; have HO4 := Lib.hid hO4; clear hO4 HO3) | (refine wl_store rfl _ _ _ rfl HO4.out 0 gp 0 _ [Value.int .i64 oe, Value.int .i64 os, Value.int .i64 op, Value.int .i64 Q, Value.slice A3 ob.length c3] _ rfl (by rfl) (by rfl) piece_size (one_piece _ _ _ _ _ _ _) (by simp) ?_; intro w5 hO5; have hc3 : w5.cell? ⟨gp, 3, none⟩ = some (.int .i64 Q) := hO5.cell (.head _) 3; have HO5 := Lib.hid hO5; clear hO5 HO4) | (refine wl_load rfl _ _ rfl gp 0 [Value.int .i64 oe, Value.int .i64 os, Value.int .i64 op, Value.int .i64 Q, Value.slice A3 ob.length c3] [Value.int .i64 oe, Value.int .i64 os, Value.int .i64 op, Value.int .i64 Q, Value.slice A3 ob.length c3] 99 (HO5.out.heap (.head _)) (by rfl) _ Try.underlying99 rfl piece_size (by rfl) ?_))
    have hO6 : Own w0 w5 (Ld3 ++ ([(gp, .cells [Value.int .i64 oe, Value.int .i64 os, Value.int .i64 op, Value.int .i64 Q, Value.slice A3 ob.length c3].toArray 99), (gm, .cells [Value.int .i64 0, Value.int .i64 0].toArray 44)] ++ (L3 ++ R))) := Own.rot3 (A := [_, _]) HO5.out
    have hcall := join_c HD3.out hO6 a ⟨oe, os, op, Q, ob, 0⟩ A3 ob.length c3 Q rfl (by omega) h1 (by omega) (fun j hj => HRF.out _ (by omega) (by omega)) (fun j hj => HB.out _)
    simp only [pcs] at hcall
    with_reducible refine hcall.mono ?_
    clear hcall hO6 HO5 hc3 HD3
    rintro en w7 (⟨hall, v7, L7, Ld7, rfl, h7, hd7, hO7⟩ | ⟨hall, v7, L7, Ld7, rfl, h7, hd7, hO7⟩)
    · have hO8 : Own w0 w7 ([(gp, .cells [Value.int .i64 oe, Value.int .i64 os, Value.int .i64 op, Value.int .i64 Q, Value.slice A3 ob.length c3].toArray 99), (gm, .cells [Value.int .i64 0, Value.int .i64 0].toArray 44)] ++ (L7 ++ (Ld7 ++ (L3 ++ R)))) := Own.rot3 hO7
      have hjl := joinB_len s a Q (fun j hj => HRF.out _ (by omega) (by omega))
      have hjb : Byt (joinB s a Q) := joinB_byt HB.out a Q
      have hrec : RecOk s a e ⟨oe, os, op, Q, ob, 0⟩ ↔ (4 ≤ (joinB s a Q).length ∧ num4 (joinB s a Q) = crc ((joinB s a Q).drop 4)) := by
        unfold RecOk
        simp only [Int.toNat_natCast]
        exact ⟨fun h => h.2.2, fun h => ⟨by omega, hall, h⟩⟩
      have HREC := Lib.hid hrec; have HO8 := Lib.hid hO8; have H7 := Lib.hid h7; have HD7 := Lib.hid hd7; have HJB := Lib.hid hjb
      clear hrec hO8 hd7 hO7 hjb hall H3
      generalize hxs : joinB s a Q = xs at *
      have HXS := Lib.hid hxs
      clear hxs
      obtain ⟨A7, c7, rfl⟩ := h7.val
      by_cases hx : xs.length < 4
      · have hx1 : (xs.length : Int) < 4 := by omega
        clear h7
        go_wp2_with fail
        refine wp_region_lin (fun w' => True) 11 [(0, true), (1, true), (2, true), (3, true), (4, true), (5, true), (6, true), (7, true), (8, true), (9, true), (10, true)] (by kernel_rfl) (by kernel_rfl) (fun _ _ d _ _ h => by cases d <;> exact h) trivial ?_
        simp only [List.map_cons, List.map_nil, pick_zero, pick_succ, List.drop_succ_cons, List.drop_zero]
        iterate 2 (refine lin_q ?_ rfl ?_ ?_; rotate_left 1; (focus (rintro w' -; go_simp; first | done | with_reducible rfl | (trace_state; fail))); simp only [Act.put, List.setIfInBounds_toArray, List.set_cons_zero, List.set_cons_succ])
        refine lin_q (.bool true) rfl (fun w' _ => by go_simp; try simp [hx1]) ?_
        simp only [Act.put, List.setIfInBounds_toArray, List.set_cons_zero, List.set_cons_succ]
        iterate 1 (refine lin_q ?_ rfl ?_ ?_; rotate_left 1; (focus (rintro w' -; go_simp; first | done | with_reducible rfl | (trace_state; fail))); simp only [Act.put, List.setIfInBounds_toArray, List.set_cons_zero, List.set_cons_succ])
        iterate 6 (refine lin_no (by rfl) ?_; simp only [Act.put, List.setIfInBounds_toArray, List.set_cons_zero, List.set_cons_succ])
        iterate 1 (refine lin_q ?_ rfl ?_ ?_; rotate_left 1; (focus (rintro w' -; go_simp; first | done | with_reducible rfl | (trace_state; fail))); simp only [Act.put, List.setIfInBounds_toArray, List.set_cons_zero, List.set_cons_succ])
        refine lin_nil ?_
        have HO9 := Lib.hid HO8.out.drew; clear HO8
        generalize w7.drew = w8 at HO9
        go_wp2_with (first | (refine wl_build rfl _ _ rfl _ (by exact build_mark0 _) ?_) | (refine wl_store rfl _ _ _ rfl HO9.out 1 gm 0 _ [Value.int .i64 0, Value.int .i64 0] _ rfl (by rfl) (by rfl) mark_size (one_2i _ _) (by simp) ?_; intro w9 hO9; have HO10 := Lib.hid hO9; clear hO9 HO9))
        have hO2 : Own w0 w9 ((gm, .cells #[.int .i64 0, .int .i64 0] 44) :: (L7 ++ (Ld7 ++ (L3 ++ R)))) := HO10.out.tail
        have hc0 : w9.cell? ⟨gm, 0, none⟩ = some (.int .i64 0) := hO2.cell (.head _) 0
        have hc1 : w9.cell? ⟨gm, 1, none⟩ = some (.int .i64 0) := hO2.cell (.head _) 1
        exact bodyPost_ret (v := .tuple #[.agg #[.int .i64 0, .int .i64 0], .slice none 0 0, .int .i64 0, .int .i64 2]) (by simp [results, Try.results60, go_sem, hc0, hc1]) rfl (.inr ⟨fun hh => absurd (HREC.out.1 hh).1 (by omega), _, [], Ld7, rfl, rd_nil _ _, HD7.out, hO2.tail.right.sub ((List.sublist_append_right L3 R).append_left Ld7)⟩)
      · have hx1 : ¬ (xs.length : Int) < 4 := by omega
        obtain ⟨g7, cap, sp, hv7, rfl, hcap⟩ := h7.blkn xs.length rfl (by omega)
        cases hv7
        clear h7
        obtain ⟨A4, hA4⟩ : ∃ A4, (if c7 = 4 then some (⟨g7, 0, none⟩ : Addr) else some ⟨g7, 4, none⟩) = A4 := ⟨_, rfl⟩
        have hrd4 : Rd w0 [(g7, .cells (List.toArray (bv xs ++ sp)) 5)] (.slice A4 (xs.length - 4) (c7 - 4)) (xs.drop 4) := by
          rw [← hA4]
          by_cases h4 : c7 = 4
          · rw [if_pos h4]
            have hz : xs.drop 4 = [] := List.drop_of_length_le (by omega)
            rw [hz, show xs.length - 4 = 0 by omega]
            exact fun _ _ _ => ⟨_, _, _, rfl, rfl, Nat.zero_le _, fun h => absurd h (by omega)⟩
          · rw [if_neg h4]
            have := rd_blk (w0 := w0) (R := [(g7, Obj.cells (List.toArray (bv xs ++ sp)) 5)]) (.head _) 4 (xs.length - 4) (c7 - 4) (by omega) (by omega)
            rwa [List.take_of_length_le (by rw [List.length_drop]; omega)] at this
        have HRD4 := Lib.hid hrd4
        clear hrd4
        have hl4 : (4 : Int) ≤ xs.length := by omega
        have hBs : Byt (xs.drop 4) := byt_drop HJB.out 4
        have HBS := Lib.hid hBs
        clear hBs
        obtain ⟨C, hC⟩ : ∃ C, crc (xs.drop 4) = C := ⟨_, rfl⟩
        obtain ⟨M, hM⟩ : ∃ M, num4 xs = M := ⟨_, rfl⟩
        have HC := Lib.hid hC; have HM := Lib.hid hM
        clear hC hM
        go_wp2_with fail
        refine wp_region_lin (fun w' => True) 8 [(0, true), (1, true), (2, true), (3, true), (4, true), (6, true), (7, true), (5, false)] (by kernel_rfl) (by kernel_rfl) (fun _ _ d _ _ h => by cases d <;> exact h) trivial ?_
        simp only [List.map_cons, List.map_nil, pick_zero, pick_succ, List.drop_succ_cons, List.drop_zero]
        iterate 2 (refine lin_q ?_ rfl ?_ ?_; rotate_left 1; (focus (rintro w' -; go_simp; first | done | with_reducible rfl | (trace_state; fail))); simp only [Act.put, List.setIfInBounds_toArray, List.set_cons_zero, List.set_cons_succ])
        refine lin_q (.bool false) rfl (fun w' _ => by go_simp; try simp [hx1]) ?_
        simp only [Act.put, List.setIfInBounds_toArray, List.set_cons_zero, List.set_cons_succ]
        iterate 1 (refine lin_q ?_ rfl ?_ ?_; rotate_left 1; (focus (rintro w' -; go_simp; first | done | with_reducible rfl | (trace_state; fail))); simp only [Act.put, List.setIfInBounds_toArray, List.set_cons_zero, List.set_cons_succ])
        iterate 3 (refine lin_g ?_ (by rfl) ?_ ?_; rotate_left 1; (focus (rintro w' -; go_simp; first | done | with_reducible rfl | (trace_state; fail))); simp only [Act.put, List.setIfInBounds_toArray, List.set_cons_zero, List.set_cons_succ])
        refine lin_act ?_
        refine wl_g (by rfl) ?_
        have hcall := sumAt_c (w := w7.drew) ⟨g7, 0, none⟩ xs.length c7 xs (H7.out.bs_sub HO8.out.drew (sub_there sub_here)) HJB.out (by omega)
        rw [HM.out] at hcall
        refine wl_call rfl _ _ _ (by go_simp) hcall ?_
        clear hcall
        rintro en w8 ⟨rfl, m8, rfl⟩
        refine ⟨_, rfl, LinPost.mk trivial ?_⟩
        simp only [Act.put, List.setIfInBounds_toArray, List.set_cons_zero, List.set_cons_succ]
        refine lin_nil ?_
        have HO9 := Lib.hid (HO8.out.drew.drewN m8); clear HO8
        generalize w7.drew.drewN m8 = w8 at HO9
        refine wl_g (by rfl) ?_
        have hcall := sum_c (w := w8) _ _ (HRD4.out.bs_sub HO9.out (sub_there sub_here)) HBS.out (by simp; omega)
        rw [HC.out] at hcall
        refine wl_call rfl _ _ _ (by go_simp) hcall ?_
        clear hcall
        rintro en w9 ⟨rfl, rfl⟩
        refine ⟨_, rfl, ?_⟩
        simp only [Act.put, List.setIfInBounds_toArray, List.set_cons_zero, List.set_cons_succ]
        by_cases hs : M = C
        · have hs1 : (M != (C : Int)) = false := by simpa using hs
          have HS := Lib.hid hs
          clear hs
          go_wp2
          have hwQ : IntKind.i64.wrap (a + Q) = a + Q := IntWalk.i64_in _ (by omega)
          refine wp_region_lin (fun w' => w'.heap[gp]? = some (.cells [Value.int .i64 oe, Value.int .i64 os, Value.int .i64 op, Value.int .i64 Q, Value.slice A3 ob.length c3].toArray 99)) 10 [(0, true), (1, true), (2, true), (3, true), (4, true), (5, true), (6, true), (7, true), (8, false), (9, true)] (by kernel_rfl) (by kernel_rfl) (fun _ _ d _ _ h => by cases d <;> exact h) (HO9.out.heap (.head _)) ?_
          simp only [List.map_cons, List.map_nil, pick_zero, pick_succ, List.drop_succ_cons, List.drop_zero]
          iterate 1 (refine lin_q ?_ rfl ?_ ?_; rotate_left 1; (focus (rintro w' -; go_simp; first | done | with_reducible rfl | (trace_state; fail))); simp only [Act.put, List.setIfInBounds_toArray, List.set_cons_zero, List.set_cons_succ])
          refine lin_load rfl _ _ rfl gp 0 [Value.int .i64 oe, Value.int .i64 os, Value.int .i64 op, Value.int .i64 Q, Value.slice A3 ob.length c3] [.int .i64 oe, .int .i64 os] 99 (by rfl) _ Try.underlying44 rfl mark_size (by rfl) (fun w' ew => ew) ?_
          simp only [Act.put, List.setIfInBounds_toArray, List.set_cons_zero, List.set_cons_succ]
          iterate 4 (refine lin_q ?_ rfl ?_ ?_; rotate_left 1; (focus (rintro w' -; go_simp; first | done | with_reducible rfl | (trace_state; fail))); simp only [Act.put, List.setIfInBounds_toArray, List.set_cons_zero, List.set_cons_succ])
          refine lin_q (.int .i64 Q) rfl (fun w' hS => ?_) ?_
          · have hcc : w'.cell? ⟨gp, 3, none⟩ = some (.int .i64 Q) := by rw [cell_of_row w' gp 3 _ _ (0, 0) hS]; rfl
            go_simp
          simp only [Act.put, List.setIfInBounds_toArray, List.set_cons_zero, List.set_cons_succ]
          iterate 1 (refine lin_q ?_ rfl ?_ ?_; rotate_left 1; (focus (rintro w' -; go_simp; first | done | with_reducible rfl | (trace_state; fail))); simp only [Act.put, List.setIfInBounds_toArray, List.set_cons_zero, List.set_cons_succ])
          refine lin_act ?_
          refine wl_store rfl _ _ _ rfl HO9.out.drew 1 gm 0 _ [Value.int .i64 oe, Value.int .i64 os] _ rfl (by rfl) (by rfl) mark_size (one_2i _ _) (by simp) ?_
          intro w9 hO9
          refine LinPost.mk (hO9.heap (.head _)) ?_
          simp only [Act.put, List.setIfInBounds_toArray, List.set_cons_zero, List.set_cons_succ]
          iterate 1 (refine lin_q ?_ rfl ?_ ?_; rotate_left 1; (focus (rintro w' -; go_simp; first | done | with_reducible rfl | (trace_state; fail))); simp only [Act.put, List.setIfInBounds_toArray, List.set_cons_zero, List.set_cons_succ])
          refine lin_nil ?_
          have hO2 : Own w0 w9 ((gm, .cells #[.int .i64 oe, .int .i64 os] 44) :: ([_] ++ (Ld7 ++ (L3 ++ R)))) := hO9.tail
          have hc0 : w9.cell? ⟨gm, 0, none⟩ = some (.int .i64 oe) := hO2.cell (.head _) 0
          have hc1 : w9.cell? ⟨gm, 1, none⟩ = some (.int .i64 os) := hO2.cell (.head _) 1
          have HO2 := Lib.hid hO2
          clear hO9 hO2 HO9 hA4 hwQ
          go_wp2
          exact bodyPost_ret (v := .tuple #[.agg #[.int .i64 oe, .int .i64 os], .slice A4 (xs.length - 4) (c7 - 4), .int .i64 (a + Q), .int .i64 0]) (by simp [results, Try.results60, go_sem, hc0, hc1]) rfl (.inl ⟨HREC.out.2 ⟨by omega, by rw [HC.out, HM.out]; exact HS.out⟩, _, [_], Ld7, rfl, by simp only [Int.toNat_natCast]; rw [HXS.out]; exact HRD4.out, HD7.out, HO2.out.tail.sub (((List.sublist_append_right L3 R).append_left Ld7).append_left _)⟩)
        · have hs1 : (M != (C : Int)) = true := by simpa using hs
          have HS := Lib.hid hs
          clear hs
          go_wp2_with (first | (refine wl_build rfl _ _ rfl _ (by exact build_mark0 _) ?_) | (refine wl_store rfl _ _ _ rfl HO9.out 1 gm 0 _ [Value.int .i64 0, Value.int .i64 0] _ rfl (by rfl) (by rfl) mark_size (one_2i _ _) (by simp) ?_; intro w9 hO9; have HO10 := Lib.hid hO9; clear hO9 HO9))
          have hO2 : Own w0 w9 ((gm, .cells #[.int .i64 0, .int .i64 0] 44) :: ([_] ++ (Ld7 ++ (L3 ++ R)))) := HO10.out.tail
          have hc0 : w9.cell? ⟨gm, 0, none⟩ = some (.int .i64 0) := hO2.cell (.head _) 0
          have hc1 : w9.cell? ⟨gm, 1, none⟩ = some (.int .i64 0) := hO2.cell (.head _) 1
          exact bodyPost_ret (v := .tuple #[.agg #[.int .i64 0, .int .i64 0], .slice none 0 0, .int .i64 0, .int .i64 2]) (by simp [results, Try.results60, go_sem, hc0, hc1]) rfl (.inr ⟨fun hh => HS.out (by have := (HREC.out.1 hh).2; rwa [HC.out, HM.out] at this), _, [], Ld7, rfl, rd_nil _ _, HD7.out, hO2.tail.right.sub ((List.sublist_append_right L3 R).append_left Ld7)⟩)
    · have hO8 : Own w0 w7 ([(gp, .cells [Value.int .i64 oe, Value.int .i64 os, Value.int .i64 op, Value.int .i64 Q, Value.slice A3 ob.length c3].toArray 99), (gm, .cells [Value.int .i64 0, Value.int .i64 0].toArray 44)] ++ (L7 ++ (Ld7 ++ (L3 ++ R)))) := Own.rot3 hO7
      obtain ⟨A7, c7, rfl⟩ := h7.val
      have HO8 := Lib.hid hO8; have HD7 := Lib.hid hd7; have HALL := Lib.hid hall
      clear hO8 hd7 hO7 h7 hall
      go_wp2_with (first | (refine wl_build rfl _ _ rfl _ (by exact build_mark0 _) ?_) | (refine wl_store rfl _ _ _ rfl HO8.out 1 gm 0 _ [Value.int .i64 0, Value.int .i64 0] _ rfl (by rfl) (by rfl) mark_size (one_2i _ _) (by simp) ?_; intro w9 hO9; have HO9 := Lib.hid hO9; clear hO9 HO8))
      have hO2 : Own w0 w9 ((gm, .cells #[.int .i64 0, .int .i64 0] 44) :: (L7 ++ (Ld7 ++ (L3 ++ R)))) := HO9.out.tail
      have hc0 : w9.cell? ⟨gm, 0, none⟩ = some (.int .i64 0) := hO2.cell (.head _) 0
      have hc1 : w9.cell? ⟨gm, 1, none⟩ = some (.int .i64 0) := hO2.cell (.head _) 1
      exact bodyPost_ret (v := .tuple #[.agg #[.int .i64 0, .int .i64 0], .slice none 0 0, .int .i64 0, .int .i64 2]) (by simp [results, Try.results60, go_sem, hc0, hc1]) rfl (.inr ⟨fun hh => HALL.out (by have := hh.2.1; simpa using this), _, [], Ld7, rfl, rd_nil _ _, HD7.out, hO2.tail.right.sub ((List.sublist_append_right L3 R).append_left Ld7)⟩)
end
end Go.Proofs.Ytdndkapfaiplnaa
