/-
  Package frame: join.
-/
import Derived.Test.YtdndkapfaiplnaaFrame4
namespace Go.Proofs.Ytdndkapfaiplnaa
set_option linter.unusedVariables false
set_option linter.unusedSimpArgs false
set_option maxRecDepth 20000
open Go.RowKit

theorem openR_q (xs : List Int) : 0 ≤ (openR xs).q ∧ (openR xs).q ≤ 255 := by
  unfold openR
  by_cases h : isSeal xs = true
  · rw [if_pos h]
    have := okSeal_spec (isSeal_is h).2.1
    simp only
    omega
  · rw [if_neg h]; simp [noneOpened]
theorem openR_b (xs : List Int) : (openR xs).b.length ≤ 19 := by
  unfold openR
  by_cases h : isSeal xs = true
  · rw [if_pos h]
    have := okSeal_spec (isSeal_is h).2.1
    simp only
    omega
  · rw [if_neg h]; simp [noneOpened]
theorem openR_r02 (xs : List Int) : (openR xs).r = 0 ∨ (openR xs).r = 2 := by
  unfold openR
  by_cases h : isSeal xs = true
  · rw [if_pos h]; exact .inl rfl
  · rw [if_neg h]; exact .inr rfl
theorem openR_byt {xs : List Int} (h : Byt xs) : Byt (openR xs).b := by
  unfold openR
  split
  · exact byt_take (byt_drop h 8) _
  · intro x hx; simp [noneOpened] at hx
/-- Is part j there, behind the first? -/
def goodPart (s : DSt) (a : Int) (f : Opened) (j : Nat) : Prop := (pieceR s (a + j)).r = 0 ∧ cont f (pieceR s (a + j)) (pieceR s (a + j)).b.length j = true
def joinB (s : DSt) (a : Int) : Nat → List Int
  | 0 => []
  | n + 1 => joinB s a n ++ (pieceR s (a + n)).b
theorem joinB_len (s : DSt) (a : Int) (n : Nat) (h : ∀ j, j < n → s.refuse (a + j) = 0) : (joinB s a n).length ≤ 19 * n := by
  induction n with
  | zero => simp [joinB]
  | succ n ih =>
    have h1 := ih (fun j hj => h j (by omega))
    have h2 : pieceR s (a + n) = openR (s.la.getD (a + n).toNat []) := by unfold pieceR; rw [if_pos (h n (by omega))]
    have h3 := openR_b (s.la.getD (a + n).toNat [])
    rw [← h2] at h3
    simp only [joinB, List.length_append]
    omega
def GotJoin (w0 : World) (R : Blks) (d : Value) (s : DSt) (xs : List Int) (r : Int) (en : Ending) (w' : World) : Prop :=
  ∃ v Lv L, en = .returned (.tuple #[v, .int .i64 r]) ∧ IsBytes v xs Lv ∧ IsDisk d s L ∧ Own w0 w' (Lv ++ (L ++ R))
def JoinTo (w0 : World) (R : Blks) (d : Value) (s : DSt) (a : Int) (f : Opened) (v : Value) (i : Nat) (w' : World) : Prop :=
  ∃ Lw Ld, IsBytes v (joinB s a i) Lw ∧ IsDisk d s Ld ∧ (∀ j, j < i → goodPart s a f j) ∧ Own w0 w' (Lw ++ (Ld ++ R))
def JoinPost (w0 : World) (R : Blks) (d : Value) (s : DSt) (a : Int) (f : Opened) (Q : Nat) (en : Ending) (w' : World) : Prop :=
  ((∀ j, j < Q → goodPart s a f j) ∧ GotJoin w0 R d s (joinB s a Q) 0 en w') ∨ (¬ (∀ j, j < Q → goodPart s a f j) ∧ GotJoin w0 R d s [] 2 en w')
section
variable {w0 w : World} {R L : Blks} {d : Value} {s : DSt}
set_option maxHeartbeats 4000000 in
theorem join_c (hd : IsDisk d s L) (hO : Own w0 w (L ++ R)) (a : Int) (f : Opened) (B : Option Addr) (m c : Nat) (Q : Nat) (hQ : f.q = Q) (hQ2 : Q ≤ 255) (ha : 0 ≤ a) (ha2 : a + Q ≤ 1024) (hr : ∀ j, j < Q → s.refuse (a + j) = 0) (hB : ∀ j, j < Q → Byt (s.la.getD (a + j).toNat [])) :
    Calls Try.prog 63 #[d, .int .i64 a, .agg (pcs f (.slice B m c)).toArray] w (JoinPost w0 R d s a f Q) := by
  obtain ⟨fe, fs, fp, fq, fb, fr⟩ := f
  simp only at hQ
  subst hQ
  have hmk := make_cap (Q * 19) (by omega)
  rw [Int.natCast_mul] at hmk
  have HO := Lib.hid hO; have HD := Lib.hid hd; have HR := Lib.hid hr; have HB := Lib.hid hB
  clear hO hd hr hB
  simp only [pcs]
  go_enter Try.func63, Try.ntmps63
  go_wp2_with (first | (refine wl_box rfl _ _ rfl HO.out _ (by rfl) ?_; intro gb w1 hO1; have hc3 := hO1.cell (.head _) 3; simp only [List.getElem?_toArray, List.getElem?_cons_zero, List.getElem?_cons_succ] at hc3; have HO1 := Lib.hid (Own.rot (A := [_]) hO1); clear hO1 HO) | (refine wl_makeSlice rfl _ _ _ rfl HO1.out _ 0 (Q * 19) (by exact hmk _) ?_; intro g w2 hO2; have hc3' := hO2.cell (.tail _ (List.mem_append_right _ (.head _))) 3; simp only [List.getElem?_toArray, List.getElem?_cons_zero, List.getElem?_cons_succ] at hc3'; have HO2 := Lib.hid hO2; clear hO2 HO1 hmk))
  clear hc3 hc3'
  go_loopw [8, 18] (fun v t w' => ∃ i : Nat, i ≤ Q ∧ t = .int .i64 i ∧ Hid (JoinTo w0 ((gb, .cells #[.int .i64 fe, .int .i64 fs, .int .i64 fp, .int .i64 Q, .slice B m c] 99) :: R) d s a ⟨fe, fs, fp, Q, fb, fr⟩ v i w')) (fun _ t _ => Q - (intOf t).toNat)
  case atStart => exact ⟨0, Nat.zero_le _, rfl, [_], L, isBytes_cap g (Q * 19) (by omega), HD.out, fun j hj => absurd hj (by omega), HO2.out⟩
  case round =>
    obtain ⟨i, hi, rfl, HT⟩ := hrel
    clear HO2
    obtain ⟨Lw, Ld, hw, hdi, hg, hOi⟩ := HT.out
    clear HT
    by_cases hlt : i < Q
    · have hcall := fopen_c hdi hOi.rot (a + i) (HB.out i hlt)
      have hrf := HR.out i hlt
      have hpo : pieceR s (a + i) = openR (s.la.getD (a + i).toNat []) := by unfold pieceR; rw [if_pos hrf]
      have hoq := openR_q (s.la.getD (a + i).toNat [])
      have hob := openR_b (s.la.getD (a + i).toNat [])
      have hor := openR_r02 (s.la.getD (a + i).toNat [])
      rw [← hpo] at hoq hob hor
      have hjl := joinB_len s a i (fun j hj => HR.out j (by omega))
      have hgi : goodPart s a ⟨fe, fs, fp, Q, fb, fr⟩ i ↔ ((pieceR s (a + i)).r = 0 ∧ cont ⟨fe, fs, fp, Q, fb, fr⟩ (pieceR s (a + i)) (pieceR s (a + i)).b.length i = true) := Iff.rfl
      have hjs : joinB s a (i + 1) = joinB s a i ++ (pieceR s (a + i)).b := rfl
      have HC := Lib.hid hcall; have HG := Lib.hid hg; have HW := Lib.hid hw; have HJL := Lib.hid hjl; have HGI := Lib.hid hgi; have HJS := Lib.hid hjs
      clear hcall hrf hpo hg hdi hOi hw hjl hgi hjs
      have hai : a + i ≤ 1024 := by omega
      have hiI : (i : Int) < Q := by omega
      generalize hpe : pieceR s (a + i) = o at *
      clear hpe
      go_wp2_with fail
      with_reducible refine HC.out.mono ?_
      clear HC
      rintro en w3 ⟨v3, L3, Ld3, rfl, h3, hd3, hO3⟩
      obtain ⟨A3, c3, rfl⟩ := h3.val
      have HO3 := Lib.hid hO3; have H3 := Lib.hid h3; have HD3 := Lib.hid hd3
      clear hO3 h3 hd3
      obtain ⟨oe, os, op, oq, ob, or_⟩ := o
      simp only [pcs] at *
      rcases hor with rfl | rfl
      · go_wp2_with (first | (refine wl_alloc rfl _ rfl HO3.out _ (alloc_piece _) ?_; intro gp w4 hO4; have HO4 := Lib.hid hO4; clear hO4 HO3) | (refine wl_store rfl _ _ _ rfl HO4.out 0 gp 0 _ [Value.int .i64 oe, Value.int .i64 os, Value.int .i64 op, Value.int .i64 oq, Value.slice A3 ob.length c3] _ rfl (by rfl) (by rfl) piece_size (one_piece _ _ _ _ _ _ _) (by simp) ?_; intro w5 hO5; have HO5 := Lib.hid hO5; clear hO5 HO4) | (refine wl_load rfl _ _ rfl gp 0 [Value.int .i64 oe, Value.int .i64 os, Value.int .i64 op, Value.int .i64 oq, Value.slice A3 ob.length c3] [Value.int .i64 oe, Value.int .i64 os, Value.int .i64 op, Value.int .i64 oq, Value.slice A3 ob.length c3] 99 (HO5.out.heap (.head _)) (by rfl) _ Try.underlying99 rfl piece_size (by rfl) ?_) | (refine wl_load rfl _ _ rfl gb 0 [Value.int .i64 fe, Value.int .i64 fs, Value.int .i64 fp, Value.int .i64 Q, Value.slice B m c] [Value.int .i64 fe, Value.int .i64 fs, Value.int .i64 fp, Value.int .i64 Q, Value.slice B m c] 99 (HO5.out.heap (.tail _ (List.mem_append_right _ (List.mem_append_right _ (List.mem_append_right _ (.head _)))))) (by rfl) _ Try.underlying99 rfl piece_size (by rfl) ?_))
        have hcall := continues_c HO5.out ⟨oe, os, op, oq, ob, 0⟩ ⟨fe, fs, fp, Q, fb, fr⟩ A3 B ob.length m c3 c i (by simp only; omega)
        simp only [pcs] at hcall
        with_reducible refine hcall.mono ?_
        clear hcall
        rintro en w6 ⟨rfl, hO6⟩
        have hgi := HGI.out
        rw [true_and] at hgi
        have HO6 := Lib.hid hO6
        clear hO6 HO5 HGI
        cases hct : cont ⟨fe, fs, fp, Q, fb, fr⟩ ⟨oe, os, op, oq, ob, 0⟩ ob.length i
        · rw [hct] at hgi
          have HGI := Lib.hid hgi
          clear hgi hct
          go_wp2
          go_ret2
          refine .inr ⟨fun hall => ?_, _, [], Ld3, rfl, isBytes_nil, HD3.out, ?_⟩
          · have := HGI.out.1 (hall i hlt); cases this
          · exact HO6.out.sub ((((List.sublist_cons_self _ _).trans (List.sublist_append_right Lw _)).append_left Ld3).trans ((List.sublist_append_right L3 _).trans (List.sublist_cons_self _ _)))
        · rw [hct] at hgi
          have HGI := Lib.hid (hgi.2 rfl)
          have hc4 : w6.cell? ⟨gp, 4, none⟩ = some (.slice A3 ob.length c3) := HO6.out.cell (.head _) 4
          have hO7 : Own w0 w6 (Lw ++ (L3 ++ (Ld3 ++ ((gb, .cells #[.int .i64 fe, .int .i64 fs, .int .i64 fp, .int .i64 Q, .slice B m c] 99) :: R)))) := Own.rot3 HO6.out.tail
          have HO7 := Lib.hid hO7
          clear hgi hct hO7 HO6
          go_wp2_with (refine wl_appendB rfl _ _ rfl _ _ (by rfl) HW.out HO7.out (.slice A3 ob.length c3) ob (by rfl) (H3.out.bs HO7.out.right) (by have := HJL.out; omega) ?_; intro v8 w8 L8 h8 hO8; have H8 := Lib.hid h8; have HO8 := Lib.hid hO8; clear h8 hO8 HO7)
          go_roundw
          case rel => exact ⟨i + 1, by omega, by go_num, L8, Ld3, by rw [HJS.out]; exact H8.out, HD3.out, fun j hj => by
            rcases Nat.lt_succ_iff_lt_or_eq.1 hj with hj | rfl
            · exact HG.out j hj
            · exact HGI.out, Own.sub HO8.out ((List.Sublist.refl L8).append (List.sublist_append_right L3 _))⟩
          case measure => simp [intOf]; omega
      · go_wp2_with (first | (refine wl_alloc rfl _ rfl HO3.out _ (alloc_piece _) ?_; intro gp w4 hO4; have HO4 := Lib.hid hO4; clear hO4 HO3) | (refine wl_store rfl _ _ _ rfl HO4.out 0 gp 0 _ [Value.int .i64 oe, Value.int .i64 os, Value.int .i64 op, Value.int .i64 oq, Value.slice A3 ob.length c3] _ rfl (by rfl) (by rfl) piece_size (one_piece _ _ _ _ _ _ _) (by simp) ?_; intro w5 hO5; have HO5 := Lib.hid hO5; clear hO5 HO4))
        go_ret2
        refine .inr ⟨fun hall => ?_, _, [], Ld3, rfl, isBytes_nil, HD3.out, ?_⟩
        · have := (HGI.out.1 (hall i hlt)).1; cases this
        · exact HO5.out.sub ((((List.sublist_cons_self _ _).trans (List.sublist_append_right Lw _)).append_left Ld3).trans ((List.sublist_append_right L3 _).trans (List.sublist_cons_self _ _)))
    · obtain rfl : i = Q := by omega
      have HG := Lib.hid hg; have HW := Lib.hid hw; have HDI := Lib.hid hdi; have HOI := Lib.hid hOi
      clear hg hw hdi hOi
      go_wp2
      go_ret2
      exact .inl ⟨HG.out, _, Lw, Ld, rfl, HW.out, HDI.out, HOI.out.sub (((List.sublist_cons_self _ _).append_left Ld).append_left Lw)⟩
end
end Go.Proofs.Ytdndkapfaiplnaa
