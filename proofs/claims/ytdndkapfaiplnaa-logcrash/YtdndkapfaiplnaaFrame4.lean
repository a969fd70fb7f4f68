/-
  Package frame: open, continues.
-/
import Derived.Test.YtdndkapfaiplnaaFrame2
import Derived.Test.YtdndkapfaiplnaaDiskU
namespace Go.Proofs.Ytdndkapfaiplnaa
set_option linter.unusedVariables false
set_option linter.unusedSimpArgs false
set_option maxRecDepth 20000
open Go.RowKit

/-- What one sector tells. -/
def pieceR (s : DSt) (i : Int) : Opened := if s.refuse i = 0 then openR (s.la.getD i.toNat []) else ⟨0, 0, 0, 0, [], s.refuse i⟩
def pcs (o : Opened) (v : Value) : List Value := [.int .i64 o.e, .int .i64 o.s, .int .i64 o.p, .int .i64 o.q, v]
def GotPiece (w0 : World) (R : Blks) (d : Value) (s : DSt) (o : Opened) (en : Ending) (w' : World) : Prop :=
  ∃ v Lv L, en = .returned (.tuple #[.agg (pcs o v).toArray, .int .i64 o.r]) ∧ IsBytes v o.b Lv ∧ IsDisk d s L ∧ Own w0 w' (Lv ++ (L ++ R))
theorem alloc_piece (w : World) : (Instr.alloc 99 true (.tuple #[])).run Try.prog w = .ok (.pointer (some ⟨w.heap.size, 0, none⟩)) (w.alloc (.cells [Value.int .i64 0, Value.int .i64 0, Value.int .i64 0, Value.int .i64 0, Value.slice none 0 0].toArray 99)) := by kernel_rfl
theorem piece_size : (Try.prog.info? 99).map (·.size) = some 5 := by kernel_rfl
theorem build_piece0 (w : World) : (Instr.build 99 #[]).run Try.prog w = .ok (.agg [Value.int .i64 0, Value.int .i64 0, Value.int .i64 0, Value.int .i64 0, Value.slice none 0 0].toArray) w := by kernel_rfl
theorem build_piece (a b c d : Int) (A : Option Addr) (n k : Nat) (w : World) : (Instr.build 99 #[(0, .agg #[.int .i64 a, .int .i64 b]), (1, .int .i64 c), (2, .int .i64 d), (3, .slice A n k)]).run Try.prog w = .ok (.agg [Value.int .i64 a, Value.int .i64 b, Value.int .i64 c, Value.int .i64 d, Value.slice A n k].toArray) w := by kernel_rfl
theorem one_piece (a b c d : Int) (A : Option Addr) (n k : Nat) : ∀ v ∈ [Value.int .i64 a, Value.int .i64 b, Value.int .i64 c, Value.int .i64 d, Value.slice A n k], v.oneCell' = true := by simp; exact ⟨rfl, rfl, rfl, rfl, rfl⟩
section
variable {w0 w : World} {R L : Blks} {d : Value} {s : DSt}
set_option maxHeartbeats 2000000 in
theorem fopen_no (hd : IsDisk d s L) (hO : Own w0 w (L ++ R)) (i : Int) (h : s.refuse i ≠ 0) : Calls Try.prog 62 #[d, .int .i64 i] w (GotPiece w0 R d s (pieceR s i)) := by
  have hp : pieceR s i = ⟨0, 0, 0, 0, [], s.refuse i⟩ := by unfold pieceR; rw [if_neg h]
  rw [hp]
  have hne : (s.refuse i != 0) = true := by simpa using h
  have HH := Lib.hid h
  have HO := Lib.hid hO; have HD := Lib.hid hd
  clear hO hd hp h
  go_enter Try.func62, Try.ntmps62
  go_wp2_with (refine wl_alloc rfl _ rfl HO.out _ (alloc_piece _) ?_; intro g w1 hO1; have HO1 := Lib.hid (Own.rot (A := [_]) hO1); clear hO1 HO)
  have hcall := read_no HD.out HO1.out i (s.refuse i) rfl HH.out
  with_reducible refine hcall.mono ?_
  clear hcall HH HD
  rintro en w2 ⟨v2, L2, L3, rfl, hd3, hO2, -⟩
  have HO2 := Lib.hid (Own.rot (B := [_]) hO2.right); have HD := Lib.hid hd3
  clear hO2 hd3 HO1
  generalize s.refuse i = r at *
  go_wp2_with (first | (refine wl_build rfl _ _ rfl _ (by exact build_piece0 _) ?_) | (refine wl_store rfl _ _ _ rfl HO2.out 0 g 0 _ [Value.int .i64 0, Value.int .i64 0, Value.int .i64 0, Value.int .i64 0, Value.slice none 0 0] _ rfl (by rfl) (by rfl) piece_size (one_piece _ _ _ _ _ _ _) (by simp) ?_; intro w3 hO3; have HO3 := Lib.hid hO3; clear hO3 HO2))
  have hO3 : Own w0 w3 ((g, .cells #[.int .i64 0, .int .i64 0, .int .i64 0, .int .i64 0, .slice none 0 0] 99) :: (L3 ++ R)) := HO3.out
  have hc0 : w3.cell? ⟨g, 0, none⟩ = some (.int .i64 0) := hO3.cell (.head _) 0
  have hc1 : w3.cell? ⟨g, 1, none⟩ = some (.int .i64 0) := hO3.cell (.head _) 1
  have hc2 : w3.cell? ⟨g, 2, none⟩ = some (.int .i64 0) := hO3.cell (.head _) 2
  have hc3 : w3.cell? ⟨g, 3, none⟩ = some (.int .i64 0) := hO3.cell (.head _) 3
  have hc4 : w3.cell? ⟨g, 4, none⟩ = some (.slice none 0 0) := hO3.cell (.head _) 4
  exact bodyPost_ret (v := .tuple #[.agg #[.int .i64 0, .int .i64 0, .int .i64 0, .int .i64 0, .slice none 0 0], .int .i64 r]) (by simp [results, Try.results62, go_sem, hc0, hc1, hc2, hc3, hc4]) rfl ⟨_, [], L3, rfl, isBytes_nil, HD.out, hO3.tail⟩
set_option maxHeartbeats 2000000 in
theorem fopen_go (hd : IsDisk d s L) (hO : Own w0 w (L ++ R)) (i : Int) (h : s.refuse i = 0) (hB : Byt (s.la.getD i.toNat [])) : Calls Try.prog 62 #[d, .int .i64 i] w (GotPiece w0 R d s (pieceR s i)) := by
  have hp : pieceR s i = openR (s.la.getD i.toNat []) := by unfold pieceR; rw [if_pos h]
  rw [hp]
  have HH := Lib.hid h
  have HO := Lib.hid hO; have HD := Lib.hid hd; have HB := Lib.hid hB
  clear hO hd hp h hB
  go_enter Try.func62, Try.ntmps62
  go_wp2_with (refine wl_alloc rfl _ rfl HO.out _ (alloc_piece _) ?_; intro g w1 hO1; have HO1 := Lib.hid (Own.rot (A := [_]) hO1); clear hO1 HO)
  have hcall := read_ok HD.out HO1.out i _ HH.out rfl
  with_reducible refine hcall.mono ?_
  clear hcall HH HD
  rintro en w2 ⟨v2, L2, L3, rfl, hd3, hO2, h2⟩
  have HO2 := Lib.hid hO2; have HD := Lib.hid hd3; have H2 := Lib.hid h2
  clear hO2 hd3 HO1 h2
  generalize s.la.getD i.toNat [] = ys at *
  go_wp2_with fail
  have hcall := open_c HO2.out v2 ys (H2.out.rd sub_here) HB.out
  with_reducible refine hcall.mono ?_
  clear hcall
  rintro en w3 ⟨v4, L4, rfl, h4, hO3⟩
  obtain ⟨A4, c4, rfl⟩ := h4.val
  generalize openR ys = o at *
  obtain ⟨oe, os, op, oq, ob, or_⟩ := o
  simp only at h4
  have hO4 : Own w0 w3 ([(g, Obj.cells [Value.int .i64 0, Value.int .i64 0, Value.int .i64 0, Value.int .i64 0, Value.slice none 0 0].toArray 99)] ++ (L4 ++ (L3 ++ R))) := by
    have h5 : Own w0 w3 (L4 ++ (L3 ++ ([(g, Obj.cells [Value.int .i64 0, Value.int .i64 0, Value.int .i64 0, Value.int .i64 0, Value.slice none 0 0].toArray 99)] ++ R))) := hO3.sub (by simp)
    exact h5.rot3
  have HO4 := Lib.hid hO4; have H4 := Lib.hid h4
  clear hO4 h4 hO3 HO2 H2 HB
  go_wp2_with (first | (refine wl_alloc rfl _ rfl HO4.out _ (alloc_mark _) ?_; intro gm w5 hO5; have HO5 := Lib.hid hO5; clear hO5 HO4) | (refine wl_store rfl _ _ _ rfl HO5.out 0 gm 0 _ [Value.int .i64 oe, Value.int .i64 os] _ rfl (by rfl) (by rfl) mark_size (one_2i _ _) (by simp) ?_; intro w6 hO6; have HO6 := Lib.hid hO6; clear hO6 HO5) | (refine wl_load rfl _ _ rfl gm 0 [.int .i64 oe, .int .i64 os] [.int .i64 oe, .int .i64 os] 44 (HO6.out.heap (.head _)) (by rfl) _ Try.underlying44 rfl mark_size (by rfl) ?_) | (refine wl_build rfl _ _ rfl _ (by exact build_piece _ _ _ _ _ _ _ _) ?_) | (refine wl_store rfl _ _ _ rfl HO6.out 1 g 0 _ [Value.int .i64 oe, Value.int .i64 os, Value.int .i64 op, Value.int .i64 oq, Value.slice A4 ob.length c4] _ rfl (by rfl) (by rfl) piece_size (one_piece _ _ _ _ _ _ _) (by simp) ?_; intro w7 hO7; have HO7 := Lib.hid hO7; clear hO7 HO6))
  have hO7 : Own w0 w7 ((gm, .cells #[.int .i64 oe, .int .i64 os] 44) :: (g, .cells #[.int .i64 oe, .int .i64 os, .int .i64 op, .int .i64 oq, .slice A4 ob.length c4] 99) :: (L4 ++ (L3 ++ R))) := HO7.out
  have hc0 : w7.cell? ⟨g, 0, none⟩ = some (.int .i64 oe) := hO7.cell (.tail _ (.head _)) 0
  have hc1 : w7.cell? ⟨g, 1, none⟩ = some (.int .i64 os) := hO7.cell (.tail _ (.head _)) 1
  have hc2 : w7.cell? ⟨g, 2, none⟩ = some (.int .i64 op) := hO7.cell (.tail _ (.head _)) 2
  have hc3 : w7.cell? ⟨g, 3, none⟩ = some (.int .i64 oq) := hO7.cell (.tail _ (.head _)) 3
  have hc4 : w7.cell? ⟨g, 4, none⟩ = some (.slice A4 ob.length c4) := hO7.cell (.tail _ (.head _)) 4
  exact bodyPost_ret (v := .tuple #[.agg #[.int .i64 oe, .int .i64 os, .int .i64 op, .int .i64 oq, .slice A4 ob.length c4], .int .i64 or_]) (by simp [results, Try.results62, go_sem, hc0, hc1, hc2, hc3, hc4]) rfl ⟨_, L4, L3, rfl, H4.out, HD.out, hO7.tail.tail⟩
theorem fopen_c (hd : IsDisk d s L) (hO : Own w0 w (L ++ R)) (i : Int) (hB : Byt (s.la.getD i.toNat [])) : Calls Try.prog 62 #[d, .int .i64 i] w (GotPiece w0 R d s (pieceR s i)) := by
  by_cases h : s.refuse i = 0
  · exact fopen_go hd hO i h hB
  · exact fopen_no hd hO i h
/-- Can it be that part of the record? -/
def cont (f o : Opened) (n : Nat) (k : Int) : Bool := decide ((o.e = f.e ∧ o.s = f.s) ∧ o.q = f.q ∧ o.p = k ∧ (n = 19 ∨ k = o.q - 1))
set_option maxHeartbeats 2000000 in
theorem continues_c (hO : Own w0 w R) (o f : Opened) (A B : Option Addr) (n m c c' : Nat) (k : Int) (hq : -1000 ≤ o.q ∧ o.q ≤ 1000) : Calls Try.prog 67 #[.agg (pcs o (.slice A n c)).toArray, .agg (pcs f (.slice B m c')).toArray, .int .i64 k] w (Gave w0 R (.bool (cont f o n k))) := by
  obtain ⟨b, hb⟩ : ∃ b, cont f o n k = b := ⟨_, rfl⟩
  rw [hb]
  obtain ⟨oe, os, op, oq, ob, or_⟩ := o
  obtain ⟨fe, fs, fp, fq, fb, fr⟩ := f
  simp only [pcs, cont] at *
  have HO := Lib.hid hO
  have HB := Lib.hid hb
  clear hO hb
  go_enter Try.func67, Try.ntmps67
  go_wp2_with (first | (refine wl_box rfl _ _ rfl HO.out _ (by rfl) ?_; intro g w1 hO1; have HO1 := Lib.hid hO1; clear hO1 HO) | (refine wl_box rfl _ _ rfl HO1.out _ (by rfl) ?_; intro g2 w2 hO2; have c0 := hO2.cell (.head _) 0; have c1 := hO2.cell (.head _) 1; have c2 := hO2.cell (.head _) 2; have c3 := hO2.cell (.head _) 3; have c4 := hO2.cell (.head _) 4; have d0 := hO2.cell (.tail _ (.head _)) 0; have d1 := hO2.cell (.tail _ (.head _)) 1; have d2 := hO2.cell (.tail _ (.head _)) 2; have d3 := hO2.cell (.tail _ (.head _)) 3; have d4 := hO2.cell (.tail _ (.head _)) 4; simp only [List.getElem?_toArray, List.getElem?_cons_zero, List.getElem?_cons_succ] at c0 c1 c2 c3 c4 d0 d1 d2 d3 d4; have HO2 := Lib.hid hO2; clear hO2 HO1))
  all_goals
    clear c0 c1 c2 c3 c4 d0 d1 d2 d3 d4
    go_ret
    refine ⟨?_, HO2.out.tail.tail⟩
    rw [← HB.out]
    clear HO2 HB
    show Ending.returned (Value.bool _) = Ending.returned (Value.bool _)
    congr 2
    rw [Bool.eq_iff_iff]
    simp only [decide_eq_true_eq, Bool.or_eq_true, beq_iff_eq, bne_iff_ne, ne_eq, bne_eq_false_iff_eq] at *
    first | omega | (simp; omega)
end
end Go.Proofs.Ytdndkapfaiplnaa
