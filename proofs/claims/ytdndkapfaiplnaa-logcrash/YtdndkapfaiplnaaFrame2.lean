/-
  Package frame: seal, which makes a record's sectors.
-/
import Derived.Test.YtdndkapfaiplnaaFrame1
namespace Go.Proofs.Ytdndkapfaiplnaa
set_option linter.unusedVariables false
set_option linter.unusedSimpArgs false
set_option maxRecDepth 20000
open Go.RowKit

/-- Part j of a record's bytes. -/
def chunk (xs : List Int) (j : Nat) : List Int := (xs.drop (19 * j)).take 19
/-- Sector j of a record. -/
def sec (e s : Int) (b : List Int) (j : Nat) : List Int := sealed e s j (need b) (chunk (framed b) j)
theorem length_chunk (xs : List Int) (j : Nat) : (chunk xs j).length ≤ 19 := by simp [chunk]; omega
theorem Rd.sublist {w0 : World} {L R : Blks} {v : Value} {xs : List Int} (h : Rd w0 L v xs) (hs : L.Sublist R) : Rd w0 R v xs := fun w' L' hO => h w' L' (hO.sub ((List.Sublist.refl L').append hs))
theorem okSeal_mark {e s : Int} {p q : Int} {n : Nat} (h : okMark e s = true) (h2 : 0 ≤ p ∧ p < q ∧ q ≤ 255 ∧ n ≤ 19) : okSeal e s p q n = true := by simp [okSeal, h, h2]
theorem okSeal_nomark {e s : Int} {p q : Int} {n : Nat} (h : okMark e s = false) : okSeal e s p q n = false := by simp [okSeal, h]
theorem rows_info : (Try.prog.info? 27).map (fun i => (i.zero, i.size, i.bytes)) = some (some (.slice none 0 0), 1, 24) := by kernel_rfl
theorem make_rows (n : Nat) (hn : n ≤ 1048576) (w : World) : (Instr.makeSlice 28 (.int .i64 (n : Int)) (.int .i64 (n : Int))).run Try.prog w =
    .ok (.slice (some ⟨w.heap.size, 0, none⟩) n n) (w.alloc (.cells (List.replicate n (Value.slice none 0 0)).toArray 27)) := by
  obtain ⟨i0, hi0, hz0, hz1, hz2⟩ := info_parts rows_info
  have := run_make_rowN (P := Try.prog) 28 27 i0 _ Try.underlying28 hi0 hz0 .i64 .i64 n n (Nat.le_refl _) (by rw [hz2]; omega) (by omega) w
  rw [hz1] at this
  have e : madeCells (Value.slice none 0 0).cells (n * 1) = (List.replicate n (Value.slice none 0 0)).toArray := by
    rw [Nat.mul_one]
    exact made_replicate 1 (by omega) _ n
  rw [this, e]
/-- The row of sectors. -/
def GotSecs (w0 : World) (R : Blks) (p : Nat) (f : Nat → List Int) (e : Ending) (w' : World) : Prop :=
  ∃ g cs X, e = .returned (.tuple #[.slice (some ⟨g, 0, none⟩) p p, .int .i64 0]) ∧ cs.length = p ∧ (∀ j, j < p → Rd w0 X (cs.getD j undef) (f j)) ∧
    Own w0 w' ((g, .cells (List.toArray cs) 27) :: (X ++ R))
def SecsTo (w0 : World) (R : Blks) (g p : Nat) (f : Nat → List Int) (i : Nat) (w' : World) : Prop :=
  ∃ cs X, cs.length = p ∧ (∀ j, j < i → Rd w0 X (cs.getD j undef) (f j)) ∧ Own w0 w' ((g, .cells (List.toArray cs) 27) :: (X ++ R))
theorem secsTo_step {w0 w6 : World} {R X L5 : Blks} {g p i : Nat} {f : Nat → List Int} {cs : List Value} {v5 : Value} (hcs : cs.length = p) (hX : ∀ j, j < i → Rd w0 X (cs.getD j undef) (f j)) (hi : i < p) (h5 : IsBytes v5 (f i) L5)
    (hO : Own w0 w6 ((g, .cells (cs.toArray.setIfInBounds i v5) 27) :: (L5 ++ (X ++ R)))) : SecsTo w0 R g p f (i + 1) w6 := by
  refine ⟨cs.set i v5, L5 ++ X, by simp [hcs], fun j hj => ?_, by simpa [List.append_assoc] using hO⟩
  by_cases hij : j = i
  · subst hij
    rw [show (cs.set j v5).getD j undef = v5 by simp [List.getD, hcs, hi]]
    exact h5.rd sub_here
  · rw [show (cs.set i v5).getD j undef = cs.getD j undef by simp only [List.getD]; rw [List.getElem?_set_ne (fun e => hij e.symm)]]
    exact (hX j (by omega)).more
theorem rows_size : (Try.prog.info? 27).map (·.size) = some 1 := by kernel_rfl
section
variable {w0 w : World} {R : Blks}
set_option maxHeartbeats 2000000 in
theorem fseal_big (hO : Own w0 w R) (e s : Int) (v : Value) (xs : List Int) (hb : Rd w0 R v xs) (hl : xs.length ≤ 1000000) (h : 255 < need xs) :
    Calls Try.prog 66 #[.agg #[.int .i64 e, .int .i64 s], v] w (Gave w0 R (.tuple #[.slice none 0 0, .int .i64 1])) := by
  have HO := Lib.hid hO
  have HB := Lib.hid hb
  clear hO hb
  go_enter Try.func66, Try.ntmps66
  go_wp2_with (refine wl_box rfl _ _ rfl HO.out _ (by rfl) ?_; intro gm w1 hO1; have HO1 := Lib.hid hO1; clear hO1 HO)
  have hcall := need_c (w := w1) v xs (HB.out w1 [_] HO1.out) (by omega)
  with_reducible refine hcall.mono ?_
  clear hcall
  rintro en w2 ⟨rfl, rfl⟩
  go_wp2
  go_ret2
  exact ⟨rfl, HO1.out.tail⟩
set_option maxHeartbeats 2000000 in
theorem fseal_ok (hO : Own w0 w R) (e s : Int) (v : Value) (xs : List Int) (hb : Rd w0 R v xs) (hB : Byt xs) (hm : okMark e s = true) (h : need xs ≤ 255) :
    Calls Try.prog 66 #[.agg #[.int .i64 e, .int .i64 s], v] w (GotSecs w0 R (need xs) (sec e s xs)) := by
  have hl : xs.length ≤ 5000 := by unfold need at h; omega
  have hp1 := need_pos xs
  have HN := Lib.hid (show need xs = (xs.length + 22) / 19 from rfl)
  have HL := Lib.hid hl
  have HO := Lib.hid hO
  have HB := Lib.hid hb
  have HBB := Lib.hid hB
  have HM := Lib.hid hm
  clear hO hb hB hm hl
  generalize hp : need xs = p at *
  have HP := Lib.hid hp
  clear hp
  have hmk := make_rows p (by omega)
  obtain ⟨N, hN⟩ : ∃ N, 4 + xs.length = N := ⟨_, rfl⟩
  have HNN := Lib.hid hN
  have hNp : p = (N + 18) / 19 := by rw [HN.out]; omega
  have HNP := Lib.hid hNp
  have hN1 : 4 ≤ N := by omega
  have hN2 : N ≤ 5004 := by have := HL.out; omega
  clear hN hNp HN
  go_enter Try.func66, Try.ntmps66
  go_wp2_with (refine wl_box rfl _ _ rfl HO.out _ (by rfl) ?_; intro gm w1 hO1; have HO1 := Lib.hid hO1; clear hO1 HO)
  have hcall := need_c (w := w1) v xs (HB.out w1 [_] HO1.out) (by have := HL.out; omega)
  rw [HP.out] at hcall
  with_reducible refine hcall.mono ?_
  clear hcall
  rintro en w2 ⟨rfl, rfl⟩
  go_wp2_with fail
  have hcall := withSum_c (R := [_] ++ R) HO1.out v xs HB.out.more HBB.out (by have := HL.out; omega)
  with_reducible refine hcall.mono ?_
  clear hcall
  rintro en w2 ⟨v1, L1, rfl, h1, hO2⟩
  obtain ⟨g1, cap, sp, rfl, rfl, hcap⟩ := h1.blkn N (by simp [HNN.out]) (by omega)
  have HO2 := Lib.hid hO2
  clear h1 hO2 HO1
  go_wp2_with (refine wl_makeSlice rfl _ _ _ rfl HO2.out _ p p (by exact hmk _) ?_; intro g w3 hO3; have HO3 := Lib.hid hO3; clear hO3 HO2 hmk)
  go_loopw [24] (fun t w' => ∃ i : Nat, i ≤ p ∧ t = .int .i64 i ∧ Hid (SecsTo w0 ((g1, .cells (List.toArray (bv (framed xs) ++ sp)) 5) :: (gm, .cells #[.int .i64 e, .int .i64 s] 44) :: R) g p (sec e s xs) i w')) (fun t _ => p - (intOf t).toNat)
  case atStart => exact ⟨0, Nat.zero_le _, rfl, _, [], by simp, fun j hj => absurd hj (by omega), HO3.out⟩
  case round =>
    obtain ⟨i, hi, rfl, HR⟩ := hrel
    clear HO3
    by_cases hlt : i < p
    · obtain ⟨cs, X, hcs, hX, hO4⟩ := HR.out
      have HCS := Lib.hid hcs; have HX := Lib.hid hX; have HO4 := Lib.hid hO4
      clear hcs hX hO4 HR
      have hNP := HNP.out
      have hlo : i * 19 < N := by omega
      have hiI : (i : Int) < p := by omega
      have hmin : (N : Int) < ↑i * 19 + 19 ∨ ¬ (N : Int) < ↑i * 19 + 19 := by omega
      have f1 : (0 : Int) ≤ ↑i * 19 := by omega
      have f2 : (i : Int) * 19 ≤ N := by omega
      have f3 : ((i : Int) * 19).toNat = i * 19 := by omega
      have f4 : ¬ cap = i * 19 := by omega
      have f5 : ((i : Int) * 19 + 19).toNat = i * 19 + 19 := by omega
      have HRD : ∀ m, i * 19 + m ≤ N → m ≤ cap - i * 19 → Rd w0 ((g, .cells (List.toArray cs) 27) :: (X ++ ((g1, .cells (List.toArray (bv (framed xs) ++ sp)) 5) :: (gm, .cells #[.int .i64 e, .int .i64 s] 44) :: R))) (.slice (some ⟨g1, i * 19, none⟩) m (cap - i * 19)) (((framed xs).drop (i * 19)).take m) :=
        fun m h1 h2 => rd_blk (xs := framed xs) (sp := sp) (t := 5) (.tail _ (List.mem_append_right _ (.head _))) (i * 19) m (cap - i * 19) (by rw [length_framed, HNN.out]; exact h1) h2
      have HRD := Lib.hid HRD
      clear hNP
      rcases hmin with hmin | hmin
      · have hch : ((framed xs).drop (i * 19)).take (N - i * 19) = chunk (framed xs) i := by
          unfold chunk
          rw [Nat.mul_comm 19 i, List.take_of_length_le (by rw [List.length_drop, length_framed, HNN.out]; exact Nat.le_refl _), List.take_of_length_le (by rw [List.length_drop, length_framed, HNN.out]; omega)]
        have hrd := HRD.out (N - i * 19) (by omega) (by omega)
        rw [hch] at hrd
        have HRD2 := Lib.hid hrd
        clear hrd hch HRD
        go_wp2
        refine wp_region_lin (fun w' => w'.heap[gm]? = some (.cells [Value.int .i64 e, Value.int .i64 s].toArray 44)) 12 [(0, true), (1, true), (2, true), (3, true), (4, true), (5, true), (6, true), (7, false), (8, true), (9, true), (10, true), (11, true)] (by kernel_rfl) (by kernel_rfl) (fun _ _ d _ _ h => by cases d <;> exact h) (HO4.out.heap (.tail _ (List.mem_append_right _ (.tail _ (.head _))))) ?_
        simp only [List.map_cons, List.map_nil, pick_zero, pick_succ, List.drop_succ_cons, List.drop_zero]
        refine lin_load rfl _ _ rfl gm 0 [.int .i64 e, .int .i64 s] [.int .i64 e, .int .i64 s] 44 (by rfl) _ Try.underlying44 rfl mark_size (by rfl) (fun w' ew => ew) ?_
        simp only [Act.put, List.setIfInBounds_toArray, List.set_cons_zero, List.set_cons_succ]
        iterate 6 (refine lin_q ?_ rfl ?_ ?_; rotate_left 1; (focus (rintro w' -; go_simp; first | done | with_reducible rfl | (trace_state; fail))); simp only [Act.put, List.setIfInBounds_toArray, List.set_cons_zero, List.set_cons_succ])
        refine lin_act ?_
        have hcall := seal_ok HO4.out.drew e s i p _ _ HRD2.out (okSeal_mark HM.out ⟨by omega, by omega, by omega, length_chunk _ _⟩)
        refine wl_call rfl _ _ _ (by go_simp) hcall ?_
        clear hcall
        rintro en w5 ⟨v5, L5, rfl, h5, hO5⟩
        refine ⟨_, rfl, LinPost.mk (hO5.heap (List.mem_append_right _ (.tail _ (List.mem_append_right _ (.tail _ (.head _)))))) ?_⟩
        simp only [Act.put, List.setIfInBounds_toArray, List.set_cons_zero, List.set_cons_succ]
        iterate 4 (refine lin_q ?_ rfl ?_ ?_; rotate_left 1; (focus (rintro w' -; go_simp; first | done | with_reducible rfl | (trace_state; fail))); simp only [Act.put, List.setIfInBounds_toArray, List.set_cons_zero, List.set_cons_succ])
        refine lin_nil ?_
        have h6 : IsBytes v5 (sec e s xs i) L5 := by unfold sec; rw [HP.out]; exact h5
        obtain ⟨A5, c5, rfl⟩ := h5.val
        have HO5 := Lib.hid (Own.rot (B := [_]) hO5); have H5 := Lib.hid h6; clear hO5 h5 h6 HO4
        go_wp2_with (refine wl_store1 rfl _ _ _ rfl HO5.out 0 g i _ _ _ rfl (by rfl) (by rfl) (by rfl) rows_size (by rfl) (by simp [HCS.out]; omega) ?_; intro w6 hO6; have HO6 := Lib.hid hO6; clear hO6 HO5)
        go_roundw
        case rel => exact ⟨i + 1, by omega, by go_num, secsTo_step HCS.out HX.out hlt H5.out HO6.out⟩
        case measure => simp [intOf]; omega
      · have hch : ((framed xs).drop (i * 19)).take 19 = chunk (framed xs) i := by
          unfold chunk
          rw [Nat.mul_comm 19 i]
        have hrd := HRD.out 19 (by omega) (by omega)
        rw [hch] at hrd
        have HRD2 := Lib.hid hrd
        clear hrd hch HRD
        have f6 : (0 : Int) ≤ ↑i * 19 + 19 := by omega
        have f7 : (i : Int) * 19 + 19 ≤ cap := by omega
        have f8 : (i : Int) * 19 ≤ ↑i * 19 + 19 := by omega
        have f9 : i * 19 + 19 - i * 19 = 19 := by omega
        go_wp2
        refine wp_region_lin (fun w' => w'.heap[gm]? = some (.cells [Value.int .i64 e, Value.int .i64 s].toArray 44)) 12 [(0, true), (1, true), (2, true), (3, true), (4, true), (5, true), (6, true), (7, false), (8, true), (9, true), (10, true), (11, true)] (by kernel_rfl) (by kernel_rfl) (fun _ _ d _ _ h => by cases d <;> exact h) (HO4.out.heap (.tail _ (List.mem_append_right _ (.tail _ (.head _))))) ?_
        simp only [List.map_cons, List.map_nil, pick_zero, pick_succ, List.drop_succ_cons, List.drop_zero]
        refine lin_load rfl _ _ rfl gm 0 [.int .i64 e, .int .i64 s] [.int .i64 e, .int .i64 s] 44 (by rfl) _ Try.underlying44 rfl mark_size (by rfl) (fun w' ew => ew) ?_
        simp only [Act.put, List.setIfInBounds_toArray, List.set_cons_zero, List.set_cons_succ]
        iterate 6 (refine lin_q ?_ rfl ?_ ?_; rotate_left 1; (focus (rintro w' -; go_simp; first | done | with_reducible rfl | (trace_state; fail))); simp only [Act.put, List.setIfInBounds_toArray, List.set_cons_zero, List.set_cons_succ])
        refine lin_act ?_
        have hcall := seal_ok HO4.out.drew e s i p _ _ HRD2.out (okSeal_mark HM.out ⟨by omega, by omega, by omega, length_chunk _ _⟩)
        refine wl_call rfl _ _ _ (by go_simp) hcall ?_
        clear hcall
        rintro en w5 ⟨v5, L5, rfl, h5, hO5⟩
        refine ⟨_, rfl, LinPost.mk (hO5.heap (List.mem_append_right _ (.tail _ (List.mem_append_right _ (.tail _ (.head _)))))) ?_⟩
        simp only [Act.put, List.setIfInBounds_toArray, List.set_cons_zero, List.set_cons_succ]
        iterate 4 (refine lin_q ?_ rfl ?_ ?_; rotate_left 1; (focus (rintro w' -; go_simp; first | done | with_reducible rfl | (trace_state; fail))); simp only [Act.put, List.setIfInBounds_toArray, List.set_cons_zero, List.set_cons_succ])
        refine lin_nil ?_
        have h6 : IsBytes v5 (sec e s xs i) L5 := by unfold sec; rw [HP.out]; exact h5
        obtain ⟨A5, c5, rfl⟩ := h5.val
        have HO5 := Lib.hid (Own.rot (B := [_]) hO5); have H5 := Lib.hid h6; clear hO5 h5 h6 HO4
        go_wp2_with (refine wl_store1 rfl _ _ _ rfl HO5.out 0 g i _ _ _ rfl (by rfl) (by rfl) (by rfl) rows_size (by rfl) (by simp [HCS.out]; omega) ?_; intro w6 hO6; have HO6 := Lib.hid hO6; clear hO6 HO5)
        go_roundw
        case rel => exact ⟨i + 1, by omega, by go_num, secsTo_step HCS.out HX.out hlt H5.out HO6.out⟩
        case measure => simp [intOf]; omega
    · obtain rfl : i = p := by omega
      obtain ⟨cs, X, hcs, hX, hO4⟩ := HR.out
      have HCS := Lib.hid hcs; have HX := Lib.hid hX; have HO4 := Lib.hid hO4
      clear hcs hX hO4 HR
      go_wp2
      go_ret2
      refine ⟨g, cs, X, rfl, HCS.out, HX.out, HO4.out.sub ?_⟩
      exact ((List.Sublist.refl X).append ((List.sublist_cons_self _ _).trans (List.sublist_cons_self _ _))).cons_cons _
set_option maxHeartbeats 2000000 in
theorem fseal_err (hO : Own w0 w R) (e s : Int) (v : Value) (xs : List Int) (hb : Rd w0 R v xs) (hB : Byt xs) (hm : okMark e s = false) (h : need xs ≤ 255) :
    Calls Try.prog 66 #[.agg #[.int .i64 e, .int .i64 s], v] w (Gave w0 R (.tuple #[.slice none 0 0, .int .i64 1])) := by
  have hl : xs.length ≤ 5000 := by unfold need at h; omega
  have hp1 := need_pos xs
  have HN := Lib.hid (show need xs = (xs.length + 22) / 19 from rfl)
  have HL := Lib.hid hl
  have HO := Lib.hid hO
  have HB := Lib.hid hb
  have HBB := Lib.hid hB
  have HM := Lib.hid hm
  clear hO hb hB hm hl
  generalize hp : need xs = p at *
  have HP := Lib.hid hp
  clear hp
  have hmk := make_rows p (by omega)
  obtain ⟨N, hN⟩ : ∃ N, 4 + xs.length = N := ⟨_, rfl⟩
  have HNN := Lib.hid hN
  have hNp : p = (N + 18) / 19 := by rw [HN.out]; omega
  have HNP := Lib.hid hNp
  have hN1 : 4 ≤ N := by omega
  have hN2 : N ≤ 5004 := by have := HL.out; omega
  clear hN hNp HN
  go_enter Try.func66, Try.ntmps66
  go_wp2_with (refine wl_box rfl _ _ rfl HO.out _ (by rfl) ?_; intro gm w1 hO1; have HO1 := Lib.hid hO1; clear hO1 HO)
  have hcall := need_c (w := w1) v xs (HB.out w1 [_] HO1.out) (by have := HL.out; omega)
  rw [HP.out] at hcall
  with_reducible refine hcall.mono ?_
  clear hcall
  rintro en w2 ⟨rfl, rfl⟩
  go_wp2_with fail
  have hcall := withSum_c (R := [_] ++ R) HO1.out v xs HB.out.more HBB.out (by have := HL.out; omega)
  with_reducible refine hcall.mono ?_
  clear hcall
  rintro en w2 ⟨v1, L1, rfl, h1, hO2⟩
  obtain ⟨g1, cap, sp, rfl, rfl, hcap⟩ := h1.blkn N (by simp [HNN.out]) (by omega)
  have HO2 := Lib.hid hO2
  clear h1 hO2 HO1
  go_wp2_with (refine wl_makeSlice rfl _ _ _ rfl HO2.out _ p p (by exact hmk _) ?_; intro g w3 hO3; have HO3 := Lib.hid hO3; clear hO3 HO2 hmk)
  go_loopw [24] (fun t w' => ∃ i : Nat, i < p ∧ t = .int .i64 i ∧ Hid (Own w0 w' ((g, .cells (List.replicate p (Value.slice none 0 0)).toArray 27) :: (g1, .cells (List.toArray (bv (framed xs) ++ sp)) 5) :: (gm, .cells #[.int .i64 e, .int .i64 s] 44) :: R))) (fun t _ => 0)
  case atStart => exact ⟨0, by omega, rfl, HO3.out⟩
  case round =>
    obtain ⟨i, hlt, rfl, HO4⟩ := hrel
    clear HO3
    have hNP := HNP.out
    have hlo : i * 19 < N := by omega
    have hiI : (i : Int) < p := by omega
    have hmin : (N : Int) < ↑i * 19 + 19 ∨ ¬ (N : Int) < ↑i * 19 + 19 := by omega
    have f1 : (0 : Int) ≤ ↑i * 19 := by omega
    have f2 : (i : Int) * 19 ≤ N := by omega
    have f3 : ((i : Int) * 19).toNat = i * 19 := by omega
    have f4 : ¬ cap = i * 19 := by omega
    have f5 : ((i : Int) * 19 + 19).toNat = i * 19 + 19 := by omega
    have HRD : ∀ m, i * 19 + m ≤ N → m ≤ cap - i * 19 → Rd w0 ((g, .cells (List.replicate p (Value.slice none 0 0)).toArray 27) :: (g1, .cells (List.toArray (bv (framed xs) ++ sp)) 5) :: (gm, .cells #[.int .i64 e, .int .i64 s] 44) :: R) (.slice (some ⟨g1, i * 19, none⟩) m (cap - i * 19)) (((framed xs).drop (i * 19)).take m) :=
      fun m h1 h2 => rd_blk (xs := framed xs) (sp := sp) (t := 5) (.tail _ (.head _)) (i * 19) m (cap - i * 19) (by rw [length_framed, HNN.out]; exact h1) h2
    have HRD := Lib.hid HRD
    clear hNP
    rcases hmin with hmin | hmin
    · have HRD2 := Lib.hid (HRD.out (N - i * 19) (by omega) (by omega))
      clear HRD
      go_wp2
      refine wp_region_lin (fun w' => w'.heap[gm]? = some (.cells [Value.int .i64 e, Value.int .i64 s].toArray 44)) 12 [(0, true), (1, true), (2, true), (3, true), (4, true), (5, true), (6, true), (7, false), (8, true), (9, true), (10, true), (11, true)] (by kernel_rfl) (by kernel_rfl) (fun _ _ d _ _ h => by cases d <;> exact h) (HO4.out.heap (.tail _ (.tail _ (.head _)))) ?_
      simp only [List.map_cons, List.map_nil, pick_zero, pick_succ, List.drop_succ_cons, List.drop_zero]
      refine lin_load rfl _ _ rfl gm 0 [.int .i64 e, .int .i64 s] [.int .i64 e, .int .i64 s] 44 (by rfl) _ Try.underlying44 rfl mark_size (by rfl) (fun w' ew => ew) ?_
      simp only [Act.put, List.setIfInBounds_toArray, List.set_cons_zero, List.set_cons_succ]
      iterate 6 (refine lin_q ?_ rfl ?_ ?_; rotate_left 1; (focus (rintro w' -; go_simp; first | done | with_reducible rfl | (trace_state; fail))); simp only [Act.put, List.setIfInBounds_toArray, List.set_cons_zero, List.set_cons_succ])
      refine lin_act ?_
      have hcall := seal_err HO4.out.drew e s i p _ _ HRD2.out (okSeal_nomark HM.out)
      refine wl_call rfl _ _ _ (by go_simp) hcall ?_
      clear hcall
      rintro en w5 ⟨v5, L5, rfl, h5, hO5⟩
      refine ⟨_, rfl, LinPost.mk (hO5.heap (List.mem_append_right _ (.tail _ (.tail _ (.head _))))) ?_⟩
      simp only [Act.put, List.setIfInBounds_toArray, List.set_cons_zero, List.set_cons_succ]
      iterate 4 (refine lin_q ?_ rfl ?_ ?_; rotate_left 1; (focus (rintro w' -; go_simp; first | done | with_reducible rfl | (trace_state; fail))); simp only [Act.put, List.setIfInBounds_toArray, List.set_cons_zero, List.set_cons_succ])
      refine lin_nil ?_
      have HO5 := Lib.hid hO5.right.tail.tail.tail; clear hO5 h5 HO4
      go_wp2
      go_ret2
      exact ⟨rfl, HO5.out⟩
    · have HRD2 := Lib.hid (HRD.out 19 (by omega) (by omega))
      clear HRD
      have f6 : (0 : Int) ≤ ↑i * 19 + 19 := by omega
      have f7 : (i : Int) * 19 + 19 ≤ cap := by omega
      have f8 : (i : Int) * 19 ≤ ↑i * 19 + 19 := by omega
      have f9 : i * 19 + 19 - i * 19 = 19 := by omega
      go_wp2
      refine wp_region_lin (fun w' => w'.heap[gm]? = some (.cells [Value.int .i64 e, Value.int .i64 s].toArray 44)) 12 [(0, true), (1, true), (2, true), (3, true), (4, true), (5, true), (6, true), (7, false), (8, true), (9, true), (10, true), (11, true)] (by kernel_rfl) (by kernel_rfl) (fun _ _ d _ _ h => by cases d <;> exact h) (HO4.out.heap (.tail _ (.tail _ (.head _)))) ?_
      simp only [List.map_cons, List.map_nil, pick_zero, pick_succ, List.drop_succ_cons, List.drop_zero]
      refine lin_load rfl _ _ rfl gm 0 [.int .i64 e, .int .i64 s] [.int .i64 e, .int .i64 s] 44 (by rfl) _ Try.underlying44 rfl mark_size (by rfl) (fun w' ew => ew) ?_
      simp only [Act.put, List.setIfInBounds_toArray, List.set_cons_zero, List.set_cons_succ]
      iterate 6 (refine lin_q ?_ rfl ?_ ?_; rotate_left 1; (focus (rintro w' -; go_simp; first | done | with_reducible rfl | (trace_state; fail))); simp only [Act.put, List.setIfInBounds_toArray, List.set_cons_zero, List.set_cons_succ])
      refine lin_act ?_
      have hcall := seal_err HO4.out.drew e s i p _ _ HRD2.out (okSeal_nomark HM.out)
      refine wl_call rfl _ _ _ (by go_simp) hcall ?_
      clear hcall
      rintro en w5 ⟨v5, L5, rfl, h5, hO5⟩
      refine ⟨_, rfl, LinPost.mk (hO5.heap (List.mem_append_right _ (.tail _ (.tail _ (.head _))))) ?_⟩
      simp only [Act.put, List.setIfInBounds_toArray, List.set_cons_zero, List.set_cons_succ]
      iterate 4 (refine lin_q ?_ rfl ?_ ?_; rotate_left 1; (focus (rintro w' -; go_simp; first | done | with_reducible rfl | (trace_state; fail))); simp only [Act.put, List.setIfInBounds_toArray, List.set_cons_zero, List.set_cons_succ])
      refine lin_nil ?_
      have HO5 := Lib.hid hO5.right.tail.tail.tail; clear hO5 h5 HO4
      go_wp2
      go_ret2
      exact ⟨rfl, HO5.out⟩
end
end Go.Proofs.Ytdndkapfaiplnaa
