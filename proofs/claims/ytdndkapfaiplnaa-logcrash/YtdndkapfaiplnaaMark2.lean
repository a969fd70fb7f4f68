/-
  Package mark: Seal.
-/
import Derived.Test.YtdndkapfaiplnaaMark1
namespace Go.Proofs.Ytdndkapfaiplnaa
set_option linter.unusedVariables false
set_option linter.unusedSimpArgs false
set_option maxRecDepth 20000
open Go.RowKit

/-- What Seal answers: the sector in new memory, or nothing beside the error. -/
def GotSeal (w0 : World) (R : Blks) (e s p q : Int) (xs : List Int) (en : Ending) (w' : World) : Prop :=
  ∃ v L, en = .returned (.tuple #[v, .int .i64 (if okSeal e s p q xs.length then 0 else 1)]) ∧ IsBytes v (if okSeal e s p q xs.length then sealed e s p q xs else []) L ∧ Own w0 w' (L ++ R)
theorem okSeal_no {e s p q : Int} {n : Nat} (h : ¬ (okMark e s = true ∧ 0 ≤ p ∧ p < q ∧ q ≤ 255 ∧ n ≤ 19)) : okSeal e s p q n = false := by
  unfold okSeal
  cases hm : okMark e s
  · rfl
  · simp [hm] at h ⊢; omega
theorem okSeal_yes {e s p q : Int} {n : Nat} (h : okMark e s = true ∧ 0 ≤ p ∧ p < q ∧ q ≤ 255 ∧ n ≤ 19) : okSeal e s p q n = true := by
  unfold okSeal; rw [h.1]; simp; omega
theorem okMark_spec {e s : Int} (h : okMark e s = true) : 0 ≤ e ∧ e ≤ 65535 ∧ 0 ≤ s ∧ s ≤ 16777215 := by simpa [okMark] using h
theorem gotSeal_no {w0 w' : World} {R : Blks} {e s p q : Int} {xs : List Int} (h : okSeal e s p q xs.length = false) (hO : Own w0 w' R) : GotSeal w0 R e s p q xs (.returned (.tuple #[.slice none 0 0, .int .i64 1])) w' := by
  refine ⟨.slice none 0 0, [], ?_, ?_, hO⟩
  · simp [h]
  · simp only [h]; exact ⟨rfl, .inl ⟨rfl, rfl, rfl⟩⟩
set_option maxHeartbeats 4000000 in
theorem seal_no {w0 w : World} {R : Blks} (hO : Own w0 w R) (e s p q : Int) (v : Value) (xs : List Int) (hb : Rd w0 R v xs) (h : okSeal e s p q xs.length = false) :
    Calls Try.prog 30 #[.agg #[.int .i64 e, .int .i64 s], .int .i64 p, .int .i64 q, v] w (GotSeal w0 R e s p q xs) := by
  obtain ⟨A, c, rfl, _⟩ := (hb w [] hO).len
  have HN := Lib.hid h; have HO := Lib.hid hO; clear hO hb
  have hmk : ∀ w1, Own w0 w1 ((w.heap.size, Obj.cells #[.int .i64 e, .int .i64 s] 44) :: R) → Calls Try.prog 52 #[.agg #[.int .i64 e, .int .i64 s]] w1 (Gave w0 ((w.heap.size, Obj.cells #[.int .i64 e, .int .i64 s] 44) :: R) (.bool (okMark e s))) := fun w1 h1 => mayBe_c h1 e s
  have HMK := Lib.hid hmk; clear hmk
  have HO1 := Lib.hid (HO.out.alloc (.cells #[.int .i64 e, .int .i64 s] 44))
  cases hm : okMark e s
  · rw [hm] at HMK
    clear h hm
    go_enter Try.func30, Try.ntmps30
    go_wp2_with fail
    refine (HMK.out _ HO1.out).mono ?_
    rintro en w2 ⟨rfl, hO2⟩
    have HO2 := Lib.hid hO2; clear hO2
    go_wp2
    go_ret2
    exact gotSeal_no HN.out HO2.out.tail
  · rw [hm] at HMK
    by_cases h1 : p < 0
    · clear h hm
      go_enter Try.func30, Try.ntmps30
      go_wp2_with fail
      refine (HMK.out _ HO1.out).mono ?_
      rintro en w2 ⟨rfl, hO2⟩
      have HO2 := Lib.hid hO2; clear hO2
      go_wp2
      go_ret2
      exact gotSeal_no HN.out HO2.out.tail
    · by_cases h2 : q ≤ p
      · clear h hm
        go_enter Try.func30, Try.ntmps30
        go_wp2_with fail
        refine (HMK.out _ HO1.out).mono ?_
        rintro en w2 ⟨rfl, hO2⟩
        have HO2 := Lib.hid hO2; clear hO2
        go_wp2
        go_ret2
        exact gotSeal_no HN.out HO2.out.tail
      · by_cases h3 : 255 < q
        · clear h hm
          go_enter Try.func30, Try.ntmps30
          go_wp2_with fail
          refine (HMK.out _ HO1.out).mono ?_
          rintro en w2 ⟨rfl, hO2⟩
          have HO2 := Lib.hid hO2; clear hO2
          go_wp2
          go_ret2
          exact gotSeal_no HN.out HO2.out.tail
        · have h4 : 19 < (xs.length : Int) := by
            have : okSeal e s p q xs.length ≠ true := by rw [h]; simp
            have h5 : ¬ (xs.length ≤ 19) := fun h5 => this (okSeal_yes ⟨hm, by omega, by omega, by omega, h5⟩)
            omega
          clear h hm
          go_enter Try.func30, Try.ntmps30
          go_wp2_with fail
          refine (HMK.out _ HO1.out).mono ?_
          rintro en w2 ⟨rfl, hO2⟩
          have HO2 := Lib.hid hO2; clear hO2
          go_wp2
          go_ret2
          exact gotSeal_no HN.out HO2.out.tail
set_option maxHeartbeats 4000000 in
theorem seal_yes {w0 w : World} {R : Blks} (hO : Own w0 w R) (e s p q : Int) (v : Value) (xs : List Int) (hb : Rd w0 R v xs) (h : okSeal e s p q xs.length = true) :
    Calls Try.prog 30 #[.agg #[.int .i64 e, .int .i64 s], .int .i64 p, .int .i64 q, v] w (GotSeal w0 R e s p q xs) := by
  have hm : okMark e s = true := by unfold okSeal at h; simp at h; exact h.1
  have hpq : 0 ≤ p ∧ p < q ∧ q ≤ 255 ∧ xs.length ≤ 19 := by unfold okSeal at h; simp at h; exact h.2
  have hes := okMark_spec hm
  obtain ⟨he0, he1, hs0, hs1⟩ := hes
  obtain ⟨hp0, hp1, hq1, hn1⟩ := hpq
  obtain ⟨A, c, rfl, hnc⟩ := (hb w [] hO).len
  have HB := Lib.hid hb
  have HY := Lib.hid h; have HO := Lib.hid hO; clear hO hb h
  have hn2 : ¬ (19 < (xs.length : Int)) := by omega
  have hmk := make_bytes 32 (by omega)
  have hmk' : ∀ w, (Instr.makeSlice 27 (.int .i64 32) (.int .i64 32)).run Try.prog w =
    .ok (.slice (some ⟨w.heap.size, 0, none⟩) 32 32) (w.alloc (.cells (bv (List.replicate 32 0)).toArray 5)) := hmk
  clear hmk
  have HM := Lib.hid hm; clear hm
  go_enter Try.func30, Try.ntmps30
  go_wp2_with (refine wl_box rfl _ _ rfl HO.out _ (by rfl) ?_; intro gm w1 hO1; have hc0 : w1.cell? ⟨gm, 0, none⟩ = some (.int .i64 e) := hO1.cell (.head _) 0; have hc1 : w1.cell? ⟨gm, 1, none⟩ = some (.int .i64 s) := hO1.cell (.head _) 1; have HO1 := Lib.hid hO1; clear hO1 HO)
  have hcall := mayBe_c HO1.out e s
  rw [HM.out] at hcall
  with_reducible refine hcall.mono ?_
  clear hcall hc0 hc1
  rintro en w2 ⟨rfl, hO2⟩
  have HO2 := Lib.hid hO2; clear hO2 HO1
  go_wp2_with (refine wl_makeSlice rfl _ _ _ rfl HO2.out _ 32 32 (by exact hmk' _) ?_; intro g w3 hO3; have HO3 := Lib.hid hO3; clear hO3 HO2)
  refine wp_region_lin (fun w' => w'.cell? ⟨gm, 0, none⟩ = some (.int .i64 e)) 4 [(0, true), (1, true), (2, true), (3, true)] (by kernel_rfl) (by kernel_rfl) (fun _ _ d _ _ h => by cases d <;> exact h) (HO3.out.cell (.tail _ (.head _)) 0) ?_
  simp only [List.map_cons, List.map_nil, pick_zero, pick_succ, List.drop_succ_cons, List.drop_zero]
  iterate 4 (refine lin_q ?_ rfl ?_ ?_; rotate_left 1; (focus (rintro w' hq; go_simp; try with_reducible rfl)); simp only [Act.put, List.setIfInBounds_toArray, List.set_cons_zero, List.set_cons_succ])
  refine lin_nil ?_
  have HO4 := Lib.hid HO3.out.drew; clear HO3
  generalize w3.drew = w4 at HO4
  go_wp2_with fail
  have hcall := putEpoch_c HO4.out 0 32 32 (by simp) (by omega) e he0 he1
  with_reducible refine hcall.mono ?_
  clear hcall
  rintro en w5 ⟨rfl, hO5⟩
  generalize hx1 : wrI (List.replicate 32 0) 0 (e2 e) = x1 at hO5
  have hl1 : x1.length = 32 := by rw [← hx1]; rfl
  have HX1 := Lib.hid hx1; have HL1 := Lib.hid hl1; have HO5 := Lib.hid hO5; clear hO5 HO4 hx1 hl1
  go_wp2
  refine wp_region_lin (fun w' => w'.cell? ⟨gm, 1, none⟩ = some (.int .i64 s)) 4 [(0, true), (1, true), (2, true), (3, true)] (by kernel_rfl) (by kernel_rfl) (fun _ _ d _ _ h => by cases d <;> exact h) (HO5.out.cell (.tail _ (.head _)) 1) ?_
  simp only [List.map_cons, List.map_nil, pick_zero, pick_succ, List.drop_succ_cons, List.drop_zero]
  iterate 4 (refine lin_q ?_ rfl ?_ ?_; rotate_left 1; (focus (rintro w' hq; go_simp; try with_reducible rfl)); simp only [Act.put, List.setIfInBounds_toArray, List.set_cons_zero, List.set_cons_succ])
  refine lin_nil ?_
  have HO6 := Lib.hid HO5.out.drew; clear HO5
  generalize w5.drew = w6 at HO6
  go_wp2_with fail
  have hcall := putSeq_c HO6.out 2 30 30 (by rw [HL1.out]; omega) (by omega) s hs0 hs1
  with_reducible refine hcall.mono ?_
  clear hcall
  rintro en w7 ⟨rfl, hO7⟩
  generalize hx2 : wrI x1 2 (s3 s) = x2 at hO7
  have hl2 : x2.length = 32 := by rw [← hx2, length_wrI _ _ _ (by rw [HL1.out]; simp [s3])]; exact HL1.out
  have HX2 := Lib.hid hx2; have HL2 := Lib.hid hl2; have HO7 := Lib.hid hO7; clear hO7 HO6 hx2 hl2
  go_wp2_with (first | (refine wl_store1 rfl _ _ _ rfl HO7.out 0 g 5 _ (.int .u8 p) _ rfl (by rfl) (by rfl) (by rfl) (by kernel_rfl) (by rfl) (by simp [HL2.out]) ?_; intro w8 hO8; have HO8 := Lib.hid hO8; clear hO8 HO7) | (refine wl_store1 rfl _ _ _ rfl HO8.out 0 g 6 _ (.int .u8 q) _ rfl (by rfl) (by rfl) (by rfl) (by kernel_rfl) (by rfl) (by simp [HL2.out]) ?_; intro w9 hO9; have HO9 := Lib.hid hO9; clear hO9 HO8) | (refine wl_store1 rfl _ _ _ rfl HO9.out 0 g 7 _ (.int .u8 (xs.length : Int)) _ rfl (by rfl) (by rfl) (by rfl) (by kernel_rfl) (by rfl) (by simp [HL2.out]) ?_; intro w10 hO10; simp only [List.set_cons_zero] at hO10; rw [bv_set, bv_set, bv_set] at hO10; have HO10 := Lib.hid hO10; clear hO10 HO9) | (refine wl_copyV rfl _ _ _ _ rfl _ Try.underlying27 (by kernel_rfl) HO10.out 0 g 8 (bv (((x2.set 5 p).set 6 q).set 7 (xs.length : Int))) (bv xs) _ rfl 24 24 (.slice A xs.length c) (by rfl) (by rfl) (HB.out w10 [_, _] HO10.out).vs (by rw [length_bv]; omega) (by simp only [length_bv, List.length_set, HL2.out]; omega) (one_bv _) ?_; intro w11 hO11; rw [wr_bv] at hO11; have HO11 := Lib.hid hO11; clear hO11 HO10))
  have hx4 : wrI (((x2.set 5 p).set 6 q).set 7 (xs.length : Int)) 8 xs = head8 e s p q xs.length ++ (xs ++ List.replicate (24 - xs.length) 0) := by
    rw [← HX2.out, ← HX1.out, seal_a, seal_b _ _ _ _ _ hn1]
  have hO11 := HO11.out
  simp only [List.set_cons_zero] at hO11
  rw [hx4] at hO11
  clear HO11 hx4
  generalize hx5 : head8 e s p q xs.length ++ (xs ++ List.replicate (24 - xs.length) 0) = x5 at hO11
  have hl5 : x5.length = 32 := by rw [← hx5]; simp [head8, e2, s3]; omega
  have HX5 := Lib.hid hx5; have HL5 := Lib.hid hl5; have HO11 := Lib.hid hO11; clear hO11 hx5 hl5
  refine wp_region_lin (fun w' => w'.cell? ⟨gm, 1, none⟩ = some (.int .i64 s)) 4 [(0, true), (1, true), (2, true), (3, true)] (by kernel_rfl) (by kernel_rfl) (fun _ _ d _ _ h => by cases d <;> exact h) (HO11.out.cell (.tail _ (.head _)) 1) ?_
  simp only [List.map_cons, List.map_nil, pick_zero, pick_succ, List.drop_succ_cons, List.drop_zero]
  iterate 4 (refine lin_q ?_ rfl ?_ ?_; rotate_left 1; (focus (rintro w' hq; go_simp; try with_reducible rfl)); simp only [Act.put, List.setIfInBounds_toArray, List.set_cons_zero, List.set_cons_succ])
  refine lin_nil ?_
  have HO12 := Lib.hid HO11.out.drew; clear HO11
  generalize w11.drew = w12 at HO12
  go_wp2_with fail
  have hcall := putSeq_c HO12.out 27 5 5 (by rw [HL5.out]; omega) (by omega) s hs0 hs1
  with_reducible refine hcall.mono ?_
  clear hcall
  rintro en w13 ⟨rfl, hO13⟩
  generalize hx6 : wrI x5 27 (s3 s) = x6 at hO13
  have hl6 : x6.length = 32 := by rw [← hx6, length_wrI _ _ _ (by rw [HL5.out]; simp [s3])]; exact HL5.out
  have HX6 := Lib.hid hx6; have HL6 := Lib.hid hl6; have HO13 := Lib.hid hO13; clear hO13 HO12 hx6 hl6
  go_wp2
  refine wp_region_lin (fun w' => w'.cell? ⟨gm, 0, none⟩ = some (.int .i64 e)) 4 [(0, true), (1, true), (2, true), (3, true)] (by kernel_rfl) (by kernel_rfl) (fun _ _ d _ _ h => by cases d <;> exact h) (HO13.out.cell (.tail _ (.head _)) 0) ?_
  simp only [List.map_cons, List.map_nil, pick_zero, pick_succ, List.drop_succ_cons, List.drop_zero]
  iterate 4 (refine lin_q ?_ rfl ?_ ?_; rotate_left 1; (focus (rintro w' hq; go_simp; try with_reducible rfl)); simp only [Act.put, List.setIfInBounds_toArray, List.set_cons_zero, List.set_cons_succ])
  refine lin_nil ?_
  have HO14 := Lib.hid HO13.out.drew; clear HO13
  generalize w13.drew = w14 at HO14
  go_wp2_with fail
  have hcall := putEpoch_c HO14.out 30 2 2 (by rw [HL6.out]; omega) (by omega) e he0 he1
  with_reducible refine hcall.mono ?_
  clear hcall
  rintro en w15 ⟨rfl, hO15⟩
  have hfin : wrI x6 30 (e2 e) = sealed e s p q xs := by rw [← HX6.out, ← HX5.out, seal_cd _ _ _ _ _ hn1]
  rw [hfin] at hO15
  have HO15 := Lib.hid hO15; clear hO15 HO14 hfin
  go_wp2
  go_ret2
  refine ⟨.slice (some ⟨g, 0, none⟩) 32 32, [_], ?_, ?_, (HO15.out.perm (.swap _ _ _)).tail⟩
  · simp [HY.out]
  · rw [if_pos HY.out]
    have := isBytes_whole g (sealed e s p q xs) (by rw [length_sealed _ _ _ _ _ hn1]; omega)
    rw [length_sealed _ _ _ _ _ hn1] at this
    exact this
theorem seal_c {w0 w : World} {R : Blks} (hO : Own w0 w R) (e s p q : Int) (v : Value) (xs : List Int) (hb : Rd w0 R v xs) :
    Calls Try.prog 30 #[.agg #[.int .i64 e, .int .i64 s], .int .i64 p, .int .i64 q, v] w (GotSeal w0 R e s p q xs) := by
  cases h : okSeal e s p q xs.length
  · exact seal_no hO e s p q v xs hb h
  · exact seal_yes hO e s p q v xs hb h
end Go.Proofs.Ytdndkapfaiplnaa
