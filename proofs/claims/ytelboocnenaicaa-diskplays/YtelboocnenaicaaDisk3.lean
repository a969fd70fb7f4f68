/-
  Package disk: Write.
-/
import Derived.Test.YtelboocnenaicaaDisk2
import Derived.Test.YtelboocnenaicaaLin
namespace Go.Proofs.Ytelboocnenaicaa
set_option linter.unusedVariables false
set_option linter.unusedSimpArgs false
set_option maxRecDepth 20000
open Go.RowKit

theorem write_info : (Try.prog.info? 50).map (fun i => (i.zero, i.size, i.bytes)) = some (some (.agg (wcell (0, zsec)).toArray), 33, 40) := by kernel_rfl
theorem build_write (i : Int) (w : World) : (Instr.build 50 #[(0, .int .i64 i)]).run Try.prog w = .ok (.agg (.int .i64 i :: bv zsec).toArray) w := by kernel_rfl
theorem alloc_write (w : World) : (Instr.alloc 50 true (.tuple #[])).run Try.prog w = .ok (.pointer (some ⟨w.heap.size, 0, none⟩)) (w.alloc (.cells (wcell (0, zsec)).toArray 50)) := by kernel_rfl
theorem DSt.spend_eq (s : DSt) : s.spend.fl = s.fl ∧ s.spend.pend = s.pend ∧ s.spend.n = s.n := by
  unfold DSt.spend DSt.n
  split
  · exact ⟨rfl, rfl, rfl⟩
  · split <;> exact ⟨rfl, rfl, rfl⟩
theorem refuse_zero {s : DSt} {i : Int} (h : s.refuse i = 0) : s.down = false ∧ 0 ≤ i ∧ i < s.n := by
  unfold DSt.refuse at h
  split at h
  · simp at h
  · split at h
    · simp at h
    · refine ⟨by simp_all, by omega, by omega⟩
theorem one_wcell (q : Nat × List Int) : ∀ v ∈ wcell q, v.oneCell' = true := by
  intro v hv
  rcases List.mem_cons.1 hv with rfl | hv
  · rfl
  · exact one_bv _ v hv
theorem write_size (q : Nat × List Int) (h : q.2.length = 32) : (Try.prog.info? 50).map (·.size) = some (wcell q).length := by
  have : (wcell q).length = 33 := by simp [wcell, h]
  rw [this]; exact (by kernel_rfl : _ = some 33)
theorem sector_size (x : List Int) (h : x.length = 32) : (Try.prog.info? 48).map (·.size) = some (bv x).length := by
  have : (bv x).length = 32 := by simp [h]
  rw [this]; exact (by kernel_rfl : _ = some 32)
theorem length_wcell (q : Nat × List Int) : (wcell q).length = q.2.length + 1 := by simp [wcell]
theorem wr_wcell (i : Nat) (x y : List Int) (hx : x.length = y.length) : wr (wcell (i, x)) 1 (bv y) = wcell (i, y) := by
  simp only [wr, wcell]
  rw [List.drop_of_length_le (by simp; omega)]
  simp
theorem wcell_drop (i : Nat) (y : List Int) : ((wcell (i, y)).drop 1).take (bv y).length = bv y := by
  simp only [wcell, List.drop_succ_cons, List.drop_zero]; exact List.take_length
theorem build_wslice' (i : Nat) (x0 x1 x2 x3 x4 x5 x6 x7 x8 x9 x10 x11 x12 x13 x14 x15 x16 x17 x18 x19 x20 x21 x22 x23 x24 x25 x26 x27 x28 x29 x30 x31 : Int) (w : World) : (Instr.buildSlice 43 1 #[(0, .agg (wcell (i, [x0, x1, x2, x3, x4, x5, x6, x7, x8, x9, x10, x11, x12, x13, x14, x15, x16, x17, x18, x19, x20, x21, x22, x23, x24, x25, x26, x27, x28, x29, x30, x31])).toArray)]).run Try.prog w =
    .ok (.slice (some ⟨w.heap.size, 0, none⟩) 1 1) (w.alloc (.cells (wcell (i, [x0, x1, x2, x3, x4, x5, x6, x7, x8, x9, x10, x11, x12, x13, x14, x15, x16, x17, x18, x19, x20, x21, x22, x23, x24, x25, x26, x27, x28, x29, x30, x31])).toArray 50)) := by kernel_rfl
theorem build_wslice (i : Nat) (x : List Int) (h : x.length = 32) (w : World) : (Instr.buildSlice 43 1 #[(0, .agg (wcell (i, x)).toArray)]).run Try.prog w =
    .ok (.slice (some ⟨w.heap.size, 0, none⟩) 1 1) (w.alloc (.cells (wcell (i, x)).toArray 50)) := by
  match x, h with
  | [x0, x1, x2, x3, x4, x5, x6, x7, x8, x9, x10, x11, x12, x13, x14, x15, x16, x17, x18, x19, x20, x21, x22, x23, x24, x25, x26, x27, x28, x29, x30, x31], _ => exact build_wslice' i x0 x1 x2 x3 x4 x5 x6 x7 x8 x9 x10 x11 x12 x13 x14 x15 x16 x17 x18 x19 x20 x21 x22 x23 x24 x25 x26 x27 x28 x29 x30 x31 w
theorem write_fin {w0 w : World} {s : DSt} {R L' : Blks} (ok : s.Ok) (pend : List (Nat × List Int)) (hpe : pend = s.pend) (i : Nat) (xs : List Int) (hi : i < s.n) (hx : xs.length = 32) (hpl : pend.length < 1000000)
    {bd bf bl cf cl : Nat} {sf sl : List Value} {v' : Value} {a b : Nat × Obj} {pv : Value} (hcf : s.n ≤ cf) (hcl : s.n ≤ cl) (hr' : IsRow 50 33 v' (s.pend.length + 1) (pcells s.pend ++ wcell (i, xs)) L')
    (hO : Own w0 w (a :: b :: (bd, .cells ((dcells bf bl cf cl pv s).setIfInBounds 2 v') 45) :: (bf, .cells (List.toArray (secs s.fl ++ sf)) 48) :: (bl, .cells (List.toArray (secs (s.la.set i xs) ++ sl)) 48) :: (L' ++ R))) :
    ∃ L, IsDisk (.pointer (some ⟨bd, 0, none⟩)) { s with pend := pend ++ [(i, xs)] } L ∧ Own w0 w (L ++ R) := by
  subst hpe
  refine ⟨_, ⟨⟨ok.n, ok.row, ?_, ok.left, by simp; omega⟩, bd, bf, bl, cf, cl, sf, sl, v', L', rfl, ?_, hcf, hcl, rfl⟩, ?_⟩
  · intro q hq
    rcases List.mem_append.1 hq with hq | hq
    · exact ok.prow q hq
    · simp only [List.mem_singleton] at hq; subst hq; exact ⟨hi, hx⟩
  · unfold IsPend
    simpa [pcells] using hr'
  · have h := hO.tail.tail
    have e : (DSt.la { s with pend := s.pend ++ [(i, xs)] }) = s.la.set i xs := over_snoc _ _ _ _
    rw [e]
    exact h
set_option maxHeartbeats 1000000 in
theorem write_ok {w0 w : World} {d : Value} {s : DSt} {L R : Blks} (hd : IsDisk d s L) (hO : Own w0 w (L ++ R)) (i : Nat) (v : Value) (xs : List Int) (hb : Rd w0 R v xs) (hpl : s.pend.length < 1000000)
     (h0 : s.refuse i = 0) (hx : xs.length = 32) (hl : s.left ≠ 0) :
    Calls Try.prog 7 #[d, .int .i64 i, v] w (HasDisk w0 R d { s.spend with pend := s.pend ++ [(i, xs)] } (.int .i64 0)) := by
  have hrf := Lib.hid (refusal_c hd hO i)
  have hsp := Lib.hid (spend_c hd hO)
  obtain ⟨_, hi0, hin⟩ := refuse_zero h0
  have HB := Lib.hid hb
  obtain ⟨A, n, c, rfl, hn, hnc, hA⟩ := hb w L hO
  have HX := Lib.hid hx
  obtain rfl : n = 32 := by omega
  obtain ⟨ad, rfl, _⟩ := hA (by omega)
  clear hn hA hb
  have hin : (i : Int) < s.spend.n := by rw [s.spend_eq.2.2]; exact hin
  rw [h0] at hrf
  have hl' : (decide (s.left ≠ 0)) = true := by simp [hl]
  rw [hl'] at hsp
  clear hx hl hl' h0
  go_enter Try.func7, Try.ntmps7
  go_wp2_with (go_at_call 18; refine (hrf.out).mono ?_; rintro e w' ⟨rfl, rfl⟩)
  refine (hsp.out).mono ?_
  rintro e w1 ⟨rfl, L1, hd1, hO1⟩
  clear hrf hsp hd hO
  obtain ⟨ok, bd, bf, bl, cf, cl, sf, sl, pv, pb, rfl, hp, hcf, hcl, rfl⟩ := hd1
  have HO1 := Lib.hid hO1; clear hO1
  have HP := Lib.hid hp; clear hp
  have HK := Lib.hid ok; clear ok
  go_wp2_with (first | (refine wl_build rfl _ _ rfl _ (by exact build_write i _) ?_) | (refine wl_alloc rfl _ rfl HO1.out _ (alloc_write _) ?_; intro g w2 hO2; have HO2 := Lib.hid hO2; clear hO2 HO1) | (refine wl_store rfl _ _ _ rfl HO2.out 0 g 0 (wcell (0, zsec)) (wcell (i, zsec)) _ rfl (by rfl) (by rfl) (write_size _ rfl) (one_wcell _) (Nat.le_refl _) ?_; intro w3 hO3; rw [wr_all (wcell (0, zsec)) (wcell (i, zsec)) (by simp [wcell])] at hO3; have HO3 := Lib.hid hO3; clear hO3 HO2) | (refine wl_copy rfl _ _ _ _ rfl _ Try.underlying27 (by kernel_rfl) HO3.out 0 g 1 (wcell (i, zsec)) (bv xs) _ rfl 32 32 ad 32 c (by rfl) (by rfl) (by rw [length_bv, HX.out]; rfl) (HB.out.src (L' := _ :: _ :: _ :: _ :: pb) HO3.out) (by rw [length_bv, HX.out, length_wcell]; exact Nat.le_refl _) (one_bv _) ?_; intro w4 hO4; have HO4 := Lib.hid hO4; clear hO4 HO3))
  have hO4 : Own w0 w4 ((g, .cells (wcell (i, xs)).toArray 50) :: (bd, Obj.cells (dcells bf bl cf cl pv s.spend) 45) :: (bf, Obj.cells (secs s.spend.fl ++ sf).toArray 48) :: (bl, Obj.cells (secs s.spend.la ++ sl).toArray 48) :: (pb ++ R)) := by
    have := HO4.out; rw [wr_wcell i zsec xs (by rw [HX.out]; rfl)] at this; exact this
  clear HO4
  have hc1 : w4.cell? ⟨bd, 1, none⟩ = some (.slice (some ⟨bl, 0, none⟩) s.spend.n cl) := hO4.cell (.tail _ (.head _)) 1
  have hb4 := Lib.hid (hO4.heap (.head _))
  have HO4 := Lib.hid hO4; clear hO4
  refine wp_region_still_tail 8 (by kernel_rfl) (by kernel_rfl) ?_
  simp only [List.take_succ_cons, List.take_zero, List.drop_succ_cons, List.drop_zero]
  repeat (first | (refine ws_load rfl _ _ rfl g 1 (wcell (i, xs)) (bv xs) _ hb4.out (by rfl) _ Try.underlying48 rfl (sector_size _ HX.out) (wcell_drop _ _) ?_) | still_step)
  refine wpStill_nil ?_
  have HO5 := Lib.hid HO4.out.drew
  clear HO4 hb4 hc1
  change wpList _ _ _ _ _ w4.drew
  generalize w4.drew = w5 at HO5
  have hlar := HK.out.larow
  have hlal : s.spend.la.length = s.spend.n := s.spend.length_la
  have hlen := length_secs _ hlar
  refine wl_store rfl _ _ _ rfl HO5.out 3 bl (i * 32) (secs s.spend.la ++ sl) (bv xs) _ rfl (by rfl) (by rfl) (sector_size _ HX.out) (one_bv _) (by simp only [length_bv, HX.out, List.length_append, hlen, hlal]; omega) ?_
  intro w6 hO6
  rw [secs_set i xs HX.out _ sl hlar (by omega)] at hO6
  clear HO5 hlar hlal hlen
  have hO7 : Own w0 w6 ((g, .cells (wcell (i, xs)).toArray 50) :: (bd, Obj.cells (dcells bf bl cf cl pv s.spend) 45) :: (bf, Obj.cells (secs s.spend.fl ++ sf).toArray 48) :: (bl, Obj.cells (secs (s.spend.la.set i xs) ++ sl).toArray 48) :: (pb ++ R)) := hO6
  have HO7 := Lib.hid hO7
  clear hO6 hO7
  go_wp2
  refine wp_region_lin (fun w' => w'.cell? ⟨bd, 2, none⟩ = some pv ∧ w'.heap[g]? = some (.cells (wcell (i, xs)).toArray 50)) 10 [(0, true), (1, true), (2, true), (3, true), (4, true), (5, true), (6, false), (7, false), (8, true), (9, true)] (by kernel_rfl) (by kernel_rfl) (fun _ _ d _ _ h => by cases d <;> exact h)
    ⟨HO7.out.cell (.tail _ (.head _)) 2, HO7.out.heap (.head _)⟩ ?_
  simp only [List.map_cons, List.map_nil, pick_zero, pick_succ, List.drop_succ_cons, List.drop_zero]
  iterate 5 (refine lin_q ?_ rfl ?_ ?_; rotate_left 1; (focus (rintro w' ⟨hq1, hq2⟩; go_simp; try with_reducible rfl)); simp only [Act.put, List.setIfInBounds_toArray, List.set_cons_zero, List.set_cons_succ])
  refine lin_load rfl _ _ rfl g 0 (wcell (i, xs)) (wcell (i, xs)) _ (by rfl) _ Try.underlying50 rfl (write_size _ HX.out) (by rw [List.drop_zero, List.take_length]) (fun w' hw => hw.2) ?_
  have HO8 := Lib.hid HO7.out.drew; clear HO7
  refine lin_act ?_
  refine wl_buildSlice rfl _ _ _ rfl HO8.out _ (by exact build_wslice i xs HX.out _) ?_
  intro g2 w7 hO9
  refine LinPost.mk ⟨hO9.cell (.tail _ (.tail _ (.head _))) 2, hO9.heap (.tail _ (.head _))⟩ ?_
  have hO10 : Own w0 w7 (pb ++ ([(g2, .cells (wcell (i, xs)).toArray 50), (g, .cells (wcell (i, xs)).toArray 50), (bd, Obj.cells (dcells bf bl cf cl pv s.spend) 45), (bf, Obj.cells (secs s.spend.fl ++ sf).toArray 48), (bl, Obj.cells (secs (s.spend.la.set i xs) ++ sl).toArray 48)] ++ R)) := Own.rot (A := [_, _, _, _, _]) hO9
  clear hO9 HO8
  refine lin_act ?_
  refine wl_append rfl _ _ _ rfl _ _ 33 40 Try.underlying43 write_info rfl (by omega) pv _ _ (by rfl) HP.out hO10 ⟨g2, 0, none⟩ 1 1 (wcell (i, xs)) (by rfl) (by rw [length_wcell, HX.out]) ?_ (one_wcell _) ?_ ?_ ?_
  · exact World.news_of_block (hO10.heap (List.mem_append_right _ (.head _)))
  · simp only [maxLen, s.spend_eq.2.1]; omega
  · rw [s.spend_eq.2.1]; omega
  intro v' w8 L' hr' hO11 _
  refine LinPost.mk ⟨hO11.cell (List.mem_append_right _ (.tail _ (.tail _ (.head _)))) 2, hO11.heap (List.mem_append_right _ (.tail _ (.head _)))⟩ ?_
  simp only [Act.put, List.setIfInBounds_toArray, List.set_cons_zero, List.set_cons_succ]
  iterate 2 (refine lin_q ?_ rfl ?_ ?_; rotate_left 1; (focus (rintro w' ⟨hq1, hq2⟩; go_simp; try with_reducible rfl)); simp only [Act.put, List.setIfInBounds_toArray, List.set_cons_zero, List.set_cons_succ])
  have hO12 : Own w0 w8 ((g2, .cells (wcell (i, xs)).toArray 50) :: (g, .cells (wcell (i, xs)).toArray 50) :: (bd, Obj.cells (dcells bf bl cf cl pv s.spend) 45) :: (bf, Obj.cells (secs s.spend.fl ++ sf).toArray 48) :: (bl, Obj.cells (secs (s.spend.la.set i xs) ++ sl).toArray 48) :: (L' ++ R)) := Own.rot (B := [_, _, _, _, _]) hO11
  refine wl_store1 rfl _ _ _ rfl hO12 2 bd 2 _ v' _ rfl (by rfl) (by rfl) ?_ (by kernel_rfl) ?_ (by simp [dcells]) ?_
  · obtain ⟨A, c', rfl⟩ := hr'.val; rfl
  · obtain ⟨A, c', rfl⟩ := hr'.val; rfl
  intro w9 hO13
  go_wp2
  go_ret
  exact ⟨rfl, write_fin HK.out s.pend s.spend_eq.2.1.symm i xs (by omega) HX.out hpl hcf hcl hr' hO13⟩
end Go.Proofs.Ytelboocnenaicaa
